/-
  Lists of ints of some call's own; whether a number stands in a list. No statement of the seat by itself.
-/
import Derived.Test.YtpljcpeghjplnaaFind
import Derived.Test.YtpljcpeghjplnaaGoodI
import Derived.Test.YtpljcpeghjplnaaCopyI
namespace Go.Proofs.Ytpljcpeghjplnaa
open Go.RowKit

/-- A list of ints of some call's own. -/
def OwnI (w : World) (v : Value) (l : List Int) : Prop := ∃ B, w.ownsRow B 3 1 v l.length (intV l)
theorem OwnI.below {w w' : World} {v : Value} {l : List Int} (h : OwnI w v l) (hb : Below w.heap.size w w') : OwnI w' v l := by
  obtain ⟨B, h⟩ := h
  exact ⟨B, row_below h hb⟩
theorem OwnI.read {w : World} {v : Value} {l : List Int} (h : OwnI w v l) : IL w v l := by
  obtain ⟨B, h⟩ := h
  exact il_of_owns h
theorem OwnI.form {w : World} {v : Value} {l : List Int} (h : OwnI w v l) : ∃ a c, v = .slice a l.length c ∧ l.length ≤ c := by
  obtain ⟨B, h⟩ := h
  rcases h.2 with ⟨rfl, hz⟩ | ⟨g, cap, cur, rfl, hg, hb, hnc, _⟩
  · exact ⟨none, 0, by rw [hz], by omega⟩
  · exact ⟨_, _, rfl, hnc⟩
/-- The first of a list of ints, read through a shorter slice. -/
theorem il_take {w : World} {a : Option Addr} {n c c' k : Nat} {l : List Int} (h : IL w (.slice a n c) l) (hn : l.length = n) (hk : k ≤ n) : IL w (.slice a k c') (l.take k) := by
  obtain ⟨a', c2, e, h⟩ := h
  injection e with e1 e2 e3
  subst e1
  refine ⟨a, c', by rw [List.length_take]; congr 1; omega, fun h0 => ?_⟩
  rw [List.length_take] at h0
  obtain ⟨g, off, rfl, hg, hc⟩ := h (by omega)
  refine ⟨g, off, rfl, hg, fun j x hx => ?_⟩
  rw [List.getElem?_take] at hx
  split at hx
  · exact hc j x hx
  · cases hx

set_option maxHeartbeats 1000000 in
theorem l1Has_il (v : Value) (l : List Int) (x : Int) (hl : l.length ≤ 1048576) (w : World) (h : IL w v l) :
    Calls Try.prog 120 #[v, .int .i64 x] w fun e w' => e = .returned (.bool (hasB l x)) ∧ w = w' := by
  obtain ⟨a, cap, rfl, hc⟩ := h
  obtain ⟨n, hN⟩ : ∃ n, l.length = n := ⟨_, rfl⟩
  have HN := Lib.hid hN
  have HC := Lib.hid hc
  rw [hN] at hl ⊢
  clear hN hc
  go_enter Try.func120, Try.ntmps120
  go_wp2_with fail
  go_loop [5] (fun i => ∃ k : Nat, k ≤ n ∧ i = .int .i64 k ∧ Hid (∀ j (hj : j < l.length), j < k → l[j] ≠ x)) (fun i => n - (intOf i).toNat)
  case atStart => exact ⟨0, Nat.zero_le _, rfl, Lib.hid fun j hj h0 => by omega⟩
  case round =>
    obtain ⟨k, hk, rfl, HK⟩ := hrel
    by_cases hlt : k < n
    · have hkl : k < l.length := by rw [HN.out]; exact hlt
      obtain ⟨g, off, rfl, hg, hcc⟩ := HC.out (by omega)
      have a1 := hcc k _ (List.getElem?_eq_getElem hkl)
      clear hcc
      by_cases hy : l[k] = x
      · have HX : Hid (hasB l x = true) := Lib.hid (by unfold hasB; rw [decide_eq_true_eq, ← hy]; exact List.getElem_mem _)
        have hyb : (l[k] == x) = true := by simpa using hy
        clear hy
        generalize l[k] = y at *
        go_wp2_with fail
        go_ret
        exact ⟨by rw [HX.out]; rfl, rfl⟩
      · have HK2 : Hid (∀ j (hj : j < l.length), j < k + 1 → l[j] ≠ x) := Lib.hid fun j hj h0 => by
          by_cases e : j = k
          · subst e; exact hy
          · exact HK.out j hj (by omega)
        have hyb : (l[k] == x) = false := by simpa using hy
        clear hy
        generalize l[k] = y at *
        go_wp2_with fail
        go_round
        case rel => exact ⟨k + 1, by omega, by go_num, HK2⟩
        case measure => simp [intOf]; omega
    · have HX : Hid (hasB l x = false) := Lib.hid (by
        unfold hasB
        rw [decide_eq_false_iff_not]
        intro hm
        obtain ⟨j, hj, hjx⟩ := List.mem_iff_getElem.1 hm
        exact HK.out j hj (by have := HN.out; omega) hjx)
      go_wp2_with fail
      go_ret
      exact ⟨by rw [HX.out]; rfl, rfl⟩

set_option maxHeartbeats 1000000 in
theorem contains_any (v : Value) (l : List Int) (x : Int) (hl : l.length ≤ maxLen) (w : World) (h : IL w v l) :
    Calls Try.prog 117 #[v, .int .i64 x] w fun e w' => e = .returned (.bool (hasB l x)) ∧ w = w' := by
  have HI := Lib.hid (index_any v l x hl w h)
  have HX : Hid (hasB l x = decide (0 ≤ atI l x)) := Lib.hid (by
    unfold hasB
    cases ha : atL l x with
    | none =>
      rw [atI_none ha, decide_eq_false (atL_not ha), decide_eq_false (by omega)]
    | some k =>
      rw [atI_some ha, decide_eq_true (List.mem_of_getElem? (atL_get ha)), decide_eq_true (by omega)])
  generalize atI l x = i at *
  obtain ⟨a, c, rfl⟩ := h.form
  generalize l.length = n at *
  go_enter Try.func117, Try.ntmps117
  go_wp2_with fail
  refine HI.out.mono ?_
  rintro e w1 ⟨rfl, rfl⟩
  go_wp2_with fail
  go_ret
  exact ⟨by rw [HX.out]; rfl, rfl⟩
end Go.Proofs.Ytpljcpeghjplnaa
