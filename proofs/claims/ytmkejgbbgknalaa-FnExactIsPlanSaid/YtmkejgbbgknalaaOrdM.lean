/-
  Whether a list is an order for a yard. No statement of the seat by itself.
-/
import Derived.Test.YtmkejgbbgknalaaRunM
namespace Go.Proofs.Ytmkejgbbgknalaa
open Go.RowKit

/-- A list of ints of some call's own. -/
def OwnI (w : World) (v : Value) (l : List Int) : Prop := ∃ B, w.ownsRow B 3 1 v l.length (intV l)
theorem OwnI.below {w w' : World} {v : Value} {l : List Int} (h : OwnI w v l) (hb : Below w.heap.size w w') : OwnI w' v l := by
  obtain ⟨B, h⟩ := h
  exact ⟨B, row_below h hb⟩
theorem OwnI.read {w : World} {v : Value} {l : List Int} (h : OwnI w v l) : IL w v l := by
  obtain ⟨B, h⟩ := h
  exact il_of_owns h
theorem OwnI.form {w : World} {v : Value} {l : List Int} (h : OwnI w v l) : ∃ a c, v = .slice a l.length c ∧ l.length ≤ c := by
  obtain ⟨B, h⟩ := h
  rcases h.2 with ⟨rfl, hz⟩ | ⟨g, cap, cur, rfl, hg, hb, hnc, _⟩
  · exact ⟨none, 0, by rw [hz], by omega⟩
  · exact ⟨_, _, rfl, hnc⟩
/-- The first of a list of ints, read through a shorter slice. -/
theorem il_take {w : World} {a : Option Addr} {n c c' k : Nat} {l : List Int} (h : IL w (.slice a n c) l) (hn : l.length = n) (hk : k ≤ n) : IL w (.slice a k c') (l.take k) := by
  obtain ⟨a', c2, e, h⟩ := h
  injection e with e1 e2 e3
  subst e1
  refine ⟨a, c', by rw [List.length_take]; congr 1; omega, fun h0 => ?_⟩
  rw [List.length_take] at h0
  obtain ⟨g, off, rfl, hg, hc⟩ := h (by omega)
  refine ⟨g, off, rfl, hg, fun j x hx => ?_⟩
  rw [List.getElem?_take] at hx
  split at hx
  · exact hc j x hx
  · cases hx

def ordOK (Y : List (List Int)) (O : List Int) : Prop := O.length ≤ 8 ∧ O.Nodup ∧ ∀ x ∈ O, (placeY Y x).isSome = true
instance (Y : List (List Int)) (O : List Int) : Decidable (ordOK Y O) := by unfold ordOK; infer_instance
def ordB (Y : List (List Int)) (O : List Int) : Bool := decide (ordOK Y O)
def askB (Y : List (List Int)) (O : List Int) : Bool := goodY Y && ordB Y O
theorem askB_iff {Y : List (List Int)} {O : List Int} : askB Y O = true ↔ goodY Y = true ∧ ordOK Y O := by simp [askB, ordB]
theorem ord_no {Y : List (List Int)} {O : List Int} (h : ¬ ordOK Y O) : ordB Y O = false := by simp [ordB, h]
theorem ord_none {Y : List (List Int)} {O : List Int} {k : Nat} {x : Int} (hx : O[k]? = some x) (h : placeY Y x = none) : ordB Y O = false :=
  ord_no fun ⟨_, _, h3⟩ => by have := h3 x (List.mem_of_getElem? hx); rw [h] at this; cases this
theorem ord_twice {Y : List (List Int)} {O : List Int} {k : Nat} {x : Int} (hx : O[k]? = some x) (h : x ∈ O.take k) : ordB Y O = false :=
  ord_no fun ⟨_, h2, _⟩ => by
    have hk := lt_of_get hx
    have e := take_next hx
    have hn : (O.take (k + 1)).Nodup := h2.sublist (List.take_sublist _ _)
    rw [e] at hn
    exact (List.nodup_append.1 hn).2.2 x h x (by simp) rfl
/-- The first k are a part of an order. -/
def OrdPart (Y : List (List Int)) (O : List Int) (k : Nat) : Prop := (O.take k).Nodup ∧ ∀ x ∈ O.take k, (placeY Y x).isSome = true
theorem OrdPart.start (Y : List (List Int)) (O : List Int) : OrdPart Y O 0 := ⟨by simp, fun x hx => by simp at hx⟩
theorem OrdPart.step {Y : List (List Int)} {O : List Int} {k : Nat} {x : Int} {p : Nat × Nat} (h : OrdPart Y O k) (hx : O[k]? = some x) (hp : placeY Y x = some p) (hn : ¬ x ∈ O.take k) : OrdPart Y O (k + 1) := by
  unfold OrdPart
  rw [take_next hx]
  refine ⟨List.nodup_append.2 ⟨h.1, by simp, fun a ha b hb e => ?_⟩, fun y hy => ?_⟩
  · simp at hb
    subst hb
    subst e
    exact hn ha
  · rcases List.mem_append.1 hy with hy | hy
    · exact h.2 y hy
    · simp at hy
      subst hy
      rw [hp]
      rfl
theorem OrdPart.done {Y : List (List Int)} {O : List Int} {n : Nat} (h : OrdPart Y O n) (hn : O.length = n) : ordB Y O = decide (O.length ≤ 8) := by
  unfold OrdPart at h
  rw [← hn, List.take_length] at h
  unfold ordB
  by_cases h8 : O.length ≤ 8
  · rw [decide_eq_true h8, decide_eq_true (show ordOK Y O from ⟨h8, h⟩)]
  · rw [decide_eq_false h8, decide_eq_false (show ¬ ordOK Y O from fun h => h8 h.1)]

set_option maxHeartbeats 1000000 in
theorem l1Has_il (v : Value) (l : List Int) (x : Int) (hl : l.length ≤ 1048576) (w : World) (h : IL w v l) :
    Calls Try.prog 101 #[v, .int .i64 x] w fun e w' => e = .returned (.bool (hasB l x)) ∧ w = w' := by
  obtain ⟨a, cap, rfl, hc⟩ := h
  obtain ⟨n, hN⟩ : ∃ n, l.length = n := ⟨_, rfl⟩
  have HN := Lib.hid hN
  have HC := Lib.hid hc
  rw [hN] at hl ⊢
  clear hN hc
  go_enter Try.func101, Try.ntmps101
  go_wp2_with fail
  go_loop [5] (fun i => ∃ k : Nat, k ≤ n ∧ i = .int .i64 k ∧ Hid (∀ j (hj : j < l.length), j < k → l[j] ≠ x)) (fun i => n - (intOf i).toNat)
  case atStart => exact ⟨0, Nat.zero_le _, rfl, Lib.hid fun j hj h0 => by omega⟩
  case round =>
    obtain ⟨k, hk, rfl, HK⟩ := hrel
    by_cases hlt : k < n
    · have hkl : k < l.length := by rw [HN.out]; exact hlt
      obtain ⟨g, off, rfl, hg, hcc⟩ := HC.out (by omega)
      have a1 := hcc k _ (List.getElem?_eq_getElem hkl)
      clear hcc
      by_cases hy : l[k] = x
      · have HX : Hid (hasB l x = true) := Lib.hid (by unfold hasB; rw [decide_eq_true_eq, ← hy]; exact List.getElem_mem _)
        have hyb : (l[k] == x) = true := by simpa using hy
        clear hy
        generalize l[k] = y at *
        go_wp2_with fail
        go_ret
        exact ⟨by rw [HX.out]; rfl, rfl⟩
      · have HK2 : Hid (∀ j (hj : j < l.length), j < k + 1 → l[j] ≠ x) := Lib.hid fun j hj h0 => by
          by_cases e : j = k
          · subst e; exact hy
          · exact HK.out j hj (by omega)
        have hyb : (l[k] == x) = false := by simpa using hy
        clear hy
        generalize l[k] = y at *
        go_wp2_with fail
        go_round
        case rel => exact ⟨k + 1, by omega, by go_num, HK2⟩
        case measure => simp [intOf]; omega
    · have HX : Hid (hasB l x = false) := Lib.hid (by
        unfold hasB
        rw [decide_eq_false_iff_not]
        intro hm
        obtain ⟨j, hj, hjx⟩ := List.mem_iff_getElem.1 hm
        exact HK.out j hj (by have := HN.out; omega) hjx)
      go_wp2_with fail
      go_ret
      exact ⟨by rw [HX.out]; rfl, rfl⟩

set_option maxHeartbeats 1000000 in
theorem contains_any (v : Value) (l : List Int) (x : Int) (hl : l.length ≤ maxLen) (w : World) (h : IL w v l) :
    Calls Try.prog 108 #[v, .int .i64 x] w fun e w' => e = .returned (.bool (hasB l x)) ∧ w = w' := by
  have HI := Lib.hid (index_any v l x hl w h)
  have HX : Hid (hasB l x = decide (0 ≤ atI l x)) := Lib.hid (by
    unfold hasB
    cases ha : atL l x with
    | none =>
      rw [atI_none ha, decide_eq_false (atL_not ha), decide_eq_false (by omega)]
    | some k =>
      rw [atI_some ha, decide_eq_true (List.mem_of_getElem? (atL_get ha)), decide_eq_true (by omega)])
  generalize atI l x = i at *
  obtain ⟨a, c, rfl⟩ := h.form
  generalize l.length = n at *
  go_enter Try.func108, Try.ntmps108
  go_wp2_with fail
  refine HI.out.mono ?_
  rintro e w1 ⟨rfl, rfl⟩
  go_wp2_with fail
  go_ret
  exact ⟨by rw [HX.out]; rfl, rfl⟩
end Go.Proofs.Ytmkejgbbgknalaa
