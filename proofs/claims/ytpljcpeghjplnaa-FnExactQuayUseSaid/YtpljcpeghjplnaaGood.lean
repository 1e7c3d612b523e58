/-
  What spec.IsValidYard returns, and whether a yard is valid. No statement of the seat by itself.
-/
import Derived.Test.YtpljcpeghjplnaaYard
namespace Go.Proofs.Ytpljcpeghjplnaa
open Go.RowKit

/-- Numbers of containers, no two the same. -/
def Seen (S : List Int) : Prop := (∀ x ∈ S, 1 ≤ x ∧ x ≤ 99) ∧ S.Nodup
def rowsOk (Y : List (List Int)) : Prop := ∀ l ∈ Y, l.length ≤ 4
instance (Y : List (List Int)) : Decidable (rowsOk Y) := by unfold rowsOk; infer_instance
instance (S : List Int) : Decidable (Seen S) := by unfold Seen; infer_instance
/-- Whether a yard is valid. -/
def goodY (Y : List (List Int)) : Bool := decide (1 ≤ Y.length ∧ Y.length ≤ 6 ∧ rowsOk Y ∧ Seen Y.flatten)
theorem goodY_iff {Y : List (List Int)} : goodY Y = true ↔ 1 ≤ Y.length ∧ Y.length ≤ 6 ∧ rowsOk Y ∧ Seen Y.flatten := by simp [goodY]
theorem goodY_not {Y : List (List Int)} (h : ¬ (1 ≤ Y.length ∧ Y.length ≤ 6 ∧ rowsOk Y ∧ Seen Y.flatten)) : goodY Y = false := by
  cases hb : goodY Y with
  | false => rfl
  | true => exact absurd (goodY_iff.1 hb) h
theorem flat_split {Y : List (List Int)} {i : Nat} {l : List Int} (h : Y[i]? = some l) : Y.flatten = (Y.take i).flatten ++ (l ++ (Y.drop (i + 1)).flatten) := by
  have hi := lt_of_get h
  have e : Y.drop i = l :: Y.drop (i + 1) := by
    rw [List.drop_eq_getElem_cons hi]
    rw [List.getElem?_eq_getElem hi] at h
    cases h; rfl
  have e2 : Y = Y.take i ++ Y.drop i := (List.take_append_drop i Y).symm
  calc Y.flatten = (Y.take i ++ Y.drop i).flatten := by rw [← e2]
    _ = _ := by rw [List.flatten_append, e, List.flatten_cons]
theorem flat_succ {Y : List (List Int)} {i : Nat} {l : List Int} (h : Y[i]? = some l) : (Y.take (i + 1)).flatten = (Y.take i).flatten ++ l := by
  rw [List.take_add_one, h, List.flatten_append]; simp
theorem good_row {Y : List (List Int)} {i : Nat} {l : List Int} (h : Y[i]? = some l) (hm : 4 < l.length) : goodY Y = false :=
  goodY_not fun ⟨_, _, h3, _⟩ => by have := h3 l (List.mem_of_getElem? h); omega
theorem flat_mem {Y : List (List Int)} {i k : Nat} {l : List Int} {x : Int} (h : Y[i]? = some l) (hx : l[k]? = some x) : x ∈ Y.flatten :=
  List.mem_flatten.2 ⟨l, List.mem_of_getElem? h, List.mem_of_getElem? hx⟩
theorem good_range {Y : List (List Int)} {i k : Nat} {l : List Int} {x : Int} (h : Y[i]? = some l) (hx : l[k]? = some x) (hr : ¬ (1 ≤ x ∧ x ≤ 99)) : goodY Y = false :=
  goodY_not fun ⟨_, _, _, h4⟩ => hr (h4.1 x (flat_mem h hx))
theorem take_next {l : List Int} {k : Nat} {x : Int} (hx : l[k]? = some x) : l.take (k + 1) = l.take k ++ [x] := by rw [List.take_add_one, hx]; rfl
theorem good_twice {Y : List (List Int)} {i k : Nat} {l : List Int} {x : Int} (h : Y[i]? = some l) (hx : l[k]? = some x) (hm : x ∈ (Y.take i).flatten ++ l.take k) : goodY Y = false :=
  goodY_not fun ⟨_, _, _, h4⟩ => by
    have hn := h4.2
    have e : l = l.take (k + 1) ++ l.drop (k + 1) := (List.take_append_drop _ _).symm
    have e2 : Y.flatten = ((Y.take i).flatten ++ l.take k) ++ (x :: (l.drop (k + 1) ++ (Y.drop (i + 1)).flatten)) := by
      rw [flat_split h]
      have e3 : l ++ (Y.drop (i + 1)).flatten = l.take k ++ (x :: (l.drop (k + 1) ++ (Y.drop (i + 1)).flatten)) := by
        calc l ++ (Y.drop (i + 1)).flatten = (l.take (k + 1) ++ l.drop (k + 1)) ++ (Y.drop (i + 1)).flatten := by rw [← e]
          _ = _ := by rw [take_next hx]; simp
      rw [e3, List.append_assoc]
    rw [e2] at hn
    exact (List.nodup_append.1 hn).2.2 x hm x (by simp) rfl
theorem seen_step {S : List Int} {x : Int} (h : Seen S) (hx : 1 ≤ x ∧ x ≤ 99) (hn : ¬ x ∈ S) : Seen (S ++ [x]) := by
  refine ⟨fun y hy => ?_, ?_⟩
  · rcases List.mem_append.1 hy with hy | hy
    · exact h.1 y hy
    · rw [List.mem_singleton.1 hy]; exact hx
  · rw [List.nodup_append]
    refine ⟨h.2, by simp, fun a ha b hb => ?_⟩
    rw [List.mem_singleton.1 hb]
    intro e
    exact hn (e ▸ ha)
/-- What is known when the rows before i and k numbers of row i have been looked at. -/
def Part (Y : List (List Int)) (i : Nat) (l : List Int) (k : Nat) (S : List Int) : Prop := S = (Y.take i).flatten ++ l.take k ∧ Seen S ∧ S.length ≤ 4 * i + k ∧ ∀ (j : Nat) (r : List Int), j < i → Y[j]? = some r → r.length ≤ 4
theorem Part.start (Y : List (List Int)) : Part Y 0 [] 0 [] := ⟨by simp, ⟨fun x hx => by simp at hx, by simp⟩, by simp, fun j r hj => by omega⟩
theorem Part.row {Y : List (List Int)} {i : Nat} {S : List Int} (h : Part Y i [] 0 S) (l : List Int) : Part Y i l 0 S := by
  obtain ⟨h1, h2, h3, h4⟩ := h
  exact ⟨by simpa using h1, h2, h3, h4⟩
theorem Part.step {Y : List (List Int)} {i k : Nat} {l S : List Int} {x : Int} (h : Part Y i l k S) (hx : l[k]? = some x) (hr : 1 ≤ x ∧ x ≤ 99) (hn : ¬ x ∈ S) : Part Y i l (k + 1) (S ++ [x]) := by
  obtain ⟨h1, h2, h3, h4⟩ := h
  exact ⟨by rw [take_next hx, h1]; simp, seen_step h2 hr hn, by simp; omega, h4⟩
theorem Part.next {Y : List (List Int)} {i k : Nat} {l S : List Int} (h : Part Y i l k S) (hl : Y[i]? = some l) (hk : l.length = k) (h4 : k ≤ 4) : Part Y (i + 1) [] 0 S := by
  obtain ⟨h1, h2, h3, h5⟩ := h
  refine ⟨?_, h2, by omega, fun j r hj hr => ?_⟩
  · rw [← hk, List.take_length] at h1
    rw [flat_succ hl, h1]; simp
  · by_cases e : j = i
    · subst e; rw [hl] at hr; cases hr; omega
    · exact h5 j r (by omega) hr
theorem Part.done {Y : List (List Int)} {n : Nat} {S : List Int} (h : Part Y n [] 0 S) (hn : Y.length = n) (h1 : 1 ≤ n) (h6 : n ≤ 6) : goodY Y = true := by
  obtain ⟨e, h2, h3, h5⟩ := h
  refine goodY_iff.2 ⟨by omega, by omega, fun l hl => ?_, ?_⟩
  · obtain ⟨j, hj, e⟩ := List.mem_iff_getElem.1 hl
    exact h5 j l (by omega) (by rw [List.getElem?_eq_getElem hj, e])
  · rw [← hn, List.take_length] at e
    simp at e
    rw [← e]; exact h2
theorem Part.no {Y : List (List Int)} {i k : Nat} {l S : List Int} {x : Int} (h : Part Y i l k S) (hl : Y[i]? = some l) (hx : l[k]? = some x) (hm : x ∈ S) : goodY Y = false := good_twice hl hx (by rw [← h.1]; exact hm)

/-- Whether a number stands in a list. -/
def hasB (l : List Int) (x : Int) : Bool := decide (x ∈ l)
set_option maxHeartbeats 1000000 in
theorem l1Has_any (v : Value) (l : List Int) (x : Int) (base : Nat) (hl : l.length ≤ 1000) (w : World) (h : w.ownsRow base 3 1 v l.length (intV l)) :
    Calls Try.prog 120 #[v, .int .i64 x] w fun e w' => e = .returned (.bool (hasB l x)) ∧ w = w' := by
  obtain ⟨a, cap, rfl, hc⟩ := il_of_owns h
  obtain ⟨n, hN⟩ : ∃ n, l.length = n := ⟨_, rfl⟩
  have HN := Lib.hid hN
  have HC := Lib.hid hc
  rw [hN] at hl ⊢
  clear hN hc h
  go_enter Try.func120, Try.ntmps120
  go_wp2_with fail
  go_loop [5] (fun i => ∃ k : Nat, k ≤ n ∧ i = .int .i64 k ∧ Hid (∀ j (hj : j < l.length), j < k → l[j] ≠ x)) (fun i => n - (intOf i).toNat)
  case atStart => exact ⟨0, Nat.zero_le _, rfl, Lib.hid fun j hj h0 => by omega⟩
  case round =>
    obtain ⟨k, hk, rfl, HK⟩ := hrel
    by_cases hlt : k < n
    · have hkl : k < l.length := by rw [HN.out]; exact hlt
      obtain ⟨g, off, rfl, hg, hcc⟩ := HC.out (by omega)
      have a1 := hcc k _ (List.getElem?_eq_getElem hkl)
      clear hcc
      by_cases hy : l[k] = x
      · have HX : Hid (hasB l x = true) := Lib.hid (by unfold hasB; rw [decide_eq_true_eq, ← hy]; exact List.getElem_mem _)
        have hyb : (l[k] == x) = true := by simpa using hy
        clear hy
        generalize l[k] = y at *
        go_wp2_with fail
        go_ret
        exact ⟨by rw [HX.out]; rfl, rfl⟩
      · have HK2 : Hid (∀ j (hj : j < l.length), j < k + 1 → l[j] ≠ x) := Lib.hid fun j hj h0 => by
          by_cases e : j = k
          · subst e; exact hy
          · exact HK.out j hj (by omega)
        have hyb : (l[k] == x) = false := by simpa using hy
        clear hy
        generalize l[k] = y at *
        go_wp2_with fail
        go_round
        case rel => exact ⟨k + 1, by omega, by go_num, HK2⟩
        case measure => simp [intOf]; omega
    · have HX : Hid (hasB l x = false) := Lib.hid (by
        unfold hasB
        rw [decide_eq_false_iff_not]
        intro hm
        obtain ⟨j, hj, hjx⟩ := List.mem_iff_getElem.1 hm
        exact HK.out j hj (by have := HN.out; omega) hjx)
      go_wp2_with fail
      go_ret
      exact ⟨by rw [HX.out]; rfl, rfl⟩

theorem l1In_yes (a lo hi : Int) (w : World) (h1 : lo ≤ a) (h2 : a ≤ hi) : Calls Try.prog 87 #[.int .i64 a, .int .i64 lo, .int .i64 hi] w fun e w' => e = .returned (.bool true) ∧ w = w' := by
  go_enter Try.func87, Try.ntmps87
  go_wp2
  go_ret
  exact ⟨by simp, rfl⟩
theorem l1In_no (a lo hi : Int) (w : World) (h : a < lo ∨ hi < a) : Calls Try.prog 87 #[.int .i64 a, .int .i64 lo, .int .i64 hi] w fun e w' => e = .returned (.bool false) ∧ w = w' := by
  by_cases h1 : a < lo
  · clear h
    go_enter Try.func87, Try.ntmps87
    go_wp2
    go_ret
    exact ⟨rfl, rfl⟩
  · have h2 : hi < a := by omega
    have h3 : decide (a ≤ hi) = false := by simp; omega
    clear h
    go_enter Try.func87, Try.ntmps87
    go_wp2
    go_ret
    exact ⟨by simp, rfl⟩
theorem l1In_any (a lo hi : Int) (w : World) : Calls Try.prog 87 #[.int .i64 a, .int .i64 lo, .int .i64 hi] w fun e w' => e = .returned (.bool (decide (lo ≤ a ∧ a ≤ hi))) ∧ w = w' := by
  by_cases h : lo ≤ a ∧ a ≤ hi
  · rw [decide_eq_true h]; exact l1In_yes a lo hi w h.1 h.2
  · rw [decide_eq_false h]; exact l1In_no a lo hi w (by omega)
/-- A yes or no was answered, and nothing older turned. -/
def BoolP (w : World) (b : Bool) (e : Ending) (w' : World) : Prop := e = .returned (.bool b) ∧ Below w.heap.size w w'

/-- While the numbers are collected. -/
def Coll (w wr : World) (v0 sv : Value) (S : List Int) : Prop := wr.ownsRow (w.heap.size + 1) 3 1 sv S.length (intV S) ∧ wr.cell? ⟨w.heap.size, 0, none⟩ = some v0 ∧ Below w.heap.size w wr ∧ w.heap.size + 1 ≤ wr.heap.size ∧ sv ≠ .slice none 0 0
theorem coll_start (w : World) (v0 : Value) (T : TypeId) : Coll w ((w.alloc (.cells #[v0] T)).alloc (.cells #[] 3)) v0 (.slice (some ⟨w.heap.size + 1, 0, none⟩) 0 0) [] := by
  have h := own_empty (w.alloc (.cells #[v0] T)) (.cells #[] 3) 3 rfl
  rw [show (w.alloc (.cells #[v0] T)).heap.size = w.heap.size + 1 by simp] at h
  refine ⟨by simpa [intV] using h, ?_, ((Below.refl _ w).alloc (Nat.le_refl _) _).alloc (by simp) _, by simp, by simp⟩
  rw [World.cell?_alloc_lt _ _ _ (by simp)]; simp

end Go.Proofs.Ytpljcpeghjplnaa
