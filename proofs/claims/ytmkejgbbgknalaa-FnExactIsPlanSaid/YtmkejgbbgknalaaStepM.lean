/-
  What a step of a plan makes of a yard. No statement of the seat by itself.
-/
import Derived.Test.YtmkejgbbgknalaaRetK
import Derived.Test.YtmkejgbbgknalaaMoveI
namespace Go.Proofs.Ytmkejgbbgknalaa
open Go.RowKit

/-- Whether a step can be made in a yard. -/
def stepOk (Y : List (List Int)) (b t : Int) : Bool := if t = -1 then okT Y b else plB Y b && okM Y (plI Y b) t && decide (moveX Y (plI Y b) t = b)
/-- The yard after a step, or nothing. -/
def stepR (Y : List (List Int)) (b t : Int) : List (List Int) := if stepOk Y b t = true then (if t = -1 then takeR Y b else moveR Y (plI Y b) t) else []
theorem stepOk_take (Y : List (List Int)) (b : Int) : stepOk Y b (-1) = okT Y b := by simp [stepOk]
theorem takeR_bad {Y : List (List Int)} {b : Int} (h : okT Y b = false) : takeR Y b = [] := by
  unfold okT at h
  unfold takeR
  cases ht : tkO Y b with
  | none => rfl
  | some p => rw [ht] at h; cases h
theorem stepR_take (Y : List (List Int)) (b : Int) : stepR Y b (-1) = takeR Y b := by
  unfold stepR
  rw [stepOk_take]
  cases h : okT Y b with
  | true => simp
  | false => simp [takeR_bad h]
theorem stepOk_move {Y : List (List Int)} {b t : Int} (h : t ≠ -1) : stepOk Y b t = (plB Y b && okM Y (plI Y b) t && decide (moveX Y (plI Y b) t = b)) := by simp [stepOk, h]
theorem stepR_move {Y : List (List Int)} {b t : Int} (h : t ≠ -1) (ho : stepOk Y b t = true) : stepR Y b t = moveR Y (plI Y b) t := by simp [stepR, h, ho]
theorem stepR_no {Y : List (List Int)} {b t : Int} (ho : stepOk Y b t = false) : stepR Y b t = [] := by simp [stepR, ho]
theorem stepR_small (Y : List (List Int)) (b t : Int) : (stepR Y b t).length ≤ 1048576 ∧ tot (stepR Y b t) ≤ 1048576 := by
  unfold stepR
  split
  · split
    · exact takeR_small Y b
    · exact moveR_small Y _ t
  · exact ⟨by simp, by simp [tot]⟩

/-- The three boxes of a call with a yard and a step: the yard, the step, the answer. -/
structure Fr3 (w W : World) (v0 : Value) (b t : Int) : Prop where
  bl : Below w.heap.size w W
  a : W.heap[w.heap.size]? = some (.cells #[v0] 28 (0, 0))
  s : W.heap[w.heap.size + 1]? = some (.cells #[.int .i64 b, .int .i64 t] 80 (0, 0))
  r : W.heap[w.heap.size + 1 + 1]? = some (.cells #[.slice none 0 0] 28 (0, 0))
theorem Fr3.start (w : World) (v0 : Value) (b t : Int) : Fr3 w (((w.alloc (.cells #[v0] 28)).alloc (.cells #[.int .i64 b, .int .i64 t] 80)).alloc (.cells #[.slice none 0 0] 28)) v0 b t := by
  obtain ⟨h0, h1, h2, hs, hb⟩ := three_alloc w (.cells #[v0] 28) (.cells #[.int .i64 b, .int .i64 t] 80) (.cells #[.slice none 0 0] 28)
  exact ⟨hb, h0, h1, h2⟩
theorem Fr3.lt {w W : World} {v0 : Value} {b t : Int} (h : Fr3 w W v0 b t) : w.heap.size + 1 + 1 < W.heap.size := (Array.getElem?_eq_some_iff.1 h.r).1
theorem Fr3.below {w W W' : World} {v0 : Value} {b t : Int} (h : Fr3 w W v0 b t) (hb : Below W.heap.size W W') : Fr3 w W' v0 b t := by
  have := h.lt
  exact ⟨h.bl.trans (hb.mono h.bl.size), (hb.block _ (by omega)).trans h.a, (hb.block _ (by omega)).trans h.s, (hb.block _ (by omega)).trans h.r⟩
theorem Fr3.c {w W : World} {v0 : Value} {b t : Int} (h : Fr3 w W v0 b t) : W.cell? ⟨w.heap.size, 0, none⟩ = some v0 ∧ W.cell? ⟨w.heap.size + 1, 0, none⟩ = some (.int .i64 b) ∧ W.cell? ⟨w.heap.size + 1, 1, none⟩ = some (.int .i64 t) :=
  ⟨cell_of h.a rfl, cell_of h.s rfl, cell_of h.s rfl⟩
theorem Fr3.z {w W : World} {v0 : Value} {b t : Int} (h : Fr3 w W v0 b t) : W.cell? ⟨w.heap.size + 1 + 1, 0, none⟩ = some (.slice none 0 0) ∧ ∀ i, W.frozen? ⟨w.heap.size + 1 + 1, i, none⟩ = false :=
  ⟨cell_of h.r rfl, fun _ => free_of h.r⟩
theorem owny_set {w1 : World} {B B' hi k i : Nat} {v x : Value} {Z : List (List Int)} (h : OwnY w1 B hi v Z) (hk : k < B) (hB : B' ≤ B) (hw : hi ≤ w1.heap.size) : OwnY (w1.setCell ⟨k, i, none⟩ x) B' (w1.setCell ⟨k, i, none⟩ x).heap.size v Z :=
  (h.span (span_set (Nat.le_refl k) (Nat.lt_succ_self k) x) (.inr (by omega))).mono hB (by simpa using hw) (Nat.le_refl _)
/-- How a call with a yard as its answer ends: the yard is put into the answer's box. -/
theorem Fr3.done {w W : World} {v0 : Value} {b t : Int} {B : Nat} {a : Option Addr} {c : Nat} {Z : List (List Int)} (h : Fr3 w W v0 b t) (ho : OwnY W B W.heap.size (.slice a Z.length c) Z) (hB : w.heap.size + 1 + 1 < B) :
    OwnY (W.setCell ⟨w.heap.size + 1 + 1, 0, none⟩ (.slice a Z.length c)) w.heap.size (W.setCell ⟨w.heap.size + 1 + 1, 0, none⟩ (.slice a Z.length c)).heap.size (.slice a Z.length c) Z ∧
    Below w.heap.size w (W.setCell ⟨w.heap.size + 1 + 1, 0, none⟩ (.slice a Z.length c)) :=
  ⟨owny_set ho hB (by omega) (Nat.le_refl _), h.bl.setCell (p := ⟨w.heap.size + 1 + 1, 0, none⟩) (by show w.heap.size ≤ w.heap.size + 1 + 1; omega) _⟩
end Go.Proofs.Ytmkejgbbgknalaa
