/-
  A rotation in a box that grows call by call; and what a text of calls reads as. No statement of the seat by itself.
-/
import Derived.Test.YtefkcdhmiepbfaaDoorCallA
import Derived.Test.YtefkcdhmiepbfaaDoorRMark2
import Derived.Laws.AppendOwn
import Derived.Lib.BufferOwn
import Derived.Deep.Onto
namespace Go.Proofs.YtefkcdhmiepbfaaDoor.R
open Go.RowKit

/-- A box of two lists of numbers of the call's own, apart from each other. -/
def Pair2 (w1 wr : World) (v1 v2 : Value) (L1 L2 : List Int) : Prop :=
  wr.heap[w1.heap.size]? = some (.cells #[v1, v2] 24 (0, 0)) ∧ wr.ownsRow (w1.heap.size + 1) 3 1 v1 L1.length (intV L1) ∧ wr.ownsRow (w1.heap.size + 1) 3 1 v2 L2.length (intV L2) ∧ (∀ j, v1.ownBlock = some j → v2.ownBlock ≠ some j) ∧ Below w1.heap.size w1 wr
theorem row_below {W W' : World} {base e size k : Nat} {v : Value} {xs : List Value} (h : W.ownsRow base e size v k xs) (hb : Below W.heap.size W W') : W'.ownsRow base e size v k xs :=
  h.kept (grown_of_below hb none) (by cases hv : v.ownBlock <;> simp)
theorem Pair2.lt {w1 wr : World} {v1 v2 : Value} {L1 L2 : List Int} (h : Pair2 w1 wr v1 v2 L1 L2) : w1.heap.size < wr.heap.size := (Array.getElem?_eq_some_iff.1 h.1).1
theorem Pair2.below {w1 wr W : World} {v1 v2 : Value} {L1 L2 : List Int} (h : Pair2 w1 wr v1 v2 L1 L2) (hb : Below wr.heap.size wr W) : Pair2 w1 W v1 v2 L1 L2 :=
  ⟨(hb.block _ h.lt).trans h.1, row_below h.2.1 hb, row_below h.2.2.1 hb, h.2.2.2.1, h.2.2.2.2.trans (hb.mono h.2.2.2.2.size)⟩
theorem pair_empty (w1 : World) : Pair2 w1 (w1.alloc (.cells #[.slice none 0 0, .slice none 0 0] 24)) (.slice none 0 0) (.slice none 0 0) [] [] :=
  ⟨heap_alloc_new w1 _, World.ownsRow_nil _ _ _ _, World.ownsRow_nil _ _ _ _, (by intro j hj; simp [Value.ownBlock] at hj), below_one _ _⟩
theorem pair_block {w1 W w3 : World} {v1 v2 : Value} {L1 L2 : List Int} (h : Pair2 w1 W v1 v2 L1 L2) {v : Value} {m : Nat} {xs : List Value} (hv : W.ownsRow (w1.heap.size + 1) 3 1 v m xs) (hg : W.grownBy w3 v.ownBlock) : w3.heap[w1.heap.size]? = some (.cells #[v1, v2] 24 (0, 0)) := by
  refine (hg.block _ h.lt (fun e => ?_)).trans h.1
  have := row_base hv _ e.symm
  omega
theorem row_setB {W : World} {B base : Nat} (hB : B < base) {v : Value} {m : Nat} {xs : List Value} (h : W.ownsRow base 3 1 v m xs) (i : Nat) (x : Value) : (W.setCell ⟨B, i, none⟩ x).ownsRow base 3 1 v m xs := by
  have g0 : W.grownBy W (some B) := ⟨rfl, rfl, rfl, Nat.le_refl _, fun _ _ _ => rfl⟩
  refine h.kept (Lib.grownBy_setB g0 i x) (.inr fun e => ?_)
  have := row_base h _ e
  omega
theorem intV_snoc (L : List Int) (x : Int) : intV (L ++ [x]) = intV L ++ [.int .i64 x] := by simp [intV]
theorem off_at {W : World} {base : Nat} {v v' u : Value} {m : Nat} {xs : List Value} (hu : W.ownsRow base 3 1 u m xs) (ho : ∀ j, v.ownBlock = some j → u.ownBlock ≠ some j) (hat : v'.ownBlock = v.ownBlock ∨ v'.ownBlock = some W.heap.size) : ∀ j, v'.ownBlock = some j → u.ownBlock ≠ some j := by
  intro j h1 h2
  rcases hat with e | e
  · exact ho j (e ▸ h1) h2
  · rw [e] at h1
    have := row_lt hu j h2
    cases h1
    omega
theorem pair_push1 {w1 W w3 : World} {v1 v2 v' : Value} {L1 L2 : List Int} {x : Int} (h : Pair2 w1 W v1 v2 L1 L2) (hown : w3.ownsRow (w1.heap.size + 1) 3 1 v' (L1.length + 1) (intV L1 ++ [.int .i64 x])) (hg : W.grownBy w3 v1.ownBlock) (hat : v'.ownBlock = v1.ownBlock ∨ v'.ownBlock = some W.heap.size) :
    Pair2 w1 (w3.setCell ⟨w1.heap.size, 0, none⟩ v') v' v2 (L1 ++ [x]) L2 := by
  have hb := pair_block h h.2.1 hg
  refine ⟨Lib.heap_setCell_same (i := 0) hb _, ?_, row_setB (by omega) (h.2.2.1.kept hg ?_) 0 v', off_at h.2.2.1 h.2.2.2.1 hat, ?_⟩
  · rw [intV_snoc, List.length_append]
    exact row_setB (by omega) hown 0 v'
  · cases hv : v2.ownBlock with
    | none => exact .inl rfl
    | some j => exact .inr fun e => h.2.2.2.1 j e.symm hv
  · exact (h.2.2.2.2.grown hg h.2.2.2.2.size (fun j e => by have := row_base h.2.1 j e; omega)).setCell (p := ⟨w1.heap.size, 0, none⟩) (Nat.le_refl _) _
theorem pair_push2 {w1 W w3 : World} {v1 v2 v' : Value} {L1 L2 : List Int} {x : Int} (h : Pair2 w1 W v1 v2 L1 L2) (hown : w3.ownsRow (w1.heap.size + 1) 3 1 v' (L2.length + 1) (intV L2 ++ [.int .i64 x])) (hg : W.grownBy w3 v2.ownBlock) (hat : v'.ownBlock = v2.ownBlock ∨ v'.ownBlock = some W.heap.size) :
    Pair2 w1 (w3.setCell ⟨w1.heap.size, 1, none⟩ v') v1 v' L1 (L2 ++ [x]) := by
  have hb := pair_block h h.2.2.1 hg
  refine ⟨Lib.heap_setCell_same (i := 1) hb _, row_setB (by omega) (h.2.1.kept hg ?_) 1 v', ?_, fun j a b => off_at h.2.1 (fun j a b => h.2.2.2.1 j b a) hat j b a, ?_⟩
  · cases hv : v1.ownBlock with
    | none => exact .inl rfl
    | some j => exact .inr fun e => h.2.2.2.1 j hv e.symm
  · rw [intV_snoc, List.length_append]
    exact row_setB (by omega) hown 1 v'
  · exact (h.2.2.2.2.grown hg h.2.2.2.2.size (fun j e => by have := row_base h.2.2.1 j e; omega)).setCell (p := ⟨w1.heap.size, 1, none⟩) (Nat.le_refl _) _
theorem cell_int_new (w : World) (x : Int) : ∀ j u, ([.int .i64 x] : List Value)[j]? = some u → (w.alloc (.cells #[.int .i64 x] 3)).cell? ((⟨w.heap.size, 0, none⟩ : Addr).add j) = some u := by
  intro j u hj
  have h0 : j = 0 := by
    by_cases h : j = 0
    · exact h
    · rw [List.getElem?_eq_none (by simp; omega)] at hj; cases hj
  subst h0
  simp only [List.getElem?_cons_zero, Option.some.injEq] at hj
  subst hj
  exact cell_of (heap_alloc_new w _) rfl

/-- A rotation of lists of the call's own and a yes or no were answered, and nothing older turned. -/
def ParQ (w : World) (l1 l2 : List Int) (ok : Bool) (e : Ending) (w' : World) : Prop := ∃ u1 u2, e = .returned (.tuple #[.agg #[u1, u2], .bool ok]) ∧ w'.ownsRow w.heap.size 3 1 u1 l1.length (intV l1) ∧ w'.ownsRow w.heap.size 3 1 u2 l2.length (intV l2) ∧ (∀ j, u1.ownBlock = some j → u2.ownBlock ≠ some j) ∧ Below w.heap.size w w'
/-- Both lists of a box were stored in the result's box A. -/
theorem pair_done {w w1 W : World} {A : Nat} {v1 v2 : Value} {L1 L2 : List Int} (hA : w.heap.size ≤ A) (hA1 : A ≤ w1.heap.size) (h : Pair2 w1 W v1 v2 L1 L2) (hB : Below w.heap.size w w1) :
    let W' := (W.setCell ⟨A, 0, none⟩ v1).setCell ⟨A, 1, none⟩ v2
    W'.ownsRow w.heap.size 3 1 v1 L1.length (intV L1) ∧ W'.ownsRow w.heap.size 3 1 v2 L2.length (intV L2) ∧ (∀ j, v1.ownBlock = some j → v2.ownBlock ≠ some j) ∧ Below w.heap.size w W' := by
  have hs := hB.size
  have r1 := row_setB (B := A) (base := w1.heap.size + 1) (by omega) (row_setB (B := A) (base := w1.heap.size + 1) (by omega) h.2.1 0 v1) 1 v2
  have r2 := row_setB (B := A) (base := w1.heap.size + 1) (by omega) (row_setB (B := A) (base := w1.heap.size + 1) (by omega) h.2.2.1 0 v1) 1 v2
  exact ⟨World.ownsRow.mono r1 (by omega), World.ownsRow.mono r2 (by omega), h.2.2.2.1,
    ((hB.trans (h.2.2.2.2.mono hs)).setCell (p := ⟨A, 0, none⟩) hA _).setCell (p := ⟨A, 1, none⟩) hA _⟩

/-- The ports and the days of a text's calls, and whether they are a rotation. -/
def prL (ps : List ByteArray) : List Int := ps.map fun p => (callR p).1
def dyL (ps : List ByteArray) : List Int := ps.map fun p => (callR p).2.1
def allC (ps : List ByteArray) : Bool := ps.all fun p => (callR p).2.2
def rotP (ps : List ByteArray) : Bool := rotB (prL ps).length (dyL ps).length (fun j => (prL ps).getD j 0) (fun j => (dyL ps).getD j 0)
def goodP (ps : List ByteArray) : Bool := allC ps && rotP ps
theorem good_no {ps : List ByteArray} {k : Nat} (hk : k < ps.length) (h : (callR ps[k]).2.2 = false) : goodP ps = false := by
  have : allC ps = false := by
    unfold allC
    rw [List.all_eq_false]
    exact ⟨_, List.getElem_mem hk, by simp [h]⟩
  simp [goodP, this]
theorem prL_snoc {ps : List ByteArray} {k : Nat} (hk : k < ps.length) : prL (ps.take (k + 1)) = prL (ps.take k) ++ [(callR ps[k]).1] := by
  unfold prL; rw [List.take_succ_eq_append_getElem hk, List.map_append]; rfl
theorem dyL_snoc {ps : List ByteArray} {k : Nat} (hk : k < ps.length) : dyL (ps.take (k + 1)) = dyL (ps.take k) ++ [(callR ps[k]).2.1] := by
  unfold dyL; rw [List.take_succ_eq_append_getElem hk, List.map_append]; rfl
theorem allC_snoc {ps : List ByteArray} {k : Nat} (hk : k < ps.length) (h0 : allC (ps.take k) = true) (h : (callR ps[k]).2.2 = true) : allC (ps.take (k + 1)) = true := by
  unfold allC at *; rw [List.take_succ_eq_append_getElem hk, List.all_append, h0, List.all_cons, h]; rfl
theorem prL_len (ps : List ByteArray) : (prL ps).length = ps.length := by simp [prL]
theorem dyL_len (ps : List ByteArray) : (dyL ps).length = ps.length := by simp [dyL]
end Go.Proofs.YtefkcdhmiepbfaaDoor.R
