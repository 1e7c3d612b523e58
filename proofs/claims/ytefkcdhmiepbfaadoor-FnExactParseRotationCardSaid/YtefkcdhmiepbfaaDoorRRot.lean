/-
  The laws' own helpers on rotations: szRotation, toRotation, eqRotation. No statement of the seat by itself.
-/
import Derived.Test.YtefkcdhmiepbfaaDoorRRow
namespace Go.Proofs.YtefkcdhmiepbfaaDoor.R
open Go.RowKit

/-- A value that reads as a rotation of n ports and m days. -/
def ArgR (w : World) (v : Value) (n m : Nat) (p d : Nat → Int) : Prop := ∃ v1 v2, v = .agg #[v1, v2] ∧ ArgI w v1 n p ∧ ArgI w v2 m d
theorem ArgR.below {w w' : World} {v : Value} {n m : Nat} {p d : Nat → Int} (h : ArgR w v n m p d) (hb : Below w.heap.size w w') : ArgR w' v n m p d := by
  obtain ⟨v1, v2, rfl, h1, h2⟩ := h
  exact ⟨v1, v2, rfl, h1.below hb, h2.below hb⟩

/-- What szRotation answers: -1, or a number that says that both lists are small. -/
def SzR (w : World) (n m : Nat) (e : Ending) (w' : World) : Prop := Below w.heap.size w w' ∧ (e = .returned (.int .i64 (-1)) ∨ ∃ r : Nat, e = .returned (.int .i64 (r : Int)) ∧ r ≤ 1048576 ∧ n ≤ 1048576 ∧ m ≤ 1048576)

/-- What toRotation answers: a copy of its own. -/
def CopyR (w : World) (n m : Nat) (p d : Nat → Int) (e : Ending) (w' : World) : Prop := ∃ g1 g2 : Nat, e = .returned (.agg #[.slice (some ⟨g1, 0, none⟩) n n, .slice (some ⟨g2, 0, none⟩) m m]) ∧ w.heap.size ≤ g1 ∧ g1 < g2 ∧ RowI w' g1 n n p ∧ RowI w' g2 m m d ∧ Below w.heap.size w w'
theorem heap_alloc_old (w : World) (o : Obj) (i : Nat) (h : i < w.heap.size) : (w.alloc o).heap[i]? = w.heap[i]? := ((Below.refl _ w).alloc (Nat.le_refl _) o).block i h
theorem heap_set_other (w : World) (b i j : Nat) (v : Value) (h : j ≠ b) : (w.setCell ⟨b, i, none⟩ v).heap[j]? = w.heap[j]? := Below.heap_setCell w ⟨b, i, none⟩ v j h
theorem three_alloc (w : World) (o1 o2 o3 : Obj) : (((w.alloc o1).alloc o2).alloc o3).heap[w.heap.size]? = some o1 ∧ (((w.alloc o1).alloc o2).alloc o3).heap[w.heap.size + 1]? = some o2 ∧ (((w.alloc o1).alloc o2).alloc o3).heap[w.heap.size + 1 + 1]? = some o3 ∧ (((w.alloc o1).alloc o2).alloc o3).heap.size = w.heap.size + 3 ∧ Below w.heap.size w (((w.alloc o1).alloc o2).alloc o3) := by
  have s1 : (w.alloc o1).heap.size = w.heap.size + 1 := by simp
  have s2 : ((w.alloc o1).alloc o2).heap.size = w.heap.size + 1 + 1 := by simp
  refine ⟨?_, ?_, ?_, by simp, (((Below.refl _ _).alloc (Nat.le_refl _) _).alloc (by simp) _).alloc (by simp; omega) _⟩
  · rw [heap_alloc_old _ _ _ (by omega), heap_alloc_old _ _ _ (by omega)]
    exact heap_alloc_new w o1
  · rw [heap_alloc_old _ _ _ (by omega), ← s1]
    exact heap_alloc_new _ o2
  · rw [← s2]
    exact heap_alloc_new _ o3
theorem cell_of {w : World} {b i : Nat} {cur : Array Value} {t : TypeId} {x : Value} (h : w.heap[b]? = some (.cells cur t (0, 0))) (hx : cur[i]? = some x) : w.cell? ⟨b, i, none⟩ = some x := by
  simp [World.cell?, h, hx]
theorem free_of {w : World} {b i : Nat} {cur : Array Value} {t : TypeId} (h : w.heap[b]? = some (.cells cur t (0, 0))) : w.frozen? ⟨b, i, none⟩ = false := by
  simp [World.frozen?, h]

set_option maxRecDepth 100000 in
set_option maxHeartbeats 1000000 in
theorem eqR_any (v1 v2 : Value) (n m : Nat) (p d : Nat → Int) (hn : n ≤ 1048576) (hm : m ≤ 1048576) (w : World) (h1 : ArgR w v1 n m p d) (h2 : ArgR w v2 n m p d) :
    Calls Tryd.prog 10 #[v1, v2] w fun e w' => e = .returned (.bool true) ∧ Below w.heap.size w w' := by
  obtain ⟨a1, a2, rfl, h1, h3⟩ := h1
  obtain ⟨b1, b2, rfl, h2, h4⟩ := h2
  have H1 := Lib.hid h1
  have H2 := Lib.hid h2
  have H3 := Lib.hid h3
  have H4 := Lib.hid h4
  clear h1 h2 h3 h4
  go_enter Tryd.func10, Tryd.ntmps10
  go_wp2_with fail
  have B0 : Hid (Below w.heap.size w ((w.alloc (.cells #[a1, a2] 24)).alloc (.cells #[b1, b2] 24))) := Lib.hid (((Below.refl _ _).alloc (Nat.le_refl _) _).alloc (by simp) _)
  refine (eqI_any _ _ n p hn _ (H1.out.below B0.out) (H2.out.below B0.out)).mono ?_
  rintro e w1 ⟨rfl, hb1⟩
  have c0 : w1.cell? ⟨w.heap.size, 1, none⟩ = some a2 := (hb1.cell (p := ⟨w.heap.size, 1, none⟩) (by simp; omega)).trans (by simp)
  have c1 : w1.cell? ⟨w.heap.size + 1, 1, none⟩ = some b2 := (hb1.cell (p := ⟨w.heap.size + 1, 1, none⟩) (by simp)).trans (by simp)
  have B1 : Hid (Below w.heap.size w w1) := Lib.hid (B0.out.trans (hb1.mono B0.out.size))
  clear hb1
  go_wp2_with fail
  refine (eqI_any _ _ m d hm _ (H3.out.below B1.out) (H4.out.below B1.out)).mono ?_
  rintro e w2 ⟨rfl, hb2⟩
  have B2 : Hid (Below w.heap.size w w2) := Lib.hid (B1.out.trans (hb2.mono B1.out.size))
  clear hb2
  go_wp2_with fail
  go_ret
  exact ⟨rfl, B2.out⟩
end Go.Proofs.YtefkcdhmiepbfaaDoor.R
