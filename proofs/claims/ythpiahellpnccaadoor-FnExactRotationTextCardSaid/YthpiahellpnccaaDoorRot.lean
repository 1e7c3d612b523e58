/-
  The laws' own helpers on rotations: szRotation, toRotation, eqRotation. No statement of the seat by itself.
-/
import Derived.Test.YthpiahellpnccaaDoorRow
namespace Go.Proofs.YthpiahellpnccaaDoor
open Go.RowKit

/-- A value that reads as a rotation of n ports and m days. -/
def ArgR (w : World) (v : Value) (n m : Nat) (p d : Nat → Int) : Prop := ∃ v1 v2, v = .agg #[v1, v2] ∧ ArgI w v1 n p ∧ ArgI w v2 m d
theorem ArgR.below {w w' : World} {v : Value} {n m : Nat} {p d : Nat → Int} (h : ArgR w v n m p d) (hb : Below w.heap.size w w') : ArgR w' v n m p d := by
  obtain ⟨v1, v2, rfl, h1, h2⟩ := h
  exact ⟨v1, v2, rfl, h1.below hb, h2.below hb⟩

/-- What szRotation answers: -1, or a number that says that both lists are small. -/
def SzR (w : World) (n m : Nat) (e : Ending) (w' : World) : Prop := Below w.heap.size w w' ∧ (e = .returned (.int .i64 (-1)) ∨ ∃ r : Nat, e = .returned (.int .i64 (r : Int)) ∧ r ≤ 1048576 ∧ n ≤ 1048576 ∧ m ≤ 1048576)

set_option maxHeartbeats 1000000 in
theorem szR_any (v : Value) (n m L : Nat) (p d : Nat → Int) (hn : n ≤ maxLen) (hm : m ≤ maxLen) (hL : L ≤ 1048576) (w : World) (h : ArgR w v n m p d) :
    Calls Tryd.prog 5 #[v, .int .i64 (L : Int)] w (SzR w n m) := by
  obtain ⟨v1, v2, rfl, h1, h2⟩ := h
  obtain ⟨a1, c1, rfl⟩ := h1.form
  obtain ⟨a2, c2, rfl⟩ := h2.form
  clear h1 h2
  by_cases hn2 : n ≤ L
  · by_cases hm2 : m ≤ L - n
    · go_enter Tryd.func5, Tryd.ntmps5
      go_wp2_with fail
      refine (szI_any a1 n c1 L hn hL _).mono ?_
      rw [if_pos hn2]
      rintro e w1 ⟨rfl, rfl⟩
      go_wp2_with fail
      refine (szI_any a2 m c2 (L - n) hm (by omega) _).mono ?_
      rw [if_pos hm2]
      rintro e w1 ⟨rfl, rfl⟩
      go_wp2_with fail
      go_ret
      exact ⟨(Below.refl _ _).alloc (Nat.le_refl _) _, .inr ⟨L - n - m, rfl, by omega, by omega, by omega⟩⟩
    · go_enter Tryd.func5, Tryd.ntmps5
      go_wp2_with fail
      refine (szI_any a1 n c1 L hn hL _).mono ?_
      rw [if_pos hn2]
      rintro e w1 ⟨rfl, rfl⟩
      go_wp2_with fail
      refine (szI_any a2 m c2 (L - n) hm (by omega) _).mono ?_
      rw [if_neg hm2]
      rintro e w1 ⟨rfl, rfl⟩
      go_wp2_with fail
      go_ret
      exact ⟨(Below.refl _ _).alloc (Nat.le_refl _) _, .inl rfl⟩
  · go_enter Tryd.func5, Tryd.ntmps5
    go_wp2_with fail
    refine (szI_any a1 n c1 L hn hL _).mono ?_
    rw [if_neg hn2]
    rintro e w1 ⟨rfl, rfl⟩
    go_wp2_with fail
    go_ret
    exact ⟨(Below.refl _ _).alloc (Nat.le_refl _) _, .inl rfl⟩

/-- What toRotation answers: a copy of its own. -/
def CopyR (w : World) (n m : Nat) (p d : Nat → Int) (e : Ending) (w' : World) : Prop := ∃ g1 g2 : Nat, e = .returned (.agg #[.slice (some ⟨g1, 0, none⟩) n n, .slice (some ⟨g2, 0, none⟩) m m]) ∧ w.heap.size ≤ g1 ∧ g1 < g2 ∧ RowI w' g1 n n p ∧ RowI w' g2 m m d ∧ Below w.heap.size w w'
theorem heap_alloc_old (w : World) (o : Obj) (i : Nat) (h : i < w.heap.size) : (w.alloc o).heap[i]? = w.heap[i]? := ((Below.refl _ w).alloc (Nat.le_refl _) o).block i h
theorem heap_set_other (w : World) (b i j : Nat) (v : Value) (h : j ≠ b) : (w.setCell ⟨b, i, none⟩ v).heap[j]? = w.heap[j]? := Below.heap_setCell w ⟨b, i, none⟩ v j h
theorem three_alloc (w : World) (o1 o2 o3 : Obj) : (((w.alloc o1).alloc o2).alloc o3).heap[w.heap.size]? = some o1 ∧ (((w.alloc o1).alloc o2).alloc o3).heap[w.heap.size + 1]? = some o2 ∧ (((w.alloc o1).alloc o2).alloc o3).heap[w.heap.size + 1 + 1]? = some o3 ∧ (((w.alloc o1).alloc o2).alloc o3).heap.size = w.heap.size + 3 ∧ Below w.heap.size w (((w.alloc o1).alloc o2).alloc o3) := by
  have s1 : (w.alloc o1).heap.size = w.heap.size + 1 := by simp
  have s2 : ((w.alloc o1).alloc o2).heap.size = w.heap.size + 1 + 1 := by simp
  refine ⟨?_, ?_, ?_, by simp, (((Below.refl _ _).alloc (Nat.le_refl _) _).alloc (by simp) _).alloc (by simp; omega) _⟩
  · rw [heap_alloc_old _ _ _ (by omega), heap_alloc_old _ _ _ (by omega)]
    exact heap_alloc_new w o1
  · rw [heap_alloc_old _ _ _ (by omega), ← s1]
    exact heap_alloc_new _ o2
  · rw [← s2]
    exact heap_alloc_new _ o3
theorem cell_of {w : World} {b i : Nat} {cur : Array Value} {t : TypeId} {x : Value} (h : w.heap[b]? = some (.cells cur t (0, 0))) (hx : cur[i]? = some x) : w.cell? ⟨b, i, none⟩ = some x := by
  simp [World.cell?, h, hx]
theorem free_of {w : World} {b i : Nat} {cur : Array Value} {t : TypeId} (h : w.heap[b]? = some (.cells cur t (0, 0))) : w.frozen? ⟨b, i, none⟩ = false := by
  simp [World.frozen?, h]

set_option maxRecDepth 100000 in
set_option maxHeartbeats 1000000 in
theorem toR_any (v : Value) (n m : Nat) (p d : Nat → Int) (hn : n ≤ 1048576) (hm : m ≤ 1048576) (w : World) (h : ArgR w v n m p d) :
    Calls Tryd.prog 7 #[v] w (CopyR w n m p d) := by
  obtain ⟨v1, v2, rfl, h1, h2⟩ := h
  have H1 := Lib.hid h1
  have H2 := Lib.hid h2
  clear h1 h2
  go_enter Tryd.func7, Tryd.ntmps7
  go_wp2_with fail
  obtain ⟨hk0, hk1, hk2, hs, hB0⟩ := three_alloc w (.cells #[v1, v2] 24) (.cells #[.slice none 0 0, .slice none 0 0] 28) (.cells #[.slice none 0 0, .slice none 0 0] 28)
  have B0 := Lib.hid hB0
  clear hB0
  generalize ((w.alloc (.cells #[v1, v2] 24)).alloc (.cells #[.slice none 0 0, .slice none 0 0] 28)).alloc (.cells #[.slice none 0 0, .slice none 0 0] 28) = W at *
  refine (toI_any v1 n p hn _ (H1.out.below B0.out)).mono ?_
  rintro e w1 ⟨rfl, hr1, hb1⟩
  have j0 := (hb1.block _ (show w.heap.size < W.heap.size by omega)).trans hk0
  have j1 := (hb1.block _ (show w.heap.size + 1 < W.heap.size by omega)).trans hk1
  have j2 := (hb1.block _ (show w.heap.size + 1 + 1 < W.heap.size by omega)).trans hk2
  have c0 : w1.cell? ⟨w.heap.size, 1, none⟩ = some v2 := cell_of j0 rfl
  have c1 : w1.cell? ⟨w.heap.size + 1 + 1, 0, none⟩ = some (.slice none 0 0) := cell_of j2 rfl
  have f2 : ∀ i, w1.frozen? ⟨w.heap.size + 1 + 1, i, none⟩ = false := fun i => free_of j2
  have hz1 : w.heap.size + 3 < w1.heap.size := by have := hr1.lt; omega
  have B1 : Hid (Below w.heap.size w w1) := Lib.hid (B0.out.trans (hb1.mono B0.out.size))
  have R1 := Lib.hid hr1
  have J0 := Lib.hid j0
  have J1 := Lib.hid j1
  have J2 := Lib.hid j2
  rw [hs] at R1
  clear hr1 hb1 j0 j1 j2 hk0 hk1 hk2
  go_wp2_with fail
  have B2 : Hid (Below w.heap.size w (w1.setCell ⟨w.heap.size + 1 + 1, 0, none⟩ (.slice (some ⟨w.heap.size + 3, 0, none⟩) n n))) := Lib.hid (B1.out.setCell (p := ⟨w.heap.size + 1 + 1, 0, none⟩) (by simp; omega) _)
  have K2 : Hid ((w1.setCell ⟨w.heap.size + 1 + 1, 0, none⟩ (.slice (some ⟨w.heap.size + 3, 0, none⟩) n n)).heap[w.heap.size + 1 + 1]? = some (.cells #[.slice (some ⟨w.heap.size + 3, 0, none⟩) n n, .slice none 0 0] 28 (0, 0))) := Lib.hid (Lib.heap_setCell_same (i := 0) J2.out _)
  have K1 : Hid ((w1.setCell ⟨w.heap.size + 1 + 1, 0, none⟩ (.slice (some ⟨w.heap.size + 3, 0, none⟩) n n)).heap[w.heap.size + 1]? = some (.cells #[.slice none 0 0, .slice none 0 0] 28 (0, 0))) := Lib.hid ((heap_set_other _ _ _ _ _ (by omega)).trans J1.out)
  have R2 : Hid (RowI (w1.setCell ⟨w.heap.size + 1 + 1, 0, none⟩ (.slice (some ⟨w.heap.size + 3, 0, none⟩) n n)) (w.heap.size + 3) n n p) := Lib.hid (R1.out.block (heap_set_other _ _ _ _ _ (by omega)))
  have hz2 : w.heap.size + 3 < (w1.setCell ⟨w.heap.size + 1 + 1, 0, none⟩ (.slice (some ⟨w.heap.size + 3, 0, none⟩) n n)).heap.size := by simpa using hz1
  generalize w1.setCell ⟨w.heap.size + 1 + 1, 0, none⟩ (.slice (some ⟨w.heap.size + 3, 0, none⟩) n n) = w2 at *
  refine (toI_any v2 m d hm _ (H2.out.below B2.out)).mono ?_
  rintro e w3 ⟨rfl, hr3, hb3⟩
  have j2 := (hb3.block _ (show w.heap.size + 1 + 1 < w2.heap.size by omega)).trans K2.out
  have j1 := (hb3.block _ (show w.heap.size + 1 < w2.heap.size by omega)).trans K1.out
  have c3 : w3.cell? ⟨w.heap.size + 1 + 1, 1, none⟩ = some (.slice none 0 0) := cell_of j2 rfl
  have f3 : ∀ i, w3.frozen? ⟨w.heap.size + 1 + 1, i, none⟩ = false := fun i => free_of j2
  have c4 : w3.cell? ⟨w.heap.size + 1 + 1, 0, none⟩ = some (.slice (some ⟨w.heap.size + 3, 0, none⟩) n n) := cell_of j2 rfl
  have c5 : w3.cell? ⟨w.heap.size + 1, 0, none⟩ = some (.slice none 0 0) := cell_of j1 rfl
  have c6 : w3.cell? ⟨w.heap.size + 1, 1, none⟩ = some (.slice none 0 0) := cell_of j1 rfl
  have f4 : ∀ i, w3.frozen? ⟨w.heap.size + 1, i, none⟩ = false := fun i => free_of j1
  have R3 : Hid (RowI w3 (w.heap.size + 3) n n p) := Lib.hid (R2.out.below hb3)
  have Q3 := Lib.hid hr3
  have hz3 : w2.heap.size < w3.heap.size := hr3.lt
  have B3 : Hid (Below w.heap.size w w3) := Lib.hid (B2.out.trans (hb3.mono B2.out.size))
  clear hr3 hb3 j2 j1
  go_wp2_with fail
  have e5 : (w3.setCell ⟨w.heap.size + 1 + 1, 1, none⟩ (.slice (some ⟨w2.heap.size, 0, none⟩) m m)).cell? ⟨w.heap.size + 1, 0, none⟩ = some (.slice none 0 0) := by rw [World.cell?_setCell_other _ _ _ _ (by simp)]; exact c5
  have e6 : ((w3.setCell ⟨w.heap.size + 1 + 1, 1, none⟩ (.slice (some ⟨w2.heap.size, 0, none⟩) m m)).setCell ⟨w.heap.size + 1, 0, none⟩ (.slice (some ⟨w.heap.size + 3, 0, none⟩) n n)).cell? ⟨w.heap.size + 1, 1, none⟩ = some (.slice none 0 0) := by rw [World.cell?_setCell_other _ _ _ _ (by simp), World.cell?_setCell_other _ _ _ _ (by simp)]; exact c6
  have e7 := World.cell?_setCell_same _ _ (.slice (some ⟨w.heap.size + 3, 0, none⟩) n n) e5
  have e8 := World.cell?_setCell_same _ _ (.slice (some ⟨w2.heap.size, 0, none⟩) m m) e6
  refine bodyPost_ret (v := .agg #[.slice (some ⟨w.heap.size + 3, 0, none⟩) n n, .slice (some ⟨w2.heap.size, 0, none⟩) m m]) (by simp [results, Tryd.results7, go_sem, e7, e8]) rfl ⟨_, _, rfl, by omega, by omega, ?_, ?_, ?_⟩
  · exact R3.out.block (by rw [heap_set_other _ _ _ _ _ (by omega), heap_set_other _ _ _ _ _ (by omega), heap_set_other _ _ _ _ _ (by omega)])
  · exact Q3.out.block (by rw [heap_set_other _ _ _ _ _ (by omega), heap_set_other _ _ _ _ _ (by omega), heap_set_other _ _ _ _ _ (by omega)])
  · exact ((B3.out.setCell (p := ⟨w.heap.size + 1 + 1, 1, none⟩) (by simp; omega) _).setCell (p := ⟨w.heap.size + 1, 0, none⟩) (by simp) _).setCell (p := ⟨w.heap.size + 1, 1, none⟩) (by simp) _
set_option maxRecDepth 100000 in
set_option maxHeartbeats 1000000 in
theorem eqR_any (v1 v2 : Value) (n m : Nat) (p d : Nat → Int) (hn : n ≤ 1048576) (hm : m ≤ 1048576) (w : World) (h1 : ArgR w v1 n m p d) (h2 : ArgR w v2 n m p d) :
    Calls Tryd.prog 9 #[v1, v2] w fun e w' => e = .returned (.bool true) ∧ Below w.heap.size w w' := by
  obtain ⟨a1, a2, rfl, h1, h3⟩ := h1
  obtain ⟨b1, b2, rfl, h2, h4⟩ := h2
  have H1 := Lib.hid h1
  have H2 := Lib.hid h2
  have H3 := Lib.hid h3
  have H4 := Lib.hid h4
  clear h1 h2 h3 h4
  go_enter Tryd.func9, Tryd.ntmps9
  go_wp2_with fail
  have B0 : Hid (Below w.heap.size w ((w.alloc (.cells #[a1, a2] 28)).alloc (.cells #[b1, b2] 28))) := Lib.hid (((Below.refl _ _).alloc (Nat.le_refl _) _).alloc (by simp) _)
  refine (eqI_any _ _ n p hn _ (H1.out.below B0.out) (H2.out.below B0.out)).mono ?_
  rintro e w1 ⟨rfl, hb1⟩
  have c0 : w1.cell? ⟨w.heap.size, 1, none⟩ = some a2 := (hb1.cell (p := ⟨w.heap.size, 1, none⟩) (by simp; omega)).trans (by simp)
  have c1 : w1.cell? ⟨w.heap.size + 1, 1, none⟩ = some b2 := (hb1.cell (p := ⟨w.heap.size + 1, 1, none⟩) (by simp)).trans (by simp)
  have B1 : Hid (Below w.heap.size w w1) := Lib.hid (B0.out.trans (hb1.mono B0.out.size))
  clear hb1
  go_wp2_with fail
  refine (eqI_any _ _ m d hm _ (H3.out.below B1.out) (H4.out.below B1.out)).mono ?_
  rintro e w2 ⟨rfl, hb2⟩
  have B2 : Hid (Below w.heap.size w w2) := Lib.hid (B1.out.trans (hb2.mono B1.out.size))
  clear hb2
  go_wp2_with fail
  go_ret
  exact ⟨rfl, B2.out⟩
end Go.Proofs.YthpiahellpnccaaDoor
