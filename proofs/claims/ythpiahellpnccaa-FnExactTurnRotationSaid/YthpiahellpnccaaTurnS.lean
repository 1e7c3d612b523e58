/-
  What spec.TurnRotation returns. No statement of the seat by itself.
-/
import Derived.Test.YthpiahellpnccaaTurn
namespace Go.Proofs.Ythpiahellpnccaa
open Go.RowKit

/-- A rotation of lists of the call's own and a yes or no were answered, and nothing older turned. -/
def TurnQ (w : World) (l1 l2 : List Int) (ok : Bool) (e : Ending) (w' : World) : Prop := ∃ u1 u2, e = .returned (.tuple #[.agg #[u1, u2], .bool ok]) ∧ w'.ownsRow w.heap.size 3 1 u1 l1.length (intV l1) ∧ w'.ownsRow w.heap.size 3 1 u2 l2.length (intV l2) ∧ (∀ j, u1.ownBlock = some j → u2.ownBlock ≠ some j) ∧ Below w.heap.size w w'
def turnA (n m : Nat) (p d : Nat → Int) (f : Nat → Int) (i : Int) : List Int := if askB n m p d i = true then turnL f n i.toNat else []
theorem turnA_no {n m : Nat} {p d f : Nat → Int} {i : Int} (h : askB n m p d i = false) : turnA n m p d f i = [] := by simp [turnA, h]
theorem turnA_yes {n m : Nat} {p d f : Nat → Int} {i : Int} (h : askB n m p d i = true) : turnA n m p d f i = turnL f n i.toNat := by simp [turnA, h]

theorem store_done {w w1 w2 : World} {u1 u2 : Value} {k m : Nat} {xs ys : List Value} (hB1 : Below w.heap.size w w1) (hz : w.heap.size + 2 ≤ w1.heap.size) (r1 : w2.ownsRow w1.heap.size 3 1 u1 k xs) (r2 : w2.ownsRow w1.heap.size 3 1 u2 m ys)
    (hne : ∀ j, u1.ownBlock = some j → u2.ownBlock ≠ some j) (hB : Below w1.heap.size w1 w2) (a1 a2 : Value) :
    let W := (w2.setCell ⟨w.heap.size + 1, 0, none⟩ a1).setCell ⟨w.heap.size + 1, 1, none⟩ a2
    W.ownsRow w.heap.size 3 1 u1 k xs ∧ W.ownsRow w.heap.size 3 1 u2 m ys ∧ (∀ j, u1.ownBlock = some j → u2.ownBlock ≠ some j) ∧ Below w.heap.size w W := by
  have g0 : w2.grownBy w2 (some (w.heap.size + 1)) := ⟨rfl, rfl, rfl, Nat.le_refl _, fun _ _ _ => rfl⟩
  have g := Lib.grownBy_setB (Lib.grownBy_setB g0 0 a1) 1 a2
  have n1 : u1.ownBlock ≠ some (w.heap.size + 1) := fun e => by have := row_base r1 _ e; omega
  have n2 : u2.ownBlock ≠ some (w.heap.size + 1) := fun e => by have := row_base r2 _ e; omega
  refine ⟨(r1.kept g (.inr n1)).mono (by omega), (r2.kept g (.inr n2)).mono (by omega), hne, ?_⟩
  have hB3 : Below w.heap.size w w2 := hB1.trans (hB.mono hB1.size)
  exact (hB3.setCell (p := ⟨w.heap.size + 1, 0, none⟩) (by show w.heap.size ≤ w.heap.size + 1; omega) _).setCell (p := ⟨w.heap.size + 1, 1, none⟩) (by show w.heap.size ≤ w.heap.size + 1; omega) _
set_option maxRecDepth 100000 in
set_option maxHeartbeats 2000000 in
theorem specTurn_no (v : Value) (n m : Nat) (p d : Nat → Int) (i : Int) (hn : n ≤ maxLen) (hm : m ≤ maxLen) (w : World) (h : ArgR w v n m p d) (hi : askB n m p d i = false) :
    Calls Try.prog 37 #[v, .int .i64 i] w (TurnQ w [] [] false) := by
  have HV := Lib.hid h
  obtain ⟨v1, v2, rfl, -, -⟩ := h
  have HR := Lib.hid hi
  have HB := Lib.hid (((Below.refl _ w).alloc (Nat.le_refl _) (.cells #[v1, v2] 26)).alloc (by simp) (.cells #[.slice none 0 0, .slice none 0 0] 26))
  have q2 := heap_alloc_new (w.alloc (.cells #[v1, v2] 26)) (.cells #[.slice none 0 0, .slice none 0 0] 26)
  rw [show (w.alloc (.cells #[v1, v2] 26)).heap.size = w.heap.size + 1 by simp] at q2
  have Q2 := Lib.hid q2
  clear hi q2
  go_enter Try.func37, Try.ntmps37
  go_wp2_with fail
  refine (specAsked_any _ n m p d i hn hm _ (HV.out.below HB.out)).mono ?_
  rw [HR.out]
  rintro e w1 ⟨rfl, hb⟩
  obtain ⟨z0, z1, z2⟩ := res_cells Q2.out hb
  have B1 : Hid (Below w.heap.size w w1) := Lib.hid (HB.out.trans (hb.mono HB.out.size))
  have hz := HB.out.size
  clear hb
  have e5 := World.cell?_setCell_same _ _ (.slice none 0 0) z0
  have z1' : (w1.setCell ⟨w.heap.size + 1, 0, none⟩ (.slice none 0 0)).cell? ⟨w.heap.size + 1, 1, none⟩ = some (.slice none 0 0) := by rw [World.cell?_setCell_other _ _ _ _ (by simp)]; exact z1
  have e6 := World.cell?_setCell_same _ _ (.slice none 0 0) z1'
  go_wp2_with fail
  exact bodyPost_ret (v := .tuple #[.agg #[.slice none 0 0, .slice none 0 0], .bool false]) (by simp [results, Try.results37, go_sem, e5, e6]) rfl ⟨_, _, rfl, World.ownsRow_nil _ _ _ _, World.ownsRow_nil _ _ _ _, (by intro j hj; simp [Value.ownBlock] at hj), (B1.out.setCell (p := ⟨w.heap.size + 1, 0, none⟩) (by show w.heap.size ≤ w.heap.size + 1; omega) _).setCell (p := ⟨w.heap.size + 1, 1, none⟩) (by show w.heap.size ≤ w.heap.size + 1; omega) _⟩

set_option maxRecDepth 100000 in
set_option maxHeartbeats 2000000 in
theorem specTurn_yes (g1 g2 n m : Nat) (p d : Nat → Int) (i : Int) (w : World) (h1 : IAt w g1 0 n p) (h2 : IAt w g2 0 m d) (hi : askB n m p d i = true) :
    Calls Try.prog 37 #[.agg #[.slice (some ⟨g1, 0, none⟩) n n, .slice (some ⟨g2, 0, none⟩) m m], .int .i64 i] w (TurnQ w (turnL p n i.toNat) (turnL d n i.toNat) true) := by
  obtain ⟨hr, i0, i1⟩ := askB_iff.1 hi
  have hG := good_of hr
  have e0 := hG.same
  subst e0
  have h0 := hG.pos
  have h12 := hG.top
  have hmm : m ≤ maxLen := by unfold maxLen; omega
  have HV : Hid (ArgR w (.agg #[.slice (some ⟨g1, 0, none⟩) m m, .slice (some ⟨g2, 0, none⟩) m m]) m m p d) := Lib.hid ⟨_, _, rfl, .inr ⟨_, _, _, rfl, h1⟩, .inr ⟨_, _, _, rfl, h2⟩⟩
  have I1 := Lib.hid h1
  have I2 := Lib.hid h2
  have HR := Lib.hid hi
  have ei : i = ((i.toNat : Nat) : Int) := by omega
  have hit : i.toNat < m := by omega
  have HB := Lib.hid (((Below.refl _ w).alloc (Nat.le_refl _) (.cells #[.slice (some ⟨g1, 0, none⟩) m m, .slice (some ⟨g2, 0, none⟩) m m] 26)).alloc (by simp) (.cells #[.slice none 0 0, .slice none 0 0] 26))
  have q2 := heap_alloc_new (w.alloc (.cells #[.slice (some ⟨g1, 0, none⟩) m m, .slice (some ⟨g2, 0, none⟩) m m] 26)) (.cells #[.slice none 0 0, .slice none 0 0] 26)
  rw [show (w.alloc (.cells #[.slice (some ⟨g1, 0, none⟩) m m, .slice (some ⟨g2, 0, none⟩) m m] 26)).heap.size = w.heap.size + 1 by simp] at q2
  have q1 : ((w.alloc (.cells #[.slice (some ⟨g1, 0, none⟩) m m, .slice (some ⟨g2, 0, none⟩) m m] 26)).alloc (.cells #[.slice none 0 0, .slice none 0 0] 26)).heap[w.heap.size]? = some (.cells #[.slice (some ⟨g1, 0, none⟩) m m, .slice (some ⟨g2, 0, none⟩) m m] 26) := by
    rw [heap_alloc_old _ _ _ (by simp)]; exact heap_alloc_new w _
  have Q1 := Lib.hid q1
  have Q2 := Lib.hid q2
  have HZ : Hid (((w.alloc (.cells #[.slice (some ⟨g1, 0, none⟩) m m, .slice (some ⟨g2, 0, none⟩) m m] 26)).alloc (.cells #[.slice none 0 0, .slice none 0 0] 26)).heap.size = w.heap.size + 2) := Lib.hid (by simp)
  clear hi q1 q2 hr hG h1 h2
  generalize i.toNat = a at *
  subst ei
  go_enter Try.func37, Try.ntmps37
  go_wp2_with fail
  refine (specAsked_any _ m m p d a hmm hmm _ (HV.out.below HB.out)).mono ?_
  rw [HR.out]
  rintro e w1 ⟨rfl, hb⟩
  have j1 := (hb.block _ (by have := HZ.out; omega)).trans Q1.out
  have J2 := Lib.hid ((hb.block _ (by have := HZ.out; omega)).trans Q2.out)
  have c0 : w1.cell? ⟨w.heap.size, 0, none⟩ = some (.slice (some ⟨g1, 0, none⟩) m m) := cell_of j1 rfl
  have c1 : w1.cell? ⟨w.heap.size, 1, none⟩ = some (.slice (some ⟨g2, 0, none⟩) m m) := cell_of j1 rfl
  have B1 : Hid (Below w.heap.size w w1) := Lib.hid (HB.out.trans (hb.mono HB.out.size))
  have Z1 : Hid (w.heap.size + 2 ≤ w1.heap.size) := Lib.hid (by have := hb.size; have := HZ.out; omega)
  clear hb j1
  go_wp2_with fail
  refine (l3Turn_rows g1 0 m g2 0 m m p d a hit h12 (Nat.le_refl _) (Nat.le_refl _) _ (I1.out.below B1.out) (I2.out.below B1.out)).mono ?_
  rintro e w2 ⟨u1, u2, rfl, ho1, ho2, hne, hb2⟩
  obtain ⟨z0, z1, z2⟩ := res_cells J2.out hb2
  have HF := Lib.hid (store_done B1.out Z1.out ho1 ho2 hne hb2 u1 u2)
  rw [turnL_len p m a (by omega)] at ho1
  rw [turnL_len d m a (by omega)] at ho2
  obtain ⟨a1, k1, rfl⟩ := own_form ho1
  obtain ⟨a2, k2, rfl⟩ := own_form ho2
  have e5 := World.cell?_setCell_same _ _ (.slice a1 m k1) z0
  have z1' : (w2.setCell ⟨w.heap.size + 1, 0, none⟩ (.slice a1 m k1)).cell? ⟨w.heap.size + 1, 1, none⟩ = some (.slice none 0 0) := by rw [World.cell?_setCell_other _ _ _ _ (by simp)]; exact z1
  have e6 := World.cell?_setCell_same _ _ (.slice a2 m k2) z1'
  clear hb2 ho1 ho2 hne
  go_wp2_with fail
  exact bodyPost_ret (v := .tuple #[.agg #[.slice a1 m k1, .slice a2 m k2], .bool true]) (by simp [results, Try.results37, go_sem, e5, e6]) rfl ⟨_, _, rfl, HF.out⟩
end Go.Proofs.Ythpiahellpnccaa
