/-
  The laws' own helpers on rotations that were answered: markRotation, heldRotation; and boxes that stay. No statement of the seat by itself.
-/
import Derived.Test.YtefkcdhmiepbfaaDoorRInts
namespace Go.Proofs.YtefkcdhmiepbfaaDoor.R
open Go.RowKit

/-- The marks are written into both lists of a rotation. -/
def MarkQ (w : World) (u1 u2 : Value) (n m : Nat) (e : Ending) (w' : World) : Prop := e = .returned (.int .i64 (1 + (n : Int) + (m : Int))) ∧ RowN w' u1 n (fun j => 1 + (j : Int)) ∧ RowN w' u2 m (fun j => 1 + (n : Int) + (j : Int)) ∧ ∃ wm, w.grownBy wm u1.ownBlock ∧ wm.grownBy w' u2.ownBlock
set_option maxHeartbeats 1000000 in
theorem markQ_any (u1 u2 : Value) (n m : Nat) (p d : Nat → Int) (hn : n ≤ 1000) (hm : m ≤ 1000) (hne : ∀ j, u1.ownBlock = some j → u2.ownBlock ≠ some j) (w : World) (hlt : ∀ j, u1.ownBlock = some j → j < w.heap.size) (h1 : RowN w u1 n p) (h2 : RowN w u2 m d) :
    Calls Tryd.prog 11 #[.agg #[u1, u2], .int .i64 1] w (MarkQ w u1 u2 n m) := by
  have H1 := Lib.hid h1
  have H2 := Lib.hid h2
  have NE := Lib.hid hne
  have L1 := Lib.hid hlt
  clear h1 h2 hne hlt
  go_enter Tryd.func11, Tryd.ntmps11
  go_wp2_with fail
  have B0 := below_one w (.cells #[u1, u2] 24)
  have c1 : (w.alloc (.cells #[u1, u2] 24)).cell? ⟨w.heap.size, 1, none⟩ = some u2 := by simp
  have hz : w.heap.size < (w.alloc (.cells #[u1, u2] 24)).heap.size := by simp
  have G0 : Hid (w.grownBy (w.alloc (.cells #[u1, u2] 24)) u1.ownBlock) := Lib.hid (grown_of_below B0 _)
  have K1 := Lib.hid (H1.out.below B0)
  have K2 := Lib.hid (H2.out.below B0)
  clear B0
  generalize w.alloc (.cells #[u1, u2] 24) = W at *
  have M1 := Lib.hid (markN_one u1 n 1 p (by omega) (by decide) (by decide) W K1.out)
  simp only [Int.cast_ofNat_Int] at M1
  refine M1.out.mono ?_
  rintro e w1 ⟨rfl, hr1, hg1⟩
  have d1 : w1.cell? ⟨w.heap.size, 1, none⟩ = some u2 := by
    rw [World.cell?_of_block (hg1.block _ hz (fun e => Nat.lt_irrefl _ (L1.out w.heap.size e.symm)))]; exact c1
  have G1 : Hid (w.grownBy w1 u1.ownBlock) := Lib.hid (Lib.grownBy_trans G0.out hg1)
  have J1 := Lib.hid hr1
  have J2 : Hid (RowN w1 u2 m d) := Lib.hid (K2.out.kept hg1 (fun j e e2 => NE.out j e2.symm e))
  have KM : Hid (Calls Tryd.prog 36 #[u2, .int .i64 (1 + (n : Int))] w1 fun e w' => e = .returned (.int .i64 (1 + (n : Int) + (m : Int))) ∧ RowN w' u2 m (fun j => 1 + (n : Int) + (j : Int)) ∧ w1.grownBy w' u2.ownBlock) := Lib.hid (by
    have h := markN_one u2 m (1 + n) d (by omega) (by omega) (by omega) w1 J2.out
    rw [show ((1 + n : Nat) : Int) = 1 + (n : Int) by omega] at h
    exact h)
  clear hr1 hg1 c1
  go_wp2_with fail
  refine KM.out.mono ?_
  rintro e w2 ⟨rfl, hr2, hg2⟩
  have G2 := Lib.hid hg2
  have F2 := Lib.hid hr2
  have F1 := Lib.hid (J1.out.kept hg2 (fun j e e2 => NE.out j e e2.symm))
  clear hg2 hr2
  go_wp2_with fail
  go_ret
  exact ⟨rfl, F1.out, F2.out, w1, G1.out, G2.out⟩

set_option maxHeartbeats 1000000 in
theorem heldQ_any (u1 u2 : Value) (n m : Nat) (hn : n ≤ 1000) (hm : m ≤ 1000) (w : World) (h1 : RowN w u1 n (fun j => 1 + (j : Int))) (h2 : RowN w u2 m (fun j => 1 + (n : Int) + (j : Int))) :
    Calls Tryd.prog 12 #[.agg #[u1, u2], .int .i64 1] w (NumP w (1 + (n : Int) + (m : Int))) := by
  have H1 := Lib.hid h1
  have H2 := Lib.hid h2
  clear h1 h2
  go_enter Tryd.func12, Tryd.ntmps12
  go_wp2_with fail
  have B0 := Lib.hid (below_one w (.cells #[u1, u2] 24))
  have c1 : (w.alloc (.cells #[u1, u2] 24)).cell? ⟨w.heap.size, 1, none⟩ = some u2 := by simp
  have hz : w.heap.size < (w.alloc (.cells #[u1, u2] 24)).heap.size := by simp
  have K1 := Lib.hid (H1.out.below B0.out)
  have K2 := Lib.hid (H2.out.below B0.out)
  generalize w.alloc (.cells #[u1, u2] 24) = W at *
  have M1 := Lib.hid (heldN_one u1 n 1 (by omega) (by decide) (by decide) W K1.out)
  simp only [Int.cast_ofNat_Int] at M1
  refine M1.out.mono ?_
  rintro e w1 ⟨rfl, hb1⟩
  have d1 := (hb1.cell (p := ⟨w.heap.size, 1, none⟩) hz).trans c1
  have J2 := Lib.hid (K2.out.below hb1)
  have B1 := Lib.hid (B0.out.trans (hb1.mono B0.out.size))
  have KM : Hid (Calls Tryd.prog 37 #[u2, .int .i64 (1 + (n : Int))] w1 fun e w' => e = .returned (.int .i64 (1 + (n : Int) + (m : Int))) ∧ Below w1.heap.size w1 w') := Lib.hid (by
    have h2 := J2.out
    rw [show (fun j : Nat => 1 + (n : Int) + (j : Int)) = (fun j : Nat => ((1 + n : Nat) : Int) + (j : Int)) from funext fun j => by omega] at h2
    have h := heldN_one u2 m (1 + n) (by omega) (by omega) (by omega) w1 h2
    rw [show ((1 + n : Nat) : Int) = 1 + (n : Int) by omega] at h
    exact h)
  clear hb1 c1
  go_wp2_with fail
  refine KM.out.mono ?_
  rintro e w2 ⟨rfl, hb2⟩
  have B2 : Hid (Below w.heap.size w w2) := Lib.hid (B1.out.trans (hb2.mono B1.out.size))
  clear hb2
  go_wp2_with fail
  go_ret
  exact ⟨rfl, B2.out⟩

/-- A box of two values. -/
def Box (W : World) (A : Nat) (x y : Value) : Prop := A < W.heap.size ∧ W.cell? ⟨A, 0, none⟩ = some x ∧ W.cell? ⟨A, 1, none⟩ = some y
theorem Box.below {W W' : World} {A : Nat} {x y : Value} (h : Box W A x y) (hb : Below W.heap.size W W') : Box W' A x y :=
  ⟨Nat.lt_of_lt_of_le h.1 hb.size, (hb.cell (p := ⟨A, 0, none⟩) h.1).trans h.2.1, (hb.cell (p := ⟨A, 1, none⟩) h.1).trans h.2.2⟩
theorem Box.kept {W W' : World} {A : Nat} {x y : Value} {row : Option Nat} (h : Box W A x y) (hg : W.grownBy W' row) (hne : some A ≠ row) : Box W' A x y :=
  ⟨Nat.lt_of_lt_of_le h.1 hg.size, (World.cell?_of_block (a := ⟨A, 0, none⟩) (hg.block A h.1 hne)).trans h.2.1, (World.cell?_of_block (a := ⟨A, 1, none⟩) (hg.block A h.1 hne)).trans h.2.2⟩
theorem Box.new (W : World) (x y : Value) (T : TypeId) : Box (W.alloc (.cells #[x, y] T)) W.heap.size x y := ⟨by simp, cell_of (heap_alloc_new W _) rfl, cell_of (heap_alloc_new W _) rfl⟩
end Go.Proofs.YtefkcdhmiepbfaaDoor.R
