/-
  Proved here: the law FnExactTurnRotation returns true at every rotation and every int, and the rotation reads afterwards as it read before. There are no conditions.
-/
import Derived.Test.YthpiahellpnccaaRows
import Derived.Test.YthpiahellpnccaaOpen
import Derived.Test.YthpiahellpnccaaKeep
import Derived.Test.YthpiahellpnccaaMark2
import Derived.Test.YthpiahellpnccaaTurnI
import Derived.WalkKit
import Derived.ProofKit
import Derived.OpenShut
namespace Go.Proofs.Ythpiahellpnccaa
open Go.Joins Go.Deep Go.ChangeShapes Go.WideShapes Go.ChangeAt Go.RowKit
theorem row_at {W : World} {g c n : Nat} {f : Nat → Int} (h : RowI W g c n f) : IAt W g 0 n f := ⟨h.lt, fun j hj => by rw [Nat.zero_add]; exact h.cell j hj⟩

set_option maxRecDepth 100000 in
set_option maxHeartbeats 8000000 in
theorem turn_body (v : Value) (n m : Nat) (p d : Nat → Int) (l1 l2 : List Int) (b : Bool) (hl1 : l1.length ≤ 12) (hl2 : l2.length ≤ 12) (i : Int) (hn : n ≤ maxLen) (hm : m ≤ maxLen) (w : World) (hv : ArgR w v n m p d)
    (hs : ∀ g1 g2 W, IAt W g1 0 n p → IAt W g2 0 m d → Calls Try.prog 37 #[.agg #[.slice (some ⟨g1, 0, none⟩) n n, .slice (some ⟨g2, 0, none⟩) m m], .int .i64 i] W (TurnQ W l1 l2 b))
    (hi : ∀ g1 g2 W, IAt W g1 0 n p → IAt W g2 0 m d → Calls Try.prog 38 #[.agg #[.slice (some ⟨g1, 0, none⟩) n n, .slice (some ⟨g2, 0, none⟩) m m], .int .i64 i] W (TurnQ W l1 l2 b)) :
    Calls Try.prog 10 #[v, .int .i64 i] w fun e w' => e = .returned (.bool true) ∧ Below w.heap.size w w' := by
  have HV := Lib.hid hv
  have HS := Lib.hid hs
  have HI := Lib.hid hi
  obtain ⟨v1, v2, rfl, -, -⟩ := hv
  clear hs hi
  go_enter Try.func10, Try.ntmps10
  go_wp2_with fail
  have A0 := Lib.hid (Box.new w v1 v2 38)
  have B0 := Lib.hid (below_one w (.cells #[v1, v2] 38))
  generalize w.alloc (.cells #[v1, v2] 38) = w0 at *
  refine (szR_any _ n m 1048576 p d hn hm (by decide) _ (HV.out.below B0.out)).mono ?_
  rintro e w1 ⟨hb1, rfl | ⟨r, rfl, hr, hn2, hm2⟩⟩
  · have B1 : Hid (Below w.heap.size w w1) := Lib.hid (B0.out.trans (hb1.mono B0.out.size))
    clear hb1
    go_wp2_with fail
    go_ret
    exact ⟨rfl, B1.out⟩
  · have B1 : Hid (Below w.heap.size w w1) := Lib.hid (B0.out.trans (hb1.mono B0.out.size))
    have A1 := Lib.hid (A0.out.below hb1)
    clear hb1
    obtain ⟨az, a0, a1⟩ := A1.out
    go_wp2_with fail
    refine (toR_any _ n m p d hn2 hm2 _ (HV.out.below B1.out)).mono ?_
    rintro e w2 ⟨g1, g2, rfl, -, -, hr1, hr2, hb2⟩
    have R1 := Lib.hid hr1
    have R2 := Lib.hid hr2
    have B2 : Hid (Below w.heap.size w w2) := Lib.hid (B1.out.trans (hb2.mono B1.out.size))
    have A2 := Lib.hid (A1.out.below hb2)
    clear hb2 hr1 hr2 az a0 a1 A1
    go_wp2_with fail
    refine (HS.out g1 g2 _ (row_at R1.out) (row_at R2.out)).mono ?_
    rintro e w3 ⟨u1, u2, rfl, ho1, ho2, -, hb3⟩
    have U1 := Lib.hid (rowN_of_owns ho1)
    have U2 := Lib.hid (rowN_of_owns ho2)
    have L1 := Lib.hid (row_lt ho1)
    have L2 := Lib.hid (row_lt ho2)
    obtain ⟨x1, y1, rfl⟩ := own_form ho1
    obtain ⟨x2, y2, rfl⟩ := own_form ho2
    have B3 : Hid (Below w.heap.size w w3) := Lib.hid (B2.out.trans (hb3.mono B2.out.size))
    have A3 := Lib.hid (A2.out.below hb3)
    have C3 := Lib.hid (Box.new w3 (.slice x1 l1.length y1) (.slice x2 l2.length y2) 26)
    have hb4 := below_one w3 (.cells #[.slice x1 l1.length y1, .slice x2 l2.length y2] 26)
    have B4 := Lib.hid (B3.out.trans (hb4.mono B3.out.size))
    have A4 := Lib.hid (A3.out.below hb4)
    have V1 := Lib.hid (U1.out.below hb4)
    have V2 := Lib.hid (U2.out.below hb4)
    have Z4 := Lib.hid hb4.size
    have HZ3 := Lib.hid (A3.out.1)
    clear hb3 ho1 ho2 A2 R1 R2 U1 U2 hb4
    obtain ⟨az, a0, a1⟩ := A4.out
    clear A3 B3
    go_wp2_with fail
    generalize w3.alloc (.cells #[.slice x1 l1.length y1, .slice x2 l2.length y2] 26) = w4 at *
    refine (toR_any _ n m p d hn2 hm2 _ (HV.out.below B4.out)).mono ?_
    rintro e w5 ⟨k1, k2, rfl, hk1, hk2, hr1, hr2, hb5⟩
    have Q1 : Hid (w3.heap.size ≤ k1) := Lib.hid (Nat.le_trans Z4.out hk1)
    have Q2 := Lib.hid hk2
    have Q3 := Lib.hid hr2.lt
    have B5 : Hid (Below w.heap.size w w5) := Lib.hid (B4.out.trans (hb5.mono B4.out.size))
    have A5 := Lib.hid (A4.out.below hb5)
    have C5 := Lib.hid (C3.out.below hb5)
    have V15 := Lib.hid (V1.out.below hb5)
    have V25 := Lib.hid (V2.out.below hb5)
    have hb6 := below_one w5 (.cells #[.slice (some ⟨k1, 0, none⟩) n n, .slice (some ⟨k2, 0, none⟩) m m] 26)
    have X6 := Lib.hid (Box.new w5 (.slice (some ⟨k1, 0, none⟩) n n) (.slice (some ⟨k2, 0, none⟩) m m) 26)
    have B6 := Lib.hid (B5.out.trans (hb6.mono B5.out.size))
    have A6 := Lib.hid (A5.out.below hb6)
    have C6 := Lib.hid (C5.out.below hb6)
    have V16 := Lib.hid (V15.out.below hb6)
    have V26 := Lib.hid (V25.out.below hb6)
    have P6 := Lib.hid (hr1.below hb6)
    have D6 := Lib.hid (hr2.below hb6)
    have Z6 := Lib.hid hb6.size
    have K3 : Hid (w3.heap.size < k1) := Lib.hid (by have := C3.out.1; omega)
    clear hb5 hb6 hr1 hr2 hk1 hk2 A4 C3 V1 V2 A5 C5 V15 V25 B4 B5 az a0 a1
    obtain ⟨az, a0, a1⟩ := A6.out
    go_wp2_with fail
    generalize w5.alloc (.cells #[.slice (some ⟨k1, 0, none⟩) n n, .slice (some ⟨k2, 0, none⟩) m m] 26) = w6 at *
    refine (HI.out k1 k2 _ (row_at P6.out) (row_at D6.out)).mono ?_
    rintro e w7 ⟨s1, s2, rfl, ho1, ho2, hse, hb7⟩
    have S1 := Lib.hid (rowN_of_owns ho1)
    have S2 := Lib.hid (rowN_of_owns ho2)
    have M1 := Lib.hid (row_base ho1)
    have M2 := Lib.hid (row_base ho2)
    have N1 := Lib.hid (row_lt ho1)
    have N2 := Lib.hid (row_lt ho2)
    have SE := Lib.hid hse
    obtain ⟨x3, y3, rfl⟩ := own_form ho1
    obtain ⟨x4, y4, rfl⟩ := own_form ho2
    have B7 : Hid (Below w.heap.size w w7) := Lib.hid (B6.out.trans (hb7.mono B6.out.size))
    have A7 := Lib.hid (A6.out.below hb7)
    have C7 := Lib.hid (C6.out.below hb7)
    have X7 := Lib.hid (X6.out.below hb7)
    have V17 := Lib.hid (V16.out.below hb7)
    have V27 := Lib.hid (V26.out.below hb7)
    have P7 := Lib.hid (P6.out.below hb7)
    have D7 := Lib.hid (D6.out.below hb7)
    have hb8 := below_one w7 (.cells #[.slice x3 l1.length y3, .slice x4 l2.length y4] 26)
    have G8 := Lib.hid (Box.new w7 (.slice x3 l1.length y3) (.slice x4 l2.length y4) 26)
    have B8 := Lib.hid (B7.out.trans (hb8.mono B7.out.size))
    have A8 := Lib.hid (A7.out.below hb8)
    have C8 := Lib.hid (C7.out.below hb8)
    have X8 := Lib.hid (X7.out.below hb8)
    have V18 := Lib.hid (V17.out.below hb8)
    have V28 := Lib.hid (V27.out.below hb8)
    have S18 := Lib.hid (S1.out.below hb8)
    have S28 := Lib.hid (S2.out.below hb8)
    have P8 := Lib.hid (P7.out.below hb8)
    have D8 := Lib.hid (D7.out.below hb8)
    have Z7 := Lib.hid X7.out.1
    have Z8 := Lib.hid hb8.size
    have Z67 := Lib.hid hb7.size
    clear hb7 hb8 ho1 ho2 hse A6 C6 X6 V16 V26 P6 D6 A7 C7 X7 V17 V27 P7 D7 S1 S2 B6 B7 az a0 a1
    obtain ⟨cz, c0, c1⟩ := C8.out
    obtain ⟨gz, e0, e1⟩ := G8.out
    go_wp2_with fail
    generalize w7.alloc (.cells #[.slice x3 l1.length y3, .slice x4 l2.length y4] 26) = w8 at *
    refine (eqR_any _ _ l1.length l2.length _ _ (by omega) (by omega) _ ⟨_, _, rfl, S18.out.arg, S28.out.arg⟩ ⟨_, _, rfl, V18.out.arg, V28.out.arg⟩).mono ?_
    rintro e w9 ⟨rfl, hb9⟩
    have A9 := Lib.hid (A8.out.below hb9)
    have C9 := Lib.hid (C8.out.below hb9)
    have G9 := Lib.hid (G8.out.below hb9)
    have X9 := Lib.hid (X8.out.below hb9)
    have V19 := Lib.hid (V18.out.below hb9)
    have V29 := Lib.hid (V28.out.below hb9)
    have S19 := Lib.hid (S18.out.below hb9)
    have S29 := Lib.hid (S28.out.below hb9)
    have P9 := Lib.hid (P8.out.below hb9)
    have D9 := Lib.hid (D8.out.below hb9)
    have B9 : Hid (Below w.heap.size w w9) := Lib.hid (B8.out.trans (hb9.mono B8.out.size))
    clear hb9 cz c0 c1 gz e0 e1 A8 C8 G8 X8 V18 V28 S18 S28 P8 D8 B8
    have K9 : Hid (KeepR w9 w.heap.size w5.heap.size v1 v2 (.slice (some ⟨k1, 0, none⟩) n n) (.slice (some ⟨k2, 0, none⟩) m m) n m p d w9) := Lib.hid ⟨Below.refl _ _, HV.out.below B9.out, ⟨_, _, rfl, P9.out.arg, D9.out.arg⟩, A9.out.1, X9.out.1, A9.out.2.1, A9.out.2.2, X9.out.2.1, X9.out.2.2⟩
    obtain ⟨-, a0, a1⟩ := A9.out
    obtain ⟨-, b0, b1⟩ := X9.out
    go_wp2_with fail
    have KD := K9.out.drew
    go_region_held3 (fun W => (W.cell? ⟨w.heap.size, 0, none⟩ = some v1 ∧ W.cell? ⟨w.heap.size, 1, none⟩ = some v2 ∧ W.cell? ⟨w5.heap.size, 0, none⟩ = some (.slice (some ⟨k1, 0, none⟩) n n) ∧ W.cell? ⟨w5.heap.size, 1, none⟩ = some (.slice (some ⟨k2, 0, none⟩) m m)) ∧ KeepR w9 w.heap.size w5.heap.size v1 v2 (.slice (some ⟨k1, 0, none⟩) n n) (.slice (some ⟨k2, 0, none⟩) m m) n m p d W) (go_keep) (first | (go_at_call 29; refine (KeepR.to hn2 hm2 (by assumption)).mono ?_; rintro e w' ⟨u, rfl, hu, f0, f1, f2, f3, hK⟩) | (go_at_call 31; refine (KeepR.eq hn2 hm2 (by assumption) (by assumption)).mono ?_; rintro e w' ⟨rfl, f0, f1, f2, f3, hK⟩))
    have hb10 := hK.1
    rename World => wf
    have A10 := Lib.hid (A9.out.below hb10)
    have C10 := Lib.hid (C9.out.below hb10)
    have G10 := Lib.hid (G9.out.below hb10)
    have V110 := Lib.hid (V19.out.below hb10)
    have V210 := Lib.hid (V29.out.below hb10)
    have S110 := Lib.hid (S19.out.below hb10)
    have S210 := Lib.hid (S29.out.below hb10)
    have P10 := Lib.hid (P9.out.below hb10)
    have D10 := Lib.hid (D9.out.below hb10)
    have B10 : Hid (Below w.heap.size w wf) := Lib.hid (B9.out.trans (hb10.mono B9.out.size))
    have ZZ := Lib.hid (Nat.le_trans (Nat.le_trans Z67.out Z8.out) (show w8.heap.size ≤ w8.heap.size from Nat.le_refl _))
    clear hK hu hb10 KD a0 a1 b0 b1 A9 C9 G9 X9 V19 V29 S19 S29 P9 D9 B9 f0 f1
    go_wp2_with fail
    have hne : k1 ≠ k2 := by have := Q2.out; omega
    refine (markR_any k1 k2 n m p d hn2 hm2 hne _ P10.out D10.out).mono ?_
    rintro e w11 ⟨rfl, wm, hg, hg'⟩
    clear f2 f3 hne
    have nA : ∀ j, j ≤ w3.heap.size → some j ≠ some k1 ∧ some j ≠ some k2 := fun j hj => by have := K3.out; have := Q2.out; simp; omega
    have nG : ∀ j, w6.heap.size ≤ j → some j ≠ some k1 ∧ some j ≠ some k2 := fun j hj => by have := Q2.out; have := Q3.out; have := Z6.out; simp; omega
    have A11 := Lib.hid ((A10.out.kept hg (nA _ (Nat.le_of_lt HZ3.out)).1).kept hg' (nA _ (Nat.le_of_lt HZ3.out)).2)
    have C11 := Lib.hid ((C10.out.kept hg (nA _ (Nat.le_refl _)).1).kept hg' (nA _ (Nat.le_refl _)).2)
    have G11 := Lib.hid ((G10.out.kept hg (nG _ Z67.out).1).kept hg' (nG _ Z67.out).2)
    have V111 := Lib.hid ((V110.out.kept hg (fun j e => (nA j (Nat.le_of_lt (L1.out j e))).1)).kept hg' (fun j e => (nA j (Nat.le_of_lt (L1.out j e))).2))
    have V211 := Lib.hid ((V210.out.kept hg (fun j e => (nA j (Nat.le_of_lt (L2.out j e))).1)).kept hg' (fun j e => (nA j (Nat.le_of_lt (L2.out j e))).2))
    have S111 := Lib.hid ((S110.out.kept hg (fun j e => (nG j (M1.out j e)).1)).kept hg' (fun j e => (nG j (M1.out j e)).2))
    have S211 := Lib.hid ((S210.out.kept hg (fun j e => (nG j (M2.out j e)).1)).kept hg' (fun j e => (nG j (M2.out j e)).2))
    have B11 : Hid (Below w.heap.size w w11) := Lib.hid ((B10.out.grown hg B10.out.size (fun k e => by injection e with e; have := K3.out; have := HZ3.out; omega)).grown hg' (Nat.le_trans B10.out.size hg.size) (fun k e => by injection e with e; have := Q2.out; have := K3.out; have := HZ3.out; omega))
    have Z11 : Hid (w7.heap.size < w11.heap.size) := Lib.hid (Nat.lt_of_lt_of_le G10.out.1 (Nat.le_trans hg.size hg'.size))
    clear hg hg' nA nG A10 C10 G10 V110 V210 S110 S210 P10 D10 B10
    obtain ⟨-, c0, c1⟩ := C11.out
    obtain ⟨-, e0, e1⟩ := G11.out
    go_wp2_with fail
    refine (eqR_any _ _ l1.length l2.length _ _ (by omega) (by omega) _ ⟨_, _, rfl, S111.out.arg, S211.out.arg⟩ ⟨_, _, rfl, V111.out.arg, V211.out.arg⟩).mono ?_
    rintro e w12 ⟨rfl, hb12⟩
    have A12 := Lib.hid (A11.out.below hb12)
    have C12 := Lib.hid (C11.out.below hb12)
    have G12 := Lib.hid (G11.out.below hb12)
    have V112 := Lib.hid (V111.out.below hb12)
    have V212 := Lib.hid (V211.out.below hb12)
    have S112 := Lib.hid (S111.out.below hb12)
    have S212 := Lib.hid (S211.out.below hb12)
    have B12 : Hid (Below w.heap.size w w12) := Lib.hid (B11.out.trans (hb12.mono B11.out.size))
    have Z12 : Hid (w7.heap.size < w12.heap.size) := Lib.hid (Nat.lt_of_lt_of_le Z11.out hb12.size)
    clear hb12 c0 c1 e0 e1 A11 C11 G11 V111 V211 S111 S211 B11
    obtain ⟨-, e0, e1⟩ := G12.out
    go_wp2_with fail
    refine (markQ_any _ _ l1.length l2.length _ _ (by omega) (by omega) SE.out _ (fun j e => Nat.lt_trans (N1.out j e) Z12.out) S112.out S212.out).mono ?_
    rintro e w13 ⟨rfl, hm1, hm2', wm, hg, hg'⟩
    have sA : ∀ j, j < w6.heap.size → some j ≠ Value.ownBlock (.slice x3 l1.length y3) ∧ some j ≠ Value.ownBlock (.slice x4 l2.length y4) := fun j hj => ⟨fun e => by have := M1.out j e.symm; omega, fun e => by have := M2.out j e.symm; omega⟩
    have sG : some w7.heap.size ≠ Value.ownBlock (.slice x3 l1.length y3) ∧ some w7.heap.size ≠ Value.ownBlock (.slice x4 l2.length y4) := ⟨fun e => Nat.lt_irrefl _ (N1.out _ e.symm), fun e => Nat.lt_irrefl _ (N2.out _ e.symm)⟩
    have z3 : w3.heap.size < w6.heap.size := by have := K3.out; have := Q2.out; have := Q3.out; have := Z6.out; omega
    have zA : w.heap.size < w6.heap.size := Nat.lt_trans HZ3.out z3
    have T1 := Lib.hid hm1
    have T2 := Lib.hid hm2'
    have A13 := Lib.hid ((A12.out.kept hg (sA _ zA).1).kept hg' (sA _ zA).2)
    have C13 := Lib.hid ((C12.out.kept hg (sA _ z3).1).kept hg' (sA _ z3).2)
    have G13 := Lib.hid ((G12.out.kept hg sG.1).kept hg' sG.2)
    have V113 := Lib.hid ((V112.out.kept hg (fun j e => (sA j (Nat.lt_trans (L1.out j e) z3)).1)).kept hg' (fun j e => (sA j (Nat.lt_trans (L1.out j e) z3)).2))
    have V213 := Lib.hid ((V212.out.kept hg (fun j e => (sA j (Nat.lt_trans (L2.out j e) z3)).1)).kept hg' (fun j e => (sA j (Nat.lt_trans (L2.out j e) z3)).2))
    have B13 : Hid (Below w.heap.size w w13) := Lib.hid ((B12.out.grown hg B12.out.size (fun k e => by have := M1.out k e; omega)).grown hg' (Nat.le_trans B12.out.size hg.size) (fun k e => by have := M2.out k e; omega))
    clear hm1 hm2' hg hg' sA sG e0 e1 A12 C12 G12 V112 V212 S112 S212 B12 z3 zA
    obtain ⟨-, e0, e1⟩ := G13.out
    go_wp2_with fail
    refine (heldQ_any _ _ l1.length l2.length (by omega) (by omega) _ T1.out T2.out).mono ?_
    rintro e w14 ⟨rfl, hb14⟩
    have A14 := Lib.hid (A13.out.below hb14)
    have C14 := Lib.hid (C13.out.below hb14)
    have G14 := Lib.hid (G13.out.below hb14)
    have V114 := Lib.hid (V113.out.below hb14)
    have V214 := Lib.hid (V213.out.below hb14)
    have T14 := Lib.hid (T1.out.below hb14)
    have T24 := Lib.hid (T2.out.below hb14)
    have B14 : Hid (Below w.heap.size w w14) := Lib.hid (B13.out.trans (hb14.mono B13.out.size))
    clear hb14 e0 e1 A13 C13 G13 V113 V213 T1 T2 B13
    obtain ⟨-, a0, a1⟩ := A14.out
    go_wp2_with fail
    refine (toR_any _ n m p d hn2 hm2 _ (HV.out.below B14.out)).mono ?_
    rintro e w15 ⟨h1, h2, rfl, -, -, hr1, hr2, hb15⟩
    have P15 := Lib.hid hr1
    have D15 := Lib.hid hr2
    have C15 := Lib.hid (C14.out.below hb15)
    have G15 := Lib.hid (G14.out.below hb15)
    have V115 := Lib.hid (V114.out.below hb15)
    have V215 := Lib.hid (V214.out.below hb15)
    have T15 := Lib.hid (T14.out.below hb15)
    have T25 := Lib.hid (T24.out.below hb15)
    have B15 : Hid (Below w.heap.size w w15) := Lib.hid (B14.out.trans (hb15.mono B14.out.size))
    clear hb15 hr1 hr2 a0 a1 A14 C14 G14 V114 V214 T14 T24 B14
    go_wp2_with fail
    refine (HI.out h1 h2 _ (row_at P15.out) (row_at D15.out)).mono ?_
    rintro e w16 ⟨t1, t2, rfl, ho1, ho2, -, hb16⟩
    have W1 := Lib.hid (rowN_of_owns ho1)
    have W2 := Lib.hid (rowN_of_owns ho2)
    obtain ⟨x5, y5, rfl⟩ := own_form ho1
    obtain ⟨x6, y6, rfl⟩ := own_form ho2
    have hb17 := below_one w16 (.cells #[.slice x5 l1.length y5, .slice x6 l2.length y6] 26)
    have H17 := Lib.hid (Box.new w16 (.slice x5 l1.length y5) (.slice x6 l2.length y6) 26)
    have W17 := Lib.hid (W1.out.below hb17)
    have W27 := Lib.hid (W2.out.below hb17)
    have C17 := Lib.hid ((C15.out.below hb16).below hb17)
    have G17 := Lib.hid ((G15.out.below hb16).below hb17)
    have V117 := Lib.hid ((V115.out.below hb16).below hb17)
    have V217 := Lib.hid ((V215.out.below hb16).below hb17)
    have T17 := Lib.hid ((T15.out.below hb16).below hb17)
    have T27 := Lib.hid ((T25.out.below hb16).below hb17)
    have B16 : Hid (Below w.heap.size w w16) := Lib.hid (B15.out.trans (hb16.mono B15.out.size))
    have B17 := Lib.hid (B16.out.trans (hb17.mono B16.out.size))
    clear hb16 hb17 ho1 ho2 C15 G15 V115 V215 T15 T25 B15 B16 W1 W2
    obtain ⟨-, c0, c1⟩ := C17.out
    obtain ⟨-, e0, e1⟩ := H17.out
    go_wp2_with fail
    generalize w16.alloc (.cells #[.slice x5 l1.length y5, .slice x6 l2.length y6] 26) = w17 at *
    refine (eqR_any _ _ l1.length l2.length _ _ (by omega) (by omega) _ ⟨_, _, rfl, W17.out.arg, W27.out.arg⟩ ⟨_, _, rfl, V117.out.arg, V217.out.arg⟩).mono ?_
    rintro e w18 ⟨rfl, hb18⟩
    have G18 := Lib.hid (G17.out.below hb18)
    have T18 := Lib.hid (T17.out.below hb18)
    have T28 := Lib.hid (T27.out.below hb18)
    have B18 : Hid (Below w.heap.size w w18) := Lib.hid (B17.out.trans (hb18.mono B17.out.size))
    clear hb18 c0 c1 e0 e1
    obtain ⟨-, e0, e1⟩ := G18.out
    go_wp2_with fail
    refine (heldQ_any _ _ l1.length l2.length (by omega) (by omega) _ T18.out T28.out).mono ?_
    rintro e w19 ⟨rfl, hb19⟩
    have B19 : Hid (Below w.heap.size w w19) := Lib.hid (B18.out.trans (hb19.mono B18.out.size))
    clear hb19
    go_wp2_with fail
    go_ret
    exact ⟨rfl, B19.out⟩

theorem turnA_len (n m : Nat) (p d f : Nat → Int) (i : Int) : (turnA n m p d f i).length ≤ 12 := by
  cases hi : askB n m p d i with
  | false => rw [turnA_no hi]; decide
  | true =>
    obtain ⟨hr, i0, i1⟩ := askB_iff.1 hi
    have := (good_of hr).top
    rw [turnA_yes hi, turnL_len _ _ _ (by omega)]
    exact this

set_option maxRecDepth 100000 in
theorem turn_lifted (os : Os) (started : os.Started) (H : Type) (enc : TypeId × Value → H) :
    ReturnsInHanded {} Try.checked os 10 .any (Rows.fnExactTurnRotationSpec.pre6 enc Try.prog Try.f10 Rows.fnExactTurnRotationRow.domain false) (Rows.fnExactTurnRotationSpec.post enc Try.prog Try.f10 false true false false) := by
  refine returnsInHanded_of_change (C := Try.checked) rot_own started (by kernel_rfl) Try.func10
    (ChangeSpec.witness6 (enc := enc) (C := Try.checked) false ⟨#[], #[.agg #[.slice none 0 0, .slice none 0 0], .int .i64 0], []⟩ 8 (by kernel_rfl) (by kernel_rfl) (by kernel_rfl) (by kernel_rfl)) ?_
  intro W base args ds gs before hval0 hW hcnd0 _
  have hval : ∀ (j : Nat) t v, Try.f10.params[j]? = some t → args[j]? = some v → Value.okWide Try.prog W .any base t v := hval0
  have hW' := hW
  obtain ⟨p, q, hA0, hV, rfl, hfz, _⟩ := hW
  have hA : DataW.TrodAll enc Try.prog W 0 (fun _ => true) true Try.f10.params.toList args.toList ds p := hA0
  rw [Try.params10] at hA hval
  obtain ⟨v0, v1, d0, d1, p0, p1, rfl, rfl, rfl, h0, h1⟩ := trodAll_two hA
  obtain ⟨rfl, rfl⟩ := trodVars_none hV
  obtain ⟨x1, rfl, rfl, rfl, w1⟩ := open_int Try.underlying3 (hval 1 3 v1 rfl rfl) h1
  clear hA0 hval0 hcnd0
  simp only [List.append_nil] at hW'
  have hlt : ∀ x ∈ p0, x.block < W.heap.size := fun x hx => by simpa using hW'.lt x (by simpa using hx)
  obtain ⟨n, m, a, b, hn, hm, hv⟩ := open_rot (hval 0 38 v0 rfl rfl) h0 hlt
  refine (turn_body v0 n m a b _ _ _ (turnA_len n m a b a x1) (turnA_len n m a b b x1) x1 hn hm W hv (fun g1 g2 W h1 h2 => specTurn_any g1 g2 n m a b x1 hn hm W h1 h2) (fun g1 g2 W h1 h2 => implTurn_any g1 g2 n m a b x1 hn hm W h1 h2)).mono fun e W' ⟨he, hB⟩ => ?_
  subst he
  refine ⟨_, rfl, _, _, _, [], p0, [], hW', ?_, ?_, rfl, hB.frame _, fun h => by cases h⟩
  · exact trodAll_mk1 (shut_bool Try.underlying4 true)
  · have h2 := trodAll_mk2 (Below.trod rot_laidOut (by kernel_rfl) (of_decide_eq_true (by kernel_rfl)) h0 hB hlt) (shut_int Try.underlying3 w1)
    rw [List.append_nil] at h2
    exact h2

theorem FnExactTurnRotation_holds : Rows.FnExactTurnRotationSaid :=
  OpenClaim.holds_of_wide 10 Try.f10 rfl rfl rfl rfl rfl rfl rfl ⟨rfl, rfl, rfl, rfl, rfl⟩ rfl rfl rfl rfl rfl (by kernel_rfl) Try.func10 (by kernel_rfl)
    (of_decide_eq_true (by kernel_rfl)) (by unfold Func.isWrapper; first | (rw [if_pos (by decide +kernel)]; kernel_rfl) | (rw [if_neg (by decide +kernel)]; exact ⟨rfl, rfl⟩))
    (fun os started H enc _ => turn_lifted os started H enc)
#print axioms FnExactTurnRotation_holds
end Go.Proofs.Ythpiahellpnccaa
