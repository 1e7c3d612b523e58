/-
  Proved here: the law FnExactPlaceAll returns true at every yard and every list of ints, and they read afterwards as before. There are no conditions.
-/
import Derived.Test.YthokmklnldoinaaRows
import Derived.Test.YthokmklnldoinaaLawP
import Derived.Test.YthokmklnldoinaaPlcB
import Derived.WalkKit
import Derived.ProofKit
import Derived.OpenShut
namespace Go.Proofs.Ythokmklnldoinaa
open Go.Joins Go.Deep Go.ChangeShapes Go.WideShapes Go.ChangeAt Go.RowKit

set_option maxRecDepth 100000 in
set_option maxHeartbeats 16000000 in
theorem placeAll_body (v : Value) (Y : List (List Int)) (vO : Value) (O : List Int) (R : List (List Int)) (D : List Int) (ok : Bool) (hR : R.length ≤ 1048576) (hT : tot R ≤ 1048576) (hD : D.length ≤ 1048576) (hn : Y.length ≤ maxLen) (hs : ∀ (j : Nat) (l : List Int), Y[j]? = some l → l.length ≤ maxLen) (w : World) (hv : YdR w v Y) (hnO : O.length ≤ maxLen) (hvO : IL w vO O)
    (hspec : Y.length ≤ 1048576 → tot Y ≤ 1048576 → O.length ≤ 1048576 → ∀ (u uO : Value) W, YdR W u Y → OwnI W uO O → Calls Try.prog 33 #[u, uO] W (SeenYL W R D ok))
    (himpl : Y.length ≤ 1048576 → tot Y ≤ 1048576 → O.length ≤ 1048576 → ∀ (u uO : Value) W, YdR W u Y → OwnI W uO O → Calls Try.prog 35 #[u, uO] W (RetYD W R D ok)) :
    Calls Try.prog 7 #[v, vO] w fun e w' => e = .returned (.bool true) ∧ Below w.heap.size w w' := by
  obtain ⟨v0, rfl, hv0⟩ := hv
  have HV : Hid (YdR w (.agg #[v0]) Y) := Lib.hid ⟨v0, rfl, hv0⟩
  have H1 := Lib.hid hspec
  have H2 := Lib.hid himpl
  have HSm := Lib.hid hs
  clear hspec himpl hv0 hs
  have HO := Lib.hid hvO
  obtain ⟨aO, cO, rfl⟩ := hvO.form
  clear hvO
  obtain ⟨nO, hn2⟩ : ∃ n, O.length = n := ⟨_, rfl⟩
  have HNO := Lib.hid hn2
  rw [hn2] at hnO HO ⊢
  clear hn2
  unfold maxLen at hnO
  by_cases hbO : nO ≤ 1048576
  case neg =>
    have hb2O : (1048576 : Int) < (nO : Int) := by omega
    have B := Lib.hid (below_one w (.cells #[v0] 40))
    go_enter Try.func7, Try.ntmps7
    go_wp2_with fail
    go_ret
    exact ⟨rfl, B.out⟩
  have hb2O : ¬ (1048576 : Int) < (nO : Int) := by omega
  have hn3 : O.length ≤ 1048576 := by rw [HNO.out]; exact hbO
  have LOO := Lib.hid hn3
  clear hn3
  go_enter Try.func7, Try.ntmps7
  go_wp2_with fail
  have BA := Lib.hid (Box1.new w v0 40)
  have B := Lib.hid (below_one w (.cells #[v0] 40))
  generalize w.alloc (.cells #[v0] 40) = w0 at *
  have ZA := Lib.hid BA.out.1
  refine (szY_any _ Y 1048576 hn HSm.out (by decide) _ (HV.out.below B.out)).mono ?_
  rintro e w1 ⟨hb, rfl | ⟨r, rfl, hr9, hn2, ht2⟩⟩
  · have B := Lib.hid (B.out.trans (hb.mono B.out.size))
    clear hb
    go_wp2_with fail
    go_ret
    exact ⟨rfl, B.out⟩
  have L1 := Lib.hid hn2
  have L2 := Lib.hid ht2
  have BA := Lib.hid (BA.out.below hb)
  have B := Lib.hid (B.out.trans (hb.mono B.out.size))
  have Z1 := Lib.hid hb.size
  clear hb
  have cBA := BA.out.2
  go_wp2_with fail
  clear cBA
  refine (toY_any (.agg #[v0]) Y L1.out L2.out _ (HV.out.below B.out)).mono ?_
  rintro e w2 ⟨a1, k1, rfl, ho, hb⟩
  have BA := Lib.hid (BA.out.below hb)
  have B := Lib.hid (B.out.trans (hb.mono B.out.size))
  have Z2 := Lib.hid hb.size
  have O1 := Lib.hid ho
  clear ho hb
  have cBA := BA.out.2
  go_wp2_with fail
  clear cBA
  refine (toI_any _ O LOO.out _ (HO.out.below B.out)).mono ?_
  rintro e w3 ⟨aO1, kO1, rfl, ho, hb⟩
  have BA := Lib.hid (BA.out.below hb)
  have O1 := Lib.hid (O1.out.below hb)
  have B := Lib.hid (B.out.trans (hb.mono B.out.size))
  have Z3 := Lib.hid hb.size
  have PO1 := Lib.hid (lo_of_own ho (Nat.le_refl _))
  clear ho hb
  rw [HNO.out] at PO1 ⊢
  have cBA := BA.out.2
  go_wp2_with fail
  clear cBA
  refine (H1.out L1.out L2.out LOO.out _ _ _ ⟨_, rfl, O1.out.yl⟩ ⟨_, PO1.out.2.1⟩).mono ?_
  rintro e w4 ⟨aw, kw, uw, rfl, ho, hoD, hb⟩
  have BA := Lib.hid (BA.out.below hb)
  have O1 := Lib.hid (O1.out.below hb)
  have PO1 := Lib.hid (PO1.out.below hb)
  have B := Lib.hid (B.out.trans (hb.mono B.out.size))
  have Z4 := Lib.hid hb.size
  have W0 := Lib.hid ho
  have W1 := Lib.hid hoD
  obtain ⟨aw1, kw1, rfl⟩ := hoD.form
  clear hb ho hoD
  clear O1
  clear PO1
  have BS := Lib.hid (Below.refl w4.heap.size w4)
  obtain ⟨nd, hnd⟩ : ∃ nd, D.length = nd := ⟨_, rfl⟩
  have HND := Lib.hid hnd
  rw [hnd] at W1 hD ⊢
  clear hnd
  have cBA := BA.out.2
  have dBA := fun o => (World.cell?_alloc_lt w4 o ⟨w.heap.size, 0, none⟩ BA.out.1).trans BA.out.2
  go_wp2_with fail
  clear cBA
  clear dBA
  have hb := below_one w4 (.cells #[.slice aw R.length kw] 26)
  have BW := Lib.hid (Box1.new w4 (.slice aw R.length kw) 26)
  have BA := Lib.hid (BA.out.below hb)
  have BS := Lib.hid (BS.out.trans (hb.mono BS.out.size))
  have B := Lib.hid (B.out.trans (hb.mono B.out.size))
  have Z5 := Lib.hid hb.size
  clear hb
  generalize w4.alloc (.cells #[.slice aw R.length kw] 26) = w5 at *
  have Z6 := Lib.hid BW.out.1
  have cBA := BA.out.2
  have cBW := BW.out.2
  go_wp2_with fail
  clear cBA cBW
  refine (toY_any (.agg #[v0]) Y L1.out L2.out _ (HV.out.below B.out)).mono ?_
  rintro e w6 ⟨a3, k3, rfl, ho, hb⟩
  have BA := Lib.hid (BA.out.below hb)
  have BW := Lib.hid (BW.out.below hb)
  have BS := Lib.hid (BS.out.trans (hb.mono BS.out.size))
  have B := Lib.hid (B.out.trans (hb.mono B.out.size))
  have Z7 := Lib.hid hb.size
  have O3 := Lib.hid ho
  clear ho hb
  have cBA := BA.out.2
  have cBW := BW.out.2
  have dBA := fun o => (World.cell?_alloc_lt w6 o ⟨w.heap.size, 0, none⟩ BA.out.1).trans BA.out.2
  have dBW := fun o => (World.cell?_alloc_lt w6 o ⟨w4.heap.size, 0, none⟩ BW.out.1).trans BW.out.2
  go_wp2_with fail
  clear cBA cBW
  clear dBA dBW
  have hb := below_one w6 (.cells #[.slice a3 Y.length k3] 26)
  have BX := Lib.hid (Box1.new w6 (.slice a3 Y.length k3) 26)
  have BA := Lib.hid (BA.out.below hb)
  have BW := Lib.hid (BW.out.below hb)
  have O3 := Lib.hid (O3.out.below hb)
  have BS := Lib.hid (BS.out.trans (hb.mono BS.out.size))
  have B := Lib.hid (B.out.trans (hb.mono B.out.size))
  have Z8 := Lib.hid hb.size
  clear hb
  generalize w6.alloc (.cells #[.slice a3 Y.length k3] 26) = w7 at *
  have Z9 := Lib.hid BX.out.1
  have cBA := BA.out.2
  have cBW := BW.out.2
  have cBX := BX.out.2
  go_wp2_with fail
  clear cBA cBW cBX
  refine (toI_any _ O LOO.out _ (HO.out.below B.out)).mono ?_
  rintro e w8 ⟨aO3, kO3, rfl, ho, hb⟩
  have BA := Lib.hid (BA.out.below hb)
  have BW := Lib.hid (BW.out.below hb)
  have O3 := Lib.hid (O3.out.below hb)
  have BX := Lib.hid (BX.out.below hb)
  have BS := Lib.hid (BS.out.trans (hb.mono BS.out.size))
  have B := Lib.hid (B.out.trans (hb.mono B.out.size))
  have Z10 := Lib.hid hb.size
  have PO3 := Lib.hid (lo_of_own ho (Nat.le_refl _))
  clear ho hb
  rw [HNO.out] at PO3 ⊢
  have cBA := BA.out.2
  have cBW := BW.out.2
  have cBX := BX.out.2
  go_wp2_with fail
  clear cBA cBW cBX
  refine (H2.out L1.out L2.out LOO.out _ _ _ ⟨_, rfl, O3.out.yl⟩ ⟨_, PO3.out.2.1⟩).mono ?_
  rintro e w9 ⟨ag4, kg4, ug4, rfl, ho, hb⟩
  have BA := Lib.hid (BA.out.below hb)
  have BW := Lib.hid (BW.out.below hb)
  have O3 := Lib.hid (O3.out.below hb)
  have BX := Lib.hid (BX.out.below hb)
  have PO3 := Lib.hid (PO3.out.below hb)
  have BS := Lib.hid (BS.out.trans (hb.mono BS.out.size))
  have B := Lib.hid (B.out.trans (hb.mono B.out.size))
  have Z11 := Lib.hid hb.size
  have G4 := Lib.hid ho
  obtain ⟨ad4, kd4, rfl⟩ := own_form ho.2.1.2.1
  clear hb ho
  rw [HND.out] at G4 ⊢
  have cBA := BA.out.2
  have cBW := BW.out.2
  have cBX := BX.out.2
  have dBA := fun o => (World.cell?_alloc_lt w9 o ⟨w.heap.size, 0, none⟩ BA.out.1).trans BA.out.2
  have dBW := fun o => (World.cell?_alloc_lt w9 o ⟨w4.heap.size, 0, none⟩ BW.out.1).trans BW.out.2
  have dBX := fun o => (World.cell?_alloc_lt w9 o ⟨w6.heap.size, 0, none⟩ BX.out.1).trans BX.out.2
  go_wp2_with fail
  clear cBA cBW cBX
  clear dBA dBW dBX
  have hb := below_one w9 (.cells #[.slice ag4 R.length kg4] 26)
  have BG4 := Lib.hid (Box1.new w9 (.slice ag4 R.length kg4) 26)
  have BA := Lib.hid (BA.out.below hb)
  have BW := Lib.hid (BW.out.below hb)
  have O3 := Lib.hid (O3.out.below hb)
  have BX := Lib.hid (BX.out.below hb)
  have PO3 := Lib.hid (PO3.out.below hb)
  have G4 := Lib.hid (G4.out.below hb)
  have BS := Lib.hid (BS.out.trans (hb.mono BS.out.size))
  have B := Lib.hid (B.out.trans (hb.mono B.out.size))
  have Z12 := Lib.hid hb.size
  clear hb
  generalize w9.alloc (.cells #[.slice ag4 R.length kg4] 26) = w10 at *
  have Z13 := Lib.hid BG4.out.1
  have cBA := BA.out.2
  have cBW := BW.out.2
  have cBX := BX.out.2
  have cBG4 := BG4.out.2
  go_wp2_with fail
  clear cBA cBW cBX cBG4
  refine (eqY_any _ _ R hR hT _ ⟨_, rfl, G4.out.1.yl⟩ ⟨_, rfl, W0.out.below BS.out⟩).mono ?_
  rintro e w11 ⟨rfl, hb⟩
  have BA := Lib.hid (BA.out.below hb)
  have BW := Lib.hid (BW.out.below hb)
  have O3 := Lib.hid (O3.out.below hb)
  have BX := Lib.hid (BX.out.below hb)
  have PO3 := Lib.hid (PO3.out.below hb)
  have G4 := Lib.hid (G4.out.below hb)
  have BG4 := Lib.hid (BG4.out.below hb)
  have BS := Lib.hid (BS.out.trans (hb.mono BS.out.size))
  have B := Lib.hid (B.out.trans (hb.mono B.out.size))
  have Z14 := Lib.hid hb.size
  clear hb
  have cBA := BA.out.2
  have cBW := BW.out.2
  have cBX := BX.out.2
  have cBG4 := BG4.out.2
  go_wp2_with fail
  clear cBA cBW cBX cBG4
  refine (eqL_any _ _ D (by rw [HND.out]; exact hD) _ G4.out.2.1.read (W1.out.below BS.out)).mono ?_
  rintro e w12 ⟨rfl, hb⟩
  have BA := Lib.hid (BA.out.below hb)
  have BW := Lib.hid (BW.out.below hb)
  have O3 := Lib.hid (O3.out.below hb)
  have BX := Lib.hid (BX.out.below hb)
  have PO3 := Lib.hid (PO3.out.below hb)
  have G4 := Lib.hid (G4.out.below hb)
  have BG4 := Lib.hid (BG4.out.below hb)
  have BS := Lib.hid (BS.out.trans (hb.mono BS.out.size))
  have B := Lib.hid (B.out.trans (hb.mono B.out.size))
  have Z15 := Lib.hid hb.size
  clear hb
  have cBA := BA.out.2
  have cBW := BW.out.2
  have cBX := BX.out.2
  have cBG4 := BG4.out.2
  go_wp2_with fail
  have K0 := (KeepY.start (HV.out.below B.out) ⟨_, rfl, O3.out.yl⟩ BA.out BX.out).drew
  have KT := Lib.hid L1.out
  have hq1 := L1.out
  have hq2 := L2.out
  clear cBA cBW cBX cBG4
  obtain ⟨hk1, hk2⟩ : w12.drew.cell? ⟨w.heap.size, 0, none⟩ = some v0 ∧ w12.drew.cell? ⟨w6.heap.size, 0, none⟩ = some (.slice a3 Y.length k3) := ⟨K0.2.2.2.1.2, K0.2.2.2.2.2⟩
  go_region_held3 (fun W => (W.cell? ⟨w.heap.size, 0, none⟩ = some v0 ∧ W.cell? ⟨w6.heap.size, 0, none⟩ = some (.slice a3 Y.length k3)) ∧ KeepY w12 w.heap.size w6.heap.size v0 (.slice a3 Y.length k3) Y W) (go_keep) (first | (go_at_call 26; refine (KeepY.to L1.out L2.out (by assumption)).mono ?_; rintro e w' ⟨u, rfl, hu, x0, x1, hK⟩) | (go_at_call 28; refine (KeepY.eq L1.out L2.out (by assumption) (by assumption)).mono ?_; rintro e w' ⟨rfl, x0, x1, hK⟩))
  rename World => w13
  have hb := hK.1
  clear hK x0 x1 hu hq1 hq2 KT
  have BA := Lib.hid (BA.out.below hb)
  have BW := Lib.hid (BW.out.below hb)
  have O3 := Lib.hid (O3.out.below hb)
  have BX := Lib.hid (BX.out.below hb)
  have PO3 := Lib.hid (PO3.out.below hb)
  have G4 := Lib.hid (G4.out.below hb)
  have BG4 := Lib.hid (BG4.out.below hb)
  have BS := Lib.hid (BS.out.trans (hb.mono BS.out.size))
  have B := Lib.hid (B.out.trans (hb.mono B.out.size))
  have Z16 := Lib.hid hb.size
  clear hb
  have cBA := BA.out.2
  have cBW := BW.out.2
  have cBX := BX.out.2
  have cBG4 := BG4.out.2
  go_wp2_with fail
  clear cBA cBW cBX cBG4
  refine (toI_any _ O LOO.out _ (HO.out.below B.out)).mono ?_
  rintro e w14 ⟨aO5, kO5, rfl, ho, hb⟩
  have BA := Lib.hid (BA.out.below hb)
  have BW := Lib.hid (BW.out.below hb)
  have O3 := Lib.hid (O3.out.below hb)
  have BX := Lib.hid (BX.out.below hb)
  have PO3 := Lib.hid (PO3.out.below hb)
  have G4 := Lib.hid (G4.out.below hb)
  have BG4 := Lib.hid (BG4.out.below hb)
  have BS := Lib.hid (BS.out.trans (hb.mono BS.out.size))
  have B := Lib.hid (B.out.trans (hb.mono B.out.size))
  have Z17 := Lib.hid hb.size
  have PO5 := Lib.hid (lo_of_own ho (Nat.le_refl _))
  clear ho hb
  rw [HNO.out] at PO5 ⊢
  have cBA := BA.out.2
  have cBW := BW.out.2
  have cBX := BX.out.2
  have cBG4 := BG4.out.2
  go_wp2_with fail
  clear cBA cBW cBX cBG4
  refine (eqL_any _ _ O LOO.out _ PO3.out.read PO5.out.read).mono ?_
  rintro e w15 ⟨rfl, hb⟩
  have BA := Lib.hid (BA.out.below hb)
  have BW := Lib.hid (BW.out.below hb)
  have O3 := Lib.hid (O3.out.below hb)
  have BX := Lib.hid (BX.out.below hb)
  have PO3 := Lib.hid (PO3.out.below hb)
  have G4 := Lib.hid (G4.out.below hb)
  have BG4 := Lib.hid (BG4.out.below hb)
  have PO5 := Lib.hid (PO5.out.below hb)
  have BS := Lib.hid (BS.out.trans (hb.mono BS.out.size))
  have B := Lib.hid (B.out.trans (hb.mono B.out.size))
  have Z18 := Lib.hid hb.size
  clear hb
  clear PO5
  have cBA := BA.out.2
  have cBW := BW.out.2
  have cBX := BX.out.2
  have cBG4 := BG4.out.2
  go_wp2_with fail
  clear cBA cBW cBX cBG4
  refine (markY_any _ Y 1 w5.heap.size w6.heap.size L1.out L2.out (by decide) (by decide) _ ⟨_, rfl, O3.out⟩).mono ?_
  rintro e w16 ⟨rfl, -, hS⟩
  clear O3
  have BA := Lib.hid (BA.out.span hS (by have z0 := ZA.out; have z1 := Z1.out; have z2 := Z2.out; have z3 := Z3.out; have z4 := Z4.out; have z5 := Z5.out; have z6 := Z6.out; have z7 := Z7.out; have z8 := Z8.out; have z9 := Z9.out; have z10 := Z10.out; have z11 := Z11.out; have z12 := Z12.out; have z13 := Z13.out; have z14 := Z14.out; have z15 := Z15.out; have z16 := Z16.out; have z17 := Z17.out; have z18 := Z18.out; have y0 := BA.out.1; have y1 := BW.out.1; have y2 := BX.out.1; have y3 := BG4.out.1; omega))
  have BW := Lib.hid (BW.out.span hS (by have z0 := ZA.out; have z1 := Z1.out; have z2 := Z2.out; have z3 := Z3.out; have z4 := Z4.out; have z5 := Z5.out; have z6 := Z6.out; have z7 := Z7.out; have z8 := Z8.out; have z9 := Z9.out; have z10 := Z10.out; have z11 := Z11.out; have z12 := Z12.out; have z13 := Z13.out; have z14 := Z14.out; have z15 := Z15.out; have z16 := Z16.out; have z17 := Z17.out; have z18 := Z18.out; have y0 := BA.out.1; have y1 := BW.out.1; have y2 := BX.out.1; have y3 := BG4.out.1; omega))
  have BX := Lib.hid (BX.out.span hS (by have z0 := ZA.out; have z1 := Z1.out; have z2 := Z2.out; have z3 := Z3.out; have z4 := Z4.out; have z5 := Z5.out; have z6 := Z6.out; have z7 := Z7.out; have z8 := Z8.out; have z9 := Z9.out; have z10 := Z10.out; have z11 := Z11.out; have z12 := Z12.out; have z13 := Z13.out; have z14 := Z14.out; have z15 := Z15.out; have z16 := Z16.out; have z17 := Z17.out; have z18 := Z18.out; have y0 := BA.out.1; have y1 := BW.out.1; have y2 := BX.out.1; have y3 := BG4.out.1; omega))
  have PO3 := Lib.hid (PO3.out.span hS (by have z0 := ZA.out; have z1 := Z1.out; have z2 := Z2.out; have z3 := Z3.out; have z4 := Z4.out; have z5 := Z5.out; have z6 := Z6.out; have z7 := Z7.out; have z8 := Z8.out; have z9 := Z9.out; have z10 := Z10.out; have z11 := Z11.out; have z12 := Z12.out; have z13 := Z13.out; have z14 := Z14.out; have z15 := Z15.out; have z16 := Z16.out; have z17 := Z17.out; have z18 := Z18.out; have y0 := BA.out.1; have y1 := BW.out.1; have y2 := BX.out.1; have y3 := BG4.out.1; omega))
  have G4 := Lib.hid (G4.out.span hS (by have z0 := ZA.out; have z1 := Z1.out; have z2 := Z2.out; have z3 := Z3.out; have z4 := Z4.out; have z5 := Z5.out; have z6 := Z6.out; have z7 := Z7.out; have z8 := Z8.out; have z9 := Z9.out; have z10 := Z10.out; have z11 := Z11.out; have z12 := Z12.out; have z13 := Z13.out; have z14 := Z14.out; have z15 := Z15.out; have z16 := Z16.out; have z17 := Z17.out; have z18 := Z18.out; have y0 := BA.out.1; have y1 := BW.out.1; have y2 := BX.out.1; have y3 := BG4.out.1; omega))
  have BG4 := Lib.hid (BG4.out.span hS (by have z0 := ZA.out; have z1 := Z1.out; have z2 := Z2.out; have z3 := Z3.out; have z4 := Z4.out; have z5 := Z5.out; have z6 := Z6.out; have z7 := Z7.out; have z8 := Z8.out; have z9 := Z9.out; have z10 := Z10.out; have z11 := Z11.out; have z12 := Z12.out; have z13 := Z13.out; have z14 := Z14.out; have z15 := Z15.out; have z16 := Z16.out; have z17 := Z17.out; have z18 := Z18.out; have y0 := BA.out.1; have y1 := BW.out.1; have y2 := BX.out.1; have y3 := BG4.out.1; omega))
  have BS := Lib.hid (Below.span (BS.out.mono (Nat.le_refl _)) (hS.lift (by have z0 := ZA.out; have z1 := Z1.out; have z2 := Z2.out; have z3 := Z3.out; have z4 := Z4.out; have z5 := Z5.out; have z6 := Z6.out; have z7 := Z7.out; have z8 := Z8.out; have z9 := Z9.out; have z10 := Z10.out; have z11 := Z11.out; have z12 := Z12.out; have z13 := Z13.out; have z14 := Z14.out; have z15 := Z15.out; have z16 := Z16.out; have z17 := Z17.out; have z18 := Z18.out; have y0 := BA.out.1; have y1 := BW.out.1; have y2 := BX.out.1; have y3 := BG4.out.1; omega)) BS.out.size)
  have B := Lib.hid (Below.span (B.out.mono (Nat.le_refl _)) (hS.lift (by have z0 := ZA.out; have z1 := Z1.out; have z2 := Z2.out; have z3 := Z3.out; have z4 := Z4.out; have z5 := Z5.out; have z6 := Z6.out; have z7 := Z7.out; have z8 := Z8.out; have z9 := Z9.out; have z10 := Z10.out; have z11 := Z11.out; have z12 := Z12.out; have z13 := Z13.out; have z14 := Z14.out; have z15 := Z15.out; have z16 := Z16.out; have z17 := Z17.out; have z18 := Z18.out; have y0 := BA.out.1; have y1 := BW.out.1; have y2 := BX.out.1; have y3 := BG4.out.1; omega)) B.out.size)
  have Z19 := Lib.hid hS.size
  clear hS
  obtain ⟨t0, ht0⟩ : ∃ t0 : Int, 1 + (tot Y : Int) = t0 := ⟨_, rfl⟩
  rw [ht0]
  have hta0 : 0 ≤ t0 := by omega
  have htb0 : t0 ≤ 1048577 := by have := L2.out; omega
  clear ht0
  have cBA := BA.out.2
  have cBW := BW.out.2
  have cBX := BX.out.2
  have cBG4 := BG4.out.2
  go_wp2_with fail
  clear cBA cBW cBX cBG4
  refine (markL_wide _ O t0 w7.heap.size w8.heap.size LOO.out hta0 (by omega) _ PO3.out).mono ?_
  rintro e w17 ⟨rfl, -, hS⟩
  clear PO3
  have BA := Lib.hid (BA.out.span hS (by have z0 := ZA.out; have z1 := Z1.out; have z2 := Z2.out; have z3 := Z3.out; have z4 := Z4.out; have z5 := Z5.out; have z6 := Z6.out; have z7 := Z7.out; have z8 := Z8.out; have z9 := Z9.out; have z10 := Z10.out; have z11 := Z11.out; have z12 := Z12.out; have z13 := Z13.out; have z14 := Z14.out; have z15 := Z15.out; have z16 := Z16.out; have z17 := Z17.out; have z18 := Z18.out; have z19 := Z19.out; have y0 := BA.out.1; have y1 := BW.out.1; have y2 := BX.out.1; have y3 := BG4.out.1; omega))
  have BW := Lib.hid (BW.out.span hS (by have z0 := ZA.out; have z1 := Z1.out; have z2 := Z2.out; have z3 := Z3.out; have z4 := Z4.out; have z5 := Z5.out; have z6 := Z6.out; have z7 := Z7.out; have z8 := Z8.out; have z9 := Z9.out; have z10 := Z10.out; have z11 := Z11.out; have z12 := Z12.out; have z13 := Z13.out; have z14 := Z14.out; have z15 := Z15.out; have z16 := Z16.out; have z17 := Z17.out; have z18 := Z18.out; have z19 := Z19.out; have y0 := BA.out.1; have y1 := BW.out.1; have y2 := BX.out.1; have y3 := BG4.out.1; omega))
  have BX := Lib.hid (BX.out.span hS (by have z0 := ZA.out; have z1 := Z1.out; have z2 := Z2.out; have z3 := Z3.out; have z4 := Z4.out; have z5 := Z5.out; have z6 := Z6.out; have z7 := Z7.out; have z8 := Z8.out; have z9 := Z9.out; have z10 := Z10.out; have z11 := Z11.out; have z12 := Z12.out; have z13 := Z13.out; have z14 := Z14.out; have z15 := Z15.out; have z16 := Z16.out; have z17 := Z17.out; have z18 := Z18.out; have z19 := Z19.out; have y0 := BA.out.1; have y1 := BW.out.1; have y2 := BX.out.1; have y3 := BG4.out.1; omega))
  have G4 := Lib.hid (G4.out.span hS (by have z0 := ZA.out; have z1 := Z1.out; have z2 := Z2.out; have z3 := Z3.out; have z4 := Z4.out; have z5 := Z5.out; have z6 := Z6.out; have z7 := Z7.out; have z8 := Z8.out; have z9 := Z9.out; have z10 := Z10.out; have z11 := Z11.out; have z12 := Z12.out; have z13 := Z13.out; have z14 := Z14.out; have z15 := Z15.out; have z16 := Z16.out; have z17 := Z17.out; have z18 := Z18.out; have z19 := Z19.out; have y0 := BA.out.1; have y1 := BW.out.1; have y2 := BX.out.1; have y3 := BG4.out.1; omega))
  have BG4 := Lib.hid (BG4.out.span hS (by have z0 := ZA.out; have z1 := Z1.out; have z2 := Z2.out; have z3 := Z3.out; have z4 := Z4.out; have z5 := Z5.out; have z6 := Z6.out; have z7 := Z7.out; have z8 := Z8.out; have z9 := Z9.out; have z10 := Z10.out; have z11 := Z11.out; have z12 := Z12.out; have z13 := Z13.out; have z14 := Z14.out; have z15 := Z15.out; have z16 := Z16.out; have z17 := Z17.out; have z18 := Z18.out; have z19 := Z19.out; have y0 := BA.out.1; have y1 := BW.out.1; have y2 := BX.out.1; have y3 := BG4.out.1; omega))
  have BS := Lib.hid (Below.span (BS.out.mono (Nat.le_refl _)) (hS.lift (by have z0 := ZA.out; have z1 := Z1.out; have z2 := Z2.out; have z3 := Z3.out; have z4 := Z4.out; have z5 := Z5.out; have z6 := Z6.out; have z7 := Z7.out; have z8 := Z8.out; have z9 := Z9.out; have z10 := Z10.out; have z11 := Z11.out; have z12 := Z12.out; have z13 := Z13.out; have z14 := Z14.out; have z15 := Z15.out; have z16 := Z16.out; have z17 := Z17.out; have z18 := Z18.out; have z19 := Z19.out; have y0 := BA.out.1; have y1 := BW.out.1; have y2 := BX.out.1; have y3 := BG4.out.1; omega)) BS.out.size)
  have B := Lib.hid (Below.span (B.out.mono (Nat.le_refl _)) (hS.lift (by have z0 := ZA.out; have z1 := Z1.out; have z2 := Z2.out; have z3 := Z3.out; have z4 := Z4.out; have z5 := Z5.out; have z6 := Z6.out; have z7 := Z7.out; have z8 := Z8.out; have z9 := Z9.out; have z10 := Z10.out; have z11 := Z11.out; have z12 := Z12.out; have z13 := Z13.out; have z14 := Z14.out; have z15 := Z15.out; have z16 := Z16.out; have z17 := Z17.out; have z18 := Z18.out; have z19 := Z19.out; have y0 := BA.out.1; have y1 := BW.out.1; have y2 := BX.out.1; have y3 := BG4.out.1; omega)) B.out.size)
  have Z20 := Lib.hid hS.size
  clear hS
  rw [HNO.out]
  obtain ⟨t1, ht1⟩ : ∃ z : Int, t0 + (nO : Int) = z := ⟨_, rfl⟩
  rw [ht1]
  have hta1 : 0 ≤ t1 := by omega
  have htb1 : t1 ≤ 2097153 := by omega
  clear ht1
  have cBA := BA.out.2
  have cBW := BW.out.2
  have cBX := BX.out.2
  have cBG4 := BG4.out.2
  go_wp2_with fail
  clear cBA cBW cBX cBG4
  refine (eqY_any _ _ R hR hT _ ⟨_, rfl, G4.out.1.yl⟩ ⟨_, rfl, W0.out.below BS.out⟩).mono ?_
  rintro e w18 ⟨rfl, hb⟩
  have BA := Lib.hid (BA.out.below hb)
  have BW := Lib.hid (BW.out.below hb)
  have BX := Lib.hid (BX.out.below hb)
  have G4 := Lib.hid (G4.out.below hb)
  have BG4 := Lib.hid (BG4.out.below hb)
  have BS := Lib.hid (BS.out.trans (hb.mono BS.out.size))
  have B := Lib.hid (B.out.trans (hb.mono B.out.size))
  have Z21 := Lib.hid hb.size
  clear hb
  have cBA := BA.out.2
  have cBW := BW.out.2
  have cBX := BX.out.2
  have cBG4 := BG4.out.2
  go_wp2_with fail
  clear cBA cBW cBX cBG4
  refine (eqL_any _ _ D (by rw [HND.out]; exact hD) _ G4.out.2.1.read (W1.out.below BS.out)).mono ?_
  rintro e w19 ⟨rfl, hb⟩
  have BA := Lib.hid (BA.out.below hb)
  have BW := Lib.hid (BW.out.below hb)
  have BX := Lib.hid (BX.out.below hb)
  have G4 := Lib.hid (G4.out.below hb)
  have BG4 := Lib.hid (BG4.out.below hb)
  have BS := Lib.hid (BS.out.trans (hb.mono BS.out.size))
  have B := Lib.hid (B.out.trans (hb.mono B.out.size))
  have Z22 := Lib.hid hb.size
  clear hb
  have cBA := BA.out.2
  have cBW := BW.out.2
  have cBX := BX.out.2
  have cBG4 := BG4.out.2
  go_wp2_with fail
  clear cBA cBW cBX cBG4
  refine (markY_d _ _ R D 1 _ _ hR hT (by decide) (by decide) _ G4.out).mono ?_
  rintro e w20 ⟨rfl, hM, hS⟩
  clear G4
  have G4 := Lib.hid hM
  clear hM
  have BA := Lib.hid (BA.out.span hS (by have z0 := ZA.out; have z1 := Z1.out; have z2 := Z2.out; have z3 := Z3.out; have z4 := Z4.out; have z5 := Z5.out; have z6 := Z6.out; have z7 := Z7.out; have z8 := Z8.out; have z9 := Z9.out; have z10 := Z10.out; have z11 := Z11.out; have z12 := Z12.out; have z13 := Z13.out; have z14 := Z14.out; have z15 := Z15.out; have z16 := Z16.out; have z17 := Z17.out; have z18 := Z18.out; have z19 := Z19.out; have z20 := Z20.out; have z21 := Z21.out; have z22 := Z22.out; have y0 := BA.out.1; have y1 := BW.out.1; have y2 := BX.out.1; have y3 := BG4.out.1; omega))
  have BW := Lib.hid (BW.out.span hS (by have z0 := ZA.out; have z1 := Z1.out; have z2 := Z2.out; have z3 := Z3.out; have z4 := Z4.out; have z5 := Z5.out; have z6 := Z6.out; have z7 := Z7.out; have z8 := Z8.out; have z9 := Z9.out; have z10 := Z10.out; have z11 := Z11.out; have z12 := Z12.out; have z13 := Z13.out; have z14 := Z14.out; have z15 := Z15.out; have z16 := Z16.out; have z17 := Z17.out; have z18 := Z18.out; have z19 := Z19.out; have z20 := Z20.out; have z21 := Z21.out; have z22 := Z22.out; have y0 := BA.out.1; have y1 := BW.out.1; have y2 := BX.out.1; have y3 := BG4.out.1; omega))
  have BX := Lib.hid (BX.out.span hS (by have z0 := ZA.out; have z1 := Z1.out; have z2 := Z2.out; have z3 := Z3.out; have z4 := Z4.out; have z5 := Z5.out; have z6 := Z6.out; have z7 := Z7.out; have z8 := Z8.out; have z9 := Z9.out; have z10 := Z10.out; have z11 := Z11.out; have z12 := Z12.out; have z13 := Z13.out; have z14 := Z14.out; have z15 := Z15.out; have z16 := Z16.out; have z17 := Z17.out; have z18 := Z18.out; have z19 := Z19.out; have z20 := Z20.out; have z21 := Z21.out; have z22 := Z22.out; have y0 := BA.out.1; have y1 := BW.out.1; have y2 := BX.out.1; have y3 := BG4.out.1; omega))
  have BG4 := Lib.hid (BG4.out.span hS (by have z0 := ZA.out; have z1 := Z1.out; have z2 := Z2.out; have z3 := Z3.out; have z4 := Z4.out; have z5 := Z5.out; have z6 := Z6.out; have z7 := Z7.out; have z8 := Z8.out; have z9 := Z9.out; have z10 := Z10.out; have z11 := Z11.out; have z12 := Z12.out; have z13 := Z13.out; have z14 := Z14.out; have z15 := Z15.out; have z16 := Z16.out; have z17 := Z17.out; have z18 := Z18.out; have z19 := Z19.out; have z20 := Z20.out; have z21 := Z21.out; have z22 := Z22.out; have y0 := BA.out.1; have y1 := BW.out.1; have y2 := BX.out.1; have y3 := BG4.out.1; omega))
  have BS := Lib.hid (Below.span (BS.out.mono (Nat.le_refl _)) (hS.lift (by have z0 := ZA.out; have z1 := Z1.out; have z2 := Z2.out; have z3 := Z3.out; have z4 := Z4.out; have z5 := Z5.out; have z6 := Z6.out; have z7 := Z7.out; have z8 := Z8.out; have z9 := Z9.out; have z10 := Z10.out; have z11 := Z11.out; have z12 := Z12.out; have z13 := Z13.out; have z14 := Z14.out; have z15 := Z15.out; have z16 := Z16.out; have z17 := Z17.out; have z18 := Z18.out; have z19 := Z19.out; have z20 := Z20.out; have z21 := Z21.out; have z22 := Z22.out; have y0 := BA.out.1; have y1 := BW.out.1; have y2 := BX.out.1; have y3 := BG4.out.1; omega)) BS.out.size)
  have B := Lib.hid (Below.span (B.out.mono (Nat.le_refl _)) (hS.lift (by have z0 := ZA.out; have z1 := Z1.out; have z2 := Z2.out; have z3 := Z3.out; have z4 := Z4.out; have z5 := Z5.out; have z6 := Z6.out; have z7 := Z7.out; have z8 := Z8.out; have z9 := Z9.out; have z10 := Z10.out; have z11 := Z11.out; have z12 := Z12.out; have z13 := Z13.out; have z14 := Z14.out; have z15 := Z15.out; have z16 := Z16.out; have z17 := Z17.out; have z18 := Z18.out; have z19 := Z19.out; have z20 := Z20.out; have z21 := Z21.out; have z22 := Z22.out; have y0 := BA.out.1; have y1 := BW.out.1; have y2 := BX.out.1; have y3 := BG4.out.1; omega)) B.out.size)
  have Z23 := Lib.hid hS.size
  clear hS
  obtain ⟨tr, htr⟩ : ∃ tr : Int, 1 + (tot R : Int) = tr := ⟨_, rfl⟩
  rw [htr]
  have HTR := Lib.hid htr
  have htr0 : 0 ≤ tr := by omega
  have htr1 : tr ≤ 1048577 := by omega
  clear htr
  have cBA := BA.out.2
  have cBW := BW.out.2
  have cBX := BX.out.2
  have cBG4 := BG4.out.2
  go_wp2_with fail
  clear cBA cBW cBX cBG4
  refine (markL_d _ _ _ D tr _ _ (by rw [HND.out]; exact hD) htr0 (by omega) _ G4.out).mono ?_
  rintro e w21 ⟨rfl, hM, hS⟩
  clear G4
  have G4 := Lib.hid hM
  clear hM
  have BA := Lib.hid (BA.out.span hS (by have z0 := ZA.out; have z1 := Z1.out; have z2 := Z2.out; have z3 := Z3.out; have z4 := Z4.out; have z5 := Z5.out; have z6 := Z6.out; have z7 := Z7.out; have z8 := Z8.out; have z9 := Z9.out; have z10 := Z10.out; have z11 := Z11.out; have z12 := Z12.out; have z13 := Z13.out; have z14 := Z14.out; have z15 := Z15.out; have z16 := Z16.out; have z17 := Z17.out; have z18 := Z18.out; have z19 := Z19.out; have z20 := Z20.out; have z21 := Z21.out; have z22 := Z22.out; have z23 := Z23.out; have y0 := BA.out.1; have y1 := BW.out.1; have y2 := BX.out.1; have y3 := BG4.out.1; omega))
  have BW := Lib.hid (BW.out.span hS (by have z0 := ZA.out; have z1 := Z1.out; have z2 := Z2.out; have z3 := Z3.out; have z4 := Z4.out; have z5 := Z5.out; have z6 := Z6.out; have z7 := Z7.out; have z8 := Z8.out; have z9 := Z9.out; have z10 := Z10.out; have z11 := Z11.out; have z12 := Z12.out; have z13 := Z13.out; have z14 := Z14.out; have z15 := Z15.out; have z16 := Z16.out; have z17 := Z17.out; have z18 := Z18.out; have z19 := Z19.out; have z20 := Z20.out; have z21 := Z21.out; have z22 := Z22.out; have z23 := Z23.out; have y0 := BA.out.1; have y1 := BW.out.1; have y2 := BX.out.1; have y3 := BG4.out.1; omega))
  have BX := Lib.hid (BX.out.span hS (by have z0 := ZA.out; have z1 := Z1.out; have z2 := Z2.out; have z3 := Z3.out; have z4 := Z4.out; have z5 := Z5.out; have z6 := Z6.out; have z7 := Z7.out; have z8 := Z8.out; have z9 := Z9.out; have z10 := Z10.out; have z11 := Z11.out; have z12 := Z12.out; have z13 := Z13.out; have z14 := Z14.out; have z15 := Z15.out; have z16 := Z16.out; have z17 := Z17.out; have z18 := Z18.out; have z19 := Z19.out; have z20 := Z20.out; have z21 := Z21.out; have z22 := Z22.out; have z23 := Z23.out; have y0 := BA.out.1; have y1 := BW.out.1; have y2 := BX.out.1; have y3 := BG4.out.1; omega))
  have BG4 := Lib.hid (BG4.out.span hS (by have z0 := ZA.out; have z1 := Z1.out; have z2 := Z2.out; have z3 := Z3.out; have z4 := Z4.out; have z5 := Z5.out; have z6 := Z6.out; have z7 := Z7.out; have z8 := Z8.out; have z9 := Z9.out; have z10 := Z10.out; have z11 := Z11.out; have z12 := Z12.out; have z13 := Z13.out; have z14 := Z14.out; have z15 := Z15.out; have z16 := Z16.out; have z17 := Z17.out; have z18 := Z18.out; have z19 := Z19.out; have z20 := Z20.out; have z21 := Z21.out; have z22 := Z22.out; have z23 := Z23.out; have y0 := BA.out.1; have y1 := BW.out.1; have y2 := BX.out.1; have y3 := BG4.out.1; omega))
  have BS := Lib.hid (Below.span (BS.out.mono (Nat.le_refl _)) (hS.lift (by have z0 := ZA.out; have z1 := Z1.out; have z2 := Z2.out; have z3 := Z3.out; have z4 := Z4.out; have z5 := Z5.out; have z6 := Z6.out; have z7 := Z7.out; have z8 := Z8.out; have z9 := Z9.out; have z10 := Z10.out; have z11 := Z11.out; have z12 := Z12.out; have z13 := Z13.out; have z14 := Z14.out; have z15 := Z15.out; have z16 := Z16.out; have z17 := Z17.out; have z18 := Z18.out; have z19 := Z19.out; have z20 := Z20.out; have z21 := Z21.out; have z22 := Z22.out; have z23 := Z23.out; have y0 := BA.out.1; have y1 := BW.out.1; have y2 := BX.out.1; have y3 := BG4.out.1; omega)) BS.out.size)
  have B := Lib.hid (Below.span (B.out.mono (Nat.le_refl _)) (hS.lift (by have z0 := ZA.out; have z1 := Z1.out; have z2 := Z2.out; have z3 := Z3.out; have z4 := Z4.out; have z5 := Z5.out; have z6 := Z6.out; have z7 := Z7.out; have z8 := Z8.out; have z9 := Z9.out; have z10 := Z10.out; have z11 := Z11.out; have z12 := Z12.out; have z13 := Z13.out; have z14 := Z14.out; have z15 := Z15.out; have z16 := Z16.out; have z17 := Z17.out; have z18 := Z18.out; have z19 := Z19.out; have z20 := Z20.out; have z21 := Z21.out; have z22 := Z22.out; have z23 := Z23.out; have y0 := BA.out.1; have y1 := BW.out.1; have y2 := BX.out.1; have y3 := BG4.out.1; omega)) B.out.size)
  have Z24 := Lib.hid hS.size
  clear hS
  rw [HND.out] at G4 ⊢
  have hnn : (0 : Int) ≤ tr + (nd : Int) := by omega
  have cBA := BA.out.2
  have cBW := BW.out.2
  have cBX := BX.out.2
  have cBG4 := BG4.out.2
  go_wp2_with fail
  clear cBA cBW cBX cBG4
  refine (heldY_any _ R 1 hR hT (by decide) (by decide) _ ⟨_, rfl, G4.out.1.yl⟩).mono ?_
  rintro e w22 ⟨rfl, hb⟩
  have BA := Lib.hid (BA.out.below hb)
  have BW := Lib.hid (BW.out.below hb)
  have BX := Lib.hid (BX.out.below hb)
  have BG4 := Lib.hid (BG4.out.below hb)
  have G4 := Lib.hid (G4.out.below hb)
  have BS := Lib.hid (BS.out.trans (hb.mono BS.out.size))
  have B := Lib.hid (B.out.trans (hb.mono B.out.size))
  have Z25 := Lib.hid hb.size
  clear hb
  rw [HTR.out]
  have cBA := BA.out.2
  have cBW := BW.out.2
  have cBX := BX.out.2
  have cBG4 := BG4.out.2
  go_wp2_with fail
  clear cBA cBW cBX cBG4
  refine (heldL_wide _ nd tr hD htr0 (by omega) _ (by have := G4.out.2.1.read; exact this)).mono ?_
  rintro e w23 ⟨rfl, hb⟩
  have BA := Lib.hid (BA.out.below hb)
  have BW := Lib.hid (BW.out.below hb)
  have BX := Lib.hid (BX.out.below hb)
  have BG4 := Lib.hid (BG4.out.below hb)
  have G4 := Lib.hid (G4.out.below hb)
  have BS := Lib.hid (BS.out.trans (hb.mono BS.out.size))
  have B := Lib.hid (B.out.trans (hb.mono B.out.size))
  have Z26 := Lib.hid hb.size
  clear hb
  have cBA := BA.out.2
  have cBW := BW.out.2
  have cBX := BX.out.2
  have cBG4 := BG4.out.2
  go_wp2_with fail
  clear cBA cBW cBX cBG4
  refine (toY_any (.agg #[v0]) Y L1.out L2.out _ (HV.out.below B.out)).mono ?_
  rintro e w24 ⟨a7, k7, rfl, ho, hb⟩
  have BA := Lib.hid (BA.out.below hb)
  have BW := Lib.hid (BW.out.below hb)
  have BX := Lib.hid (BX.out.below hb)
  have BG4 := Lib.hid (BG4.out.below hb)
  have G4 := Lib.hid (G4.out.below hb)
  have BS := Lib.hid (BS.out.trans (hb.mono BS.out.size))
  have B := Lib.hid (B.out.trans (hb.mono B.out.size))
  have Z27 := Lib.hid hb.size
  have O7 := Lib.hid ho
  clear ho hb
  have cBA := BA.out.2
  have cBW := BW.out.2
  have cBX := BX.out.2
  have cBG4 := BG4.out.2
  go_wp2_with fail
  clear cBA cBW cBX cBG4
  refine (toI_any _ O LOO.out _ (HO.out.below B.out)).mono ?_
  rintro e w25 ⟨aO7, kO7, rfl, ho, hb⟩
  have BA := Lib.hid (BA.out.below hb)
  have BW := Lib.hid (BW.out.below hb)
  have BX := Lib.hid (BX.out.below hb)
  have BG4 := Lib.hid (BG4.out.below hb)
  have G4 := Lib.hid (G4.out.below hb)
  have O7 := Lib.hid (O7.out.below hb)
  have BS := Lib.hid (BS.out.trans (hb.mono BS.out.size))
  have B := Lib.hid (B.out.trans (hb.mono B.out.size))
  have Z28 := Lib.hid hb.size
  have PO7 := Lib.hid (lo_of_own ho (Nat.le_refl _))
  clear ho hb
  rw [HNO.out] at PO7 ⊢
  have cBA := BA.out.2
  have cBW := BW.out.2
  have cBX := BX.out.2
  have cBG4 := BG4.out.2
  go_wp2_with fail
  clear cBA cBW cBX cBG4
  refine (H2.out L1.out L2.out LOO.out _ _ _ ⟨_, rfl, O7.out.yl⟩ ⟨_, PO7.out.2.1⟩).mono ?_
  rintro e w26 ⟨ag6, kg6, ug6, rfl, ho, hb⟩
  have BA := Lib.hid (BA.out.below hb)
  have BW := Lib.hid (BW.out.below hb)
  have BX := Lib.hid (BX.out.below hb)
  have BG4 := Lib.hid (BG4.out.below hb)
  have G4 := Lib.hid (G4.out.below hb)
  have O7 := Lib.hid (O7.out.below hb)
  have PO7 := Lib.hid (PO7.out.below hb)
  have BS := Lib.hid (BS.out.trans (hb.mono BS.out.size))
  have B := Lib.hid (B.out.trans (hb.mono B.out.size))
  have Z29 := Lib.hid hb.size
  have G6 := Lib.hid ho
  obtain ⟨ad6, kd6, rfl⟩ := own_form ho.2.1.2.1
  clear hb ho
  rw [HND.out] at G6 ⊢
  have cBA := BA.out.2
  have cBW := BW.out.2
  have cBX := BX.out.2
  have cBG4 := BG4.out.2
  have dBA := fun o => (World.cell?_alloc_lt w26 o ⟨w.heap.size, 0, none⟩ BA.out.1).trans BA.out.2
  have dBW := fun o => (World.cell?_alloc_lt w26 o ⟨w4.heap.size, 0, none⟩ BW.out.1).trans BW.out.2
  have dBX := fun o => (World.cell?_alloc_lt w26 o ⟨w6.heap.size, 0, none⟩ BX.out.1).trans BX.out.2
  have dBG4 := fun o => (World.cell?_alloc_lt w26 o ⟨w9.heap.size, 0, none⟩ BG4.out.1).trans BG4.out.2
  go_wp2_with fail
  clear cBA cBW cBX cBG4
  clear dBA dBW dBX dBG4
  have hb := below_one w26 (.cells #[.slice ag6 R.length kg6] 26)
  have BG6 := Lib.hid (Box1.new w26 (.slice ag6 R.length kg6) 26)
  have BA := Lib.hid (BA.out.below hb)
  have BW := Lib.hid (BW.out.below hb)
  have BX := Lib.hid (BX.out.below hb)
  have BG4 := Lib.hid (BG4.out.below hb)
  have G4 := Lib.hid (G4.out.below hb)
  have O7 := Lib.hid (O7.out.below hb)
  have PO7 := Lib.hid (PO7.out.below hb)
  have G6 := Lib.hid (G6.out.below hb)
  have BS := Lib.hid (BS.out.trans (hb.mono BS.out.size))
  have B := Lib.hid (B.out.trans (hb.mono B.out.size))
  have Z30 := Lib.hid hb.size
  clear hb
  generalize w26.alloc (.cells #[.slice ag6 R.length kg6] 26) = w27 at *
  have Z31 := Lib.hid BG6.out.1
  clear O7
  clear PO7
  have cBA := BA.out.2
  have cBW := BW.out.2
  have cBX := BX.out.2
  have cBG4 := BG4.out.2
  have cBG6 := BG6.out.2
  go_wp2_with fail
  clear cBA cBW cBX cBG4 cBG6
  refine (eqY_any _ _ R hR hT _ ⟨_, rfl, G6.out.1.yl⟩ ⟨_, rfl, W0.out.below BS.out⟩).mono ?_
  rintro e w28 ⟨rfl, hb⟩
  have BA := Lib.hid (BA.out.below hb)
  have BW := Lib.hid (BW.out.below hb)
  have BX := Lib.hid (BX.out.below hb)
  have BG4 := Lib.hid (BG4.out.below hb)
  have G4 := Lib.hid (G4.out.below hb)
  have G6 := Lib.hid (G6.out.below hb)
  have BG6 := Lib.hid (BG6.out.below hb)
  have BS := Lib.hid (BS.out.trans (hb.mono BS.out.size))
  have B := Lib.hid (B.out.trans (hb.mono B.out.size))
  have Z32 := Lib.hid hb.size
  clear hb
  have cBA := BA.out.2
  have cBW := BW.out.2
  have cBX := BX.out.2
  have cBG4 := BG4.out.2
  have cBG6 := BG6.out.2
  go_wp2_with fail
  clear cBA cBW cBX cBG4 cBG6
  refine (eqL_any _ _ D (by rw [HND.out]; exact hD) _ G6.out.2.1.read (W1.out.below BS.out)).mono ?_
  rintro e w29 ⟨rfl, hb⟩
  have BA := Lib.hid (BA.out.below hb)
  have BW := Lib.hid (BW.out.below hb)
  have BX := Lib.hid (BX.out.below hb)
  have BG4 := Lib.hid (BG4.out.below hb)
  have G4 := Lib.hid (G4.out.below hb)
  have G6 := Lib.hid (G6.out.below hb)
  have BG6 := Lib.hid (BG6.out.below hb)
  have BS := Lib.hid (BS.out.trans (hb.mono BS.out.size))
  have B := Lib.hid (B.out.trans (hb.mono B.out.size))
  have Z33 := Lib.hid hb.size
  clear hb
  have cBA := BA.out.2
  have cBW := BW.out.2
  have cBX := BX.out.2
  have cBG4 := BG4.out.2
  have cBG6 := BG6.out.2
  go_wp2_with fail
  clear cBA cBW cBX cBG4 cBG6
  refine (heldY_any _ R 1 hR hT (by decide) (by decide) _ ⟨_, rfl, G4.out.1.yl⟩).mono ?_
  rintro e w30 ⟨rfl, hb⟩
  have BA := Lib.hid (BA.out.below hb)
  have BW := Lib.hid (BW.out.below hb)
  have BX := Lib.hid (BX.out.below hb)
  have BG4 := Lib.hid (BG4.out.below hb)
  have G4 := Lib.hid (G4.out.below hb)
  have G6 := Lib.hid (G6.out.below hb)
  have BG6 := Lib.hid (BG6.out.below hb)
  have BS := Lib.hid (BS.out.trans (hb.mono BS.out.size))
  have B := Lib.hid (B.out.trans (hb.mono B.out.size))
  have Z34 := Lib.hid hb.size
  clear hb
  rw [HTR.out]
  have cBA := BA.out.2
  have cBW := BW.out.2
  have cBX := BX.out.2
  have cBG4 := BG4.out.2
  have cBG6 := BG6.out.2
  go_wp2_with fail
  clear cBA cBW cBX cBG4 cBG6
  refine (heldL_wide _ nd tr hD htr0 (by omega) _ (by have := G4.out.2.1.read; exact this)).mono ?_
  rintro e w31 ⟨rfl, hb⟩
  have BA := Lib.hid (BA.out.below hb)
  have BW := Lib.hid (BW.out.below hb)
  have BX := Lib.hid (BX.out.below hb)
  have BG4 := Lib.hid (BG4.out.below hb)
  have G4 := Lib.hid (G4.out.below hb)
  have G6 := Lib.hid (G6.out.below hb)
  have BG6 := Lib.hid (BG6.out.below hb)
  have BS := Lib.hid (BS.out.trans (hb.mono BS.out.size))
  have B := Lib.hid (B.out.trans (hb.mono B.out.size))
  have Z35 := Lib.hid hb.size
  clear hb
  have cBA := BA.out.2
  have cBW := BW.out.2
  have cBX := BX.out.2
  have cBG4 := BG4.out.2
  have cBG6 := BG6.out.2
  go_wp2_with fail
  go_ret
  exact ⟨rfl, B.out⟩

set_option maxRecDepth 100000 in
theorem placeAll_lifted (os : Os) (started : os.Started) (H : Type) (enc : TypeId × Value → H) :
    ReturnsInHanded {} Try.checked os 7 .any (Rows.fnExactPlaceAllSpec.pre6 enc Try.prog Try.f7 Rows.fnExactPlaceAllRow.domain false) (Rows.fnExactPlaceAllSpec.post enc Try.prog Try.f7 false true false false) := by
  refine returnsInHanded_of_change (C := Try.checked) yard_own started (by kernel_rfl) Try.func7
    (ChangeSpec.witness6 (enc := enc) (C := Try.checked) false ⟨#[], #[.agg #[.slice none 0 0], .slice none 0 0], []⟩ 8 (by kernel_rfl) (by kernel_rfl) (by kernel_rfl) (by kernel_rfl)) ?_
  intro W base args ds gs before hval0 hW hcnd0 _
  have hval : ∀ (j : Nat) t v, Try.f7.params[j]? = some t → args[j]? = some v → Value.okWide Try.prog W .any base t v := hval0
  have hW' := hW
  obtain ⟨p, q, hA0, hV, rfl, hfz, _⟩ := hW
  have hA : DataW.TrodAll enc Try.prog W 0 (fun _ => true) true Try.f7.params.toList args.toList ds p := hA0
  rw [Try.params7] at hA hval
  obtain ⟨v0, v1, d0, d1, p0, p1, rfl, rfl, rfl, h0, h1⟩ := trodAll_two hA
  obtain ⟨rfl, rfl⟩ := trodVars_none hV
  clear hA0 hval0 hcnd0
  simp only [List.append_nil] at hW'
  have hlt : ∀ x ∈ (p0 ++ p1), x.block < W.heap.size := fun x hx => by simpa using hW'.lt x (by simpa using hx)
  have hlt0 : ∀ x ∈ p0, x.block < W.heap.size := fun x hx => hlt x (List.mem_append_left _ hx)
  have hlt1 : ∀ x ∈ p1, x.block < W.heap.size := fun x hx => hlt x (List.mem_append_right _ hx)
  obtain ⟨Y, hn, hs, hv⟩ := open_yard (hval 0 40 v0 rfl rfl) h0 hlt0
  obtain ⟨a1, len1, cap1, rfl⟩ := okWide_slice Try.underlying28 (hval 1 28 v1 rfl rfl)
  obtain ⟨O, hnO, hvO⟩ := open_il h1 hlt1
  refine (placeAll_body v0 Y _ O (allY Y O) (allD Y O) (allB Y O) (all_small Y O).1 (all_small Y O).2.1 (all_small Y O).2.2 hn hs W hv hnO hvO (fun h1 h2 h3 u uo W hu ho => (specAll_any u uo Y O h1 h2 h3 W hu ho).mono fun _ _ h => h.seen) (fun h1 h2 h3 u uo W hu ho => implAll_any u uo Y O h1 h2 h3 W hu ho)).mono fun e W' ⟨he, hB⟩ => ?_
  subst he
  refine ⟨_, rfl, _, _, _, [], (p0 ++ p1), [], hW', ?_, ?_, rfl, hB.frame _, fun h => by cases h⟩
  · exact trodAll_mk1 (shut_bool Try.underlying4 true)
  · have h9 := trodAll_mk2 (Below.trod yard_laidOut (by kernel_rfl) (of_decide_eq_true (by kernel_rfl)) h0 hB hlt0) (Below.trod yard_laidOut (by kernel_rfl) (of_decide_eq_true (by kernel_rfl)) h1 hB hlt1)
    first
      | exact h9
      | (simp only [List.append_nil] at h9; exact h9)

theorem FnExactPlaceAll_holds : Rows.FnExactPlaceAllSaid :=
  OpenClaim.holds_of_wide 7 Try.f7 rfl rfl rfl rfl rfl rfl rfl ⟨rfl, rfl, rfl, rfl, rfl⟩ rfl rfl rfl rfl rfl (by kernel_rfl) Try.func7 (by kernel_rfl)
    (of_decide_eq_true (by kernel_rfl)) (by unfold Func.isWrapper; first | (rw [if_pos (by decide +kernel)]; kernel_rfl) | (rw [if_neg (by decide +kernel)]; exact ⟨rfl, rfl⟩))
    (fun os started H enc _ => placeAll_lifted os started H enc)
#print axioms FnExactPlaceAll_holds

end Go.Proofs.Ythokmklnldoinaa
