/-
  Proved here: the law FnExactRunSteps returns true at every yard and every list of steps, and they read afterwards as before. There are no conditions.
-/
import Derived.Test.YtmkejgbbgknalaaRows
import Derived.Test.YtmkejgbbgknalaaLawK
import Derived.Test.YtmkejgbbgknalaaRunI
import Derived.WalkKit
import Derived.ProofKit
import Derived.OpenShut
namespace Go.Proofs.Ytmkejgbbgknalaa
open Go.Joins Go.Deep Go.ChangeShapes Go.WideShapes Go.ChangeAt Go.RowKit

set_option maxRecDepth 100000 in
set_option maxHeartbeats 16000000 in
theorem runSteps_body (v : Value) (Y : List (List Int)) (vs : Value) (S : List (Int × Int)) (R : List (List Int)) (D : List Int) (ok : Bool) (hR : R.length ≤ 1048576) (hT : tot R ≤ 1048576) (hD : D.length ≤ 1048576) (hn : Y.length ≤ maxLen) (hs : ∀ (j : Nat) (l : List Int), Y[j]? = some l → l.length ≤ maxLen) (w : World) (hv : YdR w v Y) (hns : S.length ≤ maxLen) (hvs : SL w vs S)
    (hspec : Y.length ≤ 1048576 → tot Y ≤ 1048576 → S.length ≤ 1048576 → ∀ (u us : Value) W, YdR W u Y → SL W us S → Calls Try.prog 16 #[u, us] W (SeenYL W R D ok))
    (himpl : Y.length ≤ 1048576 → tot Y ≤ 1048576 → S.length ≤ 1048576 → ∀ (u us : Value) W, YdR W u Y → SL W us S → Calls Try.prog 19 #[u, us] W (RetYL W R D ok)) :
    Calls Try.prog 3 #[v, vs] w fun e w' => e = .returned (.bool true) ∧ Below w.heap.size w w' := by
  obtain ⟨v0, rfl, hv0⟩ := hv
  have HV : Hid (YdR w (.agg #[v0]) Y) := Lib.hid ⟨v0, rfl, hv0⟩
  have H1 := Lib.hid hspec
  have H2 := Lib.hid himpl
  have HSm := Lib.hid hs
  clear hspec himpl hv0 hs
  have hns := hns
  have HS := Lib.hid hvs
  obtain ⟨sa, sc, rfl⟩ := hvs.form
  clear hvs
  obtain ⟨ns, hns2⟩ : ∃ ns, S.length = ns := ⟨_, rfl⟩
  have HNS := Lib.hid hns2
  rw [hns2] at hns HS ⊢
  clear hns2
  go_enter Try.func3, Try.ntmps3
  go_wp2_with fail
  have BA := Lib.hid (Box1.new w v0 24)
  have B := Lib.hid (below_one w (.cells #[v0] 24))
  generalize w.alloc (.cells #[v0] 24) = w0 at *
  have ZA := Lib.hid BA.out.1
  refine (szY_any _ Y 1048576 hn HSm.out (by decide) _ (HV.out.below B.out)).mono ?_
  rintro e w1 ⟨hb, rfl | ⟨r, rfl, hr9, hn2, ht2⟩⟩
  · have B := Lib.hid (B.out.trans (hb.mono B.out.size))
    clear hb
    go_wp2_with fail
    go_ret
    exact ⟨rfl, B.out⟩
  have L1 := Lib.hid hn2
  have L2 := Lib.hid ht2
  have BA := Lib.hid (BA.out.below hb)
  have B := Lib.hid (B.out.trans (hb.mono B.out.size))
  have Z1 := Lib.hid hb.size
  clear hb
  have cBA := BA.out.2
  go_wp2_with fail
  clear cBA
  refine (szS_any sa ns sc r hns hr9 _).mono ?_
  rintro e w2 ⟨rfl, rfl⟩
  by_cases hsb : ns ≤ r
  case neg =>
    rw [if_neg hsb]
    have cBA := BA.out.2
    go_wp2_with fail
    go_ret
    exact ⟨rfl, B.out⟩
  have hns3 : S.length ≤ 1048576 := by rw [HNS.out]; omega
  have LS1 := Lib.hid hns3
  have hns4 : ns ≤ 1048576 := by omega
  rw [if_pos hsb]
  obtain ⟨r2, hr2⟩ : ∃ r2 : Nat, r - ns = r2 := ⟨_, rfl⟩
  rw [hr2]
  have hr3 : (0 : Int) ≤ (r2 : Int) := by omega
  clear hns3 hr2 hsb
  have cBA := BA.out.2
  go_wp2_with fail
  clear cBA
  refine (toY_any (.agg #[v0]) Y L1.out L2.out _ (HV.out.below B.out)).mono ?_
  rintro e w3 ⟨a1, k1, rfl, ho, hb⟩
  have BA := Lib.hid (BA.out.below hb)
  have B := Lib.hid (B.out.trans (hb.mono B.out.size))
  have Z2 := Lib.hid hb.size
  have O1 := Lib.hid ho
  clear ho hb
  have cBA := BA.out.2
  go_wp2_with fail
  clear cBA
  refine (toS_any _ S LS1.out _ (HS.out.below B.out)).mono ?_
  rintro e w4 ⟨sa1, sk1, rfl, ho, hb⟩
  have BA := Lib.hid (BA.out.below hb)
  have O1 := Lib.hid (O1.out.below hb)
  have B := Lib.hid (B.out.trans (hb.mono B.out.size))
  have Z3 := Lib.hid hb.size
  have Q1 := Lib.hid (so_of_own ho (Nat.le_refl _))
  clear ho hb
  rw [HNS.out] at Q1 ⊢
  have cBA := BA.out.2
  go_wp2_with fail
  clear cBA
  refine (H1.out L1.out L2.out LS1.out _ _ _ ⟨_, rfl, O1.out.yl⟩ Q1.out.read).mono ?_
  rintro e w5 ⟨aw, kw, uw, rfl, ho, hoD, hb⟩
  have BA := Lib.hid (BA.out.below hb)
  have O1 := Lib.hid (O1.out.below hb)
  have Q1 := Lib.hid (Q1.out.below hb)
  have B := Lib.hid (B.out.trans (hb.mono B.out.size))
  have Z4 := Lib.hid hb.size
  have W0 := Lib.hid ho
  have W1 := Lib.hid hoD
  obtain ⟨aw1, kw1, rfl⟩ := hoD.form
  clear hb ho hoD
  clear O1
  clear Q1
  have BS := Lib.hid (Below.refl w5.heap.size w5)
  obtain ⟨nd, hnd⟩ : ∃ nd, D.length = nd := ⟨_, rfl⟩
  have HND := Lib.hid hnd
  rw [hnd] at W1 hD ⊢
  clear hnd
  have cBA := BA.out.2
  have dBA := fun o => (World.cell?_alloc_lt w5 o ⟨w.heap.size, 0, none⟩ BA.out.1).trans BA.out.2
  go_wp2_with fail
  clear cBA
  clear dBA
  have hb := below_one w5 (.cells #[.slice aw R.length kw] 28)
  have BW := Lib.hid (Box1.new w5 (.slice aw R.length kw) 28)
  have BA := Lib.hid (BA.out.below hb)
  have BS := Lib.hid (BS.out.trans (hb.mono BS.out.size))
  have B := Lib.hid (B.out.trans (hb.mono B.out.size))
  have Z5 := Lib.hid hb.size
  clear hb
  generalize w5.alloc (.cells #[.slice aw R.length kw] 28) = w6 at *
  have Z6 := Lib.hid BW.out.1
  have cBA := BA.out.2
  have cBW := BW.out.2
  go_wp2_with fail
  clear cBA cBW
  refine (toY_any (.agg #[v0]) Y L1.out L2.out _ (HV.out.below B.out)).mono ?_
  rintro e w7 ⟨a3, k3, rfl, ho, hb⟩
  have BA := Lib.hid (BA.out.below hb)
  have BW := Lib.hid (BW.out.below hb)
  have BS := Lib.hid (BS.out.trans (hb.mono BS.out.size))
  have B := Lib.hid (B.out.trans (hb.mono B.out.size))
  have Z7 := Lib.hid hb.size
  have O3 := Lib.hid ho
  clear ho hb
  have cBA := BA.out.2
  have cBW := BW.out.2
  have dBA := fun o => (World.cell?_alloc_lt w7 o ⟨w.heap.size, 0, none⟩ BA.out.1).trans BA.out.2
  have dBW := fun o => (World.cell?_alloc_lt w7 o ⟨w5.heap.size, 0, none⟩ BW.out.1).trans BW.out.2
  go_wp2_with fail
  clear cBA cBW
  clear dBA dBW
  have hb := below_one w7 (.cells #[.slice a3 Y.length k3] 28)
  have BX := Lib.hid (Box1.new w7 (.slice a3 Y.length k3) 28)
  have BA := Lib.hid (BA.out.below hb)
  have BW := Lib.hid (BW.out.below hb)
  have O3 := Lib.hid (O3.out.below hb)
  have BS := Lib.hid (BS.out.trans (hb.mono BS.out.size))
  have B := Lib.hid (B.out.trans (hb.mono B.out.size))
  have Z8 := Lib.hid hb.size
  clear hb
  generalize w7.alloc (.cells #[.slice a3 Y.length k3] 28) = w8 at *
  have Z9 := Lib.hid BX.out.1
  have cBA := BA.out.2
  have cBW := BW.out.2
  have cBX := BX.out.2
  go_wp2_with fail
  clear cBA cBW cBX
  refine (toS_any _ S LS1.out _ (HS.out.below B.out)).mono ?_
  rintro e w9 ⟨sa3, sk3, rfl, ho, hb⟩
  have BA := Lib.hid (BA.out.below hb)
  have BW := Lib.hid (BW.out.below hb)
  have O3 := Lib.hid (O3.out.below hb)
  have BX := Lib.hid (BX.out.below hb)
  have BS := Lib.hid (BS.out.trans (hb.mono BS.out.size))
  have B := Lib.hid (B.out.trans (hb.mono B.out.size))
  have Z10 := Lib.hid hb.size
  have Q3 := Lib.hid (so_of_own ho (Nat.le_refl _))
  clear ho hb
  rw [HNS.out] at Q3 ⊢
  have cBA := BA.out.2
  have cBW := BW.out.2
  have cBX := BX.out.2
  go_wp2_with fail
  clear cBA cBW cBX
  refine (H2.out L1.out L2.out LS1.out _ _ _ ⟨_, rfl, O3.out.yl⟩ Q3.out.read).mono ?_
  rintro e w10 ⟨ag4, kg4, ug4, B4, h4, rfl, hB4, ho, hoD, hx, hb⟩
  have BA := Lib.hid (BA.out.below hb)
  have BW := Lib.hid (BW.out.below hb)
  have O3 := Lib.hid (O3.out.below hb)
  have BX := Lib.hid (BX.out.below hb)
  have Q3 := Lib.hid (Q3.out.below hb)
  have BS := Lib.hid (BS.out.trans (hb.mono BS.out.size))
  have B := Lib.hid (B.out.trans (hb.mono B.out.size))
  have Z11 := Lib.hid hb.size
  have G4 := Lib.hid ho
  have D4 := Lib.hid (lo_of_own hoD (Nat.le_refl _))
  have X4 := Lib.hid hx
  have XB4 := Lib.hid hB4
  have XH4 := Lib.hid ho.1
  obtain ⟨ad4, kd4, rfl⟩ := own_form hoD
  clear hb ho hoD hx hB4
  rw [HND.out] at D4 X4 ⊢
  have cBA := BA.out.2
  have cBW := BW.out.2
  have cBX := BX.out.2
  have dBA := fun o => (World.cell?_alloc_lt w10 o ⟨w.heap.size, 0, none⟩ BA.out.1).trans BA.out.2
  have dBW := fun o => (World.cell?_alloc_lt w10 o ⟨w5.heap.size, 0, none⟩ BW.out.1).trans BW.out.2
  have dBX := fun o => (World.cell?_alloc_lt w10 o ⟨w7.heap.size, 0, none⟩ BX.out.1).trans BX.out.2
  go_wp2_with fail
  clear cBA cBW cBX
  clear dBA dBW dBX
  have hb := below_one w10 (.cells #[.slice ag4 R.length kg4] 28)
  have BG4 := Lib.hid (Box1.new w10 (.slice ag4 R.length kg4) 28)
  have BA := Lib.hid (BA.out.below hb)
  have BW := Lib.hid (BW.out.below hb)
  have O3 := Lib.hid (O3.out.below hb)
  have BX := Lib.hid (BX.out.below hb)
  have Q3 := Lib.hid (Q3.out.below hb)
  have G4 := Lib.hid (G4.out.below hb)
  have D4 := Lib.hid (D4.out.below hb)
  have BS := Lib.hid (BS.out.trans (hb.mono BS.out.size))
  have B := Lib.hid (B.out.trans (hb.mono B.out.size))
  have Z12 := Lib.hid hb.size
  clear hb
  generalize w10.alloc (.cells #[.slice ag4 R.length kg4] 28) = w11 at *
  have Z13 := Lib.hid BG4.out.1
  have cBA := BA.out.2
  have cBW := BW.out.2
  have cBX := BX.out.2
  have cBG4 := BG4.out.2
  go_wp2_with fail
  clear cBA cBW cBX cBG4
  refine (eqY_any _ _ R hR hT _ ⟨_, rfl, G4.out.yl⟩ ⟨_, rfl, W0.out.below BS.out⟩).mono ?_
  rintro e w12 ⟨rfl, hb⟩
  have BA := Lib.hid (BA.out.below hb)
  have BW := Lib.hid (BW.out.below hb)
  have O3 := Lib.hid (O3.out.below hb)
  have BX := Lib.hid (BX.out.below hb)
  have Q3 := Lib.hid (Q3.out.below hb)
  have G4 := Lib.hid (G4.out.below hb)
  have D4 := Lib.hid (D4.out.below hb)
  have BG4 := Lib.hid (BG4.out.below hb)
  have BS := Lib.hid (BS.out.trans (hb.mono BS.out.size))
  have B := Lib.hid (B.out.trans (hb.mono B.out.size))
  have Z14 := Lib.hid hb.size
  clear hb
  have cBA := BA.out.2
  have cBW := BW.out.2
  have cBX := BX.out.2
  have cBG4 := BG4.out.2
  go_wp2_with fail
  clear cBA cBW cBX cBG4
  refine (eqL_any _ _ D (by rw [HND.out]; exact hD) _ D4.out.read (W1.out.below BS.out)).mono ?_
  rintro e w13 ⟨rfl, hb⟩
  have BA := Lib.hid (BA.out.below hb)
  have BW := Lib.hid (BW.out.below hb)
  have O3 := Lib.hid (O3.out.below hb)
  have BX := Lib.hid (BX.out.below hb)
  have Q3 := Lib.hid (Q3.out.below hb)
  have G4 := Lib.hid (G4.out.below hb)
  have D4 := Lib.hid (D4.out.below hb)
  have BG4 := Lib.hid (BG4.out.below hb)
  have BS := Lib.hid (BS.out.trans (hb.mono BS.out.size))
  have B := Lib.hid (B.out.trans (hb.mono B.out.size))
  have Z15 := Lib.hid hb.size
  clear hb
  have cBA := BA.out.2
  have cBW := BW.out.2
  have cBX := BX.out.2
  have cBG4 := BG4.out.2
  go_wp2_with fail
  have K0 := (KeepY.start (HV.out.below B.out) ⟨_, rfl, O3.out.yl⟩ BA.out BX.out).drew
  have KT := Lib.hid L1.out
  have hq1 := L1.out
  have hq2 := L2.out
  clear cBA cBW cBX cBG4
  obtain ⟨hk1, hk2⟩ : w13.drew.cell? ⟨w.heap.size, 0, none⟩ = some v0 ∧ w13.drew.cell? ⟨w7.heap.size, 0, none⟩ = some (.slice a3 Y.length k3) := ⟨K0.2.2.2.1.2, K0.2.2.2.2.2⟩
  go_region_held3 (fun W => (W.cell? ⟨w.heap.size, 0, none⟩ = some v0 ∧ W.cell? ⟨w7.heap.size, 0, none⟩ = some (.slice a3 Y.length k3)) ∧ KeepY w13 w.heap.size w7.heap.size v0 (.slice a3 Y.length k3) Y W) (go_keep) (first | (go_at_call 17; refine (KeepY.to L1.out L2.out (by assumption)).mono ?_; rintro e w' ⟨u, rfl, hu, x0, x1, hK⟩) | (go_at_call 20; refine (KeepY.eq L1.out L2.out (by assumption) (by assumption)).mono ?_; rintro e w' ⟨rfl, x0, x1, hK⟩))
  rename World => w14
  have hb := hK.1
  clear hK x0 x1 hu hq1 hq2 KT
  have BA := Lib.hid (BA.out.below hb)
  have BW := Lib.hid (BW.out.below hb)
  have O3 := Lib.hid (O3.out.below hb)
  have BX := Lib.hid (BX.out.below hb)
  have Q3 := Lib.hid (Q3.out.below hb)
  have G4 := Lib.hid (G4.out.below hb)
  have D4 := Lib.hid (D4.out.below hb)
  have BG4 := Lib.hid (BG4.out.below hb)
  have BS := Lib.hid (BS.out.trans (hb.mono BS.out.size))
  have B := Lib.hid (B.out.trans (hb.mono B.out.size))
  have Z16 := Lib.hid hb.size
  clear hb
  have cBA := BA.out.2
  have cBW := BW.out.2
  have cBX := BX.out.2
  have cBG4 := BG4.out.2
  go_wp2_with fail
  clear cBA cBW cBX cBG4
  refine (toS_any _ S LS1.out _ (HS.out.below B.out)).mono ?_
  rintro e w15 ⟨sa5, sk5, rfl, ho, hb⟩
  have BA := Lib.hid (BA.out.below hb)
  have BW := Lib.hid (BW.out.below hb)
  have O3 := Lib.hid (O3.out.below hb)
  have BX := Lib.hid (BX.out.below hb)
  have Q3 := Lib.hid (Q3.out.below hb)
  have G4 := Lib.hid (G4.out.below hb)
  have D4 := Lib.hid (D4.out.below hb)
  have BG4 := Lib.hid (BG4.out.below hb)
  have BS := Lib.hid (BS.out.trans (hb.mono BS.out.size))
  have B := Lib.hid (B.out.trans (hb.mono B.out.size))
  have Z17 := Lib.hid hb.size
  have Q5 := Lib.hid (so_of_own ho (Nat.le_refl _))
  clear ho hb
  rw [HNS.out] at Q5 ⊢
  have cBA := BA.out.2
  have cBW := BW.out.2
  have cBX := BX.out.2
  have cBG4 := BG4.out.2
  go_wp2_with fail
  clear cBA cBW cBX cBG4
  refine (eqS_any _ _ S LS1.out _ Q3.out.read Q5.out.read).mono ?_
  rintro e w16 ⟨rfl, hb⟩
  have BA := Lib.hid (BA.out.below hb)
  have BW := Lib.hid (BW.out.below hb)
  have O3 := Lib.hid (O3.out.below hb)
  have BX := Lib.hid (BX.out.below hb)
  have Q3 := Lib.hid (Q3.out.below hb)
  have G4 := Lib.hid (G4.out.below hb)
  have D4 := Lib.hid (D4.out.below hb)
  have BG4 := Lib.hid (BG4.out.below hb)
  have Q5 := Lib.hid (Q5.out.below hb)
  have BS := Lib.hid (BS.out.trans (hb.mono BS.out.size))
  have B := Lib.hid (B.out.trans (hb.mono B.out.size))
  have Z18 := Lib.hid hb.size
  clear hb
  clear Q5
  have cBA := BA.out.2
  have cBW := BW.out.2
  have cBX := BX.out.2
  have cBG4 := BG4.out.2
  go_wp2_with fail
  clear cBA cBW cBX cBG4
  refine (markY_any _ Y 1 w6.heap.size w7.heap.size L1.out L2.out (by decide) (by decide) _ ⟨_, rfl, O3.out⟩).mono ?_
  rintro e w17 ⟨rfl, -, hS⟩
  clear O3
  have BA := Lib.hid (BA.out.span hS (by have z0 := ZA.out; have z1 := Z1.out; have z2 := Z2.out; have z3 := Z3.out; have z4 := Z4.out; have z5 := Z5.out; have z6 := Z6.out; have z7 := Z7.out; have z8 := Z8.out; have z9 := Z9.out; have z10 := Z10.out; have z11 := Z11.out; have z12 := Z12.out; have z13 := Z13.out; have z14 := Z14.out; have z15 := Z15.out; have z16 := Z16.out; have z17 := Z17.out; have z18 := Z18.out; have y0 := BA.out.1; have y1 := BW.out.1; have y2 := BX.out.1; have y3 := BG4.out.1; have x0 := XB4.out; have x1 := XH4.out; omega))
  have BW := Lib.hid (BW.out.span hS (by have z0 := ZA.out; have z1 := Z1.out; have z2 := Z2.out; have z3 := Z3.out; have z4 := Z4.out; have z5 := Z5.out; have z6 := Z6.out; have z7 := Z7.out; have z8 := Z8.out; have z9 := Z9.out; have z10 := Z10.out; have z11 := Z11.out; have z12 := Z12.out; have z13 := Z13.out; have z14 := Z14.out; have z15 := Z15.out; have z16 := Z16.out; have z17 := Z17.out; have z18 := Z18.out; have y0 := BA.out.1; have y1 := BW.out.1; have y2 := BX.out.1; have y3 := BG4.out.1; have x0 := XB4.out; have x1 := XH4.out; omega))
  have BX := Lib.hid (BX.out.span hS (by have z0 := ZA.out; have z1 := Z1.out; have z2 := Z2.out; have z3 := Z3.out; have z4 := Z4.out; have z5 := Z5.out; have z6 := Z6.out; have z7 := Z7.out; have z8 := Z8.out; have z9 := Z9.out; have z10 := Z10.out; have z11 := Z11.out; have z12 := Z12.out; have z13 := Z13.out; have z14 := Z14.out; have z15 := Z15.out; have z16 := Z16.out; have z17 := Z17.out; have z18 := Z18.out; have y0 := BA.out.1; have y1 := BW.out.1; have y2 := BX.out.1; have y3 := BG4.out.1; have x0 := XB4.out; have x1 := XH4.out; omega))
  have Q3 := Lib.hid (Q3.out.span hS (by have z0 := ZA.out; have z1 := Z1.out; have z2 := Z2.out; have z3 := Z3.out; have z4 := Z4.out; have z5 := Z5.out; have z6 := Z6.out; have z7 := Z7.out; have z8 := Z8.out; have z9 := Z9.out; have z10 := Z10.out; have z11 := Z11.out; have z12 := Z12.out; have z13 := Z13.out; have z14 := Z14.out; have z15 := Z15.out; have z16 := Z16.out; have z17 := Z17.out; have z18 := Z18.out; have y0 := BA.out.1; have y1 := BW.out.1; have y2 := BX.out.1; have y3 := BG4.out.1; have x0 := XB4.out; have x1 := XH4.out; omega))
  have G4 := Lib.hid (G4.out.span hS (by have z0 := ZA.out; have z1 := Z1.out; have z2 := Z2.out; have z3 := Z3.out; have z4 := Z4.out; have z5 := Z5.out; have z6 := Z6.out; have z7 := Z7.out; have z8 := Z8.out; have z9 := Z9.out; have z10 := Z10.out; have z11 := Z11.out; have z12 := Z12.out; have z13 := Z13.out; have z14 := Z14.out; have z15 := Z15.out; have z16 := Z16.out; have z17 := Z17.out; have z18 := Z18.out; have y0 := BA.out.1; have y1 := BW.out.1; have y2 := BX.out.1; have y3 := BG4.out.1; have x0 := XB4.out; have x1 := XH4.out; omega))
  have D4 := Lib.hid (D4.out.span hS (by have z0 := ZA.out; have z1 := Z1.out; have z2 := Z2.out; have z3 := Z3.out; have z4 := Z4.out; have z5 := Z5.out; have z6 := Z6.out; have z7 := Z7.out; have z8 := Z8.out; have z9 := Z9.out; have z10 := Z10.out; have z11 := Z11.out; have z12 := Z12.out; have z13 := Z13.out; have z14 := Z14.out; have z15 := Z15.out; have z16 := Z16.out; have z17 := Z17.out; have z18 := Z18.out; have y0 := BA.out.1; have y1 := BW.out.1; have y2 := BX.out.1; have y3 := BG4.out.1; have x0 := XB4.out; have x1 := XH4.out; omega))
  have BG4 := Lib.hid (BG4.out.span hS (by have z0 := ZA.out; have z1 := Z1.out; have z2 := Z2.out; have z3 := Z3.out; have z4 := Z4.out; have z5 := Z5.out; have z6 := Z6.out; have z7 := Z7.out; have z8 := Z8.out; have z9 := Z9.out; have z10 := Z10.out; have z11 := Z11.out; have z12 := Z12.out; have z13 := Z13.out; have z14 := Z14.out; have z15 := Z15.out; have z16 := Z16.out; have z17 := Z17.out; have z18 := Z18.out; have y0 := BA.out.1; have y1 := BW.out.1; have y2 := BX.out.1; have y3 := BG4.out.1; have x0 := XB4.out; have x1 := XH4.out; omega))
  have BS := Lib.hid (Below.span (BS.out.mono (Nat.le_refl _)) (hS.lift (by have z0 := ZA.out; have z1 := Z1.out; have z2 := Z2.out; have z3 := Z3.out; have z4 := Z4.out; have z5 := Z5.out; have z6 := Z6.out; have z7 := Z7.out; have z8 := Z8.out; have z9 := Z9.out; have z10 := Z10.out; have z11 := Z11.out; have z12 := Z12.out; have z13 := Z13.out; have z14 := Z14.out; have z15 := Z15.out; have z16 := Z16.out; have z17 := Z17.out; have z18 := Z18.out; have y0 := BA.out.1; have y1 := BW.out.1; have y2 := BX.out.1; have y3 := BG4.out.1; have x0 := XB4.out; have x1 := XH4.out; omega)) BS.out.size)
  have B := Lib.hid (Below.span (B.out.mono (Nat.le_refl _)) (hS.lift (by have z0 := ZA.out; have z1 := Z1.out; have z2 := Z2.out; have z3 := Z3.out; have z4 := Z4.out; have z5 := Z5.out; have z6 := Z6.out; have z7 := Z7.out; have z8 := Z8.out; have z9 := Z9.out; have z10 := Z10.out; have z11 := Z11.out; have z12 := Z12.out; have z13 := Z13.out; have z14 := Z14.out; have z15 := Z15.out; have z16 := Z16.out; have z17 := Z17.out; have z18 := Z18.out; have y0 := BA.out.1; have y1 := BW.out.1; have y2 := BX.out.1; have y3 := BG4.out.1; have x0 := XB4.out; have x1 := XH4.out; omega)) B.out.size)
  have Z19 := Lib.hid hS.size
  clear hS
  obtain ⟨ty, hty⟩ : ∃ ty : Int, 1 + (tot Y : Int) = ty := ⟨_, rfl⟩
  rw [hty]
  have hty0 : 0 ≤ ty := by omega
  have hty1 : ty ≤ 1048577 := by have := L2.out; omega
  clear hty
  have cBA := BA.out.2
  have cBW := BW.out.2
  have cBX := BX.out.2
  have cBG4 := BG4.out.2
  go_wp2_with fail
  clear cBA cBW cBX cBG4
  refine (markS_any _ S ty w8.heap.size w9.heap.size LS1.out (by omega) (by omega) _ Q3.out).mono ?_
  rintro e w18 ⟨rfl, -, hS⟩
  clear Q3
  have BA := Lib.hid (BA.out.span hS (by have z0 := ZA.out; have z1 := Z1.out; have z2 := Z2.out; have z3 := Z3.out; have z4 := Z4.out; have z5 := Z5.out; have z6 := Z6.out; have z7 := Z7.out; have z8 := Z8.out; have z9 := Z9.out; have z10 := Z10.out; have z11 := Z11.out; have z12 := Z12.out; have z13 := Z13.out; have z14 := Z14.out; have z15 := Z15.out; have z16 := Z16.out; have z17 := Z17.out; have z18 := Z18.out; have z19 := Z19.out; have y0 := BA.out.1; have y1 := BW.out.1; have y2 := BX.out.1; have y3 := BG4.out.1; have x0 := XB4.out; have x1 := XH4.out; omega))
  have BW := Lib.hid (BW.out.span hS (by have z0 := ZA.out; have z1 := Z1.out; have z2 := Z2.out; have z3 := Z3.out; have z4 := Z4.out; have z5 := Z5.out; have z6 := Z6.out; have z7 := Z7.out; have z8 := Z8.out; have z9 := Z9.out; have z10 := Z10.out; have z11 := Z11.out; have z12 := Z12.out; have z13 := Z13.out; have z14 := Z14.out; have z15 := Z15.out; have z16 := Z16.out; have z17 := Z17.out; have z18 := Z18.out; have z19 := Z19.out; have y0 := BA.out.1; have y1 := BW.out.1; have y2 := BX.out.1; have y3 := BG4.out.1; have x0 := XB4.out; have x1 := XH4.out; omega))
  have BX := Lib.hid (BX.out.span hS (by have z0 := ZA.out; have z1 := Z1.out; have z2 := Z2.out; have z3 := Z3.out; have z4 := Z4.out; have z5 := Z5.out; have z6 := Z6.out; have z7 := Z7.out; have z8 := Z8.out; have z9 := Z9.out; have z10 := Z10.out; have z11 := Z11.out; have z12 := Z12.out; have z13 := Z13.out; have z14 := Z14.out; have z15 := Z15.out; have z16 := Z16.out; have z17 := Z17.out; have z18 := Z18.out; have z19 := Z19.out; have y0 := BA.out.1; have y1 := BW.out.1; have y2 := BX.out.1; have y3 := BG4.out.1; have x0 := XB4.out; have x1 := XH4.out; omega))
  have G4 := Lib.hid (G4.out.span hS (by have z0 := ZA.out; have z1 := Z1.out; have z2 := Z2.out; have z3 := Z3.out; have z4 := Z4.out; have z5 := Z5.out; have z6 := Z6.out; have z7 := Z7.out; have z8 := Z8.out; have z9 := Z9.out; have z10 := Z10.out; have z11 := Z11.out; have z12 := Z12.out; have z13 := Z13.out; have z14 := Z14.out; have z15 := Z15.out; have z16 := Z16.out; have z17 := Z17.out; have z18 := Z18.out; have z19 := Z19.out; have y0 := BA.out.1; have y1 := BW.out.1; have y2 := BX.out.1; have y3 := BG4.out.1; have x0 := XB4.out; have x1 := XH4.out; omega))
  have D4 := Lib.hid (D4.out.span hS (by have z0 := ZA.out; have z1 := Z1.out; have z2 := Z2.out; have z3 := Z3.out; have z4 := Z4.out; have z5 := Z5.out; have z6 := Z6.out; have z7 := Z7.out; have z8 := Z8.out; have z9 := Z9.out; have z10 := Z10.out; have z11 := Z11.out; have z12 := Z12.out; have z13 := Z13.out; have z14 := Z14.out; have z15 := Z15.out; have z16 := Z16.out; have z17 := Z17.out; have z18 := Z18.out; have z19 := Z19.out; have y0 := BA.out.1; have y1 := BW.out.1; have y2 := BX.out.1; have y3 := BG4.out.1; have x0 := XB4.out; have x1 := XH4.out; omega))
  have BG4 := Lib.hid (BG4.out.span hS (by have z0 := ZA.out; have z1 := Z1.out; have z2 := Z2.out; have z3 := Z3.out; have z4 := Z4.out; have z5 := Z5.out; have z6 := Z6.out; have z7 := Z7.out; have z8 := Z8.out; have z9 := Z9.out; have z10 := Z10.out; have z11 := Z11.out; have z12 := Z12.out; have z13 := Z13.out; have z14 := Z14.out; have z15 := Z15.out; have z16 := Z16.out; have z17 := Z17.out; have z18 := Z18.out; have z19 := Z19.out; have y0 := BA.out.1; have y1 := BW.out.1; have y2 := BX.out.1; have y3 := BG4.out.1; have x0 := XB4.out; have x1 := XH4.out; omega))
  have BS := Lib.hid (Below.span (BS.out.mono (Nat.le_refl _)) (hS.lift (by have z0 := ZA.out; have z1 := Z1.out; have z2 := Z2.out; have z3 := Z3.out; have z4 := Z4.out; have z5 := Z5.out; have z6 := Z6.out; have z7 := Z7.out; have z8 := Z8.out; have z9 := Z9.out; have z10 := Z10.out; have z11 := Z11.out; have z12 := Z12.out; have z13 := Z13.out; have z14 := Z14.out; have z15 := Z15.out; have z16 := Z16.out; have z17 := Z17.out; have z18 := Z18.out; have z19 := Z19.out; have y0 := BA.out.1; have y1 := BW.out.1; have y2 := BX.out.1; have y3 := BG4.out.1; have x0 := XB4.out; have x1 := XH4.out; omega)) BS.out.size)
  have B := Lib.hid (Below.span (B.out.mono (Nat.le_refl _)) (hS.lift (by have z0 := ZA.out; have z1 := Z1.out; have z2 := Z2.out; have z3 := Z3.out; have z4 := Z4.out; have z5 := Z5.out; have z6 := Z6.out; have z7 := Z7.out; have z8 := Z8.out; have z9 := Z9.out; have z10 := Z10.out; have z11 := Z11.out; have z12 := Z12.out; have z13 := Z13.out; have z14 := Z14.out; have z15 := Z15.out; have z16 := Z16.out; have z17 := Z17.out; have z18 := Z18.out; have z19 := Z19.out; have y0 := BA.out.1; have y1 := BW.out.1; have y2 := BX.out.1; have y3 := BG4.out.1; have x0 := XB4.out; have x1 := XH4.out; omega)) B.out.size)
  have Z20 := Lib.hid hS.size
  clear hS
  rw [HNS.out]
  obtain ⟨tq, htq⟩ : ∃ tq : Int, ty + 2 * (ns : Int) = tq := ⟨_, rfl⟩
  rw [htq]
  have htq0 : 0 ≤ tq := by omega
  clear htq
  have cBA := BA.out.2
  have cBW := BW.out.2
  have cBX := BX.out.2
  have cBG4 := BG4.out.2
  go_wp2_with fail
  clear cBA cBW cBX cBG4
  refine (eqY_any _ _ R hR hT _ ⟨_, rfl, G4.out.yl⟩ ⟨_, rfl, W0.out.below BS.out⟩).mono ?_
  rintro e w19 ⟨rfl, hb⟩
  have BA := Lib.hid (BA.out.below hb)
  have BW := Lib.hid (BW.out.below hb)
  have BX := Lib.hid (BX.out.below hb)
  have G4 := Lib.hid (G4.out.below hb)
  have D4 := Lib.hid (D4.out.below hb)
  have BG4 := Lib.hid (BG4.out.below hb)
  have BS := Lib.hid (BS.out.trans (hb.mono BS.out.size))
  have B := Lib.hid (B.out.trans (hb.mono B.out.size))
  have Z21 := Lib.hid hb.size
  clear hb
  have cBA := BA.out.2
  have cBW := BW.out.2
  have cBX := BX.out.2
  have cBG4 := BG4.out.2
  go_wp2_with fail
  clear cBA cBW cBX cBG4
  refine (eqL_any _ _ D (by rw [HND.out]; exact hD) _ D4.out.read (W1.out.below BS.out)).mono ?_
  rintro e w20 ⟨rfl, hb⟩
  have BA := Lib.hid (BA.out.below hb)
  have BW := Lib.hid (BW.out.below hb)
  have BX := Lib.hid (BX.out.below hb)
  have G4 := Lib.hid (G4.out.below hb)
  have D4 := Lib.hid (D4.out.below hb)
  have BG4 := Lib.hid (BG4.out.below hb)
  have BS := Lib.hid (BS.out.trans (hb.mono BS.out.size))
  have B := Lib.hid (B.out.trans (hb.mono B.out.size))
  have Z22 := Lib.hid hb.size
  clear hb
  have cBA := BA.out.2
  have cBW := BW.out.2
  have cBX := BX.out.2
  have cBG4 := BG4.out.2
  go_wp2_with fail
  clear cBA cBW cBX cBG4
  refine (markY_any _ R 1 B4 h4 hR hT (by decide) (by decide) _ ⟨_, rfl, G4.out⟩).mono ?_
  rintro e w21 ⟨rfl, hM, hS⟩
  obtain ⟨_, hM1, hM2⟩ := hM
  cases hM1
  have M0 := Lib.hid hM2
  clear hM2
  clear G4
  have D4 := Lib.hid (lo_outside D4.out hS X4.out)
  have BA := Lib.hid (BA.out.span hS (by have z0 := ZA.out; have z1 := Z1.out; have z2 := Z2.out; have z3 := Z3.out; have z4 := Z4.out; have z5 := Z5.out; have z6 := Z6.out; have z7 := Z7.out; have z8 := Z8.out; have z9 := Z9.out; have z10 := Z10.out; have z11 := Z11.out; have z12 := Z12.out; have z13 := Z13.out; have z14 := Z14.out; have z15 := Z15.out; have z16 := Z16.out; have z17 := Z17.out; have z18 := Z18.out; have z19 := Z19.out; have z20 := Z20.out; have z21 := Z21.out; have z22 := Z22.out; have y0 := BA.out.1; have y1 := BW.out.1; have y2 := BX.out.1; have y3 := BG4.out.1; have x0 := XB4.out; have x1 := XH4.out; omega))
  have BW := Lib.hid (BW.out.span hS (by have z0 := ZA.out; have z1 := Z1.out; have z2 := Z2.out; have z3 := Z3.out; have z4 := Z4.out; have z5 := Z5.out; have z6 := Z6.out; have z7 := Z7.out; have z8 := Z8.out; have z9 := Z9.out; have z10 := Z10.out; have z11 := Z11.out; have z12 := Z12.out; have z13 := Z13.out; have z14 := Z14.out; have z15 := Z15.out; have z16 := Z16.out; have z17 := Z17.out; have z18 := Z18.out; have z19 := Z19.out; have z20 := Z20.out; have z21 := Z21.out; have z22 := Z22.out; have y0 := BA.out.1; have y1 := BW.out.1; have y2 := BX.out.1; have y3 := BG4.out.1; have x0 := XB4.out; have x1 := XH4.out; omega))
  have BX := Lib.hid (BX.out.span hS (by have z0 := ZA.out; have z1 := Z1.out; have z2 := Z2.out; have z3 := Z3.out; have z4 := Z4.out; have z5 := Z5.out; have z6 := Z6.out; have z7 := Z7.out; have z8 := Z8.out; have z9 := Z9.out; have z10 := Z10.out; have z11 := Z11.out; have z12 := Z12.out; have z13 := Z13.out; have z14 := Z14.out; have z15 := Z15.out; have z16 := Z16.out; have z17 := Z17.out; have z18 := Z18.out; have z19 := Z19.out; have z20 := Z20.out; have z21 := Z21.out; have z22 := Z22.out; have y0 := BA.out.1; have y1 := BW.out.1; have y2 := BX.out.1; have y3 := BG4.out.1; have x0 := XB4.out; have x1 := XH4.out; omega))
  have BG4 := Lib.hid (BG4.out.span hS (by have z0 := ZA.out; have z1 := Z1.out; have z2 := Z2.out; have z3 := Z3.out; have z4 := Z4.out; have z5 := Z5.out; have z6 := Z6.out; have z7 := Z7.out; have z8 := Z8.out; have z9 := Z9.out; have z10 := Z10.out; have z11 := Z11.out; have z12 := Z12.out; have z13 := Z13.out; have z14 := Z14.out; have z15 := Z15.out; have z16 := Z16.out; have z17 := Z17.out; have z18 := Z18.out; have z19 := Z19.out; have z20 := Z20.out; have z21 := Z21.out; have z22 := Z22.out; have y0 := BA.out.1; have y1 := BW.out.1; have y2 := BX.out.1; have y3 := BG4.out.1; have x0 := XB4.out; have x1 := XH4.out; omega))
  have BS := Lib.hid (Below.span (BS.out.mono (Nat.le_refl _)) (hS.lift (by have z0 := ZA.out; have z1 := Z1.out; have z2 := Z2.out; have z3 := Z3.out; have z4 := Z4.out; have z5 := Z5.out; have z6 := Z6.out; have z7 := Z7.out; have z8 := Z8.out; have z9 := Z9.out; have z10 := Z10.out; have z11 := Z11.out; have z12 := Z12.out; have z13 := Z13.out; have z14 := Z14.out; have z15 := Z15.out; have z16 := Z16.out; have z17 := Z17.out; have z18 := Z18.out; have z19 := Z19.out; have z20 := Z20.out; have z21 := Z21.out; have z22 := Z22.out; have y0 := BA.out.1; have y1 := BW.out.1; have y2 := BX.out.1; have y3 := BG4.out.1; have x0 := XB4.out; have x1 := XH4.out; omega)) BS.out.size)
  have B := Lib.hid (Below.span (B.out.mono (Nat.le_refl _)) (hS.lift (by have z0 := ZA.out; have z1 := Z1.out; have z2 := Z2.out; have z3 := Z3.out; have z4 := Z4.out; have z5 := Z5.out; have z6 := Z6.out; have z7 := Z7.out; have z8 := Z8.out; have z9 := Z9.out; have z10 := Z10.out; have z11 := Z11.out; have z12 := Z12.out; have z13 := Z13.out; have z14 := Z14.out; have z15 := Z15.out; have z16 := Z16.out; have z17 := Z17.out; have z18 := Z18.out; have z19 := Z19.out; have z20 := Z20.out; have z21 := Z21.out; have z22 := Z22.out; have y0 := BA.out.1; have y1 := BW.out.1; have y2 := BX.out.1; have y3 := BG4.out.1; have x0 := XB4.out; have x1 := XH4.out; omega)) B.out.size)
  have Z23 := Lib.hid hS.size
  clear hS
  obtain ⟨tr, htr⟩ : ∃ tr : Int, 1 + (tot R : Int) = tr := ⟨_, rfl⟩
  rw [htr]
  have HTR := Lib.hid htr
  have htr0 : 0 ≤ tr := by omega
  have htr1 : tr ≤ 1048577 := by omega
  clear htr
  have cBA := BA.out.2
  have cBW := BW.out.2
  have cBX := BX.out.2
  have cBG4 := BG4.out.2
  go_wp2_with fail
  clear cBA cBW cBX cBG4
  refine (markL_out _ D tr _ _ (by rw [HND.out]; exact hD) htr0 (by omega) _ D4.out).mono ?_
  rintro e w22 ⟨rfl, hM, hS, hg⟩
  have M1 := Lib.hid hM
  clear hM
  clear D4
  have M0 := Lib.hid (owny_outside M0.out hg X4.out)
  clear hg
  have BA := Lib.hid (BA.out.span hS (by have z0 := ZA.out; have z1 := Z1.out; have z2 := Z2.out; have z3 := Z3.out; have z4 := Z4.out; have z5 := Z5.out; have z6 := Z6.out; have z7 := Z7.out; have z8 := Z8.out; have z9 := Z9.out; have z10 := Z10.out; have z11 := Z11.out; have z12 := Z12.out; have z13 := Z13.out; have z14 := Z14.out; have z15 := Z15.out; have z16 := Z16.out; have z17 := Z17.out; have z18 := Z18.out; have z19 := Z19.out; have z20 := Z20.out; have z21 := Z21.out; have z22 := Z22.out; have z23 := Z23.out; have y0 := BA.out.1; have y1 := BW.out.1; have y2 := BX.out.1; have y3 := BG4.out.1; have x0 := XB4.out; have x1 := XH4.out; omega))
  have BW := Lib.hid (BW.out.span hS (by have z0 := ZA.out; have z1 := Z1.out; have z2 := Z2.out; have z3 := Z3.out; have z4 := Z4.out; have z5 := Z5.out; have z6 := Z6.out; have z7 := Z7.out; have z8 := Z8.out; have z9 := Z9.out; have z10 := Z10.out; have z11 := Z11.out; have z12 := Z12.out; have z13 := Z13.out; have z14 := Z14.out; have z15 := Z15.out; have z16 := Z16.out; have z17 := Z17.out; have z18 := Z18.out; have z19 := Z19.out; have z20 := Z20.out; have z21 := Z21.out; have z22 := Z22.out; have z23 := Z23.out; have y0 := BA.out.1; have y1 := BW.out.1; have y2 := BX.out.1; have y3 := BG4.out.1; have x0 := XB4.out; have x1 := XH4.out; omega))
  have BX := Lib.hid (BX.out.span hS (by have z0 := ZA.out; have z1 := Z1.out; have z2 := Z2.out; have z3 := Z3.out; have z4 := Z4.out; have z5 := Z5.out; have z6 := Z6.out; have z7 := Z7.out; have z8 := Z8.out; have z9 := Z9.out; have z10 := Z10.out; have z11 := Z11.out; have z12 := Z12.out; have z13 := Z13.out; have z14 := Z14.out; have z15 := Z15.out; have z16 := Z16.out; have z17 := Z17.out; have z18 := Z18.out; have z19 := Z19.out; have z20 := Z20.out; have z21 := Z21.out; have z22 := Z22.out; have z23 := Z23.out; have y0 := BA.out.1; have y1 := BW.out.1; have y2 := BX.out.1; have y3 := BG4.out.1; have x0 := XB4.out; have x1 := XH4.out; omega))
  have BG4 := Lib.hid (BG4.out.span hS (by have z0 := ZA.out; have z1 := Z1.out; have z2 := Z2.out; have z3 := Z3.out; have z4 := Z4.out; have z5 := Z5.out; have z6 := Z6.out; have z7 := Z7.out; have z8 := Z8.out; have z9 := Z9.out; have z10 := Z10.out; have z11 := Z11.out; have z12 := Z12.out; have z13 := Z13.out; have z14 := Z14.out; have z15 := Z15.out; have z16 := Z16.out; have z17 := Z17.out; have z18 := Z18.out; have z19 := Z19.out; have z20 := Z20.out; have z21 := Z21.out; have z22 := Z22.out; have z23 := Z23.out; have y0 := BA.out.1; have y1 := BW.out.1; have y2 := BX.out.1; have y3 := BG4.out.1; have x0 := XB4.out; have x1 := XH4.out; omega))
  have BS := Lib.hid (Below.span (BS.out.mono (Nat.le_refl _)) (hS.lift (by have z0 := ZA.out; have z1 := Z1.out; have z2 := Z2.out; have z3 := Z3.out; have z4 := Z4.out; have z5 := Z5.out; have z6 := Z6.out; have z7 := Z7.out; have z8 := Z8.out; have z9 := Z9.out; have z10 := Z10.out; have z11 := Z11.out; have z12 := Z12.out; have z13 := Z13.out; have z14 := Z14.out; have z15 := Z15.out; have z16 := Z16.out; have z17 := Z17.out; have z18 := Z18.out; have z19 := Z19.out; have z20 := Z20.out; have z21 := Z21.out; have z22 := Z22.out; have z23 := Z23.out; have y0 := BA.out.1; have y1 := BW.out.1; have y2 := BX.out.1; have y3 := BG4.out.1; have x0 := XB4.out; have x1 := XH4.out; omega)) BS.out.size)
  have B := Lib.hid (Below.span (B.out.mono (Nat.le_refl _)) (hS.lift (by have z0 := ZA.out; have z1 := Z1.out; have z2 := Z2.out; have z3 := Z3.out; have z4 := Z4.out; have z5 := Z5.out; have z6 := Z6.out; have z7 := Z7.out; have z8 := Z8.out; have z9 := Z9.out; have z10 := Z10.out; have z11 := Z11.out; have z12 := Z12.out; have z13 := Z13.out; have z14 := Z14.out; have z15 := Z15.out; have z16 := Z16.out; have z17 := Z17.out; have z18 := Z18.out; have z19 := Z19.out; have z20 := Z20.out; have z21 := Z21.out; have z22 := Z22.out; have z23 := Z23.out; have y0 := BA.out.1; have y1 := BW.out.1; have y2 := BX.out.1; have y3 := BG4.out.1; have x0 := XB4.out; have x1 := XH4.out; omega)) B.out.size)
  have Z24 := Lib.hid hS.size
  clear hS
  rw [HND.out] at M1 ⊢
  have hnn : (0 : Int) ≤ tr + (nd : Int) := by omega
  have cBA := BA.out.2
  have cBW := BW.out.2
  have cBX := BX.out.2
  have cBG4 := BG4.out.2
  go_wp2_with fail
  clear cBA cBW cBX cBG4
  refine (heldY_any _ R 1 hR hT (by decide) (by decide) _ ⟨_, rfl, M0.out.yl⟩).mono ?_
  rintro e w23 ⟨rfl, hb⟩
  have BA := Lib.hid (BA.out.below hb)
  have BW := Lib.hid (BW.out.below hb)
  have BX := Lib.hid (BX.out.below hb)
  have BG4 := Lib.hid (BG4.out.below hb)
  have M0 := Lib.hid (M0.out.below hb)
  have M1 := Lib.hid (M1.out.below hb)
  have BS := Lib.hid (BS.out.trans (hb.mono BS.out.size))
  have B := Lib.hid (B.out.trans (hb.mono B.out.size))
  have Z25 := Lib.hid hb.size
  clear hb
  rw [HTR.out]
  have cBA := BA.out.2
  have cBW := BW.out.2
  have cBX := BX.out.2
  have cBG4 := BG4.out.2
  go_wp2_with fail
  clear cBA cBW cBX cBG4
  refine (heldL_wide _ nd tr hD htr0 (by omega) _ (by have := M1.out.read; exact this)).mono ?_
  rintro e w24 ⟨rfl, hb⟩
  have BA := Lib.hid (BA.out.below hb)
  have BW := Lib.hid (BW.out.below hb)
  have BX := Lib.hid (BX.out.below hb)
  have BG4 := Lib.hid (BG4.out.below hb)
  have M0 := Lib.hid (M0.out.below hb)
  have M1 := Lib.hid (M1.out.below hb)
  have BS := Lib.hid (BS.out.trans (hb.mono BS.out.size))
  have B := Lib.hid (B.out.trans (hb.mono B.out.size))
  have Z26 := Lib.hid hb.size
  clear hb
  have cBA := BA.out.2
  have cBW := BW.out.2
  have cBX := BX.out.2
  have cBG4 := BG4.out.2
  go_wp2_with fail
  clear cBA cBW cBX cBG4
  refine (toY_any (.agg #[v0]) Y L1.out L2.out _ (HV.out.below B.out)).mono ?_
  rintro e w25 ⟨a7, k7, rfl, ho, hb⟩
  have BA := Lib.hid (BA.out.below hb)
  have BW := Lib.hid (BW.out.below hb)
  have BX := Lib.hid (BX.out.below hb)
  have BG4 := Lib.hid (BG4.out.below hb)
  have M0 := Lib.hid (M0.out.below hb)
  have M1 := Lib.hid (M1.out.below hb)
  have BS := Lib.hid (BS.out.trans (hb.mono BS.out.size))
  have B := Lib.hid (B.out.trans (hb.mono B.out.size))
  have Z27 := Lib.hid hb.size
  have O7 := Lib.hid ho
  clear ho hb
  have cBA := BA.out.2
  have cBW := BW.out.2
  have cBX := BX.out.2
  have cBG4 := BG4.out.2
  go_wp2_with fail
  clear cBA cBW cBX cBG4
  refine (toS_any _ S LS1.out _ (HS.out.below B.out)).mono ?_
  rintro e w26 ⟨sa7, sk7, rfl, ho, hb⟩
  have BA := Lib.hid (BA.out.below hb)
  have BW := Lib.hid (BW.out.below hb)
  have BX := Lib.hid (BX.out.below hb)
  have BG4 := Lib.hid (BG4.out.below hb)
  have M0 := Lib.hid (M0.out.below hb)
  have M1 := Lib.hid (M1.out.below hb)
  have O7 := Lib.hid (O7.out.below hb)
  have BS := Lib.hid (BS.out.trans (hb.mono BS.out.size))
  have B := Lib.hid (B.out.trans (hb.mono B.out.size))
  have Z28 := Lib.hid hb.size
  have Q7 := Lib.hid (so_of_own ho (Nat.le_refl _))
  clear ho hb
  rw [HNS.out] at Q7 ⊢
  have cBA := BA.out.2
  have cBW := BW.out.2
  have cBX := BX.out.2
  have cBG4 := BG4.out.2
  go_wp2_with fail
  clear cBA cBW cBX cBG4
  refine (H2.out L1.out L2.out LS1.out _ _ _ ⟨_, rfl, O7.out.yl⟩ Q7.out.read).mono ?_
  rintro e w27 ⟨ag6, kg6, ug6, B6, h6, rfl, hB6, ho, hoD, hx, hb⟩
  have BA := Lib.hid (BA.out.below hb)
  have BW := Lib.hid (BW.out.below hb)
  have BX := Lib.hid (BX.out.below hb)
  have BG4 := Lib.hid (BG4.out.below hb)
  have M0 := Lib.hid (M0.out.below hb)
  have M1 := Lib.hid (M1.out.below hb)
  have O7 := Lib.hid (O7.out.below hb)
  have Q7 := Lib.hid (Q7.out.below hb)
  have BS := Lib.hid (BS.out.trans (hb.mono BS.out.size))
  have B := Lib.hid (B.out.trans (hb.mono B.out.size))
  have Z29 := Lib.hid hb.size
  have G6 := Lib.hid ho
  have D6 := Lib.hid (lo_of_own hoD (Nat.le_refl _))
  have X6 := Lib.hid hx
  have XB6 := Lib.hid hB6
  have XH6 := Lib.hid ho.1
  obtain ⟨ad6, kd6, rfl⟩ := own_form hoD
  clear hb ho hoD hx hB6
  rw [HND.out] at D6 X6 ⊢
  have cBA := BA.out.2
  have cBW := BW.out.2
  have cBX := BX.out.2
  have cBG4 := BG4.out.2
  have dBA := fun o => (World.cell?_alloc_lt w27 o ⟨w.heap.size, 0, none⟩ BA.out.1).trans BA.out.2
  have dBW := fun o => (World.cell?_alloc_lt w27 o ⟨w5.heap.size, 0, none⟩ BW.out.1).trans BW.out.2
  have dBX := fun o => (World.cell?_alloc_lt w27 o ⟨w7.heap.size, 0, none⟩ BX.out.1).trans BX.out.2
  have dBG4 := fun o => (World.cell?_alloc_lt w27 o ⟨w10.heap.size, 0, none⟩ BG4.out.1).trans BG4.out.2
  go_wp2_with fail
  clear cBA cBW cBX cBG4
  clear dBA dBW dBX dBG4
  have hb := below_one w27 (.cells #[.slice ag6 R.length kg6] 28)
  have BG6 := Lib.hid (Box1.new w27 (.slice ag6 R.length kg6) 28)
  have BA := Lib.hid (BA.out.below hb)
  have BW := Lib.hid (BW.out.below hb)
  have BX := Lib.hid (BX.out.below hb)
  have BG4 := Lib.hid (BG4.out.below hb)
  have M0 := Lib.hid (M0.out.below hb)
  have M1 := Lib.hid (M1.out.below hb)
  have O7 := Lib.hid (O7.out.below hb)
  have Q7 := Lib.hid (Q7.out.below hb)
  have G6 := Lib.hid (G6.out.below hb)
  have D6 := Lib.hid (D6.out.below hb)
  have BS := Lib.hid (BS.out.trans (hb.mono BS.out.size))
  have B := Lib.hid (B.out.trans (hb.mono B.out.size))
  have Z30 := Lib.hid hb.size
  clear hb
  generalize w27.alloc (.cells #[.slice ag6 R.length kg6] 28) = w28 at *
  have Z31 := Lib.hid BG6.out.1
  clear O7
  clear Q7
  have cBA := BA.out.2
  have cBW := BW.out.2
  have cBX := BX.out.2
  have cBG4 := BG4.out.2
  have cBG6 := BG6.out.2
  go_wp2_with fail
  clear cBA cBW cBX cBG4 cBG6
  refine (eqY_any _ _ R hR hT _ ⟨_, rfl, G6.out.yl⟩ ⟨_, rfl, W0.out.below BS.out⟩).mono ?_
  rintro e w29 ⟨rfl, hb⟩
  have BA := Lib.hid (BA.out.below hb)
  have BW := Lib.hid (BW.out.below hb)
  have BX := Lib.hid (BX.out.below hb)
  have BG4 := Lib.hid (BG4.out.below hb)
  have M0 := Lib.hid (M0.out.below hb)
  have M1 := Lib.hid (M1.out.below hb)
  have G6 := Lib.hid (G6.out.below hb)
  have D6 := Lib.hid (D6.out.below hb)
  have BG6 := Lib.hid (BG6.out.below hb)
  have BS := Lib.hid (BS.out.trans (hb.mono BS.out.size))
  have B := Lib.hid (B.out.trans (hb.mono B.out.size))
  have Z32 := Lib.hid hb.size
  clear hb
  have cBA := BA.out.2
  have cBW := BW.out.2
  have cBX := BX.out.2
  have cBG4 := BG4.out.2
  have cBG6 := BG6.out.2
  go_wp2_with fail
  clear cBA cBW cBX cBG4 cBG6
  refine (eqL_any _ _ D (by rw [HND.out]; exact hD) _ D6.out.read (W1.out.below BS.out)).mono ?_
  rintro e w30 ⟨rfl, hb⟩
  have BA := Lib.hid (BA.out.below hb)
  have BW := Lib.hid (BW.out.below hb)
  have BX := Lib.hid (BX.out.below hb)
  have BG4 := Lib.hid (BG4.out.below hb)
  have M0 := Lib.hid (M0.out.below hb)
  have M1 := Lib.hid (M1.out.below hb)
  have G6 := Lib.hid (G6.out.below hb)
  have D6 := Lib.hid (D6.out.below hb)
  have BG6 := Lib.hid (BG6.out.below hb)
  have BS := Lib.hid (BS.out.trans (hb.mono BS.out.size))
  have B := Lib.hid (B.out.trans (hb.mono B.out.size))
  have Z33 := Lib.hid hb.size
  clear hb
  have cBA := BA.out.2
  have cBW := BW.out.2
  have cBX := BX.out.2
  have cBG4 := BG4.out.2
  have cBG6 := BG6.out.2
  go_wp2_with fail
  clear cBA cBW cBX cBG4 cBG6
  refine (heldY_any _ R 1 hR hT (by decide) (by decide) _ ⟨_, rfl, M0.out.yl⟩).mono ?_
  rintro e w31 ⟨rfl, hb⟩
  have BA := Lib.hid (BA.out.below hb)
  have BW := Lib.hid (BW.out.below hb)
  have BX := Lib.hid (BX.out.below hb)
  have BG4 := Lib.hid (BG4.out.below hb)
  have M0 := Lib.hid (M0.out.below hb)
  have M1 := Lib.hid (M1.out.below hb)
  have G6 := Lib.hid (G6.out.below hb)
  have D6 := Lib.hid (D6.out.below hb)
  have BG6 := Lib.hid (BG6.out.below hb)
  have BS := Lib.hid (BS.out.trans (hb.mono BS.out.size))
  have B := Lib.hid (B.out.trans (hb.mono B.out.size))
  have Z34 := Lib.hid hb.size
  clear hb
  rw [HTR.out]
  have cBA := BA.out.2
  have cBW := BW.out.2
  have cBX := BX.out.2
  have cBG4 := BG4.out.2
  have cBG6 := BG6.out.2
  go_wp2_with fail
  clear cBA cBW cBX cBG4 cBG6
  refine (heldL_wide _ nd tr hD htr0 (by omega) _ (by have := M1.out.read; exact this)).mono ?_
  rintro e w32 ⟨rfl, hb⟩
  have BA := Lib.hid (BA.out.below hb)
  have BW := Lib.hid (BW.out.below hb)
  have BX := Lib.hid (BX.out.below hb)
  have BG4 := Lib.hid (BG4.out.below hb)
  have M0 := Lib.hid (M0.out.below hb)
  have M1 := Lib.hid (M1.out.below hb)
  have G6 := Lib.hid (G6.out.below hb)
  have D6 := Lib.hid (D6.out.below hb)
  have BG6 := Lib.hid (BG6.out.below hb)
  have BS := Lib.hid (BS.out.trans (hb.mono BS.out.size))
  have B := Lib.hid (B.out.trans (hb.mono B.out.size))
  have Z35 := Lib.hid hb.size
  clear hb
  have cBA := BA.out.2
  have cBW := BW.out.2
  have cBX := BX.out.2
  have cBG4 := BG4.out.2
  have cBG6 := BG6.out.2
  go_wp2_with fail
  go_ret
  exact ⟨rfl, B.out⟩

set_option maxRecDepth 100000 in
theorem runSteps_lifted (os : Os) (started : os.Started) (H : Type) (enc : TypeId × Value → H) :
    ReturnsInHanded {} Try.checked os 3 .any (Rows.fnExactRunStepsSpec.pre6 enc Try.prog Try.f3 Rows.fnExactRunStepsRow.domain false) (Rows.fnExactRunStepsSpec.post enc Try.prog Try.f3 false true false false) := by
  refine returnsInHanded_of_change (C := Try.checked) yard_own started (by kernel_rfl) Try.func3
    (ChangeSpec.witness6 (enc := enc) (C := Try.checked) false ⟨#[], #[.agg #[.slice none 0 0], .slice none 0 0], []⟩ 8 (by kernel_rfl) (by kernel_rfl) (by kernel_rfl) (by kernel_rfl)) ?_
  intro W base args ds gs before hval0 hW hcnd0 _
  have hval : ∀ (j : Nat) t v, Try.f3.params[j]? = some t → args[j]? = some v → Value.okWide Try.prog W .any base t v := hval0
  have hW' := hW
  obtain ⟨p, q, hA0, hV, rfl, hfz, _⟩ := hW
  have hA : DataW.TrodAll enc Try.prog W 0 (fun _ => true) true Try.f3.params.toList args.toList ds p := hA0
  rw [Try.params3] at hA hval
  obtain ⟨v0, v1, d0, d1, p0, p1, rfl, rfl, rfl, h0, h1⟩ := trodAll_two hA
  obtain ⟨rfl, rfl⟩ := trodVars_none hV
  clear hA0 hval0 hcnd0
  simp only [List.append_nil] at hW'
  have hlt : ∀ x ∈ (p0 ++ p1), x.block < W.heap.size := fun x hx => by simpa using hW'.lt x (by simpa using hx)
  have hlt0 : ∀ x ∈ p0, x.block < W.heap.size := fun x hx => hlt x (List.mem_append_left _ hx)
  have hlt1 : ∀ x ∈ p1, x.block < W.heap.size := fun x hx => hlt x (List.mem_append_right _ hx)
  obtain ⟨Y, hn, hs, hv⟩ := open_yard (hval 0 24 v0 rfl rfl) h0 hlt0
  obtain ⟨a1, len1, cap1, rfl⟩ := okWide_slice Try.underlying25 (hval 1 25 v1 rfl rfl)
  obtain ⟨S, hns, hvs⟩ := open_steps h1 hlt1
  refine (runSteps_body v0 Y _ S (runY Y S) (runD Y S) (runB Y S) (run_small Y S).1 (run_small Y S).2.1 (run_small Y S).2.2 hn hs W hv hns hvs (fun h1 h2 h3 u us W hu hs => specRun_any u us Y S h1 h2 h3 W hu hs) (fun h1 h2 h3 u us W hu hs => implRun_any u us Y S h1 h2 h3 W hu hs)).mono fun e W' ⟨he, hB⟩ => ?_
  subst he
  refine ⟨_, rfl, _, _, _, [], (p0 ++ p1), [], hW', ?_, ?_, rfl, hB.frame _, fun h => by cases h⟩
  · exact trodAll_mk1 (shut_bool Try.underlying4 true)
  · have h9 := trodAll_mk2 (Below.trod yard_laidOut (by kernel_rfl) (of_decide_eq_true (by kernel_rfl)) h0 hB hlt0) (Below.trod yard_laidOut (by kernel_rfl) (of_decide_eq_true (by kernel_rfl)) h1 hB hlt1)
    first
      | exact h9
      | (simp only [List.append_nil] at h9; exact h9)

theorem FnExactRunSteps_holds : Rows.FnExactRunStepsSaid :=
  OpenClaim.holds_of_wide 3 Try.f3 rfl rfl rfl rfl rfl rfl rfl ⟨rfl, rfl, rfl, rfl, rfl⟩ rfl rfl rfl rfl rfl (by kernel_rfl) Try.func3 (by kernel_rfl)
    (of_decide_eq_true (by kernel_rfl)) (by unfold Func.isWrapper; first | (rw [if_pos (by decide +kernel)]; kernel_rfl) | (rw [if_neg (by decide +kernel)]; exact ⟨rfl, rfl⟩))
    (fun os started H enc _ => runSteps_lifted os started H enc)
#print axioms FnExactRunSteps_holds

end Go.Proofs.Ytmkejgbbgknalaa
