/-
  Proved here: the law FnExactPutBox returns true at every yard and all ints, and they read afterwards as before. There are no conditions.
-/
import Derived.Test.YtdnbkfpcmjijlaaRows
import Derived.Test.YtdnbkfpcmjijlaaKeep
import Derived.Test.YtdnbkfpcmjijlaaPutI
import Derived.Test.YtdnbkfpcmjijlaaPutS
import Derived.WalkKit
import Derived.ProofKit
import Derived.OpenShut
namespace Go.Proofs.Ytdnbkfpcmjijlaa
open Go.Joins Go.Deep Go.ChangeShapes Go.WideShapes Go.ChangeAt Go.RowKit

set_option maxRecDepth 100000 in
set_option maxHeartbeats 8000000 in
theorem putBox_body (v : Value) (Y : List (List Int)) (p0 : Int) (p1 : Int) (R : List (List Int)) (ok : Bool) (hR : R.length ≤ 1048576) (hT : tot R ≤ 1048576) (hn : Y.length ≤ maxLen) (hs : ∀ (j : Nat) (l : List Int), Y[j]? = some l → l.length ≤ maxLen) (w : World) (hv : YdR w v Y)
    (hspec : Y.length ≤ 1048576 → tot Y ≤ 1048576 → ∀ u W, YdR W u Y → Calls Try.prog 17 #[u, .int .i64 p0, .int .i64 p1] W (RetY W R ok))
    (himpl : Y.length ≤ 1048576 → tot Y ≤ 1048576 → ∀ u W, YdR W u Y → Calls Try.prog 16 #[u, .int .i64 p0, .int .i64 p1] W (RetY W R ok)) :
    Calls Try.prog 5 #[v, .int .i64 p0, .int .i64 p1] w fun e w' => e = .returned (.bool true) ∧ Below w.heap.size w w' := by
  obtain ⟨v0, rfl, hv0⟩ := hv
  have HV : Hid (YdR w (.agg #[v0]) Y) := Lib.hid ⟨v0, rfl, hv0⟩
  have H1 := Lib.hid hspec
  have H2 := Lib.hid himpl
  have HSm := Lib.hid hs
  clear hspec himpl hv0 hs
  go_enter Try.func5, Try.ntmps5
  go_wp2_with fail
  have BA := Lib.hid (Box1.new w v0 43)
  have B := Lib.hid (below_one w (.cells #[v0] 43))
  generalize w.alloc (.cells #[v0] 43) = w0 at *
  have ZA := Lib.hid BA.out.1
  refine (szY_any _ Y 1048576 hn HSm.out (by decide) _ (HV.out.below B.out)).mono ?_
  rintro e w1 ⟨hb, rfl | ⟨r, rfl, -, hn2, ht2⟩⟩
  · have B := Lib.hid (B.out.trans (hb.mono B.out.size))
    clear hb
    go_wp2_with fail
    go_ret
    exact ⟨rfl, B.out⟩
  · have L1 := Lib.hid hn2
    have L2 := Lib.hid ht2
    have BA := Lib.hid (BA.out.below hb)
    have B := Lib.hid (B.out.trans (hb.mono B.out.size))
    have Z1 := Lib.hid hb.size
    clear hb
    have cBA := BA.out.2
    go_wp2_with fail
    clear cBA
    refine (toY_any (.agg #[v0]) Y L1.out L2.out _ (HV.out.below B.out)).mono ?_
    rintro e w2 ⟨a1, k1, rfl, ho, hb⟩
    have BA := Lib.hid (BA.out.below hb)
    have B := Lib.hid (B.out.trans (hb.mono B.out.size))
    have Z2 := Lib.hid hb.size
    have O1 := Lib.hid ho
    clear ho hb
    have cBA := BA.out.2
    go_wp2_with fail
    clear cBA
    refine (H1.out L1.out L2.out _ _ ⟨_, rfl, O1.out.yl⟩).mono ?_
    rintro e w3 ⟨a2, k2, rfl, ho, hb⟩
    have BA := Lib.hid (BA.out.below hb)
    have O1 := Lib.hid (O1.out.below hb)
    have B := Lib.hid (B.out.trans (hb.mono B.out.size))
    have Z3 := Lib.hid hb.size
    have W0 := Lib.hid ho
    clear hb ho
    clear O1
    have cBA := BA.out.2
    have dBA := fun o => (World.cell?_alloc_lt w3 o ⟨w.heap.size, 0, none⟩ BA.out.1).trans BA.out.2
    go_wp2_with fail
    clear cBA
    clear dBA
    have hb := below_one w3 (.cells #[.slice a2 R.length k2] 26)
    have BW := Lib.hid (Box1.new w3 (.slice a2 R.length k2) 26)
    have BA := Lib.hid (BA.out.below hb)
    have W0 := Lib.hid (W0.out.below hb)
    have B := Lib.hid (B.out.trans (hb.mono B.out.size))
    have Z4 := Lib.hid hb.size
    clear hb
    generalize w3.alloc (.cells #[.slice a2 R.length k2] 26) = w4 at *
    have Z5 := Lib.hid BW.out.1
    have cBA := BA.out.2
    have cBW := BW.out.2
    go_wp2_with fail
    clear cBA cBW
    refine (toY_any (.agg #[v0]) Y L1.out L2.out _ (HV.out.below B.out)).mono ?_
    rintro e w5 ⟨a3, k3, rfl, ho, hb⟩
    have BA := Lib.hid (BA.out.below hb)
    have W0 := Lib.hid (W0.out.below hb)
    have BW := Lib.hid (BW.out.below hb)
    have B := Lib.hid (B.out.trans (hb.mono B.out.size))
    have Z6 := Lib.hid hb.size
    have O3 := Lib.hid ho
    clear ho hb
    have cBA := BA.out.2
    have cBW := BW.out.2
    have dBA := fun o => (World.cell?_alloc_lt w5 o ⟨w.heap.size, 0, none⟩ BA.out.1).trans BA.out.2
    have dBW := fun o => (World.cell?_alloc_lt w5 o ⟨w3.heap.size, 0, none⟩ BW.out.1).trans BW.out.2
    go_wp2_with fail
    clear cBA cBW
    clear dBA dBW
    have hb := below_one w5 (.cells #[.slice a3 Y.length k3] 26)
    have BX := Lib.hid (Box1.new w5 (.slice a3 Y.length k3) 26)
    have BA := Lib.hid (BA.out.below hb)
    have W0 := Lib.hid (W0.out.below hb)
    have BW := Lib.hid (BW.out.below hb)
    have O3 := Lib.hid (O3.out.below hb)
    have B := Lib.hid (B.out.trans (hb.mono B.out.size))
    have Z7 := Lib.hid hb.size
    clear hb
    generalize w5.alloc (.cells #[.slice a3 Y.length k3] 26) = w6 at *
    have Z8 := Lib.hid BX.out.1
    have cBA := BA.out.2
    have cBW := BW.out.2
    have cBX := BX.out.2
    go_wp2_with fail
    clear cBA cBW cBX
    refine (H2.out L1.out L2.out _ _ ⟨_, rfl, O3.out.yl⟩).mono ?_
    rintro e w7 ⟨a4, k4, rfl, ho, hb⟩
    have BA := Lib.hid (BA.out.below hb)
    have W0 := Lib.hid (W0.out.below hb)
    have BW := Lib.hid (BW.out.below hb)
    have O3 := Lib.hid (O3.out.below hb)
    have BX := Lib.hid (BX.out.below hb)
    have B := Lib.hid (B.out.trans (hb.mono B.out.size))
    have Z9 := Lib.hid hb.size
    have G0 := Lib.hid ho
    clear hb ho
    have cBA := BA.out.2
    have cBW := BW.out.2
    have cBX := BX.out.2
    have dBA := fun o => (World.cell?_alloc_lt w7 o ⟨w.heap.size, 0, none⟩ BA.out.1).trans BA.out.2
    have dBW := fun o => (World.cell?_alloc_lt w7 o ⟨w3.heap.size, 0, none⟩ BW.out.1).trans BW.out.2
    have dBX := fun o => (World.cell?_alloc_lt w7 o ⟨w5.heap.size, 0, none⟩ BX.out.1).trans BX.out.2
    go_wp2_with fail
    clear cBA cBW cBX
    clear dBA dBW dBX
    have hb := below_one w7 (.cells #[.slice a4 R.length k4] 26)
    have BG := Lib.hid (Box1.new w7 (.slice a4 R.length k4) 26)
    have BA := Lib.hid (BA.out.below hb)
    have W0 := Lib.hid (W0.out.below hb)
    have BW := Lib.hid (BW.out.below hb)
    have O3 := Lib.hid (O3.out.below hb)
    have BX := Lib.hid (BX.out.below hb)
    have G0 := Lib.hid (G0.out.below hb)
    have B := Lib.hid (B.out.trans (hb.mono B.out.size))
    have Z10 := Lib.hid hb.size
    clear hb
    generalize w7.alloc (.cells #[.slice a4 R.length k4] 26) = w8 at *
    have Z11 := Lib.hid BG.out.1
    have cBA := BA.out.2
    have cBW := BW.out.2
    have cBX := BX.out.2
    have cBG := BG.out.2
    go_wp2_with fail
    clear cBA cBW cBX cBG
    refine (eqY_any _ _ R hR hT _ ⟨_, rfl, G0.out.yl⟩ ⟨_, rfl, W0.out.yl⟩).mono ?_
    rintro e w9 ⟨rfl, hb⟩
    have BA := Lib.hid (BA.out.below hb)
    have W0 := Lib.hid (W0.out.below hb)
    have BW := Lib.hid (BW.out.below hb)
    have O3 := Lib.hid (O3.out.below hb)
    have BX := Lib.hid (BX.out.below hb)
    have G0 := Lib.hid (G0.out.below hb)
    have BG := Lib.hid (BG.out.below hb)
    have B := Lib.hid (B.out.trans (hb.mono B.out.size))
    have Z12 := Lib.hid hb.size
    clear hb
    have cBA := BA.out.2
    have cBW := BW.out.2
    have cBX := BX.out.2
    have cBG := BG.out.2
    go_wp2_with fail
    have K0 := (KeepY.start (HV.out.below B.out) ⟨_, rfl, O3.out.yl⟩ BA.out BX.out).drew
    have KT := Lib.hid L1.out
    have hq1 := L1.out
    have hq2 := L2.out
    clear cBA cBW cBX cBG
    obtain ⟨hk1, hk2⟩ : w9.drew.cell? ⟨w.heap.size, 0, none⟩ = some v0 ∧ w9.drew.cell? ⟨w5.heap.size, 0, none⟩ = some (.slice a3 Y.length k3) := ⟨K0.2.2.2.1.2, K0.2.2.2.2.2⟩
    go_region_held3 (fun W => (W.cell? ⟨w.heap.size, 0, none⟩ = some v0 ∧ W.cell? ⟨w5.heap.size, 0, none⟩ = some (.slice a3 Y.length k3)) ∧ KeepY w9 w.heap.size w5.heap.size v0 (.slice a3 Y.length k3) Y W) (go_keep) (first | (go_at_call 28; refine (KeepY.to L1.out L2.out (by assumption)).mono ?_; rintro e w' ⟨u, rfl, hu, x0, x1, hK⟩) | (go_at_call 29; refine (KeepY.eq L1.out L2.out (by assumption) (by assumption)).mono ?_; rintro e w' ⟨rfl, x0, x1, hK⟩))
    rename World => w10
    have hb := hK.1
    clear hK x0 x1 hu hq1 hq2 KT
    have BA := Lib.hid (BA.out.below hb)
    have W0 := Lib.hid (W0.out.below hb)
    have BW := Lib.hid (BW.out.below hb)
    have O3 := Lib.hid (O3.out.below hb)
    have BX := Lib.hid (BX.out.below hb)
    have G0 := Lib.hid (G0.out.below hb)
    have BG := Lib.hid (BG.out.below hb)
    have B := Lib.hid (B.out.trans (hb.mono B.out.size))
    have Z13 := Lib.hid hb.size
    clear hb
    have cBA := BA.out.2
    have cBW := BW.out.2
    have cBX := BX.out.2
    have cBG := BG.out.2
    go_wp2_with fail
    clear cBA cBW cBX cBG
    refine (markY_any _ Y 1 w4.heap.size w5.heap.size L1.out L2.out (by decide) (by decide) _ ⟨_, rfl, O3.out⟩).mono ?_
    rintro e w11 ⟨rfl, -, hS⟩
    clear O3
    have BA := Lib.hid (BA.out.span hS (by have z0 := ZA.out; have z1 := Z1.out; have z2 := Z2.out; have z3 := Z3.out; have z4 := Z4.out; have z5 := Z5.out; have z6 := Z6.out; have z7 := Z7.out; have z8 := Z8.out; have z9 := Z9.out; have z10 := Z10.out; have z11 := Z11.out; have z12 := Z12.out; have z13 := Z13.out; have y0 := BA.out.1; have y1 := BW.out.1; have y2 := BX.out.1; have y3 := BG.out.1; omega))
    have W0 := Lib.hid (W0.out.span hS (by have z0 := ZA.out; have z1 := Z1.out; have z2 := Z2.out; have z3 := Z3.out; have z4 := Z4.out; have z5 := Z5.out; have z6 := Z6.out; have z7 := Z7.out; have z8 := Z8.out; have z9 := Z9.out; have z10 := Z10.out; have z11 := Z11.out; have z12 := Z12.out; have z13 := Z13.out; have y0 := BA.out.1; have y1 := BW.out.1; have y2 := BX.out.1; have y3 := BG.out.1; omega))
    have BW := Lib.hid (BW.out.span hS (by have z0 := ZA.out; have z1 := Z1.out; have z2 := Z2.out; have z3 := Z3.out; have z4 := Z4.out; have z5 := Z5.out; have z6 := Z6.out; have z7 := Z7.out; have z8 := Z8.out; have z9 := Z9.out; have z10 := Z10.out; have z11 := Z11.out; have z12 := Z12.out; have z13 := Z13.out; have y0 := BA.out.1; have y1 := BW.out.1; have y2 := BX.out.1; have y3 := BG.out.1; omega))
    have BX := Lib.hid (BX.out.span hS (by have z0 := ZA.out; have z1 := Z1.out; have z2 := Z2.out; have z3 := Z3.out; have z4 := Z4.out; have z5 := Z5.out; have z6 := Z6.out; have z7 := Z7.out; have z8 := Z8.out; have z9 := Z9.out; have z10 := Z10.out; have z11 := Z11.out; have z12 := Z12.out; have z13 := Z13.out; have y0 := BA.out.1; have y1 := BW.out.1; have y2 := BX.out.1; have y3 := BG.out.1; omega))
    have G0 := Lib.hid (G0.out.span hS (by have z0 := ZA.out; have z1 := Z1.out; have z2 := Z2.out; have z3 := Z3.out; have z4 := Z4.out; have z5 := Z5.out; have z6 := Z6.out; have z7 := Z7.out; have z8 := Z8.out; have z9 := Z9.out; have z10 := Z10.out; have z11 := Z11.out; have z12 := Z12.out; have z13 := Z13.out; have y0 := BA.out.1; have y1 := BW.out.1; have y2 := BX.out.1; have y3 := BG.out.1; omega))
    have BG := Lib.hid (BG.out.span hS (by have z0 := ZA.out; have z1 := Z1.out; have z2 := Z2.out; have z3 := Z3.out; have z4 := Z4.out; have z5 := Z5.out; have z6 := Z6.out; have z7 := Z7.out; have z8 := Z8.out; have z9 := Z9.out; have z10 := Z10.out; have z11 := Z11.out; have z12 := Z12.out; have z13 := Z13.out; have y0 := BA.out.1; have y1 := BW.out.1; have y2 := BX.out.1; have y3 := BG.out.1; omega))
    have B := Lib.hid (Below.span (B.out.mono (Nat.le_refl _)) (hS.lift (by have z0 := ZA.out; have z1 := Z1.out; have z2 := Z2.out; have z3 := Z3.out; have z4 := Z4.out; have z5 := Z5.out; have z6 := Z6.out; have z7 := Z7.out; have z8 := Z8.out; have z9 := Z9.out; have z10 := Z10.out; have z11 := Z11.out; have z12 := Z12.out; have z13 := Z13.out; have y0 := BA.out.1; have y1 := BW.out.1; have y2 := BX.out.1; have y3 := BG.out.1; omega)) B.out.size)
    have Z14 := Lib.hid hS.size
    clear hS
    have hnn : (0 : Int) ≤ 1 + (tot Y : Nat) := by omega
    have cBA := BA.out.2
    have cBW := BW.out.2
    have cBX := BX.out.2
    have cBG := BG.out.2
    go_wp2_with fail
    clear cBA cBW cBX cBG
    refine (eqY_any _ _ R hR hT _ ⟨_, rfl, G0.out.yl⟩ ⟨_, rfl, W0.out.yl⟩).mono ?_
    rintro e w12 ⟨rfl, hb⟩
    have BA := Lib.hid (BA.out.below hb)
    have W0 := Lib.hid (W0.out.below hb)
    have BW := Lib.hid (BW.out.below hb)
    have BX := Lib.hid (BX.out.below hb)
    have G0 := Lib.hid (G0.out.below hb)
    have BG := Lib.hid (BG.out.below hb)
    have B := Lib.hid (B.out.trans (hb.mono B.out.size))
    have Z15 := Lib.hid hb.size
    clear hb
    have cBA := BA.out.2
    have cBW := BW.out.2
    have cBX := BX.out.2
    have cBG := BG.out.2
    go_wp2_with fail
    clear cBA cBW cBX cBG
    refine (markY_any _ R 1 w6.heap.size w7.heap.size hR hT (by decide) (by decide) _ ⟨_, rfl, G0.out⟩).mono ?_
    rintro e w13 ⟨rfl, hM, hS⟩
    obtain ⟨_, hM1, hM2⟩ := hM
    cases hM1
    have M0 := Lib.hid hM2
    clear hM2
    clear G0
    have BA := Lib.hid (BA.out.span hS (by have z0 := ZA.out; have z1 := Z1.out; have z2 := Z2.out; have z3 := Z3.out; have z4 := Z4.out; have z5 := Z5.out; have z6 := Z6.out; have z7 := Z7.out; have z8 := Z8.out; have z9 := Z9.out; have z10 := Z10.out; have z11 := Z11.out; have z12 := Z12.out; have z13 := Z13.out; have z14 := Z14.out; have z15 := Z15.out; have y0 := BA.out.1; have y1 := BW.out.1; have y2 := BX.out.1; have y3 := BG.out.1; omega))
    have W0 := Lib.hid (W0.out.span hS (by have z0 := ZA.out; have z1 := Z1.out; have z2 := Z2.out; have z3 := Z3.out; have z4 := Z4.out; have z5 := Z5.out; have z6 := Z6.out; have z7 := Z7.out; have z8 := Z8.out; have z9 := Z9.out; have z10 := Z10.out; have z11 := Z11.out; have z12 := Z12.out; have z13 := Z13.out; have z14 := Z14.out; have z15 := Z15.out; have y0 := BA.out.1; have y1 := BW.out.1; have y2 := BX.out.1; have y3 := BG.out.1; omega))
    have BW := Lib.hid (BW.out.span hS (by have z0 := ZA.out; have z1 := Z1.out; have z2 := Z2.out; have z3 := Z3.out; have z4 := Z4.out; have z5 := Z5.out; have z6 := Z6.out; have z7 := Z7.out; have z8 := Z8.out; have z9 := Z9.out; have z10 := Z10.out; have z11 := Z11.out; have z12 := Z12.out; have z13 := Z13.out; have z14 := Z14.out; have z15 := Z15.out; have y0 := BA.out.1; have y1 := BW.out.1; have y2 := BX.out.1; have y3 := BG.out.1; omega))
    have BX := Lib.hid (BX.out.span hS (by have z0 := ZA.out; have z1 := Z1.out; have z2 := Z2.out; have z3 := Z3.out; have z4 := Z4.out; have z5 := Z5.out; have z6 := Z6.out; have z7 := Z7.out; have z8 := Z8.out; have z9 := Z9.out; have z10 := Z10.out; have z11 := Z11.out; have z12 := Z12.out; have z13 := Z13.out; have z14 := Z14.out; have z15 := Z15.out; have y0 := BA.out.1; have y1 := BW.out.1; have y2 := BX.out.1; have y3 := BG.out.1; omega))
    have BG := Lib.hid (BG.out.span hS (by have z0 := ZA.out; have z1 := Z1.out; have z2 := Z2.out; have z3 := Z3.out; have z4 := Z4.out; have z5 := Z5.out; have z6 := Z6.out; have z7 := Z7.out; have z8 := Z8.out; have z9 := Z9.out; have z10 := Z10.out; have z11 := Z11.out; have z12 := Z12.out; have z13 := Z13.out; have z14 := Z14.out; have z15 := Z15.out; have y0 := BA.out.1; have y1 := BW.out.1; have y2 := BX.out.1; have y3 := BG.out.1; omega))
    have B := Lib.hid (Below.span (B.out.mono (Nat.le_refl _)) (hS.lift (by have z0 := ZA.out; have z1 := Z1.out; have z2 := Z2.out; have z3 := Z3.out; have z4 := Z4.out; have z5 := Z5.out; have z6 := Z6.out; have z7 := Z7.out; have z8 := Z8.out; have z9 := Z9.out; have z10 := Z10.out; have z11 := Z11.out; have z12 := Z12.out; have z13 := Z13.out; have z14 := Z14.out; have z15 := Z15.out; have y0 := BA.out.1; have y1 := BW.out.1; have y2 := BX.out.1; have y3 := BG.out.1; omega)) B.out.size)
    have Z16 := Lib.hid hS.size
    clear hS
    have hnr : (0 : Int) ≤ 1 + (tot R : Nat) := by omega
    have cBA := BA.out.2
    have cBW := BW.out.2
    have cBX := BX.out.2
    have cBG := BG.out.2
    go_wp2_with fail
    clear cBA cBW cBX cBG
    refine (heldY_any _ R 1 hR hT (by decide) (by decide) _ ⟨_, rfl, M0.out.yl⟩).mono ?_
    rintro e w14 ⟨rfl, hb⟩
    have BA := Lib.hid (BA.out.below hb)
    have W0 := Lib.hid (W0.out.below hb)
    have BW := Lib.hid (BW.out.below hb)
    have BX := Lib.hid (BX.out.below hb)
    have BG := Lib.hid (BG.out.below hb)
    have M0 := Lib.hid (M0.out.below hb)
    have B := Lib.hid (B.out.trans (hb.mono B.out.size))
    have Z17 := Lib.hid hb.size
    clear hb
    have cBA := BA.out.2
    have cBW := BW.out.2
    have cBX := BX.out.2
    have cBG := BG.out.2
    go_wp2_with fail
    clear cBA cBW cBX cBG
    refine (toY_any (.agg #[v0]) Y L1.out L2.out _ (HV.out.below B.out)).mono ?_
    rintro e w15 ⟨a5, k5, rfl, ho, hb⟩
    have BA := Lib.hid (BA.out.below hb)
    have W0 := Lib.hid (W0.out.below hb)
    have BW := Lib.hid (BW.out.below hb)
    have BX := Lib.hid (BX.out.below hb)
    have BG := Lib.hid (BG.out.below hb)
    have M0 := Lib.hid (M0.out.below hb)
    have B := Lib.hid (B.out.trans (hb.mono B.out.size))
    have Z18 := Lib.hid hb.size
    have O5 := Lib.hid ho
    clear ho hb
    have cBA := BA.out.2
    have cBW := BW.out.2
    have cBX := BX.out.2
    have cBG := BG.out.2
    go_wp2_with fail
    clear cBA cBW cBX cBG
    refine (H2.out L1.out L2.out _ _ ⟨_, rfl, O5.out.yl⟩).mono ?_
    rintro e w16 ⟨a6, k6, rfl, ho, hb⟩
    have BA := Lib.hid (BA.out.below hb)
    have W0 := Lib.hid (W0.out.below hb)
    have BW := Lib.hid (BW.out.below hb)
    have BX := Lib.hid (BX.out.below hb)
    have BG := Lib.hid (BG.out.below hb)
    have M0 := Lib.hid (M0.out.below hb)
    have O5 := Lib.hid (O5.out.below hb)
    have B := Lib.hid (B.out.trans (hb.mono B.out.size))
    have Z19 := Lib.hid hb.size
    have G6 := Lib.hid ho
    clear hb ho
    clear O5
    have cBA := BA.out.2
    have cBW := BW.out.2
    have cBX := BX.out.2
    have cBG := BG.out.2
    have dBA := fun o => (World.cell?_alloc_lt w16 o ⟨w.heap.size, 0, none⟩ BA.out.1).trans BA.out.2
    have dBW := fun o => (World.cell?_alloc_lt w16 o ⟨w3.heap.size, 0, none⟩ BW.out.1).trans BW.out.2
    have dBX := fun o => (World.cell?_alloc_lt w16 o ⟨w5.heap.size, 0, none⟩ BX.out.1).trans BX.out.2
    have dBG := fun o => (World.cell?_alloc_lt w16 o ⟨w7.heap.size, 0, none⟩ BG.out.1).trans BG.out.2
    go_wp2_with fail
    clear cBA cBW cBX cBG
    clear dBA dBW dBX dBG
    have hb := below_one w16 (.cells #[.slice a6 R.length k6] 26)
    have BH := Lib.hid (Box1.new w16 (.slice a6 R.length k6) 26)
    have BA := Lib.hid (BA.out.below hb)
    have W0 := Lib.hid (W0.out.below hb)
    have BW := Lib.hid (BW.out.below hb)
    have BX := Lib.hid (BX.out.below hb)
    have BG := Lib.hid (BG.out.below hb)
    have M0 := Lib.hid (M0.out.below hb)
    have G6 := Lib.hid (G6.out.below hb)
    have B := Lib.hid (B.out.trans (hb.mono B.out.size))
    have Z20 := Lib.hid hb.size
    clear hb
    generalize w16.alloc (.cells #[.slice a6 R.length k6] 26) = w17 at *
    have Z21 := Lib.hid BH.out.1
    have cBA := BA.out.2
    have cBW := BW.out.2
    have cBX := BX.out.2
    have cBG := BG.out.2
    have cBH := BH.out.2
    go_wp2_with fail
    clear cBA cBW cBX cBG cBH
    refine (eqY_any _ _ R hR hT _ ⟨_, rfl, G6.out.yl⟩ ⟨_, rfl, W0.out.yl⟩).mono ?_
    rintro e w18 ⟨rfl, hb⟩
    have BA := Lib.hid (BA.out.below hb)
    have W0 := Lib.hid (W0.out.below hb)
    have BW := Lib.hid (BW.out.below hb)
    have BX := Lib.hid (BX.out.below hb)
    have BG := Lib.hid (BG.out.below hb)
    have M0 := Lib.hid (M0.out.below hb)
    have G6 := Lib.hid (G6.out.below hb)
    have BH := Lib.hid (BH.out.below hb)
    have B := Lib.hid (B.out.trans (hb.mono B.out.size))
    have Z22 := Lib.hid hb.size
    clear hb
    have cBA := BA.out.2
    have cBW := BW.out.2
    have cBX := BX.out.2
    have cBG := BG.out.2
    have cBH := BH.out.2
    go_wp2_with fail
    clear cBA cBW cBX cBG cBH
    refine (heldY_any _ R 1 hR hT (by decide) (by decide) _ ⟨_, rfl, M0.out.yl⟩).mono ?_
    rintro e w19 ⟨rfl, hb⟩
    have BA := Lib.hid (BA.out.below hb)
    have W0 := Lib.hid (W0.out.below hb)
    have BW := Lib.hid (BW.out.below hb)
    have BX := Lib.hid (BX.out.below hb)
    have BG := Lib.hid (BG.out.below hb)
    have M0 := Lib.hid (M0.out.below hb)
    have G6 := Lib.hid (G6.out.below hb)
    have BH := Lib.hid (BH.out.below hb)
    have B := Lib.hid (B.out.trans (hb.mono B.out.size))
    have Z23 := Lib.hid hb.size
    clear hb
    have cBA := BA.out.2
    have cBW := BW.out.2
    have cBX := BX.out.2
    have cBG := BG.out.2
    have cBH := BH.out.2
    go_wp2_with fail
    go_ret
    exact ⟨rfl, B.out⟩

set_option maxRecDepth 100000 in
theorem putBox_lifted (os : Os) (started : os.Started) (H : Type) (enc : TypeId × Value → H) :
    ReturnsInHanded {} Try.checked os 5 .any (Rows.fnExactPutBoxSpec.pre6 enc Try.prog Try.f5 Rows.fnExactPutBoxRow.domain false) (Rows.fnExactPutBoxSpec.post enc Try.prog Try.f5 false true false false) := by
  refine returnsInHanded_of_change (C := Try.checked) yard_own started (by kernel_rfl) Try.func5
    (ChangeSpec.witness6 (enc := enc) (C := Try.checked) false ⟨#[], #[.agg #[.slice none 0 0], .int .i64 0, .int .i64 0], []⟩ 8 (by kernel_rfl) (by kernel_rfl) (by kernel_rfl) (by kernel_rfl)) ?_
  intro W base args ds gs before hval0 hW hcnd0 _
  have hval : ∀ (j : Nat) t v, Try.f5.params[j]? = some t → args[j]? = some v → Value.okWide Try.prog W .any base t v := hval0
  have hW' := hW
  obtain ⟨p, q, hA0, hV, rfl, hfz, _⟩ := hW
  have hA : DataW.TrodAll enc Try.prog W 0 (fun _ => true) true Try.f5.params.toList args.toList ds p := hA0
  rw [Try.params5] at hA hval
  obtain ⟨v0, v1, v2, d0, d1, d2, p0, p1, p2, rfl, rfl, rfl, h0, h1, h2⟩ := trodAll_three hA
  obtain ⟨rfl, rfl⟩ := trodVars_none hV
  obtain ⟨x1, rfl, rfl, rfl, w1⟩ := open_int Try.underlying3 (hval 1 3 v1 rfl rfl) h1
  obtain ⟨x2, rfl, rfl, rfl, w2⟩ := open_int Try.underlying3 (hval 2 3 v2 rfl rfl) h2
  clear hA0 hval0 hcnd0
  simp only [List.append_nil] at hW'
  have hlt : ∀ x ∈ p0, x.block < W.heap.size := fun x hx => by simpa using hW'.lt x (by simpa using hx)
  obtain ⟨Y, hn, hs, hv⟩ := open_yard (hval 0 43 v0 rfl rfl) h0 hlt
  refine (putBox_body v0 Y x1 x2 (putR Y x1 x2) (okP Y x1 x2) (putR_small Y x1 x2).1 (putR_small Y x1 x2).2 hn hs W hv (fun h1 h2 u W h => specPut_any u Y x1 x2 h1 h2 W h) (fun h1 h2 u W h => implPut_any u Y x1 x2 h1 h2 W h)).mono fun e W' ⟨he, hB⟩ => ?_
  subst he
  refine ⟨_, rfl, _, _, _, [], p0, [], hW', ?_, ?_, rfl, hB.frame _, fun h => by cases h⟩
  · exact trodAll_mk1 (shut_bool Try.underlying4 true)
  · have h9 := trodAll_mk3 (Below.trod yard_laidOut (by kernel_rfl) (of_decide_eq_true (by kernel_rfl)) h0 hB hlt) (shut_int Try.underlying3 w1) (shut_int Try.underlying3 w2)
    simp only [List.append_nil] at h9
    exact h9

theorem FnExactPutBox_holds : Rows.FnExactPutBoxSaid :=
  OpenClaim.holds_of_wide 5 Try.f5 rfl rfl rfl rfl rfl rfl rfl ⟨rfl, rfl, rfl, rfl, rfl⟩ rfl rfl rfl rfl rfl (by kernel_rfl) Try.func5 (by kernel_rfl)
    (of_decide_eq_true (by kernel_rfl)) (by unfold Func.isWrapper; first | (rw [if_pos (by decide +kernel)]; kernel_rfl) | (rw [if_neg (by decide +kernel)]; exact ⟨rfl, rfl⟩))
    (fun os started H enc _ => putBox_lifted os started H enc)
#print axioms FnExactPutBox_holds

end Go.Proofs.Ytdnbkfpcmjijlaa
