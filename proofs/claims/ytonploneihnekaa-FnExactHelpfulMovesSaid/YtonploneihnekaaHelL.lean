/-
  Proved here: the law FnExactHelpfulMoves returns true at every yard, every list of containers and every int, and they read afterwards as before. There are no conditions.
-/
import Derived.Test.YtonploneihnekaaRows
import Derived.Test.YtonploneihnekaaLawC
import Derived.Test.YtonploneihnekaaHelI
import Derived.WalkKit
import Derived.ProofKit
import Derived.OpenShut
namespace Go.Proofs.Ytonploneihnekaa
open Go.Joins Go.Deep Go.ChangeShapes Go.WideShapes Go.ChangeAt Go.RowKit

set_option maxRecDepth 100000 in
set_option maxHeartbeats 16000000 in
theorem helpfulMoves_body (v : Value) (Y : List (List Int)) (vc : Value) (n : Nat) (f : Nat → C.Cont) (p : Int) (R : List (List Int)) (ok : Bool) (hR : R.length ≤ 1048576) (hT : tot R ≤ 1048576) (hn : Y.length ≤ maxLen) (hs : ∀ (j : Nat) (l : List Int), Y[j]? = some l → l.length ≤ maxLen) (w : World) (hv : YdR w v Y) (hnc : n ≤ maxLen) (hcs : ∀ j, j < n → (f j).id.size ≤ maxLen) (hvc : C.ArgC w vc n f)
    (hspec : Y.length ≤ 1048576 → tot Y ≤ 1048576 → n ≤ 1048576 → (∀ j, j < n → (f j).id.size ≤ 1048576) → ∀ (u : Value) (g : Nat) W, YdR W u Y → C.CAt W g 0 n f → Calls Try.prog 33 #[u, .slice (some ⟨g, 0, none⟩) n n, .int .i64 p] W (RetYY W R ok))
    (himpl : Y.length ≤ 1048576 → tot Y ≤ 1048576 → n ≤ 1048576 → (∀ j, j < n → (f j).id.size ≤ 1048576) → ∀ (u : Value) (g : Nat) W, YdR W u Y → C.CAt W g 0 n f → Calls Try.prog 34 #[u, .slice (some ⟨g, 0, none⟩) n n, .int .i64 p] W (RetYY W R ok)) :
    Calls Try.prog 8 #[v, vc, .int .i64 p] w fun e w' => e = .returned (.bool true) ∧ Below w.heap.size w w' := by
  obtain ⟨v0, rfl, hv0⟩ := hv
  have HV : Hid (YdR w (.agg #[v0]) Y) := Lib.hid ⟨v0, rfl, hv0⟩
  have H1 := Lib.hid hspec
  have H2 := Lib.hid himpl
  have HSm := Lib.hid hs
  have HCs := Lib.hid hcs
  have HC := Lib.hid hvc
  obtain ⟨ac, cc, rfl⟩ := argC_form hvc
  clear hspec himpl hv0 hs hcs hvc
  go_enter Try.func8, Try.ntmps8
  go_wp2_with fail
  have BA := Lib.hid (Box1.new w v0 24)
  have B := Lib.hid (below_one w (.cells #[v0] 24))
  generalize w.alloc (.cells #[v0] 24) = w0 at *
  have ZA := Lib.hid BA.out.1
  refine (szY_any _ Y 1048576 hn HSm.out (by decide) _ (HV.out.below B.out)).mono ?_
  rintro e w1 ⟨hb, rfl | ⟨r, rfl, hr9, hn2, ht2⟩⟩
  · have B := Lib.hid (B.out.trans (hb.mono B.out.size))
    clear hb
    go_wp2_with fail
    go_ret
    exact ⟨rfl, B.out⟩
  have L1 := Lib.hid hn2
  have L2 := Lib.hid ht2
  have BA := Lib.hid (BA.out.below hb)
  have B := Lib.hid (B.out.trans (hb.mono B.out.size))
  have Z1 := Lib.hid hb.size
  clear hb
  have cBA := BA.out.2
  go_wp2_with fail
  clear cBA
  refine (C.szL_any _ n r f hr9 hnc HCs.out _ (HC.out.below B.out)).mono ?_
  rintro e w2 ⟨hb, rfl | ⟨r2, rfl, -, hn3, hi3⟩⟩
  · have B := Lib.hid (B.out.trans (hb.mono B.out.size))
    have BA := Lib.hid (BA.out.below hb)
    clear hb
    have cBA := BA.out.2
    go_wp2_with fail
    go_ret
    exact ⟨rfl, B.out⟩
  have BA := Lib.hid (BA.out.below hb)
  have B := Lib.hid (B.out.trans (hb.mono B.out.size))
  have Z2 := Lib.hid hb.size
  clear hb
  have L3 := Lib.hid hn3
  have L4 := Lib.hid hi3
  have hr3 : (0 : Int) ≤ (r2 : Int) := by omega
  clear hi3 hr9
  have cBA := BA.out.2
  go_wp2_with fail
  clear cBA
  refine (toY_any (.agg #[v0]) Y L1.out L2.out _ (HV.out.below B.out)).mono ?_
  rintro e w3 ⟨a1, k1, rfl, ho, hb⟩
  have BA := Lib.hid (BA.out.below hb)
  have B := Lib.hid (B.out.trans (hb.mono B.out.size))
  have Z3 := Lib.hid hb.size
  have O1 := Lib.hid ho
  clear ho hb
  have cBA := BA.out.2
  go_wp2_with fail
  clear cBA
  refine (toC_new _ n f L3.out _ (HC.out.below B.out)).mono ?_
  rintro e w4 ⟨rfl, ho, hb⟩
  have BA := Lib.hid (BA.out.below hb)
  have O1 := Lib.hid (O1.out.below hb)
  have B := Lib.hid (B.out.trans (hb.mono B.out.size))
  have Z4 := Lib.hid hb.size
  have P1 := Lib.hid ho
  clear ho hb
  have cBA := BA.out.2
  go_wp2_with fail
  clear cBA
  refine (H1.out L1.out L2.out L3.out L4.out _ _ _ ⟨_, rfl, O1.out.yl⟩ P1.out.at).mono ?_
  rintro e w5 ⟨aw, kw, rfl, ho, hb⟩
  have BA := Lib.hid (BA.out.below hb)
  have O1 := Lib.hid (O1.out.below hb)
  have P1 := Lib.hid (P1.out.below hb)
  have B := Lib.hid (B.out.trans (hb.mono B.out.size))
  have Z5 := Lib.hid hb.size
  have W0 := Lib.hid ho
  clear hb ho
  clear O1
  clear P1
  have BS := Lib.hid (Below.refl w5.heap.size w5)
  have cBA := BA.out.2
  go_wp2_with fail
  clear cBA
  refine (toY_any (.agg #[v0]) Y L1.out L2.out _ (HV.out.below B.out)).mono ?_
  rintro e w6 ⟨a3, k3, rfl, ho, hb⟩
  have BA := Lib.hid (BA.out.below hb)
  have BS := Lib.hid (BS.out.trans (hb.mono BS.out.size))
  have B := Lib.hid (B.out.trans (hb.mono B.out.size))
  have Z6 := Lib.hid hb.size
  have O3 := Lib.hid ho
  clear ho hb
  have cBA := BA.out.2
  have dBA := fun o => (World.cell?_alloc_lt w6 o ⟨w.heap.size, 0, none⟩ BA.out.1).trans BA.out.2
  go_wp2_with fail
  clear cBA
  clear dBA
  have hb := below_one w6 (.cells #[.slice a3 Y.length k3] 31)
  have BX := Lib.hid (Box1.new w6 (.slice a3 Y.length k3) 31)
  have BA := Lib.hid (BA.out.below hb)
  have O3 := Lib.hid (O3.out.below hb)
  have BS := Lib.hid (BS.out.trans (hb.mono BS.out.size))
  have B := Lib.hid (B.out.trans (hb.mono B.out.size))
  have Z7 := Lib.hid hb.size
  clear hb
  generalize w6.alloc (.cells #[.slice a3 Y.length k3] 31) = w7 at *
  have Z8 := Lib.hid BX.out.1
  have cBA := BA.out.2
  have cBX := BX.out.2
  go_wp2_with fail
  clear cBA cBX
  refine (toC_new _ n f L3.out _ (HC.out.below B.out)).mono ?_
  rintro e w8 ⟨rfl, ho, hb⟩
  have BA := Lib.hid (BA.out.below hb)
  have O3 := Lib.hid (O3.out.below hb)
  have BX := Lib.hid (BX.out.below hb)
  have BS := Lib.hid (BS.out.trans (hb.mono BS.out.size))
  have B := Lib.hid (B.out.trans (hb.mono B.out.size))
  have Z9 := Lib.hid hb.size
  have P3 := Lib.hid ho
  clear ho hb
  have cBA := BA.out.2
  have cBX := BX.out.2
  go_wp2_with fail
  clear cBA cBX
  refine (H2.out L1.out L2.out L3.out L4.out _ _ _ ⟨_, rfl, O3.out.yl⟩ P3.out.at).mono ?_
  rintro e w9 ⟨ag4, kg4, rfl, ho, hb⟩
  have BA := Lib.hid (BA.out.below hb)
  have O3 := Lib.hid (O3.out.below hb)
  have BX := Lib.hid (BX.out.below hb)
  have P3 := Lib.hid (P3.out.below hb)
  have BS := Lib.hid (BS.out.trans (hb.mono BS.out.size))
  have B := Lib.hid (B.out.trans (hb.mono B.out.size))
  have Z10 := Lib.hid hb.size
  have G4 := Lib.hid ho
  clear hb ho
  have cBA := BA.out.2
  have cBX := BX.out.2
  go_wp2_with fail
  clear cBA cBX
  refine (eqYY_any _ _ R hR hT _ G4.out.yl (W0.out.yl.below BS.out)).mono ?_
  rintro e w10 ⟨rfl, hb⟩
  have BA := Lib.hid (BA.out.below hb)
  have O3 := Lib.hid (O3.out.below hb)
  have BX := Lib.hid (BX.out.below hb)
  have P3 := Lib.hid (P3.out.below hb)
  have G4 := Lib.hid (G4.out.below hb)
  have BS := Lib.hid (BS.out.trans (hb.mono BS.out.size))
  have B := Lib.hid (B.out.trans (hb.mono B.out.size))
  have Z11 := Lib.hid hb.size
  clear hb
  have cBA := BA.out.2
  have cBX := BX.out.2
  go_wp2_with fail
  have K0 := (KeepY.start (HV.out.below B.out) ⟨_, rfl, O3.out.yl⟩ BA.out BX.out).drew
  have KT := Lib.hid L1.out
  have hq1 := L1.out
  have hq2 := L2.out
  clear cBA cBX
  obtain ⟨hk1, hk2⟩ : w10.drew.cell? ⟨w.heap.size, 0, none⟩ = some v0 ∧ w10.drew.cell? ⟨w6.heap.size, 0, none⟩ = some (.slice a3 Y.length k3) := ⟨K0.2.2.2.1.2, K0.2.2.2.2.2⟩
  go_region_held3 (fun W => (W.cell? ⟨w.heap.size, 0, none⟩ = some v0 ∧ W.cell? ⟨w6.heap.size, 0, none⟩ = some (.slice a3 Y.length k3)) ∧ KeepY w10 w.heap.size w6.heap.size v0 (.slice a3 Y.length k3) Y W) (go_keep) (first | (go_at_call 12; refine (KeepY.to L1.out L2.out (by assumption)).mono ?_; rintro e w' ⟨u, rfl, hu, x0, x1, hK⟩) | (go_at_call 16; refine (KeepY.eq L1.out L2.out (by assumption) (by assumption)).mono ?_; rintro e w' ⟨rfl, x0, x1, hK⟩))
  rename World => w11
  have hb := hK.1
  clear hK x0 x1 hu hq1 hq2 KT
  have BA := Lib.hid (BA.out.below hb)
  have O3 := Lib.hid (O3.out.below hb)
  have BX := Lib.hid (BX.out.below hb)
  have P3 := Lib.hid (P3.out.below hb)
  have G4 := Lib.hid (G4.out.below hb)
  have BS := Lib.hid (BS.out.trans (hb.mono BS.out.size))
  have B := Lib.hid (B.out.trans (hb.mono B.out.size))
  have Z12 := Lib.hid hb.size
  clear hb
  have cBA := BA.out.2
  have cBX := BX.out.2
  go_wp2_with fail
  clear cBA cBX
  refine (toC_new _ n f L3.out _ (HC.out.below B.out)).mono ?_
  rintro e w12 ⟨rfl, ho, hb⟩
  have BA := Lib.hid (BA.out.below hb)
  have O3 := Lib.hid (O3.out.below hb)
  have BX := Lib.hid (BX.out.below hb)
  have P3 := Lib.hid (P3.out.below hb)
  have G4 := Lib.hid (G4.out.below hb)
  have BS := Lib.hid (BS.out.trans (hb.mono BS.out.size))
  have B := Lib.hid (B.out.trans (hb.mono B.out.size))
  have Z13 := Lib.hid hb.size
  have P5 := Lib.hid ho
  clear ho hb
  have cBA := BA.out.2
  have cBX := BX.out.2
  go_wp2_with fail
  clear cBA cBX
  refine (eqC_new L3.out P3.out P5.out).mono ?_
  rintro e w13 ⟨rfl, hb⟩
  have BA := Lib.hid (BA.out.below hb)
  have O3 := Lib.hid (O3.out.below hb)
  have BX := Lib.hid (BX.out.below hb)
  have P3 := Lib.hid (P3.out.below hb)
  have G4 := Lib.hid (G4.out.below hb)
  have P5 := Lib.hid (P5.out.below hb)
  have BS := Lib.hid (BS.out.trans (hb.mono BS.out.size))
  have B := Lib.hid (B.out.trans (hb.mono B.out.size))
  have Z14 := Lib.hid hb.size
  clear hb
  clear P5
  have cBA := BA.out.2
  have cBX := BX.out.2
  go_wp2_with fail
  clear cBA cBX
  refine (markY_any _ Y 1 w5.heap.size w6.heap.size L1.out L2.out (by decide) (by decide) _ ⟨_, rfl, O3.out⟩).mono ?_
  rintro e w14 ⟨rfl, -, hS⟩
  clear O3
  have BA := Lib.hid (BA.out.span hS (by have z0 := ZA.out; have z1 := Z1.out; have z2 := Z2.out; have z3 := Z3.out; have z4 := Z4.out; have z5 := Z5.out; have z6 := Z6.out; have z7 := Z7.out; have z8 := Z8.out; have z9 := Z9.out; have z10 := Z10.out; have z11 := Z11.out; have z12 := Z12.out; have z13 := Z13.out; have z14 := Z14.out; have y0 := BA.out.1; have y1 := BX.out.1; omega))
  have BX := Lib.hid (BX.out.span hS (by have z0 := ZA.out; have z1 := Z1.out; have z2 := Z2.out; have z3 := Z3.out; have z4 := Z4.out; have z5 := Z5.out; have z6 := Z6.out; have z7 := Z7.out; have z8 := Z8.out; have z9 := Z9.out; have z10 := Z10.out; have z11 := Z11.out; have z12 := Z12.out; have z13 := Z13.out; have z14 := Z14.out; have y0 := BA.out.1; have y1 := BX.out.1; omega))
  have P3 := Lib.hid (P3.out.span hS (by have z0 := ZA.out; have z1 := Z1.out; have z2 := Z2.out; have z3 := Z3.out; have z4 := Z4.out; have z5 := Z5.out; have z6 := Z6.out; have z7 := Z7.out; have z8 := Z8.out; have z9 := Z9.out; have z10 := Z10.out; have z11 := Z11.out; have z12 := Z12.out; have z13 := Z13.out; have z14 := Z14.out; have y0 := BA.out.1; have y1 := BX.out.1; omega))
  have G4 := Lib.hid (G4.out.span hS (by have z0 := ZA.out; have z1 := Z1.out; have z2 := Z2.out; have z3 := Z3.out; have z4 := Z4.out; have z5 := Z5.out; have z6 := Z6.out; have z7 := Z7.out; have z8 := Z8.out; have z9 := Z9.out; have z10 := Z10.out; have z11 := Z11.out; have z12 := Z12.out; have z13 := Z13.out; have z14 := Z14.out; have y0 := BA.out.1; have y1 := BX.out.1; omega))
  have BS := Lib.hid (Below.span (BS.out.mono (Nat.le_refl _)) (hS.lift (by have z0 := ZA.out; have z1 := Z1.out; have z2 := Z2.out; have z3 := Z3.out; have z4 := Z4.out; have z5 := Z5.out; have z6 := Z6.out; have z7 := Z7.out; have z8 := Z8.out; have z9 := Z9.out; have z10 := Z10.out; have z11 := Z11.out; have z12 := Z12.out; have z13 := Z13.out; have z14 := Z14.out; have y0 := BA.out.1; have y1 := BX.out.1; omega)) BS.out.size)
  have B := Lib.hid (Below.span (B.out.mono (Nat.le_refl _)) (hS.lift (by have z0 := ZA.out; have z1 := Z1.out; have z2 := Z2.out; have z3 := Z3.out; have z4 := Z4.out; have z5 := Z5.out; have z6 := Z6.out; have z7 := Z7.out; have z8 := Z8.out; have z9 := Z9.out; have z10 := Z10.out; have z11 := Z11.out; have z12 := Z12.out; have z13 := Z13.out; have z14 := Z14.out; have y0 := BA.out.1; have y1 := BX.out.1; omega)) B.out.size)
  have Z15 := Lib.hid hS.size
  clear hS
  obtain ⟨ty, hty⟩ : ∃ ty : Int, 1 + (tot Y : Int) = ty := ⟨_, rfl⟩
  rw [hty]
  have hty0 : 1 ≤ ty := by omega
  have hty1 : ty ≤ 1048577 := by have := L2.out; omega
  clear hty
  have cBA := BA.out.2
  have cBX := BX.out.2
  go_wp2_with fail
  clear cBA cBX
  refine (markC_new ty L3.out hty0 (by omega) P3.out).mono ?_
  rintro e w15 ⟨rfl, hS⟩
  clear P3
  have BA := Lib.hid (BA.out.span hS (by have z0 := ZA.out; have z1 := Z1.out; have z2 := Z2.out; have z3 := Z3.out; have z4 := Z4.out; have z5 := Z5.out; have z6 := Z6.out; have z7 := Z7.out; have z8 := Z8.out; have z9 := Z9.out; have z10 := Z10.out; have z11 := Z11.out; have z12 := Z12.out; have z13 := Z13.out; have z14 := Z14.out; have z15 := Z15.out; have y0 := BA.out.1; have y1 := BX.out.1; omega))
  have BX := Lib.hid (BX.out.span hS (by have z0 := ZA.out; have z1 := Z1.out; have z2 := Z2.out; have z3 := Z3.out; have z4 := Z4.out; have z5 := Z5.out; have z6 := Z6.out; have z7 := Z7.out; have z8 := Z8.out; have z9 := Z9.out; have z10 := Z10.out; have z11 := Z11.out; have z12 := Z12.out; have z13 := Z13.out; have z14 := Z14.out; have z15 := Z15.out; have y0 := BA.out.1; have y1 := BX.out.1; omega))
  have G4 := Lib.hid (G4.out.span hS (by have z0 := ZA.out; have z1 := Z1.out; have z2 := Z2.out; have z3 := Z3.out; have z4 := Z4.out; have z5 := Z5.out; have z6 := Z6.out; have z7 := Z7.out; have z8 := Z8.out; have z9 := Z9.out; have z10 := Z10.out; have z11 := Z11.out; have z12 := Z12.out; have z13 := Z13.out; have z14 := Z14.out; have z15 := Z15.out; have y0 := BA.out.1; have y1 := BX.out.1; omega))
  have BS := Lib.hid (Below.span (BS.out.mono (Nat.le_refl _)) (hS.lift (by have z0 := ZA.out; have z1 := Z1.out; have z2 := Z2.out; have z3 := Z3.out; have z4 := Z4.out; have z5 := Z5.out; have z6 := Z6.out; have z7 := Z7.out; have z8 := Z8.out; have z9 := Z9.out; have z10 := Z10.out; have z11 := Z11.out; have z12 := Z12.out; have z13 := Z13.out; have z14 := Z14.out; have z15 := Z15.out; have y0 := BA.out.1; have y1 := BX.out.1; omega)) BS.out.size)
  have B := Lib.hid (Below.span (B.out.mono (Nat.le_refl _)) (hS.lift (by have z0 := ZA.out; have z1 := Z1.out; have z2 := Z2.out; have z3 := Z3.out; have z4 := Z4.out; have z5 := Z5.out; have z6 := Z6.out; have z7 := Z7.out; have z8 := Z8.out; have z9 := Z9.out; have z10 := Z10.out; have z11 := Z11.out; have z12 := Z12.out; have z13 := Z13.out; have z14 := Z14.out; have z15 := Z15.out; have y0 := BA.out.1; have y1 := BX.out.1; omega)) B.out.size)
  have Z16 := Lib.hid hS.size
  clear hS
  obtain ⟨tq, htq⟩ : ∃ tq : Int, ty + 5 * (n : Int) = tq := ⟨_, rfl⟩
  rw [htq]
  have htq0 : 0 ≤ tq := by omega
  clear htq
  have cBA := BA.out.2
  have cBX := BX.out.2
  go_wp2_with fail
  clear cBA cBX
  refine (eqYY_any _ _ R hR hT _ G4.out.yl (W0.out.yl.below BS.out)).mono ?_
  rintro e w16 ⟨rfl, hb⟩
  have BA := Lib.hid (BA.out.below hb)
  have BX := Lib.hid (BX.out.below hb)
  have G4 := Lib.hid (G4.out.below hb)
  have BS := Lib.hid (BS.out.trans (hb.mono BS.out.size))
  have B := Lib.hid (B.out.trans (hb.mono B.out.size))
  have Z17 := Lib.hid hb.size
  clear hb
  have cBA := BA.out.2
  have cBX := BX.out.2
  go_wp2_with fail
  clear cBA cBX
  refine (markSS_any _ R 1 w8.heap.size _ hR hT (by decide) (by decide) _ G4.out).mono ?_
  rintro e w17 ⟨rfl, hM, hS⟩
  have M0 := Lib.hid hM
  clear hM
  clear G4
  have BA := Lib.hid (BA.out.span hS (by have z0 := ZA.out; have z1 := Z1.out; have z2 := Z2.out; have z3 := Z3.out; have z4 := Z4.out; have z5 := Z5.out; have z6 := Z6.out; have z7 := Z7.out; have z8 := Z8.out; have z9 := Z9.out; have z10 := Z10.out; have z11 := Z11.out; have z12 := Z12.out; have z13 := Z13.out; have z14 := Z14.out; have z15 := Z15.out; have z16 := Z16.out; have z17 := Z17.out; have y0 := BA.out.1; have y1 := BX.out.1; omega))
  have BX := Lib.hid (BX.out.span hS (by have z0 := ZA.out; have z1 := Z1.out; have z2 := Z2.out; have z3 := Z3.out; have z4 := Z4.out; have z5 := Z5.out; have z6 := Z6.out; have z7 := Z7.out; have z8 := Z8.out; have z9 := Z9.out; have z10 := Z10.out; have z11 := Z11.out; have z12 := Z12.out; have z13 := Z13.out; have z14 := Z14.out; have z15 := Z15.out; have z16 := Z16.out; have z17 := Z17.out; have y0 := BA.out.1; have y1 := BX.out.1; omega))
  have BS := Lib.hid (Below.span (BS.out.mono (Nat.le_refl _)) (hS.lift (by have z0 := ZA.out; have z1 := Z1.out; have z2 := Z2.out; have z3 := Z3.out; have z4 := Z4.out; have z5 := Z5.out; have z6 := Z6.out; have z7 := Z7.out; have z8 := Z8.out; have z9 := Z9.out; have z10 := Z10.out; have z11 := Z11.out; have z12 := Z12.out; have z13 := Z13.out; have z14 := Z14.out; have z15 := Z15.out; have z16 := Z16.out; have z17 := Z17.out; have y0 := BA.out.1; have y1 := BX.out.1; omega)) BS.out.size)
  have B := Lib.hid (Below.span (B.out.mono (Nat.le_refl _)) (hS.lift (by have z0 := ZA.out; have z1 := Z1.out; have z2 := Z2.out; have z3 := Z3.out; have z4 := Z4.out; have z5 := Z5.out; have z6 := Z6.out; have z7 := Z7.out; have z8 := Z8.out; have z9 := Z9.out; have z10 := Z10.out; have z11 := Z11.out; have z12 := Z12.out; have z13 := Z13.out; have z14 := Z14.out; have z15 := Z15.out; have z16 := Z16.out; have z17 := Z17.out; have y0 := BA.out.1; have y1 := BX.out.1; omega)) B.out.size)
  have Z18 := Lib.hid hS.size
  clear hS
  have hnn : (0 : Int) ≤ 1 + (tot R : Int) := by omega
  have cBA := BA.out.2
  have cBX := BX.out.2
  go_wp2_with fail
  clear cBA cBX
  refine (heldSS_any _ R 1 hR hT (by decide) (by decide) _ M0.out.yl).mono ?_
  rintro e w18 ⟨rfl, hb⟩
  have BA := Lib.hid (BA.out.below hb)
  have BX := Lib.hid (BX.out.below hb)
  have M0 := Lib.hid (M0.out.below hb)
  have BS := Lib.hid (BS.out.trans (hb.mono BS.out.size))
  have B := Lib.hid (B.out.trans (hb.mono B.out.size))
  have Z19 := Lib.hid hb.size
  clear hb
  have cBA := BA.out.2
  have cBX := BX.out.2
  go_wp2_with fail
  clear cBA cBX
  refine (toY_any (.agg #[v0]) Y L1.out L2.out _ (HV.out.below B.out)).mono ?_
  rintro e w19 ⟨a7, k7, rfl, ho, hb⟩
  have BA := Lib.hid (BA.out.below hb)
  have BX := Lib.hid (BX.out.below hb)
  have M0 := Lib.hid (M0.out.below hb)
  have BS := Lib.hid (BS.out.trans (hb.mono BS.out.size))
  have B := Lib.hid (B.out.trans (hb.mono B.out.size))
  have Z20 := Lib.hid hb.size
  have O7 := Lib.hid ho
  clear ho hb
  have cBA := BA.out.2
  have cBX := BX.out.2
  go_wp2_with fail
  clear cBA cBX
  refine (toC_new _ n f L3.out _ (HC.out.below B.out)).mono ?_
  rintro e w20 ⟨rfl, ho, hb⟩
  have BA := Lib.hid (BA.out.below hb)
  have BX := Lib.hid (BX.out.below hb)
  have M0 := Lib.hid (M0.out.below hb)
  have O7 := Lib.hid (O7.out.below hb)
  have BS := Lib.hid (BS.out.trans (hb.mono BS.out.size))
  have B := Lib.hid (B.out.trans (hb.mono B.out.size))
  have Z21 := Lib.hid hb.size
  have P7 := Lib.hid ho
  clear ho hb
  have cBA := BA.out.2
  have cBX := BX.out.2
  go_wp2_with fail
  clear cBA cBX
  refine (H2.out L1.out L2.out L3.out L4.out _ _ _ ⟨_, rfl, O7.out.yl⟩ P7.out.at).mono ?_
  rintro e w21 ⟨ag6, kg6, rfl, ho, hb⟩
  have BA := Lib.hid (BA.out.below hb)
  have BX := Lib.hid (BX.out.below hb)
  have M0 := Lib.hid (M0.out.below hb)
  have O7 := Lib.hid (O7.out.below hb)
  have P7 := Lib.hid (P7.out.below hb)
  have BS := Lib.hid (BS.out.trans (hb.mono BS.out.size))
  have B := Lib.hid (B.out.trans (hb.mono B.out.size))
  have Z22 := Lib.hid hb.size
  have G6 := Lib.hid ho
  clear hb ho
  clear O7
  clear P7
  have cBA := BA.out.2
  have cBX := BX.out.2
  go_wp2_with fail
  clear cBA cBX
  refine (eqYY_any _ _ R hR hT _ G6.out.yl (W0.out.yl.below BS.out)).mono ?_
  rintro e w22 ⟨rfl, hb⟩
  have BA := Lib.hid (BA.out.below hb)
  have BX := Lib.hid (BX.out.below hb)
  have M0 := Lib.hid (M0.out.below hb)
  have G6 := Lib.hid (G6.out.below hb)
  have BS := Lib.hid (BS.out.trans (hb.mono BS.out.size))
  have B := Lib.hid (B.out.trans (hb.mono B.out.size))
  have Z23 := Lib.hid hb.size
  clear hb
  have cBA := BA.out.2
  have cBX := BX.out.2
  go_wp2_with fail
  clear cBA cBX
  refine (heldSS_any _ R 1 hR hT (by decide) (by decide) _ M0.out.yl).mono ?_
  rintro e w23 ⟨rfl, hb⟩
  have BA := Lib.hid (BA.out.below hb)
  have BX := Lib.hid (BX.out.below hb)
  have M0 := Lib.hid (M0.out.below hb)
  have G6 := Lib.hid (G6.out.below hb)
  have BS := Lib.hid (BS.out.trans (hb.mono BS.out.size))
  have B := Lib.hid (B.out.trans (hb.mono B.out.size))
  have Z24 := Lib.hid hb.size
  clear hb
  have cBA := BA.out.2
  have cBX := BX.out.2
  go_wp2_with fail
  go_ret
  exact ⟨rfl, B.out⟩

set_option maxRecDepth 100000 in
theorem helpfulMoves_lifted (os : Os) (started : os.Started) (H : Type) (enc : TypeId × Value → H) :
    ReturnsInHanded {} Try.checked os 8 .any (Rows.fnExactHelpfulMovesSpec.pre6 enc Try.prog Try.f8 Rows.fnExactHelpfulMovesRow.domain false) (Rows.fnExactHelpfulMovesSpec.post enc Try.prog Try.f8 false true false false) := by
  refine returnsInHanded_of_change (C := Try.checked) yard_own started (by kernel_rfl) Try.func8
    (ChangeSpec.witness6 (enc := enc) (C := Try.checked) false ⟨#[], #[.agg #[.slice none 0 0], .slice none 0 0, .int .i64 0], []⟩ 8 (by kernel_rfl) (by kernel_rfl) (by kernel_rfl) (by kernel_rfl)) ?_
  intro W base args ds gs before hval0 hW hcnd0 _
  have hval : ∀ (j : Nat) t v, Try.f8.params[j]? = some t → args[j]? = some v → Value.okWide Try.prog W .any base t v := hval0
  have hW' := hW
  obtain ⟨p, q, hA0, hV, rfl, hfz, _⟩ := hW
  have hA : DataW.TrodAll enc Try.prog W 0 (fun _ => true) true Try.f8.params.toList args.toList ds p := hA0
  rw [Try.params8] at hA hval
  obtain ⟨v0, v1, v2, d0, d1, d2, p0, p1, p2, rfl, rfl, rfl, h0, h1, h2⟩ := trodAll_three hA
  obtain ⟨rfl, rfl⟩ := trodVars_none hV
  obtain ⟨x2, rfl, rfl, rfl, wd2⟩ := open_int Try.underlying3 (hval 2 3 v2 rfl rfl) h2
  clear hA0 hval0 hcnd0
  simp only [List.append_nil] at hW'
  have hlt : ∀ x ∈ (p0 ++ p1), x.block < W.heap.size := fun x hx => by simpa using hW'.lt x (by simpa using hx)
  have hlt0 : ∀ x ∈ p0, x.block < W.heap.size := fun x hx => hlt x (List.mem_append_left _ hx)
  have hlt1 : ∀ x ∈ p1, x.block < W.heap.size := fun x hx => hlt x (List.mem_append_right _ hx)
  obtain ⟨Y, hn, hs, hv⟩ := open_yard (hval 0 24 v0 rfl rfl) h0 hlt0
  obtain ⟨a1, len1, cap1, rfl⟩ := okWide_slice Try.underlying25 (hval 1 25 v1 rfl rfl)
  obtain ⟨f, hnc, hcs, hvc⟩ := C.open_conts h1 hlt1
  refine (helpfulMoves_body v0 Y _ len1 f x2 (helR len1 f Y x2) (askF len1 f Y x2) (Nat.le_trans (helR_len len1 f Y x2) (by decide)) (helR_tot len1 f Y x2) hn hs W hv hnc hcs hvc (fun h1 h2 h3 h4 u g W hu hc => specHel_any u Y g len1 f x2 h1 h2 h3 h4 W hu hc) (fun h1 h2 h3 h4 u g W hu hc => implHel_any u Y g len1 f x2 h1 h2 h3 h4 W hu hc)).mono fun e W' ⟨he, hB⟩ => ?_
  subst he
  refine ⟨_, rfl, _, _, _, [], (p0 ++ p1), [], hW', ?_, ?_, rfl, hB.frame _, fun h => by cases h⟩
  · exact trodAll_mk1 (shut_bool Try.underlying4 true)
  · have h9 := trodAll_mk3 (Below.trod yard_laidOut (by kernel_rfl) (of_decide_eq_true (by kernel_rfl)) h0 hB hlt0) (Below.trod yard_laidOut (by kernel_rfl) (of_decide_eq_true (by kernel_rfl)) h1 hB hlt1) (shut_int Try.underlying3 wd2)
    first
      | exact h9
      | (simp only [List.append_nil] at h9; exact h9)

theorem FnExactHelpfulMoves_holds : Rows.FnExactHelpfulMovesSaid :=
  OpenClaim.holds_of_wide 8 Try.f8 rfl rfl rfl rfl rfl rfl rfl ⟨rfl, rfl, rfl, rfl, rfl⟩ rfl rfl rfl rfl rfl (by kernel_rfl) Try.func8 (by kernel_rfl)
    (of_decide_eq_true (by kernel_rfl)) (by unfold Func.isWrapper; first | (rw [if_pos (by decide +kernel)]; kernel_rfl) | (rw [if_neg (by decide +kernel)]; exact ⟨rfl, rfl⟩))
    (fun os started H enc _ => helpfulMoves_lifted os started H enc)
#print axioms FnExactHelpfulMoves_holds

end Go.Proofs.Ytonploneihnekaa
