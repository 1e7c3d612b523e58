/-
  Proved here: the law FnExactStackHeights returns true at every yard, and it reads afterwards as before. There are no conditions.
-/
import Derived.Test.YtdnbkfpcmjijlaaRows
import Derived.Test.YtdnbkfpcmjijlaaKeep
import Derived.Test.YtdnbkfpcmjijlaaHeights
import Derived.WalkKit
import Derived.ProofKit
import Derived.OpenShut
namespace Go.Proofs.Ytdnbkfpcmjijlaa
open Go.Joins Go.Deep Go.ChangeShapes Go.WideShapes Go.ChangeAt Go.RowKit

set_option maxRecDepth 100000 in
set_option maxHeartbeats 8000000 in
theorem stackHeights_body (v : Value) (Y : List (List Int))  (R : List Int) (ok : Bool) (hR : R.length ≤ 1048576) (hn : Y.length ≤ maxLen) (hs : ∀ (j : Nat) (l : List Int), Y[j]? = some l → l.length ≤ maxLen) (w : World) (hv : YdR w v Y)
    (hspec : Y.length ≤ 1048576 → tot Y ≤ 1048576 → ∀ u W, YdR W u Y → Calls Try.prog 42 #[u] W (RetL W R ok))
    (himpl : Y.length ≤ 1048576 → tot Y ≤ 1048576 → ∀ u W, YdR W u Y → Calls Try.prog 26 #[u] W (RetL W R ok)) :
    Calls Try.prog 12 #[v] w fun e w' => e = .returned (.bool true) ∧ Below w.heap.size w w' := by
  obtain ⟨v0, rfl, hv0⟩ := hv
  have HV : Hid (YdR w (.agg #[v0]) Y) := Lib.hid ⟨v0, rfl, hv0⟩
  have H1 := Lib.hid hspec
  have H2 := Lib.hid himpl
  have HSm := Lib.hid hs
  clear hspec himpl hv0 hs
  go_enter Try.func12, Try.ntmps12
  go_wp2_with fail
  have BA := Lib.hid (Box1.new w v0 43)
  have B := Lib.hid (below_one w (.cells #[v0] 43))
  generalize w.alloc (.cells #[v0] 43) = w0 at *
  have ZA := Lib.hid BA.out.1
  refine (szY_any _ Y 1048576 hn HSm.out (by decide) _ (HV.out.below B.out)).mono ?_
  rintro e w1 ⟨hb, rfl | ⟨r, rfl, -, hn2, ht2⟩⟩
  · have B := Lib.hid (B.out.trans (hb.mono B.out.size))
    clear hb
    go_wp2_with fail
    go_ret
    exact ⟨rfl, B.out⟩
  · have L1 := Lib.hid hn2
    have L2 := Lib.hid ht2
    have BA := Lib.hid (BA.out.below hb)
    have B := Lib.hid (B.out.trans (hb.mono B.out.size))
    have Z1 := Lib.hid hb.size
    clear hb
    have cBA := BA.out.2
    go_wp2_with fail
    clear cBA
    refine (toY_any (.agg #[v0]) Y L1.out L2.out _ (HV.out.below B.out)).mono ?_
    rintro e w2 ⟨a1, k1, rfl, ho, hb⟩
    have BA := Lib.hid (BA.out.below hb)
    have B := Lib.hid (B.out.trans (hb.mono B.out.size))
    have Z2 := Lib.hid hb.size
    have O1 := Lib.hid ho
    clear ho hb
    have cBA := BA.out.2
    go_wp2_with fail
    clear cBA
    refine (H1.out L1.out L2.out _ _ ⟨_, rfl, O1.out.yl⟩).mono ?_
    rintro e w3 ⟨a2, k2, rfl, ho, hb⟩
    have BA := Lib.hid (BA.out.below hb)
    have O1 := Lib.hid (O1.out.below hb)
    have B := Lib.hid (B.out.trans (hb.mono B.out.size))
    have Z3 := Lib.hid hb.size
    have W0 := Lib.hid ho
    clear hb ho
    clear O1
    have cBA := BA.out.2
    go_wp2_with fail
    clear cBA
    refine (toY_any (.agg #[v0]) Y L1.out L2.out _ (HV.out.below B.out)).mono ?_
    rintro e w4 ⟨a3, k3, rfl, ho, hb⟩
    have BA := Lib.hid (BA.out.below hb)
    have W0 := Lib.hid (W0.out.below hb)
    have B := Lib.hid (B.out.trans (hb.mono B.out.size))
    have Z4 := Lib.hid hb.size
    have O3 := Lib.hid ho
    clear ho hb
    have cBA := BA.out.2
    go_wp2_with fail
    clear cBA
    have hb := below_one w4 (.cells #[.slice a3 Y.length k3] 26)
    have BX := Lib.hid (Box1.new w4 (.slice a3 Y.length k3) 26)
    have BA := Lib.hid (BA.out.below hb)
    have W0 := Lib.hid (W0.out.below hb)
    have O3 := Lib.hid (O3.out.below hb)
    have B := Lib.hid (B.out.trans (hb.mono B.out.size))
    have Z5 := Lib.hid hb.size
    clear hb
    generalize w4.alloc (.cells #[.slice a3 Y.length k3] 26) = w5 at *
    have Z6 := Lib.hid BX.out.1
    have cBA := BA.out.2
    have cBX := BX.out.2
    go_wp2_with fail
    clear cBA cBX
    refine (H2.out L1.out L2.out _ _ ⟨_, rfl, O3.out.yl⟩).mono ?_
    rintro e w6 ⟨a4, k4, rfl, ho, hb⟩
    have BA := Lib.hid (BA.out.below hb)
    have W0 := Lib.hid (W0.out.below hb)
    have O3 := Lib.hid (O3.out.below hb)
    have BX := Lib.hid (BX.out.below hb)
    have B := Lib.hid (B.out.trans (hb.mono B.out.size))
    have Z7 := Lib.hid hb.size
    have G0 := Lib.hid ho
    clear hb ho
    have cBA := BA.out.2
    have cBX := BX.out.2
    go_wp2_with fail
    clear cBA cBX
    refine (eqL_any _ _ R hR _ G0.out.read W0.out.read).mono ?_
    rintro e w7 ⟨rfl, hb⟩
    have BA := Lib.hid (BA.out.below hb)
    have W0 := Lib.hid (W0.out.below hb)
    have O3 := Lib.hid (O3.out.below hb)
    have BX := Lib.hid (BX.out.below hb)
    have G0 := Lib.hid (G0.out.below hb)
    have B := Lib.hid (B.out.trans (hb.mono B.out.size))
    have Z8 := Lib.hid hb.size
    clear hb
    have cBA := BA.out.2
    have cBX := BX.out.2
    go_wp2_with fail
    have K0 := (KeepY.start (HV.out.below B.out) ⟨_, rfl, O3.out.yl⟩ BA.out BX.out).drew
    have KT := Lib.hid L1.out
    have hq1 := L1.out
    have hq2 := L2.out
    clear cBA cBX
    obtain ⟨hk1, hk2⟩ : w7.drew.cell? ⟨w.heap.size, 0, none⟩ = some v0 ∧ w7.drew.cell? ⟨w4.heap.size, 0, none⟩ = some (.slice a3 Y.length k3) := ⟨K0.2.2.2.1.2, K0.2.2.2.2.2⟩
    go_region_held3 (fun W => (W.cell? ⟨w.heap.size, 0, none⟩ = some v0 ∧ W.cell? ⟨w4.heap.size, 0, none⟩ = some (.slice a3 Y.length k3)) ∧ KeepY w7 w.heap.size w4.heap.size v0 (.slice a3 Y.length k3) Y W) (go_keep) (first | (go_at_call 28; refine (KeepY.to L1.out L2.out (by assumption)).mono ?_; rintro e w' ⟨u, rfl, hu, x0, x1, hK⟩) | (go_at_call 29; refine (KeepY.eq L1.out L2.out (by assumption) (by assumption)).mono ?_; rintro e w' ⟨rfl, x0, x1, hK⟩))
    rename World => w8
    have hb := hK.1
    clear hK x0 x1 hu hq1 hq2 KT
    have BA := Lib.hid (BA.out.below hb)
    have W0 := Lib.hid (W0.out.below hb)
    have O3 := Lib.hid (O3.out.below hb)
    have BX := Lib.hid (BX.out.below hb)
    have G0 := Lib.hid (G0.out.below hb)
    have B := Lib.hid (B.out.trans (hb.mono B.out.size))
    have Z9 := Lib.hid hb.size
    clear hb
    have cBA := BA.out.2
    have cBX := BX.out.2
    go_wp2_with fail
    clear cBA cBX
    refine (markY_any _ Y 1 w3.heap.size w4.heap.size L1.out L2.out (by decide) (by decide) _ ⟨_, rfl, O3.out⟩).mono ?_
    rintro e w9 ⟨rfl, -, hS⟩
    clear O3
    have BA := Lib.hid (BA.out.span hS (by have z0 := ZA.out; have z1 := Z1.out; have z2 := Z2.out; have z3 := Z3.out; have z4 := Z4.out; have z5 := Z5.out; have z6 := Z6.out; have z7 := Z7.out; have z8 := Z8.out; have z9 := Z9.out; have y0 := BA.out.1; have y1 := BX.out.1; omega))
    have W0 := Lib.hid (W0.out.span hS (by have z0 := ZA.out; have z1 := Z1.out; have z2 := Z2.out; have z3 := Z3.out; have z4 := Z4.out; have z5 := Z5.out; have z6 := Z6.out; have z7 := Z7.out; have z8 := Z8.out; have z9 := Z9.out; have y0 := BA.out.1; have y1 := BX.out.1; omega))
    have BX := Lib.hid (BX.out.span hS (by have z0 := ZA.out; have z1 := Z1.out; have z2 := Z2.out; have z3 := Z3.out; have z4 := Z4.out; have z5 := Z5.out; have z6 := Z6.out; have z7 := Z7.out; have z8 := Z8.out; have z9 := Z9.out; have y0 := BA.out.1; have y1 := BX.out.1; omega))
    have G0 := Lib.hid (G0.out.span hS (by have z0 := ZA.out; have z1 := Z1.out; have z2 := Z2.out; have z3 := Z3.out; have z4 := Z4.out; have z5 := Z5.out; have z6 := Z6.out; have z7 := Z7.out; have z8 := Z8.out; have z9 := Z9.out; have y0 := BA.out.1; have y1 := BX.out.1; omega))
    have B := Lib.hid (Below.span (B.out.mono (Nat.le_refl _)) (hS.lift (by have z0 := ZA.out; have z1 := Z1.out; have z2 := Z2.out; have z3 := Z3.out; have z4 := Z4.out; have z5 := Z5.out; have z6 := Z6.out; have z7 := Z7.out; have z8 := Z8.out; have z9 := Z9.out; have y0 := BA.out.1; have y1 := BX.out.1; omega)) B.out.size)
    have Z10 := Lib.hid hS.size
    clear hS
    have hnn : (0 : Int) ≤ 1 + (tot Y : Nat) := by omega
    have cBA := BA.out.2
    have cBX := BX.out.2
    go_wp2_with fail
    clear cBA cBX
    refine (eqL_any _ _ R hR _ G0.out.read W0.out.read).mono ?_
    rintro e w10 ⟨rfl, hb⟩
    have BA := Lib.hid (BA.out.below hb)
    have W0 := Lib.hid (W0.out.below hb)
    have BX := Lib.hid (BX.out.below hb)
    have G0 := Lib.hid (G0.out.below hb)
    have B := Lib.hid (B.out.trans (hb.mono B.out.size))
    have Z11 := Lib.hid hb.size
    clear hb
    have cBA := BA.out.2
    have cBX := BX.out.2
    go_wp2_with fail
    clear cBA cBX
    refine (markL_any _ R 1 w5.heap.size w6.heap.size hR (by decide) (by decide) _ G0.out).mono ?_
    rintro e w11 ⟨rfl, hM, hS⟩
    have M0 := Lib.hid hM
    clear hM
    clear G0
    have BA := Lib.hid (BA.out.span hS (by have z0 := ZA.out; have z1 := Z1.out; have z2 := Z2.out; have z3 := Z3.out; have z4 := Z4.out; have z5 := Z5.out; have z6 := Z6.out; have z7 := Z7.out; have z8 := Z8.out; have z9 := Z9.out; have z10 := Z10.out; have z11 := Z11.out; have y0 := BA.out.1; have y1 := BX.out.1; omega))
    have W0 := Lib.hid (W0.out.span hS (by have z0 := ZA.out; have z1 := Z1.out; have z2 := Z2.out; have z3 := Z3.out; have z4 := Z4.out; have z5 := Z5.out; have z6 := Z6.out; have z7 := Z7.out; have z8 := Z8.out; have z9 := Z9.out; have z10 := Z10.out; have z11 := Z11.out; have y0 := BA.out.1; have y1 := BX.out.1; omega))
    have BX := Lib.hid (BX.out.span hS (by have z0 := ZA.out; have z1 := Z1.out; have z2 := Z2.out; have z3 := Z3.out; have z4 := Z4.out; have z5 := Z5.out; have z6 := Z6.out; have z7 := Z7.out; have z8 := Z8.out; have z9 := Z9.out; have z10 := Z10.out; have z11 := Z11.out; have y0 := BA.out.1; have y1 := BX.out.1; omega))
    have B := Lib.hid (Below.span (B.out.mono (Nat.le_refl _)) (hS.lift (by have z0 := ZA.out; have z1 := Z1.out; have z2 := Z2.out; have z3 := Z3.out; have z4 := Z4.out; have z5 := Z5.out; have z6 := Z6.out; have z7 := Z7.out; have z8 := Z8.out; have z9 := Z9.out; have z10 := Z10.out; have z11 := Z11.out; have y0 := BA.out.1; have y1 := BX.out.1; omega)) B.out.size)
    have Z12 := Lib.hid hS.size
    clear hS
    have hnr : (0 : Int) ≤ 1 + (R.length : Int) := by omega
    have cBA := BA.out.2
    have cBX := BX.out.2
    go_wp2_with fail
    clear cBA cBX
    refine (heldL_any _ R.length 1 hR (by decide) (by decide) _ (by have := M0.out.read; exact this)).mono ?_
    rintro e w12 ⟨rfl, hb⟩
    have BA := Lib.hid (BA.out.below hb)
    have W0 := Lib.hid (W0.out.below hb)
    have BX := Lib.hid (BX.out.below hb)
    have M0 := Lib.hid (M0.out.below hb)
    have B := Lib.hid (B.out.trans (hb.mono B.out.size))
    have Z13 := Lib.hid hb.size
    clear hb
    have cBA := BA.out.2
    have cBX := BX.out.2
    go_wp2_with fail
    clear cBA cBX
    refine (toY_any (.agg #[v0]) Y L1.out L2.out _ (HV.out.below B.out)).mono ?_
    rintro e w13 ⟨a5, k5, rfl, ho, hb⟩
    have BA := Lib.hid (BA.out.below hb)
    have W0 := Lib.hid (W0.out.below hb)
    have BX := Lib.hid (BX.out.below hb)
    have M0 := Lib.hid (M0.out.below hb)
    have B := Lib.hid (B.out.trans (hb.mono B.out.size))
    have Z14 := Lib.hid hb.size
    have O5 := Lib.hid ho
    clear ho hb
    have cBA := BA.out.2
    have cBX := BX.out.2
    go_wp2_with fail
    clear cBA cBX
    refine (H2.out L1.out L2.out _ _ ⟨_, rfl, O5.out.yl⟩).mono ?_
    rintro e w14 ⟨a6, k6, rfl, ho, hb⟩
    have BA := Lib.hid (BA.out.below hb)
    have W0 := Lib.hid (W0.out.below hb)
    have BX := Lib.hid (BX.out.below hb)
    have M0 := Lib.hid (M0.out.below hb)
    have O5 := Lib.hid (O5.out.below hb)
    have B := Lib.hid (B.out.trans (hb.mono B.out.size))
    have Z15 := Lib.hid hb.size
    have G6 := Lib.hid ho
    clear hb ho
    clear O5
    have cBA := BA.out.2
    have cBX := BX.out.2
    go_wp2_with fail
    clear cBA cBX
    refine (eqL_any _ _ R hR _ G6.out.read W0.out.read).mono ?_
    rintro e w15 ⟨rfl, hb⟩
    have BA := Lib.hid (BA.out.below hb)
    have W0 := Lib.hid (W0.out.below hb)
    have BX := Lib.hid (BX.out.below hb)
    have M0 := Lib.hid (M0.out.below hb)
    have G6 := Lib.hid (G6.out.below hb)
    have B := Lib.hid (B.out.trans (hb.mono B.out.size))
    have Z16 := Lib.hid hb.size
    clear hb
    have cBA := BA.out.2
    have cBX := BX.out.2
    go_wp2_with fail
    clear cBA cBX
    refine (heldL_any _ R.length 1 hR (by decide) (by decide) _ (by have := M0.out.read; exact this)).mono ?_
    rintro e w16 ⟨rfl, hb⟩
    have BA := Lib.hid (BA.out.below hb)
    have W0 := Lib.hid (W0.out.below hb)
    have BX := Lib.hid (BX.out.below hb)
    have M0 := Lib.hid (M0.out.below hb)
    have G6 := Lib.hid (G6.out.below hb)
    have B := Lib.hid (B.out.trans (hb.mono B.out.size))
    have Z17 := Lib.hid hb.size
    clear hb
    have cBA := BA.out.2
    have cBX := BX.out.2
    go_wp2_with fail
    go_ret
    exact ⟨rfl, B.out⟩

set_option maxRecDepth 100000 in
theorem stackHeights_lifted (os : Os) (started : os.Started) (H : Type) (enc : TypeId × Value → H) :
    ReturnsInHanded {} Try.checked os 12 .any (Rows.fnExactStackHeightsSpec.pre6 enc Try.prog Try.f12 Rows.fnExactStackHeightsRow.domain false) (Rows.fnExactStackHeightsSpec.post enc Try.prog Try.f12 false true false false) := by
  refine returnsInHanded_of_change (C := Try.checked) yard_own started (by kernel_rfl) Try.func12
    (ChangeSpec.witness6 (enc := enc) (C := Try.checked) false ⟨#[], #[.agg #[.slice none 0 0]], []⟩ 8 (by kernel_rfl) (by kernel_rfl) (by kernel_rfl) (by kernel_rfl)) ?_
  intro W base args ds gs before hval0 hW hcnd0 _
  have hval : ∀ (j : Nat) t v, Try.f12.params[j]? = some t → args[j]? = some v → Value.okWide Try.prog W .any base t v := hval0
  have hW' := hW
  obtain ⟨p, q, hA0, hV, rfl, hfz, _⟩ := hW
  have hA : DataW.TrodAll enc Try.prog W 0 (fun _ => true) true Try.f12.params.toList args.toList ds p := hA0
  rw [Try.params12] at hA hval
  obtain ⟨v0, d0, rfl, rfl, h0⟩ := trodAll_one hA
  obtain ⟨rfl, rfl⟩ := trodVars_none hV
  clear hA0 hval0 hcnd0
  simp only [List.append_nil] at hW'
  have hlt : ∀ x ∈ p, x.block < W.heap.size := fun x hx => by simpa using hW'.lt x (by simpa using hx)
  obtain ⟨Y, hn, hs, hv⟩ := open_yard (hval 0 43 v0 rfl rfl) h0 hlt
  refine (stackHeights_body v0 Y (heightR Y) (goodY Y) (heightR_len Y) hn hs W hv (fun h1 h2 u W h => specHeights_any u Y h1 h2 W h) (fun h1 h2 u W h => implHeights_any u Y h1 h2 W h)).mono fun e W' ⟨he, hB⟩ => ?_
  subst he
  refine ⟨_, rfl, _, _, _, [], p, [], hW', ?_, ?_, rfl, hB.frame _, fun h => by cases h⟩
  · exact trodAll_mk1 (shut_bool Try.underlying4 true)
  · exact trodAll_mk1 (Below.trod yard_laidOut (by kernel_rfl) (of_decide_eq_true (by kernel_rfl)) h0 hB hlt)

theorem FnExactStackHeights_holds : Rows.FnExactStackHeightsSaid :=
  OpenClaim.holds_of_wide 12 Try.f12 rfl rfl rfl rfl rfl rfl rfl ⟨rfl, rfl, rfl, rfl, rfl⟩ rfl rfl rfl rfl rfl (by kernel_rfl) Try.func12 (by kernel_rfl)
    (of_decide_eq_true (by kernel_rfl)) (by unfold Func.isWrapper; first | (rw [if_pos (by decide +kernel)]; kernel_rfl) | (rw [if_neg (by decide +kernel)]; exact ⟨rfl, rfl⟩))
    (fun os started H enc _ => stackHeights_lifted os started H enc)
#print axioms FnExactStackHeights_holds

end Go.Proofs.Ytdnbkfpcmjijlaa
