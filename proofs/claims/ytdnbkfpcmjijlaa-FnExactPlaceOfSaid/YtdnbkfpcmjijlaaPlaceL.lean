/-
  Proved here: the law FnExactPlaceOf returns true at every yard and every int, and they read afterwards as before. There are no conditions.
-/
import Derived.Test.YtdnbkfpcmjijlaaRows
import Derived.Test.YtdnbkfpcmjijlaaKeep
import Derived.Test.YtdnbkfpcmjijlaaFind
import Derived.WalkKit
import Derived.ProofKit
import Derived.OpenShut
namespace Go.Proofs.Ytdnbkfpcmjijlaa
open Go.Joins Go.Deep Go.ChangeShapes Go.WideShapes Go.ChangeAt Go.RowKit

set_option maxRecDepth 100000 in
set_option maxHeartbeats 8000000 in
theorem placeOf_body (v : Value) (Y : List (List Int)) (p0 : Int) (r0 : Int) (r1 : Int) (r2 : Bool)  (hn : Y.length ≤ maxLen) (hs : ∀ (j : Nat) (l : List Int), Y[j]? = some l → l.length ≤ maxLen) (w : World) (hv : YdR w v Y)
    (hspec : Y.length ≤ 1048576 → tot Y ≤ 1048576 → ∀ u W, YdR W u Y → Calls Try.prog 36 #[u, .int .i64 p0] W (RetP W (.tuple #[.int .i64 r0, .int .i64 r1, .bool r2])))
    (himpl : Y.length ≤ 1048576 → tot Y ≤ 1048576 → ∀ u W, YdR W u Y → Calls Try.prog 22 #[u, .int .i64 p0] W (RetP W (.tuple #[.int .i64 r0, .int .i64 r1, .bool r2]))) :
    Calls Try.prog 9 #[v, .int .i64 p0] w fun e w' => e = .returned (.bool true) ∧ Below w.heap.size w w' := by
  obtain ⟨v0, rfl, hv0⟩ := hv
  have HV : Hid (YdR w (.agg #[v0]) Y) := Lib.hid ⟨v0, rfl, hv0⟩
  have H1 := Lib.hid hspec
  have H2 := Lib.hid himpl
  have HSm := Lib.hid hs
  clear hspec himpl hv0 hs
  go_enter Try.func9, Try.ntmps9
  go_wp2_with fail
  have BA := Lib.hid (Box1.new w v0 43)
  have B := Lib.hid (below_one w (.cells #[v0] 43))
  generalize w.alloc (.cells #[v0] 43) = w0 at *
  refine (szY_any _ Y 1048576 hn HSm.out (by decide) _ (HV.out.below B.out)).mono ?_
  rintro e w1 ⟨hb, rfl | ⟨r, rfl, -, hn2, ht2⟩⟩
  · have B := Lib.hid (B.out.trans (hb.mono B.out.size))
    clear hb
    go_wp2_with fail
    go_ret
    exact ⟨rfl, B.out⟩
  · have L1 := Lib.hid hn2
    have L2 := Lib.hid ht2
    have BA := Lib.hid (BA.out.below hb)
    have B := Lib.hid (B.out.trans (hb.mono B.out.size))
    have Z0 := Lib.hid hb.size
    clear hb
    have cBA := BA.out.2
    go_wp2_with fail
    clear cBA
    refine (toY_any (.agg #[v0]) Y L1.out L2.out _ (HV.out.below B.out)).mono ?_
    rintro e w2 ⟨a1, k1, rfl, ho, hb⟩
    have BA := Lib.hid (BA.out.below hb)
    have B := Lib.hid (B.out.trans (hb.mono B.out.size))
    have Z1 := Lib.hid hb.size
    have O1 := Lib.hid ho
    clear ho hb
    have cBA := BA.out.2
    go_wp2_with fail
    clear cBA
    refine (H1.out L1.out L2.out _ _ ⟨_, rfl, O1.out.yl⟩).mono ?_
    rintro e w3 ⟨rfl, hb⟩
    have BA := Lib.hid (BA.out.below hb)
    have O1 := Lib.hid (O1.out.below hb)
    have B := Lib.hid (B.out.trans (hb.mono B.out.size))
    have Z2 := Lib.hid hb.size
    clear hb
    clear O1
    have cBA := BA.out.2
    go_wp2_with fail
    clear cBA
    refine (toY_any (.agg #[v0]) Y L1.out L2.out _ (HV.out.below B.out)).mono ?_
    rintro e w4 ⟨a3, k3, rfl, ho, hb⟩
    have BA := Lib.hid (BA.out.below hb)
    have B := Lib.hid (B.out.trans (hb.mono B.out.size))
    have Z3 := Lib.hid hb.size
    have O3 := Lib.hid ho
    clear ho hb
    have cBA := BA.out.2
    go_wp2_with fail
    clear cBA
    have hb := below_one w4 (.cells #[.slice a3 Y.length k3] 26)
    have BX := Lib.hid (Box1.new w4 (.slice a3 Y.length k3) 26)
    have BA := Lib.hid (BA.out.below hb)
    have O3 := Lib.hid (O3.out.below hb)
    have B := Lib.hid (B.out.trans (hb.mono B.out.size))
    have Z4 := Lib.hid hb.size
    clear hb
    generalize w4.alloc (.cells #[.slice a3 Y.length k3] 26) = w5 at *
    have cBA := BA.out.2
    have cBX := BX.out.2
    go_wp2_with fail
    clear cBA cBX
    refine (H2.out L1.out L2.out _ _ ⟨_, rfl, O3.out.yl⟩).mono ?_
    rintro e w6 ⟨rfl, hb⟩
    have BA := Lib.hid (BA.out.below hb)
    have O3 := Lib.hid (O3.out.below hb)
    have BX := Lib.hid (BX.out.below hb)
    have B := Lib.hid (B.out.trans (hb.mono B.out.size))
    have Z5 := Lib.hid hb.size
    clear hb
    have cBA := BA.out.2
    have cBX := BX.out.2
    go_wp2_with fail
    have K0 := (KeepY.start (HV.out.below B.out) ⟨_, rfl, O3.out.yl⟩ BA.out BX.out).drew
    have KT := Lib.hid L1.out
    have hq1 := L1.out
    have hq2 := L2.out
    clear cBA cBX
    obtain ⟨hk1, hk2⟩ : w6.drew.cell? ⟨w.heap.size, 0, none⟩ = some v0 ∧ w6.drew.cell? ⟨w4.heap.size, 0, none⟩ = some (.slice a3 Y.length k3) := ⟨K0.2.2.2.1.2, K0.2.2.2.2.2⟩
    go_region_held3 (fun W => (W.cell? ⟨w.heap.size, 0, none⟩ = some v0 ∧ W.cell? ⟨w4.heap.size, 0, none⟩ = some (.slice a3 Y.length k3)) ∧ KeepY w6 w.heap.size w4.heap.size v0 (.slice a3 Y.length k3) Y W) (go_keep) (first | (go_at_call 28; refine (KeepY.to L1.out L2.out (by assumption)).mono ?_; rintro e w' ⟨u, rfl, hu, x0, x1, hK⟩) | (go_at_call 29; refine (KeepY.eq L1.out L2.out (by assumption) (by assumption)).mono ?_; rintro e w' ⟨rfl, x0, x1, hK⟩))
    rename World => w7
    have hb := hK.1
    clear hK x0 x1 hu hq1 hq2 KT
    have BA := Lib.hid (BA.out.below hb)
    have O3 := Lib.hid (O3.out.below hb)
    have BX := Lib.hid (BX.out.below hb)
    have B := Lib.hid (B.out.trans (hb.mono B.out.size))
    have Z6 := Lib.hid hb.size
    clear hb
    have cBA := BA.out.2
    have cBX := BX.out.2
    go_wp2_with fail
    go_ret
    exact ⟨rfl, B.out⟩

set_option maxRecDepth 100000 in
theorem placeOf_lifted (os : Os) (started : os.Started) (H : Type) (enc : TypeId × Value → H) :
    ReturnsInHanded {} Try.checked os 9 .any (Rows.fnExactPlaceOfSpec.pre6 enc Try.prog Try.f9 Rows.fnExactPlaceOfRow.domain false) (Rows.fnExactPlaceOfSpec.post enc Try.prog Try.f9 false true false false) := by
  refine returnsInHanded_of_change (C := Try.checked) yard_own started (by kernel_rfl) Try.func9
    (ChangeSpec.witness6 (enc := enc) (C := Try.checked) false ⟨#[], #[.agg #[.slice none 0 0], .int .i64 0], []⟩ 8 (by kernel_rfl) (by kernel_rfl) (by kernel_rfl) (by kernel_rfl)) ?_
  intro W base args ds gs before hval0 hW hcnd0 _
  have hval : ∀ (j : Nat) t v, Try.f9.params[j]? = some t → args[j]? = some v → Value.okWide Try.prog W .any base t v := hval0
  have hW' := hW
  obtain ⟨p, q, hA0, hV, rfl, hfz, _⟩ := hW
  have hA : DataW.TrodAll enc Try.prog W 0 (fun _ => true) true Try.f9.params.toList args.toList ds p := hA0
  rw [Try.params9] at hA hval
  obtain ⟨v0, v1, d0, d1, p0, p1, rfl, rfl, rfl, h0, h1⟩ := trodAll_two hA
  obtain ⟨rfl, rfl⟩ := trodVars_none hV
  obtain ⟨x1, rfl, rfl, rfl, w1⟩ := open_int Try.underlying3 (hval 1 3 v1 rfl rfl) h1
  clear hA0 hval0 hcnd0
  simp only [List.append_nil] at hW'
  have hlt : ∀ x ∈ p0, x.block < W.heap.size := fun x hx => by simpa using hW'.lt x (by simpa using hx)
  obtain ⟨Y, hn, hs, hv⟩ := open_yard (hval 0 43 v0 rfl rfl) h0 hlt
  refine (placeOf_body v0 Y x1 (plI Y x1) (plK Y x1) (plB Y x1) hn hs W hv (fun h1 h2 u W h => specPlace_eq u Y x1 h1 h2 W h) (fun h1 h2 u W h => implPlace_eq u Y x1 h1 h2 W h)).mono fun e W' ⟨he, hB⟩ => ?_
  subst he
  refine ⟨_, rfl, _, _, _, [], p0, [], hW', ?_, ?_, rfl, hB.frame _, fun h => by cases h⟩
  · exact trodAll_mk1 (shut_bool Try.underlying4 true)
  · have h9 := trodAll_mk2 (Below.trod yard_laidOut (by kernel_rfl) (of_decide_eq_true (by kernel_rfl)) h0 hB hlt) (shut_int Try.underlying3 w1)
    simp only [List.append_nil] at h9
    exact h9

theorem FnExactPlaceOf_holds : Rows.FnExactPlaceOfSaid :=
  OpenClaim.holds_of_wide 9 Try.f9 rfl rfl rfl rfl rfl rfl rfl ⟨rfl, rfl, rfl, rfl, rfl⟩ rfl rfl rfl rfl rfl (by kernel_rfl) Try.func9 (by kernel_rfl)
    (of_decide_eq_true (by kernel_rfl)) (by unfold Func.isWrapper; first | (rw [if_pos (by decide +kernel)]; kernel_rfl) | (rw [if_neg (by decide +kernel)]; exact ⟨rfl, rfl⟩))
    (fun os started H enc _ => placeOf_lifted os started H enc)
#print axioms FnExactPlaceOf_holds

end Go.Proofs.Ytdnbkfpcmjijlaa
