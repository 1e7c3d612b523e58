/-
  Proved here: the law FnExactIsPlan returns true at every yard and every list of ints and every list of steps, and they read afterwards as before. There are no conditions.
-/
import Derived.Test.YtmkejgbbgknalaaRows
import Derived.Test.YtmkejgbbgknalaaLawK
import Derived.Test.YtmkejgbbgknalaaPlanI
import Derived.WalkKit
import Derived.ProofKit
import Derived.OpenShut
namespace Go.Proofs.Ytmkejgbbgknalaa
open Go.Joins Go.Deep Go.ChangeShapes Go.WideShapes Go.ChangeAt Go.RowKit

set_option maxRecDepth 100000 in
set_option maxHeartbeats 16000000 in
theorem isPlan_body (v : Value) (Y : List (List Int)) (vo : Value) (O : List Int) (vs : Value) (S : List (Int × Int)) (r0 : Bool) (ok : Bool)  (hn : Y.length ≤ maxLen) (hs : ∀ (j : Nat) (l : List Int), Y[j]? = some l → l.length ≤ maxLen) (w : World) (hv : YdR w v Y) (hno : O.length ≤ maxLen) (hvo : IL w vo O) (hns : S.length ≤ maxLen) (hvs : SL w vs S)
    (hspec : Y.length ≤ 1048576 → tot Y ≤ 1048576 → O.length ≤ 1048576 → S.length ≤ 1048576 → ∀ (u uo us : Value) W, YdR W u Y → OwnI W uo O → SL W us S → Calls Try.prog 28 #[u, uo, us] W (RetP W (.tuple #[.bool r0, .bool ok])))
    (himpl : Y.length ≤ 1048576 → tot Y ≤ 1048576 → O.length ≤ 1048576 → S.length ≤ 1048576 → ∀ (u uo us : Value) W, YdR W u Y → OwnI W uo O → SL W us S → Calls Try.prog 30 #[u, uo, us] W (RetP W (.tuple #[.bool r0, .bool ok]))) :
    Calls Try.prog 4 #[v, vo, vs] w fun e w' => e = .returned (.bool true) ∧ Below w.heap.size w w' := by
  obtain ⟨v0, rfl, hv0⟩ := hv
  have HV : Hid (YdR w (.agg #[v0]) Y) := Lib.hid ⟨v0, rfl, hv0⟩
  have H1 := Lib.hid hspec
  have H2 := Lib.hid himpl
  have HSm := Lib.hid hs
  clear hspec himpl hv0 hs
  have hno := hno
  have HO := Lib.hid hvo
  obtain ⟨ao, co, rfl⟩ := hvo.form
  clear hvo
  obtain ⟨no, hno2⟩ : ∃ no, O.length = no := ⟨_, rfl⟩
  have HNO := Lib.hid hno2
  rw [hno2] at hno HO ⊢
  clear hno2
  have hns := hns
  have HS := Lib.hid hvs
  obtain ⟨sa, sc, rfl⟩ := hvs.form
  clear hvs
  obtain ⟨ns, hns2⟩ : ∃ ns, S.length = ns := ⟨_, rfl⟩
  have HNS := Lib.hid hns2
  rw [hns2] at hns HS ⊢
  clear hns2
  by_cases hob : no ≤ 1048576
  case neg =>
    have hob2 : (1048576 : Int) < (no : Int) := by omega
    have B := Lib.hid (below_one w (.cells #[v0] 24))
    unfold maxLen at hno
    go_enter Try.func4, Try.ntmps4
    go_wp2_with fail
    go_ret
    exact ⟨rfl, B.out⟩
  have hob2 : (no : Int) ≤ 1048576 := by omega
  have hno3 : O.length ≤ 1048576 := by rw [HNO.out]; exact hob
  have LO1 := Lib.hid hno3
  clear hno3
  go_enter Try.func4, Try.ntmps4
  go_wp2_with fail
  have BA := Lib.hid (Box1.new w v0 24)
  have B := Lib.hid (below_one w (.cells #[v0] 24))
  generalize w.alloc (.cells #[v0] 24) = w0 at *
  have ZA := Lib.hid BA.out.1
  refine (szY_any _ Y 1048576 hn HSm.out (by decide) _ (HV.out.below B.out)).mono ?_
  rintro e w1 ⟨hb, rfl | ⟨r, rfl, hr9, hn2, ht2⟩⟩
  · have B := Lib.hid (B.out.trans (hb.mono B.out.size))
    clear hb
    go_wp2_with fail
    go_ret
    exact ⟨rfl, B.out⟩
  have L1 := Lib.hid hn2
  have L2 := Lib.hid ht2
  have BA := Lib.hid (BA.out.below hb)
  have B := Lib.hid (B.out.trans (hb.mono B.out.size))
  have Z1 := Lib.hid hb.size
  clear hb
  have cBA := BA.out.2
  go_wp2_with fail
  clear cBA
  refine (szS_any sa ns sc r hns hr9 _).mono ?_
  rintro e w2 ⟨rfl, rfl⟩
  by_cases hsb : ns ≤ r
  case neg =>
    rw [if_neg hsb]
    have cBA := BA.out.2
    go_wp2_with fail
    go_ret
    exact ⟨rfl, B.out⟩
  have hns3 : S.length ≤ 1048576 := by rw [HNS.out]; omega
  have LS1 := Lib.hid hns3
  have hns4 : ns ≤ 1048576 := by omega
  rw [if_pos hsb]
  obtain ⟨r2, hr2⟩ : ∃ r2 : Nat, r - ns = r2 := ⟨_, rfl⟩
  rw [hr2]
  have hr3 : (0 : Int) ≤ (r2 : Int) := by omega
  clear hns3 hr2 hsb
  have cBA := BA.out.2
  go_wp2_with fail
  clear cBA
  refine (toY_any (.agg #[v0]) Y L1.out L2.out _ (HV.out.below B.out)).mono ?_
  rintro e w3 ⟨a1, k1, rfl, ho, hb⟩
  have BA := Lib.hid (BA.out.below hb)
  have B := Lib.hid (B.out.trans (hb.mono B.out.size))
  have Z2 := Lib.hid hb.size
  have O1 := Lib.hid ho
  clear ho hb
  have cBA := BA.out.2
  go_wp2_with fail
  clear cBA
  refine (toI_any _ O LO1.out _ (HO.out.below B.out)).mono ?_
  rintro e w4 ⟨ao1, ko1, rfl, ho, hb⟩
  have BA := Lib.hid (BA.out.below hb)
  have O1 := Lib.hid (O1.out.below hb)
  have B := Lib.hid (B.out.trans (hb.mono B.out.size))
  have Z3 := Lib.hid hb.size
  have P1 := Lib.hid (lo_of_own ho (Nat.le_refl _))
  clear ho hb
  rw [HNO.out] at P1 ⊢
  have cBA := BA.out.2
  go_wp2_with fail
  clear cBA
  refine (toS_any _ S LS1.out _ (HS.out.below B.out)).mono ?_
  rintro e w5 ⟨sa1, sk1, rfl, ho, hb⟩
  have BA := Lib.hid (BA.out.below hb)
  have O1 := Lib.hid (O1.out.below hb)
  have P1 := Lib.hid (P1.out.below hb)
  have B := Lib.hid (B.out.trans (hb.mono B.out.size))
  have Z4 := Lib.hid hb.size
  have Q1 := Lib.hid (so_of_own ho (Nat.le_refl _))
  clear ho hb
  rw [HNS.out] at Q1 ⊢
  have cBA := BA.out.2
  go_wp2_with fail
  clear cBA
  refine (H1.out L1.out L2.out LO1.out LS1.out _ _ _ _ ⟨_, rfl, O1.out.yl⟩ ⟨_, P1.out.2.1⟩ Q1.out.read).mono ?_
  rintro e w6 ⟨rfl, hb⟩
  have BA := Lib.hid (BA.out.below hb)
  have O1 := Lib.hid (O1.out.below hb)
  have P1 := Lib.hid (P1.out.below hb)
  have Q1 := Lib.hid (Q1.out.below hb)
  have B := Lib.hid (B.out.trans (hb.mono B.out.size))
  have Z5 := Lib.hid hb.size
  clear hb
  clear O1
  clear P1
  clear Q1
  have BS := Lib.hid (Below.refl w6.heap.size w6)
  have cBA := BA.out.2
  go_wp2_with fail
  clear cBA
  refine (toY_any (.agg #[v0]) Y L1.out L2.out _ (HV.out.below B.out)).mono ?_
  rintro e w7 ⟨a3, k3, rfl, ho, hb⟩
  have BA := Lib.hid (BA.out.below hb)
  have BS := Lib.hid (BS.out.trans (hb.mono BS.out.size))
  have B := Lib.hid (B.out.trans (hb.mono B.out.size))
  have Z6 := Lib.hid hb.size
  have O3 := Lib.hid ho
  clear ho hb
  have cBA := BA.out.2
  have dBA := fun o => (World.cell?_alloc_lt w7 o ⟨w.heap.size, 0, none⟩ BA.out.1).trans BA.out.2
  go_wp2_with fail
  clear cBA
  clear dBA
  have hb := below_one w7 (.cells #[.slice a3 Y.length k3] 28)
  have BX := Lib.hid (Box1.new w7 (.slice a3 Y.length k3) 28)
  have BA := Lib.hid (BA.out.below hb)
  have O3 := Lib.hid (O3.out.below hb)
  have BS := Lib.hid (BS.out.trans (hb.mono BS.out.size))
  have B := Lib.hid (B.out.trans (hb.mono B.out.size))
  have Z7 := Lib.hid hb.size
  clear hb
  generalize w7.alloc (.cells #[.slice a3 Y.length k3] 28) = w8 at *
  have Z8 := Lib.hid BX.out.1
  have cBA := BA.out.2
  have cBX := BX.out.2
  go_wp2_with fail
  clear cBA cBX
  refine (toI_any _ O LO1.out _ (HO.out.below B.out)).mono ?_
  rintro e w9 ⟨ao3, ko3, rfl, ho, hb⟩
  have BA := Lib.hid (BA.out.below hb)
  have O3 := Lib.hid (O3.out.below hb)
  have BX := Lib.hid (BX.out.below hb)
  have BS := Lib.hid (BS.out.trans (hb.mono BS.out.size))
  have B := Lib.hid (B.out.trans (hb.mono B.out.size))
  have Z9 := Lib.hid hb.size
  have P3 := Lib.hid (lo_of_own ho (Nat.le_refl _))
  clear ho hb
  rw [HNO.out] at P3 ⊢
  have cBA := BA.out.2
  have cBX := BX.out.2
  go_wp2_with fail
  clear cBA cBX
  refine (toS_any _ S LS1.out _ (HS.out.below B.out)).mono ?_
  rintro e w10 ⟨sa3, sk3, rfl, ho, hb⟩
  have BA := Lib.hid (BA.out.below hb)
  have O3 := Lib.hid (O3.out.below hb)
  have BX := Lib.hid (BX.out.below hb)
  have P3 := Lib.hid (P3.out.below hb)
  have BS := Lib.hid (BS.out.trans (hb.mono BS.out.size))
  have B := Lib.hid (B.out.trans (hb.mono B.out.size))
  have Z10 := Lib.hid hb.size
  have Q3 := Lib.hid (so_of_own ho (Nat.le_refl _))
  clear ho hb
  rw [HNS.out] at Q3 ⊢
  have cBA := BA.out.2
  have cBX := BX.out.2
  go_wp2_with fail
  clear cBA cBX
  refine (H2.out L1.out L2.out LO1.out LS1.out _ _ _ _ ⟨_, rfl, O3.out.yl⟩ ⟨_, P3.out.2.1⟩ Q3.out.read).mono ?_
  rintro e w11 ⟨rfl, hb⟩
  have BA := Lib.hid (BA.out.below hb)
  have O3 := Lib.hid (O3.out.below hb)
  have BX := Lib.hid (BX.out.below hb)
  have P3 := Lib.hid (P3.out.below hb)
  have Q3 := Lib.hid (Q3.out.below hb)
  have BS := Lib.hid (BS.out.trans (hb.mono BS.out.size))
  have B := Lib.hid (B.out.trans (hb.mono B.out.size))
  have Z11 := Lib.hid hb.size
  clear hb
  have cBA := BA.out.2
  have cBX := BX.out.2
  go_wp2_with fail
  have K0 := (KeepY.start (HV.out.below B.out) ⟨_, rfl, O3.out.yl⟩ BA.out BX.out).drew
  have KT := Lib.hid L1.out
  have hq1 := L1.out
  have hq2 := L2.out
  clear cBA cBX
  obtain ⟨hk1, hk2⟩ : w11.drew.cell? ⟨w.heap.size, 0, none⟩ = some v0 ∧ w11.drew.cell? ⟨w7.heap.size, 0, none⟩ = some (.slice a3 Y.length k3) := ⟨K0.2.2.2.1.2, K0.2.2.2.2.2⟩
  go_region_held3 (fun W => (W.cell? ⟨w.heap.size, 0, none⟩ = some v0 ∧ W.cell? ⟨w7.heap.size, 0, none⟩ = some (.slice a3 Y.length k3)) ∧ KeepY w11 w.heap.size w7.heap.size v0 (.slice a3 Y.length k3) Y W) (go_keep) (first | (go_at_call 17; refine (KeepY.to L1.out L2.out (by assumption)).mono ?_; rintro e w' ⟨u, rfl, hu, x0, x1, hK⟩) | (go_at_call 20; refine (KeepY.eq L1.out L2.out (by assumption) (by assumption)).mono ?_; rintro e w' ⟨rfl, x0, x1, hK⟩))
  rename World => w12
  have hb := hK.1
  clear hK x0 x1 hu hq1 hq2 KT
  have BA := Lib.hid (BA.out.below hb)
  have O3 := Lib.hid (O3.out.below hb)
  have BX := Lib.hid (BX.out.below hb)
  have P3 := Lib.hid (P3.out.below hb)
  have Q3 := Lib.hid (Q3.out.below hb)
  have BS := Lib.hid (BS.out.trans (hb.mono BS.out.size))
  have B := Lib.hid (B.out.trans (hb.mono B.out.size))
  have Z12 := Lib.hid hb.size
  clear hb
  have cBA := BA.out.2
  have cBX := BX.out.2
  go_wp2_with fail
  clear cBA cBX
  refine (toI_any _ O LO1.out _ (HO.out.below B.out)).mono ?_
  rintro e w13 ⟨ao5, ko5, rfl, ho, hb⟩
  have BA := Lib.hid (BA.out.below hb)
  have O3 := Lib.hid (O3.out.below hb)
  have BX := Lib.hid (BX.out.below hb)
  have P3 := Lib.hid (P3.out.below hb)
  have Q3 := Lib.hid (Q3.out.below hb)
  have BS := Lib.hid (BS.out.trans (hb.mono BS.out.size))
  have B := Lib.hid (B.out.trans (hb.mono B.out.size))
  have Z13 := Lib.hid hb.size
  have P5 := Lib.hid (lo_of_own ho (Nat.le_refl _))
  clear ho hb
  rw [HNO.out] at P5 ⊢
  have cBA := BA.out.2
  have cBX := BX.out.2
  go_wp2_with fail
  clear cBA cBX
  refine (eqL_any _ _ O LO1.out _ P3.out.read P5.out.read).mono ?_
  rintro e w14 ⟨rfl, hb⟩
  have BA := Lib.hid (BA.out.below hb)
  have O3 := Lib.hid (O3.out.below hb)
  have BX := Lib.hid (BX.out.below hb)
  have P3 := Lib.hid (P3.out.below hb)
  have Q3 := Lib.hid (Q3.out.below hb)
  have P5 := Lib.hid (P5.out.below hb)
  have BS := Lib.hid (BS.out.trans (hb.mono BS.out.size))
  have B := Lib.hid (B.out.trans (hb.mono B.out.size))
  have Z14 := Lib.hid hb.size
  clear hb
  clear P5
  have cBA := BA.out.2
  have cBX := BX.out.2
  go_wp2_with fail
  clear cBA cBX
  refine (toS_any _ S LS1.out _ (HS.out.below B.out)).mono ?_
  rintro e w15 ⟨sa5, sk5, rfl, ho, hb⟩
  have BA := Lib.hid (BA.out.below hb)
  have O3 := Lib.hid (O3.out.below hb)
  have BX := Lib.hid (BX.out.below hb)
  have P3 := Lib.hid (P3.out.below hb)
  have Q3 := Lib.hid (Q3.out.below hb)
  have BS := Lib.hid (BS.out.trans (hb.mono BS.out.size))
  have B := Lib.hid (B.out.trans (hb.mono B.out.size))
  have Z15 := Lib.hid hb.size
  have Q5 := Lib.hid (so_of_own ho (Nat.le_refl _))
  clear ho hb
  rw [HNS.out] at Q5 ⊢
  have cBA := BA.out.2
  have cBX := BX.out.2
  go_wp2_with fail
  clear cBA cBX
  refine (eqS_any _ _ S LS1.out _ Q3.out.read Q5.out.read).mono ?_
  rintro e w16 ⟨rfl, hb⟩
  have BA := Lib.hid (BA.out.below hb)
  have O3 := Lib.hid (O3.out.below hb)
  have BX := Lib.hid (BX.out.below hb)
  have P3 := Lib.hid (P3.out.below hb)
  have Q3 := Lib.hid (Q3.out.below hb)
  have Q5 := Lib.hid (Q5.out.below hb)
  have BS := Lib.hid (BS.out.trans (hb.mono BS.out.size))
  have B := Lib.hid (B.out.trans (hb.mono B.out.size))
  have Z16 := Lib.hid hb.size
  clear hb
  clear Q5
  have cBA := BA.out.2
  have cBX := BX.out.2
  go_wp2_with fail
  go_ret
  exact ⟨rfl, B.out⟩

set_option maxRecDepth 100000 in
theorem isPlan_lifted (os : Os) (started : os.Started) (H : Type) (enc : TypeId × Value → H) :
    ReturnsInHanded {} Try.checked os 4 .any (Rows.fnExactIsPlanSpec.pre6 enc Try.prog Try.f4 Rows.fnExactIsPlanRow.domain false) (Rows.fnExactIsPlanSpec.post enc Try.prog Try.f4 false true false false) := by
  refine returnsInHanded_of_change (C := Try.checked) yard_own started (by kernel_rfl) Try.func4
    (ChangeSpec.witness6 (enc := enc) (C := Try.checked) false ⟨#[], #[.agg #[.slice none 0 0], .slice none 0 0, .slice none 0 0], []⟩ 8 (by kernel_rfl) (by kernel_rfl) (by kernel_rfl) (by kernel_rfl)) ?_
  intro W base args ds gs before hval0 hW hcnd0 _
  have hval : ∀ (j : Nat) t v, Try.f4.params[j]? = some t → args[j]? = some v → Value.okWide Try.prog W .any base t v := hval0
  have hW' := hW
  obtain ⟨p, q, hA0, hV, rfl, hfz, _⟩ := hW
  have hA : DataW.TrodAll enc Try.prog W 0 (fun _ => true) true Try.f4.params.toList args.toList ds p := hA0
  rw [Try.params4] at hA hval
  obtain ⟨v0, v1, v2, d0, d1, d2, p0, p1, p2, rfl, rfl, rfl, h0, h1, h2⟩ := trodAll_three hA
  obtain ⟨rfl, rfl⟩ := trodVars_none hV
  clear hA0 hval0 hcnd0
  simp only [List.append_nil] at hW'
  have hlt : ∀ x ∈ (p0 ++ (p1 ++ p2)), x.block < W.heap.size := fun x hx => by simpa using hW'.lt x (by simpa using hx)
  have hlt0 : ∀ x ∈ p0, x.block < W.heap.size := fun x hx => hlt x (List.mem_append_left _ hx)
  have hlt1 : ∀ x ∈ p1, x.block < W.heap.size := fun x hx => hlt x (List.mem_append_right _ (List.mem_append_left _ hx))
  have hlt2 : ∀ x ∈ p2, x.block < W.heap.size := fun x hx => hlt x (List.mem_append_right _ (List.mem_append_right _ hx))
  obtain ⟨Y, hn, hs, hv⟩ := open_yard (hval 0 24 v0 rfl rfl) h0 hlt0
  obtain ⟨a1, len1, cap1, rfl⟩ := okWide_slice Try.underlying29 (hval 1 29 v1 rfl rfl)
  obtain ⟨O, hno, hvo⟩ := open_il h1 hlt1
  obtain ⟨a2, len2, cap2, rfl⟩ := okWide_slice Try.underlying25 (hval 2 25 v2 rfl rfl)
  obtain ⟨S, hns, hvs⟩ := open_steps h2 hlt2
  refine (isPlan_body v0 Y _ O _ S (planB Y O S) (askB Y O) hn hs W hv hno hvo hns hvs (fun h1 h2 h3 h4 u uo us W hu ho hs => specPlan_any u uo us Y O S h1 h2 h3 h4 W hu ho hs) (fun h1 h2 h3 h4 u uo us W hu ho hs => implPlan_any u uo us Y O S h1 h2 h3 h4 W hu ho hs)).mono fun e W' ⟨he, hB⟩ => ?_
  subst he
  refine ⟨_, rfl, _, _, _, [], (p0 ++ (p1 ++ p2)), [], hW', ?_, ?_, rfl, hB.frame _, fun h => by cases h⟩
  · exact trodAll_mk1 (shut_bool Try.underlying4 true)
  · have h9 := trodAll_mk3 (Below.trod yard_laidOut (by kernel_rfl) (of_decide_eq_true (by kernel_rfl)) h0 hB hlt0) (Below.trod yard_laidOut (by kernel_rfl) (of_decide_eq_true (by kernel_rfl)) h1 hB hlt1) (Below.trod yard_laidOut (by kernel_rfl) (of_decide_eq_true (by kernel_rfl)) h2 hB hlt2)
    first
      | exact h9
      | (simp only [List.append_nil] at h9; exact h9)

theorem FnExactIsPlan_holds : Rows.FnExactIsPlanSaid :=
  OpenClaim.holds_of_wide 4 Try.f4 rfl rfl rfl rfl rfl rfl rfl ⟨rfl, rfl, rfl, rfl, rfl⟩ rfl rfl rfl rfl rfl (by kernel_rfl) Try.func4 (by kernel_rfl)
    (of_decide_eq_true (by kernel_rfl)) (by unfold Func.isWrapper; first | (rw [if_pos (by decide +kernel)]; kernel_rfl) | (rw [if_neg (by decide +kernel)]; exact ⟨rfl, rfl⟩))
    (fun os started H enc _ => isPlan_lifted os started H enc)
#print axioms FnExactIsPlan_holds

end Go.Proofs.Ytmkejgbbgknalaa
