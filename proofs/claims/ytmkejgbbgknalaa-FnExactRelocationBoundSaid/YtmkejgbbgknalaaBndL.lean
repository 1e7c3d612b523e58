/-
  Proved here: the law FnExactRelocationBound returns true at every yard and every list of ints, and they read afterwards as before. There are no conditions.
-/
import Derived.Test.YtmkejgbbgknalaaRows
import Derived.Test.YtmkejgbbgknalaaLawK
import Derived.Test.YtmkejgbbgknalaaBndS
import Derived.WalkKit
import Derived.ProofKit
import Derived.OpenShut
namespace Go.Proofs.Ytmkejgbbgknalaa
open Go.Joins Go.Deep Go.ChangeShapes Go.WideShapes Go.ChangeAt Go.RowKit

set_option maxRecDepth 100000 in
set_option maxHeartbeats 16000000 in
theorem relocationBound_body (v : Value) (Y : List (List Int)) (vo : Value) (O : List Int) (r0 : Int) (ok : Bool)  (hn : Y.length ≤ maxLen) (hs : ∀ (j : Nat) (l : List Int), Y[j]? = some l → l.length ≤ maxLen) (w : World) (hv : YdR w v Y) (hno : O.length ≤ maxLen) (hvo : IL w vo O)
    (hspec : Y.length ≤ 1048576 → tot Y ≤ 1048576 → O.length ≤ 1048576 → ∀ (u uo : Value) W, YdR W u Y → OwnI W uo O → Calls Try.prog 31 #[u, uo] W (RetP W (.tuple #[.int .i64 r0, .bool ok])))
    (himpl : Y.length ≤ 1048576 → tot Y ≤ 1048576 → O.length ≤ 1048576 → ∀ (u uo : Value) W, YdR W u Y → OwnI W uo O → Calls Try.prog 32 #[u, uo] W (RetP W (.tuple #[.int .i64 r0, .bool ok]))) :
    Calls Try.prog 5 #[v, vo] w fun e w' => e = .returned (.bool true) ∧ Below w.heap.size w w' := by
  obtain ⟨v0, rfl, hv0⟩ := hv
  have HV : Hid (YdR w (.agg #[v0]) Y) := Lib.hid ⟨v0, rfl, hv0⟩
  have H1 := Lib.hid hspec
  have H2 := Lib.hid himpl
  have HSm := Lib.hid hs
  clear hspec himpl hv0 hs
  have hno := hno
  have HO := Lib.hid hvo
  obtain ⟨ao, co, rfl⟩ := hvo.form
  clear hvo
  obtain ⟨no, hno2⟩ : ∃ no, O.length = no := ⟨_, rfl⟩
  have HNO := Lib.hid hno2
  rw [hno2] at hno HO ⊢
  clear hno2
  by_cases hob : no ≤ 1048576
  case neg =>
    have hob2 : (1048576 : Int) < (no : Int) := by omega
    have B := Lib.hid (below_one w (.cells #[v0] 24))
    unfold maxLen at hno
    go_enter Try.func5, Try.ntmps5
    go_wp2_with fail
    go_ret
    exact ⟨rfl, B.out⟩
  have hob2 : (no : Int) ≤ 1048576 := by omega
  have hno3 : O.length ≤ 1048576 := by rw [HNO.out]; exact hob
  have LO1 := Lib.hid hno3
  clear hno3
  go_enter Try.func5, Try.ntmps5
  go_wp2_with fail
  have BA := Lib.hid (Box1.new w v0 24)
  have B := Lib.hid (below_one w (.cells #[v0] 24))
  generalize w.alloc (.cells #[v0] 24) = w0 at *
  have ZA := Lib.hid BA.out.1
  refine (szY_any _ Y 1048576 hn HSm.out (by decide) _ (HV.out.below B.out)).mono ?_
  rintro e w1 ⟨hb, rfl | ⟨r, rfl, hr9, hn2, ht2⟩⟩
  · have B := Lib.hid (B.out.trans (hb.mono B.out.size))
    clear hb
    go_wp2_with fail
    go_ret
    exact ⟨rfl, B.out⟩
  have L1 := Lib.hid hn2
  have L2 := Lib.hid ht2
  have BA := Lib.hid (BA.out.below hb)
  have B := Lib.hid (B.out.trans (hb.mono B.out.size))
  have Z1 := Lib.hid hb.size
  clear hb
  have cBA := BA.out.2
  go_wp2_with fail
  clear cBA
  refine (toY_any (.agg #[v0]) Y L1.out L2.out _ (HV.out.below B.out)).mono ?_
  rintro e w2 ⟨a1, k1, rfl, ho, hb⟩
  have BA := Lib.hid (BA.out.below hb)
  have B := Lib.hid (B.out.trans (hb.mono B.out.size))
  have Z2 := Lib.hid hb.size
  have O1 := Lib.hid ho
  clear ho hb
  have cBA := BA.out.2
  go_wp2_with fail
  clear cBA
  refine (toI_any _ O LO1.out _ (HO.out.below B.out)).mono ?_
  rintro e w3 ⟨ao1, ko1, rfl, ho, hb⟩
  have BA := Lib.hid (BA.out.below hb)
  have O1 := Lib.hid (O1.out.below hb)
  have B := Lib.hid (B.out.trans (hb.mono B.out.size))
  have Z3 := Lib.hid hb.size
  have P1 := Lib.hid (lo_of_own ho (Nat.le_refl _))
  clear ho hb
  rw [HNO.out] at P1 ⊢
  have cBA := BA.out.2
  go_wp2_with fail
  clear cBA
  refine (H1.out L1.out L2.out LO1.out _ _ _ ⟨_, rfl, O1.out.yl⟩ ⟨_, P1.out.2.1⟩).mono ?_
  rintro e w4 ⟨rfl, hb⟩
  have BA := Lib.hid (BA.out.below hb)
  have O1 := Lib.hid (O1.out.below hb)
  have P1 := Lib.hid (P1.out.below hb)
  have B := Lib.hid (B.out.trans (hb.mono B.out.size))
  have Z4 := Lib.hid hb.size
  clear hb
  clear O1
  clear P1
  have BS := Lib.hid (Below.refl w4.heap.size w4)
  have cBA := BA.out.2
  go_wp2_with fail
  clear cBA
  refine (toY_any (.agg #[v0]) Y L1.out L2.out _ (HV.out.below B.out)).mono ?_
  rintro e w5 ⟨a3, k3, rfl, ho, hb⟩
  have BA := Lib.hid (BA.out.below hb)
  have BS := Lib.hid (BS.out.trans (hb.mono BS.out.size))
  have B := Lib.hid (B.out.trans (hb.mono B.out.size))
  have Z5 := Lib.hid hb.size
  have O3 := Lib.hid ho
  clear ho hb
  have cBA := BA.out.2
  have dBA := fun o => (World.cell?_alloc_lt w5 o ⟨w.heap.size, 0, none⟩ BA.out.1).trans BA.out.2
  go_wp2_with fail
  clear cBA
  clear dBA
  have hb := below_one w5 (.cells #[.slice a3 Y.length k3] 28)
  have BX := Lib.hid (Box1.new w5 (.slice a3 Y.length k3) 28)
  have BA := Lib.hid (BA.out.below hb)
  have O3 := Lib.hid (O3.out.below hb)
  have BS := Lib.hid (BS.out.trans (hb.mono BS.out.size))
  have B := Lib.hid (B.out.trans (hb.mono B.out.size))
  have Z6 := Lib.hid hb.size
  clear hb
  generalize w5.alloc (.cells #[.slice a3 Y.length k3] 28) = w6 at *
  have Z7 := Lib.hid BX.out.1
  have cBA := BA.out.2
  have cBX := BX.out.2
  go_wp2_with fail
  clear cBA cBX
  refine (toI_any _ O LO1.out _ (HO.out.below B.out)).mono ?_
  rintro e w7 ⟨ao3, ko3, rfl, ho, hb⟩
  have BA := Lib.hid (BA.out.below hb)
  have O3 := Lib.hid (O3.out.below hb)
  have BX := Lib.hid (BX.out.below hb)
  have BS := Lib.hid (BS.out.trans (hb.mono BS.out.size))
  have B := Lib.hid (B.out.trans (hb.mono B.out.size))
  have Z8 := Lib.hid hb.size
  have P3 := Lib.hid (lo_of_own ho (Nat.le_refl _))
  clear ho hb
  rw [HNO.out] at P3 ⊢
  have cBA := BA.out.2
  have cBX := BX.out.2
  go_wp2_with fail
  clear cBA cBX
  refine (H2.out L1.out L2.out LO1.out _ _ _ ⟨_, rfl, O3.out.yl⟩ ⟨_, P3.out.2.1⟩).mono ?_
  rintro e w8 ⟨rfl, hb⟩
  have BA := Lib.hid (BA.out.below hb)
  have O3 := Lib.hid (O3.out.below hb)
  have BX := Lib.hid (BX.out.below hb)
  have P3 := Lib.hid (P3.out.below hb)
  have BS := Lib.hid (BS.out.trans (hb.mono BS.out.size))
  have B := Lib.hid (B.out.trans (hb.mono B.out.size))
  have Z9 := Lib.hid hb.size
  clear hb
  have cBA := BA.out.2
  have cBX := BX.out.2
  go_wp2_with fail
  have K0 := (KeepY.start (HV.out.below B.out) ⟨_, rfl, O3.out.yl⟩ BA.out BX.out).drew
  have KT := Lib.hid L1.out
  have hq1 := L1.out
  have hq2 := L2.out
  clear cBA cBX
  obtain ⟨hk1, hk2⟩ : w8.drew.cell? ⟨w.heap.size, 0, none⟩ = some v0 ∧ w8.drew.cell? ⟨w5.heap.size, 0, none⟩ = some (.slice a3 Y.length k3) := ⟨K0.2.2.2.1.2, K0.2.2.2.2.2⟩
  go_region_held3 (fun W => (W.cell? ⟨w.heap.size, 0, none⟩ = some v0 ∧ W.cell? ⟨w5.heap.size, 0, none⟩ = some (.slice a3 Y.length k3)) ∧ KeepY w8 w.heap.size w5.heap.size v0 (.slice a3 Y.length k3) Y W) (go_keep) (first | (go_at_call 17; refine (KeepY.to L1.out L2.out (by assumption)).mono ?_; rintro e w' ⟨u, rfl, hu, x0, x1, hK⟩) | (go_at_call 20; refine (KeepY.eq L1.out L2.out (by assumption) (by assumption)).mono ?_; rintro e w' ⟨rfl, x0, x1, hK⟩))
  rename World => w9
  have hb := hK.1
  clear hK x0 x1 hu hq1 hq2 KT
  have BA := Lib.hid (BA.out.below hb)
  have O3 := Lib.hid (O3.out.below hb)
  have BX := Lib.hid (BX.out.below hb)
  have P3 := Lib.hid (P3.out.below hb)
  have BS := Lib.hid (BS.out.trans (hb.mono BS.out.size))
  have B := Lib.hid (B.out.trans (hb.mono B.out.size))
  have Z10 := Lib.hid hb.size
  clear hb
  have cBA := BA.out.2
  have cBX := BX.out.2
  go_wp2_with fail
  clear cBA cBX
  refine (toI_any _ O LO1.out _ (HO.out.below B.out)).mono ?_
  rintro e w10 ⟨ao5, ko5, rfl, ho, hb⟩
  have BA := Lib.hid (BA.out.below hb)
  have O3 := Lib.hid (O3.out.below hb)
  have BX := Lib.hid (BX.out.below hb)
  have P3 := Lib.hid (P3.out.below hb)
  have BS := Lib.hid (BS.out.trans (hb.mono BS.out.size))
  have B := Lib.hid (B.out.trans (hb.mono B.out.size))
  have Z11 := Lib.hid hb.size
  have P5 := Lib.hid (lo_of_own ho (Nat.le_refl _))
  clear ho hb
  rw [HNO.out] at P5 ⊢
  have cBA := BA.out.2
  have cBX := BX.out.2
  go_wp2_with fail
  clear cBA cBX
  refine (eqL_any _ _ O LO1.out _ P3.out.read P5.out.read).mono ?_
  rintro e w11 ⟨rfl, hb⟩
  have BA := Lib.hid (BA.out.below hb)
  have O3 := Lib.hid (O3.out.below hb)
  have BX := Lib.hid (BX.out.below hb)
  have P3 := Lib.hid (P3.out.below hb)
  have P5 := Lib.hid (P5.out.below hb)
  have BS := Lib.hid (BS.out.trans (hb.mono BS.out.size))
  have B := Lib.hid (B.out.trans (hb.mono B.out.size))
  have Z12 := Lib.hid hb.size
  clear hb
  clear P5
  have cBA := BA.out.2
  have cBX := BX.out.2
  go_wp2_with fail
  go_ret
  exact ⟨rfl, B.out⟩

set_option maxRecDepth 100000 in
theorem relocationBound_lifted (os : Os) (started : os.Started) (H : Type) (enc : TypeId × Value → H) :
    ReturnsInHanded {} Try.checked os 5 .any (Rows.fnExactRelocationBoundSpec.pre6 enc Try.prog Try.f5 Rows.fnExactRelocationBoundRow.domain false) (Rows.fnExactRelocationBoundSpec.post enc Try.prog Try.f5 false true false false) := by
  refine returnsInHanded_of_change (C := Try.checked) yard_own started (by kernel_rfl) Try.func5
    (ChangeSpec.witness6 (enc := enc) (C := Try.checked) false ⟨#[], #[.agg #[.slice none 0 0], .slice none 0 0], []⟩ 8 (by kernel_rfl) (by kernel_rfl) (by kernel_rfl) (by kernel_rfl)) ?_
  intro W base args ds gs before hval0 hW hcnd0 _
  have hval : ∀ (j : Nat) t v, Try.f5.params[j]? = some t → args[j]? = some v → Value.okWide Try.prog W .any base t v := hval0
  have hW' := hW
  obtain ⟨p, q, hA0, hV, rfl, hfz, _⟩ := hW
  have hA : DataW.TrodAll enc Try.prog W 0 (fun _ => true) true Try.f5.params.toList args.toList ds p := hA0
  rw [Try.params5] at hA hval
  obtain ⟨v0, v1, d0, d1, p0, p1, rfl, rfl, rfl, h0, h1⟩ := trodAll_two hA
  obtain ⟨rfl, rfl⟩ := trodVars_none hV
  clear hA0 hval0 hcnd0
  simp only [List.append_nil] at hW'
  have hlt : ∀ x ∈ (p0 ++ p1), x.block < W.heap.size := fun x hx => by simpa using hW'.lt x (by simpa using hx)
  have hlt0 : ∀ x ∈ p0, x.block < W.heap.size := fun x hx => hlt x (List.mem_append_left _ hx)
  have hlt1 : ∀ x ∈ p1, x.block < W.heap.size := fun x hx => hlt x (List.mem_append_right _ hx)
  obtain ⟨Y, hn, hs, hv⟩ := open_yard (hval 0 24 v0 rfl rfl) h0 hlt0
  obtain ⟨a1, len1, cap1, rfl⟩ := okWide_slice Try.underlying29 (hval 1 29 v1 rfl rfl)
  obtain ⟨O, hno, hvo⟩ := open_il h1 hlt1
  refine (relocationBound_body v0 Y _ O (bndA Y O : Int) (askB Y O) hn hs W hv hno hvo (fun h1 h2 h3 u uo W hu ho => specBnd_any u uo Y O h1 h2 h3 W hu ho) (fun h1 h2 h3 u uo W hu ho => implBnd_any u uo Y O h1 h2 h3 W hu ho)).mono fun e W' ⟨he, hB⟩ => ?_
  subst he
  refine ⟨_, rfl, _, _, _, [], (p0 ++ p1), [], hW', ?_, ?_, rfl, hB.frame _, fun h => by cases h⟩
  · exact trodAll_mk1 (shut_bool Try.underlying4 true)
  · have h9 := trodAll_mk2 (Below.trod yard_laidOut (by kernel_rfl) (of_decide_eq_true (by kernel_rfl)) h0 hB hlt0) (Below.trod yard_laidOut (by kernel_rfl) (of_decide_eq_true (by kernel_rfl)) h1 hB hlt1)
    first
      | exact h9
      | (simp only [List.append_nil] at h9; exact h9)

theorem FnExactRelocationBound_holds : Rows.FnExactRelocationBoundSaid :=
  OpenClaim.holds_of_wide 5 Try.f5 rfl rfl rfl rfl rfl rfl rfl ⟨rfl, rfl, rfl, rfl, rfl⟩ rfl rfl rfl rfl rfl (by kernel_rfl) Try.func5 (by kernel_rfl)
    (of_decide_eq_true (by kernel_rfl)) (by unfold Func.isWrapper; first | (rw [if_pos (by decide +kernel)]; kernel_rfl) | (rw [if_neg (by decide +kernel)]; exact ⟨rfl, rfl⟩))
    (fun os started H enc _ => relocationBound_lifted os started H enc)
#print axioms FnExactRelocationBound_holds

end Go.Proofs.Ytmkejgbbgknalaa
