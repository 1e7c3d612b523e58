/-
  Proved here: the law FnExactFirstClash returns true at every list, and the list reads afterwards as it read before. There are no conditions.
-/
import Derived.Test.YtpljcpeghjplnaaRows
import Derived.Test.YtpljcpeghjplnaaCmF
import Derived.WalkKit
import Derived.ProofKit
import Derived.OpenShut
namespace Go.Proofs.Ytpljcpeghjplnaa
open Go.Joins Go.Deep Go.ChangeShapes Go.WideShapes Go.ChangeAt Go.RowKit

set_option maxRecDepth 100000 in
set_option maxHeartbeats 4000000 in
theorem firstClash_body (v : Value) (S : List (Int × Int × Int × Int)) (r0 : Int) (r1 : Int) (r2 : Bool) (hn : S.length ≤ maxLen) (w : World) (hv : CmL w v S)
    (hspec : S.length ≤ 1048576 → ∀ (u : Value) (W : World), CmW W u S → Calls Try.prog 53 #[u] W (RetP W (.tuple #[.int .i64 r0, .int .i64 r1, .bool r2])))
    (himpl : S.length ≤ 1048576 → ∀ (u : Value) (W : World), CmW W u S → Calls Try.prog 55 #[u] W (RetP W (.tuple #[.int .i64 r0, .int .i64 r1, .bool r2]))) :
    Calls Try.prog 13 #[v] w fun e w' => e = .returned (.bool true) ∧ Below w.heap.size w w' := by
  have HV := Lib.hid hv
  have H1 := Lib.hid hspec
  have H2 := Lib.hid himpl
  obtain ⟨a, c, rfl⟩ := hv.form
  clear hv hspec himpl
  go_enter Try.func13, Try.ntmps13
  go_wp2_with fail
  refine (szCm_any a S.length c 1048576 hn (by decide) _).mono ?_
  rintro e w1 ⟨rfl, rfl⟩
  by_cases hS : S.length ≤ 1048576
  · rw [if_pos hS]
    obtain ⟨r, hr⟩ : ∃ r : Nat, 1048576 - S.length = r := ⟨_, rfl⟩
    rw [hr]
    have HS := Lib.hid hS
    have hr0 : r ≤ 1048576 := by omega
    clear hr hS
    obtain ⟨m, hm⟩ : ∃ m, S.length = m := ⟨_, rfl⟩
    rw [hm] at HV ⊢
    clear hn hm
    go_wp2_with fail
    refine (toCm_any _ S HS.out _ HV.out).mono ?_
    intro e w1 h1
    obtain ⟨u1, rfl, hu1, hb1⟩ := h1.own
    have B1 := Lib.hid hb1
    clear h1 hb1
    go_wp2_with fail
    refine (H1.out HS.out _ _ hu1).mono ?_
    rintro e w2 ⟨rfl, hb2⟩
    have B2 : Hid (Below w.heap.size w w2) := Lib.hid (B1.out.trans (hb2.mono B1.out.size))
    clear hb2 hu1
    go_wp2_with fail
    refine (toCm_any _ S HS.out _ (HV.out.below B2.out)).mono ?_
    intro e w3 h3
    obtain ⟨u3, rfl, hu3, hb3⟩ := h3.own
    have U3 := Lib.hid hu3
    have B3 : Hid (Below w.heap.size w w3) := Lib.hid (B2.out.trans (hb3.mono B2.out.size))
    clear h3 hb3 hu3
    go_wp2_with fail
    refine (H2.out HS.out _ _ U3.out).mono ?_
    rintro e w4 ⟨rfl, hb4⟩
    have U4 := Lib.hid (U3.out.read.below hb4)
    have B4 : Hid (Below w.heap.size w w4) := Lib.hid (B3.out.trans (hb4.mono B3.out.size))
    clear hb4
    go_wp2_with fail
    refine (toCm_any _ S HS.out _ (HV.out.below B4.out)).mono ?_
    intro e w5 h5
    obtain ⟨u5, rfl, hu5, hb5⟩ := h5.read
    have U5 := Lib.hid hu5
    have V5 := Lib.hid (U4.out.below hb5)
    have B5 : Hid (Below w.heap.size w w5) := Lib.hid (B4.out.trans (hb5.mono B4.out.size))
    clear h5 hb5 hu5
    go_wp2_with fail
    refine (eqCm_any _ _ S HS.out _ V5.out U5.out).mono ?_
    rintro e w6 ⟨rfl, hb6⟩
    have B6 : Hid (Below w.heap.size w w6) := Lib.hid (B5.out.trans (hb6.mono B5.out.size))
    clear hb6
    go_wp2_with fail
    go_ret
    exact ⟨rfl, B6.out⟩
  · rw [if_neg hS]
    go_wp2_with fail
    go_ret
    exact ⟨rfl, Below.refl _ _⟩

set_option maxRecDepth 100000 in
theorem firstClash_lifted (os : Os) (started : os.Started) (H : Type) (enc : TypeId × Value → H) :
    ReturnsInHanded {} Try.checked os 13 .any (Rows.fnExactFirstClashSpec.pre6 enc Try.prog Try.f13 Rows.fnExactFirstClashRow.domain false) (Rows.fnExactFirstClashSpec.post enc Try.prog Try.f13 false true false false) := by
  refine returnsInHanded_of_change (C := Try.checked) yard_own started (by kernel_rfl) Try.func13
    (ChangeSpec.witness6 (enc := enc) (C := Try.checked) false ⟨#[], #[.slice none 0 0], []⟩ 8 (by kernel_rfl) (by kernel_rfl) (by kernel_rfl) (by kernel_rfl)) ?_
  intro W base args ds gs before hval0 hW hcnd0 _
  have hval : ∀ (j : Nat) t v, Try.f13.params[j]? = some t → args[j]? = some v → Value.okWide Try.prog W .any base t v := hval0
  have hW' := hW
  obtain ⟨p, q, hA0, hV, rfl, hfz, _⟩ := hW
  have hA : DataW.TrodAll enc Try.prog W 0 (fun _ => true) true Try.f13.params.toList args.toList ds p := hA0
  rw [Try.params13] at hA hval
  obtain ⟨v0, d0, rfl, rfl, h0⟩ := trodAll_one hA
  obtain ⟨rfl, rfl⟩ := trodVars_none hV
  obtain ⟨a0, len, cap, rfl⟩ := okWide_slice Try.underlying67 (hval 0 67 v0 rfl rfl)
  clear hA0 hval0 hcnd0
  simp only [List.append_nil] at hW'
  have hlt : ∀ x ∈ p, x.block < W.heap.size := fun x hx => by simpa using hW'.lt x (by simpa using hx)
  obtain ⟨S, hn, hv⟩ := openCm h0 hlt
  refine (firstClash_body (.slice a0 len cap) S _ _ _ hn W hv (fun h u W hu => specFc_any u S h W hu.read) (fun h u W hu => implFc_any u S h W hu.read hu.cap)).mono fun e W' ⟨he, hB⟩ => ?_
  subst he
  refine ⟨_, rfl, _, _, _, [], p, [], hW', ?_, ?_, rfl, hB.frame _, fun h => by cases h⟩
  · exact trodAll_mk1 (shut_bool Try.underlying4 true)
  · have h9 := trodAll_mk1 (Below.trod yard_laidOut (by kernel_rfl) (of_decide_eq_true (by kernel_rfl)) h0 hB hlt)
    first
      | exact h9
      | (simp only [List.append_nil] at h9; exact h9)

theorem FnExactFirstClash_holds : Rows.FnExactFirstClashSaid :=
  OpenClaim.holds_of_wide 13 Try.f13 rfl rfl rfl rfl rfl rfl rfl ⟨rfl, rfl, rfl, rfl, rfl⟩ rfl rfl rfl rfl rfl (by kernel_rfl) Try.func13 (by kernel_rfl)
    (of_decide_eq_true (by kernel_rfl)) (by unfold Func.isWrapper; first | (rw [if_pos (by decide +kernel)]; kernel_rfl) | (rw [if_neg (by decide +kernel)]; exact ⟨rfl, rfl⟩))
    (fun os started H enc _ => firstClash_lifted os started H enc)
#print axioms FnExactFirstClash_holds
end Go.Proofs.Ytpljcpeghjplnaa
