/-
  Proved here: the law FnExactCountUnits returns true at every list of containers, and the list reads afterwards as it read before. There are no conditions.
-/
import Derived.Test.YtpdonhdffniabaaRows
import Derived.Test.YtpdonhdffniabaaCOpen
import Derived.Test.YtpdonhdffniabaaCSums
import Derived.Test.YtpdonhdffniabaaCEqC
import Derived.WalkKit
import Derived.ProofKit
import Derived.OpenShut
namespace Go.Proofs.Ytpdonhdffniabaa
open Go.Proofs.Ytpdonhdffniabaa.C
open Go.Joins Go.Deep Go.ChangeShapes Go.WideShapes Go.ChangeAt Go.RowKit

set_option maxHeartbeats 1000000 in
theorem unitsLaw (v : Value) (n : Nat) (f : Nat → Cont) (A : Int) (b : Bool) (hn : n ≤ maxLen) (hsz : ∀ j, j < n → (f j).id.size ≤ maxLen) (w : World) (hv : ArgC w v n f)
    (hspec : n ≤ 1048576 → (∀ j, j < n → (f j).id.size ≤ 1048576) → ∀ g W, CAt W g 0 n f → Calls Try.prog 23 #[.slice (some ⟨g, 0, none⟩) n n] W (PairI W A b))
    (himpl : n ≤ 1048576 → (∀ j, j < n → (f j).id.size ≤ 1048576) → ∀ g W, CAt W g 0 n f → Calls Try.prog 24 #[.slice (some ⟨g, 0, none⟩) n n] W (PairI W A b)) :
    Calls Try.prog 7 #[v] w fun e w' => e = .returned (.bool true) ∧ Below w.heap.size w w' := by
  have HZ := Lib.hid hsz
  have HV := Lib.hid hv
  have H1 := Lib.hid hspec
  have H2 := Lib.hid himpl
  clear hsz hv hspec himpl
  go_enter Try.func7, Try.ntmps7
  go_wp2_with fail
  refine (szC_any v n f hn HZ.out _ HV.out).mono ?_
  rintro e w1 ⟨hb1, rfl | ⟨r, rfl, hn2, hf2⟩⟩
  · have B1 := Lib.hid hb1
    clear hb1
    go_wp2_with fail
    go_ret
    exact ⟨rfl, B1.out⟩
  · have HF := Lib.hid hf2
    have B1 := Lib.hid hb1
    clear hf2 hb1
    go_wp2_with fail
    refine (toC_any v n f hn2 _ (HV.out.below B1.out)).mono ?_
    rintro e w2 ⟨rfl, hc2, hb2, -⟩
    have C2 := Lib.hid hc2
    have B2 : Hid (Below w.heap.size w w2) := Lib.hid (B1.out.trans (hb2.mono B1.out.size))
    clear hc2 hb2
    go_wp2_with fail
    refine (H1.out hn2 HF.out _ _ C2.out).mono ?_
    rintro e w3 ⟨rfl, hb3⟩
    have B3 : Hid (Below w.heap.size w w3) := Lib.hid (B2.out.trans (hb3.mono B2.out.size))
    clear hb3
    go_wp2_with fail
    refine (toC_any v n f hn2 _ (HV.out.below B3.out)).mono ?_
    rintro e w4 ⟨rfl, hc4, hb4, -⟩
    have C4 := Lib.hid hc4
    have B4 : Hid (Below w.heap.size w w4) := Lib.hid (B3.out.trans (hb4.mono B3.out.size))
    clear hc4 hb4
    go_wp2_with fail
    refine (H2.out hn2 HF.out _ _ C4.out).mono ?_
    rintro e w5 ⟨rfl, hb5⟩
    have C5 := Lib.hid (C4.out.below hb5)
    have B5 : Hid (Below w.heap.size w w5) := Lib.hid (B4.out.trans (hb5.mono B4.out.size))
    clear hb5
    go_wp2_with fail
    refine (toC_any v n f hn2 _ (HV.out.below B5.out)).mono ?_
    rintro e w6 ⟨rfl, hc6, hb6, -⟩
    have C6 := Lib.hid hc6
    have D6 := Lib.hid (C5.out.below hb6)
    have B6 : Hid (Below w.heap.size w w6) := Lib.hid (B5.out.trans (hb6.mono B5.out.size))
    clear hc6 hb6
    go_wp2_with fail
    refine (eqC_same _ _ n n n f hn2 _ D6.out C6.out).mono ?_
    rintro e w7 ⟨rfl, hb7⟩
    have B7 : Hid (Below w.heap.size w w7) := Lib.hid (B6.out.trans (hb7.mono B6.out.size))
    clear hb7
    go_wp2_with fail
    go_ret
    exact ⟨rfl, B7.out⟩
theorem units_walk (v : Value) (n : Nat) (f : Nat → Cont) (hn : n ≤ maxLen) (hsz : ∀ j, j < n → (f j).id.size ≤ maxLen) (w : World) (hv : ArgC w v n f) :
    Calls Try.prog 7 #[v] w fun e w' => e = .returned (.bool true) ∧ Below w.heap.size w w' := by
  cases hL : listB n f with
  | false => exact unitsLaw v n f 0 false hn hsz w hv (fun hn2 hf2 g W hC => specUnits_no g n n f hn2 hf2 W hC hL) (fun hn2 hf2 g W hC => implUnits_no g n n f hn2 hf2 (Nat.le_refl _) W hC hL)
  | true => exact unitsLaw v n f (sumU f n) true hn hsz w hv (fun hn2 hf2 g W hC => specUnits_yes g n n f hn2 hf2 W hC hL) (fun hn2 hf2 g W hC => implUnits_yes g n n f hn2 hf2 (Nat.le_refl _) W hC hL)

set_option maxRecDepth 100000 in
theorem units_lifted (os : Os) (started : os.Started) (H : Type) (enc : TypeId × Value → H) :
    ReturnsInHanded {} Try.checked os 7 .any (Rows.fnExactCountUnitsSpec.pre6 enc Try.prog Try.f7 Rows.fnExactCountUnitsRow.domain false) (Rows.fnExactCountUnitsSpec.post enc Try.prog Try.f7 false true false false) := by
  refine returnsInHanded_of_change (C := Try.checked) list_own started (by kernel_rfl) Try.func7
    (ChangeSpec.witness6 (enc := enc) (C := Try.checked) false ⟨#[], #[.slice none 0 0], []⟩ 8 (by kernel_rfl) (by kernel_rfl) (by kernel_rfl) (by kernel_rfl)) ?_
  intro W base args ds gs before hval0 hW hcnd0 _
  have hval : ∀ (j : Nat) t v, Try.f7.params[j]? = some t → args[j]? = some v → Value.okWide Try.prog W .any base t v := hval0
  have hW' := hW
  obtain ⟨p, q, hA0, hV, rfl, hfz, _⟩ := hW
  have hA : DataW.TrodAll enc Try.prog W 0 (fun _ => true) true Try.f7.params.toList args.toList ds p := hA0
  rw [Try.params7] at hA hval
  obtain ⟨v0, d0, rfl, rfl, h0⟩ := trodAll_one hA
  obtain ⟨rfl, rfl⟩ := trodVars_none hV
  obtain ⟨a0, len, cap, rfl⟩ := okWide_slice Try.underlying29 (hval 0 29 v0 rfl rfl)
  clear hA0 hval0 hcnd0
  simp only [List.append_nil] at hW'
  have hlt : ∀ x ∈ p, x.block < W.heap.size := fun x hx => by simpa using hW'.lt x (by simpa using hx)
  obtain ⟨f, hn, hsz, hv⟩ := open_conts h0 hlt
  refine (units_walk (.slice a0 len cap) len f hn hsz W hv).mono fun e W' ⟨he, hB⟩ => ?_
  subst he
  refine ⟨_, rfl, _, _, _, [], p, [], hW', ?_, ?_, rfl, hB.frame _, fun h => by cases h⟩
  · exact trodAll_mk1 (shut_bool Try.underlying4 true)
  · exact trodAll_mk1 (Below.trod list_laidOut (by kernel_rfl) (of_decide_eq_true (by kernel_rfl)) h0 hB hlt)

theorem FnExactCountUnits_holds : Rows.FnExactCountUnitsSaid :=
  OpenClaim.holds_of_wide 7 Try.f7 rfl rfl rfl rfl rfl rfl rfl ⟨rfl, rfl, rfl, rfl, rfl⟩ rfl rfl rfl rfl rfl (by kernel_rfl) Try.func7 (by kernel_rfl)
    (of_decide_eq_true (by kernel_rfl)) (by unfold Func.isWrapper; first | (rw [if_pos (by decide +kernel)]; kernel_rfl) | (rw [if_neg (by decide +kernel)]; exact ⟨rfl, rfl⟩))
    (fun os started H enc _ => units_lifted os started H enc)
#print axioms FnExactCountUnits_holds
end Go.Proofs.Ytpdonhdffniabaa
