/-
  Proved here: the law FnExactHeaviestFirst returns true at every list of containers, and it reads afterwards as it read before. There are no conditions.
-/
import Derived.Test.YtpdonhdffniabaaRows
import Derived.Test.YtpdonhdffniabaaCOpen
import Derived.Test.YtpdonhdffniabaaCFor
import Derived.Test.YtpdonhdffniabaaCInts
import Derived.Test.YtpdonhdffniabaaCHeavyI
import Derived.Test.YtpdonhdffniabaaCHeavyS
import Derived.Test.YtpdonhdffniabaaCEqC
import Derived.WalkKit
import Derived.ProofKit
import Derived.OpenShut
namespace Go.Proofs.Ytpdonhdffniabaa
open Go.Proofs.Ytpdonhdffniabaa.C
open Go.Joins Go.Deep Go.ChangeShapes Go.WideShapes Go.ChangeAt Go.RowKit

set_option maxRecDepth 100000 in
set_option maxHeartbeats 4000000 in
theorem heavyLaw (v : Value) (n : Nat) (f : Nat → Cont) (ps : List Nat) (ok : Bool) (hp : ps.length ≤ 5000) (hn : n ≤ maxLen) (hsz : ∀ j, j < n → (f j).id.size ≤ maxLen) (w : World) (hv : ArgC w v n f)
    (hspec : n ≤ 1048576 → (∀ j, j < n → (f j).id.size ≤ 1048576) → ∀ g W, CAt W g 0 n f → Calls Try.prog 31 #[.slice (some ⟨g, 0, none⟩) n n] W (OrdPost W ps ok))
    (himpl : n ≤ 1048576 → (∀ j, j < n → (f j).id.size ≤ 1048576) → ∀ g W, CAt W g 0 n f → Calls Try.prog 32 #[.slice (some ⟨g, 0, none⟩) n n] W (OrdPost W ps ok)) :
    Calls Try.prog 9 #[v] w fun e w' => e = .returned (.bool true) ∧ Below w.heap.size w w' := by
  have HZ := Lib.hid hsz
  have HV := Lib.hid hv
  have H1 := Lib.hid hspec
  have H2 := Lib.hid himpl
  clear hsz hv hspec himpl
  go_enter Try.func9, Try.ntmps9
  go_wp2_with fail
  refine (szC_any v n f hn HZ.out _ HV.out).mono ?_
  rintro e w1 ⟨hb1, rfl | ⟨r, rfl, hn2, hf2⟩⟩
  · have B1 := Lib.hid hb1
    clear hb1
    go_wp2_with fail
    go_ret
    exact ⟨rfl, B1.out⟩
  · have HF := Lib.hid hf2
    have B1 := Lib.hid hb1
    clear hf2 hb1
    go_wp2_with fail
    refine (toC_any v n f hn2 _ (HV.out.below B1.out)).mono ?_
    rintro e w2 ⟨rfl, hc2, hb2, -⟩
    have C2 := Lib.hid hc2
    have B2 : Hid (Below w.heap.size w w2) := Lib.hid (B1.out.trans (hb2.mono B1.out.size))
    clear hc2 hb2
    go_wp2_with fail
    refine (H1.out hn2 HF.out _ _ C2.out).mono ?_
    rintro e w3 ⟨v1, rfl, hr3, hb3⟩
    have A3 := Lib.hid (rowN_of_owns hr3)
    have L3 := Lib.hid (row_lt hr3)
    have B3 : Hid (Below w.heap.size w w3) := Lib.hid (B2.out.trans (hb3.mono B2.out.size))
    clear hr3 hb3
    go_wp2_with fail
    refine (toC_any v n f hn2 _ (HV.out.below B3.out)).mono ?_
    rintro e w4 ⟨rfl, hc4, hb4, hk4⟩
    have C4 := Lib.hid hc4
    have K4 : Hid (MarkC w4 w4 w3.heap.size n) := Lib.hid ⟨⟨rfl, rfl, rfl, Nat.le_refl _, fun _ _ _ => rfl⟩, hk4⟩
    have A4 := Lib.hid (A3.out.below hb4)
    have S4 := hc4.1
    have B4 : Hid (Below w.heap.size w w4) := Lib.hid (B3.out.trans (hb4.mono B3.out.size))
    clear hc4 hb4 hk4
    go_wp2_with fail
    refine (H2.out hn2 HF.out _ _ C4.out).mono ?_
    rintro e w5 ⟨v2, rfl, hr5, hb5⟩
    have R5 := Lib.hid (rowN_of_owns hr5)
    have A5 := Lib.hid (A4.out.below hb5)
    have L5 := Lib.hid (row_base hr5)
    have C5 := Lib.hid (C4.out.below hb5)
    have K5 : Hid (MarkC w4 w5 w3.heap.size n) := Lib.hid (markC_below K4.out hb5)
    have B5 : Hid (Below w.heap.size w w5) := Lib.hid (B4.out.trans (hb5.mono B4.out.size))
    clear hr5 hb5
    go_wp2_with fail
    refine (eqN_any v2 v1 ps.length _ (by omega) _ R5.out A5.out).mono ?_
    rintro e w6 ⟨rfl, k6, hw6⟩
    have hb6 : Below w5.heap.size w5 w6 := by rw [hw6]; exact below_drewN (Below.refl _ w5) k6
    have R6 := Lib.hid (R5.out.below hb6)
    have A6 := Lib.hid (A5.out.below hb6)
    have C6 := Lib.hid (C5.out.below hb6)
    have K6 := Lib.hid (markC_below K5.out hb6)
    have B6 : Hid (Below w.heap.size w w6) := Lib.hid (B5.out.trans (hb6.mono B5.out.size))
    clear hw6 hb6
    go_wp2_with fail
    refine (toC_any v n f hn2 _ (HV.out.below B6.out)).mono ?_
    rintro e w7 ⟨rfl, hc7, hb7, -⟩
    have R7 := Lib.hid (R6.out.below hb7)
    have A7 := Lib.hid (A6.out.below hb7)
    have C7 := Lib.hid (C6.out.below hb7)
    have D7 := Lib.hid hc7
    have K7 := Lib.hid (markC_below K6.out hb7)
    have B7 : Hid (Below w.heap.size w w7) := Lib.hid (B6.out.trans (hb7.mono B6.out.size))
    clear hc7 hb7
    go_wp2_with fail
    refine (eqC_same _ _ n n n f hn2 _ C7.out D7.out).mono ?_
    rintro e w8 ⟨rfl, hb8⟩
    have R8 := Lib.hid (R7.out.below hb8)
    have A8 := Lib.hid (A7.out.below hb8)
    have K8 : Hid (MarkC w8 w8 w3.heap.size n) := Lib.hid ⟨⟨rfl, rfl, rfl, Nat.le_refl _, fun _ _ _ => rfl⟩, (markC_below K7.out hb8).2⟩
    have B8 : Hid (Below w.heap.size w w8) := Lib.hid (B7.out.trans (hb8.mono B7.out.size))
    clear hb8
    go_wp2_with fail
    refine (markC_any _ n n hn2 _ K8.out).mono ?_
    rintro e w9 ⟨rfl, hg9⟩
    have R9 := Lib.hid (R8.out.kept hg9 (fun j hj e => by have := L5.out j hj; cases e; omega))
    have A9 := Lib.hid (A8.out.kept hg9 (fun j hj e => by have := L3.out j hj; cases e; omega))
    have B9 : Hid (Below w.heap.size w w9) := Lib.hid (B8.out.grown hg9 B8.out.size (fun k e => by cases e; exact B3.out.size))
    clear hg9
    go_wp2_with fail
    refine (eqN_any v2 v1 ps.length _ (by omega) _ R9.out A9.out).mono ?_
    rintro e w10 ⟨rfl, k10, hw10⟩
    have hb10 : Below w9.heap.size w9 w10 := by rw [hw10]; exact below_drewN (Below.refl _ w9) k10
    have R10 := Lib.hid (R9.out.below hb10)
    have A10 := Lib.hid (A9.out.below hb10)
    have B10 : Hid (Below w.heap.size w w10) := Lib.hid (B9.out.trans (hb10.mono B9.out.size))
    clear hw10 hb10
    go_wp2_with fail
    refine (markN_one v2 ps.length _ hp _ R10.out).mono ?_
    rintro e w11 ⟨rfl, hm11, hg11⟩
    have M11 := Lib.hid hm11
    have A11 := Lib.hid (A10.out.kept hg11 (fun j hj e => by
      have l1 := L3.out j hj
      have l2 := L5.out j e.symm
      omega))
    have B11 : Hid (Below w.heap.size w w11) := Lib.hid (B10.out.grown hg11 B10.out.size (fun k e => by have := L5.out k e; have := B3.out.size; omega))
    clear hm11 hg11
    go_wp2_with fail
    refine (heldN_one v2 ps.length hp _ M11.out).mono ?_
    rintro e w12 ⟨rfl, k12, hw12⟩
    have hb12 : Below w11.heap.size w11 w12 := by rw [hw12]; exact below_drewN (Below.refl _ w11) k12
    have M12 := Lib.hid (M11.out.below hb12)
    have A12 := Lib.hid (A11.out.below hb12)
    have B12 : Hid (Below w.heap.size w w12) := Lib.hid (B11.out.trans (hb12.mono B11.out.size))
    clear hw12 hb12
    go_wp2_with fail
    refine (toC_any v n f hn2 _ (HV.out.below B12.out)).mono ?_
    rintro e w13 ⟨rfl, hc13, hb13, -⟩
    have C13 := Lib.hid hc13
    have M13 := Lib.hid (M12.out.below hb13)
    have A13 := Lib.hid (A12.out.below hb13)
    have B13 : Hid (Below w.heap.size w w13) := Lib.hid (B12.out.trans (hb13.mono B12.out.size))
    clear hc13 hb13
    go_wp2_with fail
    refine (H2.out hn2 HF.out _ _ C13.out).mono ?_
    rintro e w14 ⟨v3, rfl, hr14, hb14⟩
    have R14 := Lib.hid (rowN_of_owns hr14)
    have M14 := Lib.hid (M13.out.below hb14)
    have A14 := Lib.hid (A13.out.below hb14)
    have B14 : Hid (Below w.heap.size w w14) := Lib.hid (B13.out.trans (hb14.mono B13.out.size))
    clear hr14 hb14
    go_wp2_with fail
    refine (eqN_any v3 v1 ps.length _ (by omega) _ R14.out A14.out).mono ?_
    rintro e w15 ⟨rfl, k15, hw15⟩
    have hb15 : Below w14.heap.size w14 w15 := by rw [hw15]; exact below_drewN (Below.refl _ w14) k15
    have M15 := Lib.hid (M14.out.below hb15)
    have B15 : Hid (Below w.heap.size w w15) := Lib.hid (B14.out.trans (hb15.mono B14.out.size))
    clear hw15 hb15
    go_wp2_with fail
    refine (heldN_one v2 ps.length hp _ M15.out).mono ?_
    rintro e w16 ⟨rfl, k16, hw16⟩
    have hb16 : Below w15.heap.size w15 w16 := by rw [hw16]; exact below_drewN (Below.refl _ w15) k16
    have B16 : Hid (Below w.heap.size w w16) := Lib.hid (B15.out.trans (hb16.mono B15.out.size))
    clear hw16 hb16
    go_wp2_with fail
    go_ret
    exact ⟨rfl, B16.out⟩

theorem heavy_walk (v : Value) (n : Nat) (f : Nat → Cont) (hn : n ≤ maxLen) (hsz : ∀ j, j < n → (f j).id.size ≤ maxLen) (w : World) (hv : ArgC w v n f) :
    Calls Try.prog 9 #[v] w fun e w' => e = .returned (.bool true) ∧ Below w.heap.size w w' := by
  cases h : listB n f with
  | true =>
    have h12 := ((listB_iff n f).1 h).1
    exact heavyLaw v n f (ordL f n) true (by have := ordL_len f n; omega) hn hsz w hv (fun hn2 hf2 g W hC => specHeavy_yes g n n f hn2 hf2 W hC h) (fun hn2 hf2 g W hC => implHeavy_yes g n n f hn2 hf2 (Nat.le_refl _) W hC h)
  | false =>
    exact heavyLaw v n f [] false (by decide) hn hsz w hv (fun hn2 hf2 g W hC => specHeavy_no g n n f hn2 hf2 W hC h) (fun hn2 hf2 g W hC => implHeavy_no g n n f hn2 hf2 (Nat.le_refl _) W hC h)

set_option maxRecDepth 100000 in
theorem heavy_lifted (os : Os) (started : os.Started) (H : Type) (enc : TypeId × Value → H) :
    ReturnsInHanded {} Try.checked os 9 .any (Rows.fnExactHeaviestFirstSpec.pre6 enc Try.prog Try.f9 Rows.fnExactHeaviestFirstRow.domain false) (Rows.fnExactHeaviestFirstSpec.post enc Try.prog Try.f9 false true false false) := by
  refine returnsInHanded_of_change (C := Try.checked) list_own started (by kernel_rfl) Try.func9
    (ChangeSpec.witness6 (enc := enc) (C := Try.checked) false ⟨#[], #[.slice none 0 0], []⟩ 8 (by kernel_rfl) (by kernel_rfl) (by kernel_rfl) (by kernel_rfl)) ?_
  intro W base args ds gs before hval0 hW hcnd0 _
  have hval : ∀ (j : Nat) t v, Try.f9.params[j]? = some t → args[j]? = some v → Value.okWide Try.prog W .any base t v := hval0
  have hW' := hW
  obtain ⟨p, q, hA0, hV, rfl, hfz, _⟩ := hW
  have hA : DataW.TrodAll enc Try.prog W 0 (fun _ => true) true Try.f9.params.toList args.toList ds p := hA0
  rw [Try.params9] at hA hval
  obtain ⟨v0, d0, rfl, rfl, h0⟩ := trodAll_one hA
  obtain ⟨rfl, rfl⟩ := trodVars_none hV
  obtain ⟨a0, len, cap, rfl⟩ := okWide_slice Try.underlying29 (hval 0 29 v0 rfl rfl)
  clear hA0 hval0 hcnd0
  simp only [List.append_nil] at hW'
  have hlt : ∀ x ∈ p, x.block < W.heap.size := fun x hx => by simpa using hW'.lt x (by simpa using hx)
  obtain ⟨f, hn, hsz, hv⟩ := open_conts h0 hlt
  refine (heavy_walk (.slice a0 len cap) len f hn hsz W hv).mono fun e W' ⟨he, hB⟩ => ?_
  subst he
  refine ⟨_, rfl, _, _, _, [], p, [], hW', ?_, ?_, rfl, hB.frame _, fun h => by cases h⟩
  · exact trodAll_mk1 (shut_bool Try.underlying4 true)
  · exact trodAll_mk1 (Below.trod list_laidOut (by kernel_rfl) (of_decide_eq_true (by kernel_rfl)) h0 hB hlt)

theorem FnExactHeaviestFirst_holds : Rows.FnExactHeaviestFirstSaid :=
  OpenClaim.holds_of_wide 9 Try.f9 rfl rfl rfl rfl rfl rfl rfl ⟨rfl, rfl, rfl, rfl, rfl⟩ rfl rfl rfl rfl rfl (by kernel_rfl) Try.func9 (by kernel_rfl)
    (of_decide_eq_true (by kernel_rfl)) (by unfold Func.isWrapper; first | (rw [if_pos (by decide +kernel)]; kernel_rfl) | (rw [if_neg (by decide +kernel)]; exact ⟨rfl, rfl⟩))
    (fun os started H enc _ => heavy_lifted os started H enc)
#print axioms FnExactHeaviestFirst_holds
end Go.Proofs.Ytpdonhdffniabaa
