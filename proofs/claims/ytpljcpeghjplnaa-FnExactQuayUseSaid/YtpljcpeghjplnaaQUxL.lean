/-
  Proved here: the law FnExactQuayUse returns true at every list and every number, and the lists read afterwards as they read before. There are no conditions.
-/
import Derived.Test.YtpljcpeghjplnaaRows
import Derived.Test.YtpljcpeghjplnaaQUx
import Derived.Test.YtpljcpeghjplnaaYard
import Derived.Test.YtpljcpeghjplnaaLawP
import Derived.WalkKit
import Derived.ProofKit
import Derived.OpenShut
namespace Go.Proofs.Ytpljcpeghjplnaa
open Go.Joins Go.Deep Go.ChangeShapes Go.WideShapes Go.ChangeAt Go.RowKit

theorem newO_Qs {w w' : World} {S : List (Int × Int × Int × Int)} {e : Ending} (h : NewQs w S e w') : ∃ v, e = .returned v ∧ QsO w' w.heap.size w'.heap.size v S ∧ Below w.heap.size w w' := by
  obtain ⟨a, c, rfl, ho, hb⟩ := h
  exact ⟨_, rfl, QsO.of_own ho (Nat.le_refl _), hb⟩
theorem newO_Qb {w w' : World} {S : List (Int × Int)} {e : Ending} (h : NewQb w S e w') : ∃ v, e = .returned v ∧ QbO w' w.heap.size w'.heap.size v S ∧ Below w.heap.size w w' := by
  obtain ⟨a, c, rfl, ho, hb⟩ := h
  exact ⟨_, rfl, QbO.of_own ho (Nat.le_refl _), hb⟩
theorem RetL.ow {w w' : World} {R : List Int} {ok : Bool} {e : Ending} (h : RetL w R ok e w') : ∃ v, e = .returned (.tuple #[v, .bool ok]) ∧ LO w' w.heap.size w'.heap.size v R ∧ Below w.heap.size w w' := by
  obtain ⟨a, c, rfl, ho, hb⟩ := h
  exact ⟨_, rfl, ho, hb⟩

set_option maxRecDepth 100000 in
set_option maxHeartbeats 8000000 in
theorem quayUse_body (n0 : Int) (v1 : Value) (S1 : List (Int × Int × Int × Int)) (v2 : Value) (S2 : List (Int × Int)) (n3 : Int) (R : List Int) (ok : Bool) (hR : R.length ≤ 1000) (hn1 : S1.length ≤ maxLen) (hn2 : S2.length ≤ maxLen) (w : World) (hv1 : QsL w v1 S1) (hv2 : QbL w v2 S2)
    (hspec : S1.length ≤ 1048576 → S2.length ≤ 1048576 → ∀ (u1 : Value) (u2 : Value) (W : World), QsL W u1 S1 → QbL W u2 S2 → Calls Try.prog 29 #[.int .i64 n0, u1, u2, .int .i64 n3] W (RetL W R ok))
    (himpl : S1.length ≤ 1048576 → S2.length ≤ 1048576 → ∀ (u1 : Value) (u2 : Value) (W : World), QsL W u1 S1 → QbL W u2 S2 → Calls Try.prog 28 #[.int .i64 n0, u1, u2, .int .i64 n3] W (RetL W R ok)) :
    Calls Try.prog 10 #[.int .i64 n0, v1, v2, .int .i64 n3] w fun e w' => e = .returned (.bool true) ∧ Below w.heap.size w w' := by
  have HV1 := Lib.hid hv1
  have HV2 := Lib.hid hv2
  have H1 := Lib.hid hspec
  have H2 := Lib.hid himpl
  obtain ⟨a1, c1, rfl⟩ := hv1.form
  obtain ⟨a2, c2, rfl⟩ := hv2.form
  have HR := Lib.hid (show R.length ≤ 1048576 by omega)
  clear hspec himpl hR hv1 hv2
  go_enter Try.func10, Try.ntmps10
  go_wp2_with fail
  refine (szQs_any a1 S1.length c1 1048576 hn1 (by decide) _).mono ?_
  rintro e w1 ⟨rfl, rfl⟩
  by_cases hS1 : S1.length ≤ 1048576
  case neg =>
    rw [if_neg hS1]
    go_wp2_with fail
    go_ret
    exact ⟨rfl, Below.refl _ _⟩
  rw [if_pos hS1]
  have HS1 : Hid (S1.length ≤ 1048576) := Lib.hid (by omega)
  obtain ⟨l1, hl1⟩ : ∃ r : Nat, 1048576 - S1.length = r := ⟨_, rfl⟩
  rw [hl1]
  have hr1 : l1 ≤ 1048576 := by omega
  obtain ⟨m1, hm1⟩ : ∃ m, S1.length = m := ⟨_, rfl⟩
  rw [hm1] at HV1 ⊢
  clear hn1 hm1 hl1 hS1
  go_wp2_with fail
  refine (szQb_any a2 S2.length c2 l1 hn2 hr1 _).mono ?_
  rintro e w1 ⟨rfl, rfl⟩
  by_cases hS2 : S2.length ≤ l1
  case neg =>
    rw [if_neg hS2]
    go_wp2_with fail
    go_ret
    exact ⟨rfl, Below.refl _ _⟩
  rw [if_pos hS2]
  have HS2 : Hid (S2.length ≤ 1048576) := Lib.hid (by omega)
  obtain ⟨l2, hl2⟩ : ∃ r : Nat, l1 - S2.length = r := ⟨_, rfl⟩
  rw [hl2]
  have hr2 : l2 ≤ 1048576 := by omega
  obtain ⟨m2, hm2⟩ : ∃ m, S2.length = m := ⟨_, rfl⟩
  rw [hm2] at HV2 ⊢
  clear hn2 hm2 hl2 hS2
  go_wp2_with fail
  refine (toQs_any _ S1 HS1.out _ HV1.out).mono ?_
  intro e w1 h1
  obtain ⟨s1, rfl, o1, hb1⟩ := h1.read
  clear h1
  have B1 : Hid (Below w.heap.size w w1) := Lib.hid hb1
  have Z1 : Hid (w.heap.size ≤ w1.heap.size) := Lib.hid hb1.size
  clear hb1
  have Fs1 := Lib.hid o1
  clear o1
  go_wp2_with fail
  refine (toQb_any _ S2 HS2.out _ (HV2.out.below B1.out)).mono ?_
  intro e w2 h2
  obtain ⟨s2, rfl, o2, hb2⟩ := h2.read
  clear h2
  have B2 : Hid (Below w.heap.size w w2) := Lib.hid (B1.out.trans (hb2.mono B1.out.size))
  have Z2 : Hid (w1.heap.size ≤ w2.heap.size) := Lib.hid hb2.size
  have Fs1 := Lib.hid (Fs1.out.below hb2)
  clear hb2
  have Fs2 := Lib.hid o2
  clear o2
  go_wp2_with fail
  refine (H1.out HS1.out HS2.out _ _ _ Fs1.out Fs2.out).mono ?_
  intro e w3 h3
  obtain ⟨gw, rfl, o3, hb3⟩ := h3.ow
  clear h3
  have B3 : Hid (Below w.heap.size w w3) := Lib.hid (B2.out.trans (hb3.mono B2.out.size))
  have Z3 : Hid (w2.heap.size ≤ w3.heap.size) := Lib.hid hb3.size
  clear hb3
  clear Fs1
  clear Fs2
  have OW := Lib.hid o3
  clear o3
  go_wp2_with fail
  refine (toQs_any _ S1 HS1.out _ (HV1.out.below B3.out)).mono ?_
  intro e w4 h4
  obtain ⟨x1, rfl, o4, hb4⟩ := newO_Qs h4
  clear h4
  have B4 : Hid (Below w.heap.size w w4) := Lib.hid (B3.out.trans (hb4.mono B3.out.size))
  have Z4 : Hid (w3.heap.size ≤ w4.heap.size) := Lib.hid hb4.size
  have OW := Lib.hid (OW.out.below hb4)
  clear hb4
  have Fx1 := Lib.hid o4
  clear o4
  go_wp2_with fail
  refine (toQb_any _ S2 HS2.out _ (HV2.out.below B4.out)).mono ?_
  intro e w5 h5
  obtain ⟨x2, rfl, o5, hb5⟩ := newO_Qb h5
  clear h5
  have B5 : Hid (Below w.heap.size w w5) := Lib.hid (B4.out.trans (hb5.mono B4.out.size))
  have Z5 : Hid (w4.heap.size ≤ w5.heap.size) := Lib.hid hb5.size
  have OW := Lib.hid (OW.out.below hb5)
  have Fx1 := Lib.hid (Fx1.out.below hb5)
  clear hb5
  have Fx2 := Lib.hid o5
  clear o5
  go_wp2_with fail
  refine (H2.out HS1.out HS2.out _ _ _ Fx1.out.read Fx2.out.read).mono ?_
  intro e w6 h6
  obtain ⟨gg, rfl, o6, hb6⟩ := h6.ow
  clear h6
  have B6 : Hid (Below w.heap.size w w6) := Lib.hid (B5.out.trans (hb6.mono B5.out.size))
  have Z6 : Hid (w5.heap.size ≤ w6.heap.size) := Lib.hid hb6.size
  have OW := Lib.hid (OW.out.below hb6)
  have Fx1 := Lib.hid (Fx1.out.below hb6)
  have Fx2 := Lib.hid (Fx2.out.below hb6)
  clear hb6
  have OG := Lib.hid o6
  clear o6
  go_wp2_with fail
  refine (eqL_any _ _ R HR.out _ OG.out.read OW.out.read).mono ?_
  rintro e w7 ⟨rfl, hb7⟩
  have B7 : Hid (Below w.heap.size w w7) := Lib.hid (B6.out.trans (hb7.mono B6.out.size))
  have Z7 : Hid (w6.heap.size ≤ w7.heap.size) := Lib.hid hb7.size
  have OW := Lib.hid (OW.out.below hb7)
  have Fx1 := Lib.hid (Fx1.out.below hb7)
  have Fx2 := Lib.hid (Fx2.out.below hb7)
  have OG := Lib.hid (OG.out.below hb7)
  clear hb7
  go_wp2_with fail
  refine (toQs_any _ S1 HS1.out _ (HV1.out.below B7.out)).mono ?_
  intro e w8 h8
  obtain ⟨y1, rfl, o8, hb8⟩ := h8.read
  clear h8
  have B8 : Hid (Below w.heap.size w w8) := Lib.hid (B7.out.trans (hb8.mono B7.out.size))
  have Z8 : Hid (w7.heap.size ≤ w8.heap.size) := Lib.hid hb8.size
  have OW := Lib.hid (OW.out.below hb8)
  have Fx1 := Lib.hid (Fx1.out.below hb8)
  have Fx2 := Lib.hid (Fx2.out.below hb8)
  have OG := Lib.hid (OG.out.below hb8)
  clear hb8
  have Fy := Lib.hid o8
  clear o8
  go_wp2_with fail
  refine (eqQs_any _ _ S1 HS1.out _ Fx1.out.read Fy.out).mono ?_
  rintro e w9 ⟨rfl, hb9⟩
  have B9 : Hid (Below w.heap.size w w9) := Lib.hid (B8.out.trans (hb9.mono B8.out.size))
  have Z9 : Hid (w8.heap.size ≤ w9.heap.size) := Lib.hid hb9.size
  have OW := Lib.hid (OW.out.below hb9)
  have Fx1 := Lib.hid (Fx1.out.below hb9)
  have Fx2 := Lib.hid (Fx2.out.below hb9)
  have OG := Lib.hid (OG.out.below hb9)
  clear hb9
  clear Fy
  go_wp2_with fail
  refine (toQb_any _ S2 HS2.out _ (HV2.out.below B9.out)).mono ?_
  intro e w10 h10
  obtain ⟨y2, rfl, o10, hb10⟩ := h10.read
  clear h10
  have B10 : Hid (Below w.heap.size w w10) := Lib.hid (B9.out.trans (hb10.mono B9.out.size))
  have Z10 : Hid (w9.heap.size ≤ w10.heap.size) := Lib.hid hb10.size
  have OW := Lib.hid (OW.out.below hb10)
  have Fx1 := Lib.hid (Fx1.out.below hb10)
  have Fx2 := Lib.hid (Fx2.out.below hb10)
  have OG := Lib.hid (OG.out.below hb10)
  clear hb10
  have Fy := Lib.hid o10
  clear o10
  go_wp2_with fail
  refine (eqQb_any _ _ S2 HS2.out _ Fx2.out.read Fy.out).mono ?_
  rintro e w11 ⟨rfl, hb11⟩
  have B11 : Hid (Below w.heap.size w w11) := Lib.hid (B10.out.trans (hb11.mono B10.out.size))
  have Z11 : Hid (w10.heap.size ≤ w11.heap.size) := Lib.hid hb11.size
  have OW := Lib.hid (OW.out.below hb11)
  have Fx1 := Lib.hid (Fx1.out.below hb11)
  have Fx2 := Lib.hid (Fx2.out.below hb11)
  have OG := Lib.hid (OG.out.below hb11)
  clear hb11
  clear Fy
  go_wp2_with fail
  refine (markQs_any _ S1 (1) _ _ HS1.out (by omega) (by have q1 := HS1.out; have q2 := HS2.out; omega) _ Fx1.out).mono ?_
  rintro e w12 ⟨rfl, -, hs12⟩
  have Z12 : Hid (w11.heap.size ≤ w12.heap.size) := Lib.hid hs12.size
  have B12 : Hid (Below w.heap.size w w12) := Lib.hid (Below.span B11.out (hs12.lift (Nat.le_trans (Nat.le_trans Z1.out Z2.out) Z3.out)) B11.out.size)
  have OW := Lib.hid (OW.out.span hs12 (.inl (Nat.le_refl _)))
  have Fx2 := Lib.hid (Fx2.out.span hs12 (.inr (Nat.le_refl _)))
  have OG := Lib.hid (OG.out.span hs12 (.inr Z5.out))
  clear hs12
  clear Fx1
  go_wp2_with fail
  refine (markQb_any _ S2 (1 + 4 * (S1.length : Int)) _ _ HS2.out (by omega) (by have q1 := HS1.out; have q2 := HS2.out; omega) _ Fx2.out).mono ?_
  rintro e w13 ⟨rfl, -, hs13⟩
  have Z13 : Hid (w12.heap.size ≤ w13.heap.size) := Lib.hid hs13.size
  have B13 : Hid (Below w.heap.size w w13) := Lib.hid (Below.span B12.out (hs13.lift (Nat.le_trans (Nat.le_trans (Nat.le_trans Z1.out Z2.out) Z3.out) Z4.out)) B12.out.size)
  have OW := Lib.hid (OW.out.span hs13 (.inl Z4.out))
  have OG := Lib.hid (OG.out.span hs13 (.inr (Nat.le_refl _)))
  clear hs13
  clear Fx2
  go_wp2_with fail
  refine (eqL_any _ _ R HR.out _ OG.out.read OW.out.read).mono ?_
  rintro e w14 ⟨rfl, hb14⟩
  have B14 : Hid (Below w.heap.size w w14) := Lib.hid (B13.out.trans (hb14.mono B13.out.size))
  have Z14 : Hid (w13.heap.size ≤ w14.heap.size) := Lib.hid hb14.size
  have OW := Lib.hid (OW.out.below hb14)
  have OG := Lib.hid (OG.out.below hb14)
  clear hb14
  go_wp2_with fail
  refine (markL_wide _ R 1 _ _ HR.out (by decide) (by decide) _ OG.out).mono ?_
  rintro e w15 ⟨rfl, o15, hs15⟩
  have Z15 : Hid (w14.heap.size ≤ w15.heap.size) := Lib.hid hs15.size
  have B15 : Hid (Below w.heap.size w w15) := Lib.hid (Below.span B14.out (hs15.lift (Nat.le_trans (Nat.le_trans (Nat.le_trans (Nat.le_trans Z1.out Z2.out) Z3.out) Z4.out) Z5.out)) B14.out.size)
  have OW := Lib.hid (OW.out.span hs15 (.inl (Nat.le_trans Z4.out Z5.out)))
  clear hs15
  have OG := Lib.hid o15
  clear o15
  go_wp2_with fail
  refine (heldL_wide _ R.length 1 HR.out (by decide) (by decide) _ OG.out.read).mono ?_
  rintro e w16 ⟨rfl, hb16⟩
  have B16 : Hid (Below w.heap.size w w16) := Lib.hid (B15.out.trans (hb16.mono B15.out.size))
  have Z16 : Hid (w15.heap.size ≤ w16.heap.size) := Lib.hid hb16.size
  have OW := Lib.hid (OW.out.below hb16)
  have OG := Lib.hid (OG.out.below hb16)
  clear hb16
  go_wp2_with fail
  refine (toQs_any _ S1 HS1.out _ (HV1.out.below B16.out)).mono ?_
  intro e w17 h17
  obtain ⟨t1, rfl, o17, hb17⟩ := h17.read
  clear h17
  have B17 : Hid (Below w.heap.size w w17) := Lib.hid (B16.out.trans (hb17.mono B16.out.size))
  have Z17 : Hid (w16.heap.size ≤ w17.heap.size) := Lib.hid hb17.size
  have OW := Lib.hid (OW.out.below hb17)
  have OG := Lib.hid (OG.out.below hb17)
  clear hb17
  have Ft1 := Lib.hid o17
  clear o17
  go_wp2_with fail
  refine (toQb_any _ S2 HS2.out _ (HV2.out.below B17.out)).mono ?_
  intro e w18 h18
  obtain ⟨t2, rfl, o18, hb18⟩ := h18.read
  clear h18
  have B18 : Hid (Below w.heap.size w w18) := Lib.hid (B17.out.trans (hb18.mono B17.out.size))
  have Z18 : Hid (w17.heap.size ≤ w18.heap.size) := Lib.hid hb18.size
  have OW := Lib.hid (OW.out.below hb18)
  have OG := Lib.hid (OG.out.below hb18)
  have Ft1 := Lib.hid (Ft1.out.below hb18)
  clear hb18
  have Ft2 := Lib.hid o18
  clear o18
  go_wp2_with fail
  refine (H2.out HS1.out HS2.out _ _ _ Ft1.out Ft2.out).mono ?_
  intro e w19 h19
  obtain ⟨gh, rfl, o19, hb19⟩ := h19.ow
  clear h19
  have B19 : Hid (Below w.heap.size w w19) := Lib.hid (B18.out.trans (hb19.mono B18.out.size))
  have Z19 : Hid (w18.heap.size ≤ w19.heap.size) := Lib.hid hb19.size
  have OW := Lib.hid (OW.out.below hb19)
  have OG := Lib.hid (OG.out.below hb19)
  clear hb19
  clear Ft1
  clear Ft2
  have OH := Lib.hid o19
  clear o19
  go_wp2_with fail
  refine (eqL_any _ _ R HR.out _ OH.out.read OW.out.read).mono ?_
  rintro e w20 ⟨rfl, hb20⟩
  have B20 : Hid (Below w.heap.size w w20) := Lib.hid (B19.out.trans (hb20.mono B19.out.size))
  have Z20 : Hid (w19.heap.size ≤ w20.heap.size) := Lib.hid hb20.size
  have OW := Lib.hid (OW.out.below hb20)
  have OG := Lib.hid (OG.out.below hb20)
  have OH := Lib.hid (OH.out.below hb20)
  clear hb20
  go_wp2_with fail
  refine (heldL_wide _ R.length 1 HR.out (by decide) (by decide) _ OG.out.read).mono ?_
  rintro e w21 ⟨rfl, hb21⟩
  have B21 : Hid (Below w.heap.size w w21) := Lib.hid (B20.out.trans (hb21.mono B20.out.size))
  have Z21 : Hid (w20.heap.size ≤ w21.heap.size) := Lib.hid hb21.size
  have OW := Lib.hid (OW.out.below hb21)
  have OG := Lib.hid (OG.out.below hb21)
  have OH := Lib.hid (OH.out.below hb21)
  clear hb21
  go_wp2_with fail
  go_ret
  exact ⟨rfl, B21.out⟩

set_option maxRecDepth 100000 in
theorem quayUse_lifted (os : Os) (started : os.Started) (H : Type) (enc : TypeId × Value → H) :
    ReturnsInHanded {} Try.checked os 10 .any (Rows.fnExactQuayUseSpec.pre6 enc Try.prog Try.f10 Rows.fnExactQuayUseRow.domain false) (Rows.fnExactQuayUseSpec.post enc Try.prog Try.f10 false true false false) := by
  refine returnsInHanded_of_change (C := Try.checked) yard_own started (by kernel_rfl) Try.func10
    (ChangeSpec.witness6 (enc := enc) (C := Try.checked) false ⟨#[], #[.int .i64 0, .slice none 0 0, .slice none 0 0, .int .i64 0], []⟩ 8 (by kernel_rfl) (by kernel_rfl) (by kernel_rfl) (by kernel_rfl)) ?_
  intro W base args ds gs before hval0 hW hcnd0 _
  have hval : ∀ (j : Nat) t v, Try.f10.params[j]? = some t → args[j]? = some v → Value.okWide Try.prog W .any base t v := hval0
  have hW' := hW
  obtain ⟨p, q, hA0, hV, rfl, hfz, _⟩ := hW
  have hA : DataW.TrodAll enc Try.prog W 0 (fun _ => true) true Try.f10.params.toList args.toList ds p := hA0
  rw [Try.params10] at hA hval
  obtain ⟨v0, v1, v2, v3, d0, d1, d2, d3, p0, p1, p2, p3, rfl, rfl, rfl, h0, h1, h2, h3⟩ := trodAll_four hA
  obtain ⟨rfl, rfl⟩ := trodVars_none hV
  obtain ⟨n0, rfl, rfl, rfl, wn0⟩ := open_int Try.underlying3 (hval 0 3 v0 rfl rfl) h0
  obtain ⟨a1, len1, cap1, rfl⟩ := okWide_slice Try.underlying51 (hval 1 51 v1 rfl rfl)
  obtain ⟨a2, len2, cap2, rfl⟩ := okWide_slice Try.underlying52 (hval 2 52 v2 rfl rfl)
  obtain ⟨n3, rfl, rfl, rfl, wn3⟩ := open_int Try.underlying3 (hval 3 3 v3 rfl rfl) h3
  clear hA0 hval0 hcnd0
  simp only [List.append_nil, List.nil_append] at hW'
  have hlt1 : ∀ x ∈ p1, x.block < W.heap.size := fun x hx => hW'.lt x (by simp [hx])
  obtain ⟨S1, hn1, hv1⟩ := openQs h1 hlt1
  have hlt2 : ∀ x ∈ p2, x.block < W.heap.size := fun x hx => hW'.lt x (by simp [hx])
  obtain ⟨S2, hn2, hv2⟩ := openQb h2 hlt2
  refine (quayUse_body n0 (.slice a1 len1 cap1) S1 (.slice a2 len2 cap2) S2 n3 _ _ (useR_len n0 S1 S2 n3) hn1 hn2 W hv1 hv2 (fun g1 g2 u1 u2 W k1 k2 => specQu_any n0 u1 u2 n3 S1 S2 g1 g2 W k1 k2) (fun g1 g2 u1 u2 W k1 k2 => implQu_any n0 u1 u2 n3 S1 S2 g1 g2 W k1 k2)).mono fun e W' ⟨he, hB⟩ => ?_
  subst he
  refine ⟨_, rfl, _, _, _, [], p1 ++ p2, [], hW', ?_, ?_, rfl, hB.frame _, fun h => by cases h⟩
  · exact trodAll_mk1 (shut_bool Try.underlying4 true)
  · have h9 := trodAll_mk4 (shut_int Try.underlying3 wn0) (Below.trod yard_laidOut (by kernel_rfl) (of_decide_eq_true (by kernel_rfl)) h1 hB hlt1) (Below.trod yard_laidOut (by kernel_rfl) (of_decide_eq_true (by kernel_rfl)) h2 hB hlt2) (shut_int Try.underlying3 wn3)
    first
      | exact h9
      | (simp only [List.append_nil, List.nil_append] at h9; exact h9)

theorem FnExactQuayUse_holds : Rows.FnExactQuayUseSaid :=
  OpenClaim.holds_of_wide 10 Try.f10 rfl rfl rfl rfl rfl rfl rfl ⟨rfl, rfl, rfl, rfl, rfl⟩ rfl rfl rfl rfl rfl (by kernel_rfl) Try.func10 (by kernel_rfl)
    (of_decide_eq_true (by kernel_rfl)) (by unfold Func.isWrapper; first | (rw [if_pos (by decide +kernel)]; kernel_rfl) | (rw [if_neg (by decide +kernel)]; exact ⟨rfl, rfl⟩))
    (fun os started H enc _ => quayUse_lifted os started H enc)
#print axioms FnExactQuayUse_holds
end Go.Proofs.Ytpljcpeghjplnaa
