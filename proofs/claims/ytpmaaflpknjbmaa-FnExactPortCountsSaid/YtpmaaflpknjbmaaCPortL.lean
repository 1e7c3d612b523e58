/-
  Proved here: the law FnExactPortCounts returns true at every list of containers, and it reads afterwards as it read before. There are no conditions.
-/
import Derived.Test.YtpmaaflpknjbmaaRows
import Derived.Test.YtpmaaflpknjbmaaCOpen
import Derived.Test.YtpmaaflpknjbmaaCLawK
import Derived.Test.YtpmaaflpknjbmaaCLawH
import Derived.Test.YtpmaaflpknjbmaaCPairsM
import Derived.Test.YtpmaaflpknjbmaaCPortI
import Derived.WalkKit
import Derived.ProofKit
import Derived.OpenShut
namespace Go.Proofs.Ytpmaaflpknjbmaa
open Go.Proofs.Ytpmaaflpknjbmaa.C
open Go.Joins Go.Deep Go.ChangeShapes Go.WideShapes Go.ChangeAt Go.RowKit

/-- The results of the call's own were answered, each in a block of its own. -/
def portV (w : World) (m0 : Nat) (h0 : Nat → Int × Int) (ok : Bool) (e : Ending) (W : World) : Prop :=
  ∃ u0, e = .returned (.tuple #[u0, .bool ok]) ∧ PV W u0 m0 h0 ∧ (∀ j, u0.ownBlock = some j → w.heap.size ≤ j ∧ j < W.heap.size) ∧ Below w.heap.size w W

set_option maxRecDepth 100000 in
set_option maxHeartbeats 8000000 in
theorem portLaw (v0 : Value) (n0 : Nat) (f0 : Nat → Cont) (m0 : Nat) (h0 : Nat → Int × Int) (ok : Bool) (hm0 : m0 ≤ 1000) (hn0 : n0 ≤ maxLen) (hz0 : ∀ j, j < n0 → (f0 j).id.size ≤ maxLen) (w : World) (hv0 : ArgC w v0 n0 f0)
    (hspec : n0 ≤ 1048576 → (∀ j, j < n0 → (f0 j).id.size ≤ 1048576) → ∀ g0 W, CAt W g0 0 n0 f0 → Calls Try.prog 8 #[.slice (some ⟨g0, 0, none⟩) n0 n0] W (portV W m0 h0 ok))
    (himpl : n0 ≤ 1048576 → (∀ j, j < n0 → (f0 j).id.size ≤ 1048576) → ∀ g0 W, CAt W g0 0 n0 f0 → Calls Try.prog 10 #[.slice (some ⟨g0, 0, none⟩) n0 n0] W (portV W m0 h0 ok)) :
    Calls Try.prog 3 #[v0] w fun e w' => e = .returned (.bool true) ∧ Below w.heap.size w w' := by
  have HZ0 := Lib.hid hz0
  have HV0 := Lib.hid hv0
  have HSP := Lib.hid hspec
  have HIM := Lib.hid himpl
  clear hspec himpl hz0 hv0
  go_enter Try.func3, Try.ntmps3
  go_wp2_with fail
  refine (szL_any v0 n0 1048576 f0 (by omega) hn0 HZ0.out _ HV0.out).mono ?_
  rintro e w1 ⟨hb, rfl | ⟨r0, rfl, hr0, hs0, hf⟩⟩
  · have B := Lib.hid hb
    clear hb
    go_wp2_with fail
    go_ret
    exact ⟨rfl, B.out⟩
  · have HF0 := Lib.hid hf
    have B := Lib.hid hb
    clear hb hf
    go_wp2_with fail
    refine (toC_any v0 n0 f0 hs0 _ (HV0.out.below B.out)).mono ?_
    rintro e w2 ⟨rfl, hc, hb, hk⟩
    have C0 := Lib.hid hc
    have B : Hid (Below w.heap.size w w2) := Lib.hid (B.out.trans (hb.mono B.out.size))
    clear hb hc hk
    go_wp2_with fail
    refine (HSP.out hs0 HF0.out _ _ C0.out).mono ?_
    rintro e w3 ⟨a0, rfl, hr0, hl, hb⟩
    have A0 := Lib.hid hr0
    have LA := Lib.hid hl
    have B : Hid (Below w.heap.size w w3) := Lib.hid (B.out.trans (hb.mono B.out.size))
    clear hb hl hr0 
    have BS := B
    go_wp2_with fail
    refine (toC_any v0 n0 f0 hs0 _ (HV0.out.below B.out)).mono ?_
    rintro e w4 ⟨rfl, hc, hb, hk⟩
    have A0 := Lib.hid (A0.out.below hb)
    have X0 := Lib.hid (cv_of_copy hc hk)
    have C0 := Lib.hid hc
    have SX0 := hc.1
    have B : Hid (Below w.heap.size w w4) := Lib.hid (B.out.trans (hb.mono B.out.size))
    clear hb hc hk
    go_wp2_with fail
    refine (HIM.out hs0 HF0.out _ _ C0.out).mono ?_
    rintro e w5 ⟨u0, rfl, hr0, hl, hb⟩
    have A0 := Lib.hid (A0.out.below hb)
    have X0 := Lib.hid (X0.out.below hb)
    have U0 := Lib.hid hr0
    have LU := Lib.hid hl
    have B : Hid (Below w.heap.size w w5) := Lib.hid (B.out.trans (hb.mono B.out.size))
    clear hb hl hr0 
    go_wp2_with fail
    refine (eqP_any u0 a0 m0 h0 (by omega) _ U0.out A0.out).mono ?_
    rintro e w6 ⟨rfl, hb⟩
    have A0 := Lib.hid (A0.out.below hb)
    have X0 := Lib.hid (X0.out.below hb)
    have U0 := Lib.hid (U0.out.below hb)
    have B : Hid (Below w.heap.size w w6) := Lib.hid (B.out.trans (hb.mono B.out.size))
    clear hb
    go_wp2_with fail
    refine (toC_any v0 n0 f0 hs0 _ (HV0.out.below B.out)).mono ?_
    rintro e w7 ⟨rfl, hc, hb, hk⟩
    have A0 := Lib.hid (A0.out.below hb)
    have X0 := Lib.hid (X0.out.below hb)
    have U0 := Lib.hid (U0.out.below hb)
    have Y := Lib.hid (cv_of_copy hc hk)
    have C0 := Lib.hid hc
    have SY := hc.1
    have B : Hid (Below w.heap.size w w7) := Lib.hid (B.out.trans (hb.mono B.out.size))
    clear hb hc hk
    go_wp2_with fail
    refine (eqC_any _ _ n0 f0 hs0 _ X0.out Y.out).mono ?_
    rintro e w8 ⟨rfl, hb⟩
    have A0 := Lib.hid (A0.out.below hb)
    have X0 := Lib.hid (X0.out.below hb)
    have U0 := Lib.hid (U0.out.below hb)
    have B : Hid (Below w.heap.size w w8) := Lib.hid (B.out.trans (hb.mono B.out.size))
    clear hb Y SY
    go_wp2_with fail
    refine (markC_int _ n0 f0 _ hs0 (by omega) (by omega) _ X0.out).mono ?_
    rintro e w9 ⟨rfl, -, hg⟩
    have A0 := Lib.hid (A0.out.kept hg (fun j hj e => by have := (LA.out j hj).2; have := own_is e; omega))
    have U0 := Lib.hid (U0.out.kept hg (fun j hj e => by have := (LU.out j hj).1; have := own_is e; omega))
    have B : Hid (Below w.heap.size w w9) := Lib.hid (B.out.grown hg B.out.size (fun j e => by have := own_is e.symm; have := BS.out.size; omega))
    clear hg X0
    go_wp2_with fail
    refine (eqP_any u0 a0 m0 h0 (by omega) _ U0.out A0.out).mono ?_
    rintro e w10 ⟨rfl, hb⟩
    have A0 := Lib.hid (A0.out.below hb)
    have U0 := Lib.hid (U0.out.below hb)
    have B : Hid (Below w.heap.size w w10) := Lib.hid (B.out.trans (hb.mono B.out.size))
    clear hb
    go_wp2_with fail
    refine (markP_int u0 m0 h0 _ (by omega) (by omega) (by omega) _ U0.out).mono ?_
    rintro e w11 ⟨rfl, hm, hg⟩
    have A0 := Lib.hid (A0.out.kept hg (fun j hj e => by have := (LA.out j hj).2; have := (LU.out j e.symm).1; omega))
    have B : Hid (Below w.heap.size w w11) := Lib.hid (B.out.grown hg B.out.size (fun j e => by have := (LU.out j e).1; have := BS.out.size; omega))
    have M0 := Lib.hid hm
    clear hg hm U0
    go_wp2_with fail
    refine (heldP_int u0 m0 _ (by omega) (by omega) (by omega) _ M0.out).mono ?_
    rintro e w12 ⟨rfl, hb⟩
    have A0 := Lib.hid (A0.out.below hb)
    have M0 := Lib.hid (M0.out.below hb)
    have B : Hid (Below w.heap.size w w12) := Lib.hid (B.out.trans (hb.mono B.out.size))
    clear hb
    go_wp2_with fail
    refine (toC_any v0 n0 f0 hs0 _ (HV0.out.below B.out)).mono ?_
    rintro e w13 ⟨rfl, hc, hb, hk⟩
    have A0 := Lib.hid (A0.out.below hb)
    have M0 := Lib.hid (M0.out.below hb)
    have C0 := Lib.hid hc
    have B : Hid (Below w.heap.size w w13) := Lib.hid (B.out.trans (hb.mono B.out.size))
    clear hb hc hk
    go_wp2_with fail
    refine (HIM.out hs0 HF0.out _ _ C0.out).mono ?_
    rintro e w14 ⟨z0, rfl, hr0, hl, hb⟩
    have A0 := Lib.hid (A0.out.below hb)
    have M0 := Lib.hid (M0.out.below hb)
    have Z0 := Lib.hid hr0
    have LZ := Lib.hid hl
    have B : Hid (Below w.heap.size w w14) := Lib.hid (B.out.trans (hb.mono B.out.size))
    clear hb hl hr0 
    go_wp2_with fail
    refine (eqP_any z0 a0 m0 h0 (by omega) _ Z0.out A0.out).mono ?_
    rintro e w15 ⟨rfl, hb⟩
    have M0 := Lib.hid (M0.out.below hb)
    have B : Hid (Below w.heap.size w w15) := Lib.hid (B.out.trans (hb.mono B.out.size))
    clear hb
    go_wp2_with fail
    refine (heldP_int u0 m0 _ (by omega) (by omega) (by omega) _ M0.out).mono ?_
    rintro e w16 ⟨rfl, hb⟩
    have B : Hid (Below w.heap.size w w16) := Lib.hid (B.out.trans (hb.mono B.out.size))
    clear hb
    go_wp2_with fail
    go_ret
    exact ⟨rfl, B.out⟩

theorem portV_of (w : World) (l : List (Int × Int)) (ok : Bool) (e : Ending) (W : World) (h : OneP w l ok e W) : portV w l.length (fun j => l[j]!) ok e W := by
  obtain ⟨v, he, r, hb⟩ := h
  exact ⟨v, he, pv_of_row r, fun j hj => ⟨row_base r j hj, row_lt r j hj⟩, hb⟩
theorem port_walk (v0 : Value) (n0 : Nat) (f0 : Nat → Cont) (hn0 : n0 ≤ maxLen) (hz0 : ∀ j, j < n0 → (f0 j).id.size ≤ maxLen) (w : World) (hv0 : ArgC w v0 n0 f0) :
    Calls Try.prog 3 #[v0] w fun e w' => e = .returned (.bool true) ∧ Below w.heap.size w w' := by
  cases hA : listB n0 f0 with
  | false =>
    exact portLaw v0 n0 f0 0 (fun j => ([] : List (Int × Int))[j]!) false (by omega) hn0 hz0 w hv0
      (fun h0 k0 g0 W c0 => (specPort_no g0 n0 n0 f0 h0 k0 W c0 hA).mono fun e W' he => portV_of W [] false e W' he)
      (fun h0 k0 g0 W c0 => (implPort_no g0 n0 n0 f0 h0 k0 (Nat.le_refl _) W c0 hA).mono fun e W' he => portV_of W [] false e W' he)
  | true =>
    have hl := pcL_len f0 n0 9
    exact portLaw v0 n0 f0 (pcL f0 n0 9).length (fun j => (pcL f0 n0 9)[j]!) true (by omega) hn0 hz0 w hv0
      (fun h0 k0 g0 W c0 => (specPort_yes g0 n0 n0 f0 h0 k0 W c0 hA).mono fun e W' he => portV_of W _ true e W' he)
      (fun h0 k0 g0 W c0 => (implPort_yes g0 n0 n0 f0 h0 k0 (Nat.le_refl _) W c0 hA).mono fun e W' he => portV_of W _ true e W' he)

set_option maxRecDepth 100000 in
theorem port_lifted (os : Os) (started : os.Started) (H : Type) (enc : TypeId × Value → H) :
    ReturnsInHanded {} Try.checked os 3 .any (Rows.fnExactPortCountsSpec.pre6 enc Try.prog Try.f3 Rows.fnExactPortCountsRow.domain false) (Rows.fnExactPortCountsSpec.post enc Try.prog Try.f3 false true false false) := by
  refine returnsInHanded_of_change (C := Try.checked) list_own started (by kernel_rfl) Try.func3
    (ChangeSpec.witness6 (enc := enc) (C := Try.checked) false ⟨#[], #[.slice none 0 0], []⟩ 8 (by kernel_rfl) (by kernel_rfl) (by kernel_rfl) (by kernel_rfl)) ?_
  intro W base args ds gs before hval0 hW hcnd0 _
  have hval : ∀ (j : Nat) t v, Try.f3.params[j]? = some t → args[j]? = some v → Value.okWide Try.prog W .any base t v := hval0
  have hW' := hW
  obtain ⟨p, q, hA0, hV, rfl, hfz, _⟩ := hW
  have hA : DataW.TrodAll enc Try.prog W 0 (fun _ => true) true Try.f3.params.toList args.toList ds p := hA0
  rw [Try.params3] at hA hval
  obtain ⟨v0, d0, rfl, rfl, h0⟩ := trodAll_one hA
  obtain ⟨rfl, rfl⟩ := trodVars_none hV
  obtain ⟨a0, l0, c0, rfl⟩ := okWide_slice Try.underlying22 (hval 0 22 v0 rfl rfl)
  clear hA0 hval0 hcnd0
  simp only [List.append_nil] at hW'
  have hlt0 : ∀ x ∈ p, x.block < W.heap.size := fun x hx => by simpa using hW'.lt x (by simpa using hx)
  obtain ⟨f0, hn0, hz0, hv0⟩ := open_conts h0 hlt0
  refine (port_walk (.slice a0 l0 c0) l0 f0  hn0 hz0 W hv0).mono fun e W' ⟨he, hB⟩ => ?_
  subst he
  refine ⟨_, rfl, _, _, _, [], p, [], hW', ?_, ?_, rfl, hB.frame _, fun h => by cases h⟩
  · exact trodAll_mk1 (shut_bool Try.underlying4 true)
  · exact trodAll_mk1 (Below.trod list_laidOut (by kernel_rfl) (of_decide_eq_true (by kernel_rfl)) h0 hB hlt0)

theorem FnExactPortCounts_holds : Rows.FnExactPortCountsSaid :=
  OpenClaim.holds_of_wide 3 Try.f3 rfl rfl rfl rfl rfl rfl rfl ⟨rfl, rfl, rfl, rfl, rfl⟩ rfl rfl rfl rfl rfl (by kernel_rfl) Try.func3 (by kernel_rfl)
    (of_decide_eq_true (by kernel_rfl)) (by unfold Func.isWrapper; first | (rw [if_pos (by decide +kernel)]; kernel_rfl) | (rw [if_neg (by decide +kernel)]; exact ⟨rfl, rfl⟩))
    (fun os started H enc _ => port_lifted os started H enc)
#print axioms FnExactPortCounts_holds
end Go.Proofs.Ytpmaaflpknjbmaa
