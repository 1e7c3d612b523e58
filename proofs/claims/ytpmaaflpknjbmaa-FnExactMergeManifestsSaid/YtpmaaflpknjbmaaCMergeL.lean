/-
  Proved here: the law FnExactMergeManifests returns true at every two lists of containers, and both read afterwards as they read before. There are no conditions.
-/
import Derived.Test.YtpmaaflpknjbmaaRows
import Derived.Test.YtpmaaflpknjbmaaCOpen
import Derived.Test.YtpmaaflpknjbmaaCLawK
import Derived.Test.YtpmaaflpknjbmaaCLawH
import Derived.Test.YtpmaaflpknjbmaaCMergeI
import Derived.WalkKit
import Derived.ProofKit
import Derived.OpenShut
namespace Go.Proofs.Ytpmaaflpknjbmaa
open Go.Proofs.Ytpmaaflpknjbmaa.C
open Go.Joins Go.Deep Go.ChangeShapes Go.WideShapes Go.ChangeAt Go.RowKit

/-- The results of the call's own were answered, each in a block of its own. -/
def mergeV (w : World) (m0 : Nat) (h0 : Nat → Cont) (ok : Bool) (e : Ending) (W : World) : Prop :=
  ∃ u0, e = .returned (.tuple #[u0, .bool ok]) ∧ CV W u0 m0 h0 ∧ (∀ j, u0.ownBlock = some j → w.heap.size ≤ j ∧ j < W.heap.size) ∧ Below w.heap.size w W

set_option maxRecDepth 100000 in
set_option maxHeartbeats 8000000 in
theorem mergeLaw (v0 v1 : Value) (n0 n1 : Nat) (f0 f1 : Nat → Cont) (m0 : Nat) (h0 : Nat → Cont) (ok : Bool) (hm0 : m0 ≤ 1000) (hn0 : n0 ≤ maxLen) (hz0 : ∀ j, j < n0 → (f0 j).id.size ≤ maxLen) (hn1 : n1 ≤ maxLen) (hz1 : ∀ j, j < n1 → (f1 j).id.size ≤ maxLen) (w : World) (hv0 : ArgC w v0 n0 f0) (hv1 : ArgC w v1 n1 f1)
    (hspec : n0 ≤ 1048576 → (∀ j, j < n0 → (f0 j).id.size ≤ 1048576) → n1 ≤ 1048576 → (∀ j, j < n1 → (f1 j).id.size ≤ 1048576) → ∀ g0 g1 W, CAt W g0 0 n0 f0 → CAt W g1 0 n1 f1 → Calls Try.prog 21 #[.slice (some ⟨g0, 0, none⟩) n0 n0, .slice (some ⟨g1, 0, none⟩) n1 n1] W (mergeV W m0 h0 ok))
    (himpl : n0 ≤ 1048576 → (∀ j, j < n0 → (f0 j).id.size ≤ 1048576) → n1 ≤ 1048576 → (∀ j, j < n1 → (f1 j).id.size ≤ 1048576) → ∀ g0 g1 W, CAt W g0 0 n0 f0 → CAt W g1 0 n1 f1 → Calls Try.prog 22 #[.slice (some ⟨g0, 0, none⟩) n0 n0, .slice (some ⟨g1, 0, none⟩) n1 n1] W (mergeV W m0 h0 ok)) :
    Calls Try.prog 5 #[v0, v1] w fun e w' => e = .returned (.bool true) ∧ Below w.heap.size w w' := by
  have HZ0 := Lib.hid hz0
  have HV0 := Lib.hid hv0
  have HZ1 := Lib.hid hz1
  have HV1 := Lib.hid hv1
  have HSP := Lib.hid hspec
  have HIM := Lib.hid himpl
  clear hspec himpl hz0 hv0 hz1 hv1
  go_enter Try.func5, Try.ntmps5
  go_wp2_with fail
  refine (szL_any v0 n0 1048576 f0 (by omega) hn0 HZ0.out _ HV0.out).mono ?_
  rintro e w1 ⟨hb, rfl | ⟨r0, rfl, hr0, hs0, hf⟩⟩
  · have B := Lib.hid hb
    clear hb
    go_wp2_with fail
    go_ret
    exact ⟨rfl, B.out⟩
  · have HF0 := Lib.hid hf
    have B := Lib.hid hb
    clear hb hf
    go_wp2_with fail
    refine (szL_any v1 n1 r0 f1 (by omega) hn1 HZ1.out _ (HV1.out.below B.out)).mono ?_
    rintro e w2 ⟨hb, rfl | ⟨r1, rfl, hr1, hs1, hf⟩⟩
    · have B : Hid (Below w.heap.size w w2) := Lib.hid (B.out.trans (hb.mono B.out.size))
      clear hb
      go_wp2_with fail
      go_ret
      exact ⟨rfl, B.out⟩
    · have HF1 := Lib.hid hf
      have B : Hid (Below w.heap.size w w2) := Lib.hid (B.out.trans (hb.mono B.out.size))
      clear hb hf
      go_wp2_with fail
      refine (toC_any v0 n0 f0 hs0 _ (HV0.out.below B.out)).mono ?_
      rintro e w3 ⟨rfl, hc, hb, hk⟩
      have C0 := Lib.hid hc
      have B : Hid (Below w.heap.size w w3) := Lib.hid (B.out.trans (hb.mono B.out.size))
      clear hb hc hk
      go_wp2_with fail
      refine (toC_any v1 n1 f1 hs1 _ (HV1.out.below B.out)).mono ?_
      rintro e w4 ⟨rfl, hc, hb, hk⟩
      have C0 := Lib.hid (C0.out.below hb)
      have C1 := Lib.hid hc
      have B : Hid (Below w.heap.size w w4) := Lib.hid (B.out.trans (hb.mono B.out.size))
      clear hb hc hk
      go_wp2_with fail
      refine (HSP.out hs0 HF0.out hs1 HF1.out _ _ _ C0.out C1.out).mono ?_
      rintro e w5 ⟨a0, rfl, hr0, hl, hb⟩
      have A0 := Lib.hid hr0
      have LA := Lib.hid hl
      have B : Hid (Below w.heap.size w w5) := Lib.hid (B.out.trans (hb.mono B.out.size))
      clear hb hl hr0 
      have BS := B
      go_wp2_with fail
      refine (toC_any v0 n0 f0 hs0 _ (HV0.out.below B.out)).mono ?_
      rintro e w6 ⟨rfl, hc, hb, hk⟩
      have A0 := Lib.hid (A0.out.below hb)
      have X0 := Lib.hid (cv_of_copy hc hk)
      have C0 := Lib.hid hc
      have SX0 := hc.1
      have B : Hid (Below w.heap.size w w6) := Lib.hid (B.out.trans (hb.mono B.out.size))
      clear hb hc hk
      go_wp2_with fail
      refine (toC_any v1 n1 f1 hs1 _ (HV1.out.below B.out)).mono ?_
      rintro e w7 ⟨rfl, hc, hb, hk⟩
      have A0 := Lib.hid (A0.out.below hb)
      have C0 := Lib.hid (C0.out.below hb)
      have X0 := Lib.hid (X0.out.below hb)
      have X1 := Lib.hid (cv_of_copy hc hk)
      have C1 := Lib.hid hc
      have SX1 := hc.1
      have B : Hid (Below w.heap.size w w7) := Lib.hid (B.out.trans (hb.mono B.out.size))
      clear hb hc hk
      go_wp2_with fail
      refine (HIM.out hs0 HF0.out hs1 HF1.out _ _ _ C0.out C1.out).mono ?_
      rintro e w8 ⟨u0, rfl, hr0, hl, hb⟩
      have A0 := Lib.hid (A0.out.below hb)
      have X0 := Lib.hid (X0.out.below hb)
      have X1 := Lib.hid (X1.out.below hb)
      have U0 := Lib.hid hr0
      have LU := Lib.hid hl
      have B : Hid (Below w.heap.size w w8) := Lib.hid (B.out.trans (hb.mono B.out.size))
      clear hb hl hr0 
      go_wp2_with fail
      refine (eqC_any u0 a0 m0 h0 (by omega) _ U0.out A0.out).mono ?_
      rintro e w9 ⟨rfl, hb⟩
      have A0 := Lib.hid (A0.out.below hb)
      have X0 := Lib.hid (X0.out.below hb)
      have X1 := Lib.hid (X1.out.below hb)
      have U0 := Lib.hid (U0.out.below hb)
      have B : Hid (Below w.heap.size w w9) := Lib.hid (B.out.trans (hb.mono B.out.size))
      clear hb
      go_wp2_with fail
      refine (toC_any v0 n0 f0 hs0 _ (HV0.out.below B.out)).mono ?_
      rintro e w10 ⟨rfl, hc, hb, hk⟩
      have A0 := Lib.hid (A0.out.below hb)
      have X0 := Lib.hid (X0.out.below hb)
      have X1 := Lib.hid (X1.out.below hb)
      have U0 := Lib.hid (U0.out.below hb)
      have Y := Lib.hid (cv_of_copy hc hk)
      have C0 := Lib.hid hc
      have SY := hc.1
      have B : Hid (Below w.heap.size w w10) := Lib.hid (B.out.trans (hb.mono B.out.size))
      clear hb hc hk
      go_wp2_with fail
      refine (eqC_any _ _ n0 f0 hs0 _ X0.out Y.out).mono ?_
      rintro e w11 ⟨rfl, hb⟩
      have A0 := Lib.hid (A0.out.below hb)
      have X0 := Lib.hid (X0.out.below hb)
      have X1 := Lib.hid (X1.out.below hb)
      have U0 := Lib.hid (U0.out.below hb)
      have B : Hid (Below w.heap.size w w11) := Lib.hid (B.out.trans (hb.mono B.out.size))
      clear hb Y SY
      go_wp2_with fail
      refine (toC_any v1 n1 f1 hs1 _ (HV1.out.below B.out)).mono ?_
      rintro e w12 ⟨rfl, hc, hb, hk⟩
      have A0 := Lib.hid (A0.out.below hb)
      have X0 := Lib.hid (X0.out.below hb)
      have X1 := Lib.hid (X1.out.below hb)
      have U0 := Lib.hid (U0.out.below hb)
      have Y := Lib.hid (cv_of_copy hc hk)
      have C1 := Lib.hid hc
      have SY := hc.1
      have B : Hid (Below w.heap.size w w12) := Lib.hid (B.out.trans (hb.mono B.out.size))
      clear hb hc hk
      go_wp2_with fail
      refine (eqC_any _ _ n1 f1 hs1 _ X1.out Y.out).mono ?_
      rintro e w13 ⟨rfl, hb⟩
      have A0 := Lib.hid (A0.out.below hb)
      have X0 := Lib.hid (X0.out.below hb)
      have X1 := Lib.hid (X1.out.below hb)
      have U0 := Lib.hid (U0.out.below hb)
      have B : Hid (Below w.heap.size w w13) := Lib.hid (B.out.trans (hb.mono B.out.size))
      clear hb Y SY
      go_wp2_with fail
      refine (markC_int _ n0 f0 _ hs0 (by omega) (by omega) _ X0.out).mono ?_
      rintro e w14 ⟨rfl, -, hg⟩
      have A0 := Lib.hid (A0.out.kept hg (fun j hj e => by have := (LA.out j hj).2; have := own_is e; omega))
      have X1 := Lib.hid (X1.out.kept hg (fun j hj e => by have := own_is hj.symm; have := own_is e; omega))
      have U0 := Lib.hid (U0.out.kept hg (fun j hj e => by have := (LU.out j hj).1; have := own_is e; omega))
      have B : Hid (Below w.heap.size w w14) := Lib.hid (B.out.grown hg B.out.size (fun j e => by have := own_is e.symm; have := BS.out.size; omega))
      clear hg X0
      go_wp2_with fail
      refine (markC_int _ n1 f1 _ hs1 (by omega) (by omega) _ X1.out).mono ?_
      rintro e w15 ⟨rfl, -, hg⟩
      have A0 := Lib.hid (A0.out.kept hg (fun j hj e => by have := (LA.out j hj).2; have := own_is e; omega))
      have U0 := Lib.hid (U0.out.kept hg (fun j hj e => by have := (LU.out j hj).1; have := own_is e; omega))
      have B : Hid (Below w.heap.size w w15) := Lib.hid (B.out.grown hg B.out.size (fun j e => by have := own_is e.symm; have := BS.out.size; omega))
      clear hg X1
      go_wp2_with fail
      refine (eqC_any u0 a0 m0 h0 (by omega) _ U0.out A0.out).mono ?_
      rintro e w16 ⟨rfl, hb⟩
      have A0 := Lib.hid (A0.out.below hb)
      have U0 := Lib.hid (U0.out.below hb)
      have B : Hid (Below w.heap.size w w16) := Lib.hid (B.out.trans (hb.mono B.out.size))
      clear hb
      go_wp2_with fail
      refine (markC_int u0 m0 h0 _ (by omega) (by omega) (by omega) _ U0.out).mono ?_
      rintro e w17 ⟨rfl, hm, hg⟩
      have A0 := Lib.hid (A0.out.kept hg (fun j hj e => by have := (LA.out j hj).2; have := (LU.out j e.symm).1; omega))
      have B : Hid (Below w.heap.size w w17) := Lib.hid (B.out.grown hg B.out.size (fun j e => by have := (LU.out j e).1; have := BS.out.size; omega))
      have M0 := Lib.hid hm
      clear hg hm U0
      go_wp2_with fail
      refine (heldC_int u0 m0 _ (by omega) (by omega) (by omega) _ M0.out).mono ?_
      rintro e w18 ⟨rfl, hb⟩
      have A0 := Lib.hid (A0.out.below hb)
      have M0 := Lib.hid (M0.out.below hb)
      have B : Hid (Below w.heap.size w w18) := Lib.hid (B.out.trans (hb.mono B.out.size))
      clear hb
      go_wp2_with fail
      refine (toC_any v0 n0 f0 hs0 _ (HV0.out.below B.out)).mono ?_
      rintro e w19 ⟨rfl, hc, hb, hk⟩
      have A0 := Lib.hid (A0.out.below hb)
      have M0 := Lib.hid (M0.out.below hb)
      have C0 := Lib.hid hc
      have B : Hid (Below w.heap.size w w19) := Lib.hid (B.out.trans (hb.mono B.out.size))
      clear hb hc hk
      go_wp2_with fail
      refine (toC_any v1 n1 f1 hs1 _ (HV1.out.below B.out)).mono ?_
      rintro e w20 ⟨rfl, hc, hb, hk⟩
      have A0 := Lib.hid (A0.out.below hb)
      have M0 := Lib.hid (M0.out.below hb)
      have C0 := Lib.hid (C0.out.below hb)
      have C1 := Lib.hid hc
      have B : Hid (Below w.heap.size w w20) := Lib.hid (B.out.trans (hb.mono B.out.size))
      clear hb hc hk
      go_wp2_with fail
      refine (HIM.out hs0 HF0.out hs1 HF1.out _ _ _ C0.out C1.out).mono ?_
      rintro e w21 ⟨z0, rfl, hr0, hl, hb⟩
      have A0 := Lib.hid (A0.out.below hb)
      have M0 := Lib.hid (M0.out.below hb)
      have Z0 := Lib.hid hr0
      have LZ := Lib.hid hl
      have B : Hid (Below w.heap.size w w21) := Lib.hid (B.out.trans (hb.mono B.out.size))
      clear hb hl hr0 
      go_wp2_with fail
      refine (eqC_any z0 a0 m0 h0 (by omega) _ Z0.out A0.out).mono ?_
      rintro e w22 ⟨rfl, hb⟩
      have M0 := Lib.hid (M0.out.below hb)
      have B : Hid (Below w.heap.size w w22) := Lib.hid (B.out.trans (hb.mono B.out.size))
      clear hb
      go_wp2_with fail
      refine (heldC_int u0 m0 _ (by omega) (by omega) (by omega) _ M0.out).mono ?_
      rintro e w23 ⟨rfl, hb⟩
      have B : Hid (Below w.heap.size w w23) := Lib.hid (B.out.trans (hb.mono B.out.size))
      clear hb
      go_wp2_with fail
      go_ret
      exact ⟨rfl, B.out⟩

theorem mergeV_of (w : World) (l : List Cont) (ok : Bool) (e : Ending) (W : World) (h : OneRow w l ok e W) : mergeV w l.length (fun j => l[j]!) ok e W := by
  obtain ⟨v, he, r, hb⟩ := h
  exact ⟨v, he, cv_of_row r, fun j hj => ⟨row_base r j hj, row_lt r j hj⟩, hb⟩
theorem merge_walk (v0 v1 : Value) (n0 n1 : Nat) (f0 f1 : Nat → Cont) (hn0 : n0 ≤ maxLen) (hz0 : ∀ j, j < n0 → (f0 j).id.size ≤ maxLen) (hn1 : n1 ≤ maxLen) (hz1 : ∀ j, j < n1 → (f1 j).id.size ≤ maxLen) (w : World) (hv0 : ArgC w v0 n0 f0) (hv1 : ArgC w v1 n1 f1) :
    Calls Try.prog 5 #[v0, v1] w fun e w' => e = .returned (.bool true) ∧ Below w.heap.size w w' := by
  cases hA : listB n0 f0 with
  | false =>
    exact mergeLaw v0 v1 n0 n1 f0 f1 0 (fun j => ([] : List Cont)[j]!) false (by omega) hn0 hz0 hn1 hz1 w hv0 hv1
      (fun h0 k0 _ _ g0 g1 W c0 _ => (specMerge_noA g0 n0 n0 f0 g1 n1 n1 h0 k0 W c0 hA).mono fun e W' he => mergeV_of W [] false e W' he)
      (fun h0 k0 _ _ g0 g1 W c0 _ => (implMerge_noA g0 n0 n0 f0 g1 n1 n1 h0 k0 (Nat.le_refl _) W c0 hA).mono fun e W' he => mergeV_of W [] false e W' he)
  | true =>
    cases hB : listB n1 f1 with
    | false =>
      exact mergeLaw v0 v1 n0 n1 f0 f1 0 (fun j => ([] : List Cont)[j]!) false (by omega) hn0 hz0 hn1 hz1 w hv0 hv1
        (fun h0 k0 h1 k1 g0 g1 W c0 c1 => (specMerge_noB g0 n0 n0 f0 g1 n1 n1 f1 h0 h1 k0 k1 W c0 c1 hA hB).mono fun e W' he => mergeV_of W [] false e W' he)
        (fun h0 k0 h1 k1 g0 g1 W c0 c1 => (implMerge_noB g0 n0 n0 f0 g1 n1 n1 f1 h0 h1 k0 k1 (Nat.le_refl _) (Nat.le_refl _) W c0 c1 hA hB).mono fun e W' he => mergeV_of W [] false e W' he)
    | true =>
      have h12 := ((listB_iff n0 f0).1 hA).1
      have h13 := ((listB_iff n1 f1).1 hB).1
      have hml := mergeL_len f0 f1 n0 n1
      obtain ⟨ok, hok⟩ : ∃ ok, mergeB f0 f1 n0 n1 = ok := ⟨_, rfl⟩
      obtain ⟨L, hL⟩ : ∃ L, L = if ok then mergeL f0 f1 n0 n1 else [] := ⟨_, rfl⟩
      have hLl : L.length ≤ 1000 := by
        rw [hL]
        split
        · omega
        · simp
      exact mergeLaw v0 v1 n0 n1 f0 f1 L.length (fun j => L[j]!) ok hLl hn0 hz0 hn1 hz1 w hv0 hv1
        (fun h0 k0 h1 k1 g0 g1 W c0 c1 => (specMerge_yes g0 n0 n0 f0 g1 n1 n1 f1 h0 h1 k0 k1 W c0 c1 hA hB L ok hok hL).mono fun e W' he => mergeV_of W L ok e W' he)
        (fun h0 k0 h1 k1 g0 g1 W c0 c1 => (implMerge_yes g0 n0 n0 f0 g1 n1 n1 f1 h0 h1 k0 k1 (Nat.le_refl _) (Nat.le_refl _) W c0 c1 hA hB L ok hok hL).mono fun e W' he => mergeV_of W L ok e W' he)

set_option maxRecDepth 100000 in
theorem merge_lifted (os : Os) (started : os.Started) (H : Type) (enc : TypeId × Value → H) :
    ReturnsInHanded {} Try.checked os 5 .any (Rows.fnExactMergeManifestsSpec.pre6 enc Try.prog Try.f5 Rows.fnExactMergeManifestsRow.domain false) (Rows.fnExactMergeManifestsSpec.post enc Try.prog Try.f5 false true false false) := by
  refine returnsInHanded_of_change (C := Try.checked) list_own started (by kernel_rfl) Try.func5
    (ChangeSpec.witness6 (enc := enc) (C := Try.checked) false ⟨#[], #[.slice none 0 0, .slice none 0 0], []⟩ 8 (by kernel_rfl) (by kernel_rfl) (by kernel_rfl) (by kernel_rfl)) ?_
  intro W base args ds gs before hval0 hW hcnd0 _
  have hval : ∀ (j : Nat) t v, Try.f5.params[j]? = some t → args[j]? = some v → Value.okWide Try.prog W .any base t v := hval0
  have hW' := hW
  obtain ⟨p, q, hA0, hV, rfl, hfz, _⟩ := hW
  have hA : DataW.TrodAll enc Try.prog W 0 (fun _ => true) true Try.f5.params.toList args.toList ds p := hA0
  rw [Try.params5] at hA hval
  obtain ⟨v0, v1, d0, d1, p0, p1, rfl, rfl, rfl, h0, h1⟩ := trodAll_two hA
  obtain ⟨rfl, rfl⟩ := trodVars_none hV
  obtain ⟨a0, l0, c0, rfl⟩ := okWide_slice Try.underlying22 (hval 0 22 v0 rfl rfl)
  obtain ⟨a1, l1, c1, rfl⟩ := okWide_slice Try.underlying22 (hval 1 22 v1 rfl rfl)
  clear hA0 hval0 hcnd0
  simp only [List.append_nil] at hW'
  have hlt : ∀ x ∈ p0 ++ p1, x.block < W.heap.size := fun x hx => by simpa using hW'.lt x (by simpa using hx)
  have hlt0 : ∀ x ∈ p0, x.block < W.heap.size := fun x hx => hlt x (List.mem_append_left _ hx)
  have hlt1 : ∀ x ∈ p1, x.block < W.heap.size := fun x hx => hlt x (List.mem_append_right _ hx)
  obtain ⟨f0, hn0, hz0, hv0⟩ := open_conts h0 hlt0
  obtain ⟨f1, hn1, hz1, hv1⟩ := open_conts h1 hlt1
  refine (merge_walk (.slice a0 l0 c0) (.slice a1 l1 c1) l0 l1 f0 f1  hn0 hz0 hn1 hz1 W hv0 hv1).mono fun e W' ⟨he, hB⟩ => ?_
  subst he
  refine ⟨_, rfl, _, _, _, [], p0 ++ p1, [], hW', ?_, ?_, rfl, hB.frame _, fun h => by cases h⟩
  · exact trodAll_mk1 (shut_bool Try.underlying4 true)
  · exact trodAll_mk2 (Below.trod list_laidOut (by kernel_rfl) (of_decide_eq_true (by kernel_rfl)) h0 hB hlt0) (Below.trod list_laidOut (by kernel_rfl) (of_decide_eq_true (by kernel_rfl)) h1 hB hlt1)

theorem FnExactMergeManifests_holds : Rows.FnExactMergeManifestsSaid :=
  OpenClaim.holds_of_wide 5 Try.f5 rfl rfl rfl rfl rfl rfl rfl ⟨rfl, rfl, rfl, rfl, rfl⟩ rfl rfl rfl rfl rfl (by kernel_rfl) Try.func5 (by kernel_rfl)
    (of_decide_eq_true (by kernel_rfl)) (by unfold Func.isWrapper; first | (rw [if_pos (by decide +kernel)]; kernel_rfl) | (rw [if_neg (by decide +kernel)]; exact ⟨rfl, rfl⟩))
    (fun os started H enc _ => merge_lifted os started H enc)
#print axioms FnExactMergeManifests_holds
end Go.Proofs.Ytpmaaflpknjbmaa
