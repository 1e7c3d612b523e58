/-
  Proved here: the law FnExactManifestChanges returns true at every two lists of containers, and both read afterwards as they read before. There are no conditions.
-/
import Derived.Test.YtpmaaflpknjbmaaRows
import Derived.Test.YtpmaaflpknjbmaaCOpen
import Derived.Test.YtpmaaflpknjbmaaCLawK
import Derived.Test.YtpmaaflpknjbmaaCLawH
import Derived.Test.YtpmaaflpknjbmaaCLawS
import Derived.Test.YtpmaaflpknjbmaaCChgI
import Derived.WalkKit
import Derived.ProofKit
import Derived.OpenShut
namespace Go.Proofs.Ytpmaaflpknjbmaa
open Go.Proofs.Ytpmaaflpknjbmaa.C
open Go.Joins Go.Deep Go.ChangeShapes Go.WideShapes Go.ChangeAt Go.RowKit

/-- The results of the call's own were answered, each in a block of its own. -/
def chgV (w : World) (m0 : Nat) (h0 : Nat → ByteArray) (m1 : Nat) (h1 : Nat → ByteArray) (m2 : Nat) (h2 : Nat → ByteArray) (ok : Bool) (e : Ending) (W : World) : Prop :=
  ∃ u0 u1 u2, e = .returned (.tuple #[u0, u1, u2, .bool ok]) ∧ RowV W u0 m0 h0 ∧ RowV W u1 m1 h1 ∧ RowV W u2 m2 h2 ∧ (∀ j, u0.ownBlock = some j → u1.ownBlock ≠ some j) ∧ (∀ j, u0.ownBlock = some j → u2.ownBlock ≠ some j) ∧ (∀ j, u1.ownBlock = some j → u2.ownBlock ≠ some j) ∧ (∀ j, u0.ownBlock = some j ∨ u1.ownBlock = some j ∨ u2.ownBlock = some j → w.heap.size ≤ j ∧ j < W.heap.size) ∧ Below w.heap.size w W

set_option maxRecDepth 100000 in
set_option maxHeartbeats 8000000 in
theorem chgLaw (v0 v1 : Value) (n0 n1 : Nat) (f0 f1 : Nat → Cont) (m0 m1 m2 : Nat) (h0 : Nat → ByteArray) (h1 : Nat → ByteArray) (h2 : Nat → ByteArray) (ok : Bool) (hm0 : m0 ≤ 1000) (hm1 : m1 ≤ 1000) (hm2 : m2 ≤ 1000) (hn0 : n0 ≤ maxLen) (hz0 : ∀ j, j < n0 → (f0 j).id.size ≤ maxLen) (hn1 : n1 ≤ maxLen) (hz1 : ∀ j, j < n1 → (f1 j).id.size ≤ maxLen) (w : World) (hv0 : ArgC w v0 n0 f0) (hv1 : ArgC w v1 n1 f1)
    (hspec : n0 ≤ 1048576 → (∀ j, j < n0 → (f0 j).id.size ≤ 1048576) → n1 ≤ 1048576 → (∀ j, j < n1 → (f1 j).id.size ≤ 1048576) → ∀ g0 g1 W, CAt W g0 0 n0 f0 → CAt W g1 0 n1 f1 → Calls Try.prog 16 #[.slice (some ⟨g0, 0, none⟩) n0 n0, .slice (some ⟨g1, 0, none⟩) n1 n1] W (chgV W m0 h0 m1 h1 m2 h2 ok))
    (himpl : n0 ≤ 1048576 → (∀ j, j < n0 → (f0 j).id.size ≤ 1048576) → n1 ≤ 1048576 → (∀ j, j < n1 → (f1 j).id.size ≤ 1048576) → ∀ g0 g1 W, CAt W g0 0 n0 f0 → CAt W g1 0 n1 f1 → Calls Try.prog 17 #[.slice (some ⟨g0, 0, none⟩) n0 n0, .slice (some ⟨g1, 0, none⟩) n1 n1] W (chgV W m0 h0 m1 h1 m2 h2 ok)) :
    Calls Try.prog 4 #[v0, v1] w fun e w' => e = .returned (.bool true) ∧ Below w.heap.size w w' := by
  have HZ0 := Lib.hid hz0
  have HV0 := Lib.hid hv0
  have HZ1 := Lib.hid hz1
  have HV1 := Lib.hid hv1
  have HSP := Lib.hid hspec
  have HIM := Lib.hid himpl
  clear hspec himpl hz0 hv0 hz1 hv1
  go_enter Try.func4, Try.ntmps4
  go_wp2_with fail
  refine (szL_any v0 n0 1048576 f0 (by omega) hn0 HZ0.out _ HV0.out).mono ?_
  rintro e w1 ⟨hb, rfl | ⟨r0, rfl, hr0, hs0, hf⟩⟩
  · have B := Lib.hid hb
    clear hb
    go_wp2_with fail
    go_ret
    exact ⟨rfl, B.out⟩
  · have HF0 := Lib.hid hf
    have B := Lib.hid hb
    clear hb hf
    go_wp2_with fail
    refine (szL_any v1 n1 r0 f1 (by omega) hn1 HZ1.out _ (HV1.out.below B.out)).mono ?_
    rintro e w2 ⟨hb, rfl | ⟨r1, rfl, hr1, hs1, hf⟩⟩
    · have B : Hid (Below w.heap.size w w2) := Lib.hid (B.out.trans (hb.mono B.out.size))
      clear hb
      go_wp2_with fail
      go_ret
      exact ⟨rfl, B.out⟩
    · have HF1 := Lib.hid hf
      have B : Hid (Below w.heap.size w w2) := Lib.hid (B.out.trans (hb.mono B.out.size))
      clear hb hf
      go_wp2_with fail
      refine (toC_any v0 n0 f0 hs0 _ (HV0.out.below B.out)).mono ?_
      rintro e w3 ⟨rfl, hc, hb, hk⟩
      have C0 := Lib.hid hc
      have B : Hid (Below w.heap.size w w3) := Lib.hid (B.out.trans (hb.mono B.out.size))
      clear hb hc hk
      go_wp2_with fail
      refine (toC_any v1 n1 f1 hs1 _ (HV1.out.below B.out)).mono ?_
      rintro e w4 ⟨rfl, hc, hb, hk⟩
      have C0 := Lib.hid (C0.out.below hb)
      have C1 := Lib.hid hc
      have B : Hid (Below w.heap.size w w4) := Lib.hid (B.out.trans (hb.mono B.out.size))
      clear hb hc hk
      go_wp2_with fail
      refine (HSP.out hs0 HF0.out hs1 HF1.out _ _ _ C0.out C1.out).mono ?_
      rintro e w5 ⟨a0, a1, a2, rfl, hr0, hr1, hr2, ha01, ha02, ha12, hl, hb⟩
      have A0 := Lib.hid hr0
      have A1 := Lib.hid hr1
      have A2 := Lib.hid hr2
      have LA := Lib.hid hl
      have APA01 := Lib.hid ha01
      have APA02 := Lib.hid ha02
      have APA12 := Lib.hid ha12
      have B : Hid (Below w.heap.size w w5) := Lib.hid (B.out.trans (hb.mono B.out.size))
      clear hb hl hr0 hr1 hr2 ha01 ha02 ha12
      have BS := B
      go_wp2_with fail
      refine (toC_any v0 n0 f0 hs0 _ (HV0.out.below B.out)).mono ?_
      rintro e w6 ⟨rfl, hc, hb, hk⟩
      have A0 := Lib.hid (A0.out.below hb)
      have A1 := Lib.hid (A1.out.below hb)
      have A2 := Lib.hid (A2.out.below hb)
      have X0 := Lib.hid (cv_of_copy hc hk)
      have C0 := Lib.hid hc
      have SX0 := hc.1
      have B : Hid (Below w.heap.size w w6) := Lib.hid (B.out.trans (hb.mono B.out.size))
      clear hb hc hk
      go_wp2_with fail
      refine (toC_any v1 n1 f1 hs1 _ (HV1.out.below B.out)).mono ?_
      rintro e w7 ⟨rfl, hc, hb, hk⟩
      have A0 := Lib.hid (A0.out.below hb)
      have A1 := Lib.hid (A1.out.below hb)
      have A2 := Lib.hid (A2.out.below hb)
      have C0 := Lib.hid (C0.out.below hb)
      have X0 := Lib.hid (X0.out.below hb)
      have X1 := Lib.hid (cv_of_copy hc hk)
      have C1 := Lib.hid hc
      have SX1 := hc.1
      have B : Hid (Below w.heap.size w w7) := Lib.hid (B.out.trans (hb.mono B.out.size))
      clear hb hc hk
      go_wp2_with fail
      refine (HIM.out hs0 HF0.out hs1 HF1.out _ _ _ C0.out C1.out).mono ?_
      rintro e w8 ⟨u0, u1, u2, rfl, hr0, hr1, hr2, ha01, ha02, ha12, hl, hb⟩
      have A0 := Lib.hid (A0.out.below hb)
      have A1 := Lib.hid (A1.out.below hb)
      have A2 := Lib.hid (A2.out.below hb)
      have X0 := Lib.hid (X0.out.below hb)
      have X1 := Lib.hid (X1.out.below hb)
      have U0 := Lib.hid hr0
      have U1 := Lib.hid hr1
      have U2 := Lib.hid hr2
      have LU := Lib.hid hl
      have APU01 := Lib.hid ha01
      have APU02 := Lib.hid ha02
      have APU12 := Lib.hid ha12
      have B : Hid (Below w.heap.size w w8) := Lib.hid (B.out.trans (hb.mono B.out.size))
      clear hb hl hr0 hr1 hr2 ha01 ha02 ha12
      go_wp2_with fail
      refine (eqS_b u0 a0 m0 h0 (by omega) _ U0.out A0.out).mono ?_
      rintro e w9 ⟨rfl, hb⟩
      have A0 := Lib.hid (A0.out.below hb)
      have A1 := Lib.hid (A1.out.below hb)
      have A2 := Lib.hid (A2.out.below hb)
      have X0 := Lib.hid (X0.out.below hb)
      have X1 := Lib.hid (X1.out.below hb)
      have U0 := Lib.hid (U0.out.below hb)
      have U1 := Lib.hid (U1.out.below hb)
      have U2 := Lib.hid (U2.out.below hb)
      have B : Hid (Below w.heap.size w w9) := Lib.hid (B.out.trans (hb.mono B.out.size))
      clear hb
      go_wp2_with fail
      refine (eqS_b u1 a1 m1 h1 (by omega) _ U1.out A1.out).mono ?_
      rintro e w10 ⟨rfl, hb⟩
      have A0 := Lib.hid (A0.out.below hb)
      have A1 := Lib.hid (A1.out.below hb)
      have A2 := Lib.hid (A2.out.below hb)
      have X0 := Lib.hid (X0.out.below hb)
      have X1 := Lib.hid (X1.out.below hb)
      have U0 := Lib.hid (U0.out.below hb)
      have U1 := Lib.hid (U1.out.below hb)
      have U2 := Lib.hid (U2.out.below hb)
      have B : Hid (Below w.heap.size w w10) := Lib.hid (B.out.trans (hb.mono B.out.size))
      clear hb
      go_wp2_with fail
      refine (eqS_b u2 a2 m2 h2 (by omega) _ U2.out A2.out).mono ?_
      rintro e w11 ⟨rfl, hb⟩
      have A0 := Lib.hid (A0.out.below hb)
      have A1 := Lib.hid (A1.out.below hb)
      have A2 := Lib.hid (A2.out.below hb)
      have X0 := Lib.hid (X0.out.below hb)
      have X1 := Lib.hid (X1.out.below hb)
      have U0 := Lib.hid (U0.out.below hb)
      have U1 := Lib.hid (U1.out.below hb)
      have U2 := Lib.hid (U2.out.below hb)
      have B : Hid (Below w.heap.size w w11) := Lib.hid (B.out.trans (hb.mono B.out.size))
      clear hb
      go_wp2_with fail
      refine (toC_any v0 n0 f0 hs0 _ (HV0.out.below B.out)).mono ?_
      rintro e w12 ⟨rfl, hc, hb, hk⟩
      have A0 := Lib.hid (A0.out.below hb)
      have A1 := Lib.hid (A1.out.below hb)
      have A2 := Lib.hid (A2.out.below hb)
      have X0 := Lib.hid (X0.out.below hb)
      have X1 := Lib.hid (X1.out.below hb)
      have U0 := Lib.hid (U0.out.below hb)
      have U1 := Lib.hid (U1.out.below hb)
      have U2 := Lib.hid (U2.out.below hb)
      have Y := Lib.hid (cv_of_copy hc hk)
      have C0 := Lib.hid hc
      have SY := hc.1
      have B : Hid (Below w.heap.size w w12) := Lib.hid (B.out.trans (hb.mono B.out.size))
      clear hb hc hk
      go_wp2_with fail
      refine (eqC_any _ _ n0 f0 hs0 _ X0.out Y.out).mono ?_
      rintro e w13 ⟨rfl, hb⟩
      have A0 := Lib.hid (A0.out.below hb)
      have A1 := Lib.hid (A1.out.below hb)
      have A2 := Lib.hid (A2.out.below hb)
      have X0 := Lib.hid (X0.out.below hb)
      have X1 := Lib.hid (X1.out.below hb)
      have U0 := Lib.hid (U0.out.below hb)
      have U1 := Lib.hid (U1.out.below hb)
      have U2 := Lib.hid (U2.out.below hb)
      have B : Hid (Below w.heap.size w w13) := Lib.hid (B.out.trans (hb.mono B.out.size))
      clear hb Y SY
      go_wp2_with fail
      refine (toC_any v1 n1 f1 hs1 _ (HV1.out.below B.out)).mono ?_
      rintro e w14 ⟨rfl, hc, hb, hk⟩
      have A0 := Lib.hid (A0.out.below hb)
      have A1 := Lib.hid (A1.out.below hb)
      have A2 := Lib.hid (A2.out.below hb)
      have X0 := Lib.hid (X0.out.below hb)
      have X1 := Lib.hid (X1.out.below hb)
      have U0 := Lib.hid (U0.out.below hb)
      have U1 := Lib.hid (U1.out.below hb)
      have U2 := Lib.hid (U2.out.below hb)
      have Y := Lib.hid (cv_of_copy hc hk)
      have C1 := Lib.hid hc
      have SY := hc.1
      have B : Hid (Below w.heap.size w w14) := Lib.hid (B.out.trans (hb.mono B.out.size))
      clear hb hc hk
      go_wp2_with fail
      refine (eqC_any _ _ n1 f1 hs1 _ X1.out Y.out).mono ?_
      rintro e w15 ⟨rfl, hb⟩
      have A0 := Lib.hid (A0.out.below hb)
      have A1 := Lib.hid (A1.out.below hb)
      have A2 := Lib.hid (A2.out.below hb)
      have X0 := Lib.hid (X0.out.below hb)
      have X1 := Lib.hid (X1.out.below hb)
      have U0 := Lib.hid (U0.out.below hb)
      have U1 := Lib.hid (U1.out.below hb)
      have U2 := Lib.hid (U2.out.below hb)
      have B : Hid (Below w.heap.size w w15) := Lib.hid (B.out.trans (hb.mono B.out.size))
      clear hb Y SY
      go_wp2_with fail
      refine (markC_int _ n0 f0 _ hs0 (by omega) (by omega) _ X0.out).mono ?_
      rintro e w16 ⟨rfl, -, hg⟩
      have A0 := Lib.hid (A0.out.kept hg (fun j hj e => by have := (LA.out j (.inl hj)).2; have := own_is e; omega))
      have A1 := Lib.hid (A1.out.kept hg (fun j hj e => by have := (LA.out j (.inr (.inl hj))).2; have := own_is e; omega))
      have A2 := Lib.hid (A2.out.kept hg (fun j hj e => by have := (LA.out j (.inr (.inr hj))).2; have := own_is e; omega))
      have X1 := Lib.hid (X1.out.kept hg (fun j hj e => by have := own_is hj.symm; have := own_is e; omega))
      have U0 := Lib.hid (U0.out.kept hg (fun j hj e => by have := (LU.out j (.inl hj)).1; have := own_is e; omega))
      have U1 := Lib.hid (U1.out.kept hg (fun j hj e => by have := (LU.out j (.inr (.inl hj))).1; have := own_is e; omega))
      have U2 := Lib.hid (U2.out.kept hg (fun j hj e => by have := (LU.out j (.inr (.inr hj))).1; have := own_is e; omega))
      have B : Hid (Below w.heap.size w w16) := Lib.hid (B.out.grown hg B.out.size (fun j e => by have := own_is e.symm; have := BS.out.size; omega))
      clear hg X0
      go_wp2_with fail
      refine (markC_int _ n1 f1 _ hs1 (by omega) (by omega) _ X1.out).mono ?_
      rintro e w17 ⟨rfl, -, hg⟩
      have A0 := Lib.hid (A0.out.kept hg (fun j hj e => by have := (LA.out j (.inl hj)).2; have := own_is e; omega))
      have A1 := Lib.hid (A1.out.kept hg (fun j hj e => by have := (LA.out j (.inr (.inl hj))).2; have := own_is e; omega))
      have A2 := Lib.hid (A2.out.kept hg (fun j hj e => by have := (LA.out j (.inr (.inr hj))).2; have := own_is e; omega))
      have U0 := Lib.hid (U0.out.kept hg (fun j hj e => by have := (LU.out j (.inl hj)).1; have := own_is e; omega))
      have U1 := Lib.hid (U1.out.kept hg (fun j hj e => by have := (LU.out j (.inr (.inl hj))).1; have := own_is e; omega))
      have U2 := Lib.hid (U2.out.kept hg (fun j hj e => by have := (LU.out j (.inr (.inr hj))).1; have := own_is e; omega))
      have B : Hid (Below w.heap.size w w17) := Lib.hid (B.out.grown hg B.out.size (fun j e => by have := own_is e.symm; have := BS.out.size; omega))
      clear hg X1
      go_wp2_with fail
      refine (eqS_b u0 a0 m0 h0 (by omega) _ U0.out A0.out).mono ?_
      rintro e w18 ⟨rfl, hb⟩
      have A0 := Lib.hid (A0.out.below hb)
      have A1 := Lib.hid (A1.out.below hb)
      have A2 := Lib.hid (A2.out.below hb)
      have U0 := Lib.hid (U0.out.below hb)
      have U1 := Lib.hid (U1.out.below hb)
      have U2 := Lib.hid (U2.out.below hb)
      have B : Hid (Below w.heap.size w w18) := Lib.hid (B.out.trans (hb.mono B.out.size))
      clear hb
      go_wp2_with fail
      refine (eqS_b u1 a1 m1 h1 (by omega) _ U1.out A1.out).mono ?_
      rintro e w19 ⟨rfl, hb⟩
      have A0 := Lib.hid (A0.out.below hb)
      have A1 := Lib.hid (A1.out.below hb)
      have A2 := Lib.hid (A2.out.below hb)
      have U0 := Lib.hid (U0.out.below hb)
      have U1 := Lib.hid (U1.out.below hb)
      have U2 := Lib.hid (U2.out.below hb)
      have B : Hid (Below w.heap.size w w19) := Lib.hid (B.out.trans (hb.mono B.out.size))
      clear hb
      go_wp2_with fail
      refine (eqS_b u2 a2 m2 h2 (by omega) _ U2.out A2.out).mono ?_
      rintro e w20 ⟨rfl, hb⟩
      have A0 := Lib.hid (A0.out.below hb)
      have A1 := Lib.hid (A1.out.below hb)
      have A2 := Lib.hid (A2.out.below hb)
      have U0 := Lib.hid (U0.out.below hb)
      have U1 := Lib.hid (U1.out.below hb)
      have U2 := Lib.hid (U2.out.below hb)
      have B : Hid (Below w.heap.size w w20) := Lib.hid (B.out.trans (hb.mono B.out.size))
      clear hb
      go_wp2_with fail
      refine (markS_int u0 m0 h0 _ (by omega) (by omega) (by omega) _ U0.out).mono ?_
      rintro e w21 ⟨rfl, hm, hg⟩
      have A0 := Lib.hid (A0.out.kept hg (fun j hj e => by have := (LA.out j (.inl hj)).2; have := (LU.out j (.inl e.symm)).1; omega))
      have A1 := Lib.hid (A1.out.kept hg (fun j hj e => by have := (LA.out j (.inr (.inl hj))).2; have := (LU.out j (.inl e.symm)).1; omega))
      have A2 := Lib.hid (A2.out.kept hg (fun j hj e => by have := (LA.out j (.inr (.inr hj))).2; have := (LU.out j (.inl e.symm)).1; omega))
      have U1 := Lib.hid (U1.out.kept hg (fun j hj e => APU01.out j e.symm hj))
      have U2 := Lib.hid (U2.out.kept hg (fun j hj e => APU02.out j e.symm hj))
      have B : Hid (Below w.heap.size w w21) := Lib.hid (B.out.grown hg B.out.size (fun j e => by have := (LU.out j (.inl e)).1; have := BS.out.size; omega))
      have M0 := Lib.hid hm
      clear hg hm U0
      go_wp2_with fail
      refine (markS_int u1 m1 h1 _ (by omega) (by omega) (by omega) _ U1.out).mono ?_
      rintro e w22 ⟨rfl, hm, hg⟩
      have A0 := Lib.hid (A0.out.kept hg (fun j hj e => by have := (LA.out j (.inl hj)).2; have := (LU.out j (.inr (.inl e.symm))).1; omega))
      have A1 := Lib.hid (A1.out.kept hg (fun j hj e => by have := (LA.out j (.inr (.inl hj))).2; have := (LU.out j (.inr (.inl e.symm))).1; omega))
      have A2 := Lib.hid (A2.out.kept hg (fun j hj e => by have := (LA.out j (.inr (.inr hj))).2; have := (LU.out j (.inr (.inl e.symm))).1; omega))
      have U2 := Lib.hid (U2.out.kept hg (fun j hj e => APU12.out j e.symm hj))
      have M0 := Lib.hid (M0.out.kept hg (fun j hj e => APU01.out j hj e.symm))
      have B : Hid (Below w.heap.size w w22) := Lib.hid (B.out.grown hg B.out.size (fun j e => by have := (LU.out j (.inr (.inl e))).1; have := BS.out.size; omega))
      have M1 := Lib.hid hm
      clear hg hm U1
      go_wp2_with fail
      refine (markS_int u2 m2 h2 _ (by omega) (by omega) (by omega) _ U2.out).mono ?_
      rintro e w23 ⟨rfl, hm, hg⟩
      have A0 := Lib.hid (A0.out.kept hg (fun j hj e => by have := (LA.out j (.inl hj)).2; have := (LU.out j (.inr (.inr e.symm))).1; omega))
      have A1 := Lib.hid (A1.out.kept hg (fun j hj e => by have := (LA.out j (.inr (.inl hj))).2; have := (LU.out j (.inr (.inr e.symm))).1; omega))
      have A2 := Lib.hid (A2.out.kept hg (fun j hj e => by have := (LA.out j (.inr (.inr hj))).2; have := (LU.out j (.inr (.inr e.symm))).1; omega))
      have M0 := Lib.hid (M0.out.kept hg (fun j hj e => APU02.out j hj e.symm))
      have M1 := Lib.hid (M1.out.kept hg (fun j hj e => APU12.out j hj e.symm))
      have B : Hid (Below w.heap.size w w23) := Lib.hid (B.out.grown hg B.out.size (fun j e => by have := (LU.out j (.inr (.inr e))).1; have := BS.out.size; omega))
      have M2 := Lib.hid hm
      clear hg hm U2
      go_wp2_with fail
      refine (heldS_int u0 m0 _ (by omega) (by omega) (by omega) _ M0.out).mono ?_
      rintro e w24 ⟨rfl, hb⟩
      have A0 := Lib.hid (A0.out.below hb)
      have A1 := Lib.hid (A1.out.below hb)
      have A2 := Lib.hid (A2.out.below hb)
      have M0 := Lib.hid (M0.out.below hb)
      have M1 := Lib.hid (M1.out.below hb)
      have M2 := Lib.hid (M2.out.below hb)
      have B : Hid (Below w.heap.size w w24) := Lib.hid (B.out.trans (hb.mono B.out.size))
      clear hb
      go_wp2_with fail
      refine (heldS_int u1 m1 _ (by omega) (by omega) (by omega) _ M1.out).mono ?_
      rintro e w25 ⟨rfl, hb⟩
      have A0 := Lib.hid (A0.out.below hb)
      have A1 := Lib.hid (A1.out.below hb)
      have A2 := Lib.hid (A2.out.below hb)
      have M0 := Lib.hid (M0.out.below hb)
      have M1 := Lib.hid (M1.out.below hb)
      have M2 := Lib.hid (M2.out.below hb)
      have B : Hid (Below w.heap.size w w25) := Lib.hid (B.out.trans (hb.mono B.out.size))
      clear hb
      go_wp2_with fail
      refine (heldS_int u2 m2 _ (by omega) (by omega) (by omega) _ M2.out).mono ?_
      rintro e w26 ⟨rfl, hb⟩
      have A0 := Lib.hid (A0.out.below hb)
      have A1 := Lib.hid (A1.out.below hb)
      have A2 := Lib.hid (A2.out.below hb)
      have M0 := Lib.hid (M0.out.below hb)
      have M1 := Lib.hid (M1.out.below hb)
      have M2 := Lib.hid (M2.out.below hb)
      have B : Hid (Below w.heap.size w w26) := Lib.hid (B.out.trans (hb.mono B.out.size))
      clear hb
      go_wp2_with fail
      refine (toC_any v0 n0 f0 hs0 _ (HV0.out.below B.out)).mono ?_
      rintro e w27 ⟨rfl, hc, hb, hk⟩
      have A0 := Lib.hid (A0.out.below hb)
      have A1 := Lib.hid (A1.out.below hb)
      have A2 := Lib.hid (A2.out.below hb)
      have M0 := Lib.hid (M0.out.below hb)
      have M1 := Lib.hid (M1.out.below hb)
      have M2 := Lib.hid (M2.out.below hb)
      have C0 := Lib.hid hc
      have B : Hid (Below w.heap.size w w27) := Lib.hid (B.out.trans (hb.mono B.out.size))
      clear hb hc hk
      go_wp2_with fail
      refine (toC_any v1 n1 f1 hs1 _ (HV1.out.below B.out)).mono ?_
      rintro e w28 ⟨rfl, hc, hb, hk⟩
      have A0 := Lib.hid (A0.out.below hb)
      have A1 := Lib.hid (A1.out.below hb)
      have A2 := Lib.hid (A2.out.below hb)
      have M0 := Lib.hid (M0.out.below hb)
      have M1 := Lib.hid (M1.out.below hb)
      have M2 := Lib.hid (M2.out.below hb)
      have C0 := Lib.hid (C0.out.below hb)
      have C1 := Lib.hid hc
      have B : Hid (Below w.heap.size w w28) := Lib.hid (B.out.trans (hb.mono B.out.size))
      clear hb hc hk
      go_wp2_with fail
      refine (HIM.out hs0 HF0.out hs1 HF1.out _ _ _ C0.out C1.out).mono ?_
      rintro e w29 ⟨z0, z1, z2, rfl, hr0, hr1, hr2, ha01, ha02, ha12, hl, hb⟩
      have A0 := Lib.hid (A0.out.below hb)
      have A1 := Lib.hid (A1.out.below hb)
      have A2 := Lib.hid (A2.out.below hb)
      have M0 := Lib.hid (M0.out.below hb)
      have M1 := Lib.hid (M1.out.below hb)
      have M2 := Lib.hid (M2.out.below hb)
      have Z0 := Lib.hid hr0
      have Z1 := Lib.hid hr1
      have Z2 := Lib.hid hr2
      have LZ := Lib.hid hl
      have APZ01 := Lib.hid ha01
      have APZ02 := Lib.hid ha02
      have APZ12 := Lib.hid ha12
      have B : Hid (Below w.heap.size w w29) := Lib.hid (B.out.trans (hb.mono B.out.size))
      clear hb hl hr0 hr1 hr2 ha01 ha02 ha12
      go_wp2_with fail
      refine (eqS_b z0 a0 m0 h0 (by omega) _ Z0.out A0.out).mono ?_
      rintro e w30 ⟨rfl, hb⟩
      have A1 := Lib.hid (A1.out.below hb)
      have A2 := Lib.hid (A2.out.below hb)
      have M0 := Lib.hid (M0.out.below hb)
      have M1 := Lib.hid (M1.out.below hb)
      have M2 := Lib.hid (M2.out.below hb)
      have Z1 := Lib.hid (Z1.out.below hb)
      have Z2 := Lib.hid (Z2.out.below hb)
      have B : Hid (Below w.heap.size w w30) := Lib.hid (B.out.trans (hb.mono B.out.size))
      clear hb
      go_wp2_with fail
      refine (eqS_b z1 a1 m1 h1 (by omega) _ Z1.out A1.out).mono ?_
      rintro e w31 ⟨rfl, hb⟩
      have A2 := Lib.hid (A2.out.below hb)
      have M0 := Lib.hid (M0.out.below hb)
      have M1 := Lib.hid (M1.out.below hb)
      have M2 := Lib.hid (M2.out.below hb)
      have Z2 := Lib.hid (Z2.out.below hb)
      have B : Hid (Below w.heap.size w w31) := Lib.hid (B.out.trans (hb.mono B.out.size))
      clear hb
      go_wp2_with fail
      refine (eqS_b z2 a2 m2 h2 (by omega) _ Z2.out A2.out).mono ?_
      rintro e w32 ⟨rfl, hb⟩
      have M0 := Lib.hid (M0.out.below hb)
      have M1 := Lib.hid (M1.out.below hb)
      have M2 := Lib.hid (M2.out.below hb)
      have B : Hid (Below w.heap.size w w32) := Lib.hid (B.out.trans (hb.mono B.out.size))
      clear hb
      go_wp2_with fail
      refine (heldS_int u0 m0 _ (by omega) (by omega) (by omega) _ M0.out).mono ?_
      rintro e w33 ⟨rfl, hb⟩
      have M1 := Lib.hid (M1.out.below hb)
      have M2 := Lib.hid (M2.out.below hb)
      have B : Hid (Below w.heap.size w w33) := Lib.hid (B.out.trans (hb.mono B.out.size))
      clear hb
      go_wp2_with fail
      refine (heldS_int u1 m1 _ (by omega) (by omega) (by omega) _ M1.out).mono ?_
      rintro e w34 ⟨rfl, hb⟩
      have M2 := Lib.hid (M2.out.below hb)
      have B : Hid (Below w.heap.size w w34) := Lib.hid (B.out.trans (hb.mono B.out.size))
      clear hb
      go_wp2_with fail
      refine (heldS_int u2 m2 _ (by omega) (by omega) (by omega) _ M2.out).mono ?_
      rintro e w35 ⟨rfl, hb⟩
      have B : Hid (Below w.heap.size w w35) := Lib.hid (B.out.trans (hb.mono B.out.size))
      clear hb
      go_wp2_with fail
      go_ret
      exact ⟨rfl, B.out⟩

def tx (L : List ByteArray) : Nat → ByteArray := fun j => L[j]?.getD ByteArray.empty
theorem chgV_of (w : World) (L1 L2 L3 : List ByteArray) (ok : Bool) (e : Ending) (W : World) (h : TriPost w L1 L2 L3 ok e W) : chgV w L1.length (tx L1) L2.length (tx L2) L3.length (tx L3) ok e W := by
  obtain ⟨v1, v2, v3, he, r1, r2, r3, o1, o2, o3, hb⟩ := h
  refine ⟨v1, v2, v3, he, rowV_of_owns r1, rowV_of_owns r2, rowV_of_owns r3, o1, o2, o3, ?_, hb⟩
  rintro j (h | h | h)
  · exact ⟨row_base r1 j h, row_lt r1 j h⟩
  · exact ⟨row_base r2 j h, row_lt r2 j h⟩
  · exact ⟨row_base r3 j h, row_lt r3 j h⟩
theorem chg_walk (v0 v1 : Value) (n0 n1 : Nat) (f0 f1 : Nat → Cont) (hn0 : n0 ≤ maxLen) (hz0 : ∀ j, j < n0 → (f0 j).id.size ≤ maxLen) (hn1 : n1 ≤ maxLen) (hz1 : ∀ j, j < n1 → (f1 j).id.size ≤ maxLen) (w : World) (hv0 : ArgC w v0 n0 f0) (hv1 : ArgC w v1 n1 f1) :
    Calls Try.prog 4 #[v0, v1] w fun e w' => e = .returned (.bool true) ∧ Below w.heap.size w w' := by
  have z0 : ([] : List ByteArray).length ≤ 1000 := by decide
  cases hA : listB n0 f0 with
  | false =>
    exact chgLaw v0 v1 n0 n1 f0 f1 _ _ _ _ _ _ false z0 z0 z0 hn0 hz0 hn1 hz1 w hv0 hv1
      (fun h0 k0 _ _ g0 g1 W c0 _ => (specChg_noA g0 n0 n0 f0 g1 n1 n1 h0 k0 W c0 hA).mono fun e W' he => chgV_of W [] [] [] false e W' he)
      (fun h0 k0 _ _ g0 g1 W c0 _ => (implChg_noA g0 n0 n0 f0 g1 n1 n1 h0 k0 (Nat.le_refl _) W c0 hA).mono fun e W' he => chgV_of W [] [] [] false e W' he)
  | true =>
    cases hB : listB n1 f1 with
    | false =>
      exact chgLaw v0 v1 n0 n1 f0 f1 _ _ _ _ _ _ false z0 z0 z0 hn0 hz0 hn1 hz1 w hv0 hv1
        (fun h0 k0 h1 k1 g0 g1 W c0 c1 => (specChg_noB g0 n0 n0 f0 g1 n1 n1 f1 h0 h1 k0 k1 W c0 c1 hA hB).mono fun e W' he => chgV_of W [] [] [] false e W' he)
        (fun h0 k0 h1 k1 g0 g1 W c0 c1 => (implChg_noB g0 n0 n0 f0 g1 n1 n1 f1 h0 h1 k0 k1 (Nat.le_refl _) (Nat.le_refl _) W c0 c1 hA hB).mono fun e W' he => chgV_of W [] [] [] false e W' he)
    | true =>
      have h12 := ((listB_iff n0 f0).1 hA).1
      have h13 := ((listB_iff n1 f1).1 hB).1
      have q1 : (srt [] (idsC (newL f0 f1 n0 n1))).length ≤ 1000 := by rw [srt_len]; simp [idsC]; have := filtL_len f1 (fun id => decide (findU f0 id n0 < 0)) n1; unfold newL; omega
      have q2 : (srt [] (idsC (newL f1 f0 n1 n0))).length ≤ 1000 := by rw [srt_len]; simp [idsC]; have := filtL_len f0 (fun id => decide (findU f1 id n1 < 0)) n0; unfold newL; omega
      have q3 : (srt [] (idsC (chgL f0 n0 f1 n1))).length ≤ 1000 := by rw [srt_len]; simp [idsC]; have := chgL_len f0 n0 f1 n1; omega
      exact chgLaw v0 v1 n0 n1 f0 f1 _ _ _ _ _ _ true q1 q2 q3 hn0 hz0 hn1 hz1 w hv0 hv1
        (fun h0 k0 h1 k1 g0 g1 W c0 c1 => (specChg_yes g0 n0 n0 f0 g1 n1 n1 f1 h0 h1 k0 k1 W c0 c1 hA hB).mono fun e W' he => chgV_of W _ _ _ true e W' he)
        (fun h0 k0 h1 k1 g0 g1 W c0 c1 => (implChg_yes g0 n0 n0 f0 g1 n1 n1 f1 h0 h1 k0 k1 (Nat.le_refl _) (Nat.le_refl _) W c0 c1 hA hB).mono fun e W' he => chgV_of W _ _ _ true e W' he)

set_option maxRecDepth 100000 in
theorem chg_lifted (os : Os) (started : os.Started) (H : Type) (enc : TypeId × Value → H) :
    ReturnsInHanded {} Try.checked os 4 .any (Rows.fnExactManifestChangesSpec.pre6 enc Try.prog Try.f4 Rows.fnExactManifestChangesRow.domain false) (Rows.fnExactManifestChangesSpec.post enc Try.prog Try.f4 false true false false) := by
  refine returnsInHanded_of_change (C := Try.checked) list_own started (by kernel_rfl) Try.func4
    (ChangeSpec.witness6 (enc := enc) (C := Try.checked) false ⟨#[], #[.slice none 0 0, .slice none 0 0], []⟩ 8 (by kernel_rfl) (by kernel_rfl) (by kernel_rfl) (by kernel_rfl)) ?_
  intro W base args ds gs before hval0 hW hcnd0 _
  have hval : ∀ (j : Nat) t v, Try.f4.params[j]? = some t → args[j]? = some v → Value.okWide Try.prog W .any base t v := hval0
  have hW' := hW
  obtain ⟨p, q, hA0, hV, rfl, hfz, _⟩ := hW
  have hA : DataW.TrodAll enc Try.prog W 0 (fun _ => true) true Try.f4.params.toList args.toList ds p := hA0
  rw [Try.params4] at hA hval
  obtain ⟨v0, v1, d0, d1, p0, p1, rfl, rfl, rfl, h0, h1⟩ := trodAll_two hA
  obtain ⟨rfl, rfl⟩ := trodVars_none hV
  obtain ⟨a0, l0, c0, rfl⟩ := okWide_slice Try.underlying22 (hval 0 22 v0 rfl rfl)
  obtain ⟨a1, l1, c1, rfl⟩ := okWide_slice Try.underlying22 (hval 1 22 v1 rfl rfl)
  clear hA0 hval0 hcnd0
  simp only [List.append_nil] at hW'
  have hlt : ∀ x ∈ p0 ++ p1, x.block < W.heap.size := fun x hx => by simpa using hW'.lt x (by simpa using hx)
  have hlt0 : ∀ x ∈ p0, x.block < W.heap.size := fun x hx => hlt x (List.mem_append_left _ hx)
  have hlt1 : ∀ x ∈ p1, x.block < W.heap.size := fun x hx => hlt x (List.mem_append_right _ hx)
  obtain ⟨f0, hn0, hz0, hv0⟩ := open_conts h0 hlt0
  obtain ⟨f1, hn1, hz1, hv1⟩ := open_conts h1 hlt1
  refine (chg_walk (.slice a0 l0 c0) (.slice a1 l1 c1) l0 l1 f0 f1  hn0 hz0 hn1 hz1 W hv0 hv1).mono fun e W' ⟨he, hB⟩ => ?_
  subst he
  refine ⟨_, rfl, _, _, _, [], p0 ++ p1, [], hW', ?_, ?_, rfl, hB.frame _, fun h => by cases h⟩
  · exact trodAll_mk1 (shut_bool Try.underlying4 true)
  · exact trodAll_mk2 (Below.trod list_laidOut (by kernel_rfl) (of_decide_eq_true (by kernel_rfl)) h0 hB hlt0) (Below.trod list_laidOut (by kernel_rfl) (of_decide_eq_true (by kernel_rfl)) h1 hB hlt1)

theorem FnExactManifestChanges_holds : Rows.FnExactManifestChangesSaid :=
  OpenClaim.holds_of_wide 4 Try.f4 rfl rfl rfl rfl rfl rfl rfl ⟨rfl, rfl, rfl, rfl, rfl⟩ rfl rfl rfl rfl rfl (by kernel_rfl) Try.func4 (by kernel_rfl)
    (of_decide_eq_true (by kernel_rfl)) (by unfold Func.isWrapper; first | (rw [if_pos (by decide +kernel)]; kernel_rfl) | (rw [if_neg (by decide +kernel)]; exact ⟨rfl, rfl⟩))
    (fun os started H enc _ => chg_lifted os started H enc)
#print axioms FnExactManifestChanges_holds
end Go.Proofs.Ytpmaaflpknjbmaa
