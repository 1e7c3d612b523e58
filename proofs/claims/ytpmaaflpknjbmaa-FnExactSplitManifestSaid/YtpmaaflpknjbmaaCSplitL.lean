/-
  Proved here: the law FnExactSplitManifest returns true at every list of containers and every int, and both read afterwards as they read before. There are no conditions.
-/
import Derived.Test.YtpmaaflpknjbmaaRows
import Derived.Test.YtpmaaflpknjbmaaCOpen
import Derived.Test.YtpmaaflpknjbmaaCSplit
import Derived.WalkKit
import Derived.ProofKit
import Derived.OpenShut
namespace Go.Proofs.Ytpmaaflpknjbmaa
open Go.Proofs.Ytpmaaflpknjbmaa.C
open Go.Joins Go.Deep Go.ChangeShapes Go.WideShapes Go.ChangeAt Go.RowKit

theorem markV_one (v : Value) (n : Nat) (f : Nat → Cont) (hn : n ≤ 1048576) (w : World) (h : CV w v n f) :
    Calls Try.prog 13 #[v, .int .i64 1] w fun e w' => e = .returned (.int .i64 (1 + 5 * (n : Int))) ∧ CV w' v n (mkC 1) ∧ w.grownBy w' v.ownBlock :=
  markV_any v n 1 f hn (by decide) (by decide) w h
theorem markV_from (v : Value) (n m : Nat) (f : Nat → Cont) (hn : n ≤ 1000) (hm : m ≤ 1000) (w : World) (h : CV w v n f) :
    Calls Try.prog 13 #[v, .int .i64 (1 + 5 * (m : Int))] w fun e w' => e = .returned (.int .i64 (1 + 5 * (m : Int) + 5 * (n : Int))) ∧ CV w' v n (mkC (1 + 5 * m)) ∧ w.grownBy w' v.ownBlock := by
  have := markV_any v n (1 + 5 * m) f (by omega) (by omega) (by omega) w h
  rw [show (((1 + 5 * m : Nat)) : Int) = 1 + 5 * (m : Int) by omega] at this
  exact this
theorem heldV_one (v : Value) (n : Nat) (hn : n ≤ 1048576) (w : World) (h : CV w v n (mkC 1)) :
    Calls Try.prog 23 #[v, .int .i64 1] w fun e w' => e = .returned (.int .i64 (1 + 5 * (n : Int))) ∧ Below w.heap.size w w' :=
  heldV_any v n 1 hn (by decide) (by decide) w h
theorem heldV_from (v : Value) (n m : Nat) (hn : n ≤ 1000) (hm : m ≤ 1000) (w : World) (h : CV w v n (mkC (1 + 5 * m))) :
    Calls Try.prog 23 #[v, .int .i64 (1 + 5 * (m : Int))] w fun e w' => e = .returned (.int .i64 (1 + 5 * (m : Int) + 5 * (n : Int))) ∧ Below w.heap.size w w' := by
  have := heldV_any v n (1 + 5 * m) (by omega) (by omega) (by omega) w h
  rw [show (((1 + 5 * m : Nat)) : Int) = 1 + 5 * (m : Int) by omega] at this
  exact this

theorem own_is {g n c j : Nat} (e : some j = (Value.slice (some ⟨g, 0, none⟩) n c).ownBlock) : j = g := by simpa [Value.ownBlock] using e

/-- Two lists of the call's own were answered. -/
def TwoV (w : World) (n1 : Nat) (f1 : Nat → Cont) (n2 : Nat) (f2 : Nat → Cont) (ok : Bool) (e : Ending) (W : World) : Prop :=
  ∃ v1 v2, e = .returned (.tuple #[v1, v2, .bool ok]) ∧ CV W v1 n1 f1 ∧ CV W v2 n2 f2 ∧ (∀ j, v1.ownBlock = some j → v2.ownBlock ≠ some j) ∧ (∀ j, v1.ownBlock = some j ∨ v2.ownBlock = some j → w.heap.size ≤ j ∧ j < W.heap.size) ∧ Below w.heap.size w W
theorem twoV_of (w : World) (l1 l2 : List Cont) (ok : Bool) (e : Ending) (W : World) (h : SplitPost w l1 l2 ok e W) : TwoV w l1.length (fun j => l1[j]!) l2.length (fun j => l2[j]!) ok e W := by
  obtain ⟨v1, v2, he, r1, r2, ap, hb⟩ := h
  exact ⟨v1, v2, he, cv_of_row r1, cv_of_row r2, ap, fun j hj => by
    rcases hj with hj | hj
    · exact ⟨row_base r1 j hj, row_lt r1 j hj⟩
    · exact ⟨row_base r2 j hj, row_lt r2 j hj⟩, hb⟩

set_option maxRecDepth 100000 in
set_option maxHeartbeats 4000000 in
theorem splitLaw (v : Value) (n : Nat) (f : Nat → Cont) (p : Int) (n1 n2 : Nat) (f1 f2 : Nat → Cont) (ok : Bool) (hn1 : n1 ≤ 1000) (hn2 : n2 ≤ 1000) (hn : n ≤ maxLen) (hsz : ∀ j, j < n → (f j).id.size ≤ maxLen) (w : World) (hv : ArgC w v n f)
    (hspec : n ≤ 1048576 → (∀ j, j < n → (f j).id.size ≤ 1048576) → ∀ g W, CAt W g 0 n f → Calls Try.prog 24 #[.slice (some ⟨g, 0, none⟩) n n, .int .i64 p] W (TwoV W n1 f1 n2 f2 ok))
    (himpl : n ≤ 1048576 → (∀ j, j < n → (f j).id.size ≤ 1048576) → ∀ g W, CAt W g 0 n f → Calls Try.prog 25 #[.slice (some ⟨g, 0, none⟩) n n, .int .i64 p] W (TwoV W n1 f1 n2 f2 ok)) :
    Calls Try.prog 6 #[v, .int .i64 p] w fun e w' => e = .returned (.bool true) ∧ Below w.heap.size w w' := by
  have HZ := Lib.hid hsz
  have HV := Lib.hid hv
  have H1 := Lib.hid hspec
  have H2 := Lib.hid himpl
  clear hsz hv hspec himpl
  go_enter Try.func6, Try.ntmps6
  go_wp2_with fail
  refine (szC_any v n f hn HZ.out _ HV.out).mono ?_
  rintro e w1 ⟨hb1, rfl | ⟨r, rfl, hn2', hf2⟩⟩
  · have B1 := Lib.hid hb1
    clear hb1
    go_wp2_with fail
    go_ret
    exact ⟨rfl, B1.out⟩
  · have HF := Lib.hid hf2
    have B1 := Lib.hid hb1
    clear hf2 hb1
    go_wp2_with fail
    refine (toC_any v n f hn2' _ (HV.out.below B1.out)).mono ?_
    rintro e w2 ⟨rfl, hc2, hb2, -⟩
    have C2 := Lib.hid hc2
    have B2 : Hid (Below w.heap.size w w2) := Lib.hid (B1.out.trans (hb2.mono B1.out.size))
    clear hc2 hb2
    go_wp2_with fail
    refine (H1.out hn2' HF.out _ _ C2.out).mono ?_
    rintro e w3 ⟨a1, a2, rfl, hr1, hr2, -, hl, hb3⟩
    have A1 := Lib.hid hr1
    have A2 := Lib.hid hr2
    have LA := Lib.hid hl
    have B3 : Hid (Below w.heap.size w w3) := Lib.hid (B2.out.trans (hb3.mono B2.out.size))
    clear hr1 hr2 hl hb3
    go_wp2_with fail
    refine (toC_any v n f hn2' _ (HV.out.below B3.out)).mono ?_
    rintro e w4 ⟨rfl, hc4, hb4, hk4⟩
    have X := Lib.hid (cv_of_copy hc4 hk4)
    have C4 := Lib.hid hc4
    have A1 := Lib.hid (A1.out.below hb4)
    have A2 := Lib.hid (A2.out.below hb4)
    have S4 := hc4.1
    have B4 : Hid (Below w.heap.size w w4) := Lib.hid (B3.out.trans (hb4.mono B3.out.size))
    clear hc4 hb4 hk4
    go_wp2_with fail
    refine (H2.out hn2' HF.out _ _ C4.out).mono ?_
    rintro e w5 ⟨u1, u2, rfl, hr1, hr2, hap, hl, hb5⟩
    have U1 := Lib.hid hr1
    have U2 := Lib.hid hr2
    have AP := Lib.hid hap
    have LU := Lib.hid hl
    have A1 := Lib.hid (A1.out.below hb5)
    have A2 := Lib.hid (A2.out.below hb5)
    have X := Lib.hid (X.out.below hb5)
    have B5 : Hid (Below w.heap.size w w5) := Lib.hid (B4.out.trans (hb5.mono B4.out.size))
    clear hr1 hr2 hap hl hb5
    go_wp2_with fail
    refine (eqC_any u1 a1 n1 f1 (by omega) _ U1.out A1.out).mono ?_
    rintro e w6 ⟨rfl, hb⟩
    have U1 := Lib.hid (U1.out.below hb)
    have U2 := Lib.hid (U2.out.below hb)
    have A1 := Lib.hid (A1.out.below hb)
    have A2 := Lib.hid (A2.out.below hb)
    have X := Lib.hid (X.out.below hb)
    have B6 : Hid (Below w.heap.size w w6) := Lib.hid (B5.out.trans (hb.mono B5.out.size))
    clear hb
    go_wp2_with fail
    refine (eqC_any u2 a2 n2 f2 (by omega) _ U2.out A2.out).mono ?_
    rintro e w7 ⟨rfl, hb⟩
    have U1 := Lib.hid (U1.out.below hb)
    have U2 := Lib.hid (U2.out.below hb)
    have A1 := Lib.hid (A1.out.below hb)
    have A2 := Lib.hid (A2.out.below hb)
    have X := Lib.hid (X.out.below hb)
    have B7 : Hid (Below w.heap.size w w7) := Lib.hid (B6.out.trans (hb.mono B6.out.size))
    clear hb
    go_wp2_with fail
    refine (toC_any v n f hn2' _ (HV.out.below B7.out)).mono ?_
    rintro e w8 ⟨rfl, hc8, hb, hk8⟩
    have Y := Lib.hid (cv_of_copy hc8 hk8)
    have U1 := Lib.hid (U1.out.below hb)
    have U2 := Lib.hid (U2.out.below hb)
    have A1 := Lib.hid (A1.out.below hb)
    have A2 := Lib.hid (A2.out.below hb)
    have X := Lib.hid (X.out.below hb)
    have B8 : Hid (Below w.heap.size w w8) := Lib.hid (B7.out.trans (hb.mono B7.out.size))
    clear hb hc8 hk8
    go_wp2_with fail
    refine (eqC_any _ _ n f hn2' _ X.out Y.out).mono ?_
    rintro e w9 ⟨rfl, hb⟩
    have U1 := Lib.hid (U1.out.below hb)
    have U2 := Lib.hid (U2.out.below hb)
    have A1 := Lib.hid (A1.out.below hb)
    have A2 := Lib.hid (A2.out.below hb)
    have X := Lib.hid (X.out.below hb)
    have B9 : Hid (Below w.heap.size w w9) := Lib.hid (B8.out.trans (hb.mono B8.out.size))
    clear hb Y
    go_wp2_with fail
    refine (markV_one _ n f hn2' _ X.out).mono ?_
    rintro e w10 ⟨rfl, -, hg⟩
    have U1 := Lib.hid (U1.out.kept hg (fun j hj e => by have := (LU.out j (.inl hj)).1; have := own_is e; omega))
    have U2 := Lib.hid (U2.out.kept hg (fun j hj e => by have := (LU.out j (.inr hj)).1; have := own_is e; omega))
    have A1 := Lib.hid (A1.out.kept hg (fun j hj e => by have := (LA.out j (.inl hj)).2; have := own_is e; omega))
    have A2 := Lib.hid (A2.out.kept hg (fun j hj e => by have := (LA.out j (.inr hj)).2; have := own_is e; omega))
    have B10 : Hid (Below w.heap.size w w10) := Lib.hid (B9.out.grown hg B9.out.size (fun k e => by have := own_is e.symm; have := B3.out.size; omega))
    clear hg X
    go_wp2_with fail
    refine (eqC_any u1 a1 n1 f1 (by omega) _ U1.out A1.out).mono ?_
    rintro e w11 ⟨rfl, hb⟩
    have U1 := Lib.hid (U1.out.below hb)
    have U2 := Lib.hid (U2.out.below hb)
    have A1 := Lib.hid (A1.out.below hb)
    have A2 := Lib.hid (A2.out.below hb)
    have B11 : Hid (Below w.heap.size w w11) := Lib.hid (B10.out.trans (hb.mono B10.out.size))
    clear hb
    go_wp2_with fail
    refine (eqC_any u2 a2 n2 f2 (by omega) _ U2.out A2.out).mono ?_
    rintro e w12 ⟨rfl, hb⟩
    have U1 := Lib.hid (U1.out.below hb)
    have U2 := Lib.hid (U2.out.below hb)
    have A1 := Lib.hid (A1.out.below hb)
    have A2 := Lib.hid (A2.out.below hb)
    have B12 : Hid (Below w.heap.size w w12) := Lib.hid (B11.out.trans (hb.mono B11.out.size))
    clear hb
    go_wp2_with fail
    refine (markV_one u1 n1 f1 (by omega) _ U1.out).mono ?_
    rintro e w13 ⟨rfl, hm, hg⟩
    have M1 := Lib.hid hm
    have U2 := Lib.hid (U2.out.kept hg (fun j hj e => AP.out j e.symm hj))
    have A1 := Lib.hid (A1.out.kept hg (fun j hj e => by have := (LA.out j (.inl hj)).2; have := (LU.out j (.inl e.symm)).1; omega))
    have A2 := Lib.hid (A2.out.kept hg (fun j hj e => by have := (LA.out j (.inr hj)).2; have := (LU.out j (.inl e.symm)).1; omega))
    have B13 : Hid (Below w.heap.size w w13) := Lib.hid (B12.out.grown hg B12.out.size (fun k e => by have := (LU.out k (.inl e)).1; have := B3.out.size; omega))
    clear hg hm
    go_wp2_with fail
    refine (markV_from u2 n2 n1 f2 hn2 hn1 _ U2.out).mono ?_
    rintro e w14 ⟨rfl, hm, hg⟩
    have M1 := Lib.hid (M1.out.kept hg (fun j hj e => AP.out j hj e.symm))
    have M2 := Lib.hid hm
    have A1 := Lib.hid (A1.out.kept hg (fun j hj e => by have := (LA.out j (.inl hj)).2; have := (LU.out j (.inr e.symm)).1; omega))
    have A2 := Lib.hid (A2.out.kept hg (fun j hj e => by have := (LA.out j (.inr hj)).2; have := (LU.out j (.inr e.symm)).1; omega))
    have B14 : Hid (Below w.heap.size w w14) := Lib.hid (B13.out.grown hg B13.out.size (fun k e => by have := (LU.out k (.inr e)).1; have := B3.out.size; omega))
    clear hg hm U2 U1
    go_wp2_with fail
    refine (heldV_one u1 n1 (by omega) _ M1.out).mono ?_
    rintro e w15 ⟨rfl, hb⟩
    have M1 := Lib.hid (M1.out.below hb)
    have M2 := Lib.hid (M2.out.below hb)
    have A1 := Lib.hid (A1.out.below hb)
    have A2 := Lib.hid (A2.out.below hb)
    have B15 : Hid (Below w.heap.size w w15) := Lib.hid (B14.out.trans (hb.mono B14.out.size))
    clear hb
    go_wp2_with fail
    refine (heldV_from u2 n2 n1 hn2 hn1 _ M2.out).mono ?_
    rintro e w16 ⟨rfl, hb⟩
    have M1 := Lib.hid (M1.out.below hb)
    have M2 := Lib.hid (M2.out.below hb)
    have A1 := Lib.hid (A1.out.below hb)
    have A2 := Lib.hid (A2.out.below hb)
    have B16 : Hid (Below w.heap.size w w16) := Lib.hid (B15.out.trans (hb.mono B15.out.size))
    clear hb
    go_wp2_with fail
    refine (toC_any v n f hn2' _ (HV.out.below B16.out)).mono ?_
    rintro e w17 ⟨rfl, hc, hb, -⟩
    have C17 := Lib.hid hc
    have M1 := Lib.hid (M1.out.below hb)
    have M2 := Lib.hid (M2.out.below hb)
    have A1 := Lib.hid (A1.out.below hb)
    have A2 := Lib.hid (A2.out.below hb)
    have B17 : Hid (Below w.heap.size w w17) := Lib.hid (B16.out.trans (hb.mono B16.out.size))
    clear hb hc
    go_wp2_with fail
    refine (H2.out hn2' HF.out _ _ C17.out).mono ?_
    rintro e w18 ⟨z1, z2, rfl, hr1, hr2, -, -, hb⟩
    have Z1 := Lib.hid hr1
    have Z2 := Lib.hid hr2
    have M1 := Lib.hid (M1.out.below hb)
    have M2 := Lib.hid (M2.out.below hb)
    have A1 := Lib.hid (A1.out.below hb)
    have A2 := Lib.hid (A2.out.below hb)
    have B18 : Hid (Below w.heap.size w w18) := Lib.hid (B17.out.trans (hb.mono B17.out.size))
    clear hb hr1 hr2
    go_wp2_with fail
    refine (eqC_any z1 a1 n1 f1 (by omega) _ Z1.out A1.out).mono ?_
    rintro e w19 ⟨rfl, hb⟩
    have Z2 := Lib.hid (Z2.out.below hb)
    have M1 := Lib.hid (M1.out.below hb)
    have M2 := Lib.hid (M2.out.below hb)
    have A2 := Lib.hid (A2.out.below hb)
    have B19 : Hid (Below w.heap.size w w19) := Lib.hid (B18.out.trans (hb.mono B18.out.size))
    clear hb
    go_wp2_with fail
    refine (eqC_any z2 a2 n2 f2 (by omega) _ Z2.out A2.out).mono ?_
    rintro e w20 ⟨rfl, hb⟩
    have M1 := Lib.hid (M1.out.below hb)
    have M2 := Lib.hid (M2.out.below hb)
    have B20 : Hid (Below w.heap.size w w20) := Lib.hid (B19.out.trans (hb.mono B19.out.size))
    clear hb
    go_wp2_with fail
    refine (heldV_one u1 n1 (by omega) _ M1.out).mono ?_
    rintro e w21 ⟨rfl, hb⟩
    have M2 := Lib.hid (M2.out.below hb)
    have B21 : Hid (Below w.heap.size w w21) := Lib.hid (B20.out.trans (hb.mono B20.out.size))
    clear hb
    go_wp2_with fail
    refine (heldV_from u2 n2 n1 hn2 hn1 _ M2.out).mono ?_
    rintro e w22 ⟨rfl, hb⟩
    have B22 : Hid (Below w.heap.size w w22) := Lib.hid (B21.out.trans (hb.mono B21.out.size))
    clear hb
    go_wp2_with fail
    go_ret
    exact ⟨rfl, B22.out⟩

theorem split_walk (v : Value) (n : Nat) (f : Nat → Cont) (p : Int) (hn : n ≤ maxLen) (hsz : ∀ j, j < n → (f j).id.size ≤ maxLen) (w : World) (hv : ArgC w v n f) :
    Calls Try.prog 6 #[v, .int .i64 p] w fun e w' => e = .returned (.bool true) ∧ Below w.heap.size w w' := by
  by_cases h : listB n f = true ∧ (1 ≤ p ∧ p ≤ 9)
  · have h12 := ((listB_iff n f).1 h.1).1
    have hl := pickL_len f p n
    exact splitLaw v n f p (pickL f p n).length (restL f p n).length (fun j => (pickL f p n)[j]!) (fun j => (restL f p n)[j]!) true (by omega) (by omega) hn hsz w hv
      (fun hn2 hf2 g W hC => (specSplit_yes g n n f p hn2 hf2 W hC h.1 h.2).mono fun e W' he => twoV_of W _ _ true e W' he)
      (fun hn2 hf2 g W hC => (implSplit_yes g n n f p hn2 hf2 (Nat.le_refl _) W hC h.1 h.2).mono fun e W' he => twoV_of W _ _ true e W' he)
  · have h' : listB n f = false ∨ ¬ (1 ≤ p ∧ p ≤ 9) := by
      cases hb : listB n f with
      | false => exact .inl rfl
      | true => exact .inr fun hp => h ⟨hb, hp⟩
    exact splitLaw v n f p 0 0 (fun j => ([] : List Cont)[j]!) (fun j => ([] : List Cont)[j]!) false (by omega) (by omega) hn hsz w hv
      (fun hn2 hf2 g W hC => (specSplit_no g n n f p hn2 hf2 W hC h').mono fun e W' he => twoV_of W [] [] false e W' he)
      (fun hn2 hf2 g W hC => (implSplit_no g n n f p hn2 hf2 (Nat.le_refl _) W hC h').mono fun e W' he => twoV_of W [] [] false e W' he)

set_option maxRecDepth 100000 in
theorem split_lifted (os : Os) (started : os.Started) (H : Type) (enc : TypeId × Value → H) :
    ReturnsInHanded {} Try.checked os 6 .any (Rows.fnExactSplitManifestSpec.pre6 enc Try.prog Try.f6 Rows.fnExactSplitManifestRow.domain false) (Rows.fnExactSplitManifestSpec.post enc Try.prog Try.f6 false true false false) := by
  refine returnsInHanded_of_change (C := Try.checked) list_own started (by kernel_rfl) Try.func6
    (ChangeSpec.witness6 (enc := enc) (C := Try.checked) false ⟨#[], #[.slice none 0 0, .int .i64 0], []⟩ 8 (by kernel_rfl) (by kernel_rfl) (by kernel_rfl) (by kernel_rfl)) ?_
  intro W base args ds gs before hval0 hW hcnd0 _
  have hval : ∀ (j : Nat) t v, Try.f6.params[j]? = some t → args[j]? = some v → Value.okWide Try.prog W .any base t v := hval0
  have hW' := hW
  obtain ⟨p, q, hA0, hV, rfl, hfz, _⟩ := hW
  have hA : DataW.TrodAll enc Try.prog W 0 (fun _ => true) true Try.f6.params.toList args.toList ds p := hA0
  rw [Try.params6] at hA hval
  obtain ⟨v0, v1, d0, d1, p0, p1, rfl, rfl, rfl, h0, h1⟩ := trodAll_two hA
  obtain ⟨rfl, rfl⟩ := trodVars_none hV
  obtain ⟨a0, len, cap, rfl⟩ := okWide_slice Try.underlying22 (hval 0 22 v0 rfl rfl)
  obtain ⟨s, rfl, rfl, rfl, ws⟩ := open_int Try.underlying3 (hval 1 3 v1 rfl rfl) h1
  clear hA0 hval0 hcnd0
  simp only [List.append_nil] at hW'
  have hlt : ∀ x ∈ p0, x.block < W.heap.size := fun x hx => by simpa using hW'.lt x (by simpa using hx)
  obtain ⟨f, hn, hsz, hv⟩ := open_conts h0 hlt
  refine (split_walk (.slice a0 len cap) len f s hn hsz W hv).mono fun e W' ⟨he, hB⟩ => ?_
  subst he
  refine ⟨_, rfl, _, _, _, [], p0, [], hW', ?_, ?_, rfl, hB.frame _, fun h => by cases h⟩
  · exact trodAll_mk1 (shut_bool Try.underlying4 true)
  · have h2 := trodAll_mk2 (Below.trod list_laidOut (by kernel_rfl) (of_decide_eq_true (by kernel_rfl)) h0 hB hlt) (shut_int Try.underlying3 ws)
    rw [List.append_nil] at h2
    exact h2

theorem FnExactSplitManifest_holds : Rows.FnExactSplitManifestSaid :=
  OpenClaim.holds_of_wide 6 Try.f6 rfl rfl rfl rfl rfl rfl rfl ⟨rfl, rfl, rfl, rfl, rfl⟩ rfl rfl rfl rfl rfl (by kernel_rfl) Try.func6 (by kernel_rfl)
    (of_decide_eq_true (by kernel_rfl)) (by unfold Func.isWrapper; first | (rw [if_pos (by decide +kernel)]; kernel_rfl) | (rw [if_neg (by decide +kernel)]; exact ⟨rfl, rfl⟩))
    (fun os started H enc _ => split_lifted os started H enc)
#print axioms FnExactSplitManifest_holds
end Go.Proofs.Ytpmaaflpknjbmaa
