/-
  Proved here: the law FnExactSameYard returns true at every two yards, and they read afterwards as before. There are no conditions.
-/
import Derived.Test.YtdnbkfpcmjijlaaRows
import Derived.Test.YtdnbkfpcmjijlaaKeep
import Derived.Test.YtdnbkfpcmjijlaaSameT
import Derived.Test.YtdnbkfpcmjijlaaSameJ
import Derived.WalkKit
import Derived.ProofKit
import Derived.OpenShut
namespace Go.Proofs.Ytdnbkfpcmjijlaa
open Go.Joins Go.Deep Go.ChangeShapes Go.WideShapes Go.ChangeAt Go.RowKit

/-- What stays while both yards are read. -/
def Keep2 (w : World) (A X : Nat) (v0 y0 : Value) (Y Z : List (List Int)) (W : World) : Prop := Below w.heap.size w W ∧ YdR w (.agg #[v0]) Y ∧ YdR w (.agg #[y0]) Z ∧ Box1 W A v0 ∧ Box1 W X y0
theorem Keep2.below {w W W' : World} {A X : Nat} {v0 y0 : Value} {Y Z : List (List Int)} (h : Keep2 w A X v0 y0 Y Z W) (hb : Below W.heap.size W W') : Keep2 w A X v0 y0 Y Z W' :=
  ⟨h.1.trans (hb.mono h.1.size), h.2.1, h.2.2.1, h.2.2.2.1.below hb, h.2.2.2.2.below hb⟩
theorem Keep2.to1 {w W : World} {A X : Nat} {v0 y0 : Value} {Y Z : List (List Int)} (hn : Y.length ≤ 1048576) (ht : tot Y ≤ 1048576) (h : Keep2 w A X v0 y0 Y Z W) :
    Calls Try.prog 28 #[.agg #[v0]] W fun e w' => ∃ u, e = .returned u ∧ YdR w' u Y ∧ w'.cell? ⟨A, 0, none⟩ = some v0 ∧ w'.cell? ⟨X, 0, none⟩ = some y0 ∧ Keep2 w A X v0 y0 Y Z w' ∧ Below W.heap.size W w' := by
  refine (toY_any _ Y hn ht W (h.2.1.below h.1)).mono ?_
  rintro e w' ⟨a, c, rfl, ho, hb⟩
  have hk := h.below hb
  exact ⟨_, rfl, ⟨_, rfl, ho.yl⟩, hk.2.2.2.1.2, hk.2.2.2.2.2, hk, hb⟩
theorem Keep2.to2 {w W : World} {A X : Nat} {v0 y0 : Value} {Y Z : List (List Int)} (hn : Z.length ≤ 1048576) (ht : tot Z ≤ 1048576) (h : Keep2 w A X v0 y0 Y Z W) :
    Calls Try.prog 28 #[.agg #[y0]] W fun e w' => ∃ u, e = .returned u ∧ YdR w' u Z ∧ w'.cell? ⟨A, 0, none⟩ = some v0 ∧ w'.cell? ⟨X, 0, none⟩ = some y0 ∧ Keep2 w A X v0 y0 Y Z w' ∧ Below W.heap.size W w' := by
  refine (toY_any _ Z hn ht W (h.2.2.1.below h.1)).mono ?_
  rintro e w' ⟨a, c, rfl, ho, hb⟩
  have hk := h.below hb
  exact ⟨_, rfl, ⟨_, rfl, ho.yl⟩, hk.2.2.2.1.2, hk.2.2.2.2.2, hk, hb⟩
theorem specSame_is (v1 v2 : Value) (Y Z : List (List Int)) (h1 : Y.length ≤ 1048576) (h2 : tot Y ≤ 1048576) (h3 : Z.length ≤ 1048576) (h4 : tot Z ≤ 1048576) (w : World) (hy : YdR w v1 Y) (hz : YdR w v2 Z) :
    Calls Try.prog 43 #[v1, v2] w (RetP w (.tuple #[.bool (sameR Y Z), .bool (okSm Y Z)])) := specSame_any v1 v2 Y Z h1 h2 h3 h4 w hy hz _ _ rfl rfl

set_option maxRecDepth 100000 in
set_option maxHeartbeats 8000000 in
theorem sameYard_body (v u : Value) (Y Z : List (List Int)) (hn : Y.length ≤ maxLen) (hs : ∀ (j : Nat) (l : List Int), Y[j]? = some l → l.length ≤ maxLen) (hm : Z.length ≤ maxLen) (hs' : ∀ (j : Nat) (l : List Int), Z[j]? = some l → l.length ≤ maxLen) (w : World) (hv : YdR w v Y) (hu : YdR w u Z) :
    Calls Try.prog 13 #[v, u] w fun e w' => e = .returned (.bool true) ∧ Below w.heap.size w w' := by
  obtain ⟨v0, rfl, hv0⟩ := hv
  obtain ⟨y0, rfl, hu0⟩ := hu
  have HV : Hid (YdR w (.agg #[v0]) Y) := Lib.hid ⟨v0, rfl, hv0⟩
  have HW : Hid (YdR w (.agg #[y0]) Z) := Lib.hid ⟨y0, rfl, hu0⟩
  have HSm := Lib.hid hs
  have HSn := Lib.hid hs'
  have B0 := Lib.hid (two_alloc2 w (.cells #[v0] 43) (.cells #[y0] 43))
  have BY := Lib.hid ((Box1.new w v0 43).below (below_one (w.alloc (.cells #[v0] 43)) (.cells #[y0] 43)))
  have BZ := Lib.hid (Box1.new (w.alloc (.cells #[v0] 43)) y0 43)
  rw [show (w.alloc (.cells #[v0] 43)).heap.size = w.heap.size + 1 by simp] at BZ
  have a0 := BY.out.2
  have b0 := BZ.out.2
  clear hv0 hu0 hs hs'
  go_enter Try.func13, Try.ntmps13
  go_wp2_with fail
  generalize (w.alloc (.cells #[v0] 43)).alloc (.cells #[y0] 43) = w0 at *
  refine (szY_any _ Y 1048576 hn HSm.out (by decide) _ (HV.out.below B0.out)).mono ?_
  rintro e w1 ⟨hb, rfl | ⟨r, rfl, hr, hn2, ht2⟩⟩
  · have B := Lib.hid (B0.out.trans (hb.mono B0.out.size))
    clear hb
    go_wp2_with fail
    go_ret
    exact ⟨rfl, B.out⟩
  · have L1 := Lib.hid hn2
    have L2 := Lib.hid ht2
    have XA := Lib.hid (BY.out.below hb)
    have XB := Lib.hid (BZ.out.below hb)
    have B1 := Lib.hid (B0.out.trans (hb.mono B0.out.size))
    clear hb a0 b0
    have a0 := XA.out.2
    have b0 := XB.out.2
    go_wp2_with fail
    refine (szY_any _ Z r hm HSn.out hr _ (HW.out.below B1.out)).mono ?_
    rintro e w2 ⟨hb, rfl | ⟨r2, rfl, -, hn3, ht3⟩⟩
    · have B := Lib.hid (B1.out.trans (hb.mono B1.out.size))
      clear hb
      go_wp2_with fail
      go_ret
      exact ⟨rfl, B.out⟩
    · have L3 := Lib.hid hn3
      have L4 := Lib.hid ht3
      have YA := Lib.hid (XA.out.below hb)
      have YB := Lib.hid (XB.out.below hb)
      have B2 := Lib.hid (B1.out.trans (hb.mono B1.out.size))
      have KK : Hid (Keep2 w2 w.heap.size (w.heap.size + 1) v0 y0 Y Z w2) := Lib.hid ⟨Below.refl _ _, HV.out.below B2.out, HW.out.below B2.out, YA.out, YB.out⟩
      clear hb a0 b0
      have a0 := YA.out.2
      have b0 := YB.out.2
      go_wp2_with fail
      have KD : Keep2 w2 w.heap.size (w.heap.size + 1) v0 y0 Y Z w2.drew := KK.out.below ⟨rfl, rfl, rfl, Nat.le_refl _, fun _ _ => rfl⟩
      go_region_held3 (fun W => (W.cell? ⟨w.heap.size, 0, none⟩ = some v0 ∧ W.cell? ⟨w.heap.size + 1, 0, none⟩ = some y0) ∧ Keep2 w2 w.heap.size (w.heap.size + 1) v0 y0 Y Z W) (first | (exact ⟨by assumption, by assumption⟩) | go_keep) (first | (go_at_call 28; (with_reducible refine (Keep2.to1 L1.out L2.out (by assumption)).mono ?_); rintro e wA ⟨u1, rfl, R1, x0, x1, hKA, hbA⟩) | (go_at_call 28; (with_reducible refine (Keep2.to2 L3.out L4.out (by assumption)).mono ?_); rintro e wB ⟨u2, rfl, R2, x0, x1, hKB, hbB⟩) | (go_at_call 43; refine (specSame_is u1 u2 Y Z L1.out L2.out L3.out L4.out _ (R1.below hbB) R2).mono ?_; rintro e wC ⟨rfl, hbC⟩; have hKC := hKB.below hbC; have x0 := hKC.2.2.2.1.2; have x1 := hKC.2.2.2.2.2) | fail)
      rename World => wc
      have C3 := Lib.hid hKC.2.2.2.1
      have D3 := Lib.hid hKC.2.2.2.2
      have B3 : Hid (Below w.heap.size w wc) := Lib.hid (B2.out.trans (hKC.1.mono B2.out.size))
      have HI := Lib.hid (fun k1 k2 W h1 h2 => implSame_any k1 k2 Y Z L1.out L2.out L3.out L4.out W h1 h2)
      generalize sameR Y Z = x at *
      generalize okSm Y Z = b at *
      clear hKC x0 x1 hKB hKA hbA hbB hbC R1 R2 KD a0 b0
      have a0 := C3.out.2
      have b0 := D3.out.2
      go_wp2_with fail
      refine (toY_any _ Y L1.out L2.out _ (HV.out.below B3.out)).mono ?_
      rintro e w4 ⟨k1, k2, rfl, ho, hb4⟩
      have hb5 := below_one w4 (.cells #[.slice k1 Y.length k2] 26)
      have X5 := Lib.hid (Box1.new w4 (.slice k1 Y.length k2) 26)
      have P5 := Lib.hid (ho.yl.below hb5)
      have C5 := Lib.hid ((C3.out.below hb4).below hb5)
      have D5 := Lib.hid ((D3.out.below hb4).below hb5)
      have B4 : Hid (Below w.heap.size w w4) := Lib.hid (B3.out.trans (hb4.mono B3.out.size))
      have B5 := Lib.hid (B4.out.trans (hb5.mono B4.out.size))
      clear hb4 hb5 ho a0 b0
      have b0 := D5.out.2
      go_wp2_with fail
      generalize w4.alloc (.cells #[.slice k1 Y.length k2] 26) = w5 at *
      refine (toY_any _ Z L3.out L4.out _ (HW.out.below B5.out)).mono ?_
      rintro e w6 ⟨k3, k4, rfl, ho, hb6⟩
      have hb7 := below_one w6 (.cells #[.slice k3 Z.length k4] 26)
      have Y7 := Lib.hid (Box1.new w6 (.slice k3 Z.length k4) 26)
      have R7 := Lib.hid (ho.yl.below hb7)
      have X7 := Lib.hid ((X5.out.below hb6).below hb7)
      have P7 := Lib.hid ((P5.out.below hb6).below hb7)
      have C7 := Lib.hid ((C5.out.below hb6).below hb7)
      have D7 := Lib.hid ((D5.out.below hb6).below hb7)
      have B6 : Hid (Below w.heap.size w w6) := Lib.hid (B5.out.trans (hb6.mono B5.out.size))
      have B7 := Lib.hid (B6.out.trans (hb7.mono B6.out.size))
      clear hb6 hb7 ho b0
      have a0 := X7.out.2
      have b0 := Y7.out.2
      go_wp2_with fail
      generalize w6.alloc (.cells #[.slice k3 Z.length k4] 26) = w7 at *
      refine (HI.out _ _ _ ⟨_, rfl, P7.out⟩ ⟨_, rfl, R7.out⟩).mono ?_
      rintro e w8 ⟨rfl, hb8⟩
      have X8 := Lib.hid (X7.out.below hb8)
      have Y8 := Lib.hid (Y7.out.below hb8)
      have C8 := Lib.hid (C7.out.below hb8)
      have D8 := Lib.hid (D7.out.below hb8)
      have P8 := Lib.hid (P7.out.below hb8)
      have R8 := Lib.hid (R7.out.below hb8)
      have B8 : Hid (Below w.heap.size w w8) := Lib.hid (B7.out.trans (hb8.mono B7.out.size))
      clear hb8 a0 b0 X7 Y7 C7 D7 P7 R7
      have K8 : Hid (KeepY w8 w.heap.size w4.heap.size v0 (.slice k1 Y.length k2) Y w8) := Lib.hid ⟨Below.refl _ _, HV.out.below B8.out, ⟨_, rfl, P8.out⟩, C8.out, X8.out⟩
      have a0 := C8.out.2
      have b0 := X8.out.2
      go_wp2_with fail
      have KE := K8.out.drew
      obtain ⟨hk1, hk2⟩ : w8.drew.cell? ⟨w.heap.size, 0, none⟩ = some v0 ∧ w8.drew.cell? ⟨w4.heap.size, 0, none⟩ = some (.slice k1 Y.length k2) := ⟨KE.2.2.2.1.2, KE.2.2.2.2.2⟩
      go_region_held3 (fun W => (W.cell? ⟨w.heap.size, 0, none⟩ = some v0 ∧ W.cell? ⟨w4.heap.size, 0, none⟩ = some (.slice k1 Y.length k2)) ∧ KeepY w8 w.heap.size w4.heap.size v0 (.slice k1 Y.length k2) Y W) (go_keep) (first | (go_at_call 28; refine (KeepY.to L1.out L2.out (by assumption)).mono ?_; rintro e w' ⟨u, rfl, hu, x0, x1, hK⟩) | (go_at_call 29; refine (KeepY.eq L1.out L2.out (by assumption) (by assumption)).mono ?_; rintro e w' ⟨rfl, x0, x1, hK⟩))
      have hb9 := hK.1
      rename World => w9
      have Y9 := Lib.hid (Y8.out.below hb9)
      have D9 := Lib.hid (D8.out.below hb9)
      have R9 := Lib.hid (R8.out.below hb9)
      have B9 : Hid (Below w.heap.size w w9) := Lib.hid (B8.out.trans (hb9.mono B8.out.size))
      clear hK hu x0 x1 hb9 KE a0 b0 hk1 hk2
      have K9 : Hid (KeepY w9 (w.heap.size + 1) w6.heap.size y0 (.slice k3 Z.length k4) Z w9) := Lib.hid ⟨Below.refl _ _, HW.out.below B9.out, ⟨_, rfl, R9.out⟩, D9.out, Y9.out⟩
      have a0 := D9.out.2
      have b0 := Y9.out.2
      go_wp2_with fail
      have KE := K9.out.drew
      obtain ⟨hk1, hk2⟩ : w9.drew.cell? ⟨w.heap.size + 1, 0, none⟩ = some y0 ∧ w9.drew.cell? ⟨w6.heap.size, 0, none⟩ = some (.slice k3 Z.length k4) := ⟨KE.2.2.2.1.2, KE.2.2.2.2.2⟩
      go_region_held3 (fun W => (W.cell? ⟨w.heap.size + 1, 0, none⟩ = some y0 ∧ W.cell? ⟨w6.heap.size, 0, none⟩ = some (.slice k3 Z.length k4)) ∧ KeepY w9 (w.heap.size + 1) w6.heap.size y0 (.slice k3 Z.length k4) Z W) (go_keep) (first | (go_at_call 28; refine (KeepY.to L3.out L4.out (by assumption)).mono ?_; rintro e w' ⟨u, rfl, hu, x0, x1, hK⟩) | (go_at_call 29; refine (KeepY.eq L3.out L4.out (by assumption) (by assumption)).mono ?_; rintro e w' ⟨rfl, x0, x1, hK⟩))
      have BF := Lib.hid (B9.out.trans (hK.1.mono B9.out.size))
      clear hK hu x0 x1 KE a0 b0 hk1 hk2
      go_wp2_with fail
      go_ret
      exact ⟨rfl, BF.out⟩

set_option maxRecDepth 100000 in
theorem sameYard_lifted (os : Os) (started : os.Started) (H : Type) (enc : TypeId × Value → H) :
    ReturnsInHanded {} Try.checked os 13 .any (Rows.fnExactSameYardSpec.pre6 enc Try.prog Try.f13 Rows.fnExactSameYardRow.domain false) (Rows.fnExactSameYardSpec.post enc Try.prog Try.f13 false true false false) := by
  refine returnsInHanded_of_change (C := Try.checked) yard_own started (by kernel_rfl) Try.func13
    (ChangeSpec.witness6 (enc := enc) (C := Try.checked) false ⟨#[], #[.agg #[.slice none 0 0], .agg #[.slice none 0 0]], []⟩ 8 (by kernel_rfl) (by kernel_rfl) (by kernel_rfl) (by kernel_rfl)) ?_
  intro W base args ds gs before hval0 hW hcnd0 _
  have hval : ∀ (j : Nat) t v, Try.f13.params[j]? = some t → args[j]? = some v → Value.okWide Try.prog W .any base t v := hval0
  have hW' := hW
  obtain ⟨p, q, hA0, hV, rfl, hfz, _⟩ := hW
  have hA : DataW.TrodAll enc Try.prog W 0 (fun _ => true) true Try.f13.params.toList args.toList ds p := hA0
  rw [Try.params13] at hA hval
  obtain ⟨v0, v1, d0, d1, p0, p1, rfl, rfl, rfl, h0, h1⟩ := trodAll_two hA
  obtain ⟨rfl, rfl⟩ := trodVars_none hV
  clear hA0 hval0 hcnd0
  simp only [List.append_nil] at hW'
  have hlt : ∀ x ∈ p0 ++ p1, x.block < W.heap.size := fun x hx => by simpa using hW'.lt x (by simpa using hx)
  have hlt0 : ∀ x ∈ p0, x.block < W.heap.size := fun x hx => hlt x (List.mem_append_left _ hx)
  have hlt1 : ∀ x ∈ p1, x.block < W.heap.size := fun x hx => hlt x (List.mem_append_right _ hx)
  obtain ⟨Y, hn, hs, hv⟩ := open_yard (hval 0 43 v0 rfl rfl) h0 hlt0
  obtain ⟨Z, hn', hs', hv'⟩ := open_yard (hval 1 43 v1 rfl rfl) h1 hlt1
  refine (sameYard_body v0 v1 Y Z hn hs hn' hs' W hv hv').mono fun e W' ⟨he, hB⟩ => ?_
  subst he
  refine ⟨_, rfl, _, _, _, [], p0 ++ p1, [], hW', ?_, ?_, rfl, hB.frame _, fun h => by cases h⟩
  · exact trodAll_mk1 (shut_bool Try.underlying4 true)
  · exact trodAll_mk2 (Below.trod yard_laidOut (by kernel_rfl) (of_decide_eq_true (by kernel_rfl)) h0 hB hlt0) (Below.trod yard_laidOut (by kernel_rfl) (of_decide_eq_true (by kernel_rfl)) h1 hB hlt1)

theorem FnExactSameYard_holds : Rows.FnExactSameYardSaid :=
  OpenClaim.holds_of_wide 13 Try.f13 rfl rfl rfl rfl rfl rfl rfl ⟨rfl, rfl, rfl, rfl, rfl⟩ rfl rfl rfl rfl rfl (by kernel_rfl) Try.func13 (by kernel_rfl)
    (of_decide_eq_true (by kernel_rfl)) (by unfold Func.isWrapper; first | (rw [if_pos (by decide +kernel)]; kernel_rfl) | (rw [if_neg (by decide +kernel)]; exact ⟨rfl, rfl⟩))
    (fun os started H enc _ => sameYard_lifted os started H enc)
#print axioms FnExactSameYard_holds

end Go.Proofs.Ytdnbkfpcmjijlaa
