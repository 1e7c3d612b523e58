/-
  Proved here: the law FnExactDivisionBound returns true at every list and every number, and the arguments read afterwards as before. There are no conditions.
-/
import Derived.Test.YtffejbgcgagkpaaRows
import Derived.Test.YtffejbgcgagkpaaLsR
import Derived.Test.YtffejbgcgagkpaaCrS
import Derived.WalkKit
import Derived.ProofKit
import Derived.OpenShut
import Derived.Deep.RegionHeld3
namespace Go.Proofs.Ytffejbgcgagkpaa
open Go.Joins Go.Deep Go.ChangeShapes Go.WideShapes Go.ChangeAt Go.RowKit

set_option maxRecDepth 100000 in
set_option maxHeartbeats 16000000 in
theorem divisionBound_body (v : Value) (l : List Int) (n0 : Int) (r0 : Int) (r1 : Bool) (hn : l.length ≤ maxLen) (w : World) (hv : IL w v l)
    (hspec : l.length ≤ 1048576 → ∀ (u : Value) (W : World), OwnI W u l → Calls Try.prog 35 #[u, .int .i64 n0] W (RetP W (.tuple #[.int .i64 r0, .bool r1])))
    (himpl : l.length ≤ 1048576 → ∀ (u : Value) (W : World), OwnI W u l → Calls Try.prog 19 #[u, .int .i64 n0] W (RetP W (.tuple #[.int .i64 r0, .bool r1]))) :
    Calls Try.prog 7 #[v, .int .i64 n0] w fun e w' => e = .returned (.bool true) ∧ Below w.heap.size w w' := by
  have HV := Lib.hid hv
  have H1 := Lib.hid hspec
  have H2 := Lib.hid himpl
  obtain ⟨va, vc, rfl⟩ := hv.form
  clear hv hspec himpl
  obtain ⟨m, hm⟩ : ∃ m, l.length = m := ⟨_, rfl⟩
  have HM := Lib.hid hm
  rw [hm] at HV hn ⊢
  clear hm
  unfold maxLen at hn
  have B := Lib.hid (Below.refl w.heap.size w)
  by_cases hS : m ≤ 1048576
  case neg =>
    have hgt : (1048576 : Int) < (m : Int) := by omega
    go_enter Try.func7, Try.ntmps7
    go_wp2_with fail
    go_ret
    exact ⟨rfl, B.out⟩
  have hgt : ¬ (1048576 : Int) < (m : Int) := by omega
  have HS : Hid (l.length ≤ 1048576) := Lib.hid (by rw [HM.out]; exact hS)
  clear hS
  go_enter Try.func7, Try.ntmps7
  go_wp2_with fail
  refine (toI_any _ l HS.out _ (HV.out.below B.out)).mono ?_
  intro e w1 h1
  obtain ⟨u1, rfl, ho1, hb⟩ : ∃ u, e = .returned u ∧ OwnI w1 u l ∧ Below w.heap.size w w1 := by
    obtain ⟨a1, c1, rfl, ho1, hb⟩ := h1
    exact ⟨_, rfl, ⟨_, ho1⟩, hb⟩
  have HU := Lib.hid ho1
  clear h1 ho1
  have B := Lib.hid (B.out.trans (hb.mono B.out.size))
  clear hb
  go_wp2_with fail
  refine (H1.out HS.out _ _ HU.out).mono ?_
  rintro e w2 ⟨rfl, hb⟩
  have B := Lib.hid (B.out.trans (hb.mono B.out.size))
  clear hb HU
  go_wp2_with fail
  refine (toI_any _ l HS.out _ (HV.out.below B.out)).mono ?_
  rintro e w3 ⟨aX, cX, rfl, ox, hb⟩
  have B := Lib.hid (B.out.trans (hb.mono B.out.size))
  have OX := Lib.hid (lo_of_own ox (Nat.le_refl _))
  have Zw3 := Lib.hid hb.size
  clear hb ox
  rw [HM.out] at OX ⊢
  go_wp2_with fail
  refine (H2.out HS.out _ _ ⟨_, OX.out.2.1⟩).mono ?_
  rintro e w4 ⟨rfl, hb⟩
  have OX := Lib.hid (OX.out.below hb)
  have B := Lib.hid (B.out.trans (hb.mono B.out.size))
  clear hb
  go_wp2_with fail
  refine (toI_any _ l HS.out _ (HV.out.below B.out)).mono ?_
  intro e w5 h6
  obtain ⟨u6, rfl, hu6, hb⟩ : ∃ u, e = .returned u ∧ OwnI w5 u l ∧ Below w4.heap.size w4 w5 := by
    obtain ⟨a1, c1, rfl, ho1, hb⟩ := h6
    exact ⟨_, rfl, ⟨_, ho1⟩, hb⟩
  have HU := Lib.hid hu6
  clear h6 hu6
  have OX := Lib.hid (OX.out.below hb)
  have B := Lib.hid (B.out.trans (hb.mono B.out.size))
  clear hb
  go_wp2_with fail
  refine (eqL_any _ _ l HS.out _ OX.out.read HU.out.read).mono ?_
  rintro e w6 ⟨rfl, hb⟩
  have OX := Lib.hid (OX.out.below hb)
  have B := Lib.hid (B.out.trans (hb.mono B.out.size))
  clear hb
  clear HU
  go_wp2_with fail
  go_ret
  exact ⟨rfl, B.out⟩

set_option maxRecDepth 100000 in
theorem divisionBound_lifted (os : Os) (started : os.Started) (H : Type) (enc : TypeId × Value → H) :
    ReturnsInHanded {} Try.checked os 7 .any (Rows.fnExactDivisionBoundSpec.pre6 enc Try.prog Try.f7 Rows.fnExactDivisionBoundRow.domain false) (Rows.fnExactDivisionBoundSpec.post enc Try.prog Try.f7 false true false false) := by
  refine returnsInHanded_of_change (C := Try.checked) yard_own started (by kernel_rfl) Try.func7
    (ChangeSpec.witness6 (enc := enc) (C := Try.checked) false ⟨#[], #[.slice none 0 0, .int .i64 0], []⟩ 8 (by kernel_rfl) (by kernel_rfl) (by kernel_rfl) (by kernel_rfl)) ?_
  intro W base args ds gs before hval0 hW hcnd0 _
  have hval : ∀ (j : Nat) t v, Try.f7.params[j]? = some t → args[j]? = some v → Value.okWide Try.prog W .any base t v := hval0
  have hW' := hW
  obtain ⟨p, q, hA0, hV, rfl, hfz, _⟩ := hW
  have hA : DataW.TrodAll enc Try.prog W 0 (fun _ => true) true Try.f7.params.toList args.toList ds p := hA0
  rw [Try.params7] at hA hval
  obtain ⟨v0, v1, d0, d1, p0, p1, rfl, rfl, rfl, h0, h1⟩ := trodAll_two hA
  obtain ⟨rfl, rfl⟩ := trodVars_none hV
  obtain ⟨a0, len, cap, rfl⟩ := okWide_slice Try.underlying24 (hval 0 24 v0 rfl rfl)
  obtain ⟨n0, rfl, rfl, rfl, wn0⟩ := open_int Try.underlying3 (hval 1 3 v1 rfl rfl) h1
  clear hA0 hval0 hcnd0
  simp only [List.append_nil] at hW'
  have hlt : ∀ x ∈ p0, x.block < W.heap.size := fun x hx => by simpa using hW'.lt x (by simpa using hx)
  have hlt0 := hlt
  obtain ⟨l, hn, hv⟩ := open_il h0 hlt0
  refine (divisionBound_body (.slice a0 len cap) l n0 _ _ hn W hv (fun h u W hu => specDb_any u l n0 h W hu.read) (fun h u W hu => implDb_any u l n0 h W hu.read)).mono fun e W' ⟨he, hB⟩ => ?_
  subst he
  refine ⟨_, rfl, _, _, _, [], p0, [], hW', ?_, ?_, rfl, hB.frame _, fun h => by cases h⟩
  · exact trodAll_mk1 (shut_bool Try.underlying4 true)
  · have h9 := trodAll_mk2 (Below.trod yard_laidOut (by kernel_rfl) (of_decide_eq_true (by kernel_rfl)) h0 hB hlt0) (shut_int Try.underlying3 wn0)
    first
      | exact h9
      | (simp only [List.append_nil] at h9; exact h9)

theorem FnExactDivisionBound_holds : Rows.FnExactDivisionBoundSaid :=
  OpenClaim.holds_of_wide 7 Try.f7 rfl rfl rfl rfl rfl rfl rfl ⟨rfl, rfl, rfl, rfl, rfl⟩ rfl rfl rfl rfl rfl (by kernel_rfl) Try.func7 (by kernel_rfl)
    (of_decide_eq_true (by kernel_rfl)) (by unfold Func.isWrapper; first | (rw [if_pos (by decide +kernel)]; kernel_rfl) | (rw [if_neg (by decide +kernel)]; exact ⟨rfl, rfl⟩))
    (fun os started H enc _ => divisionBound_lifted os started H enc)
#print axioms FnExactDivisionBound_holds
end Go.Proofs.Ytffejbgcgagkpaa
