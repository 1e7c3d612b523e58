/-
  Proved here: the law FnExactSplitString returns true at every two strings, and both strings read afterwards as they read before. There are no conditions.
-/
import Derived.Test.YtaebphbnfnjfcaaRows
import Derived.Test.YtaebphbnfnjfcaaSplitS
import Derived.Test.YtaebphbnfnjfcaaMarks
import Derived.WalkKit
import Derived.ProofKit
import Derived.OpenShut
namespace Go.Proofs.Ytaebphbnfnjfcaa
open Go.ChangeShapes Go.WideShapes Go.ChangeAt Go.RowKit
open Go.ChangeMaps (open_string shut_string)

theorem row_lt {W : World} {base e size k : Nat} {v : Value} {xs : List Value} (h : W.ownsRow base e size v k xs) : ∀ j, v.ownBlock = some j → j < W.heap.size := by
  intro j hj
  rcases h.2 with ⟨rfl, _⟩ | ⟨g, cap, cur, rfl, hg, hb, _⟩
  · simp [Value.ownBlock] at hj
  · have : g = j := by simpa [Value.ownBlock] using hj
    subst this
    exact (Array.getElem?_eq_some_iff.1 hb).1

theorem markS_one (v : Value) (n : Nat) (f : Nat → ByteArray) (hn : n ≤ 5000) (w : World) (h : RowV w v n f) :
    Calls Try.prog 19 #[v, .int .i64 1] w fun e w' => e = .returned (.int .i64 (1 + (n : Int))) ∧ RowV w' v n (fun j => mt (1 + j)) ∧ w.grownBy w' v.ownBlock :=
  markS_any v n f (by omega) 1 (by decide) (by decide) w h
theorem heldS_one (v : Value) (n : Nat) (hn : n ≤ 5000) (w : World) (h : RowV w v n (fun j => mt (1 + j))) :
    Calls Try.prog 20 #[v, .int .i64 1] w fun e w' => e = .returned (.int .i64 (1 + (n : Int))) ∧ Below w.heap.size w w' :=
  heldS_any v n (by omega) 1 (by decide) (by decide) w h

/-- The law's road, where both functions answer with the same list of texts. -/
theorem splitLaw (s sep : ByteArray) (ps : List ByteArray) (ok : Bool) (hp : ps.length ≤ 5000) (w : World) (hs1 : ¬ 1048576 < s.size) (hs2 : ¬ 1048576 < sep.size)
    (hspec : ∀ w, Calls Try.prog 17 #[.string s, .string sep] w (SplitPost w ps ok)) (himpl : ∀ w, Calls Try.prog 10 #[.string s, .string sep] w (SplitPost w ps ok)) :
    Calls Try.prog 4 #[.string s, .string sep] w fun e w' => e = .returned (.bool true) ∧ Below w.heap.size w w' := by
  have H1 := Lib.hid hspec
  have H2 := Lib.hid himpl
  clear hspec himpl
  go_enter Try.func4, Try.ntmps4
  go_wp2_with fail
  refine (H1.out _).mono ?_
  rintro e w1 ⟨v1, rfl, hr1, hb1⟩
  go_wp2_with fail
  refine (H2.out _).mono ?_
  rintro e w2 ⟨v2, rfl, hr2, hb2⟩
  have A1 : Hid (RowV w2 v1 ps.length (fun j => ps[j]?.getD ByteArray.empty)) := Lib.hid ((rowV_of_owns hr1).below hb2)
  have A2 : Hid (RowV w2 v2 ps.length (fun j => ps[j]?.getD ByteArray.empty)) := Lib.hid (rowV_of_owns hr2)
  have N1 : Hid (∀ j, v1.ownBlock = some j → some j ≠ v2.ownBlock) := Lib.hid fun j hj e => by
    have l1 := row_lt hr1 j hj
    have l2 := row_base hr2 j e.symm
    omega
  have B2 : Hid (∀ j, v2.ownBlock = some j → w.heap.size ≤ j) := Lib.hid fun j hj => by
    have l2 := row_base hr2 j hj
    have := hb1.size
    omega
  have C2 : Hid (Below w.heap.size w w2) := Lib.hid (hb1.trans (hb2.mono hb1.size))
  clear hr1 hr2 hb1 hb2
  go_wp2_with fail
  refine (eqS_any v2 v1 ps.length _ (by omega) _ A2.out A1.out).mono ?_
  rintro e w3 ⟨rfl, k3, rfl⟩
  go_wp2_with fail
  refine (markS_one v2 ps.length _ hp _ (show RowV (w2.drewN k3) v2 ps.length _ from A2.out)).mono ?_
  rintro e w4 ⟨rfl, hm4, hg4⟩
  have A4 : Hid (RowV w4 v1 ps.length (fun j => ps[j]?.getD ByteArray.empty)) := Lib.hid ((show RowV (w2.drewN k3) v1 ps.length _ from A1.out).kept hg4 N1.out)
  have M4 := Lib.hid hm4
  have C4 : Hid (Below w.heap.size w w4) := Lib.hid ((below_drewN C2.out k3).grown hg4 (by have := C2.out.size; exact this) B2.out)
  clear hm4 hg4
  go_wp2_with fail
  refine (heldS_one v2 ps.length hp _ M4.out).mono ?_
  rintro e w5 ⟨rfl, hb5⟩
  have A5 : Hid (RowV w5 v1 ps.length (fun j => ps[j]?.getD ByteArray.empty)) := Lib.hid (A4.out.below hb5)
  have M5 : Hid (RowV w5 v2 ps.length (fun j => mt (1 + j))) := Lib.hid (M4.out.below hb5)
  have C5 : Hid (Below w.heap.size w w5) := Lib.hid (C4.out.trans (hb5.mono C4.out.size))
  clear hb5
  go_wp2_with fail
  refine (H2.out _).mono ?_
  rintro e w6 ⟨v3, rfl, hr6, hb6⟩
  have A6 : Hid (RowV w6 v1 ps.length (fun j => ps[j]?.getD ByteArray.empty)) := Lib.hid (A5.out.below hb6)
  have R6 : Hid (RowV w6 v3 ps.length (fun j => ps[j]?.getD ByteArray.empty)) := Lib.hid (rowV_of_owns hr6)
  have M6 : Hid (RowV w6 v2 ps.length (fun j => mt (1 + j))) := Lib.hid (M5.out.below hb6)
  have C6 : Hid (Below w.heap.size w w6) := Lib.hid (C5.out.trans (hb6.mono C5.out.size))
  clear hr6 hb6
  go_wp2_with fail
  refine (eqS_any v3 v1 ps.length _ (by omega) _ R6.out A6.out).mono ?_
  rintro e w7 ⟨rfl, k7, rfl⟩
  go_wp2_with fail
  refine (heldS_one v2 ps.length hp _ (show RowV (w6.drewN k7) v2 ps.length _ from M6.out)).mono ?_
  rintro e w8 ⟨rfl, hb8⟩
  have C8 : Hid (Below w.heap.size w w8) := Lib.hid ((below_drewN C6.out k7).trans (hb8.mono (by have := C6.out.size; exact this)))
  clear hb8
  go_wp2_with fail
  go_ret
  exact ⟨rfl, C8.out⟩

theorem split_walk (s sep : ByteArray) (w : World) :
    Calls Try.prog 4 #[.string s, .string sep] w fun e w' => e = .returned (.bool true) ∧ Below w.heap.size w w' := by
  by_cases h1 : 1048576 < s.size
  · go_enter Try.func4, Try.ntmps4
    go_wp2_with fail
    go_ret
    exact ⟨rfl, Below.refl _ _⟩
  · by_cases h2 : 1048576 < sep.size
    · go_enter Try.func4, Try.ntmps4
      go_wp2_with fail
      go_ret
      exact ⟨rfl, Below.refl _ _⟩
    · by_cases hbad : 4000 < s.size ∨ sep.size ≠ 1
      · exact splitLaw s sep [] false (by decide) w h1 h2 (fun w => specSplit_bad s sep hbad w) (fun w => split_bad s sep hbad w)
      · obtain ⟨c, hc⟩ : ∃ c : UInt8, sep = ⟨#[c]⟩ := by
          have hz : sep.size = 1 := by omega
          obtain ⟨d⟩ := sep
          have hz' : d.size = 1 := hz
          obtain ⟨l⟩ := d
          match l, hz' with
          | [c], _ => exact ⟨c, rfl⟩
        subst hc
        have hs : s.size ≤ 4000 := by omega
        exact splitLaw s _ (pieces s c) true (by have := pieces_size s c; omega) w h1 h2 (fun w => specSplit_any s c hs w) (fun w => split_any s c hs w)

theorem split_own : ownKnob Try.prog.godebug = none := by kernel_rfl
set_option maxRecDepth 100000 in
theorem split_lifted (os : Os) (started : os.Started) (H : Type) (enc : TypeId × Value → H) :
    ReturnsInHanded {} Try.checked os 4 .any (Rows.fnExactSplitStringSpec.pre6 enc Try.prog Try.f4 Rows.fnExactSplitStringRow.domain false) (Rows.fnExactSplitStringSpec.post enc Try.prog Try.f4 false true false false) := by
  refine returnsInHanded_of_change (C := Try.checked) split_own started (by kernel_rfl) Try.func4
    (ChangeSpec.witness6 (enc := enc) (C := Try.checked) false ⟨#[], #[.string ⟨#[]⟩, .string ⟨#[]⟩], []⟩ 8 (by kernel_rfl) (by kernel_rfl) (by kernel_rfl) (by kernel_rfl)) ?_
  intro W base args ds gs before hval0 hW hcnd0 _
  have hval : ∀ (j : Nat) t v, Try.f4.params[j]? = some t → args[j]? = some v → Value.okWide Try.prog W .any base t v := hval0
  have hW' := hW
  obtain ⟨p, q, hA0, hV, rfl, hfz, _⟩ := hW
  have hA : DataW.TrodAll enc Try.prog W 0 (fun _ => true) true Try.f4.params.toList args.toList ds p := hA0
  rw [Try.params4] at hA hval
  obtain ⟨v0, v1, d0, d1, p0, p1, rfl, rfl, rfl, h0, h1⟩ := trodAll_two hA
  obtain ⟨rfl, rfl⟩ := trodVars_none hV
  obtain ⟨a, rfl, rfl, rfl, wa⟩ := open_string Try.underlying9 (hval 0 9 v0 rfl rfl) h0
  obtain ⟨b, rfl, rfl, rfl, wb⟩ := open_string Try.underlying9 (hval 1 9 v1 rfl rfl) h1
  clear hA0 hval0 hcnd0
  simp only [List.append_nil] at hW'
  refine (split_walk a b W).mono fun e W' ⟨he, hB⟩ => ?_
  subst he
  refine ⟨_, rfl, _, _, _, [], [], [], hW', ?_, ?_, rfl, hB.frame _, fun h => by cases h⟩
  · exact trodAll_mk1 (shut_bool Try.underlying4 true)
  · exact trodAll_mk2 (shut_string Try.underlying9 wa) (shut_string Try.underlying9 wb)

theorem FnExactSplitString_holds : Rows.FnExactSplitStringSaid :=
  OpenClaim.holds_of_wide 4 Try.f4 rfl rfl rfl rfl rfl rfl rfl ⟨rfl, rfl, rfl, rfl, rfl⟩ rfl rfl rfl rfl rfl (by kernel_rfl) Try.func4 (by kernel_rfl)
    (of_decide_eq_true (by kernel_rfl)) (by unfold Func.isWrapper; first | (rw [if_pos (by decide +kernel)]; kernel_rfl) | (rw [if_neg (by decide +kernel)]; exact ⟨rfl, rfl⟩))
    (fun os started H enc _ => split_lifted os started H enc)
#print axioms FnExactSplitString_holds
end Go.Proofs.Ytaebphbnfnjfcaa
