/-
  Proved here: the law FnExactParseRotation returns true at every text. Its condition is the row's laid list.
-/
import Derived.Test.YtefkcdhmiepbfaaDoorParM
import Derived.Test.YtefkcdhmiepbfaaDoorRows
import Derived.Test.YtefkcdhmiepbfaaDoorCards
import Derived.Test.YtefkcdhmiepbfaaDoorTie
import Derived.ProofKit
import Derived.LaidMore
import Derived.OpenShut
import Derived.Stop.Joined
import Derived.Stop.LaidErr
import Derived.Lib.SmallJoins
import Derived.SevenTiedAt
namespace Go.Proofs.YtefkcdhmiepbfaaDoor.R
open Go.ChangeShapes Go.WideShapes Go.ChangeAt Go.RowKit Go.Shelf
open Go.ChangeMaps (open_string shut_string)

def gF (l : List Int) : Nat → Int := fun j => l.getD j 0
set_option maxRecDepth 100000 in
set_option maxHeartbeats 8000000 in
theorem pr_walk (s : ByteArray) (w : World) (hT : Tabs w) : Calls Tryd.prog 3 #[.string s] w fun e w' => e = .returned (.bool true) ∧ Below w.heap.size w w' := by
  obtain ⟨R1, R2, ok, hl1, hl2, hs, hi⟩ := both_any s
  have HS := Lib.hid hs
  have HI := Lib.hid hi
  have HT := Lib.hid hT
  clear hs hi hT
  by_cases hbig : 1048576 < s.size
  · go_enter Tryd.func3, Tryd.ntmps3
    go_wp2_with fail
    go_ret
    exact ⟨rfl, Below.refl _ _⟩
  · go_enter Tryd.func3, Tryd.ntmps3
    go_wp2_with fail
    refine (HS.out _).mono ?_
    rintro e w1 ⟨a1, a2, rfl, ho1, ho2, -, hb1⟩
    have A1 := Lib.hid (rowN_of_owns ho1)
    have A2 := Lib.hid (rowN_of_owns ho2)
    have LA1 := Lib.hid (row_lt ho1)
    have LA2 := Lib.hid (row_lt ho2)
    obtain ⟨xa1, ya1, rfl⟩ := own_form ho1
    obtain ⟨xa2, ya2, rfl⟩ := own_form ho2
    have B : Hid (Below w.heap.size w w1) := Lib.hid hb1
    clear hb1 ho1 ho2
    have hb2 := below_one w1 (.cells #[.slice xa1 R1.length ya1, .slice xa2 R2.length ya2] 24)
    have CA := Lib.hid (Box.new w1 (.slice xa1 R1.length ya1) (.slice xa2 R2.length ya2) 24)
    have A1 := Lib.hid (A1.out.below hb2)
    have A2 := Lib.hid (A2.out.below hb2)
    have B := Lib.hid (B.out.trans (hb2.mono B.out.size))
    have ZA := Lib.hid CA.out.1
    have ZB := Lib.hid B.out.size
    clear hb2
    go_wp2_with fail
    generalize w1.alloc (.cells #[.slice xa1 R1.length ya1, .slice xa2 R2.length ya2] 24) = w2 at *
    refine (HI.out _ (HT.out.below B.out)).mono ?_
    rintro e w3 ⟨s1, s2, rfl, ho1, ho2, hse, hb3⟩
    have S1 := Lib.hid (rowN_of_owns ho1)
    have S2 := Lib.hid (rowN_of_owns ho2)
    have M1 := Lib.hid (row_base ho1)
    have M2 := Lib.hid (row_base ho2)
    have N1 := Lib.hid (row_lt ho1)
    have N2 := Lib.hid (row_lt ho2)
    have SE := Lib.hid hse
    obtain ⟨xs1, ys1, rfl⟩ := own_form ho1
    obtain ⟨xs2, ys2, rfl⟩ := own_form ho2
    clear ho1 ho2 hse
    have A1 := Lib.hid (A1.out.below hb3)
    have A2 := Lib.hid (A2.out.below hb3)
    have CA := Lib.hid (CA.out.below hb3)
    have B : Hid (Below w.heap.size w w3) := Lib.hid (B.out.trans (hb3.mono B.out.size))
    clear hb3
    have hb4 := below_one w3 (.cells #[.slice xs1 R1.length ys1, .slice xs2 R2.length ys2] 24)
    have CG := Lib.hid (Box.new w3 (.slice xs1 R1.length ys1) (.slice xs2 R2.length ys2) 24)
    have A1 := Lib.hid (A1.out.below hb4)
    have A2 := Lib.hid (A2.out.below hb4)
    have CA := Lib.hid (CA.out.below hb4)
    have S1 := Lib.hid (S1.out.below hb4)
    have S2 := Lib.hid (S2.out.below hb4)
    have B : Hid (Below w.heap.size w _) := Lib.hid (B.out.trans (hb4.mono B.out.size))
    clear hb4
    obtain ⟨-, c0, c1⟩ := CA.out
    obtain ⟨-, e0, e1⟩ := CG.out
    go_wp2_with fail
    generalize w3.alloc (.cells #[.slice xs1 R1.length ys1, .slice xs2 R2.length ys2] 24) = w4 at *
    refine (eqR_any _ _ R1.length R2.length _ _ (by omega) (by omega) _ ⟨_, _, rfl, S1.out.arg, S2.out.arg⟩ ⟨_, _, rfl, A1.out.arg, A2.out.arg⟩).mono ?_
    rintro e w5 ⟨rfl, hb5⟩
    clear c0 c1 e0 e1
    have A1 := Lib.hid (A1.out.below hb5)
    have A2 := Lib.hid (A2.out.below hb5)
    have CA := Lib.hid (CA.out.below hb5)
    have S1 := Lib.hid (S1.out.below hb5)
    have S2 := Lib.hid (S2.out.below hb5)
    have CG := Lib.hid (CG.out.below hb5)
    have B : Hid (Below w.heap.size w w5) := Lib.hid (B.out.trans (hb5.mono B.out.size))
    clear hb5
    have Z5 : Hid (w3.heap.size < w5.heap.size) := Lib.hid CG.out.1
    obtain ⟨-, e0, e1⟩ := CG.out
    go_wp2_with fail
    refine (markQ_any _ _ R1.length R2.length _ _ (by omega) (by omega) SE.out _ (fun j e => Nat.lt_trans (N1.out j e) Z5.out) S1.out S2.out).mono ?_
    rintro e w6 ⟨rfl, hm1, hm2, wm, hg, hg'⟩
    have sA : ∀ j, j < w2.heap.size → some j ≠ Value.ownBlock (.slice xs1 R1.length ys1) ∧ some j ≠ Value.ownBlock (.slice xs2 R2.length ys2) := fun j hj => ⟨fun e => by have := M1.out j e.symm; omega, fun e => by have := M2.out j e.symm; omega⟩
    have sG : some w3.heap.size ≠ Value.ownBlock (.slice xs1 R1.length ys1) ∧ some w3.heap.size ≠ Value.ownBlock (.slice xs2 R2.length ys2) := ⟨fun e => Nat.lt_irrefl _ (N1.out _ e.symm), fun e => Nat.lt_irrefl _ (N2.out _ e.symm)⟩
    have T1 := Lib.hid hm1
    have T2 := Lib.hid hm2
    have CA := Lib.hid ((CA.out.kept hg (sA _ ZA.out).1).kept hg' (sA _ ZA.out).2)
    have CG := Lib.hid ((CG.out.kept hg sG.1).kept hg' sG.2)
    have A1 := Lib.hid ((A1.out.kept hg (fun j e => (sA j (Nat.lt_trans (LA1.out j e) ZA.out)).1)).kept hg' (fun j e => (sA j (Nat.lt_trans (LA1.out j e) ZA.out)).2))
    have A2 := Lib.hid ((A2.out.kept hg (fun j e => (sA j (Nat.lt_trans (LA2.out j e) ZA.out)).1)).kept hg' (fun j e => (sA j (Nat.lt_trans (LA2.out j e) ZA.out)).2))
    have B : Hid (Below w.heap.size w w6) := Lib.hid ((B.out.grown hg B.out.size (fun k e => by have := M1.out k e; have := ZB.out; omega)).grown hg' (Nat.le_trans B.out.size hg.size) (fun k e => by have := M2.out k e; have := ZB.out; omega))
    clear hg hg' hm1 hm2 sA sG S1 S2 e0 e1
    obtain ⟨-, e0, e1⟩ := CG.out
    go_wp2_with fail
    refine (heldQ_any _ _ R1.length R2.length (by omega) (by omega) _ T1.out T2.out).mono ?_
    rintro e w7 ⟨rfl, hb7⟩
    clear e0 e1
    have A1 := Lib.hid (A1.out.below hb7)
    have A2 := Lib.hid (A2.out.below hb7)
    have CA := Lib.hid (CA.out.below hb7)
    have CG := Lib.hid (CG.out.below hb7)
    have T1 := Lib.hid (T1.out.below hb7)
    have T2 := Lib.hid (T2.out.below hb7)
    have B : Hid (Below w.heap.size w w7) := Lib.hid (B.out.trans (hb7.mono B.out.size))
    clear hb7
    go_wp2_with fail
    refine (HI.out _ (HT.out.below B.out)).mono ?_
    rintro e w8 ⟨h1, h2, rfl, ho1, ho2, -, hb8⟩
    have H1 := Lib.hid (rowN_of_owns ho1)
    have H2 := Lib.hid (rowN_of_owns ho2)
    obtain ⟨xh1, yh1, rfl⟩ := own_form ho1
    obtain ⟨xh2, yh2, rfl⟩ := own_form ho2
    clear ho1 ho2
    have A1 := Lib.hid (A1.out.below hb8)
    have A2 := Lib.hid (A2.out.below hb8)
    have CA := Lib.hid (CA.out.below hb8)
    have CG := Lib.hid (CG.out.below hb8)
    have T1 := Lib.hid (T1.out.below hb8)
    have T2 := Lib.hid (T2.out.below hb8)
    have B : Hid (Below w.heap.size w w8) := Lib.hid (B.out.trans (hb8.mono B.out.size))
    clear hb8
    have hb9 := below_one w8 (.cells #[.slice xh1 R1.length yh1, .slice xh2 R2.length yh2] 24)
    have CH := Lib.hid (Box.new w8 (.slice xh1 R1.length yh1) (.slice xh2 R2.length yh2) 24)
    have A1 := Lib.hid (A1.out.below hb9)
    have A2 := Lib.hid (A2.out.below hb9)
    have CA := Lib.hid (CA.out.below hb9)
    have CG := Lib.hid (CG.out.below hb9)
    have T1 := Lib.hid (T1.out.below hb9)
    have T2 := Lib.hid (T2.out.below hb9)
    have H1 := Lib.hid (H1.out.below hb9)
    have H2 := Lib.hid (H2.out.below hb9)
    have B : Hid (Below w.heap.size w _) := Lib.hid (B.out.trans (hb9.mono B.out.size))
    clear hb9
    obtain ⟨-, c0, c1⟩ := CA.out
    obtain ⟨-, e0, e1⟩ := CH.out
    go_wp2_with fail
    generalize w8.alloc (.cells #[.slice xh1 R1.length yh1, .slice xh2 R2.length yh2] 24) = w9 at *
    refine (eqR_any _ _ R1.length R2.length _ _ (by omega) (by omega) _ ⟨_, _, rfl, H1.out.arg, H2.out.arg⟩ ⟨_, _, rfl, A1.out.arg, A2.out.arg⟩).mono ?_
    rintro e w10 ⟨rfl, hb10⟩
    clear c0 c1 e0 e1 H1 H2 A1 A2 CH
    have CG := Lib.hid (CG.out.below hb10)
    have T1 := Lib.hid (T1.out.below hb10)
    have T2 := Lib.hid (T2.out.below hb10)
    have B : Hid (Below w.heap.size w w10) := Lib.hid (B.out.trans (hb10.mono B.out.size))
    clear hb10
    obtain ⟨-, e0, e1⟩ := CG.out
    go_wp2_with fail
    refine (heldQ_any _ _ R1.length R2.length (by omega) (by omega) _ T1.out T2.out).mono ?_
    rintro e w11 ⟨rfl, hb11⟩
    clear e0 e1
    have B : Hid (Below w.heap.size w w11) := Lib.hid (B.out.trans (hb11.mono B.out.size))
    clear hb11
    go_wp2_with fail
    go_ret
    exact ⟨rfl, B.out⟩

theorem gSyn : Tryd.prog.globalNamed "strconv.ErrSyntax" = some 2 := by kernel_rfl
theorem gRng : Tryd.prog.globalNamed "strconv.ErrRange" = some 3 := by kernel_rfl
theorem gPowP : Tryd.prog.globalNamed "internal/strconv.uint64pow10" = some 1 := by kernel_rfl
theorem tPowP : (Tryd.prog.globals[1]?).map (·.type) = some 122 := by kernel_rfl
theorem tSyn : (Tryd.prog.globals[2]?).map (·.type) = some 75 := by kernel_rfl
theorem tRng : (Tryd.prog.globals[3]?).map (·.type) = some 75 := by kernel_rfl
theorem starD : "*" ++ "errors.errorString" = "*errors.errorString" := by decide
theorem rowErr (u : TypeId) (h : Tryd.prog.typeName? 3 u = some "*errors.errorString") : u = 137 :=
  typeName_ptr_named (nm := "errors.errorString") (by rw [starD]; kernel_rfl) (by kernel_rfl) (by decide) u (by rw [starD]; exact h)

/-- What the row's list gives: the table of the powers of ten and the two errors. -/
theorem vars_of_laid {W : World} (h : laidMetH Tryd.prog Rows.fnExactParseRotationRow.laid W) : Tabs W := by
  rw [MakeChecks.laidMetH_plain _ _ _ (by kernel_rfl)] at h
  have h2 := h.tail.tail
  have h3 := h2.tail
  have h4 := h3.tail
  refine ⟨Lib.tabIs_of_head (zs := Lib.pow10Tab) gPowP tPowP Tryd.underlying122 Tryd.underlying105 (by kernel_rfl) (by kernel_rfl) h2, ?_, ?_⟩
  · obtain ⟨a0, s0, hv0, -, -, -⟩ := laid_sentinel h4 gSyn tSyn Tryd.underlying75 rowErr Tryd.underlying137 Tryd.underlying139 rfl rfl Tryd.underlying9 (by kernel_rfl) (by kernel_rfl)
    exact ⟨_, _, hv0⟩
  · obtain ⟨a0, s0, hv0, -, -, -⟩ := laid_sentinel h3 gRng tRng Tryd.underlying75 rowErr Tryd.underlying137 Tryd.underlying139 rfl rfl Tryd.underlying9 (by kernel_rfl) (by kernel_rfl)
    exact ⟨_, _, hv0⟩

theorem doorP_met (os : Os) (args : Array Value) : laidMetH Tryd.prog Rows.fnExactParseRotationRow.laid ((World.doorLaid Tryd.prog 400 os).forCall (fun _ _ => 0) ⟨#[], args, []⟩).memory :=
  laidMetH_of_parts3 (fuel := 8) (laidMet_of_run' 8 (by kernel_rfl) (by kernel_rfl)) (by kernel_rfl) (by kernel_rfl)

theorem ownP : ownKnob Tryd.prog.godebug = none := by kernel_rfl

set_option maxRecDepth 100000 in
theorem parse_lifted (os : Os) (started : os.Started) (H : Type) (enc : TypeId × Value → H) :
    ReturnsInHanded {} Tryd.checked os 3 .any (fun w args => (Rows.fnExactParseRotationSpec.pre enc Tryd.prog Tryd.f3 [] false w args ∧ laidMetH Tryd.prog Rows.fnExactParseRotationRow.laid w) ∧ sizedMet enc Tryd.prog Tryd.f3 (OpenSpec.ofChange Rows.fnExactParseRotationSpec) false w args)
      (Rows.fnExactParseRotationSpec.post enc Tryd.prog Tryd.f3 false true false false) := by
  refine returnsInHanded_of_change_and (C := Tryd.checked) (X := fun w _ => laidMetH Tryd.prog Rows.fnExactParseRotationRow.laid w) (fun _ _ _ hh h => h.of_heap hh) ownP started (by kernel_rfl) Tryd.func3
    (ChangeSpec.witness_shaped (enc := enc) (C := Tryd.checked) (os := os) (X := fun w _ => laidMetH Tryd.prog Rows.fnExactParseRotationRow.laid w) false (World.doorLaid Tryd.prog 400 os) #[.string ⟨#[]⟩] 8 rfl (World.shaped_of_RefB (by kernel_rfl) (by kernel_rfl)) (by kernel_rfl) (by kernel_rfl) (by kernel_rfl) (doorP_met os _)) ?_
  intro W base args ds gs before hval0 hW _ _ hL _
  have hval : ∀ (j : Nat) t v, Tryd.f3.params[j]? = some t → args[j]? = some v → Value.okWide Tryd.prog W .any base t v := hval0
  have hW' := hW
  obtain ⟨p, q, hA0, hV, rfl, hfz, hnd⟩ := hW
  have hA : DataW.TrodAll enc Tryd.prog W 0 (fun _ => true) true Tryd.f3.params.toList args.toList ds p := hA0
  rw [Tryd.params3] at hA hval
  obtain ⟨v0, d0, rfl, rfl, h0⟩ := trodAll_one hA
  obtain ⟨rfl, rfl⟩ := trodVars_none hV
  obtain ⟨s, rfl, rfl, rfl, ws⟩ := open_string Tryd.underlying9 (hval 0 9 v0 rfl rfl) h0
  clear hA0 hval0
  simp only [List.append_nil] at hW'
  refine (pr_walk s W (vars_of_laid hL)).mono fun e W' ⟨he, hB⟩ => ?_
  subst he
  refine ⟨_, rfl, _, _, _, [], [], [], hW', ?_, ?_, rfl, hB.frame _, fun h => by cases h⟩
  · exact trodAll_mk1 (shut_bool Tryd.underlying4 true)
  · exact trodAll_mk1 (shut_string Tryd.underlying9 ws)

theorem parse_holds : Rows.FnExactParseRotationSaid :=
  OpenClaim.holds_of_wide 3 Tryd.f3 rfl rfl rfl rfl rfl rfl rfl ⟨rfl, rfl, rfl, rfl, rfl⟩ rfl rfl rfl rfl rfl (by kernel_rfl) Tryd.func3 (by kernel_rfl)
    (of_decide_eq_true (by kernel_rfl)) (by unfold Func.isWrapper; first | (rw [if_pos (by decide +kernel)]; kernel_rfl) | (rw [if_neg (by decide +kernel)]; exact ⟨rfl, rfl⟩))
    (fun os started H enc _ => parse_lifted os started H enc)

theorem FnExactParseRotation_holds : Rows.FnExactParseRotationCardSaid :=
  Claim7.holds_tied_plain_at .later [] [.data, .data, .data, .sentinel, .sentinel] true (true, "86d0835648bd25e5be60ea166283f5c0dc7c5fb258ce687f05663c189e36c3e3") true
    parse_holds (fun _ h => by cases h) (by kernel_rfl) (fun _ h => by cases h) fnExactParseRotation_row_tie rfl ⟨rfl, rfl⟩ (by kernel_rfl) rfl
    (fun f fn hf hfn => by
      obtain rfl : f = 3 := Option.some.inj ((show Tryd.prog.funcNamed "loop.example/g00906/laws.FnExactParseRotation" = some 3 by kernel_rfl).symm.trans hf) |>.symm
      obtain rfl : fn = Tryd.f3 := (Option.some.inj (Tryd.func3.symm.trans hfn)).symm
      exact ⟨by kernel_rfl, fun j t ht => by
        rw [Tryd.params3] at ht
        have hm : t ∈ [9] := by simpa using Array.mem_of_getElem? ht
        have hall : ([9].all fun u => !Tryd.prog.wantsStandIn u) = true := by kernel_rfl
        exact (show Tryd.prog.wantsStandIn t = false by simpa using List.all_eq_true.1 hall t hm)⟩)
    (by kernel_rfl)
end Go.Proofs.YtefkcdhmiepbfaaDoor.R
namespace Go.Proofs.YtefkcdhmiepbfaaDoor
theorem FnExactParseRotation_holds : Rows.FnExactParseRotationCardSaid := R.FnExactParseRotation_holds
#print axioms FnExactParseRotation_holds
end Go.Proofs.YtefkcdhmiepbfaaDoor
