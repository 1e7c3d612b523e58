/-
  Proved here: the tied card of the law FnExactRotationText: it returns true at every rotation, and the rotation reads afterwards as it read before. There are no conditions beyond the card's own tie of the library's tables to the program's text.
-/
import Derived.Test.YthpiahellpnccaaDoorRows
import Derived.Test.YthpiahellpnccaaDoorCards
import Derived.Test.YthpiahellpnccaaDoorTie
import Derived.Test.YthpiahellpnccaaDoorOpen
import Derived.Test.YthpiahellpnccaaDoorTextI
import Derived.WalkKit
import Derived.WalkSmall
import Derived.ProofKit
import Derived.LaidMore
import Derived.OpenShut
import Derived.Stop.Joined
import Derived.Lib.SmallJoins
import Derived.SevenTiedAt
namespace Go.Proofs.YthpiahellpnccaaDoor
open Go.Joins Go.Deep Go.ChangeShapes Go.WideShapes Go.ChangeAt Go.RowKit

theorem implText_any (v : Value) (n m : Nat) (p d : Nat → Int) (hn : n ≤ maxLen) (hm : m ≤ maxLen) (w : World) (h : ArgR w v n m p d) :
    Calls Tryd.prog 8 #[v] w (TextP w n m p d) := by
  cases hr : rotB n m p d with
  | false => exact implText_no v n m p d hn hm w h hr
  | true => exact implText_yes v n m p d hn hm w h hr
/-- A text and a yes or no, and nothing older turned. -/
def StrP (w : World) (s : ByteArray) (b : Bool) (e : Ending) (w' : World) : Prop := e = .returned (.tuple #[.string s, .bool b]) ∧ Below w.heap.size w w'

set_option maxRecDepth 100000 in
set_option maxHeartbeats 2000000 in
theorem text_body (v : Value) (n m : Nat) (p d : Nat → Int) (s : ByteArray) (b : Bool)  (hn : n ≤ maxLen) (hm : m ≤ maxLen) (w : World) (hv : ArgR w v n m p d)
    (hs : ∀ u W, ArgR W u n m p d → Calls Tryd.prog 6 #[u] W (StrP W s b))
    (hi : ∀ u W, ArgR W u n m p d → Calls Tryd.prog 8 #[u] W (StrP W s b)) :
    Calls Tryd.prog 3 #[v] w fun e w' => e = .returned (.bool true) ∧ Below w.heap.size w w' := by
  have HV := Lib.hid hv
  have HS := Lib.hid hs
  have HI := Lib.hid hi
  obtain ⟨v1, v2, rfl, -, -⟩ := hv
  clear hs hi
  go_enter Tryd.func3, Tryd.ntmps3
  go_wp2_with fail
  have c0 : (w.alloc (.cells #[v1, v2] 24)).cell? ⟨w.heap.size, 0, none⟩ = some v1 := by simp
  have c1 : (w.alloc (.cells #[v1, v2] 24)).cell? ⟨w.heap.size, 1, none⟩ = some v2 := by simp
  have hz : w.heap.size < (w.alloc (.cells #[v1, v2] 24)).heap.size := by simp
  have B0 := Lib.hid (below_one w (.cells #[v1, v2] 24))
  generalize w.alloc (.cells #[v1, v2] 24) = w0 at *
  refine (szR_any _ n m 1048576 p d hn hm (by decide) _ (HV.out.below B0.out)).mono ?_
  rintro e w1 ⟨hb1, rfl | ⟨r, rfl, hr, hn2, hm2⟩⟩
  · have B1 : Hid (Below w.heap.size w w1) := Lib.hid (B0.out.trans (hb1.mono B0.out.size))
    clear hb1
    go_wp2_with fail
    go_ret
    exact ⟨rfl, B1.out⟩
  · have B1 : Hid (Below w.heap.size w w1) := Lib.hid (B0.out.trans (hb1.mono B0.out.size))
    have d0 := (hb1.cell (p := ⟨w.heap.size, 0, none⟩) hz).trans c0
    have d1 := (hb1.cell (p := ⟨w.heap.size, 1, none⟩) hz).trans c1
    have hz1 := Nat.lt_of_lt_of_le hz hb1.size
    clear hb1 c0 c1 hz
    go_wp2_with fail
    refine (toR_any _ n m p d hn2 hm2 _ (HV.out.below B1.out)).mono ?_
    rintro e w2 ⟨g1, g2, rfl, -, -, hr1, hr2, hb2⟩
    have A2 : Hid (ArgR w2 _ n m p d) := Lib.hid ⟨_, _, rfl, hr1.arg, hr2.arg⟩
    have B2 : Hid (Below w.heap.size w w2) := Lib.hid (B1.out.trans (hb2.mono B1.out.size))
    have c0 := (hb2.cell (p := ⟨w.heap.size, 0, none⟩) hz1).trans d0
    have c1 := (hb2.cell (p := ⟨w.heap.size, 1, none⟩) hz1).trans d1
    have hz := Nat.lt_of_lt_of_le hz1 hb2.size
    clear hb2 d0 d1 hz1 hr1 hr2
    go_wp2_with fail
    refine (HS.out _ _ A2.out).mono ?_
    rintro e w3 ⟨rfl, hb3⟩
    have B3 : Hid (Below w.heap.size w w3) := Lib.hid (B2.out.trans (hb3.mono B2.out.size))
    have d0 := (hb3.cell (p := ⟨w.heap.size, 0, none⟩) hz).trans c0
    have d1 := (hb3.cell (p := ⟨w.heap.size, 1, none⟩) hz).trans c1
    have hz1 := Nat.lt_of_lt_of_le hz hb3.size
    clear hb3 c0 c1 hz A2
    go_wp2_with fail
    refine (toR_any _ n m p d hn2 hm2 _ (HV.out.below B3.out)).mono ?_
    rintro e w4 ⟨k1, k2, rfl, -, -, hr1, hr2, hb4⟩
    have A4 : Hid (ArgR w4 (.agg #[.slice (some ⟨k1, 0, none⟩) n n, .slice (some ⟨k2, 0, none⟩) m m]) n m p d) := Lib.hid ⟨_, _, rfl, hr1.arg, hr2.arg⟩
    have B4 : Hid (Below w.heap.size w w4) := Lib.hid (B3.out.trans (hb4.mono B3.out.size))
    have c0 := (hb4.cell (p := ⟨w.heap.size, 0, none⟩) hz1).trans d0
    have c1 := (hb4.cell (p := ⟨w.heap.size, 1, none⟩) hz1).trans d1
    have hz := Nat.lt_of_lt_of_le hz1 hb4.size
    clear hb4 d0 d1 hz1 hr1 hr2
    go_wp2_with fail
    have c2 : (w4.alloc (.cells #[.slice (some ⟨k1, 0, none⟩) n n, .slice (some ⟨k2, 0, none⟩) m m] 28)).cell? ⟨w4.heap.size, 0, none⟩ = some (.slice (some ⟨k1, 0, none⟩) n n) := by simp
    have c3 : (w4.alloc (.cells #[.slice (some ⟨k1, 0, none⟩) n n, .slice (some ⟨k2, 0, none⟩) m m] 28)).cell? ⟨w4.heap.size, 1, none⟩ = some (.slice (some ⟨k2, 0, none⟩) m m) := by simp
    have hb5 := below_one w4 (.cells #[.slice (some ⟨k1, 0, none⟩) n n, .slice (some ⟨k2, 0, none⟩) m m] 28)
    have d0 := (hb5.cell (p := ⟨w.heap.size, 0, none⟩) hz).trans c0
    have d1 := (hb5.cell (p := ⟨w.heap.size, 1, none⟩) hz).trans c1
    have hz1 := Nat.lt_of_lt_of_le hz hb5.size
    have hy1 : w4.heap.size < (w4.alloc (.cells #[.slice (some ⟨k1, 0, none⟩) n n, .slice (some ⟨k2, 0, none⟩) m m] 28)).heap.size := by simp
    have A5 := Lib.hid (A4.out.below hb5)
    have B5 := Lib.hid (B4.out.trans (hb5.mono B4.out.size))
    clear hb5 c0 c1 hz A4 B4
    generalize w4.alloc (.cells #[.slice (some ⟨k1, 0, none⟩) n n, .slice (some ⟨k2, 0, none⟩) m m] 28) = w5 at *
    refine (HI.out _ _ A5.out).mono ?_
    rintro e w6 ⟨rfl, hb6⟩
    have A6 := Lib.hid (A5.out.below hb6)
    have B6 : Hid (Below w.heap.size w w6) := Lib.hid (B5.out.trans (hb6.mono B5.out.size))
    have c0 := (hb6.cell (p := ⟨w.heap.size, 0, none⟩) hz1).trans d0
    have c1 := (hb6.cell (p := ⟨w.heap.size, 1, none⟩) hz1).trans d1
    have e2 := (hb6.cell (p := ⟨w4.heap.size, 0, none⟩) hy1).trans c2
    have e3 := (hb6.cell (p := ⟨w4.heap.size, 1, none⟩) hy1).trans c3
    have K6 : Hid (KeepR w w.heap.size w4.heap.size v1 v2 (.slice (some ⟨k1, 0, none⟩) n n) (.slice (some ⟨k2, 0, none⟩) m m) n m p d w6) := Lib.hid ⟨B6.out, HV.out, A6.out, Nat.lt_of_lt_of_le hz1 hb6.size, Nat.lt_of_lt_of_le hy1 hb6.size, c0, c1, e2, e3⟩
    clear hb6 d0 d1 hz1 c2 c3 A5 B5
    go_wp2_with fail
    have K7 := K6.out.drew
    go_region_held3 (fun W => (W.cell? ⟨w.heap.size, 0, none⟩ = some v1 ∧ W.cell? ⟨w.heap.size, 1, none⟩ = some v2 ∧ W.cell? ⟨w4.heap.size, 0, none⟩ = some (.slice (some ⟨k1, 0, none⟩) n n) ∧ W.cell? ⟨w4.heap.size, 1, none⟩ = some (.slice (some ⟨k2, 0, none⟩) m m)) ∧ KeepR w w.heap.size w4.heap.size v1 v2 (.slice (some ⟨k1, 0, none⟩) n n) (.slice (some ⟨k2, 0, none⟩) m m) n m p d W) (go_keep) (first | (go_at_call 7; refine (KeepR.to hn2 hm2 (by assumption)).mono ?_; rintro e w' ⟨u, rfl, hu, x0, x1, x2, x3, hK⟩) | (go_at_call 9; refine (KeepR.eq hn2 hm2 (by assumption) (by assumption)).mono ?_; rintro e w' ⟨rfl, x0, x1, x2, x3, hK⟩))
    have KF := Lib.hid hK
    clear hK x0 x1 x2 x3 hu
    go_wp2_with fail
    go_ret
    exact ⟨rfl, KF.out.1⟩

theorem doorD_met (os : Os) (args : Array Value) : laidMetH Tryd.prog Rows.fnExactRotationTextRow.laid ((World.doorLaid Tryd.prog 400 os).forCall (fun _ _ => 0) ⟨#[], args, []⟩).memory :=
  laidMetH_of_parts3 (fuel := 8) (laidMet_of_run' 8 (by kernel_rfl) (by kernel_rfl)) (by kernel_rfl) (by kernel_rfl)

set_option maxRecDepth 100000 in
theorem text_lifted (os : Os) (started : os.Started) (H : Type) (enc : TypeId × Value → H) :
    ReturnsInHanded {} Tryd.checked os 3 .any (fun w args => (Rows.fnExactRotationTextSpec.pre enc Tryd.prog Tryd.f3 [] false w args ∧ laidMetH Tryd.prog Rows.fnExactRotationTextRow.laid w) ∧ sizedMet enc Tryd.prog Tryd.f3 (OpenSpec.ofChange Rows.fnExactRotationTextSpec) false w args)
      (Rows.fnExactRotationTextSpec.post enc Tryd.prog Tryd.f3 false true false false) := by
  refine returnsInHanded_of_change_and (C := Tryd.checked) (X := fun w _ => laidMetH Tryd.prog Rows.fnExactRotationTextRow.laid w) (fun _ _ _ hh h => h.of_heap hh) rot_own started (by kernel_rfl) Tryd.func3
    (ChangeSpec.witness_shaped (enc := enc) (C := Tryd.checked) (os := os) (X := fun w _ => laidMetH Tryd.prog Rows.fnExactRotationTextRow.laid w) false (World.doorLaid Tryd.prog 400 os) #[.agg #[.slice none 0 0, .slice none 0 0]] 8 rfl (World.shaped_of_RefB (by kernel_rfl) (by kernel_rfl)) (by kernel_rfl) (by kernel_rfl) (by kernel_rfl) (doorD_met os _)) ?_
  intro W base args ds gs before hval0 hW _ _ _ _
  have hval : ∀ (j : Nat) t v, Tryd.f3.params[j]? = some t → args[j]? = some v → Value.okWide Tryd.prog W .any base t v := hval0
  have hW' := hW
  obtain ⟨p, q, hA0, hV, rfl, hfz, hnd⟩ := hW
  have hA : DataW.TrodAll enc Tryd.prog W 0 (fun _ => true) true Tryd.f3.params.toList args.toList ds p := hA0
  rw [Tryd.params3] at hA hval
  obtain ⟨v0, d0, rfl, rfl, h0⟩ := trodAll_one hA
  obtain ⟨rfl, rfl⟩ := trodVars_none hV
  clear hA0 hval0
  simp only [List.append_nil] at hW'
  have hlt : ∀ x ∈ p, x.block < W.heap.size := fun x hx => by simpa using hW'.lt x (by simpa using hx)
  obtain ⟨n, m, a, b, hn, hm, hv⟩ := open_rot (hval 0 24 v0 rfl rfl) h0 hlt
  refine (text_body v0 n m a b _ (rotB n m a b) hn hm W hv (fun u W h => specText_any u n m a b hn hm W h) (fun u W h => implText_any u n m a b hn hm W h)).mono fun e W' ⟨he, hB⟩ => ?_
  subst he
  refine ⟨_, rfl, _, _, _, [], p, [], hW', ?_, ?_, rfl, hB.frame _, fun h => by cases h⟩
  · exact trodAll_mk1 (shut_bool Tryd.underlying4 true)
  · exact trodAll_mk1 (Below.trod rot_laidOut (by kernel_rfl) (of_decide_eq_true (by kernel_rfl)) h0 hB hlt)

theorem text_holds : Rows.FnExactRotationTextSaid :=
  OpenClaim.holds_of_wide 3 Tryd.f3 rfl rfl rfl rfl rfl rfl rfl ⟨rfl, rfl, rfl, rfl, rfl⟩ rfl rfl rfl rfl rfl (by kernel_rfl) Tryd.func3 (by kernel_rfl)
    (of_decide_eq_true (by kernel_rfl)) (by unfold Func.isWrapper; first | (rw [if_pos (by decide +kernel)]; kernel_rfl) | (rw [if_neg (by decide +kernel)]; exact ⟨rfl, rfl⟩))
    (fun os started H enc _ => text_lifted os started H enc)

theorem FnExactRotationText_holds : Rows.FnExactRotationTextCardSaid :=
  Claim7.holds_tied_plain_at .later [] [.data, .data, .data] true (true, "c38ce09829ce444751aa9ee52f56fa21e88da01cb2242738e0dfb85ab9ac57e7") true
    text_holds (fun _ h => by cases h) (by kernel_rfl) (fun _ h => by cases h) fnExactRotationText_row_tie rfl ⟨rfl, rfl⟩ (by kernel_rfl) rfl
    (fun f fn hf hfn => by
      obtain rfl : f = 3 := Option.some.inj ((show Tryd.prog.funcNamed "loop.example/g00906/laws.FnExactRotationText" = some 3 by kernel_rfl).symm.trans hf) |>.symm
      obtain rfl : fn = Tryd.f3 := (Option.some.inj (Tryd.func3.symm.trans hfn)).symm
      exact ⟨by kernel_rfl, fun j t ht => by
        rw [Tryd.params3] at ht
        have hm : t ∈ [24] := by simpa using Array.mem_of_getElem? ht
        have hall : ([24].all fun u => !Tryd.prog.wantsStandIn u) = true := by kernel_rfl
        exact (show Tryd.prog.wantsStandIn t = false by simpa using List.all_eq_true.1 hall t hm)⟩)
    (by kernel_rfl)
#print axioms FnExactRotationText_holds
end Go.Proofs.YthpiahellpnccaaDoor
