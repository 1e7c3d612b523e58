/-
  Proved here: the law FnExactCycleDays returns true at every rotation, and the rotation reads afterwards as it read before. There are no conditions.
-/
import Derived.Test.YthpiahellpnccaaRows
import Derived.Test.YthpiahellpnccaaOpen
import Derived.Test.YthpiahellpnccaaKeep
import Derived.Test.YthpiahellpnccaaDays
import Derived.WalkKit
import Derived.ProofKit
import Derived.OpenShut
namespace Go.Proofs.Ythpiahellpnccaa
open Go.Joins Go.Deep Go.ChangeShapes Go.WideShapes Go.ChangeAt Go.RowKit

set_option maxRecDepth 100000 in
set_option maxHeartbeats 2000000 in
theorem cycle_body (v : Value) (n m : Nat) (p d : Nat → Int) (x : Int) (b : Bool)  (hn : n ≤ maxLen) (hm : m ≤ maxLen) (w : World) (hv : ArgR w v n m p d)
    (hs : ∀ u W, ArgR W u n m p d → Calls Try.prog 32 #[u] W (PairP W x b))
    (hi : ∀ u W, ArgR W u n m p d → Calls Try.prog 16 #[u] W (PairP W x b)) :
    Calls Try.prog 5 #[v] w fun e w' => e = .returned (.bool true) ∧ Below w.heap.size w w' := by
  have HV := Lib.hid hv
  have HS := Lib.hid hs
  have HI := Lib.hid hi
  obtain ⟨v1, v2, rfl, -, -⟩ := hv
  clear hs hi
  go_enter Try.func5, Try.ntmps5
  go_wp2_with fail
  have c0 : (w.alloc (.cells #[v1, v2] 38)).cell? ⟨w.heap.size, 0, none⟩ = some v1 := by simp
  have c1 : (w.alloc (.cells #[v1, v2] 38)).cell? ⟨w.heap.size, 1, none⟩ = some v2 := by simp
  have hz : w.heap.size < (w.alloc (.cells #[v1, v2] 38)).heap.size := by simp
  have B0 := Lib.hid (below_one w (.cells #[v1, v2] 38))
  generalize w.alloc (.cells #[v1, v2] 38) = w0 at *
  refine (szR_any _ n m 1048576 p d hn hm (by decide) _ (HV.out.below B0.out)).mono ?_
  rintro e w1 ⟨hb1, rfl | ⟨r, rfl, hr, hn2, hm2⟩⟩
  · have B1 : Hid (Below w.heap.size w w1) := Lib.hid (B0.out.trans (hb1.mono B0.out.size))
    clear hb1
    go_wp2_with fail
    go_ret
    exact ⟨rfl, B1.out⟩
  · have B1 : Hid (Below w.heap.size w w1) := Lib.hid (B0.out.trans (hb1.mono B0.out.size))
    have d0 := (hb1.cell (p := ⟨w.heap.size, 0, none⟩) hz).trans c0
    have d1 := (hb1.cell (p := ⟨w.heap.size, 1, none⟩) hz).trans c1
    have hz1 := Nat.lt_of_lt_of_le hz hb1.size
    clear hb1 c0 c1 hz
    go_wp2_with fail
    refine (toR_any _ n m p d hn2 hm2 _ (HV.out.below B1.out)).mono ?_
    rintro e w2 ⟨g1, g2, rfl, -, -, hr1, hr2, hb2⟩
    have A2 : Hid (ArgR w2 _ n m p d) := Lib.hid ⟨_, _, rfl, hr1.arg, hr2.arg⟩
    have B2 : Hid (Below w.heap.size w w2) := Lib.hid (B1.out.trans (hb2.mono B1.out.size))
    have c0 := (hb2.cell (p := ⟨w.heap.size, 0, none⟩) hz1).trans d0
    have c1 := (hb2.cell (p := ⟨w.heap.size, 1, none⟩) hz1).trans d1
    have hz := Nat.lt_of_lt_of_le hz1 hb2.size
    clear hb2 d0 d1 hz1 hr1 hr2
    go_wp2_with fail
    refine (HS.out _ _ A2.out).mono ?_
    rintro e w3 ⟨rfl, hb3⟩
    have B3 : Hid (Below w.heap.size w w3) := Lib.hid (B2.out.trans (hb3.mono B2.out.size))
    have d0 := (hb3.cell (p := ⟨w.heap.size, 0, none⟩) hz).trans c0
    have d1 := (hb3.cell (p := ⟨w.heap.size, 1, none⟩) hz).trans c1
    have hz1 := Nat.lt_of_lt_of_le hz hb3.size
    clear hb3 c0 c1 hz A2
    go_wp2_with fail
    refine (toR_any _ n m p d hn2 hm2 _ (HV.out.below B3.out)).mono ?_
    rintro e w4 ⟨k1, k2, rfl, -, -, hr1, hr2, hb4⟩
    have A4 : Hid (ArgR w4 (.agg #[.slice (some ⟨k1, 0, none⟩) n n, .slice (some ⟨k2, 0, none⟩) m m]) n m p d) := Lib.hid ⟨_, _, rfl, hr1.arg, hr2.arg⟩
    have B4 : Hid (Below w.heap.size w w4) := Lib.hid (B3.out.trans (hb4.mono B3.out.size))
    have c0 := (hb4.cell (p := ⟨w.heap.size, 0, none⟩) hz1).trans d0
    have c1 := (hb4.cell (p := ⟨w.heap.size, 1, none⟩) hz1).trans d1
    have hz := Nat.lt_of_lt_of_le hz1 hb4.size
    clear hb4 d0 d1 hz1 hr1 hr2
    go_wp2_with fail
    have c2 : (w4.alloc (.cells #[.slice (some ⟨k1, 0, none⟩) n n, .slice (some ⟨k2, 0, none⟩) m m] 26)).cell? ⟨w4.heap.size, 0, none⟩ = some (.slice (some ⟨k1, 0, none⟩) n n) := by simp
    have c3 : (w4.alloc (.cells #[.slice (some ⟨k1, 0, none⟩) n n, .slice (some ⟨k2, 0, none⟩) m m] 26)).cell? ⟨w4.heap.size, 1, none⟩ = some (.slice (some ⟨k2, 0, none⟩) m m) := by simp
    have hb5 := below_one w4 (.cells #[.slice (some ⟨k1, 0, none⟩) n n, .slice (some ⟨k2, 0, none⟩) m m] 26)
    have d0 := (hb5.cell (p := ⟨w.heap.size, 0, none⟩) hz).trans c0
    have d1 := (hb5.cell (p := ⟨w.heap.size, 1, none⟩) hz).trans c1
    have hz1 := Nat.lt_of_lt_of_le hz hb5.size
    have hy1 : w4.heap.size < (w4.alloc (.cells #[.slice (some ⟨k1, 0, none⟩) n n, .slice (some ⟨k2, 0, none⟩) m m] 26)).heap.size := by simp
    have A5 := Lib.hid (A4.out.below hb5)
    have B5 := Lib.hid (B4.out.trans (hb5.mono B4.out.size))
    clear hb5 c0 c1 hz A4 B4
    generalize w4.alloc (.cells #[.slice (some ⟨k1, 0, none⟩) n n, .slice (some ⟨k2, 0, none⟩) m m] 26) = w5 at *
    refine (HI.out _ _ A5.out).mono ?_
    rintro e w6 ⟨rfl, hb6⟩
    have A6 := Lib.hid (A5.out.below hb6)
    have B6 : Hid (Below w.heap.size w w6) := Lib.hid (B5.out.trans (hb6.mono B5.out.size))
    have c0 := (hb6.cell (p := ⟨w.heap.size, 0, none⟩) hz1).trans d0
    have c1 := (hb6.cell (p := ⟨w.heap.size, 1, none⟩) hz1).trans d1
    have e2 := (hb6.cell (p := ⟨w4.heap.size, 0, none⟩) hy1).trans c2
    have e3 := (hb6.cell (p := ⟨w4.heap.size, 1, none⟩) hy1).trans c3
    have K6 : Hid (KeepR w w.heap.size w4.heap.size v1 v2 (.slice (some ⟨k1, 0, none⟩) n n) (.slice (some ⟨k2, 0, none⟩) m m) n m p d w6) := Lib.hid ⟨B6.out, HV.out, A6.out, Nat.lt_of_lt_of_le hz1 hb6.size, Nat.lt_of_lt_of_le hy1 hb6.size, c0, c1, e2, e3⟩
    clear hb6 d0 d1 hz1 c2 c3 A5 B5
    go_wp2_with fail
    have K7 := K6.out.drew
    go_region_held3 (fun W => (W.cell? ⟨w.heap.size, 0, none⟩ = some v1 ∧ W.cell? ⟨w.heap.size, 1, none⟩ = some v2 ∧ W.cell? ⟨w4.heap.size, 0, none⟩ = some (.slice (some ⟨k1, 0, none⟩) n n) ∧ W.cell? ⟨w4.heap.size, 1, none⟩ = some (.slice (some ⟨k2, 0, none⟩) m m)) ∧ KeepR w w.heap.size w4.heap.size v1 v2 (.slice (some ⟨k1, 0, none⟩) n n) (.slice (some ⟨k2, 0, none⟩) m m) n m p d W) (go_keep) (first | (go_at_call 29; refine (KeepR.to hn2 hm2 (by assumption)).mono ?_; rintro e w' ⟨u, rfl, hu, x0, x1, x2, x3, hK⟩) | (go_at_call 31; refine (KeepR.eq hn2 hm2 (by assumption) (by assumption)).mono ?_; rintro e w' ⟨rfl, x0, x1, x2, x3, hK⟩))
    have KF := Lib.hid hK
    clear hK x0 x1 x2 x3 hu
    go_wp2_with fail
    go_ret
    exact ⟨rfl, KF.out.1⟩

set_option maxRecDepth 100000 in
theorem cycle_lifted (os : Os) (started : os.Started) (H : Type) (enc : TypeId × Value → H) :
    ReturnsInHanded {} Try.checked os 5 .any (Rows.fnExactCycleDaysSpec.pre6 enc Try.prog Try.f5 Rows.fnExactCycleDaysRow.domain false) (Rows.fnExactCycleDaysSpec.post enc Try.prog Try.f5 false true false false) := by
  refine returnsInHanded_of_change (C := Try.checked) rot_own started (by kernel_rfl) Try.func5
    (ChangeSpec.witness6 (enc := enc) (C := Try.checked) false ⟨#[], #[.agg #[.slice none 0 0, .slice none 0 0]], []⟩ 8 (by kernel_rfl) (by kernel_rfl) (by kernel_rfl) (by kernel_rfl)) ?_
  intro W base args ds gs before hval0 hW hcnd0 _
  have hval : ∀ (j : Nat) t v, Try.f5.params[j]? = some t → args[j]? = some v → Value.okWide Try.prog W .any base t v := hval0
  have hW' := hW
  obtain ⟨p, q, hA0, hV, rfl, hfz, _⟩ := hW
  have hA : DataW.TrodAll enc Try.prog W 0 (fun _ => true) true Try.f5.params.toList args.toList ds p := hA0
  rw [Try.params5] at hA hval
  obtain ⟨v0, d0, rfl, rfl, h0⟩ := trodAll_one hA
  obtain ⟨rfl, rfl⟩ := trodVars_none hV
  clear hA0 hval0 hcnd0
  simp only [List.append_nil] at hW'
  have hlt : ∀ x ∈ p, x.block < W.heap.size := fun x hx => by simpa using hW'.lt x (by simpa using hx)
  obtain ⟨n, m, a, b, hn, hm, hv⟩ := open_rot (hval 0 38 v0 rfl rfl) h0 hlt
  refine (cycle_body v0 n m a b _ _ hn hm W hv (fun u W h => specCycle_any u n m a b hn hm W h) (fun u W h => implCycle_any u n m a b hn hm W h)).mono fun e W' ⟨he, hB⟩ => ?_
  subst he
  refine ⟨_, rfl, _, _, _, [], p, [], hW', ?_, ?_, rfl, hB.frame _, fun h => by cases h⟩
  · exact trodAll_mk1 (shut_bool Try.underlying4 true)
  · exact trodAll_mk1 (Below.trod rot_laidOut (by kernel_rfl) (of_decide_eq_true (by kernel_rfl)) h0 hB hlt)

theorem FnExactCycleDays_holds : Rows.FnExactCycleDaysSaid :=
  OpenClaim.holds_of_wide 5 Try.f5 rfl rfl rfl rfl rfl rfl rfl ⟨rfl, rfl, rfl, rfl, rfl⟩ rfl rfl rfl rfl rfl (by kernel_rfl) Try.func5 (by kernel_rfl)
    (of_decide_eq_true (by kernel_rfl)) (by unfold Func.isWrapper; first | (rw [if_pos (by decide +kernel)]; kernel_rfl) | (rw [if_neg (by decide +kernel)]; exact ⟨rfl, rfl⟩))
    (fun os started H enc _ => cycle_lifted os started H enc)
#print axioms FnExactCycleDays_holds

end Go.Proofs.Ythpiahellpnccaa
