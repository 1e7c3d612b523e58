/-
  Proved here: the law FnExactBayText returns true at every bay, and it reads afterwards as before. There are no conditions beyond the card's own tie of the library's tables to the program's text.
-/
import Derived.Test.YtececghifehjeaaDoorRows
import Derived.Test.YtececghifehjeaaDoorHRet
import Derived.Test.YtececghifehjeaaDoorHDTxtI
import Derived.Test.YtececghifehjeaaDoorCards
import Derived.Test.YtececghifehjeaaDoorTie
import Derived.WalkKit
import Derived.WalkSmall
import Derived.LaidMore
import Derived.Stop.Joined
import Derived.Lib.SmallJoins
import Derived.SevenTiedAt
import Derived.Carry
import Derived.ProofKit
import Derived.OpenShut
namespace Go.Proofs.YtececghifehjeaaDoor
open Go.Joins Go.Deep Go.ChangeShapes Go.WideShapes Go.ChangeAt Go.RowKit

set_option maxRecDepth 100000 in
set_option maxHeartbeats 8000000 in
theorem bayText_body (v : Value) (hh : Int) (Y : List (List Int))  (r0 : ByteArray) (r1 : Bool)  (hn : Y.length ≤ maxLen) (hs : ∀ (j : Nat) (l : List Int), Y[j]? = some l → l.length ≤ maxLen) (w : World) (hv : BdR w v hh Y)
    (hspec : Y.length ≤ 1048576 → tot Y ≤ 1048576 → ∀ u W, BdR W u hh Y → Calls Tryd.prog 19 #[u] W (RetP W (.tuple #[.string r0, .bool r1])))
    (himpl : Y.length ≤ 1048576 → tot Y ≤ 1048576 → ∀ u W, BdR W u hh Y → Calls Tryd.prog 15 #[u] W (RetP W (.tuple #[.string r0, .bool r1]))) :
    Calls Tryd.prog 4 #[v] w fun e w' => e = .returned (.bool true) ∧ Below w.heap.size w w' := by
  obtain ⟨v0, rfl, hv0⟩ := hv
  have HV : Hid (BdR w (.agg #[.int .i64 hh, v0]) hh Y) := Lib.hid ⟨v0, rfl, hv0⟩
  have H1 := Lib.hid hspec
  have H2 := Lib.hid himpl
  have HSm := Lib.hid hs
  clear hspec himpl hv0 hs
  go_enter Tryd.func4, Tryd.ntmps4
  go_wp2_with fail
  have BA := Lib.hid (Box2.new w hh v0 41)
  have B := Lib.hid (below_one w (.cells #[.int .i64 hh, v0] 41))
  generalize w.alloc (.cells #[.int .i64 hh, v0] 41) = w0 at *
  have ZA := Lib.hid BA.out.1
  refine (szB_any _ hh Y 1048576 hn HSm.out (by decide) _ (HV.out.below B.out)).mono ?_
  rintro e w1 ⟨hb, rfl | ⟨r, rfl, -, hn2, ht2⟩⟩
  · have B := Lib.hid (B.out.trans (hb.mono B.out.size))
    clear hb
    go_wp2_with fail
    go_ret
    exact ⟨rfl, B.out⟩
  · have L1 := Lib.hid hn2
    have L2 := Lib.hid ht2
    have BA := Lib.hid (BA.out.below hb)
    have B := Lib.hid (B.out.trans (hb.mono B.out.size))
    have Z1 := Lib.hid hb.size
    clear hb
    have cBA := BA.out.2.1
    have kBA := BA.out.2.2
    go_wp2_with fail
    clear cBA kBA
    refine (toB_any (.agg #[.int .i64 hh, v0]) hh Y L1.out L2.out _ (HV.out.below B.out)).mono ?_
    rintro e w2 ⟨a1, k1, rfl, ho, hb⟩
    have BA := Lib.hid (BA.out.below hb)
    have B := Lib.hid (B.out.trans (hb.mono B.out.size))
    have Z2 := Lib.hid hb.size
    have O1 := Lib.hid ho
    clear ho hb
    have cBA := BA.out.2.1
    have kBA := BA.out.2.2
    go_wp2_with fail
    clear cBA kBA
    refine (H1.out L1.out L2.out _ _ ⟨_, rfl, O1.out.yl⟩).mono ?_
    rintro e w3 ⟨rfl, hb⟩
    have BA := Lib.hid (BA.out.below hb)
    have O1 := Lib.hid (O1.out.below hb)
    have B := Lib.hid (B.out.trans (hb.mono B.out.size))
    have Z3 := Lib.hid hb.size
    clear hb
    clear O1
    have cBA := BA.out.2.1
    have kBA := BA.out.2.2
    go_wp2_with fail
    clear cBA kBA
    refine (toB_any (.agg #[.int .i64 hh, v0]) hh Y L1.out L2.out _ (HV.out.below B.out)).mono ?_
    rintro e w4 ⟨a3, k3, rfl, ho, hb⟩
    have BA := Lib.hid (BA.out.below hb)
    have B := Lib.hid (B.out.trans (hb.mono B.out.size))
    have Z4 := Lib.hid hb.size
    have O3 := Lib.hid ho
    clear ho hb
    have cBA := BA.out.2.1
    have kBA := BA.out.2.2
    have dBA := fun o => (World.cell?_alloc_lt w4 o ⟨w.heap.size, 0, none⟩ BA.out.1).trans BA.out.2.1
    have eBA := fun o => (World.cell?_alloc_lt w4 o ⟨w.heap.size, 1, none⟩ BA.out.1).trans BA.out.2.2
    go_wp2_with fail
    clear cBA kBA
    clear dBA eBA
    have hb := below_one w4 (.cells #[.int .i64 hh, .slice a3 Y.length k3] 26)
    have BX := Lib.hid (Box2.new w4 hh (.slice a3 Y.length k3) 26)
    have BA := Lib.hid (BA.out.below hb)
    have O3 := Lib.hid (O3.out.below hb)
    have B := Lib.hid (B.out.trans (hb.mono B.out.size))
    have Z5 := Lib.hid hb.size
    clear hb
    generalize w4.alloc (.cells #[.int .i64 hh, .slice a3 Y.length k3] 26) = w5 at *
    have Z6 := Lib.hid BX.out.1
    have cBA := BA.out.2.1
    have kBA := BA.out.2.2
    have cBX := BX.out.2.1
    have kBX := BX.out.2.2
    go_wp2_with fail
    clear cBA kBA cBX kBX
    refine (H2.out L1.out L2.out _ _ ⟨_, rfl, O3.out.yl⟩).mono ?_
    rintro e w6 ⟨rfl, hb⟩
    have BA := Lib.hid (BA.out.below hb)
    have O3 := Lib.hid (O3.out.below hb)
    have BX := Lib.hid (BX.out.below hb)
    have B := Lib.hid (B.out.trans (hb.mono B.out.size))
    have Z7 := Lib.hid hb.size
    clear hb
    have cBA := BA.out.2.1
    have kBA := BA.out.2.2
    have cBX := BX.out.2.1
    have kBX := BX.out.2.2
    go_wp2_with fail
    have K0 := (KeepB.start (HV.out.below B.out) ⟨_, rfl, O3.out.yl⟩ BA.out BX.out).drew
    have KT := Lib.hid L1.out
    have hq1 := L1.out
    have hq2 := L2.out
    clear cBA kBA cBX kBX
    obtain ⟨hk0, hk1, hk2, hk3⟩ : w6.drew.cell? ⟨w.heap.size, 0, none⟩ = some (.int .i64 hh) ∧ w6.drew.cell? ⟨w.heap.size, 1, none⟩ = some v0 ∧ w6.drew.cell? ⟨w4.heap.size, 0, none⟩ = some (.int .i64 hh) ∧ w6.drew.cell? ⟨w4.heap.size, 1, none⟩ = some (.slice a3 Y.length k3) := K0.cells
    go_region_held3 (fun W => (W.cell? ⟨w.heap.size, 0, none⟩ = some (.int .i64 hh) ∧ W.cell? ⟨w.heap.size, 1, none⟩ = some v0 ∧ W.cell? ⟨w4.heap.size, 0, none⟩ = some (.int .i64 hh) ∧ W.cell? ⟨w4.heap.size, 1, none⟩ = some (.slice a3 Y.length k3)) ∧ KeepB w6 w.heap.size w4.heap.size hh v0 (.slice a3 Y.length k3) Y W) (go_keep) (first | (go_at_call 20; refine (KeepB.to L1.out L2.out (by assumption)).mono ?_; rintro e w' ⟨u, rfl, hu, x0, x1, x2, x3, hK⟩) | (go_at_call 21; refine (KeepB.eq L1.out L2.out (by assumption) (by assumption)).mono ?_; rintro e w' ⟨rfl, x0, x1, x2, x3, hK⟩))
    rename World => w7
    have hb := hK.1
    clear hK x0 x1 x2 x3 hu hq1 hq2 KT
    have BA := Lib.hid (BA.out.below hb)
    have O3 := Lib.hid (O3.out.below hb)
    have BX := Lib.hid (BX.out.below hb)
    have B := Lib.hid (B.out.trans (hb.mono B.out.size))
    have Z8 := Lib.hid hb.size
    clear hb
    have cBA := BA.out.2.1
    have kBA := BA.out.2.2
    have cBX := BX.out.2.1
    have kBX := BX.out.2.2
    go_wp2_with fail
    go_ret
    exact ⟨rfl, B.out⟩

theorem doorT_met (os : Os) (args : Array Value) : laidMetH Tryd.prog Rows.fnExactBayTextRow.laid ((World.doorLaid Tryd.prog 400 os).forCall (fun _ _ => 0) ⟨#[], args, []⟩).memory :=
  laidMetH_of_parts3 (fuel := 8) (laidMet_of_run' 8 (by kernel_rfl) (by kernel_rfl)) (by kernel_rfl) (by kernel_rfl)

set_option maxRecDepth 100000 in
theorem bayText_lifted (os : Os) (started : os.Started) (H : Type) (enc : TypeId × Value → H) :
    ReturnsInHanded {} Tryd.checked os 4 .any (fun w args => (Rows.fnExactBayTextSpec.pre enc Tryd.prog Tryd.f4 [] false w args ∧ laidMetH Tryd.prog Rows.fnExactBayTextRow.laid w) ∧ sizedMet enc Tryd.prog Tryd.f4 (OpenSpec.ofChange Rows.fnExactBayTextSpec) false w args)
      (Rows.fnExactBayTextSpec.post enc Tryd.prog Tryd.f4 false true false false) := by
  refine returnsInHanded_of_change_and (C := Tryd.checked) (X := fun w _ => laidMetH Tryd.prog Rows.fnExactBayTextRow.laid w) (fun _ _ _ hh h => h.of_heap hh) yard_own started (by kernel_rfl) Tryd.func4
    (ChangeSpec.witness_shaped (enc := enc) (C := Tryd.checked) (os := os) (X := fun w _ => laidMetH Tryd.prog Rows.fnExactBayTextRow.laid w) false (World.doorLaid Tryd.prog 400 os) #[.agg #[.int .i64 0, .slice none 0 0]] 8 rfl (World.shaped_of_RefB (by kernel_rfl) (by kernel_rfl)) (by kernel_rfl) (by kernel_rfl) (by kernel_rfl) (doorT_met os _)) ?_
  intro W base args ds gs before hval0 hW _ _ _ _
  have hval : ∀ (j : Nat) t v, Tryd.f4.params[j]? = some t → args[j]? = some v → Value.okWide Tryd.prog W .any base t v := hval0
  have hW' := hW
  obtain ⟨p, q, hA0, hV, rfl, hfz, hnd⟩ := hW
  have hA : DataW.TrodAll enc Tryd.prog W 0 (fun _ => true) true Tryd.f4.params.toList args.toList ds p := hA0
  rw [Tryd.params4] at hA hval
  obtain ⟨v0, d0, rfl, rfl, h0⟩ := trodAll_one hA
  obtain ⟨rfl, rfl⟩ := trodVars_none hV
  clear hA0 hval0
  simp only [List.append_nil] at hW'
  have hlt : ∀ x ∈ p, x.block < W.heap.size := fun x hx => by simpa using hW'.lt x (by simpa using hx)
  obtain ⟨hh, Y, hn, hs, hv⟩ := open_bay (hval 0 41 v0 rfl rfl) h0 hlt
  refine (bayText_body v0 hh Y (btx hh Y) (goodB hh Y) hn hs W hv (fun h1 h2 u W h => specBt_any u hh Y h1 h2 W h) (fun h1 h2 u W h => implBt_any u hh Y h1 h2 W h)).mono fun e W' ⟨he, hB⟩ => ?_
  subst he
  refine ⟨_, rfl, _, _, _, [], p, [], hW', ?_, ?_, rfl, hB.frame _, fun h => by cases h⟩
  · exact trodAll_mk1 (shut_bool Tryd.underlying4 true)
  · exact trodAll_mk1 (Below.trod yard_laidOut (by kernel_rfl) (of_decide_eq_true (by kernel_rfl)) h0 hB hlt)

theorem bayText_said : Rows.FnExactBayTextSaid :=
  OpenClaim.holds_of_wide 4 Tryd.f4 rfl rfl rfl rfl rfl rfl rfl ⟨rfl, rfl, rfl, rfl, rfl⟩ rfl rfl rfl rfl rfl (by kernel_rfl) Tryd.func4 (by kernel_rfl)
    (of_decide_eq_true (by kernel_rfl)) (by unfold Func.isWrapper; first | (rw [if_pos (by decide +kernel)]; kernel_rfl) | (rw [if_neg (by decide +kernel)]; exact ⟨rfl, rfl⟩))
    (fun os started H enc _ => bayText_lifted os started H enc)

theorem FnExactBayText_holds : Rows.FnExactBayTextCardSaid :=
  Claim7.holds_tied_plain_at .later [] [.data, .data, .data] true (true, "7c6e37db007ac05759d915bb106abb5b30bebb5507ecf4087f669db69be05394") true
    bayText_said (fun _ h => by cases h) (by kernel_rfl) (fun _ h => by cases h) fnExactBayText_row_tie rfl ⟨rfl, rfl⟩ (by kernel_rfl) rfl
    (fun f fn hf hfn => by
      obtain rfl : f = 4 := Option.some.inj ((show Tryd.prog.funcNamed "loop.example/g00906/laws.FnExactBayText" = some 4 by kernel_rfl).symm.trans hf) |>.symm
      obtain rfl : fn = Tryd.f4 := (Option.some.inj (Tryd.func4.symm.trans hfn)).symm
      exact ⟨by kernel_rfl, fun j t ht => by
        rw [Tryd.params4] at ht
        have hm : t ∈ [41] := by simpa using Array.mem_of_getElem? ht
        have hall : ([41].all fun u => !Tryd.prog.wantsStandIn u) = true := by kernel_rfl
        exact (show Tryd.prog.wantsStandIn t = false by simpa using List.all_eq_true.1 hall t hm)⟩)
    (by kernel_rfl)
#print axioms FnExactBayText_holds
end Go.Proofs.YtececghifehjeaaDoor
