/-
  Proved here: the tied card of the law FnExactParseBay: it returns true at every text. There are no conditions beyond the row's laid list.
-/
import Derived.Test.YtfbeoficgkkamaaDoorRows
import Derived.Test.YtfbeoficgkkamaaDoorCards
import Derived.Test.YtfbeoficgkkamaaDoorTie
import Derived.Test.YtfbeoficgkkamaaDoorPbT
import Derived.Test.YtfbeoficgkkamaaDoorPbU
import Derived.WalkKit
import Derived.ProofKit
import Derived.LaidMore
import Derived.OpenShut
import Derived.Stop.Joined
import Derived.Stop.LaidErr
import Derived.Lib.SmallJoins
import Derived.SevenTiedAt
import Derived.Carry
import Derived.Shelf.Vars
namespace Go.Proofs.YtfbeoficgkkamaaDoor
open Go.ChangeShapes Go.WideShapes Go.ChangeAt Go.RowKit Go.Shelf
open Go.ChangeMaps (open_string shut_string)


set_option maxRecDepth 100000 in
set_option maxHeartbeats 8000000 in
theorem prsB_body (s : ByteArray) (rh : Int) (R : List (List Int)) (ok : Bool) (hs : s.size ≤ 1048576) (hR : R.length ≤ 1048576) (hT : tot R ≤ 1048576) (w : World)
    (h1 : ∀ W, Calls Tryd.prog 5 #[.string s] W (RetB W rh R ok))
    (h2 : ∀ W, Below w.heap.size w W → Calls Tryd.prog 6 #[.string s] W (RetB W rh R ok)) :
    Calls Tryd.prog 3 #[.string s] w fun e w' => e = .returned (.bool true) ∧ Below w.heap.size w w' := by
  have H1 := Lib.hid h1
  have H2 := Lib.hid h2
  have hsz : ¬ (1048576 : Int) < (s.size : Int) := by omega
  clear h1 h2
  have B := Lib.hid (Below.refl w.heap.size w)
  go_enter Tryd.func3, Tryd.ntmps3
  go_wp2_with fail
  refine (H1.out _).mono ?_
  rintro e w1 ⟨a1, k1, rfl, ho, hb⟩
  have B := Lib.hid (B.out.trans (hb.mono B.out.size))
  have Z0 := Lib.hid hb.size
  have W0 := Lib.hid ho
  clear ho hb
  go_wp2_with fail
  have hb := below_one w1 (.cells #[.int .i64 rh, .slice a1 R.length k1] 24)
  have BW := Lib.hid (Box2.new w1 rh (.slice a1 R.length k1) 24)
  have W0 := Lib.hid (W0.out.below hb)
  have B := Lib.hid (B.out.trans (hb.mono B.out.size))
  have Z1 := Lib.hid hb.size
  clear hb
  generalize w1.alloc (.cells #[.int .i64 rh, .slice a1 R.length k1] 24) = w2 at *
  have Z2 := Lib.hid BW.out.1
  have cBW := BW.out.2.1
  have kBW := BW.out.2.2
  go_wp2_with fail
  clear cBW kBW
  refine (H2.out w2 B.out).mono ?_
  rintro e w3 ⟨a2, k2, rfl, ho, hb⟩
  have W0 := Lib.hid (W0.out.below hb)
  have BW := Lib.hid (BW.out.below hb)
  have B := Lib.hid (B.out.trans (hb.mono B.out.size))
  have Z3 := Lib.hid hb.size
  have G0 := Lib.hid ho
  clear ho hb
  have cBW := BW.out.2.1
  have kBW := BW.out.2.2
  have dBW := fun o => (World.cell?_alloc_lt w3 o ⟨w1.heap.size, 0, none⟩ BW.out.1).trans BW.out.2.1
  have eBW := fun o => (World.cell?_alloc_lt w3 o ⟨w1.heap.size, 1, none⟩ BW.out.1).trans BW.out.2.2
  go_wp2_with fail
  clear cBW kBW
  clear dBW eBW
  have hb := below_one w3 (.cells #[.int .i64 rh, .slice a2 R.length k2] 24)
  have BX := Lib.hid (Box2.new w3 rh (.slice a2 R.length k2) 24)
  have W0 := Lib.hid (W0.out.below hb)
  have BW := Lib.hid (BW.out.below hb)
  have G0 := Lib.hid (G0.out.below hb)
  have B := Lib.hid (B.out.trans (hb.mono B.out.size))
  have Z4 := Lib.hid hb.size
  clear hb
  generalize w3.alloc (.cells #[.int .i64 rh, .slice a2 R.length k2] 24) = w4 at *
  have Z5 := Lib.hid BX.out.1
  have cBW := BW.out.2.1
  have kBW := BW.out.2.2
  have cBX := BX.out.2.1
  have kBX := BX.out.2.2
  go_wp2_with fail
  clear cBW kBW cBX kBX
  refine (eqB_any _ _ rh R hR hT _ ⟨_, rfl, G0.out.yl⟩ ⟨_, rfl, W0.out.yl⟩).mono ?_
  rintro e w5 ⟨rfl, hb⟩
  have W0 := Lib.hid (W0.out.below hb)
  have BW := Lib.hid (BW.out.below hb)
  have G0 := Lib.hid (G0.out.below hb)
  have BX := Lib.hid (BX.out.below hb)
  have B := Lib.hid (B.out.trans (hb.mono B.out.size))
  have Z6 := Lib.hid hb.size
  clear hb
  have cBW := BW.out.2.1
  have kBW := BW.out.2.2
  have cBX := BX.out.2.1
  have kBX := BX.out.2.2
  go_wp2_with fail
  clear cBW kBW cBX kBX
  refine (markB_any _ rh R 1 w2.heap.size w3.heap.size hR hT (by decide) (by decide) _ ⟨_, rfl, G0.out⟩).mono ?_
  rintro e w6 ⟨rfl, hM, hS⟩
  obtain ⟨_, hM1, hM2⟩ := hM
  cases hM1
  have M0 := Lib.hid hM2
  clear hM2 G0
  have W0 := Lib.hid (W0.out.span hS (by have z0 := Z0.out; have z1 := Z1.out; have z2 := Z2.out; have z3 := Z3.out; have z4 := Z4.out; have z5 := Z5.out; have z6 := Z6.out; have y0 := BW.out.1; have y1 := BX.out.1; omega))
  have BW := Lib.hid (BW.out.span hS (by have z0 := Z0.out; have z1 := Z1.out; have z2 := Z2.out; have z3 := Z3.out; have z4 := Z4.out; have z5 := Z5.out; have z6 := Z6.out; have y0 := BW.out.1; have y1 := BX.out.1; omega))
  have BX := Lib.hid (BX.out.span hS (by have z0 := Z0.out; have z1 := Z1.out; have z2 := Z2.out; have z3 := Z3.out; have z4 := Z4.out; have z5 := Z5.out; have z6 := Z6.out; have y0 := BW.out.1; have y1 := BX.out.1; omega))
  have B := Lib.hid (Below.span (B.out.mono (Nat.le_refl _)) (hS.lift (by have z0 := Z0.out; have z1 := Z1.out; have z2 := Z2.out; have z3 := Z3.out; have z4 := Z4.out; have z5 := Z5.out; have z6 := Z6.out; have y0 := BW.out.1; have y1 := BX.out.1; omega)) B.out.size)
  have Z7 := Lib.hid hS.size
  clear hS
  have hnr : (0 : Int) ≤ 1 + (tot R : Nat) := by omega
  have cBW := BW.out.2.1
  have kBW := BW.out.2.2
  have cBX := BX.out.2.1
  have kBX := BX.out.2.2
  go_wp2_with fail
  clear cBW kBW cBX kBX
  refine (heldB_any _ rh R 1 hR hT (by decide) (by decide) _ ⟨_, rfl, M0.out.yl⟩).mono ?_
  rintro e w7 ⟨rfl, hb⟩
  have W0 := Lib.hid (W0.out.below hb)
  have BW := Lib.hid (BW.out.below hb)
  have BX := Lib.hid (BX.out.below hb)
  have M0 := Lib.hid (M0.out.below hb)
  have B := Lib.hid (B.out.trans (hb.mono B.out.size))
  have Z8 := Lib.hid hb.size
  clear hb
  have cBW := BW.out.2.1
  have kBW := BW.out.2.2
  have cBX := BX.out.2.1
  have kBX := BX.out.2.2
  go_wp2_with fail
  clear cBW kBW cBX kBX
  refine (H2.out w7 B.out).mono ?_
  rintro e w8 ⟨a3, k3, rfl, ho, hb⟩
  have W0 := Lib.hid (W0.out.below hb)
  have BW := Lib.hid (BW.out.below hb)
  have BX := Lib.hid (BX.out.below hb)
  have M0 := Lib.hid (M0.out.below hb)
  have B := Lib.hid (B.out.trans (hb.mono B.out.size))
  have Z9 := Lib.hid hb.size
  have G1 := Lib.hid ho
  clear ho hb
  have cBW := BW.out.2.1
  have kBW := BW.out.2.2
  have cBX := BX.out.2.1
  have kBX := BX.out.2.2
  have dBW := fun o => (World.cell?_alloc_lt w8 o ⟨w1.heap.size, 0, none⟩ BW.out.1).trans BW.out.2.1
  have eBW := fun o => (World.cell?_alloc_lt w8 o ⟨w1.heap.size, 1, none⟩ BW.out.1).trans BW.out.2.2
  have dBX := fun o => (World.cell?_alloc_lt w8 o ⟨w3.heap.size, 0, none⟩ BX.out.1).trans BX.out.2.1
  have eBX := fun o => (World.cell?_alloc_lt w8 o ⟨w3.heap.size, 1, none⟩ BX.out.1).trans BX.out.2.2
  go_wp2_with fail
  clear cBW kBW cBX kBX
  clear dBW eBW dBX eBX
  have hb := below_one w8 (.cells #[.int .i64 rh, .slice a3 R.length k3] 24)
  have BG := Lib.hid (Box2.new w8 rh (.slice a3 R.length k3) 24)
  have W0 := Lib.hid (W0.out.below hb)
  have BW := Lib.hid (BW.out.below hb)
  have BX := Lib.hid (BX.out.below hb)
  have M0 := Lib.hid (M0.out.below hb)
  have G1 := Lib.hid (G1.out.below hb)
  have B := Lib.hid (B.out.trans (hb.mono B.out.size))
  have Z10 := Lib.hid hb.size
  clear hb
  generalize w8.alloc (.cells #[.int .i64 rh, .slice a3 R.length k3] 24) = w9 at *
  have Z11 := Lib.hid BG.out.1
  have cBW := BW.out.2.1
  have kBW := BW.out.2.2
  have cBX := BX.out.2.1
  have kBX := BX.out.2.2
  have cBG := BG.out.2.1
  have kBG := BG.out.2.2
  go_wp2_with fail
  clear cBW kBW cBX kBX cBG kBG
  refine (eqB_any _ _ rh R hR hT _ ⟨_, rfl, G1.out.yl⟩ ⟨_, rfl, W0.out.yl⟩).mono ?_
  rintro e w10 ⟨rfl, hb⟩
  have W0 := Lib.hid (W0.out.below hb)
  have BW := Lib.hid (BW.out.below hb)
  have BX := Lib.hid (BX.out.below hb)
  have M0 := Lib.hid (M0.out.below hb)
  have G1 := Lib.hid (G1.out.below hb)
  have BG := Lib.hid (BG.out.below hb)
  have B := Lib.hid (B.out.trans (hb.mono B.out.size))
  have Z12 := Lib.hid hb.size
  clear hb
  have cBW := BW.out.2.1
  have kBW := BW.out.2.2
  have cBX := BX.out.2.1
  have kBX := BX.out.2.2
  have cBG := BG.out.2.1
  have kBG := BG.out.2.2
  go_wp2_with fail
  clear cBW kBW cBX kBX cBG kBG
  refine (heldB_any _ rh R 1 hR hT (by decide) (by decide) _ ⟨_, rfl, M0.out.yl⟩).mono ?_
  rintro e w11 ⟨rfl, hb⟩
  have W0 := Lib.hid (W0.out.below hb)
  have BW := Lib.hid (BW.out.below hb)
  have BX := Lib.hid (BX.out.below hb)
  have M0 := Lib.hid (M0.out.below hb)
  have G1 := Lib.hid (G1.out.below hb)
  have BG := Lib.hid (BG.out.below hb)
  have B := Lib.hid (B.out.trans (hb.mono B.out.size))
  have Z13 := Lib.hid hb.size
  clear hb
  have cBW := BW.out.2.1
  have kBW := BW.out.2.2
  have cBX := BX.out.2.1
  have kBX := BX.out.2.2
  have cBG := BG.out.2.1
  have kBG := BG.out.2.2
  go_wp2_with fail
  go_ret
  exact ⟨rfl, B.out⟩
theorem prsB_walk (s : ByteArray) (w : World) (hE : ErrVars w) : Calls Tryd.prog 3 #[.string s] w fun e w' => e = .returned (.bool true) ∧ Below w.heap.size w w' := by
  by_cases hs : s.size ≤ 1048576
  · exact prsB_body s (bH s) (bY s) (okI s) hs (bY_small s).1 (bY_small s).2 w (fun W => specPr_any s hs W) (fun W hb => implPr_all s W (hE.below hb))
  · have hsz : (1048576 : Int) < (s.size : Int) := by omega
    go_enter Tryd.func3, Tryd.ntmps3
    go_wp2_with fail
    go_ret
    exact ⟨rfl, Below.refl _ _⟩

theorem gSyn : Tryd.prog.globalNamed "strconv.ErrSyntax" = some 0 := by kernel_rfl
theorem gRng : Tryd.prog.globalNamed "strconv.ErrRange" = some 1 := by kernel_rfl
theorem gPowP : Tryd.prog.globalNamed "internal/strconv.uint64pow10" = some 2 := by kernel_rfl
theorem tPowP : (Tryd.prog.globals[2]?).map (·.type) = some 120 := by kernel_rfl
theorem tSyn : (Tryd.prog.globals[0]?).map (·.type) = some 71 := by kernel_rfl
theorem tRng : (Tryd.prog.globals[1]?).map (·.type) = some 71 := by kernel_rfl
theorem starD : "*" ++ "errors.errorString" = "*errors.errorString" := by decide
theorem rowErr (u : TypeId) (h : Tryd.prog.typeName? 3 u = some "*errors.errorString") : u = 116 :=
  typeName_ptr_named (nm := "errors.errorString") (by rw [starD]; kernel_rfl) (by kernel_rfl) (by decide) u (by rw [starD]; exact h)

set_option maxRecDepth 100000 in
set_option maxHeartbeats 4000000 in
theorem errs_of_laid {W : World} (h : laidMetH Tryd.prog Rows.fnExactParseBayRow.laid W) : ErrVars W := by
  rw [MakeChecks.laidMetH_plain _ _ _ (by kernel_rfl)] at h
  have h2 := h.tail.tail
  have h3 := h2.tail
  have h4 := h3.tail
  refine ⟨?_, ?_⟩
  · obtain ⟨a0, s0, hv0, -, -, -⟩ := laid_sentinel h4 gSyn tSyn Tryd.underlying71 rowErr Tryd.underlying116 Tryd.underlying118 rfl rfl Tryd.underlying9 (by kernel_rfl) (by kernel_rfl)
    exact ⟨_, _, hv0⟩
  · obtain ⟨a0, s0, hv0, -, -, -⟩ := laid_sentinel h3 gRng tRng Tryd.underlying71 rowErr Tryd.underlying116 Tryd.underlying118 rfl rfl Tryd.underlying9 (by kernel_rfl) (by kernel_rfl)
    exact ⟨_, _, hv0⟩

theorem doorP_met (os : Os) (args : Array Value) : laidMetH Tryd.prog Rows.fnExactParseBayRow.laid ((World.doorLaid Tryd.prog 400 os).forCall (fun _ _ => 0) ⟨#[], args, []⟩).memory :=
  laidMetH_of_parts3 (fuel := 8) (laidMet_of_run' 8 (by kernel_rfl) (by kernel_rfl)) (by kernel_rfl) (by kernel_rfl)

theorem ownP : ownKnob Tryd.prog.godebug = none := by kernel_rfl

set_option maxRecDepth 100000 in
theorem prsB_lifted (os : Os) (started : os.Started) (H : Type) (enc : TypeId × Value → H) :
    ReturnsInHanded {} Tryd.checked os 3 .any (fun w args => (Rows.fnExactParseBaySpec.pre enc Tryd.prog Tryd.f3 [] false w args ∧ laidMetH Tryd.prog Rows.fnExactParseBayRow.laid w) ∧ sizedMet enc Tryd.prog Tryd.f3 (OpenSpec.ofChange Rows.fnExactParseBaySpec) false w args)
      (Rows.fnExactParseBaySpec.post enc Tryd.prog Tryd.f3 false true false false) := by
  refine returnsInHanded_of_calls ownP started (by kernel_rfl)
    (ChangeSpec.witness_shaped (enc := enc) (C := Tryd.checked) (os := os) (X := fun w _ => laidMetH Tryd.prog Rows.fnExactParseBayRow.laid w) false (World.doorLaid Tryd.prog 400 os) #[.string ⟨#[]⟩] 8 rfl (World.shaped_of_RefB (by kernel_rfl) (by kernel_rfl)) (by kernel_rfl) (by kernel_rfl) (by kernel_rfl) (doorP_met os _)) ?_
  intro w tape inp _ hsh _ hok hpre _
  obtain ⟨_, _, _, fn', hfn', _, _, _, _, hval00⟩ := hok
  have efn : fn' = Tryd.f3 := Option.some.inj (hfn'.symm.trans Tryd.func3)
  subst efn
  obtain ⟨⟨⟨ds, gs, before, hw, _⟩, hx⟩, _⟩ := hpre
  have hW := DataW.Whole.of_heap (w' := w.forCall tape inp) (by rfl) hw
  have hL : laidMetH Tryd.prog Rows.fnExactParseBayRow.laid (w.forCall tape inp) := hx.of_heap (by rfl)
  have hval0 := hval00
  generalize w.heap.size = base at *
  generalize w.forCall tape inp = W at *
  generalize hargs : inp.args = args at *
  have hval : ∀ (j : Nat) t v, Tryd.f3.params[j]? = some t → args[j]? = some v → Value.okWide Tryd.prog W .any base t v := hval0
  have hW' := hW
  obtain ⟨p, q, hA0, hV, rfl, hfz, hnd⟩ := hW
  have hA : DataW.TrodAll enc Tryd.prog W 0 (fun _ => true) true Tryd.f3.params.toList args.toList ds p := hA0
  rw [Tryd.params3] at hA hval
  obtain ⟨v0, d0, rfl, rfl, h0⟩ := trodAll_one hA
  obtain ⟨rfl, rfl⟩ := trodVars_none hV
  obtain ⟨s, rfl, rfl, rfl, ws⟩ := open_string Tryd.underlying9 (hval 0 9 v0 rfl rfl) h0
  clear hA0 hval0
  simp only [List.append_nil] at hW'
  refine (prsB_walk s W (errs_of_laid hL)).mono fun e W' ⟨he, hB⟩ => ?_
  subst he
  exact ChangeSpec.post_blind ⟨_, _, _, [], [], [], hW', trodAll_mk1 (shut_bool Tryd.underlying4 true), trodAll_mk1 (shut_string Tryd.underlying9 ws), rfl, hB.frame _, fun h => by cases h⟩

theorem prsB_holds : Rows.FnExactParseBaySaid :=
  OpenClaim.holds_of_wide 3 Tryd.f3 rfl rfl rfl rfl rfl rfl rfl ⟨rfl, rfl, rfl, rfl, rfl⟩ rfl rfl rfl rfl rfl (by kernel_rfl) Tryd.func3 (by kernel_rfl)
    (of_decide_eq_true (by kernel_rfl)) (by unfold Func.isWrapper; first | (rw [if_pos (by decide +kernel)]; kernel_rfl) | (rw [if_neg (by decide +kernel)]; exact ⟨rfl, rfl⟩))
    (fun os started H enc _ => prsB_lifted os started H enc)

theorem FnExactParseBay_holds : Rows.FnExactParseBayCardSaid :=
  Claim7.holds_tied_plain_at .later [] [.data, .data, .data, .sentinel, .sentinel] true (true, "61f15459647f6ed1c91e81ad1ad859187aa45fd4337cf63931f7fd868a0c48f6") true
    prsB_holds (fun _ h => by cases h) (by kernel_rfl) (fun _ h => by cases h) fnExactParseBay_row_tie rfl ⟨rfl, rfl⟩ (by kernel_rfl) rfl
    (fun f fn hf hfn => by
      obtain rfl : f = 3 := Option.some.inj ((show Tryd.prog.funcNamed "loop.example/g00906/laws.FnExactParseBay" = some 3 by kernel_rfl).symm.trans hf) |>.symm
      obtain rfl : fn = Tryd.f3 := (Option.some.inj (Tryd.func3.symm.trans hfn)).symm
      exact ⟨by kernel_rfl, fun j t ht => by
        rw [Tryd.params3] at ht
        have hm : t ∈ [9] := by simpa using Array.mem_of_getElem? ht
        have hall : ([9].all fun u => !Tryd.prog.wantsStandIn u) = true := by kernel_rfl
        exact (show Tryd.prog.wantsStandIn t = false by simpa using List.all_eq_true.1 hall t hm)⟩)
    (by kernel_rfl)
#print axioms FnExactParseBay_holds
end Go.Proofs.YtfbeoficgkkamaaDoor
