/-
  Proved here: the tied card of the law FnExactParseYardFinding: it returns true at every text. Its condition is the row's laid list; what strings.Cut asks of the library's own variable is drawn out of the world's shape.
-/
import Derived.Test.YtcpelnnadabnpaaDoorRows
import Derived.Test.YtcpelnnadabnpaaDoorCards
import Derived.Test.YtcpelnnadabnpaaDoorTie
import Derived.Test.YtcpelnnadabnpaaDoorEPsp
import Derived.ProofKit
import Derived.LaidMore
import Derived.OpenShut
import Derived.Stop.Joined
import Derived.Stop.LaidErr
import Derived.Lib.SmallJoins
import Derived.SevenTiedAt
import Derived.Carry
import Derived.Shelf.Vars
namespace Go.Proofs.YtcpelnnadabnpaaDoor
open Go.ChangeShapes Go.WideShapes Go.ChangeAt Go.RowKit Go.Shelf
open Go.ChangeMaps (open_string shut_string)

set_option maxHeartbeats 1000000 in
theorem eqFnd_any (a b c : Int) (w : World) :
    Calls Tryd.prog 10 #[.agg #[.int .i64 a, .int .i64 b, .int .i64 c], .agg #[.int .i64 a, .int .i64 b, .int .i64 c]] w fun e w' => e = .returned (.bool true) ∧ Below w.heap.size w w' := by
  go_enter Tryd.func10, Tryd.ntmps10
  go_wp2_with fail
  go_ret
  exact ⟨rfl, (below_one w _).alloc (by simp) _⟩

set_option maxRecDepth 100000 in
set_option maxHeartbeats 4000000 in
theorem prs_walk (s : ByteArray) (w : World) (hT : Tabs w) : Calls Tryd.prog 4 #[.string s] w fun e w' => e = .returned (.bool true) ∧ Below w.heap.size w w' := by
  have HT := Lib.hid hT
  clear hT
  by_cases hbig : 1048576 < s.size
  · go_enter Tryd.func4, Tryd.ntmps4
    go_wp2_with fail
    go_ret
    exact ⟨rfl, Below.refl _ _⟩
  · have K1 := Lib.hid (specPrs_any s w)
    have K2 := Lib.hid (fun W h => implPrs_any s (by omega) W h)
    go_enter Tryd.func4, Tryd.ntmps4
    go_wp2_with fail
    refine K1.out.mono ?_
    rintro e w1 ⟨r, i, j, ok, rfl, ho, hb⟩
    have HO := Lib.hid ho
    have hb2 := below_one w1 (.cells #[.int .i64 r, .int .i64 i, .int .i64 j] 26)
    have B := Lib.hid (hb.trans (hb2.mono hb.size))
    have HF := Lib.hid (heap_alloc_new w1 (.cells #[.int .i64 r, .int .i64 i, .int .i64 j] 26))
    clear hb hb2 ho
    go_wp2_with fail
    generalize w1.alloc (.cells #[.int .i64 r, .int .i64 i, .int .i64 j] 26) = w2 at *
    refine (K2.out _ (HT.out.below B.out)).mono ?_
    rintro e w3 ⟨a, b, c, go, rfl, hg, hb⟩
    obtain ⟨rfl, rfl, rfl, rfl⟩ := HO.out.same hg
    have HF := Lib.hid ((hb.block _ (Array.getElem?_eq_some_iff.1 HF.out).1).trans HF.out)
    have B := Lib.hid (B.out.trans (hb.mono B.out.size))
    have hb4 := below_one w3 (.cells #[.int .i64 r, .int .i64 i, .int .i64 j] 26)
    have HF := Lib.hid ((hb4.block _ (Array.getElem?_eq_some_iff.1 HF.out).1).trans HF.out)
    have HG := Lib.hid (heap_alloc_new w3 (.cells #[.int .i64 r, .int .i64 i, .int .i64 j] 26))
    have B := Lib.hid (B.out.trans (hb4.mono B.out.size))
    clear hb hb4 hg
    have x0 := cell_of (i := 0) HF.out rfl
    have x1 := cell_of (i := 1) HF.out rfl
    have x2 := cell_of (i := 2) HF.out rfl
    have y0 := cell_of (i := 0) HG.out rfl
    have y1 := cell_of (i := 1) HG.out rfl
    have y2 := cell_of (i := 2) HG.out rfl
    go_wp2_with fail
    generalize w3.alloc (.cells #[.int .i64 r, .int .i64 i, .int .i64 j] 26) = w4 at *
    refine (eqFnd_any r i j w4).mono ?_
    rintro e w5 ⟨rfl, hb⟩
    have B := Lib.hid (B.out.trans (hb.mono B.out.size))
    clear hb x0 x1 x2 y0 y1 y2
    cases ok
    all_goals
      go_wp2_with fail
      go_ret
      exact ⟨rfl, B.out⟩

theorem gSyn : Tryd.prog.globalNamed "strconv.ErrSyntax" = some 2 := by kernel_rfl
theorem gRng : Tryd.prog.globalNamed "strconv.ErrRange" = some 3 := by kernel_rfl
theorem gPowP : Tryd.prog.globalNamed "internal/strconv.uint64pow10" = some 0 := by kernel_rfl
theorem tPowP : (Tryd.prog.globals[0]?).map (·.type) = some 63 := by kernel_rfl
theorem tSyn : (Tryd.prog.globals[2]?).map (·.type) = some 47 := by kernel_rfl
theorem tRng : (Tryd.prog.globals[3]?).map (·.type) = some 47 := by kernel_rfl
theorem starD : "*" ++ "errors.errorString" = "*errors.errorString" := by decide
theorem rowErr (u : TypeId) (h : Tryd.prog.typeName? 3 u = some "*errors.errorString") : u = 89 :=
  typeName_ptr_named (nm := "errors.errorString") (by rw [starD]; kernel_rfl) (by kernel_rfl) (by decide) u (by rw [starD]; exact h)

theorem maxLen_cell {W : World} (h : W.ShapedOpen Tryd.prog) : ∃ m, W.cell? ⟨1, 0, none⟩ = some (.int .i64 m) :=
  cell_of_shapedOpen_int (g := 1) (t := 3) (zero := #[.int .i64 0]) h (by decide +kernel) (by kernel_rfl) rfl (by kernel_rfl) (by kernel_rfl) Tryd.underlying3

/-- What the row's list and the world's shape give. -/
theorem tabs_of_laid {W : World} (h : laidMetH Tryd.prog Rows.fnExactParseYardFindingRow.laid W) (hs : W.ShapedOpen Tryd.prog) : Tabs W := by
  rw [MakeChecks.laidMetH_plain _ _ _ (by kernel_rfl)] at h
  have h2 := h.tail.tail
  have h3 := h2.tail
  have h4 := h3.tail
  refine ⟨⟨Lib.tabIs_of_head (zs := Lib.pow10Tab) gPowP tPowP Tryd.underlying63 Tryd.underlying52 (by kernel_rfl) (by kernel_rfl) h2, ?_, ?_⟩, maxLen_cell hs⟩
  · obtain ⟨a0, s0, hv0, -, -, -⟩ := laid_sentinel h4 gSyn tSyn Tryd.underlying47 rowErr Tryd.underlying89 Tryd.underlying91 rfl rfl Tryd.underlying9 (by kernel_rfl) (by kernel_rfl)
    exact ⟨_, _, hv0⟩
  · obtain ⟨a0, s0, hv0, -, -, -⟩ := laid_sentinel h3 gRng tRng Tryd.underlying47 rowErr Tryd.underlying89 Tryd.underlying91 rfl rfl Tryd.underlying9 (by kernel_rfl) (by kernel_rfl)
    exact ⟨_, _, hv0⟩

theorem doorP_met (os : Os) (args : Array Value) : laidMetH Tryd.prog Rows.fnExactParseYardFindingRow.laid ((World.doorLaid Tryd.prog 400 os).forCall (fun _ _ => 0) ⟨#[], args, []⟩).memory :=
  laidMetH_of_parts3 (fuel := 8) (laidMet_of_run' 8 (by kernel_rfl) (by kernel_rfl)) (by kernel_rfl) (by kernel_rfl)

theorem ownP : ownKnob Tryd.prog.godebug = none := by kernel_rfl

set_option maxRecDepth 100000 in
theorem prs_lifted (os : Os) (started : os.Started) (H : Type) (enc : TypeId × Value → H) :
    ReturnsInHanded {} Tryd.checked os 4 .any (fun w args => (Rows.fnExactParseYardFindingSpec.pre enc Tryd.prog Tryd.f4 [] false w args ∧ laidMetH Tryd.prog Rows.fnExactParseYardFindingRow.laid w) ∧ sizedMet enc Tryd.prog Tryd.f4 (OpenSpec.ofChange Rows.fnExactParseYardFindingSpec) false w args)
      (Rows.fnExactParseYardFindingSpec.post enc Tryd.prog Tryd.f4 false true false false) := by
  refine returnsInHanded_of_calls ownP started (by kernel_rfl)
    (ChangeSpec.witness_shaped (enc := enc) (C := Tryd.checked) (os := os) (X := fun w _ => laidMetH Tryd.prog Rows.fnExactParseYardFindingRow.laid w) false (World.doorLaid Tryd.prog 400 os) #[.string ⟨#[]⟩] 8 rfl (World.shaped_of_RefB (by kernel_rfl) (by kernel_rfl)) (by kernel_rfl) (by kernel_rfl) (by kernel_rfl) (doorP_met os _)) ?_
  intro w tape inp _ hsh _ hok hpre _
  obtain ⟨_, _, _, fn', hfn', _, _, _, _, hval00⟩ := hok
  have efn : fn' = Tryd.f4 := Option.some.inj (hfn'.symm.trans Tryd.func4)
  subst efn
  obtain ⟨⟨⟨ds, gs, before, hw, _⟩, hx⟩, _⟩ := hpre
  have hW := DataW.Whole.of_heap (w' := w.forCall tape inp) (by rfl) hw
  have hL : laidMetH Tryd.prog Rows.fnExactParseYardFindingRow.laid (w.forCall tape inp) := hx.of_heap (by rfl)
  have hval0 := hval00
  generalize w.heap.size = base at *
  generalize w.forCall tape inp = W at *
  generalize hargs : inp.args = args at *
  have hval : ∀ (j : Nat) t v, Tryd.f4.params[j]? = some t → args[j]? = some v → Value.okWide Tryd.prog W .any base t v := hval0
  have hW' := hW
  obtain ⟨p, q, hA0, hV, rfl, hfz, hnd⟩ := hW
  have hA : DataW.TrodAll enc Tryd.prog W 0 (fun _ => true) true Tryd.f4.params.toList args.toList ds p := hA0
  rw [Tryd.params4] at hA hval
  obtain ⟨v0, d0, rfl, rfl, h0⟩ := trodAll_one hA
  obtain ⟨rfl, rfl⟩ := trodVars_none hV
  obtain ⟨s, rfl, rfl, rfl, ws⟩ := open_string Tryd.underlying9 (hval 0 9 v0 rfl rfl) h0
  clear hA0 hval0
  simp only [List.append_nil] at hW'
  refine (prs_walk s W (tabs_of_laid hL hsh)).mono fun e W' ⟨he, hB⟩ => ?_
  subst he
  exact ChangeSpec.post_blind ⟨_, _, _, [], [], [], hW', trodAll_mk1 (shut_bool Tryd.underlying4 true), trodAll_mk1 (shut_string Tryd.underlying9 ws), rfl, hB.frame _, fun h => by cases h⟩

theorem prs_holds : Rows.FnExactParseYardFindingSaid :=
  OpenClaim.holds_of_wide 4 Tryd.f4 rfl rfl rfl rfl rfl rfl rfl ⟨rfl, rfl, rfl, rfl, rfl⟩ rfl rfl rfl rfl rfl (by kernel_rfl) Tryd.func4 (by kernel_rfl)
    (of_decide_eq_true (by kernel_rfl)) (by unfold Func.isWrapper; first | (rw [if_pos (by decide +kernel)]; kernel_rfl) | (rw [if_neg (by decide +kernel)]; exact ⟨rfl, rfl⟩))
    (fun os started H enc _ => prs_lifted os started H enc)

theorem FnExactParseYardFinding_holds : Rows.FnExactParseYardFindingCardSaid :=
  Claim7.holds_tied_plain_at .later [] [.data, .data, .data, .sentinel, .sentinel] true (true, "a753cc4b2f4daa6d8b884160c13d28bbbef5ad18b1952f04224181ec0a086de4") true
    prs_holds (fun _ h => by cases h) (by kernel_rfl) (fun _ h => by cases h) fnExactParseYardFinding_row_tie rfl ⟨rfl, rfl⟩ (by kernel_rfl) rfl
    (fun f fn hf hfn => by
      obtain rfl : f = 4 := Option.some.inj ((show Tryd.prog.funcNamed "loop.example/g00906/laws.FnExactParseYardFinding" = some 4 by kernel_rfl).symm.trans hf) |>.symm
      obtain rfl : fn = Tryd.f4 := (Option.some.inj (Tryd.func4.symm.trans hfn)).symm
      exact ⟨by kernel_rfl, fun j t ht => by
        rw [Tryd.params4] at ht
        have hm : t ∈ [9] := by simpa using Array.mem_of_getElem? ht
        have hall : ([9].all fun u => !Tryd.prog.wantsStandIn u) = true := by kernel_rfl
        exact (show Tryd.prog.wantsStandIn t = false by simpa using List.all_eq_true.1 hall t hm)⟩)
    (by kernel_rfl)
#print axioms FnExactParseYardFinding_holds
end Go.Proofs.YtcpelnnadabnpaaDoor
