/-
  Proved here: the law FnExactIsValidContainer returns true at every container, and the container reads afterwards as it read before. There are no conditions.
-/
import Derived.Test.YtpdonhdffniabaaRows
import Derived.Test.YtpdonhdffniabaaCConts
import Derived.WalkKit
import Derived.ProofKit
import Derived.OpenShut
import Derived.Lib.SmallJoins
import Derived.Carry
namespace Go.Proofs.Ytpdonhdffniabaa
open Go.Proofs.Ytpdonhdffniabaa.C
open Go.Joins Go.Deep Go.ChangeShapes Go.WideShapes Go.ChangeAt Go.RowKit
open Go.ChangeMaps (open_string shut_string)

section
variable {H : Type} {enc : TypeId × Value → H} {P : Program} {w : World} {base : Nat} {spare : Nat → Bool} {held : Bool}
/-- A struct of five one-cell fields, by value: its five values, and what each reads as. -/
theorem fields5 {r : Reach} {b0 : Nat} {t : TypeId} {f0 f1 f2 f3 f4 : Field} {v : Value} {d : DataW H} {p : List MemPlace} (hs : P.underlying t = some (.struct #[f0, f1, f2, f3, f4])) (hone : oneCellFields P #[f0, f1, f2, f3, f4] = true) (hC : P.cellsOf t = 5)
    (hv : Value.okWide P w r b0 t v) (h : DataW.Trod enc P w base spare held t v d p) :
    ∃ (v0 v1 v2 v3 v4 : Value) (y0 y1 y2 y3 y4 : DataW H × List MemPlace) (n : Nat), v = .agg #[v0, v1, v2, v3, v4] ∧
      DataW.trod enc P w base spare held n f0.type [v0] = some y0 ∧ DataW.trod enc P w base spare held n f1.type [v1] = some y1 ∧ DataW.trod enc P w base spare held n f2.type [v2] = some y2 ∧ DataW.trod enc P w base spare held n f3.type [v3] = some y3 ∧ DataW.trod enc P w base spare held n f4.type [v4] = some y4 := by
  obtain ⟨cs, rfl, hsz⟩ := okWide_struct hs hv
  obtain ⟨l⟩ := cs
  have hl : l.length = 5 := hsz.trans hC
  obtain ⟨fuel, hf⟩ := h
  obtain ⟨xs, n, _, _, _, hlen, hg⟩ := DataW.trod_struct hs hf
  have hx : xs.length = 5 := hlen
  have k0 := hone_of hone 0 f0 rfl
  have k1 := hone_of hone 1 f1 rfl
  have k2 := hone_of hone 2 f2 rfl
  have k3 := hone_of hone 3 f3 rfl
  have k4 := hone_of hone 4 f4 rfl
  match l, hl, xs, hx with
  | [c0, c1, c2, c3, c4], _, [y0, y1, y2, y3, y4], _ =>
    exact ⟨c0, c1, c2, c3, c4, y0, y1, y2, y3, y4, n, rfl, by simpa [Value.cells, k0] using hg 0 f0 rfl, by simpa [Value.cells, k1] using hg 1 f1 rfl, by simpa [Value.cells, k2] using hg 2 f2 rfl, by simpa [Value.cells, k3] using hg 3 f3 rfl, by simpa [Value.cells, k4] using hg 4 f4 rfl⟩
end

theorem specCont_any (c : Cont) (w : World) (hs : c.id.size ≤ maxLen) : Calls Try.prog 11 #[.agg (contV c)] w (GoodPost w (goodB c)) := by
  obtain ⟨id, sz, wt, cg, pt⟩ := c
  have HC := Lib.hid (fun W => specGood_any ⟨id, sz, wt, cg, pt⟩ W hs)
  simp only [contV] at *
  clear hs
  generalize goodB ⟨id, sz, wt, cg, pt⟩ = b at *
  go_enter Try.func11, Try.ntmps11
  go_wp2_with fail
  refine (HC.out _).mono ?_
  rintro e w1 ⟨rfl, hb⟩
  have BB : Hid (Below w.heap.size w w1) := Lib.hid (((Below.refl _ w).alloc (Nat.le_refl _) _).trans (hb.mono (by simp)))
  clear hb
  go_wp2_with fail
  go_ret
  exact ⟨rfl, BB.out⟩
set_option maxHeartbeats 1000000 in
theorem good_walk (c : Cont) (w : World) (hs : c.id.size ≤ maxLen) :
    Calls Try.prog 3 #[.agg (contV c)] w fun e w' => e = .returned (.bool true) ∧ Below w.heap.size w w' := by
  have K0 := Lib.hid (fun W => szCont_any c 1048576 W hs (by decide) (by decide))
  have K1 := Lib.hid (fun W => toCont_any c W)
  have H2 := fun W => specCont_any c W hs
  have H3 := fun W => implGood_any c W hs
  have hq : (if (c.id.size : Int) ≤ 1048576 then 1048576 - (c.id.size : Int) else -1) < 0 ∨ 0 ≤ (if (c.id.size : Int) ≤ 1048576 then 1048576 - (c.id.size : Int) else -1) := by omega
  generalize (if (c.id.size : Int) ≤ 1048576 then 1048576 - (c.id.size : Int) else -1) = q at *
  clear hs
  obtain ⟨id, sz, wt, cg, pt⟩ := c
  generalize hcv : contV ⟨id, sz, wt, cg, pt⟩ = cv at *
  have HV := Lib.hid hcv
  simp only [contV] at hcv
  subst hcv
  cases h : goodB ⟨id, sz, wt, cg, pt⟩
  all_goals
    rw [h] at H2 H3
    have K2 := Lib.hid H2
    have K3 := Lib.hid H3
    clear h H2 H3
    go_enter Try.func3, Try.ntmps3
    go_wp2_with fail
    refine (K0.out _).mono ?_
    rintro e w1 ⟨rfl, hb1⟩
    have hz : w.heap.size < w1.heap.size := by have := hb1.size; simp at this; omega
    have c0 : w1.cell? ⟨w.heap.size, 0, none⟩ = some (.string id) := (hb1.cell (p := ⟨w.heap.size, 0, none⟩) (by simp)).trans (by simp)
    have c1 : w1.cell? ⟨w.heap.size, 1, none⟩ = some (.int .i64 sz) := (hb1.cell (p := ⟨w.heap.size, 1, none⟩) (by simp)).trans (by simp)
    have c2 : w1.cell? ⟨w.heap.size, 2, none⟩ = some (.int .i64 wt) := (hb1.cell (p := ⟨w.heap.size, 2, none⟩) (by simp)).trans (by simp)
    have c3 : w1.cell? ⟨w.heap.size, 3, none⟩ = some (.int .i64 cg) := (hb1.cell (p := ⟨w.heap.size, 3, none⟩) (by simp)).trans (by simp)
    have c4 : w1.cell? ⟨w.heap.size, 4, none⟩ = some (.int .i64 pt) := (hb1.cell (p := ⟨w.heap.size, 4, none⟩) (by simp)).trans (by simp)
    have B1 : Hid (Below w.heap.size w w1) := Lib.hid (((Below.refl _ w).alloc (Nat.le_refl _) _).trans (hb1.mono (by simp)))
    clear hb1
    rcases hq with hq | hq
    · go_wp2_with fail
      go_ret
      exact ⟨rfl, B1.out⟩
    · go_wp2_with fail
      refine (K1.out _).mono ?_
      rintro e w2 ⟨rfl, hb2⟩
      have B2 := Lib.hid hb2
      clear hb2
      go_wp2_with fail
      refine (K2.out _).mono ?_
      rintro e w3 ⟨rfl, hb3⟩
      have B3 : Hid (Below w1.heap.size w1 w3) := Lib.hid (B2.out.trans (hb3.mono B2.out.size))
      clear hb3
      have hz3 : w.heap.size < w3.heap.size := Nat.lt_of_lt_of_le hz B3.out.size
      have d0 : w3.cell? ⟨w.heap.size, 0, none⟩ = some (.string id) := (B3.out.cell (p := ⟨w.heap.size, 0, none⟩) hz).trans c0
      have d1 : w3.cell? ⟨w.heap.size, 1, none⟩ = some (.int .i64 sz) := (B3.out.cell (p := ⟨w.heap.size, 1, none⟩) hz).trans c1
      have d2 : w3.cell? ⟨w.heap.size, 2, none⟩ = some (.int .i64 wt) := (B3.out.cell (p := ⟨w.heap.size, 2, none⟩) hz).trans c2
      have d3 : w3.cell? ⟨w.heap.size, 3, none⟩ = some (.int .i64 cg) := (B3.out.cell (p := ⟨w.heap.size, 3, none⟩) hz).trans c3
      have d4 : w3.cell? ⟨w.heap.size, 4, none⟩ = some (.int .i64 pt) := (B3.out.cell (p := ⟨w.heap.size, 4, none⟩) hz).trans c4
      clear c0 c1 c2 c3 c4
      go_wp2_with fail
      refine (K1.out _).mono ?_
      rintro e w4 ⟨rfl, hb4⟩
      have B4 : Hid (Below w1.heap.size w1 w4) := Lib.hid (B3.out.trans (hb4.mono B3.out.size))
      clear hb4
      go_wp2_with fail
      refine (K3.out _).mono ?_
      rintro e w5 ⟨rfl, hb5⟩
      have B5 : Hid (Below w1.heap.size w1 w5) := Lib.hid (B4.out.trans (hb5.mono B4.out.size))
      clear hb5
      go_wp2_with fail
      go_ret
      exact ⟨rfl, B1.out.trans (B5.out.mono B1.out.size)⟩

theorem good_own : ownKnob Try.prog.godebug = none := by kernel_rfl
theorem good_laidOut : laidOutB Try.prog = true := by kernel_rfl
set_option maxRecDepth 100000 in
theorem good_lifted (os : Os) (started : os.Started) (H : Type) (enc : TypeId × Value → H) :
    ReturnsInHanded {} Try.checked os 3 .any (Rows.fnExactIsValidContainerSpec.pre6 enc Try.prog Try.f3 Rows.fnExactIsValidContainerRow.domain false) (Rows.fnExactIsValidContainerSpec.post enc Try.prog Try.f3 false true false false) := by
  refine returnsInHanded_of_change (C := Try.checked) good_own started (by kernel_rfl) Try.func3
    (ChangeSpec.witness6 (enc := enc) (C := Try.checked) false ⟨#[], #[.agg #[.string ⟨#[]⟩, .int .i64 0, .int .i64 0, .int .i64 0, .int .i64 0]], []⟩ 8 (by kernel_rfl) (by kernel_rfl) (by kernel_rfl) (by kernel_rfl)) ?_
  intro W base args ds gs before hval0 hW hcnd0 _
  have hval : ∀ (j : Nat) t v, Try.f3.params[j]? = some t → args[j]? = some v → Value.okWide Try.prog W .any base t v := hval0
  have hW' := hW
  obtain ⟨p, q, hA0, hV, rfl, hfz, _⟩ := hW
  have hA : DataW.TrodAll enc Try.prog W 0 (fun _ => true) true Try.f3.params.toList args.toList ds p := hA0
  rw [Try.params3] at hA hval
  obtain ⟨v0, d0, rfl, rfl, h0⟩ := trodAll_one hA
  obtain ⟨rfl, rfl⟩ := trodVars_none hV
  obtain ⟨x0, x1, x2, x3, x4, y0, y1, y2, y3, y4, n, rfl, t0, t1, t2, t3, t4⟩ := fields5 Try.underlying23 (by kernel_rfl) (by kernel_rfl) (hval 0 23 v0 rfl rfl) h0
  obtain ⟨s, e0, _, ws⟩ := DataW.trod_string Try.underlying9 t0
  obtain ⟨n1, e1, _, _⟩ := DataW.trod_int Try.underlying3 t1
  obtain ⟨n2, e2, _, _⟩ := DataW.trod_int Try.underlying3 t2
  obtain ⟨n3, e3, _, _⟩ := DataW.trod_int Try.underlying3 t3
  obtain ⟨n4, e4, _, _⟩ := DataW.trod_int Try.underlying3 t4
  simp only [List.cons.injEq, and_true] at e0 e1 e2 e3 e4
  subst e0 e1 e2 e3 e4
  clear hA0 hval0 hcnd0
  simp only [List.append_nil] at hW'
  have hlt : ∀ x ∈ p, x.block < W.heap.size := fun x hx => by simpa using hW'.lt x (by simpa using hx)
  refine (good_walk ⟨s, n1, n2, n3, n4⟩ W ws).mono fun e W' ⟨he, hB⟩ => ?_
  subst he
  refine ⟨_, rfl, _, _, _, [], p, [], hW', ?_, ?_, rfl, hB.frame _, fun h => by cases h⟩
  · exact trodAll_mk1 (shut_bool Try.underlying4 true)
  · exact trodAll_mk1 (Below.trod good_laidOut (by kernel_rfl) (of_decide_eq_true (by kernel_rfl)) h0 hB hlt)

theorem FnExactIsValidContainer_holds : Rows.FnExactIsValidContainerSaid :=
  OpenClaim.holds_of_wide 3 Try.f3 rfl rfl rfl rfl rfl rfl rfl ⟨rfl, rfl, rfl, rfl, rfl⟩ rfl rfl rfl rfl rfl (by kernel_rfl) Try.func3 (by kernel_rfl)
    (of_decide_eq_true (by kernel_rfl)) (by unfold Func.isWrapper; first | (rw [if_pos (by decide +kernel)]; kernel_rfl) | (rw [if_neg (by decide +kernel)]; exact ⟨rfl, rfl⟩))
    (fun os started H enc _ => good_lifted os started H enc)
#print axioms FnExactIsValidContainer_holds
end Go.Proofs.Ytpdonhdffniabaa
