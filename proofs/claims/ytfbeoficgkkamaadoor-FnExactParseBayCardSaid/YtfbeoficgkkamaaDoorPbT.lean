/-
  What spec.ParseBay returns. No statement of the seat by itself.
-/
import Derived.Test.YtfbeoficgkkamaaDoorPbS
import Derived.Deep.Cut
import Derived.Deep.RegionLaw
import Derived.Deep.RegionHeldLaw
namespace Go.Proofs.YtfbeoficgkkamaaDoor
open Go.RowKit

/-- What is neither a block of ints nor one of rows nor the box bb stays as it is. -/
def StayX (bb : Nat) (w w' : World) : Prop := w.heap.size ≤ w'.heap.size ∧ ∀ (b : Nat) (o : Obj), b ≠ bb → w.heap[b]? = some o → (∀ cs T q, o = .cells cs T q → T ≠ 3 ∧ T ≠ 46) → w'.heap[b]? = some o
theorem StayX.refl (bb : Nat) (w : World) : StayX bb w w := ⟨Nat.le_refl _, fun _ _ _ h _ => h⟩
theorem StayX.trans {bb : Nat} {a b c : World} (h : StayX bb a b) (k : StayX bb b c) : StayX bb a c := ⟨Nat.le_trans h.1 k.1, fun x o hn hx ht => k.2 x o hn (h.2 x o hn hx ht) ht⟩
theorem StayO.x {w w' : World} (h : StayO w w') (bb : Nat) : StayX bb w w' := ⟨h.1, fun b o _ hb ht => h.2 b o hb ht⟩
theorem StayX.set (bb : Nat) (w : World) (k : Nat) (x : Value) : StayX bb w (w.setCell ⟨bb, k, none⟩ x) := ⟨by simp, fun b _ hn hb _ => (Below.heap_setCell w ⟨bb, k, none⟩ x b hn).trans hb⟩
theorem StrR.stayX {w w' : World} {g bb : Nat} {ps : List ByteArray} (h : StrR w g ps) (hs : StayX bb w w') (hn : g ≠ bb) : StrR w' g ps := by
  obtain ⟨⟨cs, hc⟩, h2⟩ := h
  have hk := hs.2 g _ hn hc (fun _ _ _ e => by injection e with _ e _; subst e; exact ⟨by decide, by decide⟩)
  exact ⟨⟨cs, hk⟩, fun j x hj => (World.cell?_of_block (a := ⟨g, j, none⟩) (hk.trans hc.symm)).trans (h2 j x hj)⟩
/-- The state of the reading. -/
structure SpS (bb B h : Nat) (w2 wk wr : World) (Z : List (List Int)) : Prop where
  box : BoxS bb B h Z wr
  bel : Below bb w2 wr
  stay : StayX bb wk wr
theorem SpS.step {bb B h : Nat} {w2 wk wr w' : World} {Z : List (List Int)} (hS : SpS bb B h w2 wk wr Z) (hb : Below wr.heap.size wr w') (hw : bb ≤ wr.heap.size) : SpS bb B h w2 wk w' Z := by
  obtain ⟨⟨a, m, c, h1, h2, h3⟩, h4, h5⟩ := hS
  exact ⟨⟨a, m, c, (hb.block _ (Array.getElem?_eq_some_iff.1 h1).1).trans h1, h2, (h3.below hb).mono (Nat.le_refl _) hb.size (Nat.le_refl _)⟩, h4.trans (hb.mono hw), h5.trans ((StayO.below hb).x bb)⟩
/-- The rows are others now, and the box holds them. -/
theorem SpS.close {bb B h m' : Nat} {w2 wk wr w3 : World} {Z Z' : List (List Int)} {v : Value} {a' : Option Addr} {c' : Nat} (hS : SpS bb B h w2 wk wr Z) (hB : bb < B) (hb : wr.heap[bb]? = some (.cells #[.int .i64 (h : Int), v] 24 (0, 0))) (hL : LnS B wr w3 (.slice a' m' c') Z') (hm : Z'.length = m') :
    SpS bb B h w2 wk (w3.setCell ⟨bb, 1, none⟩ (.slice a' m' c')) Z' ∧ (∃ y, w3.cell? ⟨bb, 1, none⟩ = some y) ∧ w3.frozen? ⟨bb, 1, none⟩ = false := by
  have k3 := hL.stay.2 bb _ hb (fun _ _ _ e => by injection e with _ e _; subst e; exact ⟨by decide, by decide⟩)
  have hSp : Span bb (bb + 1) w3 (w3.setCell ⟨bb, 1, none⟩ (.slice a' m' c')) := span_set (Nat.le_refl _) (Nat.lt_succ_self _) _
  refine ⟨⟨⟨a', m', c', Lib.heap_setCell_same (i := 1) k3 _, hm, ?_⟩, (hS.bel.trans (hL.bel.mono (by omega))).setCell (p := ⟨bb, 1, none⟩) (Nat.le_refl _) _, (hS.stay.trans (hL.stay.x bb)).trans (StayX.set bb w3 1 _)⟩, ⟨_, cell_of (i := 1) k3 rfl⟩, free_of k3⟩
  have := hL.own.span hSp (.inr (by omega))
  simpa using this
theorem SpS.put {bb B h : Nat} {w2 wk wr w3 : World} {Z Z' : List (List Int)} {a : Option Addr} {m c : Nat} (hS : SpS bb B h w2 wk wr Z) (hB : bb < B) (hb : wr.heap[bb]? = some (.cells #[.int .i64 (h : Int), .slice a m c] 24 (0, 0))) (hL : LnS B wr w3 (.slice a m c) Z') (hm : Z'.length = m) : SpS bb B h w2 wk w3 Z' :=
  ⟨⟨a, m, c, hL.stay.2 bb _ hb (fun _ _ _ e => by injection e with _ e _; subst e; exact ⟨by decide, by decide⟩), hm, hL.own⟩, hS.bel.trans (hL.bel.mono (by omega)), hS.stay.trans (hL.stay.x bb)⟩
theorem own_tab9 {w : World} {B hi g n c : Nat} {Y : List (List Int)} (h : OwnY w B hi (.slice (some ⟨g, 0, none⟩) n c) Y) : B ≤ g ∧ g < hi ∧ g < w.heap.size := by
  obtain ⟨h1, h2, us, h3, _⟩ := h
  exact ⟨row_base h3 g rfl, h2 g rfl, (h3.lt g rfl).2⟩
theorem put9 {bb h g m c i ml : Nat} {w2 wk wr w5 : World} {Z : List (List Int)} {l : List Int} {u v' : Value} {o : Obj} {n : Int} (hS : SpS bb (bb + 1) h w2 wk wr Z) (hO : OwnY wr (bb + 1) wr.heap.size (.slice (some ⟨g, 0, none⟩) m c) Z) (hb : wr.heap[bb]? = some (.cells #[.int .i64 (h : Int), .slice (some ⟨g, 0, none⟩) m c] 24 (0, 0))) (hlz : Z.length = m)
    (hl : Z[i]? = some l) (hml : l.length = ml) (hu : wr.cell? ⟨g, i, none⟩ = some u) (ho : w5.ownsRow (bb + 1) 3 1 v' (ml + 1) (intV l ++ [.int .i64 n])) (hg : (wr.drew.alloc o).grownBy w5 u.ownBlock) (hat : v'.ownBlock = u.ownBlock ∨ v'.ownBlock = some (wr.drew.alloc o).heap.size) :
    (SpS bb (bb + 1) h w2 wk (w5.setCell ⟨g, i, none⟩ v') (putY Z i n) ∧ StayX bb wr (w5.setCell ⟨g, i, none⟩ v')) ∧ (∃ y, w5.cell? ⟨g, i, none⟩ = some y) ∧ w5.frozen? ⟨g, i, none⟩ = false ∧ w5.cell? ⟨bb, 1, none⟩ = some (.slice (some ⟨g, 0, none⟩) m c) ∧ w5.cell? ⟨g, i, none⟩ = some u ∧ StayO wr w5 := by
  have hz := (Array.getElem?_eq_some_iff.1 hb).1
  have hL : LnS (bb + 1) wr wr.drew (.slice (some ⟨g, 0, none⟩) m c) Z := ⟨hO.below (Below.refl _ wr).drew, (Below.refl _ wr).drew, StayO.below (Below.refl _ wr).drew⟩
  obtain ⟨p1, p2, p3⟩ := hL.put (i := i) (x := n) (show bb + 1 ≤ wr.drew.heap.size from hz) hl hml hu ho hg hat
  have hsg : (w5.setCell ⟨g, i, none⟩ v').heap[bb]? = some _ := p1.stay.2 bb _ hb (fun _ _ _ e => by injection e with _ e _; subst e; exact ⟨by decide, by decide⟩)
  have hgb := (own_tab9 hO).1
  refine ⟨⟨hS.put (Nat.lt_succ_self bb) hb p1 (by rw [putY_len]; exact hlz), p1.stay.x bb⟩, p2, p3, ?_⟩
  rw [Below.heap_setCell w5 ⟨g, i, none⟩ v' bb (by show bb ≠ g; omega)] at hsg
  obtain ⟨u2, hu2, -, hou, -⟩ := hO.cell hl
  rw [hu] at hu2
  cases hu2
  obtain ⟨_, _, us, h3, _⟩ := hO
  have hne : u.ownBlock ≠ some g := outer_ne h3 hou g rfl
  have hgz := (h3.lt g rfl).2
  have hbk : w5.heap[g]? = wr.heap[g]? := (hg.block g (Nat.lt_of_lt_of_le hgz (below_one wr.drew o).size) (fun e => hne e.symm)).trans ((below_one wr.drew o).block g hgz)
  refine ⟨cell_of (i := 1) hsg rfl, (World.cell?_of_block (a := ⟨g, i, none⟩) hbk).trans hu, by have := p1.stay.1; simpa using this, fun b o hb2 ht => ?_⟩
  have h1 := p1.stay.2 b o hb2 ht
  have hbg : b ≠ g := by
    intro e
    subst e
    obtain ⟨cs, hc⟩ := own_type h3 rfl
    rw [hb2] at hc
    injection hc with hc
    exact (ht _ _ _ hc).2 rfl
  rw [Below.heap_setCell w5 ⟨g, i, none⟩ v' b hbg] at h1
  exact h1
theorem l1In_d (h : Nat) (W : World) : Calls Tryd.prog 22 #[.int .i64 (h : Int), .int .i64 1, .int .i64 4] W fun e w' => e = .returned (.bool (decide (1 ≤ h ∧ h ≤ 4))) ∧ w' = W := by
  by_cases h1 : 1 ≤ h
  · by_cases h4 : h ≤ 4
    · have e : decide (1 ≤ h ∧ h ≤ 4) = true := by simp [h1, h4]
      rw [e]
      have h1i : (1 : Int) ≤ (h : Int) := by omega
      have h4i : (h : Int) ≤ 4 := by omega
      go_enter Tryd.func22, Tryd.ntmps22
      go_wp2_with fail
      go_ret
      exact ⟨rfl, rfl⟩
    · have e : decide (1 ≤ h ∧ h ≤ 4) = false := by simp [h4]
      rw [e]
      have h1i : (1 : Int) ≤ (h : Int) := by omega
      have h4i : ¬ (h : Int) ≤ 4 := by omega
      go_enter Tryd.func22, Tryd.ntmps22
      go_wp2_with fail
      go_ret
      exact ⟨rfl, rfl⟩
  · have e : decide (1 ≤ h ∧ h ≤ 4) = false := by simp [h1]
    rw [e]
    have h1i : ¬ (1 : Int) ≤ (h : Int) := by omega
    go_enter Tryd.func22, Tryd.ntmps22
    go_wp2_with fail
    go_ret
    exact ⟨rfl, rfl⟩
/-- The boxes of the result and of the empty bay. -/
structure ZzS (w W : World) : Prop where
  bel : Below w.heap.size w W
  r : W.heap[w.heap.size]? = some (.cells #[.int .i64 0, .slice none 0 0] 24 (0, 0))
  n : W.heap[w.heap.size + 1]? = some (.cells #[.int .i64 0, .slice none 0 0] 24 (0, 0))
theorem ZzS.start (w : World) : ZzS w ((w.alloc (.cells #[.int .i64 0, .slice none 0 0] 24)).alloc (.cells #[.int .i64 0, .slice none 0 0] 24)) := by
  have h0 := below_one w (.cells #[.int .i64 0, .slice none 0 0] 24)
  have h1 := below_one (w.alloc (.cells #[.int .i64 0, .slice none 0 0] 24)) (.cells #[.int .i64 0, .slice none 0 0] 24)
  have k0 := heap_alloc_new w (.cells #[.int .i64 0, .slice none 0 0] 24)
  have k1 := heap_alloc_new (w.alloc (.cells #[.int .i64 0, .slice none 0 0] 24)) (.cells #[.int .i64 0, .slice none 0 0] 24)
  rw [show (w.alloc (.cells #[.int .i64 0, .slice none 0 0] 24)).heap.size = w.heap.size + 1 by simp] at k1
  exact ⟨h0.trans (h1.mono h0.size), (h1.block _ (Array.getElem?_eq_some_iff.1 k0).1).trans k0, k1⟩
theorem ZzS.below {w W W' : World} {n : Nat} (h : ZzS w W) (hb : Below n W W') (hn : w.heap.size + 2 ≤ n) : ZzS w W' :=
  ⟨h.bel.trans (hb.mono (by omega)), (hb.block _ (by omega)).trans h.r, (hb.block _ (by omega)).trans h.n⟩
theorem ZzS.lt {w W : World} (h : ZzS w W) : w.heap.size + 2 ≤ W.heap.size := (Array.getElem?_eq_some_iff.1 h.n).1
theorem zz_no {w W : World} {s : ByteArray} (h : ZzS w W) (ho : okI s = false) : RetB w (bH s) (bY s) (okI s) (.returned (.tuple #[.agg #[.int .i64 0, .slice none 0 0], .bool false])) ((W.setCell ⟨w.heap.size, 0, none⟩ (.int .i64 0)).setCell ⟨w.heap.size, 1, none⟩ (.slice none 0 0)) := by
  rw [ho, (ok_no ho).1, (ok_no ho).2]
  exact ⟨none, 0, rfl, OwnY.nil _ _ _ (Nat.le_refl _), (h.bel.setCell (p := ⟨w.heap.size, 0, none⟩) (Nat.le_refl _) _).setCell (p := ⟨w.heap.size, 1, none⟩) (Nat.le_refl _) _⟩

theorem wrap_sm {x : Int} (h1 : -100000 ≤ x) (h2 : x ≤ 100000) : IntKind.i64.wrap x = x := by rw [IntKind.wrap_i64]; omega
theorem hw_all (d e : Nat) (hd : d < 256) (he : e < 256) : IntKind.i64.wrap (IntKind.i64.wrap (IntKind.i64.wrap (10 * IntKind.i64.wrap (IntKind.i64.wrap (d : Int) - 48)) + IntKind.i64.wrap (e : Int)) - 48) = 10 * ((d : Int) - 48) + (e : Int) - 48 := by
  rw [wrap_sm (x := (d : Int)) (by omega) (by omega), wrap_sm (x := (e : Int)) (by omega) (by omega), wrap_sm (x := (d : Int) - 48) (by omega) (by omega), wrap_sm (x := 10 * ((d : Int) - 48)) (by omega) (by omega), wrap_sm (x := 10 * ((d : Int) - 48) + (e : Int)) (by omega) (by omega), wrap_sm (x := 10 * ((d : Int) - 48) + (e : Int) - 48) (by omega) (by omega)]

set_option maxRecDepth 100000 in
set_option maxHeartbeats 16000000 in
theorem specPr_any (s : ByteArray) (hs : s.size ≤ 1048576) (w : World) :
    Calls Tryd.prog 5 #[.string s] w (RetB w (bH s) (bY s) (okI s)) := by
  obtain ⟨j0, hj, hy0, hy1, hy2⟩ := info_is info38
  have Z0 := Lib.hid (ZzS.start w)
  have HSp := Lib.hid (fun W => l1Split_any s 10 hs W)
  obtain ⟨ps, hps⟩ : ∃ ps, pieces s 10 = ps := ⟨_, rfl⟩
  have HPs := Lib.hid hps
  have HPp := Lib.hid (pieces_pos s 10)
  have HSz := Lib.hid (pieces_sz s 10)
  obtain ⟨h, hh⟩ : ∃ h, hI s = h := ⟨_, rfl⟩
  have HH := Lib.hid hh
  have hnp : ps.length = h + 1 := by have := HPp.out; rw [hps] at this; rw [← hh, hI, hps]; omega
  have HNP := Lib.hid hnp
  have hsub : ((h + 1 : Nat) : Int) - 1 = (h : Int) := by omega
  have hpz := pieces_size s 10
  rw [hps] at HSp HPp HSz hpz
  clear hps hh
  by_cases hA : s.size ≤ 80
  case neg =>
    have HOk : Hid (okI s = false) := Lib.hid (by cases ho : okI s with | false => rfl | true => have := (ok_small ho).1; omega)
    have h80 : (80 : Int) < (s.size : Int) := by omega
    go_enter Tryd.func5, Tryd.ntmps5
    go_wp2_with fail
    refine (HSp.out _).mono ?_
    rintro e w1 ⟨vs, rfl, hrow, hb⟩
    obtain ⟨gs, cs, rfl, hgB, hnc, hstr⟩ := str_row hrow HPp.out
    have Z1 := Lib.hid (Z0.out.below hb Z0.out.lt)
    rw [HNP.out] at hnc ⊢
    clear hrow hstr hb
    have z0 := cell_of (i := 0) Z1.out.r rfl
    have z1 := cell_of (i := 1) Z1.out.r rfl
    have n0 := cell_of (i := 0) Z1.out.n rfl
    have n1 := cell_of (i := 1) Z1.out.n rfl
    have f0 := fun i => free_of (i := i) Z1.out.r
    obtain ⟨e7, e8⟩ := res_bay (.int .i64 0) (.slice none 0 0) z0 z1
    go_wp2_with fail
    refine bodyPost_ret (v := .tuple #[.agg #[.int .i64 0, .slice none 0 0], .bool false]) (by simp [results, Tryd.results5, go_sem, e7, e8]) rfl ?_
    exact zz_no Z1.out HOk.out
  have h80 : ¬ (80 : Int) < (s.size : Int) := by omega
  have HIn := Lib.hid (fun W => l1In_d h W)
  by_cases hB4 : 1 ≤ h ∧ h ≤ 4
  case neg =>
    have HOk : Hid (okI s = false) := Lib.hid (by cases ho : okI s with | false => rfl | true => have := (ok_small ho).2; rw [HH.out] at this; omega)
    rw [decide_eq_false hB4] at HIn
    clear hB4
    go_enter Tryd.func5, Tryd.ntmps5
    go_wp2_with fail
    refine (HSp.out _).mono ?_
    rintro e w1 ⟨vs, rfl, hrow, hb⟩
    obtain ⟨gs, cs, rfl, hgB, hnc, hstr⟩ := str_row hrow HPp.out
    have Z1 := Lib.hid (Z0.out.below hb Z0.out.lt)
    rw [HNP.out] at hnc ⊢
    clear hrow hstr hb
    go_wp2_with fail
    refine (HIn.out _).mono ?_
    rintro e w2 ⟨rfl, rfl⟩
    have z0 := cell_of (i := 0) Z1.out.r rfl
    have z1 := cell_of (i := 1) Z1.out.r rfl
    have n0 := cell_of (i := 0) Z1.out.n rfl
    have n1 := cell_of (i := 1) Z1.out.n rfl
    have f0 := fun i => free_of (i := i) Z1.out.r
    obtain ⟨e7, e8⟩ := res_bay (.int .i64 0) (.slice none 0 0) z0 z1
    go_wp2_with fail
    refine bodyPost_ret (v := .tuple #[.agg #[.int .i64 0, .slice none 0 0], .bool false]) (by simp [results, Tryd.results5, go_sem, e7, e8]) rfl ?_
    exact zz_no Z1.out HOk.out
  rw [decide_eq_true hB4] at HIn
  obtain ⟨hh1, hh4⟩ := hB4
  go_enter Tryd.func5, Tryd.ntmps5
  go_wp2_with fail
  refine (HSp.out _).mono ?_
  rintro e w1 ⟨vs, rfl, hrow, hb⟩
  obtain ⟨gs, cs, rfl, hgB, hnc, hstr⟩ := str_row hrow HPp.out
  have Z1 := Lib.hid (Z0.out.below hb Z0.out.lt)
  have HStr := Lib.hid hstr
  have hgs1 : gs < w1.heap.size := by obtain ⟨⟨cc, hcc⟩, _⟩ := hstr; exact (Array.getElem?_eq_some_iff.1 hcc).1
  have hz2w : w.heap.size + 2 ≤ w1.heap.size := Z1.out.lt
  rw [HNP.out] at hnc ⊢
  clear hrow hstr hb
  go_wp2_with fail
  refine (HIn.out _).mono ?_
  rintro e w2 ⟨rfl, rfl⟩
  go_wp2_with fail
  have hb2 := below_one w2 (.cells #[.int .i64 (h : Int), .slice none 0 0] 24)
  have hm2 := heap_alloc_new w2 (.cells #[.int .i64 (h : Int), .slice none 0 0] 24)
  have hz3 : (w2.alloc (.cells #[.int .i64 (h : Int), .slice none 0 0] 24)).heap.size = w2.heap.size + 1 := by simp
  have Z3 := Lib.hid (Z1.out.below hb2 Z1.out.lt)
  generalize w2.alloc (.cells #[.int .i64 (h : Int), .slice none 0 0] 24) = w3 at *
  have HS3 := Lib.hid (show SpS w2.heap.size (w2.heap.size + 1) h w3 w3 w3 [] from ⟨⟨none, 0, 0, hm2, rfl, OwnY.nil _ _ _ (Nat.le_refl _)⟩, Below.refl _ _, StayX.refl _ _⟩)
  have HStr3 := Lib.hid (HStr.out.stay (StayO.below hb2))
  obtain ⟨bb, hbb⟩ : ∃ bb, w2.heap.size = bb := ⟨_, rfl⟩
  rw [hbb] at HS3 hz3 hgs1 hz2w ⊢
  clear hb2 hm2 HStr Z1 hbb
  have hne0 : (0 : Int) ≤ (h : Int) - 1 := by omega
  go_loopw [8] (fun kv wr => ∃ (j q : Nat), j + q = h ∧ kv = .int .i64 ((q : Int) - 1) ∧ Hid (SpS bb (bb + 1) h w3 w3 wr (prW atS ps h j))) (fun kv _ => (intOf kv + 1).toNat)
  case atStart => exact ⟨0, h, by omega, by first | rfl | exact val_i (by omega), HS3⟩
  case round =>
    obtain ⟨j, q, hjq, rfl, HS⟩ := hrel
    rename World => wr
    have hwr : bb + 1 ≤ wr.heap.size := by have := HS.out.stay.1; omega
    match q, hjq with
    | r + 1, hjq =>
      have hr : ((r + 1 : Nat) : Int) - 1 = (r : Int) := by omega
      rw [hr]
      have hr0 : (0 : Int) ≤ (r : Int) := by omega
      obtain ⟨ln, hln⟩ := get_at HNP.out (k := r) (by omega)
      have hrr : (r : Int) < ((h + 1 : Nat) : Int) := by omega
      have hcl := (HStr3.out.stayX HS.out.stay (by omega)).2 r ln hln
      have hlz : ln.size ≤ 80 := by have := HSz.out ln (List.mem_of_getElem? hln); omega
      have HSl := Lib.hid (fun W => l1Split_any ln 32 (by omega) W)
      have HWp := Lib.hid (pieces_pos ln 32)
      have hwz := pieces_size ln 32
      have HGl : Hid (ps.getD (h - 1 - j) (bs []) = ln) := Lib.hid (by rw [show h - 1 - j = r by omega, List.getD_eq_getElem?_getD, hln]; rfl)
      obtain ⟨ws, hws⟩ : ∃ ws, pieces ln 32 = ws := ⟨_, rfl⟩
      have HWs := Lib.hid hws
      rw [hws] at HSl HWp hwz
      obtain ⟨nw, hnw⟩ : ∃ nw, ws.length = nw := ⟨_, rfl⟩
      have HNW := Lib.hid hnw
      have HZn : Hid (prW atS ps h (j + 1) = lnW atS ws (prW atS ps h j) nw) := Lib.hid (by rw [prW, HGl.out, HWs.out, HNW.out])
      have HPl := Lib.hid (prW_len atS ps h HNP.out.symm j (by omega))
      have HBad : Hid (∀ x ∈ ws, x.size ≠ 2 → okI s = false) := Lib.hid (fun x hx h2 => by
        cases ho : okI s with
        | false => rfl
        | true =>
          have := ok_words ho (k := h - 1 - j) (by rw [HH.out]; omega) x (by rw [HPs.out, HGl.out, HWs.out]; exact hx)
          omega)
      have HSum : Hid ((((ps.take h).drop (h - j)).map fun x => x.size + 1).sum ≤ 162) := Lib.hid (by
        have h1 := pieces_tot s 10
        rw [HPs.out] at h1
        have h2 := sum_szs ps
        have e1 : (ps.map fun x => x.size + 1).sum = ((ps.take h).map fun x => x.size + 1).sum + ((ps.drop h).map fun x => x.size + 1).sum := by rw [← List.sum_append, ← List.map_append, List.take_append_drop]
        have e2 : ((ps.take h).map fun x => x.size + 1).sum = (((ps.take h).take (h - j)).map fun x => x.size + 1).sum + (((ps.take h).drop (h - j)).map fun x => x.size + 1).sum := by rw [← List.sum_append, ← List.map_append, List.take_append_drop]
        omega)
      generalize prW atS ps h j = Z at *
      have hZl : Z.length ≤ 162 ∧ tot Z ≤ 162 := by have := HPl.out; have := HSum.out; omega
      have HLen := Lib.hid (fun i => lnW_len atS ws Z i)
      clear hws hnw HPl HSum hln
      go_wp2_with fail
      refine (HSl.out _).mono ?_
      rintro e wk ⟨vs2, rfl, hrow, hb⟩
      obtain ⟨gw, cw, rfl, hgwB, hnwc, hstr⟩ := str_row hrow HWp.out
      have HStrW := Lib.hid hstr
      have hgne : gw ≠ bb := by omega
      have HSk := Lib.hid (HS.out.step hb (by omega))
      have HSk2 := Lib.hid (show SpS bb (bb + 1) h w3 wk wk Z from ⟨HSk.out.box, HSk.out.bel, StayX.refl _ _⟩)
      have hwk : bb + 1 ≤ wk.heap.size := by have := hb.size; omega
      rw [HNW.out] at hnwc ⊢
      clear hrow hstr hb hcl
      go_wp2_with fail
      go_loopw [10] (fun ii wr => ∃ (i : Nat), i ≤ nw ∧ ii = .int .i64 i ∧ Hid (SpS bb (bb + 1) h w3 wk wr (lnW atS ws Z i)) ∧ Hid (StayX bb w3 wr)) (fun ii _ => nw - (intOf ii).toNat)
      case atStart => exact ⟨0, Nat.zero_le _, rfl, HSk2, Lib.hid HSk.out.stay⟩
      case round =>
        obtain ⟨i, hi, rfl, HI, HX⟩ := hrel
        rename World => wi
        have hwi : bb + 1 ≤ wi.heap.size := by have := HI.out.stay.1; omega
        obtain ⟨a, m, c, hbx, hmx, hox⟩ := HI.out.box
        have c1 := cell_of (i := 1) hbx rfl
        by_cases hin : i < nw
        · obtain ⟨x, hx⟩ := get_at HNW.out hin
          have hinI : (i : Int) < (nw : Int) := by omega
          have hcw := (HStrW.out.stayX HI.out.stay hgne).2 i x hx
          have HGx : Hid (ws.getD i (bs []) = x) := Lib.hid (by rw [List.getD_eq_getElem?_getD, hx]; rfl)
          obtain ⟨Z1, hZ1⟩ : ∃ Z1, lnW atS ws Z i = Z1 := ⟨_, rfl⟩
          have HY := Lib.hid hZ1
          have HLn := Lib.hid (HLen.out i)
          rw [hZ1] at HI hmx hox HLn
          have HMx := Lib.hid hmx
          have HOx := Lib.hid hox
          have HBx := Lib.hid hbx
          have hm1 : i ≤ m ∧ m ≤ 400 := by have h8 := HLn.out; have h9 := HNW.out; rw [hmx] at h8; omega
          have HXm := Lib.hid (List.mem_of_getElem? hx)
          clear hZ1 hmx hox hbx
          by_cases hd : x = bs [46, 46]
          · have HAt : Hid (atS x = none) := Lib.hid (by rw [hd]; exact atS_ok.1)
            have hd1 : (x.toList == [46, 46]) = true := by rw [hd, ByteArray.toList_eq]; rfl
            clear hd
            by_cases him : m ≤ i
            · have HAd : Hid (addR Z1 i = (Z1 ++ [[]])) := Lib.hid (by unfold addR; rw [if_pos (by rw [HMx.out]; omega)])
              have hcm : (m : Int) ≤ (i : Int) := by omega
              obtain ⟨us, hus, hr2⟩ := HOx.out.2.2
              have hNW := cell_val_new (wi.alloc (.cells #[] 3)) (.slice (some ⟨wi.heap.size, 0, none⟩) 0 0) 46
              rw [show (wi.alloc (.cells #[] 3)).heap.size = wi.heap.size + 1 by simp] at hNW
              have HNWc := Lib.hid hNW
              have HUS : Hid (((wi.alloc (.cells #[] 3)).alloc (.cells #[.slice (some ⟨wi.heap.size, 0, none⟩) 0 0] 46)).ownsRow (bb + 1) 46 1 (.slice a m c) m us) := Lib.hid (by
                have b1 := below_one wi (.cells #[] 3)
                have := row_below hus (b1.trans ((below_one (wi.alloc (.cells #[] 3)) (.cells #[.slice (some ⟨wi.heap.size, 0, none⟩) 0 0] 46)).mono b1.size))
                rw [HMx.out] at this
                exact this)
              have HPu := Lib.hid (fun (w2 : World) (v' : Value) (hg : ((wi.alloc (.cells #[] 3)).alloc (.cells #[.slice (some ⟨wi.heap.size, 0, none⟩) 0 0] 46)).grownBy w2 (Value.slice a m c).ownBlock) (ho' : w2.ownsRow (bb + 1) 46 1 v' (m + 1) (us ++ [.slice (some ⟨wi.heap.size, 0, none⟩) 0 0])) => LnS.push (w1 := wi) ⟨HOx.out, Below.refl _ _, StayO.refl _⟩ hwi hus hr2 hg (by rw [HMx.out]; exact ho'))
              have hcB1 := fun o => (World.cell?_alloc_lt wi o ⟨bb, 1, none⟩ (by show bb < wi.heap.size; omega)).trans c1
              have HLz : Hid ((Z1 ++ [[]]).length = m + 1) := Lib.hid (by rw [List.length_append, HMx.out]; rfl)
              clear hus hr2 hNW
              go_wp2_with (at_builtin; refine wpList_append_own_at _ rfl _ _ 22 rfl (bb + 1) 46 j0 (.slice none 0 0) 1 24 Tryd.underlying22 hj hy0 hy1 hy2 rfl (by decide) _ m us rfl HUS.out _ 1 1 [.slice (some ⟨wi.heap.size, 0, none⟩) 0 0] rfl rfl HNWc.out (by simp [Value.oneCell']) (by unfold maxLen; omega) (by omega) (by simp; omega) ?_; intro v2 w5 hown2 hgr2 hnil2 hat2; have HLq := Lib.hid (HPu.out w5 v2 hgr2 hown2); obtain ⟨a2, c2, rfl⟩ := own_form hown2; have HCl := Lib.hid (HI.out.close (Nat.lt_succ_self bb) HBx.out HLq.out HLz.out); obtain ⟨y5, p2⟩ := HCl.out.2.1; have p3 := HCl.out.2.2; have hcw2 := (HStrW.out.stayX HCl.out.1.stay hgne).2 i _ hx; clear hown2 hgr2 hnil2 hat2)
              have HXq := Lib.hid (HX.out.trans (HLq.out.stay.x bb |>.trans (StayX.set bb w5 1 (.slice a2 (m + 1) c2))))
              have HSq := Lib.hid HCl.out.1
              clear HCl HLq p2 p3 y5 HPu HUS HNWc hcB1
              generalize w5.setCell ⟨bb, 1, none⟩ (.slice a2 (m + 1) c2) = wq at *
              exact ⟨⟨i + 1, by omega, by go_num, Lib.hid (by rw [lnW, HY.out, HGx.out]; unfold putW; rw [HAt.out, HAd.out]; exact HSq.out), HXq⟩, by simp [intOf]; omega⟩
            · have HAd : Hid (addR Z1 i = Z1) := Lib.hid (by unfold addR; rw [if_neg (by rw [HMx.out]; omega)])
              have hcm : ¬ (m : Int) ≤ (i : Int) := by omega
              have HSq := HI
              have HXq := HX
              go_wp2_with fail
              exact ⟨⟨i + 1, by omega, by go_num, Lib.hid (by rw [lnW, HY.out, HGx.out]; unfold putW; rw [HAt.out, HAd.out]; exact HSq.out), HXq⟩, by simp [intOf]; omega⟩
          have hd1 : (x.toList == [46, 46]) = false := by rw [beq_eq_false_iff_ne, ByteArray.toList_eq]; intro e; exact hd (ByteArray.ext (Array.toList_inj.1 e))
          by_cases h2 : x.size = 2
          case neg =>
            have HOk := Lib.hid (HBad.out x HXm.out h2)
            have h2i : ((x.size : Int) != 2) = true := by rw [bne_iff_ne]; omega
            by_cases him : m ≤ i
            · have HAd : Hid (addR Z1 i = (Z1 ++ [[]])) := Lib.hid (by unfold addR; rw [if_pos (by rw [HMx.out]; omega)])
              have hcm : (m : Int) ≤ (i : Int) := by omega
              obtain ⟨us, hus, hr2⟩ := HOx.out.2.2
              have hNW := cell_val_new (wi.alloc (.cells #[] 3)) (.slice (some ⟨wi.heap.size, 0, none⟩) 0 0) 46
              rw [show (wi.alloc (.cells #[] 3)).heap.size = wi.heap.size + 1 by simp] at hNW
              have HNWc := Lib.hid hNW
              have HUS : Hid (((wi.alloc (.cells #[] 3)).alloc (.cells #[.slice (some ⟨wi.heap.size, 0, none⟩) 0 0] 46)).ownsRow (bb + 1) 46 1 (.slice a m c) m us) := Lib.hid (by
                have b1 := below_one wi (.cells #[] 3)
                have := row_below hus (b1.trans ((below_one (wi.alloc (.cells #[] 3)) (.cells #[.slice (some ⟨wi.heap.size, 0, none⟩) 0 0] 46)).mono b1.size))
                rw [HMx.out] at this
                exact this)
              have HPu := Lib.hid (fun (w2 : World) (v' : Value) (hg : ((wi.alloc (.cells #[] 3)).alloc (.cells #[.slice (some ⟨wi.heap.size, 0, none⟩) 0 0] 46)).grownBy w2 (Value.slice a m c).ownBlock) (ho' : w2.ownsRow (bb + 1) 46 1 v' (m + 1) (us ++ [.slice (some ⟨wi.heap.size, 0, none⟩) 0 0])) => LnS.push (w1 := wi) ⟨HOx.out, Below.refl _ _, StayO.refl _⟩ hwi hus hr2 hg (by rw [HMx.out]; exact ho'))
              have hcB1 := fun o => (World.cell?_alloc_lt wi o ⟨bb, 1, none⟩ (by show bb < wi.heap.size; omega)).trans c1
              have HLz : Hid ((Z1 ++ [[]]).length = m + 1) := Lib.hid (by rw [List.length_append, HMx.out]; rfl)
              clear hus hr2 hNW
              go_wp2_with (at_builtin; refine wpList_append_own_at _ rfl _ _ 22 rfl (bb + 1) 46 j0 (.slice none 0 0) 1 24 Tryd.underlying22 hj hy0 hy1 hy2 rfl (by decide) _ m us rfl HUS.out _ 1 1 [.slice (some ⟨wi.heap.size, 0, none⟩) 0 0] rfl rfl HNWc.out (by simp [Value.oneCell']) (by unfold maxLen; omega) (by omega) (by simp; omega) ?_; intro v2 w5 hown2 hgr2 hnil2 hat2; have HLq := Lib.hid (HPu.out w5 v2 hgr2 hown2); obtain ⟨a2, c2, rfl⟩ := own_form hown2; have HCl := Lib.hid (HI.out.close (Nat.lt_succ_self bb) HBx.out HLq.out HLz.out); obtain ⟨y5, p2⟩ := HCl.out.2.1; have p3 := HCl.out.2.2; have hcw2 := (HStrW.out.stayX HCl.out.1.stay hgne).2 i _ hx; clear hown2 hgr2 hnil2 hat2; have Zq := Lib.hid (Z3.out.below HCl.out.1.bel hz2w); have z0 := cell_of (i := 0) Zq.out.r rfl; have z1 := cell_of (i := 1) Zq.out.r rfl; have n0 := cell_of (i := 0) Zq.out.n rfl; have n1 := cell_of (i := 1) Zq.out.n rfl; have f0 := fun i => free_of (i := i) Zq.out.r; obtain ⟨e7, e8⟩ := res_bay (.int .i64 0) (.slice none 0 0) z0 z1)
              have HXq := Lib.hid (HX.out.trans (HLq.out.stay.x bb |>.trans (StayX.set bb w5 1 (.slice a2 (m + 1) c2))))
              have HSq := Lib.hid HCl.out.1
              refine bodyPost_ret (v := .tuple #[.agg #[.int .i64 0, .slice none 0 0], .bool false]) (by simp [results, Tryd.results5, go_sem, e7, e8]) rfl ?_
              exact zz_no Zq.out HOk.out
            · have HAd : Hid (addR Z1 i = Z1) := Lib.hid (by unfold addR; rw [if_neg (by rw [HMx.out]; omega)])
              have hcm : ¬ (m : Int) ≤ (i : Int) := by omega
              have HSq := HI
              have HXq := HX
              have Zq := Lib.hid (Z3.out.below HI.out.bel hz2w)
              have z0 := cell_of (i := 0) Zq.out.r rfl
              have z1 := cell_of (i := 1) Zq.out.r rfl
              have n0 := cell_of (i := 0) Zq.out.n rfl
              have n1 := cell_of (i := 1) Zq.out.n rfl
              have f0 := fun i => free_of (i := i) Zq.out.r
              obtain ⟨e7, e8⟩ := res_bay (.int .i64 0) (.slice none 0 0) z0 z1
              go_wp2_with fail
              refine bodyPost_ret (v := .tuple #[.agg #[.int .i64 0, .slice none 0 0], .bool false]) (by simp [results, Tryd.results5, go_sem, e7, e8]) rfl ?_
              exact zz_no Zq.out HOk.out
          have h2i : ((x.size : Int) != 2) = false := by simp [h2]
          have HAt : Hid (atS x = some (wordS x)) := Lib.hid (by unfold atS; rw [if_neg hd, if_pos h2])
          by_cases him : m ≤ i
          · have HAd : Hid (addR Z1 i = (Z1 ++ [[]])) := Lib.hid (by unfold addR; rw [if_pos (by rw [HMx.out]; omega)])
            have hcm : (m : Int) ≤ (i : Int) := by omega
            obtain ⟨us, hus, hr2⟩ := HOx.out.2.2
            have hNW := cell_val_new (wi.alloc (.cells #[] 3)) (.slice (some ⟨wi.heap.size, 0, none⟩) 0 0) 46
            rw [show (wi.alloc (.cells #[] 3)).heap.size = wi.heap.size + 1 by simp] at hNW
            have HNWc := Lib.hid hNW
            have HUS : Hid (((wi.alloc (.cells #[] 3)).alloc (.cells #[.slice (some ⟨wi.heap.size, 0, none⟩) 0 0] 46)).ownsRow (bb + 1) 46 1 (.slice a m c) m us) := Lib.hid (by
              have b1 := below_one wi (.cells #[] 3)
              have := row_below hus (b1.trans ((below_one (wi.alloc (.cells #[] 3)) (.cells #[.slice (some ⟨wi.heap.size, 0, none⟩) 0 0] 46)).mono b1.size))
              rw [HMx.out] at this
              exact this)
            have HPu := Lib.hid (fun (w2 : World) (v' : Value) (hg : ((wi.alloc (.cells #[] 3)).alloc (.cells #[.slice (some ⟨wi.heap.size, 0, none⟩) 0 0] 46)).grownBy w2 (Value.slice a m c).ownBlock) (ho' : w2.ownsRow (bb + 1) 46 1 v' (m + 1) (us ++ [.slice (some ⟨wi.heap.size, 0, none⟩) 0 0])) => LnS.push (w1 := wi) ⟨HOx.out, Below.refl _ _, StayO.refl _⟩ hwi hus hr2 hg (by rw [HMx.out]; exact ho'))
            have hcB1 := fun o => (World.cell?_alloc_lt wi o ⟨bb, 1, none⟩ (by show bb < wi.heap.size; omega)).trans c1
            have HLz : Hid ((Z1 ++ [[]]).length = m + 1) := Lib.hid (by rw [List.length_append, HMx.out]; rfl)
            clear hus hr2 hNW
            go_wp2_with (at_builtin; refine wpList_append_own_at _ rfl _ _ 22 rfl (bb + 1) 46 j0 (.slice none 0 0) 1 24 Tryd.underlying22 hj hy0 hy1 hy2 rfl (by decide) _ m us rfl HUS.out _ 1 1 [.slice (some ⟨wi.heap.size, 0, none⟩) 0 0] rfl rfl HNWc.out (by simp [Value.oneCell']) (by unfold maxLen; omega) (by omega) (by simp; omega) ?_; intro v2 w5 hown2 hgr2 hnil2 hat2; have HLq := Lib.hid (HPu.out w5 v2 hgr2 hown2); obtain ⟨a2, c2, rfl⟩ := own_form hown2; have HCl := Lib.hid (HI.out.close (Nat.lt_succ_self bb) HBx.out HLq.out HLz.out); obtain ⟨y5, p2⟩ := HCl.out.2.1; have p3 := HCl.out.2.2; have hcw2 := (HStrW.out.stayX HCl.out.1.stay hgne).2 i _ hx; clear hown2 hgr2 hnil2 hat2)
            have HXq := Lib.hid (HX.out.trans (HLq.out.stay.x bb |>.trans (StayX.set bb w5 1 (.slice a2 (m + 1) c2))))
            have HSq := Lib.hid HCl.out.1
            clear HCl HLq p2 p3 y5 HPu HUS HNWc hcB1
            generalize w5.setCell ⟨bb, 1, none⟩ (.slice a2 (m + 1) c2) = wq at *
            obtain ⟨g2, cg, eg⟩ : ∃ g c, Hid (SpS bb (bb + 1) h w3 wk wq (Z1 ++ [[]]) ∧ ∃ m, wq.heap[bb]? = some (.cells #[.int .i64 (h : Int), .slice (some ⟨g, 0, none⟩) m c] 24 (0, 0)) ∧ (Z1 ++ [[]]).length = m ∧ OwnY wq (bb + 1) wq.heap.size (.slice (some ⟨g, 0, none⟩) m c) (Z1 ++ [[]])) := by
              obtain ⟨a9, m9, c9, q1, q2, q3⟩ := HSq.out.box
              obtain ⟨g, c, e⟩ := q3.rows (by rw [List.length_append]; exact Nat.succ_pos _)
              injection e with e1 e2 e3
              subst e1 e3
              exact ⟨g, c9, Lib.hid ⟨HSq.out, m9, q1, q2, q3⟩⟩
            obtain ⟨m9, hb9, hm9, ho9⟩ := eg.out.2
            have hlz : (Z1 ++ [[]]).length = (m + 1) := by exact HLz.out
            rw [hlz] at hm9
            subst hm9
            obtain ⟨l, hl⟩ := get_at hlz (k := i) (by omega)
            have HLl := Lib.hid hl
            obtain ⟨ml, hml⟩ : ∃ ml, l.length = ml := ⟨_, rfl⟩
            have HML := Lib.hid hml
            have hml2 : ml ≤ 400 := by have h7 := row_len hl; have h8 := HLn.out.2.2.2; have h9 := HNW.out; rw [show tot (Z1 ++ [[]]) = tot Z1 by simp [tot]] at h7; omega
            obtain ⟨u, hu, -, hou, -⟩ := ho9.cell hl
            obtain ⟨a4, c4, rfl⟩ := own_form hou
            rw [hml] at hu hou
            have HO4 := Lib.hid hou
            have ht9 := own_tab9 ho9
            have cO := cell_of (i := 1) hb9 rfl
            have x1 := (HStrW.out.stayX HSq.out.stay hgne).2 i x hx
            have hgw9 : gw < wq.heap.size := World.block_lt_of_cell? wq _ x1
            have hbb9 : bb < wq.heap.size := (Array.getElem?_eq_some_iff.1 hb9).1
            have HO9 := Lib.hid ho9
            have HB9 := Lib.hid hb9
            have HP := Lib.hid (fun (n : Int) (w5 : World) (v' : Value) (o : Obj) (ho : w5.ownsRow (bb + 1) 3 1 v' (ml + 1) (intV l ++ [.int .i64 n])) (hg : (wq.drew.alloc o).grownBy w5 (Value.slice a4 ml c4).ownBlock) (hat : v'.ownBlock = (Value.slice a4 ml c4).ownBlock ∨ v'.ownBlock = some (wq.drew.alloc o).heap.size) =>
              put9 (w2 := w3) (wk := wk) (h := h) (wr := wq) HSq.out HO9.out HB9.out hlz HLl.out HML.out hu (n := n) ho hg hat)
            have HU5 := Lib.hid (fun o => row_below HO4.out (((Below.refl _ wq).drew).alloc (Nat.le_refl _) o))
            have hcB := fun o => (World.cell?_alloc_lt wq o ⟨bb, 1, none⟩ hbb9).trans cO
            have hu9 : wq.drew.cell? ⟨g2, i, none⟩ = some (.slice a4 ml c4) := hu
            have hg3 : ¬ g2 = wq.heap.size := by omega
            have huB := fun o => (World.cell?_alloc_lt wq o ⟨g2, i, none⟩ (by show g2 < wq.heap.size; omega)).trans hu
            have hg4 : ¬ wq.heap.size = g2 := by omega
            have hcA := fun o => (World.cell?_alloc_lt wq.drew o ⟨bb, 1, none⟩ hbb9).trans cO
            have hxB := fun o => (World.cell?_alloc_lt wq o ⟨gw, i, none⟩ hgw9).trans x1
            have hxA := fun o => (World.cell?_alloc_lt wq.drew o ⟨gw, i, none⟩ hgw9).trans x1
            have hzz : bb + 1 ≤ wq.heap.size := by omega
            have HZA := Lib.hid (fun o => Nat.le_trans hzz (below_one wq.drew o).size)
            have hkq : (i : Int) < (m : Int) + 1 := by omega
            clear c1
            have hOg : ¬ bb = g2 := by omega
            have hgO : ¬ g2 = bb := by omega
            have hx0 : 0 < x.size := by omega
            have hx1 : 1 < x.size := by omega
            have HW : Hid (wordS x = 10 * ((x[0]'hx0).toNat - 48 : Int) + (x[1]'hx1).toNat - 48) := Lib.hid (by unfold wordS; rw [dif_pos hx1])
            have hd0 : ((x[0]'hx0).toNat) < 256 := UInt8.toNat_lt _
            have hd2 : ((x[1]'hx1).toNat) < 256 := UInt8.toNat_lt _
            clear hou HO4 hl hml ho9 hb9 hlz eg
            have nn1 := World.new_ne wq ⟨bb, 1, none⟩ cO
            have nn2 := World.new_ne wq ⟨gw, i, none⟩ x1
            have nn3 := World.new_ne wq ⟨g2, i, none⟩ hu
            have hgw2 : ¬ gw = g2 := by
              intro e
              obtain ⟨⟨cs1, h1⟩, -⟩ := HStrW.out.stayX HSq.out.stay hgne
              obtain ⟨_, _, us, h3, _⟩ := HO9.out
              obtain ⟨cs2, h2⟩ := own_type h3 rfl
              rw [← e, h1] at h2
              injection h2 with h2
              injection h2 with _ h2 _
              revert h2
              decide
            have huA := fun o => (World.cell?_alloc_lt wq.drew o ⟨g2, i, none⟩ (by show g2 < wq.heap.size; omega)).trans hu
            have hwx : IntKind.i64.wrap (IntKind.i64.wrap (IntKind.i64.wrap (10 * IntKind.i64.wrap (IntKind.i64.wrap (((x[0]'hx0).toNat : Nat) : Int) - 48)) + IntKind.i64.wrap (((x[1]'hx1).toNat : Nat) : Int)) - 48) = 10 * ((((x[0]'hx0).toNat : Nat) : Int) - 48) + (((x[1]'hx1).toNat : Nat) : Int) - 48 := hw_all _ _ hd0 hd2
            refine wp_region_held_drew (S := fun W => W.cell? ⟨bb, 1, none⟩ = some (.slice (some ⟨g2, 0, none⟩) (m + 1) cg) ∧ W.cell? ⟨gw, i, none⟩ = some (.string x)) (by kernel_rfl) ?_ (fun hHeld => ?_)
            · exact ⟨cO, x1⟩
            refine (wpAnyH_take (i := 0) (v := ?_) rfl (by kernel_rfl) (by kernel_rfl) (by kernel_rfl) (fun _ _ _ h => h) (Or.inl ⟨by rfl, ?_⟩) (by assumption) ?_)
            rotate_left 1
            · (intro w hSw; (try dsimp only at hSw); (go_simp) <;> with_reducible rfl)
            try simp only [Act.put, List.setIfInBounds_toArray]
            refine (wpAnyH_take (i := 1) (v := ?_) rfl (by kernel_rfl) (by kernel_rfl) (by kernel_rfl) (fun _ _ _ h => h) (Or.inl ⟨by rfl, ?_⟩) (by assumption) ?_)
            rotate_left 1
            · (intro w hSw; (try dsimp only at hSw); (go_simp) <;> with_reducible rfl)
            try simp only [Act.put]
            refine (wpAnyH_take (i := 2) (v := ?_) rfl (by kernel_rfl) (by kernel_rfl) (by kernel_rfl) (fun _ _ _ h => h) (Or.inl ⟨by rfl, ?_⟩) (by assumption) ?_)
            rotate_left 1
            · (intro w hSw; (try dsimp only at hSw); (go_simp) <;> with_reducible rfl)
            try simp only [Act.put]
            refine (wpAnyH_take (i := 3) (v := ?_) rfl (by kernel_rfl) (by kernel_rfl) (by kernel_rfl) (fun _ _ _ h => h) (Or.inl ⟨by rfl, ?_⟩) (by assumption) ?_)
            rotate_left 1
            · (intro w hSw; (try dsimp only at hSw); (go_simp) <;> with_reducible rfl)
            try simp only [Act.put]
            refine (wpAnyH_take (i := 4) (v := ?_) rfl (by kernel_rfl) (by kernel_rfl) (by kernel_rfl) (fun _ _ _ h => h) (Or.inl ⟨by rfl, ?_⟩) (by assumption) ?_)
            rotate_left 1
            · (intro w hSw; (try dsimp only at hSw); (go_simp) <;> with_reducible rfl)
            try simp only [Act.put]
            refine (wpAnyH_take (i := 5) (v := ?_) rfl (by kernel_rfl) (by kernel_rfl) (by kernel_rfl) (fun _ _ _ h => h) (Or.inl ⟨by rfl, ?_⟩) (by assumption) ?_)
            rotate_left 1
            · (intro w hSw; (try dsimp only at hSw); (go_simp) <;> with_reducible rfl)
            try simp only [Act.put]
            refine (wpAnyH_take (i := 6) (v := ?_) rfl (by kernel_rfl) (by kernel_rfl) (by kernel_rfl) (fun _ _ _ h => h) (Or.inl ⟨by rfl, ?_⟩) (by assumption) ?_)
            rotate_left 1
            · (intro w hSw; (try dsimp only at hSw); (go_simp) <;> with_reducible rfl)
            try simp only [Act.put]
            refine (wpAnyH_take (i := 8) (v := ?_) rfl (by kernel_rfl) (by kernel_rfl) (by kernel_rfl) (fun _ _ _ h => h) (Or.inl ⟨by rfl, ?_⟩) (by assumption) ?_)
            rotate_left 1
            · (intro w hSw; (try dsimp only at hSw); (go_simp) <;> with_reducible rfl)
            try simp only [Act.put]
            refine (wpAnyH_take (i := 9) (v := ?_) rfl (by kernel_rfl) (by kernel_rfl) (by kernel_rfl) (fun _ _ _ h => h) (Or.inl ⟨by rfl, ?_⟩) (by assumption) ?_)
            rotate_left 1
            · (intro w hSw; (try dsimp only at hSw); (go_simp) <;> with_reducible rfl)
            try simp only [Act.put]
            refine (wpAnyH_take (i := 10) (v := ?_) rfl (by kernel_rfl) (by kernel_rfl) (by kernel_rfl) (fun _ _ _ h => h) (Or.inl ⟨by rfl, ?_⟩) (by assumption) ?_)
            rotate_left 1
            · (intro w hSw; (try dsimp only at hSw); (go_simp) <;> with_reducible rfl)
            try simp only [Act.put]
            refine (wpAnyH_take (i := 11) (v := ?_) rfl (by kernel_rfl) (by kernel_rfl) (by kernel_rfl) (fun _ _ _ h => h) (Or.inl ⟨by rfl, ?_⟩) (by assumption) ?_)
            rotate_left 1
            · (intro w hSw; (try dsimp only at hSw); (go_simp) <;> with_reducible rfl)
            try simp only [Act.put]
            refine (wpAnyH_take (i := 12) (v := ?_) rfl (by kernel_rfl) (by kernel_rfl) (by kernel_rfl) (fun _ _ _ h => h) (Or.inl ⟨by rfl, ?_⟩) (by assumption) ?_)
            rotate_left 1
            · (intro w hSw; (try dsimp only at hSw); (go_simp) <;> with_reducible rfl)
            try simp only [Act.put]
            refine (wpAnyH_take (i := 13) (v := ?_) rfl (by kernel_rfl) (by kernel_rfl) (by kernel_rfl) (fun _ _ _ h => h) (Or.inl ⟨by rfl, ?_⟩) (by assumption) ?_)
            rotate_left 1
            · (intro w hSw; (try dsimp only at hSw); (go_simp) <;> with_reducible rfl)
            try simp only [Act.put]
            refine (wpAnyH_take (i := 14) (v := ?_) rfl (by kernel_rfl) (by kernel_rfl) (by kernel_rfl) (fun _ _ _ h => h) (Or.inl ⟨by rfl, ?_⟩) (by assumption) ?_)
            rotate_left 1
            · (intro w hSw; (try dsimp only at hSw); (go_simp) <;> with_reducible rfl)
            try simp only [Act.put]
            refine (wpAnyH_take (i := 15) (v := ?_) rfl (by kernel_rfl) (by kernel_rfl) (by kernel_rfl) (fun _ _ _ h => h) (Or.inl ⟨by rfl, ?_⟩) (by assumption) ?_)
            rotate_left 1
            · (intro w hSw; (try dsimp only at hSw); (go_simp) <;> with_reducible rfl)
            try simp only [Act.put]
            refine (wpAnyH_take (i := 16) (v := ?_) rfl (by kernel_rfl) (by kernel_rfl) (by kernel_rfl) (fun _ _ _ h => h) (Or.inl ⟨by rfl, ?_⟩) (by assumption) ?_)
            rotate_left 1
            · (intro w hSw; (try dsimp only at hSw); (go_simp) <;> with_reducible rfl)
            try simp only [Act.put]
            refine (wpAnyH_take (i := 17) (v := ?_) rfl (by kernel_rfl) (by kernel_rfl) (by kernel_rfl) (fun _ _ _ h => h) (Or.inl ⟨by rfl, ?_⟩) (by assumption) ?_)
            rotate_left 1
            · (intro w hSw; (try dsimp only at hSw); (go_simp) <;> with_reducible rfl)
            try simp only [Act.put]
            refine (wpAnyH_take (i := 18) (v := ?_) rfl (by kernel_rfl) (by kernel_rfl) (by kernel_rfl) (fun _ _ _ h => h) (Or.inl ⟨by rfl, ?_⟩) (by assumption) ?_)
            rotate_left 1
            · (intro w hSw; (try dsimp only at hSw); (go_simp) <;> with_reducible rfl)
            try simp only [Act.put]
            refine (wpAnyH_take (i := 19) (v := ?_) rfl (by kernel_rfl) (by kernel_rfl) (by kernel_rfl) (fun _ _ _ h => h) (Or.inl ⟨by rfl, ?_⟩) (by assumption) ?_)
            rotate_left 1
            · (intro w hSw; (try dsimp only at hSw); (go_simp) <;> with_reducible rfl)
            try simp only [Act.put]
            refine (wpAnyH_take (i := 20) (v := ?_) rfl (by kernel_rfl) (by kernel_rfl) (by kernel_rfl) (fun _ _ _ h => h) (Or.inl ⟨by rfl, ?_⟩) (by assumption) ?_)
            rotate_left 1
            · (intro w hSw; (try dsimp only at hSw); (go_simp) <;> with_reducible rfl)
            try simp only [Act.put]
            refine (wpAnyH_take (i := 21) (v := ?_) rfl (by kernel_rfl) (by kernel_rfl) (by kernel_rfl) (fun _ _ _ h => h) (Or.inl ⟨by rfl, ?_⟩) (by assumption) ?_)
            rotate_left 1
            · (intro w hSw; (try dsimp only at hSw); (go_simp) <;> with_reducible rfl)
            try simp only [Act.put]
            refine (wpAnyH_take (i := 22) (v := ?_) rfl (by kernel_rfl) (by kernel_rfl) (by kernel_rfl) (fun _ _ _ h => h) (Or.inl ⟨by rfl, ?_⟩) (by assumption) ?_)
            rotate_left 1
            · (intro w hSw; (try dsimp only at hSw); (go_simp) <;> with_reducible rfl)
            try simp only [Act.put]
            refine (wpAnyH_take (i := 23) (v := ?_) rfl (by kernel_rfl) (by kernel_rfl) (by kernel_rfl) (fun _ _ _ h => h) (Or.inl ⟨by rfl, ?_⟩) (by assumption) ?_)
            rotate_left 1
            · (intro w hSw; (try dsimp only at hSw); (go_simp) <;> with_reducible rfl)
            try simp only [Act.put]
            refine wpAnyH_ready (rs := [7, 24]) (by kernel_rfl) (by simp) ?_
            refine AllReadyH.cons rfl (fun K hK => ?_) ?_
            · go_simp
              refine hK.out _ _ ?_ (fun hNew => ?_)
              · (try dsimp only); exact hHeld
              clear hK K hHeld
              have hHeld := hNew
              clear hNew
              refine wpAnyH_ready (rs := [24]) (by kernel_rfl) (by simp) ?_
              refine AllReadyH.cons rfl (fun K hK => ?_) ?_
              · go_simp
                refine hK.out _ _ ?_ (fun hNew => ?_)
                · (try dsimp only); exact ⟨hcA _, hxA _⟩
                clear hK K hHeld
                have hHeld := hNew
                clear hNew
                refine wpAnyH_ready (rs := [25]) (by kernel_rfl) (by simp) ?_
                refine AllReadyH.cons rfl (fun K hK => ?_) ?_
                · refine step_int_at (by rfl) _ _ (by rfl) (bb + 1) _ ml (intV l) (by rfl) (HU5.out _) _ _ _ (by rfl) (cell_val_new _ _ _) (by simp [Value.oneCell']) (by omega) (HZA.out _) ?_
                  intro v5 w5 ho5 hg5 hat5
                  have ho6 : w5.ownsRow (bb + 1) 3 1 v5 (ml + 1) (intV l ++ [.int .i64 (10 * ((((x[0]'hx0).toNat : Nat) : Int) - 48) + (((x[1]'hx1).toNat : Nat) : Int) - 48)]) := by first | (rw [← hwx]; exact ho5) | exact ho5
                  have HP5 := Lib.hid (HP.out _ w5 v5 _ ho6 hg5 hat5)
                  obtain ⟨y5, p2⟩ := HP5.out.2.1
                  have p3 := HP5.out.2.2.1
                  have q1 := HP5.out.2.2.2.1
                  have q2 := HP5.out.2.2.2.2.1
                  have q3 := ((HStrW.out.stayX HSq.out.stay hgne).stay HP5.out.2.2.2.2.2).2 i x hx
                  obtain ⟨a6, c6, rfl⟩ := own_form ho5
                  clear ho5 ho6 hg5 hat5
                  refine hK.out _ _ ?_ (fun hNew => ?_)
                  · (try dsimp only); exact ⟨q1, q3⟩
                  clear hK K hHeld
                  have hHeld := hNew
                  clear hNew
                  refine (wpAnyH_take (i := 26) (v := ?_) rfl (by kernel_rfl) (by kernel_rfl) (by kernel_rfl) (fun _ _ _ h => h) (Or.inl ⟨by rfl, ?_⟩) (by assumption) ?_)
                  rotate_left 1
                  · (intro w hSw; (try dsimp only at hSw); (go_simp) <;> with_reducible rfl)
                  try simp only [Act.put, List.setIfInBounds_toArray]
                  refine wpAnyH_ready (rs := [27]) (by kernel_rfl) (by simp) ?_
                  refine AllReadyH.cons rfl (fun K hK => ?_) ?_
                  · go_simp
                    refine hK.out _ _ ?_ (fun hNew => ?_)
                    · (try dsimp only); exact ⟨(set_cell_ne _ _ _ _ _ _ hOg).trans q1, (set_cell_ne _ _ _ _ _ _ hgw2).trans q3⟩
                    clear hK K hHeld
                    have hHeld := hNew
                    clear hNew
                    refine wpAnyH_done (by kernel_rfl) ?_ _
                    have HPx := Lib.hid HP5.out.1
                    clear HP5 p2 p3 q1 q2 q3 y5 hHeld
                    go_wp2_with fail
                    exact ⟨⟨i + 1, by omega, by go_num, Lib.hid (by rw [lnW, HY.out, HGx.out]; unfold putW; rw [HAt.out, HAd.out, HW.out]; exact HPx.out.1), Lib.hid (HXq.out.trans HPx.out.2)⟩, by simp [intOf]; omega⟩
                  exact AllReadyH.nil
                exact AllReadyH.nil
              exact AllReadyH.nil
            refine AllReadyH.cons rfl (fun K hK => ?_) ?_
            · go_simp
              refine hK.out _ _ ?_ (fun hNew => ?_)
              · (try dsimp only); exact ⟨hcA _, hxA _⟩
              clear hK K hHeld
              have hHeld := hNew
              clear hNew
              refine wpAnyH_ready (rs := [7]) (by kernel_rfl) (by simp) ?_
              refine AllReadyH.cons rfl (fun K hK => ?_) ?_
              · go_simp
                refine hK.out _ _ ?_ (fun hNew => ?_)
                · (try dsimp only); exact hHeld
                clear hK K hHeld
                have hHeld := hNew
                clear hNew
                refine wpAnyH_ready (rs := [25]) (by kernel_rfl) (by simp) ?_
                refine AllReadyH.cons rfl (fun K hK => ?_) ?_
                · refine step_int_at (by rfl) _ _ (by rfl) (bb + 1) _ ml (intV l) (by rfl) (HU5.out _) _ _ _ (by rfl) (cell_val_new _ _ _) (by simp [Value.oneCell']) (by omega) (HZA.out _) ?_
                  intro v5 w5 ho5 hg5 hat5
                  have ho6 : w5.ownsRow (bb + 1) 3 1 v5 (ml + 1) (intV l ++ [.int .i64 (10 * ((((x[0]'hx0).toNat : Nat) : Int) - 48) + (((x[1]'hx1).toNat : Nat) : Int) - 48)]) := by first | (rw [← hwx]; exact ho5) | exact ho5
                  have HP5 := Lib.hid (HP.out _ w5 v5 _ ho6 hg5 hat5)
                  obtain ⟨y5, p2⟩ := HP5.out.2.1
                  have p3 := HP5.out.2.2.1
                  have q1 := HP5.out.2.2.2.1
                  have q2 := HP5.out.2.2.2.2.1
                  have q3 := ((HStrW.out.stayX HSq.out.stay hgne).stay HP5.out.2.2.2.2.2).2 i x hx
                  obtain ⟨a6, c6, rfl⟩ := own_form ho5
                  clear ho5 ho6 hg5 hat5
                  refine hK.out _ _ ?_ (fun hNew => ?_)
                  · (try dsimp only); exact ⟨q1, q3⟩
                  clear hK K hHeld
                  have hHeld := hNew
                  clear hNew
                  refine (wpAnyH_take (i := 26) (v := ?_) rfl (by kernel_rfl) (by kernel_rfl) (by kernel_rfl) (fun _ _ _ h => h) (Or.inl ⟨by rfl, ?_⟩) (by assumption) ?_)
                  rotate_left 1
                  · (intro w hSw; (try dsimp only at hSw); (go_simp) <;> with_reducible rfl)
                  try simp only [Act.put, List.setIfInBounds_toArray]
                  refine wpAnyH_ready (rs := [27]) (by kernel_rfl) (by simp) ?_
                  refine AllReadyH.cons rfl (fun K hK => ?_) ?_
                  · go_simp
                    refine hK.out _ _ ?_ (fun hNew => ?_)
                    · (try dsimp only); exact ⟨(set_cell_ne _ _ _ _ _ _ hOg).trans q1, (set_cell_ne _ _ _ _ _ _ hgw2).trans q3⟩
                    clear hK K hHeld
                    have hHeld := hNew
                    clear hNew
                    refine wpAnyH_done (by kernel_rfl) ?_ _
                    have HPx := Lib.hid HP5.out.1
                    clear HP5 p2 p3 q1 q2 q3 y5 hHeld
                    go_wp2_with fail
                    exact ⟨⟨i + 1, by omega, by go_num, Lib.hid (by rw [lnW, HY.out, HGx.out]; unfold putW; rw [HAt.out, HAd.out, HW.out]; exact HPx.out.1), Lib.hid (HXq.out.trans HPx.out.2)⟩, by simp [intOf]; omega⟩
                  exact AllReadyH.nil
                exact AllReadyH.nil
              exact AllReadyH.nil
            exact AllReadyH.nil
          · have HAd : Hid (addR Z1 i = Z1) := Lib.hid (by unfold addR; rw [if_neg (by rw [HMx.out]; omega)])
            have hcm : ¬ (m : Int) ≤ (i : Int) := by omega
            have HSq := HI
            have HXq := HX
            go_wp2_with fail
            obtain ⟨g2, cg, eg⟩ : ∃ g c, Hid (SpS bb (bb + 1) h w3 wk wi Z1 ∧ ∃ m, wi.heap[bb]? = some (.cells #[.int .i64 (h : Int), .slice (some ⟨g, 0, none⟩) m c] 24 (0, 0)) ∧ Z1.length = m ∧ OwnY wi (bb + 1) wi.heap.size (.slice (some ⟨g, 0, none⟩) m c) Z1) := by
              obtain ⟨a9, m9, c9, q1, q2, q3⟩ := HSq.out.box
              obtain ⟨g, c, e⟩ := q3.rows (by rw [HMx.out]; omega)
              injection e with e1 e2 e3
              subst e1 e3
              exact ⟨g, c9, Lib.hid ⟨HSq.out, m9, q1, q2, q3⟩⟩
            obtain ⟨m9, hb9, hm9, ho9⟩ := eg.out.2
            have hlz : Z1.length = m := by exact HMx.out
            rw [hlz] at hm9
            subst hm9
            obtain ⟨l, hl⟩ := get_at hlz (k := i) (by omega)
            have HLl := Lib.hid hl
            obtain ⟨ml, hml⟩ : ∃ ml, l.length = ml := ⟨_, rfl⟩
            have HML := Lib.hid hml
            have hml2 : ml ≤ 400 := by have h7 := row_len hl; have h8 := HLn.out.2.2.2; have h9 := HNW.out; omega
            obtain ⟨u, hu, -, hou, -⟩ := ho9.cell hl
            obtain ⟨a4, c4, rfl⟩ := own_form hou
            rw [hml] at hu hou
            have HO4 := Lib.hid hou
            have ht9 := own_tab9 ho9
            have cO := cell_of (i := 1) hb9 rfl
            have x1 := (HStrW.out.stayX HSq.out.stay hgne).2 i x hx
            have hgw9 : gw < wi.heap.size := World.block_lt_of_cell? wi _ x1
            have hbb9 : bb < wi.heap.size := (Array.getElem?_eq_some_iff.1 hb9).1
            have HO9 := Lib.hid ho9
            have HB9 := Lib.hid hb9
            have HP := Lib.hid (fun (n : Int) (w5 : World) (v' : Value) (o : Obj) (ho : w5.ownsRow (bb + 1) 3 1 v' (ml + 1) (intV l ++ [.int .i64 n])) (hg : (wi.drew.alloc o).grownBy w5 (Value.slice a4 ml c4).ownBlock) (hat : v'.ownBlock = (Value.slice a4 ml c4).ownBlock ∨ v'.ownBlock = some (wi.drew.alloc o).heap.size) =>
              put9 (w2 := w3) (wk := wk) (h := h) (wr := wi) HSq.out HO9.out HB9.out hlz HLl.out HML.out hu (n := n) ho hg hat)
            have HU5 := Lib.hid (fun o => row_below HO4.out (((Below.refl _ wi).drew).alloc (Nat.le_refl _) o))
            have hcB := fun o => (World.cell?_alloc_lt wi o ⟨bb, 1, none⟩ hbb9).trans cO
            have hu9 : wi.drew.cell? ⟨g2, i, none⟩ = some (.slice a4 ml c4) := hu
            have hg3 : ¬ g2 = wi.heap.size := by omega
            have huB := fun o => (World.cell?_alloc_lt wi o ⟨g2, i, none⟩ (by show g2 < wi.heap.size; omega)).trans hu
            have hg4 : ¬ wi.heap.size = g2 := by omega
            have hcA := fun o => (World.cell?_alloc_lt wi.drew o ⟨bb, 1, none⟩ hbb9).trans cO
            have hxB := fun o => (World.cell?_alloc_lt wi o ⟨gw, i, none⟩ hgw9).trans x1
            have hxA := fun o => (World.cell?_alloc_lt wi.drew o ⟨gw, i, none⟩ hgw9).trans x1
            have hzz : bb + 1 ≤ wi.heap.size := by omega
            have HZA := Lib.hid (fun o => Nat.le_trans hzz (below_one wi.drew o).size)
            have hkq : (i : Int) < (m : Int) := by omega
            clear c1
            have hOg : ¬ bb = g2 := by omega
            have hgO : ¬ g2 = bb := by omega
            have hx0 : 0 < x.size := by omega
            have hx1 : 1 < x.size := by omega
            have HW : Hid (wordS x = 10 * ((x[0]'hx0).toNat - 48 : Int) + (x[1]'hx1).toNat - 48) := Lib.hid (by unfold wordS; rw [dif_pos hx1])
            have hd0 : ((x[0]'hx0).toNat) < 256 := UInt8.toNat_lt _
            have hd2 : ((x[1]'hx1).toNat) < 256 := UInt8.toNat_lt _
            clear hou HO4 hl hml ho9 hb9 hlz eg
            have nn1 := World.new_ne wi ⟨bb, 1, none⟩ cO
            have nn2 := World.new_ne wi ⟨gw, i, none⟩ x1
            have nn3 := World.new_ne wi ⟨g2, i, none⟩ hu
            have hgw2 : ¬ gw = g2 := by
              intro e
              obtain ⟨⟨cs1, h1⟩, -⟩ := HStrW.out.stayX HSq.out.stay hgne
              obtain ⟨_, _, us, h3, _⟩ := HO9.out
              obtain ⟨cs2, h2⟩ := own_type h3 rfl
              rw [← e, h1] at h2
              injection h2 with h2
              injection h2 with _ h2 _
              revert h2
              decide
            have huA := fun o => (World.cell?_alloc_lt wi.drew o ⟨g2, i, none⟩ (by show g2 < wi.heap.size; omega)).trans hu
            have hwx : IntKind.i64.wrap (IntKind.i64.wrap (IntKind.i64.wrap (10 * IntKind.i64.wrap (IntKind.i64.wrap (((x[0]'hx0).toNat : Nat) : Int) - 48)) + IntKind.i64.wrap (((x[1]'hx1).toNat : Nat) : Int)) - 48) = 10 * ((((x[0]'hx0).toNat : Nat) : Int) - 48) + (((x[1]'hx1).toNat : Nat) : Int) - 48 := hw_all _ _ hd0 hd2
            refine wp_region_held_drew (S := fun W => W.cell? ⟨bb, 1, none⟩ = some (.slice (some ⟨g2, 0, none⟩) m cg) ∧ W.cell? ⟨gw, i, none⟩ = some (.string x)) (by kernel_rfl) ?_ (fun hHeld => ?_)
            · exact ⟨cO, x1⟩
            refine (wpAnyH_take (i := 0) (v := ?_) rfl (by kernel_rfl) (by kernel_rfl) (by kernel_rfl) (fun _ _ _ h => h) (Or.inl ⟨by rfl, ?_⟩) (by assumption) ?_)
            rotate_left 1
            · (intro w hSw; (try dsimp only at hSw); (go_simp) <;> with_reducible rfl)
            try simp only [Act.put, List.setIfInBounds_toArray]
            refine (wpAnyH_take (i := 1) (v := ?_) rfl (by kernel_rfl) (by kernel_rfl) (by kernel_rfl) (fun _ _ _ h => h) (Or.inl ⟨by rfl, ?_⟩) (by assumption) ?_)
            rotate_left 1
            · (intro w hSw; (try dsimp only at hSw); (go_simp) <;> with_reducible rfl)
            try simp only [Act.put]
            refine (wpAnyH_take (i := 2) (v := ?_) rfl (by kernel_rfl) (by kernel_rfl) (by kernel_rfl) (fun _ _ _ h => h) (Or.inl ⟨by rfl, ?_⟩) (by assumption) ?_)
            rotate_left 1
            · (intro w hSw; (try dsimp only at hSw); (go_simp) <;> with_reducible rfl)
            try simp only [Act.put]
            refine (wpAnyH_take (i := 3) (v := ?_) rfl (by kernel_rfl) (by kernel_rfl) (by kernel_rfl) (fun _ _ _ h => h) (Or.inl ⟨by rfl, ?_⟩) (by assumption) ?_)
            rotate_left 1
            · (intro w hSw; (try dsimp only at hSw); (go_simp) <;> with_reducible rfl)
            try simp only [Act.put]
            refine (wpAnyH_take (i := 4) (v := ?_) rfl (by kernel_rfl) (by kernel_rfl) (by kernel_rfl) (fun _ _ _ h => h) (Or.inl ⟨by rfl, ?_⟩) (by assumption) ?_)
            rotate_left 1
            · (intro w hSw; (try dsimp only at hSw); (go_simp) <;> with_reducible rfl)
            try simp only [Act.put]
            refine (wpAnyH_take (i := 5) (v := ?_) rfl (by kernel_rfl) (by kernel_rfl) (by kernel_rfl) (fun _ _ _ h => h) (Or.inl ⟨by rfl, ?_⟩) (by assumption) ?_)
            rotate_left 1
            · (intro w hSw; (try dsimp only at hSw); (go_simp) <;> with_reducible rfl)
            try simp only [Act.put]
            refine (wpAnyH_take (i := 6) (v := ?_) rfl (by kernel_rfl) (by kernel_rfl) (by kernel_rfl) (fun _ _ _ h => h) (Or.inl ⟨by rfl, ?_⟩) (by assumption) ?_)
            rotate_left 1
            · (intro w hSw; (try dsimp only at hSw); (go_simp) <;> with_reducible rfl)
            try simp only [Act.put]
            refine (wpAnyH_take (i := 8) (v := ?_) rfl (by kernel_rfl) (by kernel_rfl) (by kernel_rfl) (fun _ _ _ h => h) (Or.inl ⟨by rfl, ?_⟩) (by assumption) ?_)
            rotate_left 1
            · (intro w hSw; (try dsimp only at hSw); (go_simp) <;> with_reducible rfl)
            try simp only [Act.put]
            refine (wpAnyH_take (i := 9) (v := ?_) rfl (by kernel_rfl) (by kernel_rfl) (by kernel_rfl) (fun _ _ _ h => h) (Or.inl ⟨by rfl, ?_⟩) (by assumption) ?_)
            rotate_left 1
            · (intro w hSw; (try dsimp only at hSw); (go_simp) <;> with_reducible rfl)
            try simp only [Act.put]
            refine (wpAnyH_take (i := 10) (v := ?_) rfl (by kernel_rfl) (by kernel_rfl) (by kernel_rfl) (fun _ _ _ h => h) (Or.inl ⟨by rfl, ?_⟩) (by assumption) ?_)
            rotate_left 1
            · (intro w hSw; (try dsimp only at hSw); (go_simp) <;> with_reducible rfl)
            try simp only [Act.put]
            refine (wpAnyH_take (i := 11) (v := ?_) rfl (by kernel_rfl) (by kernel_rfl) (by kernel_rfl) (fun _ _ _ h => h) (Or.inl ⟨by rfl, ?_⟩) (by assumption) ?_)
            rotate_left 1
            · (intro w hSw; (try dsimp only at hSw); (go_simp) <;> with_reducible rfl)
            try simp only [Act.put]
            refine (wpAnyH_take (i := 12) (v := ?_) rfl (by kernel_rfl) (by kernel_rfl) (by kernel_rfl) (fun _ _ _ h => h) (Or.inl ⟨by rfl, ?_⟩) (by assumption) ?_)
            rotate_left 1
            · (intro w hSw; (try dsimp only at hSw); (go_simp) <;> with_reducible rfl)
            try simp only [Act.put]
            refine (wpAnyH_take (i := 13) (v := ?_) rfl (by kernel_rfl) (by kernel_rfl) (by kernel_rfl) (fun _ _ _ h => h) (Or.inl ⟨by rfl, ?_⟩) (by assumption) ?_)
            rotate_left 1
            · (intro w hSw; (try dsimp only at hSw); (go_simp) <;> with_reducible rfl)
            try simp only [Act.put]
            refine (wpAnyH_take (i := 14) (v := ?_) rfl (by kernel_rfl) (by kernel_rfl) (by kernel_rfl) (fun _ _ _ h => h) (Or.inl ⟨by rfl, ?_⟩) (by assumption) ?_)
            rotate_left 1
            · (intro w hSw; (try dsimp only at hSw); (go_simp) <;> with_reducible rfl)
            try simp only [Act.put]
            refine (wpAnyH_take (i := 15) (v := ?_) rfl (by kernel_rfl) (by kernel_rfl) (by kernel_rfl) (fun _ _ _ h => h) (Or.inl ⟨by rfl, ?_⟩) (by assumption) ?_)
            rotate_left 1
            · (intro w hSw; (try dsimp only at hSw); (go_simp) <;> with_reducible rfl)
            try simp only [Act.put]
            refine (wpAnyH_take (i := 16) (v := ?_) rfl (by kernel_rfl) (by kernel_rfl) (by kernel_rfl) (fun _ _ _ h => h) (Or.inl ⟨by rfl, ?_⟩) (by assumption) ?_)
            rotate_left 1
            · (intro w hSw; (try dsimp only at hSw); (go_simp) <;> with_reducible rfl)
            try simp only [Act.put]
            refine (wpAnyH_take (i := 17) (v := ?_) rfl (by kernel_rfl) (by kernel_rfl) (by kernel_rfl) (fun _ _ _ h => h) (Or.inl ⟨by rfl, ?_⟩) (by assumption) ?_)
            rotate_left 1
            · (intro w hSw; (try dsimp only at hSw); (go_simp) <;> with_reducible rfl)
            try simp only [Act.put]
            refine (wpAnyH_take (i := 18) (v := ?_) rfl (by kernel_rfl) (by kernel_rfl) (by kernel_rfl) (fun _ _ _ h => h) (Or.inl ⟨by rfl, ?_⟩) (by assumption) ?_)
            rotate_left 1
            · (intro w hSw; (try dsimp only at hSw); (go_simp) <;> with_reducible rfl)
            try simp only [Act.put]
            refine (wpAnyH_take (i := 19) (v := ?_) rfl (by kernel_rfl) (by kernel_rfl) (by kernel_rfl) (fun _ _ _ h => h) (Or.inl ⟨by rfl, ?_⟩) (by assumption) ?_)
            rotate_left 1
            · (intro w hSw; (try dsimp only at hSw); (go_simp) <;> with_reducible rfl)
            try simp only [Act.put]
            refine (wpAnyH_take (i := 20) (v := ?_) rfl (by kernel_rfl) (by kernel_rfl) (by kernel_rfl) (fun _ _ _ h => h) (Or.inl ⟨by rfl, ?_⟩) (by assumption) ?_)
            rotate_left 1
            · (intro w hSw; (try dsimp only at hSw); (go_simp) <;> with_reducible rfl)
            try simp only [Act.put]
            refine (wpAnyH_take (i := 21) (v := ?_) rfl (by kernel_rfl) (by kernel_rfl) (by kernel_rfl) (fun _ _ _ h => h) (Or.inl ⟨by rfl, ?_⟩) (by assumption) ?_)
            rotate_left 1
            · (intro w hSw; (try dsimp only at hSw); (go_simp) <;> with_reducible rfl)
            try simp only [Act.put]
            refine (wpAnyH_take (i := 22) (v := ?_) rfl (by kernel_rfl) (by kernel_rfl) (by kernel_rfl) (fun _ _ _ h => h) (Or.inl ⟨by rfl, ?_⟩) (by assumption) ?_)
            rotate_left 1
            · (intro w hSw; (try dsimp only at hSw); (go_simp) <;> with_reducible rfl)
            try simp only [Act.put]
            refine (wpAnyH_take (i := 23) (v := ?_) rfl (by kernel_rfl) (by kernel_rfl) (by kernel_rfl) (fun _ _ _ h => h) (Or.inl ⟨by rfl, ?_⟩) (by assumption) ?_)
            rotate_left 1
            · (intro w hSw; (try dsimp only at hSw); (go_simp) <;> with_reducible rfl)
            try simp only [Act.put]
            refine wpAnyH_ready (rs := [7, 24]) (by kernel_rfl) (by simp) ?_
            refine AllReadyH.cons rfl (fun K hK => ?_) ?_
            · go_simp
              refine hK.out _ _ ?_ (fun hNew => ?_)
              · (try dsimp only); exact hHeld
              clear hK K hHeld
              have hHeld := hNew
              clear hNew
              refine wpAnyH_ready (rs := [24]) (by kernel_rfl) (by simp) ?_
              refine AllReadyH.cons rfl (fun K hK => ?_) ?_
              · go_simp
                refine hK.out _ _ ?_ (fun hNew => ?_)
                · (try dsimp only); exact ⟨hcA _, hxA _⟩
                clear hK K hHeld
                have hHeld := hNew
                clear hNew
                refine wpAnyH_ready (rs := [25]) (by kernel_rfl) (by simp) ?_
                refine AllReadyH.cons rfl (fun K hK => ?_) ?_
                · refine step_int_at (by rfl) _ _ (by rfl) (bb + 1) _ ml (intV l) (by rfl) (HU5.out _) _ _ _ (by rfl) (cell_val_new _ _ _) (by simp [Value.oneCell']) (by omega) (HZA.out _) ?_
                  intro v5 w5 ho5 hg5 hat5
                  have ho6 : w5.ownsRow (bb + 1) 3 1 v5 (ml + 1) (intV l ++ [.int .i64 (10 * ((((x[0]'hx0).toNat : Nat) : Int) - 48) + (((x[1]'hx1).toNat : Nat) : Int) - 48)]) := by first | (rw [← hwx]; exact ho5) | exact ho5
                  have HP5 := Lib.hid (HP.out _ w5 v5 _ ho6 hg5 hat5)
                  obtain ⟨y5, p2⟩ := HP5.out.2.1
                  have p3 := HP5.out.2.2.1
                  have q1 := HP5.out.2.2.2.1
                  have q2 := HP5.out.2.2.2.2.1
                  have q3 := ((HStrW.out.stayX HSq.out.stay hgne).stay HP5.out.2.2.2.2.2).2 i x hx
                  obtain ⟨a6, c6, rfl⟩ := own_form ho5
                  clear ho5 ho6 hg5 hat5
                  refine hK.out _ _ ?_ (fun hNew => ?_)
                  · (try dsimp only); exact ⟨q1, q3⟩
                  clear hK K hHeld
                  have hHeld := hNew
                  clear hNew
                  refine (wpAnyH_take (i := 26) (v := ?_) rfl (by kernel_rfl) (by kernel_rfl) (by kernel_rfl) (fun _ _ _ h => h) (Or.inl ⟨by rfl, ?_⟩) (by assumption) ?_)
                  rotate_left 1
                  · (intro w hSw; (try dsimp only at hSw); (go_simp) <;> with_reducible rfl)
                  try simp only [Act.put, List.setIfInBounds_toArray]
                  refine wpAnyH_ready (rs := [27]) (by kernel_rfl) (by simp) ?_
                  refine AllReadyH.cons rfl (fun K hK => ?_) ?_
                  · go_simp
                    refine hK.out _ _ ?_ (fun hNew => ?_)
                    · (try dsimp only); exact ⟨(set_cell_ne _ _ _ _ _ _ hOg).trans q1, (set_cell_ne _ _ _ _ _ _ hgw2).trans q3⟩
                    clear hK K hHeld
                    have hHeld := hNew
                    clear hNew
                    refine wpAnyH_done (by kernel_rfl) ?_ _
                    have HPx := Lib.hid HP5.out.1
                    clear HP5 p2 p3 q1 q2 q3 y5 hHeld
                    go_wp2_with fail
                    exact ⟨⟨i + 1, by omega, by go_num, Lib.hid (by rw [lnW, HY.out, HGx.out]; unfold putW; rw [HAt.out, HAd.out, HW.out]; exact HPx.out.1), Lib.hid (HXq.out.trans HPx.out.2)⟩, by simp [intOf]; omega⟩
                  exact AllReadyH.nil
                exact AllReadyH.nil
              exact AllReadyH.nil
            refine AllReadyH.cons rfl (fun K hK => ?_) ?_
            · go_simp
              refine hK.out _ _ ?_ (fun hNew => ?_)
              · (try dsimp only); exact ⟨hcA _, hxA _⟩
              clear hK K hHeld
              have hHeld := hNew
              clear hNew
              refine wpAnyH_ready (rs := [7]) (by kernel_rfl) (by simp) ?_
              refine AllReadyH.cons rfl (fun K hK => ?_) ?_
              · go_simp
                refine hK.out _ _ ?_ (fun hNew => ?_)
                · (try dsimp only); exact hHeld
                clear hK K hHeld
                have hHeld := hNew
                clear hNew
                refine wpAnyH_ready (rs := [25]) (by kernel_rfl) (by simp) ?_
                refine AllReadyH.cons rfl (fun K hK => ?_) ?_
                · refine step_int_at (by rfl) _ _ (by rfl) (bb + 1) _ ml (intV l) (by rfl) (HU5.out _) _ _ _ (by rfl) (cell_val_new _ _ _) (by simp [Value.oneCell']) (by omega) (HZA.out _) ?_
                  intro v5 w5 ho5 hg5 hat5
                  have ho6 : w5.ownsRow (bb + 1) 3 1 v5 (ml + 1) (intV l ++ [.int .i64 (10 * ((((x[0]'hx0).toNat : Nat) : Int) - 48) + (((x[1]'hx1).toNat : Nat) : Int) - 48)]) := by first | (rw [← hwx]; exact ho5) | exact ho5
                  have HP5 := Lib.hid (HP.out _ w5 v5 _ ho6 hg5 hat5)
                  obtain ⟨y5, p2⟩ := HP5.out.2.1
                  have p3 := HP5.out.2.2.1
                  have q1 := HP5.out.2.2.2.1
                  have q2 := HP5.out.2.2.2.2.1
                  have q3 := ((HStrW.out.stayX HSq.out.stay hgne).stay HP5.out.2.2.2.2.2).2 i x hx
                  obtain ⟨a6, c6, rfl⟩ := own_form ho5
                  clear ho5 ho6 hg5 hat5
                  refine hK.out _ _ ?_ (fun hNew => ?_)
                  · (try dsimp only); exact ⟨q1, q3⟩
                  clear hK K hHeld
                  have hHeld := hNew
                  clear hNew
                  refine (wpAnyH_take (i := 26) (v := ?_) rfl (by kernel_rfl) (by kernel_rfl) (by kernel_rfl) (fun _ _ _ h => h) (Or.inl ⟨by rfl, ?_⟩) (by assumption) ?_)
                  rotate_left 1
                  · (intro w hSw; (try dsimp only at hSw); (go_simp) <;> with_reducible rfl)
                  try simp only [Act.put, List.setIfInBounds_toArray]
                  refine wpAnyH_ready (rs := [27]) (by kernel_rfl) (by simp) ?_
                  refine AllReadyH.cons rfl (fun K hK => ?_) ?_
                  · go_simp
                    refine hK.out _ _ ?_ (fun hNew => ?_)
                    · (try dsimp only); exact ⟨(set_cell_ne _ _ _ _ _ _ hOg).trans q1, (set_cell_ne _ _ _ _ _ _ hgw2).trans q3⟩
                    clear hK K hHeld
                    have hHeld := hNew
                    clear hNew
                    refine wpAnyH_done (by kernel_rfl) ?_ _
                    have HPx := Lib.hid HP5.out.1
                    clear HP5 p2 p3 q1 q2 q3 y5 hHeld
                    go_wp2_with fail
                    exact ⟨⟨i + 1, by omega, by go_num, Lib.hid (by rw [lnW, HY.out, HGx.out]; unfold putW; rw [HAt.out, HAd.out, HW.out]; exact HPx.out.1), Lib.hid (HXq.out.trans HPx.out.2)⟩, by simp [intOf]; omega⟩
                  exact AllReadyH.nil
                exact AllReadyH.nil
              exact AllReadyH.nil
            exact AllReadyH.nil
        · obtain rfl : i = nw := by omega
          go_wp2_with fail
          exact ⟨⟨j + 1, r, by omega, rfl, Lib.hid (by rw [HZn.out]; exact ⟨HI.out.box, HI.out.bel, HX.out⟩)⟩, by simp [intOf]⟩
    | 0, hjq =>
      obtain rfl : j = h := by omega
      have hrs : prW atS ps j j = rS s := by rw [rS, HPs.out, HH.out]
      have HPl := prW_len atS ps j HNP.out.symm j (Nat.le_refl _)
      rw [Nat.sub_self, List.drop_zero] at HPl
      have hsum : ((ps.take j).map fun x => x.size + 1).sum ≤ 162 := by
        have h1 := pieces_tot s 10
        rw [HPs.out] at h1
        have h2 := sum_szs ps
        have e1 : (ps.map fun x => x.size + 1).sum = ((ps.take j).map fun x => x.size + 1).sum + ((ps.drop j).map fun x => x.size + 1).sum := by rw [← List.sum_append, ← List.map_append, List.take_append_drop]
        omega
      rw [hrs] at HS HPl
      obtain ⟨a, m, c, hbx, hmx, hox⟩ := HS.out.box
      have c0 := cell_of (i := 0) hbx rfl
      have c1 := cell_of (i := 1) hbx rfl
      have Zr := Lib.hid (Z3.out.below HS.out.bel hz2w)
      have HO := Lib.hid hox
      have HB6 := Lib.hid hbx
      have HMx := Lib.hid hmx
      have HGd := Lib.hid (l9Good_any (.agg #[.int .i64 (j : Int), .slice a m c]) (j : Int) (rS s) (by unfold maxLen; omega) (fun k l hl => by have := row_len hl; unfold maxLen; omega) wr ⟨_, rfl, hox.yl⟩)
      clear hrs hsum hbx hmx hox HPl
      cases hg : goodB (j : Int) (rS s) with
      | false =>
        have HOk : Hid (okI s = false) := Lib.hid (by
          cases ho : okI s with
          | false => rfl
          | true =>
            have h1 := (ok_parts ho).1
            rw [← ok_rows ho, HH.out, hg] at h1
            cases h1)
        rw [hg] at HGd
        clear hg
        go_wp2_with fail
        refine HGd.out.mono ?_
        rintro e w6 ⟨rfl, hb6⟩
        have Zq := Lib.hid (Zr.out.below hb6 (by omega))
        clear hb6 c0 c1
        have z0 := cell_of (i := 0) Zq.out.r rfl
        have z1 := cell_of (i := 1) Zq.out.r rfl
        have n0 := cell_of (i := 0) Zq.out.n rfl
        have n1 := cell_of (i := 1) Zq.out.n rfl
        have f0 := fun i => free_of (i := i) Zq.out.r
        obtain ⟨e7, e8⟩ := res_bay (.int .i64 0) (.slice none 0 0) z0 z1
        go_wp2_with fail
        refine bodyPost_ret (v := .tuple #[.agg #[.int .i64 0, .slice none 0 0], .bool false]) (by simp [results, Tryd.results5, go_sem, e7, e8]) rfl ?_
        exact zz_no Zq.out HOk.out
      | true =>
        have HTx := Lib.hid (fun W hb => l9Text_any (.agg #[.int .i64 (j : Int), .slice a m c]) j (rS s) hg W ⟨_, rfl, HO.out.yl.below hb⟩)
        rw [hg] at HGd
        by_cases ht : bs (textT (rS s) j j) = s
        · have ho : okI s = true := ok_of (by rw [HH.out]; exact hg) (by rw [HH.out]; exact ht)
          have HOk := Lib.hid (And.intro ho (And.intro (ok_yes ho).1 ((ok_yes ho).2.trans (ok_rows ho).symm)))
          rw [ht] at HTx
          clear hg ho ht
          go_wp2_with fail
          refine HGd.out.mono ?_
          rintro e w6 ⟨rfl, hb6⟩
          have HS6 := Lib.hid hb6
          have B6 := (hb6.block _ (Array.getElem?_eq_some_iff.1 HB6.out).1).trans HB6.out
          have d0 := cell_of (i := 0) B6 rfl
          have d1 := cell_of (i := 1) B6 rfl
          have HB7 := Lib.hid B6
          clear hb6 c0 c1 B6
          go_wp2_with fail
          refine (HTx.out _ HS6.out).mono ?_
          rintro e w7 ⟨rfl, hb7⟩
          have HS7 := Lib.hid (HS6.out.trans (hb7.mono HS6.out.size))
          have B7 := (hb7.block _ (Array.getElem?_eq_some_iff.1 HB7.out).1).trans HB7.out
          have d0 := cell_of (i := 0) B7 rfl
          have d1 := cell_of (i := 1) B7 rfl
          have Zq := Lib.hid (Zr.out.below HS7.out (by omega))
          have O7 := Lib.hid (HO.out.below HS7.out)
          clear hb7 B7
          have z0 := cell_of (i := 0) Zq.out.r rfl
          have z1 := cell_of (i := 1) Zq.out.r rfl
          have f0 := fun i => free_of (i := i) Zq.out.r
          obtain ⟨e7, e8⟩ := res_bay (.int .i64 (j : Int)) (.slice a m c) z0 z1
          go_wp2_with fail
          refine bodyPost_ret (v := .tuple #[.agg #[.int .i64 (j : Int), .slice a m c], .bool true]) (by simp [results, Tryd.results5, go_sem, e7, e8]) rfl ?_
          rw [HOk.out.1, HOk.out.2.1, HOk.out.2.2]
          refine ⟨a, c, by rw [HMx.out, HH.out], ?_, (Zq.out.bel.setCell (p := ⟨w.heap.size, 0, none⟩) (Nat.le_refl _) _).setCell (p := ⟨w.heap.size, 1, none⟩) (Nat.le_refl _) _⟩
          rw [HMx.out]
          have hSp : Span w.heap.size (w.heap.size + 1) w7 ((w7.setCell ⟨w.heap.size, 0, none⟩ (.int .i64 (j : Int))).setCell ⟨w.heap.size, 1, none⟩ (.slice a m c)) := (span_set (Nat.le_refl _) (Nat.lt_succ_self _) _).trans (span_set (Nat.le_refl _) (Nat.lt_succ_self _) _)
          exact (O7.out.span hSp (.inr (by omega))).mono (by omega) (by have := O7.out.1; simpa using this) (Nat.le_refl _)
        · have HOk : Hid (okI s = false) := Lib.hid (by
            cases ho : okI s with
            | false => rfl
            | true =>
              have h1 := (ok_parts ho).2
              rw [← ok_rows ho, HH.out] at h1
              exact absurd h1 ht)
          obtain ⟨tx, htx⟩ : ∃ tx, bs (textT (rS s) j j) = tx := ⟨_, rfl⟩
          rw [htx] at HTx ht
          have hne1 : (tx.toList == s.toList) = false := by
            rw [beq_eq_false_iff_ne, ByteArray.toList_eq, ByteArray.toList_eq]
            intro e
            exact ht (ByteArray.ext (Array.toList_inj.1 e))
          clear hg htx
          go_wp2_with fail
          refine HGd.out.mono ?_
          rintro e w6 ⟨rfl, hb6⟩
          have HS6 := Lib.hid hb6
          have B6 := (hb6.block _ (Array.getElem?_eq_some_iff.1 HB6.out).1).trans HB6.out
          have d0 := cell_of (i := 0) B6 rfl
          have d1 := cell_of (i := 1) B6 rfl
          clear hb6 c0 c1 B6
          go_wp2_with fail
          refine (HTx.out _ HS6.out).mono ?_
          rintro e w7 ⟨rfl, hb7⟩
          have Zq := Lib.hid (Zr.out.below (HS6.out.trans (hb7.mono HS6.out.size)) (by omega))
          clear hb7 d0 d1
          have z0 := cell_of (i := 0) Zq.out.r rfl
          have z1 := cell_of (i := 1) Zq.out.r rfl
          have n0 := cell_of (i := 0) Zq.out.n rfl
          have n1 := cell_of (i := 1) Zq.out.n rfl
          have f0 := fun i => free_of (i := i) Zq.out.r
          obtain ⟨e7, e8⟩ := res_bay (.int .i64 0) (.slice none 0 0) z0 z1
          go_wp2_with fail
          refine bodyPost_ret (v := .tuple #[.agg #[.int .i64 0, .slice none 0 0], .bool false]) (by simp [results, Tryd.results5, go_sem, e7, e8]) rfl ?_
          exact zz_no Zq.out HOk.out
end Go.Proofs.YtfbeoficgkkamaaDoor
