/-
  What spec.l10Shifted and spec.ShiftedBoxes return. No statement of the seat by itself.
-/
import Derived.Test.YtfbeoficgkkamaaMBox
import Derived.Deep.RegionHeldLaw
import Derived.Deep.CutRange
import Derived.Test.YtfbeoficgkkamaaEarI
import Derived.Test.YtfbeoficgkkamaaMZb
import Derived.Test.YtfbeoficgkkamaaBadP
import Derived.Test.YtfbeoficgkkamaaMAsk
namespace Go.Proofs.Ytfbeoficgkkamaa
open Go.RowKit

theorem infoB : (Try.prog.info? 84).map (fun i => (i.zero, i.size, i.bytes)) = some (some (.agg #[.int .i64 0, .slice none 0 0]), 2, 32) := by kernel_rfl
/-- make([]impl.stowedBox, n). -/
theorem make_boxes (n : Nat) (hn : n ≤ 1048576) (W : World) : ∃ W' xs, (Instr.makeSlice 79 (.int .i64 (n : Int)) (.int .i64 (n : Int))).run Try.prog W = .ok (.slice (some ⟨W.heap.size, 0, none⟩) n n) W' ∧
    W'.ownsRow W.heap.size 84 2 (.slice (some ⟨W.heap.size, 0, none⟩) n n) n xs ∧ Below W.heap.size W W' := by
  obtain ⟨i, hi, hz, hs, hb⟩ := info_is infoB
  obtain ⟨W', h1, h2, h3⟩ := run_make_full (P := Try.prog) W W.heap.size 79 84 i _ 2 Try.underlying79 hi hz hs .i64 .i64 n (by rw [hb]; omega) (by unfold maxLen; omega) (Nat.le_refl _)
  exact ⟨W', _, h1, h2, below_of_none h3⟩

/-- While the containers are told: the stowage's box, the bay's, the bay's rows, the containers. -/
structure StbS (w wr : World) (r h : Int) (v0 : Value) (D lo hi gb n : Nat) (vs : Value) (Y : List (List Int)) (xs : List Value) : Prop where
  box : Box3 wr w.heap.size r h v0
  bay : Box2 wr D h vs
  rows : OwnY wr lo hi vs Y
  own : wr.ownsRow gb 84 2 (.slice (some ⟨gb, 0, none⟩) n n) n xs
  bl : Below w.heap.size w wr
  o1 : w.heap.size < gb
  o2 : D < gb
  o3 : hi ≤ gb
/-- What a container's two cells say. -/
def FilB (P O : List Int) (wr : World) (xs : List Value) (i : Nat) : Prop := xs[i * 2]? = some (.int .i64 (P.getD i 0)) ∧ ∃ a m c, xs[i * 2 + 1]? = some (.slice a m c) ∧ TL wr (.slice a m c) (blZ P O i)
section
variable {w wr W : World} {r h : Int} {v0 vs : Value} {D lo hi gb n : Nat} {Y : List (List Int)} {xs : List Value} {P O : List Int}
theorem FilB.below {i : Nat} (f : FilB P O wr xs i) (hb : Below wr.heap.size wr W) : FilB P O W xs i := by
  obtain ⟨h1, a, m, c, h2, h3⟩ := f
  exact ⟨h1, a, m, c, h2, h3.below hb⟩
theorem StbS.below (S : StbS w wr r h v0 D lo hi gb n vs Y xs) (hb : Below wr.heap.size wr W) : StbS w W r h v0 D lo hi gb n vs Y xs :=
  ⟨S.box.below hb, S.bay.below hb, S.rows.below hb, row_below S.own hb, S.bl.trans (hb.mono S.bl.size), S.o1, S.o2, S.o3⟩
theorem StbS.cellB (S : StbS w wr r h v0 D lo hi gb n vs Y xs) {i : Nat} (hi2 : i < n * 2) : (∃ x, wr.cell? ⟨gb, i, none⟩ = some x) ∧ wr.frozen? ⟨gb, i, none⟩ = false := by
  refine ⟨?_, S.own.frozenAt i⟩
  have hl := S.own.1
  rw [S.own.cellAt i hi2]
  exact get_at rfl (by omega)
theorem StbS.type (S : StbS w wr r h v0 D lo hi gb n vs Y xs) : ∃ cs, wr.heap[gb]? = some (Obj.cells cs 84 (0, 0)) := by
  rcases S.own.2 with ⟨e, _⟩ | ⟨g, cap, cur, e, _, hb, _⟩
  · cases e
  · injection e with e1 e2 e3
    injection e1 with e1
    injection e1 with e1
    subst e1
    exact ⟨cur, hb⟩
theorem StbS.store (S : StbS w wr r h v0 D lo hi gb n vs Y xs) (i : Nat) (x u : Value) : StbS w ((wr.setCell ⟨gb, i * 2, none⟩ x).setCell ⟨gb, i * 2 + 1, none⟩ u) r h v0 D lo hi gb n vs Y ((xs.set (i * 2) x).set (i * 2 + 1) u) ∧
    ∀ (g : Nat) (cur : Array Value), wr.heap[g]? = some (Obj.cells cur 3 (0, 0)) → ((wr.setCell ⟨gb, i * 2, none⟩ x).setCell ⟨gb, i * 2 + 1, none⟩ u).heap[g]? = some (Obj.cells cur 3 (0, 0)) := by
  have s1 := (S.own.stored (i * 2) x).1
  have s2 := (s1.stored (i * 2 + 1) u).1
  have sp : Span gb (gb + 1) wr ((wr.setCell ⟨gb, i * 2, none⟩ x).setCell ⟨gb, i * 2 + 1, none⟩ u) := (span_set (Nat.le_refl _) (Nat.lt_succ_self _) x).trans (span_set (Nat.le_refl _) (Nat.lt_succ_self _) u)
  have o1 := S.o1
  have o2 := S.o2
  have o3 := S.o3
  refine ⟨⟨S.box.span sp (.inl o1), S.bay.span sp (.inl o2), S.rows.span sp (.inl o3), s2, (S.bl.setCell (p := ⟨gb, i * 2, none⟩) (by show w.heap.size ≤ gb; omega) _).setCell (p := ⟨gb, i * 2 + 1, none⟩) (by show w.heap.size ≤ gb; omega) _, o1, o2, o3⟩, fun g cur hg => ?_⟩
  have hne : g ≠ gb := fun e => by
    subst e
    obtain ⟨cs, hc⟩ := S.type
    rw [hc] at hg
    injection hg with hg
    injection hg with _ hg _
    revert hg
    decide
  exact (sp.block g (mem_lt hg) (by omega)).trans hg
theorem FilB.store {i : Nat} {x u : Value} (S : StbS w wr r h v0 D lo hi gb n vs Y xs) {k : Nat} (f : FilB P O wr xs k) (hk : k ≠ i) : FilB P O ((wr.setCell ⟨gb, i * 2, none⟩ x).setCell ⟨gb, i * 2 + 1, none⟩ u) ((xs.set (i * 2) x).set (i * 2 + 1) u) k := by
  obtain ⟨h1, a, m, c, h2, h3⟩ := f
  refine ⟨by rw [List.getElem?_set_ne (by omega), List.getElem?_set_ne (by omega)]; exact h1, a, m, c, by rw [List.getElem?_set_ne (by omega), List.getElem?_set_ne (by omega)]; exact h2, h3.keep (S.store i x u).2⟩
theorem FilB.new {i : Nat} {a : Option Addr} {m c : Nat} (S : StbS w wr r h v0 D lo hi gb n vs Y xs) (hi : i < n) (ht : TL wr (.slice a m c) (blZ P O i)) : FilB P O ((wr.setCell ⟨gb, i * 2, none⟩ (.int .i64 (P.getD i 0))).setCell ⟨gb, i * 2 + 1, none⟩ (.slice a m c)) ((xs.set (i * 2) (.int .i64 (P.getD i 0))).set (i * 2 + 1) (.slice a m c)) i := by
  have hl := S.own.1
  refine ⟨?_, a, m, c, ?_, ht.keep (S.store i _ _).2⟩
  · rw [List.getElem?_set_ne (by omega), List.getElem?_set_self (by omega)]
  · rw [List.getElem?_set_self (by rw [List.length_set]; omega)]
end
/-- What stowedBoxes answers. -/
def BoxP (w : World) (r h : Int) (P O : List Int) (e : Ending) (w' : World) : Prop := Below w.heap.size w w' ∧ ((okZ r h P O = false ∧ e = .returned (.tuple #[.slice none 0 0, .bool false])) ∨
  (okZ r h P O = true ∧ ∃ (g c : Nat) (fa : Nat → Option Addr) (fm fc : Nat → Nat), e = .returned (.tuple #[.slice (some ⟨g, 0, none⟩) O.length c, .bool true]) ∧ g < w'.heap.size ∧
    ∀ i, i < O.length → (w'.cell? ⟨g, 0 + i * 2, none⟩ = some (.int .i64 (P.getD i 0)) ∧ w'.cell? ⟨g, 0 + i * 2 + 1, none⟩ = some (.slice (fa i) (fm i) (fc i))) ∧ IL w' (.slice (fa i) (fm i) (fc i)) (blZ P O i)))
theorem boxP_of {w wr : World} {r h : Int} {v0 vs : Value} {D lo hi gb n : Nat} {Y : List (List Int)} {xs : List Value} {P O : List Int} (S : StbS w wr r h v0 D lo hi gb n vs Y xs) (hn : O.length = n) (hok : okZ r h P O = true) (hf : ∀ i, i < n → FilB P O wr xs i) :
    BoxP w r h P O (.returned (.tuple #[.slice (some ⟨gb, 0, none⟩) n n, .bool true])) wr := by
  have key : ∀ i : Nat, ∃ y : Option Addr × Nat × Nat, i < n → xs[i * 2]? = some (.int .i64 (P.getD i 0)) ∧ xs[i * 2 + 1]? = some (.slice y.1 y.2.1 y.2.2) ∧ TL wr (.slice y.1 y.2.1 y.2.2) (blZ P O i) := fun i => by
    by_cases hi : i < n
    · obtain ⟨h1, a, m, c, h2, h3⟩ := hf i hi
      exact ⟨(a, m, c), fun _ => ⟨h1, h2, h3⟩⟩
    · exact ⟨(none, 0, 0), fun h => absurd h hi⟩
  obtain ⟨f, hf2⟩ := Classical.axiomOfChoice key
  subst hn
  obtain ⟨cs, hc⟩ := S.type
  refine ⟨S.bl, .inr ⟨hok, gb, O.length, fun i => (f i).1, fun i => (f i).2.1, fun i => (f i).2.2, rfl, mem_lt hc, fun i hi => ?_⟩⟩
  obtain ⟨h1, h2, h3⟩ := hf2 i hi
  refine ⟨⟨?_, ?_⟩, h3.il⟩
  · rw [Nat.zero_add, S.own.cellAt (i * 2) (by omega), h1]
  · rw [Nat.zero_add, S.own.cellAt (i * 2 + 1) (by omega), h2]

set_option maxRecDepth 100000 in
set_option maxHeartbeats 16000000 in
theorem stowed_any (v vo : Value) (r h : Int) (P O : List Int) (hn : P.length ≤ 1048576) (hO : O.length ≤ 1048576) (w : World) (hv : StR w v r h P) (ho : IL w vo O) :
    Calls Try.prog 62 #[v, vo] w (BoxP w r h P O) := by
  obtain ⟨v0, rfl, hv⟩ := hv
  have BA := Lib.hid (Box3.new w r h v0 26)
  have B0 := Lib.hid (below_one w (.cells #[.int .i64 r, .int .i64 h, v0] 26))
  have HF := Lib.hid (implPb_any (.agg #[.int .i64 r, .int .i64 h, v0]) vo r h P O hn hO _ ⟨v0, rfl, hv.below B0.out⟩ (ho.below B0.out))
  have HV := Lib.hid hv
  have HI := Lib.hid ho
  obtain ⟨-, c0, c1, c2⟩ := BA.out
  obtain ⟨ao, co, rfl⟩ := ho.form
  obtain ⟨n, hnO⟩ : ∃ n, O.length = n := ⟨_, rfl⟩
  have HN := Lib.hid hnO
  rw [hnO] at hO HI HF ⊢
  clear hv ho hnO
  cases hg : okZ r h P O with
  | false =>
    have HX := Lib.hid (pb_no hg)
    have HZ := Lib.hid hg
    rw [hg, HX.out.1, HX.out.2] at HF
    clear hg
    go_enter Try.func62, Try.ntmps62
    go_wp2_with fail
    refine HF.out.mono ?_
    rintro e w1 ⟨a2, k2, rfl, ho2, hb⟩
    have B1 := Lib.hid (B0.out.trans (hb.mono B0.out.size))
    have B2 := Lib.hid (B1.out.trans ((below_one w1 (.cells #[.int .i64 0, .slice a2 0 k2] 37)).mono B1.out.size))
    clear hb ho2 c0 c1 c2
    simp only [List.length_nil]
    go_wp2_with fail
    go_ret2
    exact ⟨B2.out, .inl ⟨HZ.out, rfl⟩⟩
  | true =>
    have HX := Lib.hid (pb_yes hg)
    have HZ := Lib.hid hg
    obtain ⟨g1, g2, g3, g4, g5, g6, g7⟩ := okZ_get hg
    obtain ⟨q, rfl⟩ : ∃ q : Nat, r = (q : Int) := ⟨r.toNat, by omega⟩
    have hn7 : n ≤ 7 := by have := HN.out; omega
    have hp7 := g3
    have HPO := Lib.hid g4
    have HRg := Lib.hid g6
    have hq5 : q ≤ 5 := by omega
    rw [hg, HX.out.1, HX.out.2, HN.out, Int.toNat_natCast] at HF
    unfold RetB at HF
    rw [bayZ_len] at HF
    clear hg g1 g2 g3 g4 g5 g6 g7
    go_enter Try.func62, Try.ntmps62
    go_wp2_with fail
    refine HF.out.mono ?_
    rintro e w1 ⟨a2, k2, rfl, ho2, hb⟩
    have B1 := Lib.hid (B0.out.trans (hb.mono B0.out.size))
    have BA1 := Lib.hid (BA.out.below hb)
    have hsz0 := hb.size
    clear hb c0 c1 c2
    have hb2 := below_one w1 (.cells #[.int .i64 h, .slice a2 q k2] 37)
    have BA2 := Lib.hid (BA1.out.below hb2)
    have BD2 := Lib.hid (Box2.new w1 h (.slice a2 q k2) 37)
    have B2 := Lib.hid (B1.out.trans (hb2.mono B1.out.size))
    have O2 := Lib.hid (ho2.below hb2)
    have hs2 : (w1.alloc (.cells #[.int .i64 h, .slice a2 q k2] 37)).heap.size = w1.heap.size + 1 := by simp
    have HS2 := Lib.hid hs2
    obtain ⟨w2, xs0, hmk, how, hb3⟩ := make_boxes n hO (w1.alloc (.cells #[.int .i64 h, .slice a2 q k2] 37))
    rw [hs2] at hmk how
    have S0 : Hid (StbS w w2 (q : Int) h v0 w1.heap.size (w.alloc (.cells #[.int .i64 (q : Int), .int .i64 h, v0] 26)).heap.size w1.heap.size (w1.heap.size + 1) n (.slice a2 q k2) (bayZ q O n) xs0) :=
      Lib.hid ⟨BA2.out.below hb3, BD2.out.below hb3, O2.out.below hb3, how, B2.out.trans (hb3.mono B2.out.size), by have := BA1.out.1; omega, by omega, by omega⟩
    have j1 := (BD2.out.below hb3).2.2
    clear how hb2 ho2 hs2 hb3
    go_wp2_with fail
    go_loopw [28] (fun i wr => ∃ (j : Nat) (xs : List Value), j ≤ q ∧ i = .int .i64 j ∧ Hid (StbS w wr (q : Int) h v0 w1.heap.size (w.alloc (.cells #[.int .i64 (q : Int), .int .i64 h, v0] 26)).heap.size w1.heap.size (w1.heap.size + 1) n (.slice a2 q k2) (bayZ q O n) xs) ∧ Hid (∀ i, i < n → (O.getD i 0).toNat < j → FilB P O wr xs i)) (fun i _ => q - (intOf i).toNat)
    case atStart => exact ⟨0, xs0, Nat.zero_le _, rfl, S0, Lib.hid fun i _ h => by omega⟩
    case round =>
      clear j1 hmk
      obtain ⟨j, xs, hj, rfl, HS, HFi⟩ := hrel
      rename World => wr
      by_cases hlt : j < q
      · have hrow := bayZ_row (O := O) hlt n
        obtain ⟨g, cap, e⟩ := HS.out.rows.rows (by rw [bayZ_len]; omega)
        injection e with e1 e2 e3
        subst e1 e3
        obtain ⟨u, hu, -, hou, -⟩ := HS.out.rows.cell hrow
        obtain ⟨a4, c4, rfl⟩ := own_form hou
        obtain ⟨m, hm⟩ : ∃ m, (rowZ O n j).length = m := ⟨_, rfl⟩
        have HM := Lib.hid hm
        have hm7 := rowZ_len O j n
        obtain ⟨-, c0, c1, c2⟩ := HS.out.box
        have d1 := HS.out.bay.2.2
        have HPt := Lib.hid (portsOf_any (.agg #[.int .i64 (q : Int), .int .i64 h, v0]) (.slice a4 (rowZ O n j).length c4) (q : Int) h P (rowZ O n j) hp7 (by omega) (fun x hx => by
          obtain ⟨i, hi, -, rfl⟩ := rowZ_mem.1 hx
          have := HPO.out
          have := HN.out
          omega) wr ⟨_, rfl, HV.out.below HS.out.bl⟩ (il_of_owns hou))
        have HRow := Lib.hid (tl_of_owns hou)
        have hml : ((rowZ O n j).map (ptZ P)).length = m := by rw [List.length_map]; exact hm
        unfold NewN at HPt
        rw [hml, hm] at HPt
        rw [hm] at hu hm7 HRow
        clear hrow hou hm e2
        go_wp2_with fail
        refine HPt.out.mono ?_
        rintro e w3 ⟨gp, cp, rfl, hop, hb3⟩
        have S3 := Lib.hid (HS.out.below hb3)
        have HF3 : Hid (∀ i, i < n → (O.getD i 0).toNat < j → FilB P O w3 xs i) := Lib.hid fun i hi hij => (HFi.out i hi hij).below hb3
        have HT3 : Hid (TL w3 (.slice (some ⟨gp, 0, none⟩) m cp) ((rowZ O n j).map (ptZ P))) := Lib.hid (by rw [← hml] at hop ⊢; exact tl_of_owns hop)
        have HR3 := Lib.hid (HRow.out.below hb3)
        have hcap : m ≤ cp := by
          rcases hop.2 with ⟨e, _⟩ | ⟨g5, cap5, cur5, e, _, _, h5, _⟩
          · cases e
          · injection e with e1 e2 e3
            omega
        clear hb3 hop hu c0 c1 c2 d1
        go_wp2_with fail
        go_loopw [37] (fun kk wr => ∃ (t : Nat) (xs : List Value), t ≤ m ∧ kk = .int .i64 t ∧ Hid (StbS w wr (q : Int) h v0 w1.heap.size (w.alloc (.cells #[.int .i64 (q : Int), .int .i64 h, v0] 26)).heap.size w1.heap.size (w1.heap.size + 1) n (.slice (some ⟨g, 0, none⟩) q k2) (bayZ q O n) xs) ∧ Hid (∀ i, i < n → ((O.getD i 0).toNat < j ∨ ∃ t', t' < t ∧ (rowZ O n j).getD t' 0 = (i : Int) + 1) → FilB P O wr xs i) ∧ Hid (TL wr (.slice (some ⟨gp, 0, none⟩) m cp) ((rowZ O n j).map (ptZ P)) ∧ TL wr (.slice a4 m c4) (rowZ O n j))) (fun kk _ => m - (intOf kk).toNat)
        case atStart => exact ⟨0, xs, Nat.zero_le _, rfl, S3, Lib.hid fun i hi hh => by
          rcases hh with hh | ⟨t', h1, -⟩
          · exact HF3.out i hi hh
          · omega, Lib.hid ⟨HT3.out, HR3.out⟩⟩
        case round =>
          clear S3 HF3 HT3 HR3
          obtain ⟨t, ys, ht, rfl, HS2, HF2, HT2⟩ := hrel
          rename World => wq
          by_cases htm : t < m
          · have ht9 : t < (rowZ O n j).length := by rw [HM.out]; exact htm
            obtain ⟨i, hi, hij, hxe⟩ := rowZ_at ht9
            have hget := getDI2 ht9
            rw [hxe] at hget
            have hpg : ((rowZ O n j).map (ptZ P))[t]? = some (P.getD i 0) := by rw [List.getElem?_map, hget]; simp [ptZ_at]
            obtain ⟨ar, or, gr, hgr, r1⟩ : ∃ ar or gr, a4 = some ⟨gr, or, none⟩ ∧ (ar = gr ∧ wq.cell? ⟨gr, or + t, none⟩ = some (.int .i64 ((i : Int) + 1))) := by
              obtain ⟨a', c', e, hh⟩ := HT2.out.2.il
              injection e with e1 e2 e3
              subst e1
              obtain ⟨g5, off5, e5, -, hc5⟩ := hh (by omega)
              exact ⟨g5, off5, g5, e5, rfl, hc5 t _ hget⟩
            obtain ⟨rfl, r1⟩ := r1
            subst hgr
            have p1 : wq.cell? ⟨gp, t, none⟩ = some (.int .i64 (P.getD i 0)) := by
              obtain ⟨a', c', e, hh⟩ := HT2.out.1.il
              injection e with e1 e2 e3
              obtain ⟨g5, off5, e5, -, hc5⟩ := hh (by rw [List.length_map]; omega)
              rw [← e1] at e5
              injection e5 with e5
              injection e5 with e5 e6
              subst e5 e6
              have := hc5 t _ hpg
              rwa [Nat.zero_add] at this
            obtain ⟨⟨x0, y0⟩, z0⟩ := HS2.out.cellB (i := i * 2) (by omega)
            obtain ⟨⟨x1, y1⟩, z1⟩ := HS2.out.cellB (i := i * 2 + 1) (by omega)
            have hsb : (i : Int) + 1 - 1 = (i : Int) := by omega
            have hwi : IntKind.i64.wrap (i : Int) = (i : Int) := by rw [IntKind.wrap_i64]; omega
            have htc : t ≤ cp := by omega
            have hiI : (i : Int) < (n : Int) := by omega
            have hi9 : i ≤ 9 := by omega
            have HNew := Lib.hid (FilB.new (P := P) (O := O) HS2.out hi (a := some ⟨gp, 0, none⟩) (m := t) (c := cp) (by
              have e := tl_take (c' := cp) HT2.out.1 (by rw [List.length_map, HM.out]) (k := t) (by omega)
              rwa [blZ_at ht9 hxe] at e))
            have HSt := Lib.hid (HS2.out.store i (.int .i64 (P.getD i 0)) (.slice (some ⟨gp, 0, none⟩) t cp))
            have HOl := Lib.hid (fun k (hk : k ≠ i) f => FilB.store (P := P) (O := O) (x := .int .i64 (P.getD i 0)) (u := .slice (some ⟨gp, 0, none⟩) t cp) HS2.out (k := k) f hk)
            have HXE := Lib.hid hxe
            generalize P.getD i 0 = pv at *
            clear hget hpg ht9 hxe hij
            go_wp2_with fail
            go_region_law (fail)
            all_goals
              go_wp2_with fail
              go_roundw
              case rel => exact ⟨t + 1, _, by omega, by go_num, Lib.hid (HSt.out.1.below (Below.refl _ _).drew), Lib.hid (fun k hk hh => by
                by_cases e : k = i
                · subst e
                  exact HNew.out.below (Below.refl _ _).drew
                · refine FilB.below ?_ (Below.refl _ _).drew
                  refine HOl.out k e (HF2.out k hk ?_)
                  rcases hh with hh | ⟨t', h1, h2⟩
                  · exact .inl hh
                  · refine .inr ⟨t', ?_, h2⟩
                    by_cases e2 : t' = t
                    · subst e2
                      have := HXE.out
                      omega
                    · omega), Lib.hid ⟨(HT2.out.1.keep HSt.out.2).below (Below.refl _ _).drew, (HT2.out.2.keep HSt.out.2).below (Below.refl _ _).drew⟩⟩
              case measure => simp [intOf]; omega
          · obtain rfl : t = m := by omega
            have HNx : Hid (∀ i, i < n → (O.getD i 0).toNat < j + 1 → FilB P O wq ys i) := Lib.hid fun i hi hh => HF2.out i hi (by
              by_cases e : (O.getD i 0).toNat = j
              · obtain ⟨t', h1, h2⟩ := rowZ_find hi e
                exact .inr ⟨t', by rw [HM.out] at h1; exact h1, h2⟩
              · exact .inl (by omega))
            go_wp2_with fail
            go_roundw
            case rel => exact ⟨j + 1, ys, by omega, by go_num, HS2, HNx⟩
            case measure => simp [intOf]; omega
      · obtain rfl : j = q := by omega
        have HAll : Hid (∀ i, i < n → FilB P O wr xs i) := Lib.hid fun i hi => HFi.out i hi (by
          have := HRg.out (O.getD i 0) (by rw [List.getD, List.getElem?_eq_getElem (by rw [HN.out]; exact hi)]; exact List.getElem_mem _)
          omega)
        go_wp2_with fail
        go_ret2
        exact boxP_of HS.out HN.out HZ.out HAll.out

set_option maxRecDepth 100000 in
set_option maxHeartbeats 8000000 in
theorem numsb_any (F : Nat) (caps : Array Value) (hE : Enters Try.prog F) (a : Option Addr) (n c : Nat) (p : Nat → Bool) (fp : Nat → Int) (fa : Nat → Option Addr) (fm fc : Nat → Nat) (hl : n ≤ 1048576) (w : World)
    (h : 0 < n → ∃ g off, a = some ⟨g, off, none⟩ ∧ g < w.heap.size ∧ ∀ i, i < n → w.cell? ⟨g, off + i * 2, none⟩ = some (.int .i64 (fp i)) ∧ w.cell? ⟨g, off + i * 2 + 1, none⟩ = some (.slice (fa i) (fm i) (fc i)))
    (hF : ∀ (i : Nat) (W : World), i < n → Below w.heap.size w W → Calls Try.prog F (#[.agg #[.int .i64 (fp i), .slice (fa i) (fm i) (fc i)]] ++ caps) W fun e w' => e = .returned (.bool (p i)) ∧ Below W.heap.size W w') :
    Calls Try.prog 63 #[.slice a n c, .func (.func F) #[] caps] w (NewN w (numsW p n)) := by
  obtain ⟨f3, hi3, hz0, hz1, hz2⟩ := info_is info3
  have HF := Lib.hid hF
  have HC := Lib.hid h
  clear h hF
  have R0 := Lib.hid (numS_start w)
  go_enter Try.func63, Try.ntmps63
  go_wp2_with fail
  go_loopw [5, 11] (fun s i wr => ∃ k : Nat, k ≤ n ∧ i = .int .i64 k ∧ Hid (NumS w wr s (numsW p k))) (fun _ i _ => n - (intOf i).toNat)
  case atStart => exact ⟨0, Nat.zero_le _, rfl, R0⟩
  case round =>
    obtain ⟨k, hk, rfl, HR⟩ := hrel
    rename World => wr
    by_cases hlt : k < n
    · obtain ⟨g, off, rfl, hg, hcc⟩ := HC.out (by omega)
      have o1 := (HR.out.2.1.cell (p := ⟨g, off + k * 2, none⟩) hg).trans (hcc k hlt).1
      have o2 := (HR.out.2.1.cell (p := ⟨g, off + k * 2 + 1, none⟩) hg).trans (hcc k hlt).2
      have hba := below_one wr (.cells #[.int .i64 (fp k), .slice (fa k) (fm k) (fc k)] 84)
      have HE := Lib.hid (HF.out k (wr.alloc (.cells #[.int .i64 (fp k), .slice (fa k) (fm k) (fc k)] 84)) hlt (HR.out.2.1.trans (hba.mono HR.out.2.1.size)))
      have RA := Lib.hid (HR.out.below hba)
      have hbl := numsW_len p k
      clear hcc hba
      go_wp2_with fail
      rw [hE, Oper.upon_enter]
      refine HE.out.mono ?_
      rintro e w1 ⟨rfl, hb⟩
      have R1 := Lib.hid (RA.out.below hb)
      clear hb o1 o2
      cases hp : p k with
      | true =>
        have HT := Lib.hid (numsW_yes hp)
        have hrow := R1.out.1
        have hz := R1.out.2.1.size
        generalize numsW p k = S at *
        clear hp
        go_wp2_with (at_builtin; refine wpList_append_own _ rfl _ _ 24 rfl w.heap.size 3 f3 (.int .i64 0) 1 8 Try.underlying24 hi3 hz0 hz1 hz2 rfl (by decide) _ _ _ rfl (hrow.alloc _) ⟨w1.heap.size, 0, none⟩ 1 1 [.int .i64 ((k : Int) + 1)] rfl rfl (cell_one_new _ _ _) (by simp [Value.oneCell']) (by unfold maxLen; omega) (by omega) (by simp; omega) ?_; intro v' w4 hown' hgrow hnil)
        have HN4 : Hid (NumS w w4 v' (numsW p (k + 1))) := Lib.hid (by rw [HT.out]; exact R1.out.push hown' hgrow (fun e => by have := (hnil.1 e).2; omega))
        clear hown' hgrow hnil hrow
        exact ⟨⟨k + 1, by omega, by go_num, HN4⟩, by simp [intOf]; omega⟩
      | false =>
        have HT := Lib.hid (numsW_no hp)
        clear hp
        go_wp2_with fail
        exact ⟨⟨k + 1, by omega, by go_num, Lib.hid (by rw [HT.out]; exact R1.out)⟩, by simp [intOf]; omega⟩
    · obtain rfl : k = n := by omega
      go_wp2_with fail
      go_ret
      exact HR.out.done2

theorem enters_shift : Enters Try.prog 64 := enters_of Try.func64 (by kernel_rfl) rfl
set_option maxHeartbeats 2000000 in
theorem isShifted_any (x : Int) (u : Value) (l : List Int) (hl : l.length ≤ 1048576) (w : World) (h : IL w u l) : Calls Try.prog 64 #[.agg #[.int .i64 x, u]] w fun e w' => e = .returned (.bool (decide (earL l < x))) ∧ Below w.heap.size w w' := by
  have HB := Lib.hid (below_one w (.cells #[.int .i64 x, u] 84))
  have c0 := cell_of (i := 0) (heap_alloc_new w (.cells #[.int .i64 x, u] 84)) rfl
  have c1 := cell_of (i := 1) (heap_alloc_new w (.cells #[.int .i64 x, u] 84)) rfl
  have HE := Lib.hid (fun W (hb : Below w.heap.size w W) => earliestIn_any u l hl W (h.below hb))
  have D1 := Lib.hid HB.out.drew
  have E1 := Lib.hid (HE.out _ D1.out)
  clear h
  generalize earL l = z at *
  go_enter Try.func64, Try.ntmps64
  go_wp2_with fail
  go_quiet ((go_at_call 91; exact Calls.quiet_of_same ((HE.out _ (below_drewN HB.out _)).mono fun _ _ ⟨a, b⟩ => ⟨a, b.symm⟩)))
  go_wp2_with fail
  go_ret
  exact ⟨rfl, below_drewN HB.out _⟩

/-- The shifted containers. -/
def shR (r h : Int) (P O : List Int) : List Int := if okZ r h P O = true then numsW (shB P O) O.length else []
theorem shR_no {r h : Int} {P O : List Int} (g : okZ r h P O = false) : shR r h P O = [] := by simp [shR, g]
theorem shR_yes {r h : Int} {P O : List Int} (g : okZ r h P O = true) : shR r h P O = numsW (shB P O) O.length := by simp [shR, g]
theorem shR_len (r h : Int) (P O : List Int) : (shR r h P O).length ≤ 1048576 := by
  cases g : okZ r h P O with
  | false => rw [shR_no g]; simp
  | true =>
    rw [shR_yes g]
    obtain ⟨g1, g2, g3, g4, -, -, -⟩ := okZ_get g
    have := numsW_len (shB P O) O.length
    omega
theorem retL_num {w w1 w2 : World} {g c : Nat} {R : List Int} {ok : Bool} (ho : w2.ownsRow w1.heap.size 3 1 (.slice (some ⟨g, 0, none⟩) R.length c) R.length (intV R)) (hb : Below w1.heap.size w1 w2) (hb0 : Below w.heap.size w w1) : RetL w R ok (.returned (.tuple #[.slice (some ⟨g, 0, none⟩) R.length c, .bool ok])) w2 :=
  ⟨_, _, rfl, lo_of_own ho hb0.size, hb0.trans (hb.mono hb0.size)⟩

set_option maxRecDepth 100000 in
set_option maxHeartbeats 4000000 in
theorem implSh_any (v vo : Value) (r h : Int) (P O : List Int) (hn : P.length ≤ 1048576) (hO : O.length ≤ 1048576) (w : World) (hv : StR w v r h P) (ho : IL w vo O) :
    Calls Try.prog 20 #[v, vo] w (RetL w (shR r h P O) (okZ r h P O)) := by
  obtain ⟨v0, rfl, hv⟩ := hv
  have BA := Lib.hid (Box3.new w r h v0 26)
  have B0 := Lib.hid (below_one w (.cells #[.int .i64 r, .int .i64 h, v0] 26))
  have HF := Lib.hid (stowed_any (.agg #[.int .i64 r, .int .i64 h, v0]) vo r h P O hn hO _ ⟨v0, rfl, hv.below B0.out⟩ (ho.below B0.out))
  obtain ⟨-, c0, c1, c2⟩ := BA.out
  obtain ⟨ao, co, rfl⟩ := ho.form
  clear hv ho
  go_enter Try.func20, Try.ntmps20
  go_wp2_with fail
  refine HF.out.mono ?_
  rintro e w1 ⟨hb, ⟨hg, rfl⟩ | ⟨hg, g, c, fa, fm, fc, rfl, hlt, hcs⟩⟩
  · have B1 := Lib.hid (B0.out.trans (hb.mono B0.out.size))
    have HX := Lib.hid (And.intro (shR_no hg) hg)
    have HNW := Lib.hid (numsb_any 64 #[] enters_shift none 0 0 (fun _ => true) (fun _ => 0) (fun _ => none) (fun _ => 0) (fun _ => 0) (by decide) w1 (fun h => by omega) (fun i W hi => by omega))
    clear hb hg c0 c1 c2
    go_wp2_with fail
    refine HNW.out.mono ?_
    rintro e w2 ⟨g2, k2, rfl, ho2, hb2⟩
    have HRet := Lib.hid (retL_num (ok := false) ho2 hb2 B1.out)
    clear ho2 hb2
    go_wp2_with fail
    go_ret2
    rw [HX.out.1, HX.out.2]
    exact HRet.out
  · have B1 := Lib.hid (B0.out.trans (hb.mono B0.out.size))
    have HX := Lib.hid (And.intro (shR_yes hg) hg)
    obtain ⟨g1, g2, g3, g4, g5, -, -⟩ := okZ_get hg
    have HNW := Lib.hid (numsb_any 64 #[] enters_shift (some ⟨g, 0, none⟩) O.length c (shB P O) (fun i => P.getD i 0) fa fm fc hO w1 (fun _ => ⟨g, 0, rfl, hlt, fun i hi => (hcs i hi).1⟩) (fun i W hi hbW => by
      have h9 : P.getD i 0 ≤ 9 := by
        have := g5 (P.getD i 0) (by rw [List.getD, List.getElem?_eq_getElem (by omega)]; exact List.getElem_mem _)
        omega
      rw [shB_ear h9]
      exact isShifted_any _ _ _ (by have := blZ_len P O i; omega) W ((hcs i hi).2.below hbW)))
    generalize O.length = n at *
    clear hb hg c0 c1 c2 g1 g2 g3 g4 g5 hcs hlt
    go_wp2_with fail
    refine HNW.out.mono ?_
    rintro e w2 ⟨g2, k2, rfl, ho2, hb2⟩
    have HRet := Lib.hid (retL_num (ok := true) ho2 hb2 B1.out)
    clear ho2 hb2
    go_wp2_with fail
    go_ret2
    rw [HX.out.1, HX.out.2]
    exact HRet.out

set_option maxRecDepth 100000 in
set_option maxHeartbeats 4000000 in
theorem l1Put_in (g2 i cap : Nat) (L : List Int) (hl : L.length = i) (k0 : Nat) (s : Int) (hs : L[k0]? = some s) (ha : L.Pairwise (· < ·)) (hi : i ≤ 100) (w : World) (hc : ∀ j, j < i → w.cell? ⟨g2, j, none⟩ = some (.int .i64 (L.getD j 0))) :
    Calls Try.prog 78 #[.slice (some ⟨g2, 0, none⟩) i cap, .int .i64 s] w fun e w' => e = .returned (.slice (some ⟨g2, 0, none⟩) i cap) ∧ w = w' := by
  have hk0 := lt_of_get hs
  have HC := Lib.hid hc
  have HA : Hid (∀ k, k < k0 → L.getD k 0 < s) := Lib.hid fun k hk => by
    have e1 : L.getD k 0 = L[k]'(by omega) := by simp [List.getD, List.getElem?_eq_getElem (show k < L.length by omega)]
    have e2 : s = L[k0]'hk0 := by rw [List.getElem?_eq_getElem hk0] at hs; injection hs with hs; exact hs.symm
    rw [e1, e2]
    exact List.pairwise_iff_getElem.1 ha k k0 _ _ hk
  have HE : Hid (L.getD k0 0 = s) := Lib.hid (getDI hs)
  have hki : k0 < i := by omega
  clear hc ha hs
  go_enter Try.func78, Try.ntmps78
  go_wp2_with fail
  go_loop [5] (fun x => ∃ k : Nat, k ≤ k0 ∧ x = .int .i64 k) (fun x => i - (intOf x).toNat)
  case atStart => exact ⟨0, Nat.zero_le _, rfl⟩
  case round =>
    obtain ⟨k, hk, rfl⟩ := hrel
    have hck := HC.out k (by omega)
    have hkI : k < i := by omega
    by_cases hlt : k < k0
    · have hys := HA.out k hlt
      generalize L.getD k 0 = y at *
      go_wp2_with fail
      exact ⟨⟨k + 1, by omega, by go_num⟩, by simp [intOf]; omega⟩
    · obtain rfl : k = k0 := by omega
      rw [HE.out] at hck
      have hss : ¬ s < s := by omega
      have hse : (s == s) = true := by simp
      go_wp2_with fail
      go_ret
      exact ⟨rfl, rfl⟩

/-- A number put into an ascending list of some call's own. -/
theorem l1Put_all (B g2 i cap : Nat) (L : List Int) (hl : L.length = i) (hi : i ≤ 100) (ha : L.Pairwise (· < ·)) (s : Int) (w : World) (ho : w.ownsRow B 3 1 (.slice (some ⟨g2, 0, none⟩) i cap) i (intV L)) (hB : B ≤ w.heap.size) :
    Calls Try.prog 78 #[.slice (some ⟨g2, 0, none⟩) i cap, .int .i64 s] w fun e w' => ∃ g c, e = .returned (.slice (some ⟨g, 0, none⟩) (insU s L).length c) ∧ w'.ownsRow B 3 1 (.slice (some ⟨g, 0, none⟩) (insU s L).length c) (insU s L).length (intV (insU s L)) ∧ Below w.heap.size w w' := by
  have hc : ∀ j, j < i → w.cell? ⟨g2, j, none⟩ = some (.int .i64 (L.getD j 0)) := fun j hj => by
    rw [ho.cellAt j (by omega), getV_of (by omega)]
  have hg : g2 < w.heap.size := (ho.lt g2 rfl).2
  by_cases hm : s ∈ L
  · obtain ⟨k0, hk0⟩ := List.getElem?_of_mem hm
    rw [insU_in hm]
    refine (l1Put_in g2 i cap L hl k0 s hk0 ha hi w hc).mono ?_
    rintro e w' ⟨rfl, rfl⟩
    exact ⟨g2, cap, by rw [hl], by rw [hl]; exact ho, Below.refl _ _⟩
  · rw [insU_out hm]
    have hcap : i ≤ cap := by
      rcases ho.2 with ⟨e, _⟩ | ⟨g5, cap5, cur5, e, _, _, h5, _⟩
      · cases e
      · injection e with e1 e2 e3; omega
    refine (l1Put_any g2 i cap L hl hi hcap s hm w hc hg).mono ?_
    rintro e w' ⟨v, rfl, hv, hown, hb⟩
    obtain ⟨g, c, rfl⟩ := own_some hown hv
    exact ⟨g, c, rfl, hown.mono hB, hb⟩

/-- While the shifted ones are collected. -/
structure ShS (w wr : World) (r h : Int) (v0 : Value) (hh : Int) (vs sv : Value) (S : List Int) : Prop where
  own : wr.ownsRow (w.heap.size + 2) 3 1 sv S.length (intV S)
  a : Box3 wr w.heap.size r h v0
  b : Box2 wr (w.heap.size + 1) hh vs
  bl : Below w.heap.size w wr
  hlt : w.heap.size + 2 ≤ wr.heap.size
section
variable {w wr W : World} {r h : Int} {v0 : Value} {hh : Int} {vs sv : Value} {S : List Int}
theorem ShS.below (g : ShS w wr r h v0 hh vs sv S) (hb : Below wr.heap.size wr W) : ShS w W r h v0 hh vs sv S :=
  ⟨row_below g.own hb, g.a.below hb, g.b.below hb, g.bl.trans (hb.mono g.bl.size), Nat.le_trans g.hlt hb.size⟩
theorem ShS.put {sv' : Value} {S' : List Int} (g : ShS w wr r h v0 hh vs sv S) (hb : Below wr.heap.size wr W) (ho : W.ownsRow (w.heap.size + 2) 3 1 sv' S'.length (intV S')) : ShS w W r h v0 hh vs sv' S' :=
  ⟨ho, g.a.below hb, g.b.below hb, g.bl.trans (hb.mono g.bl.size), Nat.le_trans g.hlt hb.size⟩
theorem ShS.start (w : World) (r h : Int) (v0 : Value) (hh : Int) (vs : Value) : ShS w (((w.alloc (.cells #[.int .i64 r, .int .i64 h, v0] 26)).alloc (.cells #[.int .i64 hh, vs] 37)).alloc (.cells #[] 3)) r h v0 hh vs (.slice (some ⟨w.heap.size + 1 + 1, 0, none⟩) 0 0) [] := by
  have hb0 := below_one w (.cells #[.int .i64 r, .int .i64 h, v0] 26)
  have hb1 := below_one (w.alloc (.cells #[.int .i64 r, .int .i64 h, v0] 26)) (.cells #[.int .i64 hh, vs] 37)
  have hb2 := below_one ((w.alloc (.cells #[.int .i64 r, .int .i64 h, v0] 26)).alloc (.cells #[.int .i64 hh, vs] 37)) (.cells #[] 3)
  have hs : (w.alloc (.cells #[.int .i64 r, .int .i64 h, v0] 26)).heap.size = w.heap.size + 1 := by simp
  have hs2 : ((w.alloc (.cells #[.int .i64 r, .int .i64 h, v0] 26)).alloc (.cells #[.int .i64 hh, vs] 37)).heap.size = w.heap.size + 1 + 1 := by simp
  have ho := own_empty ((w.alloc (.cells #[.int .i64 r, .int .i64 h, v0] 26)).alloc (.cells #[.int .i64 hh, vs] 37)) (.cells #[] 3) 3 rfl
  have hB := Box2.new (w.alloc (.cells #[.int .i64 r, .int .i64 h, v0] 26)) hh vs 37
  rw [hs] at hB
  rw [hs2] at ho
  exact ⟨ho, ((Box3.new w r h v0 26).below hb1).below hb2, hB.below hb2, (hb0.trans (hb1.mono hb0.size)).trans (hb2.mono (Nat.le_trans hb0.size hb1.size)), by rw [← hs2]; exact hb2.size⟩
end
/-- What is collected stays small. -/
theorem sh_small {P : List Int} {Y : List (List Int)} (hY : ∀ j t, t < (Y.getD j []).length → 1 ≤ (Y.getD j []).getD t 0 ∧ (Y.getD j []).getD t 0 ≤ 7) {i k m : Nat} (hk : k < (Y.getD i []).length) : (shM P (Y.getD i []) k (shK P (Y.getD i []) (shI P Y i) k) m).length ≤ 7 := by
  have h := asc_len (lo := 1) (hi := 7) (shM_asc (P := P) (l := Y.getD i []) (k := k) (shK_asc (P := P) (l := Y.getD i []) (shI_asc P Y i) k) m) (fun x hx => by
    rcases (shM_mem m).1 hx with ⟨rfl, -⟩ | hx
    · exact hY i k hk
    · rcases (shK_mem k).1 hx with ⟨t, ht, rfl, -⟩ | hx
      · exact hY i t (by omega)
      · obtain ⟨j, -, t, ht, rfl, -⟩ := (shI_mem i).1 hx
        exact hY j t ht) (by omega)
  omega

set_option maxRecDepth 100000 in
set_option maxHeartbeats 16000000 in
theorem l10Shifted_any (v vb : Value) (r h hh : Int) (P : List Int) (Y : List (List Int)) (hn : P.length ≤ 7) (hY5 : Y.length ≤ 5) (hY : ∀ j t, t < (Y.getD j []).length → 1 ≤ (Y.getD j []).getD t 0 ∧ (Y.getD j []).getD t 0 ≤ (P.length : Int)) (hY7 : ∀ j, (Y.getD j []).length ≤ 7) (w : World) (hv : StR w v r h P) (hb : BdR w vb hh Y) :
    Calls Try.prog 66 #[v, vb] w (NewN w (shI P Y Y.length)) := by
  obtain ⟨v0, rfl, hv⟩ := hv
  obtain ⟨vs, rfl, hs⟩ := hb
  have C0 := Lib.hid (ShS.start w r h v0 hh vs)
  have HV := Lib.hid hv
  have HY := Lib.hid hs
  have HB7 := Lib.hid hY7
  have HR7 := Lib.hid hY
  have HSm := Lib.hid (fun (i k m : Nat) hk => sh_small (P := P) (Y := Y) (fun j t ht => ⟨(hY j t ht).1, by have := (hY j t ht).2; omega⟩) (i := i) (k := k) (m := m) hk)
  obtain ⟨p, hp⟩ : ∃ p, P.length = p := ⟨_, rfl⟩
  have HP := Lib.hid hp
  obtain ⟨ap, cp, rfl⟩ := hv.form
  obtain ⟨q, hq⟩ : ∃ q, Y.length = q := ⟨_, rfl⟩
  have HQ := Lib.hid hq
  obtain ⟨ay, cy, rfl⟩ := hs.form
  rw [hp] at HV C0 hn HR7
  rw [hq] at HY C0 hY5
  rw [hp, hq]
  have c2 := C0.out.b.2.2
  clear hv hs hp hq hY hY7
  go_enter Try.func66, Try.ntmps66
  go_wp2_with fail
  clear c2
  go_loopw [5, 6] (fun s ii wr => ∃ (i g c : Nat), i ≤ q ∧ ii = .int .i64 i ∧ s = .slice (some ⟨g, 0, none⟩) (shI P Y i).length c ∧ Hid (ShS w wr r h (.slice ap p cp) hh (.slice ay q cy) (.slice (some ⟨g, 0, none⟩) (shI P Y i).length c) (shI P Y i))) (fun _ ii _ => q - (intOf ii).toNat)
  case atStart => exact ⟨0, _, _, Nat.zero_le _, rfl, rfl, C0⟩
  case round =>
    obtain ⟨i, g1, k1, hi, rfl, rfl, HR⟩ := hrel
    rename World => wr
    have b1 := HR.out.b.2.2
    by_cases hlt : i < q
    · obtain ⟨l, hl⟩ := get_at HQ.out hlt
      have hgl := getD_of hl
      obtain ⟨gy, oy, rfl, hgy, hcy⟩ : ∃ g off, ay = some ⟨g, off, none⟩ ∧ g < w.heap.size ∧ ∀ j l, Y[j]? = some l → ∃ u, w.cell? ⟨g, off + j, none⟩ = some u ∧ IL w u l := by
        obtain ⟨a', c', e, hh⟩ := HY.out
        injection e with e1 e2 e3
        subst e1
        exact hh (by have := HQ.out; omega)
      obtain ⟨u, hu, hil⟩ := hcy i l hl
      obtain ⟨al, cl, rfl⟩ := hil.form
      obtain ⟨m, hm⟩ : ∃ m, l.length = m := ⟨_, rfl⟩
      have HM := Lib.hid hm
      have hm7 := HB7.out i
      rw [hgl] at hm7
      have HIL := Lib.hid hil
      rw [hm] at hu hm7 HIL
      have HU := Lib.hid (fun W (hb : Below w.heap.size w W) => (hb.cell (p := ⟨gy, oy + i, none⟩) hgy).trans hu)
      have HSh := Lib.hid (show shI P Y (i + 1) = shK P l (shI P Y i) m by rw [shI, hgl, hm])
      have HR8 := Lib.hid (HR7.out i)
      have HS8 := Lib.hid (HSm.out i)
      rw [hgl] at HR8 HS8
      rw [hm] at HR8 HS8
      clear hcy hil hu hm hgl hl
      go_wp2_with fail
      go_loopw [5, 7] (fun s kk wr => ∃ (k g c : Nat), k ≤ m ∧ kk = .int .i64 k ∧ s = .slice (some ⟨g, 0, none⟩) (shK P l (shI P Y i) k).length c ∧ Hid (ShS w wr r h (.slice ap p cp) hh (.slice (some ⟨gy, oy, none⟩) q cy) (.slice (some ⟨g, 0, none⟩) (shK P l (shI P Y i) k).length c) (shK P l (shI P Y i) k))) (fun _ kk _ => m - (intOf kk).toNat)
      case atStart => exact ⟨0, _, _, Nat.zero_le _, rfl, rfl, HR⟩
      case round =>
        clear b1
        obtain ⟨k, g2, k2, hk, rfl, rfl, HR2⟩ := hrel
        rename World => wq
        have b1 := HR2.out.b.2.2
        have u1 := HU.out wq HR2.out.bl
        by_cases hkm : k < m
        · have HSk := Lib.hid (show shK P l (shI P Y i) (k + 1) = shM P l k (shK P l (shI P Y i) k) k from rfl)
          obtain ⟨a5, c5, e5, hh5⟩ := HIL.out
          injection e5 with e1 e2 e3
          obtain ⟨gl, ol, e6, hgl, hcl⟩ := hh5 (by have := HM.out; omega)
          rw [← e1] at e6
          subst e6
          clear e1 e2 e3
          have hkl : k < l.length := by rw [HM.out]; exact hkm
          have hgk := getDI2 hkl
          obtain ⟨ka, hka, hkap⟩ : ∃ ka : Nat, l.getD k 0 = (ka : Int) + 1 ∧ ka < p := ⟨(l.getD k 0 - 1).toNat, by have := HR8.out k hkm; omega, by have := HR8.out k hkm; omega⟩
          rw [hka] at hgk
          have HK := Lib.hid (fun W (hb : Below w.heap.size w W) => (hb.cell (p := ⟨gl, ol + k, none⟩) hgl).trans (hcl k _ hgk))
          obtain ⟨gp, op, rfl, hgp, hcp⟩ : ∃ g off, ap = some ⟨g, off, none⟩ ∧ g < w.heap.size ∧ ∀ i x, P[i]? = some x → w.cell? ⟨g, off + i, none⟩ = some (.int .i64 x) := by
            obtain ⟨a', c', e, hh⟩ := HV.out
            injection e with e1 e2 e3
            subst e1
            exact hh (by have := HP.out; omega)
          obtain ⟨pk, hpk⟩ := get_at HP.out hkap
          have HPk := Lib.hid (fun W (hb : Below w.heap.size w W) => (hb.cell (p := ⟨gp, op + ka, none⟩) hgp).trans (hcp ka _ hpk))
          have HZk : Hid (ptZ P (l.getD k 0) = pk) := Lib.hid (by rw [hka, ptZ_at, List.getD, hpk]; rfl)
          have hsk : IntKind.i64.wrap ((ka : Int) + 1 - 1) = (ka : Int) := by rw [IntKind.wrap_i64]; omega
          have hsk2 : (ka : Int) + 1 - 1 = (ka : Int) := by omega
          have HKA := Lib.hid hka
          have hSl0 := HS8.out k k hkm
          clear hgk hpk hkl hka
          go_wp2_with fail
          go_loopw [5, 8] (fun s tt wr => ∃ (t g c : Nat), t ≤ k ∧ tt = .int .i64 t ∧ s = .slice (some ⟨g, 0, none⟩) (shM P l k (shK P l (shI P Y i) k) t).length c ∧ Hid (ShS w wr r h (.slice (some ⟨gp, op, none⟩) p cp) hh (.slice (some ⟨gy, oy, none⟩) q cy) (.slice (some ⟨g, 0, none⟩) (shM P l k (shK P l (shI P Y i) k) t).length c) (shM P l k (shK P l (shI P Y i) k) t))) (fun _ tt _ => k - (intOf tt).toNat)
          case atStart => exact ⟨0, _, _, Nat.zero_le _, rfl, rfl, HR2⟩
          case round =>
            clear b1 u1
            obtain ⟨t, g3, k3, ht, rfl, rfl, HR3⟩ := hrel
            rename World => wt
            by_cases htk : t < k
            · have htl : t < l.length := by rw [HM.out]; omega
              have hgt := getDI2 htl
              obtain ⟨ta, hta, htap⟩ : ∃ ta : Nat, l.getD t 0 = (ta : Int) + 1 ∧ ta < p := ⟨(l.getD t 0 - 1).toNat, by have := HR8.out t (by omega); omega, by have := HR8.out t (by omega); omega⟩
              rw [hta] at hgt
              obtain ⟨pt, hpt⟩ := get_at HP.out htap
              have b1 := HR3.out.b.2.2
              have s2 := HR3.out.a.2.2.2
              have u1 := HU.out wt HR3.out.bl
              have n1 := HK.out wt HR3.out.bl
              have n2 := (HR3.out.bl.cell (p := ⟨gl, ol + t, none⟩) hgl).trans (hcl t _ hgt)
              have n3 := HPk.out wt HR3.out.bl
              have n4 := (HR3.out.bl.cell (p := ⟨gp, op + ta, none⟩) hgp).trans (hcp ta _ hpt)
              have HZt : Hid (ptZ P (l.getD t 0) = pt) := Lib.hid (by rw [hta, ptZ_at, List.getD, hpt]; rfl)
              have hst : IntKind.i64.wrap ((ta : Int) + 1 - 1) = (ta : Int) := by rw [IntKind.wrap_i64]; omega
              have hst2 : (ta : Int) + 1 - 1 = (ta : Int) := by omega
              have hSl := HS8.out k t hkm
              have HSh3 := Lib.hid (show shM P l k (shK P l (shI P Y i) k) (t + 1) = if ptZ P (l.getD t 0) < ptZ P (l.getD k 0) then insU (l.getD k 0) (shM P l k (shK P l (shI P Y i) k) t) else shM P l k (shK P l (shI P Y i) k) t from rfl)
              rw [HZk.out, HZt.out, HKA.out] at HSh3
              have HAsc := Lib.hid (shM_asc (P := P) (l := l) (k := k) (shK_asc (P := P) (l := l) (shI_asc P Y i) k) t)
              clear hgt hpt htl hta
              by_cases hlp : pt < pk
              · rw [if_pos hlp] at HSh3
                generalize shM P l k (shK P l (shI P Y i) k) t = ST at *
                have HPut := Lib.hid (fun W (hb : Below wt.heap.size wt W) => l1Put_all (w.heap.size + 2) g3 ST.length k3 ST rfl (by omega) HAsc.out ((ka : Int) + 1) W (row_below HR3.out.own hb) (Nat.le_trans HR3.out.hlt hb.size))
                generalize ST.length = nst at *
                go_wp2_with fail
                go_quiet (fail)
                have HBN : Hid (Below wt.heap.size wt (wt.drewN nq)) := Lib.hid (below_drewN (Below.refl _ _) nq)
                clear b1 s2 u1 n1 n2 n3 n4
                generalize wt.drewN nq = W9 at *
                have R9 := Lib.hid (HR3.out.below HBN.out)
                have b1 := R9.out.b.2.2
                have u1 := HU.out W9 R9.out.bl
                have n1 := HK.out W9 R9.out.bl
                go_wp2_with fail
                refine (HPut.out W9 HBN.out).mono ?_
                rintro e w5 ⟨g5, k5, rfl, ho5, hb5⟩
                have R5 := Lib.hid (R9.out.put hb5 ho5)
                clear ho5 hb5 b1 u1 n1
                rw [← HSh3.out] at R5 ⊢
                go_wp2_with fail
                go_roundw
                case rel => exact ⟨t + 1, _, _, by omega, by go_num, rfl, R5⟩
                case measure => simp [intOf]; omega
              · rw [if_neg hlp] at HSh3
                have HRx := HR3
                rw [← HSh3.out] at HRx
                have HRy := Lib.hid (fun q => HRx.out.below (below_drewN (Below.refl _ wt) q))
                rw [← HSh3.out]
                go_wp2_with fail
                go_quiet (fail)
                go_wp2_with fail
                go_roundw
                case rel => exact ⟨t + 1, _, _, by omega, by go_num, rfl, Lib.hid (HRy.out _)⟩
                case measure => simp [intOf]; omega
            · obtain rfl : t = k := by omega
              rw [← HSk.out] at HR3 ⊢
              go_wp2_with fail
              go_roundw
              case rel => exact ⟨t + 1, _, _, by omega, by go_num, rfl, HR3⟩
              case measure => simp [intOf]; omega
        · obtain rfl : k = m := by omega
          rw [← HSh.out] at HR2 ⊢
          go_wp2_with fail
          go_roundw
          case rel => exact ⟨i + 1, _, _, by omega, by go_num, rfl, HR2⟩
          case measure => simp [intOf]; omega
    · obtain rfl : i = q := by omega
      go_wp2_with fail
      go_ret
      exact ⟨_, _, rfl, HR.out.own.mono (by omega), HR.out.bl⟩

theorem bayZ_bounds {q : Nat} {O : List Int} {n : Nat} (hn : n ≤ 7) : (∀ j t, t < ((bayZ q O n).getD j []).length → 1 ≤ ((bayZ q O n).getD j []).getD t 0 ∧ ((bayZ q O n).getD j []).getD t 0 ≤ (n : Int)) ∧ ∀ j, ((bayZ q O n).getD j []).length ≤ 7 := by
  have key : ∀ j, (bayZ q O n).getD j [] = rowZ O n j ∨ (bayZ q O n).getD j [] = [] := fun j => by
    rcases Nat.lt_or_ge j q with h | h
    · exact .inl (bayZ_getD h n)
    · refine .inr ?_
      rw [List.getD, List.getElem?_eq_none (by rw [bayZ_len]; exact h)]
      rfl
  refine ⟨fun j t ht => ?_, fun j => ?_⟩
  · rcases key j with e | e
    · rw [e] at ht ⊢
      obtain ⟨i, h1, -, h3⟩ := rowZ_at ht
      rw [h3]
      omega
    · rw [e] at ht
      simp at ht
  · rcases key j with e | e
    · rw [e]
      exact Nat.le_trans (rowZ_len O j n) hn
    · rw [e]; simp

set_option maxRecDepth 100000 in
set_option maxHeartbeats 8000000 in
theorem specSh_any (v vo : Value) (r h : Int) (P O : List Int) (hn : P.length ≤ 1048576) (hO : O.length ≤ 1048576) (w : World) (hv : StR w v r h P) (ho : IL w vo O) :
    Calls Try.prog 21 #[v, vo] w (RetL w (shR r h P O) (okZ r h P O)) := by
  obtain ⟨v0, rfl, hv⟩ := hv
  have BA := Lib.hid (Box3.new w r h v0 26)
  have B0 := Lib.hid (below_one w (.cells #[.int .i64 r, .int .i64 h, v0] 26))
  have HF := Lib.hid (l10Asked_any (.agg #[.int .i64 r, .int .i64 h, v0]) vo r h P O hn hO _ ⟨v0, rfl, hv.below B0.out⟩ (ho.below B0.out))
  have HV := Lib.hid hv
  have HI := Lib.hid ho
  obtain ⟨-, c0, c1, c2⟩ := BA.out
  obtain ⟨ao, co, rfl⟩ := ho.form
  obtain ⟨n, hnO⟩ : ∃ n, O.length = n := ⟨_, rfl⟩
  have HN := Lib.hid hnO
  rw [hnO] at hO HI HF ⊢
  clear hv ho hnO
  cases hg : okZ r h P O with
  | false =>
    have HX := Lib.hid (And.intro (shR_no hg) hg)
    rw [hg] at HF
    clear hg
    go_enter Try.func21, Try.ntmps21
    go_wp2_with fail
    refine HF.out.mono ?_
    rintro e w1 ⟨rfl, hb⟩
    have B1 := Lib.hid (B0.out.trans (hb.mono B0.out.size))
    have HRet := Lib.hid (retL_num (w := w) (w1 := w1) (ok := false) (R := []) (c := 0) (by have := own_empty w1 (.cells #[] 3) 3 rfl; simpa [intV] using this) (below_one w1 (.cells #[] 3)) B1.out)
    clear hb c0 c1 c2
    go_wp2_with fail
    go_ret2
    rw [HX.out.1]
    exact HRet.out
  | true =>
    have HX := Lib.hid (And.intro (shR_yes hg) hg)
    obtain ⟨g1, g2, g3, g4, g5, g6, g7⟩ := okZ_get hg
    obtain ⟨q, rfl⟩ : ∃ q : Nat, r = (q : Int) := ⟨r.toNat, by omega⟩
    rw [hg] at HF
    have hn7 : n ≤ 7 := by have := HN.out; omega
    have HBy := Lib.hid (fun W (hb : Below w.heap.size w W) => l10Bay_any (.agg #[.int .i64 (q : Int), .int .i64 h, v0]) (.slice ao n co) q h P O (by omega) (by omega) (by omega) g6 W ⟨_, rfl, HV.out.below hb⟩ (HI.out.below hb))
    have HSf := Lib.hid (fun (a : Option Addr) (c : Nat) W (hb : Below w.heap.size w W) (hy : YL W (.slice a (bayZ q O n).length c) (bayZ q O n)) => l10Shifted_any (.agg #[.int .i64 (q : Int), .int .i64 h, v0]) (.agg #[.int .i64 h, .slice a (bayZ q O n).length c]) (q : Int) h h P (bayZ q O n) g3 (by rw [bayZ_len]; omega) (by
      have := (bayZ_bounds (q := q) (O := O) hn7).1
      intro j t ht
      have h1 := this j t ht
      have h2 := HN.out
      omega) (bayZ_bounds (q := q) (O := O) hn7).2 W ⟨_, rfl, HV.out.below hb⟩ ⟨_, rfl, hy⟩)
    have HEq := Lib.hid (shI_eq (P := P) (O := O) (n := n) (r := q) (fun i hi => by
      have := g6 (O.getD i 0) (by rw [List.getD, List.getElem?_eq_getElem (by rw [HN.out]; exact hi)]; exact List.getElem_mem _)
      omega))
    unfold NewBd at HBy
    unfold NewN at HSf
    rw [HN.out] at HBy HX
    rw [bayZ_len] at HBy HSf
    rw [HEq.out] at HSf
    generalize numsW (shB P O) n = R at *
    generalize hRl : R.length = nr at *
    clear hg g1 g2 g3 g4 g5 g6 g7 HEq
    go_enter Try.func21, Try.ntmps21
    go_wp2_with fail
    refine HF.out.mono ?_
    rintro e w1 ⟨rfl, hb⟩
    have B1 := Lib.hid ((B0.out.trans (hb.mono B0.out.size)).drew)
    have BA1 := Lib.hid ((BA.out.below hb).below (Below.refl _ w1).drew)
    obtain ⟨-, k0, k1, k2⟩ := BA.out.below hb
    have HB1 := Lib.hid (HBy.out _ B1.out)
    clear hb c0 c1 c2
    go_wp2_with fail
    go_region_law (first | (go_simp; go_at_call 67; refine HB1.out.mono ?_; rintro e w2 ⟨a2, c2, rfl, ho2, hb2⟩; obtain ⟨-, j0, j1, j2⟩ := BA1.out.below hb2; have B2 := Lib.hid (B1.out.trans (hb2.mono B1.out.size)); have HSf2 := Lib.hid (HSf.out a2 c2 w2 B2.out ho2.yl); clear ho2 hb2) | (go_simp; go_at_call 66; refine HSf2.out.mono ?_; rintro e w3 ⟨g3, c3, rfl, ho3, hb3⟩; have O3 := Lib.hid ho3; have B3 := Lib.hid hb3; clear ho3 hb3))
    all_goals
      go_wp2_with fail
      go_ret2
      rw [HX.out.1]
      subst hRl
      exact retL_num O3.out B3.out B2.out
end Go.Proofs.Ytfbeoficgkkamaa
