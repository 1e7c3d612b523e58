/-
  What impl.ParseBay returns. No statement of the seat by itself.
-/
import Derived.Test.YtfbeoficgkkamaaDoorPbI
import Derived.Test.YtfbeoficgkkamaaDoorSBack
import Derived.Test.YtfbeoficgkkamaaDoorHDTxtI
import Derived.Test.YtfbeoficgkkamaaDoorHRet
namespace Go.Proofs.YtfbeoficgkkamaaDoor
open Go.RowKit Go.Shelf
attribute [local go_sem] Oper.semAt_some

def hI (s : ByteArray) : Nat := (pieces s 10).length - 1
def rI (s : ByteArray) : List (List Int) := prW atN (pieces s 10) (hI s) (hI s)
/-- Whether a text is a bay's. -/
def okI (s : ByteArray) : Bool := goodB (hI s : Int) (rI s) && decide (btx (hI s : Int) (rI s) = s)
def bH (s : ByteArray) : Int := if okI s = true then (hI s : Int) else 0
def bY (s : ByteArray) : List (List Int) := if okI s = true then rI s else []
theorem ok_no {s : ByteArray} (h : okI s = false) : bH s = 0 ∧ bY s = [] := by simp [bH, bY, h]
theorem ok_yes {s : ByteArray} (h : okI s = true) : bH s = (hI s : Int) ∧ bY s = rI s := by simp [bH, bY, h]
theorem pst_tot (s : ByteArray) (c : UInt8) : ∀ k, k ≤ s.size → ((pst s c k).1.map ByteArray.size).sum + (pst s c k).1.length = (pst s c k).2
  | 0, _ => by simp [pst]
  | k + 1, h => by
    have ih := pst_tot s c k (by omega)
    have hl := pst_le s c k
    rw [pst, dif_pos (by omega)]
    split
    · simp only [List.map_append, List.map_cons, List.map_nil, List.sum_append, List.sum_cons, List.sum_nil, List.length_append, List.length_cons, List.length_nil, ByteArray.size_extract]
      omega
    · exact ih
theorem pieces_tot (s : ByteArray) (c : UInt8) : ((pieces s c).map ByteArray.size).sum + (pieces s c).length = s.size + 1 := by
  have h := pst_tot s c s.size (Nat.le_refl _)
  have hl := pst_le s c s.size
  unfold pieces
  simp only [List.map_append, List.map_cons, List.map_nil, List.sum_append, List.sum_cons, List.sum_nil, List.length_append, List.length_cons, List.length_nil, ByteArray.size_extract]
  omega
theorem sum_szs : ∀ l : List ByteArray, (l.map fun x => x.size + 1).sum = (l.map ByteArray.size).sum + l.length
  | [] => rfl
  | x :: l => by simp only [List.map_cons, List.sum_cons, List.length_cons, sum_szs l]; omega
theorem prW_len (f : ByteArray → Option Int) (ls : List ByteArray) (h : Nat) (hh : h + 1 = ls.length) : ∀ k, k ≤ h → (prW f ls h k).length ≤ (((ls.take h).drop (h - k)).map fun x => x.size + 1).sum ∧ tot (prW f ls h k) ≤ (((ls.take h).drop (h - k)).map fun x => x.size + 1).sum
  | 0, _ => by simp [prW, tot]
  | k + 1, hk => by
    obtain ⟨h1, h2⟩ := prW_len f ls h hh k (by omega)
    obtain ⟨x, hx⟩ := get_at (Y := ls) (k := h - 1 - k) hh.symm (by omega)
    have e : (ls.take h).drop (h - (k + 1)) = x :: (ls.take h).drop (h - k) := by
      have hl : h - (k + 1) < (ls.take h).length := by simp; omega
      rw [List.drop_eq_getElem_cons hl, show h - (k + 1) + 1 = h - k by omega]
      congr 1
      have : (ls.take h)[h - (k + 1)]? = some x := by rw [List.getElem?_take_of_lt (by omega), show h - (k + 1) = h - 1 - k by omega]; exact hx
      exact Option.some.inj ((List.getElem?_eq_getElem hl).symm.trans this)
    have hg : ls.getD (h - 1 - k) (bs []) = x := by rw [List.getD_eq_getElem?_getD, hx]; rfl
    have hp := pieces_size x 32
    have hn := lnW_len f (pieces x 32) (prW f ls h k) (pieces x 32).length
    rw [e, prW, hg, List.map_cons, List.sum_cons]
    omega
theorem rI_len (s : ByteArray) : (rI s).length ≤ s.size + 1 ∧ tot (rI s) ≤ s.size + 1 := by
  have hp := pieces_pos s 10
  obtain ⟨h1, h2⟩ := prW_len atN (pieces s 10) (hI s) (by unfold hI; omega) (hI s) (Nat.le_refl _)
  rw [Nat.sub_self, List.drop_zero] at h1 h2
  have ht := pieces_tot s 10
  have e : ((pieces s 10).map fun x => x.size + 1).sum = (((pieces s 10).take (hI s)).map fun x => x.size + 1).sum + (((pieces s 10).drop (hI s)).map fun x => x.size + 1).sum := by
    rw [← List.sum_append, ← List.map_append, List.take_append_drop]
  have e2 := sum_szs (pieces s 10)
  unfold rI
  omega
theorem lines_pr (s : ByteArray) (hs : s.size ≤ 4000) : ∀ k, k ≤ hI s → linesF (bkS ((pieces s 10).take (hI s)) k) = prW atN (pieces s 10) (hI s) k
  | 0, _ => by simp [bkS, linesF, prW]
  | k + 1, hk => by
    have hp := pieces_pos s 10
    have hl : ((pieces s 10).take (hI s)).length = hI s := by rw [List.length_take]; unfold hI; omega
    obtain ⟨x, hx⟩ := get_at (Y := (pieces s 10).take (hI s)) (k := hI s - 1 - k) hl (by omega)
    have hx2 : (pieces s 10)[hI s - 1 - k]? = some x := by rw [List.getElem?_take_of_lt (by omega)] at hx; exact hx
    rw [bk_succS (r := hI s - 1 - k) (x := x) (by rw [hl]; omega) hx, linesF_snoc, lines_pr s hs k (by omega), prW]
    have hg : (pieces s 10).getD (hI s - 1 - k) (bs []) = x := by rw [List.getD_eq_getElem?_getD, hx2]; rfl
    rw [hg]
    unfold lineF
    have hx4 : x.size ≤ 4000 := by have := pieces_sz s 10 x (List.mem_of_getElem? hx2); omega
    exact if_pos hx4
theorem OwnY.keptN {X Y : World} {B : Nat} {v : Value} {Z : List (List Int)} {row : Option Nat} (h : OwnY X B X.heap.size v Z) (hg : X.grownBy Y row) (hr : ∀ r, row = some r → ∃ o : Obj, X.heap[r]? = some o ∧ o.isCells = false) : OwnY Y B Y.heap.size v Z := by
  obtain ⟨h1, h2, us, h3, h4, h5, h6⟩ := h
  have key : ∀ (e n : Nat) (x : Value) (xs : List Value), X.ownsRow B e 1 x n xs → Y.ownsRow B e 1 x n xs := fun e n x xs hx => hx.kept hg (by
    cases hb : x.ownBlock with
    | none => exact .inl rfl
    | some b =>
      refine .inr fun e2 => ?_
      obtain ⟨cs, hc⟩ := own_type hx hb
      obtain ⟨o, ho, hn⟩ := hr b e2.symm
      rw [hc] at ho
      cases ho
      cases hn)
  exact ⟨Nat.le_refl _, fun b hb => Nat.lt_of_lt_of_le (h2 b hb) hg.size, us, key _ _ _ _ h3, h4, fun j u l hu hl => ⟨key _ _ _ _ (h5 j u l hu hl).1, fun b hb => Nat.lt_of_lt_of_le ((h5 j u l hu hl).2 b hb) hg.size⟩, h6⟩
/-- The bay's box, while its rows grow. -/
def BoxS (bb B h : Nat) (Z : List (List Int)) (W : World) : Prop := ∃ a m c, W.heap[bb]? = some (.cells #[.int .i64 (h : Int), .slice a m c] 24 (0, 0)) ∧ Z.length = m ∧ OwnY W B W.heap.size (.slice a m c) Z
theorem boxS_own (bb B h : Nat) : Own (fun (pre : List (Int × ByteArray)) W => BoxS bb B h (linesF pre) W) := by
  rintro s X Y row ⟨a, m, c, hb, hm, ho⟩ hg hrow
  refine ⟨a, m, c, (hg.block bb (Array.getElem?_eq_some_iff.1 hb).1 (fun e => ?_)).trans hb, hm, ho.keptN hg hrow⟩
  obtain ⟨o, ho2, hc⟩ := hrow bb e.symm
  rw [hb] at ho2
  cases ho2
  cases hc

set_option maxRecDepth 100000 in
set_option maxHeartbeats 8000000 in
theorem implPr_any (s : ByteArray) (hs : s.size ≤ 4000) (w : World) (hE : ErrVars w) :
    Calls Tryd.prog 6 #[.string s] w (RetB w (bH s) (bY s) (okI s)) := by
  have H0 := Lib.hid (below_one w (.cells #[.int .i64 0, .slice none 0 0] 24))
  have K0 := Lib.hid (heap_alloc_new w (.cells #[.int .i64 0, .slice none 0 0] 24))
  have HSp := Lib.hid (fun W => split_any s 10 hs W)
  obtain ⟨ps, hps⟩ : ∃ ps, pieces s 10 = ps := ⟨_, rfl⟩
  have HPs := Lib.hid hps
  have HPp := Lib.hid (pieces_pos s 10)
  obtain ⟨h, hh⟩ : ∃ h, hI s = h := ⟨_, rfl⟩
  have HH := Lib.hid hh
  have hnp : ps.length = h + 1 := by have := HPp.out; rw [hps] at this; rw [← hh, hI, hps]; omega
  have HNP := Lib.hid hnp
  have h4 : h ≤ 4001 := by have := pieces_size s 10; rw [hps] at this; omega
  rw [hps] at HSp HPp
  have HE := Lib.hid (fun W (hb : Below w.heap.size w W) => hE.below hb)
  clear hE hps hh hnp
  refine (callsIn_wide (n := 3)).1 ?_
  refine callsIn_of_wp_marks Tryd.func6 rfl trivial ?_ rfl
  simp only [Tryd.ntmps6, List.size_toArray, List.length_cons, List.length_nil, Nat.reduceAdd, Nat.reduceSub, Array.replicate_succ, Array.replicate_zero, List.push_toArray, List.append_toArray, List.nil_append, List.cons_append]
  gi_wp2_with fail
  generalize w.alloc (.cells #[.int .i64 0, .slice none 0 0] 24) = w0 at *
  refine ⟨trivial, ?_⟩
  refine (callsIn_wide.2 (HSp.out w0)).mono ?_
  rintro e w1 ⟨vs, rfl, hrow, hb⟩
  obtain ⟨gs, cs, rfl, hgB, hnc, hstr⟩ := str_row hrow HPp.out
  have HStr := Lib.hid hstr
  have H1 := Lib.hid (H0.out.trans (hb.mono H0.out.size))
  have K1 := Lib.hid ((hb.block _ (Array.getElem?_eq_some_iff.1 K0.out).1).trans K0.out)
  have hR0 := (Array.getElem?_eq_some_iff.1 K0.out).1
  have hz1 := hb.size
  rw [HNP.out] at hnc ⊢
  clear hrow hstr hb
  have hsub : ((h + 1 : Nat) : Int) - 1 = (h : Int) := by omega
  have hgs1 : gs < w1.heap.size := by obtain ⟨⟨cc, hcc⟩, _⟩ := HStr.out; exact (Array.getElem?_eq_some_iff.1 hcc).1
  gi_wp2_with fail
  have hb2 := below_one w1 (.cells #[.int .i64 (h : Int), .slice none 0 0] 24)
  have hm2 := heap_alloc_new w1 (.cells #[.int .i64 (h : Int), .slice none 0 0] 24)
  have hz2 : (w1.alloc (.cells #[.int .i64 (h : Int), .slice none 0 0] 24)).heap.size = w1.heap.size + 1 := by simp
  generalize w1.alloc (.cells #[.int .i64 (h : Int), .slice none 0 0] 24) = w2 at *
  refine ⟨trivial, ?_⟩
  refine (callsIn_wide.2 (backward_anyS _ _ _ _)).mono ?_
  rintro e w3 ⟨rfl, rfl⟩
  gi_wp2_with fail
  have bS : Boxed (w2.alloc (.cells #[.slice (some ⟨gs, 0, none⟩) h cs] 43)) w2.heap.size 43 (.slice (some ⟨gs, 0, none⟩) h cs) := Boxed.new w2 43 (.slice (some ⟨gs, 0, none⟩) h cs)
  have hbt := below_one w2 (.cells #[.slice (some ⟨gs, 0, none⟩) h cs] 43)
  have kb := (hbt.block w1.heap.size (by omega)).trans hm2
  have hBW := hb2.trans (hbt.mono hb2.size)
  generalize w2.alloc (.cells #[.slice (some ⟨gs, 0, none⟩) h cs] 43) = W2 at *
  have hgsW : gs < W2.heap.size := by have := hBW.size; omega
  have hcW : ∀ (j : Nat) (x : ByteArray), (ps.take h)[j]? = some x → W2.cell? ⟨gs, 0 + j, none⟩ = some (.string x) := fun j x hx => by
    have hj := lt_of_get hx
    rw [List.length_take] at hj
    rw [List.getElem?_take_of_lt (by omega)] at hx
    rw [Nat.zero_add]
    exact (hBW.cell (p := ⟨gs, j, none⟩) hgs1).trans (HStr.out.2 j x hx)
  have hlen : (ps.take h).length = h := by rw [List.length_take]; have := HNP.out; omega
  have HEW : Hid (∀ W, Below w1.heap.size W2 W → ErrVars W) := Lib.hid (fun W hb => HE.out W (H1.out.trans ((hBW.trans hb).mono H1.out.size)))
  have hz3 : w1.heap.size + 1 < W2.heap.size := by have := bS.lt; omega
  rw [hz2] at bS
  have HBW := Lib.hid hBW
  clear hBW hb2 hbt hm2
  refine wpIn_rangeFunc_ownG rfl (by decide) (gf := 49) (lb := #[.pointer (some ⟨w1.heap.size + 1, 0, none⟩)]) rfl trivial (enters_of Tryd.func49 (by kernel_rfl) rfl)
    (back_stopsS _ 2 trivial rfl (by decide) (w1.heap.size + 1) gs 0 cs h (ps.take h) hlen (by omega) W2 bS.lt hgsW bS.cell hcW) keepsL_tS (keepsL_bS bS.lt hgsW) (Below.refl _ _) (fun _ => rfl)
    (fun pre W => BoxS w1.heap.size W2.heap.size h (linesF pre) W ∧ Boxed W (w1.heap.size + 1) 43 (.slice (some ⟨gs, 0, none⟩) h cs) ∧ Below w1.heap.size W2 W)
    (fun _ _ _ => False)
    (OwnFrom.and (Own.from (boxS_own w1.heap.size W2.heap.size h) _) (OwnFrom.and (Own.from (boxed_own _ _ (fun _ => .slice (some ⟨gs, 0, none⟩) h cs)) _) (ownFrom_below (by omega) (by omega))))
    (fun _ _ _ _ _ hs _ _ => hs)
    ⟨⟨none, 0, 0, kb, rfl, OwnY.nil _ _ _ (Nat.le_refl _)⟩, bS, Below.refl _ _⟩
    (fun p => { tmps := #[.string s, undef, .pointer (some ⟨w.heap.size, 0, none⟩), .bool false, .slice (some ⟨gs, 0, none⟩) (h + 1) cs, .bool true, .pointer (some ⟨w1.heap.size, 0, none⟩), undef, .string p.2, undef, .tuple #[.slice (some ⟨gs, 0, none⟩) (h + 1) cs, .bool true], .string s, .tuple #[.slice (some ⟨gs, 0, none⟩) (h + 1) cs, .bool true], .slice (some ⟨gs, 0, none⟩) (h + 1) cs, .bool true, .bool true, .bool false, undef, .slice (some ⟨gs, 0, none⟩) (h + 1) cs, .int .i64 ((h : Int) + 1), .int .i64 (h : Int), .agg #[.int .i64 (h : Int), .slice none 0 0], .slice (some ⟨gs, 0, none⟩) (h + 1) cs, .pointer (some ⟨w1.heap.size, 0, none⟩), .int .i64 (h : Int), .slice (some ⟨gs, 0, none⟩) h cs, .func (.func 49) #[] #[.pointer (some ⟨w1.heap.size + 1, 0, none⟩)], .int .i64 p.1, .string p.2, undef, undef, undef, undef, undef, undef, undef, undef, undef, undef, undef, undef, undef, undef, undef, undef, undef, undef, undef], defers := [] }) ?assign ?body ?done ?stop
  case assign =>
    rintro l ⟨y1, y2⟩ W K hK
    dsimp only [encs2S]
    gi_wp2
    exact hK
  case body =>
    rintro l pre p W ⟨⟨a, m, c, hb6, hm6, ho6⟩, hS, hB⟩ hlt
    have hl4 := linesF_len pre
    have c1 := cell_of (i := 1) hb6 rfl
    have hW2 : W2.heap.size ≤ W.heap.size := hB.size
    have HP := Lib.hid (putLine_all (.slice a m c) (linesF pre) p.2 W2.heap.size (by omega) (by omega) W ho6 hW2 (fun W' hb => HEW.out W' (hB.trans (hb.mono (by omega)))))
    have HB6 := Lib.hid hb6
    have HB := Lib.hid hB
    have HS := Lib.hid hS
    clear hb6 ho6 hB hS
    gi_wp2_with fail
    refine ⟨trivial, ?_⟩
    refine (CallsIn.inRound l (callsIn_wide.2 HP.out)).mono ?_
    rintro e w5 ⟨v5, rfl, HL⟩
    obtain ⟨a5, c5, rfl⟩ := HL.own.form
    have kb5 := HL.stay.2 _ _ HB6.out (fun _ _ _ e => by injection e with _ e _; subst e; exact ⟨by decide, by decide⟩)
    have q5 := cell_of (i := 1) kb5 rfl
    have f5 : ∀ i, w5.frozen? ⟨w1.heap.size, i, none⟩ = false := fun _ => free_of kb5
    have HL5 := Lib.hid HL
    have HK5 := Lib.hid kb5
    clear HL kb5 c1
    gi_wp2_with fail
    have hS5 : Span w1.heap.size (w1.heap.size + 1) w5 (w5.setCell ⟨w1.heap.size, 1, none⟩ (.slice a5 (lineF (linesF pre) p.2).length c5)) := span_set (Nat.le_refl _) (by omega) _
    have old : ∀ b, b ≠ w1.heap.size → (w5.setCell ⟨w1.heap.size, 1, none⟩ (.slice a5 (lineF (linesF pre) p.2).length c5)).heap[b]? = w5.heap[b]? := fun b hb => Below.heap_setCell w5 ⟨w1.heap.size, 1, none⟩ _ b hb
    have kS := (HL5.out.bel.block (w1.heap.size + 1) hz3).trans HS.out
    refine ⟨⟨by simpa using HL5.out.stay.1, fun k o hk ho hn => (old k (by omega)).trans (HL5.out.stay.2 k o ho (fun cs T q e => by subst e; cases hn))⟩, ⟨?_, (old gs (by omega)).trans (HL5.out.bel.block gs hgsW)⟩, ⟨a5, _, c5, Lib.heap_setCell_same (i := 1) HK5.out _, by rw [linesF_snoc], ?_⟩, (old _ (by omega)).trans kS, (HB.out.trans (HL5.out.bel.mono (by omega))).setCell (p := ⟨w1.heap.size, 1, none⟩) (Nat.le_refl _) _⟩
    · rw [set_cell_ne _ _ _ _ _ _ (by omega)]
      exact HL5.out.bel.cell (p := ⟨w1.heap.size + 1, 0, none⟩) hz3
    · rw [linesF_snoc]
      have := HL5.out.own.span hS5 (.inr (by omega))
      simpa using this
  case done =>
    rintro D ys W hD rfl ⟨⟨a, m, c, hb6, hm6, ho6⟩, hS, hB⟩ hK
    have hZ : linesF (bkS (ps.take h) h) = rI s := by
      have := lines_pr s hs (hI s) (Nat.le_refl _)
      rw [HPs.out, HH.out] at this
      rw [this, rI, HPs.out, HH.out]
    rw [hZ] at hm6 ho6
    obtain ⟨r1, r2⟩ := rI_len s
    have c0 := cell_of (i := 0) hb6 rfl
    have c1 := cell_of (i := 1) hb6 rfl
    have HBt := Lib.hid (implBt_any (.agg #[.int .i64 (h : Int), .slice a m c]) (h : Int) (rI s) (by omega) (by omega) W ⟨_, rfl, ho6.yl⟩)
    have HB := Lib.hid hB
    have HO := Lib.hid ho6
    have HM := Lib.hid hm6
    have HW := Lib.hid (H1.out.trans ((HBW.out.trans hB).mono H1.out.size))
    have HK := Lib.hid ((hB.block _ (by omega)).trans ((HBW.out.block w.heap.size (by omega)).trans K1.out))
    have HD := Lib.hid hK
    have HB6 := Lib.hid hb6
    clear hb6 hm6 ho6 hS hB hK hZ
    cases hg : goodB (h : Int) (rI s) with
    | false =>
      have ho : okI s = false := by unfold okI; rw [HH.out, hg]; rfl
      have HX := Lib.hid (And.intro ho (ok_no ho))
      rw [hg] at HBt
      generalize btx (h : Int) (rI s) = tx at *
      clear hg ho
      gi_wp2_with fail
      refine ⟨trivial, ?_⟩
      refine (callsIn_wide.2 HBt.out).mono ?_
      rintro e W3 ⟨rfl, hb3⟩
      have K3 := (hb3.block _ (Array.getElem?_eq_some_iff.1 HK.out).1).trans HK.out
      have D3 := Lib.hid ((hb3.block _ (Array.getElem?_eq_some_iff.1 HD.out).1).trans HD.out)
      have W3' := Lib.hid (HW.out.trans (hb3.mono HW.out.size))
      have z0 := cell_of (i := 0) K3 rfl
      have z1 := cell_of (i := 1) K3 rfl
      have f0 : ∀ i, W3.frozen? ⟨w.heap.size, i, none⟩ = false := fun _ => free_of K3
      obtain ⟨e7, e8⟩ := res_bay (.int .i64 0) (.slice none 0 0) z0 z1
      clear hb3 c0 c1
      gi_wp2_with fail
      have hDR : D ≠ w.heap.size := by omega
      have DX := (Below.heap_setCell (W3.setCell ⟨w.heap.size, 0, none⟩ (.int .i64 0)) ⟨w.heap.size, 1, none⟩ (.slice none 0 0) D hDR).trans ((Below.heap_setCell W3 ⟨w.heap.size, 0, none⟩ (.int .i64 0) D hDR).trans D3.out)
      refine ⟨by simp, .inl ⟨_, _, rfl, run_takeDeferred DX, ?_⟩⟩
      have HX3 := Lib.hid ((W3'.out.setCell (p := ⟨w.heap.size, 0, none⟩) (Nat.le_refl _) (.int .i64 0)).setCell (p := ⟨w.heap.size, 1, none⟩) (Nat.le_refl _) (.slice none 0 0))
      generalize (W3.setCell ⟨w.heap.size, 0, none⟩ (.int .i64 0)).setCell ⟨w.heap.size, 1, none⟩ (.slice none 0 0) = X at *
      have p7 := (World.cell?_of_block (w' := X.putObj D (.deferred none)) (w := X) (a := ⟨w.heap.size, 0, none⟩) (World.putObj_heap_other (fun e => hDR e.symm))).trans e7
      have p8 := (World.cell?_of_block (w' := X.putObj D (.deferred none)) (w := X) (a := ⟨w.heap.size, 1, none⟩) (World.putObj_heap_other (fun e => hDR e.symm))).trans e8
      have hBX := HX3.out.trans (belowK_b (w := w) (Nat.le_refl _) X D _ (.deferred none) (by omega) DX rfl rfl)
      refine ⟨.tuple #[.agg #[.int .i64 0, .slice none 0 0], .bool false], by simp [results, Tryd.results6, go_sem, p7, p8], ?_⟩
      rw [HX.out.1, HX.out.2.1, HX.out.2.2]
      exact ⟨none, 0, rfl, OwnY.nil _ _ _ (Nat.le_refl _), hBX⟩
    | true =>
      rw [hg] at HBt
      by_cases ht : btx (h : Int) (rI s) = s
      · have ho : okI s = true := by unfold okI; rw [HH.out, hg, ht]; simp
        have HX := Lib.hid (And.intro ho (ok_yes ho))
        rw [ht] at HBt
        clear hg ho ht
        gi_wp2_with fail
        refine ⟨trivial, ?_⟩
        refine (callsIn_wide.2 HBt.out).mono ?_
        rintro e W3 ⟨rfl, hb3⟩
        have K3 := (hb3.block _ (Array.getElem?_eq_some_iff.1 HK.out).1).trans HK.out
        have D3 := Lib.hid ((hb3.block _ (Array.getElem?_eq_some_iff.1 HD.out).1).trans HD.out)
        have W3' := Lib.hid (HW.out.trans (hb3.mono HW.out.size))
        have O3 := Lib.hid (HO.out.below hb3)
        have B3 := (hb3.block _ (Array.getElem?_eq_some_iff.1 HB6.out).1).trans HB6.out
        have d0 := cell_of (i := 0) B3 rfl
        have d1 := cell_of (i := 1) B3 rfl
        clear B3
        have z0 := cell_of (i := 0) K3 rfl
        have z1 := cell_of (i := 1) K3 rfl
        have f0 : ∀ i, W3.frozen? ⟨w.heap.size, i, none⟩ = false := fun _ => free_of K3
        obtain ⟨e7, e8⟩ := res_bay (.int .i64 (h : Int)) (.slice a m c) z0 z1
        clear hb3 c0 c1
        gi_wp2_with fail
        have hDR : D ≠ w.heap.size := by omega
        have DX := (Below.heap_setCell (W3.setCell ⟨w.heap.size, 0, none⟩ (.int .i64 (h : Int))) ⟨w.heap.size, 1, none⟩ (.slice a m c) D hDR).trans ((Below.heap_setCell W3 ⟨w.heap.size, 0, none⟩ (.int .i64 (h : Int)) D hDR).trans D3.out)
        refine ⟨by simp, .inl ⟨_, _, rfl, run_takeDeferred DX, ?_⟩⟩
        have HX3 := Lib.hid ((W3'.out.setCell (p := ⟨w.heap.size, 0, none⟩) (Nat.le_refl _) (.int .i64 (h : Int))).setCell (p := ⟨w.heap.size, 1, none⟩) (Nat.le_refl _) (.slice a m c))
        have hSp : Span w.heap.size (w.heap.size + 1) W3 ((W3.setCell ⟨w.heap.size, 0, none⟩ (.int .i64 (h : Int))).setCell ⟨w.heap.size, 1, none⟩ (.slice a m c)) := (span_set (Nat.le_refl _) (by omega) _).trans (span_set (Nat.le_refl _) (by omega) _)
        have O9 := Lib.hid ((O3.out.span hSp (.inr (by omega))).mono (Nat.le_refl _) (by have := O3.out.1; simpa using this) (Nat.le_refl _))
        generalize (W3.setCell ⟨w.heap.size, 0, none⟩ (.int .i64 (h : Int))).setCell ⟨w.heap.size, 1, none⟩ (.slice a m c) = X at *
        have p7 := (World.cell?_of_block (w' := X.putObj D (.deferred none)) (w := X) (a := ⟨w.heap.size, 0, none⟩) (World.putObj_heap_other (fun e => hDR e.symm))).trans e7
        have p8 := (World.cell?_of_block (w' := X.putObj D (.deferred none)) (w := X) (a := ⟨w.heap.size, 1, none⟩) (World.putObj_heap_other (fun e => hDR e.symm))).trans e8
        have hBX := HX3.out.trans (belowK_b (w := w) (Nat.le_refl _) X D _ (.deferred none) (by omega) DX rfl rfl)
        refine ⟨.tuple #[.agg #[.int .i64 (h : Int), .slice a m c], .bool true], by simp [results, Tryd.results6, go_sem, p7, p8], ?_⟩
        rw [HX.out.1, HX.out.2.1, HX.out.2.2]
        refine ⟨a, c, by rw [HM.out, HH.out], ?_, hBX⟩
        rw [HM.out]
        exact (O9.out.keptN (grownBy_putObj' X D (.deferred none)) (fun r e => by cases e; exact ⟨_, DX, rfl⟩)).mono (by omega) (Nat.le_refl _) (Nat.le_refl _)
      · have ho : okI s = false := by unfold okI; rw [HH.out, hg]; simp [ht]
        have HX := Lib.hid (And.intro ho (ok_no ho))
        generalize btx (h : Int) (rI s) = tx at *
        have hne1 : (tx.toList == s.toList) = false := by
          rw [beq_eq_false_iff_ne, ByteArray.toList_eq, ByteArray.toList_eq]
          intro e
          exact ht (ByteArray.ext (Array.toList_inj.1 e))
        clear hg ho
        gi_wp2_with fail
        refine ⟨trivial, ?_⟩
        refine (callsIn_wide.2 HBt.out).mono ?_
        rintro e W3 ⟨rfl, hb3⟩
        have K3 := (hb3.block _ (Array.getElem?_eq_some_iff.1 HK.out).1).trans HK.out
        have D3 := Lib.hid ((hb3.block _ (Array.getElem?_eq_some_iff.1 HD.out).1).trans HD.out)
        have W3' := Lib.hid (HW.out.trans (hb3.mono HW.out.size))
        have z0 := cell_of (i := 0) K3 rfl
        have z1 := cell_of (i := 1) K3 rfl
        have f0 : ∀ i, W3.frozen? ⟨w.heap.size, i, none⟩ = false := fun _ => free_of K3
        obtain ⟨e7, e8⟩ := res_bay (.int .i64 0) (.slice none 0 0) z0 z1
        clear hb3 c0 c1
        gi_wp2_with fail
        have hDR : D ≠ w.heap.size := by omega
        have DX := (Below.heap_setCell (W3.setCell ⟨w.heap.size, 0, none⟩ (.int .i64 0)) ⟨w.heap.size, 1, none⟩ (.slice none 0 0) D hDR).trans ((Below.heap_setCell W3 ⟨w.heap.size, 0, none⟩ (.int .i64 0) D hDR).trans D3.out)
        refine ⟨by simp, .inl ⟨_, _, rfl, run_takeDeferred DX, ?_⟩⟩
        have HX3 := Lib.hid ((W3'.out.setCell (p := ⟨w.heap.size, 0, none⟩) (Nat.le_refl _) (.int .i64 0)).setCell (p := ⟨w.heap.size, 1, none⟩) (Nat.le_refl _) (.slice none 0 0))
        generalize (W3.setCell ⟨w.heap.size, 0, none⟩ (.int .i64 0)).setCell ⟨w.heap.size, 1, none⟩ (.slice none 0 0) = X at *
        have p7 := (World.cell?_of_block (w' := X.putObj D (.deferred none)) (w := X) (a := ⟨w.heap.size, 0, none⟩) (World.putObj_heap_other (fun e => hDR e.symm))).trans e7
        have p8 := (World.cell?_of_block (w' := X.putObj D (.deferred none)) (w := X) (a := ⟨w.heap.size, 1, none⟩) (World.putObj_heap_other (fun e => hDR e.symm))).trans e8
        have hBX := HX3.out.trans (belowK_b (w := w) (Nat.le_refl _) X D _ (.deferred none) (by omega) DX rfl rfl)
        refine ⟨.tuple #[.agg #[.int .i64 0, .slice none 0 0], .bool false], by simp [results, Tryd.results6, go_sem, p7, p8], ?_⟩
        rw [HX.out.1, HX.out.2.1, HX.out.2.2]
        exact ⟨none, 0, rfl, OwnY.nil _ _ _ (Nat.le_refl _), hBX⟩
  case stop =>
    rintro D c pre W _ _ h _
    exact h.elim
end Go.Proofs.YtfbeoficgkkamaaDoor
