/-
  What impl.putLine leaves: the rows with a line's words. No statement of the seat by itself.
-/
import Derived.Test.YtfbeoficgkkamaaDoorPbA
import Derived.Test.YtfbeoficgkkamaaDoorSplitW
import Derived.Maps.AppendAt
namespace Go.Proofs.YtfbeoficgkkamaaDoor
open Go.RowKit

/-- What is neither a block of ints nor one of rows stays as it is. -/
def StayO (w w' : World) : Prop := w.heap.size ≤ w'.heap.size ∧ ∀ (b : Nat) (o : Obj), w.heap[b]? = some o → (∀ cs T q, o = .cells cs T q → T ≠ 3 ∧ T ≠ 46) → w'.heap[b]? = some o
theorem StayO.refl (w : World) : StayO w w := ⟨Nat.le_refl _, fun _ _ h _ => h⟩
theorem StayO.trans {a b c : World} (h : StayO a b) (k : StayO b c) : StayO a c := ⟨Nat.le_trans h.1 k.1, fun x o hx ht => k.2 x o (h.2 x o hx ht) ht⟩
theorem StayO.below {w w' : World} (h : Below w.heap.size w w') : StayO w w' := ⟨h.size, fun b _ hb _ => (h.block b (Array.getElem?_eq_some_iff.1 hb).1).trans hb⟩
theorem own_type {w : World} {B e n : Nat} {v : Value} {xs : List Value} (h : w.ownsRow B e 1 v n xs) {b : Nat} (hb : v.ownBlock = some b) : ∃ cs, w.heap[b]? = some (.cells cs e (0, 0)) := by
  rcases h.2 with ⟨rfl, _⟩ | ⟨g, cap, cur, rfl, _, hg, _⟩
  · simp [Value.ownBlock] at hb
  · simp only [Value.ownBlock, Option.some.injEq] at hb
    subst hb
    exact ⟨_, hg⟩
theorem StayO.grown {w w' : World} {B e n : Nat} {v : Value} {xs : List Value} (h : w.ownsRow B e 1 v n xs) (he : e = 3 ∨ e = 46) (hg : w.grownBy w' v.ownBlock) : StayO w w' := by
  refine ⟨hg.size, fun b o hb ht => (hg.block b (Array.getElem?_eq_some_iff.1 hb).1 (fun e2 => ?_)).trans hb⟩
  obtain ⟨cs, hc⟩ := own_type h e2.symm
  rw [hb] at hc
  injection hc with hc
  have := ht _ _ _ hc
  rcases he with rfl | rfl
  · exact this.1 rfl
  · exact this.2 rfl
theorem StayO.set {w : World} {B n g c k : Nat} {xs : List Value} (h : w.ownsRow B 46 1 (.slice (some ⟨g, 0, none⟩) n c) n xs) (x : Value) : StayO w (w.setCell ⟨g, k, none⟩ x) := by
  refine ⟨by simp, fun b o hb ht => ?_⟩
  obtain ⟨cs, hc⟩ := own_type h rfl
  rw [Below.heap_setCell w ⟨g, k, none⟩ x b (fun e => ?_)]
  · exact hb
  · have e : b = g := e
    subst e
    rw [hb] at hc
    injection hc with hc
    exact (ht _ _ _ hc).2 rfl
/-- A row of strings, with its block. -/
def StrR (w : World) (g : Nat) (ps : List ByteArray) : Prop := (∃ cs, w.heap[g]? = some (.cells cs 9 (0, 0))) ∧ ∀ (j : Nat) (x : ByteArray), ps[j]? = some x → w.cell? ⟨g, j, none⟩ = some (.string x)
theorem str_row {w : World} {B : Nat} {ps : List ByteArray} {v : Value} (h : w.ownsRow B 9 1 v ps.length (ps.map Value.string)) (hp : 0 < ps.length) : ∃ g c, v = .slice (some ⟨g, 0, none⟩) ps.length c ∧ B ≤ g ∧ ps.length ≤ c ∧ StrR w g ps := by
  have h0 := h
  rcases h.2 with ⟨rfl, hz⟩ | ⟨g, cap, cur, rfl, hg, hb, hn, _⟩
  · omega
  · exact ⟨g, cap, rfl, hg, hn, ⟨_, hb⟩, fun j x hj => by
      have := h0.cellAt j (by have := lt_of_get hj; omega)
      rw [this, List.getElem?_map, hj]; rfl⟩
theorem StrR.stay {w w' : World} {g : Nat} {ps : List ByteArray} (h : StrR w g ps) (hs : StayO w w') : StrR w' g ps := by
  obtain ⟨⟨cs, hc⟩, h2⟩ := h
  have hk := hs.2 g _ hc (fun _ _ _ e => by injection e with _ e _; subst e; exact ⟨by decide, by decide⟩)
  exact ⟨⟨cs, hk⟩, fun j x hj => (World.cell?_of_block (a := ⟨g, j, none⟩) (hk.trans hc.symm)).trans (h2 j x hj)⟩
theorem pieces_pos (s : ByteArray) (c : UInt8) : 0 < (pieces s c).length := by rw [pieces_len]; omega
theorem pst_sz (s : ByteArray) (c : UInt8) : ∀ k, ∀ p ∈ (pst s c k).1, p.size ≤ s.size
  | 0, p, h => by simp [pst] at h
  | k + 1, p, h => by
    rw [pst] at h
    split at h
    · split at h
      · rcases List.mem_append.1 h with h | h
        · exact pst_sz s c k p h
        · simp at h; subst h; simp [ByteArray.size_extract]; omega
      · exact pst_sz s c k p h
    · exact pst_sz s c k p h
theorem pieces_sz (s : ByteArray) (c : UInt8) : ∀ p ∈ pieces s c, p.size ≤ s.size := fun p h => by
  rcases List.mem_append.1 h with h | h
  · exact pst_sz s c _ p h
  · simp at h; subst h; simp [ByteArray.size_extract]
theorem addR_tot (R : List (List Int)) (i : Nat) : tot (addR R i) = tot R := by
  unfold addR
  split
  · simp [tot]
  · rfl
theorem putY_tot (Y : List (List Int)) (i : Nat) (x : Int) (h : i < Y.length) : tot (putY Y i x) = tot Y + 1 := by
  obtain ⟨A, b, C, e, hl⟩ : ∃ A b C, Y = A ++ b :: C ∧ A.length = i := ⟨Y.take i, Y[i], Y.drop (i + 1), by rw [← List.drop_eq_getElem_cons h, List.take_append_drop], by simp; omega⟩
  subst hl
  rw [e, put_mid]
  simp [tot]
  omega
theorem lnW_len (f : ByteArray → Option Int) (ws : List ByteArray) (R : List (List Int)) : ∀ i, i ≤ (lnW f ws R i).length ∧ (lnW f ws R i).length ≤ R.length + i ∧ R.length ≤ (lnW f ws R i).length ∧ tot (lnW f ws R i) ≤ tot R + i
  | 0 => by simp [lnW]
  | i + 1 => by
    obtain ⟨h1, h2, h3, h4⟩ := lnW_len f ws R i
    have ha := addR_len (lnW f ws R i) i h1
    have hm : (lnW f ws R i).length ≤ (addR (lnW f ws R i) i).length := by unfold addR; split <;> simp
    have ht := addR_tot (lnW f ws R i) i
    rw [lnW]
    unfold putW
    split
    · rw [putY_len, putY_tot _ _ _ ha.1]; omega
    · omega
/-- A line's state: the rows, and what stays. -/
structure LnS (B : Nat) (w1 wr : World) (v : Value) (Z : List (List Int)) : Prop where
  own : OwnY wr B wr.heap.size v Z
  bel : Below B w1 wr
  stay : StayO w1 wr
theorem LnS.step {B : Nat} {w1 wr w2 : World} {v : Value} {Z : List (List Int)} (h : LnS B w1 wr v Z) (hB : B ≤ wr.heap.size) (hb : Below wr.heap.size wr w2) : LnS B w1 w2 v Z :=
  ⟨(h.own.below hb).mono (Nat.le_refl _) hb.size (Nat.le_refl _), h.bel.trans (hb.mono hB), h.stay.trans (StayO.below hb)⟩
theorem LnS.push {B : Nat} {w1 wr w2 : World} {v v' : Value} {Z : List (List Int)} {us : List Value} (h : LnS B w1 wr v Z) (hB : B ≤ wr.heap.size) (hus : wr.ownsRow B 46 1 v Z.length us) (hr : Rows2 wr B wr.heap.size us Z)
    (hg : ((wr.alloc (.cells #[] 3)).alloc (.cells #[.slice (some ⟨wr.heap.size, 0, none⟩) 0 0] 46)).grownBy w2 v.ownBlock) (ho' : w2.ownsRow B 46 1 v' (Z.length + 1) (us ++ [.slice (some ⟨wr.heap.size, 0, none⟩) 0 0])) : LnS B w1 w2 v' (Z ++ [[]]) := by
  have b1 := below_one wr (.cells #[] 3)
  have b2 := below_one (wr.alloc (.cells #[] 3)) (.cells #[.slice (some ⟨wr.heap.size, 0, none⟩) 0 0] 46)
  have hb := b1.trans (b2.mono b1.size)
  have hz := hb.size
  have ho : (wr.alloc (.cells #[] 3)).ownsRow wr.heap.size 3 1 (.slice (some ⟨wr.heap.size, 0, none⟩) 0 0) ([] : List Int).length (intV []) := by simpa [intV] using own_empty wr (.cells #[] 3) 3 rfl
  have ho2 := row_below (own_base (base' := B) ho fun j hj => Nat.le_trans hB (row_base ho j hj)) b2
  refine ⟨OwnY.push (h.own.below hb) ⟨row_below hus hb, hr.below hb⟩ ho2 (fun b e => ?_) hg ho', (h.bel.trans (hb.mono hB)).grown hg (by omega) (fun j e => row_base hus j e), ?_⟩
  · simp only [Value.ownBlock, Option.some.injEq] at e
    omega
  · exact (h.stay.trans (StayO.below hb)).trans (StayO.grown (row_below hus hb) (.inr rfl) hg)
theorem LnS.put {B : Nat} {w1 wr w5 : World} {g n c i m : Nat} {Z : List (List Int)} {l : List Int} {x : Int} {u v' : Value} {o : Obj} (h : LnS B w1 wr (.slice (some ⟨g, 0, none⟩) n c) Z) (hB : B ≤ wr.heap.size) (hl : Z[i]? = some l) (hm : l.length = m) (hu : wr.cell? ⟨g, i, none⟩ = some u)
    (ho : w5.ownsRow B 3 1 v' (m + 1) (intV l ++ [.int .i64 x])) (hg : (wr.alloc o).grownBy w5 u.ownBlock) (hat : v'.ownBlock = u.ownBlock ∨ v'.ownBlock = some (wr.alloc o).heap.size) :
    LnS B w1 (w5.setCell ⟨g, i, none⟩ v') (.slice (some ⟨g, 0, none⟩) n c) (putY Z i x) ∧ (∃ y, w5.cell? ⟨g, i, none⟩ = some y) ∧ w5.frozen? ⟨g, i, none⟩ = false := by
  obtain ⟨p1, p2, p3⟩ := own_put h.own hl hm hu ho hg hat
  have hb := below_one wr o
  have hz := hb.size
  obtain ⟨u2, hu2, -, hou, hub⟩ := h.own.cell hl
  rw [hu] at hu2
  cases hu2
  have hou' := row_below hou hb
  have hgb : B ≤ g := by
    obtain ⟨_, _, us, h3, _⟩ := h.own
    exact row_base h3 g rfl
  refine ⟨⟨by simpa using p1, ((h.bel.trans (hb.mono hB)).grown hg (by omega) (fun j e => row_base hou j e)).setCell (p := ⟨g, i, none⟩) hgb _, ?_⟩, p2, p3⟩
  obtain ⟨_, _, us, h3, hr⟩ := h.own
  have hne : u.ownBlock ≠ some g := outer_ne h3 hou g rfl
  have h35 := (row_below h3 hb).kept hg (.inr fun e => hne (by rw [← e]; rfl))
  have hn : n = Z.length := by
    obtain ⟨a, c, e⟩ := own_form h3
    injection e
  subst hn
  exact ((h.stay.trans (StayO.below hb)).trans (StayO.grown hou' (.inl rfl) hg)).trans (StayO.set h35 v')

set_option maxRecDepth 100000 in
set_option maxHeartbeats 8000000 in
theorem putLine_any (v : Value) (R : List (List Int)) (x : ByteArray) (B : Nat) (hx : x.size ≤ 4000) (h1 : R.length + (pieces x 32).length ≤ 100000000) (h2 : tot R + (pieces x 32).length ≤ 100000000) (w : World) (h : OwnY w B w.heap.size v R) (hB : B ≤ w.heap.size) (hE : ∀ W, Below B w W → ErrVars W) :
    Calls Tryd.prog 27 #[v, .string x] w fun e w' => ∃ v', e = .returned v' ∧ LnS B w w' v' (lnW atN (pieces x 32) R (pieces x 32).length) := by
  obtain ⟨i0, hi, hz0, hz1, hz2⟩ := info_is info3
  obtain ⟨j0, hj, hy0, hy1, hy2⟩ := info_is info38
  have HSp := Lib.hid (split_any x 32 hx w)
  obtain ⟨ps, hps⟩ : ∃ ps, pieces x 32 = ps := ⟨_, rfl⟩
  have HSz := Lib.hid (pieces_sz x 32)
  have HPp := Lib.hid (pieces_pos x 32)
  rw [hps] at HSp HSz HPp h1 h2 ⊢
  obtain ⟨a, c, rfl⟩ := h.form
  have HO := Lib.hid h
  obtain ⟨m, hm⟩ : ∃ m, R.length = m := ⟨_, rfl⟩
  have HMm := Lib.hid hm
  obtain ⟨np, hnp⟩ : ∃ np, ps.length = np := ⟨_, rfl⟩
  have HNP := Lib.hid hnp
  have HLen := Lib.hid (fun i => lnW_len atN ps R i)
  rw [hm] at h1 HO ⊢
  rw [hnp] at h1 h2 ⊢
  clear h hps hm hnp
  go_enter Tryd.func27, Tryd.ntmps27
  go_wp2_with fail
  refine HSp.out.mono ?_
  rintro e w1 ⟨vs, rfl, hrow, hb⟩
  obtain ⟨g, cs, rfl, hgB, hnc, hstr⟩ := str_row hrow HPp.out
  have HStr := Lib.hid hstr
  have HS1 := Lib.hid (LnS.step (w1 := w) ⟨HO.out, Below.refl _ _, StayO.refl _⟩ hB hb)
  have HSs := Lib.hid (show LnS B w1 w1 (.slice a m c) R from ⟨HS1.out.own, Below.refl _ _, StayO.refl _⟩)
  have hB1 : B ≤ w1.heap.size := Nat.le_trans hB hb.size
  have HE := Lib.hid (fun W (hb' : Below B w1 W) => hE W ((hb.mono hB).trans hb'))
  rw [HNP.out]
  clear hrow hstr hb hE
  go_wp2_with fail
  go_loopw [0, 18] (fun rv ii wr => ∃ (i : Nat) (a : Option Addr) (m c : Nat), i ≤ np ∧ ii = .int .i64 i ∧ rv = .slice a m c ∧ Hid ((lnW atN ps R i).length = m) ∧ Hid (LnS B w1 wr (.slice a m c) (lnW atN ps R i))) (fun _ ii _ => np - (intOf ii).toNat)
  case atStart => exact ⟨0, a, m, c, Nat.zero_le _, rfl, rfl, HMm, HSs⟩
  case round =>
    obtain ⟨i, a1, m1, c1, hinp, rfl, rfl, HM, HS⟩ := hrel
    rename World => wr
    obtain ⟨Z, hZ⟩ : ∃ Z, lnW atN ps R i = Z := ⟨_, rfl⟩
    have HY := Lib.hid hZ
    have HLn := Lib.hid (HLen.out i)
    rw [hZ] at HM HS HLn
    rw [HMm.out] at HLn
    have hm1 : m1 ≤ 200000000 := by have := HLn.out; rw [HM.out] at this; omega
    have hBr : B ≤ wr.heap.size := Nat.le_trans hB1 HS.out.stay.1
    by_cases hlt : i < np
    · obtain ⟨y, hy'⟩ := get_at HNP.out hlt
      have hy : y.size ≤ 1048576 := by have := HSz.out y (List.mem_of_getElem? hy'); omega
      have hcy : wr.cell? ⟨g, i, none⟩ = some (.string y) := (HStr.out.stay HS.out.stay).2 i y hy'
      have hltI : (i : Int) < (np : Int) := by omega
      have HGy : Hid (ps.getD i (bs []) = y) := Lib.hid (by rw [List.getD_eq_getElem?_getD, hy']; rfl)
      have hcY := fun o => (World.cell?_alloc_lt wr o ⟨g, i, none⟩ (World.block_lt_of_cell? wr _ hcy)).trans hcy
      by_cases him : i = m1
      · have HIM := Lib.hid him
        have hcm : ((i : Int) == (m1 : Int)) = true := by simp [him]
        clear him
        have HAd : Hid (addR Z i = (Z ++ [[]])) := Lib.hid (by unfold addR; rw [if_pos (by rw [HM.out, HIM.out]; omega)])
        cases hat : atN y with
        | some nv =>
          have HAt := Lib.hid (fun W => atoi_good y hy nv (atN_some hat) W)
          have HPW : Hid (lnW atN ps R (i + 1) = putY (Z ++ [[]]) i nv) := Lib.hid (by rw [lnW, HY.out, HGy.out]; unfold putW; rw [hat, HAd.out])
          clear hat
          obtain ⟨us, hus, hr2⟩ := HS.out.own.2.2
          have hNW := cell_val_new (wr.alloc (.cells #[] 3)) (.slice (some ⟨wr.heap.size, 0, none⟩) 0 0) 46
          rw [show (wr.alloc (.cells #[] 3)).heap.size = wr.heap.size + 1 by simp] at hNW
          have HNW := Lib.hid hNW
          have HUS : Hid (((wr.alloc (.cells #[] 3)).alloc (.cells #[.slice (some ⟨wr.heap.size, 0, none⟩) 0 0] 46)).ownsRow B 46 1 (.slice a1 m1 c1) m1 us) := Lib.hid (by
            have b1 := below_one wr (.cells #[] 3)
            have := row_below hus (b1.trans ((below_one (wr.alloc (.cells #[] 3)) (.cells #[.slice (some ⟨wr.heap.size, 0, none⟩) 0 0] 46)).mono b1.size))
            rw [HM.out] at this
            exact this)
          have HPu := Lib.hid (fun (w2 : World) (v' : Value) (hg : ((wr.alloc (.cells #[] 3)).alloc (.cells #[.slice (some ⟨wr.heap.size, 0, none⟩) 0 0] 46)).grownBy w2 (Value.slice a1 m1 c1).ownBlock) (ho' : w2.ownsRow B 46 1 v' (m1 + 1) (us ++ [.slice (some ⟨wr.heap.size, 0, none⟩) 0 0])) => HS.out.push hBr hus hr2 hg (by rw [HM.out]; exact ho'))
          clear hus hr2 hNW
          go_wp2_with (at_builtin; refine wpList_append_own_at _ rfl _ _ 22 rfl B 46 j0 (.slice none 0 0) 1 24 Tryd.underlying22 hj hy0 hy1 hy2 rfl (by decide) _ m1 us rfl HUS.out _ 1 1 [.slice (some ⟨wr.heap.size, 0, none⟩) 0 0] rfl rfl HNW.out (by simp [Value.oneCell']) (by unfold maxLen; omega) (by omega) (by simp; omega) ?_; intro v2 w2 hown2 hgr2 hnil2 hat2; have HS2 := Lib.hid (HPu.out w2 v2 hgr2 hown2); obtain ⟨a2, c2, rfl⟩ := own_form hown2; clear hown2 hgr2 hnil2 hat2)
          clear HUS HNW HPu
          have hB2 : B ≤ w2.heap.size := Nat.le_trans hB1 HS2.out.stay.1
          refine (HAt.out _).mono ?_
          rintro e w3 ⟨rfl, hb3⟩
          have HS3 := Lib.hid (HS2.out.step hB2 hb3)
          have hB3 : B ≤ w3.heap.size := Nat.le_trans hB2 hb3.size
          have hlen2 : (Z ++ [[]]).length = (m1 + 1) := by rw [List.length_append, HM.out]; rfl
          obtain ⟨g2, c3, e⟩ := HS3.out.own.rows (by omega)
          injection e with e1 e2 e3
          subst e1 e3
          obtain ⟨l, hl⟩ := get_at (k := i) hlen2 (by have := HIM.out; omega)
          have HLl := Lib.hid hl
          obtain ⟨ml, hml⟩ : ∃ ml, l.length = ml := ⟨_, rfl⟩
          have HML := Lib.hid hml
          have hml2 : ml ≤ 200000000 := by have h7 := row_len hl; have h8 := HLn.out.2.2.2; rw [show tot (Z ++ [[]]) = tot Z by simp [tot]] at h7; omega
          obtain ⟨u, hu, -, hou, -⟩ := HS3.out.own.cell hl
          obtain ⟨au, cu, rfl⟩ := own_form hou
          rw [hml] at hu hou
          have HOU := Lib.hid hou
          have HU := Lib.hid hu
          have HLe : Hid ((putY (Z ++ [[]]) i nv).length = (m1 + 1)) := Lib.hid (by rw [putY_len]; exact hlen2)
          have hi2 : (i : Int) < (((m1 + 1) : Nat) : Int) := by have := HIM.out; omega
          clear hou hl hml hb3 e2 hlen2
          go_wp2_with (at_builtin; refine wpList_append_own_at _ rfl _ _ 46 rfl B 3 i0 (.int .i64 0) 1 8 Tryd.underlying46 hi hz0 hz1 hz2 rfl (by decide) _ ml (intV l) rfl (HOU.out.alloc _) ⟨w3.heap.size, 0, none⟩ 1 1 [.int .i64 nv] rfl rfl (cell_val_new _ _ _) (by simp [Value.oneCell']) (by unfold maxLen; omega) (by omega) (by simp; omega) ?_; intro v5 w5 ho5 hg5 hn5 hat5; have HP5 := Lib.hid (HS3.out.put hB3 HLl.out HML.out HU.out ho5 hg5 hat5); obtain ⟨y5, p2⟩ := HP5.out.2.1; have p3 := HP5.out.2.2; obtain ⟨a6, c6, rfl⟩ := own_form ho5; clear ho5 hg5 hn5 hat5)
          exact ⟨⟨i + 1, _, _, _, by omega, by go_num, rfl, Lib.hid (by rw [HPW.out]; exact HLe.out), Lib.hid (by rw [HPW.out]; exact HP5.out.1)⟩, by simp [intOf]; omega⟩
        | none =>
          have HAt := Lib.hid (fun W hE => atoi_bad y hy (atN_none hat) W hE)
          have HPW : Hid (lnW atN ps R (i + 1) = (Z ++ [[]])) := Lib.hid (by rw [lnW, HY.out, HGy.out]; unfold putW; rw [hat, HAd.out])
          clear hat
          obtain ⟨us, hus, hr2⟩ := HS.out.own.2.2
          have hNW := cell_val_new (wr.alloc (.cells #[] 3)) (.slice (some ⟨wr.heap.size, 0, none⟩) 0 0) 46
          rw [show (wr.alloc (.cells #[] 3)).heap.size = wr.heap.size + 1 by simp] at hNW
          have HNW := Lib.hid hNW
          have HUS : Hid (((wr.alloc (.cells #[] 3)).alloc (.cells #[.slice (some ⟨wr.heap.size, 0, none⟩) 0 0] 46)).ownsRow B 46 1 (.slice a1 m1 c1) m1 us) := Lib.hid (by
            have b1 := below_one wr (.cells #[] 3)
            have := row_below hus (b1.trans ((below_one (wr.alloc (.cells #[] 3)) (.cells #[.slice (some ⟨wr.heap.size, 0, none⟩) 0 0] 46)).mono b1.size))
            rw [HM.out] at this
            exact this)
          have HPu := Lib.hid (fun (w2 : World) (v' : Value) (hg : ((wr.alloc (.cells #[] 3)).alloc (.cells #[.slice (some ⟨wr.heap.size, 0, none⟩) 0 0] 46)).grownBy w2 (Value.slice a1 m1 c1).ownBlock) (ho' : w2.ownsRow B 46 1 v' (m1 + 1) (us ++ [.slice (some ⟨wr.heap.size, 0, none⟩) 0 0])) => HS.out.push hBr hus hr2 hg (by rw [HM.out]; exact ho'))
          clear hus hr2 hNW
          go_wp2_with (at_builtin; refine wpList_append_own_at _ rfl _ _ 22 rfl B 46 j0 (.slice none 0 0) 1 24 Tryd.underlying22 hj hy0 hy1 hy2 rfl (by decide) _ m1 us rfl HUS.out _ 1 1 [.slice (some ⟨wr.heap.size, 0, none⟩) 0 0] rfl rfl HNW.out (by simp [Value.oneCell']) (by unfold maxLen; omega) (by omega) (by simp; omega) ?_; intro v2 w2 hown2 hgr2 hnil2 hat2; have HS2 := Lib.hid (HPu.out w2 v2 hgr2 hown2); obtain ⟨a2, c2, rfl⟩ := own_form hown2; clear hown2 hgr2 hnil2 hat2)
          clear HUS HNW HPu
          have hB2 : B ≤ w2.heap.size := Nat.le_trans hB1 HS2.out.stay.1
          refine (HAt.out _ (HE.out _ HS2.out.bel)).mono ?_
          rintro e w3 ⟨xe, ne, rfl, hb3⟩
          have HS3 := Lib.hid (HS2.out.step hB2 hb3)
          clear hb3
          go_wp2_with fail
          exact ⟨⟨i + 1, _, _, _, by omega, by go_num, rfl, Lib.hid (by rw [HPW.out]; rw [List.length_append, HM.out]; rfl), Lib.hid (by rw [HPW.out]; exact HS3.out)⟩, by simp [intOf]; omega⟩
      · have hlm : i < m1 := by have := HLn.out.1; rw [HM.out] at this; omega
        have hcm : ((i : Int) == (m1 : Int)) = false := by rw [beq_eq_false_iff_ne]; omega
        have HAd : Hid (addR Z i = Z) := Lib.hid (by unfold addR; rw [if_neg (by have := HLn.out.1; rw [HM.out] at this ⊢; omega)])
        cases hat : atN y with
        | some nv =>
          have HAt := Lib.hid (fun W => atoi_good y hy nv (atN_some hat) W)
          have HPW : Hid (lnW atN ps R (i + 1) = putY Z i nv) := Lib.hid (by rw [lnW, HY.out, HGy.out]; unfold putW; rw [hat, HAd.out])
          clear hat
          have HS2 := HS
          go_wp2_with fail
          have hB2 : B ≤ wr.heap.size := Nat.le_trans hB1 HS2.out.stay.1
          refine (HAt.out _).mono ?_
          rintro e w3 ⟨rfl, hb3⟩
          have HS3 := Lib.hid (HS2.out.step hB2 hb3)
          have hB3 : B ≤ w3.heap.size := Nat.le_trans hB2 hb3.size
          have hlen2 : Z.length = m1 := by exact HM.out
          obtain ⟨g2, c3, e⟩ := HS3.out.own.rows (by omega)
          injection e with e1 e2 e3
          subst e1 e3
          obtain ⟨l, hl⟩ := get_at (k := i) hlen2 (by omega)
          have HLl := Lib.hid hl
          obtain ⟨ml, hml⟩ : ∃ ml, l.length = ml := ⟨_, rfl⟩
          have HML := Lib.hid hml
          have hml2 : ml ≤ 200000000 := by have h7 := row_len hl; have h8 := HLn.out.2.2.2; omega
          obtain ⟨u, hu, -, hou, -⟩ := HS3.out.own.cell hl
          obtain ⟨au, cu, rfl⟩ := own_form hou
          rw [hml] at hu hou
          have HOU := Lib.hid hou
          have HU := Lib.hid hu
          have HLe : Hid ((putY Z i nv).length = m1) := Lib.hid (by rw [putY_len]; exact hlen2)
          have hi2 : (i : Int) < ((m1 : Nat) : Int) := by omega
          clear hou hl hml hb3 e2 hlen2
          go_wp2_with (at_builtin; refine wpList_append_own_at _ rfl _ _ 46 rfl B 3 i0 (.int .i64 0) 1 8 Tryd.underlying46 hi hz0 hz1 hz2 rfl (by decide) _ ml (intV l) rfl (HOU.out.alloc _) ⟨w3.heap.size, 0, none⟩ 1 1 [.int .i64 nv] rfl rfl (cell_val_new _ _ _) (by simp [Value.oneCell']) (by unfold maxLen; omega) (by omega) (by simp; omega) ?_; intro v5 w5 ho5 hg5 hn5 hat5; have HP5 := Lib.hid (HS3.out.put hB3 HLl.out HML.out HU.out ho5 hg5 hat5); obtain ⟨y5, p2⟩ := HP5.out.2.1; have p3 := HP5.out.2.2; obtain ⟨a6, c6, rfl⟩ := own_form ho5; clear ho5 hg5 hn5 hat5)
          exact ⟨⟨i + 1, _, _, _, by omega, by go_num, rfl, Lib.hid (by rw [HPW.out]; exact HLe.out), Lib.hid (by rw [HPW.out]; exact HP5.out.1)⟩, by simp [intOf]; omega⟩
        | none =>
          have HAt := Lib.hid (fun W hE => atoi_bad y hy (atN_none hat) W hE)
          have HPW : Hid (lnW atN ps R (i + 1) = Z) := Lib.hid (by rw [lnW, HY.out, HGy.out]; unfold putW; rw [hat, HAd.out])
          clear hat
          have HS2 := HS
          go_wp2_with fail
          have hB2 : B ≤ wr.heap.size := Nat.le_trans hB1 HS2.out.stay.1
          refine (HAt.out _ (HE.out _ HS2.out.bel)).mono ?_
          rintro e w3 ⟨xe, ne, rfl, hb3⟩
          have HS3 := Lib.hid (HS2.out.step hB2 hb3)
          clear hb3
          go_wp2_with fail
          exact ⟨⟨i + 1, _, _, _, by omega, by go_num, rfl, Lib.hid (by rw [HPW.out]; exact HM.out), Lib.hid (by rw [HPW.out]; exact HS3.out)⟩, by simp [intOf]; omega⟩
    · obtain rfl : i = np := by omega
      go_wp2_with fail
      go_ret
      exact ⟨_, rfl, by rw [HY.out]; exact ⟨HS.out.own, HS1.out.bel.trans HS.out.bel, HS1.out.stay.trans HS.out.stay⟩⟩

set_option maxRecDepth 100000 in
set_option maxHeartbeats 4000000 in
theorem putLine_big (v : Value) (R : List (List Int)) (x : ByteArray) (B : Nat) (hx : 4000 < x.size) (w : World) (h : OwnY w B w.heap.size v R) (hB : B ≤ w.heap.size) :
    Calls Tryd.prog 27 #[v, .string x] w fun e w' => ∃ v', e = .returned v' ∧ LnS B w w' v' R := by
  have HSp := Lib.hid (split_bad x ⟨#[32]⟩ (.inl hx) w)
  obtain ⟨a, c, rfl⟩ := h.form
  have HO := Lib.hid h
  obtain ⟨m, hm⟩ : ∃ m, R.length = m := ⟨_, rfl⟩
  rw [hm] at HO ⊢
  clear h hm
  go_enter Tryd.func27, Tryd.ntmps27
  go_wp2_with fail
  refine HSp.out.mono ?_
  rintro e w1 ⟨vs, rfl, hrow, hb⟩
  obtain ⟨a9, cs, rfl⟩ := own_form hrow
  have HS1 := Lib.hid (LnS.step (w1 := w) ⟨HO.out, Below.refl _ _, StayO.refl _⟩ hB hb)
  clear hrow hb
  rw [show ([] : List ByteArray).length = 0 from rfl]
  go_wp2_with fail
  go_loopw [0, 18] (fun rv ii wr => rv = .slice a m c ∧ ii = .int .i64 0 ∧ Hid (LnS B w wr (.slice a m c) R)) (fun _ _ _ => 0)
  case atStart => exact ⟨rfl, rfl, HS1⟩
  case round =>
    obtain ⟨rfl, rfl, HS⟩ := hrel
    go_wp2_with fail
    go_ret
    exact ⟨_, rfl, HS.out⟩
/-- The rows with a line more. -/
def lineF (R : List (List Int)) (x : ByteArray) : List (List Int) := if x.size ≤ 4000 then lnW atN (pieces x 32) R (pieces x 32).length else R
theorem putLine_all (v : Value) (R : List (List Int)) (x : ByteArray) (B : Nat) (h1 : R.length + 5000 ≤ 100000000) (h2 : tot R + 5000 ≤ 100000000) (w : World) (h : OwnY w B w.heap.size v R) (hB : B ≤ w.heap.size) (hE : ∀ W, Below B w W → ErrVars W) :
    Calls Tryd.prog 27 #[v, .string x] w fun e w' => ∃ v', e = .returned v' ∧ LnS B w w' v' (lineF R x) := by
  have hp := pieces_size x 32
  unfold lineF
  by_cases hx : x.size ≤ 4000
  · rw [if_pos hx]
    exact putLine_any v R x B hx (by omega) (by omega) w h hB hE
  · rw [if_neg hx]
    exact putLine_big v R x B (by omega) w h hB
theorem lineF_len (R : List (List Int)) (x : ByteArray) : (lineF R x).length ≤ R.length + 4001 ∧ tot (lineF R x) ≤ tot R + 4001 := by
  have hp := pieces_size x 32
  have h := lnW_len atN (pieces x 32) R (pieces x 32).length
  unfold lineF
  split
  · omega
  · omega
/-- The rows with the lines that an iterator yielded. -/
def linesF (pre : List (Int × ByteArray)) : List (List Int) := pre.foldl (fun R p => lineF R p.2) []
theorem linesF_snoc (pre : List (Int × ByteArray)) (p : Int × ByteArray) : linesF (pre ++ [p]) = lineF (linesF pre) p.2 := by simp [linesF]
theorem linesF_len (pre : List (Int × ByteArray)) : (linesF pre).length ≤ 4001 * pre.length ∧ tot (linesF pre) ≤ 4001 * pre.length := by
  have key : ∀ (l : List (Int × ByteArray)) (R : List (List Int)), (l.foldl (fun R p => lineF R p.2) R).length ≤ R.length + 4001 * l.length ∧ tot (l.foldl (fun R p => lineF R p.2) R) ≤ tot R + 4001 * l.length := by
    intro l
    induction l with
    | nil => intro R; simp
    | cons p l ih =>
      intro R
      have h1 := lineF_len R p.2
      have h2 := ih (lineF R p.2)
      simp only [List.foldl_cons, List.length_cons]
      omega
  have := key pre []
  simp only [List.length_nil, Nat.zero_add, show tot [] = 0 from rfl] at this
  exact this
end Go.Proofs.YtfbeoficgkkamaaDoor
