/-
  What impl.GreedyStowage returns. No statement of the seat by itself.
-/
import Derived.Test.YtpflnjjckeeihaaZGrF
import Derived.Test.YtpflnjjckeeihaaApart
import Derived.Test.YtpflnjjckeeihaaZV
import Derived.Test.YtpflnjjckeeihaaClone
namespace Go.Proofs.Ytpflnjjckeeihaa
open Go.RowKit

/-- One row is another one now, and the cell that leads to it has been written; the list lies apart. -/
theorem OwnYD.repl {w w' : World} {B hi g n cap k : Nat} {Y : List (List Int)} {l' D : List Int} {ul x x' : Value} (h : OwnYD w B hi (.slice (some ⟨g, 0, none⟩) n cap) Y ul D) (hk : k < Y.length) (hx : w.cell? ⟨g, k, none⟩ = some x)
    (hg : w.grownBy w' x.ownBlock) (ho : w'.ownsRow B 3 1 x' l'.length (intV l')) (hat : ∀ b, x'.ownBlock = some b → x.ownBlock = some b ∨ hi ≤ b) :
    OwnYD (w'.setCell ⟨g, k, none⟩ x') B w'.heap.size (.slice (some ⟨g, 0, none⟩) n cap) (Y.set k l') ul D := by
  obtain ⟨p1, p2⟩ := h.1.repl hk hx hg ho hat
  obtain ⟨r1, r2, r3, r4⟩ := h.row (List.getElem?_eq_getElem hk) hx
  have ht := own_tab h.1
  have hug := tab_list h
  have hl1 : w'.ownsRow B 3 1 ul D.length (intV D) := h.2.1.2.1.kept hg (by
    cases hu : ul.ownBlock with
    | none => exact .inl rfl
    | some b => exact .inr fun e => r4 b hu e.symm)
  have hlt : ∀ b, ul.ownBlock = some b → b < hi := h.2.1.2.2
  refine ⟨p1, ⟨by simp, hl1.kept p2 (.inr hug), fun b hb => row_lt hl1 b hb⟩, fun g2 n2 c2 e j y hj hy b hb => ?_⟩
  injection e with e1 e2 e3
  injection e1 with e1
  injection e1 with e1 _ _
  subst e1
  subst e2
  by_cases ej : j = k
  · subst ej
    have hc : w'.cell? ⟨g, j, none⟩ = some x := by
      rw [World.cell?_of_block (a := ⟨g, j, none⟩) (hg.block g ht.2.2.1 (fun e => r3 e.symm))]; exact hx
    rw [World.cell?_setCell_same _ _ x' hc] at hy
    cases hy
    intro e2
    rcases hat b e2 with e3 | e3
    · exact r4 b hb e3
    · have := hlt b hb; omega
  · rw [World.cell?_setCell_other _ _ _ _ (by first | (simp; done) | (simp; omega)), World.cell?_of_block (a := ⟨g, j, none⟩) (hg.block g ht.2.2.1 (fun e => r3 e.symm))] at hy
    exact h.2.2 g n cap rfl j y hj hy b hb

/-- While the rule goes on: the stowage's box, the rows, the plan. -/
def GrZ (w wr : World) (r h : Int) (v0 : Value) (g q c : Nat) (Y : List (List Int)) (sv : Value) (O : List Int) : Prop :=
  wr.heap[w.heap.size]? = some (.cells #[.int .i64 r, .int .i64 h, v0] 26 (0, 0)) ∧ OwnYD wr (w.heap.size + 1) wr.heap.size (.slice (some ⟨g, 0, none⟩) q c) Y sv O ∧ Below w.heap.size w wr
theorem GrZ.size {w wr : World} {r h : Int} {v0 sv : Value} {g q c : Nat} {Y : List (List Int)} {O : List Int} (z : GrZ w wr r h v0 g q c Y sv O) : w.heap.size + 1 ≤ wr.heap.size := (Array.getElem?_eq_some_iff.1 z.1).1
theorem GrZ.grow {w wr w5 : World} {r h : Int} {v0 sv x x' : Value} {g q c k : Nat} {Y : List (List Int)} {l' O : List Int} (o : Obj) (z : GrZ w wr r h v0 g q c Y sv O) (hk : k < Y.length) (hx : wr.cell? ⟨g, k, none⟩ = some x)
    (hg : (wr.alloc o).grownBy w5 x.ownBlock) (ho : w5.ownsRow (w.heap.size + 1) 3 1 x' l'.length (intV l')) (hat : x'.ownBlock = x.ownBlock ∨ x'.ownBlock = some (wr.alloc o).heap.size) :
    GrZ w (w5.setCell ⟨g, k, none⟩ x') r h v0 g q c (Y.set k l') sv O := by
  obtain ⟨z1, z2, z3⟩ := z
  have hs : w.heap.size < wr.heap.size := (Array.getElem?_eq_some_iff.1 z1).1
  have hgr : wr.grownBy w5 x.ownBlock := Lib.grownBy_trans (World.grownBy_alloc wr o _) hg
  have ht := own_tab z2.1
  obtain ⟨r1, r2, r3, r4⟩ := z2.row (List.getElem?_eq_getElem hk) hx
  have hxb : ∀ b, x.ownBlock = some b → w.heap.size + 1 ≤ b := fun b hb => row_base r1 b hb
  have p := z2.repl hk hx hgr ho (fun b hb => by
    rcases hat with e | e
    · exact .inl (e ▸ hb)
    · rw [e] at hb; injection hb with hb; exact .inr (by rw [← hb]; simp))
  refine ⟨?_, ⟨p.1.mono (Nat.le_refl _) (by simp) (Nat.le_refl _), ⟨Nat.le_refl _, p.2.1.2.1, fun b hb => row_lt p.2.1.2.1 b hb⟩, p.2.2⟩, ?_⟩
  · have h1 : w5.heap[w.heap.size]? = wr.heap[w.heap.size]? := hgr.block _ hs (fun e => by have := hxb _ e.symm; omega)
    have h2 := ((Below.refl (w.heap.size + 1) w5).setCell (p := ⟨g, k, none⟩) ht.1 x').block w.heap.size (Nat.lt_succ_self _)
    exact (h2.trans h1).trans z1
  · exact (z3.grown hgr z3.size (fun b hb => by have := hxb b hb; omega)).setCell (p := ⟨g, k, none⟩) (by show w.heap.size ≤ g; have := ht.1; omega) _
theorem GrZ.list {w wr w5 : World} {r h : Int} {v0 sv sv' : Value} {g q c : Nat} {Y : List (List Int)} {O O' : List Int} (o : Obj) (z : GrZ w wr r h v0 g q c Y sv O)
    (hg : (wr.alloc o).grownBy w5 sv.ownBlock) (ho : w5.ownsRow (w.heap.size + 1) 3 1 sv' O'.length (intV O')) (hat : sv'.ownBlock = sv.ownBlock ∨ sv'.ownBlock = some (wr.alloc o).heap.size) :
    GrZ w w5 r h v0 g q c Y sv' O' := by
  obtain ⟨z1, z2, z3⟩ := z
  have hs : w.heap.size < wr.heap.size := (Array.getElem?_eq_some_iff.1 z1).1
  have hgr : wr.grownBy w5 sv.ownBlock := Lib.grownBy_trans (World.grownBy_alloc wr o _) hg
  have hxb : ∀ b, sv.ownBlock = some b → w.heap.size + 1 ≤ b := fun b hb => row_base z2.2.1.2.1 b hb
  refine ⟨(hgr.block _ hs (fun e => by have := hxb _ e.symm; omega)).trans z1, ?_, z3.grown hgr z3.size (fun b hb => by have := hxb b hb; omega)⟩
  exact z2.list hgr ho hgr.size (Nat.le_refl _) fun b hb => ⟨by
    rcases hat with e | e
    · exact .inl (e ▸ hb)
    · rw [e] at hb; injection hb with hb; exact .inr (by rw [← hb]; simp), row_lt ho b hb⟩
theorem GrZ.drew {w wr : World} {r h : Int} {v0 sv : Value} {g q c : Nat} {Y : List (List Int)} {O : List Int} (z : GrZ w wr r h v0 g q c Y sv O) : GrZ w wr.drew r h v0 g q c Y sv O :=
  ⟨z.1, z.2.1.below (Below.refl _ wr).drew, z.2.2.drew⟩
/-- The next container is put on its row. -/
theorem GrZ.put {w wr w5 : World} {r h : Int} {v0 sv u v' : Value} {g q c k m : Nat} {Y : List (List Int)} {l : List Int} {x : Int} {O : List Int} {o : Obj} (z : GrZ w wr r h v0 g q c Y sv O) (hl : Y[k]? = some l) (hm : l.length = m) (hu : wr.cell? ⟨g, k, none⟩ = some u)
    (ho : w5.ownsRow (w.heap.size + 1) 3 1 v' (m + 1) (intV l ++ [.int .i64 x])) (hg : (wr.alloc o).grownBy w5 u.ownBlock) (hat : v'.ownBlock = u.ownBlock ∨ v'.ownBlock = some (wr.alloc o).heap.size) :
    GrZ w (w5.setCell ⟨g, k, none⟩ v') r h v0 g q c (putY Y k x) sv O ∧ (∃ y, w5.cell? ⟨g, k, none⟩ = some y) ∧ w5.frozen? ⟨g, k, none⟩ = false := by
  have e : intV l ++ [.int .i64 x] = intV (l ++ [x]) := by simp [intV]
  have em : m + 1 = (l ++ [x]).length := by simp [hm]
  rw [e, em] at ho
  rw [putY_of hl]
  refine ⟨z.grow o (lt_of_get hl) hu hg ho hat, ?_⟩
  obtain ⟨u2, hu2, hfz, -, -⟩ := z.2.1.1.cell hl
  obtain ⟨r1, r2, r3, r4⟩ := z.2.1.row hl hu
  have ht := own_tab z.2.1.1
  have hgr : wr.grownBy w5 u.ownBlock := Lib.grownBy_trans (World.grownBy_alloc wr o _) hg
  have hb := hgr.block g ht.2.2.1 (fun e => r3 e.symm)
  exact ⟨⟨u2, (World.cell?_of_block (w := wr) (a := ⟨g, k, none⟩) hb).trans hu2⟩, (World.frozen?_of_block (w := wr) (a := ⟨g, k, none⟩) hb).trans hfz⟩
theorem GrZ.push {w wr w5 : World} {r h : Int} {v0 sv v' : Value} {g q c i : Nat} {Y : List (List Int)} {O : List Int} {x : Int} {o : Obj} (z : GrZ w wr r h v0 g q c Y sv O) (hi : O.length = i)
    (ho : w5.ownsRow (w.heap.size + 1) 3 1 v' (i + 1) (intV O ++ [.int .i64 x])) (hg : (wr.alloc o).grownBy w5 sv.ownBlock) (hat : v'.ownBlock = sv.ownBlock ∨ v'.ownBlock = some (wr.alloc o).heap.size) : GrZ w w5 r h v0 g q c Y v' (O ++ [x]) := by
  have e : intV O ++ [.int .i64 x] = intV (O ++ [x]) := by simp [intV]
  have em : i + 1 = (O ++ [x]).length := by simp [hi]
  rw [e, em] at ho
  exact z.list o hg ho hat
theorem gr_rows {q H : Nat} {P : List Int} (hP : ∀ x ∈ P, 1 ≤ x ∧ x ≤ 9) (hH : H ≤ 4) {i : Nat} (h : GrI q H P i) : ∀ l ∈ grY q H P i, l.length ≤ 4 ∧ 0 ≤ earL l := by
  intro l hl
  refine ⟨Nat.le_trans (h.low l hl) hH, ?_⟩
  rcases Int.lt_or_le (earL l) 0 with e | e
  · rw [earL_lt] at e
    rcases e with e | ⟨a, ha, hax⟩
    · omega
    · obtain ⟨j, hj⟩ := List.getElem?_of_mem hl
      have hjq : j < q := by have := lt_of_get hj; rwa [grY_len] at this
      have e2 := prY_row (q := q) (P := P) (O := grO q H P i) hjq i
      have e3 : grY q H P i = prY q P (grO q H P i) i := rfl
      rw [e3, e2] at hj
      cases hj
      obtain ⟨y, hy, rfl⟩ := List.mem_map.1 ha
      unfold ptZ at hax
      rcases Nat.lt_or_ge (y - 1).toNat P.length with hlt | hge
      · have := hP (P.getD (y - 1).toNat 0) (by rw [List.getD, List.getElem?_eq_getElem hlt]; exact List.getElem_mem _)
        omega
      · rw [List.getD, List.getElem?_eq_none hge] at hax
        simp at hax
  · exact e

set_option maxRecDepth 100000 in
set_option maxHeartbeats 16000000 in
theorem implGr_any (v : Value) (r h : Int) (P : List Int) (hn : P.length ≤ 1048576) (w : World) (hv : StR w v r h P) :
    Calls Try.prog 21 #[v] w (RetLX w (grR r h P) (grX r h P) (goodZ r h P)) := by
  obtain ⟨f3, hi3, hz0, hz1, hz2⟩ := info_is info3
  obtain ⟨v0, rfl, hv⟩ := hv
  have HA := Lib.hid (heap_alloc_new w (.cells #[.int .i64 r, .int .i64 h, v0] 26))
  have B0 := Lib.hid (below_one w (.cells #[.int .i64 r, .int .i64 h, v0] 26))
  have HV := Lib.hid hv
  have c0 := cell_of (i := 0) HA.out rfl
  have c1 := cell_of (i := 1) HA.out rfl
  have c2 := cell_of (i := 2) HA.out rfl
  have d0 := fun o => (World.cell?_alloc_lt (w.alloc (.cells #[.int .i64 r, .int .i64 h, v0] 26)) o ⟨w.heap.size, 0, none⟩ (by simp)).trans c0
  have d1 := fun o => (World.cell?_alloc_lt (w.alloc (.cells #[.int .i64 r, .int .i64 h, v0] 26)) o ⟨w.heap.size, 1, none⟩ (by simp)).trans c1
  have d2 := fun o => (World.cell?_alloc_lt (w.alloc (.cells #[.int .i64 r, .int .i64 h, v0] 26)) o ⟨w.heap.size, 2, none⟩ (by simp)).trans c2
  have B1 := Lib.hid (B0.out.trans ((below_one (w.alloc (.cells #[.int .i64 r, .int .i64 h, v0] 26)) (.cells #[] 3)).mono B0.out.size))
  have HF := Lib.hid (implValidZ_any (.agg #[.int .i64 r, .int .i64 h, v0]) r h P hn _ ⟨v0, rfl, hv.below B1.out⟩)
  have HE := Lib.hid (show ((w.alloc (.cells #[.int .i64 r, .int .i64 h, v0] 26)).alloc (.cells #[] 3)).ownsRow (w.heap.size + 1) 3 1 (.slice (some ⟨w.heap.size + 1, 0, none⟩) 0 0) 0 (intV []) by
    have := own_empty (w.alloc (.cells #[.int .i64 r, .int .i64 h, v0] 26)) (.cells #[] 3) 3 rfl
    rw [show (w.alloc (.cells #[.int .i64 r, .int .i64 h, v0] 26)).heap.size = w.heap.size + 1 by simp] at this
    exact this)
  have HA2 := Lib.hid ((heap_alloc_old (w.alloc (.cells #[.int .i64 r, .int .i64 h, v0] 26)) (.cells #[] 3) w.heap.size (by simp)).trans HA.out)
  obtain ⟨a, cc, rfl⟩ := hv.form
  clear hv
  cases hg : goodZ r h P with
  | false =>
    have HX := Lib.hid (gr_no hg)
    rw [hg] at HF
    clear hg
    go_enter Try.func21, Try.ntmps21
    go_wp2_with fail
    refine HF.out.mono ?_
    rintro e w1 ⟨rfl, hb⟩
    have HE1 := Lib.hid (row_below HE.out hb)
    have B2 := Lib.hid (B1.out.trans (hb.mono B1.out.size))
    clear hb c0 c1 c2 d0 d1 d2
    go_wp2_with fail
    go_ret3
    rw [HX.out.1, HX.out.2]
    exact ⟨_, _, rfl, ⟨Nat.le_refl _, HE1.out.mono (by omega), fun b hb => row_lt HE1.out b hb⟩, B2.out⟩
  | true =>
    rw [hg] at HF
    obtain ⟨g1, g2, g3, g4, g5, g6, g7⟩ := goodZ_iff.1 hg
    obtain ⟨q, rfl⟩ : ∃ q : Nat, r = (q : Int) := ⟨r.toNat, by omega⟩
    obtain ⟨H, rfl⟩ : ∃ H : Nat, h = (H : Int) := ⟨h.toNat, by omega⟩
    have hq1 : 1 ≤ q := by omega
    have hq5 : q ≤ 5 := by omega
    have hH4 : H ≤ 4 := by omega
    have h6 : P.length ≤ q * H := by
      have : ((q * H : Nat) : Int) = (q : Int) * (H : Int) := Int.natCast_mul q H
      omega
    have HP9 := Lib.hid g7
    have HX := Lib.hid (gr_yes hg)
    have HOk := Lib.hid (gr_ok hg)
    have HI := Lib.hid (GrI.all (q := q) (H := H) (P := P) h6)
    have HGs := Lib.hid (implSh_any (.agg #[.int .i64 (q : Int), .int .i64 (H : Int), .slice a P.length cc]) (.slice none 0 0) (q : Int) (H : Int) P [])
    obtain ⟨n, hnP⟩ : ∃ n, P.length = n := ⟨_, rfl⟩
    have HN := Lib.hid hnP
    have hgood := Lib.hid hg
    rw [hnP] at HF HV HA HA2 B0 B1 HE hn c0 c1 c2 d0 d1 d2 g5 h6 HI HX HOk ⊢
    clear hg g1 g2 g3 g4 g6 g7 hnP HGs
    go_enter Try.func21, Try.ntmps21
    go_wp2_with fail
    refine HF.out.mono ?_
    rintro e w1 ⟨rfl, hb⟩
    have HE1 := Lib.hid (row_below HE.out hb)
    have B2 := Lib.hid (B1.out.trans (hb.mono B1.out.size))
    have hA1 := (hb.block _ (mem_lt HA2.out)).trans HA2.out
    have HA1 := Lib.hid hA1
    have e0 := cell_of (i := 0) hA1 rfl
    have e2 := fun o => (World.cell?_alloc_lt w1 o ⟨w.heap.size, 2, none⟩ (mem_lt hA1)).trans (cell_of (i := 2) hA1 rfl)
    obtain ⟨hmk, hyo⟩ := make_nils q (by omega) w1
    rw [List.toArray_replicate] at hyo
    have BM := below_one w1 (.cells (Array.replicate q (Value.slice none 0 0)) 24)
    have HSt : Hid (GrZ w (w1.alloc (.cells (Array.replicate q (Value.slice none 0 0)) 24)) (q : Int) (H : Int) (.slice a n cc) w1.heap.size q q (grY q H P 0) (.slice (some ⟨w.heap.size + 1, 0, none⟩) 0 0) (grO q H P 0)) := Lib.hid (by
      have hz : w.heap.size + 2 ≤ w1.heap.size := by have := hb.size; simp at this; omega
      have hl0 := row_below HE1.out BM
      refine ⟨(BM.block _ (mem_lt hA1)).trans hA1, ⟨hyo.mono (by omega) (Nat.le_refl _) (Nat.le_refl _), ⟨Nat.le_refl _, hl0, fun b hb => row_lt hl0 b hb⟩, ?_⟩, B2.out.trans (BM.mono B2.out.size)⟩
      intro g2 n2 c2 e j y hj hy b hb2
      injection e with e1 e2 e3
      injection e1 with e1
      injection e1 with e1 _ _
      subst e1
      subst e2
      have hh := cell_of (i := j) (w := w1.alloc (.cells (Array.replicate q (Value.slice none 0 0)) 24)) (heap_alloc_new w1 (.cells (Array.replicate q (Value.slice none 0 0)) 24)) (x := .slice none 0 0) (by simp [hj])
      rw [hh] at hy
      cases hy
      intro e; cases e)
    clear hb c0 c1 c2 d0 d1 d2 hA1 hyo HE1
    go_wp2_with fail
    clear e0 e2 hmk BM
    generalize w1.alloc (.cells (Array.replicate q (Value.slice none 0 0)) 24) = w2 at *
    generalize w1.heap.size = g at *
    go_loopw [5, 23] (fun x5 x23 wr => ∃ (i : Nat) (a5 : Option Addr) (c5 : Nat), i ≤ n ∧ x23 = .int .i64 i ∧ x5 = .slice a5 i c5 ∧ Hid (GrZ w wr (q : Int) (H : Int) (.slice a n cc) g q q (grY q H P i) (.slice a5 i c5) (grO q H P i))) (fun _ x23 _ => n - (intOf x23).toNat)
    case atStart => exact ⟨0, _, _, Nat.zero_le _, rfl, rfl, HSt⟩
    case round =>
      obtain ⟨i, a5, c5, hi, rfl, rfl, HZ⟩ := hrel
      by_cases hlt : i < n
      · obtain ⟨gp, offp, rfl, hgp, hcp⟩ : ∃ go offo, a = some ⟨go, offo, none⟩ ∧ go < w.heap.size ∧ ∀ i x, P[i]? = some x → w.cell? ⟨go, offo + i, none⟩ = some (.int .i64 x) := by
          obtain ⟨a', c', e, hh⟩ := HV.out
          injection e with e1 e2 e3
          subst e1
          exact hh (by have := HN.out; omega)
        obtain ⟨x, hx⟩ := get_at HN.out hlt
        have o1 := (HZ.out.2.2.cell (p := ⟨gp, offp + i, none⟩) hgp).trans (hcp i x hx)
        have b1 := cell_of (i := 1) HZ.out.1 rfl
        have HIi := Lib.hid (HI.out i (by omega))
        obtain ⟨k, hk, hkK, hkq, l, hl, hlH⟩ := HIi.out.pick (by omega) x
        obtain ⟨u, hu, -, hou, -⟩ := HZ.out.2.1.1.cell hl
        obtain ⟨a4, c4, rfl⟩ := own_form hou
        have HG := Lib.hid (greedyRow_any (some ⟨g, 0, none⟩) q q H k x (grY q H P i) (grY_len _ _ _ _) hq5 hH4 (gr_rows HP9.out hH4 HIi.out) hk wr HZ.out.2.1.1.yl)
        obtain ⟨m, hm⟩ : ∃ m, l.length = m := ⟨_, rfl⟩
        have HM := Lib.hid hm
        have HL := Lib.hid hl
        have HYn : Hid (grY q H P (i + 1) = putY (grY q H P i) k x) := Lib.hid (by rw [grY_next hx, hkK])
        have HOn : Hid (grO q H P (i + 1) = grO q H P i ++ [(k : Int)]) := Lib.hid (by
          have hd : P.getD i 0 = x := by simp [List.getD, hx]
          have e2 : grK H (prY q P (grO q H P i) i) x = k := hkK
          rw [grO, hd, e2])
        rw [hm] at hu hou hlH
        have HO4 := Lib.hid hou
        have hkI : (k : Int) < (q : Int) := by omega
        have hm4 : m ≤ 4 := by omega
        have ht := own_tab HZ.out.2.1.1
        have hltg := ht.2.2.1
        have hlow := ht.1
        have huB := fun o => (World.cell?_alloc_lt wr o ⟨g, k, none⟩ hltg).trans hu
        have HP := Lib.hid (fun (w5 : World) (v' : Value) (o : Obj) (ho : w5.ownsRow (w.heap.size + 1) 3 1 v' (m + 1) (intV l ++ [.int .i64 x])) (hg : (wr.alloc o).grownBy w5 (Value.slice a4 m c4).ownBlock) (hat : v'.ownBlock = (Value.slice a4 m c4).ownBlock ∨ v'.ownBlock = some (wr.alloc o).heap.size) => HZ.out.put HL.out HM.out hu ho hg hat)
        have hzz : w.heap.size + 1 ≤ wr.heap.size := by omega
        clear hk hkK hl hlH hx ht hcp hm
        go_wp2_with fail
        refine HG.out.mono ?_
        rintro e w3 ⟨rfl, rfl⟩
        go_upto_region 10 with (at_builtin; refine wpList_append_own_at _ rfl _ _ 24 rfl (w.heap.size + 1) 3 f3 (.int .i64 0) 1 8 Try.underlying24 hi3 hz0 hz1 hz2 rfl (by decide) _ _ _ rfl (hou.alloc _) ⟨wr.heap.size, 0, none⟩ 1 1 [.int .i64 x] rfl rfl (cell_one_new _ _ _) (by simp [Value.oneCell']) (by unfold maxLen; omega) (by omega) (by simp; omega) ?_; intro v5 w5 ho5 hg5 hnil5 hat5; have HP5 := Lib.hid (HP.out w5 v5 _ ho5 hg5 hat5); obtain ⟨y5, p2⟩ := HP5.out.2.1; have p3 := HP5.out.2.2; obtain ⟨a6, c6, rfl⟩ := own_form ho5; clear ho5 hg5 hat5 hnil5)
        have hcut := Lib.hid HP5.out.1
        clear HP5 p2 p3 y5 hou hu huB o1 b1
        generalize w5.setCell ⟨g, k, none⟩ (.slice a6 (m + 1) c6) = wc at *
        have hrow := hcut.out.2.1.2.1.2.1
        rw [grO_len] at hrow
        have hzc : w.heap.size + 1 ≤ wc.heap.size := hcut.out.size
        go_wp2_with (at_builtin; refine wpList_append_own_at _ rfl _ _ 24 rfl (w.heap.size + 1) 3 f3 (.int .i64 0) 1 8 Try.underlying24 hi3 hz0 hz1 hz2 rfl (by decide) _ _ _ rfl (hrow.alloc _) ⟨wc.heap.size, 0, none⟩ 1 1 [.int .i64 (k : Int)] rfl rfl (cell_one_new _ _ _) (by simp [Value.oneCell']) (by unfold maxLen; omega) (by omega) (by simp; omega) ?_; intro v' w8 hown' hgrow hnil hat)
        have HN4 := Lib.hid (hcut.out.push (grO_len q H P i) hown' hgrow hat)
        rw [← HYn.out, ← HOn.out] at HN4
        obtain ⟨a7, c7, rfl⟩ := own_form hown'
        clear hown' hgrow hnil hat hrow
        exact ⟨⟨i + 1, _, _, by omega, by go_num, rfl, HN4⟩, by simp [intOf]; omega⟩
      · obtain rfl : i = n := by omega
        have hrow := HZ.out.2.1.2.1.2.1
        have HRow := Lib.hid hrow
        have HC := Lib.hid (implSh_any (.agg #[.int .i64 (q : Int), .int .i64 (H : Int), .slice a i cc]) (.slice a5 i c5) (q : Int) (H : Int) P (grO q H P i) (by have := HN.out; omega) (by rw [grO_len]; omega) wr ⟨_, rfl, by have := HV.out.below HZ.out.2.2; rw [← HN.out] at this ⊢; exact this⟩ (il_of_owns hrow))
        rw [HOk.out, shR_yes HOk.out, grO_len] at HC
        have b0 := cell_of (i := 0) HZ.out.1 rfl
        have b1 := cell_of (i := 1) HZ.out.1 rfl
        have b2 := cell_of (i := 2) HZ.out.1 rfl
        clear hrow
        go_wp2_with fail
        refine HC.out.mono ?_
        rintro e w9 ⟨a9, c9, rfl, hl9, hb9⟩
        have B9 := Lib.hid (HZ.out.2.2.trans (hb9.mono HZ.out.2.2.size))
        have HR9 := Lib.hid ((row_below HRow.out hb9).mono (base' := w.heap.size) (by omega))
        clear hb9 hl9 b0 b1 b2
        go_wp2_with fail
        go_ret3
        rw [HX.out.1, HX.out.2]
        exact ⟨a5, c5, by rw [grO_len]; rfl, ⟨Nat.le_refl _, by have := HR9.out; rw [grO_len] at this ⊢; exact this, fun b hb => row_lt HR9.out b (by rw [grO_len] at hb; exact hb)⟩, B9.out⟩
end Go.Proofs.Ytpflnjjckeeihaa
