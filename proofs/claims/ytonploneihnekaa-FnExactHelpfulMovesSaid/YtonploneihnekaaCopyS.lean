/-
  Copies of yards: spec.l5Own. No statement of the seat by itself.
-/
import Derived.Test.YtonploneihnekaaOwn
import Derived.Deep.RegionLaw
import Derived.Handy
namespace Go.Proofs.Ytonploneihnekaa
open Go.RowKit

theorem Rows2.below {w w' : World} {B hi : Nat} {us : List Value} {Y : List (List Int)} (h : Rows2 w B hi us Y) (hb : Below w.heap.size w w') : Rows2 w' B hi us Y :=
  ⟨h.1, fun j u l hu hl => ⟨row_below (h.2.1 j u l hu hl).1 hb, (h.2.1 j u l hu hl).2⟩, h.2.2⟩
/-- append of one row onto a row of rows, inside a region that draws its order. -/
theorem step_rows {ops : Array Oper} {o : Oper} {a : Act} {w : World} {K : Act → World → Prop} {Q : Exit → Act → World → Prop} {E : Prop} (hgd : o.guard = none) (s x : Operand)
    (ho : o.op = .call { callee := .builtin .append, args := #[s, x], argTypes := #[22, 22] }) (base : Nat) (v : Value) (n : Nat) (xs : List Value) (hs : a.eval s = v) (hown : w.ownsRow base 44 1 v n xs)
    (ad : Addr) (c : Nat) (u : Value) (hx : a.eval x = .slice (some ad) 1 c) (hnews : ∀ j y, ([u] : List Value)[j]? = some y → w.cell? (ad.add j) = some y) (h1 : u.oneCell' = true)
    (hb : n ≤ 1048576) (hbase : base ≤ w.heap.size)
    (h : ∀ v' w', w'.ownsRow base 44 1 v' (n + 1) (xs ++ [u]) → w.grownBy w' v.ownBlock → K (a.put o.dst v') w') :
    if Region.wanted o (yielded ops a.tmps) = true then Oper.wp Try.prog o a w K Q else E := by
  have hw : Region.wanted o (yielded ops a.tmps) = true := by simp [Region.wanted, hgd]
  obtain ⟨i0, hi, hz0, hz1, hz2⟩ := info_is info38
  rw [if_pos hw]
  exact wp_append_own w s x 22 ho base 44 i0 (.slice none 0 0) 1 24 Try.underlying22 hi hz0 hz1 hz2 rfl (by decide) v n xs hs hown ad 1 c [u] hx rfl hnews (by simpa using h1) (by unfold maxLen; omega) (by omega) hbase (fun v' w' ho hg _ => h v' w' ho hg)
theorem cell_val_new (w : World) (x : Value) (T : TypeId) : ∀ j u, ([x] : List Value)[j]? = some u → (w.alloc (.cells #[x] T)).cell? ((⟨w.heap.size, 0, none⟩ : Addr).add j) = some u := by
  intro j u hj
  have h0 : j = 0 := by
    by_cases h : j = 0
    · exact h
    · rw [List.getElem?_eq_none (by simp; omega)] at hj; cases hj
  subst h0
  simp only [List.getElem?_cons_zero, Option.some.injEq] at hj
  subst hj
  exact cell_of (heap_alloc_new w _) rfl

/-- While the copy grows in its box. -/
def GrowY (w wr : World) (v0 sv : Value) (Z : List (List Int)) : Prop :=
  wr.cell? ⟨w.heap.size, 0, none⟩ = some v0 ∧ wr.heap[w.heap.size + 1]? = some (.cells #[.slice none 0 0] 31 (0, 0)) ∧ wr.heap[w.heap.size + 1 + 1]? = some (.cells #[sv] 31 (0, 0)) ∧
  OwnY wr (w.heap.size + 3) wr.heap.size sv Z ∧ Below w.heap.size w wr ∧ w.heap.size + 3 ≤ wr.heap.size
theorem GrowY.cells {w wr : World} {v0 sv : Value} {Z : List (List Int)} (h : GrowY w wr v0 sv Z) : wr.cell? ⟨w.heap.size, 0, none⟩ = some v0 ∧ wr.cell? ⟨w.heap.size + 1 + 1, 0, none⟩ = some sv := ⟨h.1, cell_of h.2.2.1 rfl⟩
theorem GrowY.step {w wr w1 w4 : World} {v0 sv v' u : Value} {Z : List (List Int)} {l : List Int} {us : List Value} (h : GrowY w wr v0 sv Z) (hus : wr.ownsRow (w.heap.size + 3) 44 1 sv Z.length us) (hr : Rows2 wr (w.heap.size + 3) wr.heap.size us Z)
    (hb1 : Below wr.heap.size wr w1) (ho : w1.ownsRow wr.heap.size 3 1 u l.length (intV l)) (hg : (w1.alloc (.cells #[u] 44)).grownBy w4 sv.ownBlock) (ho' : w4.ownsRow (w.heap.size + 3) 44 1 v' (Z.length + 1) (us ++ [u])) :
    GrowY w (w4.setCell ⟨w.heap.size + 1 + 1, 0, none⟩ v') v0 v' (Z ++ [l]) ∧ w4.cell? ⟨w.heap.size + 1 + 1, 0, none⟩ = some sv ∧ w4.frozen? ⟨w.heap.size + 1 + 1, 0, none⟩ = false := by
  obtain ⟨h1, h2, h3, h4, h5, h6⟩ := h
  have hz1 := hb1.size
  have ba : Below w1.heap.size w1 (w1.alloc (.cells #[u] 44)) := below_one _ _
  have hbW : Below wr.heap.size wr (w1.alloc (.cells #[u] 44)) := hb1.trans (ba.mono hz1)
  have hzW := hbW.size
  have hnb : ∀ k, k < w.heap.size + 3 → some k ≠ sv.ownBlock := fun k hk e => by have := row_base hus k e.symm; omega
  have old : ∀ k, k < w.heap.size + 3 → w4.heap[k]? = wr.heap[k]? := fun k hk => (hg.block k (by omega) (hnb k hk)).trans (hbW.block k (by omega))
  have hB4 : Below w.heap.size w w4 := ((h5.trans (hbW.mono h5.size)).grown hg (by omega) fun j e => by have := row_base hus j e; omega)
  have hP := OwnY.push (h4.below hbW) ⟨row_below hus hbW, hr.below hbW⟩ (row_below (own_base ho fun j hj => by have := row_base ho j hj; omega) ba) (fun b hb => row_base ho b hb) hg ho'
  have c3 := (old (w.heap.size + 1 + 1) (by omega)).trans h3
  have hS : Span (w.heap.size + 1 + 1) (w.heap.size + 3) w4 (w4.setCell ⟨w.heap.size + 1 + 1, 0, none⟩ v') := span_set (Nat.le_refl _) (by omega) v'
  refine ⟨⟨?_, ?_, Lib.heap_setCell_same (i := 0) c3 _, ?_, hB4.setCell (p := ⟨w.heap.size + 1 + 1, 0, none⟩) (by show w.heap.size ≤ w.heap.size + 1 + 1; omega) _, ?_⟩, cell_of c3 rfl, free_of c3⟩
  · rw [set_cell_ne _ _ _ _ _ _ (by omega), World.cell?_of_block (w := wr) (a := ⟨w.heap.size, 0, none⟩) (old _ (by show w.heap.size < _; omega))]
    exact h1
  · rw [Below.heap_setCell w4 ⟨w.heap.size + 1 + 1, 0, none⟩ v' _ (by show w.heap.size + 1 ≠ w.heap.size + 1 + 1; omega)]
    exact (old _ (by omega)).trans h2
  · have := hP.span hS (.inr (by omega))
    simpa using this
  · have := hg.size; simp at this ⊢; omega

set_option maxRecDepth 100000 in
set_option maxHeartbeats 4000000 in
theorem l5Own_any (v : Value) (Y : List (List Int)) (hn : Y.length ≤ 1048576) (ht : tot Y ≤ 1048576) (w : World) (h : YdR w v Y) :
    Calls Try.prog 68 #[v] w (NewYd w Y) := by
  obtain ⟨v0, rfl, a, cap, rfl, hc⟩ := h
  obtain ⟨n, hl⟩ : ∃ n, Y.length = n := ⟨_, rfl⟩
  have HN := Lib.hid hl
  have HC := Lib.hid hc
  rw [hl] at hn
  obtain ⟨hk0, hk1, hk2, hs, hB0⟩ := three_alloc w (.cells #[.slice a n cap] 31) (.cells #[.slice none 0 0] 31) (.cells #[.slice none 0 0] 31)
  have G0 : Hid (GrowY w (((w.alloc (.cells #[.slice a n cap] 31)).alloc (.cells #[.slice none 0 0] 31)).alloc (.cells #[.slice none 0 0] 31)) (.slice a n cap) (.slice none 0 0) (Y.take 0)) := Lib.hid
    ⟨cell_of hk0 rfl, hk1, hk2, by rw [List.take_zero]; exact OwnY.nil _ _ _ (Nat.le_refl _), hB0, by omega⟩
  clear hk0 hk1 hk2 hs hB0 hc
  rw [hl]
  clear hl
  go_enter Try.func68, Try.ntmps68
  go_wp2_with fail
  generalize ((w.alloc (.cells #[.slice a n cap] 31)).alloc (.cells #[.slice none 0 0] 31)).alloc (.cells #[.slice none 0 0] 31) = w0 at *
  go_loopw [4] (fun i wr => ∃ k : Nat, k ≤ n ∧ i = .int .i64 k ∧ Hid (∃ sa cs, GrowY w wr (.slice a n cap) (.slice sa k cs) (Y.take k))) (fun i _ => n - (intOf i).toNat)
  case atStart => exact ⟨0, Nat.zero_le _, rfl, Lib.hid ⟨none, 0, G0.out⟩⟩
  case round =>
    obtain ⟨k, hk, rfl, HR⟩ := hrel
    obtain ⟨sa, cs, hR⟩ := HR.out
    have HR1 := Lib.hid hR
    clear hR HR
    obtain ⟨c0, cO⟩ := HR1.out.cells
    by_cases hlt : k < n
    · obtain ⟨l, hl⟩ := get_at HN.out hlt
      obtain ⟨g, off, rfl, hg, hcc⟩ := HC.out (by have := HN.out; omega)
      obtain ⟨u, hu', hil⟩ := hcc k l hl
      have hu := (HR1.out.2.2.2.2.1.cell (p := ⟨g, off + k, none⟩) hg).trans hu'
      have HZ := Lib.hid (l1Own_any u l (by have := row_len hl; omega) wr.drew (hil.below HR1.out.2.2.2.2.1.drew))
      obtain ⟨a2, c2, rfl⟩ := hil.form
      obtain ⟨us, hus, hr2⟩ := HR1.out.2.2.2.1.2.2
      have hkl : (Y.take k).length = k := by have := HN.out; simp; omega
      have HE := Lib.hid (show Y.take (k + 1) = Y.take k ++ [l] by rw [List.take_add_one, hl]; rfl)
      have HUS := Lib.hid hus
      have HST := Lib.hid (fun (w1 w4 : World) (v' u' : Value) (hb1 : Below wr.heap.size wr w1) ho hg ho' => HR1.out.step (w1 := w1) (w4 := w4) (v' := v') (u := u') (l := l) hus hr2 hb1 ho hg ho')
      rw [hkl] at HST HUS
      clear hcc hl hil hu' hus hr2 hkl
      unfold NewI at HZ
      obtain ⟨m, hm⟩ : ∃ m, l.length = m := ⟨_, rfl⟩
      rw [hm] at HZ hu HST
      clear hm
      have hz3 := HR1.out.2.2.2.2.2
      have HOc := Lib.hid (show w.heap.size + 1 + 1 < wr.heap.size by omega)
      have HCO := Lib.hid cO
      have HRes := Lib.hid (show ∀ w', (∃ sa cs, GrowY w w' (.slice (some ⟨g, off, none⟩) n cap) (.slice sa (k + 1) cs) (Y.take k ++ [l])) → ∃ sa cs, GrowY w w' (.slice (some ⟨g, off, none⟩) n cap) (.slice sa (k + 1) cs) (Y.take (k + 1)) from fun w' h => by rw [HE.out]; exact h)
      go_wp2_with fail
      go_region_law (first | (go_simp; go_at_call 72; refine HZ.out.mono ?_; rintro e w1 ⟨a3, c3, rfl, ho, hb⟩; have B1 := Lib.hid (((Below.refl _ wr).drew).trans hb); have HO1 := Lib.hid ho; have cO1 := (B1.out.cell (p := ⟨w.heap.size + 1 + 1, 0, none⟩) HOc.out).trans HCO.out; have cO2 := fun o => ((below_one w1 o).cell (p := ⟨w.heap.size + 1 + 1, 0, none⟩) (Nat.lt_of_lt_of_le HOc.out B1.out.size)).trans cO1; have HU1 := Lib.hid (fun o => row_below HUS.out (B1.out.trans ((below_one w1 o).mono B1.out.size))); have HZ1 := Lib.hid (fun o => Nat.le_trans hz3 (Nat.le_trans B1.out.size (below_one w1 o).size)); clear ho hb) | (refine step_rows (by rfl) _ _ (by rfl) (w.heap.size + 3) _ k us (by rfl) (HU1.out _) _ _ _ (by rfl) (cell_val_new _ _ _) (by simp [Value.oneCell']) (by omega) (HZ1.out _) ?_; intro v' w4 ho' hg'; obtain ⟨a5, c5, rfl⟩ := own_form ho'; obtain ⟨hG4, c4, f4⟩ := HST.out w1 w4 _ _ B1.out HO1.out hg' ho'; have HG4 := Lib.hid hG4; clear hG4 ho' hg'))
      all_goals
        go_wp2_with fail
        exact ⟨⟨k + 1, by omega, by go_num, Lib.hid (HRes.out _ ⟨_, _, HG4.out⟩)⟩, by simp [intOf]; omega⟩
    · obtain rfl : k = n := by omega
      have HX : Hid (NewYd w Y (.returned (.agg #[.slice sa k cs])) (wr.setCell ⟨w.heap.size + 1, 0, none⟩ (.slice sa k cs))) := Lib.hid (by
        obtain ⟨h1, h2, h3, h4, h5, h6⟩ := HR1.out
        have hY : Y.take k = Y := by rw [← HN.out]; exact List.take_length
        rw [hY] at h4
        have hS : Span (w.heap.size + 1) (w.heap.size + 3) wr (wr.setCell ⟨w.heap.size + 1, 0, none⟩ (.slice sa k cs)) := span_set (Nat.le_refl _) (by omega) _
        refine ⟨sa, cs, by rw [HN.out], ?_, h5.setCell (p := ⟨w.heap.size + 1, 0, none⟩) (by show w.heap.size ≤ w.heap.size + 1; omega) _⟩
        rw [HN.out]
        exact (h4.span hS (.inr (Nat.le_refl _))).mono (by omega) (by simp) (Nat.le_refl _))
      have j1 := HR1.out.2.1
      have c1 : wr.cell? ⟨w.heap.size + 1, 0, none⟩ = some (.slice none 0 0) := cell_of j1 rfl
      have f1 : ∀ i, wr.frozen? ⟨w.heap.size + 1, i, none⟩ = false := fun i => free_of j1
      have e7 := World.cell?_setCell_same _ _ (.slice sa k cs) c1
      clear j1
      go_wp2_with fail
      exact bodyPost_ret (v := .agg #[.slice sa k cs]) (by simp [results, Try.results68, go_sem, e7]) rfl HX.out
end Go.Proofs.Ytonploneihnekaa
