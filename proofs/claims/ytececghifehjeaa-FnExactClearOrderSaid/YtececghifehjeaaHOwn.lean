/-
  Copies of bays: spec.l9Own. No statement of the seat by itself.
-/
import Derived.Test.YtececghifehjeaaHCopy
import Derived.Test.YtececghifehjeaaCopyS
namespace Go.Proofs.Ytececghifehjeaa
open Go.RowKit

/-- While the copy grows in its box. -/
def GrowB (hh : Int) (w wr : World) (v0 sv : Value) (Z : List (List Int)) : Prop :=
  wr.cell? ⟨w.heap.size, 1, none⟩ = some v0 ∧ wr.heap[w.heap.size + 1]? = some (.cells #[.int .i64 0, .slice none 0 0] 54 (0, 0)) ∧ wr.heap[w.heap.size + 1 + 1]? = some (.cells #[.int .i64 hh, sv] 54 (0, 0)) ∧
  OwnY wr (w.heap.size + 3) wr.heap.size sv Z ∧ Below w.heap.size w wr ∧ w.heap.size + 3 ≤ wr.heap.size
theorem GrowB.cells {hh : Int} {w wr : World} {v0 sv : Value} {Z : List (List Int)} (h : GrowB hh w wr v0 sv Z) : wr.cell? ⟨w.heap.size, 1, none⟩ = some v0 ∧ wr.cell? ⟨w.heap.size + 1 + 1, 1, none⟩ = some sv ∧ wr.cell? ⟨w.heap.size + 1 + 1, 0, none⟩ = some (.int .i64 hh) := ⟨h.1, cell_of h.2.2.1 rfl, cell_of h.2.2.1 rfl⟩
theorem GrowB.step {hh : Int} {w wr w1 w4 : World} {v0 sv v' u : Value} {Z : List (List Int)} {l : List Int} {us : List Value} (h : GrowB hh w wr v0 sv Z) (hus : wr.ownsRow (w.heap.size + 3) 34 1 sv Z.length us) (hr : Rows2 wr (w.heap.size + 3) wr.heap.size us Z)
    (hb1 : Below wr.heap.size wr w1) (ho : w1.ownsRow wr.heap.size 3 1 u l.length (intV l)) (hg : (w1.alloc (.cells #[u] 34)).grownBy w4 sv.ownBlock) (ho' : w4.ownsRow (w.heap.size + 3) 34 1 v' (Z.length + 1) (us ++ [u])) :
    GrowB hh w (w4.setCell ⟨w.heap.size + 1 + 1, 1, none⟩ v') v0 v' (Z ++ [l]) ∧ w4.cell? ⟨w.heap.size + 1 + 1, 1, none⟩ = some sv ∧ w4.frozen? ⟨w.heap.size + 1 + 1, 1, none⟩ = false := by
  obtain ⟨h1, h2, h3, h4, h5, h6⟩ := h
  have hz1 := hb1.size
  have ba : Below w1.heap.size w1 (w1.alloc (.cells #[u] 34)) := below_one _ _
  have hbW : Below wr.heap.size wr (w1.alloc (.cells #[u] 34)) := hb1.trans (ba.mono hz1)
  have hzW := hbW.size
  have hnb : ∀ k, k < w.heap.size + 3 → some k ≠ sv.ownBlock := fun k hk e => by have := row_base hus k e.symm; omega
  have old : ∀ k, k < w.heap.size + 3 → w4.heap[k]? = wr.heap[k]? := fun k hk => (hg.block k (by omega) (hnb k hk)).trans (hbW.block k (by omega))
  have hB4 : Below w.heap.size w w4 := ((h5.trans (hbW.mono h5.size)).grown hg (by omega) fun j e => by have := row_base hus j e; omega)
  have hP := OwnY.push (h4.below hbW) ⟨row_below hus hbW, hr.below hbW⟩ (row_below (own_base ho fun j hj => by have := row_base ho j hj; omega) ba) (fun b hb => row_base ho b hb) hg ho'
  have c3 := (old (w.heap.size + 1 + 1) (by omega)).trans h3
  have hS : Span (w.heap.size + 1 + 1) (w.heap.size + 3) w4 (w4.setCell ⟨w.heap.size + 1 + 1, 1, none⟩ v') := span_set (Nat.le_refl _) (by omega) v'
  refine ⟨⟨?_, ?_, by rw [Lib.heap_setCell_same (i := 1) c3]; rfl, ?_, hB4.setCell (p := ⟨w.heap.size + 1 + 1, 1, none⟩) (by show w.heap.size ≤ w.heap.size + 1 + 1; omega) _, ?_⟩, cell_of c3 rfl, free_of c3⟩
  · rw [set_cell_ne _ _ _ _ _ _ (by omega), World.cell?_of_block (w := wr) (a := ⟨w.heap.size, 1, none⟩) (old _ (by show w.heap.size < _; omega))]
    exact h1
  · rw [Below.heap_setCell w4 ⟨w.heap.size + 1 + 1, 1, none⟩ v' _ (by show w.heap.size + 1 ≠ w.heap.size + 1 + 1; omega)]
    exact (old _ (by omega)).trans h2
  · have := hP.span hS (.inr (by omega))
    simpa using this
  · have := hg.size; simp at this ⊢; omega

set_option maxRecDepth 100000 in
set_option maxHeartbeats 4000000 in
theorem l9Own_any (v : Value) (hh : Int) (Y : List (List Int)) (hn : Y.length ≤ 1048576) (ht : tot Y ≤ 1048576) (w : World) (h : BdR w v hh Y) :
    Calls Try.prog 106 #[v] w (NewBd w hh Y) := by
  obtain ⟨v0, rfl, a, cap, rfl, hc⟩ := h
  obtain ⟨n, hl⟩ : ∃ n, Y.length = n := ⟨_, rfl⟩
  have HN := Lib.hid hl
  have HC := Lib.hid hc
  rw [hl] at hn
  obtain ⟨hk0, hk1, hk2, hs, hB0⟩ := three_alloc w (.cells #[.int .i64 hh, .slice a n cap] 54) (.cells #[.int .i64 0, .slice none 0 0] 54) (.cells #[.int .i64 hh, .slice none 0 0] 54)
  have G0 : Hid (GrowB hh w (((w.alloc (.cells #[.int .i64 hh, .slice a n cap] 54)).alloc (.cells #[.int .i64 0, .slice none 0 0] 54)).alloc (.cells #[.int .i64 hh, .slice none 0 0] 54)) (.slice a n cap) (.slice none 0 0) (Y.take 0)) := Lib.hid
    ⟨cell_of hk0 rfl, hk1, hk2, by rw [List.take_zero]; exact OwnY.nil _ _ _ (Nat.le_refl _), hB0, by omega⟩
  clear hk0 hk1 hk2 hs hB0 hc
  rw [hl]
  clear hl
  go_enter Try.func106, Try.ntmps106
  go_wp2_with fail
  generalize ((w.alloc (.cells #[.int .i64 hh, .slice a n cap] 54)).alloc (.cells #[.int .i64 0, .slice none 0 0] 54)).alloc (.cells #[.int .i64 hh, .slice none 0 0] 54) = w0 at *
  go_loopw [4] (fun i wr => ∃ k : Nat, k ≤ n ∧ i = .int .i64 k ∧ Hid (∃ sa cs, GrowB hh w wr (.slice a n cap) (.slice sa k cs) (Y.take k))) (fun i _ => n - (intOf i).toNat)
  case atStart => exact ⟨0, Nat.zero_le _, rfl, Lib.hid ⟨none, 0, G0.out⟩⟩
  case round =>
    obtain ⟨k, hk, rfl, HR⟩ := hrel
    obtain ⟨sa, cs, hR⟩ := HR.out
    have HR1 := Lib.hid hR
    clear hR HR
    obtain ⟨c0, cO, cH⟩ := HR1.out.cells
    by_cases hlt : k < n
    · obtain ⟨l, hl⟩ := get_at HN.out hlt
      obtain ⟨g, off, rfl, hg, hcc⟩ := HC.out (by have := HN.out; omega)
      obtain ⟨u, hu', hil⟩ := hcc k l hl
      have hu := (HR1.out.2.2.2.2.1.cell (p := ⟨g, off + k, none⟩) hg).trans hu'
      have HZ := Lib.hid (l1Own_any u l (by have := row_len hl; omega) wr.drew (hil.below HR1.out.2.2.2.2.1.drew))
      obtain ⟨a2, c2, rfl⟩ := hil.form
      obtain ⟨us, hus, hr2⟩ := HR1.out.2.2.2.1.2.2
      have hkl : (Y.take k).length = k := by have := HN.out; simp; omega
      have HE := Lib.hid (show Y.take (k + 1) = Y.take k ++ [l] by rw [List.take_add_one, hl]; rfl)
      have HUS := Lib.hid hus
      have HST := Lib.hid (fun (w1 w4 : World) (v' u' : Value) (hb1 : Below wr.heap.size wr w1) ho hg ho' => HR1.out.step (w1 := w1) (w4 := w4) (v' := v') (u := u') (l := l) hus hr2 hb1 ho hg ho')
      rw [hkl] at HST HUS
      clear hcc hl hil hu' hus hr2 hkl
      unfold NewI at HZ
      obtain ⟨m, hm⟩ : ∃ m, l.length = m := ⟨_, rfl⟩
      rw [hm] at HZ hu HST
      clear hm
      have hz3 := HR1.out.2.2.2.2.2
      have HOc := Lib.hid (show w.heap.size + 1 + 1 < wr.heap.size by omega)
      have HCO := Lib.hid cO
      have HRes := Lib.hid (show ∀ w', (∃ sa cs, GrowB hh w w' (.slice (some ⟨g, off, none⟩) n cap) (.slice sa (k + 1) cs) (Y.take k ++ [l])) → ∃ sa cs, GrowB hh w w' (.slice (some ⟨g, off, none⟩) n cap) (.slice sa (k + 1) cs) (Y.take (k + 1)) from fun w' h => by rw [HE.out]; exact h)
      go_wp2_with fail
      go_region_law (first | (go_simp; go_at_call 78; refine HZ.out.mono ?_; rintro e w1 ⟨a3, c3, rfl, ho, hb⟩; have B1 := Lib.hid (((Below.refl _ wr).drew).trans hb); have HO1 := Lib.hid ho; have cO1 := (B1.out.cell (p := ⟨w.heap.size + 1 + 1, 1, none⟩) HOc.out).trans HCO.out; have cO2 := fun o => ((below_one w1 o).cell (p := ⟨w.heap.size + 1 + 1, 1, none⟩) (Nat.lt_of_lt_of_le HOc.out B1.out.size)).trans cO1; have HU1 := Lib.hid (fun o => row_below HUS.out (B1.out.trans ((below_one w1 o).mono B1.out.size))); have HZ1 := Lib.hid (fun o => Nat.le_trans hz3 (Nat.le_trans B1.out.size (below_one w1 o).size)); clear ho hb) | (refine step_rows (by rfl) _ _ (by rfl) (w.heap.size + 3) _ k us (by rfl) (HU1.out _) _ _ _ (by rfl) (cell_val_new _ _ _) (by simp [Value.oneCell']) (by omega) (HZ1.out _) ?_; intro v' w4 ho' hg'; obtain ⟨a5, c5, rfl⟩ := own_form ho'; obtain ⟨hG4, c4, f4⟩ := HST.out w1 w4 _ _ B1.out HO1.out hg' ho'; have HG4 := Lib.hid hG4; clear hG4 ho' hg'))
      all_goals
        go_wp2_with fail
        exact ⟨⟨k + 1, by omega, by go_num, Lib.hid (HRes.out _ ⟨_, _, HG4.out⟩)⟩, by simp [intOf]; omega⟩
    · obtain rfl : k = n := by omega
      have hY : Y.take k = Y := by rw [← HN.out]; exact List.take_length
      obtain ⟨h1, h2, h3, h4, h5, h6⟩ := HR1.out
      rw [hY] at h4
      have O4 := Lib.hid h4
      have B4 := Lib.hid h5
      have z0 : wr.cell? ⟨w.heap.size + 1, 0, none⟩ = some (.int .i64 0) := cell_of h2 rfl
      have z1 : wr.cell? ⟨w.heap.size + 1, 1, none⟩ = some (.slice none 0 0) := cell_of h2 rfl
      have f1 : ∀ i, wr.frozen? ⟨w.heap.size + 1, i, none⟩ = false := fun i => free_of h2
      obtain ⟨e7, e8⟩ := res_bay (.int .i64 hh) (.slice sa k cs) z0 z1
      clear h1 h2 h3 h4 h5 h6 hY
      go_wp2_with fail
      refine bodyPost_ret (v := .agg #[.int .i64 hh, .slice sa k cs]) (by simp [results, Try.results106, go_sem, e7, e8]) rfl ⟨sa, cs, by rw [HN.out], ?_, (B4.out.setCell (p := ⟨w.heap.size + 1, 0, none⟩) (by show w.heap.size ≤ w.heap.size + 1; omega) _).setCell (p := ⟨w.heap.size + 1, 1, none⟩) (by show w.heap.size ≤ w.heap.size + 1; omega) _⟩
      rw [HN.out]
      exact (O4.out.span (span_res wr (w.heap.size + 1) _ _) (.inr (by omega))).mono (by omega) (by simp) (Nat.le_refl _)
end Go.Proofs.Ytececghifehjeaa
