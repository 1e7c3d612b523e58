/-
  What impl.HeaviestFirst returns. No statement of the seat by itself.
-/
import Derived.Test.YtpdonhdffniabaaCSortI
namespace Go.Proofs.Ytpdonhdffniabaa.C
open Go.RowKit Go.Sort

theorem info3 : (Try.prog.info? 3).map (fun i => (i.zero, i.size, i.bytes)) = some (some (.int .i64 0), 1, 8) := by kernel_rfl
/-- The world behind HeaviestFirst's first two rows: the list's box, an empty row. -/
theorem heavy_start (w : World) (v : Value) : ((w.alloc (.cells #[v] 32)).alloc (.cells #[] 3)).cell? ⟨w.heap.size, 0, none⟩ = some v := by
  rw [World.cell?_alloc_lt _ _ _ (by simp)]; simp

set_option maxRecDepth 100000 in
set_option maxHeartbeats 1000000 in
theorem implHeavy_no (g n c : Nat) (f : Nat → Cont) (hn : n ≤ 1048576) (hid : ∀ j, j < n → (f j).id.size ≤ 1048576) (hnc : n ≤ c) (w : World) (h : CAt w g 0 n f) (hL : listB n f = false) :
    Calls Try.prog 32 #[.slice (some ⟨g, 0, none⟩) n c] w (OrdPost w [] false) := by
  have hb0 : Below w.heap.size w ((w.alloc (.cells #[.slice (some ⟨g, 0, none⟩) n c] 32)).alloc (.cells #[] 3)) := ((Below.refl _ w).alloc (Nat.le_refl _) _).alloc (by simp) _
  have K := Lib.hid (implList_any g n c f hn hid hnc _ (h.below hb0))
  have R0 := Lib.hid (own_empty (w.alloc (.cells #[.slice (some ⟨g, 0, none⟩) n c] 32)) (.cells #[] 3) 3 rfl)
  rw [hL] at K
  have B0 := Lib.hid hb0
  clear h hid hL hb0
  go_enter Try.func32, Try.ntmps32
  go_wp2_with fail
  refine K.out.mono ?_
  rintro e w1 ⟨rfl, hb1⟩
  have R1 := Lib.hid (row_below R0.out hb1)
  have B1 : Hid (Below w.heap.size w w1) := Lib.hid (B0.out.trans (hb1.mono B0.out.size))
  clear hb1
  go_wp2_with fail
  go_ret2
  exact ⟨_, rfl, by have := R1.out.mono (base' := w.heap.size) (by simp); simpa [ordV] using this, B1.out⟩

/-- While the indices are collected. -/
def Coll (w wr : World) (v o : Value) (k : Nat) : Prop := wr.ownsRow (w.heap.size + 1) 3 1 o k (ordV (List.range k)) ∧ wr.cell? ⟨w.heap.size, 0, none⟩ = some v ∧ Below w.heap.size w wr ∧ w.heap.size + 1 ≤ wr.heap.size ∧ o ≠ .slice none 0 0

set_option maxRecDepth 100000 in
set_option maxHeartbeats 2000000 in
theorem implHeavy_yes (g n c : Nat) (f : Nat → Cont) (hn : n ≤ 1048576) (hid : ∀ j, j < n → (f j).id.size ≤ 1048576) (hnc : n ≤ c) (w : World) (h : CAt w g 0 n f) (hL : listB n f = true) :
    Calls Try.prog 32 #[.slice (some ⟨g, 0, none⟩) n c] w (OrdPost w (ordL f n) true) := by
  obtain ⟨i0, hi, hz0, hz1, hz2⟩ := info_parts info3
  have hb0 : Below w.heap.size w ((w.alloc (.cells #[.slice (some ⟨g, 0, none⟩) n c] 32)).alloc (.cells #[] 3)) := ((Below.refl _ w).alloc (Nat.le_refl _) _).alloc (by simp) _
  have K := Lib.hid (implList_any g n c f hn hid hnc _ (h.below hb0))
  have R0 := Lib.hid (own_empty (w.alloc (.cells #[.slice (some ⟨g, 0, none⟩) n c] 32)) (.cells #[] 3) 3 rfl)
  have E0 := Lib.hid (heavy_start w (.slice (some ⟨g, 0, none⟩) n c))
  have HL := Lib.hid hL
  have h12 := ((listB_iff n f).1 hL).1
  rw [hL] at K
  have B0 := Lib.hid hb0
  have H := Lib.hid h
  have hgl := h.1
  clear h hid hL hb0
  go_enter Try.func32, Try.ntmps32
  go_wp2_with fail
  refine K.out.mono ?_
  rintro e w1 ⟨rfl, hb1⟩
  have C1 : Hid (Coll w w1 (.slice (some ⟨g, 0, none⟩) n c) (.slice (some ⟨w.heap.size + 1, 0, none⟩) 0 0) 0) := Lib.hid ⟨by
      have := row_below R0.out hb1
      simpa [ordV] using this, (hb1.cell (p := ⟨w.heap.size, 0, none⟩) (by simp; omega)).trans E0.out, B0.out.trans (hb1.mono B0.out.size), by have := hb1.size; simp at this; omega, by simp⟩
  have e1 := C1.out.2.1
  clear hb1
  go_wp2_with fail
  clear e1
  go_loopw [4, 5, 13] (fun o _ i wr => ∃ k : Nat, k ≤ n ∧ i = .int .i64 k ∧ Hid (Coll w wr (.slice (some ⟨g, 0, none⟩) n c) o k)) (fun _ _ i _ => n - (intOf i).toNat)
  case atStart => exact ⟨0, Nat.zero_le _, rfl, C1⟩
  case round =>
    obtain ⟨k, hk, rfl, HC⟩ := hrel
    by_cases hlt : k < n
    · obtain ⟨hrow, hcell, hB, hz, hne⟩ := HC.out
      have KC := Lib.hid hcell
      clear hcell hne
      go_wp2_with (at_builtin; refine wpList_append_own _ rfl _ _ 47 rfl (w.heap.size + 1) 3 i0 (.int .i64 0) 1 8 Try.underlying47 hi hz0 hz1 hz2 rfl (by decide) _ _ _ rfl (hrow.alloc _) ⟨wr.heap.size, 0, none⟩ 1 1 [.int .i64 (k : Int)] rfl rfl (cell_one_new _ _ _) (by simp [Value.oneCell']) (by unfold maxLen; omega) (by omega) (by simp; omega) ?_; intro v' w3 hown' hgrow hnil)
      have hB3 : Below w.heap.size w w3 := (hB.alloc hB.size _).grown hgrow (by simp; omega) (fun j e => by have := row_base hrow j e; omega)
      have hc3 : w3.cell? ⟨w.heap.size, 0, none⟩ = some (.slice (some ⟨g, 0, none⟩) n c) := by
        rw [World.cell?_of_block (hgrow.block w.heap.size (by simp; omega) (fun e => by have := row_base hrow _ e.symm; omega)), World.cell?_alloc_lt _ _ _ (by simp; omega)]
        exact KC.out
      have hz3 : w.heap.size + 1 ≤ w3.heap.size := by have := hgrow.size; simp at this; omega
      have HN : Hid (Coll w w3 (.slice (some ⟨g, 0, none⟩) n c) v' (k + 1)) := Lib.hid ⟨by simpa [ordV, List.range_succ] using hown', hc3, hB3, hz3, fun e => by have := (hnil.1 e).2; omega⟩
      refine ⟨⟨k + 1, by omega, by go_num, HN⟩, by simp [intOf]; omega⟩
    · obtain rfl : k = n := by omega
      obtain ⟨hrow, hcell, hB, hz, hne⟩ := HC.out
      rcases hrow.2 with ⟨hnil, _⟩ | ⟨g2, cap, cur, hv, hbase, hb, h1, h2, h3, h4⟩
      · exact absurd hnil hne
      · subst hv
        have hgw : g < w.heap.size := hgl
        have BW := Lib.hid hB
        have RW := Lib.hid hrow
        have hCW := H.out.below hB
        cases k with
        | zero =>
          have hS := fun W => AnyF.slices_SortFunc_none (P := Try.prog) (ρ := Try.laysSort_ren) { Try.laysSort with } (some ⟨g2, 0, none⟩) cap (.func (.func 51) #[] #[.pointer (some ⟨w.heap.size, 0, none⟩)]) W
          change ∀ W, Calls Try.prog 50 _ _ _ at hS
          have KS := Lib.hid hS
          clear hS hrow hcell hB hb h1 h2 h3 h4 hCW hne
          go_wp2_with fail
          refine (KS.out _).mono ?_
          rintro e w5 ⟨rfl, rfl⟩
          go_wp2_with fail
          go_ret2
          exact ⟨_, rfl, RW.out.mono (by omega), BW.out⟩
        | succ m =>
          have hS := sort_call g m c w.heap.size g2 cap f cur HL.out wr (by omega) hcell hCW (by omega) (by omega) hb h1 h2 h3 h4 (w.heap.size + 1) hbase
          have KS := Lib.hid hS
          clear hS hrow hcell hB hb h1 h2 h3 h4 hCW hne
          go_wp2_with fail
          refine KS.out.mono ?_
          rintro e w5 ⟨rfl, hr5, hg5⟩
          have R5 := Lib.hid hr5
          have B5 : Hid (Below w.heap.size w w5) := Lib.hid (BW.out.grown hg5 BW.out.size (fun k e => by cases e; omega))
          clear hr5 hg5
          go_wp2_with fail
          go_ret2
          exact ⟨_, rfl, by rw [ordL_len]; exact R5.out.mono (by omega), B5.out⟩
end Go.Proofs.Ytpdonhdffniabaa.C
