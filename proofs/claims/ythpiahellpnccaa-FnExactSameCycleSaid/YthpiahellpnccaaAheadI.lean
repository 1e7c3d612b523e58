/-
  What impl.PortsAhead returns. No statement of the seat by itself.
-/
import Derived.Test.YthpiahellpnccaaAhead
namespace Go.Proofs.Ythpiahellpnccaa
open Go.RowKit

/-- The array that tells which ports were met. -/
def MetB (W : World) (M : Nat) (L : List Int) : Prop := ∃ cur : Array Value, W.heap[M]? = some (.cells cur 67 (0, 0)) ∧ cur.size = 10 ∧ ∀ j : Nat, j < 10 → cur[j]? = some (.bool (hasB L (j : Int)))
theorem MetB.cell {W : World} {M : Nat} {L : List Int} (h : MetB W M L) (j : Nat) (hj : j < 10) : W.cell? ⟨M, j, none⟩ = some (.bool (hasB L (j : Int))) := by
  obtain ⟨cur, hb, hs, hc⟩ := h
  simp [World.cell?, hb, hc j hj]
theorem MetB.free {W : World} {M : Nat} {L : List Int} (h : MetB W M L) (j : Nat) : W.frozen? ⟨M, j, none⟩ = false := by
  obtain ⟨cur, hb, hs, hc⟩ := h
  simp [World.frozen?, hb]
theorem MetB.lt {W : World} {M : Nat} {L : List Int} (h : MetB W M L) : M < W.heap.size := by
  obtain ⟨cur, hb, hs, hc⟩ := h
  exact (Array.getElem?_eq_some_iff.1 hb).1
theorem MetB.keep {W W' : World} {M : Nat} {L : List Int} (h : MetB W M L) (he : W'.heap[M]? = W.heap[M]?) : MetB W' M L := by
  obtain ⟨cur, hb, h1⟩ := h
  exact ⟨cur, he.trans hb, h1⟩
theorem MetB.drewN {W : World} {M : Nat} {L : List Int} (h : MetB W M L) (q : Nat) : MetB (W.drewN q) M L := h.keep rfl
theorem MetB.step {W : World} {M : Nat} {L : List Int} (h : MetB W M L) (x : Nat) (hx : x < 10) : MetB (W.setCell ⟨M, x, none⟩ (.bool true)) M (L ++ [(x : Int)]) := by
  obtain ⟨cur, hb, hs, hc⟩ := h
  refine ⟨cur.setIfInBounds x (.bool true), Lib.heap_setCell_same hb _, by simpa using hs, fun j hj => ?_⟩
  by_cases e : x = j
  · subst e
    rw [Array.getElem?_setIfInBounds_self_of_lt (by omega)]
    simp [hasB]
  · rw [Array.getElem?_setIfInBounds_ne e, hc j hj]
    have : ((j : Int) ∈ L ++ [(x : Int)]) ↔ (j : Int) ∈ L := by simp; intro h; omega
    simp only [hasB, this]
/-- A row of ints is not the array. -/
theorem MetB.ne {W : World} {M base k : Nat} {L : List Int} {v : Value} {xs : List Value} (h : MetB W M L) (hr : W.ownsRow base 3 1 v k xs) : some M ≠ v.ownBlock := by
  obtain ⟨cur, hb, _⟩ := h
  intro e
  rcases hr.2 with ⟨rfl, _⟩ | ⟨g, cap, cur2, rfl, hg, hb2, _⟩
  · simp [Value.ownBlock] at e
  · have : M = g := by simpa [Value.ownBlock] using e
    subst this
    rw [hb] at hb2
    simp at hb2
theorem coll_below {w w1 w2 : World} {v1 v2 o : Value} {l : List Int} (h : Coll w w1 v1 v2 o l) (hb : Below w1.heap.size w1 w2) : Coll w w2 v1 v2 o l := by
  obtain ⟨h1, h2, h3, h4, h5, h6⟩ := h
  have hz : w.heap.size < w1.heap.size := by omega
  exact ⟨row_below h1 hb, (hb.cell (p := ⟨w.heap.size, 0, none⟩) hz).trans h2, (hb.cell (p := ⟨w.heap.size, 1, none⟩) hz).trans h3, h4.trans (hb.mono h4.size), Nat.le_trans h5 hb.size, h6⟩
theorem coll_set {w W : World} {M : Nat} {L : List Int} {v1 v2 o : Value} (h : Coll w W v1 v2 o L) (hm : MetB W M L) (hM : w.heap.size + 1 ≤ M) (x : Nat) (u : Value) : Coll w (W.setCell ⟨M, x, none⟩ u) v1 v2 o L := by
  obtain ⟨h1, h2, h3, h4, h5, h6⟩ := h
  have hg : W.grownBy (W.setCell ⟨M, x, none⟩ u) (some M) := Lib.grownBy_setB ⟨rfl, rfl, rfl, Nat.le_refl _, fun _ _ _ => rfl⟩ x u
  refine ⟨h1.kept hg (.inr fun e => hm.ne h1 e.symm), ?_, ?_, h4.setCell (p := ⟨M, x, none⟩) (by show w.heap.size ≤ M; omega) _, by simpa using h5, h6⟩
  · rw [World.cell?_setCell_other _ _ _ _ (by first | (simp; done) | (simp; omega))]; exact h2
  · rw [World.cell?_setCell_other _ _ _ _ (by first | (simp; done) | (simp; omega))]; exact h3

set_option maxRecDepth 100000 in
set_option maxHeartbeats 4000000 in
theorem implAhead_yes (v : Value) (n m : Nat) (p d : Nat → Int) (i : Int) (hn : n ≤ maxLen) (hm : m ≤ maxLen) (w : World) (h : ArgR w v n m p d) (hi : askB n m p d i = true) :
    Calls Try.prog 23 #[v, .int .i64 i] w (RowP w (aheadL n p i.toNat n) true) := by
  obtain ⟨f3, hi3, hz0, hz1, hz2⟩ := info_is info3
  have HV := Lib.hid h
  obtain ⟨hr, i0, i1⟩ := askB_iff.1 hi
  have hG := good_of hr
  obtain ⟨v1, v2, rfl, h1, h2⟩ := h
  have e0 := hG.same
  subst e0
  obtain ⟨g1, o1, c1, rfl, i1'⟩ := h1.rows (by have := hG.pos; omega)
  have h0 := hG.pos
  have h12 := hG.top
  have I1 := Lib.hid i1'
  have HG := Lib.hid hG
  have HR := Lib.hid hi
  have ei : i = ((i.toNat : Nat) : Int) := by omega
  have hit : i.toNat < m := by omega
  have R0 := Lib.hid (own_empty (w.alloc (.cells #[.slice (some ⟨g1, o1, none⟩) m c1, v2] 26)) (.cells #[] 3) 3 rfl)
  have B0 := Lib.hid (((Below.refl _ w).alloc (Nat.le_refl _) (.cells #[.slice (some ⟨g1, o1, none⟩) m c1, v2] 26)).alloc (by simp) (.cells #[] 3))
  have E0 := Lib.hid (ahead_start w (.slice (some ⟨g1, o1, none⟩) m c1) v2)
  clear hr hG h1 h2 i1' hi
  generalize i.toNat = a at *
  subst ei
  go_enter Try.func23, Try.ntmps23
  go_wp2_with fail
  refine (implAsked_any _ m m p d a hn hm _ (HV.out.below B0.out)).mono ?_
  rw [HR.out]
  rintro e w1 ⟨rfl, hb⟩
  have C1 : Hid (Coll w w1 (.slice (some ⟨g1, o1, none⟩) m c1) v2 (.slice (some ⟨w.heap.size + 1, 0, none⟩) 0 0) (aheadL m p a 0)) := Lib.hid ⟨by
      have := row_below R0.out hb
      simpa [intV, aheadL] using this, (hb.cell (p := ⟨w.heap.size, 0, none⟩) (by simp; omega)).trans E0.out.1, (hb.cell (p := ⟨w.heap.size, 1, none⟩) (by simp; omega)).trans E0.out.2, B0.out.trans (hb.mono B0.out.size), by have := hb.size; simp at this; omega, by simp⟩
  clear hb
  have K1 := Lib.hid (coll_below C1.out ((Below.refl _ w1).alloc (Nat.le_refl _) (.cells #[.bool false, .bool false, .bool false, .bool false, .bool false, .bool false, .bool false, .bool false, .bool false, .bool false] 67)))
  have M1 : Hid (MetB (w1.alloc (.cells #[.bool false, .bool false, .bool false, .bool false, .bool false, .bool false, .bool false, .bool false, .bool false, .bool false] 67)) w1.heap.size (aheadL m p a 0)) := Lib.hid ⟨_, heap_alloc_new w1 _, rfl, fun j hj => by
    match j, hj with
    | 0, _ => rfl
    | 1, _ => rfl
    | 2, _ => rfl
    | 3, _ => rfl
    | 4, _ => rfl
    | 5, _ => rfl
    | 6, _ => rfl
    | 7, _ => rfl
    | 8, _ => rfl
    | 9, _ => rfl⟩
  have hMb : w.heap.size + 1 ≤ w1.heap.size := C1.out.2.2.2.2.1
  have e0 := K1.out.2.1
  have e1 := K1.out.2.2.1
  clear C1
  go_wp2_with fail
  clear e0 e1
  go_loopw [6, 19] (fun o s wr => ∃ k : Nat, k ≤ m ∧ s = .int .i64 k ∧ Hid (Coll w wr (.slice (some ⟨g1, o1, none⟩) m c1) v2 o (aheadL m p a k)) ∧ Hid (MetB wr w1.heap.size (aheadL m p a k))) (fun _ s _ => m - (intOf s).toNat)
  case atStart => exact ⟨0, Nat.zero_le _, rfl, K1, M1⟩
  case round =>
    obtain ⟨k, hk, rfl, HC, HT⟩ := hrel
    have s0 := HC.out.2.1
    have s1 := HC.out.2.2.1
    by_cases hlt : k < m
    · have ht : (a + k) % m < m := Nat.mod_lt _ (by omega)
      have a1 := (I1.out.below HC.out.2.2.2.1).2 _ ht
      have HM := Lib.hid (tmod_two a k m)
      have hln := aheadL_len m p a k
      obtain ⟨xn, hxn⟩ : ∃ xn : Nat, p ((a + k) % m) = (xn : Int) := ⟨(p ((a + k) % m)).toNat, by have := HG.out.port _ ht; omega⟩
      have hx10 : xn < 10 := by have := HG.out.port _ ht; omega
      have hxi : (xn : Int) < 10 := by omega
      have hcx := HT.out.cell xn hx10
      have hfx := HT.out.free xn
      rw [hxn] at a1
      by_cases hin : p ((a + k) % m) ∈ aheadL m p a k
      · have HL := Lib.hid (aheadL_in hin)
        have HB : hasB (aheadL m p a k) (xn : Int) = true := by rw [← hxn]; simp [hasB, hin]
        rw [HB] at hcx
        clear hin hxn HB
        generalize aheadL m p a k = L at *
        generalize (a + k) % m = t at *
        have hti : (t : Int) < (m : Int) := by omega
        go_wp2_with fail
        have hw1 : IntKind.i64.wrap ((a : Int) + (k : Int)) = (a : Int) + (k : Int) := IntWalk.i64_in _ (by omega)
        have hm1 := HM.out
        go_quiet (fail)
        clear hm1 hw1
        have HC2 := Lib.hid (HC.out.drewN nq)
        have HT2 := Lib.hid (HT.out.drewN nq)
        go_wp2_with fail
        exact ⟨⟨k + 1, by omega, by go_num, by rw [HL.out]; exact HC2, by rw [HL.out]; exact HT2⟩, by simp [intOf]; omega⟩
      · have HL := Lib.hid (aheadL_out hin)
        have HB : hasB (aheadL m p a k) (xn : Int) = false := by rw [← hxn]; simp [hasB, hin]
        rw [HB] at hcx
        rw [hxn] at HL
        clear hin hxn HB
        generalize aheadL m p a k = L at *
        generalize (a + k) % m = t at *
        have hti : (t : Int) < (m : Int) := by omega
        go_wp2_with fail
        have hw1 : IntKind.i64.wrap ((a : Int) + (k : Int)) = (a : Int) + (k : Int) := IntWalk.i64_in _ (by omega)
        have hm1 := HM.out
        go_quiet (fail)
        clear hm1 hw1
        have HT2 := Lib.hid ((HT.out.drewN nq).step xn hx10)
        have HC2 := Lib.hid (coll_set (HC.out.drewN nq) (HT.out.drewN nq) (by omega) xn (.bool true))
        have hcx2 : (wr.drewN nq).cell? ⟨w1.heap.size, xn, none⟩ = some (.bool false) := hcx
        have hfx2 : (wr.drewN nq).frozen? ⟨w1.heap.size, xn, none⟩ = false := hfx
        generalize wr.drewN nq = w0 at *
        generalize hw2 : w0.setCell ⟨w1.heap.size, xn, none⟩ (.bool true) = w2 at *
        obtain ⟨hrow, hc0, hc1, hB, hz, hne⟩ := HC2.out
        have KC0 := Lib.hid hc0
        have KC1 := Lib.hid hc1
        clear hc0 hc1 hne s0 s1 a1
        go_wp2_with (at_builtin; refine wpList_append_own _ rfl _ _ 24 rfl (w.heap.size + 1) 3 f3 (.int .i64 0) 1 8 Try.underlying24 hi3 hz0 hz1 hz2 rfl (by decide) _ _ _ rfl (hrow.alloc _) ⟨w2.heap.size, 0, none⟩ 1 1 [.int .i64 (xn : Int)] rfl rfl (cell_one_new _ _ _) (by simp [Value.oneCell']) (by unfold maxLen; omega) (by omega) (by simp; omega) ?_; intro v' w4 hown' hgrow hnil)
        have hB4 : Below w.heap.size w w4 := (hB.alloc hB.size _).grown hgrow (by simp; omega) (fun j e => by have := row_base hrow j e; omega)
        have old : ∀ q x, w2.cell? ⟨w.heap.size, q, none⟩ = some x → w4.cell? ⟨w.heap.size, q, none⟩ = some x := fun q x hx => by
          rw [World.cell?_of_block (hgrow.block w.heap.size (by simp; omega) (fun e => by have := row_base hrow _ e.symm; omega)), World.cell?_alloc_lt _ _ _ (by simp; omega)]
          exact hx
        have hz4 : w.heap.size + 1 ≤ w4.heap.size := by have := hgrow.size; simp at this; omega
        have HT4 : Hid (MetB w4 w1.heap.size (L ++ [(xn : Int)])) := Lib.hid (HT2.out.keep (by
          have hl := HT2.out.lt
          rw [hgrow.block _ (by simp; omega) (HT2.out.ne hrow)]
          exact heap_alloc_old _ _ _ hl))
        have HN : Hid (Coll w w4 (.slice (some ⟨g1, o1, none⟩) m c1) v2 v' (L ++ [(xn : Int)])) := Lib.hid ⟨by simpa [intV] using hown', old _ _ KC0.out, old _ _ KC1.out, hB4, hz4, fun e => by have := (hnil.1 e).2; omega⟩
        clear hown' hgrow hnil hB4 old hz4 hrow hB hz
        exact ⟨⟨k + 1, by omega, by go_num, by rw [HL.out]; exact HN, by rw [HL.out]; exact HT4⟩, by simp [intOf]; omega⟩
    · obtain rfl : k = m := by omega
      go_wp2_with fail
      go_ret2
      exact ⟨_, rfl, HC.out.1.mono (by omega), HC.out.2.2.2.1⟩
end Go.Proofs.Ythpiahellpnccaa
