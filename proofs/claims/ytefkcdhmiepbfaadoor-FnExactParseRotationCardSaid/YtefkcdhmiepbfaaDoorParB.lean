/-
  What spec.ParseRotation returns. No statement of the seat by itself.
-/
import Derived.Test.YtefkcdhmiepbfaaDoorParA
namespace Go.Proofs.YtefkcdhmiepbfaaDoor.R
open Go.RowKit

theorem str_form {W : World} {b k : Nat} {v : Value} {xs : List Value} (h : W.ownsRow b 9 1 v k xs) : ∃ a c, v = .slice a k c := by
  rcases h.2 with ⟨rfl, rfl⟩ | ⟨g, cap, cur, rfl, -⟩
  · exact ⟨_, _, rfl⟩
  · exact ⟨_, _, rfl⟩
theorem txt_form {W : World} {b k : Nat} {v : Value} {xs : List Value} (h : W.ownsRow b 9 1 v k xs) (hk : 0 < k) : ∃ g c, v = .slice (some ⟨g, 0, none⟩) k c := by
  rcases h.2 with ⟨rfl, rfl⟩ | ⟨g, cap, cur, rfl, -⟩
  · omega
  · exact ⟨_, _, rfl⟩
theorem callR_two {p a b : ByteArray} (h : pieces p 58 = [a, b]) : callR p = twoR (readL a.data.toList) (readL b.data.toList) := by unfold callR; rw [h]
theorem callR_not {p : ByteArray} (h : (pieces p 58).length ≠ 2) : callR p = (0, 0, false) := by
  unfold callR
  generalize pieces p 58 = L at *
  match L, h with
  | [], _ => rfl
  | [_], _ => rfl
  | [_, _], h => simp at h
  | _ :: _ :: _ :: _, _ => rfl
/-- The row at g stays as it was at w2, and both lists of the box lie in later blocks. -/
def Far (w2 : World) (g : Nat) (v1 v2 : Value) (wr : World) : Prop := wr.heap[g]? = w2.heap[g]? ∧ g < w2.heap.size ∧ w2.heap.size ≤ wr.heap.size ∧ (∀ j, v1.ownBlock = some j → w2.heap.size ≤ j) ∧ (∀ j, v2.ownBlock = some j → w2.heap.size ≤ j)
theorem Far.below {w2 wr W : World} {g : Nat} {v1 v2 : Value} (h : Far w2 g v1 v2 wr) (hb : Below wr.heap.size wr W) : Far w2 g v1 v2 W :=
  ⟨(hb.block g (by have := h.2.1; have := h.2.2.1; omega)).trans h.1, h.2.1, Nat.le_trans h.2.2.1 hb.size, h.2.2.2⟩
theorem Far.swap {w2 wr : World} {g : Nat} {v1 v2 : Value} (h : Far w2 g v1 v2 wr) : Far w2 g v2 v1 wr := ⟨h.1, h.2.1, h.2.2.1, h.2.2.2.2, h.2.2.2.1⟩
theorem Far.push {w2 W w3 : World} {g B i : Nat} {v1 v2 v' x : Value} (h : Far w2 g v1 v2 W) (hB : g ≠ B) (hg : W.grownBy w3 v1.ownBlock) (hat : v'.ownBlock = v1.ownBlock ∨ v'.ownBlock = some W.heap.size) : Far w2 g v' v2 (w3.setCell ⟨B, i, none⟩ x) := by
  refine ⟨(heap_set_other _ _ _ _ _ hB).trans ((hg.block g (by have := h.2.1; have := h.2.2.1; omega) (fun e => ?_)).trans h.1), h.2.1, ?_, ?_, h.2.2.2.2⟩
  · have := h.2.2.2.1 g e.symm; have := h.2.1; omega
  · have := hg.size; have := h.2.2.1; simp; omega
  · intro j hj
    rcases hat with e | e
    · exact h.2.2.2.1 j (e ▸ hj)
    · rw [e] at hj; cases hj; exact h.2.2.1
theorem cell_heap {w w' : World} {g i : Nat} (h : w'.heap[g]? = w.heap[g]?) : w'.cell? ⟨g, i, none⟩ = w.cell? ⟨g, i, none⟩ := by simp [World.cell?, h]

set_option maxRecDepth 100000 in
set_option maxHeartbeats 4000000 in
theorem specPR_big (s : ByteArray) (hs : 100 < s.size) (w : World) : Calls Tryd.prog 8 #[.string s] w (ParQ w [] [] false) := by
  have B3 := Lib.hid ((below_one w (.cells #[.slice none 0 0, .slice none 0 0] 24)).trans ((below_one _ (.cells #[.slice none 0 0, .slice none 0 0] 24)).mono (below_one w _).size))
  go_enter Tryd.func8, Tryd.ntmps8
  go_wp2_with fail
  exact bodyPost_ret (v := .tuple #[.agg #[.slice none 0 0, .slice none 0 0], .bool false]) (by simp [results, Tryd.results8, go_sem]) rfl ⟨_, _, rfl, World.ownsRow_nil _ _ _ _, World.ownsRow_nil _ _ _ _, (by intro j hj; simp [Value.ownBlock] at hj), B3.out⟩

set_option maxRecDepth 100000 in
set_option maxHeartbeats 4000000 in
theorem specPR (s : ByteArray) (hs : s.size ≤ 100) (w : World) (ps : List ByteArray) (hps : pieces s 32 = ps) (R1 R2 : List Int) (ok : Bool) (hR : ParIs ps R1 R2 ok) :
    Calls Tryd.prog 8 #[.string s] w (ParQ w R1 R2 ok) := by
  have HI := Lib.hid hR
  clear hR
  obtain ⟨i0, hi, hz0, hz1, hz2⟩ := infoInt
  have hpos := pieces_pos s 32
  have hlen := pieces_size s 32
  have hsz := pieces_sz s 32
  obtain ⟨w1, hw1, hB1⟩ : ∃ w1 : World, w1 = w.alloc (.cells #[.slice none 0 0, .slice none 0 0] 24) ∧ w.heap.size + 1 = w1.heap.size := ⟨_, rfl, by simp⟩
  have B1 : Hid (Below w.heap.size w w1) := Lib.hid (by rw [hw1]; exact below_one w _)
  have QA : Hid (w1.heap[w.heap.size]? = some (.cells #[.slice none 0 0, .slice none 0 0] 24 (0, 0))) := Lib.hid (by rw [hw1]; exact heap_alloc_new w _)
  have hA1 : w.heap.size < w1.heap.size := by omega
  have P0 := Lib.hid (pair_empty w1)
  have HS : Hid (Calls Tryd.prog 29 #[.string s, .int .u8 32] (w1.alloc (.cells #[.slice none 0 0, .slice none 0 0] 24)) fun e W' => ∃ v, e = .returned v ∧ W'.ownsRow (w1.alloc (.cells #[.slice none 0 0, .slice none 0 0] 24)).heap.size 9 1 v ps.length (ps.map Value.string) ∧ Below (w1.alloc (.cells #[.slice none 0 0, .slice none 0 0] 24)).heap.size (w1.alloc (.cells #[.slice none 0 0, .slice none 0 0] 24)) W') := Lib.hid (by rw [← hps]; exact l1Split_any s 32 (by omega) _)
  rw [hps] at hpos hlen hsz
  have SZ : Hid (∀ k, k < ps.length → (ps[k]!).size ≤ 100) := Lib.hid fun k hk => by rw [getElem!_pos ps k hk]; have := hsz _ (List.getElem_mem hk); omega
  have HW1 := Lib.hid hw1
  have HB1 := Lib.hid hB1
  clear hsz hps hw1 hB1 hA1
  go_enter Tryd.func8, Tryd.ntmps8
  go_wp2_with fail
  rw [← HW1.out, HB1.out]
  have hA1 : w.heap.size < w1.heap.size := by have := HB1.out; omega
  refine HS.out.mono ?_
  rintro e w2 ⟨v, rfl, hr, hb⟩
  have P2 := Lib.hid (P0.out.below hb)
  clear hb HS P0
  rcases hr.2 with ⟨_, e⟩ | ⟨g, cap, cur, rfl, hg, hbk, -⟩
  · omega
  · have hgl : g < w2.heap.size := (Array.getElem?_eq_some_iff.1 hbk).1
    have hgB : g ≠ w1.heap.size := by simp at hg; omega
    have TX : Hid (∀ k, k < ps.length → w2.cell? ⟨g, k, none⟩ = some (.string ps[k]!)) := Lib.hid fun k hk => by
      rw [getElem!_pos ps k hk]
      exact txt_at hr k hk
    have F2 : Hid (Far w2 g (.slice none 0 0) (.slice none 0 0) w2) := Lib.hid ⟨rfl, hgl, Nat.le_refl _, (by intro j hj; simp [Value.ownBlock] at hj), (by intro j hj; simp [Value.ownBlock] at hj)⟩
    clear hr hbk hg
    go_wp2_with fail
    go_loopw [6, 7, 8, 9, 10, 11] (fun i _ _ _ _ _ wr => ∃ (k : Nat) (v1 v2 : Value), k ≤ ps.length ∧ i = .int .i64 k ∧ Hid (Pair2 w1 wr v1 v2 (prL (ps.take k)) (dyL (ps.take k))) ∧ Hid (allC (ps.take k) = true) ∧ Hid (Far w2 g v1 v2 wr)) (fun i _ _ _ _ _ _ => ps.length - (RowKit.intOf i).toNat)
    case atStart => exact ⟨0, _, _, Nat.zero_le _, rfl, P2, Lib.hid rfl, F2⟩
    case round =>
      obtain ⟨k, v1, v2, hk, rfl, HP, HC, HF⟩ := hrel
      by_cases hlt : k < ps.length
      · have hc : wr.cell? ⟨g, k, none⟩ = some (.string ps[k]!) := (cell_heap HF.out.1).trans (TX.out k hlt)
        have HSp := Lib.hid (l1Split_any ps[k]! 58 (by have := SZ.out k hlt; omega) wr)
        have HL1 := Lib.hid (prL_snoc hlt)
        have HL2 := Lib.hid (dyL_snoc hlt)
        have HC1 := Lib.hid (fun h => allC_snoc hlt HC.out h)
        have HG := Lib.hid (fun h => good_no (ps := ps) hlt h)
        have HPs := Lib.hid (pieces_sz ps[k]! 58)
        have HSk := Lib.hid (SZ.out k hlt)
        have l1 : Hid ((prL (ps.take k)).length ≤ 4001) := Lib.hid (by rw [prL_len, List.length_take]; omega)
        have l2 : Hid ((dyL (ps.take k)).length ≤ 4001) := Lib.hid (by rw [dyL_len, List.length_take]; omega)
        have eg : ps[k]! = ps[k] := getElem!_pos ps k hlt
        rw [← eg] at HL1 HL2 HC1 HG
        clear eg HC
        generalize prL (ps.take k) = L1 at *
        generalize dyL (ps.take k) = L2 at *
        generalize ps[k]! = p at *
        obtain ⟨n2, hn2⟩ : ∃ n2, (pieces p 58).length = n2 := ⟨_, rfl⟩
        have HN := Lib.hid hn2
        have HSq : Hid (Calls Tryd.prog 29 #[.string p, .int .u8 58] wr fun e W' => ∃ v, e = .returned v ∧ W'.ownsRow wr.heap.size 9 1 v (pieces p 58).length ((pieces p 58).map Value.string) ∧ Below wr.heap.size wr W') := Lib.hid HSp.out
        clear HSp hn2
        by_cases h2 : n2 = 2
        · subst h2
          obtain ⟨a, b, hab⟩ : ∃ a b, pieces p 58 = [a, b] := by
            have := HN.out
            generalize pieces p 58 = L at this
            match L, this with
            | [a, b], _ => exact ⟨a, b, rfl⟩
          have HX := Lib.hid (callR_two hab)
          have ha : a.size ≤ 1048576 := by have := HPs.out a (by rw [hab]; simp); have := HSk.out; omega
          have hb2 : b.size ≤ 1048576 := by have := HPs.out b (by rw [hab]; simp); have := HSk.out; omega
          have HA := Lib.hid (fun w => l1Read_any a w ha)
          have HB := Lib.hid (fun w => l1Read_any b w hb2)
          rw [hab] at HSq
          clear hab HPs HSk ha hb2 HN
          rw [HX.out] at HL1 HL2 HC1 HG
          generalize readL a.data.toList = x at *
          generalize readL b.data.toList = y at *
          obtain ⟨x1, o1⟩ := x
          obtain ⟨x2, o2⟩ := y
          clear HX
          go_wp2_with fail
          refine HSq.out.mono ?_
          rintro e w3 ⟨v3, rfl, hr3, hb3⟩
          obtain ⟨g3, cap3, rfl⟩ := txt_form hr3 (by simp)
          have t0 : w3.cell? ⟨g3, 0, none⟩ = some (.string a) := txt_at (ps := [a, b]) hr3 0 (by simp)
          have t1 : w3.cell? ⟨g3, 1, none⟩ = some (.string b) := txt_at (ps := [a, b]) hr3 1 (by simp)
          have P3 := Lib.hid (HP.out.below hb3)
          have F3 := Lib.hid (HF.out.below hb3)
          clear hb3 hr3 hc
          go_wp2_with fail
          refine (HA.out _).mono ?_
          rintro e w4 ⟨rfl, q1, rfl⟩
          have t2 : (w3.drewN q1).cell? ⟨g3, 1, none⟩ = some (.string b) := t1
          go_wp2_with fail
          refine (HB.out _).mono ?_
          rintro e w4 ⟨rfl, q2, rfl⟩
          have hbq : Below w3.heap.size w3 ((w3.drewN q1).drewN q2) := below_drewN (below_drewN (Below.refl _ _) q1) q2
          have P5 := Lib.hid (P3.out.below hbq)
          have F5 := Lib.hid (F3.out.below hbq)
          clear hbq t0 t1 t2
          generalize (w3.drewN q1).drewN q2 = w5 at *
          have c1 : w5.cell? ⟨w1.heap.size, 0, none⟩ = some v1 := cell_of P5.out.1 rfl
          cases o1 with
          | false =>
            obtain ⟨rfl, rfl, rfl⟩ := par_no HI.out (HG.out (by simp [twoR]))
            have P3 := P5
            have B3 := Lib.hid (B1.out.trans (P3.out.2.2.2.2.mono B1.out.size))
            have hqa : w5.heap[w.heap.size]? = _ := (P3.out.2.2.2.2.block _ hA1).trans QA.out
            have z0 : w5.cell? ⟨w.heap.size, 0, none⟩ = some (.slice none 0 0) := cell_of hqa rfl
            have z1 : w5.cell? ⟨w.heap.size, 1, none⟩ = some (.slice none 0 0) := cell_of hqa rfl
            have z2 : ∀ i, w5.frozen? ⟨w.heap.size, i, none⟩ = false := fun i => free_of hqa
            have e5 := World.cell?_setCell_same _ _ (.slice none 0 0) z0
            have z1' : (w5.setCell ⟨w.heap.size, 0, none⟩ (.slice none 0 0)).cell? ⟨w.heap.size, 1, none⟩ = some (.slice none 0 0) := by rw [World.cell?_setCell_other _ _ _ _ (by simp)]; exact z1
            have e6 := World.cell?_setCell_same _ _ (.slice none 0 0) z1'
            clear hqa
            go_wp2_with fail
            exact bodyPost_ret (v := .tuple #[.agg #[.slice none 0 0, .slice none 0 0], .bool false]) (by simp [results, Tryd.results8, go_sem, e5, e6]) rfl ⟨_, _, rfl, World.ownsRow_nil _ _ _ _, World.ownsRow_nil _ _ _ _, (by intro j hj; simp [Value.ownBlock] at hj), (B3.out.setCell (p := ⟨w.heap.size, 0, none⟩) (Nat.le_refl _) _).setCell (p := ⟨w.heap.size, 1, none⟩) (Nat.le_refl _) _⟩
          | true =>
            cases o2 with
            | false =>
              obtain ⟨rfl, rfl, rfl⟩ := par_no HI.out (HG.out (by simp [twoR]))
              have P3 := P5
              have B3 := Lib.hid (B1.out.trans (P3.out.2.2.2.2.mono B1.out.size))
              have hqa : w5.heap[w.heap.size]? = _ := (P3.out.2.2.2.2.block _ hA1).trans QA.out
              have z0 : w5.cell? ⟨w.heap.size, 0, none⟩ = some (.slice none 0 0) := cell_of hqa rfl
              have z1 : w5.cell? ⟨w.heap.size, 1, none⟩ = some (.slice none 0 0) := cell_of hqa rfl
              have z2 : ∀ i, w5.frozen? ⟨w.heap.size, i, none⟩ = false := fun i => free_of hqa
              have e5 := World.cell?_setCell_same _ _ (.slice none 0 0) z0
              have z1' : (w5.setCell ⟨w.heap.size, 0, none⟩ (.slice none 0 0)).cell? ⟨w.heap.size, 1, none⟩ = some (.slice none 0 0) := by rw [World.cell?_setCell_other _ _ _ _ (by simp)]; exact z1
              have e6 := World.cell?_setCell_same _ _ (.slice none 0 0) z1'
              clear hqa
              go_wp2_with fail
              exact bodyPost_ret (v := .tuple #[.agg #[.slice none 0 0, .slice none 0 0], .bool false]) (by simp [results, Tryd.results8, go_sem, e5, e6]) rfl ⟨_, _, rfl, World.ownsRow_nil _ _ _ _, World.ownsRow_nil _ _ _ _, (by intro j hj; simp [Value.ownBlock] at hj), (B3.out.setCell (p := ⟨w.heap.size, 0, none⟩) (Nat.le_refl _) _).setCell (p := ⟨w.heap.size, 1, none⟩) (Nat.le_refl _) _⟩
            | true =>
              simp only [twoR, Bool.and_self, if_true] at HL1 HL2 HC1
              go_wp2_with (first | (at_builtin; refine wpList_append_own_at _ rfl _ _ 22 rfl (w1.heap.size + 1) 3 i0 (.int .i64 0) 1 8 Tryd.underlying22 hi hz0 hz1 hz2 rfl (by decide) _ _ _ rfl (P5.out.2.1.alloc _) ⟨w5.heap.size, 0, none⟩ 1 1 [.int .i64 x1] rfl rfl (cell_int_new _ _) (by simp [Value.oneCell']) (by have := l1.out; unfold maxLen; omega) (by have := l1.out; omega) (by simp; have := P5.out.lt; omega) ?_; intro v' w6 hown hg _ hat; obtain ⟨a4, d4, rfl⟩ := own_form hown; have P6 := Lib.hid (pair_push1 (P5.out.below (below_one w5 (.cells #[.int .i64 x1] 3))) hown hg hat); have F6 := Lib.hid ((F5.out.below (below_one w5 (.cells #[.int .i64 x1] 3))).push (i := 0) (x := .slice a4 (L1.length + 1) d4) hgB hg hat); have hq := pair_block (P5.out.below (below_one w5 (.cells #[.int .i64 x1] 3))) (row_below P5.out.2.1 (below_one w5 (.cells #[.int .i64 x1] 3))) hg; have c4 : w6.cell? ⟨w1.heap.size, 0, none⟩ = some v1 := cell_of hq rfl; have f4 : w6.frozen? ⟨w1.heap.size, 0, none⟩ = false := free_of hq; have c5 : (w6.setCell ⟨w1.heap.size, 0, none⟩ (.slice a4 (L1.length + 1) d4)).cell? ⟨w1.heap.size, 1, none⟩ = some v2 := cell_of P6.out.1 rfl; clear hq hown hg hat) | (at_builtin; refine wpList_append_own_at _ rfl _ _ 22 rfl (w1.heap.size + 1) 3 i0 (.int .i64 0) 1 8 Tryd.underlying22 hi hz0 hz1 hz2 rfl (by decide) _ _ _ rfl (P6.out.2.2.1.alloc _) ⟨w6.heap.size, 0, none⟩ 1 1 [.int .i64 x2] rfl rfl (by have := cell_int_new (w6.setCell ⟨w1.heap.size, 0, none⟩ (.slice a4 (L1.length + 1) d4)) x2; rw [World.size_setCell] at this; exact this) (by simp [Value.oneCell']) (by have := l2.out; unfold maxLen; omega) (by have := l2.out; omega) (by simp; have := P6.out.lt; simp at this; omega) ?_; intro v' w7 hown hg _ hat; obtain ⟨a5, d5, rfl⟩ := own_form hown; have P7 := Lib.hid (pair_push2 (P6.out.below (below_one _ (.cells #[.int .i64 x2] 3))) hown hg hat); have F7 := Lib.hid (((F6.out.below (below_one _ (.cells #[.int .i64 x2] 3))).swap.push (i := 1) (x := .slice a5 (L2.length + 1) d5) hgB hg hat).swap); have hq := pair_block (P6.out.below (below_one _ (.cells #[.int .i64 x2] 3))) (row_below P6.out.2.2.1 (below_one _ (.cells #[.int .i64 x2] 3))) hg; have c6 : w7.cell? ⟨w1.heap.size, 1, none⟩ = some v2 := cell_of hq rfl; have f6 : w7.frozen? ⟨w1.heap.size, 1, none⟩ = false := free_of hq; clear hq hown hg hat))
              refine ⟨⟨k + 1, _, _, by omega, by go_num, Lib.hid (by rw [HL1.out, HL2.out]; exact P7.out), Lib.hid (HC1.out (by trivial)), F7⟩, by simp [RowKit.intOf]; omega⟩
        · have hx := callR_not (p := p) (by rw [HN.out]; exact h2)
          obtain ⟨rfl, rfl, rfl⟩ := par_no HI.out (HG.out (by rw [hx]))
          clear hx
          go_wp2_with fail
          refine HSq.out.mono ?_
          rintro e w3 ⟨v3, rfl, hr3, hb3⟩
          have P3 := Lib.hid (HP.out.below hb3)
          obtain ⟨a3, d3, rfl⟩ := str_form hr3
          rw [HN.out]
          have hn2i : ¬ ((n2 : Int) = 2) := by omega
          have B3 := Lib.hid (B1.out.trans (P3.out.2.2.2.2.mono B1.out.size))
          have hqa : w3.heap[w.heap.size]? = _ := (P3.out.2.2.2.2.block _ hA1).trans QA.out
          have z0 : w3.cell? ⟨w.heap.size, 0, none⟩ = some (.slice none 0 0) := cell_of hqa rfl
          have z1 : w3.cell? ⟨w.heap.size, 1, none⟩ = some (.slice none 0 0) := cell_of hqa rfl
          have z2 : ∀ i, w3.frozen? ⟨w.heap.size, i, none⟩ = false := fun i => free_of hqa
          have e5 := World.cell?_setCell_same _ _ (.slice none 0 0) z0
          have z1' : (w3.setCell ⟨w.heap.size, 0, none⟩ (.slice none 0 0)).cell? ⟨w.heap.size, 1, none⟩ = some (.slice none 0 0) := by rw [World.cell?_setCell_other _ _ _ _ (by simp)]; exact z1
          have e6 := World.cell?_setCell_same _ _ (.slice none 0 0) z1'
          clear hqa
          clear hr3 hb3 hc
          go_wp2_with fail
          exact bodyPost_ret (v := .tuple #[.agg #[.slice none 0 0, .slice none 0 0], .bool false]) (by simp [results, Tryd.results8, go_sem, e5, e6]) rfl ⟨_, _, rfl, World.ownsRow_nil _ _ _ _, World.ownsRow_nil _ _ _ _, (by intro j hj; simp [Value.ownBlock] at hj), (B3.out.setCell (p := ⟨w.heap.size, 0, none⟩) (Nat.le_refl _) _).setCell (p := ⟨w.heap.size, 1, none⟩) (Nat.le_refl _) _⟩
      · obtain rfl : k = ps.length := by omega
        have HC2 : Hid (allC ps = true) := Lib.hid (by have := HC.out; rwa [List.take_length] at this)
        have HP2 : Hid (Pair2 w1 wr v1 v2 (prL ps) (dyL ps)) := Lib.hid (by have := HP.out; rwa [List.take_length] at this)
        have r1 := own_form HP2.out.2.1
        have r2 := own_form HP2.out.2.2.1
        rw [prL_len] at r1
        rw [dyL_len] at r2
        obtain ⟨a1, d1, rfl⟩ := r1
        obtain ⟨a2, d2, rfl⟩ := r2
        have AR : Hid (ArgR wr (.agg #[.slice a1 ps.length d1, .slice a2 ps.length d2]) (prL ps).length (dyL ps).length (fun j => (prL ps).getD j 0) (fun j => (dyL ps).getD j 0)) := Lib.hid ⟨_, _, rfl, arg_of_owns HP2.out.2.1, arg_of_owns HP2.out.2.2.1⟩
        have KG : Hid (Calls Tryd.prog 31 #[.agg #[.slice a1 ps.length d1, .slice a2 ps.length d2]] wr (BoolP wr (rotP ps))) := Lib.hid (specGood_any _ _ _ _ _ (by rw [prL_len]; unfold maxLen; omega) (by rw [dyL_len]; unfold maxLen; omega) wr AR.out)
        have c0 : wr.cell? ⟨w1.heap.size, 0, none⟩ = some (.slice a1 ps.length d1) := cell_of HP2.out.1 rfl
        have c1 : wr.cell? ⟨w1.heap.size, 1, none⟩ = some (.slice a2 ps.length d2) := cell_of HP2.out.1 rfl
        clear HP HC AR HF
        cases hrp : rotP ps with
        | true =>
          have hgd : goodP ps = true := by simp [goodP, HC2.out, hrp]
          obtain ⟨rfl, rfl, rfl⟩ := par_yes HI.out hgd
          rw [hrp] at KG
          clear hrp hgd
          go_wp2_with fail
          refine KG.out.mono ?_
          rintro e w5 ⟨rfl, hb5⟩
          have P5 := Lib.hid (HP2.out.below hb5)
          have b0 : w5.cell? ⟨w1.heap.size, 0, none⟩ = some (.slice a1 ps.length d1) := cell_of P5.out.1 rfl
          have b1 : w5.cell? ⟨w1.heap.size, 1, none⟩ = some (.slice a2 ps.length d2) := cell_of P5.out.1 rfl
          have hqa : w5.heap[w.heap.size]? = _ := (P5.out.2.2.2.2.block _ hA1).trans QA.out
          have z0 : w5.cell? ⟨w.heap.size, 0, none⟩ = some (.slice none 0 0) := cell_of hqa rfl
          have z1 : w5.cell? ⟨w.heap.size, 1, none⟩ = some (.slice none 0 0) := cell_of hqa rfl
          have z2 : ∀ i, w5.frozen? ⟨w.heap.size, i, none⟩ = false := fun i => free_of hqa
          have e5 := World.cell?_setCell_same _ _ (.slice a1 ps.length d1) z0
          have z1' : (w5.setCell ⟨w.heap.size, 0, none⟩ (.slice a1 ps.length d1)).cell? ⟨w.heap.size, 1, none⟩ = some (.slice none 0 0) := by rw [World.cell?_setCell_other _ _ _ _ (by simp)]; exact z1
          have e6 := World.cell?_setCell_same _ _ (.slice a2 ps.length d2) z1'
          have HD := Lib.hid (pair_done (A := w.heap.size) (Nat.le_refl _) (by omega) P5.out B1.out)
          clear hb5 hqa
          go_wp2_with fail
          exact bodyPost_ret (v := .tuple #[.agg #[.slice a1 ps.length d1, .slice a2 ps.length d2], .bool true]) (by simp [results, Tryd.results8, go_sem, e5, e6]) rfl ⟨_, _, rfl, HD.out⟩
        | false =>
          have hgd : goodP ps = false := by simp [goodP, hrp]
          obtain ⟨rfl, rfl, rfl⟩ := par_no HI.out hgd
          rw [hrp] at KG
          clear hrp hgd
          go_wp2_with fail
          refine KG.out.mono ?_
          rintro e w3 ⟨rfl, hb3⟩
          have P3 := Lib.hid (HP2.out.below hb3)
          have hqa : w3.heap[w.heap.size]? = _ := (P3.out.2.2.2.2.block _ hA1).trans QA.out
          have z0 : w3.cell? ⟨w.heap.size, 0, none⟩ = some (.slice none 0 0) := cell_of hqa rfl
          have z1 : w3.cell? ⟨w.heap.size, 1, none⟩ = some (.slice none 0 0) := cell_of hqa rfl
          have z2 : ∀ i, w3.frozen? ⟨w.heap.size, i, none⟩ = false := fun i => free_of hqa
          have B3 := Lib.hid (B1.out.trans (P3.out.2.2.2.2.mono B1.out.size))
          have e5 := World.cell?_setCell_same _ _ (.slice none 0 0) z0
          have z1' : (w3.setCell ⟨w.heap.size, 0, none⟩ (.slice none 0 0)).cell? ⟨w.heap.size, 1, none⟩ = some (.slice none 0 0) := by rw [World.cell?_setCell_other _ _ _ _ (by simp)]; exact z1
          have e6 := World.cell?_setCell_same _ _ (.slice none 0 0) z1'
          clear hb3 hqa
          go_wp2_with fail
          exact bodyPost_ret (v := .tuple #[.agg #[.slice none 0 0, .slice none 0 0], .bool false]) (by simp [results, Tryd.results8, go_sem, e5, e6]) rfl ⟨_, _, rfl, World.ownsRow_nil _ _ _ _, World.ownsRow_nil _ _ _ _, (by intro j hj; simp [Value.ownBlock] at hj), (B3.out.setCell (p := ⟨w.heap.size, 0, none⟩) (Nat.le_refl _) _).setCell (p := ⟨w.heap.size, 1, none⟩) (Nat.le_refl _) _⟩

theorem implPR_big (s : ByteArray) (hs : 4000 < s.size) (w : World) : Calls Tryd.prog 9 #[.string s] w (ParQ w [] [] false) := by
  have HS := Lib.hid (split_bad s ⟨#[32]⟩ (.inl hs) (w.alloc (.cells #[.slice none 0 0, .slice none 0 0] 24)))
  go_enter Tryd.func9, Tryd.ntmps9
  go_wp2_with fail
  refine HS.out.mono ?_
  rintro e w3 ⟨v, rfl, hr, hb⟩
  have B3 := Lib.hid ((below_one w (.cells #[.slice none 0 0, .slice none 0 0] 24)).trans (hb.mono (below_one w _).size))
  have hqa : w3.heap[w.heap.size]? = _ := (hb.block w.heap.size (by simp)).trans (heap_alloc_new w _)
  have z0 : w3.cell? ⟨w.heap.size, 0, none⟩ = some (.slice none 0 0) := cell_of hqa rfl
  have z1 : w3.cell? ⟨w.heap.size, 1, none⟩ = some (.slice none 0 0) := cell_of hqa rfl
  have z2 : ∀ i, w3.frozen? ⟨w.heap.size, i, none⟩ = false := fun i => free_of hqa
  have e5 := World.cell?_setCell_same _ _ (.slice none 0 0) z0
  have z1' : (w3.setCell ⟨w.heap.size, 0, none⟩ (.slice none 0 0)).cell? ⟨w.heap.size, 1, none⟩ = some (.slice none 0 0) := by rw [World.cell?_setCell_other _ _ _ _ (by simp)]; exact z1
  have e6 := World.cell?_setCell_same _ _ (.slice none 0 0) z1'
  clear hb hqa hr HS
  go_wp2_with fail
  exact bodyPost_ret (v := .tuple #[.agg #[.slice none 0 0, .slice none 0 0], .bool false]) (by simp [results, Tryd.results9, go_sem, e5, e6]) rfl ⟨_, _, rfl, World.ownsRow_nil _ _ _ _, World.ownsRow_nil _ _ _ _, (by intro j hj; simp [Value.ownBlock] at hj), (B3.out.setCell (p := ⟨w.heap.size, 0, none⟩) (Nat.le_refl _) _).setCell (p := ⟨w.heap.size, 1, none⟩) (Nat.le_refl _) _⟩
end Go.Proofs.YtefkcdhmiepbfaaDoor.R
