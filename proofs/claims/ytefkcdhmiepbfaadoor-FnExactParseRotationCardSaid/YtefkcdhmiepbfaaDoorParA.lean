/-
  What impl.ParseRotation returns. No statement of the seat by itself.
-/
import Derived.Test.YtefkcdhmiepbfaaDoorPair
import Derived.Test.YtefkcdhmiepbfaaDoorSplitW
import Derived.Maps.AppendAt
namespace Go.Proofs.YtefkcdhmiepbfaaDoor.R
open Go.RowKit

theorem pieces_pos (s : ByteArray) (c : UInt8) : 0 < (pieces s c).length := by rw [pieces_len]; omega
theorem pst_sz (s : ByteArray) (c : UInt8) : ∀ k, ∀ p ∈ (pst s c k).1, p.size ≤ s.size
  | 0, p, h => by simp [pst] at h
  | k + 1, p, h => by
    rw [pst] at h
    split at h
    · split at h
      · rcases List.mem_append.1 h with h | h
        · exact pst_sz s c k p h
        · rw [List.mem_singleton.1 h, ByteArray.size_extract]; omega
      · exact pst_sz s c k p h
    · exact pst_sz s c k p h
theorem pieces_sz (s : ByteArray) (c : UInt8) : ∀ p ∈ pieces s c, p.size ≤ s.size := fun p h => by
  rcases List.mem_append.1 h with h | h
  · exact pst_sz s c _ p h
  · rw [List.mem_singleton.1 h, ByteArray.size_extract]; omega
/-- What a text of these pieces reads as. -/
def ParIs (ps : List ByteArray) (R1 R2 : List Int) (ok : Bool) : Prop := (goodP ps = true ∧ ok = true ∧ R1 = prL ps ∧ R2 = dyL ps) ∨ (goodP ps = false ∧ ok = false ∧ R1 = [] ∧ R2 = [])
theorem par_no {ps : List ByteArray} {R1 R2 : List Int} {ok : Bool} (h : ParIs ps R1 R2 ok) (hg : goodP ps = false) : R1 = [] ∧ R2 = [] ∧ ok = false := by
  rcases h with ⟨h, -⟩ | ⟨-, h1, h2, h3⟩
  · rw [hg] at h; cases h
  · exact ⟨h2, h3, h1⟩
theorem par_yes {ps : List ByteArray} {R1 R2 : List Int} {ok : Bool} (h : ParIs ps R1 R2 ok) (hg : goodP ps = true) : R1 = prL ps ∧ R2 = dyL ps ∧ ok = true := by
  rcases h with ⟨-, h1, h2, h3⟩ | ⟨h, -⟩
  · exact ⟨h2, h3, h1⟩
  · rw [hg] at h; cases h
theorem infoInt : ∃ i, Tryd.prog.info? 3 = some i ∧ i.zero = some (.int .i64 0) ∧ i.size = 1 ∧ i.bytes = 8 := info_is infoI
/-- The texts of a list of the call's own. -/
theorem txt_at {W : World} {base g n cap : Nat} {ps : List ByteArray} (h : W.ownsRow base 9 1 (.slice (some ⟨g, 0, none⟩) n cap) ps.length (ps.map Value.string)) (k : Nat) (hk : k < ps.length) : W.cell? ⟨g, k, none⟩ = some (.string ps[k]) := by
  have := World.ownsRow.cells h (g := g) rfl k (.string ps[k]) (by simp [hk])
  have e : (⟨g, 0, none⟩ : Addr).add k = ⟨g, k, none⟩ := by
    by_cases h : k = 0
    · subst h; rfl
    · simp [Addr.add, h]
  rwa [e] at this

set_option maxRecDepth 100000 in
set_option maxHeartbeats 4000000 in
theorem implPR (s : ByteArray) (hs : s.size ≤ 4000) (w : World) (hT : Tabs w) (ps : List ByteArray) (hps : pieces s 32 = ps) (R1 R2 : List Int) (ok : Bool) (hR : ParIs ps R1 R2 ok) :
    Calls Tryd.prog 9 #[.string s] w (ParQ w R1 R2 ok) := by
  have HI := Lib.hid hR
  clear hR
  obtain ⟨i0, hi, hz0, hz1, hz2⟩ := infoInt
  have hpos := pieces_pos s 32
  have hlen := pieces_size s 32
  have hsz := pieces_sz s 32
  have HS := Lib.hid (split_any s 32 hs (w.alloc (.cells #[.slice none 0 0, .slice none 0 0] 24)))
  rw [hps] at HS hpos hlen hsz
  have CS : Hid (∀ k, k < ps.length → ∀ W, Tabs W → Calls Tryd.prog 33 #[.string ps[k]!] W (CallP W (callR ps[k]!))) := Lib.hid fun k hk W hW => call_any _ (by rw [getElem!_pos ps k hk]; have := hsz _ (List.getElem_mem hk); omega) W hW
  clear hsz
  have HT := Lib.hid hT
  clear hT hps
  go_enter Tryd.func9, Tryd.ntmps9
  go_wp2_with fail
  all_goals
    refine HS.out.mono ?_
    rintro e w1 ⟨v, rfl, hr, hb⟩
    have B1 := Lib.hid ((below_one w (.cells #[.slice none 0 0, .slice none 0 0] 24)).trans (hb.mono (below_one w _).size))
    have QA := Lib.hid ((hb.block w.heap.size (by simp)).trans (heap_alloc_new w _))
    have hA1 : w.heap.size < w1.heap.size := (Array.getElem?_eq_some_iff.1 QA.out).1
    clear hb
    rcases hr.2 with ⟨_, e⟩ | ⟨g, cap, cur, rfl, hg, hbk, -⟩
    · omega
    · have HR := Lib.hid hr
      have hgl : g < w1.heap.size := (Array.getElem?_eq_some_iff.1 hbk).1
      have TX : Hid (∀ k, k < ps.length → ∀ W, Below w1.heap.size w1 W → W.cell? ⟨g, k, none⟩ = some (.string ps[k]!)) := Lib.hid fun k hk W hW => by
        rw [hW.cell (p := ⟨g, k, none⟩) hgl, getElem!_pos ps k hk]
        exact txt_at HR.out k hk
      have P0 := Lib.hid (pair_empty w1)
      clear hr HR hbk hg
      go_wp2_with fail
      go_loopw [8, 9, 10, 11, 22] (fun _ _ _ _ i wr => ∃ (k : Nat) (v1 v2 : Value), k ≤ ps.length ∧ i = .int .i64 k ∧ Hid (Pair2 w1 wr v1 v2 (prL (ps.take k)) (dyL (ps.take k))) ∧ Hid (allC (ps.take k) = true)) (fun _ _ _ _ i _ => ps.length - (RowKit.intOf i).toNat)
      case atStart => exact ⟨0, _, _, Nat.zero_le _, rfl, P0, Lib.hid rfl⟩
      case round =>
        obtain ⟨k, v1, v2, hk, rfl, HP, HC⟩ := hrel
        by_cases hlt : k < ps.length
        · have hc := TX.out k hlt _ HP.out.2.2.2.2
          have HCal := Lib.hid (CS.out k hlt)
          have HL1 := Lib.hid (prL_snoc hlt)
          have HL2 := Lib.hid (dyL_snoc hlt)
          have HC1 := Lib.hid (fun h => allC_snoc hlt HC.out h)
          have HG := Lib.hid (fun h => good_no (ps := ps) hlt h)
          have l1 : Hid ((prL (ps.take k)).length ≤ 4001) := Lib.hid (by rw [prL_len, List.length_take]; omega)
          have l2 : Hid ((dyL (ps.take k)).length ≤ 4001) := Lib.hid (by rw [dyL_len, List.length_take]; omega)
          have eg : ps[k]! = ps[k] := getElem!_pos ps k hlt
          rw [← eg] at HL1 HL2 HC1 HG
          clear eg HC
          generalize prL (ps.take k) = L1 at *
          generalize dyL (ps.take k) = L2 at *
          generalize callR ps[k]! = x at *
          generalize ps[k]! = p at *
          obtain ⟨x1, x2, x3⟩ := x
          have TT := Lib.hid (HT.out.below (B1.out.trans (HP.out.2.2.2.2.mono B1.out.size)))
          cases x3 with
          | true =>
            go_wp2_with fail
            refine (HCal.out _ TT.out).mono ?_
            rintro e w3 ⟨rfl, hb3⟩
            have P3 := Lib.hid (HP.out.below hb3)
            have c1 : w3.cell? ⟨w1.heap.size, 0, none⟩ = some v1 := cell_of P3.out.1 rfl
            clear hb3
            go_wp2_with (first | (at_builtin; refine wpList_append_own_at _ rfl _ _ 22 rfl (w1.heap.size + 1) 3 i0 (.int .i64 0) 1 8 Tryd.underlying22 hi hz0 hz1 hz2 rfl (by decide) _ _ _ rfl (P3.out.2.1.alloc _) ⟨w3.heap.size, 0, none⟩ 1 1 [.int .i64 x1] rfl rfl (cell_int_new _ _) (by simp [Value.oneCell']) (by have := l1.out; unfold maxLen; omega) (by have := l1.out; omega) (by simp; have := P3.out.lt; omega) ?_; intro v' w4 hown hg _ hat; obtain ⟨a4, d4, rfl⟩ := own_form hown; have P4 := Lib.hid (pair_push1 (P3.out.below (below_one w3 (.cells #[.int .i64 x1] 3))) hown hg hat); have hq := pair_block (P3.out.below (below_one w3 (.cells #[.int .i64 x1] 3))) (row_below P3.out.2.1 (below_one w3 (.cells #[.int .i64 x1] 3))) hg; have c4 : w4.cell? ⟨w1.heap.size, 0, none⟩ = some v1 := cell_of hq rfl; have f4 : w4.frozen? ⟨w1.heap.size, 0, none⟩ = false := free_of hq; have c5 : (w4.setCell ⟨w1.heap.size, 0, none⟩ (.slice a4 (L1.length + 1) d4)).cell? ⟨w1.heap.size, 1, none⟩ = some v2 := cell_of P4.out.1 rfl; clear hq hown hg hat) | (at_builtin; refine wpList_append_own_at _ rfl _ _ 22 rfl (w1.heap.size + 1) 3 i0 (.int .i64 0) 1 8 Tryd.underlying22 hi hz0 hz1 hz2 rfl (by decide) _ _ _ rfl (P4.out.2.2.1.alloc _) ⟨w4.heap.size, 0, none⟩ 1 1 [.int .i64 x2] rfl rfl (by have := cell_int_new (w4.setCell ⟨w1.heap.size, 0, none⟩ (.slice a4 (L1.length + 1) d4)) x2; rw [World.size_setCell] at this; exact this) (by simp [Value.oneCell']) (by have := l2.out; unfold maxLen; omega) (by have := l2.out; omega) (by simp; have := P4.out.lt; simp at this; omega) ?_; intro v' w5 hown hg _ hat; obtain ⟨a5, d5, rfl⟩ := own_form hown; have P5 := Lib.hid (pair_push2 (P4.out.below (below_one _ (.cells #[.int .i64 x2] 3))) hown hg hat); have hq := pair_block (P4.out.below (below_one _ (.cells #[.int .i64 x2] 3))) (row_below P4.out.2.2.1 (below_one _ (.cells #[.int .i64 x2] 3))) hg; have c6 : w5.cell? ⟨w1.heap.size, 1, none⟩ = some v2 := cell_of hq rfl; have f6 : w5.frozen? ⟨w1.heap.size, 1, none⟩ = false := free_of hq; clear hq hown hg hat))
            refine ⟨⟨k + 1, _, _, by omega, by go_num, Lib.hid (by rw [HL1.out, HL2.out]; exact P5.out), Lib.hid (HC1.out (by trivial))⟩, by simp [RowKit.intOf]; omega⟩
          | false =>
            obtain ⟨rfl, rfl, rfl⟩ := par_no HI.out (HG.out rfl)
            go_wp2_with fail
            refine (HCal.out _ TT.out).mono ?_
            rintro e w3 ⟨rfl, hb3⟩
            have P3 := Lib.hid (HP.out.below hb3)
            have hqa : w3.heap[w.heap.size]? = _ := (P3.out.2.2.2.2.block _ hA1).trans QA.out
            have z0 : w3.cell? ⟨w.heap.size, 0, none⟩ = some (.slice none 0 0) := cell_of hqa rfl
            have z1 : w3.cell? ⟨w.heap.size, 1, none⟩ = some (.slice none 0 0) := cell_of hqa rfl
            have z2 : ∀ i, w3.frozen? ⟨w.heap.size, i, none⟩ = false := fun i => free_of hqa
            have B3 := Lib.hid (B1.out.trans (P3.out.2.2.2.2.mono B1.out.size))
            have e5 := World.cell?_setCell_same _ _ (.slice none 0 0) z0
            have z1' : (w3.setCell ⟨w.heap.size, 0, none⟩ (.slice none 0 0)).cell? ⟨w.heap.size, 1, none⟩ = some (.slice none 0 0) := by rw [World.cell?_setCell_other _ _ _ _ (by simp)]; exact z1
            have e6 := World.cell?_setCell_same _ _ (.slice none 0 0) z1'
            clear hb3 hqa
            go_wp2_with fail
            exact bodyPost_ret (v := .tuple #[.agg #[.slice none 0 0, .slice none 0 0], .bool false]) (by simp [results, Tryd.results9, go_sem, e5, e6]) rfl ⟨_, _, rfl, World.ownsRow_nil _ _ _ _, World.ownsRow_nil _ _ _ _, (by intro j hj; simp [Value.ownBlock] at hj), (B3.out.setCell (p := ⟨w.heap.size, 0, none⟩) (Nat.le_refl _) _).setCell (p := ⟨w.heap.size, 1, none⟩) (Nat.le_refl _) _⟩
        · obtain rfl : k = ps.length := by omega
          have HC2 : Hid (allC ps = true) := Lib.hid (by have := HC.out; rwa [List.take_length] at this)
          have HP2 : Hid (Pair2 w1 wr v1 v2 (prL ps) (dyL ps)) := Lib.hid (by have := HP.out; rwa [List.take_length] at this)
          have r1 := own_form HP2.out.2.1
          have r2 := own_form HP2.out.2.2.1
          rw [prL_len] at r1
          rw [dyL_len] at r2
          obtain ⟨a1, d1, rfl⟩ := r1
          obtain ⟨a2, d2, rfl⟩ := r2
          have AR : Hid (ArgR wr (.agg #[.slice a1 ps.length d1, .slice a2 ps.length d2]) (prL ps).length (dyL ps).length (fun j => (prL ps).getD j 0) (fun j => (dyL ps).getD j 0)) := Lib.hid ⟨_, _, rfl, arg_of_owns HP2.out.2.1, arg_of_owns HP2.out.2.2.1⟩
          have KG : Hid (Calls Tryd.prog 34 #[.agg #[.slice a1 ps.length d1, .slice a2 ps.length d2]] wr (BoolP wr (rotP ps))) := Lib.hid (implGood_any _ _ _ _ _ (by rw [prL_len]; unfold maxLen; omega) (by rw [dyL_len]; unfold maxLen; omega) wr AR.out)
          have c0 : wr.cell? ⟨w1.heap.size, 0, none⟩ = some (.slice a1 ps.length d1) := cell_of HP2.out.1 rfl
          have c1 : wr.cell? ⟨w1.heap.size, 1, none⟩ = some (.slice a2 ps.length d2) := cell_of HP2.out.1 rfl
          clear HP HC AR
          cases hrp : rotP ps with
          | true =>
            have hgd : goodP ps = true := by simp [goodP, HC2.out, hrp]
            obtain ⟨rfl, rfl, rfl⟩ := par_yes HI.out hgd
            rw [hrp] at KG
            clear hrp hgd
            go_wp2_with fail
            refine KG.out.mono ?_
            rintro e w5 ⟨rfl, hb5⟩
            have P5 := Lib.hid (HP2.out.below hb5)
            have b0 : w5.cell? ⟨w1.heap.size, 0, none⟩ = some (.slice a1 ps.length d1) := cell_of P5.out.1 rfl
            have b1 : w5.cell? ⟨w1.heap.size, 1, none⟩ = some (.slice a2 ps.length d2) := cell_of P5.out.1 rfl
            have hqa : w5.heap[w.heap.size]? = _ := (P5.out.2.2.2.2.block _ hA1).trans QA.out
            have z0 : w5.cell? ⟨w.heap.size, 0, none⟩ = some (.slice none 0 0) := cell_of hqa rfl
            have z1 : w5.cell? ⟨w.heap.size, 1, none⟩ = some (.slice none 0 0) := cell_of hqa rfl
            have z2 : ∀ i, w5.frozen? ⟨w.heap.size, i, none⟩ = false := fun i => free_of hqa
            have e5 := World.cell?_setCell_same _ _ (.slice a1 ps.length d1) z0
            have z1' : (w5.setCell ⟨w.heap.size, 0, none⟩ (.slice a1 ps.length d1)).cell? ⟨w.heap.size, 1, none⟩ = some (.slice none 0 0) := by rw [World.cell?_setCell_other _ _ _ _ (by simp)]; exact z1
            have e6 := World.cell?_setCell_same _ _ (.slice a2 ps.length d2) z1'
            have HD := Lib.hid (pair_done (A := w.heap.size) (Nat.le_refl _) (by omega) P5.out B1.out)
            clear hb5 hqa
            go_wp2_with fail
            exact bodyPost_ret (v := .tuple #[.agg #[.slice a1 ps.length d1, .slice a2 ps.length d2], .bool true]) (by simp [results, Tryd.results9, go_sem, e5, e6]) rfl ⟨_, _, rfl, HD.out⟩
          | false =>
            have hgd : goodP ps = false := by simp [goodP, hrp]
            obtain ⟨rfl, rfl, rfl⟩ := par_no HI.out hgd
            rw [hrp] at KG
            clear hrp hgd
            go_wp2_with fail
            refine KG.out.mono ?_
            rintro e w3 ⟨rfl, hb3⟩
            have P3 := Lib.hid (HP2.out.below hb3)
            have hqa : w3.heap[w.heap.size]? = _ := (P3.out.2.2.2.2.block _ hA1).trans QA.out
            have z0 : w3.cell? ⟨w.heap.size, 0, none⟩ = some (.slice none 0 0) := cell_of hqa rfl
            have z1 : w3.cell? ⟨w.heap.size, 1, none⟩ = some (.slice none 0 0) := cell_of hqa rfl
            have z2 : ∀ i, w3.frozen? ⟨w.heap.size, i, none⟩ = false := fun i => free_of hqa
            have B3 := Lib.hid (B1.out.trans (P3.out.2.2.2.2.mono B1.out.size))
            have e5 := World.cell?_setCell_same _ _ (.slice none 0 0) z0
            have z1' : (w3.setCell ⟨w.heap.size, 0, none⟩ (.slice none 0 0)).cell? ⟨w.heap.size, 1, none⟩ = some (.slice none 0 0) := by rw [World.cell?_setCell_other _ _ _ _ (by simp)]; exact z1
            have e6 := World.cell?_setCell_same _ _ (.slice none 0 0) z1'
            clear hb3 hqa
            go_wp2_with fail
            exact bodyPost_ret (v := .tuple #[.agg #[.slice none 0 0, .slice none 0 0], .bool false]) (by simp [results, Tryd.results9, go_sem, e5, e6]) rfl ⟨_, _, rfl, World.ownsRow_nil _ _ _ _, World.ownsRow_nil _ _ _ _, (by intro j hj; simp [Value.ownBlock] at hj), (B3.out.setCell (p := ⟨w.heap.size, 0, none⟩) (Nat.le_refl _) _).setCell (p := ⟨w.heap.size, 1, none⟩) (Nat.le_refl _) _⟩
end Go.Proofs.YtefkcdhmiepbfaaDoor.R
