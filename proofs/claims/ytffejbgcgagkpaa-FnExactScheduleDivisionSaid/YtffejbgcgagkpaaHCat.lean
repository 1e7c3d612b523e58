/-
  What slices.Concat answers of rows of ints. No statement of the seat by itself.
-/
import Derived.Test.YtffejbgcgagkpaaLaidGrow
import Derived.Test.YtffejbgcgagkpaaOwn
namespace Go.Proofs.Ytffejbgcgagkpaa
open Go.RowKit

theorem grow_nil (n : Nat) (h0 : 0 < n) (hn : n ≤ 1000) (w : World) :
    Calls Try.prog 88 #[.slice none 0 0, .int .i64 (n : Int)] w fun e w' => ∃ v, e = .returned v ∧ w'.ownsRow w.heap.size 3 1 v 0 (intV []) ∧ Below w.heap.size w w' := by
  obtain ⟨i0, hi, hz0, hz1, hz2⟩ := info_is info3
  have h := Any8.slices_Grow_grow (P := Try.prog) Try.laysGrow i0 (.int .i64 0) hi hz0 (by omega) none 0 0 n [] w (Nat.le_refl _) (by omega) (by rw [hz2]; omega) (by omega) (by simp) (fun _ => rfl) (fun a ha => by cases ha)
  refine Calls.mono (show Calls Try.prog 88 _ _ _ from h) ?_
  rintro e w' ⟨rfl, rfl⟩
  have hcm : grownCap w (0 + n) 0 3 ≤ maxLen := grownCap_le_maxLen w (0 + n) 0 3 (by unfold maxLen; omega)
  have hge := grownCap_ge w (0 + n) 0 3
  refine ⟨_, rfl, ?_, (below_drewN (Below.refl _ w) 1).alloc (Nat.le_refl _) _⟩
  refine World.ownsRow_made w.drew _ _ (Nat.le_refl _) hcm ?_
  show _ = grownCap w (0 + n) 0 3 * 1
  simp only [Array.size_append, List.size_toArray, size_zeroCells, Value.cells]
  have hge2 : n ≤ grownCap w n 0 3 := by simpa using hge
  have hge3 : n ≤ grownCap w n 0 (Go.Proofs.Try.laysGrow_ren.t 25) := hge2
  have he : grownCap w (0 + n) 0 3 = grownCap w n 0 (Go.Proofs.Try.laysGrow_ren.t 25) := by rw [Nat.zero_add]; rfl
  rw [he]
  simp
  omega
theorem grow_zero (w : World) : Calls Try.prog 88 #[.slice none 0 0, .int .i64 0] w fun e w' => ∃ v, e = .returned v ∧ w'.ownsRow w.heap.size 3 1 v 0 (intV []) ∧ Below w.heap.size w w' := by
  have R : Hid (w.ownsRow w.heap.size 3 1 (.slice none 0 0) 0 (intV [])) := Lib.hid ⟨rfl, .inl ⟨rfl, rfl⟩⟩
  go_enter Try.func88, Try.ntmps88
  go_wp2_with fail
  go_ret
  exact ⟨_, rfl, R.out, Below.refl _ _⟩
theorem grow_any (n : Nat) (hn : n ≤ 1000) (w : World) : Calls Try.prog 88 #[.slice none 0 0, .int .i64 (n : Int)] w fun e w' => ∃ v, e = .returned v ∧ w'.ownsRow w.heap.size 3 1 v 0 (intV []) ∧ Below w.heap.size w w' := by
  by_cases h : n = 0
  · subst h; exact grow_zero w
  · exact grow_nil n (by omega) hn w

/-- A list of the call's own was answered, whatever its form, and nothing older turned. -/
def OneL (w : World) (l : List Int) (e : Ending) (w' : World) : Prop := ∃ v, e = .returned v ∧ w'.ownsRow w.heap.size 3 1 v l.length (intV l) ∧ Below w.heap.size w w'

set_option maxRecDepth 100000 in
set_option maxHeartbeats 4000000 in
theorem concat_any (v : Value) (Y : List (List Int)) (hn : Y.length ≤ 1000) (ht : tot Y ≤ 1000) (w : World) (h : YL w v Y) :
    Calls Try.prog 77 #[v] w (OneL w Y.flatten) := by
  obtain ⟨f3, hi3, hz0, hz1, hz2⟩ := info_is info3
  obtain ⟨a, cap, rfl, hc⟩ := h
  obtain ⟨n, hl⟩ : ∃ n, Y.length = n := ⟨_, rfl⟩
  have HN := Lib.hid hl
  have HC := Lib.hid hc
  have HA := Lib.hid (tk_all Y)
  have HTk := Lib.hid (tk_le Y)
  have HFl : Hid ((Y.take n).flatten = Y.flatten) := Lib.hid (by rw [← hl, List.take_length])
  have HLn := Lib.hid (fun k => show ((Y.take k).flatten).length = tk Y k by simp [tk, tot, List.length_flatten])
  rw [hl] at hn HA ⊢
  obtain ⟨t, htt⟩ : ∃ t, tot Y = t := ⟨_, rfl⟩
  rw [htt] at ht HA HTk
  have HTT := Lib.hid htt
  clear hc hl htt
  go_enter Try.func77, Try.ntmps77
  go_wp2_with fail
  go_loop [3, 5, 11] (fun s _ i => ∃ k q : Nat, k ≤ n ∧ i = .int .i64 k ∧ s = .int .i64 q ∧ Hid (q = tk Y k)) (fun _ _ i => n - (intOf i).toNat)
  case atStart => exact ⟨0, 0, Nat.zero_le _, rfl, rfl, Lib.hid (tk_zero Y).symm⟩
  case round =>
    obtain ⟨k, q, hk, rfl, rfl, HQ⟩ := hrel
    have hq : q ≤ 1000 := by have := HTk.out k; have := HQ.out; omega
    by_cases hlt : k < n
    · obtain ⟨l, hl⟩ := get_at HN.out hlt
      obtain ⟨g, off, rfl, hg, hcc⟩ := HC.out (by have := HN.out; omega)
      obtain ⟨u, hu, hil⟩ := hcc k l hl
      obtain ⟨a2, c2, rfl⟩ := hil.form
      have hs := tk_succ hl
      have hq2 := HTk.out (k + 1)
      have HQ2 : Hid (q + l.length = tk Y (k + 1)) := Lib.hid (by rw [hs, HQ.out])
      have hqb : q + l.length ≤ 1000 := by have := HQ2.out; omega
      clear hcc hl hil hs hq2
      generalize l.length = m at *
      have hq0 : ¬ ((q : Int) + (m : Int)) < 0 := by omega
      have hq0' : decide (((q : Int) + (m : Int)) < 0) = false := by simp; omega
      go_wp2_with fail
      go_round
      case rel => exact ⟨k + 1, q + m, by omega, by go_num, by go_num, HQ2⟩
      case measure => simp [intOf]; omega
    · obtain rfl : k = n := by omega
      have HG := Lib.hid (grow_any q hq w)
      go_wp2_with fail
      refine HG.out.mono ?_
      rintro e w1 ⟨v1, rfl, ho1, hb1⟩
      have J1 : Hid (w1.ownsRow w.heap.size 3 1 v1 0 (intV (Y.take 0).flatten) ∧ Below w.heap.size w w1) := Lib.hid ⟨by simpa using ho1, hb1⟩
      clear ho1 hb1
      go_wp2_with fail
      go_loopw [6, 8, 27] (fun o _ i wr => ∃ j q : Nat, j ≤ k ∧ i = .int .i64 j ∧ Hid (q = tk Y j) ∧ Hid (wr.ownsRow w.heap.size 3 1 o q (intV (Y.take j).flatten) ∧ Below w.heap.size w wr)) (fun _ _ i _ => k - (intOf i).toNat)
      case atStart => exact ⟨0, 0, Nat.zero_le _, rfl, Lib.hid (tk_zero Y).symm, J1⟩
      case round =>
        obtain ⟨j, q2, hj, rfl, HQj, HJ⟩ := hrel
        by_cases hjk : j < k
        · obtain ⟨l, hl⟩ := get_at HN.out hjk
          obtain ⟨g, off, rfl, hg, hcc⟩ := HC.out (by have := HN.out; omega)
          obtain ⟨u, hu', hil⟩ := hcc j l hl
          have hu := (HJ.out.2.cell (p := ⟨g, off + j, none⟩) hg).trans hu'
          have HS : Hid ((Y.take (j + 1)).flatten = (Y.take j).flatten ++ l) := Lib.hid (flat_succ hl)
          have hq3 : q2 + l.length = tk Y (j + 1) := by rw [tk_succ hl, HQj.out]
          have hq4 := HTk.out (j + 1)
          have HQ4 := Lib.hid hq3
          have HIL := Lib.hid (hil.below HJ.out.2)
          obtain ⟨a2, c2, rfl⟩ := hil.form
          have hrow := HJ.out.1
          have hsz := HJ.out.2.size
          by_cases h0 : l.length = 0
          · have e : l = [] := List.eq_nil_of_length_eq_zero h0
            subst e
            obtain ⟨ao, co, rfl⟩ := own_form hrow
            have hqc : q2 ≤ co := by
              rcases hrow.2 with ⟨e1, e2⟩ | ⟨_, _, _, e1, _, _, e2, _⟩
              · omega
              · injection e1 with _ _ e3; omega
            have HNx : Hid (wr.ownsRow w.heap.size 3 1 (.slice ao q2 co) q2 (intV (Y.take (j + 1)).flatten) ∧ Below w.heap.size w wr) := Lib.hid (by rw [HS.out, List.append_nil]; exact HJ.out)
            have HQ5 : Hid (q2 = tk Y (j + 1)) := Lib.hid (by simpa using HQ4.out)
            clear hcc hl hil hq3 hq4 hu' hrow h0
            simp only [List.length_nil] at hu
            go_wp2_with (at_builtin; refine wpList_append_zero rfl _ _ 24 rfl 3 f3 Try.underlying24 hi3 _ _ _ _ _ rfl rfl hqc ?_)
            exact ⟨⟨j + 1, q2, by omega, by go_num, HQ5, HNx⟩, by simp [intOf]; omega⟩
          · obtain ⟨g2, off2, rfl, hg2, hcc2⟩ : ∃ g2 off2, a2 = some ⟨g2, off2, none⟩ ∧ g2 < wr.heap.size ∧ ∀ i x, l[i]? = some x → wr.cell? ⟨g2, off2 + i, none⟩ = some (.int .i64 x) := by
              obtain ⟨aa, cc, e, hh4⟩ := HIL.out
              injection e with e1 e2 e3
              obtain ⟨g4, off4, e4, hl4, hc4⟩ := hh4 (by omega)
              exact ⟨g4, off4, e1.trans e4, hl4, hc4⟩
            have HSrc := Lib.hid (src_of hcc2)
            have HL := Lib.hid (intV_len l)
            have HV : Hid (intV (Y.take (j + 1)).flatten = intV (Y.take j).flatten ++ intV l) := Lib.hid (by rw [HS.out]; simp [intV])
            have HO1 := Lib.hid (intV_one l)
            clear hcc hl hil hcc2 hq3 HIL HS hu'
            obtain ⟨m, hm⟩ : ∃ m, l.length = m := ⟨_, rfl⟩
            rw [hm] at HL HQ4 h0 hu
            have hqm : q2 + m ≤ 1000 := by have := HQ4.out; omega
            clear hm hq4
            generalize intV l = LV at *
            generalize intV (Y.take j).flatten = SV at *
            go_wp2_with (at_builtin; refine wpList_append_own _ rfl _ _ 24 rfl w.heap.size 3 f3 (.int .i64 0) 1 8 Try.underlying24 hi3 hz0 hz1 hz2 rfl (by decide) _ _ _ rfl hrow ⟨g2, off2, none⟩ m _ LV rfl (by rw [HL.out]; omega) HSrc.out HO1.out (by unfold maxLen; omega) (by omega) hsz ?_; intro v' w4 hown' hgrow hnil)
            have HNx : Hid (w4.ownsRow w.heap.size 3 1 v' (q2 + m) (intV (Y.take (j + 1)).flatten) ∧ Below w.heap.size w w4) := Lib.hid ⟨by rw [HV.out]; exact hown', HJ.out.2.grown hgrow hsz (row_base hrow)⟩
            clear hown' hgrow hnil hrow
            exact ⟨⟨j + 1, q2 + m, by omega, by go_num, HQ4, HNx⟩, by simp [intOf]; omega⟩
        · obtain rfl : j = k := by omega
          have HR : Hid (∃ v, Ending.returned u6 = .returned v ∧ wr.ownsRow w.heap.size 3 1 v Y.flatten.length (intV Y.flatten) ∧ Below w.heap.size w wr) := Lib.hid ⟨_, rfl, by
            have h1 := HJ.out.1
            rw [HFl.out] at h1
            have e : q2 = Y.flatten.length := by have := h1.1; rw [intV_len] at this; omega
            rw [← e]
            exact h1, HJ.out.2⟩
          go_wp2_with fail
          go_ret
          exact HR.out
end Go.Proofs.Ytffejbgcgagkpaa
