/-
  Whether two moves clash, in the program and in the reference. No statement of the seat by itself.
-/
import Derived.Test.YtffejbgcgagkpaaCmG
import Derived.Test.YtffejbgcgagkpaaCrK
import Derived.Laws.StructEq
import Derived.Deep.RegionHeldLaw
namespace Go.Proofs.Ytffejbgcgagkpaa
open Go.RowKit

theorem guardSd : Try.prog.eqGuardType Try.prog.depth 96 = false := by kernel_rfl
theorem eqIn_side (a b c d : Int) (w : World) : (Op.equalIn 10000 96 (.agg #[.int .i64 a, .int .i64 b]) (.agg #[.int .i64 c, .int .i64 d])).run Try.prog w = .ok (a == c && b == d) w := by
  have u3 := Try.underlying3
  have hS : Try.prog.underlying 96 = some (.struct (Try.prog.fieldsOf 96)) := by kernel_rfl
  have hp : Try.prog.stoodInHeld 96 = false := by kernel_rfl
  rw [show (10000 : Nat) = 9999 + 1 from rfl, run_equalIn_agg w 9999 96 _ _ hS hp]
  simp only [Program.fieldsOf, Try.underlying96]
  go_simp
  by_cases h1 : a = c <;> by_cases h2 : b = d <;> simp [h1, h2]

set_option maxRecDepth 100000 in
set_option maxHeartbeats 8000000 in
theorem sideOf_any (p q r s p' q' r' s' : Int) (w : World) : Calls Try.prog 86 #[.agg #[.int .i64 p, .int .i64 q, .int .i64 r, .int .i64 s], .agg #[.int .i64 p', .int .i64 q', .int .i64 r', .int .i64 s']] w fun e w' => e = .returned (.agg #[.int .i64 (cmpC p p'), .int .i64 (cmpC q q')]) ∧ Below w.heap.size w w' := by
  have H1 := Lib.hid (fun W => compare_any p p' W)
  have H2 := Lib.hid (fun W => compare_any q q' W)
  generalize cmpC p p' = x at *
  generalize cmpC q q' = y at *
  obtain ⟨k0, k1, k2, hs, hB⟩ := three_alloc w (.cells #[.int .i64 p, .int .i64 q, .int .i64 r, .int .i64 s] 42) (.cells #[.int .i64 p', .int .i64 q', .int .i64 r', .int .i64 s'] 42) (.cells #[.int .i64 0, .int .i64 0] 96)
  have a0 := cell_of k0 (i := 0) rfl
  have a1 := cell_of k0 (i := 1) rfl
  have b0 := cell_of k1 (i := 0) rfl
  have b1 := cell_of k1 (i := 1) rfl
  have z0 := cell_of k2 (i := 0) rfl
  have z1 := cell_of k2 (i := 1) rfl
  have f0 := free_of k2 (i := 0)
  have f1 := free_of k2 (i := 1)
  have HB := Lib.hid hB
  have HK := Lib.hid k2
  have HZ := Lib.hid hs
  clear hB k0 k1 k2 hs
  go_enter Try.func86, Try.ntmps86
  go_wp2_with fail
  generalize ((w.alloc (.cells #[.int .i64 p, .int .i64 q, .int .i64 r, .int .i64 s] 42)).alloc (.cells #[.int .i64 p', .int .i64 q', .int .i64 r', .int .i64 s'] 42)).alloc (.cells #[.int .i64 0, .int .i64 0] 96) = W at *
  have HS2 := Lib.hid (show ∀ (a : Addr) (v : Value), a.block ≠ w.heap.size + 1 + 1 → W.cell? a = some v → (((W.setCell ⟨w.heap.size + 1 + 1, 0, none⟩ (.int .i64 x)).setCell ⟨w.heap.size + 1 + 1, 1, none⟩ (.int .i64 y)).drew).cell? a = some v from fun a v ha hv => by
    refine Eq.trans (World.cell?_setCell_far _ _ _ _ (Ne.symm ha)) ?_
    rw [World.cell?_setCell_far _ _ _ _ (Ne.symm ha)]
    exact hv)
  have E0 : (((W.setCell ⟨w.heap.size + 1 + 1, 0, none⟩ (.int .i64 x)).setCell ⟨w.heap.size + 1 + 1, 1, none⟩ (.int .i64 y)).drew).cell? ⟨w.heap.size + 1 + 1, 0, none⟩ = some (.int .i64 x) := by
    refine Eq.trans (World.cell?_setCell_other _ _ _ _ (by simp)) ?_
    exact World.cell?_setCell_same _ _ _ z0
  have E1 : (((W.setCell ⟨w.heap.size + 1 + 1, 0, none⟩ (.int .i64 x)).setCell ⟨w.heap.size + 1 + 1, 1, none⟩ (.int .i64 y)).drew).cell? ⟨w.heap.size + 1 + 1, 1, none⟩ = some (.int .i64 y) :=
    World.cell?_setCell_same _ _ _ (by rw [World.cell?_setCell_other _ _ _ _ (by simp)]; exact z1)
  have HE := Lib.hid (And.intro E0 E1)
  have HBB : Hid (Below w.heap.size w (((W.setCell ⟨w.heap.size + 1 + 1, 0, none⟩ (.int .i64 x)).setCell ⟨w.heap.size + 1 + 1, 1, none⟩ (.int .i64 y)).drew)) := Lib.hid ((HB.out.setCell (p := ⟨w.heap.size + 1 + 1, 0, none⟩) (by simp; omega) _).setCell (p := ⟨w.heap.size + 1 + 1, 1, none⟩) (by simp; omega) _).drew
  clear E0 E1
  refine wp_region_held_drew (S := fun W' => W'.cell? ⟨w.heap.size, 0, none⟩ = some (.int .i64 p) ∧ W'.cell? ⟨w.heap.size, 1, none⟩ = some (.int .i64 q) ∧ W'.cell? ⟨w.heap.size + 1, 0, none⟩ = some (.int .i64 p') ∧ W'.cell? ⟨w.heap.size + 1, 1, none⟩ = some (.int .i64 q')) (by kernel_rfl) ?_ (fun hHeld => ?_)
  · exact ⟨a0, a1, b0, b1⟩
  refine (wpAnyH_take (i := 0) (v := ?_) rfl (by kernel_rfl) (by kernel_rfl) (by kernel_rfl) (fun _ _ _ h => h) (Or.inl ⟨by rfl, ?_⟩) (by assumption) ?_)
  rotate_left 1
  · (intro w hSw; (try dsimp only at hSw); obtain ⟨s0, s1, s2, s3⟩ := hSw; (go_simp) <;> with_reducible rfl)
  try simp only [Act.put, List.setIfInBounds_toArray]
  refine (wpAnyH_take (i := 1) (v := ?_) rfl (by kernel_rfl) (by kernel_rfl) (by kernel_rfl) (fun _ _ _ h => h) (Or.inl ⟨by rfl, ?_⟩) (by assumption) ?_)
  rotate_left 1
  · (intro w hSw; (try dsimp only at hSw); obtain ⟨s0, s1, s2, s3⟩ := hSw; (go_simp) <;> with_reducible rfl)
  try simp only [Act.put]
  refine (wpAnyH_take (i := 2) (v := ?_) rfl (by kernel_rfl) (by kernel_rfl) (by kernel_rfl) (fun _ _ _ h => h) (Or.inl ⟨by rfl, ?_⟩) (by assumption) ?_)
  rotate_left 1
  · (intro w hSw; (try dsimp only at hSw); obtain ⟨s0, s1, s2, s3⟩ := hSw; (go_simp) <;> with_reducible rfl)
  try simp only [Act.put]
  refine (wpAnyH_take (i := 3) (v := ?_) rfl (by kernel_rfl) (by kernel_rfl) (by kernel_rfl) (fun _ _ _ h => h) (Or.inl ⟨by rfl, ?_⟩) (by assumption) ?_)
  rotate_left 1
  · (intro w hSw; (try dsimp only at hSw); obtain ⟨s0, s1, s2, s3⟩ := hSw; (go_simp) <;> with_reducible rfl)
  try simp only [Act.put]
  refine (wpAnyH_take (i := 5) (v := ?_) rfl (by kernel_rfl) (by kernel_rfl) (by kernel_rfl) (fun _ _ _ h => h) (Or.inl ⟨by rfl, ?_⟩) (by assumption) ?_)
  rotate_left 1
  · (intro w hSw; (try dsimp only at hSw); obtain ⟨s0, s1, s2, s3⟩ := hSw; (go_simp) <;> with_reducible rfl)
  try simp only [Act.put]
  refine (wpAnyH_take (i := 6) (v := ?_) rfl (by kernel_rfl) (by kernel_rfl) (by kernel_rfl) (fun _ _ _ h => h) (Or.inl ⟨by rfl, ?_⟩) (by assumption) ?_)
  rotate_left 1
  · (intro w hSw; (try dsimp only at hSw); obtain ⟨s0, s1, s2, s3⟩ := hSw; (go_simp) <;> with_reducible rfl)
  try simp only [Act.put]
  refine (wpAnyH_take (i := 7) (v := ?_) rfl (by kernel_rfl) (by kernel_rfl) (by kernel_rfl) (fun _ _ _ h => h) (Or.inl ⟨by rfl, ?_⟩) (by assumption) ?_)
  rotate_left 1
  · (intro w hSw; (try dsimp only at hSw); obtain ⟨s0, s1, s2, s3⟩ := hSw; (go_simp) <;> with_reducible rfl)
  try simp only [Act.put]
  refine (wpAnyH_take (i := 8) (v := ?_) rfl (by kernel_rfl) (by kernel_rfl) (by kernel_rfl) (fun _ _ _ h => h) (Or.inl ⟨by rfl, ?_⟩) (by assumption) ?_)
  rotate_left 1
  · (intro w hSw; (try dsimp only at hSw); obtain ⟨s0, s1, s2, s3⟩ := hSw; (go_simp) <;> with_reducible rfl)
  try simp only [Act.put]
  refine wpAnyH_ready (rs := [4]) (by kernel_rfl) (by simp) ?_
  refine AllReadyH.cons rfl (fun K hK => ?_) ?_
  · go_simp
    go_at_call 51
    refine (H1.out _).mono ?_
    rintro e w5 ⟨rfl, rfl⟩
    refine hK.out _ _ ?_ (fun hNew => ?_)
    · (try dsimp only); exact hHeld
    clear hK K hHeld
    have hHeld := hNew
    clear hNew
    refine wpAnyH_ready (rs := [9]) (by kernel_rfl) (by simp) ?_
    refine AllReadyH.cons rfl (fun K hK => ?_) ?_
    · go_simp
      go_at_call 51
      refine (H2.out _).mono ?_
      rintro e w5 ⟨rfl, rfl⟩
      refine hK.out _ _ ?_ (fun hNew => ?_)
      · (try dsimp only); exact hHeld
      clear hK K hHeld
      have hHeld := hNew
      clear hNew
      refine (wpAnyH_take (i := 10) (v := ?_) rfl (by kernel_rfl) (by kernel_rfl) (by kernel_rfl) (fun _ _ _ h => h) (Or.inl ⟨by rfl, ?_⟩) (by assumption) ?_)
      rotate_left 1
      · (intro w hSw; (try dsimp only at hSw); obtain ⟨s0, s1, s2, s3⟩ := hSw; (go_simp) <;> with_reducible rfl)
      try simp only [Act.put, List.setIfInBounds_toArray]
      refine wpAnyH_ready (rs := [11]) (by kernel_rfl) (by simp) ?_
      refine AllReadyH.cons rfl (fun K hK => ?_) ?_
      · go_simp
        refine hK.out _ _ ?_ (fun hNew => ?_)
        · (try dsimp only); exact ⟨HS2.out _ _ (by simp <;> omega) a0, HS2.out _ _ (by simp <;> omega) a1, HS2.out _ _ (by simp <;> omega) b0, HS2.out _ _ (by simp <;> omega) b1⟩
        clear hK K hHeld hNew a0 a1 b0 b1 z0 z1 f0 f1
        refine wpAnyH_done (by kernel_rfl) ?_ _
        go_wp2_with fail
        obtain ⟨e0, e1⟩ := HE.out
        have HB3 := HBB
        clear HBB HE HS2
        generalize ((W.setCell ⟨w.heap.size + 1 + 1, 0, none⟩ (.int .i64 x)).setCell ⟨w.heap.size + 1 + 1, 1, none⟩ (.int .i64 y)).drew = W9 at *
        refine bodyPost_ret (v := .agg #[.int .i64 x, .int .i64 y]) ?_ rfl ⟨rfl, HB3.out⟩
        simp [results, Try.results86, go_sem, e0, e1]
      exact AllReadyH.nil
    exact AllReadyH.nil
  exact AllReadyH.nil

theorem clB_off {p q r s p' q' r' s' : Int} (h : s ≤ r' ∨ s' ≤ r) : clB (p, q, r, s) (p', q', r', s') = false := by
  unfold clB
  rw [if_pos (by simp only; omega)]
theorem clB_on {p q r s p' q' r' s' : Int} (h : ¬ (s ≤ r' ∨ s' ≤ r)) : clB (p, q, r, s) (p', q', r', s') = (decide (p = p') || decide (q = q') || (decide (p < p') != decide (q < q'))) := by
  unfold clB
  rw [if_neg (by simp only; omega)]
theorem clB_side {p q r s p' q' r' s' : Int} (h : ¬ (s ≤ r' ∨ s' ≤ r)) : clB (p, q, r, s) (p', q', r', s') = (!(cmpC p p' == -1 && cmpC q q' == -1) && !(cmpC p p' == 1 && cmpC q q' == 1)) := by
  rw [clB_on h]
  unfold cmpC
  by_cases h1 : p < p' <;> by_cases h2 : p' < p <;> by_cases h3 : q < q' <;> by_cases h4 : q' < q <;> simp [h1, h2, h3, h4] <;> omega

set_option maxRecDepth 100000 in
set_option maxHeartbeats 8000000 in
theorem clashes_any (p q r s p' q' r' s' : Int) (w : World) : Calls Try.prog 61 #[.agg #[.int .i64 p, .int .i64 q, .int .i64 r, .int .i64 s], .agg #[.int .i64 p', .int .i64 q', .int .i64 r', .int .i64 s']] w fun e w' => e = .returned (.bool (clB (p, q, r, s) (p', q', r', s'))) ∧ Below w.heap.size w w' := by
  have B0 := Lib.hid (((Below.refl _ w).alloc (Nat.le_refl _) (.cells #[.int .i64 p, .int .i64 q, .int .i64 r, .int .i64 s] 42)).alloc (by simp) (.cells #[.int .i64 p', .int .i64 q', .int .i64 r', .int .i64 s'] 42))
  by_cases h1 : s ≤ r'
  · rw [clB_off (.inl h1)]
    go_enter Try.func61, Try.ntmps61
    go_wp2_with fail
    go_ret
    exact ⟨rfl, B0.out⟩
  by_cases h2 : s' ≤ r
  · rw [clB_off (.inr h2)]
    have h1' : decide (s ≤ r') = false := decide_eq_false h1
    go_enter Try.func61, Try.ntmps61
    go_wp2_with fail
    go_ret
    exact ⟨rfl, B0.out⟩
  have h2' : decide (s' ≤ r) = false := decide_eq_false h2
  rw [clB_side (by omega)]
  have HSd := Lib.hid (fun W => sideOf_any p q r s p' q' r' s' W)
  generalize cmpC p p' = x at *
  generalize cmpC q q' = y at *
  have HE1 := Lib.hid (fun W => eqIn_side x y (-1) (-1) W)
  have HE2 := Lib.hid (fun W => eqIn_side x y 1 1 W)
  generalize (x == -1 && y == -1) = r1 at *
  generalize (x == 1 && y == 1) = r2 at *
  obtain ⟨k2, k3, k4, hs, hB⟩ := three_alloc (w.alloc (.cells #[.int .i64 p, .int .i64 q, .int .i64 r, .int .i64 s] 42)) (.cells #[.int .i64 p', .int .i64 q', .int .i64 r', .int .i64 s'] 42) (.cells #[.int .i64 (-1), .int .i64 (-1)] 96) (.cells #[.int .i64 1, .int .i64 1] 96)
  go_enter Try.func61, Try.ntmps61
  go_wp2_with fail
  have hs1 : (w.alloc (.cells #[.int .i64 p, .int .i64 q, .int .i64 r, .int .i64 s] 42)).heap.size = w.heap.size + 1 := by simp
  have hB4 : Below w.heap.size w ((((w.alloc (.cells #[.int .i64 p, .int .i64 q, .int .i64 r, .int .i64 s] 42)).alloc (.cells #[.int .i64 p', .int .i64 q', .int .i64 r', .int .i64 s'] 42)).alloc (.cells #[.int .i64 (-1), .int .i64 (-1)] 96)).alloc (.cells #[.int .i64 1, .int .i64 1] 96)) := (below_one w _).trans (hB.mono (by simp))
  rw [hs1] at k3 k4 hs
  have HB4 := Lib.hid hB4
  have l0 := cell_of k3 (i := 0) rfl
  have l1 := cell_of k3 (i := 1) rfl
  have r0 := cell_of k4 (i := 0) rfl
  have r1' := cell_of k4 (i := 1) rfl
  clear k2 k3 k4 hB hB4 hs1 B0
  generalize (((w.alloc (.cells #[.int .i64 p, .int .i64 q, .int .i64 r, .int .i64 s] 42)).alloc (.cells #[.int .i64 p', .int .i64 q', .int .i64 r', .int .i64 s'] 42)).alloc (.cells #[.int .i64 (-1), .int .i64 (-1)] 96)).alloc (.cells #[.int .i64 1, .int .i64 1] 96) = W4 at *
  refine (HSd.out _).mono ?_
  rintro e w5 ⟨rfl, hb⟩
  have HB5 := Lib.hid (below3 hb HB4.out)
  have hz5 := hb.size
  have d0 : ∀ o, (w5.alloc o).cell? ⟨w.heap.size + 1 + 1, 0, none⟩ = some (.int .i64 (-1)) := fun o => (World.cell?_alloc_lt w5 o ⟨w.heap.size + 1 + 1, 0, none⟩ (by simp only; omega)).trans ((hb.cell (p := ⟨w.heap.size + 1 + 1, 0, none⟩) (by simp only; omega)).trans l0)
  have d1 : ∀ o, (w5.alloc o).cell? ⟨w.heap.size + 1 + 1, 1, none⟩ = some (.int .i64 (-1)) := fun o => (World.cell?_alloc_lt w5 o ⟨w.heap.size + 1 + 1, 1, none⟩ (by simp only; omega)).trans ((hb.cell (p := ⟨w.heap.size + 1 + 1, 1, none⟩) (by simp only; omega)).trans l1)
  have d2 : ∀ o, (w5.alloc o).cell? ⟨w.heap.size + 1 + 1 + 1, 0, none⟩ = some (.int .i64 1) := fun o => (World.cell?_alloc_lt w5 o ⟨w.heap.size + 1 + 1 + 1, 0, none⟩ (by simp only; omega)).trans ((hb.cell (p := ⟨w.heap.size + 1 + 1 + 1, 0, none⟩) (by simp only; omega)).trans r0)
  have d3 : ∀ o, (w5.alloc o).cell? ⟨w.heap.size + 1 + 1 + 1, 1, none⟩ = some (.int .i64 1) := fun o => (World.cell?_alloc_lt w5 o ⟨w.heap.size + 1 + 1 + 1, 1, none⟩ (by simp only; omega)).trans ((hb.cell (p := ⟨w.heap.size + 1 + 1 + 1, 1, none⟩) (by simp only; omega)).trans r1')
  have HB6 := Lib.hid (HB5.out.alloc HB5.out.size (.cells #[.int .i64 x, .int .i64 y] 96))
  clear hb l0 l1 r0 r1' hs hz5 h1 h2 h2'
  have he1 := HE1.out
  have he2 := HE2.out
  have hgd := guardSd
  cases r1 <;> cases r2
  all_goals
    go_wp2_with fail
    go_ret
    exact ⟨by first | rfl | simp, by first | exact HB6.out | exact HB6.out.drew⟩

set_option maxRecDepth 100000 in
set_option maxHeartbeats 8000000 in
theorem l13Clash_any (p q r s p' q' r' s' : Int) (w : World) : Calls Try.prog 65 #[.agg #[.int .i64 p, .int .i64 q, .int .i64 r, .int .i64 s], .agg #[.int .i64 p', .int .i64 q', .int .i64 r', .int .i64 s']] w fun e w' => e = .returned (.bool (clB (p, q, r, s) (p', q', r', s'))) ∧ Below w.heap.size w w' := by
  have B0 := Lib.hid (((Below.refl _ w).alloc (Nat.le_refl _) (.cells #[.int .i64 p, .int .i64 q, .int .i64 r, .int .i64 s] 42)).alloc (by simp) (.cells #[.int .i64 p', .int .i64 q', .int .i64 r', .int .i64 s'] 42))
  by_cases h1 : s' ≤ r
  · rw [clB_off (.inr h1)]
    go_enter Try.func65, Try.ntmps65
    go_wp2_with fail
    go_ret
    exact ⟨rfl, by first | exact B0.out | exact B0.out.drew⟩
  by_cases h2 : s ≤ r'
  · rw [clB_off (.inl h2)]
    have h1' : decide (s' ≤ r) = false := decide_eq_false h1
    go_enter Try.func65, Try.ntmps65
    go_wp2_with fail
    go_ret
    exact ⟨rfl, by first | exact B0.out | exact B0.out.drew⟩
  have h2' : decide (s ≤ r') = false := decide_eq_false h2
  rw [clB_on (by omega)]
  by_cases e1 : p = p'
  · subst e1
    rw [decide_eq_true rfl]
    go_enter Try.func65, Try.ntmps65
    go_wp2_with fail
    go_ret
    exact ⟨by simp, by first | exact B0.out | exact B0.out.drew⟩
  have d1 : decide (p = p') = false := decide_eq_false e1
  rw [d1]
  by_cases e2 : q = q'
  · subst e2
    rw [decide_eq_true rfl]
    go_enter Try.func65, Try.ntmps65
    go_wp2_with fail
    go_ret
    exact ⟨by simp, by first | exact B0.out | exact B0.out.drew⟩
  have d2 : decide (q = q') = false := decide_eq_false e2
  rw [d2]
  by_cases c1 : p < p'
  case' pos => rw [decide_eq_true c1]
  case' neg => rw [decide_eq_false c1]
  all_goals
    by_cases c2 : q < q'
    case' pos => rw [decide_eq_true c2]
    case' neg => rw [decide_eq_false c2]
  all_goals
    go_enter Try.func65, Try.ntmps65
    go_wp2_with fail
    go_ret
    exact ⟨by first | rfl | simp_all, by first | exact B0.out | exact B0.out.drew⟩
end Go.Proofs.Ytffejbgcgagkpaa
