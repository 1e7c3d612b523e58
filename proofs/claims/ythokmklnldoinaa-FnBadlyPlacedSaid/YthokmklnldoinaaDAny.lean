/-
  What l1Cur.anyYard draws: an own yard, small. No statement of the seat by itself.
-/
import Derived.Test.YthokmklnldoinaaDAnyM
import Derived.Test.YthokmklnldoinaaDDet
import Derived.Deep.RegionHeldLaw
namespace Go.Proofs.Ythokmklnldoinaa.D
open Go.RowKit

theorem big_case (x : Nat) : x = 0 ∨ x = 1 ∨ x = 2 ∨ x = 3 ∨ (((x : Int) == 0) = false ∧ ((x : Int) == 1) = false ∧ ((x : Int) == 2) = false ∧ ((x : Int) == 3) = false) := by
  rcases Nat.lt_or_ge 3 x with h | h
  · refine .inr (.inr (.inr (.inr ⟨?_, ?_, ?_, ?_⟩))) <;> simp <;> omega
  · omega
theorem five_rows (W : World) : (W.alloc (.cells #[.int .i64 21, .int .i64 22, .int .i64 23, .int .i64 24, .int .i64 25] 3)).ownsRow W.heap.size 3 1 (.slice (some ⟨W.heap.size, 0, none⟩) 5 5) ([21, 22, 23, 24, 25] : List Int).length (intV [21, 22, 23, 24, 25]) :=
  owns_of_heap (heap_alloc_new _ _) rfl (by decide)
theorem no_rows (W : World) : OwnY (W.alloc (.cells #[] 28)) W.heap.size (W.alloc (.cells #[] 28)).heap.size (.slice (some ⟨W.heap.size, 0, none⟩) 0 0) [] :=
  ⟨Nat.le_refl _, fun b hb => by cases hb; simp, [], own_empty W _ _ rfl, rfl, fun j u l hu => by simp at hu, fun i j u u' b hu => by simp at hu⟩

set_option maxRecDepth 100000 in
set_option maxHeartbeats 8000000 in
theorem anyYard_any (b N : Nat) (v : Value) (hN : N ≤ 600000) (w : World) (h : Cur w b v N) : Calls Try.prog 49 #[.pointer (some ⟨b, 0, none⟩)] w (AnyP w b v (N + 160)) := by
  have HC0 := Lib.hid (h.alloc (.cells #[.slice none 0 0] 26))
  have HLT := Lib.hid h.lt
  clear h
  go_enter Try.func49, Try.ntmps49
  go_wp2_with fail
  refine (yard_any b N v (by omega) _ HC0.out).mono ?_
  rintro e w1 ⟨a, c, Y, rfl, hy1, hy4, hyr, ho, hc, hg⟩
  have HT0 := Lib.hid (YT.start HLT.out hc hg ho)
  obtain ⟨k, hk⟩ : ∃ k, Y.length = k := ⟨_, rfl⟩
  have HK := Lib.hid hk
  have HR5 := Lib.hid (rows5_of hyr)
  have HRO := Lib.hid hyr
  rw [hk] at HT0 hy1 hy4 ⊢
  have cA := HT0.out.cell
  clear hc hg ho hk hyr
  go_wp2_with fail
  generalize w1.alloc (.cells #[.slice a k c] 26) = w2 at *
  generalize w1.heap.size = A at *
  refine (pick_any b (N + 80) k v (by omega) (by omega) (by omega) _ HT0.out.1).mono ?_
  rintro e w3 ⟨i, rfl, hi, hc, hg⟩
  have HT1 := Lib.hid (HT0.out.pick hc hg)
  have cA := HT1.out.cell
  clear hc hg
  go_wp2_with fail
  refine (pick_any b (N + 80 + 4) 24 v (by omega) (by decide) (by decide) _ HT1.out.1).mono ?_
  rintro e w4 ⟨x, rfl, hx, hc, hg⟩
  have HT := Lib.hid (HT1.out.pick hc hg)
  clear hc hg cA
  obtain ⟨g, cap, e⟩ := HT.out.2.2.2.1.rows (by have := HK.out; omega)
  injection e with e1 e2 e3
  subst e1 e3
  clear e2
  obtain ⟨l, hl⟩ := get_at HK.out hi
  obtain ⟨u, hu, -, hou, -⟩ := HT.out.2.2.2.1.cell hl
  have HL := Lib.hid hl
  have HU := Lib.hid hu
  have cA := HT.out.cell
  have hik : (i : Int) < (k : Int) := by omega
  have hii : (0 : Int) ≤ (i : Int) := by omega
  have HOU := Lib.hid hou
  clear hl hou
  rcases big_case x with rfl | rfl | rfl | rfl | ⟨q0, q1, q2, q3⟩
  · -- a number more on a row
    obtain ⟨m, hm⟩ : ∃ m, l.length = m := ⟨_, rfl⟩
    have HM := Lib.hid hm
    have hm5 : m ≤ 4 := by have := HRO.out l (List.mem_of_getElem? HL.out); omega
    obtain ⟨a4, c4, rfl⟩ := own_form HOU.out
    rw [hm] at HU hu
    have hA := HT.out.2.2.2.2.2.2.1
    obtain ⟨-, hg1, hg2⟩ := HT.out.row HL.out HU.out
    have hgA : ¬ g = A := fun e => by
      obtain ⟨_, _, us, hx, _⟩ := HT.out.2.2.2.1
      exact own_off HT.out.2.2.1 hx (by decide) (by rw [← e]; rfl)
    have hAg : ¬ A = g := fun e => hgA e.symm
    have hbA : w4.heap.size ≠ b := by have := HT.out.1.lt; omega
    have HTa := Lib.hid (HT.out.below ((Below.refl w4.heap.size w4).drew.trans (below_one w4.drew (.cells #[.int .i64 0, .int .i64 100, .int .i64 99, .int .i64 1] 3))))
    have HLI := Lib.hid (listI_new w4.drew (.cells #[.int .i64 0, .int .i64 100, .int .i64 99, .int .i64 1] 3) [0, 100, 99, 1] (fun _ => True) rfl (fun _ _ => trivial))
    have hcB := fun o => (World.cell?_alloc_lt w4 o ⟨A, 0, none⟩ hA).trans cA
    have hcA := fun o => (World.cell?_alloc_lt w4.drew o ⟨A, 0, none⟩ hA).trans cA
    have huB := fun o => (World.cell?_alloc_lt w4 o ⟨g, i, none⟩ hg2).trans hu
    have huA := fun o => (World.cell?_alloc_lt w4.drew o ⟨g, i, none⟩ hg2).trans hu
    have hu9 : w4.drew.cell? ⟨g, i, none⟩ = some (.slice a4 m c4) := hu
    clear hm
    go_wp2_with fail
    refine wp_region_held_drew (S := fun W => W.cell? ⟨A, 0, none⟩ = some (.slice (some ⟨g, 0, none⟩) k c)) (by kernel_rfl) ?_ (fun hHeld => ?_)
    · exact cA
    refine (wpAnyH_take (i := 0) (v := ?_) rfl (by kernel_rfl) (by kernel_rfl) (by kernel_rfl) (fun _ _ _ h => h) (Or.inl ⟨by rfl, ?_⟩) (by assumption) ?_)
    rotate_left 1
    · (intro w hSw; (try dsimp only at hSw); (go_simp) <;> with_reducible rfl)
    try simp only [Act.put, List.setIfInBounds_toArray]
    refine (wpAnyH_take (i := 1) (v := ?_) rfl (by kernel_rfl) (by kernel_rfl) (by kernel_rfl) (fun _ _ _ h => h) (Or.inl ⟨by rfl, ?_⟩) (by assumption) ?_)
    rotate_left 1
    · (intro w hSw; (try dsimp only at hSw); (go_simp) <;> with_reducible rfl)
    try simp only [Act.put]
    refine (wpAnyH_take (i := 2) (v := ?_) rfl (by kernel_rfl) (by kernel_rfl) (by kernel_rfl) (fun _ _ _ h => h) (Or.inl ⟨by rfl, ?_⟩) (by assumption) ?_)
    rotate_left 1
    · (intro w hSw; (try dsimp only at hSw); (go_simp) <;> with_reducible rfl)
    try simp only [Act.put]
    refine (wpAnyH_take (i := 3) (v := ?_) rfl (by kernel_rfl) (by kernel_rfl) (by kernel_rfl) (fun _ _ _ h => h) (Or.inl ⟨by rfl, ?_⟩) (by assumption) ?_)
    rotate_left 1
    · (intro w hSw; (try dsimp only at hSw); (go_simp) <;> with_reducible rfl)
    try simp only [Act.put]
    refine (wpAnyH_take (i := 4) (v := ?_) rfl (by kernel_rfl) (by kernel_rfl) (by kernel_rfl) (fun _ _ _ h => h) (Or.inl ⟨by rfl, ?_⟩) (by assumption) ?_)
    rotate_left 1
    · (intro w hSw; (try dsimp only at hSw); (go_simp) <;> with_reducible rfl)
    try simp only [Act.put]
    refine (wpAnyH_take (i := 5) (v := ?_) rfl (by kernel_rfl) (by kernel_rfl) (by kernel_rfl) (fun _ _ _ h => h) (Or.inl ⟨by rfl, ?_⟩) (by assumption) ?_)
    rotate_left 1
    · (intro w hSw; (try dsimp only at hSw); (go_simp) <;> with_reducible rfl)
    try simp only [Act.put]
    refine (wpAnyH_take (i := 6) (v := ?_) rfl (by kernel_rfl) (by kernel_rfl) (by kernel_rfl) (fun _ _ _ h => h) (Or.inl ⟨by rfl, ?_⟩) (by assumption) ?_)
    rotate_left 1
    · (intro w hSw; (try dsimp only at hSw); (go_simp) <;> with_reducible rfl)
    try simp only [Act.put]
    refine (wpAnyH_take (i := 8) (v := ?_) rfl (by kernel_rfl) (by kernel_rfl) (by kernel_rfl) (fun _ _ _ h => h) (Or.inl ⟨by rfl, ?_⟩) (by assumption) ?_)
    rotate_left 1
    · (intro w hSw; (try dsimp only at hSw); (go_simp) <;> with_reducible rfl)
    try simp only [Act.put]
    refine wpAnyH_ready (rs := [7, 9]) (by kernel_rfl) (by simp) ?_
    refine AllReadyH.cons rfl (fun K hK => ?_) ?_
    · go_simp
      refine hK.out _ _ ?_ (fun hNew => ?_)
      · (try dsimp only); exact hHeld
      clear hK K hHeld
      have hHeld := hNew
      clear hNew
      refine wpAnyH_ready (rs := [9]) (by kernel_rfl) (by simp) ?_
      refine AllReadyH.cons rfl (fun K hK => ?_) ?_
      · go_simp
        refine hK.out _ _ ?_ (fun hNew => ?_)
        · (try dsimp only); exact hcA _
        clear hK K hHeld
        have hHeld := hNew
        clear hNew
        refine wpAnyH_ready (rs := [10]) (by kernel_rfl) (by simp) ?_
        refine AllReadyH.cons rfl (fun K hK => ?_) ?_
        · go_simp
          go_at_call 50
          refine (among_any b (N + 80 + 4 + 4) w4.heap.size 4 4 (fun _ => True) v (by omega) (by decide) (by decide) _ HTa.out.1 hbA HLI.out).mono ?_
          rintro e w5 ⟨x, rfl, -, hc, hg⟩
          obtain ⟨t1, t2, t3, t4, t5, t6⟩ := HT.out.drawn HL.out HU.out hc hg
          have HT5 := Lib.hid t1
          have HU5 := Lib.hid t2
          have HR5o := Lib.hid t3
          have HZ5 := Lib.hid t6
          have cA5 := t1.cell
          rw [HM.out] at HR5o
          clear hc hg t1 t3 t6
          refine hK.out _ _ ?_ (fun hNew => ?_)
          · (try dsimp only); exact cA5
          clear hK K hHeld
          have hHeld := hNew
          clear hNew
          refine wpAnyH_ready (rs := [11]) (by kernel_rfl) (by simp) ?_
          refine AllReadyH.cons rfl (fun K hK => ?_) ?_
          · go_simp
            refine hK.out _ _ ?_ (fun hNew => ?_)
            · (try dsimp only); exact t4 _
            clear hK K hHeld
            have hHeld := hNew
            clear hNew
            refine wpAnyH_ready (rs := [12]) (by kernel_rfl) (by simp) ?_
            refine AllReadyH.cons rfl (fun K hK => ?_) ?_
            · refine step_int_at (by rfl) _ _ (by rfl) (w.heap.size + 1) _ m (intV l) (by rfl) (HR5o.out _) _ _ _ (by rfl) (cell_val_new _ _ _) (by simp [Value.oneCell']) (by omega) (HZ5.out _) ?_
              intro v6 w6 ho6 hg6 hat6
              obtain ⟨z1, ⟨y6, z2⟩, z3, z4⟩ := HT5.out.put HL.out HM.out HU5.out ho6 hg6 hat6
              have HT6 := Lib.hid z1
              have cA6 := z1.cell
              obtain ⟨a6, c6, rfl⟩ := own_form ho6
              clear z1 ho6 hg6 hat6
              refine hK.out _ _ ?_ (fun hNew => ?_)
              · (try dsimp only); exact z4
              clear hK K hHeld
              have hHeld := hNew
              clear hNew
              refine (wpAnyH_take (i := 13) (v := ?_) rfl (by kernel_rfl) (by kernel_rfl) (by kernel_rfl) (fun _ _ _ h => h) (Or.inl ⟨by rfl, ?_⟩) (by assumption) ?_)
              rotate_left 1
              · (intro w hSw; (try dsimp only at hSw); (go_simp) <;> with_reducible rfl)
              try simp only [Act.put, List.setIfInBounds_toArray]
              refine wpAnyH_ready (rs := [14]) (by kernel_rfl) (by simp) ?_
              refine AllReadyH.cons rfl (fun K hK => ?_) ?_
              · go_simp
                refine hK.out _ _ ?_ (fun hNew => ?_)
                · (try dsimp only); exact cA6
                clear hK K hHeld
                have hHeld := hNew
                clear hNew
                refine wpAnyH_done (by kernel_rfl) ?_ _
                obtain ⟨hS, c8, f8⟩ := HT6.out.finish
                have HS := Lib.hid hS
                have e8 := World.cell?_setCell_same _ _ (.slice (some ⟨g, 0, none⟩) k c) c8
                have cA8 := HT6.out.cell
                clear hS
                go_wp2_with fail
                refine bodyPost_ret (v := .agg #[.slice (some ⟨g, 0, none⟩) k c]) (by simp [results, Try.results49, go_sem, e8]) rfl ?_
                exact ⟨_, _, Y.set i (l ++ [x]), by rw [List.length_set, HK.out], by rw [List.length_set, HK.out]; omega, (rows5_set HR5.out (by rw [List.length_append, HM.out]; simp; omega)), by rw [List.length_set, HK.out]; exact HS.out.1, (show Cur _ b v _ from HS.out.2.1.more (by omega)), HS.out.2.2⟩
              exact AllReadyH.nil
            exact AllReadyH.nil
          exact AllReadyH.nil
        exact AllReadyH.nil
      exact AllReadyH.nil
    refine AllReadyH.cons rfl (fun K hK => ?_) ?_
    · go_simp
      refine hK.out _ _ ?_ (fun hNew => ?_)
      · (try dsimp only); exact hcA _
      clear hK K hHeld
      have hHeld := hNew
      clear hNew
      refine wpAnyH_ready (rs := [7, 10]) (by kernel_rfl) (by simp) ?_
      refine AllReadyH.cons rfl (fun K hK => ?_) ?_
      · go_simp
        refine hK.out _ _ ?_ (fun hNew => ?_)
        · (try dsimp only); exact hHeld
        clear hK K hHeld
        have hHeld := hNew
        clear hNew
        refine wpAnyH_ready (rs := [10]) (by kernel_rfl) (by simp) ?_
        refine AllReadyH.cons rfl (fun K hK => ?_) ?_
        · go_simp
          go_at_call 50
          refine (among_any b (N + 80 + 4 + 4) w4.heap.size 4 4 (fun _ => True) v (by omega) (by decide) (by decide) _ HTa.out.1 hbA HLI.out).mono ?_
          rintro e w5 ⟨x, rfl, -, hc, hg⟩
          obtain ⟨t1, t2, t3, t4, t5, t6⟩ := HT.out.drawn HL.out HU.out hc hg
          have HT5 := Lib.hid t1
          have HU5 := Lib.hid t2
          have HR5o := Lib.hid t3
          have HZ5 := Lib.hid t6
          have cA5 := t1.cell
          rw [HM.out] at HR5o
          clear hc hg t1 t3 t6
          refine hK.out _ _ ?_ (fun hNew => ?_)
          · (try dsimp only); exact cA5
          clear hK K hHeld
          have hHeld := hNew
          clear hNew
          refine wpAnyH_ready (rs := [11]) (by kernel_rfl) (by simp) ?_
          refine AllReadyH.cons rfl (fun K hK => ?_) ?_
          · go_simp
            refine hK.out _ _ ?_ (fun hNew => ?_)
            · (try dsimp only); exact t4 _
            clear hK K hHeld
            have hHeld := hNew
            clear hNew
            refine wpAnyH_ready (rs := [12]) (by kernel_rfl) (by simp) ?_
            refine AllReadyH.cons rfl (fun K hK => ?_) ?_
            · refine step_int_at (by rfl) _ _ (by rfl) (w.heap.size + 1) _ m (intV l) (by rfl) (HR5o.out _) _ _ _ (by rfl) (cell_val_new _ _ _) (by simp [Value.oneCell']) (by omega) (HZ5.out _) ?_
              intro v6 w6 ho6 hg6 hat6
              obtain ⟨z1, ⟨y6, z2⟩, z3, z4⟩ := HT5.out.put HL.out HM.out HU5.out ho6 hg6 hat6
              have HT6 := Lib.hid z1
              have cA6 := z1.cell
              obtain ⟨a6, c6, rfl⟩ := own_form ho6
              clear z1 ho6 hg6 hat6
              refine hK.out _ _ ?_ (fun hNew => ?_)
              · (try dsimp only); exact z4
              clear hK K hHeld
              have hHeld := hNew
              clear hNew
              refine (wpAnyH_take (i := 13) (v := ?_) rfl (by kernel_rfl) (by kernel_rfl) (by kernel_rfl) (fun _ _ _ h => h) (Or.inl ⟨by rfl, ?_⟩) (by assumption) ?_)
              rotate_left 1
              · (intro w hSw; (try dsimp only at hSw); (go_simp) <;> with_reducible rfl)
              try simp only [Act.put, List.setIfInBounds_toArray]
              refine wpAnyH_ready (rs := [14]) (by kernel_rfl) (by simp) ?_
              refine AllReadyH.cons rfl (fun K hK => ?_) ?_
              · go_simp
                refine hK.out _ _ ?_ (fun hNew => ?_)
                · (try dsimp only); exact cA6
                clear hK K hHeld
                have hHeld := hNew
                clear hNew
                refine wpAnyH_done (by kernel_rfl) ?_ _
                obtain ⟨hS, c8, f8⟩ := HT6.out.finish
                have HS := Lib.hid hS
                have e8 := World.cell?_setCell_same _ _ (.slice (some ⟨g, 0, none⟩) k c) c8
                have cA8 := HT6.out.cell
                clear hS
                go_wp2_with fail
                refine bodyPost_ret (v := .agg #[.slice (some ⟨g, 0, none⟩) k c]) (by simp [results, Try.results49, go_sem, e8]) rfl ?_
                exact ⟨_, _, Y.set i (l ++ [x]), by rw [List.length_set, HK.out], by rw [List.length_set, HK.out]; omega, (rows5_set HR5.out (by rw [List.length_append, HM.out]; simp; omega)), by rw [List.length_set, HK.out]; exact HS.out.1, (show Cur _ b v _ from HS.out.2.1.more (by omega)), HS.out.2.2⟩
              exact AllReadyH.nil
            exact AllReadyH.nil
          exact AllReadyH.nil
        exact AllReadyH.nil
      refine AllReadyH.cons rfl (fun K hK => ?_) ?_
      · go_simp
        go_at_call 50
        refine (among_any b (N + 80 + 4 + 4) w4.heap.size 4 4 (fun _ => True) v (by omega) (by decide) (by decide) _ HTa.out.1 hbA HLI.out).mono ?_
        rintro e w5 ⟨x, rfl, -, hc, hg⟩
        obtain ⟨t1, t2, t3, t4, t5, t6⟩ := HT.out.drawn HL.out HU.out hc hg
        have HT5 := Lib.hid t1
        have HU5 := Lib.hid t2
        have HR5o := Lib.hid t3
        have HZ5 := Lib.hid t6
        have cA5 := t1.cell
        rw [HM.out] at HR5o
        clear hc hg t1 t3 t6
        refine hK.out _ _ ?_ (fun hNew => ?_)
        · (try dsimp only); exact cA5
        clear hK K hHeld
        have hHeld := hNew
        clear hNew
        refine wpAnyH_ready (rs := [7, 11]) (by kernel_rfl) (by simp) ?_
        refine AllReadyH.cons rfl (fun K hK => ?_) ?_
        · go_simp
          refine hK.out _ _ ?_ (fun hNew => ?_)
          · (try dsimp only); exact hHeld
          clear hK K hHeld
          have hHeld := hNew
          clear hNew
          refine wpAnyH_ready (rs := [11]) (by kernel_rfl) (by simp) ?_
          refine AllReadyH.cons rfl (fun K hK => ?_) ?_
          · go_simp
            refine hK.out _ _ ?_ (fun hNew => ?_)
            · (try dsimp only); exact t4 _
            clear hK K hHeld
            have hHeld := hNew
            clear hNew
            refine wpAnyH_ready (rs := [12]) (by kernel_rfl) (by simp) ?_
            refine AllReadyH.cons rfl (fun K hK => ?_) ?_
            · refine step_int_at (by rfl) _ _ (by rfl) (w.heap.size + 1) _ m (intV l) (by rfl) (HR5o.out _) _ _ _ (by rfl) (cell_val_new _ _ _) (by simp [Value.oneCell']) (by omega) (HZ5.out _) ?_
              intro v6 w6 ho6 hg6 hat6
              obtain ⟨z1, ⟨y6, z2⟩, z3, z4⟩ := HT5.out.put HL.out HM.out HU5.out ho6 hg6 hat6
              have HT6 := Lib.hid z1
              have cA6 := z1.cell
              obtain ⟨a6, c6, rfl⟩ := own_form ho6
              clear z1 ho6 hg6 hat6
              refine hK.out _ _ ?_ (fun hNew => ?_)
              · (try dsimp only); exact z4
              clear hK K hHeld
              have hHeld := hNew
              clear hNew
              refine (wpAnyH_take (i := 13) (v := ?_) rfl (by kernel_rfl) (by kernel_rfl) (by kernel_rfl) (fun _ _ _ h => h) (Or.inl ⟨by rfl, ?_⟩) (by assumption) ?_)
              rotate_left 1
              · (intro w hSw; (try dsimp only at hSw); (go_simp) <;> with_reducible rfl)
              try simp only [Act.put, List.setIfInBounds_toArray]
              refine wpAnyH_ready (rs := [14]) (by kernel_rfl) (by simp) ?_
              refine AllReadyH.cons rfl (fun K hK => ?_) ?_
              · go_simp
                refine hK.out _ _ ?_ (fun hNew => ?_)
                · (try dsimp only); exact cA6
                clear hK K hHeld
                have hHeld := hNew
                clear hNew
                refine wpAnyH_done (by kernel_rfl) ?_ _
                obtain ⟨hS, c8, f8⟩ := HT6.out.finish
                have HS := Lib.hid hS
                have e8 := World.cell?_setCell_same _ _ (.slice (some ⟨g, 0, none⟩) k c) c8
                have cA8 := HT6.out.cell
                clear hS
                go_wp2_with fail
                refine bodyPost_ret (v := .agg #[.slice (some ⟨g, 0, none⟩) k c]) (by simp [results, Try.results49, go_sem, e8]) rfl ?_
                exact ⟨_, _, Y.set i (l ++ [x]), by rw [List.length_set, HK.out], by rw [List.length_set, HK.out]; omega, (rows5_set HR5.out (by rw [List.length_append, HM.out]; simp; omega)), by rw [List.length_set, HK.out]; exact HS.out.1, (show Cur _ b v _ from HS.out.2.1.more (by omega)), HS.out.2.2⟩
              exact AllReadyH.nil
            exact AllReadyH.nil
          exact AllReadyH.nil
        refine AllReadyH.cons rfl (fun K hK => ?_) ?_
        · go_simp
          refine hK.out _ _ ?_ (fun hNew => ?_)
          · (try dsimp only); exact t4 _
          clear hK K hHeld
          have hHeld := hNew
          clear hNew
          refine wpAnyH_ready (rs := [7]) (by kernel_rfl) (by simp) ?_
          refine AllReadyH.cons rfl (fun K hK => ?_) ?_
          · go_simp
            refine hK.out _ _ ?_ (fun hNew => ?_)
            · (try dsimp only); exact hHeld
            clear hK K hHeld
            have hHeld := hNew
            clear hNew
            refine wpAnyH_ready (rs := [12]) (by kernel_rfl) (by simp) ?_
            refine AllReadyH.cons rfl (fun K hK => ?_) ?_
            · refine step_int_at (by rfl) _ _ (by rfl) (w.heap.size + 1) _ m (intV l) (by rfl) (HR5o.out _) _ _ _ (by rfl) (cell_val_new _ _ _) (by simp [Value.oneCell']) (by omega) (HZ5.out _) ?_
              intro v6 w6 ho6 hg6 hat6
              obtain ⟨z1, ⟨y6, z2⟩, z3, z4⟩ := HT5.out.put HL.out HM.out HU5.out ho6 hg6 hat6
              have HT6 := Lib.hid z1
              have cA6 := z1.cell
              obtain ⟨a6, c6, rfl⟩ := own_form ho6
              clear z1 ho6 hg6 hat6
              refine hK.out _ _ ?_ (fun hNew => ?_)
              · (try dsimp only); exact z4
              clear hK K hHeld
              have hHeld := hNew
              clear hNew
              refine (wpAnyH_take (i := 13) (v := ?_) rfl (by kernel_rfl) (by kernel_rfl) (by kernel_rfl) (fun _ _ _ h => h) (Or.inl ⟨by rfl, ?_⟩) (by assumption) ?_)
              rotate_left 1
              · (intro w hSw; (try dsimp only at hSw); (go_simp) <;> with_reducible rfl)
              try simp only [Act.put, List.setIfInBounds_toArray]
              refine wpAnyH_ready (rs := [14]) (by kernel_rfl) (by simp) ?_
              refine AllReadyH.cons rfl (fun K hK => ?_) ?_
              · go_simp
                refine hK.out _ _ ?_ (fun hNew => ?_)
                · (try dsimp only); exact cA6
                clear hK K hHeld
                have hHeld := hNew
                clear hNew
                refine wpAnyH_done (by kernel_rfl) ?_ _
                obtain ⟨hS, c8, f8⟩ := HT6.out.finish
                have HS := Lib.hid hS
                have e8 := World.cell?_setCell_same _ _ (.slice (some ⟨g, 0, none⟩) k c) c8
                have cA8 := HT6.out.cell
                clear hS
                go_wp2_with fail
                refine bodyPost_ret (v := .agg #[.slice (some ⟨g, 0, none⟩) k c]) (by simp [results, Try.results49, go_sem, e8]) rfl ?_
                exact ⟨_, _, Y.set i (l ++ [x]), by rw [List.length_set, HK.out], by rw [List.length_set, HK.out]; omega, (rows5_set HR5.out (by rw [List.length_append, HM.out]; simp; omega)), by rw [List.length_set, HK.out]; exact HS.out.1, (show Cur _ b v _ from HS.out.2.1.more (by omega)), HS.out.2.2⟩
              exact AllReadyH.nil
            exact AllReadyH.nil
          exact AllReadyH.nil
        exact AllReadyH.nil
      exact AllReadyH.nil
    exact AllReadyH.nil
  · -- five numbers
    obtain ⟨hS1, ⟨y, p2⟩, p3⟩ := HT.out.repl (w5 := w4.alloc (.cells #[.int .i64 21, .int .i64 22, .int .i64 23, .int .i64 24, .int .i64 25] 3)) (u' := .slice (some ⟨w4.heap.size, 0, none⟩) 5 5) (l' := [21, 22, 23, 24, 25]) HL.out HU.out (World.grownBy_alloc w4 _ _) ((five_rows w4).mono (by have := HT.out.2.2.2.2.2.1; have := HT.out.2.2.2.2.2.2.1; omega)) (fun b hb => by cases hb; exact .inr (Nat.le_refl _))
    have HT5 := Lib.hid hS1
    clear hS1
    obtain ⟨hS, c8, f8⟩ := HT5.out.finish
    have HS := Lib.hid hS
    have e8 := World.cell?_setCell_same _ _ (.slice (some ⟨g, 0, none⟩) k c) c8
    have cA8 := HT5.out.cell
    clear hS
    go_wp2_with fail
    refine bodyPost_ret (v := .agg #[.slice (some ⟨g, 0, none⟩) k c]) (by simp [results, Try.results49, go_sem, e8]) rfl ?_
    exact ⟨_, _, Y.set i [21, 22, 23, 24, 25], by rw [List.length_set, HK.out], by rw [List.length_set, HK.out]; omega, rows5_set HR5.out (by decide), by rw [List.length_set, HK.out]; exact HS.out.1, (show Cur _ b v _ from HS.out.2.1.more (by omega)), HS.out.2.2⟩
  · -- no row
    obtain ⟨hS1, p2, p3⟩ := HT.out.store (below_one w4 (.cells #[] 28)) (no_rows w4)
    have HT5 := Lib.hid hS1
    clear hS1
    obtain ⟨hS, c8, f8⟩ := HT5.out.finish
    have HS := Lib.hid hS
    have e8 := World.cell?_setCell_same _ _ (.slice (some ⟨w4.heap.size, 0, none⟩) 0 0) c8
    have cA8 := HT5.out.cell
    clear hS
    go_wp2_with fail
    refine bodyPost_ret (v := .agg #[.slice (some ⟨w4.heap.size, 0, none⟩) 0 0]) (by simp [results, Try.results49, go_sem, e8]) rfl ?_
    exact ⟨_, _, [], by rw [show ([] : List (List Int)).length = 0 from rfl], by rw [show ([] : List (List Int)).length = 0 from rfl]; omega, (fun r hr => by simp at hr), by rw [show ([] : List (List Int)).length = 0 from rfl]; exact HS.out.1, (show Cur _ b v _ from HS.out.2.1.more (by omega)), HS.out.2.2⟩
  · -- rows of one number
    obtain ⟨f38, hi38, hz0, hz1, hz2⟩ := info_is info38
    clear HU HOU
    clear hu
    go_wp2_with fail
    go_loopw [5] (fun n wr => ∃ q : Nat, q ≤ 8 ∧ n = .int .i64 (q : Int) ∧ Hid (∃ s c k Y, YT w b v (N + 80 + 4 + 4 + 4 * q) A (.slice s k c) Y wr ∧ Y.length = k ∧ k ≤ 7 ∧ rows5 Y)) (fun n _ => 8 - (intOf n).toNat)
    case atStart => exact ⟨0, by omega, rfl, Lib.hid ⟨_, _, _, _, HT.out, HK.out, by omega, HR5.out⟩⟩
    case round =>
      obtain ⟨q, hq, rfl, HR⟩ := hrel
      obtain ⟨s, c', k', Y', hY, hYk, hk7, hY5⟩ := HR.out
      have HY := Lib.hid hY
      have HYK := Lib.hid hYk
      have HY5 := Lib.hid hY5
      have cA := hY.cell
      have HYd := Lib.hid (hY.below (Below.refl wr.heap.size wr).drew)
      clear HR hY hYk hY5
      by_cases hq8 : q < 8
      · have hqI : (q : Int) < 8 := by omega
        obtain ⟨x, hx2, hPk⟩ := pick_det b (N + 80 + 4 + 4 + 4 * q) 2 v (by omega) (by decide) (by decide) _ HYd.out.1
        have HPk := Lib.hid hPk
        clear hPk
        have hw6 : IntKind.i64.wrap (6 + (x : Int)) = 6 + (x : Int) := IntWalk.i64_in _ (by omega)
        by_cases hkx : (k' : Int) < 6 + (x : Int)
        · have hk6 : k' ≤ 6 := by omega
          go_wp2_with fail
          go_region_held3 (fun W => W.cell? ⟨A, 0, none⟩ = some (.slice s k' c')) (go_keep) (first | (go_at_call 75; refine HPk.out.mono ?_; rintro e w5 ⟨rfl, hc, hg⟩; have HY6 := Lib.hid ((HYd.out.pick hc hg).more (show N + 80 + 4 + 4 + 4 * q + 4 ≤ N + 80 + 4 + 4 + 4 * (q + 1) by omega)); have x0 := HY6.out.cell; clear hc hg))
          clear x0 cA
          rename World => w6
          have cA := HY6.out.cell
          obtain ⟨us, hus, hr2⟩ := HY6.out.2.2.2.1.2.2
          have hE : (w6.alloc (.cells #[.int .i64 (40 + (q : Int))] 3)).ownsRow w6.heap.size 3 1 (.slice (some ⟨w6.heap.size, 0, none⟩) 1 1) ([40 + (q : Int)] : List Int).length (intV [40 + (q : Int)]) := owns_of_heap (heap_alloc_new _ _) rfl (by decide)
          have HST := Lib.hid (fun v' w7 hg ho' => HY6.out.push (w1 := w6.alloc (.cells #[.int .i64 (40 + (q : Int))] 3)) (w4 := w7) (v' := v') (u := .slice (some ⟨w6.heap.size, 0, none⟩) 1 1) (l := [40 + (q : Int)]) hus hr2 (below_one w6 _) hE hg ho')
          rw [HYK.out] at hus HST
          have HUS := Lib.hid ((hus.alloc (.cells #[.int .i64 (40 + (q : Int))] 3)).alloc (.cells #[.slice (some ⟨w6.heap.size, 0, none⟩) 1 1] 28))
          have hNW := cell_val_new (w6.alloc (.cells #[.int .i64 (40 + (q : Int))] 3)) (.slice (some ⟨w6.heap.size, 0, none⟩) 1 1) 28
          rw [show (w6.alloc (.cells #[.int .i64 (40 + (q : Int))] 3)).heap.size = w6.heap.size + 1 by simp] at hNW
          have HNW := Lib.hid hNW
          have hz6 : w.heap.size + 1 ≤ w6.heap.size := by have := HY6.out.2.2.2.2.2.1; have := HY6.out.2.2.2.2.2.2.1; omega
          clear hus hr2 hE hNW
          go_wp2_with (at_builtin; refine wpList_append_own _ rfl _ _ 24 rfl (w.heap.size + 1) 28 f38 (.slice none 0 0) 1 24 Try.underlying24 hi38 hz0 hz1 hz2 rfl (by decide) _ k' us rfl HUS.out _ 1 1 [.slice (some ⟨w6.heap.size, 0, none⟩) 1 1] rfl rfl HNW.out (by simp [Value.oneCell']) (by unfold maxLen; omega) (by omega) (by simp; omega) ?_; intro v' w7 hown' hgrow hnil; obtain ⟨hG4, c4, f4⟩ := HST.out v' w7 hgrow hown'; obtain ⟨a5, c5, rfl⟩ := own_form hown'; have HG4 := Lib.hid hG4; clear hG4 hown' hgrow hnil)
          exact ⟨⟨q + 1, by omega, by go_num, Lib.hid ⟨_, _, _, _, HG4.out, by rw [List.length_append, HYK.out]; rfl, by omega, rows5_push HY5.out [40 + (q : Int)] (by simp)⟩⟩, by simp [intOf]; omega⟩
        · have HKX : Hid (decide ((k' : Int) < 6 + (x : Int)) = false) := Lib.hid (by simpa using hkx)
          clear hkx
          go_wp2_with fail
          have hkxf := HKX.out
          first | go_region_held_law (fun W => W.cell? ⟨A, 0, none⟩ = some (.slice s k' c')) (go_keep) (first | (go_at_call 75; refine HPk.out.mono ?_; rintro e w5 ⟨rfl, hc, hg⟩; have HY6 := Lib.hid ((HYd.out.pick hc hg).more (show N + 80 + 4 + 4 + 4 * q + 4 ≤ N + 80 + 4 + 4 + 4 * (q + 1) by omega)); have x0 := HY6.out.cell; clear hc hg)) | fail
          clear x0 cA hkxf
          obtain ⟨hS, c8, f8⟩ := HY6.out.finish
          have HS := Lib.hid hS
          have e8 := World.cell?_setCell_same _ _ (.slice s k' c') c8
          have cA8 := HY6.out.cell
          clear hS
          go_wp2_with fail
          refine bodyPost_ret (v := .agg #[.slice s k' c']) (by simp [results, Try.results49, go_sem, e8]) rfl ?_
          exact ⟨_, _, Y', by rw [HYK.out], by rw [HYK.out]; omega, HY5.out, by rw [HYK.out]; exact HS.out.1, (show Cur _ b v _ from HS.out.2.1.more (by omega)), HS.out.2.2⟩
      · obtain rfl : q = 8 := by omega
        obtain ⟨x, hx2, hPk⟩ := pick_det b (N + 80 + 4 + 4 + 4 * 8) 2 v (by omega) (by decide) (by decide) _ HYd.out.1
        have HPk := Lib.hid hPk
        clear hPk
        have hw6 : IntKind.i64.wrap (6 + (x : Int)) = 6 + (x : Int) := IntWalk.i64_in _ (by omega)
        by_cases hkx : (k' : Int) < 6 + (x : Int)
        · go_wp2_with fail
          go_region_held3 (fun W => W.cell? ⟨A, 0, none⟩ = some (.slice s k' c')) (go_keep) (first | (go_at_call 75; refine HPk.out.mono ?_; rintro e w5 ⟨rfl, hc, hg⟩; have HY6 := Lib.hid (HYd.out.pick hc hg); have x0 := HY6.out.cell; clear hc hg))
          clear x0 cA
          obtain ⟨hS, c8, f8⟩ := HY6.out.finish
          have HS := Lib.hid hS
          have e8 := World.cell?_setCell_same _ _ (.slice s k' c') c8
          have cA8 := HY6.out.cell
          clear hS
          go_wp2_with fail
          refine bodyPost_ret (v := .agg #[.slice s k' c']) (by simp [results, Try.results49, go_sem, e8]) rfl ?_
          exact ⟨_, _, Y', by rw [HYK.out], by rw [HYK.out]; omega, HY5.out, by rw [HYK.out]; exact HS.out.1, (show Cur _ b v _ from HS.out.2.1.more (by omega)), HS.out.2.2⟩
        · have HKX : Hid (decide ((k' : Int) < 6 + (x : Int)) = false) := Lib.hid (by simpa using hkx)
          clear hkx
          go_wp2_with fail
          have hkxf := HKX.out
          first | go_region_held_law (fun W => W.cell? ⟨A, 0, none⟩ = some (.slice s k' c')) (go_keep) (first | (go_at_call 75; refine HPk.out.mono ?_; rintro e w5 ⟨rfl, hc, hg⟩; have HY6 := Lib.hid (HYd.out.pick hc hg); have x0 := HY6.out.cell; clear hc hg)) | fail
          clear x0 cA hkxf
          obtain ⟨hS, c8, f8⟩ := HY6.out.finish
          have HS := Lib.hid hS
          have e8 := World.cell?_setCell_same _ _ (.slice s k' c') c8
          have cA8 := HY6.out.cell
          clear hS
          go_wp2_with fail
          refine bodyPost_ret (v := .agg #[.slice s k' c']) (by simp [results, Try.results49, go_sem, e8]) rfl ?_
          exact ⟨_, _, Y', by rw [HYK.out], by rw [HYK.out]; omega, HY5.out, by rw [HYK.out]; exact HS.out.1, (show Cur _ b v _ from HS.out.2.1.more (by omega)), HS.out.2.2⟩
  · -- as it is
    obtain ⟨hS, c8, f8⟩ := HT.out.finish
    have HS := Lib.hid hS
    have e8 := World.cell?_setCell_same _ _ (.slice (some ⟨g, 0, none⟩) k c) c8
    have cA8 := HT.out.cell
    clear hS
    go_wp2_with fail
    refine bodyPost_ret (v := .agg #[.slice (some ⟨g, 0, none⟩) k c]) (by simp [results, Try.results49, go_sem, e8]) rfl ?_
    exact ⟨_, _, Y, by rw [HK.out], by rw [HK.out]; omega, HR5.out, by rw [HK.out]; exact HS.out.1, (show Cur _ b v _ from HS.out.2.1.more (by omega)), HS.out.2.2⟩
end Go.Proofs.Ythokmklnldoinaa.D
