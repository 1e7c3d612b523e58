/-
  What spec.ApplyPlacement returns. No statement of the seat by itself.
-/
import Derived.Test.YthokmklnldoinaaAppM
import Derived.Deep.RegionHeldLaw
namespace Go.Proofs.Ythokmklnldoinaa
open Go.RowKit

set_option maxRecDepth 100000 in
set_option maxHeartbeats 16000000 in
theorem specApp_any (v vo vq : Value) (Y : List (List Int)) (O Q : List Int) (h1 : Y.length ≤ 1048576) (h2 : tot Y ≤ 1048576) (h3 : O.length ≤ 1048576) (h4 : Q.length ≤ 1048576) (w : World) (h : YdR w v Y) (ho : OwnI w vo O) (hoq : OwnI w vq Q) :
    Calls Try.prog 37 #[v, vo, vq] w (RetY w (appY Y O Q) (appB Y O Q)) := by
  obtain ⟨v0, rfl, hv⟩ := h
  obtain ⟨a, c, rfl, hc⟩ := ho.form
  obtain ⟨aq, cq, rfl, hcq⟩ := hoq.form
  obtain ⟨n, hn⟩ : ∃ n, O.length = n := ⟨_, rfl⟩
  obtain ⟨nq, hnq⟩ : ∃ n, Q.length = n := ⟨_, rfl⟩
  have HN := Lib.hid hn
  have HNQ := Lib.hid hnq
  have HV := Lib.hid hv
  have HI : Hid (∀ W, Below w.heap.size w W → IL W (.slice a n c) O) := Lib.hid fun W hb => by
    have := ho.read.below hb
    rw [hn] at this
    exact this
  have HIQ : Hid (∀ W, Below w.heap.size w W → IL W (.slice aq nq cq) Q) := Lib.hid fun W hb => by
    have := hoq.read.below hb
    rw [hnq] at this
    exact this
  have HG : Hid (∀ W, Below w.heap.size w W → Calls Try.prog 54 #[.agg #[v0], .slice a n c] W (BoolP W (askP Y O))) := Lib.hid fun W hb => by
    have := l8Asked_any _ _ Y O h1 h2 h3 W ⟨v0, rfl, hv.below hb⟩ (ho.below hb)
    rw [hn] at this
    exact this
  have HCp := Lib.hid (fun W hb => l5Own_any (.agg #[v0]) Y h1 h2 W ⟨v0, rfl, HV.out.below hb⟩)
  unfold NewYd at HCp
  have F0 := Lib.hid (Fr2.start w v0)
  have c0 := F0.out.c
  obtain ⟨av, cv, hvf⟩ := hv.form
  have HVF := Lib.hid hvf
  clear hvf
  rw [hn] at h3 hc ⊢
  rw [hnq] at h4 hcq ⊢
  clear hv ho hn hoq hnq
  by_cases haq : askP Y O = true ∧ nq = n
  case neg =>
    have HQ := Lib.hid (appP_no (P := Q) (show appP Y O Q = none by
      cases ha : askP Y O with
      | false => exact app_ask ha
      | true => exact app_len (by rw [HN.out, HNQ.out]; exact fun e => haq ⟨ha, e⟩)))
    obtain ⟨b, hb⟩ : ∃ b, askP Y O = b := ⟨_, rfl⟩
    rw [hb] at HG haq
    have hne : b = true → ((nq : Int) != (n : Int)) = true := fun e => by
      have : ¬ nq = n := fun e2 => haq ⟨e, e2⟩
      rw [bne_iff_ne]
      omega
    clear hb haq
    go_enter Try.func37, Try.ntmps37
    go_wp2_with fail
    generalize (w.alloc (.cells #[v0] 26)).alloc (.cells #[.slice none 0 0] 26) = W at *
    refine (HG.out _ F0.out.bl).mono ?_
    rintro e w1 ⟨rfl, hb⟩
    have F1 := Lib.hid (F0.out.below hb)
    obtain ⟨z0, f0⟩ := F1.out.z
    have e7 := World.cell?_setCell_same _ _ (.slice none 0 0) z0
    clear hb c0
    cases b with
    | false =>
      clear hne
      go_wp2_with fail
      refine bodyPost_ret (v := .tuple #[.agg #[.slice none 0 0], .bool false]) (by simp [results, Try.results37, go_sem, e7]) rfl ?_
      rw [HQ.out.1, HQ.out.2]
      exact retY_zero F1.out
    | true =>
      have hne2 := hne rfl
      clear hne
      go_wp2_with fail
      refine bodyPost_ret (v := .tuple #[.agg #[.slice none 0 0], .bool false]) (by simp [results, Try.results37, go_sem, e7]) rfl ?_
      rw [HQ.out.1, HQ.out.2]
      exact retY_zero F1.out
  case pos =>
    obtain ⟨ha, rfl⟩ := haq
    have HA := Lib.hid ha
    obtain ⟨hgd, h5, -, -⟩ := askP_iff.1 ha
    have h66 := (goodY_iff.1 hgd).2.1
    have h11 := (goodY_iff.1 hgd).1
    have h24 := (good_small hgd).2
    obtain ⟨q, hq⟩ : ∃ q, Y.length = q := ⟨_, rfl⟩
    have HQN := Lib.hid hq
    rw [hq] at HCp h66 h11
    rw [ha] at HG
    rw [HN.out] at h5
    have hne2 : ((nq : Int) != (nq : Int)) = false := by simp
    clear ha hgd hq
    go_enter Try.func37, Try.ntmps37
    go_wp2_with fail
    generalize (w.alloc (.cells #[v0] 26)).alloc (.cells #[.slice none 0 0] 26) = W at *
    refine (HG.out _ F0.out.bl).mono ?_
    rintro e w1 ⟨rfl, hb⟩
    have F1 := Lib.hid (F0.out.below hb)
    clear hb c0
    have c0 := F1.out.c
    go_wp2_with fail
    refine (HCp.out _ F1.out.bl).mono ?_
    rintro e w2 ⟨a2, c2, rfl, ho, hb⟩
    obtain ⟨g, cap, e⟩ := ho.rows (by have := HQN.out; omega)
    injection e with e1 e2 e3
    subst e1 e3
    have HP0 := Lib.hid (PlSt.newC F1.out ho hb)
    have HG0 : Hid (appG Y O Q 0 = some Y) := Lib.hid rfl
    clear hb ho c0 e2
    go_wp2_with fail
    go_loopw [9] (fun i wr => ∃ (k : Nat) (Z : List (List Int)), k ≤ nq ∧ i = .int .i64 k ∧ Hid (PlSt w wr v0 w2.heap.size w1.heap.size g q c2 (.slice none 0 0) Z []) ∧ Hid (appG Y O Q k = some Z)) (fun i _ => nq - (intOf i).toNat)
    case atStart => exact ⟨0, Y, Nat.zero_le _, rfl, HP0, HG0⟩
    case round =>
      clear HP0 HG0 HG
      obtain ⟨k, Z, hk, rfl, HS, HGk⟩ := hrel
      rename World => wr
      have cA := HS.out.cA.2.1
      have cY := HS.out.fr.c
      by_cases hlt : k < nq
      · obtain ⟨a', c', e, hcc⟩ := HI.out w (Below.refl _ _)
        obtain ⟨gl, offl, e2, hgl, hcl⟩ := hcc (by have := HN.out; omega)
        injection e with e1 e4 e5
        subst e2
        subst e1
        clear e4 e5
        obtain ⟨aq', cq', e, hcc2⟩ := HIQ.out w (Below.refl _ _)
        obtain ⟨gq, offq, e2, hgq, hclq⟩ := hcc2 (by have := HNQ.out; omega)
        injection e with e1 e4 e5
        subst e2
        subst e1
        clear e4 e5
        obtain ⟨x, hx⟩ := get_at HN.out hlt
        obtain ⟨s, hs⟩ := get_at HNQ.out hlt
        have o1 : wr.cell? ⟨gl, offl + k, none⟩ = some (.int .i64 x) := (HS.out.fr.bl.cell (p := ⟨gl, offl + k, none⟩) hgl).trans (hcl k x hx)
        have s1 : wr.cell? ⟨gq, offq + k, none⟩ = some (.int .i64 s) := (HS.out.fr.bl.cell (p := ⟨gq, offq + k, none⟩) hgq).trans (hclq k s hs)
        have HX := Lib.hid hx
        have HSx := Lib.hid hs
        have HGL := Lib.hid (And.intro hgl hgq)
        have hvf := HVF.out
        rw [HQN.out] at hvf
        rw [hvf] at cY
        have HSd : Hid (∀ m, PlSt w (wr.drewN m) v0 w2.heap.size w1.heap.size g q c2 (.slice none 0 0) Z []) := Lib.hid fun m => HS.out.below (below_drewN (Below.refl wr.heap.size wr) m)
        clear hcc hcl hcc2 hclq hx hs hgl hgq hvf
        by_cases hr : 0 ≤ s ∧ s < (q : Int)
        · have HR := Lib.hid (fun W => l1In_yes s 0 ((q : Int) - 1) W hr.1 (by omega))
          obtain ⟨i, rfl⟩ : ∃ i : Nat, s = (i : Int) := ⟨s.toNat, by omega⟩
          have hiq : i < q := by omega
          have hZl := appG_len _ _ HGk.out
          have hZt := appG_tot _ _ HGk.out
          have hYq := HQN.out
          obtain ⟨l, hl⟩ := get_at hZl (show i < Y.length by omega)
          have hl4 := row_len hl
          have HGn := Lib.hid (appG_next HGk.out HX.out HSx.out (by omega))
          obtain ⟨m, hm⟩ : ∃ m, l.length = m := ⟨_, rfl⟩
          have HM := Lib.hid hm
          have HL := Lib.hid hl
          rw [hm] at hl4
          have hm30 : m ≤ 1048576 := by omega
          have hiI : (i : Int) < (q : Int) := by omega
          clear hl hm hZl hZt hYq hr
          go_wp2_with fail
          go_quiet ((go_at_call 66; exact Calls.quiet_of_same (flip8 (HR.out _))))
          rename Nat => mq
          have HS2 := Lib.hid (HSd.out mq)
          have x1 : (wr.drewN mq).cell? ⟨gl, offl + k, none⟩ = some (.int .i64 x) := o1
          have x2 : (wr.drewN mq).cell? ⟨gq, offq + k, none⟩ = some (.int .i64 (i : Int)) := s1
          have HG2 : Hid (gl < w.heap.size ∧ gq < w.heap.size) := HGL
          clear cA cY o1 s1
          generalize wr.drewN mq = w3 at *
          have ht := own_tab HS2.out.own.1
          obtain ⟨u, hu, -, hou, -⟩ := HS2.out.own.1.cell HL.out
          obtain ⟨a4, c4, rfl⟩ := own_form hou
          rw [HM.out] at hu hou
          have HO4 := Lib.hid hou
          have cO := HS2.out.cA.2.1
          have hOg : ¬ w2.heap.size = g := HS2.out.cA.2.2
          have hgO : ¬ g = w2.heap.size := fun e => hOg e.symm
          have HP := Lib.hid (fun (w5 : World) (v' : Value) (o : Obj) (ho : w5.ownsRow w1.heap.size 3 1 v' (m + 1) (intV l ++ [.int .i64 x])) (hg : (w3.drew.alloc o).grownBy w5 (Value.slice a4 m c4).ownBlock) (hat : v'.ownBlock = (Value.slice a4 m c4).ownBlock ∨ v'.ownBlock = some (w3.drew.alloc o).heap.size) =>
            (HS2.out.below (Below.refl _ w3).drew).put HL.out HM.out hu ho hg hat)
          have HU5 := Lib.hid (fun o => row_below HO4.out (((Below.refl _ w3).drew).alloc (Nat.le_refl _) o))
          have hu9 : w3.drew.cell? ⟨g, i, none⟩ = some (.slice a4 m c4) := hu
          have hg3 : ¬ g = w3.heap.size := by omega
          have huB := fun o => (World.cell?_alloc_lt w3 o ⟨g, i, none⟩ (by show g < w3.heap.size; omega)).trans hu
          have huA := fun o => (World.cell?_alloc_lt w3.drew o ⟨g, i, none⟩ (by show g < w3.heap.size; omega)).trans hu
          have hg4 : ¬ w3.heap.size = g := by omega
          have hcA := fun o => (World.cell?_alloc_lt w3.drew o ⟨w2.heap.size, 0, none⟩ HS2.out.cA.1).trans cO
          have hgl3 : gl < w3.heap.size := Nat.lt_of_lt_of_le HG2.out.1 HS2.out.fr.bl.size
          have hxA := fun o => (World.cell?_alloc_lt w3.drew o ⟨gl, offl + k, none⟩ hgl3).trans x1
          have hgq3 : gq < w3.heap.size := Nat.lt_of_lt_of_le HG2.out.2 HS2.out.fr.bl.size
          have hsA := fun o => (World.cell?_alloc_lt w3.drew o ⟨gq, offq + k, none⟩ hgq3).trans x2
          have HQ5 := Lib.hid (fun (w5 : World) (o : Obj) (hg : (w3.drew.alloc o).grownBy w5 (Value.slice a4 m c4).ownBlock) => show w5.cell? ⟨gq, offq + k, none⟩ = some (.int .i64 (i : Int)) from
            (World.cell?_of_block (a := ⟨gq, offq + k, none⟩) (hg.block gq (Nat.lt_of_lt_of_le hgq3 (below_one w3.drew o).size) (fun e => by have := row_base HO4.out gq e.symm; have := HS2.out.hB; have := HG2.out.2; omega))).trans (hsA o))
          have HQ6 := Lib.hid (fun (w5 : World) (o : Obj) (hg : (w3.drew.alloc o).grownBy w5 (Value.slice a4 m c4).ownBlock) => show w5.cell? ⟨gl, offl + k, none⟩ = some (.int .i64 x) from
            (World.cell?_of_block (a := ⟨gl, offl + k, none⟩) (hg.block gl (Nat.lt_of_lt_of_le hgl3 (below_one w3.drew o).size) (fun e => by have := row_base HO4.out gl e.symm; have := HS2.out.hB; have := HG2.out.1; omega))).trans (hxA o))
          have hqg : gq ≠ g := by have := HS2.out.hB; have := HG2.out.2; omega
          have hlg : gl ≠ g := by have := HS2.out.hB; have := HG2.out.1; omega
          have hzz : w1.heap.size ≤ w3.heap.size := by omega
          have HZA := Lib.hid (fun o => Nat.le_trans hzz (below_one w3.drew o).size)
          clear hou HO4 ht
          go_wp2_with fail
          refine wp_region_held_drew (S := fun W => W.cell? ⟨w2.heap.size, 0, none⟩ = some (.slice (some ⟨g, 0, none⟩) q c2) ∧ W.cell? ⟨gq, offq + k, none⟩ = some (.int .i64 (i : Int)) ∧ W.cell? ⟨gl, offl + k, none⟩ = some (.int .i64 x)) (by kernel_rfl) ?_ (fun hHeld => ?_)
          · exact ⟨cO, x2, x1⟩
          refine (wpAnyH_take (i := 0) (v := ?_) rfl (by kernel_rfl) (by kernel_rfl) (by kernel_rfl) (fun _ _ _ h => h) (Or.inl ⟨by rfl, ?_⟩) (by assumption) ?_)
          rotate_left 1
          · (intro w hSw; (try dsimp only at hSw); (obtain ⟨hS1, hS2, hS3⟩ := hSw); (go_simp) <;> with_reducible rfl)
          try simp only [Act.put, List.setIfInBounds_toArray]
          refine (wpAnyH_take (i := 1) (v := ?_) rfl (by kernel_rfl) (by kernel_rfl) (by kernel_rfl) (fun _ _ _ h => h) (Or.inl ⟨by rfl, ?_⟩) (by assumption) ?_)
          rotate_left 1
          · (intro w hSw; (try dsimp only at hSw); (obtain ⟨hS1, hS2, hS3⟩ := hSw); (go_simp) <;> with_reducible rfl)
          try simp only [Act.put]
          refine (wpAnyH_take (i := 2) (v := ?_) rfl (by kernel_rfl) (by kernel_rfl) (by kernel_rfl) (fun _ _ _ h => h) (Or.inl ⟨by rfl, ?_⟩) (by assumption) ?_)
          rotate_left 1
          · (intro w hSw; (try dsimp only at hSw); (obtain ⟨hS1, hS2, hS3⟩ := hSw); (go_simp) <;> with_reducible rfl)
          try simp only [Act.put]
          refine (wpAnyH_take (i := 3) (v := ?_) rfl (by kernel_rfl) (by kernel_rfl) (by kernel_rfl) (fun _ _ _ h => h) (Or.inl ⟨by rfl, ?_⟩) (by assumption) ?_)
          rotate_left 1
          · (intro w hSw; (try dsimp only at hSw); (obtain ⟨hS1, hS2, hS3⟩ := hSw); (go_simp) <;> with_reducible rfl)
          try simp only [Act.put]
          refine (wpAnyH_take (i := 4) (v := ?_) rfl (by kernel_rfl) (by kernel_rfl) (by kernel_rfl) (fun _ _ _ h => h) (Or.inl ⟨by rfl, ?_⟩) (by assumption) ?_)
          rotate_left 1
          · (intro w hSw; (try dsimp only at hSw); (obtain ⟨hS1, hS2, hS3⟩ := hSw); (go_simp) <;> with_reducible rfl)
          try simp only [Act.put]
          refine (wpAnyH_take (i := 5) (v := ?_) rfl (by kernel_rfl) (by kernel_rfl) (by kernel_rfl) (fun _ _ _ h => h) (Or.inl ⟨by rfl, ?_⟩) (by assumption) ?_)
          rotate_left 1
          · (intro w hSw; (try dsimp only at hSw); (obtain ⟨hS1, hS2, hS3⟩ := hSw); (go_simp) <;> with_reducible rfl)
          try simp only [Act.put]
          refine (wpAnyH_take (i := 6) (v := ?_) rfl (by kernel_rfl) (by kernel_rfl) (by kernel_rfl) (fun _ _ _ h => h) (Or.inl ⟨by rfl, ?_⟩) (by assumption) ?_)
          rotate_left 1
          · (intro w hSw; (try dsimp only at hSw); (obtain ⟨hS1, hS2, hS3⟩ := hSw); (go_simp) <;> with_reducible rfl)
          try simp only [Act.put]
          refine (wpAnyH_take (i := 7) (v := ?_) rfl (by kernel_rfl) (by kernel_rfl) (by kernel_rfl) (fun _ _ _ h => h) (Or.inl ⟨by rfl, ?_⟩) (by assumption) ?_)
          rotate_left 1
          · (intro w hSw; (try dsimp only at hSw); (obtain ⟨hS1, hS2, hS3⟩ := hSw); (go_simp) <;> with_reducible rfl)
          try simp only [Act.put]
          refine (wpAnyH_take (i := 8) (v := ?_) rfl (by kernel_rfl) (by kernel_rfl) (by kernel_rfl) (fun _ _ _ h => h) (Or.inl ⟨by rfl, ?_⟩) (by assumption) ?_)
          rotate_left 1
          · (intro w hSw; (try dsimp only at hSw); (obtain ⟨hS1, hS2, hS3⟩ := hSw); (go_simp) <;> with_reducible rfl)
          try simp only [Act.put]
          refine (wpAnyH_take (i := 9) (v := ?_) rfl (by kernel_rfl) (by kernel_rfl) (by kernel_rfl) (fun _ _ _ h => h) (Or.inl ⟨by rfl, ?_⟩) (by assumption) ?_)
          rotate_left 1
          · (intro w hSw; (try dsimp only at hSw); (obtain ⟨hS1, hS2, hS3⟩ := hSw); (go_simp) <;> with_reducible rfl)
          try simp only [Act.put]
          refine (wpAnyH_take (i := 10) (v := ?_) rfl (by kernel_rfl) (by kernel_rfl) (by kernel_rfl) (fun _ _ _ h => h) (Or.inl ⟨by rfl, ?_⟩) (by assumption) ?_)
          rotate_left 1
          · (intro w hSw; (try dsimp only at hSw); (obtain ⟨hS1, hS2, hS3⟩ := hSw); (go_simp) <;> with_reducible rfl)
          try simp only [Act.put]
          refine (wpAnyH_take (i := 11) (v := ?_) rfl (by kernel_rfl) (by kernel_rfl) (by kernel_rfl) (fun _ _ _ h => h) (Or.inl ⟨by rfl, ?_⟩) (by assumption) ?_)
          rotate_left 1
          · (intro w hSw; (try dsimp only at hSw); (obtain ⟨hS1, hS2, hS3⟩ := hSw); (go_simp) <;> with_reducible rfl)
          try simp only [Act.put]
          refine (wpAnyH_take (i := 12) (v := ?_) rfl (by kernel_rfl) (by kernel_rfl) (by kernel_rfl) (fun _ _ _ h => h) (Or.inl ⟨by rfl, ?_⟩) (by assumption) ?_)
          rotate_left 1
          · (intro w hSw; (try dsimp only at hSw); (obtain ⟨hS1, hS2, hS3⟩ := hSw); (go_simp) <;> with_reducible rfl)
          try simp only [Act.put]
          refine (wpAnyH_take (i := 14) (v := ?_) rfl (by kernel_rfl) (by kernel_rfl) (by kernel_rfl) (fun _ _ _ h => h) (Or.inl ⟨by rfl, ?_⟩) (by assumption) ?_)
          rotate_left 1
          · (intro w hSw; (try dsimp only at hSw); (obtain ⟨hS1, hS2, hS3⟩ := hSw); (go_simp) <;> with_reducible rfl)
          try simp only [Act.put]
          refine (wpAnyH_take (i := 15) (v := ?_) rfl (by kernel_rfl) (by kernel_rfl) (by kernel_rfl) (fun _ _ _ h => h) (Or.inl ⟨by rfl, ?_⟩) (by assumption) ?_)
          rotate_left 1
          · (intro w hSw; (try dsimp only at hSw); (obtain ⟨hS1, hS2, hS3⟩ := hSw); (go_simp) <;> with_reducible rfl)
          try simp only [Act.put]
          refine (wpAnyH_take (i := 16) (v := ?_) rfl (by kernel_rfl) (by kernel_rfl) (by kernel_rfl) (fun _ _ _ h => h) (Or.inl ⟨by rfl, ?_⟩) (by assumption) ?_)
          rotate_left 1
          · (intro w hSw; (try dsimp only at hSw); (obtain ⟨hS1, hS2, hS3⟩ := hSw); (go_simp) <;> with_reducible rfl)
          try simp only [Act.put]
          refine (wpAnyH_take (i := 17) (v := ?_) rfl (by kernel_rfl) (by kernel_rfl) (by kernel_rfl) (fun _ _ _ h => h) (Or.inl ⟨by rfl, ?_⟩) (by assumption) ?_)
          rotate_left 1
          · (intro w hSw; (try dsimp only at hSw); (obtain ⟨hS1, hS2, hS3⟩ := hSw); (go_simp) <;> with_reducible rfl)
          try simp only [Act.put]
          refine wpAnyH_ready (rs := [13, 18]) (by kernel_rfl) (by simp) ?_
          refine AllReadyH.cons rfl (fun K hK => ?_) ?_
          · go_simp
            refine hK.out _ _ ?_ (fun hNew => ?_)
            · (try dsimp only); exact hHeld
            clear hK K hHeld
            have hHeld := hNew
            clear hNew
            refine wpAnyH_ready (rs := [18]) (by kernel_rfl) (by simp) ?_
            refine AllReadyH.cons rfl (fun K hK => ?_) ?_
            · go_simp
              refine hK.out _ _ ?_ (fun hNew => ?_)
              · (try dsimp only); exact ⟨hcA _, hsA _, hxA _⟩
              clear hK K hHeld
              have hHeld := hNew
              clear hNew
              refine wpAnyH_ready (rs := [19]) (by kernel_rfl) (by simp) ?_
              refine AllReadyH.cons rfl (fun K hK => ?_) ?_
              · refine step_int_at (by rfl) _ _ (by rfl) w1.heap.size _ m (intV l) (by rfl) (HU5.out _) _ _ _ (by rfl) (cell_val_new _ _ _) (by simp [Value.oneCell']) (by omega) (HZA.out _) ?_
                intro v5 w5 ho5 hg5 hat5
                have HP5 := Lib.hid (HP.out w5 v5 _ ho5 hg5 hat5)
                obtain ⟨y5, p2⟩ := HP5.out.2.1
                have p3 := HP5.out.2.2.1
                have q1 := HP5.out.2.2.2
                have q2 := HQ5.out w5 _ hg5
                have q3 := HQ6.out w5 _ hg5
                obtain ⟨a6, c6, rfl⟩ := own_form ho5
                clear ho5 hg5 hat5
                refine hK.out _ _ ?_ (fun hNew => ?_)
                · (try dsimp only); exact ⟨q1, q2, q3⟩
                clear hK K hHeld
                have hHeld := hNew
                clear hNew
                refine (wpAnyH_take (i := 20) (v := ?_) rfl (by kernel_rfl) (by kernel_rfl) (by kernel_rfl) (fun _ _ _ h => h) (Or.inl ⟨by rfl, ?_⟩) (by assumption) ?_)
                rotate_left 1
                · (intro w hSw; (try dsimp only at hSw); (obtain ⟨hS1, hS2, hS3⟩ := hSw); (go_simp) <;> with_reducible rfl)
                try simp only [Act.put, List.setIfInBounds_toArray]
                refine wpAnyH_ready (rs := [21]) (by kernel_rfl) (by simp) ?_
                refine AllReadyH.cons rfl (fun K hK => ?_) ?_
                · go_simp
                  refine hK.out _ _ ?_ (fun hNew => ?_)
                  · (try dsimp only); exact ⟨(set_cell_ne _ _ _ _ _ _ hOg).trans q1, (set_cell_ne _ _ _ _ _ _ hqg).trans q2, (set_cell_ne _ _ _ _ _ _ hlg).trans q3⟩
                  clear hK K hHeld
                  have hHeld := hNew
                  clear hNew
                  refine wpAnyH_done (by kernel_rfl) ?_ _
                  have HPx := Lib.hid HP5.out.1
                  clear HP5 p2 p3 q1 q2 q3 y5
                  go_wp2_with fail
                  exact ⟨⟨k + 1, _, by omega, by go_num, HPx, HGn⟩, by simp [intOf]; omega⟩
                exact AllReadyH.nil
              exact AllReadyH.nil
            exact AllReadyH.nil
          refine AllReadyH.cons rfl (fun K hK => ?_) ?_
          · go_simp
            refine hK.out _ _ ?_ (fun hNew => ?_)
            · (try dsimp only); exact ⟨hcA _, hsA _, hxA _⟩
            clear hK K hHeld
            have hHeld := hNew
            clear hNew
            refine wpAnyH_ready (rs := [13]) (by kernel_rfl) (by simp) ?_
            refine AllReadyH.cons rfl (fun K hK => ?_) ?_
            · go_simp
              refine hK.out _ _ ?_ (fun hNew => ?_)
              · (try dsimp only); exact hHeld
              clear hK K hHeld
              have hHeld := hNew
              clear hNew
              refine wpAnyH_ready (rs := [19]) (by kernel_rfl) (by simp) ?_
              refine AllReadyH.cons rfl (fun K hK => ?_) ?_
              · refine step_int_at (by rfl) _ _ (by rfl) w1.heap.size _ m (intV l) (by rfl) (HU5.out _) _ _ _ (by rfl) (cell_val_new _ _ _) (by simp [Value.oneCell']) (by omega) (HZA.out _) ?_
                intro v5 w5 ho5 hg5 hat5
                have HP5 := Lib.hid (HP.out w5 v5 _ ho5 hg5 hat5)
                obtain ⟨y5, p2⟩ := HP5.out.2.1
                have p3 := HP5.out.2.2.1
                have q1 := HP5.out.2.2.2
                have q2 := HQ5.out w5 _ hg5
                have q3 := HQ6.out w5 _ hg5
                obtain ⟨a6, c6, rfl⟩ := own_form ho5
                clear ho5 hg5 hat5
                refine hK.out _ _ ?_ (fun hNew => ?_)
                · (try dsimp only); exact ⟨q1, q2, q3⟩
                clear hK K hHeld
                have hHeld := hNew
                clear hNew
                refine (wpAnyH_take (i := 20) (v := ?_) rfl (by kernel_rfl) (by kernel_rfl) (by kernel_rfl) (fun _ _ _ h => h) (Or.inl ⟨by rfl, ?_⟩) (by assumption) ?_)
                rotate_left 1
                · (intro w hSw; (try dsimp only at hSw); (obtain ⟨hS1, hS2, hS3⟩ := hSw); (go_simp) <;> with_reducible rfl)
                try simp only [Act.put, List.setIfInBounds_toArray]
                refine wpAnyH_ready (rs := [21]) (by kernel_rfl) (by simp) ?_
                refine AllReadyH.cons rfl (fun K hK => ?_) ?_
                · go_simp
                  refine hK.out _ _ ?_ (fun hNew => ?_)
                  · (try dsimp only); exact ⟨(set_cell_ne _ _ _ _ _ _ hOg).trans q1, (set_cell_ne _ _ _ _ _ _ hqg).trans q2, (set_cell_ne _ _ _ _ _ _ hlg).trans q3⟩
                  clear hK K hHeld
                  have hHeld := hNew
                  clear hNew
                  refine wpAnyH_done (by kernel_rfl) ?_ _
                  have HPx := Lib.hid HP5.out.1
                  clear HP5 p2 p3 q1 q2 q3 y5
                  go_wp2_with fail
                  exact ⟨⟨k + 1, _, by omega, by go_num, HPx, HGn⟩, by simp [intOf]; omega⟩
                exact AllReadyH.nil
              exact AllReadyH.nil
            exact AllReadyH.nil
          exact AllReadyH.nil
        · have HR := Lib.hid (fun W => l1In_no s 0 ((q : Int) - 1) W (by omega))
          have HQ := Lib.hid (appP_no (P := Q) (app_stop HGk.out (by rw [HN.out]; exact hlt) HSx.out (by rw [HQN.out]; exact hr)))
          clear hr
          go_wp2_with fail
          go_quiet ((go_at_call 66; exact Calls.quiet_of_same (flip8 (HR.out _))))
          rename Nat => mq
          have HS2 := Lib.hid (HSd.out mq)
          clear cA cY o1 s1
          generalize wr.drewN mq = w3 at *
          obtain ⟨z0, f0⟩ := HS2.out.fr.z
          have e7 := World.cell?_setCell_same _ _ (.slice none 0 0) z0
          go_wp2_with fail
          refine bodyPost_ret (v := .tuple #[.agg #[.slice none 0 0], .bool false]) (by simp [results, Try.results37, go_sem, e7]) rfl ?_
          rw [HQ.out.1, HQ.out.2]
          exact retY_zero HS2.out.fr
      · obtain rfl : k = nq := by omega
        have hZl := appG_len _ _ HGk.out
        have hZt := appG_tot _ _ HGk.out
        have HGd := Lib.hid (good_spec (.agg #[.slice (some ⟨g, 0, none⟩) q c2]) Z (by rw [hZl, HQN.out]; omega) (by omega) wr ⟨_, rfl, HS.out.own.1.yl⟩)
        cases hgz : goodY Z with
        | false =>
          have HQ := Lib.hid (appP_no (P := Q) (app_bad HGk.out (by rw [HN.out]; exact Nat.le_refl _) hgz))
          rw [hgz] at HGd
          clear hgz hZl hZt
          go_wp2_with fail
          refine HGd.out.mono ?_
          rintro e w9 ⟨rfl, hb⟩
          have HS2 := Lib.hid (HS.out.below hb)
          obtain ⟨z0, f0⟩ := HS2.out.fr.z
          have e7 := World.cell?_setCell_same _ _ (.slice none 0 0) z0
          clear hb cA cY
          go_wp2_with fail
          refine bodyPost_ret (v := .tuple #[.agg #[.slice none 0 0], .bool false]) (by simp [results, Try.results37, go_sem, e7]) rfl ?_
          rw [HQ.out.1, HQ.out.2]
          exact retY_zero HS2.out.fr
        | true =>
          have HQ := Lib.hid (appP_yes (P := Q) (app_done HA.out (show Q.length = O.length by rw [HN.out, HNQ.out]) (by rw [HN.out]; exact HGk.out) hgz))
          rw [hgz] at HGd
          clear hgz hZl hZt
          go_wp2_with fail
          refine HGd.out.mono ?_
          rintro e w9 ⟨rfl, hb⟩
          have HS2 := Lib.hid (HS.out.below hb)
          have cA9 := HS2.out.cA.2.1
          obtain ⟨z0, f0⟩ := HS2.out.fr.z
          have e7 := World.cell?_setCell_same _ _ (.slice (some ⟨g, 0, none⟩) q c2) z0
          clear hb cA cY
          go_wp2_with fail
          refine bodyPost_ret (v := .tuple #[.agg #[.slice (some ⟨g, 0, none⟩) q c2], .bool true]) (by simp [results, Try.results37, go_sem, e7]) rfl ?_
          rw [HQ.out.1, HQ.out.2]
          exact HS2.out.retY
end Go.Proofs.Ythokmklnldoinaa
