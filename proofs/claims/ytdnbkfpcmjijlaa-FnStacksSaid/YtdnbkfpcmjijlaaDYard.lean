/-
  What l1Cur.yard draws: an own yard, small. No statement of the seat by itself.
-/
import Derived.Test.YtdnbkfpcmjijlaaDYardM
namespace Go.Proofs.Ytdnbkfpcmjijlaa.D
open Go.RowKit

/-- A yard in its box, at most four stacks. -/
def YB (w : World) (b : Nat) (v : Value) (N n : Nat) (W : World) : Prop := ∃ sa cs Y, YS w b v N (.slice sa n cs) Y W ∧ Y.length = n ∧ rowsOk Y
theorem YB.more {w W : World} {b N M n : Nat} {v : Value} (h : YB w b v N n W) (hm : N ≤ M) : YB w b v M n W := by
  obtain ⟨sa, cs, Y, h1, h2⟩ := h
  exact ⟨sa, cs, Y, h1.more hm, h2⟩

set_option maxRecDepth 100000 in
set_option maxHeartbeats 8000000 in
theorem yard_any (b N : Nat) (v : Value) (hN : N ≤ 700000) (w : World) (h : Cur w b v N) : Calls Try.prog 68 #[.pointer (some ⟨b, 0, none⟩)] w (YardP w b v (N + 80)) := by
  have HY0 := Lib.hid (YS.start h)
  obtain ⟨f38, hi38, hz0, hz1, hz2⟩ := info_is info38
  clear h
  go_enter Try.func68, Try.ntmps68
  go_wp2_with fail
  generalize (w.alloc (.cells #[.slice none 0 0] 26)).alloc (.cells #[.slice none 0 0] 26) = w0 at *
  refine (pick_any b N 4 v (by omega) (by decide) (by decide) _ HY0.out.1).mono ?_
  rintro e w1 ⟨x, rfl, hx, hc, hg⟩
  have HY1 := Lib.hid (HY0.out.pick hc hg)
  clear hc hg
  go_wp2_with fail
  go_loopw [4] (fun i wr => ∃ n k : Nat, n ≤ 4 ∧ k + n ≤ 4 ∧ 1 ≤ k + n ∧ i = .int .i64 (n : Int) ∧ Hid (YB w b v (N + 4) k wr)) (fun i _ => (intOf i).toNat)
  case atStart => exact ⟨1 + x, 0, by omega, by omega, by omega, by first | go_num | exact val_i (by omega), Lib.hid ⟨none, 0, [], HY1.out, rfl, fun r hr => by simp at hr⟩⟩
  case round =>
    obtain ⟨n, k, hn, hk, hk1, rfl, HR⟩ := hrel
    obtain ⟨sa, cs, Y, hY, hYk, hYr⟩ := HR.out
    have HY := Lib.hid hY
    have HYK := Lib.hid hYk
    have HYR := Lib.hid hYr
    have c0 := hY.cell
    clear HR hYr
    by_cases h0 : 0 < n
    · obtain ⟨n', rfl⟩ : ∃ n', n = n' + 1 := ⟨n - 1, by omega⟩
      obtain ⟨us, hus, hr2⟩ := hY.2.2.2.1.2.2
      have hE := own_empty wr (.cells #[] 3 (0, 0)) 3 rfl
      have HST := Lib.hid (fun v' w4 hg ho' => hY.push (w1 := wr.alloc (.cells #[] 3)) (w4 := w4) (v' := v') (u := .slice (some ⟨wr.heap.size, 0, none⟩) 0 0) (l := []) hus hr2 (below_one wr _) (by simpa [intV] using hE) hg ho')
      rw [hYk] at hus HST
      have HUS := Lib.hid ((hus.alloc (.cells #[] 3)).alloc (.cells #[.slice (some ⟨wr.heap.size, 0, none⟩) 0 0] 38))
      have hz6 := hY.2.2.2.2.2.1
      have hNW := cell_val_new (wr.alloc (.cells #[] 3)) (.slice (some ⟨wr.heap.size, 0, none⟩) 0 0) 38
      rw [show (wr.alloc (.cells #[] 3)).heap.size = wr.heap.size + 1 by simp] at hNW
      have HNW := Lib.hid hNW
      have hnI : (0 : Int) < (n' : Int) + 1 := by omega
      clear hY hus hr2 hYk hE hNW
      go_wp2_with (at_builtin; refine wpList_append_own _ rfl _ _ 24 rfl (w.heap.size + 2) 38 f38 (.slice none 0 0) 1 24 Try.underlying24 hi38 hz0 hz1 hz2 rfl (by decide) _ k us rfl HUS.out _ 1 1 [.slice (some ⟨wr.heap.size, 0, none⟩) 0 0] rfl rfl HNW.out (by simp [Value.oneCell']) (by unfold maxLen; omega) (by omega) (by simp; omega) ?_; intro v' w4 hown' hgrow hnil; obtain ⟨hG4, c4, f4⟩ := HST.out v' w4 hgrow hown'; obtain ⟨a5, c5, rfl⟩ := own_form hown'; have HG4 := Lib.hid hG4; clear hG4 hown' hgrow hnil)
      exact ⟨⟨n', k + 1, by omega, by omega, by omega, by first | go_num | exact val_i (by omega), Lib.hid ⟨_, _, _, HG4.out, by rw [List.length_append, HYK.out]; rfl, rows_push HYR.out [] (by decide)⟩⟩, by simp [intOf]⟩
    · obtain rfl : n = 0 := by omega
      have hkp : 0 < k := by omega
      have HB := Lib.hid (show YB w b v (N + 4) k wr from ⟨sa, cs, Y, HY.out, HYK.out, HYR.out⟩)
      have HC1 := Lib.hid HY.out.1
      clear HY HYK HYR hYk c0 hY
      go_wp2_with fail
      refine (pick_any b (N + 4) 8 v (by omega) (by decide) (by decide) _ HC1.out).mono ?_
      rintro e w2 ⟨x2, rfl, hx2, hc, hg⟩
      have HB2 : Hid (YB w b v (N + 8) k w2) := Lib.hid (by
        obtain ⟨sa, cs, Y, h1, h2⟩ := HB.out
        exact ⟨sa, cs, Y, h1.pick hc hg, h2⟩)
      clear hc hg
      go_wp2_with fail
      go_loopw [5, 6] (fun i _ wr => ∃ n : Nat, n ≤ 8 ∧ i = .int .i64 (n : Int) ∧ Hid (YB w b v (N + 50 - 4 * n) k wr)) (fun i _ _ => (intOf i).toNat)
      case atStart => exact ⟨1 + x2, by omega, by first | go_num | exact val_i (by omega), Lib.hid (HB2.out.more (by omega))⟩
      case round =>
        obtain ⟨n, hn, rfl, HR⟩ := hrel
        obtain ⟨sa, cs, Y, hY, hYk, hYr⟩ := HR.out
        have HY := Lib.hid hY
        have HYK := Lib.hid hYk
        have HYR := Lib.hid hYr
        have c0 := hY.cell
        by_cases h0 : 0 < n
        · obtain ⟨n', rfl⟩ : ∃ n', n = n' + 1 := ⟨n - 1, by omega⟩
          have hnI : (0 : Int) < (n' : Int) + 1 := by omega
          clear HR hYr hYk hY
          go_wp2_with fail
          refine (pick_any b (N + 50 - 4 * (n' + 1)) k v (by omega) hkp (by omega) _ HY.out.1).mono ?_
          rintro e w3 ⟨i, rfl, hi, hc, hg⟩
          have HY3 : Hid (YS w b v (N + 50 - 4 * n') (.slice sa k cs) Y w3) := Lib.hid ((HY.out.pick hc hg).more (by omega))
          clear hc hg c0
          obtain ⟨g, cap, e⟩ := HY3.out.2.2.2.1.rows (by have := HYK.out; omega)
          injection e with e1 e2 e3
          subst e1 e3
          clear e2
          obtain ⟨l, hl⟩ := get_at HYK.out hi
          obtain ⟨u, hu, -, hou, hub⟩ := HY3.out.2.2.2.1.cell hl
          obtain ⟨m, hm⟩ : ∃ m, l.length = m := ⟨_, rfl⟩
          have HM := Lib.hid hm
          have HL := Lib.hid hl
          rw [hm] at hou
          obtain ⟨a4, c4, rfl⟩ := own_form hou
          have hm4 : m ≤ 4 := by have := HYR.out l (List.mem_of_getElem? hl); omega
          have hik : (i : Int) < (k : Int) := by omega
          have hii : (0 : Int) ≤ (i : Int) := by omega
          have c3 := HY3.out.cell
          have HU := Lib.hid hu
          clear hl hm
          by_cases hm5 : m < 4
          · have hmI : (m : Int) < 4 := by omega
            have hgB : w.heap.size + 2 ≤ g ∧ g < w3.heap.size := by
              obtain ⟨_, hlt, us, h3, _⟩ := HY3.out.2.2.2.1
              exact ⟨row_base h3 g rfl, hlt g rfl⟩
            have hOg : ¬ w.heap.size + 1 = g := by omega
            have hgO : ¬ g = w.heap.size + 1 := by omega
            have hg3 : ¬ g = w3.heap.size := by omega
            have hg4 : ¬ w3.heap.size = g := by omega
            have hA3 : w.heap.size + 1 < w3.heap.size := by have := HY3.out.2.2.2.2.2.1; omega
            have HP := Lib.hid (fun (x : Int) (w5 : World) (v' : Value) (o : Obj) (ho : w5.ownsRow (w.heap.size + 2) 3 1 v' (m + 1) (intV l ++ [.int .i64 x])) (hg : (w3.drew.alloc o).grownBy w5 (Value.slice a4 m c4).ownBlock) (hat : v'.ownBlock = (Value.slice a4 m c4).ownBlock ∨ v'.ownBlock = some (w3.drew.alloc o).heap.size) =>
              And.intro (HY3.out.drew.put HL.out HM.out HU.out ho hg hat) (show w5.cell? ⟨w.heap.size + 1, 0, none⟩ = w3.cell? ⟨w.heap.size + 1, 0, none⟩ from by
                rw [World.cell?_of_block (w := w3.drew.alloc o) (a := ⟨w.heap.size + 1, 0, none⟩) (hg.block _ (by have := (below_one w3.drew o).size; show w.heap.size + 1 < _; have h9 : w.heap.size + 1 < w3.drew.heap.size := hA3; omega) (fun e => by have := row_base hou (w.heap.size + 1) e.symm; omega))]
                exact World.cell?_alloc_lt w3.drew o ⟨w.heap.size + 1, 0, none⟩ hA3))
            have HU5 := Lib.hid (fun o => row_below hou (((Below.refl _ w3).drew).alloc (Nat.le_refl _) o))
            have hcB := fun o => (World.cell?_alloc_lt w3 o ⟨w.heap.size + 1, 0, none⟩ hA3).trans c3
            have huB := fun o => (World.cell?_alloc_lt w3 o ⟨g, i, none⟩ (by show g < w3.heap.size; omega)).trans hu
            have hcA := fun o => (World.cell?_alloc_lt w3.drew o ⟨w.heap.size + 1, 0, none⟩ hA3).trans c3
            have hu9 : w3.drew.cell? ⟨g, i, none⟩ = some (.slice a4 m c4) := hu
            have hzz : w.heap.size + 2 ≤ w3.heap.size := HY3.out.2.2.2.2.2.1
            have HZA := Lib.hid (fun o => Nat.le_trans hzz (below_one w3.drew o).size)
            have HC3 := Lib.hid c3
            have HRP := Lib.hid (rows_put (x := ((n' : Int) + 1)) HYR.out HL.out (by rw [HM.out]; exact hm5))
            clear hou hub
            go_wp2_with fail
            go_region_law (first | (refine step_int_at (by rfl) _ _ (by rfl) (w.heap.size + 2) _ m (intV l) (by rfl) (HU5.out _) _ _ _ (by rfl) (cell_val_new _ _ _) (by simp [Value.oneCell']) (by omega) (HZA.out _) ?_; intro v5 w5 ho5 hg5 hat5; have HP5 := Lib.hid (HP.out _ w5 v5 _ ho5 hg5 hat5); obtain ⟨y5, p2⟩ := HP5.out.1.2.1; have p3 := HP5.out.1.2.2; have q1 : w5.cell? ⟨w.heap.size + 1, 0, none⟩ = some (.slice (some ⟨g, 0, none⟩) k cs) := HP5.out.2.trans HC3.out; obtain ⟨a6, c6, rfl⟩ := own_form ho5; clear ho5 hg5 hat5))
            all_goals
              have HPx := Lib.hid HP5.out.1.1
              clear HP5 p2 p3 q1 y5
              go_wp2_with fail
              exact ⟨⟨n', by omega, by first | go_num | exact val_i (by omega), Lib.hid ⟨_, _, _, HPx.out, by rw [putY_len, HYK.out], HRP.out⟩⟩, by simp [intOf]⟩
          · have hmI : ¬ ((m : Int) < 4) := by omega
            clear hou hub
            go_wp2_with fail
            exact ⟨⟨n', by omega, by first | go_num | exact val_i (by omega), Lib.hid ⟨_, _, _, HY3.out, HYK.out, HYR.out⟩⟩, by simp [intOf]⟩
        · obtain rfl : n = 0 := by omega
          have HB3 : Hid (YB w b v (N + 50) k wr) := Lib.hid HR.out
          have HC3 := Lib.hid HB3.out.choose_spec.choose_spec.choose_spec.1.1
          clear HY HYK HYR hYk c0 hY hYr HR
          go_wp2_with fail
          refine (pick_any b (N + 50) 4 v (by omega) (by decide) (by decide) _ HC3.out).mono ?_
          rintro e w4 ⟨x4, rfl, hx4, hc, hg⟩
          have HB4 : Hid (YB w b v (N + 54) k w4) := Lib.hid (by
            obtain ⟨sa, cs, Y, h1, h2⟩ := HB3.out
            exact ⟨sa, cs, Y, h1.pick hc hg, h2⟩)
          clear hc hg
          go_wp2_with fail
          go_loopw [7, 8, 9] (fun i _ _ wr => ∃ n : Nat, n ≤ 3 ∧ i = .int .i64 (n : Int) ∧ Hid (YB w b v (N + 80 - 8 * n) k wr)) (fun i _ _ _ => (intOf i).toNat)
          case atStart => exact ⟨x4, by omega, rfl, Lib.hid (HB4.out.more (by omega))⟩
          case round =>
            obtain ⟨n, hn, rfl, HR⟩ := hrel
            obtain ⟨sa, cs, Y, hY, hYk, hYr⟩ := HR.out
            have HY := Lib.hid hY
            have HYK := Lib.hid hYk
            have HYR := Lib.hid hYr
            obtain ⟨g, cap, e⟩ := hY.2.2.2.1.rows (by have := HYK.out; omega)
            injection e with e1 e2 e3
            subst e1 e3
            clear e2
            have c0 := HY.out.cell
            by_cases h0 : 0 < n
            · obtain ⟨n', rfl⟩ : ∃ n', n = n' + 1 := ⟨n - 1, by omega⟩
              have hnI : (0 : Int) < (n' : Int) + 1 := by omega
              have HYd := Lib.hid HY.out.drew
              clear HR hYr hYk hY
              go_wp2_with fail
              go_region_held3 (fun W => W.cell? ⟨w.heap.size + 1, 0, none⟩ = some (.slice (some ⟨g, 0, none⟩) k cs)) (go_keep) (first | (go_at_call 46; refine (pick_any b (N + 80 - 8 * (n' + 1)) k v (by omega) hkp (by omega) _ HYd.out.1).mono ?_; rintro e w5 ⟨i, rfl, hi, hc, hg⟩; have HY5 := Lib.hid (HYd.out.pick hc hg); have x0 := HY5.out.cell; clear hc hg) | (go_at_call 46; refine (pick_any b (N + 80 - 8 * (n' + 1) + 4) k v (by omega) hkp (by omega) _ HY5.out.1).mono ?_; rintro e w6 ⟨j, rfl, hj, hc, hg⟩; have HY6 := Lib.hid (HY5.out.pick hc hg); have x0 := HY6.out.cell; clear hc hg))
              clear x0 c0
              have HY7 := Lib.hid (HY6.out.more (show N + 80 - 8 * (n' + 1) + 4 + 4 ≤ N + 80 - 8 * n' by omega))
              rename World => w7
              have cO := HY7.out.cell
              have hii : (0 : Int) ≤ (i : Int) := by omega
              have hik : (i : Int) < (k : Int) := by omega
              have hji : (0 : Int) ≤ (j : Int) := by omega
              have hjk : (j : Int) < (k : Int) := by omega
              by_cases hij : i = j
              · have heb : ((i : Int) != (j : Int)) = false := by simp [hij]
                clear hij
                go_wp2_with fail
                exact ⟨⟨n', by omega, by first | go_num | exact val_i (by omega), Lib.hid ⟨_, _, _, HY7.out, HYK.out, HYR.out⟩⟩, by simp [intOf]⟩
              · have heb : ((i : Int) != (j : Int)) = true := by simp; omega
                obtain ⟨l, hl⟩ := get_at HYK.out hi
                obtain ⟨lt, hlt⟩ := get_at HYK.out hj
                obtain ⟨u, hu, -, hou, -⟩ := HY7.out.2.2.2.1.cell hl
                obtain ⟨ut, hut, -, hout, -⟩ := HY7.out.2.2.2.1.cell hlt
                obtain ⟨m, hm⟩ : ∃ m, l.length = m := ⟨_, rfl⟩
                obtain ⟨p, hp⟩ : ∃ p, lt.length = p := ⟨_, rfl⟩
                have hm4 : m ≤ 4 := by have := HYR.out l (List.mem_of_getElem? hl); omega
                have hp4 : p ≤ 4 := by have := HYR.out lt (List.mem_of_getElem? hlt); omega
                rw [hm] at hou
                rw [hp] at hout
                obtain ⟨a4, c4, rfl⟩ := own_form hou
                obtain ⟨a5, c5, rfl⟩ := own_form hout
                have HM := Lib.hid hm
                have HP := Lib.hid hp
                have HL := Lib.hid hl
                have HLT := Lib.hid hlt
                have HIJ := Lib.hid hij
                clear hou hout hm hp hl hlt hij
                by_cases hm0 : 0 < m
                · have hmI : (0 : Int) < (m : Int) := by omega
                  by_cases hp0 : p < 4
                  · have hpI : (p : Int) < 4 := by omega
                    obtain ⟨m', hm'⟩ : ∃ m', m = m' + 1 := ⟨m - 1, by omega⟩
                    obtain ⟨x, hx⟩ := get_at (Y := l) (k := m') HM.out (by omega)
                    have hk4 : k ≤ 4 := by omega
                    have HMv := Lib.hid (l5Move_any (.agg #[.slice (some ⟨g, 0, none⟩) k cs]) Y i j m' p l lt x (by have := HYK.out; omega) (by have := tot_rows HYR.out (by have := HYK.out; omega); omega) (by have := HYK.out; omega) HL.out (by rw [HM.out]; exact hm') (by omega) hx HIJ.out HLT.out HP.out (by omega) w7 ⟨_, rfl, HY7.out.2.2.2.1.yl⟩)
                    have HRN : Hid ((putY (Y.set i (l.take m')) j x).length = k ∧ rowsOk (putY (Y.set i (l.take m')) j x)) := Lib.hid ⟨by rw [putY_len, List.length_set, HYK.out], rows_put (rows_take HYR.out HL.out) (l := lt) (by rw [List.getElem?_set_ne HIJ.out]; exact HLT.out) (by rw [HP.out]; exact hp0)⟩
                    clear hx hm'
                    go_wp2_with fail
                    refine HMv.out.mono ?_
                    rintro e w8 ⟨a9, c9, rfl, ho, hb⟩
                    obtain ⟨hS, c8, f8⟩ := HY7.out.store hb ho
                    have HS := Lib.hid hS
                    have e8 := World.cell?_setCell_same _ _ (.slice a9 (putY (Y.set i (l.take m')) j x).length c9) c8
                    rw [HRN.out.1] at HS e8 ⊢
                    clear ho hb hS
                    go_wp2_with fail
                    exact ⟨⟨n', by omega, by first | go_num | exact val_i (by omega), Lib.hid ⟨_, _, _, HS.out, HRN.out⟩⟩, by simp [intOf]⟩
                  · have hpI : ¬ ((p : Int) < 4) := by omega
                    go_wp2_with fail
                    exact ⟨⟨n', by omega, by first | go_num | exact val_i (by omega), Lib.hid ⟨_, _, _, HY7.out, HYK.out, HYR.out⟩⟩, by simp [intOf]⟩
                · have hmI : ¬ ((0 : Int) < (m : Int)) := by omega
                  go_wp2_with fail
                  exact ⟨⟨n', by omega, by first | go_num | exact val_i (by omega), Lib.hid ⟨_, _, _, HY7.out, HYK.out, HYR.out⟩⟩, by simp [intOf]⟩
            · obtain rfl : n = 0 := by omega
              have HOw := Lib.hid (l5Own_any (.agg #[.slice (some ⟨g, 0, none⟩) k cs]) Y (by have := HYK.out; omega) (by have := tot_rows HYR.out (by have := HYK.out; omega); omega) wr ⟨_, rfl, HY.out.2.2.2.1.yl⟩)
              clear HR hYr hYk hY
              go_wp2_with fail
              refine HOw.out.mono ?_
              rintro e w8 ⟨a9, c9, rfl, ho, hb⟩
              obtain ⟨hS, c8, f8⟩ := HY.out.finish hb ho
              have HS := Lib.hid hS
              have e8 := World.cell?_setCell_same _ _ (.slice a9 Y.length c9) c8
              clear ho hb hS c0
              go_wp2_with fail
              refine bodyPost_ret (v := .agg #[.slice a9 Y.length c9]) (by simp [results, Try.results68, go_sem, e8]) rfl ?_
              exact ⟨a9, c9, Y, rfl, by have := HYK.out; omega, by have := HYK.out; omega, HYR.out, HS.out⟩
end Go.Proofs.Ytdnbkfpcmjijlaa.D
