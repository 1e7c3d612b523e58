/-
  What impl.PortCounts returns. No statement of the seat by itself.
-/
import Derived.Test.YtpmaaflpknjbmaaCKeysP
namespace Go.Proofs.Ytpmaaflpknjbmaa.C
open Go.RowKit Go.Maps

theorem zero3 (w : World) : (zeroValue 3).run Try.prog w = .ok (.int .i64 0) w := by kernel_rfl
section
variable {w : World} {ops : Array Oper} {rest : List Oper} {o : Oper} {a : Act} {Q : Exit → Act → World → Prop}
theorem wpList_lookN (hg : o.guard = none) (m x : Operand) (hop : o.op = Op.lookup 52 m x false) (b n : Nat) (D : DataW Unit)
    (hm : a.eval m = .map (some b)) (hown : w.ownsMap Try.prog 3 (plainElem Try.prog 3) b n D) (p : Int) (hx : a.eval x = .int .i64 p) (hw : (Lit.int .i64 p).wf = true) (c : Int)
    (hc : D.atKey (.int .i64 p) (.lit (.int .i64 0)) = .lit (.int .i64 c))
    (hK : wpList Try.prog ops Q rest (a.put o.dst (.int .i64 c)) w) : wpList Try.prog ops Q (o :: rest) a w :=
  wpList_lookup_own_int w hg m x 52 hop 3 3 .i64 keyI Try.underlying52 Try.underlying3 (zero3 w) b n D hm hown (.int .i64 p) (.int .i64 p) hx (keyOf_int_mk Try.underlying3 hw) (fun c' hat _ => by
    rw [hc] at hat
    injection hat with h1
    injection h1 with _ h2
    rw [← h2]
    exact hK)
theorem wpList_putN (hg : o.guard = none) (m x v : Operand) (hop : o.op = Op.mapUpdate 52 m x v) (b n : Nat) (D : DataW Unit)
    (hm : a.eval m = .map (some b)) (hown : w.ownsMap Try.prog 3 (plainElem Try.prog 3) b n D) (hn : n < maxLen) (p : Int) (c : Int) (hx : a.eval x = .int .i64 p) (hw : (Lit.int .i64 p).wf = true) (hv : a.eval v = .int .i64 c) (hwc : (Lit.int .i64 c).wf = true)
    (hK : ∀ w', w'.ownsMap Try.prog 3 (plainElem Try.prog 3) b (n + 1) (D.put (.int .i64 p) (.lit (.int .i64 c))) → w.grownBy w' (some b) → wpList Try.prog ops Q rest (a.put o.dst undef) w') : wpList Try.prog ops Q (o :: rest) a w :=
  wpList_mapUpdate_own w hg m x v 52 hop 3 3 keyI Try.underlying52 (plainElem Try.prog 3) b n D hm hown hn (.int .i64 p) (.int .i64 c) (.int .i64 p) hx hv (keyOf_int_mk Try.underlying3 hw) (.lit (.int .i64 c)) [] (plainElem_int Try.underlying3 hwc) hK
end
theorem PAcc.kept {w wr W : World} {o : Value} {l : List (Int × Int)} {b : Nat} (h : PAcc w wr o l) (hg : wr.grownBy W (some b)) (hb : w.heap.size ≤ b) (hne : ∀ j, o.ownBlock = some j → j ≠ b) : PAcc w W o l := by
  refine ⟨h.1.kept hg ?_, h.2.grown hg h.2.size (fun j e => by cases e; exact hb)⟩
  cases hv : o.ownBlock with
  | none => exact .inl rfl
  | some j => exact .inr fun e => hne j hv (by injection e)

set_option maxRecDepth 100000 in
set_option maxHeartbeats 1000000 in
theorem implPort_no (g n c : Nat) (f : Nat → Cont) (hn : n ≤ 1048576) (hid : ∀ j, j < n → (f j).id.size ≤ 1048576) (hnc : n ≤ c) (w : World) (h : CAt w g 0 n f) (hL : listB n f = false) :
    Calls Try.prog 10 #[.slice (some ⟨g, 0, none⟩) n c] w (OneP w [] false) := by
  have A0 := pacc_empty w
  have K := Lib.hid (implList_any g n c f hn hid hnc _ (h.below A0.2))
  rw [hL] at K
  have R0 := Lib.hid A0
  clear h hid hL A0 hnc
  go_enter Try.func10, Try.ntmps10
  go_wp2_with fail
  refine K.out.mono ?_
  rintro e w1 ⟨rfl, hb1⟩
  have R1 := Lib.hid (R0.out.below hb1)
  clear hb1
  go_wp2_with fail
  go_ret2
  exact ⟨_, rfl, R1.out⟩

/-- While the pairs are put together: the keys' row and the map stay, and the pairs lie in neither. -/
def KeepP (wr : World) (gv b m : Nat) (D : DataW Unit) (ps : List Int) (o : Value) : Prop := (∀ j (hj : j < ps.length), wr.cell? ⟨gv, j, none⟩ = some (.int .i64 ps[j])) ∧ wr.ownsMap Try.prog 3 (plainElem Try.prog 3) b m D ∧ (∀ j, o.ownBlock = some j → j ≠ gv ∧ j ≠ b) ∧ gv < wr.heap.size
theorem KeepP.step {wr W1 W3 : World} {gv b m : Nat} {D : DataW Unit} {ps : List Int} {o o' : Value} (h : KeepP wr gv b m D ps o) (hb : Below wr.heap.size wr W1) (hg : W1.grownBy W3 o.ownBlock) (hat : o'.ownBlock = o.ownBlock ∨ o'.ownBlock = some W1.heap.size) : KeepP W3 gv b m D ps o' := by
  obtain ⟨h1, h2, h3, h4⟩ := h
  have hlt := h2.lt
  have hs := hb.size
  have ng : some gv ≠ o.ownBlock := fun e => (h3 gv e.symm).1 rfl
  have nb : some b ≠ o.ownBlock := fun e => (h3 b e.symm).2 rfl
  refine ⟨fun j hj => ?_, (h2.kept (grown_of_below hb none) (by simp)).kept hg nb, fun j hj => ?_, by have := hg.size; omega⟩
  · have e1 : W3.cell? ⟨gv, j, none⟩ = W1.cell? ⟨gv, j, none⟩ := World.cell?_of_block (a := ⟨gv, j, none⟩) (hg.block gv (by omega) ng)
    rw [e1]
    exact (hb.cell (p := ⟨gv, j, none⟩) h4).trans (h1 j hj)
  · rcases hat with e | e
    · exact h3 j (e ▸ hj)
    · rw [e] at hj
      injection hj with hj
      omega

set_option maxRecDepth 100000 in
set_option maxHeartbeats 4000000 in
theorem implPort_yes (g n c : Nat) (f : Nat → Cont) (hn : n ≤ 1048576) (hid : ∀ j, j < n → (f j).id.size ≤ 1048576) (hnc : n ≤ c) (w : World) (h : CAt w g 0 n f) (hL : listB n f = true) :
    Calls Try.prog 10 #[.slice (some ⟨g, 0, none⟩) n c] w (OneP w (pcL f n 9) true) := by
  obtain ⟨i0, hi, hz0, hz1, hz2⟩ := info_parts info53
  have A0 := pacc_empty w
  have K := Lib.hid (implList_any g n c f hn hid hnc _ (h.below A0.2))
  have h12 := ((listB_iff n f).1 hL).1
  have HG : Hid (∀ j, j < n → 1 ≤ (f j).port ∧ (f j).port ≤ 9) := Lib.hid fun j hj => ((goodB_iff _).1 (listB_good hL j hj)).2.2.2.2
  rw [hL] at K
  have R0 := Lib.hid A0
  have H := Lib.hid h
  have hmm := @run_makeMap Try.prog
  clear h hid hL A0 hnc
  go_enter Try.func10, Try.ntmps10
  go_wp2_with fail
  refine K.out.mono ?_
  rintro e w1 ⟨rfl, hb1⟩
  have R1 := Lib.hid (R0.out.below hb1)
  have hz : w.heap.size < w1.heap.size := by have := hb1.size; simp at this; omega
  clear hb1
  have M0 := Lib.hid (World.ownsMap_made w1 Try.prog 3 (plainElem (H := Unit) Try.prog 3))
  have P0 := Lib.hid (R1.out.below ((Below.refl _ w1).alloc (Nat.le_refl _) (.map #[] 0)))
  go_wp2_with fail
  clear hmm
  go_loopw [7, 18] (fun _ i wr => ∃ k : Nat, k ≤ n ∧ i = .int .i64 k ∧ Hid (PAcc w wr (.slice (some ⟨w.heap.size, 0, none⟩) 0 0) []) ∧ Hid (wr.ownsMap Try.prog 3 (plainElem Try.prog 3) w1.heap.size k (mapP f k))) (fun _ i _ => n - (RowKit.intOf i).toNat)
  case atStart => exact ⟨0, Nat.zero_le _, rfl, P0, M0⟩
  case round =>
    obtain ⟨k, hk, rfl, HP, HM⟩ := hrel
    by_cases hlt : k < n
    · obtain ⟨a0, a1, a2, a3, a4⟩ := (H.out.below HP.out.2).2 k hlt
      rw [Nat.zero_add] at *
      have hgp := HG.out k hlt
      have HWF : Hid ((Lit.int .i64 (f k).port).wf = true) := Lib.hid (WalkArith.wf_i64 (by omega))
      have hcq := cntL_le f (f k).port k
      have HWC : Hid ((Lit.int .i64 ((cntL f (f k).port k : Int) + 1)).wf = true) := Lib.hid (WalkArith.wf_i64 (by omega))
      have HAT := Lib.hid (mapP_at f (f k).port k)
      have HD : Hid (mapP f (k + 1) = (mapP f k).put (.int .i64 (f k).port) (.lit (.int .i64 ((cntL f (f k).port k : Int) + 1)))) := Lib.hid rfl
      clear hgp
      generalize mapP f k = D at *
      generalize cntL f (f k).port k = cc at *
      generalize f k = x at *
      obtain ⟨id, sz, wt, cg, pt⟩ := x
      simp only at *
      have hown := HM.out.alloc (.cells #[.string id, .int .i64 sz, .int .i64 wt, .int .i64 cg, .int .i64 pt] 49)
      have P1 := Lib.hid (HP.out.below ((Below.refl _ wr).alloc (Nat.le_refl _) (.cells #[.string id, .int .i64 sz, .int .i64 wt, .int .i64 cg, .int .i64 pt] 49)))
      go_wp2_with (first | (at_lookup; refine wpList_lookN rfl _ _ rfl w1.heap.size k D rfl hown pt rfl HWF.out _ HAT.out ?_) | (at_mapUpdate; refine wpList_putN rfl _ _ _ rfl w1.heap.size k D rfl hown (by unfold maxLen; omega) pt _ rfl HWF.out rfl HWC.out ?_; intro w3 hown1 hgrow1))
      have P3 := Lib.hid (P1.out.kept hgrow1 (by omega) (fun j hj => by simp [Value.ownBlock] at hj; omega))
      refine ⟨⟨k + 1, by omega, by go_num, P3, Lib.hid (by rw [HD.out]; exact hown1)⟩, by simp [RowKit.intOf]; omega⟩
    · obtain rfl : k = n := by omega
      go_wp2_with fail
      refine (keys_call _ _).mono ?_
      rintro e w4 ⟨rfl, rfl⟩
      have HS := Lib.hid (sorted_call w1.heap.size k f k h12 HG.out wr HM.out)
      have HM4 := Lib.hid (HM.out.alloc (.cells #[.map (some w1.heap.size)] 52))
      have HP4 := Lib.hid (HP.out.below ((Below.refl _ wr).alloc (Nat.le_refl _) (.cells #[.map (some w1.heap.size)] 52)))
      have hw4 : w1.heap.size < (wr.alloc (.cells #[.map (some w1.heap.size)] 52)).heap.size := HM4.out.lt
      go_wp2_with fail
      refine HS.out.mono ?_
      rintro e w5 ⟨v, rfl, hrow, hb5⟩
      have HM5 := Lib.hid (HM4.out.kept (grown_of_below hb5 none) (by simp))
      have HP5 := Lib.hid (HP4.out.below hb5)
      have HN : Hid (∀ x, x ∈ portsL f k 9 → 1 ≤ x ∧ x ≤ 9) := Lib.hid fun x hx => by have := (portsL_mem f k x 9).1 hx; omega
      have HMAP : Hid ((portsL f k 9).map (fun x => (x, (cntL f x k : Int))) = pcL f k 9) := Lib.hid (portsL_map f k 9)
      have hpl := portsL_len f k 9
      generalize portsL f k 9 = ps at *
      rcases hrow.2 with ⟨rfl, hl0⟩ | ⟨gv, cap, cur, rfl, hgv, hbv, -⟩
      · have HE : Hid (pcL f k 9 = []) := Lib.hid (by rw [← HMAP.out, List.length_eq_zero_iff.1 hl0]; rfl)
        clear hrow hl0 hb5
        go_wp2_with fail
        go_loop [4, 9, 32] (fun o _ i => o = .slice (some ⟨w.heap.size, 0, none⟩) 0 0 ∧ i = .int .i64 0) (fun _ _ _ => 0)
        case atStart => exact ⟨rfl, rfl⟩
        case round =>
          obtain ⟨rfl, rfl⟩ := hrel
          go_wp2_with fail
          go_ret2
          exact ⟨_, rfl, by rw [HE.out]; exact HP5.out⟩
      · have lv := (Array.getElem?_eq_some_iff.1 hbv).1
        have HK0 : Hid (KeepP w5 gv w1.heap.size k (mapP f k) ps (.slice (some ⟨w.heap.size, 0, none⟩) 0 0)) := Lib.hid ⟨fun j hj => by
          rw [hrow.cellAt j (by omega), List.getElem?_map, List.getElem?_eq_getElem hj]; rfl, HM5.out, fun j hj => by
          simp [Value.ownBlock] at hj
          simp at hgv
          have := HM4.out.lt
          have := hw4
          simp at this
          omega, lv⟩
        clear hrow hbv hb5 hgv
        go_wp2_with fail
        go_loopw [4, 9, 32] (fun o _ i wr => ∃ q : Nat, q ≤ ps.length ∧ i = .int .i64 q ∧ Hid (PAcc w wr o ((ps.take q).map (fun x => (x, (cntL f x k : Int))))) ∧ Hid (KeepP wr gv w1.heap.size k (mapP f k) ps o)) (fun _ _ i _ => ps.length - (RowKit.intOf i).toNat)
        case atStart => exact ⟨0, Nat.zero_le _, rfl, by simpa using HP5, HK0⟩
        case round =>
          obtain ⟨q, hq, rfl, HQ, HB⟩ := hrel
          have hlq : ((ps.take q).map (fun x => (x, (cntL f x k : Int)))).length ≤ 9 := by
            rw [List.length_map, List.length_take]; omega
          by_cases hltq : q < ps.length
          · have d0 := HB.out.1 q hltq
            have hx9 := HN.out ps[q] (List.getElem_mem hltq)
            have HWF : Hid ((Lit.int .i64 ps[q]).wf = true) := Lib.hid (WalkArith.wf_i64 (by omega))
            have HAT := Lib.hid (mapP_at f ps[q] k)
            have HSt : Hid ((ps.take (q + 1)).map (fun x => (x, (cntL f x k : Int))) = (ps.take q).map (fun x => (x, (cntL f x k : Int))) ++ [(ps[q], (cntL f ps[q] k : Int))]) := Lib.hid (by rw [List.take_succ_eq_append_getElem hltq, List.map_append]; rfl)
            have hown := HB.out.2.1
            have hki : (q : Int) < (ps.length : Int) := by omega
            generalize (ps.take q).map (fun x => (x, (cntL f x k : Int))) = l at *
            generalize cntL f ps[q] k = cc at *
            generalize ps[q] = x at *
            have hrow := HQ.out.1
            unfold PRow at hrow
            have hsz := HQ.out.2.size
            go_wp2_with (first | (at_lookup; refine wpList_lookN rfl _ _ rfl w1.heap.size k _ rfl hown x rfl HWF.out _ HAT.out ?_) | (at_builtin; refine wpList_append_own_at _ rfl _ _ 24 rfl w.heap.size 50 i0 (.agg #[.int .i64 0, .int .i64 0]) 2 16 Try.underlying24 hi hz0 hz1 hz2 rfl (by decide) _ _ _ rfl (hrow.alloc _) ⟨wr.heap.size, 0, none⟩ 1 1 [.int .i64 x, .int .i64 (cc : Int)] rfl rfl (cell_arr_new _ _ _) (by simp [Value.oneCell']) (by unfold maxLen; omega) (by omega) (by simp; omega) ?_; intro v' w6 hown' hgrow _ hat))
            have hA3 := pacc_step (c := (x, (cc : Int))) (HQ.out.below ((Below.refl _ _).alloc (Nat.le_refl _) _)) hown' hgrow
            have HB6 := Lib.hid (HB.out.step ((Below.refl _ _).alloc (Nat.le_refl _) _) hgrow hat)
            refine ⟨⟨q + 1, by omega, by go_num, Lib.hid (by rw [HSt.out]; exact hA3), HB6⟩, by simp [RowKit.intOf]; omega⟩
          · obtain rfl : q = ps.length := by omega
            have HL : Hid (List.map (fun x => (x, (cntL f x k : Int))) (List.take ps.length ps) = pcL f k 9) := Lib.hid (by rw [List.take_length, HMAP.out])
            go_wp2_with fail
            go_ret2
            exact ⟨_, rfl, by rw [← HL.out]; exact HQ.out⟩
end Go.Proofs.Ytpmaaflpknjbmaa.C
