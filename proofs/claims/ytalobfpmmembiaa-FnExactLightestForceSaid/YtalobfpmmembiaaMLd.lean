/-
  What the two AddOnTop return. No statement of the seat by itself.
-/
import Derived.Test.YtalobfpmmembiaaHCat
import Derived.Test.YtalobfpmmembiaaMLc
import Derived.Deep.QuietTactic
namespace Go.Proofs.Ytalobfpmmembiaa
open Go.RowKit

theorem growW_nil (n : Nat) (h0 : 0 < n) (hn : n ≤ 2000000) (w : World) :
    Calls Try.prog 87 #[.slice none 0 0, .int .i64 (n : Int)] w fun e w' => ∃ v, e = .returned v ∧ w'.ownsRow w.heap.size 3 1 v 0 (intV []) ∧ Below w.heap.size w w' := by
  obtain ⟨i0, hi, hz0, hz1, hz2⟩ := info_is info3
  have h := Any8.slices_Grow_grow (P := Try.prog) Try.laysGrow i0 (.int .i64 0) hi hz0 (by omega) none 0 0 n [] w (Nat.le_refl _) (by omega) (by rw [hz2]; omega) (by omega) (by simp) (fun _ => rfl) (fun a ha => by cases ha)
  refine Calls.mono (show Calls Try.prog 87 _ _ _ from h) ?_
  rintro e w' ⟨rfl, rfl⟩
  have hcm : grownCap w (0 + n) 0 3 ≤ maxLen := grownCap_le_maxLen w (0 + n) 0 3 (by unfold maxLen; omega)
  have hge := grownCap_ge w (0 + n) 0 3
  refine ⟨_, rfl, ?_, (below_drewN (Below.refl _ w) 1).alloc (Nat.le_refl _) _⟩
  refine World.ownsRow_made w.drew _ _ (Nat.le_refl _) hcm ?_
  show _ = grownCap w (0 + n) 0 3 * 1
  simp only [Array.size_append, List.size_toArray, size_zeroCells, Value.cells]
  have hge2 : n ≤ grownCap w n 0 3 := by simpa using hge
  have hge3 : n ≤ grownCap w n 0 (Go.Proofs.Try.laysGrow_ren.t 25) := hge2
  have he : grownCap w (0 + n) 0 3 = grownCap w n 0 (Go.Proofs.Try.laysGrow_ren.t 25) := by rw [Nat.zero_add]; rfl
  rw [he]
  simp
  omega
theorem growW_any (n : Nat) (hn : n ≤ 2000000) (w : World) : Calls Try.prog 87 #[.slice none 0 0, .int .i64 (n : Int)] w fun e w' => ∃ v, e = .returned v ∧ w'.ownsRow w.heap.size 3 1 v 0 (intV []) ∧ Below w.heap.size w w' := by
  by_cases h : n = 0
  · subst h; exact grow_zero w
  · exact growW_nil n (by omega) hn w

set_option maxRecDepth 100000 in
set_option maxHeartbeats 4000000 in
theorem concatW_any (v : Value) (Y : List (List Int)) (hn : Y.length ≤ 2000000) (ht : tot Y ≤ 2000000) (w : World) (h : YL w v Y) :
    Calls Try.prog 67 #[v] w (OneL w Y.flatten) := by
  obtain ⟨f3, hi3, hz0, hz1, hz2⟩ := info_is info3
  obtain ⟨a, cap, rfl, hc⟩ := h
  obtain ⟨n, hl⟩ : ∃ n, Y.length = n := ⟨_, rfl⟩
  have HN := Lib.hid hl
  have HC := Lib.hid hc
  have HA := Lib.hid (tk_all Y)
  have HTk := Lib.hid (tk_le Y)
  have HFl : Hid ((Y.take n).flatten = Y.flatten) := Lib.hid (by rw [← hl, List.take_length])
  have HLn := Lib.hid (fun k => show ((Y.take k).flatten).length = tk Y k by simp [tk, tot, List.length_flatten])
  rw [hl] at hn HA ⊢
  obtain ⟨t, htt⟩ : ∃ t, tot Y = t := ⟨_, rfl⟩
  rw [htt] at ht HA HTk
  have HTT := Lib.hid htt
  clear hc hl htt
  go_enter Try.func67, Try.ntmps67
  go_wp2_with fail
  go_loop [3, 5, 11] (fun s _ i => ∃ k q : Nat, k ≤ n ∧ i = .int .i64 k ∧ s = .int .i64 q ∧ Hid (q = tk Y k)) (fun _ _ i => n - (intOf i).toNat)
  case atStart => exact ⟨0, 0, Nat.zero_le _, rfl, rfl, Lib.hid (tk_zero Y).symm⟩
  case round =>
    obtain ⟨k, q, hk, rfl, rfl, HQ⟩ := hrel
    have hq : q ≤ 2000000 := by have := HTk.out k; have := HQ.out; omega
    by_cases hlt : k < n
    · obtain ⟨l, hl⟩ := get_at HN.out hlt
      obtain ⟨g, off, rfl, hg, hcc⟩ := HC.out (by have := HN.out; omega)
      obtain ⟨u, hu, hil⟩ := hcc k l hl
      obtain ⟨a2, c2, rfl⟩ := hil.form
      have hs := tk_succ hl
      have hq2 := HTk.out (k + 1)
      have HQ2 : Hid (q + l.length = tk Y (k + 1)) := Lib.hid (by rw [hs, HQ.out])
      have hqb : q + l.length ≤ 2000000 := by have := HQ2.out; omega
      clear hcc hl hil hs hq2
      generalize l.length = m at *
      have hq0 : ¬ ((q : Int) + (m : Int)) < 0 := by omega
      have hq0' : decide (((q : Int) + (m : Int)) < 0) = false := by simp; omega
      go_wp2_with fail
      go_round
      case rel => exact ⟨k + 1, q + m, by omega, by go_num, by go_num, HQ2⟩
      case measure => simp [intOf]; omega
    · obtain rfl : k = n := by omega
      have HG := Lib.hid (growW_any q hq w)
      go_wp2_with fail
      refine HG.out.mono ?_
      rintro e w1 ⟨v1, rfl, ho1, hb1⟩
      have J1 : Hid (w1.ownsRow w.heap.size 3 1 v1 0 (intV (Y.take 0).flatten) ∧ Below w.heap.size w w1) := Lib.hid ⟨by simpa using ho1, hb1⟩
      clear ho1 hb1
      go_wp2_with fail
      go_loopw [6, 8, 27] (fun o _ i wr => ∃ j q : Nat, j ≤ k ∧ i = .int .i64 j ∧ Hid (q = tk Y j) ∧ Hid (wr.ownsRow w.heap.size 3 1 o q (intV (Y.take j).flatten) ∧ Below w.heap.size w wr)) (fun _ _ i _ => k - (intOf i).toNat)
      case atStart => exact ⟨0, 0, Nat.zero_le _, rfl, Lib.hid (tk_zero Y).symm, J1⟩
      case round =>
        obtain ⟨j, q2, hj, rfl, HQj, HJ⟩ := hrel
        by_cases hjk : j < k
        · obtain ⟨l, hl⟩ := get_at HN.out hjk
          obtain ⟨g, off, rfl, hg, hcc⟩ := HC.out (by have := HN.out; omega)
          obtain ⟨u, hu', hil⟩ := hcc j l hl
          have hu := (HJ.out.2.cell (p := ⟨g, off + j, none⟩) hg).trans hu'
          have HS : Hid ((Y.take (j + 1)).flatten = (Y.take j).flatten ++ l) := Lib.hid (flat_succ hl)
          have hq3 : q2 + l.length = tk Y (j + 1) := by rw [tk_succ hl, HQj.out]
          have hq4 := HTk.out (j + 1)
          have HQ4 := Lib.hid hq3
          have HIL := Lib.hid (hil.below HJ.out.2)
          obtain ⟨a2, c2, rfl⟩ := hil.form
          have hrow := HJ.out.1
          have hsz := HJ.out.2.size
          by_cases h0 : l.length = 0
          · have e : l = [] := List.eq_nil_of_length_eq_zero h0
            subst e
            obtain ⟨ao, co, rfl⟩ := own_form hrow
            have hqc : q2 ≤ co := by
              rcases hrow.2 with ⟨e1, e2⟩ | ⟨_, _, _, e1, _, _, e2, _⟩
              · omega
              · injection e1 with _ _ e3; omega
            have HNx : Hid (wr.ownsRow w.heap.size 3 1 (.slice ao q2 co) q2 (intV (Y.take (j + 1)).flatten) ∧ Below w.heap.size w wr) := Lib.hid (by rw [HS.out, List.append_nil]; exact HJ.out)
            have HQ5 : Hid (q2 = tk Y (j + 1)) := Lib.hid (by simpa using HQ4.out)
            clear hcc hl hil hq3 hq4 hu' hrow h0
            simp only [List.length_nil] at hu
            go_wp2_with (at_builtin; refine wpList_append_zero rfl _ _ 24 rfl 3 f3 Try.underlying24 hi3 _ _ _ _ _ rfl rfl hqc ?_)
            exact ⟨⟨j + 1, q2, by omega, by go_num, HQ5, HNx⟩, by simp [intOf]; omega⟩
          · obtain ⟨g2, off2, rfl, hg2, hcc2⟩ : ∃ g2 off2, a2 = some ⟨g2, off2, none⟩ ∧ g2 < wr.heap.size ∧ ∀ i x, l[i]? = some x → wr.cell? ⟨g2, off2 + i, none⟩ = some (.int .i64 x) := by
              obtain ⟨aa, cc, e, hh4⟩ := HIL.out
              injection e with e1 e2 e3
              obtain ⟨g4, off4, e4, hl4, hc4⟩ := hh4 (by omega)
              exact ⟨g4, off4, e1.trans e4, hl4, hc4⟩
            have HSrc := Lib.hid (src_of hcc2)
            have HL := Lib.hid (intV_len l)
            have HV : Hid (intV (Y.take (j + 1)).flatten = intV (Y.take j).flatten ++ intV l) := Lib.hid (by rw [HS.out]; simp [intV])
            have HO1 := Lib.hid (intV_one l)
            clear hcc hl hil hcc2 hq3 HIL HS hu'
            obtain ⟨m, hm⟩ : ∃ m, l.length = m := ⟨_, rfl⟩
            rw [hm] at HL HQ4 h0 hu
            have hqm : q2 + m ≤ 2000000 := by have := HQ4.out; omega
            clear hm hq4
            generalize intV l = LV at *
            generalize intV (Y.take j).flatten = SV at *
            go_wp2_with (at_builtin; refine wpList_append_own _ rfl _ _ 24 rfl w.heap.size 3 f3 (.int .i64 0) 1 8 Try.underlying24 hi3 hz0 hz1 hz2 rfl (by decide) _ _ _ rfl hrow ⟨g2, off2, none⟩ m _ LV rfl (by rw [HL.out]; omega) HSrc.out HO1.out (by unfold maxLen; omega) (by omega) hsz ?_; intro v' w4 hown' hgrow hnil)
            have HNx : Hid (w4.ownsRow w.heap.size 3 1 v' (q2 + m) (intV (Y.take (j + 1)).flatten) ∧ Below w.heap.size w w4) := Lib.hid ⟨by rw [HV.out]; exact hown', HJ.out.2.grown hgrow hsz (row_base hrow)⟩
            clear hown' hgrow hnil hrow
            exact ⟨⟨j + 1, q2 + m, by omega, by go_num, HQ4, HNx⟩, by simp [intOf]; omega⟩
        · obtain rfl : j = k := by omega
          have HR : Hid (∃ v, Ending.returned u6 = .returned v ∧ wr.ownsRow w.heap.size 3 1 v Y.flatten.length (intV Y.flatten) ∧ Below w.heap.size w wr) := Lib.hid ⟨_, rfl, by
            have h1 := HJ.out.1
            rw [HFl.out] at h1
            have e : q2 = Y.flatten.length := by have := h1.1; rw [intV_len] at this; omega
            rw [← e]
            exact h1, HJ.out.2⟩
          go_wp2_with fail
          go_ret
          exact HR.out

theorem flipL {w : World} {P : Program} {f : Nat} {args : Array Value} {v : Value} (h : Calls P f args w fun e w' => e = .returned v ∧ w = w') : Calls P f args w fun e w' => e = .returned v ∧ w' = w := h.mono fun _ _ ⟨a, b⟩ => ⟨a, b.symm⟩
theorem retL_len {w W : World} {B m : Nat} {a : Option Addr} {c : Nat} {R : List Int} {ok : Bool} (h : W.ownsRow B 3 1 (.slice a m c) m (intV R)) (hm : R.length = m) (hB : w.heap.size ≤ B) (hb : Below w.heap.size w W) : RetL w R ok (.returned (.tuple #[.slice a m c, .bool ok])) W := by
  subst hm
  exact retL_of h hB hb
theorem box_app {w3 w4 : World} {B A n : Nat} {a b c : Int} {v : Value} {xs : List Value} {o : Obj} (h : BoxR w3 A a b c) (ho : w3.ownsRow B 3 1 v n xs) (hA : A < B) (hg : (w3.alloc o).grownBy w4 v.ownBlock) : BoxR w4 A a b c := by
  have hb9 := below_one w3 o
  exact (h.below hb9).span (Span.of_grown (lo := B) (hi := (w3.alloc o).heap.size) hg fun k hk => ⟨row_base ho k hk, Nat.lt_of_lt_of_le (row_lt ho k hk) hb9.size⟩) (.inl hA)
/-- Two lists beside each other, as slices.Concat takes them. -/
theorem yl_two {w : World} {b : Nat} {u1 u2 : Value} {l1 l2 : List Int} (hb : w.heap[b]? = some (.cells #[u1, u2] 24 (0, 0))) (h1 : IL w u1 l1) (h2 : IL w u2 l2) : YL w (.slice (some ⟨b, 0, none⟩) 2 2) [l1, l2] := by
  refine ⟨_, _, rfl, fun _ => ⟨b, 0, rfl, (Array.getElem?_eq_some_iff.1 hb).1, fun j l hl => ?_⟩⟩
  match j, hl with
  | 0, hl => cases hl; exact ⟨u1, cell_of hb rfl, h1⟩
  | 1, hl => cases hl; exact ⟨u2, cell_of hb rfl, h2⟩
  | j + 2, hl => simp at hl
theorem il_one {w : World} {b : Nat} {x : Int} (hb : w.heap[b]? = some (.cells #[.int .i64 x] 3 (0, 0))) : IL w (.slice (some ⟨b, 0, none⟩) 1 1) [x] := by
  refine ⟨_, _, rfl, fun _ => ⟨b, 0, rfl, (Array.getElem?_eq_some_iff.1 hb).1, fun j y hy => ?_⟩⟩
  match j, hy with
  | 0, hy => cases hy; exact cell_of hb rfl
  | j + 1, hy => simp at hy
theorem ad_yes {l : List Int} {x a b c : Int} (h : adB l x a b c = true) : adL l x a b c = l ++ [x] := if_pos h
theorem ad_no {l : List Int} {x a b c : Int} (h : adB l x a b c = false) : adL l x a b c = [] := if_neg (by simp [h])
theorem ad_cut {l : List Int} {x a b c : Int} : adB l x a b c = (cwB (l ++ [x]) a b c && neB (l ++ [x]) a b c) := by
  unfold adB cwB
  cases h : neB (l ++ [x]) a b c with
  | false => simp
  | true =>
    have : goodC (l ++ [x]) a b c = true := by simp [neB] at h; exact h.1
    simp [this]

set_option maxRecDepth 100000 in
set_option maxHeartbeats 8000000 in
theorem implAd_any (v : Value) (l : List Int) (x a b c : Int) (hn : l.length ≤ 1048576) (w : World) (h : IL w v l) :
    Calls Try.prog 30 #[v, .int .i64 x, .agg #[.int .i64 a, .int .i64 b, .int .i64 c]] w (RetL w (adL l x a b c) (adB l x a b c)) := by
  have hb1 := below_one w (.cells #[.int .i64 a, .int .i64 b, .int .i64 c] 26)
  have hb2 := below_one (w.alloc (.cells #[.int .i64 a, .int .i64 b, .int .i64 c] 26)) (.cells #[.int .i64 x] 3)
  have hb3 := below_one ((w.alloc (.cells #[.int .i64 a, .int .i64 b, .int .i64 c] 26)).alloc (.cells #[.int .i64 x] 3)) (.cells #[v, .slice (some ⟨w.heap.size + 1, 0, none⟩) 1 1] 24)
  have n1 := heap_alloc_new (w.alloc (.cells #[.int .i64 a, .int .i64 b, .int .i64 c] 26)) (.cells #[.int .i64 x] 3)
  have n2 := heap_alloc_new ((w.alloc (.cells #[.int .i64 a, .int .i64 b, .int .i64 c] 26)).alloc (.cells #[.int .i64 x] 3)) (.cells #[v, .slice (some ⟨w.heap.size + 1, 0, none⟩) 1 1] 24)
  have BA0 := ((BoxR.new w a b c 26).below hb2).below hb3
  have hs1 : (w.alloc (.cells #[.int .i64 a, .int .i64 b, .int .i64 c] 26)).heap.size = w.heap.size + 1 := by simp
  have hs2 : ((w.alloc (.cells #[.int .i64 a, .int .i64 b, .int .i64 c] 26)).alloc (.cells #[.int .i64 x] 3)).heap.size = w.heap.size + 1 + 1 := by simp
  rw [hs1] at n1
  rw [hs2] at n2
  have n1' := (hb3.block _ (by rw [hs2]; omega)).trans n1
  have hB0 := (hb1.trans (hb2.mono hb1.size)).trans (hb3.mono (Nat.le_trans hb1.size hb2.size))
  have BA := Lib.hid BA0
  have HB := Lib.hid hB0
  have HC := Lib.hid (concatW_any _ [l, [x]] (by simp) (by simp [tot]; omega) _ (yl_two n2 (h.below hB0) (il_one n1')))
  obtain ⟨p, cap, rfl⟩ := h.form
  rw [show ([l, [x]] : List (List Int)).flatten = l ++ [x] by simp] at HC
  have hln : (l ++ [x]).length ≤ 2000000 := by simp; omega
  have HW := Lib.hid (fun u W (hu : IL W u (l ++ [x])) => implCw_any u (l ++ [x]) a b c hln W hu)
  have HE := Lib.hid (fun u W (hu : OwnI W u (l ++ [x])) => implNe_any u (l ++ [x]) a b c hln W hu)
  have HX : Hid (adB l x a b c = (cwB (l ++ [x]) a b c && neB (l ++ [x]) a b c)) := Lib.hid ad_cut
  have HY := Lib.hid (ad_yes (l := l) (x := x) (a := a) (b := b) (c := c))
  have HZ := Lib.hid (ad_no (l := l) (x := x) (a := a) (b := b) (c := c))
  clear h hb1 hb2 hb3 n1 n2 BA0 hs1 hs2 n1' hB0 hln hn
  unfold RetW at HW
  generalize cwB (l ++ [x]) a b c = q1 at *
  generalize neB (l ++ [x]) a b c = q2 at *
  generalize cwS (l ++ [x]) a b c = s1 at *
  generalize goodC (l ++ [x]) a b c = q3 at *
  generalize neL (l ++ [x]) a b c = N1 at *
  go_enter Try.func30, Try.ntmps30
  go_wp2_with fail
  refine HC.out.mono ?_
  rintro e w1 ⟨u, rfl, ho, hb⟩
  have BA1 := Lib.hid (BA.out.below hb)
  have HO := Lib.hid ho
  have HB1 := Lib.hid (HB.out.trans (hb.mono HB.out.size))
  have Z0 := Lib.hid HB.out.size
  clear ho hb
  obtain ⟨-, c0, c1, c2⟩ := BA1.out
  go_wp2_with fail
  refine (HW.out _ _ (il_of_owns HO.out)).mono ?_
  rintro e w2 ⟨rfl, hb⟩
  have BA2 := Lib.hid (BA1.out.below hb)
  have HO2 := Lib.hid (row_below HO.out hb)
  have HB2 := Lib.hid (HB1.out.trans (hb.mono HB1.out.size))
  clear hb c0 c1 c2
  obtain ⟨-, c0, c1, c2⟩ := BA2.out
  go_wp2_with fail
  refine (HE.out _ _ ⟨_, HO2.out⟩).mono ?_
  rintro e w3 ⟨a3, c3, rfl, -, hb⟩
  have HO3 := Lib.hid (row_below HO2.out hb)
  have HB3 := Lib.hid (HB2.out.trans (hb.mono HB2.out.size))
  clear hb c0 c1 c2
  obtain ⟨m, hm⟩ : ∃ m, (l ++ [x]).length = m := ⟨_, rfl⟩
  have HMx := Lib.hid hm
  rw [hm] at HO3
  clear hm
  obtain ⟨aw, cw, rfl⟩ := own_form HO3.out
  cases q1 with
  | false =>
    have e1 : adB l x a b c = false := by rw [HX.out]; rfl
    have e2 := HZ.out e1
    have HD : Hid (RetL w (adL l x a b c) (adB l x a b c) _ _) := Lib.hid (by rw [e1, e2]; exact retL_of (w := w) (l := []) (ok := false) (own_empty w3 (.cells #[] 3) 3 rfl) HB3.out.size (HB3.out.trans ((below_one w3 _).mono HB3.out.size)))
    clear e1 e2
    go_wp2_with fail
    go_ret2
    exact HD.out
  | true =>
    cases q2 with
    | false =>
      have e1 : adB l x a b c = false := by rw [HX.out]; rfl
      have e2 := HZ.out e1
      have HD : Hid (RetL w (adL l x a b c) (adB l x a b c) _ _) := Lib.hid (by rw [e1, e2]; exact retL_of (w := w) (l := []) (ok := false) (own_empty w3 (.cells #[] 3) 3 rfl) HB3.out.size (HB3.out.trans ((below_one w3 _).mono HB3.out.size)))
      clear e1 e2
      go_wp2_with fail
      go_ret2
      exact HD.out
    | true =>
      have e1 : adB l x a b c = true := by rw [HX.out]; rfl
      have e2 := HY.out e1
      have HD : Hid (RetL w (adL l x a b c) (adB l x a b c) _ _) := Lib.hid (by rw [e1, e2]; exact retL_len (ok := true) HO3.out HMx.out Z0.out HB3.out)
      clear e1 e2
      go_wp2_with fail
      go_ret2
      exact HD.out

set_option maxRecDepth 100000 in
set_option maxHeartbeats 8000000 in
theorem specAd_any (v : Value) (l : List Int) (x a b c : Int) (hn : l.length ≤ 1048576) (w : World) (h : IL w v l) :
    Calls Try.prog 36 #[v, .int .i64 x, .agg #[.int .i64 a, .int .i64 b, .int .i64 c]] w (RetL w (adL l x a b c) (adB l x a b c)) := by
  obtain ⟨f3, hi3, hz0, hz1, hz2⟩ := info_is info3
  have hB0 := below_one w (.cells #[.int .i64 a, .int .i64 b, .int .i64 c] 26)
  have BA := Lib.hid (BoxR.new w a b c 26)
  have HB := Lib.hid hB0
  have HG := Lib.hid (l12Good_any v l hn _ (h.below hB0))
  obtain ⟨-, c0, c1, c2⟩ := BA.out
  have HV := Lib.hid h
  obtain ⟨p, cap, rfl⟩ := h.form
  clear h hB0
  cases hg : goodW l 4 with
  | false =>
    have e1 : adB l x a b c = false := by
      cases e : adB l x a b c with
      | false => rfl
      | true => have := (adB_good e).1; simp [goodC, hg] at this
    have e2 := ad_no e1
    rw [hg] at HG
    have HE1 := Lib.hid e1
    have HE2 := Lib.hid e2
    clear hg e1 e2
    go_enter Try.func36, Try.ntmps36
    go_wp2_with fail
    refine HG.out.mono ?_
    rintro e w1 ⟨rfl, hb⟩
    have HB1 := Lib.hid (HB.out.trans (hb.mono HB.out.size))
    clear hb c0 c1 c2
    have HX : Hid (RetL w (adL l x a b c) (adB l x a b c) _ _) := Lib.hid (by rw [HE1.out, HE2.out]; exact retL_of (w := w) (l := []) (ok := false) (own_empty w1 (.cells #[] 3) 3 rfl) HB1.out.size (HB1.out.trans ((below_one w1 _).mono HB1.out.size)))
    go_wp2_with fail
    go_ret2
    exact HX.out
  | true =>
    rw [hg] at HG
    have HR := Lib.hid (specRules_any a b c)
    cases hx : okX a b c with
    | false =>
      rw [hx] at HR
      have e1 : adB l x a b c = false := by
        cases e : adB l x a b c with
        | false => rfl
        | true => have := (adB_good e).1; simp [goodC, hx] at this
      have e2 := ad_no e1
      have HE1 := Lib.hid e1
      have HE2 := Lib.hid e2
      clear hg hx e1 e2
      go_enter Try.func36, Try.ntmps36
      go_wp2_with fail
      refine HG.out.mono ?_
      rintro e w1 ⟨rfl, hb⟩
      have HB1 := Lib.hid (HB.out.trans (hb.mono HB.out.size))
      have BA1 := Lib.hid (BA.out.below hb)
      clear hb c0 c1 c2
      obtain ⟨-, c0, c1, c2⟩ := BA1.out
      go_wp2_with fail
      refine (HR.out _).mono ?_
      rintro e w2 ⟨rfl, hb⟩
      have HB2 := Lib.hid (HB1.out.trans (hb.mono HB1.out.size))
      clear hb c0 c1 c2
      have HX : Hid (RetL w (adL l x a b c) (adB l x a b c) _ _) := Lib.hid (by rw [HE1.out, HE2.out]; exact retL_of (w := w) (l := []) (ok := false) (own_empty w2 (.cells #[] 3) 3 rfl) HB2.out.size (HB2.out.trans ((below_one w2 _).mono HB2.out.size)))
      go_wp2_with fail
      go_ret2
      exact HX.out
    | true =>
      rw [hx] at HR
      have hl4 := goodW_len hg
      have HO := Lib.hid (fun W hW => l1Own_any (.slice p l.length cap) l hn W hW)
      have HE := Lib.hid (fun u W (hu : IL W u (l ++ [x])) => specNe_any u (l ++ [x]) a b c (by simp; omega) W hu)
      have HS : Hid (neB (l ++ [x]) a b c = true → ∀ (u : Value) (W : World), IL W u (l ++ [x]) → Calls Try.prog 63 #[u, .int .i64 0] W fun e w' => e = .returned (.int .i64 (l ++ [x]).sum) ∧ W = w') := Lib.hid fun hq u W hu => by
        have hg2 : goodW (l ++ [x]) 4 = true := by simp [neB, goodC] at hq; exact hq.1.1
        have := l12Sum_any u (l ++ [x]) 0 (by have := goodW_len hg2; omega) (Nat.zero_le _) (goodW_small hg2) W hu
        rwa [List.drop_zero] at this
      have HAd : Hid (adB l x a b c = (neB (l ++ [x]) a b c && decide ((l ++ [x]).sum ≤ a))) := Lib.hid rfl
      have HY := Lib.hid (ad_yes (l := l) (x := x) (a := a) (b := b) (c := c))
      have HZ := Lib.hid (ad_no (l := l) (x := x) (a := a) (b := b) (c := c))
      clear hg hx hn
      unfold NewI at HO
      obtain ⟨n, hl⟩ : ∃ n, l.length = n := ⟨_, rfl⟩
      have HN := Lib.hid hl
      rw [hl] at hl4 HO HG HV ⊢
      clear hl
      generalize neB (l ++ [x]) a b c = q2 at *
      generalize neL (l ++ [x]) a b c = N1 at *
      generalize (l ++ [x]).sum = s at *
      go_enter Try.func36, Try.ntmps36
      go_wp2_with fail
      refine HG.out.mono ?_
      rintro e w1 ⟨rfl, hb⟩
      have HB1 := Lib.hid (HB.out.trans (hb.mono HB.out.size))
      have BA1 := Lib.hid (BA.out.below hb)
      clear hb c0 c1 c2
      obtain ⟨-, c0, c1, c2⟩ := BA1.out
      go_wp2_with fail
      refine (HR.out _).mono ?_
      rintro e w2 ⟨rfl, hb⟩
      have HB2 := Lib.hid (HB1.out.trans (hb.mono HB1.out.size))
      have BA2 := Lib.hid (BA1.out.below hb)
      clear hb c0 c1 c2
      obtain ⟨-, c0, c1, c2⟩ := BA2.out
      go_wp2_with fail
      refine (HO.out _ (HV.out.below HB2.out)).mono ?_
      rintro e w3 ⟨a3, c3, rfl, ho, hb⟩
      have HB3 := Lib.hid (HB2.out.trans (hb.mono HB2.out.size))
      have BA3 := Lib.hid (BA2.out.below hb)
      have hrow := ho
      have hz := hb.size
      have HR3 := Lib.hid ho
      clear hb ho c0 c1 c2
      go_wp2_with (at_builtin; refine wpList_append_own _ rfl _ _ 24 rfl w2.heap.size 3 f3 (.int .i64 0) 1 8 Try.underlying24 hi3 hz0 hz1 hz2 rfl (by decide) _ _ _ rfl (hrow.alloc _) ⟨w3.heap.size, 0, none⟩ 1 1 [.int .i64 x] rfl rfl (cell_one_new _ _ _) (by simp [Value.oneCell']) (by unfold maxLen; omega) (by omega) (by simp; omega) ?_; intro v' w4 hown' hgrow hnil; have BA4 := Lib.hid (box_app BA3.out HR3.out BA2.out.1 hgrow); obtain ⟨-, c0, c1, c2⟩ := BA4.out)
      have HB4 : Hid (Below w.heap.size w w4) := Lib.hid (by
        have hb9 := below_one w3 (.cells #[.int .i64 x] 3)
        have hS : Span w2.heap.size (w3.alloc (.cells #[.int .i64 x] 3)).heap.size (w3.alloc (.cells #[.int .i64 x] 3)) w4 := Span.of_grown hgrow fun k hk => ⟨row_base HR3.out k hk, Nat.lt_of_lt_of_le (row_lt HR3.out k hk) hb9.size⟩
        exact Below.span (HB3.out.trans (hb9.mono HB3.out.size)) (hS.lift HB2.out.size) (Nat.le_trans HB3.out.size hb9.size))
      have HO4 : Hid (w4.ownsRow w2.heap.size 3 1 v' (l ++ [x]).length (intV (l ++ [x]))) := Lib.hid (by
        rw [List.length_append, List.length_singleton, HN.out]
        simpa [intV] using hown')
      clear hown' hgrow hnil hrow hz
      refine (HE.out _ _ (il_of_owns HO4.out)).mono ?_
      rintro e w5 ⟨a5, c5, rfl, -, hb⟩
      have HO5 := Lib.hid (row_below HO4.out hb)
      have HB5 := Lib.hid (HB4.out.trans (hb.mono HB4.out.size))
      have BA5 := Lib.hid (BA4.out.below hb)
      clear hb c0 c1 c2
      obtain ⟨-, c0, c1, c2⟩ := BA5.out
      obtain ⟨m, hm⟩ : ∃ m, (l ++ [x]).length = m := ⟨_, rfl⟩
      have HMx := Lib.hid hm
      rw [hm] at HO5
      clear hm
      obtain ⟨aw, cw, rfl⟩ := own_form HO5.out
      cases q2 with
      | false =>
        have e1 : adB l x a b c = false := by rw [HAd.out]; rfl
        have e2 := HZ.out e1
        have HE1 := Lib.hid e1
        have HE2 := Lib.hid e2
        clear e1 e2
        go_wp2_with fail
        go_quiet (fail)
        have HB6 := Lib.hid (below_drewN HB5.out nq)
        generalize w5.drewN nq = w6 at *
        have HX : Hid (RetL w (adL l x a b c) (adB l x a b c) _ _) := Lib.hid (by rw [HE1.out, HE2.out]; exact retL_of (w := w) (l := []) (ok := false) (own_empty w6 (.cells #[] 3) 3 rfl) HB6.out.size (HB6.out.trans ((below_one w6 _).mono HB6.out.size)))
        go_wp2_with fail
        go_ret2
        exact HX.out
      | true =>
        have HS2 := Lib.hid (fun W (hb : Below w5.heap.size w5 W) => HS.out rfl _ W (il_of_owns (row_below HO5.out hb)))
        by_cases hsa : s ≤ a
        · have e1 : adB l x a b c = true := by rw [HAd.out, decide_eq_true hsa]; rfl
          have e2 := HY.out e1
          have HE1 := Lib.hid e1
          have HE2 := Lib.hid e2
          have hd : decide (a < s) = false := by simp; omega
          clear e1 e2
          go_wp2_with fail
          go_quiet ((go_at_call 63; exact Calls.quiet_of_same (flipL (HS2.out _ (below_drewN (Below.refl _ _) _)))))
          have HB6 := Lib.hid (below_drewN HB5.out nq)
          have HO6 : Hid ((w5.drewN nq).ownsRow w2.heap.size 3 1 _ m (intV (l ++ [x]))) := Lib.hid (row_below HO5.out (below_drewN (Below.refl _ _) nq))
          generalize w5.drewN nq = w6 at *
          have HX : Hid (RetL w (adL l x a b c) (adB l x a b c) _ _) := Lib.hid (by rw [HE1.out, HE2.out]; exact retL_len (ok := true) HO6.out HMx.out HB2.out.size HB6.out)
          go_wp2_with fail
          go_ret2
          exact HX.out
        · have e1 : adB l x a b c = false := by rw [HAd.out, decide_eq_false hsa]; rfl
          have e2 := HZ.out e1
          have HE1 := Lib.hid e1
          have HE2 := Lib.hid e2
          have hd : decide (a < s) = true := by simp; omega
          clear e1 e2
          go_wp2_with fail
          go_quiet ((go_at_call 63; exact Calls.quiet_of_same (flipL (HS2.out _ (below_drewN (Below.refl _ _) _)))))
          have HB6 := Lib.hid (below_drewN HB5.out nq)
          generalize w5.drewN nq = w6 at *
          have HX : Hid (RetL w (adL l x a b c) (adB l x a b c) _ _) := Lib.hid (by rw [HE1.out, HE2.out]; exact retL_of (w := w) (l := []) (ok := false) (own_empty w6 (.cells #[] 3) 3 rfl) HB6.out.size (HB6.out.trans ((below_one w6 _).mono HB6.out.size)))
          go_wp2_with fail
          go_ret2
          exact HX.out
end Go.Proofs.Ytalobfpmmembiaa
