/-
  What the two SortedStacks return. No statement of the seat by itself.
-/
import Derived.Test.YthokmklnldoinaaBadS
namespace Go.Proofs.Ythokmklnldoinaa
open Go.RowKit

/-- Whether no number of the first k of a stack is badly placed. -/
def srtB (l : List Int) (k : Nat) : Bool := (badL l k).isEmpty
theorem srtB_step {l : List Int} {k : Nat} {x : Int} (hx : l[k]? = some x) (h100 : x ≤ 100) : srtB l (k + 1) = (srtB l k && decide (bel (l.take k) x = 0)) := by
  unfold srtB
  by_cases h : earL (l.take k) < x
  · have := (bel_pos (l.take k) x h100).2 h
    rw [badL_yes hx h, decide_eq_false (by omega), Bool.and_false]
    cases badL l k <;> rfl
  · have : ¬ 0 < bel (l.take k) x := fun h0 => h ((bel_pos (l.take k) x h100).1 h0)
    rw [badL_no hx h, decide_eq_true (by omega), Bool.and_true]
/-- The sorted ones of the first stacks. -/
def srtL (Y : List (List Int)) : Nat → List Int
  | 0 => []
  | i + 1 => srtL Y i ++ (if srtB (Y.getD i []) (Y.getD i []).length = true then [(i : Int)] else [])
theorem srtL_len (Y : List (List Int)) : ∀ i, (srtL Y i).length ≤ i
  | 0 => by simp [srtL]
  | i + 1 => by
    have := srtL_len Y i
    rw [srtL, List.length_append]
    split <;> simp <;> omega
theorem srtL_yes {Y : List (List Int)} {i : Nat} {l : List Int} (hl : Y[i]? = some l) (h : srtB l l.length = true) : srtL Y (i + 1) = srtL Y i ++ [(i : Int)] := by
  rw [srtL, getD_of hl, if_pos h]
theorem srtL_no {Y : List (List Int)} {i : Nat} {l : List Int} (hl : Y[i]? = some l) (h : srtB l l.length = false) : srtL Y (i + 1) = srtL Y i := by
  rw [srtL, getD_of hl, if_neg (by simp [h]), List.append_nil]
def srtR (Y : List (List Int)) : List Int := if goodY Y = true then srtL Y Y.length else []
theorem srtR_len (Y : List (List Int)) : (srtR Y).length ≤ 1048576 := by
  unfold srtR
  split
  · rename_i h
    have := (goodY_iff.1 h).2.1
    have := srtL_len Y Y.length
    omega
  · simp

set_option maxRecDepth 100000 in
set_option maxHeartbeats 8000000 in
theorem implSrt_any (v : Value) (Y : List (List Int)) (B hi : Nat) (h1 : Y.length ≤ 1048576) (h2 : tot Y ≤ 1048576) (w : World) (h : YdO w B hi v Y) :
    Calls Try.prog 16 #[v] w (RetL w (srtR Y) (goodY Y)) := by
  obtain ⟨f3, hi3, hz0, hz1, hz2⟩ := info_is info3
  obtain ⟨v0, rfl, hv⟩ := h
  have C0 := coll_start w v0 26
  have c0 := C0.2.1
  have B0 := Lib.hid (below_two w (.cells #[v0] 26) (.cells #[] 3))
  have HF := Lib.hid (good_impl (.agg #[v0]) Y h1 h2 _ ⟨v0, rfl, hv.yl.below B0.out⟩)
  obtain ⟨a, cap, rfl⟩ := hv.form
  obtain ⟨n, hn⟩ : ∃ n, Y.length = n := ⟨_, rfl⟩
  have HN := Lib.hid hn
  have HV := Lib.hid hv
  rw [hn] at h1 C0 B0 HF c0 HV
  have HC0 := Lib.hid C0
  rw [hn]
  clear hv C0
  cases hg : goodY Y with
  | false =>
    have HX : Hid (srtR Y = []) := Lib.hid (by simp [srtR, hg])
    rw [hg] at HF
    clear hg hn
    go_enter Try.func16, Try.ntmps16
    go_wp2_with fail
    refine HF.out.mono ?_
    rintro e w1 ⟨rfl, hb⟩
    have B1 := Lib.hid (B0.out.trans (hb.mono B0.out.size))
    have R1 := Lib.hid (row_below HC0.out.1 hb)
    clear hb c0
    go_wp2_with fail
    go_ret2
    rw [HX.out]
    exact retL_of (by simpa using R1.out) (Nat.le_succ _) B1.out
  | true =>
    have HX : Hid (srtR Y = srtL Y n) := Lib.hid (by simp [srtR, hg, HN.out])
    obtain ⟨h11, h66, h44, -⟩ := goodY_iff.1 hg
    have H4 := Lib.hid (fun (j : Nat) (l : List Int) (hl : Y[j]? = some l) => h44 l (List.mem_of_getElem? hl))
    rw [hn] at h66
    have hn0 : 0 < n := by omega
    obtain ⟨g, cap', e⟩ := HV.out.rows (by have := HN.out; omega)
    injection e with e1 e2 e3
    subst e1
    clear e2 e3 h11 h44
    rw [hg] at HF
    clear hg hn
    go_enter Try.func16, Try.ntmps16
    go_wp2_with fail
    refine HF.out.mono ?_
    rintro e w1 ⟨rfl, hb⟩
    have C1 : Hid (Coll w w1 (.slice (some ⟨g, 0, none⟩) n cap) (.slice (some ⟨w.heap.size + 1, 0, none⟩) 0 0) (srtL Y 0)) := Lib.hid (coll_below HC0.out hb)
    have c1 := C1.out.2.1
    clear hb c0
    go_wp2_with fail
    clear c1
    go_loopw [4, 15] (fun s i wr => ∃ k : Nat, k ≤ n ∧ i = .int .i64 k ∧ Hid (Coll w wr (.slice (some ⟨g, 0, none⟩) n cap) s (srtL Y k))) (fun _ i _ => n - (intOf i).toNat)
    case atStart => exact ⟨0, Nat.zero_le _, rfl, C1⟩
    case round =>
      obtain ⟨k, hk, rfl, HR⟩ := hrel
      by_cases hlt : k < n
      · obtain ⟨l, hl⟩ := get_at HN.out hlt
        have HVr := HV.out.below (HR.out.2.2.1)
        obtain ⟨u, hu, -, hown, -⟩ := HVr.cell hl
        obtain ⟨a2, c2, rfl⟩ := own_form hown
        have hl4 := H4.out k l hl
        have HW := Lib.hid (badlyPlacedIn_any _ l (by omega) wr ⟨B, hown⟩)
        have hSl := srtL_len Y k
        cases hs : srtB l l.length with
        | true =>
          have HT := Lib.hid (srtL_yes hl hs)
          have hT0 : badL l l.length = [] := by simpa [srtB] using hs
          rw [hT0] at HW
          generalize srtL Y k = S at *
          generalize l.length = m at *
          clear hown hl HVr hs hT0
          go_wp2_with fail
          refine HW.out.mono ?_
          rintro e w2 ⟨u2, rfl, hown2, hb2⟩
          have HR2 := Lib.hid (coll_below HR.out hb2)
          obtain ⟨a3, c3, rfl⟩ := own_form hown2
          obtain ⟨hrow, hc0, hB, hz, hne⟩ := HR2.out
          have KC0 := Lib.hid hc0
          clear hown2 hb2 hc0 hne
          have hz0' : ((0 : Int) == 0) = true := rfl
          go_wp2_with (at_builtin; refine wpList_append_own _ rfl _ _ 28 rfl (w.heap.size + 1) 3 f3 (.int .i64 0) 1 8 Try.underlying28 hi3 hz0 hz1 hz2 rfl (by decide) _ _ _ rfl (hrow.alloc _) ⟨w2.heap.size, 0, none⟩ 1 1 [.int .i64 (k : Int)] rfl rfl (cell_one_new _ _ _) (by simp [Value.oneCell']) (by unfold maxLen; omega) (by omega) (by simp; omega) ?_; intro v' w4 hown' hgrow hnil)
          have HN4 : Hid (Coll w w4 (.slice (some ⟨g, 0, none⟩) n cap) v' (srtL Y (k + 1))) := Lib.hid ⟨by rw [HT.out]; simpa [intV] using hown', cell_append hB hrow (by omega) (by omega) hgrow KC0.out, below_append hB hrow (by omega) hgrow, by have := hgrow.size; simp at this; omega, fun e => by have := (hnil.1 e).2; omega⟩
          clear hown' hgrow hnil hrow hB hz
          exact ⟨⟨k + 1, by omega, by go_num, HN4⟩, by simp [intOf]; omega⟩
        | false =>
          have HT := Lib.hid (srtL_no hl hs)
          have hT0 : badL l l.length ≠ [] := by simpa [srtB] using hs
          have hT1 : 0 < (badL l l.length).length := List.length_pos_iff.2 hT0
          generalize badL l l.length = T at *
          generalize l.length = m at *
          clear hown hl HVr hs hT0
          go_wp2_with fail
          refine HW.out.mono ?_
          rintro e w2 ⟨u2, rfl, hown2, hb2⟩
          have HR2 : Hid (Coll w w2 (.slice (some ⟨g, 0, none⟩) n cap) _ (srtL Y (k + 1))) := Lib.hid (by rw [HT.out]; exact coll_below HR.out hb2)
          obtain ⟨a3, c3, rfl⟩ := own_form hown2
          clear hown2 hb2
          have hz0' : ((T.length : Int) == 0) = false := beq_eq_false_iff_ne.2 (by omega)
          go_wp2_with fail
          exact ⟨⟨k + 1, by omega, by go_num, HR2⟩, by simp [intOf]; omega⟩
      · obtain rfl : k = n := by omega
        go_wp2_with fail
        go_ret2
        rw [HX.out]
        exact retL_of HR.out.1 (Nat.le_succ _) HR.out.2.2.1

set_option maxRecDepth 100000 in
set_option maxHeartbeats 8000000 in
theorem specSrt_any (v : Value) (Y : List (List Int)) (h1 : Y.length ≤ 1048576) (h2 : tot Y ≤ 1048576) (w : World) (h : YdR w v Y) :
    Calls Try.prog 39 #[v] w (RetL w (srtR Y) (goodY Y)) := by
  obtain ⟨f3, hi3, hz0, hz1, hz2⟩ := info_is info3
  obtain ⟨v0, rfl, hv⟩ := h
  have C0 := coll_start w v0 26
  have c0 := C0.2.1
  have B0 := Lib.hid (below_two w (.cells #[v0] 26) (.cells #[] 3))
  have HF := Lib.hid (good_spec (.agg #[v0]) Y h1 h2 _ ⟨v0, rfl, hv.below B0.out⟩)
  obtain ⟨a, cap, rfl, hc⟩ := hv
  obtain ⟨n, hn⟩ : ∃ n, Y.length = n := ⟨_, rfl⟩
  have HN := Lib.hid hn
  have HC := Lib.hid hc
  rw [hn] at h1 C0 B0 HF c0
  have HC0 := Lib.hid C0
  rw [hn]
  clear hc C0
  cases hg : goodY Y with
  | false =>
    have HX : Hid (srtR Y = []) := Lib.hid (by simp [srtR, hg])
    rw [hg] at HF
    clear hg hn
    go_enter Try.func39, Try.ntmps39
    go_wp2_with fail
    refine HF.out.mono ?_
    rintro e w1 ⟨rfl, hb⟩
    have B1 := Lib.hid (B0.out.trans (hb.mono B0.out.size))
    have R1 := Lib.hid (row_below HC0.out.1 hb)
    clear hb c0
    go_wp2_with fail
    go_ret2
    rw [HX.out]
    exact retL_of (by simpa using R1.out) (Nat.le_succ _) B1.out
  | true =>
    have HX : Hid (srtR Y = srtL Y n) := Lib.hid (by simp [srtR, hg, HN.out])
    obtain ⟨h11, h66, h44, -⟩ := goodY_iff.1 hg
    have H4 := Lib.hid (fun (j : Nat) (l : List Int) (hl : Y[j]? = some l) => h44 l (List.mem_of_getElem? hl))
    have HG := Lib.hid hg
    rw [hn] at h66
    rw [hg] at HF
    clear hg hn h11 h44
    go_enter Try.func39, Try.ntmps39
    go_wp2_with fail
    refine HF.out.mono ?_
    rintro e w1 ⟨rfl, hb⟩
    have C1 : Hid (Coll w w1 (.slice a n cap) (.slice (some ⟨w.heap.size + 1, 0, none⟩) 0 0) (srtL Y 0)) := Lib.hid (coll_below HC0.out hb)
    have c1 := C1.out.2.1
    clear hb c0
    go_wp2_with fail
    clear c1
    go_loopw [4, 5] (fun s i wr => ∃ (k : Nat) (sv : Value), k ≤ n ∧ i = .int .i64 k ∧ sv = s ∧ Hid (Coll w wr (.slice a n cap) sv (srtL Y k))) (fun _ i _ => n - (intOf i).toNat)
    case atStart => exact ⟨0, _, Nat.zero_le _, rfl, rfl, C1⟩
    case round =>
      obtain ⟨i, sv, hi, rfl, rfl, HCo⟩ := hrel
      rename World => wo
      have c0 := HCo.out.2.1
      by_cases hlt : i < n
      · obtain ⟨l, hl⟩ := get_at HN.out hlt
        obtain ⟨g, off, rfl, hg, hcc⟩ := HC.out (by have := HN.out; omega)
        obtain ⟨u, hu', hil⟩ := hcc i l hl
        have hl4 := H4.out i l hl
        have hu := (HCo.out.2.2.1.cell (p := ⟨g, off + i, none⟩) hg).trans hu'
        have HIL := Lib.hid hil
        obtain ⟨a2, c2, rfl, hrow⟩ := hil
        have HU := Lib.hid hu'
        have HL := Lib.hid hl
        obtain ⟨m, hm⟩ : ∃ m, l.length = m := ⟨_, rfl⟩
        have HM := Lib.hid hm
        rw [hm] at hl4 hu HU HIL
        clear hcc hl hrow hm hu'
        go_wp2_with fail
        have HB0 : Hid (true = srtB l 0) := Lib.hid rfl
        go_loopw [6, 7] (fun b kk wr => ∃ (k : Nat), k ≤ m ∧ kk = .int .i64 k ∧ (∃ bb, b = .bool bb ∧ Hid (bb = srtB l k)) ∧ Hid (Coll w wr (.slice (some ⟨g, off, none⟩) n cap) sv (srtL Y i))) (fun _ kk _ => m - (intOf kk).toNat)
        case atStart => exact ⟨0, Nat.zero_le _, rfl, ⟨true, rfl, HB0⟩, HCo⟩
        case round =>
          clear hu c0
          obtain ⟨k, hk, rfl, ⟨bb, rfl, HBB⟩, HC2⟩ := hrel
          rename World => wr
          have c0 := HC2.out.2.1
          have hu := (HC2.out.2.2.1.cell (p := ⟨g, off + i, none⟩) hg).trans HU.out
          by_cases hkm : k < m
          · obtain ⟨x, hx⟩ := get_at HM.out hkm
            have h99 := good_99 HG.out HL.out hx
            have HBl := Lib.hid (l8Below_any _ l k x (by have := HM.out; omega) hx wr (HIL.out.below HC2.out.2.2.1))
            have HSt := Lib.hid (srtB_step hx (by omega))
            cases bb with
            | false =>
              have HB2 : Hid (false = srtB l (k + 1)) := Lib.hid (by rw [HSt.out, ← HBB.out]; rfl)
              clear hx
              go_wp2_with fail
              exact ⟨⟨k + 1, by omega, by go_num, ⟨_, rfl, HB2⟩, HC2⟩, by simp [intOf]; omega⟩
            | true =>
              generalize bel (l.take k) x = z at *
              have HB2 : Hid (((z : Int) == 0) = srtB l (k + 1)) := Lib.hid (by rw [HSt.out, ← HBB.out, Bool.true_and]; by_cases h0 : z = 0 <;> simp [h0])
              clear hx
              go_wp2_with fail
              refine HBl.out.mono ?_
              rintro e w2 ⟨rfl, hb⟩
              have HC3 := Lib.hid (coll_below HC2.out hb)
              clear hb c0 hu
              go_wp2_with fail
              exact ⟨⟨k + 1, by omega, by go_num, ⟨_, rfl, HB2⟩, HC3⟩, by simp [intOf]; omega⟩
          · obtain rfl : k = m := by omega
            have hSl := srtL_len Y i
            cases bb with
            | false =>
              have HT := Lib.hid (srtL_no HL.out (by rw [HM.out]; exact HBB.out.symm))
              go_wp2_with fail
              refine ⟨⟨i + 1, _, by omega, by go_num, rfl, by rw [HT.out]; exact HC2⟩, by simp [intOf]; omega⟩
            | true =>
              have HT := Lib.hid (srtL_yes HL.out (by rw [HM.out]; exact HBB.out.symm))
              generalize srtL Y i = S at *
              obtain ⟨hrow, hc0, hB, hz, hne⟩ := HC2.out
              have KC0 := Lib.hid hc0
              clear hc0 hne
              go_wp2_with (at_builtin; refine wpList_append_own _ rfl _ _ 28 rfl (w.heap.size + 1) 3 f3 (.int .i64 0) 1 8 Try.underlying28 hi3 hz0 hz1 hz2 rfl (by decide) _ _ _ rfl (hrow.alloc _) ⟨wr.heap.size, 0, none⟩ 1 1 [.int .i64 (i : Int)] rfl rfl (cell_one_new _ _ _) (by simp [Value.oneCell']) (by unfold maxLen; omega) (by omega) (by simp; omega) ?_; intro v' w4 hown' hgrow hnil)
              have HN4 : Hid (Coll w w4 (.slice (some ⟨g, off, none⟩) n cap) v' (srtL Y (i + 1))) := Lib.hid ⟨by rw [HT.out]; simpa [intV] using hown', cell_append hB hrow (by omega) (by omega) hgrow KC0.out, below_append hB hrow (by omega) hgrow, by have := hgrow.size; simp at this; omega, fun e => by have := (hnil.1 e).2; omega⟩
              clear hown' hgrow hnil hrow hB hz
              exact ⟨⟨i + 1, _, by omega, by go_num, rfl, HN4⟩, by simp [intOf]; omega⟩
      · obtain rfl : i = n := by omega
        go_wp2_with fail
        go_ret2
        rw [HX.out]
        exact retL_of HCo.out.1 (Nat.le_succ _) HCo.out.2.2.1
end Go.Proofs.Ythokmklnldoinaa
