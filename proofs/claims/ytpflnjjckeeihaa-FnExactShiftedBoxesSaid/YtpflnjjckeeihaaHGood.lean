/-
  Whether a bay is valid: spec.l9Good and the two IsValidBay; whether it has a row. No statement of the seat by itself.
-/
import Derived.Test.YtpflnjjckeeihaaHRet
namespace Go.Proofs.Ytpflnjjckeeihaa
open Go.RowKit

/-- Whether a bay is valid. -/
def goodB (hh : Int) (Y : List (List Int)) : Bool := decide (1 ≤ hh ∧ hh ≤ 4) && goodH 5 hh.toNat Y
theorem goodB_high {hh : Int} {Y : List (List Int)} (h : ¬ (1 ≤ hh ∧ hh ≤ 4)) : goodB hh Y = false := by unfold goodB; rw [decide_eq_false h]; rfl
theorem goodB_nat {H : Nat} {Y : List (List Int)} (h1 : 1 ≤ H) (h4 : H ≤ 4) : goodB (H : Int) Y = goodH 5 H Y := by unfold goodB; rw [decide_eq_true (by omega)]; simp
theorem goodB_iff {hh : Int} {Y : List (List Int)} : goodB hh Y = true ↔ (1 ≤ hh ∧ hh ≤ 4) ∧ goodH 5 hh.toNat Y = true := by simp [goodB]
theorem goodB_rows {hh : Int} {Y : List (List Int)} (h : goodB hh Y = true) : 1 ≤ Y.length ∧ Y.length ≤ 5 ∧ (∀ l ∈ Y, l.length ≤ 4) ∧ Seen Y.flatten := by
  obtain ⟨h1, h2⟩ := goodB_iff.1 h
  obtain ⟨a, b, c, d⟩ := goodH_iff.1 h2
  exact ⟨a, b, fun l hl => by have := c l hl; omega, d⟩
/-- While the numbers are collected. -/
def CollB (w wr : World) (hh : Int) (v0 sv : Value) (S : List Int) : Prop := wr.ownsRow (w.heap.size + 1) 3 1 sv S.length (intV S) ∧ wr.cell? ⟨w.heap.size, 1, none⟩ = some v0 ∧ Below w.heap.size w wr ∧ w.heap.size + 1 ≤ wr.heap.size ∧ sv ≠ .slice none 0 0 ∧ wr.cell? ⟨w.heap.size, 0, none⟩ = some (.int .i64 hh)
theorem CollB.drewN {w wr : World} {hh : Int} {v0 sv : Value} {S : List Int} (h : CollB w wr hh v0 sv S) (q : Nat) : CollB w (wr.drewN q) hh v0 sv S :=
  ⟨row_below h.1 (below_drewN (Below.refl _ _) q), h.2.1, below_drewN h.2.2.1 q, h.2.2.2.1, h.2.2.2.2.1, h.2.2.2.2.2⟩
theorem collB_start (w : World) (hh : Int) (v0 : Value) (T : TypeId) : CollB w ((w.alloc (.cells #[.int .i64 hh, v0] T)).alloc (.cells #[] 3)) hh v0 (.slice (some ⟨w.heap.size + 1, 0, none⟩) 0 0) [] := by
  have h := own_empty (w.alloc (.cells #[.int .i64 hh, v0] T)) (.cells #[] 3) 3 rfl
  rw [show (w.alloc (.cells #[.int .i64 hh, v0] T)).heap.size = w.heap.size + 1 by simp] at h
  have hB := Box2.new w hh v0 T
  exact ⟨by simpa [intV] using h, (World.cell?_alloc_lt _ _ ⟨w.heap.size, 1, none⟩ hB.1).trans hB.2.2, ((Below.refl _ w).alloc (Nat.le_refl _) _).alloc (by simp) _, by simp, by simp, (World.cell?_alloc_lt _ _ ⟨w.heap.size, 0, none⟩ hB.1).trans hB.2.1⟩

set_option maxRecDepth 100000 in
set_option maxHeartbeats 4000000 in
theorem l9Good_any (v : Value) (hh : Int) (Y : List (List Int)) (hn : Y.length ≤ maxLen) (hs : ∀ (j : Nat) (l : List Int), Y[j]? = some l → l.length ≤ maxLen) (w : World) (h : BdR w v hh Y) :
    Calls Try.prog 90 #[v] w (BoolP w (goodB hh Y)) := by
  obtain ⟨f3, hi3, hz0, hz1, hz2⟩ := info_is info3
  obtain ⟨v0, rfl, a, cap, rfl, hc⟩ := h
  obtain ⟨n, hl⟩ : ∃ n, Y.length = n := ⟨_, rfl⟩
  have HN := Lib.hid hl
  have HC := Lib.hid hc
  have HS := Lib.hid hs
  rw [hl] at hn ⊢
  unfold maxLen at hn
  have B0 := Lib.hid (below_one w (.cells #[.int .i64 hh, .slice a n cap] 37))
  clear hc hs hl
  have C0 := Lib.hid (collB_start w hh (.slice a n cap) 37)
  by_cases hhi : 1 ≤ hh ∧ hh ≤ 4
  case neg =>
    have HI := Lib.hid (fun W => l1In_no hh 1 4 W (by omega))
    have HF : Hid (goodB hh Y = false) := Lib.hid (goodB_high hhi)
    clear hhi
    go_enter Try.func90, Try.ntmps90
    go_wp2_with fail
    refine (HI.out _).mono ?_
    rintro e w1 ⟨rfl, rfl⟩
    go_wp2_with fail
    go_ret
    exact ⟨by rw [HF.out]; rfl, B0.out⟩
  obtain ⟨H, rfl⟩ : ∃ H : Nat, hh = (H : Int) := ⟨hh.toNat, by omega⟩
  have hH : H ≤ 4 := by omega
  have HJ := Lib.hid (fun W => l1In_yes (H : Int) 1 4 W (by omega) (by omega))
  have HG := Lib.hid (goodB_nat (Y := Y) (by omega) hH)
  clear hhi
  by_cases hin : 1 ≤ n ∧ n ≤ 5
  · obtain ⟨h1, h6⟩ := hin
    have HI := Lib.hid (fun W => l1In_yes (n : Int) 1 5 W (by omega) (by omega))
    go_enter Try.func90, Try.ntmps90
    go_wp2_with fail
    refine (HJ.out _).mono ?_
    rintro e w1 ⟨rfl, rfl⟩
    go_wp2_with fail
    refine (HI.out _).mono ?_
    rintro e w1 ⟨rfl, rfl⟩
    go_wp2_with fail
    go_loopw [3, 4] (fun s i wr => ∃ (k : Nat) (S : List Int), k ≤ n ∧ i = .int .i64 k ∧ Hid (CollB w wr (H : Int) (.slice a n cap) s S) ∧ Hid (PartH H Y k [] 0 S)) (fun _ i _ => n - (intOf i).toNat)
    case atStart => exact ⟨0, [], Nat.zero_le _, rfl, C0, Lib.hid (PartH.start H Y)⟩
    case round =>
      obtain ⟨i, S, hi, rfl, HCo, HP⟩ := hrel
      rename World => wo
      have c0 := HCo.out.2.1
      have ch := HCo.out.2.2.2.2.2
      by_cases hlt : i < n
      · obtain ⟨l, hl⟩ := get_at HN.out hlt
        obtain ⟨g, off, rfl, hg, hcc⟩ := HC.out (by have := HN.out; omega)
        obtain ⟨u, hu', hil⟩ := hcc i l hl
        have hu := (HCo.out.2.2.1.cell (p := ⟨g, off + i, none⟩) hg).trans hu'
        have hsm := HS.out i l hl
        unfold maxLen at hsm
        obtain ⟨a2, c2, rfl, hrow⟩ := hil
        have HU := Lib.hid hu'
        have HR := Lib.hid hrow
        have HL := Lib.hid hl
        obtain ⟨m, hm⟩ : ∃ m, l.length = m := ⟨_, rfl⟩
        have HM := Lib.hid hm
        rw [hm] at hsm hu HU
        clear hcc hl hrow hm hu'
        by_cases h4 : m ≤ H
        · have hd2 : decide (H < m) = false := by simp; omega
          go_wp2_with fail
          go_quiet (fail)
          go_wp2_with fail
          go_loopw [3, 5] (fun s kk wr => ∃ (k : Nat) (S : List Int), k ≤ m ∧ kk = .int .i64 k ∧ Hid (CollB w wr (H : Int) (.slice (some ⟨g, off, none⟩) n cap) s S) ∧ Hid (PartH H Y i l k S)) (fun _ kk _ => m - (intOf kk).toNat)
          case atStart => exact ⟨0, S, Nat.zero_le _, rfl, Lib.hid (HCo.out.drewN _), Lib.hid (HP.out.row l)⟩
          case round =>
            clear hu c0 ch
            obtain ⟨k, S2, hk, rfl, HC2, HP2⟩ := hrel
            have c0 := HC2.out.2.1
            have ch := HC2.out.2.2.2.2.2
            have hu := (HC2.out.2.2.1.cell (p := ⟨g, off + i, none⟩) hg).trans HU.out
            by_cases hkm : k < m
            · obtain ⟨g2, off2, rfl, hg2, hcc2⟩ := HR.out (by have := HM.out; omega)
              obtain ⟨x, hx⟩ := get_at HM.out hkm
              have hxc := (HC2.out.2.2.1.cell (p := ⟨g2, off2 + k, none⟩) hg2).trans (hcc2 k x hx)
              clear hcc2
              by_cases hr : 1 ≤ x ∧ x ≤ 99
              · have HX := Lib.hid (fun W => l1In_yes x 1 99 W hr.1 hr.2)
                have hSl : S2.length ≤ 1000 := by have := HP2.out.2.2.1; omega
                by_cases hmem : x ∈ S2
                · have HF := Lib.hid (HG.out.trans (HP2.out.no (M := 5) HL.out hx hmem))
                  have HHas := Lib.hid (l1Has_any _ S2 x _ hSl _ HC2.out.1)
                  rw [show hasB S2 x = true by simp [hasB, hmem]] at HHas
                  clear hr hx hmem hSl
                  go_wp2_with fail
                  refine (HX.out _).mono ?_
                  rintro e w1 ⟨rfl, rfl⟩
                  go_wp2_with fail
                  refine HHas.out.mono ?_
                  rintro e w1 ⟨rfl, rfl⟩
                  go_wp2_with fail
                  go_ret
                  exact ⟨by rw [HF.out]; rfl, HC2.out.2.2.1⟩
                · have HHas := Lib.hid (l1Has_any _ S2 x _ hSl _ HC2.out.1)
                  rw [show hasB S2 x = false by simp [hasB, hmem]] at HHas
                  have HP3 := Lib.hid (HP2.out.step hx hr hmem)
                  clear hr hx hmem
                  obtain ⟨hrow, hc0, hB, hz, hne, hc1⟩ := HC2.out
                  have KC0 := Lib.hid hc0
                  have KC1 := Lib.hid hc1
                  clear hc0 hne hc1
                  go_wp2_with fail
                  refine (HX.out _).mono ?_
                  rintro e w1 ⟨rfl, rfl⟩
                  go_wp2_with fail
                  refine HHas.out.mono ?_
                  rintro e w2 ⟨rfl, rfl⟩
                  clear c0 ch hu hxc
                  go_wp2_with (at_builtin; refine wpList_append_own _ rfl _ _ 24 rfl (w.heap.size + 1) 3 f3 (.int .i64 0) 1 8 Try.underlying24 hi3 hz0 hz1 hz2 rfl (by decide) _ _ _ rfl (hrow.alloc _) ⟨wr.heap.size, 0, none⟩ 1 1 [.int .i64 x] rfl rfl (cell_one_new _ _ _) (by simp [Value.oneCell']) (by unfold maxLen; omega) (by omega) (by simp; omega) ?_; intro v' w4 hown' hgrow hnil)
                  have hB4 : Below w.heap.size w w4 := (hB.alloc hB.size _).grown hgrow (by simp; omega) (fun j e => by have := row_base hrow j e; omega)
                  have hz4 : w.heap.size + 1 ≤ w4.heap.size := by have := hgrow.size; simp at this; omega
                  have c4 : w4.cell? ⟨w.heap.size, 1, none⟩ = some (.slice (some ⟨g, off, none⟩) n cap) := by
                    rw [World.cell?_of_block (hgrow.block w.heap.size (by simp; omega) (fun e => by have := row_base hrow _ e.symm; omega)), World.cell?_alloc_lt _ _ _ (by simp; omega)]
                    exact KC0.out
                  have c5 : w4.cell? ⟨w.heap.size, 0, none⟩ = some (.int .i64 (H : Int)) := by
                    rw [World.cell?_of_block (hgrow.block w.heap.size (by simp; omega) (fun e => by have := row_base hrow _ e.symm; omega)), World.cell?_alloc_lt _ _ _ (by simp; omega)]
                    exact KC1.out
                  have HN4 : Hid (CollB w w4 (H : Int) (.slice (some ⟨g, off, none⟩) n cap) v' (S2 ++ [x])) := Lib.hid ⟨by simpa [intV] using hown', c4, hB4, hz4, fun e => by have := (hnil.1 e).2; omega, c5⟩
                  clear hown' hgrow hnil hB4 hz4 hrow hB hz c4 c5
                  exact ⟨⟨k + 1, S2 ++ [x], by omega, by go_num, HN4, HP3⟩, by simp [intOf]; omega⟩
              · have HX := Lib.hid (fun W => l1In_no x 1 99 W (by omega))
                have HF := Lib.hid (HG.out.trans (goodH_range (M := 5) (H := H) HL.out hx hr))
                clear hr hx
                go_wp2_with fail
                refine (HX.out _).mono ?_
                rintro e w1 ⟨rfl, rfl⟩
                go_wp2_with fail
                go_ret
                exact ⟨by rw [HF.out]; rfl, HC2.out.2.2.1⟩
            · obtain rfl : k = m := by omega
              have HP3 := Lib.hid (HP2.out.next HL.out HM.out h4 hH)
              go_wp2_with fail
              refine ⟨⟨i + 1, S2, by omega, by go_num, HC2, HP3⟩, by simp [intOf]; omega⟩
        · have HF := Lib.hid (HG.out.trans (goodH_row (M := 5) (H := H) HL.out (by have := HM.out; omega)))
          go_wp2_with fail
          go_quiet (fail)
          go_wp2_with fail
          go_ret
          exact ⟨by rw [HF.out]; rfl, below_drewN HCo.out.2.2.1 _⟩
      · obtain rfl : i = n := by omega
        have HF := Lib.hid (HG.out.trans (HP.out.done (M := 5) HN.out h1 h6))
        go_wp2_with fail
        go_ret
        exact ⟨by rw [HF.out]; rfl, HCo.out.2.2.1⟩
  · have HI := Lib.hid (fun W => l1In_no (n : Int) 1 5 W (by omega))
    have HF : Hid (goodB (H : Int) Y = false) := Lib.hid (HG.out.trans (goodH_not fun h => by have := HN.out; omega))
    go_enter Try.func90, Try.ntmps90
    go_wp2_with fail
    refine (HJ.out _).mono ?_
    rintro e w1 ⟨rfl, rfl⟩
    go_wp2_with fail
    refine (HI.out _).mono ?_
    rintro e w1 ⟨rfl, rfl⟩
    go_wp2_with fail
    go_ret
    exact ⟨by rw [HF.out]; rfl, B0.out⟩

theorem goodB_spec (v : Value) (hh : Int) (Y : List (List Int)) (h1 : Y.length ≤ 1048576) (h2 : tot Y ≤ 1048576) (w : World) (h : BdR w v hh Y) : Calls Try.prog 90 #[v] w (BoolP w (goodB hh Y)) := l9Good_any v hh Y (small_len h1) (small_rows h2) w h
set_option maxRecDepth 100000 in
set_option maxHeartbeats 1000000 in
theorem goodB_impl (v : Value) (hh : Int) (Y : List (List Int)) (h1 : Y.length ≤ 1048576) (h2 : tot Y ≤ 1048576) (w : World) (h : BdR w v hh Y) : Calls Try.prog 24 #[v] w (BoolP w (goodB hh Y)) := by
  obtain ⟨v0, rfl, hv⟩ := h
  have B0 := Lib.hid (below_one w (.cells #[.int .i64 hh, v0] 37))
  by_cases hhi : 1 ≤ hh ∧ hh ≤ 4
  · obtain ⟨H, rfl⟩ : ∃ H : Nat, hh = (H : Int) := ⟨hh.toNat, by omega⟩
    have HZ := Lib.hid (areStacks_any v0 Y 5 H (by decide) (by omega) (small_len h1) (small_rows h2) _ (hv.below B0.out))
    rw [goodB_nat (by omega) (by omega)]
    have hd1 : decide ((1 : Int) ≤ (H : Int)) = true := by simp; omega
    have hd2 : decide ((H : Int) ≤ 4) = true := by simp; omega
    have hd3 : decide (1 ≤ H) = true := by simp; omega
    have hd4 : decide (H ≤ 4) = true := by simp; omega
    clear hv h1 h2
    go_enter Try.func24, Try.ntmps24
    go_wp2_with fail
    refine HZ.out.mono ?_
    rintro e w1 ⟨rfl, hb⟩
    have B1 := Lib.hid (B0.out.trans (hb.mono B0.out.size))
    clear hb
    go_wp2_with fail
    go_ret
    exact ⟨rfl, B1.out⟩
  · rw [goodB_high hhi]
    by_cases h1 : 1 ≤ hh
    · have hd2 : decide (hh ≤ 4) = false := by simp; omega
      have hd1 : decide (1 ≤ hh) = true := by simp; omega
      clear hv hhi
      go_enter Try.func24, Try.ntmps24
      go_wp2_with fail
      go_ret
      exact ⟨by simp, B0.out⟩
    · have hd1 : decide (1 ≤ hh) = false := by simp; omega
      clear hv hhi
      go_enter Try.func24, Try.ntmps24
      go_wp2_with fail
      go_ret
      exact ⟨by simp, B0.out⟩

/-- Whether a bay is valid and has a row. -/
def okB (hh : Int) (Y : List (List Int)) (s : Int) : Bool := goodB hh Y && decide (0 ≤ s ∧ s < (Y.length : Int))
theorem okB_iff {hh : Int} {Y : List (List Int)} {s : Int} : okB hh Y s = true ↔ goodB hh Y = true ∧ 0 ≤ s ∧ s < (Y.length : Int) := by simp [okB]
theorem okB_not {hh : Int} {Y : List (List Int)} {s : Int} (h : goodB hh Y = true → ¬ (0 ≤ s ∧ s < (Y.length : Int))) : okB hh Y s = false := by
  cases hb : okB hh Y s with
  | false => rfl
  | true => exact absurd (okB_iff.1 hb).2 (h (okB_iff.1 hb).1)
end Go.Proofs.Ytpflnjjckeeihaa
