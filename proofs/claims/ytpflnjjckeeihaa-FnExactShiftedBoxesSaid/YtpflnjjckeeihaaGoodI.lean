/-
  What impl.areStacks and impl.IsValidYard return. No statement of the seat by itself.
-/
import Derived.Test.YtpflnjjckeeihaaGoodM
namespace Go.Proofs.Ytpflnjjckeeihaa
open Go.RowKit

theorem isBox_any (x : Int) (w : World) : Calls Try.prog 81 #[.int .i64 x] w fun e w' => e = .returned (.bool (decide (1 ≤ x ∧ x ≤ 99))) ∧ w = w' := by
  by_cases h1 : 1 ≤ x
  · by_cases h2 : x ≤ 99
    · rw [show decide (1 ≤ x ∧ x ≤ 99) = true by simp; omega]
      go_enter Try.func81, Try.ntmps81
      go_wp2
      go_ret
      exact ⟨by simp, rfl⟩
    · rw [show decide (1 ≤ x ∧ x ≤ 99) = false by simp; omega]
      have h3 : decide (x ≤ 99) = false := by simp; omega
      clear h2
      go_enter Try.func81, Try.ntmps81
      go_wp2
      go_ret
      exact ⟨by simp, rfl⟩
  · rw [show decide (1 ≤ x ∧ x ≤ 99) = false by simp; omega]
    have h2 : decide (1 ≤ x) = false := by simp; omega
    clear h1
    go_enter Try.func81, Try.ntmps81
    go_wp2
    go_ret
    exact ⟨by simp, rfl⟩

/-- The array that tells which numbers were met. -/
def MetB (W : World) (M : Nat) (L : List Int) : Prop := ∃ cur : Array Value, W.heap[M]? = some (.cells cur 98 (0, 0)) ∧ cur.size = 100 ∧ ∀ j : Nat, j < 100 → cur[j]? = some (.bool (hasB L (j : Int)))
theorem MetB.cell {W : World} {M : Nat} {L : List Int} (h : MetB W M L) (j : Nat) (hj : j < 100) : W.cell? ⟨M, j, none⟩ = some (.bool (hasB L (j : Int))) := by
  obtain ⟨cur, hb, hs, hc⟩ := h
  simp [World.cell?, hb, hc j hj]
theorem MetB.free {W : World} {M : Nat} {L : List Int} (h : MetB W M L) (j : Nat) : W.frozen? ⟨M, j, none⟩ = false := by
  obtain ⟨cur, hb, hs, hc⟩ := h
  simp [World.frozen?, hb]
theorem MetB.step {W : World} {M : Nat} {L : List Int} (h : MetB W M L) (x : Nat) (hx : x < 100) : MetB (W.setCell ⟨M, x, none⟩ (.bool true)) M (L ++ [(x : Int)]) := by
  obtain ⟨cur, hb, hs, hc⟩ := h
  refine ⟨cur.setIfInBounds x (.bool true), Lib.heap_setCell_same hb _, by simpa using hs, fun j hj => ?_⟩
  by_cases e : x = j
  · subst e
    rw [Array.getElem?_setIfInBounds_self_of_lt (by omega)]
    simp [hasB]
  · rw [Array.getElem?_setIfInBounds_ne e, hc j hj]
    have : ((j : Int) ∈ L ++ [(x : Int)]) ↔ (j : Int) ∈ L := by simp; intro h; omega
    simp only [hasB, this]
/-- While the numbers are met, in a block of the call's own. -/
def CollA (w wr : World) (S : List Int) : Prop := MetB wr w.heap.size S ∧ Below w.heap.size w wr
theorem CollA.step {w wr : World} {S : List Int} (h : CollA w wr S) (x : Nat) (hx : x < 100) : CollA w (wr.setCell ⟨w.heap.size, x, none⟩ (.bool true)) (S ++ [(x : Int)]) :=
  ⟨h.1.step x hx, h.2.setCell (p := ⟨w.heap.size, x, none⟩) (Nat.le_refl _) _⟩
theorem collA_start (w : World) (cur : Array Value) (hs : cur.size = 100) (hc : ∀ j, j < 100 → cur[j]? = some (.bool false)) : CollA w (w.alloc (.cells cur 98)) [] :=
  ⟨⟨cur, heap_alloc_new w _, hs, fun j hj => by rw [hc j hj]; simp [hasB]⟩, below_one _ _⟩

theorem hundred : Try.zeroCells98 = Array.replicate 100 (.bool false) := by kernel_rfl

set_option maxRecDepth 100000 in
set_option maxHeartbeats 4000000 in
theorem areStacks_any (v : Value) (Y : List (List Int)) (M H : Nat) (hM : M ≤ 1000) (hH : H ≤ 4) (hn : Y.length ≤ maxLen) (hs : ∀ (j : Nat) (l : List Int), Y[j]? = some l → l.length ≤ maxLen) (w : World) (h : YL w v Y) :
    Calls Try.prog 63 #[v, .int .i64 (M : Int), .int .i64 (H : Int)] w (BoolP w (goodH M H Y)) := by
  obtain ⟨a, cap, rfl, hc⟩ := h
  obtain ⟨n, hl⟩ : ∃ n, Y.length = n := ⟨_, rfl⟩
  have HN := Lib.hid hl
  have HC := Lib.hid hc
  have HS := Lib.hid hs
  rw [hl] at hn ⊢
  unfold maxLen at hn
  have B0 := Lib.hid (below_one w (.cells Try.zeroCells98 98))
  have C0 := Lib.hid (collA_start w Try.zeroCells98 (by rw [hundred]; simp) (fun j hj => by rw [hundred]; simp [hj]))
  clear hc hs hl
  by_cases hin : 1 ≤ n ∧ n ≤ M
  · obtain ⟨h1, h6⟩ := hin
    have hd1 : decide (M < n) = false := by simp; omega
    go_enter Try.func63, Try.ntmps63
    go_wp2_with fail
    go_loopw [23] (fun i wr => ∃ (k : Nat) (S : List Int), k ≤ n ∧ i = .int .i64 k ∧ Hid (CollA w wr S) ∧ Hid (PartH H Y k [] 0 S)) (fun i _ => n - (intOf i).toNat)
    case atStart => exact ⟨0, [], Nat.zero_le _, rfl, C0, Lib.hid (PartH.start H Y)⟩
    case round =>
      obtain ⟨i, S, hi, rfl, HCo, HP⟩ := hrel
      rename World => wo
      by_cases hlt : i < n
      · obtain ⟨l, hl⟩ := get_at HN.out hlt
        obtain ⟨g, off, rfl, hg, hcc⟩ := HC.out (by have := HN.out; omega)
        obtain ⟨u, hu', hil⟩ := hcc i l hl
        have hu := (HCo.out.2.cell (p := ⟨g, off + i, none⟩) hg).trans hu'
        have hsm := HS.out i l hl
        unfold maxLen at hsm
        obtain ⟨a2, c2, rfl, hrow⟩ := hil
        have HR := Lib.hid hrow
        have HL := Lib.hid hl
        obtain ⟨m, hm⟩ : ∃ m, l.length = m := ⟨_, rfl⟩
        have HM := Lib.hid hm
        rw [hm] at hsm hu
        clear hcc hl hrow hm hu'
        by_cases h4 : m ≤ H
        · have hd2 : decide (H < m) = false := by simp; omega
          go_wp2_with fail
          go_loopw [33] (fun kk wr => ∃ (k : Nat) (S : List Int), k ≤ m ∧ kk = .int .i64 k ∧ Hid (CollA w wr S) ∧ Hid (PartH H Y i l k S)) (fun kk _ => m - (intOf kk).toNat)
          case atStart => exact ⟨0, S, Nat.zero_le _, rfl, HCo, Lib.hid (HP.out.row l)⟩
          case round =>
            clear hu
            obtain ⟨k, S2, hk, rfl, HC2, HP2⟩ := hrel
            by_cases hkm : k < m
            · obtain ⟨g2, off2, rfl, hg2, hcc2⟩ := HR.out (by have := HM.out; omega)
              obtain ⟨x, hx⟩ := get_at HM.out hkm
              have hxc := (HC2.out.2.cell (p := ⟨g2, off2 + k, none⟩) hg2).trans (hcc2 k x hx)
              clear hcc2
              by_cases hr : 1 ≤ x ∧ x ≤ 99
              · obtain ⟨xn, rfl⟩ : ∃ xn : Nat, x = (xn : Int) := ⟨x.toNat, by omega⟩
                have hx100 : xn < 100 := by omega
                have hxi : (xn : Int) < 100 := by omega
                have HX := Lib.hid (fun W => isBox_any (xn : Int) W)
                rw [decide_eq_true hr] at HX
                have hcx := HC2.out.1.cell xn hx100
                have hfx := HC2.out.1.free xn
                by_cases hmem : (xn : Int) ∈ S2
                · have HF := Lib.hid (HP2.out.no (M := M) HL.out hx hmem)
                  rw [show hasB S2 (xn : Int) = true by simp [hasB, hmem]] at hcx
                  clear hr hx hmem
                  go_wp2_with fail
                  refine (HX.out _).mono ?_
                  rintro e w1 ⟨rfl, rfl⟩
                  go_wp2_with fail
                  go_ret
                  exact ⟨by rw [HF.out]; rfl, HC2.out.2⟩
                · rw [show hasB S2 (xn : Int) = false by simp [hasB, hmem]] at hcx
                  have HP3 := Lib.hid (HP2.out.step hx hr hmem)
                  have HC3 := Lib.hid (HC2.out.step xn hx100)
                  clear hr hx hmem
                  go_wp2_with fail
                  refine (HX.out _).mono ?_
                  rintro e w1 ⟨rfl, rfl⟩
                  go_wp2_with fail
                  exact ⟨⟨k + 1, _, by omega, by go_num, HC3, HP3⟩, by simp [intOf]; omega⟩
              · have HX := Lib.hid (fun W => isBox_any x W)
                rw [decide_eq_false hr] at HX
                have HF := Lib.hid (goodH_range (M := M) (H := H) HL.out hx hr)
                clear hr hx
                go_wp2_with fail
                refine (HX.out _).mono ?_
                rintro e w1 ⟨rfl, rfl⟩
                go_wp2_with fail
                go_ret
                exact ⟨by rw [HF.out]; rfl, HC2.out.2⟩
            · obtain rfl : k = m := by omega
              have HP3 := Lib.hid (HP2.out.next HL.out HM.out h4 hH)
              go_wp2_with fail
              refine ⟨⟨i + 1, S2, by omega, by go_num, HC2, HP3⟩, by simp [intOf]; omega⟩
        · have HF := Lib.hid (goodH_row (M := M) (H := H) HL.out (by have := HM.out; omega))
          go_wp2_with fail
          go_ret
          exact ⟨by rw [HF.out]; rfl, HCo.out.2⟩
      · obtain rfl : i = n := by omega
        have HF := Lib.hid (HP.out.done (M := M) HN.out h1 h6)
        go_wp2_with fail
        go_ret
        exact ⟨by rw [HF.out]; rfl, HCo.out.2⟩
  · have HF : Hid (goodH M H Y = false) := Lib.hid (goodH_not fun h => by have := HN.out; omega)
    have hor : n < 1 ∨ (1 ≤ n ∧ M < n) := by omega
    clear hin
    rcases hor with h1 | ⟨h1, h6⟩
    all_goals
      go_enter Try.func63, Try.ntmps63
      go_wp2_with fail
      go_ret
      exact ⟨by rw [HF.out]; rfl, Below.refl _ _⟩

end Go.Proofs.Ytpflnjjckeeihaa
