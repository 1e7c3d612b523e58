/-
  What impl.IsValidYard returns. No statement of the seat by itself.
-/
import Derived.Test.YtlfappmafaakhaaGood
namespace Go.Proofs.Ytlfappmafaakhaa
open Go.RowKit

theorem isBox_any (x : Int) (w : World) : Calls Try.prog 107 #[.int .i64 x] w fun e w' => e = .returned (.bool (decide (1 ≤ x ∧ x ≤ 99))) ∧ w = w' := by
  by_cases h1 : 1 ≤ x
  · by_cases h2 : x ≤ 99
    · rw [show decide (1 ≤ x ∧ x ≤ 99) = true by simp; omega]
      go_enter Try.func107, Try.ntmps107
      go_wp2
      go_ret
      exact ⟨by simp, rfl⟩
    · rw [show decide (1 ≤ x ∧ x ≤ 99) = false by simp; omega]
      have h3 : decide (x ≤ 99) = false := by simp; omega
      clear h2
      go_enter Try.func107, Try.ntmps107
      go_wp2
      go_ret
      exact ⟨by simp, rfl⟩
  · rw [show decide (1 ≤ x ∧ x ≤ 99) = false by simp; omega]
    have h2 : decide (1 ≤ x) = false := by simp; omega
    clear h1
    go_enter Try.func107, Try.ntmps107
    go_wp2
    go_ret
    exact ⟨by simp, rfl⟩

/-- The array that tells which numbers were met. -/
def MetB (W : World) (M : Nat) (L : List Int) : Prop := ∃ cur : Array Value, W.heap[M]? = some (.cells cur 108 (0, 0)) ∧ cur.size = 100 ∧ ∀ j : Nat, j < 100 → cur[j]? = some (.bool (hasB L (j : Int)))
theorem MetB.cell {W : World} {M : Nat} {L : List Int} (h : MetB W M L) (j : Nat) (hj : j < 100) : W.cell? ⟨M, j, none⟩ = some (.bool (hasB L (j : Int))) := by
  obtain ⟨cur, hb, hs, hc⟩ := h
  simp [World.cell?, hb, hc j hj]
theorem MetB.free {W : World} {M : Nat} {L : List Int} (h : MetB W M L) (j : Nat) : W.frozen? ⟨M, j, none⟩ = false := by
  obtain ⟨cur, hb, hs, hc⟩ := h
  simp [World.frozen?, hb]
theorem MetB.step {W : World} {M : Nat} {L : List Int} (h : MetB W M L) (x : Nat) (hx : x < 100) : MetB (W.setCell ⟨M, x, none⟩ (.bool true)) M (L ++ [(x : Int)]) := by
  obtain ⟨cur, hb, hs, hc⟩ := h
  refine ⟨cur.setIfInBounds x (.bool true), Lib.heap_setCell_same hb _, by simpa using hs, fun j hj => ?_⟩
  by_cases e : x = j
  · subst e
    rw [Array.getElem?_setIfInBounds_self_of_lt (by omega)]
    simp [hasB]
  · rw [Array.getElem?_setIfInBounds_ne e, hc j hj]
    have : ((j : Int) ∈ L ++ [(x : Int)]) ↔ (j : Int) ∈ L := by simp; intro h; omega
    simp only [hasB, this]
/-- While the numbers are met. -/
def CollM (w wr : World) (v0 : Value) (S : List Int) : Prop := MetB wr (w.heap.size + 1) S ∧ wr.cell? ⟨w.heap.size, 0, none⟩ = some v0 ∧ Below w.heap.size w wr
theorem CollM.step {w wr : World} {v0 : Value} {S : List Int} (h : CollM w wr v0 S) (x : Nat) (hx : x < 100) : CollM w (wr.setCell ⟨w.heap.size + 1, x, none⟩ (.bool true)) v0 (S ++ [(x : Int)]) := by
  obtain ⟨h1, h2, h3⟩ := h
  exact ⟨h1.step x hx, by rw [set_cell_ne _ _ _ _ _ _ (by omega)]; exact h2, h3.setCell (p := ⟨w.heap.size + 1, x, none⟩) (by show w.heap.size ≤ w.heap.size + 1; omega) _⟩
theorem collM_start (w : World) (v0 : Value) (T : TypeId) (cur : Array Value) (hs : cur.size = 100) (hc : ∀ j, j < 100 → cur[j]? = some (.bool false)) : CollM w ((w.alloc (.cells #[v0] T)).alloc (.cells cur 108)) v0 [] := by
  have h := heap_alloc_new (w.alloc (.cells #[v0] T)) (.cells cur 108)
  rw [show (w.alloc (.cells #[v0] T)).heap.size = w.heap.size + 1 by simp] at h
  refine ⟨⟨cur, h, hs, fun j hj => by rw [hc j hj]; simp [hasB]⟩, ?_, ((Below.refl _ w).alloc (Nat.le_refl _) _).alloc (by simp) _⟩
  rw [World.cell?_alloc_lt _ _ _ (by simp)]; simp
theorem hundred : Try.zeroCells108 = Array.replicate 100 (.bool false) := by kernel_rfl

set_option maxRecDepth 100000 in
set_option maxHeartbeats 4000000 in
theorem implValid_any (v : Value) (Y : List (List Int)) (hn : Y.length ≤ maxLen) (hs : ∀ (j : Nat) (l : List Int), Y[j]? = some l → l.length ≤ maxLen) (w : World) (h : YdR w v Y) :
    Calls Try.prog 68 #[v] w (BoolP w (goodY Y)) := by
  obtain ⟨v0, rfl, a, cap, rfl, hc⟩ := h
  obtain ⟨n, hl⟩ : ∃ n, Y.length = n := ⟨_, rfl⟩
  have HN := Lib.hid hl
  have HC := Lib.hid hc
  have HS := Lib.hid hs
  rw [hl] at hn ⊢
  unfold maxLen at hn
  have B0 := Lib.hid (below_one w (.cells #[.slice a n cap] 26))
  have C0 := Lib.hid (collM_start w (.slice a n cap) 26 Try.zeroCells108 (by rw [hundred]; simp) (fun j hj => by rw [hundred]; simp [hj]))
  clear hc hs hl
  by_cases hin : 1 ≤ n ∧ n ≤ 6
  · obtain ⟨h1, h6⟩ := hin
    go_enter Try.func68, Try.ntmps68
    go_wp2_with fail
    go_loopw [21] (fun i wr => ∃ (k : Nat) (S : List Int), k ≤ n ∧ i = .int .i64 k ∧ Hid (CollM w wr (.slice a n cap) S) ∧ Hid (Part Y k [] 0 S)) (fun i _ => n - (intOf i).toNat)
    case atStart => exact ⟨0, [], Nat.zero_le _, rfl, C0, Lib.hid (Part.start Y)⟩
    case round =>
      obtain ⟨i, S, hi, rfl, HCo, HP⟩ := hrel
      rename World => wo
      by_cases hlt : i < n
      · obtain ⟨l, hl⟩ := get_at HN.out hlt
        obtain ⟨g, off, rfl, hg, hcc⟩ := HC.out (by have := HN.out; omega)
        obtain ⟨u, hu', hil⟩ := hcc i l hl
        have hu := (HCo.out.2.2.cell (p := ⟨g, off + i, none⟩) hg).trans hu'
        have hsm := HS.out i l hl
        unfold maxLen at hsm
        obtain ⟨a2, c2, rfl, hrow⟩ := hil
        have HR := Lib.hid hrow
        have HL := Lib.hid hl
        obtain ⟨m, hm⟩ : ∃ m, l.length = m := ⟨_, rfl⟩
        have HM := Lib.hid hm
        rw [hm] at hsm hu
        clear hcc hl hrow hm hu'
        by_cases h4 : m ≤ 4
        · go_wp2_with fail
          go_loopw [30] (fun kk wr => ∃ (k : Nat) (S : List Int), k ≤ m ∧ kk = .int .i64 k ∧ Hid (CollM w wr (.slice (some ⟨g, off, none⟩) n cap) S) ∧ Hid (Part Y i l k S)) (fun kk _ => m - (intOf kk).toNat)
          case atStart => exact ⟨0, S, Nat.zero_le _, rfl, HCo, Lib.hid (HP.out.row l)⟩
          case round =>
            clear hu
            obtain ⟨k, S2, hk, rfl, HC2, HP2⟩ := hrel
            by_cases hkm : k < m
            · obtain ⟨g2, off2, rfl, hg2, hcc2⟩ := HR.out (by have := HM.out; omega)
              obtain ⟨x, hx⟩ := get_at HM.out hkm
              have hxc := (HC2.out.2.2.cell (p := ⟨g2, off2 + k, none⟩) hg2).trans (hcc2 k x hx)
              clear hcc2
              by_cases hr : 1 ≤ x ∧ x ≤ 99
              · obtain ⟨xn, rfl⟩ : ∃ xn : Nat, x = (xn : Int) := ⟨x.toNat, by omega⟩
                have hx100 : xn < 100 := by omega
                have hxi : (xn : Int) < 100 := by omega
                have HX := Lib.hid (fun W => isBox_any (xn : Int) W)
                rw [decide_eq_true hr] at HX
                have hcx := HC2.out.1.cell xn hx100
                have hfx := HC2.out.1.free xn
                by_cases hmem : (xn : Int) ∈ S2
                · have HF := Lib.hid (HP2.out.no HL.out hx hmem)
                  rw [show hasB S2 (xn : Int) = true by simp [hasB, hmem]] at hcx
                  clear hr hx hmem
                  go_wp2_with fail
                  refine (HX.out _).mono ?_
                  rintro e w1 ⟨rfl, rfl⟩
                  go_wp2_with fail
                  go_ret
                  exact ⟨by rw [HF.out]; rfl, HC2.out.2.2⟩
                · rw [show hasB S2 (xn : Int) = false by simp [hasB, hmem]] at hcx
                  have HP3 := Lib.hid (HP2.out.step hx hr hmem)
                  have HC3 := Lib.hid (HC2.out.step xn hx100)
                  clear hr hx hmem
                  go_wp2_with fail
                  refine (HX.out _).mono ?_
                  rintro e w1 ⟨rfl, rfl⟩
                  go_wp2_with fail
                  exact ⟨⟨k + 1, _, by omega, by go_num, HC3, HP3⟩, by simp [intOf]; omega⟩
              · have HX := Lib.hid (fun W => isBox_any x W)
                rw [decide_eq_false hr] at HX
                have HF := Lib.hid (good_range HL.out hx hr)
                clear hr hx
                go_wp2_with fail
                refine (HX.out _).mono ?_
                rintro e w1 ⟨rfl, rfl⟩
                go_wp2_with fail
                go_ret
                exact ⟨by rw [HF.out]; rfl, HC2.out.2.2⟩
            · obtain rfl : k = m := by omega
              have HP3 := Lib.hid (HP2.out.next HL.out HM.out h4)
              go_wp2_with fail
              refine ⟨⟨i + 1, S2, by omega, by go_num, HC2, HP3⟩, by simp [intOf]; omega⟩
        · have HF := Lib.hid (good_row HL.out (by have := HM.out; omega))
          go_wp2_with fail
          go_ret
          exact ⟨by rw [HF.out]; rfl, HCo.out.2.2⟩
      · obtain rfl : i = n := by omega
        have HF := Lib.hid (HP.out.done HN.out h1 h6)
        go_wp2_with fail
        go_ret
        exact ⟨by rw [HF.out]; rfl, HCo.out.2.2⟩
  · have HF : Hid (goodY Y = false) := Lib.hid (goodY_not fun h => by have := HN.out; omega)
    have hor : n < 1 ∨ 6 < n := by omega
    clear hin
    rcases hor with h1 | h6
    all_goals
      go_enter Try.func68, Try.ntmps68
      go_wp2_with fail
      go_ret
      exact ⟨by rw [HF.out]; rfl, B0.out⟩
end Go.Proofs.Ytlfappmafaakhaa
