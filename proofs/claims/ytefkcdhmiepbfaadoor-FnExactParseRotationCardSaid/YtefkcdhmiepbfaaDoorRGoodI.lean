/-
  What impl.IsValidRotation returns. No statement of the seat by itself.
-/
import Derived.Test.YtefkcdhmiepbfaaDoorRGood
namespace Go.Proofs.YtefkcdhmiepbfaaDoor.R
open Go.RowKit

theorem isPort_is (n : Int) (w : World) : Calls Tryd.prog 58 #[.int .i64 n] w fun e w' => e = .returned (.bool (inB 1 9 n)) ∧ w = w' := by
  by_cases h : 1 ≤ n ∧ n ≤ 9
  · rw [inB_yes h.1 h.2]; exact isPort_yes n w h.1 h.2
  · rw [inB_no (by omega)]; exact isPort_no n w (by omega)
theorem isDays_is (n : Int) (w : World) : Calls Tryd.prog 59 #[.int .i64 n] w fun e w' => e = .returned (.bool (inB 1 40 n)) ∧ w = w' := by
  by_cases h : 1 ≤ n ∧ n ≤ 40
  · rw [inB_yes h.1 h.2]; exact isDays_yes n w h.1 h.2
  · rw [inB_no (by omega)]; exact isDays_no n w (by omega)

set_option maxRecDepth 100000 in
set_option maxHeartbeats 4000000 in
theorem implGood_rows (g1 o1 c1 g2 o2 c2 n : Nat) (p d : Nat → Int) (h0 : 1 ≤ n) (h12 : n ≤ 12) (w : World) (h1 : IAt w g1 o1 n p) (h2 : IAt w g2 o2 n d) :
    Calls Tryd.prog 34 #[.agg #[.slice (some ⟨g1, o1, none⟩) n c1, .slice (some ⟨g2, o2, none⟩) n c2]] w (BoolP w (rotB n n p d)) := by
  have H1 := Lib.hid h1
  have H2 := Lib.hid h2
  clear h1 h2
  go_enter Tryd.func34, Tryd.ntmps34
  go_wp2_with fail
  have B := Lib.hid (below_one w (.cells #[.slice (some ⟨g1, o1, none⟩) n c1, .slice (some ⟨g2, o2, none⟩) n c2] 24))
  have r0 : (w.alloc (.cells #[.slice (some ⟨g1, o1, none⟩) n c1, .slice (some ⟨g2, o2, none⟩) n c2] 24)).cell? ⟨w.heap.size, 0, none⟩ = some (.slice (some ⟨g1, o1, none⟩) n c1) := by simp
  have r1 : (w.alloc (.cells #[.slice (some ⟨g1, o1, none⟩) n c1, .slice (some ⟨g2, o2, none⟩) n c2] 24)).cell? ⟨w.heap.size, 1, none⟩ = some (.slice (some ⟨g2, o2, none⟩) n c2) := by simp
  have I1 := Lib.hid (H1.out.below B.out)
  have I2 := Lib.hid (H2.out.below B.out)
  have hW : w.heap.size < (w.alloc (.cells #[.slice (some ⟨g1, o1, none⟩) n c1, .slice (some ⟨g2, o2, none⟩) n c2] 24)).heap.size := by simp
  generalize (w.alloc (.cells #[.slice (some ⟨g1, o1, none⟩) n c1, .slice (some ⟨g2, o2, none⟩) n c2] 24)) = W at *
  go_loopw [22] (fun i wr => ∃ k : Nat, k ≤ n ∧ i = .int .i64 k ∧ Hid (Below W.heap.size W wr) ∧ Hid (∀ j, j < k → okR n p d j = true)) (fun i _ => n - (intOf i).toNat)
  case atStart => exact ⟨0, Nat.zero_le _, rfl, Lib.hid (Below.refl _ _), Lib.hid fun j hj => by omega⟩
  case round =>
    obtain ⟨k, hk, rfl, HB, HK⟩ := hrel
    have s0 := (HB.out.cell (p := ⟨w.heap.size, 0, none⟩) hW).trans r0
    have s1 := (HB.out.cell (p := ⟨w.heap.size, 1, none⟩) hW).trans r1
    clear r0 r1
    by_cases hlt : k < n
    · have a1 := (I1.out.below HB.out).2 k hlt
      have a2 := (I2.out.below HB.out).2 k hlt
      have ht : (k + 1) % n < n := Nat.mod_lt _ (by omega)
      have a3 := (I1.out.below HB.out).2 _ ht
      have HM := Lib.hid (tmod_ix k n)
      have hki : (k : Int) < (n : Int) := by omega
      by_cases hok : okR n p d k = true
      · have HK2 : Hid (∀ j, j < k + 1 → okR n p d j = true) := Lib.hid fun j hj => by
          by_cases e : j = k
          · subst e; exact hok
          · exact HK.out j (by omega)
        obtain ⟨x1, x2, x3, x4, x5⟩ := (okR_iff n p d k).1 hok
        have P1 : inB 1 9 (p k) = true := inB_yes x1 x2
        have P2 : inB 1 40 (d k) = true := inB_yes x3 x4
        clear hok
        by_cases hn1 : 1 < n
        · have hx := x5 hn1
          have hxb : (p k == p ((k + 1) % n)) = false := by simpa using hx
          have hnd : decide ((1 : Int) < (n : Int)) = true := by simp; omega
          clear x5 hx
          generalize (k + 1) % n = t at *
          generalize p k = x at *
          generalize d k = y at *
          generalize p t = z at *
          have hti : (t : Int) < (n : Int) := by omega
          go_wp2_with (first | (go_at_call 58; refine (isPort_is _ _).mono ?_; rintro e w' ⟨rfl, rfl⟩) | (go_at_call 59; refine (isDays_is _ _).mono ?_; rintro e w' ⟨rfl, rfl⟩))
          have hw1 : IntKind.i64.wrap ((k : Int) + 1) = (k : Int) + 1 := IntWalk.i64_in _ (by omega)
          have hm := HM.out
          go_quiet (fail)
          clear hm hw1
          go_wp2_with fail
          refine ⟨⟨k + 1, by omega, by go_num, Lib.hid (below_drewN HB.out _), HK2⟩, by simp [intOf]; omega⟩
        · have hnd : decide ((1 : Int) < (n : Int)) = false := by simp; omega
          clear x5 a3
          generalize p k = x at *
          generalize d k = y at *
          go_wp2_with (first | (go_at_call 58; refine (isPort_is _ _).mono ?_; rintro e w' ⟨rfl, rfl⟩) | (go_at_call 59; refine (isDays_is _ _).mono ?_; rintro e w' ⟨rfl, rfl⟩))
          go_quiet (fail)
          go_wp2_with fail
          refine ⟨⟨k + 1, by omega, by go_num, Lib.hid (below_drewN HB.out _), HK2⟩, by simp [intOf]; omega⟩
      · have HN := Lib.hid (rotB_call (m := n) hlt hok)
        rcases okR_no hok with h | h | ⟨⟨y1, y2⟩, h | h | ⟨⟨y3, y4⟩, hn1, he⟩⟩
        · have P1 : inB 1 9 (p k) = false := inB_no (.inl h)
          clear hok a3 ht
          generalize p k = x at *
          generalize d k = y at *
          go_wp2_with (first | (go_at_call 58; refine (isPort_is _ _).mono ?_; rintro e w' ⟨rfl, rfl⟩) | (go_at_call 59; refine (isDays_is _ _).mono ?_; rintro e w' ⟨rfl, rfl⟩))
          go_ret
          exact ⟨by rw [HN.out]; rfl, B.out.trans (HB.out.mono B.out.size)⟩
        · have P1 : inB 1 9 (p k) = false := inB_no (.inr h)
          clear hok a3 ht
          generalize p k = x at *
          generalize d k = y at *
          go_wp2_with (first | (go_at_call 58; refine (isPort_is _ _).mono ?_; rintro e w' ⟨rfl, rfl⟩) | (go_at_call 59; refine (isDays_is _ _).mono ?_; rintro e w' ⟨rfl, rfl⟩))
          go_ret
          exact ⟨by rw [HN.out]; rfl, B.out.trans (HB.out.mono B.out.size)⟩
        · have P1 : inB 1 9 (p k) = true := inB_yes y1 y2
          have P2 : inB 1 40 (d k) = false := inB_no (.inl h)
          clear hok a3 ht
          generalize p k = x at *
          generalize d k = y at *
          go_wp2_with (first | (go_at_call 58; refine (isPort_is _ _).mono ?_; rintro e w' ⟨rfl, rfl⟩) | (go_at_call 59; refine (isDays_is _ _).mono ?_; rintro e w' ⟨rfl, rfl⟩))
          go_ret
          exact ⟨by rw [HN.out]; rfl, B.out.trans (HB.out.mono B.out.size)⟩
        · have P1 : inB 1 9 (p k) = true := inB_yes y1 y2
          have P2 : inB 1 40 (d k) = false := inB_no (.inr h)
          clear hok a3 ht
          generalize p k = x at *
          generalize d k = y at *
          go_wp2_with (first | (go_at_call 58; refine (isPort_is _ _).mono ?_; rintro e w' ⟨rfl, rfl⟩) | (go_at_call 59; refine (isDays_is _ _).mono ?_; rintro e w' ⟨rfl, rfl⟩))
          go_ret
          exact ⟨by rw [HN.out]; rfl, B.out.trans (HB.out.mono B.out.size)⟩
        · have P1 : inB 1 9 (p k) = true := inB_yes y1 y2
          have P2 : inB 1 40 (d k) = true := inB_yes y3 y4
          have hxb : (p k == p ((k + 1) % n)) = true := by simpa using he
          have hnd : decide ((1 : Int) < (n : Int)) = true := by simp; omega
          clear hok he
          generalize (k + 1) % n = t at *
          generalize p k = x at *
          generalize d k = y at *
          generalize p t = z at *
          have hti : (t : Int) < (n : Int) := by omega
          go_wp2_with (first | (go_at_call 58; refine (isPort_is _ _).mono ?_; rintro e w' ⟨rfl, rfl⟩) | (go_at_call 59; refine (isDays_is _ _).mono ?_; rintro e w' ⟨rfl, rfl⟩))
          have hw1 : IntKind.i64.wrap ((k : Int) + 1) = (k : Int) + 1 := IntWalk.i64_in _ (by omega)
          have hm := HM.out
          go_quiet (fail)
          clear hm hw1
          go_wp2_with fail
          go_ret
          exact ⟨by rw [HN.out]; rfl, B.out.trans ((below_drewN HB.out _).mono B.out.size)⟩
    · obtain rfl : k = n := by omega
      have HY := Lib.hid ((rotB_iff k k p d).2 ⟨⟨h0, h12, rfl⟩, HK.out⟩)
      go_wp2_with fail
      go_ret
      exact ⟨by rw [HY.out]; rfl, B.out.trans (HB.out.mono B.out.size)⟩

set_option maxRecDepth 100000 in
set_option maxHeartbeats 1000000 in
theorem implGood_size (a1 a2 : Option Addr) (c1 c2 n m : Nat) (p d : Nat → Int) (hn : n ≤ maxLen) (_hm : m ≤ maxLen) (h : ¬ (1 ≤ n ∧ n ≤ 12 ∧ m = n)) (w : World) :
    Calls Tryd.prog 34 #[.agg #[.slice a1 n c1, .slice a2 m c2]] w (BoolP w (rotB n m p d)) := by
  have HN := Lib.hid (rotB_size (p := p) (d := d) h)
  unfold maxLen at hn _hm
  by_cases h1 : n < 1
  · clear h
    go_enter Tryd.func34, Tryd.ntmps34
    go_wp2_with fail
    go_ret
    exact ⟨by rw [HN.out]; rfl, below_one _ _⟩
  · by_cases h2 : 12 < n
    · clear h
      go_enter Tryd.func34, Tryd.ntmps34
      go_wp2_with fail
      go_ret
      exact ⟨by rw [HN.out]; rfl, below_one _ _⟩
    · have hne : ((m : Int) != (n : Int)) = true := by simp; omega
      clear h
      go_enter Tryd.func34, Tryd.ntmps34
      go_wp2_with fail
      go_ret
      exact ⟨by rw [HN.out]; rfl, below_one _ _⟩
theorem implGood_any (v : Value) (n m : Nat) (p d : Nat → Int) (hn : n ≤ maxLen) (hm : m ≤ maxLen) (w : World) (h : ArgR w v n m p d) :
    Calls Tryd.prog 34 #[v] w (BoolP w (rotB n m p d)) := by
  obtain ⟨v1, v2, rfl, h1, h2⟩ := h
  by_cases hs : 1 ≤ n ∧ n ≤ 12 ∧ m = n
  · obtain ⟨h0, h12, rfl⟩ := hs
    obtain ⟨g1, o1, c1, rfl, i1⟩ := h1.rows (by omega)
    obtain ⟨g2, o2, c2, rfl, i2⟩ := h2.rows (by omega)
    exact implGood_rows g1 o1 c1 g2 o2 c2 m p d h0 h12 w i1 i2
  · obtain ⟨a1, c1, rfl⟩ := h1.form
    obtain ⟨a2, c2, rfl⟩ := h2.form
    exact implGood_size a1 a2 c1 c2 n m p d hn hm hs w
end Go.Proofs.YtefkcdhmiepbfaaDoor.R
