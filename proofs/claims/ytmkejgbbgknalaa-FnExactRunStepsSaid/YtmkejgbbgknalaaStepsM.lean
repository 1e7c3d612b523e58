/-
  The laws' helpers eqStepS, markStepS, heldStepS. No statement of the seat by itself.
-/
import Derived.Test.YtmkejgbbgknalaaSteps
namespace Go.Proofs.Ytmkejgbbgknalaa
open Go.RowKit

set_option maxRecDepth 100000 in
set_option maxHeartbeats 1000000 in
theorem eqStep_any (a b : Int) (w : World) : Calls Try.prog 69 #[.agg #[.int .i64 a, .int .i64 b], .agg #[.int .i64 a, .int .i64 b]] w fun e w' => e = .returned (.bool true) ∧ Below w.heap.size w w' := by
  have B0 := Lib.hid (((Below.refl _ w).alloc (Nat.le_refl _) (.cells #[.int .i64 a, .int .i64 b] 80)).alloc (by simp) (.cells #[.int .i64 a, .int .i64 b] 80))
  have c0 : ((w.alloc (.cells #[.int .i64 a, .int .i64 b] 80)).alloc (.cells #[.int .i64 a, .int .i64 b] 80)).cell? ⟨w.heap.size, 0, none⟩ = some (.int .i64 a) := by simp
  have c1 : ((w.alloc (.cells #[.int .i64 a, .int .i64 b] 80)).alloc (.cells #[.int .i64 a, .int .i64 b] 80)).cell? ⟨w.heap.size, 1, none⟩ = some (.int .i64 b) := by simp
  have c2 : ((w.alloc (.cells #[.int .i64 a, .int .i64 b] 80)).alloc (.cells #[.int .i64 a, .int .i64 b] 80)).cell? ⟨w.heap.size + 1, 0, none⟩ = some (.int .i64 a) := by simp
  have c3 : ((w.alloc (.cells #[.int .i64 a, .int .i64 b] 80)).alloc (.cells #[.int .i64 a, .int .i64 b] 80)).cell? ⟨w.heap.size + 1, 1, none⟩ = some (.int .i64 b) := by simp
  go_enter Try.func69, Try.ntmps69
  go_wp2_with fail
  generalize (w.alloc (.cells #[.int .i64 a, .int .i64 b] 80)).alloc (.cells #[.int .i64 a, .int .i64 b] 80) = W at *
  go_ret
  exact ⟨rfl, B0.out⟩

set_option maxRecDepth 100000 in
set_option maxHeartbeats 1000000 in
theorem eqS_any (v1 v2 : Value) (S : List (Int × Int)) (hn : S.length ≤ 1048576) (w : World) (h1 : SL w v1 S) (h2 : SL w v2 S) :
    Calls Try.prog 22 #[v1, v2] w fun e w' => e = .returned (.bool true) ∧ Below w.heap.size w w' := by
  obtain ⟨a1, c1, rfl, h1⟩ := h1
  obtain ⟨a2, c2, rfl, h2⟩ := h2
  obtain ⟨n, hl⟩ : ∃ n, S.length = n := ⟨_, rfl⟩
  have HN := Lib.hid hl
  rw [hl] at hn ⊢
  have H1 := Lib.hid h1
  have H2 := Lib.hid h2
  clear h1 h2 hl
  go_enter Try.func22, Try.ntmps22
  go_wp2
  go_loopw [5] (fun i wr => ∃ k : Nat, k ≤ n ∧ i = .int .i64 k ∧ Hid (Below w.heap.size w wr)) (fun i _ => n - (intOf i).toNat)
  case atStart => exact ⟨0, Nat.zero_le _, rfl, Lib.hid (Below.refl _ _)⟩
  case round =>
    obtain ⟨k, hk, rfl, HB⟩ := hrel
    by_cases hlt : k < n
    · obtain ⟨g1, o1, rfl, hg1, hc1⟩ := H1.out (by have := HN.out; omega)
      obtain ⟨g2, o2, rfl, hg2, hc2⟩ := H2.out (by have := HN.out; omega)
      obtain ⟨s, hs⟩ := get_at HN.out hlt
      obtain ⟨x, y⟩ := s
      have a0 : wr.cell? ⟨g1, o1 + k * 2, none⟩ = some (.int .i64 x) := (HB.out.cell (p := ⟨g1, o1 + k * 2, none⟩) hg1).trans (hc1 k _ hs).1
      have a1 : wr.cell? ⟨g1, o1 + k * 2 + 1, none⟩ = some (.int .i64 y) := (HB.out.cell (p := ⟨g1, o1 + k * 2 + 1, none⟩) hg1).trans (hc1 k _ hs).2
      have b0 : wr.cell? ⟨g2, o2 + k * 2, none⟩ = some (.int .i64 x) := (HB.out.cell (p := ⟨g2, o2 + k * 2, none⟩) hg2).trans (hc2 k _ hs).1
      have b1 : wr.cell? ⟨g2, o2 + k * 2 + 1, none⟩ = some (.int .i64 y) := (HB.out.cell (p := ⟨g2, o2 + k * 2 + 1, none⟩) hg2).trans (hc2 k _ hs).2
      have HZ := Lib.hid (fun W => eqStep_any x y W)
      have hki : (k : Int) < (n : Int) := by omega
      clear hc1 hc2 hs
      go_wp2_with fail
      go_still_tail 8, (by kernel_rfl)
      change wpList _ _ _ _ _ wr.drew
      have hbd : Below w.heap.size w wr.drew := below_drewN HB.out 1
      have BD := Lib.hid hbd
      clear hbd
      generalize wr.drew = w2 at *
      go_wp2_with fail
      refine (HZ.out _).mono ?_
      rintro e w3 ⟨rfl, hb3⟩
      have B3 : Hid (Below w.heap.size w w3) := Lib.hid (BD.out.trans (hb3.mono BD.out.size))
      clear hb3
      go_wp2_with fail
      refine ⟨⟨k + 1, by omega, by go_num, B3⟩, by simp [intOf]; omega⟩
    · obtain rfl : k = n := by omega
      go_wp2_with fail
      go_ret
      exact ⟨rfl, HB.out⟩

/-- What is written into the steps: k0, k0 + 1 and so on. -/
def runS (k0 : Int) (n : Nat) : List (Int × Int) := (List.range n).map fun (j : Nat) => (k0 + 2 * (j : Int), k0 + 2 * (j : Int) + 1)
theorem runS_len (k0 : Int) (n : Nat) : (runS k0 n).length = n := by simp [runS]
theorem runS_get {k0 : Int} {n j : Nat} (h : j < n) : (runS k0 n)[j]? = some (k0 + 2 * (j : Int), k0 + 2 * (j : Int) + 1) := by simp [runS, h]
/-- While the marks are written: the first t cells are there. -/
def MarkS (w wr : World) (B : Nat) (v : Value) (n t : Nat) (k0 : Int) : Prop := ∃ xs, wr.ownsRow B 80 2 v n xs ∧ (∀ i, i < t → xs[i]? = some (.int .i64 (k0 + (i : Int)))) ∧ w.grownBy wr v.ownBlock
theorem markS_step {w wr : World} {B g n cap t : Nat} {k0 : Int} (h : MarkS w wr B (.slice (some ⟨g, 0, none⟩) n cap) n t k0) (ht : t < n * 2) : MarkS w (wr.setCell ⟨g, t, none⟩ (.int .i64 (k0 + (t : Int)))) B (.slice (some ⟨g, 0, none⟩) n cap) n (t + 1) k0 := by
  obtain ⟨xs, h1, h2, h3⟩ := h
  obtain ⟨hs, hg⟩ := h1.stored t (.int .i64 (k0 + (t : Int)))
  have hl := h1.1
  refine ⟨_, hs, fun i hi => ?_, Lib.grownBy_trans h3 hg⟩
  by_cases e : i = t
  · subst e; rw [List.getElem?_set_self (by omega)]
  · rw [List.getElem?_set_ne (by omega)]; exact h2 i (by omega)
theorem markS_done {w wr : World} {B n : Nat} {v : Value} {k0 : Int} (h : MarkS w wr B v n (n * 2) k0) : wr.ownsRow B 80 2 v n (flatS (runS k0 n)) ∧ w.grownBy wr v.ownBlock := by
  obtain ⟨xs, h1, h2, h3⟩ := h
  have e : xs = flatS (runS k0 n) := flatS_ext (by rw [runS_len]; exact h1.1) fun j s hs => by
    have hj := lt_of_get hs
    rw [runS_len] at hj
    rw [runS_get hj] at hs
    cases hs
    rw [h2 _ (by omega), h2 _ (by omega)]
    refine ⟨congrArg some (val_i (by simp; omega)), congrArg some (val_i (by simp; omega))⟩
  subst e
  exact ⟨h1, h3⟩

set_option maxRecDepth 100000 in
set_option maxHeartbeats 2000000 in
theorem markS_any (v : Value) (S : List (Int × Int)) (k0 : Int) (B hi : Nat) (hn : S.length ≤ 1048576) (hk0 : 0 ≤ k0) (hk1 : k0 ≤ 10000000) (w : World) (h : SO w B hi v S) :
    Calls Try.prog 24 #[v, .int .i64 k0] w fun e w' => e = .returned (.int .i64 (k0 + 2 * (S.length : Int))) ∧ SO w' B hi v (runS k0 S.length) ∧ Span B hi w w' := by
  obtain ⟨hh, ho, hb⟩ := h
  obtain ⟨n, hl⟩ : ∃ n, S.length = n := ⟨_, rfl⟩
  rw [hl] at hn ho ⊢
  have R0 : Hid (MarkS w w B v n 0 k0) := Lib.hid ⟨_, ho, fun i hi => by omega, ⟨rfl, rfl, rfl, Nat.le_refl _, fun _ _ _ => rfl⟩⟩
  have HF := Lib.hid (show 0 < n → ∃ g cap, v = .slice (some ⟨g, 0, none⟩) n cap from fun h0 => by
    rcases ho.2 with ⟨_, hz⟩ | ⟨g, cap, cur, hv, _⟩
    · omega
    · exact ⟨g, cap, hv⟩)
  have HX := Lib.hid (show ∀ wr, MarkS w wr B v n (n * 2) k0 → SO wr B hi v (runS k0 n) ∧ Span B hi w wr from fun wr hm => by
    obtain ⟨h1, h2⟩ := markS_done hm
    refine ⟨⟨Nat.le_trans hh h2.size, by rw [runS_len]; exact h1, hb⟩, Span.of_grown h2 fun k hk => ⟨row_base ho k hk, hb k hk⟩⟩)
  obtain ⟨a, cap, rfl⟩ := own_form ho
  clear ho hl hb
  go_enter Try.func24, Try.ntmps24
  go_wp2
  go_loopw [1, 5] (fun m i wr => ∃ k : Nat, k ≤ n ∧ i = .int .i64 k ∧ m = .int .i64 (k0 + 2 * (k : Int)) ∧ Hid (MarkS w wr B (.slice a n cap) n (k * 2) k0)) (fun _ i _ => n - (intOf i).toNat)
  case atStart => exact ⟨0, Nat.zero_le _, rfl, by simp, R0⟩
  case round =>
    obtain ⟨k, hk, rfl, rfl, HR⟩ := hrel
    by_cases hlt : k < n
    · obtain ⟨g, cap', e⟩ := HF.out (by omega)
      injection e with e1 e2 e3
      subst e1 e3
      have K1 := markS_step HR.out (by omega)
      have K2 := markS_step K1 (by omega)
      rw [show k0 + ((k * 2 + 1 : Nat) : Int) = k0 + 2 * (k : Int) + 1 by simp; omega, show k0 + ((k * 2 : Nat) : Int) = k0 + 2 * (k : Int) by simp; omega] at K2
      rw [show k0 + ((k * 2 : Nat) : Int) = k0 + 2 * (k : Int) by simp; omega] at K1
      have KT := Lib.hid K2
      have HO : ∃ xs, wr.ownsRow B 80 2 (.slice (some ⟨g, 0, none⟩) n cap) n xs := by obtain ⟨xs, h, _⟩ := HR.out; exact ⟨xs, h⟩
      obtain ⟨xs1, hx1⟩ := HO
      obtain ⟨⟨x0, y0⟩, z0⟩ := ownS_cell hx1 (i := k * 2) (by omega)
      obtain ⟨⟨x1, y1⟩, z1⟩ := ownS_cell hx1 (i := k * 2 + 1) (by omega)
      clear hx1 K1 K2 R0
      obtain ⟨q, hq⟩ : ∃ q : Int, q = k0 + 2 * (k : Int) := ⟨_, rfl⟩
      have hq0 : 0 ≤ q := by omega
      have hq1 : q ≤ 90000000 := by omega
      rw [← hq] at KT ⊢
      have HQ := Lib.hid hq
      clear hq
      go_wp2_with fail
      refine ⟨⟨k + 1, by omega, by go_num, val_i (by have := HQ.out; omega), by rw [show (k + 1) * 2 = k * 2 + 1 + 1 by omega]; exact KT⟩, by simp [intOf]; omega⟩
    · obtain rfl : k = n := by omega
      have HY := Lib.hid (HX.out _ HR.out)
      go_wp2
      go_ret
      exact ⟨rfl, HY.out.1, HY.out.2⟩

set_option maxRecDepth 100000 in
set_option maxHeartbeats 2000000 in
theorem heldS_any (v : Value) (n : Nat) (k0 : Int) (hn : n ≤ 1048576) (hk0 : 0 ≤ k0) (hk1 : k0 ≤ 10000000) (w : World) (h : SL w v (runS k0 n)) :
    Calls Try.prog 35 #[v, .int .i64 k0] w fun e w' => e = .returned (.int .i64 (k0 + 2 * (n : Int))) ∧ Below w.heap.size w w' := by
  obtain ⟨a, c, rfl, hc⟩ := h
  rw [runS_len] at hc ⊢
  have H := Lib.hid hc
  clear hc
  go_enter Try.func35, Try.ntmps35
  go_wp2
  go_loopw [1, 5] (fun m i wr => ∃ k q : Nat, k ≤ n ∧ i = .int .i64 k ∧ m = .int .i64 (k0 + 2 * (k : Int)) ∧ wr = w.drewN q) (fun _ i _ => n - (intOf i).toNat)
  case atStart => exact ⟨0, 0, Nat.zero_le _, rfl, by simp, rfl⟩
  case round =>
    obtain ⟨k, q, hk, rfl, rfl, rfl⟩ := hrel
    by_cases hlt : k < n
    · obtain ⟨g, off, rfl, hg, hcc⟩ := H.out (by omega)
      obtain ⟨hp, hq⟩ := hcc k _ (runS_get hlt)
      obtain ⟨z, hz⟩ : ∃ z : Int, z = k0 + 2 * (k : Int) := ⟨_, rfl⟩
      have hz0 : 0 ≤ z := by omega
      have hz1 : z ≤ 90000000 := by omega
      simp only at hp hq
      rw [← hz] at hp hq ⊢
      have HZ := Lib.hid hz
      clear hz hcc
      go_wp2_with (first | (go_quiet (fail)) | fail)
      first
        | refine ⟨⟨k + 1, q, by omega, by go_num, val_i (by have := HZ.out; omega), rfl⟩, by simp [intOf]; omega⟩
        | refine ⟨⟨k + 1, _, by omega, by go_num, val_i (by have := HZ.out; omega), rfl⟩, by simp [intOf]; omega⟩
    · obtain rfl : k = n := by omega
      go_wp2
      go_ret
      exact ⟨rfl, below_drewN (Below.refl _ _) _⟩
end Go.Proofs.Ytmkejgbbgknalaa
