/-
  What impl.blockingIn, impl.layout.bound and spec.l6Rank return. No statement of the seat by itself.
-/
import Derived.Test.YtmkejgbbgknalaaBndM
import Derived.Test.YtmkejgbbgknalaaRunT
namespace Go.Proofs.Ytmkejgbbgknalaa
open Go.RowKit

set_option maxRecDepth 100000 in
set_option maxHeartbeats 2000000 in
theorem blocking_any : ∀ (n : Nat) (l : List Nat), l.length = n → n ≤ 8 → (∀ d ∈ l, 1 ≤ d ∧ d ≤ 9) → ∀ w : World,
    Calls Try.prog 111 #[.int .i64 (encL l : Int)] w fun e w' => e = .returned (.tuple #[.int .i64 ((blkC l).1 : Int), .int .i64 ((blkC l).2 : Int)]) ∧ w = w'
  | 0, l, h, _, _, w => by
    rw [List.eq_nil_of_length_eq_zero h]
    rw [show ((encL [] : Nat) : Int) = 0 from rfl, show ((blkC []).1 : Int) = 0 from rfl, show ((blkC []).2 : Int) = 9 from rfl]
    go_enter Try.func111, Try.ntmps111
    go_wp2_with fail
    go_ret2
    exact ⟨rfl, rfl⟩
  | n + 1, l, h, hn8, hd, w => by
    obtain ⟨m, d, rfl⟩ : ∃ m d, l = m ++ [d] := ⟨l.dropLast, l.getLast (by intro e; rw [e] at h; simp at h), (List.dropLast_concat_getLast _).symm⟩
    have hm : m.length = n := by simp at h; omega
    have IH := Lib.hid (blocking_any n m hm (by omega) (fun d hd' => hd d (List.mem_append_left _ hd')))
    have h9 := hd d (by simp)
    have hle := encL_le n m hm fun d hd' => (hd d (List.mem_append_left _ hd')).2
    have h10 : 10 ^ n ≤ 100000000 := Nat.pow_le_pow_right (by decide) (show n ≤ 8 by omega)
    have hc := blkC_le n m hm
    rw [encL_snoc, blkC_snoc]
    show Calls _ _ _ w fun e w' => e = .returned (.tuple #[.int .i64 (((blkC m).1 + (if (blkC m).2 < d then 1 else 0) : Nat) : Int), .int .i64 ((min (blkC m).2 d : Nat) : Int)]) ∧ w = w'
    generalize (blkC m).1 = c at *
    generalize (blkC m).2 = s at *
    generalize encL m = e at *
    obtain ⟨E, hE⟩ : ∃ E : Int, ((e * 10 + d : Nat) : Int) = E := ⟨_, rfl⟩
    rw [hE]
    have hE0 : ¬ E = 0 := by omega
    have hEb : (E == 0) = false := by simpa using hE0
    have hE1 : 0 ≤ E := by omega
    have hE2 : E ≤ 2000000000 := by omega
    have hq : E.tdiv 10 = (e : Int) := by rw [Int.tdiv_eq_ediv_of_nonneg hE1]; omega
    have hr : E.tmod 10 = (d : Int) := by rw [Int.tmod_eq_emod_of_nonneg hE1]; omega
    have hqw : IntKind.i64.wrap (e : Int) = (e : Int) := IntWalk.i64_in _ (by omega)
    have hrw : IntKind.i64.wrap (d : Int) = (d : Int) := IntWalk.i64_in _ (by omega)
    clear hd hle h10 h hm hE
    by_cases hsd : s < d
    · have hsdI : (s : Int) < (d : Int) := by omega
      rw [if_pos hsd, show min s d = s by omega]
      go_enter Try.func111, Try.ntmps111
      go_wp2_with fail
      refine (IH.out _).mono ?_
      rintro e' w1 ⟨rfl, rfl⟩
      go_wp2_with fail
      go_ret2
      refine ⟨?_, rfl⟩
      simp
      try omega
    · have hsdI : ¬ (s : Int) < (d : Int) := by omega
      rw [if_neg hsd, Nat.add_zero, show min s d = d by omega]
      go_enter Try.func111, Try.ntmps111
      go_wp2_with fail
      refine (IH.out _).mono ?_
      rintro e' w1 ⟨rfl, rfl⟩
      go_wp2_with fail
      all_goals
        go_ret2
        refine ⟨?_, rfl⟩
        simp
        try omega

set_option maxHeartbeats 1000000 in
theorem rank_any (v : Value) (O : List Int) (x : Int) (hO : O.length ≤ 1048576) (w : World) (h : IL w v O) :
    Calls Try.prog 110 #[v, .int .i64 x] w fun e w' => e = .returned (.int .i64 (rnk O x : Int)) ∧ w = w' := by
  obtain ⟨a, cap, rfl, hc⟩ := h
  obtain ⟨n, hN⟩ : ∃ n, O.length = n := ⟨_, rfl⟩
  have HN := Lib.hid hN
  have HC := Lib.hid hc
  rw [hN] at hO ⊢
  clear hN hc
  go_enter Try.func110, Try.ntmps110
  go_wp2_with fail
  go_loop [5] (fun i => ∃ k : Nat, k ≤ n ∧ i = .int .i64 k ∧ Hid (∀ (j : Nat) (y : Int), j < k → O[j]? = some y → y ≠ x)) (fun i => n - (intOf i).toNat)
  case atStart => exact ⟨0, Nat.zero_le _, rfl, Lib.hid fun j y hj => by omega⟩
  case round =>
    obtain ⟨k, hk, rfl, HK⟩ := hrel
    by_cases hlt : k < n
    · obtain ⟨g, off, rfl, hg, hcc⟩ := HC.out (by have := HN.out; omega)
      obtain ⟨y, hy⟩ := get_at HN.out hlt
      have a1 := hcc k _ hy
      have HY := Lib.hid hy
      clear hcc hy
      by_cases hyx : y = x
      · subst hyx
        have HX : Hid (rnk O y = k) := Lib.hid (by unfold rnk; rw [atL_some HY.out HK.out])
        have hyb : (y == y) = true := by simp
        go_wp2_with fail
        go_ret
        exact ⟨by rw [HX.out]; rfl, rfl⟩
      · have HK2 : Hid (∀ (j : Nat) (z : Int), j < k + 1 → O[j]? = some z → z ≠ x) := Lib.hid fun j z hj hz => by
          by_cases e : j = k
          · subst e; rw [HY.out] at hz; cases hz; exact hyx
          · exact HK.out j z (by omega) hz
        have hyb : (y == x) = false := by simpa using hyx
        clear hyx
        go_wp2_with fail
        go_round
        case rel => exact ⟨k + 1, by omega, by go_num, HK2⟩
        case measure => simp [intOf]; omega
    · obtain rfl : k = n := by omega
      have HX : Hid (rnk O x = k) := Lib.hid (by
        unfold rnk
        rw [atL_none fun j y hy => HK.out j y (by have := lt_of_get hy; have := HN.out; omega) hy]
        exact HN.out)
      go_wp2_with fail
      go_ret
      exact ⟨by rw [HX.out]; rfl, rfl⟩

/-- A layout: six numbers. -/
def layV (f : Nat → Nat) : Value := .agg #[.int .i64 (f 0 : Int), .int .i64 (f 1 : Int), .int .i64 (f 2 : Int), .int .i64 (f 3 : Int), .int .i64 (f 4 : Int), .int .i64 (f 5 : Int)]
theorem lay_idx0 (x0 x1 x2 x3 x4 x5 : Value) (w : World) : (Instr.index 91 (.agg #[x0, x1, x2, x3, x4, x5]) (.int .i64 0)).run Try.prog w = .ok x0 w := by
  simp [Instr.index, run_underlying Try.underlying91, asIntOf, go_sem]
theorem lay_idx1 (x0 x1 x2 x3 x4 x5 : Value) (w : World) : (Instr.index 91 (.agg #[x0, x1, x2, x3, x4, x5]) (.int .i64 1)).run Try.prog w = .ok x1 w := by
  simp [Instr.index, run_underlying Try.underlying91, asIntOf, go_sem]
theorem lay_idx2 (x0 x1 x2 x3 x4 x5 : Value) (w : World) : (Instr.index 91 (.agg #[x0, x1, x2, x3, x4, x5]) (.int .i64 2)).run Try.prog w = .ok x2 w := by
  simp [Instr.index, run_underlying Try.underlying91, asIntOf, go_sem]
theorem lay_idx3 (x0 x1 x2 x3 x4 x5 : Value) (w : World) : (Instr.index 91 (.agg #[x0, x1, x2, x3, x4, x5]) (.int .i64 3)).run Try.prog w = .ok x3 w := by
  simp [Instr.index, run_underlying Try.underlying91, asIntOf, go_sem]
theorem lay_idx4 (x0 x1 x2 x3 x4 x5 : Value) (w : World) : (Instr.index 91 (.agg #[x0, x1, x2, x3, x4, x5]) (.int .i64 4)).run Try.prog w = .ok x4 w := by
  simp [Instr.index, run_underlying Try.underlying91, asIntOf, go_sem]
theorem lay_idx5 (x0 x1 x2 x3 x4 x5 : Value) (w : World) : (Instr.index 91 (.agg #[x0, x1, x2, x3, x4, x5]) (.int .i64 5)).run Try.prog w = .ok x5 w := by
  simp [Instr.index, run_underlying Try.underlying91, asIntOf, go_sem]
/-- The sum of the first k counts. -/
def sumL (f : Nat → List Nat) : Nat → Nat
  | 0 => 0
  | k + 1 => sumL f k + (blkC (f k)).1

set_option maxRecDepth 100000 in
set_option maxHeartbeats 4000000 in
theorem bound_any (f : Nat → List Nat) (hf : ∀ i, (f i).length ≤ 8 ∧ ∀ d ∈ f i, 1 ≤ d ∧ d ≤ 9) (w : World) :
    Calls Try.prog 76 #[layV fun i => encL (f i)] w (RetP w (.int .i64 (sumL f 6 : Int))) := by
  have HB : Hid (∀ i w, Calls Try.prog 111 #[.int .i64 (encL (f i) : Int)] w fun e w' => e = .returned (.tuple #[.int .i64 ((blkC (f i)).1 : Int), .int .i64 ((blkC (f i)).2 : Int)]) ∧ w = w') := Lib.hid fun i w => blocking_any _ (f i) rfl (hf i).1 (hf i).2 w
  have HC : Hid (∀ i, (blkC (f i)).1 ≤ 8) := Lib.hid fun i => Nat.le_trans (blkC_le _ _ rfl).1 (hf i).1
  have B0 := Lib.hid (below_one w (.cells #[.int .i64 (encL (f 0) : Int), .int .i64 (encL (f 1) : Int), .int .i64 (encL (f 2) : Int), .int .i64 (encL (f 3) : Int), .int .i64 (encL (f 4) : Int), .int .i64 (encL (f 5) : Int)] 91))
  have HS : Hid (∀ k, sumL f k ≤ 8 * k) := Lib.hid fun k => by
    induction k with
    | zero => exact Nat.le_refl _
    | succ k ih => have := HC.out k; unfold sumL; omega
  unfold layV
  clear hf
  go_enter Try.func76, Try.ntmps76
  go_wp2_with fail
  generalize w.alloc (.cells #[.int .i64 (encL (f 0) : Int), .int .i64 (encL (f 1) : Int), .int .i64 (encL (f 2) : Int), .int .i64 (encL (f 3) : Int), .int .i64 (encL (f 4) : Int), .int .i64 (encL (f 5) : Int)] 91) = W at *
  go_loop [3, 5, 6, 7, 9] (fun sm _ _ _ i => ∃ k : Nat, k ≤ 6 ∧ i = .int .i64 k ∧ sm = .int .i64 (sumL f k : Int)) (fun _ _ _ _ i => 6 - (intOf i).toNat)
  case atStart => exact ⟨0, by decide, rfl, rfl⟩
  case round =>
    obtain ⟨k, hk, rfl, rfl⟩ := hrel
    have hs := HS.out k
    have hc := HC.out k
    have HZ := Lib.hid (HB.out k W)
    have HE : Hid (sumL f (k + 1) = sumL f k + (blkC (f k)).1) := Lib.hid rfl
    match k, hk with
    | 0, _ =>
      have he : sumL f 1 = sumL f 0 + (blkC (f 0)).1 := rfl
      clear HE
      generalize (blkC (f 0)).1 = c at *
      generalize (blkC (f 0)).2 = d at *
      generalize sumL f 0 = s0 at *
      have HE := Lib.hid he
      have hix := lay_idx0 (.int .i64 (encL (f 0) : Int)) (.int .i64 (encL (f 1) : Int)) (.int .i64 (encL (f 2) : Int)) (.int .i64 (encL (f 3) : Int)) (.int .i64 (encL (f 4) : Int)) (.int .i64 (encL (f 5) : Int))
      go_wp2_with fail
      refine (HZ.out).mono ?_
      rintro e w1 ⟨rfl, rfl⟩
      go_wp2_with fail
      refine ⟨⟨1, by decide, rfl, val_i (by have := HE.out; omega)⟩, by simp [intOf]⟩
    | 1, _ =>
      have he : sumL f 2 = sumL f 1 + (blkC (f 1)).1 := rfl
      clear HE
      generalize (blkC (f 1)).1 = c at *
      generalize (blkC (f 1)).2 = d at *
      generalize sumL f 1 = s0 at *
      have HE := Lib.hid he
      have hix := lay_idx1 (.int .i64 (encL (f 0) : Int)) (.int .i64 (encL (f 1) : Int)) (.int .i64 (encL (f 2) : Int)) (.int .i64 (encL (f 3) : Int)) (.int .i64 (encL (f 4) : Int)) (.int .i64 (encL (f 5) : Int))
      go_wp2_with fail
      refine (HZ.out).mono ?_
      rintro e w1 ⟨rfl, rfl⟩
      go_wp2_with fail
      refine ⟨⟨2, by decide, rfl, val_i (by have := HE.out; omega)⟩, by simp [intOf]⟩
    | 2, _ =>
      have he : sumL f 3 = sumL f 2 + (blkC (f 2)).1 := rfl
      clear HE
      generalize (blkC (f 2)).1 = c at *
      generalize (blkC (f 2)).2 = d at *
      generalize sumL f 2 = s0 at *
      have HE := Lib.hid he
      have hix := lay_idx2 (.int .i64 (encL (f 0) : Int)) (.int .i64 (encL (f 1) : Int)) (.int .i64 (encL (f 2) : Int)) (.int .i64 (encL (f 3) : Int)) (.int .i64 (encL (f 4) : Int)) (.int .i64 (encL (f 5) : Int))
      go_wp2_with fail
      refine (HZ.out).mono ?_
      rintro e w1 ⟨rfl, rfl⟩
      go_wp2_with fail
      refine ⟨⟨3, by decide, rfl, val_i (by have := HE.out; omega)⟩, by simp [intOf]⟩
    | 3, _ =>
      have he : sumL f 4 = sumL f 3 + (blkC (f 3)).1 := rfl
      clear HE
      generalize (blkC (f 3)).1 = c at *
      generalize (blkC (f 3)).2 = d at *
      generalize sumL f 3 = s0 at *
      have HE := Lib.hid he
      have hix := lay_idx3 (.int .i64 (encL (f 0) : Int)) (.int .i64 (encL (f 1) : Int)) (.int .i64 (encL (f 2) : Int)) (.int .i64 (encL (f 3) : Int)) (.int .i64 (encL (f 4) : Int)) (.int .i64 (encL (f 5) : Int))
      go_wp2_with fail
      refine (HZ.out).mono ?_
      rintro e w1 ⟨rfl, rfl⟩
      go_wp2_with fail
      refine ⟨⟨4, by decide, rfl, val_i (by have := HE.out; omega)⟩, by simp [intOf]⟩
    | 4, _ =>
      have he : sumL f 5 = sumL f 4 + (blkC (f 4)).1 := rfl
      clear HE
      generalize (blkC (f 4)).1 = c at *
      generalize (blkC (f 4)).2 = d at *
      generalize sumL f 4 = s0 at *
      have HE := Lib.hid he
      have hix := lay_idx4 (.int .i64 (encL (f 0) : Int)) (.int .i64 (encL (f 1) : Int)) (.int .i64 (encL (f 2) : Int)) (.int .i64 (encL (f 3) : Int)) (.int .i64 (encL (f 4) : Int)) (.int .i64 (encL (f 5) : Int))
      go_wp2_with fail
      refine (HZ.out).mono ?_
      rintro e w1 ⟨rfl, rfl⟩
      go_wp2_with fail
      refine ⟨⟨5, by decide, rfl, val_i (by have := HE.out; omega)⟩, by simp [intOf]⟩
    | 5, _ =>
      have he : sumL f 6 = sumL f 5 + (blkC (f 5)).1 := rfl
      clear HE
      generalize (blkC (f 5)).1 = c at *
      generalize (blkC (f 5)).2 = d at *
      generalize sumL f 5 = s0 at *
      have HE := Lib.hid he
      have hix := lay_idx5 (.int .i64 (encL (f 0) : Int)) (.int .i64 (encL (f 1) : Int)) (.int .i64 (encL (f 2) : Int)) (.int .i64 (encL (f 3) : Int)) (.int .i64 (encL (f 4) : Int)) (.int .i64 (encL (f 5) : Int))
      go_wp2_with fail
      refine (HZ.out).mono ?_
      rintro e w1 ⟨rfl, rfl⟩
      go_wp2_with fail
      refine ⟨⟨6, by decide, rfl, val_i (by have := HE.out; omega)⟩, by simp [intOf]⟩
    | 6, _ =>
      go_wp2_with fail
      go_ret
      exact ⟨rfl, B0.out⟩
end Go.Proofs.Ytmkejgbbgknalaa
