/-
  The draws of numbers, each settled by the world before the call. No statement of the seat by itself.
-/
import Derived.Test.YtdnbkfpcmjijlaaDCur
namespace Go.Proofs.Ytdnbkfpcmjijlaa.D
open Go.RowKit

set_option maxRecDepth 100000 in
set_option maxHeartbeats 1000000 in
theorem nextIn_det (b cb off len cap at' : Nat) (seed : Int) (x : UInt8) (w : World) (hlen : len ≤ 65536) (hat : at' < len) (hC : CurB w b (.slice (some ⟨cb, off, none⟩) len cap) at' seed) (hx : w.cell? ⟨cb, off + at', none⟩ = some (.int .u8 (x.toNat : Int))) :
    Calls Try.prog 69 #[.pointer (some ⟨b, 0, none⟩)] w fun e W' => e = .returned (.int .i64 (x.toNat : Int)) ∧ ∃ (k : Nat) (sd : Int), k ≤ 2 ∧ CurB W' b (.slice (some ⟨cb, off, none⟩) len cap) (at' + k) sd ∧ w.grownBy W' (some b) := by
  have h0 := hC.c0
  have h1 := hC.c1
  have h2 := hC.c2
  have f1 := hC.fr 1
  have f2 := hC.fr 2
  have g1 : ∀ q, ((w.drewN q).setCell ⟨b, 1, none⟩ (.int .i64 ((at' : Int) + 1))).cell? ⟨b, 2, none⟩ = some (.int .u64 seed) := fun q => by rw [World.cell?_setCell_other _ _ _ _ (by simp)]; exact h2
  have g3 : ∀ q S, (((w.drewN q).setCell ⟨b, 1, none⟩ (.int .i64 ((at' : Int) + 1))).setCell ⟨b, 2, none⟩ (.int .u64 S)).cell? ⟨b, 1, none⟩ = some (.int .i64 ((at' : Int) + 1)) := fun q S => (hC.step q S).c1
  have g4 : ∀ q S, (((w.drewN q).setCell ⟨b, 1, none⟩ (.int .i64 ((at' : Int) + 1))).setCell ⟨b, 2, none⟩ (.int .u64 S)).cell? ⟨b, 0, none⟩ = some (.slice (some ⟨cb, off, none⟩) len cap) := fun q S => (hC.step q S).c0
  have HC := Lib.hid hC
  clear hC
  have hx2 : (x.toNat : Int) < 256 := by have := x.toNat_lt; omega
  have hle : decide ((at' : Int) + 1 ≤ (len : Int)) = true := by simp; omega
  have hlt : decide ((at' : Int) < (len : Int)) = true := by simp; omega
  go_enter Try.func69, Try.ntmps69
  go_wp2_with fail
  go_quiet (fail)
  go_wp2_with fail
  go_quiet (fail)
  go_wp2_with fail
  go_quiet (fail)
  go_wp2_with fail
  go_ret
  exact ⟨rfl, 1, _, by decide, HC.out.step _ _, cur_grown _ _ _ _ _ _⟩

set_option maxRecDepth 100000 in
set_option maxHeartbeats 1000000 in
theorem nextOut_det (b len cap at' : Nat) (a : Option Addr) (seed : Int) (w : World) (_hlen : len ≤ 65536) (hat : len ≤ at') (hat2 : at' ≤ 1000000) (hC : CurB w b (.slice a len cap) at' seed) :
    ∃ m : Nat, m ≤ 255 ∧ Calls Try.prog 69 #[.pointer (some ⟨b, 0, none⟩)] w fun e W' => e = .returned (.int .i64 (m : Int)) ∧ ∃ (k : Nat) (sd : Int), k ≤ 2 ∧ CurB W' b (.slice a len cap) (at' + k) sd ∧ w.grownBy W' (some b) := by
  obtain ⟨m, hm, he'⟩ := low_byte (IntKind.u64.wrap (IntKind.u64.wrap (seed * 6364136223846793005)) + 906906)
  have HE := Lib.hid he'
  clear he'
  refine ⟨m, hm, ?_⟩
  have h0 := hC.c0
  have h1 := hC.c1
  have h2 := hC.c2
  have f1 := hC.fr 1
  have f2 := hC.fr 2
  have g1 : ∀ q, ((w.drewN q).setCell ⟨b, 1, none⟩ (.int .i64 ((at' : Int) + 1))).cell? ⟨b, 2, none⟩ = some (.int .u64 seed) := fun q => by rw [World.cell?_setCell_other _ _ _ _ (by simp)]; exact h2
  have g3 : ∀ q S, (((w.drewN q).setCell ⟨b, 1, none⟩ (.int .i64 ((at' : Int) + 1))).setCell ⟨b, 2, none⟩ (.int .u64 S)).cell? ⟨b, 1, none⟩ = some (.int .i64 ((at' : Int) + 1)) := fun q S => (hC.step q S).c1
  have g4 : ∀ q S, (((w.drewN q).setCell ⟨b, 1, none⟩ (.int .i64 ((at' : Int) + 1))).setCell ⟨b, 2, none⟩ (.int .u64 S)).cell? ⟨b, 0, none⟩ = some (.slice a len cap) := fun q S => (hC.step q S).c0
  have g5 : ∀ q S, (((w.drewN q).setCell ⟨b, 1, none⟩ (.int .i64 ((at' : Int) + 1))).setCell ⟨b, 2, none⟩ (.int .u64 S)).cell? ⟨b, 2, none⟩ = some (.int .u64 S) := fun q S => (hC.step q S).c2
  have HC := Lib.hid hC
  clear hC
  have hle : decide ((at' : Int) + 1 ≤ (len : Int)) = false := by simp; omega
  have hlt : decide ((at' : Int) < (len : Int)) = false := by simp; omega
  go_enter Try.func69, Try.ntmps69
  go_wp2_with fail
  go_quiet (fail)
  go_wp2_with fail
  go_quiet (fail)
  go_wp2_with fail
  go_ret
  exact ⟨ret_num HE.out, 1, _, by decide, HC.out.step _ _, cur_grown _ _ _ _ _ _⟩


/-- The next draw's number is settled by the world. -/
theorem next_det (b N : Nat) (v : Value) (hN : N ≤ 900000) (w : World) (h : Cur w b v N) : ∃ m : Nat, m ≤ 255 ∧ Calls Try.prog 69 #[.pointer (some ⟨b, 0, none⟩)] w fun e W' => e = .returned (.int .i64 (m : Int)) ∧ Cur W' b v (N + 2) ∧ w.grownBy W' (some b) := by
  obtain ⟨a, len, cap, at', seed, rfl, hl, hC, hat, hK⟩ := h
  have fin : ∀ (m : Nat) (e : Ending) (W' : World), (e = .returned (.int .i64 (m : Int)) ∧ ∃ (k : Nat) (sd : Int), k ≤ 2 ∧ CurB W' b (.slice a len cap) (at' + k) sd ∧ w.grownBy W' (some b)) → e = .returned (.int .i64 (m : Int)) ∧ Cur W' b (.slice a len cap) (N + 2) ∧ w.grownBy W' (some b) := by
    rintro m e W' ⟨he, k, sd, hk, hC', hg⟩
    exact ⟨he, ⟨a, len, cap, at' + k, sd, rfl, hl, hC', by omega, hK.kept hC.lt hg (fun r e => by cases e; exact Nat.le_refl _)⟩, hg⟩
  by_cases h1 : at' < len
  · obtain ⟨cb, off, x, rfl, _, hc⟩ := hK at' h1
    exact ⟨x.toNat, by have := x.toNat_lt; omega, (nextIn_det b cb off len cap at' seed x w hl h1 hC hc).mono (fin _)⟩
  · obtain ⟨m, hm, hm2⟩ := nextOut_det b len cap at' a seed w hl (by omega) (by omega) hC
    exact ⟨m, hm, hm2.mono (fin _)⟩
set_option maxHeartbeats 1000000 in
theorem pick_det (b N n : Nat) (v : Value) (hN : N ≤ 800000) (hn0 : 1 < n) (hn : n ≤ 200) (w : World) (h : Cur w b v N) : ∃ x : Nat, x < n ∧ Calls Try.prog 46 #[.pointer (some ⟨b, 0, none⟩), .int .i64 (n : Int)] w fun e W' => e = .returned (.int .i64 (x : Int)) ∧ Cur W' b v (N + 4) ∧ w.grownBy W' (some b) := by
  obtain ⟨m, hm, hC⟩ := next_det b N v (by omega) w h
  refine ⟨m % n, Nat.mod_lt _ (by omega), ?_⟩
  have HC := Lib.hid hC
  clear hC h
  go_enter Try.func46, Try.ntmps46
  go_wp2_with fail
  refine HC.out.mono ?_
  rintro e w1 ⟨rfl, hc1, hg1⟩
  have H1 := Lib.hid hc1
  have G1 := Lib.hid hg1
  clear hc1 hg1
  go_wp2_with fail
  go_ret
  refine ⟨ret_num ?_, H1.out.more (by omega), G1.out⟩
  first | rfl | omega
end Go.Proofs.Ytdnbkfpcmjijlaa.D
