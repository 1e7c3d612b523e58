/-
  The draws of the specification: what l1Cur's methods return, as far as their ranges go. No statement of the seat by itself.
-/
import Derived.Test.YtndafdjllbhbfaaProg
import Derived.WalkKit
import Derived.WalkSmall
import Derived.WalkSpells
import Derived.Lib.Hide
import Derived.Lib.BufferOwn
import Derived.Lib.BufferMore
import Derived.Deep.QuietTactic
import Derived.BigQuiet
import Derived.IntWalk
namespace Go.Proofs.Ytndafdjllbhbfaa.D
open Go.RowKit

/-- The state of the draws in block b: the code's slice, the place, the seed. -/
def CurB (W : World) (b : Nat) (v : Value) (at' : Nat) (seed : Int) : Prop := W.heap[b]? = some (.cells #[v, .int .i64 (at' : Int), .int .u64 seed] 73 (0, 0))
theorem CurB.c0 {W : World} {b : Nat} {v : Value} {at' : Nat} {seed : Int} (h : CurB W b v at' seed) : W.cell? ⟨b, 0, none⟩ = some v := by simp [World.cell?, show W.heap[b]? = _ from h]
theorem CurB.c1 {W : World} {b : Nat} {v : Value} {at' : Nat} {seed : Int} (h : CurB W b v at' seed) : W.cell? ⟨b, 1, none⟩ = some (.int .i64 (at' : Int)) := by simp [World.cell?, show W.heap[b]? = _ from h]
theorem CurB.c2 {W : World} {b : Nat} {v : Value} {at' : Nat} {seed : Int} (h : CurB W b v at' seed) : W.cell? ⟨b, 2, none⟩ = some (.int .u64 seed) := by simp [World.cell?, show W.heap[b]? = _ from h]
theorem CurB.fr {W : World} {b : Nat} {v : Value} {at' : Nat} {seed : Int} (h : CurB W b v at' seed) (i : Nat) : W.frozen? ⟨b, i, none⟩ = false := by simp [World.frozen?, show W.heap[b]? = _ from h]
theorem CurB.lt {W : World} {b : Nat} {v : Value} {at' : Nat} {seed : Int} (h : CurB W b v at' seed) : b < W.heap.size := (Array.getElem?_eq_some_iff.1 h).1
theorem CurB.step {W : World} {b : Nat} {v : Value} {at' : Nat} {seed : Int} (h : CurB W b v at' seed) (q : Nat) (sd : Int) : CurB (((W.drewN q).setCell ⟨b, 1, none⟩ (.int .i64 ((at' : Int) + 1))).setCell ⟨b, 2, none⟩ (.int .u64 sd)) b v (at' + 1) sd := by
  have h0 : (W.drewN q).heap[b]? = some (.cells #[v, .int .i64 (at' : Int), .int .u64 seed] 73 (0, 0)) := h
  have h1 := Lib.heap_setCell_same (i := 1) h0 (.int .i64 ((at' : Int) + 1))
  have h2 := Lib.heap_setCell_same (i := 2) h1 (.int .u64 sd)
  unfold CurB
  rw [h2]
  simp
theorem cur_grown (W : World) (b q r : Nat) (u v : Value) : W.grownBy ((((W.drewN q).setCell ⟨b, 1, none⟩ u).setCell ⟨b, 2, none⟩ v).drewN r) (some b) := by
  have h0 : W.grownBy (W.drewN q) (some b) := ⟨rfl, rfl, rfl, Nat.le_refl _, fun _ _ _ => rfl⟩
  have h1 := Lib.grownBy_setB (Lib.grownBy_setB h0 1 u) 2 v
  exact ⟨h1.os, h1.tape, h1.output, h1.size, h1.block⟩

theorem low_byte (z : Int) : ∃ m : Nat, m ≤ 255 ∧ wrap64 (bits BinOp.and IntKind.u64 (IntKind.u64.wrap z / 1099511627776) 255) = (m : Int) := by
  have hw : IntKind.u64.wrap z = z % 18446744073709551616 := IntKind.wrap_u64 z
  rw [hw]
  have h0 : 0 ≤ z % 18446744073709551616 / 1099511627776 := by omega
  have h1 : z % 18446744073709551616 / 1099511627776 < 18446744073709551616 := by omega
  obtain ⟨a, ha⟩ := Int.eq_ofNat_of_zero_le h0
  rw [ha] at h1 ⊢
  have hb := bits_and_u64_nat a 255 (by omega) (by omega)
  have hle : a &&& 255 ≤ 255 := Nat.and_le_right
  refine ⟨a &&& 255, hle, ?_⟩
  have e : bits BinOp.and IntKind.u64 (a : Int) 255 = ((a &&& 255 : Nat) : Int) := hb
  rw [e]
  exact IntWalk.wrap64_in _ (by omega)
theorem ret_num {a b : Int} (h : a = b) : Ending.returned (.int .i64 a) = .returned (.int .i64 b) := by rw [h]

/-- What a draw leaves: a number within bounds, the state one place on, nothing else turned. -/
def DrawPost (W : World) (b : Nat) (v : Value) (at' n : Nat) (e : Ending) (W' : World) : Prop := ∃ (x k : Nat) (sd : Int), e = .returned (.int .i64 (x : Int)) ∧ x < n ∧ k ≤ 2 ∧ CurB W' b v (at' + k) sd ∧ W.grownBy W' (some b)

set_option maxRecDepth 100000 in
set_option maxHeartbeats 1000000 in
theorem next_in (b cb off len cap at' : Nat) (seed : Int) (x : UInt8) (w : World) (hlen : len ≤ 65536) (hat : at' < len) (hC : CurB w b (.slice (some ⟨cb, off, none⟩) len cap) at' seed) (hx : w.cell? ⟨cb, off + at', none⟩ = some (.int .u8 (x.toNat : Int))) :
    Calls Try.prog 81 #[.pointer (some ⟨b, 0, none⟩)] w (DrawPost w b (.slice (some ⟨cb, off, none⟩) len cap) at' 256) := by
  have h0 := hC.c0
  have h1 := hC.c1
  have h2 := hC.c2
  have f1 := hC.fr 1
  have f2 := hC.fr 2
  have g1 : ∀ q, ((w.drewN q).setCell ⟨b, 1, none⟩ (.int .i64 ((at' : Int) + 1))).cell? ⟨b, 2, none⟩ = some (.int .u64 seed) := fun q => by rw [World.cell?_setCell_other _ _ _ _ (by simp)]; exact h2
  have g3 : ∀ q S, (((w.drewN q).setCell ⟨b, 1, none⟩ (.int .i64 ((at' : Int) + 1))).setCell ⟨b, 2, none⟩ (.int .u64 S)).cell? ⟨b, 1, none⟩ = some (.int .i64 ((at' : Int) + 1)) := fun q S => (hC.step q S).c1
  have g4 : ∀ q S, (((w.drewN q).setCell ⟨b, 1, none⟩ (.int .i64 ((at' : Int) + 1))).setCell ⟨b, 2, none⟩ (.int .u64 S)).cell? ⟨b, 0, none⟩ = some (.slice (some ⟨cb, off, none⟩) len cap) := fun q S => (hC.step q S).c0
  have HC := Lib.hid hC
  clear hC
  have hx2 : (x.toNat : Int) < 256 := by have := x.toNat_lt; omega
  have hle : decide ((at' : Int) + 1 ≤ (len : Int)) = true := by simp; omega
  have hlt : decide ((at' : Int) < (len : Int)) = true := by simp; omega
  go_enter Try.func81, Try.ntmps81
  go_wp2_with fail
  go_quiet (fail)
  go_wp2_with fail
  go_quiet (fail)
  go_wp2_with fail
  go_quiet (fail)
  go_wp2_with fail
  go_ret
  exact ⟨x.toNat, 1, _, rfl, by omega, by decide, HC.out.step _ _, cur_grown _ _ _ _ _ _⟩

set_option maxRecDepth 100000 in
set_option maxHeartbeats 1000000 in
theorem next_out (b len cap at' : Nat) (a : Option Addr) (seed : Int) (w : World) (_hlen : len ≤ 65536) (hat : len ≤ at') (hat2 : at' ≤ 1000000) (hC : CurB w b (.slice a len cap) at' seed) :
    Calls Try.prog 81 #[.pointer (some ⟨b, 0, none⟩)] w (DrawPost w b (.slice a len cap) at' 256) := by
  have h0 := hC.c0
  have h1 := hC.c1
  have h2 := hC.c2
  have f1 := hC.fr 1
  have f2 := hC.fr 2
  have g1 : ∀ q, ((w.drewN q).setCell ⟨b, 1, none⟩ (.int .i64 ((at' : Int) + 1))).cell? ⟨b, 2, none⟩ = some (.int .u64 seed) := fun q => by rw [World.cell?_setCell_other _ _ _ _ (by simp)]; exact h2
  have g3 : ∀ q S, (((w.drewN q).setCell ⟨b, 1, none⟩ (.int .i64 ((at' : Int) + 1))).setCell ⟨b, 2, none⟩ (.int .u64 S)).cell? ⟨b, 1, none⟩ = some (.int .i64 ((at' : Int) + 1)) := fun q S => (hC.step q S).c1
  have g4 : ∀ q S, (((w.drewN q).setCell ⟨b, 1, none⟩ (.int .i64 ((at' : Int) + 1))).setCell ⟨b, 2, none⟩ (.int .u64 S)).cell? ⟨b, 0, none⟩ = some (.slice a len cap) := fun q S => (hC.step q S).c0
  have g5 : ∀ q S, (((w.drewN q).setCell ⟨b, 1, none⟩ (.int .i64 ((at' : Int) + 1))).setCell ⟨b, 2, none⟩ (.int .u64 S)).cell? ⟨b, 2, none⟩ = some (.int .u64 S) := fun q S => (hC.step q S).c2
  have HC := Lib.hid hC
  clear hC
  have hle : decide ((at' : Int) + 1 ≤ (len : Int)) = false := by simp; omega
  have hlt : decide ((at' : Int) < (len : Int)) = false := by simp; omega
  go_enter Try.func81, Try.ntmps81
  go_wp2_with fail
  go_quiet (fail)
  go_wp2_with fail
  go_quiet (fail)
  go_wp2_with fail
  go_ret
  obtain ⟨m, hm, he⟩ := low_byte (IntKind.u64.wrap (IntKind.u64.wrap (seed * 6364136223846793005)) + 906906)
  exact ⟨m, 1, _, ret_num he, by omega, by decide, HC.out.step _ _, cur_grown _ _ _ _ _ _⟩

/-- The bytes that the draws read lie in an older block than b. -/
def CodeOK (W : World) (b : Nat) (a : Option Addr) (len : Nat) : Prop := ∀ j, j < len → ∃ (cb off : Nat) (x : UInt8), a = some ⟨cb, off, none⟩ ∧ cb < b ∧ W.cell? ⟨cb, off + j, none⟩ = some (.int .u8 (x.toNat : Int))
/-- The draws' state in block b, at most N places on. -/
def Cur (W : World) (b : Nat) (v : Value) (N : Nat) : Prop := ∃ (a : Option Addr) (len cap at' : Nat) (seed : Int), v = .slice a len cap ∧ len ≤ 65536 ∧ CurB W b v at' seed ∧ at' ≤ N ∧ CodeOK W b a len
theorem CodeOK.kept {W W' : World} {b : Nat} {a : Option Addr} {len : Nat} {row : Option Nat} (h : CodeOK W b a len) (hb : b < W.heap.size) (hg : W.grownBy W' row) (hr : ∀ r, row = some r → b ≤ r) : CodeOK W' b a len := fun j hj => by
  obtain ⟨cb, off, x, e, hlt, hc⟩ := h j hj
  refine ⟨cb, off, x, e, hlt, ?_⟩
  rw [World.cell?_of_block (hg.block cb (by omega) (by
    intro e'; have := hr cb e'.symm; omega))]
  exact hc
theorem Cur.kept {W W' : World} {b : Nat} {v : Value} {N : Nat} {row : Option Nat} (h : Cur W b v N) (hg : W.grownBy W' row) (hr : ∀ r, row = some r → b < r) : Cur W' b v N := by
  obtain ⟨a, len, cap, at', seed, rfl, hl, hC, hN, hK⟩ := h
  exact ⟨a, len, cap, at', seed, rfl, hl, (hg.block b hC.lt (by intro e; have := hr b e.symm; omega)).trans hC, hN, hK.kept hC.lt hg (fun r e => Nat.le_of_lt (hr r e))⟩
theorem Cur.more {W : World} {b : Nat} {v : Value} {N M : Nat} (h : Cur W b v N) (hm : N ≤ M) : Cur W b v M := by
  obtain ⟨a, len, cap, at', seed, rfl, hl, hC, hN, hK⟩ := h
  exact ⟨a, len, cap, at', seed, rfl, hl, hC, by omega, hK⟩
theorem Cur.below {W W' : World} {b : Nat} {v : Value} {N : Nat} (h : Cur W b v N) (hb : Below W.heap.size W W') : Cur W' b v N := by
  obtain ⟨a, len, cap, at', seed, rfl, hl, hC, hN, hK⟩ := h
  have hg : W.grownBy W' none := ⟨hb.os, hb.tape, hb.output, hb.size, fun k hk _ => hb.block k hk⟩
  exact ⟨a, len, cap, at', seed, rfl, hl, (hb.block b hC.lt).trans hC, hN, hK.kept hC.lt hg (by simp)⟩
theorem Cur.lt {W : World} {b : Nat} {v : Value} {N : Nat} (h : Cur W b v N) : b < W.heap.size := by
  obtain ⟨a, len, cap, at', seed, rfl, hl, hC, hN, hK⟩ := h
  exact hC.lt

/-- A draw: a number below n, the state further on, nothing else turned. -/
def PickPost (W : World) (b : Nat) (v : Value) (N n : Nat) (e : Ending) (W' : World) : Prop := ∃ x : Nat, e = .returned (.int .i64 (x : Int)) ∧ x < n ∧ Cur W' b v N ∧ W.grownBy W' (some b)

theorem next_any (b N : Nat) (v : Value) (hN : N ≤ 900000) (w : World) (h : Cur w b v N) : Calls Try.prog 81 #[.pointer (some ⟨b, 0, none⟩)] w (PickPost w b v (N + 2) 256) := by
  obtain ⟨a, len, cap, at', seed, rfl, hl, hC, hat, hK⟩ := h
  have fin : ∀ e W', DrawPost w b (.slice a len cap) at' 256 e W' → PickPost w b (.slice a len cap) (N + 2) 256 e W' := by
    rintro e W' ⟨x, k, sd, he, hx, hk, hC', hg⟩
    exact ⟨x, he, hx, ⟨a, len, cap, at' + k, sd, rfl, hl, hC', by omega, hK.kept hC.lt hg (fun r e => by cases e; exact Nat.le_refl _)⟩, hg⟩
  by_cases h1 : at' < len
  · obtain ⟨cb, off, x, rfl, _, hc⟩ := hK at' h1
    exact (next_in b cb off len cap at' seed x w hl h1 hC hc).mono fin
  · exact (next_out b len cap at' a seed w hl (by omega) (by omega) hC).mono fin

set_option maxHeartbeats 1000000 in
theorem pick_any (b N n : Nat) (v : Value) (hN : N ≤ 800000) (hn0 : 0 < n) (hn : n ≤ 65536) (w : World) (h : Cur w b v N) : Calls Try.prog 71 #[.pointer (some ⟨b, 0, none⟩), .int .i64 (n : Int)] w (PickPost w b v (N + 4) n) := by
  have H := Lib.hid h
  clear h
  by_cases h1 : n ≤ 1
  · go_enter Try.func71, Try.ntmps71
    go_wp2_with fail
    go_ret
    obtain ⟨a, len, cap, at', seed, rfl, hl, hC, hat, hK⟩ := H.out
    exact ⟨0, rfl, hn0, ⟨a, len, cap, at', seed, rfl, hl, hC, by omega, hK⟩, ⟨rfl, rfl, rfl, Nat.le_refl _, fun _ _ _ => rfl⟩⟩
  · by_cases h2 : 200 < n
    · go_enter Try.func71, Try.ntmps71
      go_wp2_with fail
      refine (next_any b N v (by omega) _ H.out).mono ?_
      rintro e w1 ⟨x, rfl, hx, hc1, hg1⟩
      have H1 := Lib.hid hc1
      have G1 := Lib.hid hg1
      clear hc1 hg1
      go_wp2_with fail
      refine (next_any b (N + 2) v (by omega) _ H1.out).mono ?_
      rintro e w2 ⟨y, rfl, hy, hc2, hg2⟩
      have H2 := Lib.hid hc2
      have G2 : Hid (w.grownBy w2 (some b)) := Lib.hid (Lib.grownBy_trans G1.out hg2)
      clear hc2 hg2
      go_wp2_with fail
      go_ret
      refine ⟨(x * 256 + y) % n, ret_num ?_, Nat.mod_lt _ hn0, H2.out, G2.out⟩
      first | rfl | omega
    · go_enter Try.func71, Try.ntmps71
      go_wp2_with fail
      refine (next_any b N v (by omega) _ H.out).mono ?_
      rintro e w1 ⟨x, rfl, hx, hc1, hg1⟩
      have H1 := Lib.hid hc1
      have G1 := Lib.hid hg1
      clear hc1 hg1
      go_wp2_with fail
      go_ret
      obtain ⟨a, len, cap, at', seed, rfl, hl, hC, hat, hK⟩ := H1.out
      refine ⟨x % n, ret_num ?_, Nat.mod_lt _ hn0, ⟨a, len, cap, at', seed, rfl, hl, hC, by omega, hK⟩, G1.out⟩
      first | rfl | omega
end Go.Proofs.Ytndafdjllbhbfaa.D
