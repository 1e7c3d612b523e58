/-
  What the specification draws for the chapter on columns: a column and rules. No statement of the seat by itself.
-/
import Derived.Test.YtalobfpmmembiaaProg
import Derived.WalkKit
import Derived.WalkSmall
import Derived.WalkSpells
import Derived.Lib.Hide
import Derived.Lib.BufferOwn
import Derived.Lib.BufferMore
import Derived.Deep.QuietTactic
import Derived.BigQuiet
import Derived.IntWalk
import Derived.Test.YtalobfpmmembiaaMLc
import Derived.Maps.AppendAt
namespace Go.Proofs.Ytalobfpmmembiaa.D
open Go.RowKit

/-- The state of the draws in block b: the code's slice, the place, the seed. -/
def CurB (W : World) (b : Nat) (v : Value) (at' : Nat) (seed : Int) : Prop := W.heap[b]? = some (.cells #[v, .int .i64 (at' : Int), .int .u64 seed] 77 (0, 0))
theorem CurB.c0 {W : World} {b : Nat} {v : Value} {at' : Nat} {seed : Int} (h : CurB W b v at' seed) : W.cell? ⟨b, 0, none⟩ = some v := by simp [World.cell?, show W.heap[b]? = _ from h]
theorem CurB.c1 {W : World} {b : Nat} {v : Value} {at' : Nat} {seed : Int} (h : CurB W b v at' seed) : W.cell? ⟨b, 1, none⟩ = some (.int .i64 (at' : Int)) := by simp [World.cell?, show W.heap[b]? = _ from h]
theorem CurB.c2 {W : World} {b : Nat} {v : Value} {at' : Nat} {seed : Int} (h : CurB W b v at' seed) : W.cell? ⟨b, 2, none⟩ = some (.int .u64 seed) := by simp [World.cell?, show W.heap[b]? = _ from h]
theorem CurB.fr {W : World} {b : Nat} {v : Value} {at' : Nat} {seed : Int} (h : CurB W b v at' seed) (i : Nat) : W.frozen? ⟨b, i, none⟩ = false := by simp [World.frozen?, show W.heap[b]? = _ from h]
theorem CurB.lt {W : World} {b : Nat} {v : Value} {at' : Nat} {seed : Int} (h : CurB W b v at' seed) : b < W.heap.size := (Array.getElem?_eq_some_iff.1 h).1
theorem CurB.step {W : World} {b : Nat} {v : Value} {at' : Nat} {seed : Int} (h : CurB W b v at' seed) (q : Nat) (sd : Int) : CurB (((W.drewN q).setCell ⟨b, 1, none⟩ (.int .i64 ((at' : Int) + 1))).setCell ⟨b, 2, none⟩ (.int .u64 sd)) b v (at' + 1) sd := by
  have h0 : (W.drewN q).heap[b]? = some (.cells #[v, .int .i64 (at' : Int), .int .u64 seed] 77 (0, 0)) := h
  have h1 := Lib.heap_setCell_same (i := 1) h0 (.int .i64 ((at' : Int) + 1))
  have h2 := Lib.heap_setCell_same (i := 2) h1 (.int .u64 sd)
  unfold CurB
  rw [h2]
  simp
theorem cur_grown (W : World) (b q r : Nat) (u v : Value) : W.grownBy ((((W.drewN q).setCell ⟨b, 1, none⟩ u).setCell ⟨b, 2, none⟩ v).drewN r) (some b) := by
  have h0 : W.grownBy (W.drewN q) (some b) := ⟨rfl, rfl, rfl, Nat.le_refl _, fun _ _ _ => rfl⟩
  have h1 := Lib.grownBy_setB (Lib.grownBy_setB h0 1 u) 2 v
  exact ⟨h1.os, h1.tape, h1.output, h1.size, h1.block⟩

theorem low_byte (z : Int) : ∃ m : Nat, m ≤ 255 ∧ wrap64 (bits BinOp.and IntKind.u64 (IntKind.u64.wrap z / 1099511627776) 255) = (m : Int) := by
  have hw : IntKind.u64.wrap z = z % 18446744073709551616 := IntKind.wrap_u64 z
  rw [hw]
  have h0 : 0 ≤ z % 18446744073709551616 / 1099511627776 := by omega
  have h1 : z % 18446744073709551616 / 1099511627776 < 18446744073709551616 := by omega
  obtain ⟨a, ha⟩ := Int.eq_ofNat_of_zero_le h0
  rw [ha] at h1 ⊢
  have hb := bits_and_u64_nat a 255 (by omega) (by omega)
  have hle : a &&& 255 ≤ 255 := Nat.and_le_right
  refine ⟨a &&& 255, hle, ?_⟩
  have e : bits BinOp.and IntKind.u64 (a : Int) 255 = ((a &&& 255 : Nat) : Int) := hb
  rw [e]
  exact IntWalk.wrap64_in _ (by omega)
theorem ret_num {a b : Int} (h : a = b) : Ending.returned (.int .i64 a) = .returned (.int .i64 b) := by rw [h]

/-- What a draw leaves: a number within bounds, the state one place on, nothing else turned. -/
def DrawPost (W : World) (b : Nat) (v : Value) (at' n : Nat) (e : Ending) (W' : World) : Prop := ∃ (x k : Nat) (sd : Int), e = .returned (.int .i64 (x : Int)) ∧ x < n ∧ k ≤ 2 ∧ CurB W' b v (at' + k) sd ∧ W.grownBy W' (some b)

set_option maxRecDepth 100000 in
set_option maxHeartbeats 1000000 in
theorem next_in (b cb off len cap at' : Nat) (seed : Int) (x : UInt8) (w : World) (hlen : len ≤ 65536) (hat : at' < len) (hC : CurB w b (.slice (some ⟨cb, off, none⟩) len cap) at' seed) (hx : w.cell? ⟨cb, off + at', none⟩ = some (.int .u8 (x.toNat : Int))) :
    Calls Try.prog 88 #[.pointer (some ⟨b, 0, none⟩)] w (DrawPost w b (.slice (some ⟨cb, off, none⟩) len cap) at' 256) := by
  have h0 := hC.c0
  have h1 := hC.c1
  have h2 := hC.c2
  have f1 := hC.fr 1
  have f2 := hC.fr 2
  have g1 : ∀ q, ((w.drewN q).setCell ⟨b, 1, none⟩ (.int .i64 ((at' : Int) + 1))).cell? ⟨b, 2, none⟩ = some (.int .u64 seed) := fun q => by rw [World.cell?_setCell_other _ _ _ _ (by simp)]; exact h2
  have g3 : ∀ q S, (((w.drewN q).setCell ⟨b, 1, none⟩ (.int .i64 ((at' : Int) + 1))).setCell ⟨b, 2, none⟩ (.int .u64 S)).cell? ⟨b, 1, none⟩ = some (.int .i64 ((at' : Int) + 1)) := fun q S => (hC.step q S).c1
  have g4 : ∀ q S, (((w.drewN q).setCell ⟨b, 1, none⟩ (.int .i64 ((at' : Int) + 1))).setCell ⟨b, 2, none⟩ (.int .u64 S)).cell? ⟨b, 0, none⟩ = some (.slice (some ⟨cb, off, none⟩) len cap) := fun q S => (hC.step q S).c0
  have HC := Lib.hid hC
  clear hC
  have hx2 : (x.toNat : Int) < 256 := by have := x.toNat_lt; omega
  have hle : decide ((at' : Int) + 1 ≤ (len : Int)) = true := by simp; omega
  have hlt : decide ((at' : Int) < (len : Int)) = true := by simp; omega
  go_enter Try.func88, Try.ntmps88
  go_wp2_with fail
  go_quiet (fail)
  go_wp2_with fail
  go_quiet (fail)
  go_wp2_with fail
  go_quiet (fail)
  go_wp2_with fail
  go_ret
  exact ⟨x.toNat, 1, _, rfl, by omega, by decide, HC.out.step _ _, cur_grown _ _ _ _ _ _⟩

set_option maxRecDepth 100000 in
set_option maxHeartbeats 1000000 in
theorem next_out (b len cap at' : Nat) (a : Option Addr) (seed : Int) (w : World) (_hlen : len ≤ 65536) (hat : len ≤ at') (hat2 : at' ≤ 1000000) (hC : CurB w b (.slice a len cap) at' seed) :
    Calls Try.prog 88 #[.pointer (some ⟨b, 0, none⟩)] w (DrawPost w b (.slice a len cap) at' 256) := by
  have h0 := hC.c0
  have h1 := hC.c1
  have h2 := hC.c2
  have f1 := hC.fr 1
  have f2 := hC.fr 2
  have g1 : ∀ q, ((w.drewN q).setCell ⟨b, 1, none⟩ (.int .i64 ((at' : Int) + 1))).cell? ⟨b, 2, none⟩ = some (.int .u64 seed) := fun q => by rw [World.cell?_setCell_other _ _ _ _ (by simp)]; exact h2
  have g3 : ∀ q S, (((w.drewN q).setCell ⟨b, 1, none⟩ (.int .i64 ((at' : Int) + 1))).setCell ⟨b, 2, none⟩ (.int .u64 S)).cell? ⟨b, 1, none⟩ = some (.int .i64 ((at' : Int) + 1)) := fun q S => (hC.step q S).c1
  have g4 : ∀ q S, (((w.drewN q).setCell ⟨b, 1, none⟩ (.int .i64 ((at' : Int) + 1))).setCell ⟨b, 2, none⟩ (.int .u64 S)).cell? ⟨b, 0, none⟩ = some (.slice a len cap) := fun q S => (hC.step q S).c0
  have g5 : ∀ q S, (((w.drewN q).setCell ⟨b, 1, none⟩ (.int .i64 ((at' : Int) + 1))).setCell ⟨b, 2, none⟩ (.int .u64 S)).cell? ⟨b, 2, none⟩ = some (.int .u64 S) := fun q S => (hC.step q S).c2
  have HC := Lib.hid hC
  clear hC
  have hle : decide ((at' : Int) + 1 ≤ (len : Int)) = false := by simp; omega
  have hlt : decide ((at' : Int) < (len : Int)) = false := by simp; omega
  go_enter Try.func88, Try.ntmps88
  go_wp2_with fail
  go_quiet (fail)
  go_wp2_with fail
  go_quiet (fail)
  go_wp2_with fail
  go_ret
  obtain ⟨m, hm, he⟩ := low_byte (IntKind.u64.wrap (IntKind.u64.wrap (seed * 6364136223846793005)) + 906906)
  exact ⟨m, 1, _, ret_num he, by omega, by decide, HC.out.step _ _, cur_grown _ _ _ _ _ _⟩

/-- The bytes that the draws read lie in an older block than b. -/
def CodeOK (W : World) (b : Nat) (a : Option Addr) (len : Nat) : Prop := ∀ j, j < len → ∃ (cb off : Nat) (x : UInt8), a = some ⟨cb, off, none⟩ ∧ cb < b ∧ W.cell? ⟨cb, off + j, none⟩ = some (.int .u8 (x.toNat : Int))
/-- The draws' state in block b, at most N places on. -/
def Cur (W : World) (b : Nat) (v : Value) (N : Nat) : Prop := ∃ (a : Option Addr) (len cap at' : Nat) (seed : Int), v = .slice a len cap ∧ len ≤ 65536 ∧ CurB W b v at' seed ∧ at' ≤ N ∧ CodeOK W b a len
theorem CodeOK.kept {W W' : World} {b : Nat} {a : Option Addr} {len : Nat} {row : Option Nat} (h : CodeOK W b a len) (hb : b < W.heap.size) (hg : W.grownBy W' row) (hr : ∀ r, row = some r → b ≤ r) : CodeOK W' b a len := fun j hj => by
  obtain ⟨cb, off, x, e, hlt, hc⟩ := h j hj
  refine ⟨cb, off, x, e, hlt, ?_⟩
  rw [World.cell?_of_block (hg.block cb (by omega) (by
    intro e'; have := hr cb e'.symm; omega))]
  exact hc
theorem Cur.kept {W W' : World} {b : Nat} {v : Value} {N : Nat} {row : Option Nat} (h : Cur W b v N) (hg : W.grownBy W' row) (hr : ∀ r, row = some r → b < r) : Cur W' b v N := by
  obtain ⟨a, len, cap, at', seed, rfl, hl, hC, hN, hK⟩ := h
  exact ⟨a, len, cap, at', seed, rfl, hl, (hg.block b hC.lt (by intro e; have := hr b e.symm; omega)).trans hC, hN, hK.kept hC.lt hg (fun r e => Nat.le_of_lt (hr r e))⟩
theorem Cur.more {W : World} {b : Nat} {v : Value} {N M : Nat} (h : Cur W b v N) (hm : N ≤ M) : Cur W b v M := by
  obtain ⟨a, len, cap, at', seed, rfl, hl, hC, hN, hK⟩ := h
  exact ⟨a, len, cap, at', seed, rfl, hl, hC, by omega, hK⟩
theorem Cur.below {W W' : World} {b : Nat} {v : Value} {N : Nat} (h : Cur W b v N) (hb : Below W.heap.size W W') : Cur W' b v N := by
  obtain ⟨a, len, cap, at', seed, rfl, hl, hC, hN, hK⟩ := h
  have hg : W.grownBy W' none := ⟨hb.os, hb.tape, hb.output, hb.size, fun k hk _ => hb.block k hk⟩
  exact ⟨a, len, cap, at', seed, rfl, hl, (hb.block b hC.lt).trans hC, hN, hK.kept hC.lt hg (by simp)⟩
theorem Cur.lt {W : World} {b : Nat} {v : Value} {N : Nat} (h : Cur W b v N) : b < W.heap.size := by
  obtain ⟨a, len, cap, at', seed, rfl, hl, hC, hN, hK⟩ := h
  exact hC.lt

/-- A draw: a number below n, the state further on, nothing else turned. -/
def PickPost (W : World) (b : Nat) (v : Value) (N n : Nat) (e : Ending) (W' : World) : Prop := ∃ x : Nat, e = .returned (.int .i64 (x : Int)) ∧ x < n ∧ Cur W' b v N ∧ W.grownBy W' (some b)

theorem next_any (b N : Nat) (v : Value) (hN : N ≤ 900000) (w : World) (h : Cur w b v N) : Calls Try.prog 88 #[.pointer (some ⟨b, 0, none⟩)] w (PickPost w b v (N + 2) 256) := by
  obtain ⟨a, len, cap, at', seed, rfl, hl, hC, hat, hK⟩ := h
  have fin : ∀ e W', DrawPost w b (.slice a len cap) at' 256 e W' → PickPost w b (.slice a len cap) (N + 2) 256 e W' := by
    rintro e W' ⟨x, k, sd, he, hx, hk, hC', hg⟩
    exact ⟨x, he, hx, ⟨a, len, cap, at' + k, sd, rfl, hl, hC', by omega, hK.kept hC.lt hg (fun r e => by cases e; exact Nat.le_refl _)⟩, hg⟩
  by_cases h1 : at' < len
  · obtain ⟨cb, off, x, rfl, _, hc⟩ := hK at' h1
    exact (next_in b cb off len cap at' seed x w hl h1 hC hc).mono fin
  · exact (next_out b len cap at' a seed w hl (by omega) (by omega) hC).mono fin

set_option maxHeartbeats 1000000 in
theorem pick_any (b N n : Nat) (v : Value) (hN : N ≤ 800000) (hn0 : 0 < n) (hn : n ≤ 65536) (w : World) (h : Cur w b v N) : Calls Try.prog 68 #[.pointer (some ⟨b, 0, none⟩), .int .i64 (n : Int)] w (PickPost w b v (N + 4) n) := by
  have H := Lib.hid h
  clear h
  by_cases h1 : n ≤ 1
  · go_enter Try.func68, Try.ntmps68
    go_wp2_with fail
    go_ret
    obtain ⟨a, len, cap, at', seed, rfl, hl, hC, hat, hK⟩ := H.out
    exact ⟨0, rfl, hn0, ⟨a, len, cap, at', seed, rfl, hl, hC, by omega, hK⟩, ⟨rfl, rfl, rfl, Nat.le_refl _, fun _ _ _ => rfl⟩⟩
  · by_cases h2 : 200 < n
    · go_enter Try.func68, Try.ntmps68
      go_wp2_with fail
      refine (next_any b N v (by omega) _ H.out).mono ?_
      rintro e w1 ⟨x, rfl, hx, hc1, hg1⟩
      have H1 := Lib.hid hc1
      have G1 := Lib.hid hg1
      clear hc1 hg1
      go_wp2_with fail
      refine (next_any b (N + 2) v (by omega) _ H1.out).mono ?_
      rintro e w2 ⟨y, rfl, hy, hc2, hg2⟩
      have H2 := Lib.hid hc2
      have G2 : Hid (w.grownBy w2 (some b)) := Lib.hid (Lib.grownBy_trans G1.out hg2)
      clear hc2 hg2
      go_wp2_with fail
      go_ret
      refine ⟨(x * 256 + y) % n, ret_num ?_, Nat.mod_lt _ hn0, H2.out, G2.out⟩
      first | rfl | omega
    · go_enter Try.func68, Try.ntmps68
      go_wp2_with fail
      refine (next_any b N v (by omega) _ H.out).mono ?_
      rintro e w1 ⟨x, rfl, hx, hc1, hg1⟩
      have H1 := Lib.hid hc1
      have G1 := Lib.hid hg1
      clear hc1 hg1
      go_wp2_with fail
      go_ret
      obtain ⟨a, len, cap, at', seed, rfl, hl, hC, hat, hK⟩ := H1.out
      refine ⟨x % n, ret_num ?_, Nat.mod_lt _ hn0, ⟨a, len, cap, at', seed, rfl, hl, hC, by omega, hK⟩, G1.out⟩
      first | rfl | omega

theorem grown_of_below {a w : World} (h : Below a.heap.size a w) (row : Option Nat) : a.grownBy w row := ⟨h.os, h.tape, h.output, h.size, fun i hi _ => h.block i hi⟩
theorem Cur.alloc {W : World} {b : Nat} {v : Value} {N : Nat} (h : Cur W b v N) (o : Obj) : Cur (W.alloc o) b v N := h.below ((Below.refl _ _).alloc (Nat.le_refl _) _)

/-- A list of n numbers in block g. -/
def ListI (W : World) (g n : Nat) (P : Int → Prop) : Prop := g < W.heap.size ∧ ∀ j, j < n → ∃ x : Int, W.cell? ⟨g, j, none⟩ = some (.int .i64 x) ∧ P x
def NumP (W : World) (b : Nat) (v : Value) (N : Nat) (P : Int → Prop) (e : Ending) (W' : World) : Prop := ∃ x : Int, e = .returned (.int .i64 x) ∧ P x ∧ Cur W' b v N ∧ W.grownBy W' (some b)
set_option maxHeartbeats 400000 in
theorem among_any (b N g n cap : Nat) (P : Int → Prop) (v : Value) (hN : N ≤ 700000) (hn0 : 0 < n) (hn : n ≤ 100) (w : World) (h : Cur w b v N) (hg : g ≠ b) (hL : ListI w g n P) :
    Calls Try.prog 69 #[.pointer (some ⟨b, 0, none⟩), .slice (some ⟨g, 0, none⟩) n cap] w (NumP w b v (N + 4) P) := by
  have H := Lib.hid h
  have HL := Lib.hid hL
  clear h hL
  go_enter Try.func69, Try.ntmps69
  go_wp2_with fail
  refine (pick_any b N n v (by omega) hn0 (by omega) _ H.out).mono ?_
  rintro e w1 ⟨x, rfl, hx, hc1, hg1⟩
  obtain ⟨s, hs, hm⟩ := HL.out.2 x hx
  have hc : w1.cell? ⟨g, x, none⟩ = some (.int .i64 s) := by
    rw [World.cell?_of_block (hg1.block g HL.out.1 (by simpa using hg))]
    exact hs
  have H1 := Lib.hid hc1
  have G1 := Lib.hid hg1
  have M := Lib.hid hm
  clear hc1 hg1 hs hm
  go_wp2_with fail
  go_ret
  exact ⟨s, rfl, M.out, H1.out, G1.out⟩
theorem listI_new (W : World) (o : Obj) (xs : List Int) (P : Int → Prop) (ho : o = .cells (xs.map (Value.int .i64)).toArray 3 (0, 0)) (hm : ∀ x ∈ xs, P x) : ListI (W.alloc o) W.heap.size xs.length P := by
  subst ho
  refine ⟨by simp, fun j hj => ⟨xs[j], ?_, hm _ (List.getElem_mem _)⟩⟩
  have := heap_alloc_new W (.cells (xs.map (Value.int .i64)).toArray 3 (0, 0))
  unfold World.cell?
  simp only [this]
  simp [hj]

/-- A yes or no was drawn. -/
def OnePost (W : World) (b : Nat) (v : Value) (N : Nat) (e : Ending) (W' : World) : Prop := ∃ y : Bool, e = .returned (.bool y) ∧ Cur W' b v N ∧ W.grownBy W' (some b)
set_option maxHeartbeats 400000 in
theorem one_any (b N n : Nat) (v : Value) (hN : N ≤ 700000) (hn0 : 0 < n) (hn : n ≤ 65536) (w : World) (h : Cur w b v N) : Calls Try.prog 77 #[.pointer (some ⟨b, 0, none⟩), .int .i64 (n : Int)] w (OnePost w b v (N + 4)) := by
  have H := Lib.hid h
  clear h
  go_enter Try.func77, Try.ntmps77
  go_wp2_with fail
  refine (pick_any b N n v (by omega) hn0 hn _ H.out).mono ?_
  rintro e w1 ⟨x, rfl, hx, hc1, hg1⟩
  have H1 := Lib.hid hc1
  have G1 := Lib.hid hg1
  clear hc1 hg1
  go_wp2_with fail
  go_ret
  exact ⟨_, rfl, H1.out, G1.out⟩

theorem grown_set {w wr : World} {r : Option Nat} (h : w.grownBy wr r) (q i : Nat) (u : Value) (hq : w.heap.size ≤ q) : w.grownBy (wr.setCell ⟨q, i, none⟩ u) r := by
  have hB := (Below.refl w.heap.size wr).setCell (p := ⟨q, i, none⟩) hq u
  exact ⟨h.os, h.tape, h.output, by simpa using h.size, fun k hk hne => (hB.block k hk).trans (h.block k hk hne)⟩
/-- A box of rules. -/
def RX (W : World) (q : Nat) (x y z : Int) : Prop := W.heap[q]? = some (.cells #[.int .i64 x, .int .i64 y, .int .i64 z] 26 (0, 0))
theorem RX.lt {W : World} {q : Nat} {x y z : Int} (h : RX W q x y z) : q < W.heap.size := (Array.getElem?_eq_some_iff.1 h).1
theorem RX.grown {W W' : World} {q : Nat} {x y z : Int} {r : Option Nat} (h : RX W q x y z) (hg : W.grownBy W' r) (hr : some q ≠ r) : RX W' q x y z := (hg.block q h.lt hr).trans h
theorem RX.alloc {W : World} {q : Nat} {x y z : Int} (h : RX W q x y z) (o : Obj) : RX (W.alloc o) q x y z := (heap_alloc_old W o q h.lt).trans h
theorem RX.set0 {W : World} {q : Nat} {x y z : Int} (h : RX W q x y z) (u : Int) : RX (W.setCell ⟨q, 0, none⟩ (.int .i64 u)) q u y z := by
  have := Lib.heap_setCell_same (i := 0) h (.int .i64 u)
  simpa [RX] using this
theorem RX.set1 {W : World} {q : Nat} {x y z : Int} (h : RX W q x y z) (u : Int) : RX (W.setCell ⟨q, 1, none⟩ (.int .i64 u)) q x u z := by
  have := Lib.heap_setCell_same (i := 1) h (.int .i64 u)
  simpa [RX] using this
theorem RX.set2 {W : World} {q : Nat} {x y z : Int} (h : RX W q x y z) (u : Int) : RX (W.setCell ⟨q, 2, none⟩ (.int .i64 u)) q x y u := by
  have := Lib.heap_setCell_same (i := 2) h (.int .i64 u)
  simpa [RX] using this
theorem RX.c0 {W : World} {q : Nat} {x y z : Int} (h : RX W q x y z) : W.cell? ⟨q, 0, none⟩ = some (.int .i64 x) := cell_of h rfl
theorem RX.c1 {W : World} {q : Nat} {x y z : Int} (h : RX W q x y z) : W.cell? ⟨q, 1, none⟩ = some (.int .i64 y) := cell_of h rfl
theorem RX.c2 {W : World} {q : Nat} {x y z : Int} (h : RX W q x y z) : W.cell? ⟨q, 2, none⟩ = some (.int .i64 z) := cell_of h rfl
theorem RX.fr {W : World} {q : Nat} {x y z : Int} (h : RX W q x y z) (i : Nat) : W.frozen? ⟨q, i, none⟩ = false := free_of h
theorem RX.new (W : World) (x y z : Int) : RX (W.alloc (.cells #[.int .i64 x, .int .i64 y, .int .i64 z] 26)) W.heap.size x y z := heap_alloc_new W _
def lenV : Value → Nat
  | .slice _ n _ => n
  | _ => 0

/-- While a column is drawn: the draws' state in block b, the list. -/
def IcS (w : World) (b : Nat) (v : Value) (wr : World) (N : Nat) (sv : Value) (T : List Int) : Prop := Cur wr b v N ∧ w.grownBy wr (some b) ∧ wr.ownsRow w.heap.size 3 1 sv T.length (intV T) ∧ b < w.heap.size
theorem icS_start (w : World) : (w.alloc (.cells #[] 3)).ownsRow w.heap.size 3 1 (.slice (some ⟨w.heap.size, 0, none⟩) 0 0) 0 (intV []) :=
  ⟨rfl, .inr ⟨w.heap.size, 0, #[], rfl, Nat.le_refl _, heap_alloc_new w _, Nat.le_refl _, Nat.zero_le _, rfl, rfl⟩⟩
theorem IcS.off {w wr : World} {b N : Nat} {v sv : Value} {T : List Int} (h : IcS w b v wr N sv T) : ∀ r, sv.ownBlock = some r → w.heap.size ≤ r := fun r e => row_base h.2.2.1 r e
theorem IcS.drawn {w wr w1 : World} {b N M : Nat} {v sv : Value} {T : List Int} (h : IcS w b v wr N sv T) (hc : Cur w1 b v M) (hg : wr.grownBy w1 (some b)) : IcS w b v w1 M sv T :=
  ⟨hc, Lib.grownBy_trans h.2.1 hg, h.2.2.1.kept hg (by
    cases hv : sv.ownBlock with
    | none => exact .inl rfl
    | some j => exact .inr fun e => by have := h.off j hv; have := h.2.2.2; cases e; omega), h.2.2.2⟩
theorem IcS.alloc {w wr : World} {b N : Nat} {v sv : Value} {T : List Int} (h : IcS w b v wr N sv T) (o : Obj) : IcS w b v (wr.alloc o) N sv T :=
  ⟨h.1.alloc o, Lib.grownBy_trans h.2.1 (World.grownBy_alloc _ _ _), h.2.2.1.alloc o, h.2.2.2⟩
theorem IcS.push {w wr w4 : World} {b N : Nat} {v sv v' : Value} {T : List Int} {x : Int} {o : Obj} (h : IcS w b v wr N sv T) (ho : w4.ownsRow w.heap.size 3 1 v' (T.length + 1) (intV T ++ [.int .i64 x])) (hg : (wr.alloc o).grownBy w4 sv.ownBlock) : IcS w b v w4 N v' (T ++ [x]) := by
  have ha := h.alloc o
  refine ⟨ha.1.kept hg (fun r e => by have := h.off r e; have := h.2.2.2; omega), ?_, by rw [List.length_append, List.length_singleton]; simpa [intV] using ho, h.2.2.2⟩
  have a := ha.2.1
  exact ⟨hg.os.trans a.os, hg.tape.trans a.tape, hg.output.trans a.output, Nat.le_trans a.size hg.size, fun k hk hne => (hg.block k (by have := a.size; omega) (fun e => by have := h.off k e.symm; omega)).trans (a.block k hk hne)⟩
/-- A column was drawn. -/
def ColP (w : World) (b : Nat) (v : Value) (M : Nat) (e : Ending) (w' : World) : Prop := ∃ (T : List Int) (a : Option Addr) (c : Nat), e = .returned (.slice a T.length c) ∧ T.length ≤ 10 ∧ IcS w b v w' M (.slice a T.length c) T
theorem IcS.done {w wr : World} {b N M : Nat} {v sv : Value} {T : List Int} (h : IcS w b v wr N sv T) (hT : T.length ≤ 10) (hM : N ≤ M) : ColP w b v M (.returned sv) wr := by
  obtain ⟨a, c, rfl⟩ := own_form h.2.2.1
  exact ⟨T, a, c, rfl, hT, h.1.more hM, h.2⟩

set_option maxRecDepth 100000 in
set_option maxHeartbeats 16000000 in
theorem column_any (b N : Nat) (v : Value) (hN : N ≤ 100000) (w : World) (h : Cur w b v N) :
    Calls Try.prog 76 #[.pointer (some ⟨b, 0, none⟩)] w (ColP w b v (N + 100)) := by
  obtain ⟨fI, hI1, hI2, hI3, hI4⟩ := info_is info3
  have hbw := h.lt
  have R0 : Hid (IcS w b v (w.alloc (.cells #[] 3)) N (.slice (some ⟨w.heap.size, 0, none⟩) 0 0) []) := Lib.hid ⟨h.alloc _, World.grownBy_alloc _ _ _, icS_start w, hbw⟩
  have HBW := Lib.hid hbw
  clear h
  go_enter Try.func76, Try.ntmps76
  go_wp2_with fail
  refine (pick_any b N 5 v (by omega) (by decide) (by decide) _ R0.out.1).mono ?_
  rintro e w1 ⟨x, rfl, hx, hc, hg⟩
  have R1 := Lib.hid (R0.out.drawn hc hg)
  clear hc hg R0
  go_wp2_with fail
  go_loopw [3, 4] (fun s n wr => ∃ (k : Nat) (T : List Int), k + T.length ≤ 4 ∧ n = .int .i64 k ∧ Hid (IcS w b v wr (N + 4 + 4 * T.length) s T)) (fun _ n _ => (intOf n).toNat)
  case atStart => exact ⟨x, [], by simp; omega, rfl, R1⟩
  case round =>
    obtain ⟨k, T, hk, rfl, HR⟩ := hrel
    obtain ⟨a0, c0, rfl⟩ := own_form HR.out.2.2.1
    by_cases hk0 : 0 < k
    · have hk0i : (0 : Int) < (k : Int) := by omega
      have HL1 := Lib.hid (listI_new wr (.cells #[.int .i64 1, .int .i64 3000, .int .i64 8000, .int .i64 12000, .int .i64 20000, .int .i64 32000] 3) [1, 3000, 8000, 12000, 20000, 32000] (fun _ => True) rfl (fun _ _ => trivial))
      have HR1 := Lib.hid (HR.out.alloc (.cells #[.int .i64 1, .int .i64 3000, .int .i64 8000, .int .i64 12000, .int .i64 20000, .int .i64 32000] 3))
      have hw0 := HR.out.2.1.size
      have HN1 := Lib.hid (show wr.heap.size ≠ b by have := HBW.out; omega)
      go_wp2_with fail
      refine (among_any b (N + 4 + 4 * T.length) wr.heap.size 6 6 (fun _ => True) v (by omega) (by decide) (by decide) _ HR1.out.1 HN1.out HL1.out).mono ?_
      rintro e w2 ⟨y1, rfl, -, hc, hg⟩
      have HR2 := Lib.hid (HR1.out.drawn hc hg)
      clear hc hg
      have hrow := HR2.out.2.2.1
      have hz := HR2.out.2.1.size
      go_wp2_with (at_builtin; refine wpList_append_own _ rfl _ _ 24 rfl w.heap.size 3 fI (.int .i64 0) 1 8 Try.underlying24 hI1 hI2 hI3 hI4 rfl (by decide) _ _ _ rfl (hrow.alloc _) ⟨w2.heap.size, 0, none⟩ 1 1 [.int .i64 y1] rfl rfl (cell_one_new _ _ _) (by simp [Value.oneCell']) (by unfold maxLen; omega) (by omega) (by simp; omega) ?_; intro v' w9 hown' hgrow hnil)
      have HN := Lib.hid (HR2.out.push hown' hgrow)
      clear hown' hgrow hnil hrow
      exact ⟨⟨k - 1, T ++ [y1], by simp; omega, val_i (by omega), by rw [List.length_append, List.length_singleton]; exact Lib.hid ⟨HN.out.1.more (by omega), HN.out.2⟩⟩, by simp [intOf]; omega⟩
    · obtain rfl : k = 0 := by omega
      have hT4 : T.length ≤ 4 := by omega
      go_wp2_with fail
      refine (pick_any b (N + 4 + 4 * T.length) 30 v (by omega) (by decide) (by decide) _ HR.out.1).mono ?_
      rintro e w2 ⟨y, rfl, hy, hc, hg⟩
      have HR2 := Lib.hid (HR.out.drawn hc hg)
      clear hc hg HR
      by_cases h0 : y = 0
      · subst h0
        have HL1 := Lib.hid (listI_new w2 (.cells #[.int .i64 0, .int .i64 32001] 3) [0, 32001] (fun _ => True) rfl (fun _ _ => trivial))
        have HR3 := Lib.hid (HR2.out.alloc (.cells #[.int .i64 0, .int .i64 32001] 3))
        have HN1 := Lib.hid (show w2.heap.size ≠ b by have := HBW.out; have := HR2.out.2.1.size; omega)
        go_wp2_with fail
        refine (among_any b (N + 4 + 4 * T.length + 4) w2.heap.size 2 2 (fun _ => True) v (by omega) (by decide) (by decide) _ HR3.out.1 HN1.out HL1.out).mono ?_
        rintro e w3 ⟨u, rfl, -, hc, hg⟩
        have HR4 := Lib.hid (HR3.out.drawn hc hg)
        clear hc hg
        have hrow := HR4.out.2.2.1
        have hz := HR4.out.2.1.size
        go_wp2_with (at_builtin; refine wpList_append_own _ rfl _ _ 24 rfl w.heap.size 3 fI (.int .i64 0) 1 8 Try.underlying24 hI1 hI2 hI3 hI4 rfl (by decide) _ _ _ rfl (hrow.alloc _) ⟨w3.heap.size, 0, none⟩ 1 1 [.int .i64 u] rfl rfl (cell_one_new _ _ _) (by simp [Value.oneCell']) (by unfold maxLen; omega) (by omega) (by simp; omega) ?_; intro v' w9 hown' hgrow hnil)
        have HN := Lib.hid ((HR4.out.push hown' hgrow).done (M := N + 100) (by simp; omega) (by omega))
        clear hown' hgrow hnil hrow
        go_wp2_with fail
        go_ret
        exact HN.out
      by_cases h1 : y = 1
      · subst h1
        have R9 : Hid (IcS w b v w2 (N + 4 + 4 * T.length + 4 + 4 * 0) (.slice a0 T.length c0) T) := HR2
        go_wp2_with fail
        go_loopw [3] (fun s wr => ∃ (j m' c2 : Nat) (a2 : Option Addr) (T' : List Int), s = .slice a2 m' c2 ∧ Hid (T'.length = m') ∧ j ≤ m' ∧ m' ≤ 5 ∧ Hid (IcS w b v wr (N + 4 + 4 * T.length + 4 + 4 * j) s T')) (fun s _ => 6 - lenV s)
        case atStart => exact ⟨0, T.length, c0, a0, T, rfl, Lib.hid rfl, Nat.zero_le _, by omega, R9⟩
        case round =>
          obtain ⟨j, m', c2, a2, T', rfl, HT, hj, hm, HS⟩ := hrel
          go_wp2_with fail
          refine (pick_any b (N + 4 + 4 * T.length + 4 + 4 * j) 2 v (by omega) (by decide) (by decide) _ HS.out.1).mono ?_
          rintro e w3 ⟨d, rfl, hd, hc, hg⟩
          have HS2 := Lib.hid (HS.out.drawn hc hg)
          clear hc hg
          by_cases hlt : m' < 4 + d
          · have hlti : (m' : Int) < 4 + (d : Int) := by omega
            have hrow := HS2.out.2.2.1
            rw [HT.out] at hrow
            have hz := HS2.out.2.1.size
            go_wp2_with (at_builtin; refine wpList_append_own _ rfl _ _ 24 rfl w.heap.size 3 fI (.int .i64 0) 1 8 Try.underlying24 hI1 hI2 hI3 hI4 rfl (by decide) _ _ _ rfl (hrow.alloc _) ⟨w3.heap.size, 0, none⟩ 1 1 [.int .i64 100] rfl rfl (cell_one_new _ _ _) (by simp [Value.oneCell']) (by unfold maxLen; omega) (by omega) (by simp; omega) ?_; intro v' w9 hown' hgrow hnil)
            have HN := Lib.hid (HS2.out.push (by rw [HT.out]; exact hown') hgrow)
            obtain ⟨a3, c3, rfl⟩ := own_form hown'
            clear hown' hgrow hnil hrow
            exact ⟨⟨j + 1, m' + 1, c3, a3, T' ++ [100], rfl, Lib.hid (by rw [List.length_append, HT.out]; rfl), by omega, by omega, HN⟩, by simp [lenV]; omega⟩
          · have hlti : ¬ (m' : Int) < 4 + (d : Int) := by omega
            have HD := Lib.hid (HS2.out.done (M := N + 100) (by rw [HT.out]; omega) (by omega))
            go_wp2_with fail
            go_ret
            exact HD.out
      have h0i : ((y : Int) == 0) = false := by simp; exact h0
      have h1i : ((y : Int) == 1) = false := by simp; omega
      have HD := Lib.hid (HR2.out.done (M := N + 100) (by omega) (by omega))
      go_wp2_with fail
      go_ret
      exact HD.out

/-- While rules are drawn: the draws' state in block b, two boxes. -/
def RuS (w : World) (b : Nat) (v : Value) (W : World) (N : Nat) : Prop := Cur W b v N ∧ w.grownBy W (some b) ∧ RX W w.heap.size 0 0 0 ∧ b < w.heap.size
theorem RuS.alloc {w W : World} {b N : Nat} {v : Value} (h : RuS w b v W N) (o : Obj) : RuS w b v (W.alloc o) N := ⟨h.1.alloc o, Lib.grownBy_trans h.2.1 (World.grownBy_alloc _ _ _), h.2.2.1.alloc o, h.2.2.2⟩
theorem RuS.drawn {w W W' : World} {b N M : Nat} {v : Value} (h : RuS w b v W N) (hc : Cur W' b v M) (hg : W.grownBy W' (some b)) : RuS w b v W' M :=
  ⟨hc, Lib.grownBy_trans h.2.1 hg, h.2.2.1.grown hg (by have := h.2.2.2; simp; omega), h.2.2.2⟩
theorem RuS.setq {w W : World} {b N q : Nat} {v : Value} (h : RuS w b v W N) (i : Nat) (u : Value) (hq : w.heap.size < q) : RuS w b v (W.setCell ⟨q, i, none⟩ u) N :=
  ⟨h.1.kept (Lib.grownBy_setCell W q i u) (fun r e => by cases e; have := h.2.2.2; omega), grown_set h.2.1 q i u (by omega), h.2.2.1.grown (Lib.grownBy_setCell W q i u) (by simp; omega), h.2.2.2⟩
theorem RuS.fill {w W : World} {b N : Nat} {v : Value} (h : RuS w b v W N) (x y z : Int) : Cur (((W.setCell ⟨w.heap.size, 0, none⟩ (.int .i64 x)).setCell ⟨w.heap.size, 1, none⟩ (.int .i64 y)).setCell ⟨w.heap.size, 2, none⟩ (.int .i64 z)) b v N ∧ w.grownBy (((W.setCell ⟨w.heap.size, 0, none⟩ (.int .i64 x)).setCell ⟨w.heap.size, 1, none⟩ (.int .i64 y)).setCell ⟨w.heap.size, 2, none⟩ (.int .i64 z)) (some b) ∧ RX (((W.setCell ⟨w.heap.size, 0, none⟩ (.int .i64 x)).setCell ⟨w.heap.size, 1, none⟩ (.int .i64 y)).setCell ⟨w.heap.size, 2, none⟩ (.int .i64 z)) w.heap.size x y z := by
  have kc : ∀ {W : World} (i : Nat) (u : Value), Cur W b v N → Cur (W.setCell ⟨w.heap.size, i, none⟩ u) b v N := fun i u hc => hc.kept (Lib.grownBy_setCell _ _ i u) (fun r e => by cases e; have := h.2.2.2; omega)
  exact ⟨kc _ _ (kc _ _ (kc _ _ h.1)), grown_set (grown_set (grown_set h.2.1 _ _ _ (Nat.le_refl _)) _ _ _ (Nat.le_refl _)) _ _ _ (Nat.le_refl _), ((h.2.2.1.set0 x).set1 y).set2 z⟩
/-- Rules were drawn. -/
def RulP (w : World) (b : Nat) (v : Value) (M : Nat) (e : Ending) (w' : World) : Prop := ∃ (x y z : Int), e = .returned (.agg #[.int .i64 x, .int .i64 y, .int .i64 z]) ∧ Cur w' b v M ∧ w.grownBy w' (some b)
theorem ruS_start (w : World) (b N : Nat) (v : Value) (h : Cur w b v N) : RuS w b v (w.alloc (.cells #[.int .i64 0, .int .i64 0, .int .i64 0] 26)) N := ⟨h.alloc _, World.grownBy_alloc _ _ _, RX.new w 0 0 0, h.lt⟩

set_option maxRecDepth 100000 in
set_option maxHeartbeats 16000000 in
theorem lashRules_any (b N : Nat) (v : Value) (hN : N ≤ 100000) (w : World) (h : Cur w b v N) :
    Calls Try.prog 78 #[.pointer (some ⟨b, 0, none⟩)] w (RulP w b v (N + 40)) := by
  have HU := Lib.hid (ruS_start w b N v h)
  have hs : (w.alloc (.cells #[.int .i64 0, .int .i64 0, .int .i64 0] 26)).heap.size = w.heap.size + 1 := by simp
  have HL1 := Lib.hid (listI_new (w.alloc (.cells #[.int .i64 0, .int .i64 0, .int .i64 0] 26)) (.cells #[.int .i64 200000, .int .i64 60000, .int .i64 40000, .int .i64 10000] 3) [200000, 60000, 40000, 10000] (fun _ => True) rfl (fun _ _ => trivial))
  have HU1 := Lib.hid (HU.out.alloc (.cells #[.int .i64 200000, .int .i64 60000, .int .i64 40000, .int .i64 10000] 3))
  have HN1 := Lib.hid (show w.heap.size + 1 ≠ b by have := HU.out.2.2.2; omega)
  rw [hs] at HL1
  clear h hs
  go_enter Try.func78, Try.ntmps78
  go_wp2_with fail
  refine (among_any b N (w.heap.size + 1) 4 4 (fun _ => True) v (by omega) (by decide) (by decide) _ HU1.out.1 HN1.out HL1.out).mono ?_
  rintro e w1 ⟨x, rfl, -, hc, hg⟩
  have HU2 := Lib.hid (HU1.out.drawn hc hg)
  clear hc hg HU HU1 HL1 HN1
  have HL1 := Lib.hid (listI_new w1 (.cells #[.int .i64 0, .int .i64 15, .int .i64 33, .int .i64 50, .int .i64 100] 3) [0, 15, 33, 50, 100] (fun _ => True) rfl (fun _ _ => trivial))
  have HU3 := Lib.hid (HU2.out.alloc (.cells #[.int .i64 0, .int .i64 15, .int .i64 33, .int .i64 50, .int .i64 100] 3))
  have HN1 := Lib.hid (show w1.heap.size ≠ b by have := HU2.out.2.2.2; have := HU2.out.2.1.size; omega)
  go_wp2_with fail
  refine (among_any b (N + 4) w1.heap.size 5 5 (fun _ => True) v (by omega) (by decide) (by decide) _ HU3.out.1 HN1.out HL1.out).mono ?_
  rintro e w2 ⟨y, rfl, -, hc, hg⟩
  have HU4 := Lib.hid (HU3.out.drawn hc hg)
  clear hc hg HU2 HU3 HL1 HN1
  have HL1 := Lib.hid (listI_new w2 (.cells #[.int .i64 1000, .int .i64 5000, .int .i64 12000, .int .i64 100000] 3) [1000, 5000, 12000, 100000] (fun _ => True) rfl (fun _ _ => trivial))
  have HU5 := Lib.hid (HU4.out.alloc (.cells #[.int .i64 1000, .int .i64 5000, .int .i64 12000, .int .i64 100000] 3))
  have HN1 := Lib.hid (show w2.heap.size ≠ b by have := HU4.out.2.2.2; have := HU4.out.2.1.size; omega)
  go_wp2_with fail
  refine (among_any b (N + 4 + 4) w2.heap.size 4 4 (fun _ => True) v (by omega) (by decide) (by decide) _ HU5.out.1 HN1.out HL1.out).mono ?_
  rintro e w3 ⟨z, rfl, -, hc, hg⟩
  have HU6 := Lib.hid (HU5.out.drawn hc hg)
  clear hc hg HU4 HU5 HL1 HN1
  have HU7 := Lib.hid (HU6.out.alloc (.cells #[.int .i64 x, .int .i64 y, .int .i64 z] 26))
  have HX := Lib.hid (RX.new w3 x y z)
  have hwq := HU6.out.2.2.1.lt
  go_wp2_with fail
  obtain ⟨Q, hQ⟩ : ∃ Q, w3.heap.size = Q := ⟨_, rfl⟩
  have hwQ : w.heap.size < Q := by omega
  have hQb : ¬ Q = b := by have := HU6.out.2.2.2; omega
  clear hwq HU6
  rw [hQ] at HX ⊢
  generalize w3.alloc (.cells #[.int .i64 x, .int .i64 y, .int .i64 z] 26) = w4 at *
  clear hQ
  refine (pick_any b (N + 4 + 4 + 4) 40 v (by omega) (by decide) (by decide) _ HU7.out.1).mono ?_
  rintro e w5 ⟨d, rfl, hd, hc, hg⟩
  have HU8 := Lib.hid (HU7.out.drawn hc hg)
  have HX8 := Lib.hid (HX.out.grown hg (by simp; exact hQb))
  clear hc hg HX HU7
  have KE := Lib.hid (fun (W : World) (M : Nat) (p q r : Int) (hS : RuS w b v W M) (hM : M ≤ N + 40) => (hS.fill p q r).imp (fun hc => hc.more hM) id)
  by_cases h0 : d = 0
  · subst h0
    have HL1 := Lib.hid (listI_new w5 (.cells #[.int .i64 0, .int .i64 1, .int .i64 200001] 3) [0, 1, 200001] (fun _ => True) rfl (fun _ _ => trivial))
    have HU9 := Lib.hid (HU8.out.alloc (.cells #[.int .i64 0, .int .i64 1, .int .i64 200001] 3))
    have HX9 := Lib.hid (HX8.out.alloc (.cells #[.int .i64 0, .int .i64 1, .int .i64 200001] 3))
    have HN1 := Lib.hid (show w5.heap.size ≠ b by have := HU8.out.2.2.2; have := HU8.out.2.1.size; omega)
    go_wp2_with fail
    refine (among_any b (N + 4 + 4 + 4 + 4) w5.heap.size 3 3 (fun _ => True) v (by omega) (by decide) (by decide) _ HU9.out.1 HN1.out HL1.out).mono ?_
    rintro e w6 ⟨u, rfl, -, hc, hg⟩
    have HUa := Lib.hid (HU9.out.drawn hc hg)
    have HXa := Lib.hid (HX9.out.grown hg (by simp; exact hQb))
    have x0 := HXa.out.c0
    have f0 := HXa.out.fr 0
    have HUb := Lib.hid (HUa.out.setq (q := Q) 0 (.int .i64 u) hwQ)
    have HXb := Lib.hid (HXa.out.set0 u)
    clear hc hg
    have y0 := HXb.out.c0
    have y1 := HXb.out.c1
    have y2 := HXb.out.c2
    generalize hW : w6.setCell ⟨Q, 0, none⟩ (.int .i64 u) = w7 at *
    have z0 := HUb.out.2.2.1.c0
    have z1 := HUb.out.2.2.1.c1
    have z2 := HUb.out.2.2.1.c2
    have g0 := HUb.out.2.2.1.fr 0
    have g1 := HUb.out.2.2.1.fr 1
    have g2 := HUb.out.2.2.1.fr 2
    go_wp2_with fail
    obtain ⟨k1, k2, k3⟩ := KE.out w7 _ u y z HUb.out (by omega)
    refine bodyPost_ret (v := .agg #[.int .i64 u, .int .i64 y, .int .i64 z]) ?_ rfl ⟨_, _, _, rfl, k1, k2⟩
    have e0 := k3.c0
    have e1 := k3.c1
    have e2 := k3.c2
    clear k1 k2 k3
    generalize ((w7.setCell _ _).setCell _ _).setCell _ _ = W at *
    simp [results, Try.results78, go_sem, e0, e1, e2]
  by_cases h1 : d = 1
  · subst h1
    have HL1 := Lib.hid (listI_new w5 (.cells #[.int .i64 (-1), .int .i64 101] 3) [-1, 101] (fun _ => True) rfl (fun _ _ => trivial))
    have HU9 := Lib.hid (HU8.out.alloc (.cells #[.int .i64 (-1), .int .i64 101] 3))
    have HX9 := Lib.hid (HX8.out.alloc (.cells #[.int .i64 (-1), .int .i64 101] 3))
    have HN1 := Lib.hid (show w5.heap.size ≠ b by have := HU8.out.2.2.2; have := HU8.out.2.1.size; omega)
    go_wp2_with fail
    refine (among_any b (N + 4 + 4 + 4 + 4) w5.heap.size 2 2 (fun _ => True) v (by omega) (by decide) (by decide) _ HU9.out.1 HN1.out HL1.out).mono ?_
    rintro e w6 ⟨u, rfl, -, hc, hg⟩
    have HUa := Lib.hid (HU9.out.drawn hc hg)
    have HXa := Lib.hid (HX9.out.grown hg (by simp; exact hQb))
    have x1 := HXa.out.c1
    have f1 := HXa.out.fr 1
    have HUb := Lib.hid (HUa.out.setq (q := Q) 1 (.int .i64 u) hwQ)
    have HXb := Lib.hid (HXa.out.set1 u)
    clear hc hg
    have y0 := HXb.out.c0
    have y1 := HXb.out.c1
    have y2 := HXb.out.c2
    generalize hW : w6.setCell ⟨Q, 1, none⟩ (.int .i64 u) = w7 at *
    have z0 := HUb.out.2.2.1.c0
    have z1 := HUb.out.2.2.1.c1
    have z2 := HUb.out.2.2.1.c2
    have g0 := HUb.out.2.2.1.fr 0
    have g1 := HUb.out.2.2.1.fr 1
    have g2 := HUb.out.2.2.1.fr 2
    go_wp2_with fail
    obtain ⟨k1, k2, k3⟩ := KE.out w7 _ x u z HUb.out (by omega)
    refine bodyPost_ret (v := .agg #[.int .i64 x, .int .i64 u, .int .i64 z]) ?_ rfl ⟨_, _, _, rfl, k1, k2⟩
    have e0 := k3.c0
    have e1 := k3.c1
    have e2 := k3.c2
    clear k1 k2 k3
    generalize ((w7.setCell _ _).setCell _ _).setCell _ _ = W at *
    simp [results, Try.results78, go_sem, e0, e1, e2]
  by_cases h2 : d = 2
  · subst h2
    have HL1 := Lib.hid (listI_new w5 (.cells #[.int .i64 0, .int .i64 1, .int .i64 100001] 3) [0, 1, 100001] (fun _ => True) rfl (fun _ _ => trivial))
    have HU9 := Lib.hid (HU8.out.alloc (.cells #[.int .i64 0, .int .i64 1, .int .i64 100001] 3))
    have HX9 := Lib.hid (HX8.out.alloc (.cells #[.int .i64 0, .int .i64 1, .int .i64 100001] 3))
    have HN1 := Lib.hid (show w5.heap.size ≠ b by have := HU8.out.2.2.2; have := HU8.out.2.1.size; omega)
    go_wp2_with fail
    refine (among_any b (N + 4 + 4 + 4 + 4) w5.heap.size 3 3 (fun _ => True) v (by omega) (by decide) (by decide) _ HU9.out.1 HN1.out HL1.out).mono ?_
    rintro e w6 ⟨u, rfl, -, hc, hg⟩
    have HUa := Lib.hid (HU9.out.drawn hc hg)
    have HXa := Lib.hid (HX9.out.grown hg (by simp; exact hQb))
    have x2 := HXa.out.c2
    have f2 := HXa.out.fr 2
    have HUb := Lib.hid (HUa.out.setq (q := Q) 2 (.int .i64 u) hwQ)
    have HXb := Lib.hid (HXa.out.set2 u)
    clear hc hg
    have y0 := HXb.out.c0
    have y1 := HXb.out.c1
    have y2 := HXb.out.c2
    generalize hW : w6.setCell ⟨Q, 2, none⟩ (.int .i64 u) = w7 at *
    have z0 := HUb.out.2.2.1.c0
    have z1 := HUb.out.2.2.1.c1
    have z2 := HUb.out.2.2.1.c2
    have g0 := HUb.out.2.2.1.fr 0
    have g1 := HUb.out.2.2.1.fr 1
    have g2 := HUb.out.2.2.1.fr 2
    go_wp2_with fail
    obtain ⟨k1, k2, k3⟩ := KE.out w7 _ x y u HUb.out (by omega)
    refine bodyPost_ret (v := .agg #[.int .i64 x, .int .i64 y, .int .i64 u]) ?_ rfl ⟨_, _, _, rfl, k1, k2⟩
    have e0 := k3.c0
    have e1 := k3.c1
    have e2 := k3.c2
    clear k1 k2 k3
    generalize ((w7.setCell _ _).setCell _ _).setCell _ _ = W at *
    simp [results, Try.results78, go_sem, e0, e1, e2]
  have h0i : ((d : Int) == 0) = false := by simp; exact h0
  have h1i : ((d : Int) == 1) = false := by simp; omega
  have h2i : ((d : Int) == 2) = false := by simp; omega
  have y0 := HX8.out.c0
  have y1 := HX8.out.c1
  have y2 := HX8.out.c2
  have z0 := HU8.out.2.2.1.c0
  have z1 := HU8.out.2.2.1.c1
  have z2 := HU8.out.2.2.1.c2
  have g0 := HU8.out.2.2.1.fr 0
  have g1 := HU8.out.2.2.1.fr 1
  have g2 := HU8.out.2.2.1.fr 2
  go_wp2_with fail
  obtain ⟨k1, k2, k3⟩ := KE.out w5 _ x y z HU8.out (by omega)
  refine bodyPost_ret (v := .agg #[.int .i64 x, .int .i64 y, .int .i64 z]) ?_ rfl ⟨_, _, _, rfl, k1, k2⟩
  have e0 := k3.c0
  have e1 := k3.c1
  have e2 := k3.c2
  clear k1 k2 k3
  generalize ((w5.setCell _ _).setCell _ _).setCell _ _ = W at *
  simp [results, Try.results78, go_sem, e0, e1, e2]

/-- The code that came in: len bytes that can be read. -/
def CodeA (w : World) (a : Option Addr) (len : Nat) : Prop := len ≤ 65536 ∧ ∀ j, j < len → ∃ (cb off : Nat) (x : UInt8), a = some ⟨cb, off, none⟩ ∧ cb < w.heap.size ∧ w.cell? ⟨cb, off + j, none⟩ = some (.int .u8 (x.toNat : Int))
theorem CodeA.below {w w' : World} {a : Option Addr} {len : Nat} (h : CodeA w a len) (hb : Below w.heap.size w w') : CodeA w' a len := ⟨h.1, fun j hj => by
  obtain ⟨cb, off, x, e, hlt, hc⟩ := h.2 j hj
  exact ⟨cb, off, x, e, Nat.lt_of_lt_of_le hlt hb.size, (hb.cell (p := ⟨cb, off + j, none⟩) hlt).trans hc⟩⟩
theorem curA_new (w : World) (a : Option Addr) (len cap : Nat) (h : CodeA w a len) : Cur (w.alloc (.cells #[.slice a len cap, .int .i64 0, .int .u64 0] 77)) w.heap.size (.slice a len cap) 0 := by
  have hb : Below w.heap.size w (w.alloc (.cells #[.slice a len cap, .int .i64 0, .int .u64 0] 77)) := (Below.refl _ _).alloc (Nat.le_refl _) _
  refine ⟨a, len, cap, 0, 0, rfl, h.1, heap_alloc_new w _, Nat.le_refl _, fun j hj => ?_⟩
  obtain ⟨cb, off, x, e, hlt, hc⟩ := h.2 j hj
  exact ⟨cb, off, x, e, hlt, (hb.cell (p := ⟨cb, off + j, none⟩) hlt).trans hc⟩

/-- A column and rules were drawn for a law. -/
def DrawnC (w : World) (e : Ending) (w' : World) : Prop := ∃ (T : List Int) (a : Option Addr) (c : Nat) (x y z : Int), e = .returned (.tuple #[.slice a T.length c, .agg #[.int .i64 x, .int .i64 y, .int .i64 z]]) ∧ T.length ≤ 10 ∧ (∃ B, w.heap.size ≤ B ∧ w'.ownsRow B 3 1 (.slice a T.length c) T.length (intV T)) ∧ Below w.heap.size w w'
/-- While they are drawn: the result's box, the draws' state, the list. -/
def DcS (w : World) (v : Value) (W : World) (M : Nat) (sv : Value) (T : List Int) : Prop := Cur W (w.heap.size + 1) v M ∧ Below w.heap.size w W ∧ RX W w.heap.size 0 0 0 ∧ W.ownsRow (w.heap.size + 2) 3 1 sv T.length (intV T)
theorem DcS.start {w W : World} {M : Nat} {v v0 c1 c2 sv : Value} {T : List Int} (h : IcS ((w.alloc (.cells #[.int .i64 0, .int .i64 0, .int .i64 0] 26)).alloc (.cells #[v0, c1, c2] 77)) (w.heap.size + 1) v W M sv T) : DcS w v W M sv T := by
  have hb := below_one w (.cells #[.int .i64 0, .int .i64 0, .int .i64 0] 26)
  have hb2 := (hb.trans ((below_one _ (.cells #[v0, c1, c2] 77)).mono hb.size))
  refine ⟨h.1, hb2.grown h.2.1 hb2.size (fun k e => by cases e; omega), ((RX.new w 0 0 0).alloc _).grown h.2.1 (by simp), ?_⟩
  have := h.2.2.1
  simpa using this
theorem DcS.drawn {w W W' : World} {M M' : Nat} {v sv : Value} {T : List Int} (h : DcS w v W M sv T) (hc : Cur W' (w.heap.size + 1) v M') (hg : W.grownBy W' (some (w.heap.size + 1))) : DcS w v W' M' sv T := by
  obtain ⟨h1, h2, h3, h4⟩ := h
  exact ⟨hc, h2.grown hg h2.size (fun k e => by cases e; omega), h3.grown hg (by simp), h4.kept hg (by
    cases hv : sv.ownBlock with
    | none => exact .inl rfl
    | some j => exact .inr fun e => by have := row_base h4 j hv; cases e; omega)⟩
/-- The result's box is filled. -/
theorem fill_box {w W : World} {B n : Nat} {sv : Value} {xs : List Value} (hB : Below w.heap.size w W) (hX : RX W w.heap.size 0 0 0) (ho : W.ownsRow B 3 1 sv n xs) (hb : w.heap.size < B) (x y z : Int) :
    RX (((W.setCell ⟨w.heap.size, 0, none⟩ (.int .i64 x)).setCell ⟨w.heap.size, 1, none⟩ (.int .i64 y)).setCell ⟨w.heap.size, 2, none⟩ (.int .i64 z)) w.heap.size x y z ∧
    Below w.heap.size w (((W.setCell ⟨w.heap.size, 0, none⟩ (.int .i64 x)).setCell ⟨w.heap.size, 1, none⟩ (.int .i64 y)).setCell ⟨w.heap.size, 2, none⟩ (.int .i64 z)) ∧
    (((W.setCell ⟨w.heap.size, 0, none⟩ (.int .i64 x)).setCell ⟨w.heap.size, 1, none⟩ (.int .i64 y)).setCell ⟨w.heap.size, 2, none⟩ (.int .i64 z)).ownsRow B 3 1 sv n xs := by
  have ko : ∀ {W : World} (i : Nat) (u : Value), W.ownsRow B 3 1 sv n xs → (W.setCell ⟨w.heap.size, i, none⟩ u).ownsRow B 3 1 sv n xs := fun i u h => h.kept (Lib.grownBy_setCell _ _ i u) (.inr fun e => by have := row_base h _ e; omega)
  exact ⟨((hX.set0 x).set1 y).set2 z, ((hB.setCell (p := ⟨w.heap.size, 0, none⟩) (Nat.le_refl _) _).setCell (p := ⟨w.heap.size, 1, none⟩) (Nat.le_refl _) _).setCell (p := ⟨w.heap.size, 2, none⟩) (Nat.le_refl _) _, ko _ _ (ko _ _ (ko _ _ ho))⟩

set_option maxRecDepth 100000 in
set_option maxHeartbeats 4000000 in
theorem drawCw_any (a : Option Addr) (len cap : Nat) (w : World) (h : CodeA w a len) : Calls Try.prog 48 #[.slice a len cap] w (DrawnC w) := by
  have hs : (w.alloc (.cells #[.int .i64 0, .int .i64 0, .int .i64 0] 26)).heap.size = w.heap.size + 1 := by simp
  have HC := curA_new (w.alloc (.cells #[.int .i64 0, .int .i64 0, .int .i64 0] 26)) a len cap (h.below (below_one w _))
  rw [hs] at HC
  have HC := Lib.hid HC
  clear h hs
  go_enter Try.func48, Try.ntmps48
  go_wp2_with fail
  refine (column_any (w.heap.size + 1) 0 (.slice a len cap) (by decide) _ HC.out).mono ?_
  rintro e w1 ⟨T, a1, c1, rfl, hT, hS⟩
  have HS := Lib.hid (DcS.start hS)
  clear hS HC
  go_wp2_with fail
  refine (lashRules_any (w.heap.size + 1) _ _ (by decide) _ HS.out.1).mono ?_
  rintro e w2 ⟨x, y, z, rfl, hc, hg⟩
  have HS2 := Lib.hid (HS.out.drawn hc hg)
  clear hc hg HS
  have z0 := HS2.out.2.2.1.c0
  have z1 := HS2.out.2.2.1.c1
  have z2 := HS2.out.2.2.1.c2
  have g0 := HS2.out.2.2.1.fr 0
  have g1 := HS2.out.2.2.1.fr 1
  have g2 := HS2.out.2.2.1.fr 2
  go_wp2_with fail
  obtain ⟨k1, k2, k3⟩ := fill_box HS2.out.2.1 HS2.out.2.2.1 HS2.out.2.2.2 (by omega) x y z
  refine bodyPost_ret (v := .tuple #[.slice a1 T.length c1, .agg #[.int .i64 x, .int .i64 y, .int .i64 z]]) ?_ rfl ⟨T, a1, c1, x, y, z, rfl, hT, ⟨_, by omega, k3⟩, k2⟩
  have e0 := k1.c0
  have e1 := k1.c1
  have e2 := k1.c2
  clear k1 k2 k3
  generalize ((w2.setCell _ _).setCell _ _).setCell _ _ = W at *
  simp [results, Try.results48, go_sem, e0, e1, e2]
set_option maxRecDepth 100000 in
set_option maxHeartbeats 4000000 in
theorem drawFo_any (a : Option Addr) (len cap : Nat) (w : World) (h : CodeA w a len) : Calls Try.prog 15 #[.slice a len cap] w (DrawnC w) := by
  have hb0 := below_one w (.cells #[.int .i64 0, .int .i64 0, .int .i64 0] 26)
  have hs : (w.alloc (.cells #[.int .i64 0, .int .i64 0, .int .i64 0] 26)).heap.size = w.heap.size + 1 := by simp
  have HC := Lib.hid (drawCw_any a len cap _ (h.below hb0))
  have HX := Lib.hid (RX.new w 0 0 0)
  have HB := Lib.hid hb0
  have HZ := Lib.hid hs
  clear h hb0 hs
  go_enter Try.func15, Try.ntmps15
  go_wp2_with fail
  refine HC.out.mono ?_
  rintro e w2 ⟨T, a1, c1, x, y, z, rfl, hT, ⟨B, hB, ho⟩, hb⟩
  have hX : RX w2 w.heap.size 0 0 0 := (hb.block _ (by rw [HZ.out]; omega)).trans HX.out
  have hBB := HB.out.trans (hb.mono HB.out.size)
  rw [HZ.out] at hB
  have z0 := hX.c0
  have z1 := hX.c1
  have z2 := hX.c2
  have g0 := hX.fr 0
  have g1 := hX.fr 1
  have g2 := hX.fr 2
  have K := Lib.hid (fill_box hBB hX ho (by omega) x y z)
  have HBB := Lib.hid hB
  clear hX hBB ho hb HC HX HB hB
  go_wp2_with fail
  obtain ⟨k1, k2, k3⟩ := K.out
  refine bodyPost_ret (v := .tuple #[.slice a1 T.length c1, .agg #[.int .i64 x, .int .i64 y, .int .i64 z]]) ?_ rfl ⟨T, a1, c1, x, y, z, rfl, hT, ⟨_, by have := HBB.out; omega, k3⟩, k2⟩
  have e0 := k1.c0
  have e1 := k1.c1
  have e2 := k1.c2
  clear k1 k2 k3 K
  generalize ((w2.setCell _ _).setCell _ _).setCell _ _ = W at *
  simp [results, Try.results15, go_sem, e0, e1, e2]
set_option maxRecDepth 100000 in
set_option maxHeartbeats 4000000 in
theorem drawRm_any (a : Option Addr) (len cap : Nat) (w : World) (h : CodeA w a len) : Calls Try.prog 27 #[.slice a len cap] w (DrawnC w) := by
  have hb0 := below_one w (.cells #[.int .i64 0, .int .i64 0, .int .i64 0] 26)
  have hs : (w.alloc (.cells #[.int .i64 0, .int .i64 0, .int .i64 0] 26)).heap.size = w.heap.size + 1 := by simp
  have HC := Lib.hid (drawCw_any a len cap _ (h.below hb0))
  have HX := Lib.hid (RX.new w 0 0 0)
  have HB := Lib.hid hb0
  have HZ := Lib.hid hs
  clear h hb0 hs
  go_enter Try.func27, Try.ntmps27
  go_wp2_with fail
  refine HC.out.mono ?_
  rintro e w2 ⟨T, a1, c1, x, y, z, rfl, hT, ⟨B, hB, ho⟩, hb⟩
  have hX : RX w2 w.heap.size 0 0 0 := (hb.block _ (by rw [HZ.out]; omega)).trans HX.out
  have hBB := HB.out.trans (hb.mono HB.out.size)
  rw [HZ.out] at hB
  have z0 := hX.c0
  have z1 := hX.c1
  have z2 := hX.c2
  have g0 := hX.fr 0
  have g1 := hX.fr 1
  have g2 := hX.fr 2
  have K := Lib.hid (fill_box hBB hX ho (by omega) x y z)
  have HBB := Lib.hid hB
  clear hX hBB ho hb HC HX HB hB
  go_wp2_with fail
  obtain ⟨k1, k2, k3⟩ := K.out
  refine bodyPost_ret (v := .tuple #[.slice a1 T.length c1, .agg #[.int .i64 x, .int .i64 y, .int .i64 z]]) ?_ rfl ⟨T, a1, c1, x, y, z, rfl, hT, ⟨_, by have := HBB.out; omega, k3⟩, k2⟩
  have e0 := k1.c0
  have e1 := k1.c1
  have e2 := k1.c2
  clear k1 k2 k3 K
  generalize ((w2.setCell _ _).setCell _ _).setCell _ _ = W at *
  simp [results, Try.results27, go_sem, e0, e1, e2]
end Go.Proofs.Ytalobfpmmembiaa.D
