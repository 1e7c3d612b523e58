/-
  The iterator impl.piecesOf: it yields the pieces of a text, one after the other. No statement of the seat by itself.
-/
import Derived.RangeFuncBox
import Derived.RangeFuncLeaves
import Derived.RangeFuncNested
import Derived.RangeFuncBound
import Derived.RangeFuncCalls
import Derived.Shelf.Abstract
import Derived.Shelf.RegionOpen
import Derived.WalkKit
import Derived.OwnWalkIn
import Derived.TacticsInMore
import Derived.LoopNIn
import Derived.LoopIn
import Derived.Maps.AppendAt
import Derived.Lib.Hide
import Derived.WalkSmall
import Derived.Sort.QuietIn
import Derived.Test.YtfbeoficgkkamaaDoorProg
import Derived.Test.YtfbeoficgkkamaaDoorPieces
namespace Go.Proofs.YtfbeoficgkkamaaDoor
open Go.RowKit Go.Shelf
attribute [local go_sem] Oper.semAt_some

theorem grown_drawnS (w : World) (n : Nat) (row : Option Nat) : w.grownBy (w.drewN n) row := ⟨rfl, rfl, rfl, Nat.le_refl _, fun _ _ _ => rfl⟩

/-- The two boxes of the iterator hold what they held. -/
def KeepsCells (Bs Bc : Nat) (W W' : World) : Prop := W'.cell? ⟨Bs, 0, none⟩ = W.cell? ⟨Bs, 0, none⟩ ∧ W'.cell? ⟨Bc, 0, none⟩ = W.cell? ⟨Bc, 0, none⟩
theorem keepsCells_refl (Bs Bc : Nat) (W : World) : KeepsCells Bs Bc W W := ⟨rfl, rfl⟩
theorem keepsCells_t {Bs Bc : Nat} {A B C : World} (h : KeepsCells Bs Bc A B) (k : KeepsCells Bs Bc B C) : KeepsCells Bs Bc A C := ⟨k.1.trans h.1, k.2.trans h.2⟩
theorem keepsCells_drewN {Bs Bc : Nat} {A B : World} (h : KeepsCells Bs Bc A B) (n : Nat) : KeepsCells Bs Bc A (B.drewN n) := h
theorem keepsCells_below {Bs Bc n₀ : Nat} {A B : World} (h : Below n₀ A B) (hs : Bs < n₀) (hc : Bc < n₀) : KeepsCells Bs Bc A B := ⟨h.cell (p := ⟨Bs, 0, none⟩) hs, h.cell (p := ⟨Bc, 0, none⟩) hc⟩
theorem keepsCells_b {Bs Bc : Nat} {w : World} (hs : Bs < w.heap.size) (hc : Bc < w.heap.size) (W : World) (l : Nat) (o o' : Obj) (hl : w.heap.size ≤ l) (h : W.heap[l]? = some o) (h1 : o.isCells = false) (h2 : o.isWalk = false) : KeepsCells Bs Bc W (W.putObj l o') :=
  keepsCells_below (belowK_b (Nat.le_refl _) W l o o' hl h h1 h2) hs hc

set_option maxRecDepth 100000 in
set_option maxHeartbeats 1000000 in
theorem pieces1_in (F : Fence) (n : Nat) (h36 : F.fn 63) (hro : F.round = none) (hn : 1 ≤ n) (l Bs Bc : Nat) (s : ByteArray) (c : UInt8) (hs : s.size ≤ 1048576) (J Jx : List ByteArray → World → Prop)
    (hY : ∀ pre x W, J pre W → pre.length < (pieces s c).length → YieldAt F (n - 1) Tryd.prog l #[.string x] W fun e W' =>
      (e = .returned (.bool true) ∧ J (pre ++ [x]) W' ∧ KeepsCells Bs Bc W W') ∨ (e = .returned (.bool false) ∧ Jx (pre ++ [x]) W'))
    (W : World) (hJ : AbidesFrom W.heap.size J) (hS : W.cell? ⟨Bs, 0, none⟩ = some (.string s)) (hC : W.cell? ⟨Bc, 0, none⟩ = some (.int .u8 (c.toNat : Int))) (h0 : J [] W) :
    CallsIn F n Tryd.prog 63 #[.func (.yield l) #[] #[], .pointer (some ⟨Bs, 0, none⟩), .pointer (some ⟨Bc, 0, none⟩)] W fun e W' => (∃ v, e = .returned v) ∧
      ((∃ ys, ys = pieces s c ∧ J ys W') ∨ (∃ pre, pre <+: pieces s c ∧ Jx pre W')) := by
  have HY := Lib.hid hY
  clear hY
  refine callsIn_of_wp Tryd.func63 rfl h36 ?_ hro
  simp only [Tryd.ntmps63, List.size_toArray, List.length_cons, List.length_nil, Nat.reduceAdd, Nat.reduceSub, Array.replicate_succ, Array.replicate_zero, List.push_toArray, List.append_toArray, List.nil_append, List.cons_append]
  gi_wp2
  gi_loopw [4, 8] (fun st i wr => ∃ k : Nat, k ≤ s.size ∧ i = .int .i64 k ∧ st = .int .i64 (pst s c k).2 ∧ J (pst s c k).1 wr ∧ KeepsCells Bs Bc W wr) (fun _ i _ => s.size - (intOf i).toNat)
  case atStart => exact ⟨0, Nat.zero_le _, rfl, rfl, h0, keepsCells_refl _ _ _⟩
  case round =>
    obtain ⟨k, hk, rfl, rfl, hJk, hB⟩ := hrel
    have hS1 : wr.cell? ⟨Bs, 0, none⟩ = some (.string s) := hB.1.trans hS
    have hC1 : wr.cell? ⟨Bc, 0, none⟩ = some (.int .u8 (c.toNat : Int)) := hB.2.trans hC
    clear hS hC
    have hst := pst_le s c k
    by_cases hlt : k < s.size
    · by_cases hc : s[k] = c
      · have hne : ((s[k].toNat : Int) != (c.toNat : Int)) = false := by rw [hc]; simp
        have HH := Lib.hid (pst_hit s c k hlt hc)
        have hpl := pst_lt s c k hk
        clear hc
        gi_wp2
        refine wpIn_region_quiet_lit hro (by kernel_rfl) (by kernel_rfl) ?_
        repeat (gi_big_quiet_step (fail))
        refine wpQuietIn_nil ?_
        rintro _ ⟨nq, rfl⟩
        have hJq : J (pst s c k).1 (wr.drewN nq) := hJ _ wr _ none hJk (grown_drawnS _ _ _) (fun r e => by cases e)
        obtain ⟨fn, tmps, assign, body, hy, hR⟩ := HY.out (pst s c k).1 (s.extract (pst s c k).2 k) (wr.drewN nq) hJq hpl
        gi_wp2
        refine hR.mono ?_
        rintro e W3 (⟨rfl, hJ3, hk3⟩ | ⟨rfl, hJx3⟩)
        · have hB3 : KeepsCells Bs Bc W W3 := keepsCells_t (keepsCells_drewN hB nq) hk3
          gi_wp2
          refine ⟨⟨k + 1, by omega, by go_num, by rw [HH.out]; go_num, by rw [HH.out]; exact hJ3, hB3⟩, by simp [intOf]; omega⟩
        · gi_wp2
          refine bodyPost_ret (results_none rfl _ _ _) rfl ?_
          refine ⟨⟨_, rfl⟩, .inr ⟨_, ?_, hJx3⟩⟩
          have := pst_prefix s c (k + 1) (by omega)
          rw [HH.out] at this
          exact this
      · have hne : ((s[k].toNat : Int) != (c.toNat : Int)) = true := by
          rw [bne_iff_ne]; intro e; exact hc (UInt8.toNat_inj.1 (by omega))
        have HH := Lib.hid (pst_miss s c k hlt hc)
        clear hc
        gi_wp2
        refine wpIn_region_quiet_lit hro (by kernel_rfl) (by kernel_rfl) ?_
        repeat (gi_big_quiet_step (fail))
        refine wpQuietIn_nil ?_
        rintro _ ⟨nq, rfl⟩
        have hJq : J (pst s c k).1 (wr.drewN nq) := hJ _ wr _ none hJk (grown_drawnS _ _ _) (fun r e => by cases e)
        gi_wp2
        refine ⟨⟨k + 1, by omega, by go_num, by rw [HH.out], by rw [HH.out]; exact hJq, keepsCells_drewN hB nq⟩, by simp [intOf]; omega⟩
    · obtain rfl : k = s.size := by omega
      have hpl := pst_lt s c s.size hk
      obtain ⟨fn, tmps, assign, body, hy, hR⟩ := HY.out (pst s c s.size).1 (s.extract (pst s c s.size).2 s.size) wr hJk hpl
      gi_wp2
      refine hR.mono ?_
      rintro e W3 (⟨rfl, hJ3, hk3⟩ | ⟨rfl, hJx3⟩)
      · gi_wp2
        go_end0
        exact ⟨⟨_, rfl⟩, .inl ⟨_, rfl, hJ3⟩⟩
      · gi_wp2
        go_end0
        exact ⟨⟨_, rfl⟩, .inr ⟨_, List.prefix_refl _, hJx3⟩⟩
end Go.Proofs.YtfbeoficgkkamaaDoor
