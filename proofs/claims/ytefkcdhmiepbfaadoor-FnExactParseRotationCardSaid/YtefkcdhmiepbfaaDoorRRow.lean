/-
  Lists of ints and rotations in memory, and the laws' own helpers on them: szIntS, toIntS, eqIntS, szRotation, toRotation, eqRotation. No statement of the seat by itself.
-/
import Derived.Test.YtefkcdhmiepbfaaDoorProg
import Derived.Test.YtefkcdhmiepbfaaDoorRRota
import Derived.WalkKit
import Derived.WalkSmall
import Derived.WalkSpells
import Derived.Lib.Hide
import Derived.Lib.BufferOwn
import Derived.Lib.BufferMore
import Derived.Deep.QuietTactic
import Derived.BigQuiet
import Derived.IntWalk
import Derived.StillTailTactics
import Derived.Laws.MakeOwn
import Derived.Laws.Entries
namespace Go.Proofs.YtefkcdhmiepbfaaDoor.R
open Go.RowKit

theorem val_i {k : IntKind} {a b : Int} (h : a = b) : Value.int k a = .int k b := by rw [h]
theorem ret_i {k : IntKind} {a b : Int} (h : a = b) : Ending.returned (.int k a) = .returned (.int k b) := by rw [h]
theorem below_drewN {a w : World} {B : Nat} (h : Below B a w) (n : Nat) : Below B a (w.drewN n) := ⟨h.os, h.tape, h.output, h.size, h.block⟩

/-- n ints in block g from place off on. -/
def IAt (w : World) (g off n : Nat) (f : Nat → Int) : Prop := g < w.heap.size ∧ ∀ j, j < n → w.cell? ⟨g, off + j, none⟩ = some (.int .i64 (f j))
theorem IAt.below {w w' : World} {g off n : Nat} {f : Nat → Int} (h : IAt w g off n f) (hb : Below w.heap.size w w') : IAt w' g off n f :=
  ⟨Nat.lt_of_lt_of_le h.1 hb.size, fun j hj => (hb.cell (p := ⟨g, off + j, none⟩) h.1).trans (h.2 j hj)⟩
/-- A slice that reads as n ints. -/
def ArgI (w : World) (v : Value) (n : Nat) (f : Nat → Int) : Prop := (n = 0 ∧ ∃ a c, v = .slice a 0 c) ∨ ∃ g off cap, v = .slice (some ⟨g, off, none⟩) n cap ∧ IAt w g off n f
theorem ArgI.below {w w' : World} {v : Value} {n : Nat} {f : Nat → Int} (h : ArgI w v n f) (hb : Below w.heap.size w w') : ArgI w' v n f := by
  rcases h with ⟨rfl, a, c, rfl⟩ | ⟨g, off, cap, rfl, hc⟩
  · exact .inl ⟨rfl, _, _, rfl⟩
  · exact .inr ⟨g, off, cap, rfl, hc.below hb⟩
theorem ArgI.form {w : World} {v : Value} {n : Nat} {f : Nat → Int} (h : ArgI w v n f) : ∃ a c, v = .slice a n c := by
  rcases h with ⟨rfl, a, c, rfl⟩ | ⟨g, off, cap, rfl, hc⟩
  · exact ⟨_, _, rfl⟩
  · exact ⟨_, _, rfl⟩
theorem ArgI.rows {w : World} {v : Value} {n : Nat} {f : Nat → Int} (h : ArgI w v n f) (h0 : 0 < n) : ∃ g off cap, v = .slice (some ⟨g, off, none⟩) n cap ∧ IAt w g off n f := by
  rcases h with ⟨rfl, a, c, rfl⟩ | ⟨g, off, cap, rfl, hc⟩
  · omega
  · exact ⟨_, _, _, rfl, hc⟩

/-- A block of ints of which the first n are told. -/
def RowI (W : World) (g cap n : Nat) (f : Nat → Int) : Prop := ∃ cur : Array Value, W.heap[g]? = some (.cells cur 3 (0, 0)) ∧ n ≤ cap ∧ cur.size = cap ∧ ∀ j, j < n → cur[j]? = some (.int .i64 (f j))
theorem RowI.cell {W : World} {g cap n : Nat} {f : Nat → Int} (h : RowI W g cap n f) (j : Nat) (hj : j < n) : W.cell? ⟨g, j, none⟩ = some (.int .i64 (f j)) := by
  obtain ⟨cur, hb, _, _, hc⟩ := h
  simp [World.cell?, hb, hc j hj]
theorem RowI.lt {W : World} {g cap n : Nat} {f : Nat → Int} (h : RowI W g cap n f) : g < W.heap.size := by
  obtain ⟨cur, hb, _⟩ := h
  exact (Array.getElem?_eq_some_iff.1 hb).1
theorem RowI.block {W W' : World} {g cap n : Nat} {f : Nat → Int} (h : RowI W g cap n f) (he : W'.heap[g]? = W.heap[g]?) : RowI W' g cap n f := by
  obtain ⟨cur, hb, h1⟩ := h
  exact ⟨cur, he.trans hb, h1⟩
theorem RowI.below {W W' : World} {g cap n : Nat} {f : Nat → Int} (h : RowI W g cap n f) (hb : Below W.heap.size W W') : RowI W' g cap n f := h.block (hb.block g h.lt)
theorem RowI.arg {W : World} {g cap n : Nat} {f : Nat → Int} (h : RowI W g cap n f) : ArgI W (.slice (some ⟨g, 0, none⟩) n cap) n f :=
  .inr ⟨g, 0, cap, rfl, h.lt, fun j hj => by rw [Nat.zero_add]; exact h.cell j hj⟩

theorem infoI : (Tryd.prog.info? 3).map (fun i => (i.zero, i.size, i.bytes)) = some (some (.int .i64 0), 1, 8) := by kernel_rfl
theorem info_is {P : Program} {t : TypeId} {z : Value} {s b : Nat} (h : (P.info? t).map (fun i => (i.zero, i.size, i.bytes)) = some (some z, s, b)) : ∃ i, P.info? t = some i ∧ i.zero = some z ∧ i.size = s ∧ i.bytes = b := by
  cases hi : P.info? t with
  | none => rw [hi] at h; cases h
  | some i =>
    rw [hi] at h
    simp only [Option.map_some, Option.some.injEq, Prod.mk.injEq] at h
    exact ⟨i, rfl, h.1, h.2.1, h.2.2⟩


set_option maxHeartbeats 400000 in
theorem eqI_empty (a1 a2 : Option Addr) (c1 c2 : Nat) (w : World) :
    Calls Tryd.prog 35 #[.slice a1 0 c1, .slice a2 0 c2] w fun e w' => e = .returned (.bool true) ∧ Below w.heap.size w w' := by
  go_enter Tryd.func35, Tryd.ntmps35
  go_wp2
  go_loop [5] (fun i => i = .int .i64 0) (fun _ => 0)
  case atStart => rfl
  case round =>
    obtain rfl := hrel
    go_wp2
    go_ret
    exact ⟨rfl, Below.refl _ _⟩

set_option maxRecDepth 100000 in
set_option maxHeartbeats 1000000 in
theorem eqI_rows (g1 g2 o1 o2 c1 c2 n : Nat) (f : Nat → Int) (hn : n ≤ 1048576) (w : World) (h1 : IAt w g1 o1 n f) (h2 : IAt w g2 o2 n f) :
    Calls Tryd.prog 35 #[.slice (some ⟨g1, o1, none⟩) n c1, .slice (some ⟨g2, o2, none⟩) n c2] w fun e w' => e = .returned (.bool true) ∧ Below w.heap.size w w' := by
  have H1 := Lib.hid h1
  have H2 := Lib.hid h2
  clear h1 h2
  go_enter Tryd.func35, Tryd.ntmps35
  go_wp2
  go_loopw [5] (fun i wr => ∃ k q : Nat, k ≤ n ∧ i = .int .i64 k ∧ wr = w.drewN q) (fun i _ => n - (intOf i).toNat)
  case atStart => exact ⟨0, 0, Nat.zero_le _, rfl, rfl⟩
  case round =>
    obtain ⟨k, q, hk, rfl, rfl⟩ := hrel
    by_cases hlt : k < n
    · have hc1 : w.cell? ⟨g1, o1 + k, none⟩ = some (.int .i64 (f k)) := H1.out.2 k hlt
      have hc2 : w.cell? ⟨g2, o2 + k, none⟩ = some (.int .i64 (f k)) := H2.out.2 k hlt
      generalize f k = x at *
      go_wp2
      go_quiet (fail)
      go_wp2
      refine ⟨⟨k + 1, q + nq, by omega, by go_num, rfl⟩, by simp [intOf]; omega⟩
    · go_wp2
      go_ret
      exact ⟨rfl, below_drewN (Below.refl _ _) q⟩
theorem eqI_any (v1 v2 : Value) (n : Nat) (f : Nat → Int) (hn : n ≤ 1048576) (w : World) (h1 : ArgI w v1 n f) (h2 : ArgI w v2 n f) :
    Calls Tryd.prog 35 #[v1, v2] w fun e w' => e = .returned (.bool true) ∧ Below w.heap.size w w' := by
  by_cases h0 : 0 < n
  · obtain ⟨g1, o1, c1, rfl, i1⟩ := h1.rows h0
    obtain ⟨g2, o2, c2, rfl, i2⟩ := h2.rows h0
    exact eqI_rows g1 g2 o1 o2 c1 c2 n f hn w i1 i2
  · obtain rfl : n = 0 := by omega
    obtain ⟨a1, c1, rfl⟩ := h1.form
    obtain ⟨a2, c2, rfl⟩ := h2.form
    exact eqI_empty _ _ _ _ w
end Go.Proofs.YtefkcdhmiepbfaaDoor.R
