/-
  The iterator slices.Backward: it yields the places and the ints of a list, the last one first. No statement of the seat by itself.
-/
import Derived.RangeFuncBox
import Derived.RangeFuncLeaves
import Derived.RangeFuncNested
import Derived.RangeFuncBound
import Derived.RangeFuncCalls
import Derived.Shelf.Abstract
import Derived.Shelf.RegionOpen
import Derived.WalkKit
import Derived.OwnWalkIn
import Derived.TacticsInMore
import Derived.LoopNIn
import Derived.LoopIn
import Derived.Maps.AppendAt
import Derived.Lib.Hide
import Derived.WalkSmall
import Derived.Sort.QuietIn
import Derived.Test.YtalobfpmmembiaaHeights
namespace Go.Proofs.Ytalobfpmmembiaa
open Go.RowKit Go.Shelf
attribute [local go_sem] Oper.semAt_some

/-- The last k of a list with their places, the last one first. -/
def bk (l : List Int) (k : Nat) : List (Int × Int) := (List.range k).map fun (j : Nat) => (((l.length - 1 - j : Nat) : Int), l.getD (l.length - 1 - j) 0)
theorem bk_len (l : List Int) (k : Nat) : (bk l k).length = k := by simp [bk]
theorem bk_succ {l : List Int} {k r : Nat} {x : Int} (hr : k + (r + 1) = l.length) (hx : l[r]? = some x) : bk l (k + 1) = bk l k ++ [((r : Int), x)] := by
  unfold bk
  have e : l.length - 1 - k = r := by omega
  rw [List.range_succ, List.map_append, List.map_singleton, e]
  simp [List.getD, hx]
theorem bk_prefix (l : List Int) {k : Nat} (h : k ≤ l.length) : bk l k <+: bk l l.length := by
  unfold bk
  obtain ⟨d, hd⟩ : ∃ d, l.length = k + d := ⟨l.length - k, by omega⟩
  have e : List.range l.length = List.range k ++ (List.range d).map (k + ·) := by rw [hd, List.range_add]
  rw [e, List.map_append]
  exact List.prefix_append _ _
def encs2 (p : Int × Int) : Array Value := #[.int .i64 p.1, .int .i64 p.2]
theorem grown_drawn (w : World) (n : Nat) (row : Option Nat) : w.grownBy (w.drewN n) row := ⟨rfl, rfl, rfl, Nat.le_refl _, fun _ _ _ => rfl⟩

/-- The iterator's box and the ints hold what they held. -/
def KeepsL (Bs g : Nat) (W W' : World) : Prop := W'.cell? ⟨Bs, 0, none⟩ = W.cell? ⟨Bs, 0, none⟩ ∧ W'.heap[g]? = W.heap[g]?
theorem keepsL_refl (Bs g : Nat) (W : World) : KeepsL Bs g W W := ⟨rfl, rfl⟩
theorem keepsL_t {Bs g : Nat} {A B C : World} (h : KeepsL Bs g A B) (k : KeepsL Bs g B C) : KeepsL Bs g A C := ⟨k.1.trans h.1, k.2.trans h.2⟩
theorem keepsL_drewN {Bs g : Nat} {A B : World} (h : KeepsL Bs g A B) (n : Nat) : KeepsL Bs g A (B.drewN n) := h
theorem keepsL_below {Bs g n₀ : Nat} {A B : World} (h : Below n₀ A B) (hs : Bs < n₀) (hc : g < n₀) : KeepsL Bs g A B := ⟨h.cell (p := ⟨Bs, 0, none⟩) hs, h.block g hc⟩
theorem keepsL_b {Bs g : Nat} {w : World} (hs : Bs < w.heap.size) (hc : g < w.heap.size) (W : World) (l : Nat) (o o' : Obj) (hl : w.heap.size ≤ l) (h : W.heap[l]? = some o) (h1 : o.isCells = false) (h2 : o.isWalk = false) : KeepsL Bs g W (W.putObj l o') :=
  keepsL_below (belowK_b (Nat.le_refl _) W l o o' hl h h1 h2) hs hc

end Go.Proofs.Ytalobfpmmembiaa
