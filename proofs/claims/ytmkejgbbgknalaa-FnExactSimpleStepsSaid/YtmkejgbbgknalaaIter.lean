/-
  The iterator slices.Backward: it yields the places and the ints of a list, the last one first. No statement of the seat by itself.
-/
import Derived.RangeFuncBox
import Derived.RangeFuncLeaves
import Derived.RangeFuncNested
import Derived.RangeFuncBound
import Derived.RangeFuncCalls
import Derived.Shelf.Abstract
import Derived.Shelf.RegionOpen
import Derived.WalkKit
import Derived.OwnWalkIn
import Derived.TacticsInMore
import Derived.LoopNIn
import Derived.LoopIn
import Derived.Maps.AppendAt
import Derived.Lib.Hide
import Derived.WalkSmall
import Derived.Sort.QuietIn
import Derived.Test.YtmkejgbbgknalaaHeights
namespace Go.Proofs.Ytmkejgbbgknalaa
open Go.RowKit Go.Shelf
attribute [local go_sem] Oper.semAt_some

/-- The last k of a list with their places, the last one first. -/
def bk (l : List Int) (k : Nat) : List (Int × Int) := (List.range k).map fun (j : Nat) => (((l.length - 1 - j : Nat) : Int), l.getD (l.length - 1 - j) 0)
theorem bk_len (l : List Int) (k : Nat) : (bk l k).length = k := by simp [bk]
theorem bk_succ {l : List Int} {k r : Nat} {x : Int} (hr : k + (r + 1) = l.length) (hx : l[r]? = some x) : bk l (k + 1) = bk l k ++ [((r : Int), x)] := by
  unfold bk
  have e : l.length - 1 - k = r := by omega
  rw [List.range_succ, List.map_append, List.map_singleton, e]
  simp [List.getD, hx]
theorem bk_prefix (l : List Int) {k : Nat} (h : k ≤ l.length) : bk l k <+: bk l l.length := by
  unfold bk
  obtain ⟨d, hd⟩ : ∃ d, l.length = k + d := ⟨l.length - k, by omega⟩
  have e : List.range l.length = List.range k ++ (List.range d).map (k + ·) := by rw [hd, List.range_add]
  rw [e, List.map_append]
  exact List.prefix_append _ _
def encs2 (p : Int × Int) : Array Value := #[.int .i64 p.1, .int .i64 p.2]
theorem grown_drawn (w : World) (n : Nat) (row : Option Nat) : w.grownBy (w.drewN n) row := ⟨rfl, rfl, rfl, Nat.le_refl _, fun _ _ _ => rfl⟩

/-- The iterator's box and the ints hold what they held. -/
def KeepsL (Bs g : Nat) (W W' : World) : Prop := W'.cell? ⟨Bs, 0, none⟩ = W.cell? ⟨Bs, 0, none⟩ ∧ W'.heap[g]? = W.heap[g]?
theorem keepsL_refl (Bs g : Nat) (W : World) : KeepsL Bs g W W := ⟨rfl, rfl⟩
theorem keepsL_t {Bs g : Nat} {A B C : World} (h : KeepsL Bs g A B) (k : KeepsL Bs g B C) : KeepsL Bs g A C := ⟨k.1.trans h.1, k.2.trans h.2⟩
theorem keepsL_drewN {Bs g : Nat} {A B : World} (h : KeepsL Bs g A B) (n : Nat) : KeepsL Bs g A (B.drewN n) := h
theorem keepsL_below {Bs g n₀ : Nat} {A B : World} (h : Below n₀ A B) (hs : Bs < n₀) (hc : g < n₀) : KeepsL Bs g A B := ⟨h.cell (p := ⟨Bs, 0, none⟩) hs, h.block g hc⟩
theorem keepsL_b {Bs g : Nat} {w : World} (hs : Bs < w.heap.size) (hc : g < w.heap.size) (W : World) (l : Nat) (o o' : Obj) (hl : w.heap.size ≤ l) (h : W.heap[l]? = some o) (h1 : o.isCells = false) (h2 : o.isWalk = false) : KeepsL Bs g W (W.putObj l o') :=
  keepsL_below (belowK_b (Nat.le_refl _) W l o o' hl h h1 h2) hs hc

set_option maxRecDepth 100000 in
set_option maxHeartbeats 1000000 in
theorem back1_in (F : Fence) (n : Nat) (h36 : F.fn 126) (hro : F.round = none) (hn : 1 ≤ n) (l Bs g off c m : Nat) (L : List Int) (hm : L.length = m) (hm1 : m ≤ 1048576) (J Jx : List (Int × Int) → World → Prop)
    (hY : ∀ pre x W, J pre W → pre.length < m → YieldAt F (n - 1) Try.prog l (encs2 x) W fun e W' =>
      (e = .returned (.bool true) ∧ J (pre ++ [x]) W' ∧ KeepsL Bs g W W') ∨ (e = .returned (.bool false) ∧ Jx (pre ++ [x]) W'))
    (W : World) (hS : W.cell? ⟨Bs, 0, none⟩ = some (.slice (some ⟨g, off, none⟩) m c)) (hC : ∀ (j : Nat) (x : Int), L[j]? = some x → W.cell? ⟨g, off + j, none⟩ = some (.int .i64 x)) (h0 : J [] W) :
    CallsIn F n Try.prog 126 #[.func (.yield l) #[] #[], .pointer (some ⟨Bs, 0, none⟩)] W fun e W' => (∃ v, e = .returned v) ∧
      ((∃ ys, ys = bk L m ∧ J ys W') ∨ (∃ pre, pre <+: bk L m ∧ Jx pre W')) := by
  have HY := Lib.hid hY
  have HC := Lib.hid hC
  have HM := Lib.hid hm
  clear hY hC hm
  refine callsIn_of_wp Try.func126 rfl h36 ?_ hro
  simp only [Try.ntmps126, List.size_toArray, List.length_cons, List.length_nil, Nat.reduceAdd, Nat.reduceSub, Array.replicate_succ, Array.replicate_zero, List.push_toArray, List.append_toArray, List.nil_append, List.cons_append]
  gi_wp2
  gi_loopw [3] (fun i wr => ∃ k q : Nat, k + q = m ∧ i = .int .i64 ((q : Int) - 1) ∧ Hid (J (bk L k) wr) ∧ Hid (KeepsL Bs g W wr)) (fun i _ => (intOf i + 1).toNat)
  case atStart => exact ⟨0, m, by omega, val_i (by omega), Lib.hid (by simpa [bk] using h0), Lib.hid (keepsL_refl _ _ _)⟩
  case round =>
    obtain ⟨k, q, hkq, rfl, HJ, HB⟩ := hrel
    have hS1 : wr.cell? ⟨Bs, 0, none⟩ = some (.slice (some ⟨g, off, none⟩) m c) := HB.out.1.trans hS
    match q, hkq with
    | r + 1, hkq =>
      obtain ⟨x, hx⟩ := get_at (Y := L) (k := r) HM.out (by omega)
      have hc1 : wr.cell? ⟨g, off + r, none⟩ = some (.int .i64 x) := (World.cell?_of_block (a := ⟨g, off + r, none⟩) HB.out.2).trans (HC.out r x hx)
      have HH := Lib.hid (bk_succ (l := L) (k := k) (r := r) (by have := HM.out; omega) hx)
      have hr : (((r + 1 : Nat) : Int)) - 1 = (r : Int) := by omega
      rw [hr]
      have hr0 : (0 : Int) ≤ (r : Int) := by omega
      have hrm : r < m := by omega
      obtain ⟨fn, tmps, assign, body, hy, hR⟩ := HY.out (bk L k) ((r : Int), x) wr HJ.out (by rw [bk_len]; omega)
      dsimp only [encs2] at hy
      clear hx hr
      gi_wp2
      refine hR.mono ?_
      rintro e W3 (⟨rfl, hJ3, hk3⟩ | ⟨rfl, hJx3⟩)
      · have HB3 : Hid (KeepsL Bs g W W3) := Lib.hid (keepsL_t HB.out hk3)
        have HJ3 : Hid (J (bk L (k + 1)) W3) := Lib.hid (by rw [HH.out]; exact hJ3)
        clear hJ3 hk3
        gi_wp2
        refine ⟨⟨k + 1, r, by omega, rfl, HJ3, HB3⟩, by simp [intOf]⟩
      · gi_wp2
        refine bodyPost_ret (results_none rfl _ _ _) rfl ?_
        refine ⟨⟨_, rfl⟩, .inr ⟨_, ?_, hJx3⟩⟩
        have := bk_prefix L (k := k + 1) (by have := HM.out; omega)
        rw [HH.out, HM.out] at this
        exact this
    | 0, hkq =>
      obtain rfl : k = m := by omega
      gi_wp2
      go_end0
      exact ⟨⟨_, rfl⟩, .inl ⟨_, rfl, HJ.out⟩⟩
theorem back_stops (F : Fence) (n : Nat) (h36 : F.fn 126) (hro : F.round = none) (hn : 1 ≤ n) (Bs g off c m : Nat) (L : List Int) (hm : L.length = m) (hm1 : m ≤ 1048576) (w : World) (hB : Bs < w.heap.size) (hg : g < w.heap.size)
    (hS : w.cell? ⟨Bs, 0, none⟩ = some (.slice (some ⟨g, off, none⟩) m c)) (hC : ∀ (j : Nat) (x : Int), L[j]? = some x → w.cell? ⟨g, off + j, none⟩ = some (.int .i64 x)) :
    SeqStopsK F n Try.prog 126 #[.pointer (some ⟨Bs, 0, none⟩)] encs2 (KeepsL Bs g) (fun ys => ys = bk L m) (fun pre => pre <+: bk L m) m w :=
  fun l J Jx W hW _ _ hY h0 => back1_in F n h36 hro hn l Bs g off c m L hm hm1 J Jx hY W ((hW.cell (p := ⟨Bs, 0, none⟩) hB).trans hS) (fun j x hx => (hW.cell (p := ⟨g, off + j, none⟩) hg).trans (hC j x hx)) h0
end Go.Proofs.Ytmkejgbbgknalaa
