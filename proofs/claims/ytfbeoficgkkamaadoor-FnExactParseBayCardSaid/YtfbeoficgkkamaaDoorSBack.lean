/-
  The iterator slices.Backward over strings: it yields the places and the strings of a list, the last one first. No statement of the seat by itself.
-/
import Derived.Test.YtfbeoficgkkamaaDoorSplitW
import Derived.Test.YtfbeoficgkkamaaDoorHeights
namespace Go.Proofs.YtfbeoficgkkamaaDoor
open Go.RowKit Go.Shelf
attribute [local go_sem] Oper.semAt_some

/-- The last k of a list with their places, the last one first. -/
def bkS (l : List ByteArray) (k : Nat) : List (Int × ByteArray) := (List.range k).map fun (j : Nat) => (((l.length - 1 - j : Nat) : Int), l.getD (l.length - 1 - j) ⟨#[]⟩)
theorem bk_lenS (l : List ByteArray) (k : Nat) : (bkS l k).length = k := by simp [bkS]
theorem bk_succS {l : List ByteArray} {k r : Nat} {x : ByteArray} (hr : k + (r + 1) = l.length) (hx : l[r]? = some x) : bkS l (k + 1) = bkS l k ++ [((r : Int), x)] := by
  unfold bkS
  have e : l.length - 1 - k = r := by omega
  rw [List.range_succ, List.map_append, List.map_singleton, e]
  simp [List.getD, hx]
theorem bk_prefixS (l : List ByteArray) {k : Nat} (h : k ≤ l.length) : bkS l k <+: bkS l l.length := by
  unfold bkS
  obtain ⟨d, hd⟩ : ∃ d, l.length = k + d := ⟨l.length - k, by omega⟩
  have e : List.range l.length = List.range k ++ (List.range d).map (k + ·) := by rw [hd, List.range_add]
  rw [e, List.map_append]
  exact List.prefix_append _ _
def encs2S (p : Int × ByteArray) : Array Value := #[.int .i64 p.1, .string p.2]

/-- The iterator's box and the ints hold what they held. -/
def KeepsLS (Bs g : Nat) (W W' : World) : Prop := W'.cell? ⟨Bs, 0, none⟩ = W.cell? ⟨Bs, 0, none⟩ ∧ W'.heap[g]? = W.heap[g]?
theorem keepsL_reflS (Bs g : Nat) (W : World) : KeepsLS Bs g W W := ⟨rfl, rfl⟩
theorem keepsL_tS {Bs g : Nat} {A B C : World} (h : KeepsLS Bs g A B) (k : KeepsLS Bs g B C) : KeepsLS Bs g A C := ⟨k.1.trans h.1, k.2.trans h.2⟩
theorem keepsL_drewNS {Bs g : Nat} {A B : World} (h : KeepsLS Bs g A B) (n : Nat) : KeepsLS Bs g A (B.drewN n) := h
theorem keepsL_belowS {Bs g n₀ : Nat} {A B : World} (h : Below n₀ A B) (hs : Bs < n₀) (hc : g < n₀) : KeepsLS Bs g A B := ⟨h.cell (p := ⟨Bs, 0, none⟩) hs, h.block g hc⟩
theorem keepsL_bS {Bs g : Nat} {w : World} (hs : Bs < w.heap.size) (hc : g < w.heap.size) (W : World) (l : Nat) (o o' : Obj) (hl : w.heap.size ≤ l) (h : W.heap[l]? = some o) (h1 : o.isCells = false) (h2 : o.isWalk = false) : KeepsLS Bs g W (W.putObj l o') :=
  keepsL_belowS (belowK_b (Nat.le_refl _) W l o o' hl h h1 h2) hs hc

set_option maxRecDepth 100000 in
set_option maxHeartbeats 1000000 in
theorem back1_inS (F : Fence) (n : Nat) (h36 : F.fn 49) (hro : F.round = none) (hn : 1 ≤ n) (l Bs g off c m : Nat) (L : List ByteArray) (hm : L.length = m) (hm1 : m ≤ 1048576) (J Jx : List (Int × ByteArray) → World → Prop)
    (hY : ∀ pre x W, J pre W → pre.length < m → YieldAt F (n - 1) Tryd.prog l (encs2S x) W fun e W' =>
      (e = .returned (.bool true) ∧ J (pre ++ [x]) W' ∧ KeepsLS Bs g W W') ∨ (e = .returned (.bool false) ∧ Jx (pre ++ [x]) W'))
    (W : World) (hS : W.cell? ⟨Bs, 0, none⟩ = some (.slice (some ⟨g, off, none⟩) m c)) (hC : ∀ (j : Nat) (x : ByteArray), L[j]? = some x → W.cell? ⟨g, off + j, none⟩ = some (.string x)) (h0 : J [] W) :
    CallsIn F n Tryd.prog 49 #[.func (.yield l) #[] #[], .pointer (some ⟨Bs, 0, none⟩)] W fun e W' => (∃ v, e = .returned v) ∧
      ((∃ ys, ys = bkS L m ∧ J ys W') ∨ (∃ pre, pre <+: bkS L m ∧ Jx pre W')) := by
  have HY := Lib.hid hY
  have HC := Lib.hid hC
  have HM := Lib.hid hm
  clear hY hC hm
  refine callsIn_of_wp Tryd.func49 rfl h36 ?_ hro
  simp only [Tryd.ntmps49, List.size_toArray, List.length_cons, List.length_nil, Nat.reduceAdd, Nat.reduceSub, Array.replicate_succ, Array.replicate_zero, List.push_toArray, List.append_toArray, List.nil_append, List.cons_append]
  gi_wp2
  gi_loopw [3] (fun i wr => ∃ k q : Nat, k + q = m ∧ i = .int .i64 ((q : Int) - 1) ∧ Hid (J (bkS L k) wr) ∧ Hid (KeepsLS Bs g W wr)) (fun i _ => (intOf i + 1).toNat)
  case atStart => exact ⟨0, m, by omega, val_i (by omega), Lib.hid (by simpa [bkS] using h0), Lib.hid (keepsL_reflS _ _ _)⟩
  case round =>
    obtain ⟨k, q, hkq, rfl, HJ, HB⟩ := hrel
    have hS1 : wr.cell? ⟨Bs, 0, none⟩ = some (.slice (some ⟨g, off, none⟩) m c) := HB.out.1.trans hS
    match q, hkq with
    | r + 1, hkq =>
      obtain ⟨x, hx⟩ := get_at (Y := L) (k := r) HM.out (by omega)
      have hc1 : wr.cell? ⟨g, off + r, none⟩ = some (.string x) := (World.cell?_of_block (a := ⟨g, off + r, none⟩) HB.out.2).trans (HC.out r x hx)
      have HH := Lib.hid (bk_succS (l := L) (k := k) (r := r) (by have := HM.out; omega) hx)
      have hr : (((r + 1 : Nat) : Int)) - 1 = (r : Int) := by omega
      rw [hr]
      have hr0 : (0 : Int) ≤ (r : Int) := by omega
      have hrm : r < m := by omega
      obtain ⟨fn, tmps, assign, body, hy, hR⟩ := HY.out (bkS L k) ((r : Int), x) wr HJ.out (by rw [bk_lenS]; omega)
      dsimp only [encs2S] at hy
      clear hx hr
      gi_wp2
      refine hR.mono ?_
      rintro e W3 (⟨rfl, hJ3, hk3⟩ | ⟨rfl, hJx3⟩)
      · have HB3 : Hid (KeepsLS Bs g W W3) := Lib.hid (keepsL_tS HB.out hk3)
        have HJ3 : Hid (J (bkS L (k + 1)) W3) := Lib.hid (by rw [HH.out]; exact hJ3)
        clear hJ3 hk3
        gi_wp2
        refine ⟨⟨k + 1, r, by omega, rfl, HJ3, HB3⟩, by simp [intOf]⟩
      · gi_wp2
        refine bodyPost_ret (results_none rfl _ _ _) rfl ?_
        refine ⟨⟨_, rfl⟩, .inr ⟨_, ?_, hJx3⟩⟩
        have := bk_prefixS L (k := k + 1) (by have := HM.out; omega)
        rw [HH.out, HM.out] at this
        exact this
    | 0, hkq =>
      obtain rfl : k = m := by omega
      gi_wp2
      go_end0
      exact ⟨⟨_, rfl⟩, .inl ⟨_, rfl, HJ.out⟩⟩
theorem back_stopsS (F : Fence) (n : Nat) (h36 : F.fn 49) (hro : F.round = none) (hn : 1 ≤ n) (Bs g off c m : Nat) (L : List ByteArray) (hm : L.length = m) (hm1 : m ≤ 1048576) (w : World) (hB : Bs < w.heap.size) (hg : g < w.heap.size)
    (hS : w.cell? ⟨Bs, 0, none⟩ = some (.slice (some ⟨g, off, none⟩) m c)) (hC : ∀ (j : Nat) (x : ByteArray), L[j]? = some x → w.cell? ⟨g, off + j, none⟩ = some (.string x)) :
    SeqStopsK F n Tryd.prog 49 #[.pointer (some ⟨Bs, 0, none⟩)] encs2S (KeepsLS Bs g) (fun ys => ys = bkS L m) (fun pre => pre <+: bkS L m) m w :=
  fun l J Jx W hW _ _ hY h0 => back1_inS F n h36 hro hn l Bs g off c m L hm hm1 J Jx hY W ((hW.cell (p := ⟨Bs, 0, none⟩) hB).trans hS) (fun j x hx => (hW.cell (p := ⟨g, off + j, none⟩) hg).trans (hC j x hx)) h0
theorem backward_anyS (a : Option Addr) (n c : Nat) (w : World) : Calls Tryd.prog 26 #[.slice a n c] w fun e w' => e = .returned (.func (.func 49) #[] #[.pointer (some ⟨w.heap.size, 0, none⟩)]) ∧ w' = w.alloc (.cells #[.slice a n c] 43) := by
  go_enter Tryd.func26, Tryd.ntmps26
  go_wp2_with fail
  go_ret
  exact ⟨rfl, rfl⟩
end Go.Proofs.YtfbeoficgkkamaaDoor
