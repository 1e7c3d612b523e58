/-
  While the specification draws a yard: the state of the draws, the yard's box, the rows that grow. No statement of the seat by itself.
-/
import Derived.Test.YthokmklnldoinaaDDraws
import Derived.Test.YthokmklnldoinaaMoveO
namespace Go.Proofs.Ythokmklnldoinaa.D
open Go.RowKit

/-- While a yard is drawn: the state of the draws in block b, an empty yard in the result's box, the yard in its own. -/
def YS (w : World) (b : Nat) (v : Value) (N : Nat) (s : Value) (Y : List (List Int)) (W : World) : Prop :=
  Cur W b v N ∧ W.heap[w.heap.size]? = some (.cells #[.slice none 0 0] 26 (0, 0)) ∧ W.heap[w.heap.size + 1]? = some (.cells #[s] 26 (0, 0)) ∧
  OwnY W (w.heap.size + 2) W.heap.size s Y ∧ w.grownBy W (some b) ∧ w.heap.size + 2 ≤ W.heap.size ∧ b < w.heap.size
theorem YS.more {w W : World} {b N M : Nat} {v s : Value} {Y : List (List Int)} (h : YS w b v N s Y W) (hm : N ≤ M) : YS w b v M s Y W := ⟨h.1.more hm, h.2⟩
theorem YS.cell {w W : World} {b N : Nat} {v s : Value} {Y : List (List Int)} (h : YS w b v N s Y W) : W.cell? ⟨w.heap.size + 1, 0, none⟩ = some s := cell_of h.2.2.1 rfl
theorem YS.drew {w W : World} {b N : Nat} {v s : Value} {Y : List (List Int)} (h : YS w b v N s Y W) : YS w b v N s Y W.drew := by
  obtain ⟨h1, h2, h3, h4, h5, h6, h7⟩ := h
  have hb : Below W.heap.size W W.drew := (Below.refl _ _).drew
  exact ⟨h1.below hb, h2, h3, h4.below hb, ⟨h5.os, h5.tape, h5.output, h5.size, h5.block⟩, h6, h7⟩
theorem YS.start {w : World} {b N : Nat} {v : Value} (h : Cur w b v N) :
    YS w b v N (.slice none 0 0) [] ((w.alloc (.cells #[.slice none 0 0] 26)).alloc (.cells #[.slice none 0 0] 26)) := by
  have hb1 := below_one w (.cells #[.slice none 0 0] 26)
  have hb2 := below_one (w.alloc (.cells #[.slice none 0 0] 26)) (.cells #[.slice none 0 0] 26)
  have hb := hb1.trans (hb2.mono hb1.size)
  have e1 : (w.alloc (.cells #[.slice none 0 0] 26)).heap.size = w.heap.size + 1 := by simp
  refine ⟨h.below hb, (hb2.block w.heap.size (by omega)).trans (heap_alloc_new w _), ?_, OwnY.nil _ _ _ (Nat.le_refl _), grown_of_below hb _, by simp, h.lt⟩
  rw [← e1]
  exact heap_alloc_new _ _
theorem YS.pick {w W W' : World} {b N M : Nat} {v s : Value} {Y : List (List Int)} (h : YS w b v N s Y W) (hc : Cur W' b v M) (hg : W.grownBy W' (some b)) : YS w b v M s Y W' := by
  obtain ⟨h1, h2, h3, h4, h5, h6, h7⟩ := h
  have hs := hg.size
  refine ⟨hc, (hg.block _ (by omega) (by intro e; cases e; omega)).trans h2, (hg.block _ (by omega) (by intro e; injection e; omega)).trans h3, ?_, Lib.grownBy_trans h5 hg, by omega, h7⟩
  exact (h4.span (Span.of_grown (lo := b) (hi := b + 1) hg (fun k hk => by cases hk; omega)) (.inr (by omega))).mono (Nat.le_refl _) hs (Nat.le_refl _)
/-- What a step of the yard leaves, when nothing below its rows turned but its box. -/
theorem YS.rest {w W W4 : World} {b N : Nat} {v s s' : Value} {Y Z : List (List Int)} (h : YS w b v N s Y W) (hos : W4.os = W.os) (htape : W4.tape = W.tape) (hout : W4.output = W.output) (hz : W.heap.size ≤ W4.heap.size) (hb : ∀ k, k < w.heap.size + 2 → W4.heap[k]? = W.heap[k]?)
    (hY : OwnY W4 (w.heap.size + 2) W4.heap.size s' Z) : YS w b v N s' Z (W4.setCell ⟨w.heap.size + 1, 0, none⟩ s') ∧ W4.cell? ⟨w.heap.size + 1, 0, none⟩ = some s ∧ W4.frozen? ⟨w.heap.size + 1, 0, none⟩ = false := by
  obtain ⟨h1, h2, h3, h4, h5, h6, h7⟩ := h
  have c3 := (hb (w.heap.size + 1) (by omega)).trans h3
  have hS : Span (w.heap.size + 1) (w.heap.size + 2) W4 (W4.setCell ⟨w.heap.size + 1, 0, none⟩ s') := span_set (Nat.le_refl _) (by omega) s'
  have he : ∀ k, k < w.heap.size + 1 → (W4.setCell ⟨w.heap.size + 1, 0, none⟩ s').heap[k]? = W.heap[k]? := fun k hk => (hS.block k (by omega) (.inl hk)).trans (hb k (by omega))
  refine ⟨⟨?_, (he _ (by omega)).trans h2, Lib.heap_setCell_same (i := 0) c3 _, ?_, ?_, by simp; omega, h7⟩, cell_of c3 rfl, free_of c3⟩
  · obtain ⟨a, len, cap, at', seed, rfl, hl, hC, hN, hK⟩ := h1
    refine ⟨a, len, cap, at', seed, rfl, hl, (he b (by omega)).trans hC, hN, fun j hj => ?_⟩
    obtain ⟨cb, off, x, e, hlt, hc⟩ := hK j hj
    exact ⟨cb, off, x, e, hlt, (World.cell?_of_block (a := ⟨cb, off + j, none⟩) (he cb (by omega))).trans hc⟩
  · exact (hY.span hS (.inr (Nat.le_refl _))).mono (Nat.le_refl _) hS.size (Nat.le_refl _)
  · exact ⟨hS.os.trans (hos.trans h5.os), hS.tape.trans (htape.trans h5.tape), hS.output.trans (hout.trans h5.output), Nat.le_trans h5.size (Nat.le_trans hz hS.size), fun k hk hne => (he k (by omega)).trans (h5.block k hk hne)⟩
/-- A row more. -/
theorem YS.push {w W w1 w4 : World} {b N : Nat} {v s v' u : Value} {Y : List (List Int)} {l : List Int} {us : List Value} (h : YS w b v N s Y W) (hus : W.ownsRow (w.heap.size + 2) 28 1 s Y.length us) (hr : Rows2 W (w.heap.size + 2) W.heap.size us Y)
    (hb1 : Below W.heap.size W w1) (ho : w1.ownsRow W.heap.size 3 1 u l.length (intV l)) (hg : (w1.alloc (.cells #[u] 28)).grownBy w4 s.ownBlock) (ho' : w4.ownsRow (w.heap.size + 2) 28 1 v' (Y.length + 1) (us ++ [u])) :
    YS w b v N v' (Y ++ [l]) (w4.setCell ⟨w.heap.size + 1, 0, none⟩ v') ∧ w4.cell? ⟨w.heap.size + 1, 0, none⟩ = some s ∧ w4.frozen? ⟨w.heap.size + 1, 0, none⟩ = false := by
  have h4 := h.2.2.2.1
  have h6 := h.2.2.2.2.2.1
  have hz1 := hb1.size
  have ba : Below w1.heap.size w1 (w1.alloc (.cells #[u] 28)) := below_one _ _
  have hbW : Below W.heap.size W (w1.alloc (.cells #[u] 28)) := hb1.trans (ba.mono hz1)
  have hzW := hbW.size
  have hP := OwnY.push (h4.below hbW) ⟨row_below hus hbW, hr.below hbW⟩ (row_below (own_base ho fun j hj => by have := row_base ho j hj; omega) ba) (fun b hb => row_base ho b hb) hg ho'
  exact h.rest (hg.os.trans hbW.os) (hg.tape.trans hbW.tape) (hg.output.trans hbW.output) (Nat.le_trans hzW hg.size) (fun k hk => (hg.block k (by omega) (fun e => by have := row_base hus k e.symm; omega)).trans (hbW.block k (by omega))) hP
/-- A yard of the call's own was answered, and goes into the box. -/
theorem YS.store {w W w1 : World} {b N : Nat} {v s s' : Value} {Y Z : List (List Int)} (h : YS w b v N s Y W) (hb : Below W.heap.size W w1) (hY : OwnY w1 W.heap.size w1.heap.size s' Z) :
    YS w b v N s' Z (w1.setCell ⟨w.heap.size + 1, 0, none⟩ s') ∧ w1.cell? ⟨w.heap.size + 1, 0, none⟩ = some s ∧ w1.frozen? ⟨w.heap.size + 1, 0, none⟩ = false := by
  have h6 := h.2.2.2.2.2.1
  exact h.rest hb.os hb.tape hb.output hb.size (fun k hk => hb.block k (by omega)) (hY.mono (by omega) (Nat.le_refl _) (Nat.le_refl _))
/-- A number more on row k. -/
theorem YS.put {w W w5 : World} {b N g n c k m : Nat} {v v' u : Value} {Y : List (List Int)} {l : List Int} {x : Int} {o : Obj} (h : YS w b v N (.slice (some ⟨g, 0, none⟩) n c) Y W) (hl : Y[k]? = some l) (hm : l.length = m) (hu : W.cell? ⟨g, k, none⟩ = some u)
    (ho : w5.ownsRow (w.heap.size + 2) 3 1 v' (m + 1) (intV l ++ [.int .i64 x])) (hg : (W.alloc o).grownBy w5 u.ownBlock) (hat : v'.ownBlock = u.ownBlock ∨ v'.ownBlock = some (W.alloc o).heap.size) :
    YS w b v N (.slice (some ⟨g, 0, none⟩) n c) (putY Y k x) (w5.setCell ⟨g, k, none⟩ v') ∧ (∃ y, w5.cell? ⟨g, k, none⟩ = some y) ∧ w5.frozen? ⟨g, k, none⟩ = false := by
  obtain ⟨h1, h2, h3, h4, h5, h6, h7⟩ := h
  obtain ⟨p1, p2, p3⟩ := own_put h4 hl hm hu ho hg hat
  obtain ⟨u2, hu2, -, hou, hub⟩ := h4.cell hl
  rw [hu] at hu2
  cases hu2
  have hgb : w.heap.size + 2 ≤ g := by
    obtain ⟨_, hlt, us, h3, _⟩ := h4
    exact row_base h3 g rfl
  have hb : Below W.heap.size W (W.alloc o) := below_one W o
  have hgs := hg.size
  have hbs := hb.size
  have he : ∀ j, j < w.heap.size + 2 → (w5.setCell ⟨g, k, none⟩ v').heap[j]? = W.heap[j]? := fun j hj => by
    rw [Below.heap_setCell w5 ⟨g, k, none⟩ v' j (by show j ≠ g; omega)]
    exact (hg.block j (by omega) (fun e => by have := row_base hou j e.symm; omega)).trans (hb.block j (by omega))
  refine ⟨⟨?_, (he _ (by omega)).trans h2, (he _ (by omega)).trans h3, p1.mono (Nat.le_refl _) (by simp) (Nat.le_refl _), ?_, by simp; omega, h7⟩, p2, p3⟩
  · obtain ⟨a, len, cap, at', seed, rfl, hl, hC, hN, hK⟩ := h1
    refine ⟨a, len, cap, at', seed, rfl, hl, (he b (by omega)).trans hC, hN, fun j hj => ?_⟩
    obtain ⟨cb, off, x, e, hlt, hc⟩ := hK j hj
    exact ⟨cb, off, x, e, hlt, (World.cell?_of_block (a := ⟨cb, off + j, none⟩) (he cb (by omega))).trans hc⟩
  · have hS : Span g (g + 1) w5 (w5.setCell ⟨g, k, none⟩ v') := span_set (Nat.le_refl _) (by omega) v'
    exact ⟨hS.os.trans (hg.os.trans (hb.os.trans h5.os)), hS.tape.trans (hg.tape.trans (hb.tape.trans h5.tape)), hS.output.trans (hg.output.trans (hb.output.trans h5.output)), Nat.le_trans h5.size (Nat.le_trans (by omega) hS.size), fun j hj hne => (he j (by omega)).trans (h5.block j hj hne)⟩

/-- The yard goes into the result's box. -/
theorem YS.finish {w W w1 : World} {b N : Nat} {v s s' : Value} {Y Z : List (List Int)} (h : YS w b v N s Y W) (hb : Below W.heap.size W w1) (hY : OwnY w1 W.heap.size w1.heap.size s' Z) :
    (OwnY (w1.setCell ⟨w.heap.size, 0, none⟩ s') w.heap.size (w1.setCell ⟨w.heap.size, 0, none⟩ s').heap.size s' Z ∧ Cur (w1.setCell ⟨w.heap.size, 0, none⟩ s') b v N ∧ w.grownBy (w1.setCell ⟨w.heap.size, 0, none⟩ s') (some b)) ∧ w1.cell? ⟨w.heap.size, 0, none⟩ = some (.slice none 0 0) ∧ w1.frozen? ⟨w.heap.size, 0, none⟩ = false := by
  obtain ⟨h1, h2, h3, h4, h5, h6, h7⟩ := h
  have c3 := (hb.block w.heap.size (by omega)).trans h2
  have hz := hb.size
  have hS : Span w.heap.size (w.heap.size + 1) w1 (w1.setCell ⟨w.heap.size, 0, none⟩ s') := span_set (Nat.le_refl _) (by omega) s'
  have he : ∀ k, k < w.heap.size → (w1.setCell ⟨w.heap.size, 0, none⟩ s').heap[k]? = W.heap[k]? := fun k hk => (hS.block k (by omega) (.inl hk)).trans (hb.block k (by omega))
  refine ⟨⟨(hY.span hS (.inr (by omega))).mono (by omega) hS.size (Nat.le_refl _), ?_, ?_⟩, cell_of c3 rfl, free_of c3⟩
  · obtain ⟨a, len, cap, at', seed, rfl, hl, hC, hN, hK⟩ := h1
    refine ⟨a, len, cap, at', seed, rfl, hl, (he b (by omega)).trans hC, hN, fun j hj => ?_⟩
    obtain ⟨cb, off, x, e, hlt, hc⟩ := hK j hj
    exact ⟨cb, off, x, e, hlt, (World.cell?_of_block (a := ⟨cb, off + j, none⟩) (he cb (by omega))).trans hc⟩
  · exact ⟨hS.os.trans (hb.os.trans h5.os), hS.tape.trans (hb.tape.trans h5.tape), hS.output.trans (hb.output.trans h5.output), Nat.le_trans h5.size (Nat.le_trans hz hS.size), fun k hk hne => (he k hk).trans (h5.block k hk hne)⟩

/-- What a drawn yard is: own, small. -/
def YardP (w : World) (b : Nat) (v : Value) (N : Nat) (e : Ending) (W' : World) : Prop :=
  ∃ a c Y, e = .returned (.agg #[.slice a Y.length c]) ∧ 1 ≤ Y.length ∧ Y.length ≤ 4 ∧ rowsOk Y ∧ OwnY W' w.heap.size W'.heap.size (.slice a Y.length c) Y ∧ Cur W' b v N ∧ w.grownBy W' (some b)
theorem rows_put {Y : List (List Int)} {k : Nat} {x : Int} {l : List Int} (h : rowsOk Y) (hl : Y[k]? = some l) (hm : l.length < 4) : rowsOk (putY Y k x) := fun r hr => by
  rw [putY_of hl] at hr
  rcases List.mem_or_eq_of_mem_set hr with h' | rfl
  · exact h r h'
  · simp; omega
theorem rows_take {Y : List (List Int)} {k m : Nat} {l : List Int} (h : rowsOk Y) (hl : Y[k]? = some l) : rowsOk (Y.set k (l.take m)) := fun r hr => by
  rcases List.mem_or_eq_of_mem_set hr with h' | rfl
  · exact h r h'
  · have := h l (List.mem_of_getElem? hl)
    rw [List.length_take]; omega
theorem rows_push {Y : List (List Int)} (h : rowsOk Y) (l : List Int) (hl : l.length ≤ 4) : rowsOk (Y ++ [l]) := fun r hr => by
  rcases List.mem_append.1 hr with h' | h'
  · exact h r h'
  · rw [List.mem_singleton.1 h']; exact hl
theorem tot_rows {Y : List (List Int)} (h : rowsOk Y) (hn : Y.length ≤ 8) : tot Y ≤ 32 := by have := tot_bound 4 Y h; omega
end Go.Proofs.Ythokmklnldoinaa.D
