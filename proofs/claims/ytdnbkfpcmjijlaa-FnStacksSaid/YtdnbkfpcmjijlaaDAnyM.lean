/-
  While the specification draws a yard that may be invalid: its box may lie among its rows. No statement of the seat by itself.
-/
import Derived.Test.YtdnbkfpcmjijlaaDYard
namespace Go.Proofs.Ytdnbkfpcmjijlaa.D
open Go.RowKit

/-- A row of the call's own doesn't lie in a yard's box. -/
theorem own_off {W : World} {A B size n : Nat} {e : TypeId} {v : Value} {cs : Array Value} {ys : List Value} (hA : W.heap[A]? = some (.cells cs 26 (0, 0))) (h : W.ownsRow B e size v n ys) (he : e ≠ 26) : v.ownBlock ≠ some A := by
  intro hv
  rcases h.2 with ⟨rfl, _⟩ | ⟨g, cap, cur, rfl, _, hb, _⟩
  · simp [Value.ownBlock] at hv
  · have e1 : g = A := by simpa [Value.ownBlock] using hv
    subst e1
    rw [hb] at hA
    injection hA with hA
    injection hA with _ h2
    exact he h2
theorem OwnY.keep {w w' : World} {A B hi : Nat} {v : Value} {Y : List (List Int)} {cs : Array Value} (h : OwnY w B hi v Y) (hA : w.heap[A]? = some (.cells cs 26 (0, 0))) (hs : Span A (A + 1) w w') : OwnY w' B hi v Y := by
  obtain ⟨h1, h2, us, h3, h4, h5, h6⟩ := h
  have off : ∀ b, b ≠ A → b < A ∨ A + 1 ≤ b := fun b hb => by omega
  refine ⟨Nat.le_trans h1 hs.size, h2, us, own_span h3 hs fun b hb => off b fun e => own_off hA h3 (by decide) (e ▸ hb), h4, fun j u l hu hl => ?_, h6⟩
  obtain ⟨ha, hb⟩ := h5 j u l hu hl
  exact ⟨own_span ha hs fun b hb' => off b fun e => own_off hA ha (by decide) (e ▸ hb'), hb⟩

def YT (w : World) (b : Nat) (v : Value) (N A : Nat) (s : Value) (Y : List (List Int)) (W : World) : Prop :=
  Cur W b v N ∧ W.heap[w.heap.size]? = some (.cells #[.slice none 0 0] 26 (0, 0)) ∧ W.heap[A]? = some (.cells #[s] 26 (0, 0)) ∧
  OwnY W (w.heap.size + 1) W.heap.size s Y ∧ w.grownBy W (some b) ∧ w.heap.size < A ∧ A < W.heap.size ∧ b < w.heap.size
theorem YT.more {w W : World} {b N M A : Nat} {v s : Value} {Y : List (List Int)} (h : YT w b v N A s Y W) (hm : N ≤ M) : YT w b v M A s Y W := ⟨h.1.more hm, h.2⟩
theorem YT.cell {w W : World} {b N A : Nat} {v s : Value} {Y : List (List Int)} (h : YT w b v N A s Y W) : W.cell? ⟨A, 0, none⟩ = some s := cell_of h.2.2.1 rfl
theorem YT.below {w W W' : World} {b N A : Nat} {v s : Value} {Y : List (List Int)} (h : YT w b v N A s Y W) (hb : Below W.heap.size W W') : YT w b v N A s Y W' := by
  obtain ⟨h1, h2, h3, h4, h5, h6, h7, h8⟩ := h
  have hz := hb.size
  exact ⟨h1.below hb, (hb.block _ (by omega)).trans h2, (hb.block _ (by omega)).trans h3, (h4.below hb).mono (Nat.le_refl _) hz (Nat.le_refl _), Lib.grownBy_trans h5 (grown_of_below hb _), h6, by omega, h8⟩
theorem YT.start {w w1 : World} {b N : Nat} {v s : Value} {Y : List (List Int)} (hb : b < w.heap.size) (hc : Cur w1 b v N) (hg : (w.alloc (.cells #[.slice none 0 0] 26)).grownBy w1 (some b)) (hY : OwnY w1 (w.alloc (.cells #[.slice none 0 0] 26)).heap.size w1.heap.size s Y) :
    YT w b v N w1.heap.size s Y (w1.alloc (.cells #[s] 26)) := by
  have hb1 := below_one w (.cells #[.slice none 0 0] 26)
  have hb2 := below_one w1 (.cells #[s] 26)
  have e1 : (w.alloc (.cells #[.slice none 0 0] 26)).heap.size = w.heap.size + 1 := by simp
  have hz := hg.size
  rw [e1] at hY
  refine ⟨hc.below hb2, ((hb2.block w.heap.size (by omega)).trans (hg.block _ (by omega) (by intro e; injection e; omega))).trans (heap_alloc_new w _), heap_alloc_new _ _, (hY.below hb2).mono (Nat.le_refl _) hb2.size (Nat.le_refl _), ?_, by omega, by simp, hb⟩
  exact Lib.grownBy_trans (Lib.grownBy_trans (grown_of_below hb1 _) hg) (grown_of_below hb2 _)
theorem YT.pick {w W W' : World} {b N M A : Nat} {v s : Value} {Y : List (List Int)} (h : YT w b v N A s Y W) (hc : Cur W' b v M) (hg : W.grownBy W' (some b)) : YT w b v M A s Y W' := by
  obtain ⟨h1, h2, h3, h4, h5, h6, h7, h8⟩ := h
  have hs := hg.size
  refine ⟨hc, (hg.block _ (by omega) (by intro e; injection e; omega)).trans h2, (hg.block _ (by omega) (by intro e; injection e; omega)).trans h3, ?_, Lib.grownBy_trans h5 hg, h6, by omega, h8⟩
  exact (h4.span (Span.of_grown (lo := b) (hi := b + 1) hg (fun k hk => by cases hk; omega)) (.inr (by omega))).mono (Nat.le_refl _) hs (Nat.le_refl _)
theorem cur_kept {W W' : World} {b N : Nat} {v : Value} (h : Cur W b v N) (he : ∀ k, k ≤ b → W'.heap[k]? = W.heap[k]?) : Cur W' b v N := by
  obtain ⟨a, len, cap, at', seed, rfl, hl, hC, hN, hK⟩ := h
  refine ⟨a, len, cap, at', seed, rfl, hl, (he b (Nat.le_refl _)).trans hC, hN, fun j hj => ?_⟩
  obtain ⟨cb, off, x, e, hlt, hc⟩ := hK j hj
  exact ⟨cb, off, x, e, hlt, (World.cell?_of_block (a := ⟨cb, off + j, none⟩) (he cb (Nat.le_of_lt hlt))).trans hc⟩
/-- The box is written, when nothing else below the rows turned. -/
theorem YT.rest {w W W4 : World} {b N A : Nat} {v s s' : Value} {Y Z : List (List Int)} (h : YT w b v N A s Y W) (hos : W4.os = W.os) (htape : W4.tape = W.tape) (hout : W4.output = W.output) (hz : W.heap.size ≤ W4.heap.size) (hb : ∀ k, k ≤ w.heap.size ∨ k = A → W4.heap[k]? = W.heap[k]?)
    (hY : OwnY W4 (w.heap.size + 1) W4.heap.size s' Z) : YT w b v N A s' Z (W4.setCell ⟨A, 0, none⟩ s') ∧ W4.cell? ⟨A, 0, none⟩ = some s ∧ W4.frozen? ⟨A, 0, none⟩ = false := by
  obtain ⟨h1, h2, h3, h4, h5, h6, h7, h8⟩ := h
  have c3 := (hb A (.inr rfl)).trans h3
  have hS : Span A (A + 1) W4 (W4.setCell ⟨A, 0, none⟩ s') := span_set (Nat.le_refl _) (by omega) s'
  have he : ∀ k, k ≤ w.heap.size → (W4.setCell ⟨A, 0, none⟩ s').heap[k]? = W.heap[k]? := fun k hk => (hS.block k (by omega) (.inl (by omega))).trans (hb k (.inl hk))
  refine ⟨⟨cur_kept h1 fun k hk => he k (by omega), (he _ (Nat.le_refl _)).trans h2, Lib.heap_setCell_same (i := 0) c3 _, ?_, ?_, h6, by simp; omega, h8⟩, cell_of c3 rfl, free_of c3⟩
  · exact (OwnY.keep hY c3 hS).mono (Nat.le_refl _) hS.size (Nat.le_refl _)
  · exact ⟨hS.os.trans (hos.trans h5.os), hS.tape.trans (htape.trans h5.tape), hS.output.trans (hout.trans h5.output), Nat.le_trans h5.size (Nat.le_trans hz hS.size), fun k hk hne => (he k (by omega)).trans (h5.block k hk hne)⟩
/-- A row more. -/
theorem YT.push {w W w1 w4 : World} {b N A : Nat} {v s v' u : Value} {Y : List (List Int)} {l : List Int} {us : List Value} (h : YT w b v N A s Y W) (hus : W.ownsRow (w.heap.size + 1) 38 1 s Y.length us) (hr : Rows2 W (w.heap.size + 1) W.heap.size us Y)
    (hb1 : Below W.heap.size W w1) (ho : w1.ownsRow W.heap.size 3 1 u l.length (intV l)) (hg : (w1.alloc (.cells #[u] 38)).grownBy w4 s.ownBlock) (ho' : w4.ownsRow (w.heap.size + 1) 38 1 v' (Y.length + 1) (us ++ [u])) :
    YT w b v N A v' (Y ++ [l]) (w4.setCell ⟨A, 0, none⟩ v') ∧ w4.cell? ⟨A, 0, none⟩ = some s ∧ w4.frozen? ⟨A, 0, none⟩ = false := by
  have h4 := h.2.2.2.1
  have h6 := h.2.2.2.2.2.1
  have h7 := h.2.2.2.2.2.2.1
  have hz1 := hb1.size
  have ba : Below w1.heap.size w1 (w1.alloc (.cells #[u] 38)) := below_one _ _
  have hbW : Below W.heap.size W (w1.alloc (.cells #[u] 38)) := hb1.trans (ba.mono hz1)
  have hzW := hbW.size
  have hP := OwnY.push (h4.below hbW) ⟨row_below hus hbW, hr.below hbW⟩ (row_below (own_base ho fun j hj => by have := row_base ho j hj; omega) ba) (fun b hb => row_base ho b hb) hg ho'
  refine h.rest (hg.os.trans hbW.os) (hg.tape.trans hbW.tape) (hg.output.trans hbW.output) (Nat.le_trans hzW hg.size) (fun k hk => ?_) hP
  rcases hk with hk | rfl
  · exact (hg.block k (by omega) (fun e => by have := row_base hus k e.symm; omega)).trans (hbW.block k (by omega))
  · exact (hg.block k (by omega) (fun e => own_off h.2.2.1 hus (by decide) e.symm)).trans (hbW.block k (by omega))
/-- A yard of other rows goes into the box. -/
theorem YT.store {w W w1 : World} {b N A : Nat} {v s s' : Value} {Y Z : List (List Int)} (h : YT w b v N A s Y W) (hb : Below W.heap.size W w1) (hY : OwnY w1 W.heap.size w1.heap.size s' Z) :
    YT w b v N A s' Z (w1.setCell ⟨A, 0, none⟩ s') ∧ w1.cell? ⟨A, 0, none⟩ = some s ∧ w1.frozen? ⟨A, 0, none⟩ = false := by
  have h6 := h.2.2.2.2.2.1
  have h7 := h.2.2.2.2.2.2.1
  exact h.rest hb.os hb.tape hb.output hb.size (fun k hk => hb.block k (by rcases hk with h | h <;> omega)) (hY.mono (by omega) (Nat.le_refl _) (Nat.le_refl _))
/-- A row is another one. -/
theorem YT.repl {w W w5 : World} {b N A g n c k : Nat} {v u u' : Value} {Y : List (List Int)} {l l' : List Int} (h : YT w b v N A (.slice (some ⟨g, 0, none⟩) n c) Y W) (hl : Y[k]? = some l) (hu : W.cell? ⟨g, k, none⟩ = some u)
    (hg : W.grownBy w5 u.ownBlock) (ho : w5.ownsRow (w.heap.size + 1) 3 1 u' l'.length (intV l')) (hat : ∀ b, u'.ownBlock = some b → u.ownBlock = some b ∨ W.heap.size ≤ b) :
    YT w b v N A (.slice (some ⟨g, 0, none⟩) n c) (Y.set k l') (w5.setCell ⟨g, k, none⟩ u') ∧ (∃ y, w5.cell? ⟨g, k, none⟩ = some y) ∧ w5.frozen? ⟨g, k, none⟩ = false := by
  obtain ⟨h1, h2, h3, h4, h5, h6, h7, h8⟩ := h
  have hk : k < Y.length := lt_of_get hl
  have hr := h4.repl hk hu hg ho hat
  obtain ⟨u2, hu2, -, hou, hub⟩ := h4.cell hl
  rw [hu] at hu2
  cases hu2
  have hn : n = Y.length := by
    obtain ⟨_, _, us, hx, _⟩ := h4
    obtain ⟨a, c, e⟩ := own_form hx
    injection e
  subst hn
  obtain ⟨us, hx, hus⟩ : ∃ us, W.ownsRow (w.heap.size + 1) 38 1 (.slice (some ⟨g, 0, none⟩) Y.length c) Y.length us ∧ us[k]? = some u := by
    obtain ⟨_, _, us, hx, _⟩ := h4
    exact ⟨us, hx, by rw [← hx.cellAt k (by omega)]; exact hu⟩
  have hgb : w.heap.size + 1 ≤ g ∧ g < W.heap.size := ⟨row_base hx g rfl, row_lt hx g rfl⟩
  have hgA : g ≠ A := fun e => own_off h3 hx (by decide) (by rw [← e]; rfl)
  have hgu : u.ownBlock ≠ some g := outer_ne hx hou g rfl
  have hgs := hg.size
  have hold := hg.block g hgb.2 (fun e => hgu e.symm)
  have he : ∀ j, j ≤ w.heap.size ∨ j = A → (w5.setCell ⟨g, k, none⟩ u').heap[j]? = W.heap[j]? := fun j hj => by
    rw [Below.heap_setCell w5 ⟨g, k, none⟩ u' j (by show j ≠ g; omega)]
    rcases hj with hj | rfl
    · exact hg.block j (by omega) (fun e => by have := row_base hou j e.symm; omega)
    · exact hg.block j (by omega) (fun e => own_off h3 hou (by decide) e.symm)
  have hS : Span g (g + 1) w5 (w5.setCell ⟨g, k, none⟩ u') := span_set (Nat.le_refl _) (by omega) u'
  refine ⟨⟨cur_kept h1 fun j hj => he j (.inl (by omega)), (he _ (.inl (Nat.le_refl _))).trans h2, (he _ (.inr rfl)).trans h3, hr.1.mono (Nat.le_refl _) (by simp) (Nat.le_refl _), ?_, h6, by simp; omega, h8⟩, ⟨u, (World.cell?_of_block (a := ⟨g, k, none⟩) hold).trans hu⟩, ?_⟩
  · exact ⟨hS.os.trans (hg.os.trans h5.os), hS.tape.trans (hg.tape.trans h5.tape), hS.output.trans (hg.output.trans h5.output), Nat.le_trans h5.size (Nat.le_trans hgs hS.size), fun j hj hne => (he j (.inl (by omega))).trans (h5.block j hj hne)⟩
  · rw [World.frozen?_of_block (w := W) (a := ⟨g, k, none⟩) hold]
    exact hx.frozenAt k
theorem YT.row {w W : World} {b N A g n c k : Nat} {v u : Value} {Y : List (List Int)} {l : List Int} (h : YT w b v N A (.slice (some ⟨g, 0, none⟩) n c) Y W) (hl : Y[k]? = some l) (hu : W.cell? ⟨g, k, none⟩ = some u) : W.ownsRow (w.heap.size + 1) 3 1 u l.length (intV l) ∧ w.heap.size + 1 ≤ g ∧ g < W.heap.size := by
  obtain ⟨u2, hu2, -, hou, -⟩ := h.2.2.2.1.cell hl
  rw [hu] at hu2
  cases hu2
  obtain ⟨_, _, us, hx, _⟩ := h.2.2.2.1
  exact ⟨hou, row_base hx g rfl, row_lt hx g rfl⟩
/-- Behind a draw in the middle of a region. -/
theorem YT.drawn {w W W' : World} {b N M A g n c k : Nat} {v u : Value} {Y : List (List Int)} {l : List Int} {o1 : Obj} (h : YT w b v N A (.slice (some ⟨g, 0, none⟩) n c) Y W) (hl : Y[k]? = some l) (hu : W.cell? ⟨g, k, none⟩ = some u) (hc : Cur W' b v M) (hg : (W.drew.alloc o1).grownBy W' (some b)) :
    YT w b v M A (.slice (some ⟨g, 0, none⟩) n c) Y W' ∧ W'.cell? ⟨g, k, none⟩ = some u ∧ (∀ o, (W'.alloc o).ownsRow (w.heap.size + 1) 3 1 u l.length (intV l)) ∧ (∀ o, (W'.alloc o).cell? ⟨A, 0, none⟩ = some (.slice (some ⟨g, 0, none⟩) n c)) ∧ (∀ o, (W'.alloc o).cell? ⟨g, k, none⟩ = some u) ∧ ∀ o, w.heap.size + 1 ≤ (W'.alloc o).heap.size := by
  have hb : Below W.heap.size W (W.drew.alloc o1) := (Below.refl _ _).drew.trans (below_one W.drew o1)
  have h1 := (h.below hb).pick hc hg
  obtain ⟨-, g1, g2⟩ := h.row hl hu
  have hb8 := h.2.2.2.2.2.2.2
  have hu' : W'.cell? ⟨g, k, none⟩ = some u := (World.cell?_of_block (a := ⟨g, k, none⟩) (hg.block g (Nat.lt_of_lt_of_le g2 hb.size) (by intro e; injection e; omega))).trans ((hb.cell (p := ⟨g, k, none⟩) g2).trans hu)
  obtain ⟨r1, r2, r3⟩ := h1.row hl hu'
  have hA := h1.2.2.2.2.2.2.1
  exact ⟨h1, hu', fun o => row_below r1 (below_one W' o), fun o => (World.cell?_alloc_lt W' o ⟨A, 0, none⟩ hA).trans h1.cell, fun o => (World.cell?_alloc_lt W' o ⟨g, k, none⟩ r3).trans hu', fun o => by have := (below_one W' o).size; omega⟩
/-- A number more on a row. -/
theorem YT.put {w W w5 : World} {b N A g n c k m : Nat} {v u v' : Value} {Y : List (List Int)} {l : List Int} {x : Int} {o : Obj} (h : YT w b v N A (.slice (some ⟨g, 0, none⟩) n c) Y W) (hl : Y[k]? = some l) (hm : l.length = m) (hu : W.cell? ⟨g, k, none⟩ = some u)
    (ho : w5.ownsRow (w.heap.size + 1) 3 1 v' (m + 1) (intV l ++ [.int .i64 x])) (hg : (W.alloc o).grownBy w5 u.ownBlock) (hat : v'.ownBlock = u.ownBlock ∨ v'.ownBlock = some (W.alloc o).heap.size) :
    YT w b v N A (.slice (some ⟨g, 0, none⟩) n c) (Y.set k (l ++ [x])) (w5.setCell ⟨g, k, none⟩ v') ∧ (∃ y, w5.cell? ⟨g, k, none⟩ = some y) ∧ w5.frozen? ⟨g, k, none⟩ = false ∧ w5.cell? ⟨A, 0, none⟩ = some (.slice (some ⟨g, 0, none⟩) n c) := by
  have hgr : W.grownBy w5 u.ownBlock := Lib.grownBy_trans (World.grownBy_alloc W o _) hg
  have e : intV l ++ [.int .i64 x] = intV (l ++ [x]) := by simp [intV]
  rw [e] at ho
  obtain ⟨r1, r2, r3⟩ := h.row hl hu
  obtain ⟨p1, p2, p3⟩ := h.repl hl hu hgr (l' := l ++ [x]) (by rw [List.length_append, hm]; exact ho) fun b hb => by
    rcases hat with e1 | e1
    · exact .inl (e1 ▸ hb)
    · rw [e1] at hb
      cases hb
      exact .inr (by simp)
  refine ⟨p1, p2, p3, (World.cell?_of_block (a := ⟨A, 0, none⟩) (hgr.block A h.2.2.2.2.2.2.1 (fun e => own_off h.2.2.1 r1 (by decide) e.symm))).trans h.cell⟩
/-- The yard goes into the result's box. -/
theorem YT.finish {w W : World} {b N A : Nat} {v s : Value} {Y : List (List Int)} (h : YT w b v N A s Y W) :
    (OwnY (W.setCell ⟨w.heap.size, 0, none⟩ s) w.heap.size (W.setCell ⟨w.heap.size, 0, none⟩ s).heap.size s Y ∧ Cur (W.setCell ⟨w.heap.size, 0, none⟩ s) b v N ∧ w.grownBy (W.setCell ⟨w.heap.size, 0, none⟩ s) (some b)) ∧ W.cell? ⟨w.heap.size, 0, none⟩ = some (.slice none 0 0) ∧ W.frozen? ⟨w.heap.size, 0, none⟩ = false := by
  obtain ⟨h1, h2, h3, h4, h5, h6, h7, h8⟩ := h
  have hS : Span w.heap.size (w.heap.size + 1) W (W.setCell ⟨w.heap.size, 0, none⟩ s) := span_set (Nat.le_refl _) (by omega) s
  have he : ∀ k, k < w.heap.size → (W.setCell ⟨w.heap.size, 0, none⟩ s).heap[k]? = W.heap[k]? := fun k hk => hS.block k (by omega) (.inl hk)
  refine ⟨⟨(h4.span hS (.inr (by omega))).mono (by omega) hS.size (Nat.le_refl _), cur_kept h1 fun k hk => he k (by omega), ?_⟩, cell_of h2 rfl, free_of h2⟩
  exact ⟨hS.os.trans h5.os, hS.tape.trans h5.tape, hS.output.trans h5.output, Nat.le_trans h5.size hS.size, fun k hk hne => (he k hk).trans (h5.block k hk hne)⟩

def rows5 (Y : List (List Int)) : Prop := ∀ l ∈ Y, l.length ≤ 5
/-- What a drawn yard is that may be invalid: own, small. -/
def AnyP (w : World) (b : Nat) (v : Value) (N : Nat) (e : Ending) (W' : World) : Prop :=
  ∃ a c Y, e = .returned (.agg #[.slice a Y.length c]) ∧ Y.length ≤ 7 ∧ rows5 Y ∧ OwnY W' w.heap.size W'.heap.size (.slice a Y.length c) Y ∧ Cur W' b v N ∧ w.grownBy W' (some b)
theorem rows5_of {Y : List (List Int)} (h : rowsOk Y) : rows5 Y := fun l hl => by have := h l hl; omega
theorem rows5_set {Y : List (List Int)} {k : Nat} {r : List Int} (h : rows5 Y) (hr : r.length ≤ 5) : rows5 (Y.set k r) := fun l hl => by
  rcases List.mem_or_eq_of_mem_set hl with h' | rfl
  · exact h l h'
  · exact hr
theorem rows5_push {Y : List (List Int)} (h : rows5 Y) (l : List Int) (hl : l.length ≤ 5) : rows5 (Y ++ [l]) := fun r hr => by
  rcases List.mem_append.1 hr with h' | h'
  · exact h r h'
  · rw [List.mem_singleton.1 h']; exact hl
end Go.Proofs.Ytdnbkfpcmjijlaa.D
