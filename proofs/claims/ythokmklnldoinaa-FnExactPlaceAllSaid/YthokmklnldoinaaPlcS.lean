/-
  While arrivals are put on a yard: the yard in its box, the list of stacks. No statement of the seat by itself.
-/
import Derived.Test.YthokmklnldoinaaApart
import Derived.Test.YthokmklnldoinaaChoI
import Derived.Maps.AppendAt
import Derived.Deep.CutRange
namespace Go.Proofs.Ythokmklnldoinaa
open Go.RowKit

/-- The two boxes of a call with a yard: the yard, the answer. -/
structure Fr2 (w W : World) (v0 : Value) : Prop where
  bl : Below w.heap.size w W
  a : W.heap[w.heap.size]? = some (.cells #[v0] 26 (0, 0))
  r : W.heap[w.heap.size + 1]? = some (.cells #[.slice none 0 0] 26 (0, 0))
theorem Fr2.start (w : World) (v0 : Value) : Fr2 w ((w.alloc (.cells #[v0] 26)).alloc (.cells #[.slice none 0 0] 26)) v0 := by
  have hb := below_one (w.alloc (.cells #[v0] 26)) (.cells #[.slice none 0 0] 26)
  have h2 := heap_alloc_new (w.alloc (.cells #[v0] 26)) (.cells #[.slice none 0 0] 26)
  rw [show (w.alloc (.cells #[v0] 26)).heap.size = w.heap.size + 1 by simp] at h2
  exact ⟨below_two w _ _, (hb.block _ (by simp)).trans (heap_alloc_new w _), h2⟩
theorem Fr2.lt {w W : World} {v0 : Value} (h : Fr2 w W v0) : w.heap.size + 1 < W.heap.size := (Array.getElem?_eq_some_iff.1 h.r).1
theorem Fr2.below {w W W' : World} {v0 : Value} (h : Fr2 w W v0) (hb : Below W.heap.size W W') : Fr2 w W' v0 := by
  have := h.lt
  exact ⟨h.bl.trans (hb.mono h.bl.size), (hb.block _ (by omega)).trans h.a, (hb.block _ (by omega)).trans h.r⟩
theorem Fr2.c {w W : World} {v0 : Value} (h : Fr2 w W v0) : W.cell? ⟨w.heap.size, 0, none⟩ = some v0 := cell_of h.a rfl
theorem Fr2.z {w W : World} {v0 : Value} (h : Fr2 w W v0) : W.cell? ⟨w.heap.size + 1, 0, none⟩ = some (.slice none 0 0) ∧ ∀ i, W.frozen? ⟨w.heap.size + 1, i, none⟩ = false :=
  ⟨cell_of h.r rfl, fun _ => free_of h.r⟩
theorem Fr2.set {w W : World} {v0 : Value} (h : Fr2 w W v0) (x : Value) : Below w.heap.size w (W.setCell ⟨w.heap.size + 1, 0, none⟩ x) := h.bl.setCell (p := ⟨w.heap.size + 1, 0, none⟩) (by show w.heap.size ≤ w.heap.size + 1; omega) _
/-- Above a bound all may have changed. -/
theorem Fr2.up {w W W' : World} {v0 : Value} {B : Nat} (h : Fr2 w W v0) (hb : Below B W W') (hB : w.heap.size + 1 < B) : Fr2 w W' v0 :=
  ⟨h.bl.trans (hb.mono (by omega)), (hb.block _ (by omega)).trans h.a, (hb.block _ (by omega)).trans h.r⟩

structure PlSt (w W : World) (v0 : Value) (A B g n c : Nat) (vp : Value) (Z : List (List Int)) (P : List Int) : Prop where
  fr : Fr2 w W v0
  own : OwnYD W B W.heap.size (.slice (some ⟨g, 0, none⟩) n c) Z vp P
  box : W.heap[A]? = some (.cells #[.slice (some ⟨g, 0, none⟩) n c] 26 (0, 0))
  hB : w.heap.size + 1 < B
  hA : w.heap.size + 1 < A
theorem PlSt.cA {w W : World} {v0 : Value} {A B g n c : Nat} {vp : Value} {Z : List (List Int)} {P : List Int} (h : PlSt w W v0 A B g n c vp Z P) : A < W.heap.size ∧ W.cell? ⟨A, 0, none⟩ = some (.slice (some ⟨g, 0, none⟩) n c) ∧ A ≠ g := by
  refine ⟨(Array.getElem?_eq_some_iff.1 h.box).1, cell_of h.box rfl, fun e => ?_⟩
  subst e
  obtain ⟨_, _, us, h3, _⟩ := h.own.1
  rcases h3.2 with ⟨e, _⟩ | ⟨g', cap, cur, e, _, hb, _⟩
  · cases e
  · injection e with e1 e2 e3
    injection e1 with e1
    injection e1 with e1 _ _
    subst e1
    rw [h.box] at hb
    simp at hb
theorem PlSt.below {w W W' : World} {v0 : Value} {A B g n c : Nat} {vp : Value} {Z : List (List Int)} {P : List Int} (h : PlSt w W v0 A B g n c vp Z P) (hb : Below W.heap.size W W') : PlSt w W' v0 A B g n c vp Z P :=
  ⟨h.fr.below hb, (h.own.below hb).mono (Nat.le_refl _) hb.size (Nat.le_refl _), (hb.block _ h.cA.1).trans h.box, h.hB, h.hA⟩
theorem box_other {w W : World} {A B m : Nat} {x : Value} {y : Value} {xs : List Value} (hb : W.heap[A]? = some (.cells #[y] 26 (0, 0))) (ho : W.ownsRow B 3 1 x m xs) (_ : w = W) : x.ownBlock ≠ some A := by
  rcases ho.2 with ⟨rfl, _⟩ | ⟨g', cap, cur, rfl, _, hb2, _⟩
  · simp [Value.ownBlock]
  · intro e
    have e1 : g' = A := by simpa [Value.ownBlock] using e
    subst e1
    rw [hb] at hb2
    simp at hb2
/-- A number is put on stack s. -/
theorem PlSt.put {w W w5 : World} {v0 : Value} {A B g n c s m : Nat} {vp x v' : Value} {Z : List (List Int)} {P l : List Int} {y : Int} {o : Obj} (h : PlSt w W v0 A B g n c vp Z P) (hl : Z[s]? = some l) (hm : l.length = m) (hx : W.cell? ⟨g, s, none⟩ = some x)
    (ho : w5.ownsRow B 3 1 v' (m + 1) (intV l ++ [.int .i64 y])) (hg : (W.alloc o).grownBy w5 x.ownBlock) (hat : v'.ownBlock = x.ownBlock ∨ v'.ownBlock = some (W.alloc o).heap.size) :
    PlSt w (w5.setCell ⟨g, s, none⟩ v') v0 A B g n c vp (putY Z s y) P ∧ (∃ q, w5.cell? ⟨g, s, none⟩ = some q) ∧ w5.frozen? ⟨g, s, none⟩ = false ∧ w5.cell? ⟨A, 0, none⟩ = some (.slice (some ⟨g, 0, none⟩) n c) := by
  obtain ⟨p1, p2, p3⟩ := own_put h.own.1 hl hm hx ho hg hat
  obtain ⟨r1, r2, r3, r4⟩ := h.own.row hl hx
  have ht := own_tab h.own.1
  have hA := h.cA
  have hxA : x.ownBlock ≠ some A := box_other h.box r1 rfl
  have hs5 := hg.size
  have hsa : (W.alloc o).heap.size = W.heap.size + 1 := by simp
  have hb0 : ∀ k, k < W.heap.size → x.ownBlock ≠ some k → w5.heap[k]? = W.heap[k]? := fun k hk hne => (hg.block k (by omega) (fun e => hne e.symm)).trans (heap_alloc_old W o k hk)
  have hbx : w5.heap[A]? = W.heap[A]? := hb0 A hA.1 hxA
  have hB5 : Below B W w5 := ⟨hg.os, hg.tape, hg.output, by omega, fun k hk => hb0 k (by omega) (fun e => by have := row_base r1 k e; omega)⟩
  have hup : Below B W (w5.setCell ⟨g, s, none⟩ v') := hB5.setCell (p := ⟨g, s, none⟩) ht.1 _
  have hvp := h.own.2.1
  have hvg : vp.ownBlock ≠ some g := tab_list h.own
  have hvp5 : (w5.setCell ⟨g, s, none⟩ v').ownsRow B 3 1 vp P.length (intV P) := by
    refine own_span (lo := g) (hi := g + 1) ?_ (span_set (Nat.le_refl _) (Nat.lt_succ_self _) _) (fun b hb => by
      have : b ≠ g := fun e => hvg (by rw [hb, e])
      omega)
    refine (hvp.2.1.alloc o).kept hg ?_
    cases hu : vp.ownBlock with
    | none => exact .inl rfl
    | some b => exact .inr fun e => r4 b hu e.symm
  refine ⟨⟨h.fr.up hup h.hB, ⟨p1.mono (Nat.le_refl _) (by simp) (Nat.le_refl _), ⟨Nat.le_refl _, hvp5, fun b hb => row_lt hvp5 b hb⟩, ?_⟩, ?_, h.hB, h.hA⟩, p2, p3, ?_⟩
  · intro g2 n2 c2 e j z hj hz b hb
    injection e with e1 e2 e3
    injection e1 with e1
    injection e1 with e1 _ _
    subst e1
    subst e2
    have hbl := hvp.2.2 b hb
    by_cases hjs : j = s
    · subst hjs
      obtain ⟨q, hq⟩ := p2
      rw [World.cell?_setCell_same _ _ _ hq] at hz
      cases hz
      rcases hat with e1 | e1
      · rw [e1]; exact r4 b hb
      · rw [e1]; intro e2; injection e2 with e2; omega
    · have hz2 : W.cell? ⟨g, j, none⟩ = some z := by
        rw [← hz, World.cell?_setCell_other w5 ⟨g, s, none⟩ ⟨g, j, none⟩ v' (fun e => hjs (by injection e with _ e2 _; exact e2.symm))]
        exact (World.cell?_of_block (a := ⟨g, j, none⟩) (hb0 g ht.2.2.1 r3)).symm
      exact h.own.2.2 g n c rfl j z hj hz2 b hb
  · rw [Below.heap_setCell w5 ⟨g, s, none⟩ v' _ (by show A ≠ g; exact hA.2.2), hbx]
    exact h.box
  · exact cell_of (hbx.trans h.box) rfl
/-- A stack is told. -/
theorem PlSt.push {w W w5 : World} {v0 : Value} {A B g n c : Nat} {vp v' : Value} {Z : List (List Int)} {P : List Int} {y : Int} {o : Obj} (h : PlSt w W v0 A B g n c vp Z P)
    (ho : w5.ownsRow B 3 1 v' (P.length + 1) (intV P ++ [.int .i64 y])) (hg : (W.alloc o).grownBy w5 vp.ownBlock) (hat : v'.ownBlock = vp.ownBlock ∨ v'.ownBlock = some (W.alloc o).heap.size) :
    PlSt w w5 v0 A B g n c v' Z (P ++ [y]) := by
  have h1 := h.below (below_one W o)
  have hsa : (W.alloc o).heap.size = W.heap.size + 1 := by simp
  have hA := h1.cA
  have hvp := h1.own.2.1
  have hvA : vp.ownBlock ≠ some A := box_other h1.box hvp.2.1 rfl
  have hs5 := hg.size
  have hB5 : Below B (W.alloc o) w5 := ⟨hg.os, hg.tape, hg.output, hs5, fun k hk => hg.block k (by have := own_tab h1.own.1; omega) (fun e => by have := row_base hvp.2.1 k e.symm; omega)⟩
  have ho' : w5.ownsRow B 3 1 v' (P ++ [y]).length (intV (P ++ [y])) := by rw [List.length_append, List.length_singleton]; simpa [intV] using ho
  refine ⟨h1.fr.up hB5 h.hB, h1.own.list hg ho' hs5 (Nat.le_refl _) (fun b hb => ⟨?_, row_lt ho' b hb⟩), ?_, h.hB, h.hA⟩
  · rcases hat with e | e
    · exact .inl (e ▸ hb)
    · rw [e] at hb; cases hb; exact .inr (Nat.le_refl _)
  · exact (hg.block A hA.1 (fun e => hvA e.symm)).trans h1.box
theorem retD_zero {w W : World} {v0 : Value} (h : Fr2 w W v0) :
    RetYD w [] [] false (.returned (.tuple #[.agg #[.slice none 0 0], .slice (some ⟨W.heap.size, 0, none⟩) 0 0, .bool false])) ((W.setCell ⟨w.heap.size + 1, 0, none⟩ (.slice none 0 0)).alloc (.cells #[] 3)) := by
  have hl := h.lt
  have hb := h.set (.slice none 0 0)
  have R1 := own_empty (W.setCell ⟨w.heap.size + 1, 0, none⟩ (.slice none 0 0)) (.cells #[] 3) 3 rfl
  have hz : (W.setCell ⟨w.heap.size + 1, 0, none⟩ (.slice none 0 0)).heap.size = W.heap.size := by simp
  rw [hz] at R1
  refine ⟨none, 0, _, rfl, OwnYD.nil _ _ _ (Nat.le_refl _) ⟨Nat.le_refl _, R1.mono (by omega), fun b' hb' => row_lt R1 b' hb'⟩, hb.alloc hb.size _⟩
theorem Fr2.e7 {w W : World} {v0 : Value} (h : Fr2 w W v0) (o : Obj) : ((W.setCell ⟨w.heap.size + 1, 0, none⟩ (.slice none 0 0)).alloc o).cell? ⟨w.heap.size + 1, 0, none⟩ = some (.slice none 0 0) :=
  (World.cell?_alloc_lt _ _ _ (by have := h.lt; simpa using this)).trans (World.cell?_setCell_same _ _ _ h.z.1)
theorem retD_zeroA {w W : World} {v0 : Value} (h : Fr2 w W v0) :
    RetYD w [] [] false (.returned (.tuple #[.agg #[.slice none 0 0], .slice (some ⟨W.heap.size, 0, none⟩) 0 0, .bool false])) ((W.alloc (.cells #[] 3)).setCell ⟨w.heap.size + 1, 0, none⟩ (.slice none 0 0)) := by
  have hl := h.lt
  have h1 := h.below (below_one W (.cells #[] 3))
  have R1 := own_empty W (.cells #[] 3) 3 rfl
  have R2 : ((W.alloc (.cells #[] 3)).setCell ⟨w.heap.size + 1, 0, none⟩ (.slice none 0 0)).ownsRow W.heap.size 3 1 (.slice (some ⟨W.heap.size, 0, none⟩) 0 0) 0 [] :=
    own_span R1 (span_set (lo := w.heap.size + 1) (hi := w.heap.size + 2) (i := 0) (Nat.le_refl (w.heap.size + 1)) (Nat.lt_succ_self _) (.slice none 0 0)) (fun b' hb' => .inr (by
      have : W.heap.size = b' := by simpa [Value.ownBlock] using hb'
      omega))
  exact ⟨none, 0, _, rfl, OwnYD.nil _ _ _ (Nat.le_refl _) ⟨Nat.le_refl _, R2.mono (by omega), fun b' hb' => row_lt R2 b' hb'⟩, h1.set _⟩
theorem PlSt.ret {w W : World} {v0 : Value} {A B g n c : Nat} {vp : Value} {Z : List (List Int)} {P : List Int} (h : PlSt w W v0 A B g n c vp Z P) :
    RetYD w Z P true (.returned (.tuple #[.agg #[.slice (some ⟨g, 0, none⟩) n c], vp, .bool true])) (W.setCell ⟨w.heap.size + 1, 0, none⟩ (.slice (some ⟨g, 0, none⟩) n c)) := by
  have ht := own_tab h.own.1
  have hB := h.hB
  refine ⟨_, _, _, by rw [← ht.2.2.2], ?_, h.fr.set _⟩
  rw [← ht.2.2.2]
  exact (h.own.span (span_set (lo := w.heap.size + 1) (hi := w.heap.size + 2) (i := 0) (Nat.le_refl (w.heap.size + 1)) (Nat.lt_succ_self _) (.slice (some ⟨g, 0, none⟩) n c)) (.inr (by omega))).mono (by omega) (by simp) (Nat.le_refl _)
theorem PlSt.new {w w1 w2 : World} {v0 : Value} {g n c : Nat} {Y : List (List Int)} (F1 : Fr2 w w1 v0) (h : OwnY w2 w1.heap.size w2.heap.size (.slice (some ⟨g, 0, none⟩) n c) Y) (hb : Below w1.heap.size w1 w2) :
    PlSt w ((w2.alloc (.cells #[.slice (some ⟨g, 0, none⟩) n c] 26)).alloc (.cells #[] 3)) v0 w2.heap.size w1.heap.size g n c (.slice (some ⟨w2.heap.size + 1, 0, none⟩) 0 0) Y [] := by
  have hb1 := below_one w2 (.cells #[.slice (some ⟨g, 0, none⟩) n c] 26)
  have hb2 := below_one (w2.alloc (.cells #[.slice (some ⟨g, 0, none⟩) n c] 26)) (.cells #[] 3)
  have hz1 : (w2.alloc (.cells #[.slice (some ⟨g, 0, none⟩) n c] 26)).heap.size = w2.heap.size + 1 := by simp
  have hz2 : ((w2.alloc (.cells #[.slice (some ⟨g, 0, none⟩) n c] 26)).alloc (.cells #[] 3)).heap.size = w2.heap.size + 2 := by simp
  have hzb := hb.size
  have hl := F1.lt
  have R1 := own_empty (w2.alloc (.cells #[.slice (some ⟨g, 0, none⟩) n c] 26)) (.cells #[] 3) 3 rfl
  rw [hz1] at R1
  have hY := (h.below hb1).below hb2
  refine ⟨((F1.below hb).below hb1).below hb2, ⟨hY.mono (Nat.le_refl _) (by omega) (Nat.le_refl _), ⟨Nat.le_refl _, R1.mono (by omega), fun b hb => row_lt R1 b hb⟩, ?_⟩, (hb2.block _ (by omega)).trans (heap_alloc_new w2 _), by omega, by omega⟩
  intro g2 n2 c2 e j x hj hx b hb'
  injection e with e1 e2 e3
  injection e1 with e1
  injection e1 with e1 _ _
  subst e1
  subst e2
  have hbe : w2.heap.size + 1 = b := by simpa [Value.ownBlock] using hb'
  have ht := own_tab hY
  obtain ⟨x2, hx2, -, -, hxb⟩ := hY.cell (List.getElem?_eq_getElem (by omega : j < Y.length))
  rw [hx] at hx2
  cases hx2
  intro e
  have := hxb b e
  omega
theorem PlSt.newB {w w1 w2 : World} {v0 : Value} {g n c : Nat} {Y : List (List Int)} (F1 : Fr2 w w1 v0) (h : OwnY w2 w1.heap.size w2.heap.size (.slice (some ⟨g, 0, none⟩) n c) Y) (hb : Below w1.heap.size w1 w2) :
    PlSt w ((w2.alloc (.cells #[] 3)).alloc (.cells #[.slice (some ⟨g, 0, none⟩) n c] 26)) v0 (w2.heap.size + 1) w1.heap.size g n c (.slice (some ⟨w2.heap.size, 0, none⟩) 0 0) Y [] := by
  have hb1 := below_one w2 (.cells #[] 3)
  have hb2 := below_one (w2.alloc (.cells #[] 3)) (.cells #[.slice (some ⟨g, 0, none⟩) n c] 26)
  have hz1 : (w2.alloc (.cells #[] 3)).heap.size = w2.heap.size + 1 := by simp
  have hz2 : ((w2.alloc (.cells #[] 3)).alloc (.cells #[.slice (some ⟨g, 0, none⟩) n c] 26)).heap.size = w2.heap.size + 2 := by simp
  have hzb := hb.size
  have hl := F1.lt
  have R1 := row_below (own_empty w2 (.cells #[] 3) 3 rfl) hb2
  have hY := (h.below hb1).below hb2
  have hbx := heap_alloc_new (w2.alloc (.cells #[] 3)) (.cells #[.slice (some ⟨g, 0, none⟩) n c] 26)
  rw [hz1] at hbx
  refine ⟨((F1.below hb).below hb1).below hb2, ⟨hY.mono (Nat.le_refl _) (by omega) (Nat.le_refl _), ⟨Nat.le_refl _, R1.mono (by omega), fun b hb => row_lt R1 b hb⟩, ?_⟩, hbx, by omega, by omega⟩
  intro g2 n2 c2 e j x hj hx b hb'
  injection e with e1 e2 e3
  injection e1 with e1
  injection e1 with e1 _ _
  subst e1
  subst e2
  have hbe : w2.heap.size = b := by simpa [Value.ownBlock] using hb'
  have ht := own_tab hY
  obtain ⟨x2, hx2, -, -, hxb⟩ := hY.cell (List.getElem?_eq_getElem (by omega : j < Y.length))
  rw [hx] at hx2
  cases hx2
  intro e
  have := hxb b e
  omega
end Go.Proofs.Ythokmklnldoinaa
