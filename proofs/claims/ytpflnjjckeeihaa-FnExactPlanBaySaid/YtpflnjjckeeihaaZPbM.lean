/-
  The memory of a bay that is loaded with a plan: four boxes and the rows, kept apart by their types. No statement of the seat by itself.
-/
import Derived.Test.YtpflnjjckeeihaaZV
import Derived.Test.YtpflnjjckeeihaaCopyI
import Derived.Test.YtpflnjjckeeihaaHPutM
namespace Go.Proofs.Ytpflnjjckeeihaa
open Go.RowKit

/-- A block of another type is not a row's. -/
theorem ne_type {w : World} {S e B n : Nat} {cs : Array Value} {T : TypeId} {x : Value} {xs : List Value} (h : w.heap[S]? = some (Obj.cells cs T (0, 0))) (hx : w.ownsRow B e 1 x n xs) (he : e ≠ T) : x.ownBlock ≠ some S := by
  intro e2
  rcases hx.2 with ⟨rfl, _⟩ | ⟨g, cap, cur, rfl, _, hb, _⟩
  · simp [Value.ownBlock] at e2
  · simp only [Value.ownBlock, Option.some.injEq] at e2
    subst e2
    rw [h] at hb
    injection hb with hb
    injection hb with _ hb _
    exact he hb.symm
theorem mem_lt {w : World} {S : Nat} {o : Obj} (h : w.heap[S]? = some o) : S < w.heap.size := (Array.getElem?_eq_some_iff.1 h).1
/-- While a bay is loaded: the stowage's box, the result's, the bay's, the rows. -/
structure PbS (w wr : World) (r h : Int) (v0 : Value) (A R D : Nat) (B g n c : Nat) (Y : List (List Int)) : Prop where
  a : wr.heap[A]? = some (.cells #[.int .i64 r, .int .i64 h, v0] 26 (0, 0))
  r : wr.heap[R]? = some (.cells #[.int .i64 0, .slice none 0 0] 37 (0, 0))
  d : wr.heap[D]? = some (.cells #[.int .i64 h, .slice (some ⟨g, 0, none⟩) n c] 37 (0, 0))
  own : OwnY wr B wr.heap.size (.slice (some ⟨g, 0, none⟩) n c) Y
  bl : Below w.heap.size w wr
  hB : w.heap.size ≤ B
section
variable {w wr W : World} {r h : Int} {v0 : Value} {A R D B g n c : Nat} {Y : List (List Int)}
theorem PbS.below (S : PbS w wr r h v0 A R D B g n c Y) (hb : Below wr.heap.size wr W) : PbS w W r h v0 A R D B g n c Y :=
  ⟨(hb.block _ (mem_lt S.a)).trans S.a, (hb.block _ (mem_lt S.r)).trans S.r, (hb.block _ (mem_lt S.d)).trans S.d, (S.own.below hb).mono (Nat.le_refl _) hb.size (Nat.le_refl _), S.bl.trans (hb.mono S.bl.size), S.hB⟩
theorem PbS.cells (S : PbS w wr r h v0 A R D B g n c Y) : (wr.cell? ⟨A, 0, none⟩ = some (.int .i64 r) ∧ wr.cell? ⟨A, 1, none⟩ = some (.int .i64 h) ∧ wr.cell? ⟨A, 2, none⟩ = some v0) ∧ wr.cell? ⟨D, 0, none⟩ = some (.int .i64 h) ∧ wr.cell? ⟨D, 1, none⟩ = some (.slice (some ⟨g, 0, none⟩) n c) :=
  ⟨⟨cell_of S.a rfl, cell_of S.a rfl, cell_of S.a rfl⟩, cell_of S.d rfl, cell_of S.d rfl⟩
theorem PbS.tab (S : PbS w wr r h v0 A R D B g n c Y) : ¬ g = A ∧ ¬ g = R ∧ ¬ g = D := by
  obtain ⟨-, -, us, h3, -⟩ := S.own
  exact ⟨fun e => ne_type S.a h3 (by decide) (e ▸ rfl), fun e => ne_type S.r h3 (by decide) (e ▸ rfl), fun e => ne_type S.d h3 (by decide) (e ▸ rfl)⟩
theorem PbS.base (S : PbS w wr r h v0 A R D B g n c Y) : B ≤ g ∧ g < wr.heap.size := own_at S.own
/-- A number put on a row. -/
theorem PbS.put {w5 : World} {s m : Nat} {l : List Int} {x : Int} {u v' : Value} {o : Obj} (S : PbS w wr r h v0 A R D B g n c Y) (hl : Y[s]? = some l) (hm : l.length = m) (hu : wr.cell? ⟨g, s, none⟩ = some u)
    (ho : w5.ownsRow B 3 1 v' (m + 1) (intV l ++ [.int .i64 x])) (hg : (wr.alloc o).grownBy w5 u.ownBlock) (hat : v'.ownBlock = u.ownBlock ∨ v'.ownBlock = some (wr.alloc o).heap.size) :
    PbS w (w5.setCell ⟨g, s, none⟩ v') r h v0 A R D B g n c (putY Y s x) ∧ (∃ y, w5.cell? ⟨g, s, none⟩ = some y) ∧ w5.frozen? ⟨g, s, none⟩ = false ∧ w5.cell? ⟨D, 1, none⟩ = some (.slice (some ⟨g, 0, none⟩) n c) := by
  obtain ⟨p1, p2, p3⟩ := own_put S.own hl hm hu ho hg hat
  obtain ⟨u2, hu2, -, hou, hub⟩ := S.own.cell hl
  rw [hu] at hu2
  cases hu2
  obtain ⟨t1, t2, t3⟩ := S.tab
  have hb : Below wr.heap.size wr (wr.alloc o) := below_one wr o
  have h5 : ∀ k cs T, wr.heap[k]? = some (Obj.cells cs T (0, 0)) → 3 ≠ T → w5.heap[k]? = some (Obj.cells cs T (0, 0)) := fun k cs T hk hT =>
    (hg.block k (Nat.lt_of_lt_of_le (mem_lt hk) hb.size) (fun e => ne_type hk hou hT e.symm)).trans ((hb.block k (mem_lt hk)).trans hk)
  have h6 : ∀ k, ¬ g = k → (w5.setCell ⟨g, s, none⟩ v').heap[k]? = w5.heap[k]? := fun k hk => Below.heap_setCell w5 ⟨g, s, none⟩ v' k (fun e => hk e.symm)
  have hB5 : Below w.heap.size w w5 := (S.bl.trans (hb.mono S.bl.size)).grown hg (Nat.le_trans S.bl.size hb.size) (fun j e => by have := row_base hou j e; have := S.hB; omega)
  have hgB := S.base
  have hB := S.hB
  refine ⟨⟨(h6 _ t1).trans (h5 _ _ _ S.a (by decide)), (h6 _ t2).trans (h5 _ _ _ S.r (by decide)), (h6 _ t3).trans (h5 _ _ _ S.d (by decide)), p1.mono (Nat.le_refl _) (by simp) (Nat.le_refl _), hB5.setCell (p := ⟨g, s, none⟩) (by show w.heap.size ≤ g; omega) _, S.hB⟩, p2, p3, ?_⟩
  exact cell_of (h5 _ _ _ S.d (by decide)) rfl
end

theorem nils_own (q : Nat) (hq : q ≤ 1048576) (W : World) : OwnY (W.alloc (.cells (Array.replicate q (Value.slice none 0 0)) 24)) W.heap.size (W.heap.size + 1) (.slice (some ⟨W.heap.size, 0, none⟩) q q) (List.replicate q []) := by
  have h := (make_nils q hq W).2
  rw [List.toArray_replicate] at h
  simpa using h
/-- The rows were made first, then the bay's box. -/
theorem pbs_first {w w1 : World} {r h : Int} {v0 : Value} {A R q B : Nat} (hA : w1.heap[A]? = some (.cells #[.int .i64 r, .int .i64 h, v0] 26 (0, 0))) (hR : w1.heap[R]? = some (.cells #[.int .i64 0, .slice none 0 0] 37 (0, 0)))
    (hb : Below w.heap.size w w1) (hwB : w.heap.size ≤ B) (hB : B ≤ w1.heap.size) (hq : q ≤ 1048576) :
    PbS w (((w1.alloc (.cells (Array.replicate q (Value.slice none 0 0)) 24)).alloc (.cells #[.int .i64 h, .slice (some ⟨w1.heap.size, 0, none⟩) q q] 37)).drew) r h v0 A R (w1.heap.size + 1) B w1.heap.size q q (List.replicate q []) := by
  have h1 := below_one w1 (.cells (Array.replicate q (Value.slice none 0 0)) 24)
  have h2 := below_one (w1.alloc (.cells (Array.replicate q (Value.slice none 0 0)) 24)) (.cells #[.int .i64 h, .slice (some ⟨w1.heap.size, 0, none⟩) q q] 37)
  have h3 := (h1.trans (h2.mono h1.size)).drew
  have hd := heap_alloc_new (w1.alloc (.cells (Array.replicate q (Value.slice none 0 0)) 24)) (.cells #[.int .i64 h, .slice (some ⟨w1.heap.size, 0, none⟩) q q] 37)
  rw [show (w1.alloc (.cells (Array.replicate q (Value.slice none 0 0)) 24)).heap.size = w1.heap.size + 1 by simp] at hd
  refine ⟨(h3.block _ (mem_lt hA)).trans hA, (h3.block _ (mem_lt hR)).trans hR, hd, ?_, hb.trans (h3.mono hb.size), hwB⟩
  refine ((nils_own q hq w1).below h2.drew).mono hB ?_ (Nat.le_refl _)
  simp [World.drew]
/-- The bay's box was made first, then the rows. -/
theorem pbs_second {w w1 : World} {r h : Int} {v0 : Value} {A R q B : Nat} (hA : w1.heap[A]? = some (.cells #[.int .i64 r, .int .i64 h, v0] 26 (0, 0))) (hR : w1.heap[R]? = some (.cells #[.int .i64 0, .slice none 0 0] 37 (0, 0)))
    (hb : Below w.heap.size w w1) (hwB : w.heap.size ≤ B) (hB : B ≤ w1.heap.size) (hq : q ≤ 1048576) :
    PbS w (((w1.alloc (.cells #[.int .i64 h, .slice (some ⟨w1.heap.size + 1, 0, none⟩) q q] 37)).alloc (.cells (Array.replicate q (Value.slice none 0 0)) 24)).drew) r h v0 A R w1.heap.size B (w1.heap.size + 1) q q (List.replicate q []) := by
  have h1 := below_one w1 (.cells #[.int .i64 h, .slice (some ⟨w1.heap.size + 1, 0, none⟩) q q] 37)
  have h2 := below_one (w1.alloc (.cells #[.int .i64 h, .slice (some ⟨w1.heap.size + 1, 0, none⟩) q q] 37)) (.cells (Array.replicate q (Value.slice none 0 0)) 24)
  have h3 := (h1.trans (h2.mono h1.size)).drew
  have hs : (w1.alloc (.cells #[.int .i64 h, .slice (some ⟨w1.heap.size + 1, 0, none⟩) q q] 37)).heap.size = w1.heap.size + 1 := by simp
  have hd := heap_alloc_new w1 (.cells #[.int .i64 h, .slice (some ⟨w1.heap.size + 1, 0, none⟩) q q] 37)
  have hd2 := (h2.block _ (mem_lt hd)).trans hd
  have ho := nils_own q hq (w1.alloc (.cells #[.int .i64 h, .slice (some ⟨w1.heap.size + 1, 0, none⟩) q q] 37))
  rw [hs] at ho
  refine ⟨(h3.block _ (mem_lt hA)).trans hA, (h3.block _ (mem_lt hR)).trans hR, hd2, ?_, hb.trans (h3.mono hb.size), hwB⟩
  refine (ho.below (Below.refl _ _).drew).mono (Nat.le_succ_of_le hB) ?_ (Nat.le_refl _)
  simp [World.drew]
end Go.Proofs.Ytpflnjjckeeihaa
