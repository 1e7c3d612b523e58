/-
  A bay with a number more, or less; the store into the copy. No statement of the seat by itself.
-/
import Derived.Test.YtjplbcfpbggnnaaKeep
import Derived.Test.YtjplbcfpbggnnaaRet
import Derived.Test.YtjplbcfpbggnnaaCopyI
import Derived.Deep.RegionLaw
import Derived.Test.YtjplbcfpbggnnaaTakeM
namespace Go.Proofs.Ytjplbcfpbggnnaa
open Go.RowKit

/-- A value that reads as a bay. -/
def BdR (w : World) (v : Value) (h : Int) (Y : List (List Int)) : Prop := ∃ v0, v = .agg #[.int .i64 h, v0] ∧ YL w v0 Y
theorem BdR.below {w w' : World} {v : Value} {h : Int} {Y : List (List Int)} (hv : BdR w v h Y) (hb : Below w.heap.size w w') : BdR w' v h Y := by
  obtain ⟨v0, rfl, hv⟩ := hv
  exact ⟨v0, rfl, hv.below hb⟩
/-- A bay of the call's own. -/
def BdO (w : World) (B hi : Nat) (v : Value) (h : Int) (Y : List (List Int)) : Prop := ∃ v0, v = .agg #[.int .i64 h, v0] ∧ OwnY w B hi v0 Y
/-- A bay of the call's own was answered, and nothing older turned. -/
def NewBd (w : World) (h : Int) (Y : List (List Int)) (e : Ending) (w' : World) : Prop := ∃ a c, e = .returned (.agg #[.int .i64 h, .slice a Y.length c]) ∧ OwnY w' w.heap.size w'.heap.size (.slice a Y.length c) Y ∧ Below w.heap.size w w'
/-- A box of a bay. -/
def Box2 (W : World) (A : Nat) (h : Int) (x : Value) : Prop := A < W.heap.size ∧ W.cell? ⟨A, 0, none⟩ = some (.int .i64 h) ∧ W.cell? ⟨A, 1, none⟩ = some x
theorem Box2.below {W W' : World} {A : Nat} {h : Int} {x : Value} (hx : Box2 W A h x) (hb : Below W.heap.size W W') : Box2 W' A h x :=
  ⟨Nat.lt_of_lt_of_le hx.1 hb.size, (hb.cell (p := ⟨A, 0, none⟩) hx.1).trans hx.2.1, (hb.cell (p := ⟨A, 1, none⟩) hx.1).trans hx.2.2⟩
theorem Box2.span {W W' : World} {A lo hi : Nat} {h : Int} {x : Value} (hx : Box2 W A h x) (hs : Span lo hi W W') (ho : A < lo ∨ hi ≤ A) : Box2 W' A h x :=
  ⟨Nat.lt_of_lt_of_le hx.1 hs.size, (World.cell?_of_block (a := ⟨A, 0, none⟩) (hs.block A hx.1 ho)).trans hx.2.1, (World.cell?_of_block (a := ⟨A, 1, none⟩) (hs.block A hx.1 ho)).trans hx.2.2⟩
theorem Box2.new (W : World) (h : Int) (x : Value) (T : TypeId) : Box2 (W.alloc (.cells #[.int .i64 h, x] T)) W.heap.size h x := ⟨by simp, cell_of (heap_alloc_new W _) rfl, cell_of (heap_alloc_new W _) rfl⟩

/-- Two places of one block. -/
theorem set_cell_at (w : World) (b i j : Nat) (v : Value) (h : i ≠ j) : (w.setCell ⟨b, i, none⟩ v).cell? ⟨b, j, none⟩ = w.cell? ⟨b, j, none⟩ := World.cell?_setCell_other _ _ _ _ (fun e => h (by injection e))

/-- The result's box of a bay has been written. -/
theorem res_bay {w : World} {R : Nat} {x y : Value} (h v : Value) (c0 : w.cell? ⟨R, 0, none⟩ = some x) (c1 : w.cell? ⟨R, 1, none⟩ = some y) : ((w.setCell ⟨R, 0, none⟩ h).setCell ⟨R, 1, none⟩ v).cell? ⟨R, 0, none⟩ = some h ∧ ((w.setCell ⟨R, 0, none⟩ h).setCell ⟨R, 1, none⟩ v).cell? ⟨R, 1, none⟩ = some v :=
  ⟨by rw [set_cell_at _ _ _ _ _ (by decide)]; exact World.cell?_setCell_same _ _ h c0, World.cell?_setCell_same _ _ v (by rw [set_cell_at _ _ _ _ _ (by decide)]; exact c1)⟩

/-- What stays while the last question is asked. -/
def KeepB (w : World) (A X : Nat) (h : Int) (v0 s0 : Value) (Y : List (List Int)) (W : World) : Prop := Below w.heap.size w W ∧ YL w v0 Y ∧ YL w s0 Y ∧ Box2 W A h v0 ∧ Box2 W X h s0
section
variable {w W W' : World} {A X : Nat} {h : Int} {v0 s0 : Value} {Y : List (List Int)}
theorem KeepB.start (h1 : BdR w (.agg #[.int .i64 h, v0]) h Y) (h2 : BdR w (.agg #[.int .i64 h, s0]) h Y) (h3 : Box2 w A h v0) (h4 : Box2 w X h s0) : KeepB w A X h v0 s0 Y w := by
  obtain ⟨a, e, h1⟩ := h1
  obtain ⟨b, e2, h2⟩ := h2
  simp only [Value.agg.injEq, Array.mk.injEq, List.cons.injEq, true_and, and_true] at e e2
  subst e e2
  exact ⟨Below.refl _ _, h1, h2, h3, h4⟩
theorem KeepB.below (h1 : KeepB w A X h v0 s0 Y W) (hb : Below W.heap.size W W') : KeepB w A X h v0 s0 Y W' :=
  ⟨h1.1.trans (hb.mono h1.1.size), h1.2.1, h1.2.2.1, h1.2.2.2.1.below hb, h1.2.2.2.2.below hb⟩
theorem KeepB.drew (h1 : KeepB w A X h v0 s0 Y W) : KeepB w A X h v0 s0 Y W.drew := h1.below ⟨rfl, rfl, rfl, Nat.le_refl _, fun _ _ => rfl⟩
theorem KeepB.cells (h1 : KeepB w A X h v0 s0 Y W) : W.cell? ⟨A, 0, none⟩ = some (.int .i64 h) ∧ W.cell? ⟨A, 1, none⟩ = some v0 ∧ W.cell? ⟨X, 0, none⟩ = some (.int .i64 h) ∧ W.cell? ⟨X, 1, none⟩ = some s0 := ⟨h1.2.2.2.1.2.1, h1.2.2.2.1.2.2, h1.2.2.2.2.2.1, h1.2.2.2.2.2.2⟩
end

section
open Go.Joins Go.Deep Go.ChangeShapes Go.WideShapes Go.ChangeAt
variable {H : Type} {enc : TypeId × Value → H} {P : Program} {w : World} {base : Nat} {spare : Nat → Bool} {held : Bool}
/-- A struct of two one-cell fields, by value: its two values, and what each reads as. -/
theorem fields2 {r : Reach} {b0 : Nat} {t : TypeId} {f0 f1 : Field} {v : Value} {d : DataW H} {p : List MemPlace} (hs : P.underlying t = some (.struct #[f0, f1])) (hone : oneCellFields P #[f0, f1] = true) (hC : P.cellsOf t = 2)
    (hv : Value.okWide P w r b0 t v) (h : DataW.Trod enc P w base spare held t v d p) :
    ∃ (v0 v1 : Value) (y0 y1 : DataW H × List MemPlace) (n : Nat), v = .agg #[v0, v1] ∧ p = y0.2 ++ y1.2 ∧
      DataW.trod enc P w base spare held n f0.type [v0] = some y0 ∧ DataW.trod enc P w base spare held n f1.type [v1] = some y1 := by
  obtain ⟨cs, rfl, hsz⟩ := okWide_struct hs hv
  obtain ⟨l⟩ := cs
  have hl : l.length = 2 := hsz.trans hC
  obtain ⟨fuel, hf⟩ := h
  obtain ⟨y0, y1, n, hx, _, g0, g1⟩ := trod_struct2 hs hf
  simp only [Prod.mk.injEq] at hx
  obtain ⟨-, hp⟩ := hx
  have k0 := hone_of hone 0 f0 rfl
  have k1 := hone_of hone 1 f1 rfl
  match l, hl with
  | [c0, c1], _ =>
    exact ⟨c0, c1, y0, y1, n, rfl, hp, by simpa [k0, Value.cells] using g0, by simpa [k1, Value.cells] using g1⟩
end

/-- A bay of the call's own was answered, and a yes or no. -/
def RetB (w : World) (h : Int) (R : List (List Int)) (ok : Bool) (e : Ending) (w' : World) : Prop := ∃ a c, e = .returned (.tuple #[.agg #[.int .i64 h, .slice a R.length c], .bool ok]) ∧ OwnY w' w.heap.size w'.heap.size (.slice a R.length c) R ∧ Below w.heap.size w w'
/-- A bay of the call's own was answered, an int, and a yes or no. -/
def RetBI (w : World) (h : Int) (R : List (List Int)) (x : Int) (ok : Bool) (e : Ending) (w' : World) : Prop := ∃ a c, e = .returned (.tuple #[.agg #[.int .i64 h, .slice a R.length c], .int .i64 x, .bool ok]) ∧ OwnY w' w.heap.size w'.heap.size (.slice a R.length c) R ∧ Below w.heap.size w w'

/-- Whether a bay is valid. -/
def goodB (hh : Int) (Y : List (List Int)) : Bool := decide (1 ≤ hh ∧ hh ≤ 4) && goodH 5 hh.toNat Y
theorem goodB_high {hh : Int} {Y : List (List Int)} (h : ¬ (1 ≤ hh ∧ hh ≤ 4)) : goodB hh Y = false := by unfold goodB; rw [decide_eq_false h]; rfl
theorem goodB_nat {H : Nat} {Y : List (List Int)} (h1 : 1 ≤ H) (h4 : H ≤ 4) : goodB (H : Int) Y = goodH 5 H Y := by unfold goodB; rw [decide_eq_true (by omega)]; simp
theorem goodB_iff {hh : Int} {Y : List (List Int)} : goodB hh Y = true ↔ (1 ≤ hh ∧ hh ≤ 4) ∧ goodH 5 hh.toNat Y = true := by simp [goodB]
theorem goodB_rows {hh : Int} {Y : List (List Int)} (h : goodB hh Y = true) : 1 ≤ Y.length ∧ Y.length ≤ 5 ∧ (∀ l ∈ Y, l.length ≤ 4) ∧ Seen Y.flatten := by
  obtain ⟨h1, h2⟩ := goodB_iff.1 h
  obtain ⟨a, b, c, d⟩ := goodH_iff.1 h2
  exact ⟨a, b, fun l hl => by have := c l hl; omega, d⟩
/-- While the numbers are collected. -/
def CollB (w wr : World) (hh : Int) (v0 sv : Value) (S : List Int) : Prop := wr.ownsRow (w.heap.size + 1) 3 1 sv S.length (intV S) ∧ wr.cell? ⟨w.heap.size, 1, none⟩ = some v0 ∧ Below w.heap.size w wr ∧ w.heap.size + 1 ≤ wr.heap.size ∧ sv ≠ .slice none 0 0 ∧ wr.cell? ⟨w.heap.size, 0, none⟩ = some (.int .i64 hh)
theorem CollB.drewN {w wr : World} {hh : Int} {v0 sv : Value} {S : List Int} (h : CollB w wr hh v0 sv S) (q : Nat) : CollB w (wr.drewN q) hh v0 sv S :=
  ⟨row_below h.1 (below_drewN (Below.refl _ _) q), h.2.1, below_drewN h.2.2.1 q, h.2.2.2.1, h.2.2.2.2.1, h.2.2.2.2.2⟩
theorem collB_start (w : World) (hh : Int) (v0 : Value) (T : TypeId) : CollB w ((w.alloc (.cells #[.int .i64 hh, v0] T)).alloc (.cells #[] 3)) hh v0 (.slice (some ⟨w.heap.size + 1, 0, none⟩) 0 0) [] := by
  have h := own_empty (w.alloc (.cells #[.int .i64 hh, v0] T)) (.cells #[] 3) 3 rfl
  rw [show (w.alloc (.cells #[.int .i64 hh, v0] T)).heap.size = w.heap.size + 1 by simp] at h
  have hB := Box2.new w hh v0 T
  exact ⟨by simpa [intV] using h, (World.cell?_alloc_lt _ _ ⟨w.heap.size, 1, none⟩ hB.1).trans hB.2.2, ((Below.refl _ w).alloc (Nat.le_refl _) _).alloc (by simp) _, by simp, by simp, (World.cell?_alloc_lt _ _ ⟨w.heap.size, 0, none⟩ hB.1).trans hB.2.1⟩

/-- Whether a bay is valid and has a row. -/
def okB (hh : Int) (Y : List (List Int)) (s : Int) : Bool := goodB hh Y && decide (0 ≤ s ∧ s < (Y.length : Int))
theorem okB_iff {hh : Int} {Y : List (List Int)} {s : Int} : okB hh Y s = true ↔ goodB hh Y = true ∧ 0 ≤ s ∧ s < (Y.length : Int) := by simp [okB]
theorem okB_not {hh : Int} {Y : List (List Int)} {s : Int} (h : goodB hh Y = true → ¬ (0 ≤ s ∧ s < (Y.length : Int))) : okB hh Y s = false := by
  cases hb : okB hh Y s with
  | false => rfl
  | true => exact absurd (okB_iff.1 hb).2 (h (okB_iff.1 hb).1)

/-- The boxes of a bay that came in and of a bay that goes out. -/
structure FrB (w W : World) (hh : Int) (v0 : Value) : Prop where
  bl : Below w.heap.size w W
  a : Box2 W w.heap.size hh v0
  r : W.heap[w.heap.size + 1]? = some (.cells #[.int .i64 0, .slice none 0 0] 45 (0, 0))
theorem FrB.start (w : World) (hh : Int) (v0 : Value) : FrB w ((w.alloc (.cells #[.int .i64 hh, v0] 45)).alloc (.cells #[.int .i64 0, .slice none 0 0] 45)) hh v0 := by
  have hb0 := below_one w (.cells #[.int .i64 hh, v0] 45)
  have hb1 := below_one (w.alloc (.cells #[.int .i64 hh, v0] 45)) (.cells #[.int .i64 0, .slice none 0 0] 45)
  have hRb := heap_alloc_new (w.alloc (.cells #[.int .i64 hh, v0] 45)) (.cells #[.int .i64 0, .slice none 0 0] 45)
  rw [show (w.alloc (.cells #[.int .i64 hh, v0] 45)).heap.size = w.heap.size + 1 by simp] at hRb
  exact ⟨hb0.trans (hb1.mono (by simp)), (Box2.new w hh v0 45).below hb1, hRb⟩
section
variable {w W W' : World} {hh : Int} {v0 : Value}
theorem FrB.lt (h : FrB w W hh v0) : w.heap.size + 1 < W.heap.size := (Array.getElem?_eq_some_iff.1 h.r).1
theorem FrB.below (h : FrB w W hh v0) (hb : Below W.heap.size W W') : FrB w W' hh v0 := ⟨h.bl.trans (hb.mono h.bl.size), h.a.below hb, (hb.block _ h.lt).trans h.r⟩
theorem FrB.drew (h : FrB w W hh v0) : FrB w W.drew hh v0 := h.below ⟨rfl, rfl, rfl, Nat.le_refl _, fun _ _ => rfl⟩
theorem FrB.span {lo hi : Nat} (h : FrB w W hh v0) (hs : Span lo hi W W') (hl : w.heap.size + 1 < lo) : FrB w W' hh v0 :=
  ⟨Below.span h.bl (hs.lift (by omega)) h.bl.size, h.a.span hs (.inl (by omega)), (hs.block _ h.lt (.inl hl)).trans h.r⟩
/-- What the result's box says, and that it can be written. -/
theorem FrB.z (h : FrB w W hh v0) : W.cell? ⟨w.heap.size + 1, 0, none⟩ = some (.int .i64 0) ∧ W.cell? ⟨w.heap.size + 1, 1, none⟩ = some (.slice none 0 0) ∧ ∀ i, W.frozen? ⟨w.heap.size + 1, i, none⟩ = false := ⟨cell_of h.r rfl, cell_of h.r rfl, fun _ => free_of h.r⟩
theorem FrB.set (h : FrB w W hh v0) (x y : Value) : Below w.heap.size w ((W.setCell ⟨w.heap.size + 1, 0, none⟩ x).setCell ⟨w.heap.size + 1, 1, none⟩ y) :=
  (h.bl.setCell (p := ⟨w.heap.size + 1, 0, none⟩) (by show w.heap.size ≤ w.heap.size + 1; omega) _).setCell (p := ⟨w.heap.size + 1, 1, none⟩) (by show w.heap.size ≤ w.heap.size + 1; omega) _
end
theorem span_res (W : World) (R : Nat) (x y : Value) : Span R (R + 1) W ((W.setCell ⟨R, 0, none⟩ x).setCell ⟨R, 1, none⟩ y) := (span_set (Nat.le_refl R) (Nat.lt_succ_self R) x).trans (span_set (Nat.le_refl R) (Nat.lt_succ_self R) y)
theorem size_res (W : World) (R : Nat) (x y : Value) : ((W.setCell ⟨R, 0, none⟩ x).setCell ⟨R, 1, none⟩ y).heap.size = W.heap.size := by simp
/-- No bay was answered. -/
theorem retB_zero {w W : World} {hh : Int} {v0 : Value} (h : FrB w W hh v0) : RetB w 0 [] false (.returned (.tuple #[.agg #[.int .i64 0, .slice none 0 0], .bool false])) ((W.setCell ⟨w.heap.size + 1, 0, none⟩ (.int .i64 0)).setCell ⟨w.heap.size + 1, 1, none⟩ (.slice none 0 0)) :=
  ⟨none, 0, rfl, OwnY.nil _ _ _ (Nat.le_refl _), h.set _ _⟩
theorem retBI_zero {w W : World} {hh : Int} {v0 : Value} (h : FrB w W hh v0) : RetBI w 0 [] 0 false (.returned (.tuple #[.agg #[.int .i64 0, .slice none 0 0], .int .i64 0, .bool false])) ((W.setCell ⟨w.heap.size + 1, 0, none⟩ (.int .i64 0)).setCell ⟨w.heap.size + 1, 1, none⟩ (.slice none 0 0)) :=
  ⟨none, 0, rfl, OwnY.nil _ _ _ (Nat.le_refl _), h.set _ _⟩

theorem goodB_small {hh : Int} {Y : List (List Int)} (h : goodB hh Y = true) : Y.length ≤ 5 ∧ tot Y ≤ 24 := by
  obtain ⟨h1, h2, h3, _⟩ := goodB_rows h
  have := tot_bound 4 Y h3
  exact ⟨h2, by omega⟩
theorem putB_small {hh : Int} {Y : List (List Int)} {s : Nat} {x : Int} (h : goodB hh Y = true) : (putY Y s x).length ≤ 5 ∧ tot (putY Y s x) ≤ 30 := by
  obtain ⟨h1, h2, h3, _⟩ := goodB_rows h
  have hl : (putY Y s x).length ≤ 5 := by rw [putY_len]; exact h2
  have := tot_bound 5 (putY Y s x) fun l hl => by
    rcases List.mem_or_eq_of_mem_set hl with hm | rfl
    · have := h3 l hm; omega
    · have : (Y.getD s []).length ≤ 4 := by
        rcases Nat.lt_or_ge s Y.length with hs | hs
        · rw [getD_of (List.getElem?_eq_getElem hs)]; exact h3 _ (List.getElem_mem hs)
        · rw [List.getD, List.getElem?_eq_none hs]; simp
      rw [List.length_append, List.length_singleton]; omega
  exact ⟨hl, by omega⟩
def okPB (hh : Int) (Y : List (List Int)) (s x : Int) : Bool := okB hh Y s && goodB hh (putY Y s.toNat x)
def putRB (hh : Int) (Y : List (List Int)) (s x : Int) : List (List Int) := if okPB hh Y s x = true then putY Y s.toNat x else []
def putHB (hh : Int) (Y : List (List Int)) (s x : Int) : Int := if okPB hh Y s x = true then hh else 0
section
variable {hh : Int} {Y : List (List Int)} {s x : Int}
theorem okPB_no (h : okB hh Y s = false) : okPB hh Y s x = false := by simp [okPB, h]
theorem okPB_nat {s : Nat} (h : okB hh Y (s : Int) = true) : okPB hh Y (s : Int) x = goodB hh (putY Y s x) := by simp [okPB, h]
theorem putB_no (h : okPB hh Y s x = false) : putRB hh Y s x = [] ∧ putHB hh Y s x = 0 := by simp [putRB, putHB, h]
theorem putB_yes {s : Nat} (h : okPB hh Y (s : Int) x = true) : putRB hh Y (s : Int) x = putY Y s x ∧ putHB hh Y (s : Int) x = hh := by simp [putRB, putHB, h]
theorem putRB_small (hh : Int) (Y : List (List Int)) (s x : Int) : (putRB hh Y s x).length ≤ 1048576 ∧ tot (putRB hh Y s x) ≤ 1048576 := by
  unfold putRB
  split
  · rename_i h
    have hg : goodB hh Y = true := by
      simp only [okPB, Bool.and_eq_true] at h
      exact (okB_iff.1 h.1).1
    have := putB_small (s := s.toNat) (x := x) hg
    omega
  · simp [tot]
end

/-- Behind a store into the copy that lies in box O: the copy, its box, the other two boxes. -/
def PutRB (w w1 w2 : World) (hh : Int) (v0 : Value) (g n c : Nat) (Z : List (List Int)) (w6 : World) : Prop :=
  OwnY w6 w1.heap.size w6.heap.size (.slice (some ⟨g, 0, none⟩) n c) Z ∧ Box2 w6 w2.heap.size hh (.slice (some ⟨g, 0, none⟩) n c) ∧ FrB w w6 hh v0
theorem own_at {w : World} {B hi g n c : Nat} {Y : List (List Int)} (h : OwnY w B hi (.slice (some ⟨g, 0, none⟩) n c) Y) : B ≤ g ∧ g < hi := by
  obtain ⟨_, hlt, us, h3, _⟩ := h
  exact ⟨row_base h3 g rfl, hlt g rfl⟩
theorem putRB_of {w w1 w2 w3 w5 : World} {hh : Int} {v0 : Value} {g n c s m : Nat} {Y : List (List Int)} {l : List Int} {x : Int} {u v' : Value} {o : Obj} (h : OwnY w3 w1.heap.size w2.heap.size (.slice (some ⟨g, 0, none⟩) n c) Y) (hl : Y[s]? = some l) (hm : l.length = m) (hu : w3.cell? ⟨g, s, none⟩ = some u)
    (ho : w5.ownsRow w1.heap.size 3 1 v' (m + 1) (intV l ++ [.int .i64 x])) (hg : (w3.alloc o).grownBy w5 u.ownBlock) (hat : v'.ownBlock = u.ownBlock ∨ v'.ownBlock = some (w3.alloc o).heap.size)
    (hO : Box2 w3 w2.heap.size hh (.slice (some ⟨g, 0, none⟩) n c)) (hF : FrB w w3 hh v0) (hz : w.heap.size + 1 < w1.heap.size) :
    PutRB w w1 w2 hh v0 g n c (putY Y s x) (w5.setCell ⟨g, s, none⟩ v') ∧ (∃ y, w5.cell? ⟨g, s, none⟩ = some y) ∧ w5.frozen? ⟨g, s, none⟩ = false := by
  obtain ⟨p1, p2, p3⟩ := own_put h hl hm hu ho hg hat
  have hgb := own_at h
  obtain ⟨u2, hu2, -, hou, hub⟩ := h.cell hl
  rw [hu] at hu2
  cases hu2
  have hb : Below w3.heap.size w3 (w3.alloc o) := below_one w3 o
  have hS : Span w1.heap.size w2.heap.size w3 (w5.setCell ⟨g, s, none⟩ v') := ((Span.of_below hb).trans (Span.of_grown hg fun k hk => ⟨row_base hou k hk, hub k hk⟩)).trans (span_set hgb.1 hgb.2 v')
  exact ⟨⟨p1.mono (Nat.le_refl _) (by simp) (Nat.le_refl _), hO.span hS (.inr (Nat.le_refl _)), hF.span hS hz⟩, p2, p3⟩
theorem takeRB_of {w w1 w2 w3 : World} {hh : Int} {v0 : Value} {g n c s k m : Nat} {a : Option Addr} {c4 : Nat} {Y : List (List Int)} {l : List Int} (h : OwnY w3 w1.heap.size w2.heap.size (.slice (some ⟨g, 0, none⟩) n c) Y) (hl : Y[s]? = some l) (hm : l.length = m) (hk : k < m) (hu : w3.cell? ⟨g, s, none⟩ = some (.slice a m c4))
    (hO : Box2 w3 w2.heap.size hh (.slice (some ⟨g, 0, none⟩) n c)) (hF : FrB w w3 hh v0) (hz : w.heap.size + 1 < w1.heap.size) :
    PutRB w w1 w2 hh v0 g n c (Y.set s (l.take k)) (w3.setCell ⟨g, s, none⟩ (.slice a k c4)) ∧ m ≤ c4 ∧ w3.frozen? ⟨g, s, none⟩ = false := by
  obtain ⟨u2, hu2, hfz, hou, hub⟩ := h.cell hl
  rw [hu] at hu2
  cases hu2
  rw [hm] at hou
  obtain ⟨hmc, ht⟩ := own_take hou hk
  have hgb := own_at h
  have hlk : (l.take k).length = k := by rw [List.length_take]; omega
  have hr := h.repl (w' := w3) (l' := l.take k) (u' := .slice a k c4) (lt_of_get hl) hu ⟨rfl, rfl, rfl, Nat.le_refl _, fun _ _ _ => rfl⟩ (by rw [hlk]; exact ht) fun b hb => .inl (by
    have e : (Value.slice a k c4).ownBlock = (Value.slice a m c4).ownBlock := by cases a <;> rfl
    rw [← e]; exact hb)
  have hS : Span w1.heap.size w2.heap.size w3 (w3.setCell ⟨g, s, none⟩ (.slice a k c4)) := span_set hgb.1 hgb.2 _
  exact ⟨⟨hr.1.mono (Nat.le_refl _) (by simp) (Nat.le_refl _), hO.span hS (.inr (Nat.le_refl _)), hF.span hS hz⟩, hmc, hfz⟩
end Go.Proofs.Ytjplbcfpbggnnaa
