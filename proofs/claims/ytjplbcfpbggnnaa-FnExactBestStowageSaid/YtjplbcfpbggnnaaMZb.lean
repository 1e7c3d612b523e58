/-
  impl.numbersWhere over ints once more, the answer being no nil slice; impl.numbersFor. No statement of the seat by itself.
-/
import Derived.Test.YtjplbcfpbggnnaaMHa
import Derived.Test.YtjplbcfpbggnnaaLawP
import Derived.Test.YtjplbcfpbggnnaaClone
import Derived.Deep.Fields
import Derived.Test.YtjplbcfpbggnnaaEarM
import Derived.Test.YtjplbcfpbggnnaaBadM
import Derived.Test.YtjplbcfpbggnnaaHeights
import Derived.Test.YtjplbcfpbggnnaaOwnI
import Derived.Shelf.Abstract
import Derived.Deep.RegionHeldLaw
import Derived.Test.YtjplbcfpbggnnaaCopyI
namespace Go.Proofs.Ytjplbcfpbggnnaa

section
open Go.RowKit
/-- A value that reads as a stowage. -/
def StR (w : World) (v : Value) (r h : Int) (P : List Int) : Prop := ∃ v0, v = .agg #[.int .i64 r, .int .i64 h, v0] ∧ IL w v0 P
theorem StR.below {w w' : World} {v : Value} {r h : Int} {P : List Int} (hv : StR w v r h P) (hb : Below w.heap.size w w') : StR w' v r h P := by
  obtain ⟨v0, rfl, hv⟩ := hv
  exact ⟨v0, rfl, hv.below hb⟩
/-- A stowage of the call's own was answered, and nothing older turned. -/
def NewSt (w : World) (r h : Int) (P : List Int) (e : Ending) (w' : World) : Prop := ∃ a c, e = .returned (.agg #[.int .i64 r, .int .i64 h, .slice a P.length c]) ∧ LO w' w.heap.size w'.heap.size (.slice a P.length c) P ∧ Below w.heap.size w w'
/-- A box of a stowage. -/
def Box3 (W : World) (A : Nat) (r h : Int) (x : Value) : Prop := A < W.heap.size ∧ W.cell? ⟨A, 0, none⟩ = some (.int .i64 r) ∧ W.cell? ⟨A, 1, none⟩ = some (.int .i64 h) ∧ W.cell? ⟨A, 2, none⟩ = some x
theorem Box3.below {W W' : World} {A : Nat} {r h : Int} {x : Value} (hx : Box3 W A r h x) (hb : Below W.heap.size W W') : Box3 W' A r h x :=
  ⟨Nat.lt_of_lt_of_le hx.1 hb.size, (hb.cell (p := ⟨A, 0, none⟩) hx.1).trans hx.2.1, (hb.cell (p := ⟨A, 1, none⟩) hx.1).trans hx.2.2.1, (hb.cell (p := ⟨A, 2, none⟩) hx.1).trans hx.2.2.2⟩
theorem Box3.span {W W' : World} {A lo hi : Nat} {r h : Int} {x : Value} (hx : Box3 W A r h x) (hs : Span lo hi W W') (ho : A < lo ∨ hi ≤ A) : Box3 W' A r h x :=
  ⟨Nat.lt_of_lt_of_le hx.1 hs.size, (World.cell?_of_block (a := ⟨A, 0, none⟩) (hs.block A hx.1 ho)).trans hx.2.1, (World.cell?_of_block (a := ⟨A, 1, none⟩) (hs.block A hx.1 ho)).trans hx.2.2.1, (World.cell?_of_block (a := ⟨A, 2, none⟩) (hs.block A hx.1 ho)).trans hx.2.2.2⟩
theorem Box3.new (W : World) (r h : Int) (x : Value) (T : TypeId) : Box3 (W.alloc (.cells #[.int .i64 r, .int .i64 h, x] T)) W.heap.size r h x := ⟨by simp, cell_of (heap_alloc_new W _) rfl, cell_of (heap_alloc_new W _) rfl, cell_of (heap_alloc_new W _) rfl⟩

set_option maxHeartbeats 1000000 in
theorem szS_any (v : Value) (r h : Int) (P : List Int) (hn : P.length ≤ maxLen) (w : World) (hv : StR w v r h P) :
    Calls Try.prog 4 #[v, .int .i64 1048576] w fun e w' => Below w.heap.size w w' ∧ (e = .returned (.int .i64 (-1)) ∨ ∃ q : Nat, e = .returned (.int .i64 (q : Int)) ∧ P.length ≤ 1048576) := by
  obtain ⟨v0, rfl, hv⟩ := hv
  have HB := Lib.hid (below_one w (.cells #[.int .i64 r, .int .i64 h, v0] 24))
  obtain ⟨a, c, rfl, hc⟩ := hv
  have HZ := Lib.hid (szI_any a P.length c 1048576 hn (by decide) (w.alloc (.cells #[.int .i64 r, .int .i64 h, .slice a P.length c] 24)))
  clear hc
  generalize P.length = n at *
  go_enter Try.func4, Try.ntmps4
  go_wp2_with fail
  refine HZ.out.mono ?_
  rintro e w1 ⟨rfl, rfl⟩
  by_cases hx : n ≤ 1048576
  · rw [if_pos hx]
    obtain ⟨q, hq⟩ : ∃ q : Nat, 1048576 - n = q := ⟨_, rfl⟩
    rw [hq]
    go_wp2_with fail
    go_ret
    exact ⟨HB.out, .inr ⟨q, rfl, hx⟩⟩
  · rw [if_neg hx]
    go_wp2_with fail
    go_ret
    exact ⟨HB.out, .inl rfl⟩

/-- The result's box of a stowage has been written. -/
theorem res_sto {w : World} {R : Nat} {x y z : Value} (r h v : Value) (c0 : w.cell? ⟨R, 0, none⟩ = some x) (c1 : w.cell? ⟨R, 1, none⟩ = some y) (c2 : w.cell? ⟨R, 2, none⟩ = some z) :
    (((w.setCell ⟨R, 0, none⟩ r).setCell ⟨R, 1, none⟩ h).setCell ⟨R, 2, none⟩ v).cell? ⟨R, 0, none⟩ = some r ∧ (((w.setCell ⟨R, 0, none⟩ r).setCell ⟨R, 1, none⟩ h).setCell ⟨R, 2, none⟩ v).cell? ⟨R, 1, none⟩ = some h ∧ (((w.setCell ⟨R, 0, none⟩ r).setCell ⟨R, 1, none⟩ h).setCell ⟨R, 2, none⟩ v).cell? ⟨R, 2, none⟩ = some v := by
  refine ⟨?_, ?_, ?_⟩
  · rw [set_cell_at _ _ _ _ _ (by decide), set_cell_at _ _ _ _ _ (by decide)]
    exact World.cell?_setCell_same _ _ r c0
  · rw [set_cell_at _ _ _ _ _ (by decide)]
    exact World.cell?_setCell_same _ _ h (by rw [set_cell_at _ _ _ _ _ (by decide)]; exact c1)
  · exact World.cell?_setCell_same _ _ v (by rw [set_cell_at _ _ _ _ _ (by decide), set_cell_at _ _ _ _ _ (by decide)]; exact c2)

set_option maxRecDepth 100000 in
set_option maxHeartbeats 2000000 in
theorem toS_any (v : Value) (r h : Int) (P : List Int) (hn : P.length ≤ 1048576) (w : World) (hv : StR w v r h P) :
    Calls Try.prog 6 #[v] w (NewSt w r h P) := by
  obtain ⟨v0, rfl, hv⟩ := hv
  have H := Lib.hid hv
  obtain ⟨hk0, hk1, hk2, hs, hB0⟩ := three_alloc w (.cells #[.int .i64 r, .int .i64 h, v0] 24) (.cells #[.int .i64 0, .int .i64 0, .slice none 0 0] 28) (.cells #[.int .i64 r, .int .i64 h, .slice none 0 0] 28)
  clear hv
  go_enter Try.func6, Try.ntmps6
  go_wp2_with fail
  have B0 := Lib.hid hB0
  clear hB0 hk0
  generalize ((w.alloc (.cells #[.int .i64 r, .int .i64 h, v0] 24)).alloc (.cells #[.int .i64 0, .int .i64 0, .slice none 0 0] 28)).alloc (.cells #[.int .i64 r, .int .i64 h, .slice none 0 0] 28) = W at *
  refine (toI_any v0 P hn _ (H.out.below B0.out)).mono ?_
  rintro e w1 ⟨a, c, rfl, ho, hb⟩
  have j1 := (hb.block _ (show w.heap.size + 1 < W.heap.size by omega)).trans hk1
  have j2 := (hb.block _ (show w.heap.size + 1 + 1 < W.heap.size by omega)).trans hk2
  have c1 : w1.cell? ⟨w.heap.size + 1, 0, none⟩ = some (.int .i64 0) := cell_of j1 rfl
  have c1b : w1.cell? ⟨w.heap.size + 1, 1, none⟩ = some (.int .i64 0) := cell_of j1 rfl
  have c1c : w1.cell? ⟨w.heap.size + 1, 2, none⟩ = some (.slice none 0 0) := cell_of j1 rfl
  have c2 : w1.cell? ⟨w.heap.size + 1 + 1, 0, none⟩ = some (.int .i64 r) := cell_of j2 rfl
  have c2b : w1.cell? ⟨w.heap.size + 1 + 1, 1, none⟩ = some (.int .i64 h) := cell_of j2 rfl
  have c2c : w1.cell? ⟨w.heap.size + 1 + 1, 2, none⟩ = some (.slice none 0 0) := cell_of j2 rfl
  have f1 : ∀ i, w1.frozen? ⟨w.heap.size + 1, i, none⟩ = false := fun i => free_of j1
  have f2 : ∀ i, w1.frozen? ⟨w.heap.size + 1 + 1, i, none⟩ = false := fun i => free_of j2
  have B1 : Hid (Below w.heap.size w w1) := Lib.hid (B0.out.trans (hb.mono B0.out.size))
  have O1 := Lib.hid (lo_of_own ho (Nat.le_refl _))
  rw [hs] at O1
  obtain ⟨m, hm⟩ : ∃ m, P.length = m := ⟨_, rfl⟩
  have HM := Lib.hid hm
  rw [hm] at O1 ⊢
  clear hb ho j1 j2 hk1 hk2 hm
  go_wp2_with fail
  have e5 : (w1.setCell ⟨w.heap.size + 1 + 1, 2, none⟩ (.slice a m c)).cell? ⟨w.heap.size + 1, 0, none⟩ = some (.int .i64 0) := by rw [set_cell_ne _ _ _ _ _ _ (by omega)]; exact c1
  have e6 : (w1.setCell ⟨w.heap.size + 1 + 1, 2, none⟩ (.slice a m c)).cell? ⟨w.heap.size + 1, 1, none⟩ = some (.int .i64 0) := by rw [set_cell_ne _ _ _ _ _ _ (by omega)]; exact c1b
  have e6c : (w1.setCell ⟨w.heap.size + 1 + 1, 2, none⟩ (.slice a m c)).cell? ⟨w.heap.size + 1, 2, none⟩ = some (.slice none 0 0) := by rw [set_cell_ne _ _ _ _ _ _ (by omega)]; exact c1c
  obtain ⟨e7, e8, e9⟩ := res_sto (.int .i64 r) (.int .i64 h) (.slice a m c) e5 e6 e6c
  refine bodyPost_ret (v := .agg #[.int .i64 r, .int .i64 h, .slice a m c]) (by simp [results, Try.results6, go_sem, e7, e8, e9]) rfl ⟨a, c, by rw [HM.out], ?_, (((B1.out.setCell (p := ⟨w.heap.size + 1 + 1, 2, none⟩) (by simp; omega) _).setCell (p := ⟨w.heap.size + 1, 0, none⟩) (by simp) _).setCell (p := ⟨w.heap.size + 1, 1, none⟩) (by simp) _).setCell (p := ⟨w.heap.size + 1, 2, none⟩) (by simp) _⟩
  rw [HM.out]
  have S := (((span_set (w := w1) (lo := w.heap.size) (hi := w.heap.size + 3) (b := w.heap.size + 1 + 1) (i := 2) (by omega) (by omega) (.slice a m c)).trans (span_set (b := w.heap.size + 1) (i := 0) (by omega) (by omega) (.int .i64 r))).trans (span_set (b := w.heap.size + 1) (i := 1) (by omega) (by omega) (.int .i64 h))).trans (span_set (b := w.heap.size + 1) (i := 2) (by omega) (by omega) (.slice a m c))
  obtain ⟨q1, q2, q3⟩ := O1.out.span S (.inr (Nat.le_refl _))
  have hsz : ((((w1.setCell ⟨w.heap.size + 1 + 1, 2, none⟩ (.slice a m c)).setCell ⟨w.heap.size + 1, 0, none⟩ (.int .i64 r)).setCell ⟨w.heap.size + 1, 1, none⟩ (.int .i64 h)).setCell ⟨w.heap.size + 1, 2, none⟩ (.slice a m c)).heap.size = w1.heap.size := by simp
  refine ⟨Nat.le_refl _, own_base q2 fun j hj => ?_, fun b hb => by have := q3 b hb; omega⟩
  have := row_base q2 j hj
  omega

set_option maxRecDepth 100000 in
set_option maxHeartbeats 1000000 in
theorem eqS_any (v1 v2 : Value) (r h : Int) (P : List Int) (hn : P.length ≤ 1048576) (w : World) (h1 : StR w v1 r h P) (h2 : StR w v2 r h P) :
    Calls Try.prog 9 #[v1, v2] w fun e w' => e = .returned (.bool true) ∧ Below w.heap.size w w' := by
  obtain ⟨a1, rfl, h1⟩ := h1
  obtain ⟨b1, rfl, h2⟩ := h2
  have HB : Hid (Below w.heap.size w ((w.alloc (.cells #[.int .i64 r, .int .i64 h, a1] 28)).alloc (.cells #[.int .i64 r, .int .i64 h, b1] 28))) := Lib.hid (((Below.refl _ _).alloc (Nat.le_refl _) _).alloc (by simp) _)
  have HZ := Lib.hid (eqI_any a1 b1 P hn _ (h1.below HB.out) (h2.below HB.out))
  have hq : (h != h) = false := by simp
  have hr : (r != r) = false := by simp
  clear h1 h2
  go_enter Try.func9, Try.ntmps9
  go_wp2_with fail
  refine HZ.out.mono ?_
  rintro e w1 ⟨rfl, q, rfl⟩
  have B1 := Lib.hid (below_drewN HB.out q)
  go_wp2_with fail
  go_ret
  exact ⟨rfl, B1.out⟩

set_option maxRecDepth 100000 in
set_option maxHeartbeats 1000000 in
theorem markS_any (v : Value) (r h : Int) (P : List Int) (k0 : Int) (B hi : Nat) (hn : P.length ≤ 1048576) (hk0 : 0 ≤ k0) (hk1 : k0 ≤ 1000000) (w : World) (hv : LO w B hi v P) :
    Calls Try.prog 10 #[.agg #[.int .i64 r, .int .i64 h, v], .int .i64 k0] w fun e w' => e = .returned (.int .i64 (k0 + (P.length : Int))) ∧ Span B hi w w' := by
  have B0 := below_one w (.cells #[.int .i64 r, .int .i64 h, v] 28)
  have HZ := Lib.hid (markL_wide v P k0 B hi hn hk0 (by omega) _ (hv.below B0))
  have HS : Hid (Span B hi w (w.alloc (.cells #[.int .i64 r, .int .i64 h, v] 28))) := Lib.hid (Span.of_below B0)
  clear hv B0
  go_enter Try.func10, Try.ntmps10
  go_wp2_with fail
  refine HZ.out.mono ?_
  rintro e w1 ⟨rfl, ho, hs⟩
  have S1 := Lib.hid (HS.out.trans hs)
  clear ho hs
  go_wp2_with fail
  go_ret
  exact ⟨rfl, S1.out⟩

/-- What stays while the last question is asked. -/
def KeepZ (w : World) (A X : Nat) (r h : Int) (v0 s0 : Value) (P : List Int) (W : World) : Prop := Below w.heap.size w W ∧ IL w v0 P ∧ IL w s0 P ∧ Box3 W A r h v0 ∧ Box3 W X r h s0
section
variable {w W W' : World} {A X : Nat} {r h : Int} {v0 s0 : Value} {P : List Int}
theorem KeepZ.start (h1 : IL w v0 P) (h2 : IL w s0 P) (h3 : Box3 w A r h v0) (h4 : Box3 w X r h s0) : KeepZ w A X r h v0 s0 P w := ⟨Below.refl _ _, h1, h2, h3, h4⟩
theorem KeepZ.below (h1 : KeepZ w A X r h v0 s0 P W) (hb : Below W.heap.size W W') : KeepZ w A X r h v0 s0 P W' :=
  ⟨h1.1.trans (hb.mono h1.1.size), h1.2.1, h1.2.2.1, h1.2.2.2.1.below hb, h1.2.2.2.2.below hb⟩
theorem KeepZ.drew (h1 : KeepZ w A X r h v0 s0 P W) : KeepZ w A X r h v0 s0 P W.drew := h1.below ⟨rfl, rfl, rfl, Nat.le_refl _, fun _ _ => rfl⟩
theorem KeepZ.cells (h1 : KeepZ w A X r h v0 s0 P W) : W.cell? ⟨A, 0, none⟩ = some (.int .i64 r) ∧ W.cell? ⟨A, 1, none⟩ = some (.int .i64 h) ∧ W.cell? ⟨A, 2, none⟩ = some v0 ∧ W.cell? ⟨X, 0, none⟩ = some (.int .i64 r) ∧ W.cell? ⟨X, 1, none⟩ = some (.int .i64 h) ∧ W.cell? ⟨X, 2, none⟩ = some s0 := ⟨h1.2.2.2.1.2.1, h1.2.2.2.1.2.2.1, h1.2.2.2.1.2.2.2, h1.2.2.2.2.2.1, h1.2.2.2.2.2.2.1, h1.2.2.2.2.2.2.2⟩
theorem KeepZ.to (hn : P.length ≤ 1048576) (h1 : KeepZ w A X r h v0 s0 P W) :
    Calls Try.prog 6 #[.agg #[.int .i64 r, .int .i64 h, v0]] W fun e w' => ∃ u, e = .returned u ∧ StR w' u r h P ∧ w'.cell? ⟨A, 0, none⟩ = some (.int .i64 r) ∧ w'.cell? ⟨A, 1, none⟩ = some (.int .i64 h) ∧ w'.cell? ⟨A, 2, none⟩ = some v0 ∧ w'.cell? ⟨X, 0, none⟩ = some (.int .i64 r) ∧ w'.cell? ⟨X, 1, none⟩ = some (.int .i64 h) ∧ w'.cell? ⟨X, 2, none⟩ = some s0 ∧ KeepZ w A X r h v0 s0 P w' := by
  refine (toS_any _ r h P hn W ⟨_, rfl, h1.2.1.below h1.1⟩).mono ?_
  rintro e w' ⟨a, c, rfl, ho, hb⟩
  have hk := h1.below hb
  obtain ⟨q0, q1, q2, q3, q4, q5⟩ := hk.cells
  exact ⟨_, rfl, ⟨_, rfl, ho.read⟩, q0, q1, q2, q3, q4, q5, hk⟩
theorem KeepZ.eq (hn : P.length ≤ 1048576) {u : Value} (h1 : KeepZ w A X r h v0 s0 P W) (hu : StR W u r h P) :
    Calls Try.prog 9 #[.agg #[.int .i64 r, .int .i64 h, s0], u] W fun e w' => e = .returned (.bool true) ∧ w'.cell? ⟨A, 0, none⟩ = some (.int .i64 r) ∧ w'.cell? ⟨A, 1, none⟩ = some (.int .i64 h) ∧ w'.cell? ⟨A, 2, none⟩ = some v0 ∧ w'.cell? ⟨X, 0, none⟩ = some (.int .i64 r) ∧ w'.cell? ⟨X, 1, none⟩ = some (.int .i64 h) ∧ w'.cell? ⟨X, 2, none⟩ = some s0 ∧ KeepZ w A X r h v0 s0 P w' := by
  refine (eqS_any _ _ r h P hn W ⟨_, rfl, h1.2.2.1.below h1.1⟩ hu).mono ?_
  rintro e w' ⟨rfl, hb⟩
  have hk := h1.below hb
  obtain ⟨q0, q1, q2, q3, q4, q5⟩ := hk.cells
  exact ⟨rfl, q0, q1, q2, q3, q4, q5, hk⟩
end

section
open Go.Joins Go.Deep Go.ChangeShapes Go.WideShapes Go.ChangeAt
variable {H : Type} {enc : TypeId × Value → H} {P : Program} {w : World} {base : Nat} {spare : Nat → Bool} {held : Bool}
/-- A struct of three one-cell fields, by value: its three values, and what each reads as. -/
theorem fields3 {r : Reach} {b0 : Nat} {t : TypeId} {f0 f1 f2 : Field} {v : Value} {d : DataW H} {p : List MemPlace} (hs : P.underlying t = some (.struct #[f0, f1, f2])) (hone : oneCellFields P #[f0, f1, f2] = true) (hC : P.cellsOf t = 3)
    (hv : Value.okWide P w r b0 t v) (h : DataW.Trod enc P w base spare held t v d p) :
    ∃ (v0 v1 v2 : Value) (y0 y1 y2 : DataW H × List MemPlace) (n : Nat), v = .agg #[v0, v1, v2] ∧ p = y0.2 ++ (y1.2 ++ y2.2) ∧
      DataW.trod enc P w base spare held n f0.type [v0] = some y0 ∧ DataW.trod enc P w base spare held n f1.type [v1] = some y1 ∧ DataW.trod enc P w base spare held n f2.type [v2] = some y2 := by
  obtain ⟨cs, rfl, hsz⟩ := okWide_struct hs hv
  obtain ⟨l⟩ := cs
  have hl : l.length = 3 := hsz.trans hC
  obtain ⟨fuel, hf⟩ := h
  obtain ⟨xs, n, _, he, _, hlen, hg⟩ := DataW.trod_struct hs hf
  have hx : xs.length = 3 := hlen
  have k0 := hone_of hone 0 f0 rfl
  have k1 := hone_of hone 1 f1 rfl
  have k2 := hone_of hone 2 f2 rfl
  match l, hl, xs, hx with
  | [c0, c1, c2], _, [y0, y1, y2], _ =>
    refine ⟨c0, c1, c2, y0, y1, y2, n, rfl, ?_, by simpa [Value.cells, k0] using hg 0 f0 rfl, by simpa [Value.cells, k1] using hg 1 f1 rfl, by simpa [Value.cells, k2] using hg 2 f2 rfl⟩
    simp only [Prod.mk.injEq] at he
    simpa using he.2
end
open Go.Joins Go.Deep Go.ChangeShapes Go.WideShapes Go.ChangeAt in
/-- A list of ints that is read off a cell. -/
theorem open_il1 {H : Type} {enc : TypeId × Value → H} {W : World} {v : Value} {fuel : Nat} {y : DataW H × List MemPlace} (hf : DataW.trod enc Try.prog W 0 (fun _ => true) true fuel 22 [v] = some y) (hlt : ∀ x ∈ y.2, x.block < W.heap.size) :
    ∃ O : List Int, O.length ≤ maxLen ∧ IL W v O := by
  obtain ⟨d, p⟩ := y
  have c3 : Try.prog.cellsOf 3 = 1 := by kernel_rfl
  rcases open_ints Try.underlying22 Try.underlying3 c3 hf with ⟨hcs, hx⟩ | ⟨a, len, cap, zs, hcs, _, hl, hm, hz, hx, hcell, _⟩
  · simp at hcs
    subst hcs
    exact ⟨[], Nat.zero_le _, IL.nil _ _ _⟩
  · simp at hcs
    subst hcs
    simp only [if_true] at hz
    simp only [Prod.mk.injEq] at hx
    obtain ⟨-, hp⟩ := hx
    have hzl : (zs.take len).length = len := by simp; omega
    refine ⟨zs.take len, by omega, some a, cap, by rw [hzl], fun h0 => ?_⟩
    rw [hzl] at h0
    obtain ⟨b, off, spot⟩ := a
    have hspot : spot = none := by simpa [Addr.add] using World.cell?_spot (hcell 0 (by omega))
    subst hspot
    have hbW : b < W.heap.size := hlt (.cell b off) (by simp only [hp]; exact MemPlace.mem_row.2 ⟨0, by omega, by simp⟩)
    refine ⟨b, off, rfl, hbW, fun j x hx => ?_⟩
    have hj := lt_of_get hx
    rw [hzl] at hj
    rw [List.getElem?_take, if_pos hj] at hx
    rw [← add_plain, hcell j (by omega)]
    simp [List.getD, hx]
set_option maxRecDepth 100000 in
open Go.Joins Go.Deep Go.ChangeShapes Go.WideShapes Go.ChangeAt in
/-- The law's stowage. -/
theorem open_sto {H : Type} {enc : TypeId × Value → H} {W : World} {r0 : Reach} {b0 : Nat} {v : Value} {d : DataW H} {p : List MemPlace} (hv : Value.okWide Try.prog W r0 b0 24 v) (h : DataW.Trod enc Try.prog W 0 (fun _ => true) true 24 v d p) (hlt : ∀ x ∈ p, x.block < W.heap.size) :
    ∃ (r hh : Int) (P : List Int), P.length ≤ maxLen ∧ StR W v r hh P := by
  obtain ⟨v0, v1, v2, y0, y1, y2, k, rfl, rfl, t0, t1, t2⟩ := fields3 Try.underlying24 (by kernel_rfl) (by kernel_rfl) hv h
  obtain ⟨n0, e0, _, _⟩ := DataW.trod_int Try.underlying3 t0
  obtain ⟨n1, e1, _, _⟩ := DataW.trod_int Try.underlying3 t1
  obtain ⟨O, h1, h2⟩ := open_il1 t2 (fun x hx => hlt x (List.mem_append_right _ (List.mem_append_right _ hx)))
  simp only [List.cons.injEq, and_true] at e0 e1
  subst e0 e1
  exact ⟨n0, n1, O, h1, v2, rfl, h2⟩
end

section
def goodZ (r h : Int) (P : List Int) : Bool := decide (1 ≤ r ∧ r ≤ 5 ∧ 1 ≤ h ∧ h ≤ 4 ∧ P.length ≤ 7 ∧ (P.length : Int) ≤ r * h ∧ ∀ x ∈ P, 1 ≤ x ∧ x ≤ 9)
theorem goodZ_iff {r h : Int} {P : List Int} : goodZ r h P = true ↔ 1 ≤ r ∧ r ≤ 5 ∧ 1 ≤ h ∧ h ≤ 4 ∧ P.length ≤ 7 ∧ (P.length : Int) ≤ r * h ∧ ∀ x ∈ P, 1 ≤ x ∧ x ≤ 9 := by simp [goodZ]
theorem goodZ_not {r h : Int} {P : List Int} (g : ¬ (1 ≤ r ∧ r ≤ 5 ∧ 1 ≤ h ∧ h ≤ 4 ∧ P.length ≤ 7 ∧ (P.length : Int) ≤ r * h ∧ ∀ x ∈ P, 1 ≤ x ∧ x ≤ 9)) : goodZ r h P = false := by
  unfold goodZ; exact decide_eq_false g
theorem goodZ_at {r h : Int} {P : List Int} {k : Nat} {x : Int} (hx : P[k]? = some x) (hn : ¬ (1 ≤ x ∧ x ≤ 9)) : goodZ r h P = false :=
  goodZ_not fun g => hn (g.2.2.2.2.2.2 x (List.mem_of_getElem? hx))

/-- The containers of a row, of the first k of a plan. -/
def rowZ (O : List Int) (k j : Nat) : List Int := ((List.range k).filter fun i => (O.getD i 0).toNat == j).map fun (i : Nat) => (i : Int) + 1
theorem rowZ_zero (O : List Int) (j : Nat) : rowZ O 0 j = [] := rfl
theorem rowZ_yes {O : List Int} {k j : Nat} (h : (O.getD k 0).toNat = j) : rowZ O (k + 1) j = rowZ O k j ++ [(k : Int) + 1] := by
  have h' : (O[k]?.getD 0).toNat = j := by simpa [List.getD] using h
  simp [rowZ, List.range_succ, List.filter_append, h']
theorem rowZ_no {O : List Int} {k j : Nat} (h : (O.getD k 0).toNat ≠ j) : rowZ O (k + 1) j = rowZ O k j := by
  have h' : ¬ (O[k]?.getD 0).toNat = j := by simpa [List.getD] using h
  simp [rowZ, List.range_succ, List.filter_append, h']
theorem rowZ_mono (O : List Int) (j : Nat) : ∀ {k m : Nat}, k ≤ m → (rowZ O k j).length ≤ (rowZ O m j).length := by
  intro k m h
  induction m with
  | zero => obtain rfl : k = 0 := by omega
            exact Nat.le_refl _
  | succ m ih =>
    by_cases e : k = m + 1
    · subst e; exact Nat.le_refl _
    · refine Nat.le_trans (ih (by omega)) ?_
      by_cases q : (O.getD m 0).toNat = j
      · rw [rowZ_yes q]; simp
      · rw [rowZ_no q]; exact Nat.le_refl _
theorem rowZ_len (O : List Int) (j : Nat) : ∀ k, (rowZ O k j).length ≤ k
  | 0 => Nat.le_refl _
  | k + 1 => by
    have := rowZ_len O j k
    by_cases q : (O.getD k 0).toNat = j
    · rw [rowZ_yes q]; simp; omega
    · rw [rowZ_no q]; omega
theorem rowZ_mem {O : List Int} {k j : Nat} {x : Int} : x ∈ rowZ O k j ↔ ∃ i : Nat, i < k ∧ (O.getD i 0).toNat = j ∧ x = (i : Int) + 1 := by
  simp only [rowZ, List.mem_map, List.mem_filter, List.mem_range, beq_iff_eq]
  constructor
  · rintro ⟨i, ⟨h1, h2⟩, rfl⟩; exact ⟨i, h1, h2, rfl⟩
  · rintro ⟨i, h1, h2, rfl⟩; exact ⟨i, ⟨h1, h2⟩, rfl⟩
theorem rowZ_asc (O : List Int) (j : Nat) : ∀ k, (rowZ O k j).Pairwise (· < ·)
  | 0 => List.Pairwise.nil
  | k + 1 => by
    by_cases q : (O.getD k 0).toNat = j
    · rw [rowZ_yes q, List.pairwise_append]
      refine ⟨rowZ_asc O j k, List.pairwise_singleton _ _, fun a ha b hb => ?_⟩
      obtain ⟨i, hi, -, rfl⟩ := rowZ_mem.1 ha
      simp only [List.mem_singleton] at hb
      subst hb; omega
    · rw [rowZ_no q]; exact rowZ_asc O j k

/-- The rows of the first k of a plan. -/
def bayZ (n : Nat) (O : List Int) : Nat → List (List Int)
  | 0 => List.replicate n []
  | k + 1 => putY (bayZ n O k) (O.getD k 0).toNat ((k : Int) + 1)
theorem bayZ_len (n : Nat) (O : List Int) : ∀ k, (bayZ n O k).length = n
  | 0 => by simp [bayZ]
  | k + 1 => by rw [bayZ, putY_len, bayZ_len n O k]
theorem bayZ_row {n : Nat} {O : List Int} {j : Nat} (hj : j < n) : ∀ k, (bayZ n O k)[j]? = some (rowZ O k j)
  | 0 => by simp [bayZ, rowZ, hj]
  | k + 1 => by
    have ih := bayZ_row (O := O) hj k
    rw [bayZ]
    by_cases q : (O.getD k 0).toNat = j
    · rw [rowZ_yes q, putY_of (q ▸ ih), q, List.getElem?_set_self (by rw [bayZ_len]; exact hj)]
    · rw [rowZ_no q]
      unfold putY
      rw [List.getElem?_set_ne q]
      exact ih
theorem bayZ_mem {n : Nat} {O : List Int} {k : Nat} {l : List Int} (h : l ∈ bayZ n O k) : ∃ j, j < n ∧ l = rowZ O k j := by
  obtain ⟨j, hj⟩ := List.getElem?_of_mem h
  have hl := lt_of_get hj
  rw [bayZ_len] at hl
  rw [bayZ_row hl] at hj
  exact ⟨j, hl, by injection hj with hj; exact hj.symm⟩
theorem bayZ_seen (n : Nat) (O : List Int) (k : Nat) (hk : k ≤ 99) : Seen (bayZ n O k).flatten := by
  constructor
  · intro x hx
    obtain ⟨l, hl, hx⟩ := List.mem_flatten.1 hx
    obtain ⟨j, -, rfl⟩ := bayZ_mem hl
    obtain ⟨i, hi, -, rfl⟩ := rowZ_mem.1 hx
    omega
  · rw [List.nodup_iff_pairwise_ne, List.pairwise_flatten]
    constructor
    · intro l hl
      obtain ⟨j, -, rfl⟩ := bayZ_mem hl
      exact (rowZ_asc O j k).imp fun h => by omega
    · rw [List.pairwise_iff_getElem]
      intro i j hi hj hij x hx y hy e
      subst e
      rw [bayZ_len] at hi hj
      have e1 : (bayZ n O k)[i]'(by rw [bayZ_len]; exact hi) = rowZ O k i := by
        have := bayZ_row (n := n) (O := O) hi k
        rw [List.getElem?_eq_getElem (by rw [bayZ_len]; exact hi)] at this
        injection this
      have e2 : (bayZ n O k)[j]'(by rw [bayZ_len]; exact hj) = rowZ O k j := by
        have := bayZ_row (n := n) (O := O) hj k
        rw [List.getElem?_eq_getElem (by rw [bayZ_len]; exact hj)] at this
        injection this
      rw [e1] at hx
      rw [e2] at hy
      obtain ⟨a, ha, hb, hc⟩ := rowZ_mem.1 hx
      obtain ⟨a', ha', hb', hc'⟩ := rowZ_mem.1 hy
      obtain rfl : a = a' := by omega
      omega
/-- Rows of a plan that are low enough make a valid bay. -/
theorem bayZ_good {r h : Int} {O : List Int} {k : Nat} (h1 : 1 ≤ r ∧ r ≤ 5) (h2 : 1 ≤ h ∧ h ≤ 4) (hk : k ≤ 99) : goodB h (bayZ r.toNat O k) = decide (∀ j, j < r.toNat → (rowZ O k j).length ≤ h.toNat) := by
  refine Bool.eq_iff_iff.2 ⟨fun g => decide_eq_true fun j hj => ?_, fun g => goodB_iff.2 ⟨h2, goodH_iff.2 ⟨?_, ?_, fun l hl => ?_, bayZ_seen _ _ _ hk⟩⟩⟩
  · exact (goodH_iff.1 (goodB_iff.1 g).2).2.2.1 _ (List.mem_of_getElem? (bayZ_row hj k))
  · rw [bayZ_len]; omega
  · rw [bayZ_len]; omega
  · obtain ⟨j, hj, rfl⟩ := bayZ_mem hl
    exact of_decide_eq_true g j hj

/-- A possible plan. -/
def planZ (r h : Int) (P O : List Int) : Bool := decide ((∀ x ∈ O, 0 ≤ x ∧ x < r) ∧ O.length = P.length ∧ ∀ j, j < r.toNat → (rowZ O O.length j).length ≤ h.toNat)
theorem planZ_iff {r h : Int} {P O : List Int} : planZ r h P O = true ↔ (∀ x ∈ O, 0 ≤ x ∧ x < r) ∧ O.length = P.length ∧ ∀ j, j < r.toNat → (rowZ O O.length j).length ≤ h.toNat := by simp [planZ]
theorem planZ_not {r h : Int} {P O : List Int} (g : ¬ ((∀ x ∈ O, 0 ≤ x ∧ x < r) ∧ O.length = P.length ∧ ∀ j, j < r.toNat → (rowZ O O.length j).length ≤ h.toNat)) : planZ r h P O = false := by
  unfold planZ; exact decide_eq_false g
theorem planZ_range {r h : Int} {P O : List Int} {k : Nat} {x : Int} (hx : O[k]? = some x) (hn : ¬ (0 ≤ x ∧ x < r)) : planZ r h P O = false :=
  planZ_not fun g => hn (g.1 x (List.mem_of_getElem? hx))
theorem planZ_len {r h : Int} {P O : List Int} (hn : O.length ≠ P.length) : planZ r h P O = false := planZ_not fun g => hn g.2.1
theorem planZ_full {r h : Int} {P O : List Int} {k : Nat} {x : Int} (hx : O[k]? = some x) (hr : 0 ≤ x ∧ x < r) (hf : (rowZ O k x.toNat).length = h.toNat) : planZ r h P O = false :=
  planZ_not fun g => by
    have e : (O.getD k 0).toNat = x.toNat := by simp [List.getD, hx]
    have h1 := rowZ_yes e
    have h2 := rowZ_mono O x.toNat (k := k + 1) (m := O.length) (lt_of_get hx)
    have h3 := g.2.2 x.toNat (by omega)
    rw [h1, List.length_append, List.length_singleton] at h2
    omega
/-- A valid stowage and a possible plan. -/
def okZ (r h : Int) (P O : List Int) : Bool := goodZ r h P && planZ r h P O
theorem okZ_iff {r h : Int} {P O : List Int} : okZ r h P O = true ↔ goodZ r h P = true ∧ planZ r h P O = true := by simp [okZ]
theorem okZ_l {r h : Int} {P O : List Int} (g : goodZ r h P = false) : okZ r h P O = false := by simp [okZ, g]
theorem okZ_r {r h : Int} {P O : List Int} (g : planZ r h P O = false) : okZ r h P O = false := by simp [okZ, g]
/-- What a possible plan is. -/
theorem okZ_get {r h : Int} {P O : List Int} (g : okZ r h P O = true) : (1 ≤ r ∧ r ≤ 5) ∧ (1 ≤ h ∧ h ≤ 4) ∧ P.length ≤ 7 ∧ O.length = P.length ∧ (∀ x ∈ P, 1 ≤ x ∧ x ≤ 9) ∧ (∀ x ∈ O, 0 ≤ x ∧ x < r) ∧ (∀ j, j < r.toNat → (rowZ O O.length j).length ≤ h.toNat) := by
  obtain ⟨a, b⟩ := okZ_iff.1 g
  obtain ⟨a1, a2, a3, a4, a5, a6, a7⟩ := goodZ_iff.1 a
  obtain ⟨b1, b2, b3⟩ := planZ_iff.1 b
  exact ⟨⟨a1, a2⟩, ⟨a3, a4⟩, a5, b2, a7, b1, b3⟩
/-- PlanBay's answer. -/
def pbH (r h : Int) (P O : List Int) : Int := if okZ r h P O = true then h else 0
def pbR (r h : Int) (P O : List Int) : List (List Int) := if okZ r h P O = true then bayZ r.toNat O O.length else []
theorem pb_no {r h : Int} {P O : List Int} (g : okZ r h P O = false) : pbH r h P O = 0 ∧ pbR r h P O = [] := by simp [pbH, pbR, g]
theorem pb_yes {r h : Int} {P O : List Int} (g : okZ r h P O = true) : pbH r h P O = h ∧ pbR r h P O = bayZ r.toNat O O.length := by simp [pbH, pbR, g]
theorem bayZ_small {r : Int} {O : List Int} {k : Nat} (h1 : r ≤ 5) (hk : k ≤ 7) : (bayZ r.toNat O k).length ≤ 5 ∧ tot (bayZ r.toNat O k) ≤ 35 := by
  have hl : (bayZ r.toNat O k).length ≤ 5 := by rw [bayZ_len]; omega
  have := tot_bound 7 (bayZ r.toNat O k) fun l hl => by
    obtain ⟨j, hj, rfl⟩ := bayZ_mem hl
    exact Nat.le_trans (rowZ_len O j k) hk
  exact ⟨hl, by omega⟩
theorem pb_small (r h : Int) (P O : List Int) : (pbR r h P O).length ≤ 1048576 ∧ tot (pbR r h P O) ≤ 1048576 := by
  by_cases g : okZ r h P O = true
  · rw [(pb_yes g).2]
    obtain ⟨h1, h2, h3, h4, h5, h6, h7⟩ := okZ_get g
    have := bayZ_small (O := O) (k := O.length) h1.2 (by omega)
    omega
  · rw [(pb_no (by simpa using g)).2]
    simp [tot]
end

section
/-- The numbers, from 1, of the chosen places among the first n. -/
def numsW (p : Nat → Bool) (n : Nat) : List Int := ((List.range n).filter p).map fun (i : Nat) => (i : Int) + 1
theorem numsW_zero (p : Nat → Bool) : numsW p 0 = [] := rfl
theorem numsW_yes {p : Nat → Bool} {n : Nat} (h : p n = true) : numsW p (n + 1) = numsW p n ++ [(n : Int) + 1] := by simp [numsW, List.range_succ, List.filter_append, h]
theorem numsW_no {p : Nat → Bool} {n : Nat} (h : p n = false) : numsW p (n + 1) = numsW p n := by simp [numsW, List.range_succ, List.filter_append, h]
theorem numsW_len (p : Nat → Bool) : ∀ n, (numsW p n).length ≤ n
  | 0 => Nat.le_refl _
  | n + 1 => by
    have := numsW_len p n
    cases h : p n with
    | true => rw [numsW_yes h, List.length_append, List.length_singleton]; omega
    | false => rw [numsW_no h]; omega
theorem numsW_mem {p : Nat → Bool} {n : Nat} {x : Int} : x ∈ numsW p n ↔ ∃ i : Nat, i < n ∧ p i = true ∧ x = (i : Int) + 1 := by
  simp only [numsW, List.mem_map, List.mem_filter, List.mem_range]
  constructor
  · rintro ⟨i, ⟨h1, h2⟩, rfl⟩; exact ⟨i, h1, h2, rfl⟩
  · rintro ⟨i, h1, h2, rfl⟩; exact ⟨i, ⟨h1, h2⟩, rfl⟩
theorem numsW_asc (p : Nat → Bool) : ∀ n, (numsW p n).Pairwise (· < ·)
  | 0 => List.Pairwise.nil
  | n + 1 => by
    cases h : p n with
    | true =>
      rw [numsW_yes h, List.pairwise_append]
      refine ⟨numsW_asc p n, List.pairwise_singleton _ _, fun a ha b hb => ?_⟩
      obtain ⟨i, hi, -, rfl⟩ := numsW_mem.1 ha
      simp only [List.mem_singleton] at hb
      subst hb; omega
    | false => rw [numsW_no h]; exact numsW_asc p n
theorem numsW_ext {p q : Nat → Bool} {n : Nat} (h : ∀ i, i < n → p i = q i) : numsW p n = numsW q n := by
  unfold numsW
  rw [List.filter_congr fun i hi => h i (List.mem_range.1 hi)]
/-- All are chosen exactly if as many numbers are. -/
theorem numsW_all (p : Nat → Bool) : ∀ n, (numsW p n).length = n ↔ ∀ i, i < n → p i = true
  | 0 => by simp [numsW]
  | n + 1 => by
    have ih := numsW_all p n
    have hl := numsW_len p n
    cases h : p n with
    | true =>
      rw [numsW_yes h, List.length_append, List.length_singleton]
      constructor
      · intro e i hi
        by_cases q : i = n
        · rw [q, h]
        · exact ih.1 (by omega) i (by omega)
      · intro e
        rw [ih.2 fun i hi => e i (by omega)]
    | false =>
      rw [numsW_no h]
      constructor
      · intro e; omega
      · intro e; have := e n (by omega); rw [h] at this; cases this

theorem asc_ext : ∀ {A B : List Int}, A.Pairwise (· < ·) → B.Pairwise (· < ·) → (∀ x, x ∈ A ↔ x ∈ B) → A = B
  | [], [], _, _, _ => rfl
  | [], b :: B, _, _, h => by have := (h b).2 (List.mem_cons_self ..); simp at this
  | a :: A, [], _, _, h => by have := (h a).1 (List.mem_cons_self ..); simp at this
  | a :: A, b :: B, hA, hB, h => by
    obtain ⟨hA1, hA2⟩ := List.pairwise_cons.1 hA
    obtain ⟨hB1, hB2⟩ := List.pairwise_cons.1 hB
    have e : a = b := by
      rcases List.mem_cons.1 ((h a).1 (List.mem_cons_self ..)) with e | e
      · exact e
      · rcases List.mem_cons.1 ((h b).2 (List.mem_cons_self ..)) with e2 | e2
        · exact e2.symm
        · have := hA1 b e2; have := hB1 a e; omega
    subst e
    rw [asc_ext hA2 hB2 fun x => ?_]
    constructor
    · intro hx
      rcases List.mem_cons.1 ((h x).1 (List.mem_cons_of_mem _ hx)) with e | e
      · have := hA1 x hx; omega
      · exact e
    · intro hx
      rcases List.mem_cons.1 ((h x).2 (List.mem_cons_of_mem _ hx)) with e | e
      · have := hB1 x hx; omega
      · exact e
theorem asc_len : ∀ {A : List Int} {lo hi : Int}, A.Pairwise (· < ·) → (∀ x ∈ A, lo ≤ x ∧ x ≤ hi) → lo ≤ hi + 1 → (A.length : Int) ≤ hi - lo + 1
  | [], lo, hi, _, _, h => by simp; omega
  | a :: A, lo, hi, hA, hx, h => by
    obtain ⟨hA1, hA2⟩ := List.pairwise_cons.1 hA
    have ha := hx a (List.mem_cons_self ..)
    have := asc_len (lo := a + 1) (hi := hi) hA2 (fun x hm => ⟨by have := hA1 x hm; omega, (hx x (List.mem_cons_of_mem _ hm)).2⟩) (by omega)
    rw [List.length_cons]
    omega
/-- A number put into an ascending list, unless it is there. -/
def insU (x : Int) (S : List Int) : List Int := if x ∈ S then S else insI x S
theorem insU_in {x : Int} {S : List Int} (h : x ∈ S) : insU x S = S := by simp [insU, h]
theorem insU_out {x : Int} {S : List Int} (h : ¬ x ∈ S) : insU x S = insI x S := by simp [insU, h]
theorem insU_mem {x y : Int} {S : List Int} : y ∈ insU x S ↔ y = x ∨ y ∈ S := by
  by_cases h : x ∈ S
  · rw [insU_in h]
    constructor
    · exact .inr
    · rintro (rfl | e)
      · exact h
      · exact e
  · rw [insU_out h, (insI_perm x S).mem_iff, List.mem_cons]
theorem insU_asc {x : Int} {S : List Int} (hS : S.Pairwise (· < ·)) : (insU x S).Pairwise (· < ·) := by
  by_cases h : x ∈ S
  · rw [insU_in h]; exact hS
  · rw [insU_out h]
    have h1 := insI_asc x S (hS.imp fun h => by omega)
    have h2 : (insI x S).Nodup := ((insI_perm x S).nodup_iff).2 (List.nodup_cons.2 ⟨h, hS.imp fun h => by omega⟩)
    have h3 := List.pairwise_and_iff.2 ⟨h1, h2⟩
    exact h3.imp fun ⟨a, b⟩ => by omega

/-- The port of a container. -/
def ptZ (P : List Int) (x : Int) : Int := P.getD (x - 1).toNat 0
theorem ptZ_at (P : List Int) (i : Nat) : ptZ P ((i : Int) + 1) = P.getD i 0 := by
  unfold ptZ
  rw [show ((i : Int) + 1 - 1).toNat = i by omega]
/-- As the reference collects the shifted ones. -/
def shM (P l : List Int) (k : Nat) (S : List Int) : Nat → List Int
  | 0 => S
  | m + 1 => if ptZ P (l.getD m 0) < ptZ P (l.getD k 0) then insU (l.getD k 0) (shM P l k S m) else shM P l k S m
def shK (P l S : List Int) : Nat → List Int
  | 0 => S
  | k + 1 => shM P l k (shK P l S k) k
def shI (P : List Int) (Y : List (List Int)) : Nat → List Int
  | 0 => []
  | i + 1 => shK P (Y.getD i []) (shI P Y i) (Y.getD i []).length
theorem shM_asc {P l : List Int} {k : Nat} {S : List Int} (hS : S.Pairwise (· < ·)) : ∀ m, (shM P l k S m).Pairwise (· < ·)
  | 0 => hS
  | m + 1 => by
    rw [shM]
    split
    · exact insU_asc (shM_asc hS m)
    · exact shM_asc hS m
theorem shK_asc {P l S : List Int} (hS : S.Pairwise (· < ·)) : ∀ k, (shK P l S k).Pairwise (· < ·)
  | 0 => hS
  | k + 1 => shM_asc (shK_asc hS k) k
theorem shI_asc (P : List Int) (Y : List (List Int)) : ∀ i, (shI P Y i).Pairwise (· < ·)
  | 0 => List.Pairwise.nil
  | i + 1 => shK_asc (shI_asc P Y i) _
theorem shM_mem {P l : List Int} {k : Nat} {S : List Int} {x : Int} : ∀ m, x ∈ shM P l k S m ↔ (x = l.getD k 0 ∧ ∃ q, q < m ∧ ptZ P (l.getD q 0) < ptZ P (l.getD k 0)) ∨ x ∈ S
  | 0 => by simp [shM]
  | m + 1 => by
    have ih := shM_mem (P := P) (l := l) (k := k) (S := S) (x := x) m
    rw [shM]
    split
    · rename_i hc
      rw [insU_mem, ih]
      constructor
      · rintro (rfl | ⟨e, q, hq, hc2⟩ | e)
        · exact .inl ⟨rfl, m, by omega, hc⟩
        · exact .inl ⟨e, q, by omega, hc2⟩
        · exact .inr e
      · rintro (⟨e, q, hq, hc2⟩ | e)
        · exact .inl e
        · exact .inr (.inr e)
    · rename_i hc
      rw [ih]
      constructor
      · rintro (⟨e, q, hq, hc2⟩ | e)
        · exact .inl ⟨e, q, by omega, hc2⟩
        · exact .inr e
      · rintro (⟨e, q, hq, hc2⟩ | e)
        · refine .inl ⟨e, q, ?_, hc2⟩
          rcases Nat.lt_or_ge q m with h | h
          · exact h
          · obtain rfl : q = m := by omega
            exact absurd hc2 hc
        · exact .inr e
theorem shK_mem {P l S : List Int} {x : Int} : ∀ k, x ∈ shK P l S k ↔ (∃ t, t < k ∧ x = l.getD t 0 ∧ ∃ q, q < t ∧ ptZ P (l.getD q 0) < ptZ P (l.getD t 0)) ∨ x ∈ S
  | 0 => by simp [shK]
  | k + 1 => by
    rw [shK, shM_mem, shK_mem k]
    constructor
    · rintro (⟨e, q, hq, hc⟩ | ⟨t, ht, e, q, hq, hc⟩ | e)
      · exact .inl ⟨k, by omega, e, q, hq, hc⟩
      · exact .inl ⟨t, by omega, e, q, hq, hc⟩
      · exact .inr e
    · rintro (⟨t, ht, e, q, hq, hc⟩ | e)
      · by_cases h : t = k
        · subst h; exact .inl ⟨e, q, hq, hc⟩
        · exact .inr (.inl ⟨t, by omega, e, q, hq, hc⟩)
      · exact .inr (.inr e)
theorem shI_mem {P : List Int} {Y : List (List Int)} {x : Int} : ∀ i, x ∈ shI P Y i ↔ ∃ j, j < i ∧ ∃ t, t < (Y.getD j []).length ∧ x = (Y.getD j []).getD t 0 ∧ ∃ q, q < t ∧ ptZ P ((Y.getD j []).getD q 0) < ptZ P ((Y.getD j []).getD t 0)
  | 0 => by simp [shI]
  | i + 1 => by
    rw [shI, shK_mem, shI_mem i]
    constructor
    · rintro (⟨t, ht, e, q, hq, hc⟩ | ⟨j, hj, h⟩)
      · exact ⟨i, by omega, t, ht, e, q, hq, hc⟩
      · exact ⟨j, by omega, h⟩
    · rintro ⟨j, hj, h⟩
      by_cases e : j = i
      · subst e; exact .inl h
      · exact .inr ⟨j, by omega, h⟩
/-- Whether a container is shifted: a smaller port lies below it. -/
def shB (P O : List Int) (i : Nat) : Bool := (List.range i).any fun m => ((O.getD m 0).toNat == (O.getD i 0).toNat) && decide (P.getD m 0 < P.getD i 0)
theorem shB_iff {P O : List Int} {i : Nat} : shB P O i = true ↔ ∃ m, m < i ∧ (O.getD m 0).toNat = (O.getD i 0).toNat ∧ P.getD m 0 < P.getD i 0 := by
  simp [shB, List.any_eq_true]
theorem getDI2 {l : List Int} {t : Nat} (h : t < l.length) : l[t]? = some (l.getD t 0) := by
  rw [List.getElem?_eq_getElem h, List.getD, List.getElem?_eq_getElem h]; rfl
/-- Places of a row, and the containers there. -/
theorem rowZ_at {O : List Int} {n j t : Nat} (ht : t < (rowZ O n j).length) : ∃ i : Nat, i < n ∧ (O.getD i 0).toNat = j ∧ (rowZ O n j).getD t 0 = (i : Int) + 1 := by
  have h := List.mem_of_getElem? (getDI2 ht)
  obtain ⟨i, h1, h2, h3⟩ := rowZ_mem.1 h
  exact ⟨i, h1, h2, h3⟩
theorem rowZ_find {O : List Int} {n j i : Nat} (hi : i < n) (h : (O.getD i 0).toNat = j) : ∃ t, t < (rowZ O n j).length ∧ (rowZ O n j).getD t 0 = (i : Int) + 1 := by
  obtain ⟨t, ht⟩ := List.getElem?_of_mem (rowZ_mem.2 ⟨i, hi, h, rfl⟩)
  exact ⟨t, lt_of_get ht, by simp [List.getD, ht]⟩
theorem rowZ_lt {O : List Int} {n j q t : Nat} (hq : q < (rowZ O n j).length) (ht : t < (rowZ O n j).length) : (rowZ O n j).getD q 0 < (rowZ O n j).getD t 0 ↔ q < t := by
  have hp := rowZ_asc O j n
  have e1 : (rowZ O n j).getD q 0 = (rowZ O n j)[q] := by simp [List.getD, hq]
  have e2 : (rowZ O n j).getD t 0 = (rowZ O n j)[t] := by simp [List.getD, ht]
  rw [e1, e2]
  constructor
  · intro h
    rcases Nat.lt_trichotomy q t with h1 | h1 | h1
    · exact h1
    · subst h1; omega
    · have := List.pairwise_iff_getElem.1 hp t q ht hq h1; omega
  · intro h; exact List.pairwise_iff_getElem.1 hp q t hq ht h
theorem bayZ_getD {n : Nat} {O : List Int} {j : Nat} (hj : j < n) (k : Nat) : (bayZ n O k).getD j [] = rowZ O k j := getD_of (bayZ_row hj k)
/-- What lies below a place of a row. -/
theorem row_below_iff {O : List Int} {n j t i : Nat} {R : Int → Prop} (ht : t < (rowZ O n j).length) (e : (rowZ O n j).getD t 0 = (i : Int) + 1) : (∃ q, q < t ∧ R ((rowZ O n j).getD q 0)) ↔ ∃ m : Nat, m < i ∧ (O.getD m 0).toNat = j ∧ R ((m : Int) + 1) := by
  have hin : i < n := by
    obtain ⟨i', h1, -, h3⟩ := rowZ_at ht
    omega
  constructor
  · rintro ⟨q, hq, hR⟩
    obtain ⟨m, h1, h2, h3⟩ := rowZ_at (show q < (rowZ O n j).length by omega)
    have := (rowZ_lt (show q < (rowZ O n j).length by omega) ht).2 hq
    rw [h3] at hR
    exact ⟨m, by omega, h2, hR⟩
  · rintro ⟨m, h1, h2, hR⟩
    obtain ⟨q, h3, h4⟩ := rowZ_find (show m < n by omega) h2
    refine ⟨q, (rowZ_lt h3 ht).1 (by omega), ?_⟩
    rw [h4]; exact hR
/-- The reference's collection is the list of the shifted ones. -/
theorem shI_eq {P O : List Int} {n r : Nat} (hr : ∀ i, i < n → (O.getD i 0).toNat < r) : shI P (bayZ r O n) r = numsW (shB P O) n := by
  refine asc_ext (shI_asc _ _ _) (numsW_asc _ _) fun x => ?_
  rw [shI_mem, numsW_mem]
  constructor
  · rintro ⟨j, hj, t, ht, rfl, h⟩
    rw [bayZ_getD hj] at ht h ⊢
    obtain ⟨i, h1, h2, h3⟩ := rowZ_at ht
    refine ⟨i, h1, shB_iff.2 ?_, h3⟩
    rw [h3] at h
    obtain ⟨m, m1, m2, m3⟩ := (row_below_iff (R := fun y => ptZ P y < ptZ P ((i : Int) + 1)) ht h3).1 h
    rw [ptZ_at, ptZ_at] at m3
    exact ⟨m, m1, by rw [m2, h2], m3⟩
  · rintro ⟨i, h1, h2, rfl⟩
    obtain ⟨m, m1, m2, m3⟩ := shB_iff.1 h2
    obtain ⟨t, ht, e⟩ := rowZ_find h1 (j := (O.getD i 0).toNat) rfl
    refine ⟨_, hr i h1, t, by rw [bayZ_getD (hr i h1)]; exact ht, by rw [bayZ_getD (hr i h1)]; exact e.symm, ?_⟩
    rw [bayZ_getD (hr i h1), e]
    exact (row_below_iff (R := fun y => ptZ P y < ptZ P ((i : Int) + 1)) ht e).2 ⟨m, m1, m2, by rw [ptZ_at, ptZ_at]; exact m3⟩
end

section
open Go.RowKit
/-- While the numbers are collected. -/
def NumS (w wr : World) (sv : Value) (S : List Int) : Prop := wr.ownsRow w.heap.size 3 1 sv S.length (intV S) ∧ Below w.heap.size w wr ∧ sv ≠ .slice none 0 0
theorem NumS.below {w wr w' : World} {sv : Value} {S : List Int} (h : NumS w wr sv S) (hb : Below wr.heap.size wr w') : NumS w w' sv S := ⟨row_below h.1 hb, h.2.1.trans (hb.mono h.2.1.size), h.2.2⟩
theorem numS_start (w : World) : NumS w (w.alloc (.cells #[] 3)) (.slice (some ⟨w.heap.size, 0, none⟩) 0 0) [] := ⟨own_empty w (.cells #[] 3) 3 rfl, below_one w _, by simp⟩
theorem NumS.done {w wr : World} {sv : Value} {S : List Int} (h : NumS w wr sv S) : NewI w S (.returned sv) wr := by
  obtain ⟨h1, h2, h3⟩ := h
  obtain ⟨a, c, rfl⟩ := own_form h1
  exact ⟨a, c, rfl, h1, h2⟩
theorem NumS.push {w wr w4 : World} {sv v' : Value} {S : List Int} {x : Int} {o : Obj} (h : NumS w wr sv S) (ho : w4.ownsRow w.heap.size 3 1 v' (S.length + 1) (intV S ++ [.int .i64 x])) (hg : (wr.alloc o).grownBy w4 sv.ownBlock) (hn : v' ≠ .slice none 0 0) : NumS w w4 v' (S ++ [x]) :=
  ⟨by rw [List.length_append, List.length_singleton]; simpa [intV] using ho, ((h.2.1.alloc h.2.1.size _)).grown hg (by have := h.2.1.size; simp; omega) (fun j e => row_base h.1 j e), hn⟩

set_option maxRecDepth 100000 in
set_option maxHeartbeats 4000000 in
theorem nums_any (F : Nat) (caps : Array Value) (hE : Enters Try.prog F) (v : Value) (l : List Int) (p : Nat → Bool) (hl : l.length ≤ 1048576) (w : World) (h : IL w v l)
    (hF : ∀ (i : Nat) (x : Int) (W : World), l[i]? = some x → Below w.heap.size w W → Calls Try.prog F (#[.int .i64 x] ++ caps) W fun e w' => e = .returned (.bool (p i)) ∧ Below W.heap.size W w') :
    Calls Try.prog 28 #[v, .func (.func F) #[] caps] w (NewI w (numsW p l.length)) := by
  obtain ⟨f3, hi3, hz0, hz1, hz2⟩ := info_is info3
  obtain ⟨n, hn⟩ : ∃ n, l.length = n := ⟨_, rfl⟩
  have HN := Lib.hid hn
  have HF := Lib.hid hF
  obtain ⟨a, c, rfl, hc⟩ := h
  have HC := Lib.hid hc
  rw [hn] at hl ⊢
  clear hc hn hF
  have R0 := Lib.hid (numS_start w)
  go_enter Try.func28, Try.ntmps28
  go_wp2_with fail
  go_loopw [5, 11] (fun s i wr => ∃ k : Nat, k ≤ n ∧ i = .int .i64 k ∧ Hid (NumS w wr s (numsW p k))) (fun _ i _ => n - (intOf i).toNat)
  case atStart => exact ⟨0, Nat.zero_le _, rfl, R0⟩
  case round =>
    obtain ⟨k, hk, rfl, HR⟩ := hrel
    by_cases hlt : k < n
    · obtain ⟨g, off, rfl, hg, hcc⟩ := HC.out (by have := HN.out; omega)
      obtain ⟨y, hy⟩ := get_at HN.out hlt
      have o1 : wr.cell? ⟨g, off + k, none⟩ = some (.int .i64 y) := (HR.out.2.1.cell (p := ⟨g, off + k, none⟩) hg).trans (hcc k y hy)
      have HE := Lib.hid (HF.out k y wr hy HR.out.2.1)
      have hbl := numsW_len p k
      clear hcc hy
      go_wp2_with fail
      rw [hE, Oper.upon_enter]
      refine HE.out.mono ?_
      rintro e w1 ⟨rfl, hb⟩
      have R1 := Lib.hid (HR.out.below hb)
      clear hb o1
      cases hp : p k with
      | true =>
        have HT := Lib.hid (numsW_yes hp)
        have hrow := R1.out.1
        have hz := R1.out.2.1.size
        generalize numsW p k = S at *
        clear hp
        go_wp2_with (at_builtin; refine wpList_append_own _ rfl _ _ 22 rfl w.heap.size 3 f3 (.int .i64 0) 1 8 Try.underlying22 hi3 hz0 hz1 hz2 rfl (by decide) _ _ _ rfl (hrow.alloc _) ⟨w1.heap.size, 0, none⟩ 1 1 [.int .i64 ((k : Int) + 1)] rfl rfl (cell_one_new _ _ _) (by simp [Value.oneCell']) (by unfold maxLen; omega) (by omega) (by simp; omega) ?_; intro v' w4 hown' hgrow hnil)
        have HN4 : Hid (NumS w w4 v' (numsW p (k + 1))) := Lib.hid (by rw [HT.out]; exact R1.out.push hown' hgrow (fun e => by have := (hnil.1 e).2; omega))
        clear hown' hgrow hnil hrow
        exact ⟨⟨k + 1, by omega, by go_num, HN4⟩, by simp [intOf]; omega⟩
      | false =>
        have HT := Lib.hid (numsW_no hp)
        clear hp
        go_wp2_with fail
        exact ⟨⟨k + 1, by omega, by go_num, Lib.hid (by rw [HT.out]; exact R1.out)⟩, by simp [intOf]; omega⟩
    · obtain rfl : k = n := by omega
      go_wp2_with fail
      go_ret
      exact HR.out.done
theorem all_beq (m n : Nat) : ((((m : Nat) : Int)) == ((n : Nat) : Int)) = decide (m = n) := by
  by_cases e : m = n
  · simp [e]
  · have : ¬ ((m : Int) = (n : Int)) := by omega
    simp [e, this]

set_option maxRecDepth 100000 in
set_option maxHeartbeats 2000000 in
theorem areAll_any (F : Nat) (caps : Array Value) (hE : Enters Try.prog F) (v : Value) (l : List Int) (p : Nat → Bool) (hl : l.length ≤ 1048576) (w : World) (h : IL w v l)
    (hF : ∀ (i : Nat) (x : Int) (W : World), l[i]? = some x → Below w.heap.size w W → Calls Try.prog F (#[.int .i64 x] ++ caps) W fun e w' => e = .returned (.bool (p i)) ∧ Below W.heap.size W w') :
    Calls Try.prog 23 #[v, .func (.func F) #[] caps] w (BoolP w (decide ((numsW p l.length).length = l.length))) := by
  have H := Lib.hid (nums_any F caps hE v l p hl w h hF)
  obtain ⟨a, c, rfl⟩ := h.form
  clear h hF
  unfold NewI at H
  generalize numsW p l.length = S at *
  generalize l.length = n at *
  go_enter Try.func23, Try.ntmps23
  go_wp2_with fail
  refine H.out.mono ?_
  rintro e w1 ⟨a1, c1, rfl, ho, hb⟩
  have HB := Lib.hid hb
  clear ho hb
  go_wp2_with fail
  go_ret
  exact ⟨by rw [all_beq]; rfl, HB.out⟩
end

section
open Go.RowKit
set_option maxHeartbeats 4000000 in
theorem l10Good_any (v : Value) (r h : Int) (P : List Int) (hn : P.length ≤ 1048576) (w : World) (hv : StR w v r h P) :
    Calls Try.prog 14 #[v] w (BoolP w (goodZ r h P)) := by
  obtain ⟨v0, rfl, hv⟩ := hv
  have BA := Box3.new w r h v0 28
  have B0 := Lib.hid (below_one w (.cells #[.int .i64 r, .int .i64 h, v0] 28))
  obtain ⟨a, cap, rfl, hc⟩ := hv
  obtain ⟨n, hl⟩ : ∃ n, P.length = n := ⟨_, rfl⟩
  have HN := Lib.hid hl
  have HC := Lib.hid hc
  rw [hl] at hn BA B0 ⊢
  obtain ⟨-, c0, c1, c2⟩ := BA
  clear hc hl
  by_cases hr : 1 ≤ r ∧ r ≤ 5
  case neg =>
    have HI := Lib.hid (fun W => l1In_no r 1 5 W (by omega))
    have HF : Hid (goodZ r h P = false) := Lib.hid (goodZ_not fun g => hr ⟨g.1, g.2.1⟩)
    clear hr
    go_enter Try.func14, Try.ntmps14
    go_wp2_with fail
    refine (HI.out _).mono ?_
    rintro e w1 ⟨rfl, rfl⟩
    go_wp2_with fail
    go_ret
    exact ⟨by rw [HF.out]; rfl, B0.out⟩
  have HR := Lib.hid (fun W => l1In_yes r 1 5 W hr.1 hr.2)
  by_cases hh : 1 ≤ h ∧ h ≤ 4
  case neg =>
    have HI := Lib.hid (fun W => l1In_no h 1 4 W (by omega))
    have HF : Hid (goodZ r h P = false) := Lib.hid (goodZ_not fun g => hh ⟨g.2.2.1, g.2.2.2.1⟩)
    clear hr hh
    go_enter Try.func14, Try.ntmps14
    go_wp2_with fail
    refine (HR.out _).mono ?_
    rintro e w1 ⟨rfl, rfl⟩
    go_wp2_with fail
    refine (HI.out _).mono ?_
    rintro e w1 ⟨rfl, rfl⟩
    go_wp2_with fail
    go_ret
    exact ⟨by rw [HF.out]; rfl, B0.out⟩
  have HH := Lib.hid (fun W => l1In_yes h 1 4 W hh.1 hh.2)
  obtain ⟨q1, q2⟩ : 1 ≤ r * h ∧ r * h ≤ 20 := by
    obtain ⟨a1, a2⟩ := hr
    obtain ⟨b1, b2⟩ := hh
    rcases (by omega : r = 1 ∨ r = 2 ∨ r = 3 ∨ r = 4 ∨ r = 5) with e | e | e | e | e <;> subst e <;> omega
  have HRH := Lib.hid (And.intro hr hh)
  by_cases h7 : n ≤ 7 ∧ (n : Int) ≤ r * h
  case neg =>
    have HF : Hid (goodZ r h P = false) := Lib.hid (goodZ_not fun g => h7 ⟨by have := g.2.2.2.2.1; rw [HN.out] at this; exact this, by have := g.2.2.2.2.2.1; rw [HN.out] at this; exact this⟩)
    have hk : r * h < (n : Int) ∨ 7 < n := by omega
    by_cases h77 : n ≤ 7
    case' pos =>
      have hd7 : ¬ (7 : Int) < (n : Int) := by omega
      have hdt : r * h < (n : Int) := by omega
    case' neg =>
      have hd7 : (7 : Int) < (n : Int) := by omega
    all_goals
      clear hr hh h7 h77 hk
      go_enter Try.func14, Try.ntmps14
      go_wp2_with fail
      refine (HR.out _).mono ?_
      rintro e w1 ⟨rfl, rfl⟩
      go_wp2_with fail
      refine (HH.out _).mono ?_
      rintro e w1 ⟨rfl, rfl⟩
      go_wp2_with fail
      go_ret
      exact ⟨by rw [HF.out]; rfl, B0.out⟩
  obtain ⟨h71, h72⟩ := h7
  have hd7 : ¬ (7 : Int) < (n : Int) := by omega
  have hdt : ¬ r * h < (n : Int) := by omega
  have HQ := Lib.hid (And.intro h71 h72)
  clear h71 h72
  go_enter Try.func14, Try.ntmps14
  go_wp2_with fail
  refine (HR.out _).mono ?_
  rintro e w1 ⟨rfl, rfl⟩
  go_wp2_with fail
  refine (HH.out _).mono ?_
  rintro e w1 ⟨rfl, rfl⟩
  go_wp2_with fail
  go_loopw [3] (fun i wr => ∃ k : Nat, k ≤ n ∧ i = .int .i64 k ∧ Hid (wr = w.alloc (.cells #[.int .i64 r, .int .i64 h, .slice a n cap] 28)) ∧ Hid (∀ (j : Nat) (y : Int), j < k → P[j]? = some y → 1 ≤ y ∧ y ≤ 9)) (fun i _ => n - (intOf i).toNat)
  case atStart => exact ⟨0, Nat.zero_le _, rfl, Lib.hid rfl, Lib.hid fun j y hj => by omega⟩
  case round =>
    obtain ⟨k, hk, rfl, HW, HK⟩ := hrel
    have hw := HW.out
    subst hw
    by_cases hlt : k < n
    · obtain ⟨g, off, rfl, hg, hcc⟩ := HC.out (by have := HN.out; omega)
      obtain ⟨y, hy⟩ := get_at HN.out hlt
      have o1 := (B0.out.cell (p := ⟨g, off + k, none⟩) hg).trans (hcc k y hy)
      clear hcc
      by_cases hr9 : 1 ≤ y ∧ y ≤ 9
      · have HY := Lib.hid (fun W => l1In_yes y 1 9 W hr9.1 hr9.2)
        have HK2 : Hid (∀ (j : Nat) (z : Int), j < k + 1 → P[j]? = some z → 1 ≤ z ∧ z ≤ 9) := Lib.hid fun j z hj hz => by
          by_cases e : j = k
          · subst e; rw [hy] at hz; cases hz; exact hr9
          · exact HK.out j z (by omega) hz
        clear hr9 hy
        go_wp2_with fail
        refine (HY.out _).mono ?_
        rintro e w1 ⟨rfl, rfl⟩
        go_wp2_with fail
        exact ⟨⟨k + 1, by omega, by go_num, Lib.hid trivial, HK2⟩, by simp [intOf]; omega⟩
      · have HY := Lib.hid (fun W => l1In_no y 1 9 W (by omega))
        have HF : Hid (goodZ r h P = false) := Lib.hid (goodZ_at hy hr9)
        clear hr9 hy
        go_wp2_with fail
        refine (HY.out _).mono ?_
        rintro e w1 ⟨rfl, rfl⟩
        go_wp2_with fail
        go_ret
        exact ⟨by rw [HF.out]; rfl, B0.out⟩
    · obtain rfl : k = n := by omega
      have HF : Hid (goodZ r h P = true) := Lib.hid (goodZ_iff.2 ⟨HRH.out.1.1, HRH.out.1.2, HRH.out.2.1, HRH.out.2.2, by rw [HN.out]; exact HQ.out.1, by rw [HN.out]; exact HQ.out.2, fun x hx => by
        obtain ⟨j, hj⟩ := List.getElem?_of_mem hx
        exact HK.out j x (by have := lt_of_get hj; have := HN.out; omega) hj⟩)
      go_wp2_with fail
      go_ret
      exact ⟨by rw [HF.out]; rfl, B0.out⟩
theorem goodZ_spec (v : Value) (r h : Int) (P : List Int) (hn : P.length ≤ 1048576) (w : World) (hv : StR w v r h P) : Calls Try.prog 14 #[v] w (BoolP w (goodZ r h P)) := l10Good_any v r h P hn w hv

set_option maxHeartbeats 1000000 in
theorem isPort_any (x : Int) (w : World) : Calls Try.prog 24 #[.int .i64 x] w fun e w' => e = .returned (.bool (decide (1 ≤ x ∧ x ≤ 9))) ∧ Below w.heap.size w w' := by
  by_cases h1 : 1 ≤ x
  · by_cases h2 : x ≤ 9
    · rw [show decide (1 ≤ x ∧ x ≤ 9) = true by simp; omega]
      go_enter Try.func24, Try.ntmps24
      go_wp2
      go_ret
      exact ⟨by simp, Below.refl _ _⟩
    · rw [show decide (1 ≤ x ∧ x ≤ 9) = false by simp; omega]
      have h3 : decide (x ≤ 9) = false := by simp; omega
      clear h2
      go_enter Try.func24, Try.ntmps24
      go_wp2
      go_ret
      exact ⟨by simp, Below.refl _ _⟩
  · rw [show decide (1 ≤ x ∧ x ≤ 9) = false by simp; omega]
    have h2 : decide (1 ≤ x) = false := by simp; omega
    clear h1
    go_enter Try.func24, Try.ntmps24
    go_wp2
    go_ret
    exact ⟨by simp, Below.refl _ _⟩
theorem enters_isPort : Enters Try.prog 24 := enters_of Try.func24 (by kernel_rfl) rfl
/-- Whether the port of a place is one. -/
def ptB (P : List Int) (i : Nat) : Bool := decide (1 ≤ P.getD i 0 ∧ P.getD i 0 ≤ 9)

set_option maxRecDepth 100000 in
set_option maxHeartbeats 4000000 in
theorem implValidZ_any (v : Value) (r h : Int) (P : List Int) (hn : P.length ≤ 1048576) (w : World) (hv : StR w v r h P) : Calls Try.prog 17 #[v] w (BoolP w (goodZ r h P)) := by
  obtain ⟨v0, rfl, hv⟩ := hv
  have BA := Box3.new w r h v0 28
  have B0 := Lib.hid (below_one w (.cells #[.int .i64 r, .int .i64 h, v0] 28))
  have HI := Lib.hid (hv.below B0.out)
  obtain ⟨a, cap, rfl, hc⟩ := hv
  obtain ⟨n, hl⟩ : ∃ n, P.length = n := ⟨_, rfl⟩
  have HN := Lib.hid hl
  rw [hl] at hn BA B0 HI ⊢
  obtain ⟨-, c0, c1, c2⟩ := BA
  clear hc hl
  by_cases hr : 1 ≤ r ∧ r ≤ 5 ∧ 1 ≤ h ∧ h ≤ 4
  case neg =>
    have HF : Hid (goodZ r h P = false) := Lib.hid (goodZ_not fun g => hr ⟨g.1, g.2.1, g.2.2.1, g.2.2.2.1⟩)
    by_cases r1 : r < 1
    case' neg =>
      by_cases r2 : 5 < r
      case' neg =>
        by_cases r3 : h < 1
        case' neg =>
          have r4 : 4 < h := by omega
    all_goals
      clear hr
      go_enter Try.func17, Try.ntmps17
      go_wp2_with fail
      go_ret
      exact ⟨by rw [HF.out]; rfl, B0.out⟩
  obtain ⟨hr1, hr2, hh1, hh2⟩ := hr
  obtain ⟨q1, q2⟩ : 1 ≤ r * h ∧ r * h ≤ 20 := by
    rcases (by omega : r = 1 ∨ r = 2 ∨ r = 3 ∨ r = 4 ∨ r = 5) with e | e | e | e | e <;> subst e <;> omega
  have d1 : ¬ r < 1 := by omega
  have d2 : ¬ 5 < r := by omega
  have d3 : ¬ h < 1 := by omega
  have d4 : ¬ 4 < h := by omega
  have HRH := Lib.hid (And.intro (And.intro hr1 hr2) (And.intro hh1 hh2))
  clear hr1 hr2 hh1 hh2
  by_cases h7 : n ≤ 7 ∧ (n : Int) ≤ r * h
  case neg =>
    have HF : Hid (goodZ r h P = false) := Lib.hid (goodZ_not fun g => h7 ⟨by have := g.2.2.2.2.1; rw [HN.out] at this; exact this, by have := g.2.2.2.2.2.1; rw [HN.out] at this; exact this⟩)
    by_cases hm7 : r * h < 7
    case' pos => have hm : r * h < (n : Int) := by omega
    case' neg => have hm : (7 : Int) < (n : Int) := by omega
    all_goals
      clear h7
      go_enter Try.func17, Try.ntmps17
      go_wp2_with fail
      go_ret
      exact ⟨by rw [HF.out]; rfl, B0.out⟩
  have HQ := Lib.hid h7
  clear h7
  have HNW := Lib.hid (areAll_any 24 #[] enters_isPort (.slice a n cap) P (ptB P) (by rw [HN.out]; exact hn) _ HI.out (fun i x W hx hb => by
    have e : P.getD i 0 = x := by simp [List.getD, hx]
    unfold ptB
    rw [e]
    exact isPort_any x W))
  have HG : Hid (goodZ r h P = decide ((numsW (ptB P) n).length = n)) := Lib.hid (by
    refine Bool.eq_iff_iff.2 ?_
    rw [goodZ_iff, decide_eq_true_iff, numsW_all]
    constructor
    · intro g i hi
      have := g.2.2.2.2.2.2 (P.getD i 0) (by rw [List.getD, List.getElem?_eq_getElem (by rw [HN.out]; exact hi)]; exact List.getElem_mem _)
      simpa [ptB] using this
    · intro g
      refine ⟨HRH.out.1.1, HRH.out.1.2, HRH.out.2.1, HRH.out.2.2, by rw [HN.out]; exact HQ.out.1, by rw [HN.out]; exact HQ.out.2, fun x hx => ?_⟩
      obtain ⟨j, hj⟩ := List.getElem?_of_mem hx
      have := g j (by have := lt_of_get hj; have := HN.out; omega)
      have e : P.getD j 0 = x := by simp [List.getD, hj]
      unfold ptB at this
      rw [e] at this
      exact of_decide_eq_true this)
  rw [HN.out] at HNW
  have hml := numsW_len (ptB P) n
  obtain ⟨m, hmm⟩ : ∃ m, (numsW (ptB P) n).length = m := ⟨_, rfl⟩
  rw [hmm] at HNW HG hml
  clear hmm
  have h71 := HQ.out.1
  have h72 := HQ.out.2
  by_cases hm7 : r * h < 7
  case' pos => have hm : ¬ r * h < (n : Int) := by omega
  case' neg => have hm : ¬ (7 : Int) < (n : Int) := by omega
  all_goals
    clear h71 h72
    go_enter Try.func17, Try.ntmps17
    go_wp2_with fail
    refine HNW.out.mono ?_
    rintro e w1 ⟨rfl, hb⟩
    have B1 := Lib.hid (B0.out.trans (hb.mono B0.out.size))
    clear hb
    go_wp2_with fail
    go_ret
    exact ⟨by rw [HG.out]; first | done | rfl, B1.out⟩
end

section
open Go.RowKit
/-- A block of another type is not a row's. -/
theorem ne_type {w : World} {S e B n : Nat} {cs : Array Value} {T : TypeId} {x : Value} {xs : List Value} (h : w.heap[S]? = some (Obj.cells cs T (0, 0))) (hx : w.ownsRow B e 1 x n xs) (he : e ≠ T) : x.ownBlock ≠ some S := by
  intro e2
  rcases hx.2 with ⟨rfl, _⟩ | ⟨g, cap, cur, rfl, _, hb, _⟩
  · simp [Value.ownBlock] at e2
  · simp only [Value.ownBlock, Option.some.injEq] at e2
    subst e2
    rw [h] at hb
    injection hb with hb
    injection hb with _ hb _
    exact he hb.symm
theorem mem_lt {w : World} {S : Nat} {o : Obj} (h : w.heap[S]? = some o) : S < w.heap.size := (Array.getElem?_eq_some_iff.1 h).1
/-- While a bay is loaded: the stowage's box, the result's, the bay's, the rows. -/
structure PbS (w wr : World) (r h : Int) (v0 : Value) (A R D : Nat) (B g n c : Nat) (Y : List (List Int)) : Prop where
  a : wr.heap[A]? = some (.cells #[.int .i64 r, .int .i64 h, v0] 28 (0, 0))
  r : wr.heap[R]? = some (.cells #[.int .i64 0, .slice none 0 0] 45 (0, 0))
  d : wr.heap[D]? = some (.cells #[.int .i64 h, .slice (some ⟨g, 0, none⟩) n c] 45 (0, 0))
  own : OwnY wr B wr.heap.size (.slice (some ⟨g, 0, none⟩) n c) Y
  bl : Below w.heap.size w wr
  hB : w.heap.size ≤ B
section
variable {w wr W : World} {r h : Int} {v0 : Value} {A R D B g n c : Nat} {Y : List (List Int)}
theorem PbS.below (S : PbS w wr r h v0 A R D B g n c Y) (hb : Below wr.heap.size wr W) : PbS w W r h v0 A R D B g n c Y :=
  ⟨(hb.block _ (mem_lt S.a)).trans S.a, (hb.block _ (mem_lt S.r)).trans S.r, (hb.block _ (mem_lt S.d)).trans S.d, (S.own.below hb).mono (Nat.le_refl _) hb.size (Nat.le_refl _), S.bl.trans (hb.mono S.bl.size), S.hB⟩
theorem PbS.cells (S : PbS w wr r h v0 A R D B g n c Y) : (wr.cell? ⟨A, 0, none⟩ = some (.int .i64 r) ∧ wr.cell? ⟨A, 1, none⟩ = some (.int .i64 h) ∧ wr.cell? ⟨A, 2, none⟩ = some v0) ∧ wr.cell? ⟨D, 0, none⟩ = some (.int .i64 h) ∧ wr.cell? ⟨D, 1, none⟩ = some (.slice (some ⟨g, 0, none⟩) n c) :=
  ⟨⟨cell_of S.a rfl, cell_of S.a rfl, cell_of S.a rfl⟩, cell_of S.d rfl, cell_of S.d rfl⟩
theorem PbS.tab (S : PbS w wr r h v0 A R D B g n c Y) : ¬ g = A ∧ ¬ g = R ∧ ¬ g = D := by
  obtain ⟨-, -, us, h3, -⟩ := S.own
  exact ⟨fun e => ne_type S.a h3 (by decide) (e ▸ rfl), fun e => ne_type S.r h3 (by decide) (e ▸ rfl), fun e => ne_type S.d h3 (by decide) (e ▸ rfl)⟩
theorem PbS.base (S : PbS w wr r h v0 A R D B g n c Y) : B ≤ g ∧ g < wr.heap.size := own_at S.own
/-- A number put on a row. -/
theorem PbS.put {w5 : World} {s m : Nat} {l : List Int} {x : Int} {u v' : Value} {o : Obj} (S : PbS w wr r h v0 A R D B g n c Y) (hl : Y[s]? = some l) (hm : l.length = m) (hu : wr.cell? ⟨g, s, none⟩ = some u)
    (ho : w5.ownsRow B 3 1 v' (m + 1) (intV l ++ [.int .i64 x])) (hg : (wr.alloc o).grownBy w5 u.ownBlock) (hat : v'.ownBlock = u.ownBlock ∨ v'.ownBlock = some (wr.alloc o).heap.size) :
    PbS w (w5.setCell ⟨g, s, none⟩ v') r h v0 A R D B g n c (putY Y s x) ∧ (∃ y, w5.cell? ⟨g, s, none⟩ = some y) ∧ w5.frozen? ⟨g, s, none⟩ = false ∧ w5.cell? ⟨D, 1, none⟩ = some (.slice (some ⟨g, 0, none⟩) n c) := by
  obtain ⟨p1, p2, p3⟩ := own_put S.own hl hm hu ho hg hat
  obtain ⟨u2, hu2, -, hou, hub⟩ := S.own.cell hl
  rw [hu] at hu2
  cases hu2
  obtain ⟨t1, t2, t3⟩ := S.tab
  have hb : Below wr.heap.size wr (wr.alloc o) := below_one wr o
  have h5 : ∀ k cs T, wr.heap[k]? = some (Obj.cells cs T (0, 0)) → 3 ≠ T → w5.heap[k]? = some (Obj.cells cs T (0, 0)) := fun k cs T hk hT =>
    (hg.block k (Nat.lt_of_lt_of_le (mem_lt hk) hb.size) (fun e => ne_type hk hou hT e.symm)).trans ((hb.block k (mem_lt hk)).trans hk)
  have h6 : ∀ k, ¬ g = k → (w5.setCell ⟨g, s, none⟩ v').heap[k]? = w5.heap[k]? := fun k hk => Below.heap_setCell w5 ⟨g, s, none⟩ v' k (fun e => hk e.symm)
  have hB5 : Below w.heap.size w w5 := (S.bl.trans (hb.mono S.bl.size)).grown hg (Nat.le_trans S.bl.size hb.size) (fun j e => by have := row_base hou j e; have := S.hB; omega)
  have hgB := S.base
  have hB := S.hB
  refine ⟨⟨(h6 _ t1).trans (h5 _ _ _ S.a (by decide)), (h6 _ t2).trans (h5 _ _ _ S.r (by decide)), (h6 _ t3).trans (h5 _ _ _ S.d (by decide)), p1.mono (Nat.le_refl _) (by simp) (Nat.le_refl _), hB5.setCell (p := ⟨g, s, none⟩) (by show w.heap.size ≤ g; omega) _, S.hB⟩, p2, p3, ?_⟩
  exact cell_of (h5 _ _ _ S.d (by decide)) rfl
end

theorem nils_own (q : Nat) (hq : q ≤ 1048576) (W : World) : OwnY (W.alloc (.cells (Array.replicate q (Value.slice none 0 0)) 22)) W.heap.size (W.heap.size + 1) (.slice (some ⟨W.heap.size, 0, none⟩) q q) (List.replicate q []) := by
  have h := (make_nils q hq W).2
  rw [List.toArray_replicate] at h
  simpa using h
/-- The rows were made first, then the bay's box. -/
theorem pbs_first {w w1 : World} {r h : Int} {v0 : Value} {A R q B : Nat} (hA : w1.heap[A]? = some (.cells #[.int .i64 r, .int .i64 h, v0] 28 (0, 0))) (hR : w1.heap[R]? = some (.cells #[.int .i64 0, .slice none 0 0] 45 (0, 0)))
    (hb : Below w.heap.size w w1) (hwB : w.heap.size ≤ B) (hB : B ≤ w1.heap.size) (hq : q ≤ 1048576) :
    PbS w (((w1.alloc (.cells (Array.replicate q (Value.slice none 0 0)) 22)).alloc (.cells #[.int .i64 h, .slice (some ⟨w1.heap.size, 0, none⟩) q q] 45)).drew) r h v0 A R (w1.heap.size + 1) B w1.heap.size q q (List.replicate q []) := by
  have h1 := below_one w1 (.cells (Array.replicate q (Value.slice none 0 0)) 22)
  have h2 := below_one (w1.alloc (.cells (Array.replicate q (Value.slice none 0 0)) 22)) (.cells #[.int .i64 h, .slice (some ⟨w1.heap.size, 0, none⟩) q q] 45)
  have h3 := (h1.trans (h2.mono h1.size)).drew
  have hd := heap_alloc_new (w1.alloc (.cells (Array.replicate q (Value.slice none 0 0)) 22)) (.cells #[.int .i64 h, .slice (some ⟨w1.heap.size, 0, none⟩) q q] 45)
  rw [show (w1.alloc (.cells (Array.replicate q (Value.slice none 0 0)) 22)).heap.size = w1.heap.size + 1 by simp] at hd
  refine ⟨(h3.block _ (mem_lt hA)).trans hA, (h3.block _ (mem_lt hR)).trans hR, hd, ?_, hb.trans (h3.mono hb.size), hwB⟩
  refine ((nils_own q hq w1).below h2.drew).mono hB ?_ (Nat.le_refl _)
  simp [World.drew]
/-- The bay's box was made first, then the rows. -/
theorem pbs_second {w w1 : World} {r h : Int} {v0 : Value} {A R q B : Nat} (hA : w1.heap[A]? = some (.cells #[.int .i64 r, .int .i64 h, v0] 28 (0, 0))) (hR : w1.heap[R]? = some (.cells #[.int .i64 0, .slice none 0 0] 45 (0, 0)))
    (hb : Below w.heap.size w w1) (hwB : w.heap.size ≤ B) (hB : B ≤ w1.heap.size) (hq : q ≤ 1048576) :
    PbS w (((w1.alloc (.cells #[.int .i64 h, .slice (some ⟨w1.heap.size + 1, 0, none⟩) q q] 45)).alloc (.cells (Array.replicate q (Value.slice none 0 0)) 22)).drew) r h v0 A R w1.heap.size B (w1.heap.size + 1) q q (List.replicate q []) := by
  have h1 := below_one w1 (.cells #[.int .i64 h, .slice (some ⟨w1.heap.size + 1, 0, none⟩) q q] 45)
  have h2 := below_one (w1.alloc (.cells #[.int .i64 h, .slice (some ⟨w1.heap.size + 1, 0, none⟩) q q] 45)) (.cells (Array.replicate q (Value.slice none 0 0)) 22)
  have h3 := (h1.trans (h2.mono h1.size)).drew
  have hs : (w1.alloc (.cells #[.int .i64 h, .slice (some ⟨w1.heap.size + 1, 0, none⟩) q q] 45)).heap.size = w1.heap.size + 1 := by simp
  have hd := heap_alloc_new w1 (.cells #[.int .i64 h, .slice (some ⟨w1.heap.size + 1, 0, none⟩) q q] 45)
  have hd2 := (h2.block _ (mem_lt hd)).trans hd
  have ho := nils_own q hq (w1.alloc (.cells #[.int .i64 h, .slice (some ⟨w1.heap.size + 1, 0, none⟩) q q] 45))
  rw [hs] at ho
  refine ⟨(h3.block _ (mem_lt hA)).trans hA, (h3.block _ (mem_lt hR)).trans hR, hd2, ?_, hb.trans (h3.mono hb.size), hwB⟩
  refine (ho.below (Below.refl _ _).drew).mono (Nat.le_succ_of_le hB) ?_ (Nat.le_refl _)
  simp [World.drew]
end

section
open Go.RowKit
/-- A list of ints of the call's own was answered, no nil one, and nothing older turned. -/
def NewN (w : World) (l : List Int) (e : Ending) (w' : World) : Prop := ∃ g c, e = .returned (.slice (some ⟨g, 0, none⟩) l.length c) ∧ w'.ownsRow w.heap.size 3 1 (.slice (some ⟨g, 0, none⟩) l.length c) l.length (intV l) ∧ Below w.heap.size w w'
theorem own_some {W : World} {base e size k : Nat} {v : Value} {xs : List Value} (h : W.ownsRow base e size v k xs) (hv : v ≠ .slice none 0 0) : ∃ g c, v = .slice (some ⟨g, 0, none⟩) k c := by
  rcases h.2 with ⟨rfl, _⟩ | ⟨g, cap, cur, rfl, _⟩
  · exact absurd rfl hv
  · exact ⟨_, _, rfl⟩
theorem NumS.done2 {w wr : World} {sv : Value} {S : List Int} (h : NumS w wr sv S) : NewN w S (.returned sv) wr := by
  obtain ⟨h1, h2, h3⟩ := h
  obtain ⟨g, c, rfl⟩ := own_some h1 h3
  exact ⟨g, c, rfl, h1, h2⟩

set_option maxRecDepth 100000 in
set_option maxHeartbeats 4000000 in
theorem nums_some (F : Nat) (caps : Array Value) (hE : Enters Try.prog F) (v : Value) (l : List Int) (p : Nat → Bool) (hl : l.length ≤ 1048576) (w : World) (h : IL w v l)
    (hF : ∀ (i : Nat) (x : Int) (W : World), l[i]? = some x → Below w.heap.size w W → Calls Try.prog F (#[.int .i64 x] ++ caps) W fun e w' => e = .returned (.bool (p i)) ∧ Below W.heap.size W w') :
    Calls Try.prog 28 #[v, .func (.func F) #[] caps] w (NewN w (numsW p l.length)) := by
  obtain ⟨f3, hi3, hz0, hz1, hz2⟩ := info_is info3
  obtain ⟨n, hn⟩ : ∃ n, l.length = n := ⟨_, rfl⟩
  have HN := Lib.hid hn
  have HF := Lib.hid hF
  obtain ⟨a, c, rfl, hc⟩ := h
  have HC := Lib.hid hc
  rw [hn] at hl ⊢
  clear hc hn hF
  have R0 := Lib.hid (numS_start w)
  go_enter Try.func28, Try.ntmps28
  go_wp2_with fail
  go_loopw [5, 11] (fun s i wr => ∃ k : Nat, k ≤ n ∧ i = .int .i64 k ∧ Hid (NumS w wr s (numsW p k))) (fun _ i _ => n - (intOf i).toNat)
  case atStart => exact ⟨0, Nat.zero_le _, rfl, R0⟩
  case round =>
    obtain ⟨k, hk, rfl, HR⟩ := hrel
    by_cases hlt : k < n
    · obtain ⟨g, off, rfl, hg, hcc⟩ := HC.out (by have := HN.out; omega)
      obtain ⟨y, hy⟩ := get_at HN.out hlt
      have o1 : wr.cell? ⟨g, off + k, none⟩ = some (.int .i64 y) := (HR.out.2.1.cell (p := ⟨g, off + k, none⟩) hg).trans (hcc k y hy)
      have HE := Lib.hid (HF.out k y wr hy HR.out.2.1)
      have hbl := numsW_len p k
      clear hcc hy
      go_wp2_with fail
      rw [hE, Oper.upon_enter]
      refine HE.out.mono ?_
      rintro e w1 ⟨rfl, hb⟩
      have R1 := Lib.hid (HR.out.below hb)
      clear hb o1
      cases hp : p k with
      | true =>
        have HT := Lib.hid (numsW_yes hp)
        have hrow := R1.out.1
        have hz := R1.out.2.1.size
        generalize numsW p k = S at *
        clear hp
        go_wp2_with (at_builtin; refine wpList_append_own _ rfl _ _ 22 rfl w.heap.size 3 f3 (.int .i64 0) 1 8 Try.underlying22 hi3 hz0 hz1 hz2 rfl (by decide) _ _ _ rfl (hrow.alloc _) ⟨w1.heap.size, 0, none⟩ 1 1 [.int .i64 ((k : Int) + 1)] rfl rfl (cell_one_new _ _ _) (by simp [Value.oneCell']) (by unfold maxLen; omega) (by omega) (by simp; omega) ?_; intro v' w4 hown' hgrow hnil)
        have HN4 : Hid (NumS w w4 v' (numsW p (k + 1))) := Lib.hid (by rw [HT.out]; exact R1.out.push hown' hgrow (fun e => by have := (hnil.1 e).2; omega))
        clear hown' hgrow hnil hrow
        exact ⟨⟨k + 1, by omega, by go_num, HN4⟩, by simp [intOf]; omega⟩
      | false =>
        have HT := Lib.hid (numsW_no hp)
        clear hp
        go_wp2_with fail
        exact ⟨⟨k + 1, by omega, by go_num, Lib.hid (by rw [HT.out]; exact R1.out)⟩, by simp [intOf]; omega⟩
    · obtain rfl : k = n := by omega
      go_wp2_with fail
      go_ret
      exact HR.out.done2

/-- Whether the port of a place is p. -/
def isP (P : List Int) (p : Int) (i : Nat) : Bool := P.getD i 0 == p
end
end Go.Proofs.Ytjplbcfpbggnnaa
