/-
  The laws' own helpers on stowages: szStowage, toStowage, eqStowage, markStowage; and the law's stowage, opened. No statement of the seat by itself.
-/
import Derived.Test.YtpflnjjckeeihaaHRet
import Derived.Test.YtpflnjjckeeihaaLawP
import Derived.Test.YtpflnjjckeeihaaClone
import Derived.Deep.Fields
namespace Go.Proofs.Ytpflnjjckeeihaa
open Go.RowKit

/-- A value that reads as a stowage. -/
def StR (w : World) (v : Value) (r h : Int) (P : List Int) : Prop := ∃ v0, v = .agg #[.int .i64 r, .int .i64 h, v0] ∧ IL w v0 P
theorem StR.below {w w' : World} {v : Value} {r h : Int} {P : List Int} (hv : StR w v r h P) (hb : Below w.heap.size w w') : StR w' v r h P := by
  obtain ⟨v0, rfl, hv⟩ := hv
  exact ⟨v0, rfl, hv.below hb⟩
/-- A stowage of the call's own was answered, and nothing older turned. -/
def NewSt (w : World) (r h : Int) (P : List Int) (e : Ending) (w' : World) : Prop := ∃ a c, e = .returned (.agg #[.int .i64 r, .int .i64 h, .slice a P.length c]) ∧ LO w' w.heap.size w'.heap.size (.slice a P.length c) P ∧ Below w.heap.size w w'
/-- A box of a stowage. -/
def Box3 (W : World) (A : Nat) (r h : Int) (x : Value) : Prop := A < W.heap.size ∧ W.cell? ⟨A, 0, none⟩ = some (.int .i64 r) ∧ W.cell? ⟨A, 1, none⟩ = some (.int .i64 h) ∧ W.cell? ⟨A, 2, none⟩ = some x
theorem Box3.below {W W' : World} {A : Nat} {r h : Int} {x : Value} (hx : Box3 W A r h x) (hb : Below W.heap.size W W') : Box3 W' A r h x :=
  ⟨Nat.lt_of_lt_of_le hx.1 hb.size, (hb.cell (p := ⟨A, 0, none⟩) hx.1).trans hx.2.1, (hb.cell (p := ⟨A, 1, none⟩) hx.1).trans hx.2.2.1, (hb.cell (p := ⟨A, 2, none⟩) hx.1).trans hx.2.2.2⟩
theorem Box3.span {W W' : World} {A lo hi : Nat} {r h : Int} {x : Value} (hx : Box3 W A r h x) (hs : Span lo hi W W') (ho : A < lo ∨ hi ≤ A) : Box3 W' A r h x :=
  ⟨Nat.lt_of_lt_of_le hx.1 hs.size, (World.cell?_of_block (a := ⟨A, 0, none⟩) (hs.block A hx.1 ho)).trans hx.2.1, (World.cell?_of_block (a := ⟨A, 1, none⟩) (hs.block A hx.1 ho)).trans hx.2.2.1, (World.cell?_of_block (a := ⟨A, 2, none⟩) (hs.block A hx.1 ho)).trans hx.2.2.2⟩
theorem Box3.new (W : World) (r h : Int) (x : Value) (T : TypeId) : Box3 (W.alloc (.cells #[.int .i64 r, .int .i64 h, x] T)) W.heap.size r h x := ⟨by simp, cell_of (heap_alloc_new W _) rfl, cell_of (heap_alloc_new W _) rfl, cell_of (heap_alloc_new W _) rfl⟩

set_option maxHeartbeats 1000000 in
theorem szS_any (v : Value) (r h : Int) (P : List Int) (hn : P.length ≤ maxLen) (w : World) (hv : StR w v r h P) :
    Calls Try.prog 31 #[v, .int .i64 1048576] w fun e w' => Below w.heap.size w w' ∧ (e = .returned (.int .i64 (-1)) ∨ ∃ q : Nat, e = .returned (.int .i64 (q : Int)) ∧ P.length ≤ 1048576) := by
  obtain ⟨v0, rfl, hv⟩ := hv
  have HB := Lib.hid (below_one w (.cells #[.int .i64 r, .int .i64 h, v0] 49))
  obtain ⟨a, c, rfl, hc⟩ := hv
  have HZ := Lib.hid (szI_any a P.length c 1048576 hn (by decide) (w.alloc (.cells #[.int .i64 r, .int .i64 h, .slice a P.length c] 49)))
  clear hc
  generalize P.length = n at *
  go_enter Try.func31, Try.ntmps31
  go_wp2_with fail
  refine HZ.out.mono ?_
  rintro e w1 ⟨rfl, rfl⟩
  by_cases hx : n ≤ 1048576
  · rw [if_pos hx]
    obtain ⟨q, hq⟩ : ∃ q : Nat, 1048576 - n = q := ⟨_, rfl⟩
    rw [hq]
    go_wp2_with fail
    go_ret
    exact ⟨HB.out, .inr ⟨q, rfl, hx⟩⟩
  · rw [if_neg hx]
    go_wp2_with fail
    go_ret
    exact ⟨HB.out, .inl rfl⟩

/-- The result's box of a stowage has been written. -/
theorem res_sto {w : World} {R : Nat} {x y z : Value} (r h v : Value) (c0 : w.cell? ⟨R, 0, none⟩ = some x) (c1 : w.cell? ⟨R, 1, none⟩ = some y) (c2 : w.cell? ⟨R, 2, none⟩ = some z) :
    (((w.setCell ⟨R, 0, none⟩ r).setCell ⟨R, 1, none⟩ h).setCell ⟨R, 2, none⟩ v).cell? ⟨R, 0, none⟩ = some r ∧ (((w.setCell ⟨R, 0, none⟩ r).setCell ⟨R, 1, none⟩ h).setCell ⟨R, 2, none⟩ v).cell? ⟨R, 1, none⟩ = some h ∧ (((w.setCell ⟨R, 0, none⟩ r).setCell ⟨R, 1, none⟩ h).setCell ⟨R, 2, none⟩ v).cell? ⟨R, 2, none⟩ = some v := by
  refine ⟨?_, ?_, ?_⟩
  · rw [set_cell_at _ _ _ _ _ (by decide), set_cell_at _ _ _ _ _ (by decide)]
    exact World.cell?_setCell_same _ _ r c0
  · rw [set_cell_at _ _ _ _ _ (by decide)]
    exact World.cell?_setCell_same _ _ h (by rw [set_cell_at _ _ _ _ _ (by decide)]; exact c1)
  · exact World.cell?_setCell_same _ _ v (by rw [set_cell_at _ _ _ _ _ (by decide), set_cell_at _ _ _ _ _ (by decide)]; exact c2)

set_option maxRecDepth 100000 in
set_option maxHeartbeats 2000000 in
theorem toS_any (v : Value) (r h : Int) (P : List Int) (hn : P.length ≤ 1048576) (w : World) (hv : StR w v r h P) :
    Calls Try.prog 33 #[v] w (NewSt w r h P) := by
  obtain ⟨v0, rfl, hv⟩ := hv
  have H := Lib.hid hv
  obtain ⟨hk0, hk1, hk2, hs, hB0⟩ := three_alloc w (.cells #[.int .i64 r, .int .i64 h, v0] 49) (.cells #[.int .i64 0, .int .i64 0, .slice none 0 0] 26) (.cells #[.int .i64 r, .int .i64 h, .slice none 0 0] 26)
  clear hv
  go_enter Try.func33, Try.ntmps33
  go_wp2_with fail
  have B0 := Lib.hid hB0
  clear hB0 hk0
  generalize ((w.alloc (.cells #[.int .i64 r, .int .i64 h, v0] 49)).alloc (.cells #[.int .i64 0, .int .i64 0, .slice none 0 0] 26)).alloc (.cells #[.int .i64 r, .int .i64 h, .slice none 0 0] 26) = W at *
  refine (toI_any v0 P hn _ (H.out.below B0.out)).mono ?_
  rintro e w1 ⟨a, c, rfl, ho, hb⟩
  have j1 := (hb.block _ (show w.heap.size + 1 < W.heap.size by omega)).trans hk1
  have j2 := (hb.block _ (show w.heap.size + 1 + 1 < W.heap.size by omega)).trans hk2
  have c1 : w1.cell? ⟨w.heap.size + 1, 0, none⟩ = some (.int .i64 0) := cell_of j1 rfl
  have c1b : w1.cell? ⟨w.heap.size + 1, 1, none⟩ = some (.int .i64 0) := cell_of j1 rfl
  have c1c : w1.cell? ⟨w.heap.size + 1, 2, none⟩ = some (.slice none 0 0) := cell_of j1 rfl
  have c2 : w1.cell? ⟨w.heap.size + 1 + 1, 0, none⟩ = some (.int .i64 r) := cell_of j2 rfl
  have c2b : w1.cell? ⟨w.heap.size + 1 + 1, 1, none⟩ = some (.int .i64 h) := cell_of j2 rfl
  have c2c : w1.cell? ⟨w.heap.size + 1 + 1, 2, none⟩ = some (.slice none 0 0) := cell_of j2 rfl
  have f1 : ∀ i, w1.frozen? ⟨w.heap.size + 1, i, none⟩ = false := fun i => free_of j1
  have f2 : ∀ i, w1.frozen? ⟨w.heap.size + 1 + 1, i, none⟩ = false := fun i => free_of j2
  have B1 : Hid (Below w.heap.size w w1) := Lib.hid (B0.out.trans (hb.mono B0.out.size))
  have O1 := Lib.hid (lo_of_own ho (Nat.le_refl _))
  rw [hs] at O1
  obtain ⟨m, hm⟩ : ∃ m, P.length = m := ⟨_, rfl⟩
  have HM := Lib.hid hm
  rw [hm] at O1 ⊢
  clear hb ho j1 j2 hk1 hk2 hm
  go_wp2_with fail
  have e5 : (w1.setCell ⟨w.heap.size + 1 + 1, 2, none⟩ (.slice a m c)).cell? ⟨w.heap.size + 1, 0, none⟩ = some (.int .i64 0) := by rw [set_cell_ne _ _ _ _ _ _ (by omega)]; exact c1
  have e6 : (w1.setCell ⟨w.heap.size + 1 + 1, 2, none⟩ (.slice a m c)).cell? ⟨w.heap.size + 1, 1, none⟩ = some (.int .i64 0) := by rw [set_cell_ne _ _ _ _ _ _ (by omega)]; exact c1b
  have e6c : (w1.setCell ⟨w.heap.size + 1 + 1, 2, none⟩ (.slice a m c)).cell? ⟨w.heap.size + 1, 2, none⟩ = some (.slice none 0 0) := by rw [set_cell_ne _ _ _ _ _ _ (by omega)]; exact c1c
  obtain ⟨e7, e8, e9⟩ := res_sto (.int .i64 r) (.int .i64 h) (.slice a m c) e5 e6 e6c
  refine bodyPost_ret (v := .agg #[.int .i64 r, .int .i64 h, .slice a m c]) (by simp [results, Try.results33, go_sem, e7, e8, e9]) rfl ⟨a, c, by rw [HM.out], ?_, (((B1.out.setCell (p := ⟨w.heap.size + 1 + 1, 2, none⟩) (by simp; omega) _).setCell (p := ⟨w.heap.size + 1, 0, none⟩) (by simp) _).setCell (p := ⟨w.heap.size + 1, 1, none⟩) (by simp) _).setCell (p := ⟨w.heap.size + 1, 2, none⟩) (by simp) _⟩
  rw [HM.out]
  have S := (((span_set (w := w1) (lo := w.heap.size) (hi := w.heap.size + 3) (b := w.heap.size + 1 + 1) (i := 2) (by omega) (by omega) (.slice a m c)).trans (span_set (b := w.heap.size + 1) (i := 0) (by omega) (by omega) (.int .i64 r))).trans (span_set (b := w.heap.size + 1) (i := 1) (by omega) (by omega) (.int .i64 h))).trans (span_set (b := w.heap.size + 1) (i := 2) (by omega) (by omega) (.slice a m c))
  obtain ⟨q1, q2, q3⟩ := O1.out.span S (.inr (Nat.le_refl _))
  have hsz : ((((w1.setCell ⟨w.heap.size + 1 + 1, 2, none⟩ (.slice a m c)).setCell ⟨w.heap.size + 1, 0, none⟩ (.int .i64 r)).setCell ⟨w.heap.size + 1, 1, none⟩ (.int .i64 h)).setCell ⟨w.heap.size + 1, 2, none⟩ (.slice a m c)).heap.size = w1.heap.size := by simp
  refine ⟨Nat.le_refl _, own_base q2 fun j hj => ?_, fun b hb => by have := q3 b hb; omega⟩
  have := row_base q2 j hj
  omega

set_option maxRecDepth 100000 in
set_option maxHeartbeats 1000000 in
theorem eqS_any (v1 v2 : Value) (r h : Int) (P : List Int) (hn : P.length ≤ 1048576) (w : World) (h1 : StR w v1 r h P) (h2 : StR w v2 r h P) :
    Calls Try.prog 34 #[v1, v2] w fun e w' => e = .returned (.bool true) ∧ Below w.heap.size w w' := by
  obtain ⟨a1, rfl, h1⟩ := h1
  obtain ⟨b1, rfl, h2⟩ := h2
  have HB : Hid (Below w.heap.size w ((w.alloc (.cells #[.int .i64 r, .int .i64 h, a1] 26)).alloc (.cells #[.int .i64 r, .int .i64 h, b1] 26))) := Lib.hid (((Below.refl _ _).alloc (Nat.le_refl _) _).alloc (by simp) _)
  have HZ := Lib.hid (eqI_any a1 b1 P hn _ (h1.below HB.out) (h2.below HB.out))
  have hq : (h != h) = false := by simp
  have hr : (r != r) = false := by simp
  clear h1 h2
  go_enter Try.func34, Try.ntmps34
  go_wp2_with fail
  refine HZ.out.mono ?_
  rintro e w1 ⟨rfl, q, rfl⟩
  have B1 := Lib.hid (below_drewN HB.out q)
  go_wp2_with fail
  go_ret
  exact ⟨rfl, B1.out⟩

set_option maxRecDepth 100000 in
set_option maxHeartbeats 1000000 in
theorem markS_any (v : Value) (r h : Int) (P : List Int) (k0 : Int) (B hi : Nat) (hn : P.length ≤ 1048576) (hk0 : 0 ≤ k0) (hk1 : k0 ≤ 1000000) (w : World) (hv : LO w B hi v P) :
    Calls Try.prog 39 #[.agg #[.int .i64 r, .int .i64 h, v], .int .i64 k0] w fun e w' => e = .returned (.int .i64 (k0 + (P.length : Int))) ∧ Span B hi w w' := by
  have B0 := below_one w (.cells #[.int .i64 r, .int .i64 h, v] 26)
  have HZ := Lib.hid (markL_wide v P k0 B hi hn hk0 (by omega) _ (hv.below B0))
  have HS : Hid (Span B hi w (w.alloc (.cells #[.int .i64 r, .int .i64 h, v] 26))) := Lib.hid (Span.of_below B0)
  clear hv B0
  go_enter Try.func39, Try.ntmps39
  go_wp2_with fail
  refine HZ.out.mono ?_
  rintro e w1 ⟨rfl, ho, hs⟩
  have S1 := Lib.hid (HS.out.trans hs)
  clear ho hs
  go_wp2_with fail
  go_ret
  exact ⟨rfl, S1.out⟩

/-- What stays while the last question is asked. -/
def KeepZ (w : World) (A X : Nat) (r h : Int) (v0 s0 : Value) (P : List Int) (W : World) : Prop := Below w.heap.size w W ∧ IL w v0 P ∧ IL w s0 P ∧ Box3 W A r h v0 ∧ Box3 W X r h s0
section
variable {w W W' : World} {A X : Nat} {r h : Int} {v0 s0 : Value} {P : List Int}
theorem KeepZ.start (h1 : IL w v0 P) (h2 : IL w s0 P) (h3 : Box3 w A r h v0) (h4 : Box3 w X r h s0) : KeepZ w A X r h v0 s0 P w := ⟨Below.refl _ _, h1, h2, h3, h4⟩
theorem KeepZ.below (h1 : KeepZ w A X r h v0 s0 P W) (hb : Below W.heap.size W W') : KeepZ w A X r h v0 s0 P W' :=
  ⟨h1.1.trans (hb.mono h1.1.size), h1.2.1, h1.2.2.1, h1.2.2.2.1.below hb, h1.2.2.2.2.below hb⟩
theorem KeepZ.drew (h1 : KeepZ w A X r h v0 s0 P W) : KeepZ w A X r h v0 s0 P W.drew := h1.below ⟨rfl, rfl, rfl, Nat.le_refl _, fun _ _ => rfl⟩
theorem KeepZ.cells (h1 : KeepZ w A X r h v0 s0 P W) : W.cell? ⟨A, 0, none⟩ = some (.int .i64 r) ∧ W.cell? ⟨A, 1, none⟩ = some (.int .i64 h) ∧ W.cell? ⟨A, 2, none⟩ = some v0 ∧ W.cell? ⟨X, 0, none⟩ = some (.int .i64 r) ∧ W.cell? ⟨X, 1, none⟩ = some (.int .i64 h) ∧ W.cell? ⟨X, 2, none⟩ = some s0 := ⟨h1.2.2.2.1.2.1, h1.2.2.2.1.2.2.1, h1.2.2.2.1.2.2.2, h1.2.2.2.2.2.1, h1.2.2.2.2.2.2.1, h1.2.2.2.2.2.2.2⟩
theorem KeepZ.to (hn : P.length ≤ 1048576) (h1 : KeepZ w A X r h v0 s0 P W) :
    Calls Try.prog 33 #[.agg #[.int .i64 r, .int .i64 h, v0]] W fun e w' => ∃ u, e = .returned u ∧ StR w' u r h P ∧ w'.cell? ⟨A, 0, none⟩ = some (.int .i64 r) ∧ w'.cell? ⟨A, 1, none⟩ = some (.int .i64 h) ∧ w'.cell? ⟨A, 2, none⟩ = some v0 ∧ w'.cell? ⟨X, 0, none⟩ = some (.int .i64 r) ∧ w'.cell? ⟨X, 1, none⟩ = some (.int .i64 h) ∧ w'.cell? ⟨X, 2, none⟩ = some s0 ∧ KeepZ w A X r h v0 s0 P w' := by
  refine (toS_any _ r h P hn W ⟨_, rfl, h1.2.1.below h1.1⟩).mono ?_
  rintro e w' ⟨a, c, rfl, ho, hb⟩
  have hk := h1.below hb
  obtain ⟨q0, q1, q2, q3, q4, q5⟩ := hk.cells
  exact ⟨_, rfl, ⟨_, rfl, ho.read⟩, q0, q1, q2, q3, q4, q5, hk⟩
theorem KeepZ.eq (hn : P.length ≤ 1048576) {u : Value} (h1 : KeepZ w A X r h v0 s0 P W) (hu : StR W u r h P) :
    Calls Try.prog 34 #[.agg #[.int .i64 r, .int .i64 h, s0], u] W fun e w' => e = .returned (.bool true) ∧ w'.cell? ⟨A, 0, none⟩ = some (.int .i64 r) ∧ w'.cell? ⟨A, 1, none⟩ = some (.int .i64 h) ∧ w'.cell? ⟨A, 2, none⟩ = some v0 ∧ w'.cell? ⟨X, 0, none⟩ = some (.int .i64 r) ∧ w'.cell? ⟨X, 1, none⟩ = some (.int .i64 h) ∧ w'.cell? ⟨X, 2, none⟩ = some s0 ∧ KeepZ w A X r h v0 s0 P w' := by
  refine (eqS_any _ _ r h P hn W ⟨_, rfl, h1.2.2.1.below h1.1⟩ hu).mono ?_
  rintro e w' ⟨rfl, hb⟩
  have hk := h1.below hb
  obtain ⟨q0, q1, q2, q3, q4, q5⟩ := hk.cells
  exact ⟨rfl, q0, q1, q2, q3, q4, q5, hk⟩
end

section
open Go.Joins Go.Deep Go.ChangeShapes Go.WideShapes Go.ChangeAt
variable {H : Type} {enc : TypeId × Value → H} {P : Program} {w : World} {base : Nat} {spare : Nat → Bool} {held : Bool}
/-- A struct of three one-cell fields, by value: its three values, and what each reads as. -/
theorem fields3 {r : Reach} {b0 : Nat} {t : TypeId} {f0 f1 f2 : Field} {v : Value} {d : DataW H} {p : List MemPlace} (hs : P.underlying t = some (.struct #[f0, f1, f2])) (hone : oneCellFields P #[f0, f1, f2] = true) (hC : P.cellsOf t = 3)
    (hv : Value.okWide P w r b0 t v) (h : DataW.Trod enc P w base spare held t v d p) :
    ∃ (v0 v1 v2 : Value) (y0 y1 y2 : DataW H × List MemPlace) (n : Nat), v = .agg #[v0, v1, v2] ∧ p = y0.2 ++ (y1.2 ++ y2.2) ∧
      DataW.trod enc P w base spare held n f0.type [v0] = some y0 ∧ DataW.trod enc P w base spare held n f1.type [v1] = some y1 ∧ DataW.trod enc P w base spare held n f2.type [v2] = some y2 := by
  obtain ⟨cs, rfl, hsz⟩ := okWide_struct hs hv
  obtain ⟨l⟩ := cs
  have hl : l.length = 3 := hsz.trans hC
  obtain ⟨fuel, hf⟩ := h
  obtain ⟨xs, n, _, he, _, hlen, hg⟩ := DataW.trod_struct hs hf
  have hx : xs.length = 3 := hlen
  have k0 := hone_of hone 0 f0 rfl
  have k1 := hone_of hone 1 f1 rfl
  have k2 := hone_of hone 2 f2 rfl
  match l, hl, xs, hx with
  | [c0, c1, c2], _, [y0, y1, y2], _ =>
    refine ⟨c0, c1, c2, y0, y1, y2, n, rfl, ?_, by simpa [Value.cells, k0] using hg 0 f0 rfl, by simpa [Value.cells, k1] using hg 1 f1 rfl, by simpa [Value.cells, k2] using hg 2 f2 rfl⟩
    simp only [Prod.mk.injEq] at he
    simpa using he.2
end
open Go.Joins Go.Deep Go.ChangeShapes Go.WideShapes Go.ChangeAt in
/-- A list of ints that is read off a cell. -/
theorem open_il1 {H : Type} {enc : TypeId × Value → H} {W : World} {v : Value} {fuel : Nat} {y : DataW H × List MemPlace} (hf : DataW.trod enc Try.prog W 0 (fun _ => true) true fuel 24 [v] = some y) (hlt : ∀ x ∈ y.2, x.block < W.heap.size) :
    ∃ O : List Int, O.length ≤ maxLen ∧ IL W v O := by
  obtain ⟨d, p⟩ := y
  have c3 : Try.prog.cellsOf 3 = 1 := by kernel_rfl
  rcases open_ints Try.underlying24 Try.underlying3 c3 hf with ⟨hcs, hx⟩ | ⟨a, len, cap, zs, hcs, _, hl, hm, hz, hx, hcell, _⟩
  · simp at hcs
    subst hcs
    exact ⟨[], Nat.zero_le _, IL.nil _ _ _⟩
  · simp at hcs
    subst hcs
    simp only [if_true] at hz
    simp only [Prod.mk.injEq] at hx
    obtain ⟨-, hp⟩ := hx
    have hzl : (zs.take len).length = len := by simp; omega
    refine ⟨zs.take len, by omega, some a, cap, by rw [hzl], fun h0 => ?_⟩
    rw [hzl] at h0
    obtain ⟨b, off, spot⟩ := a
    have hspot : spot = none := by simpa [Addr.add] using World.cell?_spot (hcell 0 (by omega))
    subst hspot
    have hbW : b < W.heap.size := hlt (.cell b off) (by simp only [hp]; exact MemPlace.mem_row.2 ⟨0, by omega, by simp⟩)
    refine ⟨b, off, rfl, hbW, fun j x hx => ?_⟩
    have hj := lt_of_get hx
    rw [hzl] at hj
    rw [List.getElem?_take, if_pos hj] at hx
    rw [← add_plain, hcell j (by omega)]
    simp [List.getD, hx]
set_option maxRecDepth 100000 in
open Go.Joins Go.Deep Go.ChangeShapes Go.WideShapes Go.ChangeAt in
/-- The law's stowage. -/
theorem open_sto {H : Type} {enc : TypeId × Value → H} {W : World} {r0 : Reach} {b0 : Nat} {v : Value} {d : DataW H} {p : List MemPlace} (hv : Value.okWide Try.prog W r0 b0 49 v) (h : DataW.Trod enc Try.prog W 0 (fun _ => true) true 49 v d p) (hlt : ∀ x ∈ p, x.block < W.heap.size) :
    ∃ (r hh : Int) (P : List Int), P.length ≤ maxLen ∧ StR W v r hh P := by
  obtain ⟨v0, v1, v2, y0, y1, y2, k, rfl, rfl, t0, t1, t2⟩ := fields3 Try.underlying49 (by kernel_rfl) (by kernel_rfl) hv h
  obtain ⟨n0, e0, _, _⟩ := DataW.trod_int Try.underlying3 t0
  obtain ⟨n1, e1, _, _⟩ := DataW.trod_int Try.underlying3 t1
  obtain ⟨O, h1, h2⟩ := open_il1 t2 (fun x hx => hlt x (List.mem_append_right _ (List.mem_append_right _ hx)))
  simp only [List.cons.injEq, and_true] at e0 e1
  subst e0 e1
  exact ⟨n0, n1, O, h1, v2, rfl, h2⟩
end Go.Proofs.Ytpflnjjckeeihaa
