/-
  The laws' own helpers on bays: szBay, toBay, eqBay, markBay, heldBay; and the law's bay, opened. No statement of the seat by itself.
-/
import Derived.Test.YtececghifehjeaaDoorKeep
namespace Go.Proofs.YtececghifehjeaaDoor
open Go.RowKit

/-- A value that reads as a bay. -/
def BdR (w : World) (v : Value) (h : Int) (Y : List (List Int)) : Prop := ∃ v0, v = .agg #[.int .i64 h, v0] ∧ YL w v0 Y
theorem BdR.below {w w' : World} {v : Value} {h : Int} {Y : List (List Int)} (hv : BdR w v h Y) (hb : Below w.heap.size w w') : BdR w' v h Y := by
  obtain ⟨v0, rfl, hv⟩ := hv
  exact ⟨v0, rfl, hv.below hb⟩
/-- A bay of the call's own. -/
def BdO (w : World) (B hi : Nat) (v : Value) (h : Int) (Y : List (List Int)) : Prop := ∃ v0, v = .agg #[.int .i64 h, v0] ∧ OwnY w B hi v0 Y
/-- A bay of the call's own was answered, and nothing older turned. -/
def NewBd (w : World) (h : Int) (Y : List (List Int)) (e : Ending) (w' : World) : Prop := ∃ a c, e = .returned (.agg #[.int .i64 h, .slice a Y.length c]) ∧ OwnY w' w.heap.size w'.heap.size (.slice a Y.length c) Y ∧ Below w.heap.size w w'
/-- A box of a bay. -/
def Box2 (W : World) (A : Nat) (h : Int) (x : Value) : Prop := A < W.heap.size ∧ W.cell? ⟨A, 0, none⟩ = some (.int .i64 h) ∧ W.cell? ⟨A, 1, none⟩ = some x
theorem Box2.below {W W' : World} {A : Nat} {h : Int} {x : Value} (hx : Box2 W A h x) (hb : Below W.heap.size W W') : Box2 W' A h x :=
  ⟨Nat.lt_of_lt_of_le hx.1 hb.size, (hb.cell (p := ⟨A, 0, none⟩) hx.1).trans hx.2.1, (hb.cell (p := ⟨A, 1, none⟩) hx.1).trans hx.2.2⟩
theorem Box2.span {W W' : World} {A lo hi : Nat} {h : Int} {x : Value} (hx : Box2 W A h x) (hs : Span lo hi W W') (ho : A < lo ∨ hi ≤ A) : Box2 W' A h x :=
  ⟨Nat.lt_of_lt_of_le hx.1 hs.size, (World.cell?_of_block (a := ⟨A, 0, none⟩) (hs.block A hx.1 ho)).trans hx.2.1, (World.cell?_of_block (a := ⟨A, 1, none⟩) (hs.block A hx.1 ho)).trans hx.2.2⟩
theorem Box2.new (W : World) (h : Int) (x : Value) (T : TypeId) : Box2 (W.alloc (.cells #[.int .i64 h, x] T)) W.heap.size h x := ⟨by simp, cell_of (heap_alloc_new W _) rfl, cell_of (heap_alloc_new W _) rfl⟩

set_option maxHeartbeats 1000000 in
theorem szB_any (v : Value) (h : Int) (Y : List (List Int)) (L0 : Nat) (hn : Y.length ≤ maxLen) (hs : ∀ (j : Nat) (l : List Int), Y[j]? = some l → l.length ≤ maxLen) (hL0 : L0 ≤ 1048576) (w : World) (hv : BdR w v h Y) :
    Calls Tryd.prog 18 #[v, .int .i64 (L0 : Int)] w (SzP w Y) := by
  obtain ⟨v0, rfl, hv⟩ := hv
  have B0 := below_one w (.cells #[.int .i64 h, v0] 41)
  have HZ := Lib.hid (szSS_any v0 Y L0 hn hs hL0 _ (hv.below B0))
  have HB := Lib.hid B0
  clear B0 hn hs hv
  go_enter Tryd.func18, Tryd.ntmps18
  go_wp2_with fail
  refine HZ.out.mono ?_
  rintro e w1 ⟨hb, rfl | ⟨r, rfl, hr⟩⟩
  · have B1 := Lib.hid (HB.out.trans (hb.mono HB.out.size))
    clear hb
    go_wp2_with fail
    go_ret
    exact ⟨B1.out, .inl rfl⟩
  · have B1 := Lib.hid (HB.out.trans (hb.mono HB.out.size))
    have HR := Lib.hid hr
    clear hb hr
    go_wp2_with fail
    go_ret
    exact ⟨B1.out, .inr ⟨r, rfl, HR.out⟩⟩

/-- Two places of one block. -/
theorem set_cell_at (w : World) (b i j : Nat) (v : Value) (h : i ≠ j) : (w.setCell ⟨b, i, none⟩ v).cell? ⟨b, j, none⟩ = w.cell? ⟨b, j, none⟩ := World.cell?_setCell_other _ _ _ _ (fun e => h (by injection e))

/-- The result's box of a bay has been written. -/
theorem res_bay {w : World} {R : Nat} {x y : Value} (h v : Value) (c0 : w.cell? ⟨R, 0, none⟩ = some x) (c1 : w.cell? ⟨R, 1, none⟩ = some y) : ((w.setCell ⟨R, 0, none⟩ h).setCell ⟨R, 1, none⟩ v).cell? ⟨R, 0, none⟩ = some h ∧ ((w.setCell ⟨R, 0, none⟩ h).setCell ⟨R, 1, none⟩ v).cell? ⟨R, 1, none⟩ = some v :=
  ⟨by rw [set_cell_at _ _ _ _ _ (by decide)]; exact World.cell?_setCell_same _ _ h c0, World.cell?_setCell_same _ _ v (by rw [set_cell_at _ _ _ _ _ (by decide)]; exact c1)⟩

set_option maxRecDepth 100000 in
set_option maxHeartbeats 2000000 in
theorem toB_any (v : Value) (h : Int) (Y : List (List Int)) (hn : Y.length ≤ 1048576) (ht : tot Y ≤ 1048576) (w : World) (hv : BdR w v h Y) :
    Calls Tryd.prog 20 #[v] w (NewBd w h Y) := by
  obtain ⟨v0, rfl, hv⟩ := hv
  have H := Lib.hid hv
  obtain ⟨hk0, hk1, hk2, hs, hB0⟩ := three_alloc w (.cells #[.int .i64 h, v0] 41) (.cells #[.int .i64 0, .slice none 0 0] 26) (.cells #[.int .i64 h, .slice none 0 0] 26)
  clear hv
  go_enter Tryd.func20, Tryd.ntmps20
  go_wp2_with fail
  have B0 := Lib.hid hB0
  clear hB0 hk0
  generalize ((w.alloc (.cells #[.int .i64 h, v0] 41)).alloc (.cells #[.int .i64 0, .slice none 0 0] 26)).alloc (.cells #[.int .i64 h, .slice none 0 0] 26) = W at *
  refine (toSS_any v0 Y hn ht _ (H.out.below B0.out)).mono ?_
  rintro e w1 ⟨a, c, rfl, ho, hb⟩
  have j1 := (hb.block _ (show w.heap.size + 1 < W.heap.size by omega)).trans hk1
  have j2 := (hb.block _ (show w.heap.size + 1 + 1 < W.heap.size by omega)).trans hk2
  have c1 : w1.cell? ⟨w.heap.size + 1, 0, none⟩ = some (.int .i64 0) := cell_of j1 rfl
  have c1b : w1.cell? ⟨w.heap.size + 1, 1, none⟩ = some (.slice none 0 0) := cell_of j1 rfl
  have c2 : w1.cell? ⟨w.heap.size + 1 + 1, 0, none⟩ = some (.int .i64 h) := cell_of j2 rfl
  have c2b : w1.cell? ⟨w.heap.size + 1 + 1, 1, none⟩ = some (.slice none 0 0) := cell_of j2 rfl
  have f1 : ∀ i, w1.frozen? ⟨w.heap.size + 1, i, none⟩ = false := fun i => free_of j1
  have f2 : ∀ i, w1.frozen? ⟨w.heap.size + 1 + 1, i, none⟩ = false := fun i => free_of j2
  have B1 : Hid (Below w.heap.size w w1) := Lib.hid (B0.out.trans (hb.mono B0.out.size))
  have O1 := Lib.hid ho
  rw [hs] at O1
  obtain ⟨m, hm⟩ : ∃ m, Y.length = m := ⟨_, rfl⟩
  have HM := Lib.hid hm
  rw [hm] at O1 ⊢
  clear hb ho j1 j2 hk1 hk2 hm
  go_wp2_with fail
  have e5 : (w1.setCell ⟨w.heap.size + 1 + 1, 1, none⟩ (.slice a m c)).cell? ⟨w.heap.size + 1, 0, none⟩ = some (.int .i64 0) := by rw [set_cell_ne _ _ _ _ _ _ (by omega)]; exact c1
  have e6 : (w1.setCell ⟨w.heap.size + 1 + 1, 1, none⟩ (.slice a m c)).cell? ⟨w.heap.size + 1, 1, none⟩ = some (.slice none 0 0) := by rw [set_cell_ne _ _ _ _ _ _ (by omega)]; exact c1b
  obtain ⟨e7, e8⟩ := res_bay (.int .i64 h) (.slice a m c) e5 e6
  refine bodyPost_ret (v := .agg #[.int .i64 h, .slice a m c]) (by simp [results, Tryd.results20, go_sem, e7, e8]) rfl ⟨a, c, by rw [HM.out], ?_, ((B1.out.setCell (p := ⟨w.heap.size + 1 + 1, 1, none⟩) (by simp; omega) _).setCell (p := ⟨w.heap.size + 1, 0, none⟩) (by simp) _).setCell (p := ⟨w.heap.size + 1, 1, none⟩) (by simp) _⟩
  rw [HM.out]
  have S := ((span_set (w := w1) (lo := w.heap.size) (hi := w.heap.size + 3) (b := w.heap.size + 1 + 1) (i := 1) (by omega) (by omega) (.slice a m c)).trans (span_set (b := w.heap.size + 1) (i := 0) (by omega) (by omega) (.int .i64 h))).trans (span_set (b := w.heap.size + 1) (i := 1) (by omega) (by omega) (.slice a m c))
  exact (O1.out.span S (.inr (Nat.le_refl _))).mono (by omega) (by simp) (Nat.le_refl _)

set_option maxRecDepth 100000 in
set_option maxHeartbeats 1000000 in
theorem eqB_any (v1 v2 : Value) (h : Int) (Y : List (List Int)) (hn : Y.length ≤ 1048576) (ht : tot Y ≤ 1048576) (w : World) (h1 : BdR w v1 h Y) (h2 : BdR w v2 h Y) :
    Calls Tryd.prog 21 #[v1, v2] w fun e w' => e = .returned (.bool true) ∧ Below w.heap.size w w' := by
  obtain ⟨a1, rfl, h1⟩ := h1
  obtain ⟨b1, rfl, h2⟩ := h2
  have HB : Hid (Below w.heap.size w ((w.alloc (.cells #[.int .i64 h, a1] 26)).alloc (.cells #[.int .i64 h, b1] 26))) := Lib.hid (((Below.refl _ _).alloc (Nat.le_refl _) _).alloc (by simp) _)
  have HZ := Lib.hid (eqSS_any a1 b1 Y hn ht _ (h1.below HB.out) (h2.below HB.out))
  have hq : (h != h) = false := by simp
  clear h1 h2
  go_enter Tryd.func21, Tryd.ntmps21
  go_wp2_with fail
  refine HZ.out.mono ?_
  rintro e w1 ⟨rfl, q, rfl⟩
  have B1 := Lib.hid (below_drewN HB.out q)
  go_wp2_with fail
  go_ret
  exact ⟨rfl, B1.out⟩

set_option maxRecDepth 100000 in
set_option maxHeartbeats 1000000 in
theorem markB_any (v : Value) (h : Int) (Y : List (List Int)) (k0 : Int) (B hi : Nat) (hn : Y.length ≤ 1048576) (ht : tot Y ≤ 1048576) (hk0 : 0 ≤ k0) (hk1 : k0 ≤ 1000000) (w : World) (hv : BdO w B hi v h Y) :
    Calls Tryd.prog 23 #[v, .int .i64 k0] w fun e w' => e = .returned (.int .i64 (k0 + (tot Y : Nat))) ∧ BdO w' B hi v h (mkY k0 Y Y.length) ∧ Span B hi w w' := by
  obtain ⟨v0, rfl, hv⟩ := hv
  have B0 := below_one w (.cells #[.int .i64 h, v0] 26)
  have HZ := Lib.hid (markSS_any v0 Y k0 B hi hn ht hk0 hk1 _ (hv.below B0))
  have HS : Hid (Span B hi w (w.alloc (.cells #[.int .i64 h, v0] 26))) := Lib.hid (Span.of_below B0)
  clear hv B0
  go_enter Tryd.func23, Tryd.ntmps23
  go_wp2_with fail
  refine HZ.out.mono ?_
  rintro e w1 ⟨rfl, ho, hs⟩
  have S1 := Lib.hid (HS.out.trans hs)
  have O1 := Lib.hid ho
  clear ho hs
  go_wp2_with fail
  go_ret
  exact ⟨rfl, ⟨v0, rfl, O1.out⟩, S1.out⟩

set_option maxRecDepth 100000 in
set_option maxHeartbeats 1000000 in
theorem heldB_any (v : Value) (h : Int) (Y : List (List Int)) (k0 : Int) (hn : Y.length ≤ 1048576) (ht : tot Y ≤ 1048576) (hk0 : 0 ≤ k0) (hk1 : k0 ≤ 1000000) (w : World) (hv : BdR w v h (mkY k0 Y Y.length)) :
    Calls Tryd.prog 24 #[v, .int .i64 k0] w fun e w' => e = .returned (.int .i64 (k0 + (tot Y : Nat))) ∧ Below w.heap.size w w' := by
  obtain ⟨v0, rfl, hv⟩ := hv
  have HB := Lib.hid (below_one w (.cells #[.int .i64 h, v0] 26))
  have HZ := Lib.hid (heldSS_any v0 Y k0 hn ht hk0 hk1 _ (hv.below HB.out))
  have h0 : 0 ≤ k0 + (tot Y : Nat) := by omega
  clear hv
  go_enter Tryd.func24, Tryd.ntmps24
  go_wp2_with fail
  refine HZ.out.mono ?_
  rintro e w1 ⟨rfl, hb⟩
  have B1 := Lib.hid (HB.out.trans (hb.mono HB.out.size))
  clear hb
  go_wp2_with fail
  go_ret
  exact ⟨rfl, B1.out⟩

/-- What stays while the last question is asked. -/
def KeepB (w : World) (A X : Nat) (h : Int) (v0 s0 : Value) (Y : List (List Int)) (W : World) : Prop := Below w.heap.size w W ∧ YL w v0 Y ∧ YL w s0 Y ∧ Box2 W A h v0 ∧ Box2 W X h s0
section
variable {w W W' : World} {A X : Nat} {h : Int} {v0 s0 : Value} {Y : List (List Int)}
theorem KeepB.start (h1 : BdR w (.agg #[.int .i64 h, v0]) h Y) (h2 : BdR w (.agg #[.int .i64 h, s0]) h Y) (h3 : Box2 w A h v0) (h4 : Box2 w X h s0) : KeepB w A X h v0 s0 Y w := by
  obtain ⟨a, e, h1⟩ := h1
  obtain ⟨b, e2, h2⟩ := h2
  simp only [Value.agg.injEq, Array.mk.injEq, List.cons.injEq, true_and, and_true] at e e2
  subst e e2
  exact ⟨Below.refl _ _, h1, h2, h3, h4⟩
theorem KeepB.below (h1 : KeepB w A X h v0 s0 Y W) (hb : Below W.heap.size W W') : KeepB w A X h v0 s0 Y W' :=
  ⟨h1.1.trans (hb.mono h1.1.size), h1.2.1, h1.2.2.1, h1.2.2.2.1.below hb, h1.2.2.2.2.below hb⟩
theorem KeepB.drew (h1 : KeepB w A X h v0 s0 Y W) : KeepB w A X h v0 s0 Y W.drew := h1.below ⟨rfl, rfl, rfl, Nat.le_refl _, fun _ _ => rfl⟩
theorem KeepB.cells (h1 : KeepB w A X h v0 s0 Y W) : W.cell? ⟨A, 0, none⟩ = some (.int .i64 h) ∧ W.cell? ⟨A, 1, none⟩ = some v0 ∧ W.cell? ⟨X, 0, none⟩ = some (.int .i64 h) ∧ W.cell? ⟨X, 1, none⟩ = some s0 := ⟨h1.2.2.2.1.2.1, h1.2.2.2.1.2.2, h1.2.2.2.2.2.1, h1.2.2.2.2.2.2⟩
theorem KeepB.to (hn : Y.length ≤ 1048576) (ht : tot Y ≤ 1048576) (h1 : KeepB w A X h v0 s0 Y W) :
    Calls Tryd.prog 20 #[.agg #[.int .i64 h, v0]] W fun e w' => ∃ u, e = .returned u ∧ BdR w' u h Y ∧ w'.cell? ⟨A, 0, none⟩ = some (.int .i64 h) ∧ w'.cell? ⟨A, 1, none⟩ = some v0 ∧ w'.cell? ⟨X, 0, none⟩ = some (.int .i64 h) ∧ w'.cell? ⟨X, 1, none⟩ = some s0 ∧ KeepB w A X h v0 s0 Y w' := by
  refine (toB_any _ h Y hn ht W ⟨_, rfl, h1.2.1.below h1.1⟩).mono ?_
  rintro e w' ⟨a, c, rfl, ho, hb⟩
  have hk := h1.below hb
  obtain ⟨q0, q1, q2, q3⟩ := hk.cells
  exact ⟨_, rfl, ⟨_, rfl, ho.yl⟩, q0, q1, q2, q3, hk⟩
theorem KeepB.eq (hn : Y.length ≤ 1048576) (ht : tot Y ≤ 1048576) {u : Value} (h1 : KeepB w A X h v0 s0 Y W) (hu : BdR W u h Y) :
    Calls Tryd.prog 21 #[.agg #[.int .i64 h, s0], u] W fun e w' => e = .returned (.bool true) ∧ w'.cell? ⟨A, 0, none⟩ = some (.int .i64 h) ∧ w'.cell? ⟨A, 1, none⟩ = some v0 ∧ w'.cell? ⟨X, 0, none⟩ = some (.int .i64 h) ∧ w'.cell? ⟨X, 1, none⟩ = some s0 ∧ KeepB w A X h v0 s0 Y w' := by
  refine (eqB_any _ _ h Y hn ht W ⟨_, rfl, h1.2.2.1.below h1.1⟩ hu).mono ?_
  rintro e w' ⟨rfl, hb⟩
  have hk := h1.below hb
  obtain ⟨q0, q1, q2, q3⟩ := hk.cells
  exact ⟨rfl, q0, q1, q2, q3, hk⟩
end

section
open Go.Joins Go.Deep Go.ChangeShapes Go.WideShapes Go.ChangeAt
variable {H : Type} {enc : TypeId × Value → H} {P : Program} {w : World} {base : Nat} {spare : Nat → Bool} {held : Bool}
/-- A struct of two one-cell fields, by value: its two values, and what each reads as. -/
theorem fields2 {r : Reach} {b0 : Nat} {t : TypeId} {f0 f1 : Field} {v : Value} {d : DataW H} {p : List MemPlace} (hs : P.underlying t = some (.struct #[f0, f1])) (hone : oneCellFields P #[f0, f1] = true) (hC : P.cellsOf t = 2)
    (hv : Value.okWide P w r b0 t v) (h : DataW.Trod enc P w base spare held t v d p) :
    ∃ (v0 v1 : Value) (y0 y1 : DataW H × List MemPlace) (n : Nat), v = .agg #[v0, v1] ∧ p = y0.2 ++ y1.2 ∧
      DataW.trod enc P w base spare held n f0.type [v0] = some y0 ∧ DataW.trod enc P w base spare held n f1.type [v1] = some y1 := by
  obtain ⟨cs, rfl, hsz⟩ := okWide_struct hs hv
  obtain ⟨l⟩ := cs
  have hl : l.length = 2 := hsz.trans hC
  obtain ⟨fuel, hf⟩ := h
  obtain ⟨y0, y1, n, hx, _, g0, g1⟩ := trod_struct2 hs hf
  simp only [Prod.mk.injEq] at hx
  obtain ⟨-, hp⟩ := hx
  have k0 := hone_of hone 0 f0 rfl
  have k1 := hone_of hone 1 f1 rfl
  match l, hl with
  | [c0, c1], _ =>
    exact ⟨c0, c1, y0, y1, n, rfl, hp, by simpa [k0, Value.cells] using g0, by simpa [k1, Value.cells] using g1⟩
end
set_option maxRecDepth 100000 in
open Go.Joins Go.Deep Go.ChangeShapes Go.WideShapes Go.ChangeAt in
/-- The law's bay. -/
theorem open_bay {H : Type} {enc : TypeId × Value → H} {W : World} {r : Reach} {b0 : Nat} {v : Value} {d : DataW H} {p : List MemPlace} (hv : Value.okWide Tryd.prog W r b0 41 v) (h : DataW.Trod enc Tryd.prog W 0 (fun _ => true) true 41 v d p) (hlt : ∀ x ∈ p, x.block < W.heap.size) :
    ∃ (hh : Int) (Y : List (List Int)), Y.length ≤ maxLen ∧ (∀ (j : Nat) (l : List Int), Y[j]? = some l → l.length ≤ maxLen) ∧ BdR W v hh Y := by
  obtain ⟨v0, v1, y0, y1, k, rfl, rfl, t0, t1⟩ := fields2 Tryd.underlying41 (by kernel_rfl) (by kernel_rfl) hv h
  obtain ⟨n0, e0, _, _⟩ := DataW.trod_int Tryd.underlying3 t0
  obtain ⟨Y, h1, h2, h3⟩ := open_yl t1 (fun x hx => hlt x (List.mem_append_right _ hx))
  simp only [List.cons.injEq, and_true] at e0
  subst e0
  exact ⟨n0, Y, h1, h2, v1, rfl, h3⟩
end Go.Proofs.YtececghifehjeaaDoor
