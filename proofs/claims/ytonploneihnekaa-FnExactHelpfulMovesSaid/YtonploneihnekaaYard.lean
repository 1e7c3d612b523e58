/-
  The laws' own helpers on yards: szYard, toYard, eqYard, markYard, heldYard; and the law's yard, opened. No statement of the seat by itself.
-/
import Derived.Test.YtonploneihnekaaYMark
import Derived.Deep.Slices
import Derived.Deep.Fields
import Derived.Deep.Matrix
import Derived.ChangeSame
import Derived.Lib.SmallJoins
import Derived.ProofKit
import Derived.OpenShut
import Derived.Carry
namespace Go.Proofs.Ytonploneihnekaa
open Go.RowKit

/-- A value that reads as a yard. -/
def YdR (w : World) (v : Value) (Y : List (List Int)) : Prop := ∃ v0, v = .agg #[v0] ∧ YL w v0 Y
theorem YdR.below {w w' : World} {v : Value} {Y : List (List Int)} (h : YdR w v Y) (hb : Below w.heap.size w w') : YdR w' v Y := by
  obtain ⟨v0, rfl, h⟩ := h
  exact ⟨v0, rfl, h.below hb⟩
/-- A yard of the call's own. -/
def YdO (w : World) (B hi : Nat) (v : Value) (Y : List (List Int)) : Prop := ∃ v0, v = .agg #[v0] ∧ OwnY w B hi v0 Y
theorem YdO.read {w : World} {B hi : Nat} {v : Value} {Y : List (List Int)} (h : YdO w B hi v Y) : YdR w v Y := by
  obtain ⟨v0, rfl, h⟩ := h
  exact ⟨v0, rfl, h.yl⟩
theorem YdO.below {w w' : World} {B hi : Nat} {v : Value} {Y : List (List Int)} (h : YdO w B hi v Y) (hb : Below w.heap.size w w') : YdO w' B hi v Y := by
  obtain ⟨v0, rfl, h⟩ := h
  exact ⟨v0, rfl, h.below hb⟩
theorem YdO.span {w w' : World} {B hi lo' hi' : Nat} {v : Value} {Y : List (List Int)} (h : YdO w B hi v Y) (hs : Span lo' hi' w w') (ho : hi ≤ lo' ∨ hi' ≤ B) : YdO w' B hi v Y := by
  obtain ⟨v0, rfl, h⟩ := h
  exact ⟨v0, rfl, h.span hs ho⟩
/-- A yard of the call's own was answered, and nothing older turned. -/
def NewYd (w : World) (Y : List (List Int)) (e : Ending) (w' : World) : Prop := ∃ a c, e = .returned (.agg #[.slice a Y.length c]) ∧ OwnY w' w.heap.size w'.heap.size (.slice a Y.length c) Y ∧ Below w.heap.size w w'

set_option maxHeartbeats 1000000 in
theorem szY_any (v : Value) (Y : List (List Int)) (L0 : Nat) (hn : Y.length ≤ maxLen) (hs : ∀ (j : Nat) (l : List Int), Y[j]? = some l → l.length ≤ maxLen) (hL0 : L0 ≤ 1048576) (w : World) (h : YdR w v Y) :
    Calls Try.prog 9 #[v, .int .i64 (L0 : Int)] w (SzP w Y) := by
  obtain ⟨v0, rfl, h⟩ := h
  have B0 := below_one w (.cells #[v0] 24)
  have HZ := Lib.hid (szSS_any v0 Y L0 hn hs hL0 _ (h.below B0))
  have HB := Lib.hid B0
  clear B0 hn hs h
  go_enter Try.func9, Try.ntmps9
  go_wp2_with fail
  refine HZ.out.mono ?_
  rintro e w1 ⟨hb, rfl | ⟨r, rfl, hr⟩⟩
  · have B1 := Lib.hid (HB.out.trans (hb.mono HB.out.size))
    clear hb
    go_wp2_with fail
    go_ret
    exact ⟨B1.out, .inl rfl⟩
  · have B1 := Lib.hid (HB.out.trans (hb.mono HB.out.size))
    have HR := Lib.hid hr
    clear hb hr
    go_wp2_with fail
    go_ret
    exact ⟨B1.out, .inr ⟨r, rfl, HR.out⟩⟩

theorem three_alloc (w : World) (o1 o2 o3 : Obj) : (((w.alloc o1).alloc o2).alloc o3).heap[w.heap.size]? = some o1 ∧ (((w.alloc o1).alloc o2).alloc o3).heap[w.heap.size + 1]? = some o2 ∧ (((w.alloc o1).alloc o2).alloc o3).heap[w.heap.size + 1 + 1]? = some o3 ∧ (((w.alloc o1).alloc o2).alloc o3).heap.size = w.heap.size + 3 ∧ Below w.heap.size w (((w.alloc o1).alloc o2).alloc o3) := by
  have s1 : (w.alloc o1).heap.size = w.heap.size + 1 := by simp
  have s2 : ((w.alloc o1).alloc o2).heap.size = w.heap.size + 1 + 1 := by simp
  refine ⟨?_, ?_, ?_, by simp, (((Below.refl _ _).alloc (Nat.le_refl _) _).alloc (by simp) _).alloc (by simp; omega) _⟩
  · rw [heap_alloc_old _ _ _ (by omega), heap_alloc_old _ _ _ (by omega)]
    exact heap_alloc_new w o1
  · rw [heap_alloc_old _ _ _ (by omega), ← s1]
    exact heap_alloc_new _ o2
  · rw [← s2]
    exact heap_alloc_new _ o3
theorem span_set {w : World} {lo hi b i : Nat} (h1 : lo ≤ b) (h2 : b < hi) (v : Value) : Span lo hi w (w.setCell ⟨b, i, none⟩ v) :=
  ⟨rfl, rfl, rfl, by simp, fun k _ ho => Below.heap_setCell w ⟨b, i, none⟩ v k (by show k ≠ b; omega)⟩
/-- A cell of a block that is not touched. -/
theorem set_cell_ne (w : World) (b i c j : Nat) (v : Value) (h : c ≠ b) : (w.setCell ⟨b, i, none⟩ v).cell? ⟨c, j, none⟩ = w.cell? ⟨c, j, none⟩ := World.cell?_of_block (a := ⟨c, j, none⟩) (Below.heap_setCell w ⟨b, i, none⟩ v c h)

set_option maxRecDepth 100000 in
set_option maxHeartbeats 1000000 in
theorem toY_any (v : Value) (Y : List (List Int)) (hn : Y.length ≤ 1048576) (ht : tot Y ≤ 1048576) (w : World) (h : YdR w v Y) :
    Calls Try.prog 12 #[v] w (NewYd w Y) := by
  obtain ⟨v0, rfl, h⟩ := h
  have H := Lib.hid h
  obtain ⟨hk0, hk1, hk2, hs, hB0⟩ := three_alloc w (.cells #[v0] 24) (.cells #[.slice none 0 0] 31) (.cells #[.slice none 0 0] 31)
  clear h
  go_enter Try.func12, Try.ntmps12
  go_wp2_with fail
  have B0 := Lib.hid hB0
  have c0 : (((w.alloc (.cells #[v0] 24)).alloc (.cells #[.slice none 0 0] 31)).alloc (.cells #[.slice none 0 0] 31)).cell? ⟨w.heap.size, 0, none⟩ = some v0 := cell_of hk0 rfl
  clear hB0 hk0
  generalize ((w.alloc (.cells #[v0] 24)).alloc (.cells #[.slice none 0 0] 31)).alloc (.cells #[.slice none 0 0] 31) = W at *
  clear c0
  refine (toSS_any v0 Y hn ht _ (H.out.below B0.out)).mono ?_
  rintro e w1 ⟨a, c, rfl, ho, hb⟩
  have j1 := (hb.block _ (show w.heap.size + 1 < W.heap.size by omega)).trans hk1
  have j2 := (hb.block _ (show w.heap.size + 1 + 1 < W.heap.size by omega)).trans hk2
  have c1 : w1.cell? ⟨w.heap.size + 1, 0, none⟩ = some (.slice none 0 0) := cell_of j1 rfl
  have c2 : w1.cell? ⟨w.heap.size + 1 + 1, 0, none⟩ = some (.slice none 0 0) := cell_of j2 rfl
  have f1 : ∀ i, w1.frozen? ⟨w.heap.size + 1, i, none⟩ = false := fun i => free_of j1
  have f2 : ∀ i, w1.frozen? ⟨w.heap.size + 1 + 1, i, none⟩ = false := fun i => free_of j2
  have B1 : Hid (Below w.heap.size w w1) := Lib.hid (B0.out.trans (hb.mono B0.out.size))
  have O1 := Lib.hid ho
  rw [hs] at O1
  obtain ⟨m, hm⟩ : ∃ m, Y.length = m := ⟨_, rfl⟩
  have HM := Lib.hid hm
  rw [hm] at O1 ⊢
  clear hb ho j1 j2 hk1 hk2 hm
  go_wp2_with fail
  have e5 : (w1.setCell ⟨w.heap.size + 1 + 1, 0, none⟩ (.slice a m c)).cell? ⟨w.heap.size + 1, 0, none⟩ = some (.slice none 0 0) := by rw [set_cell_ne _ _ _ _ _ _ (by omega)]; exact c1
  have e7 := World.cell?_setCell_same _ _ (.slice a m c) e5
  refine bodyPost_ret (v := .agg #[.slice a m c]) (by simp [results, Try.results12, go_sem, e7]) rfl ⟨a, c, by rw [HM.out], ?_, (B1.out.setCell (p := ⟨w.heap.size + 1 + 1, 0, none⟩) (by simp; omega) _).setCell (p := ⟨w.heap.size + 1, 0, none⟩) (by simp) _⟩
  rw [HM.out]
  have S := (span_set (w := w1) (lo := w.heap.size) (hi := w.heap.size + 3) (b := w.heap.size + 1 + 1) (i := 0) (by omega) (by omega) (.slice a m c)).trans (span_set (b := w.heap.size + 1) (i := 0) (by omega) (by omega) (.slice a m c))
  exact (O1.out.span S (.inr (Nat.le_refl _))).mono (by omega) (by simp) (Nat.le_refl _)

set_option maxRecDepth 100000 in
set_option maxHeartbeats 1000000 in
theorem eqY_any (v1 v2 : Value) (Y : List (List Int)) (hn : Y.length ≤ 1048576) (ht : tot Y ≤ 1048576) (w : World) (h1 : YdR w v1 Y) (h2 : YdR w v2 Y) :
    Calls Try.prog 16 #[v1, v2] w fun e w' => e = .returned (.bool true) ∧ Below w.heap.size w w' := by
  obtain ⟨a1, rfl, h1⟩ := h1
  obtain ⟨b1, rfl, h2⟩ := h2
  have HB : Hid (Below w.heap.size w ((w.alloc (.cells #[a1] 31)).alloc (.cells #[b1] 31))) := Lib.hid (((Below.refl _ _).alloc (Nat.le_refl _) _).alloc (by simp) _)
  have HZ := Lib.hid (eqSS_any a1 b1 Y hn ht _ (h1.below HB.out) (h2.below HB.out))
  clear h1 h2
  go_enter Try.func16, Try.ntmps16
  go_wp2_with fail
  refine HZ.out.mono ?_
  rintro e w1 ⟨rfl, q, rfl⟩
  have B1 := Lib.hid (below_drewN HB.out q)
  go_wp2_with fail
  go_ret
  exact ⟨rfl, B1.out⟩

set_option maxRecDepth 100000 in
set_option maxHeartbeats 1000000 in
theorem markY_any (v : Value) (Y : List (List Int)) (k0 : Int) (B hi : Nat) (hn : Y.length ≤ 1048576) (ht : tot Y ≤ 1048576) (hk0 : 0 ≤ k0) (hk1 : k0 ≤ 1000000) (w : World) (h : YdO w B hi v Y) :
    Calls Try.prog 18 #[v, .int .i64 k0] w fun e w' => e = .returned (.int .i64 (k0 + (tot Y : Nat))) ∧ YdO w' B hi v (mkY k0 Y Y.length) ∧ Span B hi w w' := by
  obtain ⟨v0, rfl, h⟩ := h
  have B0 := below_one w (.cells #[v0] 31)
  have HZ := Lib.hid (markSS_any v0 Y k0 B hi hn ht hk0 hk1 _ (h.below B0))
  have HS : Hid (Span B hi w (w.alloc (.cells #[v0] 31))) := Lib.hid (Span.of_below B0)
  clear h B0
  go_enter Try.func18, Try.ntmps18
  go_wp2_with fail
  refine HZ.out.mono ?_
  rintro e w1 ⟨rfl, ho, hs⟩
  have S1 := Lib.hid (HS.out.trans hs)
  have O1 := Lib.hid ho
  clear ho hs
  go_wp2_with fail
  go_ret
  exact ⟨rfl, ⟨v0, rfl, O1.out⟩, S1.out⟩

section
open Go.Joins Go.Deep Go.ChangeShapes Go.WideShapes Go.ChangeAt
variable {H : Type} {enc : TypeId × Value → H} {P : Program} {w : World} {base : Nat} {spare : Nat → Bool} {held : Bool}
/-- A struct of one one-cell field, by value: its value, and what it reads as. -/
theorem fields1 {r : Reach} {b0 : Nat} {t : TypeId} {f0 : Field} {v : Value} {d : DataW H} {p : List MemPlace} (hs : P.underlying t = some (.struct #[f0])) (hone : oneCellFields P #[f0] = true) (hC : P.cellsOf t = 1)
    (hv : Value.okWide P w r b0 t v) (h : DataW.Trod enc P w base spare held t v d p) :
    ∃ (v0 : Value) (y0 : DataW H × List MemPlace) (n : Nat), v = .agg #[v0] ∧ p = y0.2 ∧ DataW.trod enc P w base spare held n f0.type [v0] = some y0 := by
  obtain ⟨cs, rfl, hsz⟩ := okWide_struct hs hv
  obtain ⟨l⟩ := cs
  have hl : l.length = 1 := hsz.trans hC
  obtain ⟨fuel, hf⟩ := h
  obtain ⟨y0, n, hx, _, g0⟩ := trod_struct1 hs hf
  simp only [Prod.mk.injEq] at hx
  obtain ⟨-, hp⟩ := hx
  have k0 := hone_of hone 0 f0 rfl
  match l, hl with
  | [c0], _ =>
    exact ⟨c0, y0, n, rfl, hp, by simpa [k0, Value.cells] using g0⟩
end

open Go.Joins Go.Deep Go.ChangeShapes Go.WideShapes Go.ChangeAt in
/-- A slice of slices of ints that came in. -/
theorem open_yl {H : Type} {enc : TypeId × Value → H} {W : World} {v : Value} {n : Nat} {y : DataW H × List MemPlace} (h : DataW.trod enc Try.prog W 0 (fun _ => true) true n 22 [v] = some y) (hlt : ∀ x ∈ y.2, x.block < W.heap.size) :
    ∃ Y : List (List Int), Y.length ≤ maxLen ∧ (∀ (j : Nat) (l : List Int), Y[j]? = some l → l.length ≤ maxLen) ∧ YL W v Y := by
  rcases open_int_rows Try.underlying22 Try.underlying44 Try.underlying3 (by kernel_rfl) (by kernel_rfl) h with ⟨hcs, hx⟩ | ⟨a, len, cap, A, L, C, Z, hcs, _, hl, hm, hx, hr⟩
  · simp only [List.cons.injEq, and_true] at hcs
    subst hcs
    exact ⟨[], Nat.zero_le _, fun j l hl => by simp at hl, none, 0, rfl, fun h => by simp at h⟩
  · simp only [List.cons.injEq, and_true] at hcs
    subst hcs
    refine ⟨(List.range len).map fun r => (Z r).take (L r), by simp; omega, fun j l hl => ?_, some a, cap, by simp, fun h0 => ?_⟩
    · have hj : j < len := by
        rcases Nat.lt_or_ge j len with h | h
        · exact h
        · rw [List.getElem?_eq_none (by simpa using h)] at hl; cases hl
      obtain ⟨_, h2, h3, h4, _⟩ := hr j (by omega)
      simp [hj] at hl
      subst hl
      simp
      omega
    · simp at h0
      obtain ⟨b, off, spot⟩ := a
      have hspot : spot = none := by simpa [Addr.add] using World.cell?_spot (hr 0 (by omega)).1
      subst hspot
      have hbW : b < W.heap.size := hlt (.cell b off) (by rw [hx]; exact List.mem_append_left _ (MemPlace.mem_row.2 ⟨0, by omega, by simp⟩))
      refine ⟨b, off, rfl, hbW, fun j l hl => ?_⟩
      have hj : j < len := by
        rcases Nat.lt_or_ge j len with h | h
        · exact h
        · rw [List.getElem?_eq_none (by simpa using h)] at hl; cases hl
      simp [hj] at hl
      subst hl
      obtain ⟨h1, h2, h3, h4, h5, h6, h7⟩ := hr j (by omega)
      have hlen : ((Z j).take (L j)).length = L j := by simp; omega
      refine ⟨_, by rw [← add_plain]; exact h1, A j, C j, by rw [hlen], fun h0 => ?_⟩
      rw [hlen] at h0
      cases hA : A j with
      | none => have := h6 hA; omega
      | some a' =>
        obtain ⟨b', off', spot'⟩ := a'
        have hc0 := (h7 _ hA).2 0 (by omega)
        have hspot' : spot' = none := by simpa [Addr.add] using World.cell?_spot hc0
        subst hspot'
        have hbW' : b' < W.heap.size := hlt (.cell b' off') (by
          rw [hx]
          refine List.mem_append_right _ (List.mem_flatMap.2 ⟨j, List.mem_range.2 (by omega), ?_⟩)
          rw [hA]
          exact MemPlace.mem_row.2 ⟨0, by omega, by simp⟩)
        refine ⟨b', off', rfl, hbW', fun c x hx' => ?_⟩
        have hc : c < L j := by
          rcases Nat.lt_or_ge c (L j) with h | h
          · exact h
          · rw [List.getElem?_eq_none (by rw [hlen]; exact h)] at hx'; cases hx'
        rw [← add_plain, (h7 _ hA).2 c (by omega)]
        rw [List.getElem?_take, if_pos hc] at hx'
        simp [List.getD, hx']

set_option maxRecDepth 100000 in
open Go.Joins Go.Deep Go.ChangeShapes Go.WideShapes Go.ChangeAt in
/-- The law's yard. -/
theorem open_yard {H : Type} {enc : TypeId × Value → H} {W : World} {r : Reach} {b0 : Nat} {v : Value} {d : DataW H} {p : List MemPlace} (hv : Value.okWide Try.prog W r b0 24 v) (h : DataW.Trod enc Try.prog W 0 (fun _ => true) true 24 v d p) (hlt : ∀ x ∈ p, x.block < W.heap.size) :
    ∃ Y : List (List Int), Y.length ≤ maxLen ∧ (∀ (j : Nat) (l : List Int), Y[j]? = some l → l.length ≤ maxLen) ∧ YdR W v Y := by
  obtain ⟨v0, y0, k, rfl, rfl, t0⟩ := fields1 Try.underlying24 (by kernel_rfl) (by kernel_rfl) hv h
  obtain ⟨Y, h1, h2, h3⟩ := open_yl t0 hlt
  exact ⟨Y, h1, h2, v0, rfl, h3⟩
theorem yard_laidOut : laidOutB Try.prog = true := by kernel_rfl
theorem yard_own : ownKnob Try.prog.godebug = none := by kernel_rfl
end Go.Proofs.Ytonploneihnekaa
