/-
  The laws' own helpers on yards: szYard, toYard, eqYard, markYard, heldYard; and the law's yard, opened. No statement of the seat by itself.
-/
import Derived.Test.YtpljcpeghjplnaaYMark
import Derived.Deep.Slices
import Derived.Deep.Fields
import Derived.Deep.Matrix
import Derived.ChangeSame
import Derived.Lib.SmallJoins
import Derived.ProofKit
import Derived.OpenShut
import Derived.Carry
namespace Go.Proofs.Ytpljcpeghjplnaa
open Go.RowKit

/-- A value that reads as a yard. -/
def YdR (w : World) (v : Value) (Y : List (List Int)) : Prop := ∃ v0, v = .agg #[v0] ∧ YL w v0 Y
theorem YdR.below {w w' : World} {v : Value} {Y : List (List Int)} (h : YdR w v Y) (hb : Below w.heap.size w w') : YdR w' v Y := by
  obtain ⟨v0, rfl, h⟩ := h
  exact ⟨v0, rfl, h.below hb⟩
/-- A yard of the call's own. -/
def YdO (w : World) (B hi : Nat) (v : Value) (Y : List (List Int)) : Prop := ∃ v0, v = .agg #[v0] ∧ OwnY w B hi v0 Y
theorem YdO.read {w : World} {B hi : Nat} {v : Value} {Y : List (List Int)} (h : YdO w B hi v Y) : YdR w v Y := by
  obtain ⟨v0, rfl, h⟩ := h
  exact ⟨v0, rfl, h.yl⟩
theorem YdO.below {w w' : World} {B hi : Nat} {v : Value} {Y : List (List Int)} (h : YdO w B hi v Y) (hb : Below w.heap.size w w') : YdO w' B hi v Y := by
  obtain ⟨v0, rfl, h⟩ := h
  exact ⟨v0, rfl, h.below hb⟩
theorem YdO.span {w w' : World} {B hi lo' hi' : Nat} {v : Value} {Y : List (List Int)} (h : YdO w B hi v Y) (hs : Span lo' hi' w w') (ho : hi ≤ lo' ∨ hi' ≤ B) : YdO w' B hi v Y := by
  obtain ⟨v0, rfl, h⟩ := h
  exact ⟨v0, rfl, h.span hs ho⟩
/-- A yard of the call's own was answered, and nothing older turned. -/
def NewYd (w : World) (Y : List (List Int)) (e : Ending) (w' : World) : Prop := ∃ a c, e = .returned (.agg #[.slice a Y.length c]) ∧ OwnY w' w.heap.size w'.heap.size (.slice a Y.length c) Y ∧ Below w.heap.size w w'

theorem three_alloc (w : World) (o1 o2 o3 : Obj) : (((w.alloc o1).alloc o2).alloc o3).heap[w.heap.size]? = some o1 ∧ (((w.alloc o1).alloc o2).alloc o3).heap[w.heap.size + 1]? = some o2 ∧ (((w.alloc o1).alloc o2).alloc o3).heap[w.heap.size + 1 + 1]? = some o3 ∧ (((w.alloc o1).alloc o2).alloc o3).heap.size = w.heap.size + 3 ∧ Below w.heap.size w (((w.alloc o1).alloc o2).alloc o3) := by
  have s1 : (w.alloc o1).heap.size = w.heap.size + 1 := by simp
  have s2 : ((w.alloc o1).alloc o2).heap.size = w.heap.size + 1 + 1 := by simp
  refine ⟨?_, ?_, ?_, by simp, (((Below.refl _ _).alloc (Nat.le_refl _) _).alloc (by simp) _).alloc (by simp; omega) _⟩
  · rw [heap_alloc_old _ _ _ (by omega), heap_alloc_old _ _ _ (by omega)]
    exact heap_alloc_new w o1
  · rw [heap_alloc_old _ _ _ (by omega), ← s1]
    exact heap_alloc_new _ o2
  · rw [← s2]
    exact heap_alloc_new _ o3
theorem span_set {w : World} {lo hi b i : Nat} (h1 : lo ≤ b) (h2 : b < hi) (v : Value) : Span lo hi w (w.setCell ⟨b, i, none⟩ v) :=
  ⟨rfl, rfl, rfl, by simp, fun k _ ho => Below.heap_setCell w ⟨b, i, none⟩ v k (by show k ≠ b; omega)⟩
/-- A cell of a block that is not touched. -/
theorem set_cell_ne (w : World) (b i c j : Nat) (v : Value) (h : c ≠ b) : (w.setCell ⟨b, i, none⟩ v).cell? ⟨c, j, none⟩ = w.cell? ⟨c, j, none⟩ := World.cell?_of_block (a := ⟨c, j, none⟩) (Below.heap_setCell w ⟨b, i, none⟩ v c h)

section
open Go.Joins Go.Deep Go.ChangeShapes Go.WideShapes Go.ChangeAt
variable {H : Type} {enc : TypeId × Value → H} {P : Program} {w : World} {base : Nat} {spare : Nat → Bool} {held : Bool}
/-- A struct of one one-cell field, by value: its value, and what it reads as. -/
theorem fields1 {r : Reach} {b0 : Nat} {t : TypeId} {f0 : Field} {v : Value} {d : DataW H} {p : List MemPlace} (hs : P.underlying t = some (.struct #[f0])) (hone : oneCellFields P #[f0] = true) (hC : P.cellsOf t = 1)
    (hv : Value.okWide P w r b0 t v) (h : DataW.Trod enc P w base spare held t v d p) :
    ∃ (v0 : Value) (y0 : DataW H × List MemPlace) (n : Nat), v = .agg #[v0] ∧ p = y0.2 ∧ DataW.trod enc P w base spare held n f0.type [v0] = some y0 := by
  obtain ⟨cs, rfl, hsz⟩ := okWide_struct hs hv
  obtain ⟨l⟩ := cs
  have hl : l.length = 1 := hsz.trans hC
  obtain ⟨fuel, hf⟩ := h
  obtain ⟨y0, n, hx, _, g0⟩ := trod_struct1 hs hf
  simp only [Prod.mk.injEq] at hx
  obtain ⟨-, hp⟩ := hx
  have k0 := hone_of hone 0 f0 rfl
  match l, hl with
  | [c0], _ =>
    exact ⟨c0, y0, n, rfl, hp, by simpa [k0, Value.cells] using g0⟩
end

open Go.Joins Go.Deep Go.ChangeShapes Go.WideShapes Go.ChangeAt in
/-- A slice of slices of ints that came in. -/
theorem open_yl {H : Type} {enc : TypeId × Value → H} {W : World} {v : Value} {n : Nat} {y : DataW H × List MemPlace} (h : DataW.trod enc Try.prog W 0 (fun _ => true) true n 139 [v] = some y) (hlt : ∀ x ∈ y.2, x.block < W.heap.size) :
    ∃ Y : List (List Int), Y.length ≤ maxLen ∧ (∀ (j : Nat) (l : List Int), Y[j]? = some l → l.length ≤ maxLen) ∧ YL W v Y := by
  rcases open_int_rows Try.underlying139 Try.underlying25 Try.underlying3 (by kernel_rfl) (by kernel_rfl) h with ⟨hcs, hx⟩ | ⟨a, len, cap, A, L, C, Z, hcs, _, hl, hm, hx, hr⟩
  · simp only [List.cons.injEq, and_true] at hcs
    subst hcs
    exact ⟨[], Nat.zero_le _, fun j l hl => by simp at hl, none, 0, rfl, fun h => by simp at h⟩
  · simp only [List.cons.injEq, and_true] at hcs
    subst hcs
    refine ⟨(List.range len).map fun r => (Z r).take (L r), by simp; omega, fun j l hl => ?_, some a, cap, by simp, fun h0 => ?_⟩
    · have hj : j < len := by
        rcases Nat.lt_or_ge j len with h | h
        · exact h
        · rw [List.getElem?_eq_none (by simpa using h)] at hl; cases hl
      obtain ⟨_, h2, h3, h4, _⟩ := hr j (by omega)
      simp [hj] at hl
      subst hl
      simp
      omega
    · simp at h0
      obtain ⟨b, off, spot⟩ := a
      have hspot : spot = none := by simpa [Addr.add] using World.cell?_spot (hr 0 (by omega)).1
      subst hspot
      have hbW : b < W.heap.size := hlt (.cell b off) (by rw [hx]; exact List.mem_append_left _ (MemPlace.mem_row.2 ⟨0, by omega, by simp⟩))
      refine ⟨b, off, rfl, hbW, fun j l hl => ?_⟩
      have hj : j < len := by
        rcases Nat.lt_or_ge j len with h | h
        · exact h
        · rw [List.getElem?_eq_none (by simpa using h)] at hl; cases hl
      simp [hj] at hl
      subst hl
      obtain ⟨h1, h2, h3, h4, h5, h6, h7⟩ := hr j (by omega)
      have hlen : ((Z j).take (L j)).length = L j := by simp; omega
      refine ⟨_, by rw [← add_plain]; exact h1, A j, C j, by rw [hlen], fun h0 => ?_⟩
      rw [hlen] at h0
      cases hA : A j with
      | none => have := h6 hA; omega
      | some a' =>
        obtain ⟨b', off', spot'⟩ := a'
        have hc0 := (h7 _ hA).2 0 (by omega)
        have hspot' : spot' = none := by simpa [Addr.add] using World.cell?_spot hc0
        subst hspot'
        have hbW' : b' < W.heap.size := hlt (.cell b' off') (by
          rw [hx]
          refine List.mem_append_right _ (List.mem_flatMap.2 ⟨j, List.mem_range.2 (by omega), ?_⟩)
          rw [hA]
          exact MemPlace.mem_row.2 ⟨0, by omega, by simp⟩)
        refine ⟨b', off', rfl, hbW', fun c x hx' => ?_⟩
        have hc : c < L j := by
          rcases Nat.lt_or_ge c (L j) with h | h
          · exact h
          · rw [List.getElem?_eq_none (by rw [hlen]; exact h)] at hx'; cases hx'
        rw [← add_plain, (h7 _ hA).2 c (by omega)]
        rw [List.getElem?_take, if_pos hc] at hx'
        simp [List.getD, hx']

theorem yard_laidOut : laidOutB Try.prog = true := by kernel_rfl
theorem yard_own : ownKnob Try.prog.godebug = none := by kernel_rfl
end Go.Proofs.Ytpljcpeghjplnaa
