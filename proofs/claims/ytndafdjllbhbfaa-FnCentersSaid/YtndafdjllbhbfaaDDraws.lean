/-
  The draws of numbers: l1Cur's among and one. No statement of the seat by itself.
-/
import Derived.Test.YtndafdjllbhbfaaDCur
namespace Go.Proofs.Ytndafdjllbhbfaa.D
open Go.RowKit

theorem grown_of_below {a w : World} (h : Below a.heap.size a w) (row : Option Nat) : a.grownBy w row := ⟨h.os, h.tape, h.output, h.size, fun i hi _ => h.block i hi⟩
theorem Cur.alloc {W : World} {b : Nat} {v : Value} {N : Nat} (h : Cur W b v N) (o : Obj) : Cur (W.alloc o) b v N := h.below ((Below.refl _ _).alloc (Nat.le_refl _) _)

/-- A list of n numbers in block g. -/
def ListI (W : World) (g n : Nat) (P : Int → Prop) : Prop := g < W.heap.size ∧ ∀ j, j < n → ∃ x : Int, W.cell? ⟨g, j, none⟩ = some (.int .i64 x) ∧ P x
def NumP (W : World) (b : Nat) (v : Value) (N : Nat) (P : Int → Prop) (e : Ending) (W' : World) : Prop := ∃ x : Int, e = .returned (.int .i64 x) ∧ P x ∧ Cur W' b v N ∧ W.grownBy W' (some b)
set_option maxHeartbeats 400000 in
theorem among_any (b N g n cap : Nat) (P : Int → Prop) (v : Value) (hN : N ≤ 700000) (hn0 : 0 < n) (hn : n ≤ 100) (w : World) (h : Cur w b v N) (hg : g ≠ b) (hL : ListI w g n P) :
    Calls Try.prog 70 #[.pointer (some ⟨b, 0, none⟩), .slice (some ⟨g, 0, none⟩) n cap] w (NumP w b v (N + 4) P) := by
  have H := Lib.hid h
  have HL := Lib.hid hL
  clear h hL
  go_enter Try.func70, Try.ntmps70
  go_wp2_with fail
  refine (pick_any b N n v (by omega) hn0 (by omega) _ H.out).mono ?_
  rintro e w1 ⟨x, rfl, hx, hc1, hg1⟩
  obtain ⟨s, hs, hm⟩ := HL.out.2 x hx
  have hc : w1.cell? ⟨g, x, none⟩ = some (.int .i64 s) := by
    rw [World.cell?_of_block (hg1.block g HL.out.1 (by simpa using hg))]
    exact hs
  have H1 := Lib.hid hc1
  have G1 := Lib.hid hg1
  have M := Lib.hid hm
  clear hc1 hg1 hs hm
  go_wp2_with fail
  go_ret
  exact ⟨s, rfl, M.out, H1.out, G1.out⟩
theorem listI_new (W : World) (o : Obj) (xs : List Int) (P : Int → Prop) (ho : o = .cells (xs.map (Value.int .i64)).toArray 3 (0, 0)) (hm : ∀ x ∈ xs, P x) : ListI (W.alloc o) W.heap.size xs.length P := by
  subst ho
  refine ⟨by simp, fun j hj => ⟨xs[j], ?_, hm _ (List.getElem_mem _)⟩⟩
  have := heap_alloc_new W (.cells (xs.map (Value.int .i64)).toArray 3 (0, 0))
  unfold World.cell?
  simp only [this]
  simp [hj]

/-- A yes or no was drawn. -/
def OnePost (W : World) (b : Nat) (v : Value) (N : Nat) (e : Ending) (W' : World) : Prop := ∃ y : Bool, e = .returned (.bool y) ∧ Cur W' b v N ∧ W.grownBy W' (some b)
end Go.Proofs.Ytndafdjllbhbfaa.D
