/-
  Boxes of one cell, rows of the call's own between two bounds, and what stays while the laws' last question is asked. No statement of the seat by itself.
-/
import Derived.Test.YtpljcpeghjplnaaYard
import Derived.Deep.RegionHeld3
namespace Go.Proofs.Ytpljcpeghjplnaa
open Go.RowKit

/-- A box of one value. -/
def Box1 (W : World) (A : Nat) (x : Value) : Prop := A < W.heap.size ∧ W.cell? ⟨A, 0, none⟩ = some x
theorem Box1.below {W W' : World} {A : Nat} {x : Value} (h : Box1 W A x) (hb : Below W.heap.size W W') : Box1 W' A x :=
  ⟨Nat.lt_of_lt_of_le h.1 hb.size, (hb.cell (p := ⟨A, 0, none⟩) h.1).trans h.2⟩
theorem Box1.span {W W' : World} {A lo hi : Nat} {x : Value} (h : Box1 W A x) (hs : Span lo hi W W') (ho : A < lo ∨ hi ≤ A) : Box1 W' A x :=
  ⟨Nat.lt_of_lt_of_le h.1 hs.size, (World.cell?_of_block (a := ⟨A, 0, none⟩) (hs.block A h.1 ho)).trans h.2⟩
theorem Box1.new (W : World) (x : Value) (T : TypeId) : Box1 (W.alloc (.cells #[x] T)) W.heap.size x := ⟨by simp, cell_of (heap_alloc_new W _) rfl⟩

/-- A row of ints of the call's own, in a block from B to hi. -/
def LO (w : World) (B hi : Nat) (v : Value) (l : List Int) : Prop := hi ≤ w.heap.size ∧ w.ownsRow B 3 1 v l.length (intV l) ∧ ∀ b, v.ownBlock = some b → b < hi
theorem LO.read {w : World} {B hi : Nat} {v : Value} {l : List Int} (h : LO w B hi v l) : IL w v l := il_of_owns h.2.1
theorem LO.span {w w' : World} {B hi lo' hi' : Nat} {v : Value} {l : List Int} (h : LO w B hi v l) (hs : Span lo' hi' w w') (ho : hi ≤ lo' ∨ hi' ≤ B) : LO w' B hi v l :=
  ⟨Nat.le_trans h.1 hs.size, own_span h.2.1 hs fun b hb => by have := h.2.2 b hb; have := row_base h.2.1 b hb; omega, h.2.2⟩
theorem LO.below {w w' : World} {B hi : Nat} {v : Value} {l : List Int} (h : LO w B hi v l) (hb : Below w.heap.size w w') : LO w' B hi v l :=
  h.span (Span.of_below (lo := w.heap.size) (hi := w.heap.size) hb) (.inl h.1)
theorem eqL_any (v1 v2 : Value) (l : List Int) (hn : l.length ≤ 1048576) (w : World) (h1 : IL w v1 l) (h2 : IL w v2 l) :
    Calls Try.prog 44 #[v1, v2] w fun e w' => e = .returned (.bool true) ∧ Below w.heap.size w w' :=
  (eqI_any v1 v2 l hn w h1 h2).mono fun e w' ⟨he, k, hk⟩ => ⟨he, by subst hk; exact below_drewN (Below.refl _ _) k⟩
theorem markL_any (v : Value) (l : List Int) (k0 : Int) (B hi : Nat) (hn : l.length ≤ 1048576) (hk0 : 0 ≤ k0) (hk1 : k0 ≤ 1000000) (w : World) (h : LO w B hi v l) :
    Calls Try.prog 46 #[v, .int .i64 k0] w fun e w' => e = .returned (.int .i64 (k0 + (l.length : Int))) ∧ LO w' B hi v (runL k0 l.length) ∧ Span B hi w w' :=
  (markI_any v l k0 B hn hk0 (by omega) w h.2.1).mono fun e w' ⟨he, ho, hg⟩ => ⟨he, ⟨Nat.le_trans h.1 hg.size, by rw [runL_len]; exact ho, h.2.2⟩, Span.of_grown hg fun b hb => ⟨row_base h.2.1 b hb, h.2.2 b hb⟩⟩
theorem heldL_any (v : Value) (n : Nat) (k0 : Int) (hn : n ≤ 1048576) (hk0 : 0 ≤ k0) (hk1 : k0 ≤ 1000000) (w : World) (h : IL w v (runL k0 n)) :
    Calls Try.prog 49 #[v, .int .i64 k0] w fun e w' => e = .returned (.int .i64 (k0 + (n : Int))) ∧ Below w.heap.size w w' :=
  (heldI_any v n k0 hn hk0 (by omega) w h).mono fun e w' ⟨he, k, hk⟩ => ⟨he, by subst hk; exact below_drewN (Below.refl _ _) k⟩

/-- What stays while the last question is asked. -/
def KeepY (w : World) (A X : Nat) (v0 s0 : Value) (Y : List (List Int)) (W : World) : Prop := Below w.heap.size w W ∧ YdR w (.agg #[v0]) Y ∧ YdR w (.agg #[s0]) Y ∧ Box1 W A v0 ∧ Box1 W X s0
theorem KeepY.start {w : World} {A X : Nat} {v0 s0 : Value} {Y : List (List Int)} (h1 : YdR w (.agg #[v0]) Y) (h2 : YdR w (.agg #[s0]) Y) (h3 : Box1 w A v0) (h4 : Box1 w X s0) : KeepY w A X v0 s0 Y w := ⟨Below.refl _ _, h1, h2, h3, h4⟩
theorem KeepY.below {w W W' : World} {A X : Nat} {v0 s0 : Value} {Y : List (List Int)} (h : KeepY w A X v0 s0 Y W) (hb : Below W.heap.size W W') : KeepY w A X v0 s0 Y W' :=
  ⟨h.1.trans (hb.mono h.1.size), h.2.1, h.2.2.1, h.2.2.2.1.below hb, h.2.2.2.2.below hb⟩
theorem KeepY.drew {w W : World} {A X : Nat} {v0 s0 : Value} {Y : List (List Int)} (h : KeepY w A X v0 s0 Y W) : KeepY w A X v0 s0 Y W.drew := h.below ⟨rfl, rfl, rfl, Nat.le_refl _, fun _ _ => rfl⟩
end Go.Proofs.Ytpljcpeghjplnaa
