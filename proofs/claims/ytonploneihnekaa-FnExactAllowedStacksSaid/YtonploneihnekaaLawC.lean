/-
  What the laws of this chapter need besides: a list of containers of the call's own, a list of lists of ints that is answered. No statement of the seat by itself.
-/
import Derived.Test.YtonploneihnekaaFnd
import Derived.Test.YtonploneihnekaaCLawK
import Derived.Test.YtonploneihnekaaCOpen
import Derived.Test.YtonploneihnekaaCResC
namespace Go.Proofs.Ytonploneihnekaa
open Go.RowKit

theorem argC_form {W : World} {v : Value} {n : Nat} {f : Nat → C.Cont} (h : C.ArgC W v n f) : ∃ a c, v = .slice a n c := by
  rcases h with ⟨rfl, a, c, rfl⟩ | ⟨b, off, cap, rfl, _⟩
  · exact ⟨_, _, rfl⟩
  · exact ⟨_, _, rfl⟩
/-- A list of containers of the call's own at block g, in blocks from B to hi. -/
def CO (w : World) (B hi g n : Nat) (f : Nat → C.Cont) : Prop := B ≤ g ∧ g < hi ∧ hi ≤ w.heap.size ∧ C.CAt w g 0 n f ∧ ∃ cur : Array Value, w.heap[g]? = some (.cells cur 63 (0, 0)) ∧ n * 5 ≤ cur.size
theorem CO.at {w : World} {B hi g n : Nat} {f : Nat → C.Cont} (h : CO w B hi g n f) : C.CAt w g 0 n f := h.2.2.2.1
theorem CO.cv {w : World} {B hi g n : Nat} {f : Nat → C.Cont} (h : CO w B hi g n f) : C.CV w (.slice (some ⟨g, 0, none⟩) n n) n f := by
  obtain ⟨_, _, _, ha, cur, hb, hs⟩ := h
  exact .inr ⟨g, n, cur, rfl, hb, hs, fun j hj => by have := ha.2 j hj; rwa [Nat.zero_add] at this⟩
theorem CO.span {w w' : World} {B hi lo' hi' g n : Nat} {f : Nat → C.Cont} (h : CO w B hi g n f) (hs : Span lo' hi' w w') (ho : hi ≤ lo' ∨ hi' ≤ B) : CO w' B hi g n f := by
  obtain ⟨h1, h2, h3, ha, cur, hb, hz⟩ := h
  have he := hs.block g (by omega) (by omega)
  exact ⟨h1, h2, Nat.le_trans h3 hs.size, ⟨Nat.lt_of_lt_of_le ha.1 hs.size, fun j hj => (ha.2 j hj).block he⟩, cur, he.trans hb, hz⟩
theorem CO.below {w w' : World} {B hi g n : Nat} {f : Nat → C.Cont} (h : CO w B hi g n f) (hb : Below w.heap.size w w') : CO w' B hi g n f :=
  h.span (Span.of_below (lo := w.heap.size) (hi := w.heap.size) hb) (.inl h.2.2.1)
/-- A list of containers of the call's own was answered. -/
def NewC (w : World) (n : Nat) (f : Nat → C.Cont) (e : Ending) (w' : World) : Prop := e = .returned (.slice (some ⟨w.heap.size, 0, none⟩) n n) ∧ CO w' w.heap.size w'.heap.size w.heap.size n f ∧ Below w.heap.size w w'
theorem toC_new (v : Value) (n : Nat) (f : Nat → C.Cont) (hn : n ≤ 1048576) (w : World) (h : C.ArgC w v n f) : Calls Try.prog 13 #[v] w (NewC w n f) :=
  (C.toC_any v n f hn w h).mono fun e w' ⟨he, ha, hb, cur, hc, hs⟩ => ⟨he, ⟨Nat.le_refl _, ha.1, Nat.le_refl _, ha, cur, hc, by omega⟩, hb⟩
theorem eqC_new {w : World} {B1 h1 g1 B2 h2 g2 n : Nat} {f : Nat → C.Cont} (hn : n ≤ 1048576) (k1 : CO w B1 h1 g1 n f) (k2 : CO w B2 h2 g2 n f) :
    Calls Try.prog 17 #[.slice (some ⟨g1, 0, none⟩) n n, .slice (some ⟨g2, 0, none⟩) n n] w fun e w' => e = .returned (.bool true) ∧ Below w.heap.size w w' := C.eqC_any _ _ n f hn w k1.cv k2.cv
theorem markC_new {w : World} {B hi g n : Nat} {f : Nat → C.Cont} (k : Int) (hn : n ≤ 1048576) (h1 : 1 ≤ k) (h2 : k ≤ 10000000) (h : CO w B hi g n f) :
    Calls Try.prog 19 #[.slice (some ⟨g, 0, none⟩) n n, .int .i64 k] w fun e w' => e = .returned (.int .i64 (k + 5 * (n : Int))) ∧ Span B hi w w' :=
  (C.markC_int _ n f k hn h1 h2 w h.cv).mono fun e w' ⟨he, _, hg⟩ => ⟨he, Span.of_grown hg fun b hb => by
    have e := C.own_is hb.symm
    subst e
    exact ⟨h.1, h.2.1⟩⟩
/-- A list of lists of ints of the call's own was answered, and a yes or no. -/
def RetYY (w : World) (R : List (List Int)) (ok : Bool) (e : Ending) (w' : World) : Prop := ∃ a c, e = .returned (.tuple #[.slice a R.length c, .bool ok]) ∧ OwnY w' w.heap.size w'.heap.size (.slice a R.length c) R ∧ Below w.heap.size w w'
end Go.Proofs.Ytonploneihnekaa
