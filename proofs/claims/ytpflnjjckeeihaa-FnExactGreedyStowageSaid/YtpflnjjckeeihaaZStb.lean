/-
  What impl.stowedBoxes returns. No statement of the seat by itself.
-/
import Derived.Test.YtpflnjjckeeihaaZBox
import Derived.Deep.RegionHeldLaw
namespace Go.Proofs.Ytpflnjjckeeihaa
open Go.RowKit

theorem infoB : (Try.prog.info? 75).map (fun i => (i.zero, i.size, i.bytes)) = some (some (.agg #[.int .i64 0, .slice none 0 0]), 2, 32) := by kernel_rfl
/-- make([]impl.stowedBox, n). -/
theorem make_boxes (n : Nat) (hn : n ≤ 1048576) (W : World) : ∃ W' xs, (Instr.makeSlice 70 (.int .i64 (n : Int)) (.int .i64 (n : Int))).run Try.prog W = .ok (.slice (some ⟨W.heap.size, 0, none⟩) n n) W' ∧
    W'.ownsRow W.heap.size 75 2 (.slice (some ⟨W.heap.size, 0, none⟩) n n) n xs ∧ Below W.heap.size W W' := by
  obtain ⟨i, hi, hz, hs, hb⟩ := info_is infoB
  obtain ⟨W', h1, h2, h3⟩ := run_make_full (P := Try.prog) W W.heap.size 70 75 i _ 2 Try.underlying70 hi hz hs .i64 .i64 n (by rw [hb]; omega) (by unfold maxLen; omega) (Nat.le_refl _)
  exact ⟨W', _, h1, h2, below_of_none h3⟩

/-- While the containers are told: the stowage's box, the bay's, the bay's rows, the containers. -/
structure StbS (w wr : World) (r h : Int) (v0 : Value) (D lo hi gb n : Nat) (vs : Value) (Y : List (List Int)) (xs : List Value) : Prop where
  box : Box3 wr w.heap.size r h v0
  bay : Box2 wr D h vs
  rows : OwnY wr lo hi vs Y
  own : wr.ownsRow gb 75 2 (.slice (some ⟨gb, 0, none⟩) n n) n xs
  bl : Below w.heap.size w wr
  o1 : w.heap.size < gb
  o2 : D < gb
  o3 : hi ≤ gb
/-- What a container's two cells say. -/
def FilB (P O : List Int) (wr : World) (xs : List Value) (i : Nat) : Prop := xs[i * 2]? = some (.int .i64 (P.getD i 0)) ∧ ∃ a m c, xs[i * 2 + 1]? = some (.slice a m c) ∧ TL wr (.slice a m c) (blZ P O i)
section
variable {w wr W : World} {r h : Int} {v0 vs : Value} {D lo hi gb n : Nat} {Y : List (List Int)} {xs : List Value} {P O : List Int}
theorem FilB.below {i : Nat} (f : FilB P O wr xs i) (hb : Below wr.heap.size wr W) : FilB P O W xs i := by
  obtain ⟨h1, a, m, c, h2, h3⟩ := f
  exact ⟨h1, a, m, c, h2, h3.below hb⟩
theorem StbS.below (S : StbS w wr r h v0 D lo hi gb n vs Y xs) (hb : Below wr.heap.size wr W) : StbS w W r h v0 D lo hi gb n vs Y xs :=
  ⟨S.box.below hb, S.bay.below hb, S.rows.below hb, row_below S.own hb, S.bl.trans (hb.mono S.bl.size), S.o1, S.o2, S.o3⟩
theorem StbS.cellB (S : StbS w wr r h v0 D lo hi gb n vs Y xs) {i : Nat} (hi2 : i < n * 2) : (∃ x, wr.cell? ⟨gb, i, none⟩ = some x) ∧ wr.frozen? ⟨gb, i, none⟩ = false := by
  refine ⟨?_, S.own.frozenAt i⟩
  have hl := S.own.1
  rw [S.own.cellAt i hi2]
  exact get_at rfl (by omega)
theorem StbS.type (S : StbS w wr r h v0 D lo hi gb n vs Y xs) : ∃ cs, wr.heap[gb]? = some (Obj.cells cs 75 (0, 0)) := by
  rcases S.own.2 with ⟨e, _⟩ | ⟨g, cap, cur, e, _, hb, _⟩
  · cases e
  · injection e with e1 e2 e3
    injection e1 with e1
    injection e1 with e1
    subst e1
    exact ⟨cur, hb⟩
theorem StbS.store (S : StbS w wr r h v0 D lo hi gb n vs Y xs) (i : Nat) (x u : Value) : StbS w ((wr.setCell ⟨gb, i * 2, none⟩ x).setCell ⟨gb, i * 2 + 1, none⟩ u) r h v0 D lo hi gb n vs Y ((xs.set (i * 2) x).set (i * 2 + 1) u) ∧
    ∀ (g : Nat) (cur : Array Value), wr.heap[g]? = some (Obj.cells cur 3 (0, 0)) → ((wr.setCell ⟨gb, i * 2, none⟩ x).setCell ⟨gb, i * 2 + 1, none⟩ u).heap[g]? = some (Obj.cells cur 3 (0, 0)) := by
  have s1 := (S.own.stored (i * 2) x).1
  have s2 := (s1.stored (i * 2 + 1) u).1
  have sp : Span gb (gb + 1) wr ((wr.setCell ⟨gb, i * 2, none⟩ x).setCell ⟨gb, i * 2 + 1, none⟩ u) := (span_set (Nat.le_refl _) (Nat.lt_succ_self _) x).trans (span_set (Nat.le_refl _) (Nat.lt_succ_self _) u)
  have o1 := S.o1
  have o2 := S.o2
  have o3 := S.o3
  refine ⟨⟨S.box.span sp (.inl o1), S.bay.span sp (.inl o2), S.rows.span sp (.inl o3), s2, (S.bl.setCell (p := ⟨gb, i * 2, none⟩) (by show w.heap.size ≤ gb; omega) _).setCell (p := ⟨gb, i * 2 + 1, none⟩) (by show w.heap.size ≤ gb; omega) _, o1, o2, o3⟩, fun g cur hg => ?_⟩
  have hne : g ≠ gb := fun e => by
    subst e
    obtain ⟨cs, hc⟩ := S.type
    rw [hc] at hg
    injection hg with hg
    injection hg with _ hg _
    revert hg
    decide
  exact (sp.block g (mem_lt hg) (by omega)).trans hg
theorem FilB.store {i : Nat} {x u : Value} (S : StbS w wr r h v0 D lo hi gb n vs Y xs) {k : Nat} (f : FilB P O wr xs k) (hk : k ≠ i) : FilB P O ((wr.setCell ⟨gb, i * 2, none⟩ x).setCell ⟨gb, i * 2 + 1, none⟩ u) ((xs.set (i * 2) x).set (i * 2 + 1) u) k := by
  obtain ⟨h1, a, m, c, h2, h3⟩ := f
  refine ⟨by rw [List.getElem?_set_ne (by omega), List.getElem?_set_ne (by omega)]; exact h1, a, m, c, by rw [List.getElem?_set_ne (by omega), List.getElem?_set_ne (by omega)]; exact h2, h3.keep (S.store i x u).2⟩
theorem FilB.new {i : Nat} {a : Option Addr} {m c : Nat} (S : StbS w wr r h v0 D lo hi gb n vs Y xs) (hi : i < n) (ht : TL wr (.slice a m c) (blZ P O i)) : FilB P O ((wr.setCell ⟨gb, i * 2, none⟩ (.int .i64 (P.getD i 0))).setCell ⟨gb, i * 2 + 1, none⟩ (.slice a m c)) ((xs.set (i * 2) (.int .i64 (P.getD i 0))).set (i * 2 + 1) (.slice a m c)) i := by
  have hl := S.own.1
  refine ⟨?_, a, m, c, ?_, ht.keep (S.store i _ _).2⟩
  · rw [List.getElem?_set_ne (by omega), List.getElem?_set_self (by omega)]
  · rw [List.getElem?_set_self (by rw [List.length_set]; omega)]
end
/-- What stowedBoxes answers. -/
def BoxP (w : World) (r h : Int) (P O : List Int) (e : Ending) (w' : World) : Prop := Below w.heap.size w w' ∧ ((okZ r h P O = false ∧ e = .returned (.tuple #[.slice none 0 0, .bool false])) ∨
  (okZ r h P O = true ∧ ∃ (g c : Nat) (fa : Nat → Option Addr) (fm fc : Nat → Nat), e = .returned (.tuple #[.slice (some ⟨g, 0, none⟩) O.length c, .bool true]) ∧ g < w'.heap.size ∧
    ∀ i, i < O.length → (w'.cell? ⟨g, 0 + i * 2, none⟩ = some (.int .i64 (P.getD i 0)) ∧ w'.cell? ⟨g, 0 + i * 2 + 1, none⟩ = some (.slice (fa i) (fm i) (fc i))) ∧ IL w' (.slice (fa i) (fm i) (fc i)) (blZ P O i)))
theorem boxP_of {w wr : World} {r h : Int} {v0 vs : Value} {D lo hi gb n : Nat} {Y : List (List Int)} {xs : List Value} {P O : List Int} (S : StbS w wr r h v0 D lo hi gb n vs Y xs) (hn : O.length = n) (hok : okZ r h P O = true) (hf : ∀ i, i < n → FilB P O wr xs i) :
    BoxP w r h P O (.returned (.tuple #[.slice (some ⟨gb, 0, none⟩) n n, .bool true])) wr := by
  have key : ∀ i : Nat, ∃ y : Option Addr × Nat × Nat, i < n → xs[i * 2]? = some (.int .i64 (P.getD i 0)) ∧ xs[i * 2 + 1]? = some (.slice y.1 y.2.1 y.2.2) ∧ TL wr (.slice y.1 y.2.1 y.2.2) (blZ P O i) := fun i => by
    by_cases hi : i < n
    · obtain ⟨h1, a, m, c, h2, h3⟩ := hf i hi
      exact ⟨(a, m, c), fun _ => ⟨h1, h2, h3⟩⟩
    · exact ⟨(none, 0, 0), fun h => absurd h hi⟩
  obtain ⟨f, hf2⟩ := Classical.axiomOfChoice key
  subst hn
  obtain ⟨cs, hc⟩ := S.type
  refine ⟨S.bl, .inr ⟨hok, gb, O.length, fun i => (f i).1, fun i => (f i).2.1, fun i => (f i).2.2, rfl, mem_lt hc, fun i hi => ?_⟩⟩
  obtain ⟨h1, h2, h3⟩ := hf2 i hi
  refine ⟨⟨?_, ?_⟩, h3.il⟩
  · rw [Nat.zero_add, S.own.cellAt (i * 2) (by omega), h1]
  · rw [Nat.zero_add, S.own.cellAt (i * 2 + 1) (by omega), h2]
end Go.Proofs.Ytpflnjjckeeihaa
