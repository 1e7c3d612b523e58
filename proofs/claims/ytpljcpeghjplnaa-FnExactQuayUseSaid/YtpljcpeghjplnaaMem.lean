/-
  Yards in memory: rows of ints, rows of rows; what is read and what is the call's own. No statement of the seat by itself.
-/
import Derived.Test.YtpljcpeghjplnaaProg
import Derived.WalkKit
import Derived.WalkSmall
import Derived.WalkSpells
import Derived.Lib.Hide
import Derived.Lib.BufferOwn
import Derived.Lib.BufferMore
import Derived.Deep.QuietTactic
import Derived.BigQuiet
import Derived.IntWalk
import Derived.StillTailTactics
import Derived.Laws.MakeOwn
import Derived.Laws.OwnMore
import Derived.Laws.Entries
import Derived.Deep.Onto
import Derived.Maps.AppendAt
namespace Go.Proofs.Ytpljcpeghjplnaa
open Go.RowKit

theorem val_i {k : IntKind} {a b : Int} (h : a = b) : Value.int k a = .int k b := by rw [h]
theorem ret_i {k : IntKind} {a b : Int} (h : a = b) : Ending.returned (.int k a) = .returned (.int k b) := by rw [h]
theorem below_drewN {a w : World} {B : Nat} (h : Below B a w) (n : Nat) : Below B a (w.drewN n) := ⟨h.os, h.tape, h.output, h.size, h.block⟩
theorem below_one (w : World) (o : Obj) : Below w.heap.size w (w.alloc o) := (Below.refl _ _).alloc (Nat.le_refl _) _
theorem grown_of_below {w w' : World} (h : Below w.heap.size w w') (row : Option Nat) : w.grownBy w' row := ⟨h.os, h.tape, h.output, h.size, fun k hk _ => h.block k hk⟩
theorem row_base {W : World} {base e size k : Nat} {v : Value} {xs : List Value} (h : W.ownsRow base e size v k xs) : ∀ j, v.ownBlock = some j → base ≤ j := fun j hj => (h.lt j hj).1
theorem row_lt {W : World} {base e size k : Nat} {v : Value} {xs : List Value} (h : W.ownsRow base e size v k xs) : ∀ j, v.ownBlock = some j → j < W.heap.size := fun j hj => (h.lt j hj).2
theorem own_empty (w : World) (o : Obj) (e : TypeId) (h : o = .cells #[] e (0, 0)) : (w.alloc o).ownsRow w.heap.size e 1 (.slice (some ⟨w.heap.size, 0, none⟩) 0 0) 0 [] := by
  subst h
  exact ⟨rfl, .inr ⟨_, 0, #[], rfl, Nat.le_refl _, heap_alloc_new w _, Nat.le_refl _, Nat.zero_le _, rfl, rfl⟩⟩
theorem row_below {W W' : World} {base e size k : Nat} {v : Value} {xs : List Value} (h : W.ownsRow base e size v k xs) (hb : Below W.heap.size W W') : W'.ownsRow base e size v k xs :=
  h.kept (grown_of_below hb none) (by cases hv : v.ownBlock <;> simp)
theorem own_form {W : World} {base e size k : Nat} {v : Value} {xs : List Value} (h : W.ownsRow base e size v k xs) : ∃ a c, v = .slice a k c := by
  rcases h.2 with ⟨rfl, rfl⟩ | ⟨g, cap, cur, rfl, _⟩
  · exact ⟨_, _, rfl⟩
  · exact ⟨_, _, rfl⟩
theorem own_base {W : World} {base base' e size k : Nat} {v : Value} {xs : List Value} (h : W.ownsRow base e size v k xs) (hb : ∀ j, v.ownBlock = some j → base' ≤ j) : W.ownsRow base' e size v k xs := by
  refine ⟨h.1, ?_⟩
  rcases h.2 with hn | ⟨g, cap, cur, rfl, hg, rest⟩
  · exact .inl hn
  · exact .inr ⟨g, cap, cur, rfl, hb g rfl, rest⟩
theorem cell_of {w : World} {b i : Nat} {cur : Array Value} {t : TypeId} {x : Value} (h : w.heap[b]? = some (.cells cur t (0, 0))) (hx : cur[i]? = some x) : w.cell? ⟨b, i, none⟩ = some x := by
  simp [World.cell?, h, hx]
theorem free_of {w : World} {b i : Nat} {cur : Array Value} {t : TypeId} (h : w.heap[b]? = some (.cells cur t (0, 0))) : w.frozen? ⟨b, i, none⟩ = false := by
  simp [World.frozen?, h]
theorem heap_alloc_old (w : World) (o : Obj) (i : Nat) (h : i < w.heap.size) : (w.alloc o).heap[i]? = w.heap[i]? := ((Below.refl _ w).alloc (Nat.le_refl _) o).block i h
theorem info_is {P : Program} {t : TypeId} {z : Value} {s b : Nat} (h : (P.info? t).map (fun i => (i.zero, i.size, i.bytes)) = some (some z, s, b)) : ∃ i, P.info? t = some i ∧ i.zero = some z ∧ i.size = s ∧ i.bytes = b := by
  cases hi : P.info? t with
  | none => rw [hi] at h; cases h
  | some i =>
    rw [hi] at h
    simp only [Option.map_some, Option.some.injEq, Prod.mk.injEq] at h
    exact ⟨i, rfl, h.1, h.2.1, h.2.2⟩

/-- A list of ints as values. -/
def intV (l : List Int) : List Value := l.map fun x => Value.int .i64 x
theorem intV_len (l : List Int) : (intV l).length = l.length := by simp [intV]
theorem intV_get (l : List Int) (j : Nat) : (intV l)[j]? = (l[j]?).map fun x => Value.int .i64 x := by simp [intV]
theorem intV_set (l : List Int) (j : Nat) (x : Int) : (intV l).set j (.int .i64 x) = intV (l.set j x) := by simp [intV, List.map_set]

/-- A slice that reads as a list of ints. -/
def IL (w : World) (v : Value) (l : List Int) : Prop := ∃ a c, v = .slice a l.length c ∧ (0 < l.length → ∃ g off, a = some ⟨g, off, none⟩ ∧ g < w.heap.size ∧ ∀ j x, l[j]? = some x → w.cell? ⟨g, off + j, none⟩ = some (.int .i64 x))
theorem IL.below {w w' : World} {v : Value} {l : List Int} (h : IL w v l) (hb : Below w.heap.size w w') : IL w' v l := by
  obtain ⟨a, c, rfl, h⟩ := h
  refine ⟨a, c, rfl, fun h0 => ?_⟩
  obtain ⟨g, off, rfl, hg, hc⟩ := h h0
  exact ⟨g, off, rfl, Nat.lt_of_lt_of_le hg hb.size, fun j x hx => (hb.cell (p := ⟨g, off + j, none⟩) hg).trans (hc j x hx)⟩
theorem IL.form {w : World} {v : Value} {l : List Int} (h : IL w v l) : ∃ a c, v = .slice a l.length c := by
  obtain ⟨a, c, rfl, h⟩ := h
  exact ⟨_, _, rfl⟩
theorem IL.nil (w : World) (a : Option Addr) (c : Nat) : IL w (.slice a 0 c) [] := ⟨a, c, rfl, fun h => by simp at h⟩
theorem il_of_owns {W : World} {base n : Nat} {v : Value} {l : List Int} (h : W.ownsRow base 3 1 v n (intV l)) : IL W v l := by
  have hn : n = l.length := by have := h.1; rw [intV_len] at this; omega
  subst hn
  obtain ⟨a, c, rfl⟩ := own_form h
  refine ⟨a, c, rfl, fun h0 => ?_⟩
  rcases h.2 with ⟨_, hz⟩ | ⟨g, cap, cur, hv, hg, hb, _⟩
  · omega
  · injection hv with e1 e2 e3
    subst e1 e3
    refine ⟨g, 0, rfl, (Array.getElem?_eq_some_iff.1 hb).1, fun j x hx => ?_⟩
    have hj : j < l.length := by rcases Nat.lt_or_ge j l.length with h | h; exact h; rw [List.getElem?_eq_none h] at hx; cases hx
    rw [Nat.zero_add, h.cellAt j (by omega), intV_get, hx]
    rfl

/-- A slice that reads as a list of lists of ints. -/
def YL (w : World) (v : Value) (Y : List (List Int)) : Prop := ∃ a c, v = .slice a Y.length c ∧ (0 < Y.length → ∃ g off, a = some ⟨g, off, none⟩ ∧ g < w.heap.size ∧ ∀ j l, Y[j]? = some l → ∃ u, w.cell? ⟨g, off + j, none⟩ = some u ∧ IL w u l)
theorem YL.below {w w' : World} {v : Value} {Y : List (List Int)} (h : YL w v Y) (hb : Below w.heap.size w w') : YL w' v Y := by
  obtain ⟨a, c, rfl, h⟩ := h
  refine ⟨a, c, rfl, fun h0 => ?_⟩
  obtain ⟨g, off, rfl, hg, hc⟩ := h h0
  refine ⟨g, off, rfl, Nat.lt_of_lt_of_le hg hb.size, fun j l hl => ?_⟩
  obtain ⟨u, hu, hi⟩ := hc j l hl
  exact ⟨u, (hb.cell (p := ⟨g, off + j, none⟩) hg).trans hu, hi.below hb⟩
theorem YL.form {w : World} {v : Value} {Y : List (List Int)} (h : YL w v Y) : ∃ a c, v = .slice a Y.length c := by
  obtain ⟨a, c, rfl, h⟩ := h
  exact ⟨_, _, rfl⟩

/-- Blocks outside of lo..hi are as they were. -/
structure Span (lo hi : Nat) (w w' : World) : Prop where
  os : w'.os = w.os
  tape : w'.tape = w.tape
  output : w'.output = w.output
  size : w.heap.size ≤ w'.heap.size
  block : ∀ k, k < w.heap.size → (k < lo ∨ hi ≤ k) → w'.heap[k]? = w.heap[k]?
theorem Span.refl (lo hi : Nat) (w : World) : Span lo hi w w := ⟨rfl, rfl, rfl, Nat.le_refl _, fun _ _ _ => rfl⟩
theorem Span.trans {lo hi : Nat} {a b c : World} (h : Span lo hi a b) (k : Span lo hi b c) : Span lo hi a c :=
  ⟨k.os.trans h.os, k.tape.trans h.tape, k.output.trans h.output, Nat.le_trans h.size k.size, fun i hi ho => (k.block i (Nat.lt_of_lt_of_le hi h.size) ho).trans (h.block i hi ho)⟩
theorem Span.of_below {lo hi : Nat} {w w' : World} (h : Below w.heap.size w w') : Span lo hi w w' := ⟨h.os, h.tape, h.output, h.size, fun k hk _ => h.block k hk⟩
theorem Span.of_grown {lo hi : Nat} {w w' : World} {row : Option Nat} (h : w.grownBy w' row) (hr : ∀ k, row = some k → lo ≤ k ∧ k < hi) : Span lo hi w w' :=
  ⟨h.os, h.tape, h.output, h.size, fun k hk ho => h.block k hk (fun e => by have := hr k e.symm; omega)⟩
theorem Span.below {lo hi : Nat} {w w' : World} (h : Span lo hi w w') : Below lo w w' ∨ w.heap.size < lo := by
  by_cases hl : lo ≤ w.heap.size
  · exact .inl ⟨h.os, h.tape, h.output, h.size, fun k hk => h.block k (by omega) (.inl hk)⟩
  · exact .inr (by omega)
theorem Below.span {B hi : Nat} {a w w' : World} (h : Below B a w) (hs : Span B hi w w') (hB : B ≤ w.heap.size) : Below B a w' :=
  ⟨hs.os.trans h.os, hs.tape.trans h.tape, hs.output.trans h.output, Nat.le_trans h.size hs.size, fun k hk => (hs.block k (by omega) (.inl hk)).trans (h.block k hk)⟩

/-- Rows of a row of rows: each the call's own, no two in one block. -/
def Rows2 (w : World) (B hi : Nat) (us : List Value) (Y : List (List Int)) : Prop :=
  us.length = Y.length ∧ (∀ (j : Nat) (u : Value) (l : List Int), us[j]? = some u → Y[j]? = some l → w.ownsRow B 3 1 u l.length (intV l) ∧ ∀ b, u.ownBlock = some b → b < hi) ∧
  ∀ (i j : Nat) (u u' : Value) (b : Nat), us[i]? = some u → us[j]? = some u' → u.ownBlock = some b → u'.ownBlock = some b → i = j
/-- A row of rows of the call's own, in blocks from B to hi. -/
def OwnY (w : World) (B hi : Nat) (v : Value) (Y : List (List Int)) : Prop := hi ≤ w.heap.size ∧ (∀ b, v.ownBlock = some b → b < hi) ∧ ∃ us, w.ownsRow B 25 1 v Y.length us ∧ Rows2 w B hi us Y
theorem OwnY.form {w : World} {B hi : Nat} {v : Value} {Y : List (List Int)} (h : OwnY w B hi v Y) : ∃ a c, v = .slice a Y.length c := by
  obtain ⟨_, _, us, h, _⟩ := h
  exact own_form h
theorem rows2_get {w : World} {B hi : Nat} {us : List Value} {Y : List (List Int)} (h : Rows2 w B hi us Y) {j : Nat} {l : List Int} (hl : Y[j]? = some l) : ∃ u, us[j]? = some u ∧ w.ownsRow B 3 1 u l.length (intV l) ∧ ∀ b, u.ownBlock = some b → b < hi := by
  have hj : j < us.length := by rw [h.1]; rcases Nat.lt_or_ge j Y.length with h | h; exact h; rw [List.getElem?_eq_none h] at hl; cases hl
  exact ⟨us[j], List.getElem?_eq_getElem hj, h.2.1 j us[j] l (List.getElem?_eq_getElem hj) hl⟩
/-- A row of rows and one of its rows lie in different blocks. -/
theorem outer_ne {w : World} {B n m : Nat} {v u : Value} {us xs : List Value} (h : w.ownsRow B 25 1 v n us) {B' : Nat} (hu : w.ownsRow B' 3 1 u m xs) : ∀ b, v.ownBlock = some b → u.ownBlock ≠ some b := by
  intro b hv e
  rcases h.2 with ⟨rfl, _⟩ | ⟨g, cap, cur, rfl, _, hb, _⟩
  · simp [Value.ownBlock] at hv
  · rcases hu.2 with ⟨rfl, _⟩ | ⟨g2, cap2, cur2, rfl, _, hb2, _⟩
    · simp [Value.ownBlock] at e
    · have e1 : g = b := by simpa [Value.ownBlock] using hv
      have e2 : g2 = b := by simpa [Value.ownBlock] using e
      subst e1 e2
      rw [hb] at hb2
      simp at hb2
theorem OwnY.yl {w : World} {B hi : Nat} {v : Value} {Y : List (List Int)} (h : OwnY w B hi v Y) : YL w v Y := by
  obtain ⟨_, _, us, h, hr⟩ := h
  obtain ⟨a, c, rfl⟩ := own_form h
  refine ⟨a, c, rfl, fun h0 => ?_⟩
  rcases h.2 with ⟨_, hz⟩ | ⟨g, cap, cur, hv, hg, hb, _⟩
  · omega
  · injection hv with e1 e2 e3
    subst e1 e3
    refine ⟨g, 0, rfl, (Array.getElem?_eq_some_iff.1 hb).1, fun j l hl => ?_⟩
    obtain ⟨u, hu, ho, _⟩ := rows2_get hr hl
    have hj : j < Y.length := by rcases Nat.lt_or_ge j Y.length with h | h; exact h; rw [List.getElem?_eq_none h] at hl; cases hl
    exact ⟨u, by rw [Nat.zero_add, h.cellAt j (by omega), hu], il_of_owns ho⟩
theorem own_span {w w' : World} {lo hi B e size n : Nat} {v : Value} {xs : List Value} (h : w.ownsRow B e size v n xs) (hs : Span lo hi w w') (ho : ∀ b, v.ownBlock = some b → b < lo ∨ hi ≤ b) : w'.ownsRow B e size v n xs := by
  refine ⟨h.1, ?_⟩
  rcases h.2 with hn | ⟨g, cap, cur, rfl, hg, hb, rest⟩
  · exact .inl hn
  · exact .inr ⟨g, cap, cur, rfl, hg, (hs.block g (Array.getElem?_eq_some_iff.1 hb).1 (ho g rfl)).trans hb, rest⟩
theorem OwnY.span {w w' : World} {B hi lo' hi' : Nat} {v : Value} {Y : List (List Int)} (h : OwnY w B hi v Y) (hs : Span lo' hi' w w') (ho : hi ≤ lo' ∨ hi' ≤ B) : OwnY w' B hi v Y := by
  obtain ⟨h1, h2, us, h3, h4, h5, h6⟩ := h
  refine ⟨Nat.le_trans h1 hs.size, h2, us, own_span h3 hs fun b hb => ?_, h4, fun j u l hu hl => ?_, h6⟩
  · have := h2 b hb; have := row_base h3 b hb; omega
  · obtain ⟨ha, hb⟩ := h5 j u l hu hl
    exact ⟨own_span ha hs fun b hb' => by have := hb b hb'; have := row_base ha b hb'; omega, hb⟩
theorem OwnY.below {w w' : World} {B hi : Nat} {v : Value} {Y : List (List Int)} (h : OwnY w B hi v Y) (hb : Below w.heap.size w w') : OwnY w' B hi v Y :=
  h.span (Span.of_below (lo := w.heap.size) (hi := w.heap.size) hb) (.inl h.1)
theorem OwnY.mono {w : World} {B B' hi hi' : Nat} {v : Value} {Y : List (List Int)} (h : OwnY w B hi v Y) (hB : B' ≤ B) (hh : hi ≤ hi') (hw : hi' ≤ w.heap.size) : OwnY w B' hi' v Y := by
  obtain ⟨h1, h2, us, h3, h4, h5, h6⟩ := h
  exact ⟨hw, fun b hb => Nat.lt_of_lt_of_le (h2 b hb) hh, us, h3.mono hB, h4, fun j u l hu hl => ⟨(h5 j u l hu hl).1.mono hB, fun b hb => Nat.lt_of_lt_of_le ((h5 j u l hu hl).2 b hb) hh⟩, h6⟩
theorem OwnY.nil (w : World) (B hi : Nat) (hh : hi ≤ w.heap.size) : OwnY w B hi (.slice none 0 0) [] :=
  ⟨hh, fun b hb => by simp [Value.ownBlock] at hb, [], World.ownsRow_nil _ _ _ _, rfl, fun j u l hu => by simp at hu, fun i j u u' b hu => by simp at hu⟩

/-- One row is another one now, and the cell that leads to it has been written. -/
theorem OwnY.repl {w w' : World} {B hi g n cap k : Nat} {Y : List (List Int)} {l' : List Int} {u u' : Value} (h : OwnY w B hi (.slice (some ⟨g, 0, none⟩) n cap) Y) (hk : k < Y.length) (hu : w.cell? ⟨g, k, none⟩ = some u)
    (hg : w.grownBy w' u.ownBlock) (ho : w'.ownsRow B 3 1 u' l'.length (intV l')) (hat : ∀ b, u'.ownBlock = some b → u.ownBlock = some b ∨ hi ≤ b) :
    OwnY (w'.setCell ⟨g, k, none⟩ u') B w'.heap.size (.slice (some ⟨g, 0, none⟩) n cap) (Y.set k l') ∧ w'.grownBy (w'.setCell ⟨g, k, none⟩ u') (some g) := by
  obtain ⟨h1, h2, us, h3, h4, h5, h6⟩ := h
  have hn : n = Y.length := by
    obtain ⟨a, c, e⟩ := own_form h3
    injection e
  subst hn
  have hku : us[k]? = some u := by rw [← h3.cellAt k (by omega)]; exact hu
  obtain ⟨l0, hl0⟩ : ∃ l0, Y[k]? = some l0 := ⟨Y[k], List.getElem?_eq_getElem hk⟩
  obtain ⟨hro, hrb⟩ := h5 k u l0 hku hl0
  have hgu : u.ownBlock ≠ some g := outer_ne h3 hro g rfl
  have ho3 : w'.ownsRow B 25 1 (.slice (some ⟨g, 0, none⟩) Y.length cap) Y.length us := h3.kept hg (.inr fun e => hgu (by rw [← e]; rfl))
  obtain ⟨hst, hgs⟩ := ho3.stored k u'
  have hgl : g < hi := h2 g rfl
  have hu'g : u'.ownBlock ≠ some g := fun e => by
    rcases hat g e with h | h
    · exact hgu h
    · omega
  refine ⟨⟨by simp, fun b hb => ?_, us.set k u', ?_, by simpa using h4, fun j x l hx hl => ?_, fun i j x x' b hx hx' hb hb' => ?_⟩, hgs⟩
  · have := h2 b hb; have := hg.size; omega
  · rw [List.length_set]; exact hst
  · by_cases e : k = j
    · subst e
      have hlt : k < us.length := by omega
      rw [List.getElem?_set_self hlt] at hx
      rw [List.getElem?_set_self hk] at hl
      cases hx; cases hl
      exact ⟨ho.kept hgs (.inr hu'g), fun b hb => row_lt ho b hb⟩
    · rw [List.getElem?_set_ne e] at hx hl
      obtain ⟨ha, hb⟩ := h5 j x l hx hl
      have hxk : x.ownBlock = none ∨ x.ownBlock ≠ u.ownBlock := by
        cases hxb : x.ownBlock with
        | none => exact .inl rfl
        | some b => exact .inr fun e2 => e (h6 k j u x b hku hx e2.symm hxb)
      have hxg : x.ownBlock ≠ some g := outer_ne h3 ha g rfl
      exact ⟨(ha.kept hg hxk).kept hgs (.inr hxg), fun b hb' => by have := hb b hb'; have := hg.size; omega⟩
  · by_cases ei : k = i
    · subst ei
      rw [List.getElem?_set_self (by omega)] at hx
      cases hx
      by_cases ej : k = j
      · exact ej
      · rw [List.getElem?_set_ne ej] at hx'
        have hl : j < Y.length := by rw [← h4]; rcases Nat.lt_or_ge j us.length with h | h; exact h; rw [List.getElem?_eq_none h] at hx'; cases hx'
        rcases hat b hb with h | h
        · exact h6 k j u x' b hku hx' h hb'
        · have := (h5 j x' _ hx' (List.getElem?_eq_getElem hl)).2 b hb'; omega
    · rw [List.getElem?_set_ne ei] at hx
      by_cases ej : k = j
      · subst ej
        rw [List.getElem?_set_self (by omega)] at hx'
        cases hx'
        have hl : i < Y.length := by rw [← h4]; rcases Nat.lt_or_ge i us.length with h | h; exact h; rw [List.getElem?_eq_none h] at hx; cases hx
        rcases hat b hb' with h | h
        · exact h6 i k x u b hx hku hb h
        · have := (h5 i x _ hx (List.getElem?_eq_getElem hl)).2 b hb; omega
      · rw [List.getElem?_set_ne ej] at hx'
        exact h6 i j x x' b hx hx' hb hb'

/-- One row was written where it lies. -/
theorem OwnY.put {w w' : World} {B hi g n cap k : Nat} {Y : List (List Int)} {l' : List Int} {u : Value} (h : OwnY w B hi (.slice (some ⟨g, 0, none⟩) n cap) Y) (hk : k < Y.length) (hu : w.cell? ⟨g, k, none⟩ = some u)
    (hg : w.grownBy w' u.ownBlock) (ho : w'.ownsRow B 3 1 u l'.length (intV l')) : OwnY w' B hi (.slice (some ⟨g, 0, none⟩) n cap) (Y.set k l') ∧ Span B hi w w' := by
  obtain ⟨h1, h2, us, h3, h4, h5, h6⟩ := h
  have hn : n = Y.length := by
    obtain ⟨a, c, e⟩ := own_form h3
    injection e
  subst hn
  have hku : us[k]? = some u := by rw [← h3.cellAt k (by omega)]; exact hu
  obtain ⟨l0, hl0⟩ : ∃ l0, Y[k]? = some l0 := ⟨Y[k], List.getElem?_eq_getElem hk⟩
  obtain ⟨hro, hrb⟩ := h5 k u l0 hku hl0
  have hgu : u.ownBlock ≠ some g := outer_ne h3 hro g rfl
  refine ⟨⟨Nat.le_trans h1 hg.size, h2, us, ?_, by simpa using h4, fun j x l hx hl => ?_, h6⟩, Span.of_grown hg fun b hb => ⟨row_base hro b hb, hrb b hb⟩⟩
  · rw [List.length_set]; exact h3.kept hg (.inr fun e => hgu (by rw [← e]; rfl))
  · by_cases e : k = j
    · subst e
      rw [List.getElem?_set_self hk] at hl
      rw [hku] at hx
      cases hx; cases hl
      exact ⟨ho, hrb⟩
    · rw [List.getElem?_set_ne e] at hl
      obtain ⟨ha, hb⟩ := h5 j x l hx hl
      refine ⟨ha.kept hg ?_, hb⟩
      cases hxb : x.ownBlock with
      | none => exact .inl rfl
      | some b => exact .inr fun e2 => e (h6 k j u x b hku hx e2.symm hxb)
/-- What a row of rows holds at one place. -/
theorem OwnY.cell {w : World} {B hi g n cap k : Nat} {Y : List (List Int)} {l : List Int} (h : OwnY w B hi (.slice (some ⟨g, 0, none⟩) n cap) Y) (hl : Y[k]? = some l) : ∃ u, w.cell? ⟨g, k, none⟩ = some u ∧ w.frozen? ⟨g, k, none⟩ = false ∧ w.ownsRow B 3 1 u l.length (intV l) ∧ ∀ b, u.ownBlock = some b → b < hi := by
  obtain ⟨h1, h2, us, h3, hr⟩ := h
  have hn : n = Y.length := by
    obtain ⟨a, c, e⟩ := own_form h3
    injection e
  subst hn
  have hk : k < Y.length := by rcases Nat.lt_or_ge k Y.length with h | h; exact h; rw [List.getElem?_eq_none h] at hl; cases hl
  obtain ⟨u, hu, ho, hb⟩ := rows2_get hr hl
  exact ⟨u, by rw [h3.cellAt k (by omega), hu], h3.frozenAt k, ho, hb⟩
theorem OwnY.rows {w : World} {B hi : Nat} {v : Value} {Y : List (List Int)} (h : OwnY w B hi v Y) (h0 : 0 < Y.length) : ∃ g cap, v = .slice (some ⟨g, 0, none⟩) Y.length cap := by
  obtain ⟨h1, h2, us, h3, hr⟩ := h
  rcases h3.2 with ⟨_, hz⟩ | ⟨g, cap, cur, rfl, _⟩
  · omega
  · exact ⟨g, cap, rfl⟩
/-- A row more. -/
theorem OwnY.push {w w' : World} {B hi : Nat} {v v' u : Value} {Y : List (List Int)} {l : List Int} {us : List Value} (h : OwnY w B hi v Y) (hus : w.ownsRow B 25 1 v Y.length us ∧ Rows2 w B hi us Y)
    (ho : w.ownsRow B 3 1 u l.length (intV l)) (hb : ∀ b, u.ownBlock = some b → hi ≤ b) (hg : w.grownBy w' v.ownBlock) (ho' : w'.ownsRow B 25 1 v' (Y.length + 1) (us ++ [u])) : OwnY w' B w'.heap.size v' (Y ++ [l]) := by
  obtain ⟨h3, h4, h5, h6⟩ := hus
  obtain ⟨h1, h2, _⟩ := h
  have keep : ∀ x m xs, w.ownsRow B 3 1 x m xs → w'.ownsRow B 3 1 x m xs := fun x m xs hx => hx.kept hg (by
    cases hv : v.ownBlock with
    | none => cases hx' : x.ownBlock with
      | none => exact .inl rfl
      | some b => exact .inr (by simp)
    | some b => exact .inr (outer_ne h3 hx b hv))
  refine ⟨Nat.le_refl _, fun b hb => row_lt ho' b hb, us ++ [u], by simpa using ho', by simp [h4], fun j x m hx hm => ?_, fun i j x x' b hx hx' hxb hxb' => ?_⟩
  · rcases Nat.lt_trichotomy j Y.length with hj | hj | hj
    · rw [List.getElem?_append_left (by omega)] at hx hm
      obtain ⟨ha, hb'⟩ := h5 j x m hx hm
      exact ⟨keep _ _ _ ha, fun b hb'' => row_lt (keep _ _ _ ha) b hb''⟩
    · subst hj
      rw [← h4, List.getElem?_concat_length] at hx
      rw [List.getElem?_concat_length] at hm
      cases hx; cases hm
      exact ⟨keep _ _ _ ho, fun b hb'' => row_lt (keep _ _ _ ho) b hb''⟩
    · rw [List.getElem?_eq_none (by simp; omega)] at hm; cases hm
  · have hlt : ∀ i x, (us ++ [u])[i]? = some x → (i < us.length ∧ us[i]? = some x) ∨ (i = us.length ∧ x = u) := fun i x hx => by
      rcases Nat.lt_trichotomy i us.length with hi | hi | hi
      · exact .inl ⟨hi, by rw [List.getElem?_append_left hi] at hx; exact hx⟩
      · subst hi; rw [List.getElem?_concat_length] at hx; cases hx; exact .inr ⟨rfl, rfl⟩
      · rw [List.getElem?_eq_none (by simp; omega)] at hx; cases hx
    have old : ∀ i x b, us[i]? = some x → i < us.length → x.ownBlock = some b → b < hi := fun i x b hx hi hxb => (h5 i x _ hx (List.getElem?_eq_getElem (by omega))).2 b hxb
    rcases hlt i x hx with ⟨a1, a2⟩ | ⟨rfl, rfl⟩
    · rcases hlt j x' hx' with ⟨c1, c2⟩ | ⟨rfl, rfl⟩
      · exact h6 i j x x' b a2 c2 hxb hxb'
      · have := old i x b a2 a1 hxb; have := hb b hxb'; omega
    · rcases hlt j x' hx' with ⟨c1, c2⟩ | ⟨rfl, rfl⟩
      · have := old j x' b c2 c1 hxb'; have := hb b hxb; omega
      · rfl
end Go.Proofs.Ytpljcpeghjplnaa
