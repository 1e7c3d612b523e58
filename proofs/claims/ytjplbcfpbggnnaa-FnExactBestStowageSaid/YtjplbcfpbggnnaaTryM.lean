/-
  The table, the rows and the list of the placement's search: a number put on a row, a number put behind the list, and both taken back. No statement of the seat by itself.
-/
import Derived.Test.YtjplbcfpbggnnaaAppF
import Derived.Test.YtjplbcfpbggnnaaApart
namespace Go.Proofs.Ytjplbcfpbggnnaa
open Go.RowKit

/-- The table g holds the values vs, which are rows that read Y; the list u reads P; no two of them lie in one block. -/
structure TrS (w : World) (B g c : Nat) (vs : List Value) (Y : List (List Int)) (u : Value) (P : List Int) : Prop where
  tab : w.ownsRow B 22 1 (.slice (some ⟨g, 0, none⟩) Y.length c) Y.length vs
  len : vs.length = Y.length
  row : ∀ (j : Nat) (x : Value) (l : List Int), vs[j]? = some x → Y[j]? = some l → w.ownsRow B 3 1 x l.length (intV l)
  one : ∀ (i j : Nat) (x y : Value) (b : Nat), vs[i]? = some x → vs[j]? = some y → x.ownBlock = some b → y.ownBlock = some b → i = j
  lst : w.ownsRow B 3 1 u P.length (intV P)
  apt : ∀ (j : Nat) (x : Value) (b : Nat), vs[j]? = some x → x.ownBlock = some b → u.ownBlock ≠ some b
/-- Blocks that are not the state's, the table's, a row's or the list's are as they were. -/
structure FrT (w w' : World) (S g : Nat) (vs : List Value) (u : Value) : Prop where
  size : w.heap.size ≤ w'.heap.size
  blk : ∀ b, b < w.heap.size → b ≠ S → b ≠ g → (∀ (j : Nat) (x : Value), vs[j]? = some x → x.ownBlock ≠ some b) → u.ownBlock ≠ some b → w'.heap[b]? = w.heap[b]?
/-- A row that one was put onto: where it lay, with the same room, or in a new block, the elder one being as it was. -/
def Form2 (w w' : World) (v v' : Value) (n : Nat) : Prop :=
  (∃ g cap, v = .slice (some ⟨g, 0, none⟩) n cap ∧ v' = .slice (some ⟨g, 0, none⟩) (n + 1) cap) ∨ ((∀ b, v'.ownBlock = some b → w.heap.size ≤ b) ∧ ∀ b, v.ownBlock = some b → w'.heap[b]? = w.heap[b]?)

theorem row_of_block {w w' : World} {B e size n : Nat} {v : Value} {xs : List Value} (h : w.ownsRow B e size v n xs) (hb : ∀ b, v.ownBlock = some b → w'.heap[b]? = w.heap[b]?) : w'.ownsRow B e size v n xs := by
  refine ⟨h.1, ?_⟩
  rcases h.2 with h2 | ⟨g, cap, cur, rfl, h1, h2, h3⟩
  · exact .inl h2
  · exact .inr ⟨g, cap, cur, rfl, h1, (hb g rfl).trans h2, h3⟩
theorem TrS.same {w w' : World} {B g c : Nat} {vs : List Value} {Y : List (List Int)} {u : Value} {P : List Int} (h : TrS w B g c vs Y u P) (hs : ∀ b, b < w.heap.size → w'.heap[b]? = w.heap[b]?) : TrS w' B g c vs Y u P :=
  ⟨row_of_block h.tab fun b hb => hs b (h.tab.lt b hb).2, h.len, fun j x l hx hl => row_of_block (h.row j x l hx hl) fun b hb => hs b ((h.row j x l hx hl).lt b hb).2, h.one, row_of_block h.lst fun b hb => hs b (h.lst.lt b hb).2, h.apt⟩
theorem TrS.below {w w' : World} {B g c : Nat} {vs : List Value} {Y : List (List Int)} {u : Value} {P : List Int} (h : TrS w B g c vs Y u P) (hb : Below w.heap.size w w') : TrS w' B g c vs Y u P :=
  h.same fun b hlt => hb.block b hlt
theorem FrT.refl (w : World) (S g : Nat) (vs : List Value) (u : Value) : FrT w w S g vs u := ⟨Nat.le_refl _, fun _ _ _ _ _ _ => rfl⟩
theorem FrT.trans {a b c : World} {S g : Nat} {vs : List Value} {u : Value} (h : FrT a b S g vs u) (k : FrT b c S g vs u) : FrT a c S g vs u :=
  ⟨Nat.le_trans h.size k.size, fun x hx h1 h2 h3 h4 => (k.blk x (Nat.lt_of_lt_of_le hx h.size) h1 h2 h3 h4).trans (h.blk x hx h1 h2 h3 h4)⟩
theorem OneForm.to2 {w0 w w' : World} {v v' : Value} {n : Nat} (h : OneForm w w' v v' n) (hs : w0.heap.size ≤ w.heap.size) (h0 : ∀ b, b < w0.heap.size → w.heap[b]? = w0.heap[b]?) (hv : ∀ b, v.ownBlock = some b → b < w0.heap.size) : Form2 w0 w' v v' n := by
  rcases h with ⟨g, cap, e1, e2, -⟩ | ⟨e1, hg⟩
  · exact .inl ⟨g, cap, e1, e2⟩
  · refine .inr ⟨fun b hb => ?_, fun b hb => ?_⟩
    · rw [e1] at hb
      cases hb
      exact hs
    · have hlt := hv b hb
      exact (hg.block b (by omega) (by simp)).trans (h0 b hlt)
/-- The elder row's block is not written behind it. -/
theorem Form2.step {w w' w2 : World} {v v' : Value} {n : Nat} (h : Form2 w w' v v' n) (hb : ∀ b, v.ownBlock = some b → w2.heap[b]? = w'.heap[b]?) : Form2 w w2 v v' n := by
  rcases h with h | ⟨h1, h2⟩
  · exact .inl h
  · exact .inr ⟨h1, fun b hv => (hb b hv).trans (h2 b hv)⟩
theorem Form2.block {w w' : World} {v v' : Value} {n : Nat} (h : Form2 w w' v v' n) : v'.ownBlock = v.ownBlock ∨ ∀ b, v'.ownBlock = some b → w.heap.size ≤ b := by
  rcases h with ⟨g, cap, rfl, rfl⟩ | ⟨h, -⟩
  · exact .inl rfl
  · exact .inr h

section
variable {w : World} {B g c : Nat} {vs : List Value} {Y : List (List Int)} {u : Value} {P : List Int}

theorem TrS.row_tab (h : TrS w B g c vs Y u P) {k : Nat} {x : Value} {l : List Int} (hx : vs[k]? = some x) (hl : Y[k]? = some l) : x.ownBlock ≠ some g := outer_ne h.tab (h.row k x l hx hl) g rfl
theorem TrS.list_tab (h : TrS w B g c vs Y u P) : u.ownBlock ≠ some g := outer_ne h.tab h.lst g rfl
theorem TrS.get (h : TrS w B g c vs Y u P) {k : Nat} {x : Value} (hx : vs[k]? = some x) : ∃ l, Y[k]? = some l := by
  have := lt_of_get hx
  exact ⟨_, List.getElem?_eq_getElem (by rw [← h.len]; exact this)⟩

/-- A number on a row. -/
theorem TrS.more {w5 : World} {k m : Nat} {x x' : Value} {l : List Int} {n : Int} (h : TrS w B g c vs Y u P) (hx : vs[k]? = some x) (hl : Y[k]? = some l) (hm : l.length = m)
    (ho : w5.ownsRow B 3 1 x' (m + 1) (intV l ++ [.int .i64 n])) (hg : w.grownBy w5 x.ownBlock) (hf : Form2 w w5 x x' m) :
    TrS (w5.setCell ⟨g, k, none⟩ x') B g c (vs.set k x') (putY Y k n) u P ∧ w5.grownBy (w5.setCell ⟨g, k, none⟩ x') (some g) := by
  have hxg := h.row_tab hx hl
  have ht5 := h.tab.kept hg (.inr fun e => hxg (by rw [← e]; rfl))
  obtain ⟨hst, hgs⟩ := ht5.stored k x'
  have hkl : k < vs.length := lt_of_get hx
  have hkY : k < Y.length := lt_of_get hl
  have hlen : (l ++ [n]).length = m + 1 := by simp [hm]
  have eI : intV l ++ [.int .i64 n] = intV (l ++ [n]) := by simp [intV]
  rw [eI] at ho
  have hx'g : x'.ownBlock ≠ some g := outer_ne hst (xs := intV (l ++ [n])) (by
    have h1 := outer_ne ht5 ho g rfl
    exact ho.kept hgs (.inr h1)) g rfl
  have hnew : ∀ b, x'.ownBlock = some b → x.ownBlock = some b ∨ w.heap.size ≤ b := fun b hb => by
    rcases hf.block with e | e
    · exact .inl (e ▸ hb)
    · exact .inr (e b hb)
  have hother : ∀ (j : Nat) (y : Value), ¬ k = j → vs[j]? = some y → ∀ b, y.ownBlock = some b → x.ownBlock ≠ some b := fun j y hj hy b hb e => hj (h.one k j x y b hx hy e hb)
  have hlt : ∀ (j : Nat) (y : Value), vs[j]? = some y → ∀ b, y.ownBlock = some b → b < w.heap.size := fun j y hy b hb => by
    obtain ⟨l2, hl2⟩ := h.get hy
    exact ((h.row j y l2 hy hl2).lt b hb).2
  have kept5 : ∀ {v : Value} {q : Nat} {xs : List Value}, w.ownsRow B 3 1 v q xs → (∀ b, v.ownBlock = some b → x.ownBlock ≠ some b) → (w5.setCell ⟨g, k, none⟩ x').ownsRow B 3 1 v q xs := fun {v q xs} hv hne => by
    have hvg : v.ownBlock ≠ some g := outer_ne h.tab hv g rfl
    refine (hv.kept hg ?_).kept hgs (.inr hvg)
    cases hvb : v.ownBlock with
    | none => exact .inl rfl
    | some b => exact .inr fun e => hne b hvb e.symm
  have eY : putY Y k n = Y.set k (l ++ [n]) := putY_of hl
  refine ⟨⟨?_, ?_, fun j y l2 hy hl2 => ?_, fun i j y z b hy hz hyb hzb => ?_, ?_, fun j y b hy hb => ?_⟩, hgs⟩
  · rw [putY_len]; exact hst
  · rw [putY_len, List.length_set]; exact h.len
  · rw [eY] at hl2
    by_cases e : k = j
    · subst e
      rw [List.getElem?_set_self hkl] at hy
      rw [List.getElem?_set_self hkY] at hl2
      cases hy; cases hl2
      rw [hlen]
      exact ho.kept hgs (.inr hx'g)
    · rw [List.getElem?_set_ne e] at hy hl2
      exact kept5 (h.row j y l2 hy hl2) (hother j y e hy)
  · by_cases ei : k = i
    · subst ei
      rw [List.getElem?_set_self hkl] at hy
      cases hy
      by_cases ej : k = j
      · exact ej
      · rw [List.getElem?_set_ne ej] at hz
        rcases hnew b hyb with e | e
        · exact absurd e (hother j z ej hz b hzb)
        · have := hlt j z hz b hzb
          omega
    · rw [List.getElem?_set_ne ei] at hy
      by_cases ej : k = j
      · subst ej
        rw [List.getElem?_set_self hkl] at hz
        cases hz
        rcases hnew b hzb with e | e
        · exact absurd e (hother i y ei hy b hyb)
        · have := hlt i y hy b hyb
          omega
      · rw [List.getElem?_set_ne ej] at hz
        exact h.one i j y z b hy hz hyb hzb
  · exact kept5 h.lst fun b hb e => h.apt k x b hx e hb
  · by_cases e : k = j
    · subst e
      rw [List.getElem?_set_self hkl] at hy
      cases hy
      rcases hnew b hb with e | e
      · exact h.apt k x b hx e
      · intro e2
        have := (h.lst.lt b e2).2
        omega
    · rw [List.getElem?_set_ne e] at hy
      exact h.apt j y b hy hb

/-- A number behind the list. -/
theorem TrS.longer {w7 : World} {q : Nat} {u' : Value} {n : Int} (h : TrS w B g c vs Y u P) (hq : P.length = q) (ho : w7.ownsRow B 3 1 u' (q + 1) (intV P ++ [.int .i64 n])) (hg : w.grownBy w7 u.ownBlock) (hf : Form2 w w7 u u' q) :
    TrS w7 B g c vs Y u' (P ++ [n]) := by
  have eI : intV P ++ [.int .i64 n] = intV (P ++ [n]) := by simp [intV]
  have hlen : (P ++ [n]).length = q + 1 := by simp [hq]
  refine ⟨h.tab.kept hg (.inr fun e => h.list_tab (by rw [← e]; rfl)), h.len, fun j x l hx hl => (h.row j x l hx hl).kept hg ?_, h.one, ?_, fun j x b hx hb => ?_⟩
  · cases hxb : x.ownBlock with
    | none => exact .inl rfl
    | some b => exact .inr fun e => h.apt j x b hx hxb e.symm
  · rw [hlen, ← eI]; exact ho
  · rcases hf.block with e | e
    · rw [e]; exact h.apt j x b hx hb
    · intro e2
      obtain ⟨l, hl⟩ := h.get hx
      have h1 := ((h.row j x l hx hl).lt b hb).2
      have h2 := e b e2
      omega

/-- Both are taken back. -/
theorem TrS.back {w7 w8 : World} {S k m q : Nat} {x x' u' : Value} {l : List Int} {n n2 : Int} (h : TrS w B g c vs Y u P) (hx : vs[k]? = some x) (hl : Y[k]? = some l) (hm : l.length = m) (hq : P.length = q)
    (hSx : x.ownBlock ≠ some S) (hSu : u.ownBlock ≠ some S)
    (h8 : TrS w8 B g c (vs.set k x') (putY Y k n) u' (P ++ [n2])) (fx : Form2 w w7 x x' m) (fu : Form2 w w7 u u' q) (f8 : FrT w7 w8 S g (vs.set k x') u') (hs7 : w.heap.size ≤ w7.heap.size)
    (o7 : ∀ b, b < w.heap.size → b ≠ g → x.ownBlock ≠ some b → u.ownBlock ≠ some b → w7.heap[b]? = w.heap[b]?) :
    TrS (w8.setCell ⟨g, k, none⟩ x) B g c vs Y u P ∧ FrT w (w8.setCell ⟨g, k, none⟩ x) S g vs u ∧ w8.grownBy (w8.setCell ⟨g, k, none⟩ x) (some g) := by
  have hkl : k < vs.length := lt_of_get hx
  have hkY : k < Y.length := lt_of_get hl
  have ht8 := h8.tab
  rw [putY_len] at ht8
  obtain ⟨hst, hgs⟩ := ht8.stored k x
  have evs : (vs.set k x').set k x = vs := by
    rw [List.set_set]
    refine List.ext_getElem? fun j => ?_
    by_cases e : k = j
    · subst e
      rw [List.getElem?_set_self hkl, hx]
    · rw [List.getElem?_set_ne e]
  rw [evs] at hst
  have hxg := h.row_tab hx hl
  have hug := h.list_tab
  have hrx := h.row k x l hx hl
  have hxlt : ∀ b, x.ownBlock = some b → b < w.heap.size := fun b hb => (hrx.lt b hb).2
  have hult : ∀ b, u.ownBlock = some b → b < w.heap.size := fun b hb => (h.lst.lt b hb).2
  -- no block of the elder ones is one of the new ones
  have nx' : ∀ b, b < w.heap.size → x.ownBlock ≠ some b → x'.ownBlock ≠ some b := fun b hb hne e => by
    rcases fx.block with e1 | e1
    · exact hne (e1 ▸ e)
    · have := e1 b e; omega
  have nu' : ∀ b, b < w.heap.size → u.ownBlock ≠ some b → u'.ownBlock ≠ some b := fun b hb hne e => by
    rcases fu.block with e1 | e1
    · exact hne (e1 ▸ e)
    · have := e1 b e; omega
  have x8 : w8.ownsRow B 3 1 x l.length (intV l) := by
    rcases fx with ⟨g1, cap, e1, e2⟩ | ⟨e1, e2⟩
    · subst e1 e2
      have hr := h8.row k _ (l ++ [n]) (List.getElem?_set_self hkl) (by rw [putY_of hl]; exact List.getElem?_set_self hkY)
      have eI : intV (l ++ [n]) = intV l ++ [.int .i64 n] := by simp [intV]
      rw [eI, show (l ++ [n]).length = m + 1 by simp [hm]] at hr
      rw [hm]
      exact row_shorter hr (by simp [intV, hm])
    · refine row_of_block hrx fun b hb => ?_
      have hlt := hxlt b hb
      refine (f8.blk b (by omega) (fun e => hSx (e ▸ hb)) (fun e => hxg (e ▸ hb)) (fun j y hy => ?_) (nu' b hlt (h.apt k x b hx hb))).trans (e2 b hb)
      by_cases e : k = j
      · subst e
        rw [List.getElem?_set_self hkl] at hy
        cases hy
        intro e3
        have := e1 b e3
        omega
      · rw [List.getElem?_set_ne e] at hy
        exact fun e3 => e (h.one k j x y b hx hy hb e3)
  have u8 : w8.ownsRow B 3 1 u P.length (intV P) := by
    rcases fu with ⟨g1, cap, e1, e2⟩ | ⟨e1, e2⟩
    · subst e1 e2
      have hr := h8.lst
      have eI : intV (P ++ [n2]) = intV P ++ [.int .i64 n2] := by simp [intV]
      rw [eI, show (P ++ [n2]).length = q + 1 by simp [hq]] at hr
      rw [hq]
      exact row_shorter hr (by simp [intV, hq])
    · refine row_of_block h.lst fun b hb => ?_
      have hlt := hult b hb
      refine (f8.blk b (by omega) (fun e => hSu (e ▸ hb)) (fun e => hug (e ▸ hb)) (fun j y hy => ?_) (fun e3 => by have := e1 b e3; omega)).trans (e2 b hb)
      by_cases e : k = j
      · subst e
        rw [List.getElem?_set_self hkl] at hy
        cases hy
        exact nx' b hlt fun e3 => h.apt k x b hx e3 hb
      · rw [List.getElem?_set_ne e] at hy
        exact fun e3 => h.apt j y b hy e3 hb
  refine ⟨⟨hst, h.len, fun j y l2 hy hl2 => ?_, h.one, u8.kept hgs (.inr hug), h.apt⟩, ⟨Nat.le_trans hs7 (Nat.le_trans f8.size hgs.size), fun b hb h1 h2 h3 h4 => ?_⟩, hgs⟩
  · by_cases e : k = j
    · subst e
      rw [hx] at hy
      rw [hl] at hl2
      cases hy; cases hl2
      exact x8.kept hgs (.inr hxg)
    · refine (h8.row j y l2 (by rw [List.getElem?_set_ne e]; exact hy) (by rw [putY_of hl, List.getElem?_set_ne e]; exact hl2)).kept hgs (.inr (h.row_tab hy hl2))
  · have hlt8 : b < w8.heap.size := by have := f8.size; omega
    refine (hgs.block b hlt8 (fun e => h2 (by injection e))).trans ?_
    refine (f8.blk b (by omega) h1 h2 (fun j y hy => ?_) (nu' b hb h4)).trans (o7 b hb h2 (h3 k x hx) h4)
    by_cases e : k = j
    · subst e
      rw [List.getElem?_set_self hkl] at hy
      cases hy
      exact nx' b hb (h3 k x hx)
    · rw [List.getElem?_set_ne e] at hy
      exact h3 j y hy
end
end Go.Proofs.Ytjplbcfpbggnnaa
