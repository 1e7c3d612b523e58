/-
  The state of the placement's search: five cells. No statement of the seat by itself.
-/
import Derived.Test.YtjplbcfpbggnnaaTryM
import Derived.Test.YtjplbcfpbggnnaaBstM
import Derived.Test.YtjplbcfpbggnnaaClone
namespace Go.Proofs.Ytjplbcfpbggnnaa
open Go.RowKit

theorem put_heap {w : World} {b i : Nat} {cur : Array Value} {t : TypeId} (h : w.heap[b]? = some (.cells cur t (0, 0))) (hi : i < cur.size) (x : Value) : (w.setCell ⟨b, i, none⟩ x).heap[b]? = some (.cells (cur.set i x hi) t (0, 0)) := by
  have hb := (Array.getElem?_eq_some_iff.1 h).1
  have hb' := (Array.getElem?_eq_some_iff.1 h).2
  simp [World.setCell, hb, hb', Array.getElem_modify, Array.setIfInBounds, hi]
theorem put_other {w : World} {b i k : Nat} (x : Value) (h : k ≠ b) : (w.setCell ⟨b, i, none⟩ x).heap[k]? = w.heap[k]? := Below.heap_setCell _ _ _ _ h
theorem froz_of {w : World} {b i : Nat} {cur : Array Value} {t : TypeId} (h : w.heap[b]? = some (.cells cur t (0, 0))) : w.frozen? ⟨b, i, none⟩ = false := by
  simp [World.frozen?, h]
/-- The fewest that was found. -/
def bstF : Option (List Int × Nat) → Int
  | none => 0
  | some (_, c) => (c : Int)
/-- The state's five cells, and the best list so far, which lies apart from the rows and from the list. -/
structure StS (w : World) (B S H : Nat) (vl vt vb : Value) (s : Option (List Int × Nat)) (vs : List Value) (u : Value) : Prop where
  mem : w.heap[S]? = some (.cells #[vl, .int .i64 (H : Int), vt, vb, .int .i64 (bstF s), .bool s.isSome] 41 (0, 0))
  own : w.ownsRow B 3 1 vb (bstP [] s).length (intV (bstP [] s))
  apu : ∀ b, vb.ownBlock = some b → u.ownBlock ≠ some b
  apr : ∀ b, vb.ownBlock = some b → ∀ (j : Nat) (x : Value), vs[j]? = some x → x.ownBlock ≠ some b
theorem ne_state {w : World} {S e B n : Nat} {cs : Array Value} {x : Value} {xs : List Value} (h : w.heap[S]? = some (.cells cs 41 (0, 0))) (hx : w.ownsRow B e 1 x n xs) (he : e ≠ 41) : x.ownBlock ≠ some S := by
  intro e2
  rcases hx.2 with ⟨rfl, _⟩ | ⟨g, cap, cur, rfl, _, hb, _⟩
  · simp [Value.ownBlock] at e2
  · simp only [Value.ownBlock, Option.some.injEq] at e2
    subst e2
    rw [h] at hb
    injection hb with hb
    injection hb with _ hb _
    exact he hb.symm

section
variable {w : World} {B S H g c : Nat} {vl vt vb : Value} {s : Option (List Int × Nat)} {vs : List Value} {Y : List (List Int)} {u : Value} {P : List Int}

theorem StS.lt (h : StS w B S H vl vt vb s vs u) : S < w.heap.size := by
  rcases Nat.lt_or_ge S w.heap.size with h1 | h1
  · exact h1
  · have := h.mem; rw [Array.getElem?_eq_none h1] at this; cases this
theorem StS.below {w' : World} (h : StS w B S H vl vt vb s vs u) (hb : Below w.heap.size w w') : StS w' B S H vl vt vb s vs u :=
  ⟨(hb.block S h.lt).trans h.mem, row_of_block h.own fun b hv => hb.block b (h.own.lt b hv).2, h.apu, h.apr⟩
/-- As the call sees it that has a number more on a row and behind the list. -/
theorem StS.push {w7 : World} {k m q : Nat} {x x' u' : Value} {l : List Int} (h : StS w B S H vl vt vb s vs u) (hT : TrS w B g c vs Y u P) (hx : vs[k]? = some x) (hl : Y[k]? = some l)
    (fx : Form2 w w7 x x' m) (fu : Form2 w w7 u u' q) (o7 : ∀ b, b < w.heap.size → b ≠ g → x.ownBlock ≠ some b → u.ownBlock ≠ some b → w7.heap[b]? = w.heap[b]?) :
    StS w7 B S H vl vt vb s (vs.set k x') u' := by
  have hSx := ne_state h.mem (hT.row k x l hx hl) (by decide)
  have hSu := ne_state h.mem hT.lst (by decide)
  have hSg : S ≠ g := fun e => ne_state h.mem hT.tab (by decide) (e ▸ rfl)
  have hvg : vb.ownBlock ≠ some g := outer_ne hT.tab h.own g rfl
  refine ⟨(o7 S h.lt hSg hSx hSu).trans h.mem, row_of_block h.own fun b hb => o7 b (h.own.lt b hb).2 (fun e => hvg (e ▸ hb)) (h.apr b hb k x hx) (h.apu b hb), fun b hb e => ?_, fun b hb j y hy e => ?_⟩
  · have hlt := (h.own.lt b hb).2
    rcases fu.block with e1 | e1
    · exact h.apu b hb (e1 ▸ e)
    · have := e1 b e; omega
  · have hlt := (h.own.lt b hb).2
    by_cases ej : k = j
    · subst ej
      rw [List.getElem?_set_self (lt_of_get hx)] at hy
      cases hy
      rcases fx.block with e1 | e1
      · exact h.apr b hb k x hx (e1 ▸ e)
      · have := e1 b e; omega
    · rw [List.getElem?_set_ne ej] at hy
      exact h.apr b hb j y hy e
/-- And when both were taken back. -/
theorem StS.pull {w7 w8 : World} {k : Nat} {x x' u' vb' : Value} {n n2 : Int} {s' : Option (List Int × Nat)} (h : StS w B S H vl vt vb s vs u) (hT : TrS w B g c vs Y u P)
    (h8 : StS w8 B S H vl vt vb' s' (vs.set k x') u') (hT8 : TrS w8 B g c (vs.set k x') (putY Y k n) u' (P ++ [n2]))
    (hn : vb' = vb ∨ ∀ b, vb'.ownBlock = some b → w7.heap.size ≤ b) (hs7 : w.heap.size ≤ w7.heap.size) (hgs : w8.grownBy (w8.setCell ⟨g, k, none⟩ x) (some g)) :
    StS (w8.setCell ⟨g, k, none⟩ x) B S H vl vt vb' s' vs u ∧ (vb' = vb ∨ ∀ b, vb'.ownBlock = some b → w.heap.size ≤ b) := by
  have hSg : S ≠ g := fun e => ne_state h8.mem hT8.tab (by decide) (e ▸ rfl)
  have hvg : vb'.ownBlock ≠ some g := outer_ne hT8.tab h8.own g rfl
  have hmem := (hgs.block S h8.lt (fun e => hSg (by injection e))).trans h8.mem
  have hown := h8.own.kept hgs (.inr hvg)
  rcases hn with rfl | hn
  · exact ⟨⟨hmem, hown, h.apu, h.apr⟩, .inl rfl⟩
  · refine ⟨⟨hmem, hown, fun b hb e => ?_, fun b hb j y hy e => ?_⟩, .inr fun b hb => Nat.le_trans hs7 (hn b hb)⟩
    · have h1 := hn b hb
      have h2 := (hT.lst.lt b e).2
      omega
    · have h1 := hn b hb
      obtain ⟨l2, hl2⟩ := hT.get hy
      have h2 := ((hT.row j y l2 hy hl2).lt b e).2
      omega
/-- A placement was found: three cells are written. -/
theorem StS.found {w1 : World} {b : Nat} {va : Value} {q : List Int} (h : StS w B S H vl vt vb s vs u) (hT : TrS w B g c vs Y u P) (hb : Below w.heap.size w w1) (ho : w1.ownsRow w.heap.size 3 1 va q.length (intV q)) (hB : B ≤ w.heap.size) (hBS : B ≤ S) :
    TrS (((w1.setCell ⟨S, 3, none⟩ va).setCell ⟨S, 4, none⟩ (.int .i64 (b : Int))).setCell ⟨S, 5, none⟩ (.bool true)) B g c vs Y u P ∧
    StS (((w1.setCell ⟨S, 3, none⟩ va).setCell ⟨S, 4, none⟩ (.int .i64 (b : Int))).setCell ⟨S, 5, none⟩ (.bool true)) B S H vl vt va (some (q, b)) vs u ∧ (∀ b, va.ownBlock = some b → w.heap.size ≤ b) ∧
    FrT w (((w1.setCell ⟨S, 3, none⟩ va).setCell ⟨S, 4, none⟩ (.int .i64 (b : Int))).setCell ⟨S, 5, none⟩ (.bool true)) S g vs u ∧
    Below B w (((w1.setCell ⟨S, 3, none⟩ va).setCell ⟨S, 4, none⟩ (.int .i64 (b : Int))).setCell ⟨S, 5, none⟩ (.bool true)) := by
  have h1 := h.below hb
  have hm := put_heap (i := 5) (put_heap (i := 4) (put_heap (i := 3) h1.mem (by simp) va) (by simp) (.int .i64 (b : Int))) (by simp) (.bool true)
  have ha := row_base ho
  have hB' : Below B w (((w1.setCell ⟨S, 3, none⟩ va).setCell ⟨S, 4, none⟩ (.int .i64 (b : Int))).setCell ⟨S, 5, none⟩ (.bool true)) :=
    (((hb.mono hB).setCell (p := ⟨S, 3, none⟩) hBS _).setCell (p := ⟨S, 4, none⟩) hBS _).setCell (p := ⟨S, 5, none⟩) hBS _
  generalize hW : (((w1.setCell ⟨S, 3, none⟩ va).setCell ⟨S, 4, none⟩ (.int .i64 (b : Int))).setCell ⟨S, 5, none⟩ (.bool true)) = W at *
  have hoth : ∀ k, k ≠ S → W.heap[k]? = w1.heap[k]? := fun k hk => by
    rw [← hW]
    exact (put_other _ hk).trans ((put_other _ hk).trans (put_other _ hk))
  have hT1 := hT.below hb
  have hSg : g ≠ S := fun e => ne_state h.mem hT.tab (by decide) (e ▸ rfl)
  have hne : ∀ {e n : Nat} {v : Value} {xs : List Value}, w1.ownsRow B e 1 v n xs → e ≠ 41 → W.ownsRow B e 1 v n xs := fun {e n v xs} hv he => row_of_block hv fun k hk => hoth k (fun e2 => ne_state h1.mem hv he (e2 ▸ hk))
  refine ⟨⟨hne hT1.tab (by decide), hT1.len, fun j x l hx hl => hne (hT1.row j x l hx hl) (by decide), hT1.one, hne hT1.lst (by decide), hT1.apt⟩, ⟨?_, ?_, fun k hk e => ?_, fun k hk j x hx e => ?_⟩, ha, ⟨hB'.size, fun k hk h1' h2 h3 h4 => (hoth k h1').trans (hb.block k hk)⟩, hB'⟩
  · rw [hm]; simp [bstF]
  · exact hne (by simpa [bstP] using ho.mono hB) (by decide)
  · have h2 := (hT.lst.lt k e).2
    have h3 := ha k hk
    omega
  · obtain ⟨l2, hl2⟩ := hT.get hx
    have h2 := ((hT.row j x l2 hx hl2).lt k e).2
    have h3 := ha k hk
    omega
/-- What the search leaves. -/
def TryQ (w : World) (B S H g c : Nat) (vl vb : Value) (vs : List Value) (Y : List (List Int)) (u : Value) (P : List Int) (s : Option (List Int × Nat)) (e : Ending) (w' : World) : Prop :=
  e = .returned (.tuple #[]) ∧ ∃ vb', TrS w' B g c vs Y u P ∧ StS w' B S H vl (.slice (some ⟨g, 0, none⟩) Y.length c) vb' s vs u ∧ (vb' = vb ∨ ∀ b, vb'.ownBlock = some b → w.heap.size ≤ b) ∧ FrT w w' S g vs u ∧ Below B w w'
end
/-- Behind the number's store on its row. -/
def MidT (wr w6 : World) (B g c : Nat) (vs : List Value) (Y : List (List Int)) (u : Value) (P : List Int) (k m : Nat) (x : Value) (n : Int) : Prop :=
  ∃ x', TrS w6 B g c (vs.set k x') (putY Y k n) u P ∧ Form2 wr w6 x x' m ∧ (∀ b, b < wr.heap.size → b ≠ g → x.ownBlock ≠ some b → w6.heap[b]? = wr.heap[b]?) ∧ Below B wr w6
theorem mid_of {wr w0 w5 : World} {B g c k m : Nat} {vs : List Value} {Y : List (List Int)} {u : Value} {P : List Int} {x x' : Value} {l : List Int} {n : Int} (h : TrS wr B g c vs Y u P) (hx : vs[k]? = some x) (hl : Y[k]? = some l) (hm : l.length = m)
    (h0 : Below wr.heap.size wr w0) (hB : B ≤ wr.heap.size) (ho : w5.ownsRow B 3 1 x' (m + 1) (intV l ++ [.int .i64 n])) (hg : w0.grownBy w5 x.ownBlock) (hf : OneForm w0 w5 x x' m) :
    MidT wr (w5.setCell ⟨g, k, none⟩ x') B g c vs Y u P k m x n := by
  have hrow := h.row k x l hx hl
  have hxlt : ∀ b, x.ownBlock = some b → b < wr.heap.size := fun b hb => (hrow.lt b hb).2
  have hxb : ∀ b, x.ownBlock = some b → B ≤ b := row_base hrow
  have f0 : Form2 wr w5 x x' m := hf.to2 h0.size (fun b hb => h0.block b hb) hxlt
  have f00 : Form2 w0 w5 x x' m := hf.to2 (Nat.le_refl _) (fun b _ => rfl) fun b hb => Nat.lt_of_lt_of_le (hxlt b hb) h0.size
  obtain ⟨t1, t2⟩ := (h.below h0).more hx hl hm ho hg f00
  have hBg : B ≤ g := row_base h.tab g rfl
  have hxg := h.row_tab hx hl
  have b5 : Below B wr w5 := (h0.mono hB).grown hg (Nat.le_trans hB h0.size) hxb
  refine ⟨x', t1, f0.step fun b hb => t2.block b (Nat.lt_of_lt_of_le (hxlt b hb) b5.size) (fun e => hxg (by rw [hb]; exact e)), fun b hb h1 h2 => ?_, b5.setCell (p := ⟨g, k, none⟩) hBg _⟩
  exact (t2.block b (Nat.lt_of_lt_of_le hb b5.size) (fun e => h1 (by injection e))).trans ((hg.block b (Nat.lt_of_lt_of_le hb h0.size) (fun e => h2 e.symm)).trans (h0.block b hb))
end Go.Proofs.Ytjplbcfpbggnnaa
