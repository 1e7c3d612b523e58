/-
  A row of rows and a list, both of the call's own and no two in one block; marks on them. No statement of the seat by itself.
-/
import Derived.Test.YtjplbcfpbggnnaaLawP
import Derived.Test.YtjplbcfpbggnnaaPutM
namespace Go.Proofs.Ytjplbcfpbggnnaa
open Go.RowKit

/-- No row of v lies in the block of u. -/
def Apart (w : World) (v u : Value) : Prop := ∀ g n c, v = .slice (some ⟨g, 0, none⟩) n c → ∀ (j : Nat) (x : Value), j < n → w.cell? ⟨g, j, none⟩ = some x → ∀ b, u.ownBlock = some b → x.ownBlock ≠ some b
def OwnYD (w : World) (B hi : Nat) (v : Value) (Y : List (List Int)) (u : Value) (D : List Int) : Prop := OwnY w B hi v Y ∧ LO w B hi u D ∧ Apart w v u
theorem own_tab {w : World} {B hi g n c : Nat} {Y : List (List Int)} (h : OwnY w B hi (.slice (some ⟨g, 0, none⟩) n c) Y) : B ≤ g ∧ g < hi ∧ g < w.heap.size ∧ n = Y.length := by
  obtain ⟨h1, h2, us, h3, _⟩ := h
  have hn : n = Y.length := by
    obtain ⟨a, c, e⟩ := own_form h3
    injection e
  exact ⟨row_base h3 g rfl, h2 g rfl, (h3.lt g rfl).2, hn⟩
theorem OwnYD.span {w w' : World} {B hi lo' hi' : Nat} {v u : Value} {Y : List (List Int)} {D : List Int} (h : OwnYD w B hi v Y u D) (hs : Span lo' hi' w w') (ho : hi ≤ lo' ∨ hi' ≤ B) : OwnYD w' B hi v Y u D := by
  refine ⟨h.1.span hs ho, h.2.1.span hs ho, fun g n c e j x hj hx b hb => ?_⟩
  subst e
  have ht := own_tab h.1
  refine h.2.2 g n c rfl j x hj ?_ b hb
  rw [← hx]
  exact (World.cell?_of_block (a := ⟨g, j, none⟩) (hs.block g ht.2.2.1 (by omega))).symm
theorem OwnYD.below {w w' : World} {B hi : Nat} {v u : Value} {Y : List (List Int)} {D : List Int} (h : OwnYD w B hi v Y u D) (hb : Below w.heap.size w w') : OwnYD w' B hi v Y u D :=
  h.span (Span.of_below (lo := w.heap.size) (hi := w.heap.size) hb) (.inl h.1.1)
theorem OwnYD.mono {w : World} {B B' hi hi' : Nat} {v u : Value} {Y : List (List Int)} {D : List Int} (h : OwnYD w B hi v Y u D) (hB : B' ≤ B) (hh : hi ≤ hi') (hw : hi' ≤ w.heap.size) : OwnYD w B' hi' v Y u D :=
  ⟨h.1.mono hB hh hw, ⟨hw, h.2.1.2.1.mono hB, fun b hb => Nat.lt_of_lt_of_le (h.2.1.2.2 b hb) hh⟩, h.2.2⟩
/-- A row of v in its place, its block, and the list's block. -/
theorem OwnYD.row {w : World} {B hi g n c k : Nat} {Y : List (List Int)} {D : List Int} {u x : Value} {l : List Int} (h : OwnYD w B hi (.slice (some ⟨g, 0, none⟩) n c) Y u D) (hl : Y[k]? = some l) (hx : w.cell? ⟨g, k, none⟩ = some x) :
    w.ownsRow B 3 1 x l.length (intV l) ∧ (∀ b, x.ownBlock = some b → b < hi) ∧ x.ownBlock ≠ some g ∧ (∀ b, u.ownBlock = some b → x.ownBlock ≠ some b) := by
  obtain ⟨x2, hx2, -, ho, hb⟩ := h.1.cell hl
  rw [hx] at hx2
  cases hx2
  have ht := own_tab h.1
  refine ⟨ho, hb, ?_, h.2.2 g n c rfl k x (by rw [ht.2.2.2]; exact lt_of_get hl) hx⟩
  obtain ⟨_, _, us, h3, _⟩ := h.1
  exact outer_ne h3 ho g rfl
theorem tab_list {w : World} {B hi g n c : Nat} {Y : List (List Int)} {D : List Int} {u : Value} (h : OwnYD w B hi (.slice (some ⟨g, 0, none⟩) n c) Y u D) : u.ownBlock ≠ some g := by
  obtain ⟨_, _, us, h3, _⟩ := h.1
  exact outer_ne h3 h.2.1.2.1 g rfl
/-- One row was written where it lies. -/
theorem OwnYD.put {w w' : World} {B hi g n cap k : Nat} {Y : List (List Int)} {l' D : List Int} {u x : Value} (h : OwnYD w B hi (.slice (some ⟨g, 0, none⟩) n cap) Y u D) (hk : k < Y.length) (hx : w.cell? ⟨g, k, none⟩ = some x)
    (hg : w.grownBy w' x.ownBlock) (ho : w'.ownsRow B 3 1 x l'.length (intV l')) : OwnYD w' B hi (.slice (some ⟨g, 0, none⟩) n cap) (Y.set k l') u D ∧ Span B hi w w' := by
  obtain ⟨p1, p2⟩ := h.1.put hk hx hg ho
  obtain ⟨r1, r2, r3, r4⟩ := h.row (List.getElem?_eq_getElem hk) hx
  have ht := own_tab h.1
  refine ⟨⟨p1, ⟨Nat.le_trans h.2.1.1 hg.size, h.2.1.2.1.kept hg ?_, h.2.1.2.2⟩, fun g2 n2 c2 e j y hj hy b hb => ?_⟩, p2⟩
  · cases hu : u.ownBlock with
    | none => exact .inl rfl
    | some b => exact .inr fun e => r4 b hu e.symm
  · injection e with e1 e2 e3
    injection e1 with e1
    injection e1 with e1 _ _
    subst e1
    subst e2
    refine h.2.2 g n cap rfl j y hj ?_ b hb
    rw [← hy]
    exact (World.cell?_of_block (a := ⟨g, j, none⟩) (hg.block g ht.2.2.1 (fun e => r3 e.symm))).symm
/-- The list is another one now; the rows are as they were. -/
theorem OwnYD.list {w w' : World} {B hi hi' : Nat} {v u u' : Value} {Y : List (List Int)} {D D' : List Int} (h : OwnYD w B hi v Y u D) (hg : w.grownBy w' u.ownBlock) (ho : w'.ownsRow B 3 1 u' D'.length (intV D')) (hh : hi ≤ hi') (hw : hi' ≤ w'.heap.size)
    (hat : ∀ b, u'.ownBlock = some b → (u.ownBlock = some b ∨ hi ≤ b) ∧ b < hi') : OwnYD w' B hi' v Y u' D' := by
  obtain ⟨hy, hl, ha⟩ := h
  have hy0 := hy
  obtain ⟨h1, h2, us, h3, h4, h5, h6⟩ := hy
  have htl : ∀ b, v.ownBlock = some b → u.ownBlock ≠ some b := outer_ne h3 hl.2.1
  have hvk : w'.ownsRow B 22 1 v Y.length us := h3.kept hg (by
    cases hv : v.ownBlock with
    | none => exact .inl rfl
    | some b => exact .inr fun e => htl b hv e.symm)
  have hcells : ∀ (j : Nat) (x : Value), us[j]? = some x → ∃ g c, v = .slice (some ⟨g, 0, none⟩) Y.length c ∧ w.cell? ⟨g, j, none⟩ = some x := fun j x hj => by
    have hjl := lt_of_get hj
    rcases h3.2 with ⟨_, hn⟩ | ⟨g, cap, cur, rfl, _⟩
    · omega
    · exact ⟨g, cap, rfl, by rw [h3.cellAt j (by omega)]; exact hj⟩
  have hap : ∀ (j : Nat) (x : Value), us[j]? = some x → ∀ b, u.ownBlock = some b → x.ownBlock ≠ some b := fun j x hj b hb => by
    obtain ⟨g, c, hv, hc⟩ := hcells j x hj
    have hjl := lt_of_get hj
    exact ha g _ c hv j x (by omega) hc b hb
  refine ⟨⟨hw, fun b hb => Nat.lt_of_lt_of_le (h2 b hb) hh, us, hvk, h4, fun j x l hx hl' => ?_, h6⟩, ⟨hw, ho, fun b hb => (hat b hb).2⟩, fun g n c e j x hj hx b hb => ?_⟩
  · obtain ⟨ra, rb⟩ := h5 j x l hx hl'
    refine ⟨ra.kept hg ?_, fun b hb => Nat.lt_of_lt_of_le (rb b hb) hh⟩
    cases hxb : x.ownBlock with
    | none => exact .inl rfl
    | some b => exact .inr fun e => hap j x hx b e.symm hxb
  · subst e
    have ht := own_tab hy0
    have hxo : w.cell? ⟨g, j, none⟩ = some x := by
      rw [← hx]
      exact (World.cell?_of_block (a := ⟨g, j, none⟩) (hg.block g ht.2.2.1 (fun e => htl g rfl e.symm))).symm
    rcases (hat b hb).1 with e | e
    · exact ha g n c rfl j x hj hxo b e
    · have hj' : j < Y.length := by omega
      obtain ⟨x2, hx2, -, -, hb2⟩ := hy0.cell (List.getElem?_eq_getElem hj')
      rw [hxo] at hx2
      cases hx2
      intro e2
      have := hb2 b e2
      omega
theorem OwnYD.nil (w : World) (B hi : Nat) (hh : hi ≤ w.heap.size) {u : Value} {D : List Int} (h : LO w B hi u D) : OwnYD w B hi (.slice none 0 0) [] u D :=
  ⟨OwnY.nil w B hi hh, h, fun g n c e => by cases e⟩

theorem markL_d (v u : Value) (Y : List (List Int)) (D : List Int) (k0 : Int) (B hi : Nat) (hn : D.length ≤ 1048576) (hk0 : 0 ≤ k0) (hk1 : k0 ≤ 10000000) (w : World) (h : OwnYD w B hi v Y u D) :
    Calls Try.prog 11 #[u, .int .i64 k0] w fun e w' => e = .returned (.int .i64 (k0 + (D.length : Int))) ∧ OwnYD w' B hi v Y u (runL k0 D.length) ∧ Span B hi w w' :=
  (markI_any u D k0 B hn hk0 hk1 w h.2.1.2.1).mono fun e w' ⟨he, ho, hg⟩ =>
    ⟨he, h.list hg (by rw [runL_len]; exact ho) (Nat.le_refl _) (Nat.le_trans h.1.1 hg.size) (fun b hb => ⟨.inl hb, h.2.1.2.2 b hb⟩), Span.of_grown hg fun b hb => ⟨row_base h.2.1.2.1 b hb, h.2.1.2.2 b hb⟩⟩

/-- A yard and a list of the call's own, apart from each other, and whether it worked. -/
def RetYD (w : World) (R : List (List Int)) (D : List Int) (ok : Bool) (e : Ending) (w' : World) : Prop := ∃ a c u, e = .returned (.tuple #[.agg #[.slice a R.length c], u, .bool ok]) ∧ OwnYD w' w.heap.size w'.heap.size (.slice a R.length c) R u D ∧ Below w.heap.size w w'
theorem RetYD.seen {w w' : World} {R : List (List Int)} {D : List Int} {ok : Bool} {e : Ending} (h : RetYD w R D ok e w') : SeenYL w R D ok e w' := by
  obtain ⟨a, c, u, he, h1, h2⟩ := h
  exact ⟨a, c, u, he, h1.1.yl, h1.2.1.read, h2⟩
end Go.Proofs.Ytjplbcfpbggnnaa
