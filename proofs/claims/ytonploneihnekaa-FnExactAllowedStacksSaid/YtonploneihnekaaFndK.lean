/-
  Lists of findings that grow. No statement of the seat by itself.
-/
import Derived.Test.YtonploneihnekaaFinM
import Derived.Test.YtonploneihnekaaLawC
import Derived.Deep.RegionHeldLaw
namespace Go.Proofs.Ytonploneihnekaa
open Go.RowKit

theorem three_new (w : World) (x y z : Value) (T : TypeId) : ∀ (j : Nat) (u : Value), [x, y, z][j]? = some u → (w.alloc (.cells #[x, y, z] T)).cell? (Addr.add ⟨w.heap.size, 0, none⟩ j) = some u := by
  intro j u hj
  have hn := heap_alloc_new w (.cells #[x, y, z] T)
  match j, hj with
  | 0, hj => cases hj; exact cell_of hn rfl
  | 1, hj => cases hj; exact cell_of hn rfl
  | 2, hj => cases hj; exact cell_of hn rfl
  | j + 3, hj => simp at hj
theorem own_emptyF (w : World) (o : Obj) (h : o = .cells #[] 70 (0, 0)) : (w.alloc o).ownsRow w.heap.size 70 3 (.slice (some ⟨w.heap.size, 0, none⟩) 0 0) 0 [] := by
  subst h
  exact ⟨rfl, .inr ⟨w.heap.size, 0, #[], rfl, Nat.le_refl _, heap_alloc_new w _, Nat.le_refl _, Nat.zero_le _, rfl, rfl⟩⟩
theorem flatF_one (S : List Fnd) : ∀ u ∈ flatF S, u.oneCell' = true := by
  induction S with
  | nil => intro u hu; cases hu
  | cons x S ih =>
    intro u hu
    rw [flatF] at hu
    rcases List.mem_cons.1 hu with rfl | hu
    · rfl
    · rcases List.mem_cons.1 hu with rfl | hu
      · rfl
      · rcases List.mem_cons.1 hu with rfl | hu
        · rfl
        · exact ih u hu
theorem addrF_add (g off j : Nat) : (⟨g, off, none⟩ : Addr).add j = ⟨g, off + j, none⟩ := by simp [Addr.add]
theorem flatF_src {w : World} {g off : Nat} {S : List Fnd} (h : ∀ j s, S[j]? = some s → FCells w g (off + j * 3) s) : ∀ j u, (flatF S)[j]? = some u → w.cell? ((⟨g, off, none⟩ : Addr).add j) = some u := fun j u hu => by
  have hj : j < S.length * 3 := by have := lt_of_get hu; rw [flatF_len] at this; omega
  obtain ⟨s, hs⟩ : ∃ s, S[j / 3]? = some s := get_at rfl (by omega)
  have h1 := h _ _ hs
  have h2 := flatF_at _ _ _ hs
  rw [addrF_add]
  rcases (show j % 3 = 0 ∨ j % 3 = 1 ∨ j % 3 = 2 by omega) with e | e | e
  · have e2 : j = j / 3 * 3 := by omega
    rw [e2, h2.1] at hu
    cases hu
    rw [e2]
    exact h1.1
  · have e2 : j = j / 3 * 3 + 1 := by omega
    rw [e2, h2.2.1] at hu
    cases hu
    rw [e2]
    exact h1.2.1
  · have e2 : j = j / 3 * 3 + 2 := by omega
    rw [e2, h2.2.2] at hu
    cases hu
    rw [e2]
    exact h1.2.2
/-- A row lies in no block of another type. -/
theorem row_ne {w : World} {B e size n q : Nat} {v : Value} {xs : List Value} {cur : Array Value} {T : TypeId} (h : w.ownsRow B e size v n xs) (hq : w.heap[q]? = some (.cells cur T (0, 0))) (hT : T ≠ e) : v.ownBlock ≠ some q := by
  intro hv
  rcases h.2 with ⟨rfl, _⟩ | ⟨g, cap, cur2, rfl, _, hb, _⟩
  · simp [Value.ownBlock] at hv
  · have e1 : g = q := by simpa [Value.ownBlock] using hv
    subst e1
    rw [hb] at hq
    simp at hq
    exact hT hq.2.symm
theorem blk_grown {w w' : World} {B e size n q : Nat} {v : Value} {xs : List Value} {cur : Array Value} {T : TypeId} (hq : w.heap[q]? = some (.cells cur T (0, 0))) (h : w.ownsRow B e size v n xs) (hT : T ≠ e) (hg : w.grownBy w' v.ownBlock) : w'.heap[q]? = some (.cells cur T (0, 0)) :=
  (hg.block q (Array.getElem?_eq_some_iff.1 hq).1 (fun e => row_ne h hq hT e.symm)).trans hq
theorem blk_alloc {w : World} {q : Nat} {o : Obj} (hq : w.heap[q]? = some o) (o2 : Obj) : (w.alloc o2).heap[q]? = some o := by
  rw [heap_alloc_old w o2 q (Array.getElem?_eq_some_iff.1 hq).1]; exact hq
theorem blk_below {w w' : World} {q : Nat} {o : Obj} (hq : w.heap[q]? = some o) (hb : Below w.heap.size w w') : w'.heap[q]? = some o :=
  (hb.block q (Array.getElem?_eq_some_iff.1 hq).1).trans hq
/-- A list of findings grows: nothing that was there at w turns. -/
def GrowF (w wr : World) (B : Nat) (v : Value) (L : List Fnd) : Prop := Below w.heap.size w wr ∧ w.heap.size ≤ B ∧ B < wr.heap.size ∧ wr.ownsRow B 70 3 v L.length (flatF L) ∧ v ≠ .slice none 0 0
theorem GrowF.below {w wr w' : World} {B : Nat} {v : Value} {L : List Fnd} (h : GrowF w wr B v L) (hb : Below wr.heap.size wr w') : GrowF w w' B v L :=
  ⟨h.1.trans (hb.mono h.1.size), h.2.1, Nat.lt_of_lt_of_le h.2.2.1 hb.size, row_below h.2.2.2.1 hb, h.2.2.2.2⟩
theorem GrowF.push {w wr w4 : World} {B m : Nat} {v v' : Value} {L M : List Fnd} {xs : List Value} (h : GrowF w wr B v L) (ho : w4.ownsRow B 70 3 v' (L.length + m) (flatF L ++ xs)) (hg : wr.grownBy w4 v.ownBlock) (hnil : v' = .slice none 0 0 ↔ v = .slice none 0 0 ∧ m = 0) (hm : M.length = m) (hx : xs = flatF M) : GrowF w w4 B v' (L ++ M) := by
  subst hx
  obtain ⟨h1, h2, h3, h4, h5⟩ := h
  refine ⟨h1.grown hg (by omega) (fun j e => by have := row_base h4 j e; omega), h2, Nat.lt_of_lt_of_le h3 hg.size, ?_, fun e => h5 (hnil.1 e).1⟩
  rw [flatF_app, List.length_append, hm]
  exact ho
theorem GrowF.one {w wr w4 : World} {B : Nat} {v v' : Value} {L : List Fnd} {x y z : Int} (o : Obj) (h : GrowF w wr B v L) (ho : w4.ownsRow B 70 3 v' (L.length + 1) (flatF L ++ [.int .i64 x, .int .i64 y, .int .i64 z])) (hg : (wr.alloc o).grownBy w4 v.ownBlock) (hnil : v' = .slice none 0 0 ↔ v = .slice none 0 0 ∧ 1 = 0) : GrowF w w4 B v' (L ++ [(x, y, z)]) :=
  (h.below (below_one wr o)).push ho hg hnil rfl rfl
theorem GrowF.form {w wr : World} {B : Nat} {v : Value} {L : List Fnd} (h : GrowF w wr B v L) : ∃ g c, v = .slice (some ⟨g, 0, none⟩) L.length c := by
  rcases h.2.2.2.1.2 with ⟨e, _⟩ | ⟨g, cap, cur, hv, _⟩
  · exact absurd e h.2.2.2.2
  · exact ⟨g, cap, hv⟩
/-- A list of findings at a place was answered. -/
def AtP (w : World) (R : List Fnd) (e : Ending) (w' : World) : Prop := ∃ g c, e = .returned (.slice (some ⟨g, 0, none⟩) R.length c) ∧ FL w' (.slice (some ⟨g, 0, none⟩) R.length c) R ∧ FO w' w.heap.size w'.heap.size (.slice (some ⟨g, 0, none⟩) R.length c) R ∧ Below w.heap.size w w'
theorem GrowF.done {w wr : World} {B : Nat} {v : Value} {L : List Fnd} (h : GrowF w wr B v L) : AtP w L (.returned v) wr := by
  obtain ⟨g, c, rfl⟩ := h.form
  exact ⟨g, c, rfl, fl_of_owns h.2.2.2.1, fo_of_own h.2.2.2.1 h.2.1, h.1⟩
theorem GrowF.start {w : World} (o2 : Obj) : GrowF w ((w.alloc o2).alloc (.cells #[] 70)) (w.heap.size + 1) (.slice (some ⟨w.heap.size + 1, 0, none⟩) 0 0) [] := by
  refine ⟨(below_one w o2).trans ((below_one _ _).mono (by simp)), by omega, by simp, ?_, by simp⟩
  have := own_emptyF (w.alloc o2) (.cells #[] 70) rfl
  simpa [flatF] using this

/-- Whether a rule is broken. -/
def brk (c : C.Cont) (b : Option C.Cont) (pw : Bool) (r : Nat) : Bool := decide ((r : Int) ∈ rulL c b pw)
/-- The broken rules up to a number. -/
def rulT (c : C.Cont) (b : Option C.Cont) (pw : Bool) : Nat → List Int
  | 0 => []
  | r + 1 => rulT c b pw r ++ (if brk c b pw (r + 1) then [((r + 1 : Nat) : Int)] else [])
theorem brk_1 (c b : C.Cont) (pw : Bool) : brk c (some b) pw 1 = decide (b.weight < c.weight) := by
  unfold brk rulL rulU rulG
  by_cases h1 : b.weight < c.weight <;> by_cases h2 : c.size ≠ b.size <;> by_cases h3 : c.cargo = 3 <;> by_cases h4 : c.cargo = 2 ∧ pw = false <;> simp [h1, h2, h3, h4]
theorem brk_2 (c b : C.Cont) (pw : Bool) : brk c (some b) pw 2 = decide (c.size ≠ b.size) := by
  unfold brk rulL rulU rulG
  by_cases h1 : b.weight < c.weight <;> by_cases h2 : c.size ≠ b.size <;> by_cases h3 : c.cargo = 3 <;> by_cases h4 : c.cargo = 2 ∧ pw = false <;> simp [h1, h2, h3, h4]
theorem brk_3 (c b : C.Cont) (pw : Bool) : brk c (some b) pw 3 = decide (c.cargo = 3) := by
  unfold brk rulL rulU rulG
  by_cases h1 : b.weight < c.weight <;> by_cases h2 : c.size ≠ b.size <;> by_cases h3 : c.cargo = 3 <;> by_cases h4 : c.cargo = 2 ∧ pw = false <;> simp [h1, h2, h3, h4]
theorem brk_4 (c : C.Cont) (b : Option C.Cont) (pw : Bool) : brk c b pw 4 = decide (c.cargo = 2 ∧ pw = false) := by
  cases b with
  | none => unfold brk rulL rulU rulG; by_cases h4 : c.cargo = 2 ∧ pw = false <;> simp [h4]
  | some b =>
    unfold brk rulL rulU rulG
    by_cases h1 : b.weight < c.weight <;> by_cases h2 : c.size ≠ b.size <;> by_cases h3 : c.cargo = 3 <;> by_cases h4 : c.cargo = 2 ∧ pw = false <;> simp [h1, h2, h3, h4]
theorem brk_0 (c : C.Cont) (pw : Bool) (r : Nat) (h : r ≠ 4) : brk c none pw r = false := by
  unfold brk rulL rulU rulG
  by_cases h4 : c.cargo = 2 ∧ pw = false <;> simp [h4]
  omega
theorem rulT_four (c : C.Cont) (b : Option C.Cont) (pw : Bool) : rulT c b pw 4 = rulL c b pw := by
  cases b with
  | none =>
    simp only [rulT, Nat.zero_add, Nat.reduceAdd, brk_0 c pw 1 (by decide), brk_0 c pw 2 (by decide), brk_0 c pw 3 (by decide), brk_4]
    unfold rulL rulU rulG
    by_cases h4 : c.cargo = 2 ∧ pw = false <;> simp [h4]
  | some b =>
    simp only [rulT, Nat.zero_add, Nat.reduceAdd, brk_1, brk_2, brk_3, brk_4]
    unfold rulL rulU rulG
    by_cases h1 : b.weight < c.weight <;> by_cases h2 : c.size ≠ b.size <;> by_cases h3 : c.cargo = 3 <;> by_cases h4 : c.cargo = 2 ∧ pw = false <;> simp [h1, h2, h3, h4]
theorem rulT_len (c : C.Cont) (b : Option C.Cont) (pw : Bool) : ∀ r, (rulT c b pw r).length ≤ r
  | 0 => by simp [rulT]
  | r + 1 => by
    have := rulT_len c b pw r
    rw [rulT, List.length_append]
    split <;> simp <;> omega
/-- The findings of the broken rules up to a number. -/
def fndT (c : C.Cont) (b : Option C.Cont) (pw : Bool) (i k : Nat) (r : Nat) : List Fnd := (rulT c b pw r).map fun r => (r, (i : Int), (k : Int))
theorem fndT_len (c : C.Cont) (b : Option C.Cont) (pw : Bool) (i k r : Nat) : (fndT c b pw i k r).length ≤ r := by rw [fndT, List.length_map]; exact rulT_len c b pw r
theorem fndT_yes {c : C.Cont} {b : Option C.Cont} {pw : Bool} {i k r : Nat} (h : brk c b pw (r + 1) = true) : fndT c b pw i k (r + 1) = fndT c b pw i k r ++ [(((r + 1 : Nat) : Int), (i : Int), (k : Int))] := by simp [fndT, rulT, h]
theorem fndT_no {c : C.Cont} {b : Option C.Cont} {pw : Bool} {i k r : Nat} (h : brk c b pw (r + 1) = false) : fndT c b pw i k (r + 1) = fndT c b pw i k r := by simp [fndT, rulT, h]
theorem fndT_four (f : Nat → C.Cont) (p : Int) (i : Nat) (l : List Int) (k : Nat) : fndT (boxF f (l.getD k 0)) (belF f l k) (decide ((i : Int) < p)) i k 4 = atF f p i l k := by rw [fndT, rulT_four]; rfl
end Go.Proofs.Ytonploneihnekaa
