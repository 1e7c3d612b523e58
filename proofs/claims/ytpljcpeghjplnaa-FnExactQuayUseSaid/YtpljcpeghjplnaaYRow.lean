/-
  The laws' own helpers on lists of lists of ints and on yards: szIntSS, toIntSS, eqIntSS, markIntSS, heldIntSS, szYard and so on. No statement of the seat by itself.
-/
import Derived.Test.YtpljcpeghjplnaaRow
namespace Go.Proofs.Ytpljcpeghjplnaa
open Go.RowKit

/-- How many ints there are. -/
def tot (Y : List (List Int)) : Nat := (Y.map List.length).sum
/-- .. in the first k rows. -/
def tk (Y : List (List Int)) (k : Nat) : Nat := tot (Y.take k)
theorem tk_zero (Y : List (List Int)) : tk Y 0 = 0 := by simp [tk, tot]
theorem tk_all (Y : List (List Int)) : tk Y Y.length = tot Y := by simp [tk]
theorem tk_succ {Y : List (List Int)} {k : Nat} {l : List Int} (h : Y[k]? = some l) : tk Y (k + 1) = tk Y k + l.length := by
  simp [tk, tot, List.take_add_one, h]
theorem tk_le (Y : List (List Int)) (k : Nat) : tk Y k ≤ tot Y := by
  have e : tot Y = tk Y k + tot (Y.drop k) := by
    simp only [tk, tot]
    rw [← List.sum_append_nat, ← List.map_append, List.take_append_drop]
  omega

theorem get_at {α : Type} {Y : List α} {k n : Nat} (hn : Y.length = n) (hk : k < n) : ∃ l, Y[k]? = some l := ⟨_, List.getElem?_eq_getElem (by omega)⟩

/-- What szIntSS answers: -1, or a number that says that all is small. -/
def SzP (w : World) (Y : List (List Int)) (e : Ending) (w' : World) : Prop := Below w.heap.size w w' ∧ (e = .returned (.int .i64 (-1)) ∨ ∃ r : Nat, e = .returned (.int .i64 (r : Int)) ∧ r ≤ 1048576 ∧ Y.length ≤ 1048576 ∧ tot Y ≤ 1048576)

/-- make([][]int, n). -/
theorem make_rows (n : Nat) (hn : n ≤ 1048576) (W : World) : ∃ W', (Instr.makeSlice 139 (.int .i64 (n : Int)) (.int .i64 (n : Int))).run Try.prog W = .ok (.slice (some ⟨W.heap.size, 0, none⟩) n n) W' ∧
    OwnY W' W.heap.size W'.heap.size (.slice (some ⟨W.heap.size, 0, none⟩) n n) (List.replicate n []) ∧ Below W.heap.size W W' := by
  obtain ⟨i, hi, hz, hs, hb⟩ := info_is info38
  obtain ⟨W', h1, h2, h3⟩ := run_make_full (P := Try.prog) W W.heap.size 139 25 i _ 1 Try.underlying139 hi hz hs .i64 .i64 n (by rw [hb]; omega) (by unfold maxLen; omega) (Nat.le_refl _)
  refine ⟨W', h1, ?_, below_of_none h3⟩
  have e : (madeCells (Value.slice none 0 0).cells (n * 1)).toList = List.replicate n (.slice none 0 0) := by
    rw [Nat.mul_one, show (Value.slice none 0 0).cells = #[Value.slice none 0 0] from rfl, toList_madeCells_one]
  rw [e] at h2
  refine ⟨Nat.le_refl _, fun b hb' => row_lt h2 b hb', List.replicate n (.slice none 0 0), by simpa using h2, by simp, fun j u l hu hl => ?_, fun i j u u' b hu hu' hb' => ?_⟩
  · have e1 := List.eq_of_mem_replicate (List.mem_of_getElem? hu)
    have e2 := List.eq_of_mem_replicate (List.mem_of_getElem? hl)
    subst e1 e2
    exact ⟨World.ownsRow_nil _ _ _ _, fun b hb' => by simp [Value.ownBlock] at hb'⟩
  · have e1 := List.eq_of_mem_replicate (List.mem_of_getElem? hu)
    subst e1
    simp [Value.ownBlock] at hb'
theorem set_nextY {Y : List (List Int)} {k n : Nat} {l : List Int} (hn : Y.length = n) (hx : Y[k]? = some l) : (Y.take k ++ List.replicate (n - k) []).set k l = Y.take (k + 1) ++ List.replicate (n - (k + 1)) [] := by
  have hk : k < Y.length := by rcases Nat.lt_or_ge k Y.length with h | h; exact h; rw [List.getElem?_eq_none h] at hx; cases hx
  rw [List.set_append_right _ _ (by simp; omega), List.take_add_one, hx]
  rw [show n - k = (n - (k + 1)) + 1 by omega, List.replicate_succ]
  rw [List.length_take, show k - min k Y.length = 0 by omega]
  simp
/-- While the copy is made: the first k rows are there. -/
def CopyY (w wr : World) (v : Value) (n k : Nat) (Y : List (List Int)) : Prop := OwnY wr w.heap.size wr.heap.size v (Y.take k ++ List.replicate (n - k) []) ∧ Below w.heap.size w wr
/-- A list of lists of the call's own was answered, and nothing older turned. -/
def NewY (w : World) (Y : List (List Int)) (e : Ending) (w' : World) : Prop := ∃ a c, e = .returned (.slice a Y.length c) ∧ OwnY w' w.heap.size w'.heap.size (.slice a Y.length c) Y ∧ Below w.heap.size w w'
theorem copyY_get {Y : List (List Int)} {n k : Nat} (hk : k < n) (hn : Y.length = n) : (Y.take k ++ List.replicate (n - k) ([] : List Int))[k]? = some [] := by
  rw [List.getElem?_append_right (by simp; omega), List.length_take, show k - min k Y.length = 0 by omega, List.getElem?_replicate, if_pos (by omega)]
theorem copyY_len {Y : List (List Int)} {n k : Nat} (hk : k ≤ n) (hn : Y.length = n) : (Y.take k ++ List.replicate (n - k) ([] : List Int)).length = n := by simp; omega
theorem copyY_step {w wr w1 : World} {g n cap k : Nat} {Y : List (List Int)} {l : List Int} {u : Value} (h : CopyY w wr (.slice (some ⟨g, 0, none⟩) n cap) n k Y) (hn : Y.length = n) (hl : Y[k]? = some l)
    (ho : w1.ownsRow wr.heap.size 3 1 u l.length (intV l)) (hb : Below wr.heap.size wr w1) : CopyY w (w1.setCell ⟨g, k, none⟩ u) (.slice (some ⟨g, 0, none⟩) n cap) n (k + 1) Y := by
  have hk : k < n := by rcases Nat.lt_or_ge k Y.length with h | h; omega; rw [List.getElem?_eq_none h] at hl; cases hl
  obtain ⟨h1, h2⟩ := h
  obtain ⟨u0, hu0, -, ho0, hb0⟩ := h1.cell (copyY_get hk hn)
  have hB : w.heap.size ≤ wr.heap.size := h2.size
  have hr := h1.repl (by rw [copyY_len (by omega) hn]; exact hk) hu0 (grown_of_below hb _) (own_base ho fun j hj => Nat.le_trans hB (row_base ho j hj)) fun b hb => .inr (row_base ho b hb)
  rw [set_nextY hn hl] at hr
  have hg : w.heap.size ≤ g := by
    obtain ⟨_, _, us, h3, _⟩ := h1
    exact row_base h3 g rfl
  exact ⟨by simpa using hr.1, (h2.trans (hb.mono hB)).setCell (p := ⟨g, k, none⟩) hg _⟩
theorem copyY_done {w wr : World} {g n cap : Nat} {Y : List (List Int)} (h : CopyY w wr (.slice (some ⟨g, 0, none⟩) n cap) n n Y) (hn : Y.length = n) : NewY w Y (.returned (.slice (some ⟨g, 0, none⟩) n cap)) wr := by
  obtain ⟨h1, h2⟩ := h
  subst hn
  rw [List.take_length, Nat.sub_self, List.replicate_zero, List.append_nil] at h1
  exact ⟨_, _, rfl, h1, h2⟩
theorem row_len {Y : List (List Int)} {k : Nat} {l : List Int} (h : Y[k]? = some l) : l.length ≤ tot Y := by
  have h1 := tk_succ h
  have h2 := tk_le Y (k + 1)
  omega

end Go.Proofs.Ytpljcpeghjplnaa
