/-
  What impl.PortCounts returns. No statement of the seat by itself.
-/
import Derived.Test.YtpmaaflpknjbmaaCKeysP
namespace Go.Proofs.Ytpmaaflpknjbmaa.C
open Go.RowKit Go.Maps

theorem zero3 (w : World) : (zeroValue 3).run Try.prog w = .ok (.int .i64 0) w := by kernel_rfl
section
variable {w : World} {ops : Array Oper} {rest : List Oper} {o : Oper} {a : Act} {Q : Exit → Act → World → Prop}
theorem wpList_lookN (hg : o.guard = none) (m x : Operand) (hop : o.op = Op.lookup 52 m x false) (b n : Nat) (D : DataW Unit)
    (hm : a.eval m = .map (some b)) (hown : w.ownsMap Try.prog 3 (plainElem Try.prog 3) b n D) (p : Int) (hx : a.eval x = .int .i64 p) (hw : (Lit.int .i64 p).wf = true) (c : Int)
    (hc : D.atKey (.int .i64 p) (.lit (.int .i64 0)) = .lit (.int .i64 c))
    (hK : wpList Try.prog ops Q rest (a.put o.dst (.int .i64 c)) w) : wpList Try.prog ops Q (o :: rest) a w :=
  wpList_lookup_own_int w hg m x 52 hop 3 3 .i64 keyI Try.underlying52 Try.underlying3 (zero3 w) b n D hm hown (.int .i64 p) (.int .i64 p) hx (keyOf_int_mk Try.underlying3 hw) (fun c' hat _ => by
    rw [hc] at hat
    injection hat with h1
    injection h1 with _ h2
    rw [← h2]
    exact hK)
theorem wpList_putN (hg : o.guard = none) (m x v : Operand) (hop : o.op = Op.mapUpdate 52 m x v) (b n : Nat) (D : DataW Unit)
    (hm : a.eval m = .map (some b)) (hown : w.ownsMap Try.prog 3 (plainElem Try.prog 3) b n D) (hn : n < maxLen) (p : Int) (c : Int) (hx : a.eval x = .int .i64 p) (hw : (Lit.int .i64 p).wf = true) (hv : a.eval v = .int .i64 c) (hwc : (Lit.int .i64 c).wf = true)
    (hK : ∀ w', w'.ownsMap Try.prog 3 (plainElem Try.prog 3) b (n + 1) (D.put (.int .i64 p) (.lit (.int .i64 c))) → w.grownBy w' (some b) → wpList Try.prog ops Q rest (a.put o.dst undef) w') : wpList Try.prog ops Q (o :: rest) a w :=
  wpList_mapUpdate_own w hg m x v 52 hop 3 3 keyI Try.underlying52 (plainElem Try.prog 3) b n D hm hown hn (.int .i64 p) (.int .i64 c) (.int .i64 p) hx hv (keyOf_int_mk Try.underlying3 hw) (.lit (.int .i64 c)) [] (plainElem_int Try.underlying3 hwc) hK
end
/-- While the pairs are put together: the keys' row and the map stay, and the pairs lie in neither. -/
def KeepP (wr : World) (gv b m : Nat) (D : DataW Unit) (ps : List Int) (o : Value) : Prop := (∀ j (hj : j < ps.length), wr.cell? ⟨gv, j, none⟩ = some (.int .i64 ps[j])) ∧ wr.ownsMap Try.prog 3 (plainElem Try.prog 3) b m D ∧ (∀ j, o.ownBlock = some j → j ≠ gv ∧ j ≠ b) ∧ gv < wr.heap.size
theorem KeepP.step {wr W1 W3 : World} {gv b m : Nat} {D : DataW Unit} {ps : List Int} {o o' : Value} (h : KeepP wr gv b m D ps o) (hb : Below wr.heap.size wr W1) (hg : W1.grownBy W3 o.ownBlock) (hat : o'.ownBlock = o.ownBlock ∨ o'.ownBlock = some W1.heap.size) : KeepP W3 gv b m D ps o' := by
  obtain ⟨h1, h2, h3, h4⟩ := h
  have hlt := h2.lt
  have hs := hb.size
  have ng : some gv ≠ o.ownBlock := fun e => (h3 gv e.symm).1 rfl
  have nb : some b ≠ o.ownBlock := fun e => (h3 b e.symm).2 rfl
  refine ⟨fun j hj => ?_, (h2.kept (grown_of_below hb none) (by simp)).kept hg nb, fun j hj => ?_, by have := hg.size; omega⟩
  · have e1 : W3.cell? ⟨gv, j, none⟩ = W1.cell? ⟨gv, j, none⟩ := World.cell?_of_block (a := ⟨gv, j, none⟩) (hg.block gv (by omega) ng)
    rw [e1]
    exact (hb.cell (p := ⟨gv, j, none⟩) h4).trans (h1 j hj)
  · rcases hat with e | e
    · exact h3 j (e ▸ hj)
    · rw [e] at hj
      injection hj with hj
      omega

end Go.Proofs.Ytpmaaflpknjbmaa.C
