/-
  Copies of yards: spec.l5Own. No statement of the seat by itself.
-/
import Derived.Test.YtpljcpeghjplnaaOwn
import Derived.Deep.RegionLaw
import Derived.Handy
namespace Go.Proofs.Ytpljcpeghjplnaa
open Go.RowKit

theorem Rows2.below {w w' : World} {B hi : Nat} {us : List Value} {Y : List (List Int)} (h : Rows2 w B hi us Y) (hb : Below w.heap.size w w') : Rows2 w' B hi us Y :=
  ⟨h.1, fun j u l hu hl => ⟨row_below (h.2.1 j u l hu hl).1 hb, (h.2.1 j u l hu hl).2⟩, h.2.2⟩
/-- append of one row onto a row of rows, inside a region that draws its order. -/
theorem step_rows {ops : Array Oper} {o : Oper} {a : Act} {w : World} {K : Act → World → Prop} {Q : Exit → Act → World → Prop} {E : Prop} (hgd : o.guard = none) (s x : Operand)
    (ho : o.op = .call { callee := .builtin .append, args := #[s, x], argTypes := #[139, 139] }) (base : Nat) (v : Value) (n : Nat) (xs : List Value) (hs : a.eval s = v) (hown : w.ownsRow base 25 1 v n xs)
    (ad : Addr) (c : Nat) (u : Value) (hx : a.eval x = .slice (some ad) 1 c) (hnews : ∀ j y, ([u] : List Value)[j]? = some y → w.cell? (ad.add j) = some y) (h1 : u.oneCell' = true)
    (hb : n ≤ 1048576) (hbase : base ≤ w.heap.size)
    (h : ∀ v' w', w'.ownsRow base 25 1 v' (n + 1) (xs ++ [u]) → w.grownBy w' v.ownBlock → K (a.put o.dst v') w') :
    if Region.wanted o (yielded ops a.tmps) = true then Oper.wp Try.prog o a w K Q else E := by
  have hw : Region.wanted o (yielded ops a.tmps) = true := by simp [Region.wanted, hgd]
  obtain ⟨i0, hi, hz0, hz1, hz2⟩ := info_is info38
  rw [if_pos hw]
  exact wp_append_own w s x 139 ho base 25 i0 (.slice none 0 0) 1 24 Try.underlying139 hi hz0 hz1 hz2 rfl (by decide) v n xs hs hown ad 1 c [u] hx rfl hnews (by simpa using h1) (by unfold maxLen; omega) (by omega) hbase (fun v' w' ho hg _ => h v' w' ho hg)
theorem cell_val_new (w : World) (x : Value) (T : TypeId) : ∀ j u, ([x] : List Value)[j]? = some u → (w.alloc (.cells #[x] T)).cell? ((⟨w.heap.size, 0, none⟩ : Addr).add j) = some u := by
  intro j u hj
  have h0 : j = 0 := by
    by_cases h : j = 0
    · exact h
    · rw [List.getElem?_eq_none (by simp; omega)] at hj; cases hj
  subst h0
  simp only [List.getElem?_cons_zero, Option.some.injEq] at hj
  subst hj
  exact cell_of (heap_alloc_new w _) rfl

end Go.Proofs.Ytpljcpeghjplnaa
