/-
  What spec.l1Put returns: a number put into an ascending list. No statement of the seat by itself.
-/
import Derived.Test.YtalobfpmmembiaaEarI
import Derived.Test.YtalobfpmmembiaaBadM
import Derived.Test.YtalobfpmmembiaaCopyI
import Derived.Deep.RegionLaw
import Derived.Laws.Cover1
import Derived.IntWalk
namespace Go.Proofs.Ytalobfpmmembiaa
open Go.RowKit

/-- append of ints onto a row of the call's own, inside a region that draws its order. -/
theorem step_ints {ops : Array Oper} {o : Oper} {a : Act} {w : World} {K : Act → World → Prop} {Q : Exit → Act → World → Prop} {E : Prop} (hgd : o.guard = none) (s x : Operand)
    (ho : o.op = .call { callee := .builtin .append, args := #[s, x], argTypes := #[24, 24] }) (base : Nat) (v : Value) (n : Nat) (xs : List Value) (hs : a.eval s = v) (hown : w.ownsRow base 3 1 v n xs)
    (ad : Addr) (m c : Nat) (news : List Value) (hx : a.eval x = .slice (some ad) m c) (hl : news.length = m) (hnews : ∀ j u, news[j]? = some u → w.cell? (ad.add j) = some u) (h1 : ∀ u ∈ news, u.oneCell' = true)
    (hb : n + m ≤ 1000) (hbase : base ≤ w.heap.size)
    (h : ∀ v' w', w'.ownsRow base 3 1 v' (n + m) (xs ++ news) → w.grownBy w' v.ownBlock → (v' = .slice none 0 0 ↔ v = .slice none 0 0 ∧ m = 0) → K (a.put o.dst v') w') :
    if Region.wanted o (yielded ops a.tmps) = true then Oper.wp Try.prog o a w K Q else E := by
  have hw : Region.wanted o (yielded ops a.tmps) = true := by simp [Region.wanted, hgd]
  obtain ⟨i0, hi, hz0, hz1, hz2⟩ := info_is info3
  rw [if_pos hw]
  exact wp_append_own w s x 24 ho base 3 i0 (.int .i64 0) 1 8 Try.underlying24 hi hz0 hz1 hz2 rfl (by decide) v n xs hs hown ad m c news hx (by omega) hnews h1 (by unfold maxLen; omega) (by omega) hbase h
theorem getV_of {L : List Int} {j : Nat} (h : j < L.length) : (intV L)[j]? = some (.int .i64 (L.getD j 0)) := by
  rw [intV_get, List.getElem?_eq_getElem h]
  simp [List.getD, List.getElem?_eq_getElem h]
theorem srcI_take {w : World} {g2 k i : Nat} {l : List Int} (hk : k ≤ i) (hc : ∀ j, j < i → w.cell? ⟨g2, j, none⟩ = some (.int .i64 (l.getD j 0))) (hl : l.length = i) (hg : g2 < w.heap.size) (W : World) (hb : Below w.heap.size w W) :
    ∀ j u, ((intV l).take k)[j]? = some u → W.cell? ((⟨g2, 0, none⟩ : Addr).add j) = some u := fun j u hu => by
  have hj : j < k := by
    have := (List.getElem?_eq_some_iff.1 hu).1
    simp at this; omega
  rw [List.getElem?_take_of_lt hj, getV_of (by omega)] at hu
  rw [addr_add, Nat.zero_add, hb.cell (p := ⟨g2, j, none⟩) hg, hc j (by omega)]
  exact hu
theorem srcI_drop {w : World} {g2 k i : Nat} {l : List Int} (hc : ∀ j, j < i → w.cell? ⟨g2, j, none⟩ = some (.int .i64 (l.getD j 0))) (hl : l.length = i) (hg : g2 < w.heap.size) (W : World) (hb : Below w.heap.size w W) (off : Nat) (ho : off = k ∨ i ≤ k) :
    ∀ j u, ((intV l).drop k)[j]? = some u → W.cell? ((⟨g2, off, none⟩ : Addr).add j) = some u := fun j u hu => by
  rw [List.getElem?_drop] at hu
  have hj : k + j < i := by
    have := (List.getElem?_eq_some_iff.1 hu).1
    rw [intV_len] at this; omega
  have ho' : off = k := by omega
  subst ho'
  rw [getV_of (by omega)] at hu
  rw [addr_add, hb.cell (p := ⟨g2, off + j, none⟩) hg, hc (off + j) (by omega)]
  exact hu
theorem srcI_one {W W' : World} {b : Nat} {x : Value} {row : Option Nat} (hc : ∀ j u, [x][j]? = some u → W.cell? ((⟨b, 0, none⟩ : Addr).add j) = some u) (hg : W.grownBy W' row) (hb : b < W.heap.size) (hne : some b ≠ row) :
    ∀ j u, [x][j]? = some u → W'.cell? ((⟨b, 0, none⟩ : Addr).add j) = some u := fun j u hu => by
  have h := hc j u hu
  rw [addr_add] at *
  rw [World.cell?_of_block (hg.block b hb hne)]
  exact h
theorem srcIB {w5 w43 : World} {x : Value} (hg : World.grownBy (World.drew ((w5.alloc (.cells #[] 3)).alloc (.cells #[x] 3))) w43 (Value.slice (some ⟨w5.heap.size, 0, none⟩) 0 0).ownBlock) :
    ∀ j u, [x][j]? = some u → w43.cell? ((⟨w5.heap.size + 1, 0, none⟩ : Addr).add j) = some u :=
  srcI_one (W := World.drew ((w5.alloc (.cells #[] 3)).alloc (.cells #[x] 3))) (by
    have := cell_one_new (w5.alloc (.cells #[] 3)) x 3
    rw [show (w5.alloc (.cells #[] 3)).heap.size = w5.heap.size + 1 by simp] at this
    exact this) hg (by simp [World.drew]) (by simp [Value.ownBlock])
theorem srcIC {w5 w43 : World} {x : Value} (hg : World.grownBy (World.drew ((w5.alloc (.cells #[x] 3)).alloc (.cells #[] 3))) w43 (Value.slice (some ⟨w5.heap.size + 1, 0, none⟩) 0 0).ownBlock) :
    ∀ j u, [x][j]? = some u → w43.cell? ((⟨w5.heap.size, 0, none⟩ : Addr).add j) = some u :=
  srcI_one (W := World.drew ((w5.alloc (.cells #[x] 3)).alloc (.cells #[] 3))) (fun j u (hu : [x][j]? = some u) => (World.cell?_alloc_lt (w5.alloc (.cells #[x] 3)) (.cells #[] 3) ((⟨w5.heap.size, 0, none⟩ : Addr).add j) (by rw [addr_add]; simp)).trans (cell_one_new w5 x 3 j u hu)) hg (by simp [World.drew]; omega) (by simp [Value.ownBlock])
theorem drewB {n : Nat} {w w1 : World} (h : Below n w w1) : Below n w w1.drew := ⟨h.os, h.tape, h.output, h.size, h.block⟩
theorem below_row {n : Nat} {w W W' : World} {v : Value} {m e s : Nat} {xs : List Value} (hb : Below n w W) (ho : W.ownsRow n e s v m xs) (hg : W.grownBy W' v.ownBlock) (hn : n ≤ W.heap.size) : Below n w W' := hb.grown hg hn (row_base ho)
/-- A new list was answered, and nothing older turned. -/
def PutI1 (w : World) (L : List Int) (e : Ending) (w' : World) : Prop := ∃ v, e = .returned v ∧ v ≠ .slice none 0 0 ∧ w'.ownsRow w.heap.size 3 1 v L.length (intV L) ∧ Below w.heap.size w w'

end Go.Proofs.Ytalobfpmmembiaa
