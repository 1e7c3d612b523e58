/-
  Copies: spec.l1Own. No statement of the seat by itself.
-/
import Derived.Test.YtpljcpeghjplnaaHeights
import Derived.Laws.CopyOwn
namespace Go.Proofs.Ytpljcpeghjplnaa
open Go.RowKit

theorem run_append_zero {P : Program} (w : World) (t ty e : TypeId) (i : TypeInfo) (ht : P.underlying t = some (.slice e)) (hi : P.info? e = some i) (v : Option Addr) (n cap : Nat) (hn : n ≤ cap) (a : Option Addr) (c : Nat) :
    (Builtin.append_ #[t, t] ty #[.slice v n cap, .slice a 0 c]).run P w = .ok (.slice v n cap) w := by
  cases v <;> cases a <;> simp [Builtin.append_, run_underlying ht, sizeOf, typeInfo, hi, Builtin.lenOf, Builtin.firstCells, hn, storeCells, loadCells, loadCellsFrom]
theorem wpList_append_zero {P : Program} {w : World} {ops : Array Oper} {rest : List Oper} {o : Oper} {a : Act} {Q : Exit → Act → World → Prop} (hgd : o.guard = none) (d s : Operand) (t : TypeId)
    (ho : o.op = .call { callee := .builtin .append, args := #[d, s], argTypes := #[t, t] }) (e : TypeId) (i : TypeInfo) (ht : P.underlying t = some (.slice e)) (hi : P.info? e = some i)
    (dp sp : Option Addr) (n cap c : Nat) (hd : a.eval d = .slice dp n cap) (hs : a.eval s = .slice sp 0 c) (hn : n ≤ cap)
    (h : wpList P ops Q rest (a.put o.dst (.slice dp n cap)) w) : wpList P ops Q (o :: rest) a w := by
  refine wpList_plain hgd fun K hK => ?_
  have hrun := run_append_zero (P := P) w t o.type e i ht hi dp n cap hn sp c
  unfold Oper.wp
  simp [execOp, ho, resolve, invoke, builtin, hd, hs, hrun, Result.andThen]
  exact hK _ _ h
theorem intV_one (l : List Int) : ∀ u ∈ intV l, u.oneCell' = true := fun u hu => by
  obtain ⟨x, _, rfl⟩ := List.mem_map.1 hu
  rfl
theorem addr_add (b o j : Nat) : (⟨b, o, none⟩ : Addr).add j = ⟨b, o + j, none⟩ := by
  unfold Addr.add
  by_cases h : j = 0 <;> simp [h]
theorem src_of {w : World} {g off : Nat} {l : List Int} (h : ∀ (j : Nat) (x : Int), l[j]? = some x → w.cell? ⟨g, off + j, none⟩ = some (.int .i64 x)) : ∀ j u, (intV l)[j]? = some u → w.cell? ((⟨g, off, none⟩ : Addr).add j) = some u := fun j u hu => by
  rw [intV_get] at hu
  cases hx : l[j]? with
  | none => rw [hx] at hu; cases hu
  | some x =>
    rw [hx] at hu
    simp only [Option.map_some, Option.some.injEq] at hu
    subst hu
    rw [addr_add]
    exact h j x hx

set_option maxRecDepth 100000 in
set_option maxHeartbeats 2000000 in
theorem l1Own_any (v : Value) (l : List Int) (hl : l.length ≤ 1048576) (w : World) (h : IL w v l) :
    Calls Try.prog 121 #[v] w (NewI w l) := by
  obtain ⟨f3, hi3, hz0, hz1, hz2⟩ := info_is info3
  obtain ⟨a, cap, rfl, hc⟩ := h
  have R0 := own_empty w (.cells #[] 3) 3 rfl
  have B0 := below_one w (.cells #[] 3)
  by_cases h0 : l.length = 0
  · have e : l = [] := List.eq_nil_of_length_eq_zero h0
    subst e
    have HR : Hid (NewI w [] (.returned (.slice (some ⟨w.heap.size, 0, none⟩) 0 0)) (w.alloc (.cells #[] 3))) := Lib.hid ⟨_, _, rfl, by simpa [intV] using R0, B0⟩
    clear hc h0 hl R0 B0
    simp only [List.length_nil]
    go_enter Try.func121, Try.ntmps121
    go_wp2_with (at_builtin; refine wpList_append_zero rfl _ _ 25 rfl 3 f3 Try.underlying25 hi3 _ _ _ _ _ rfl rfl (Nat.le_refl _) ?_)
    go_ret
    exact HR.out
  · obtain ⟨g, off, rfl, hg, hcc⟩ := hc (by omega)
    have HC := Lib.hid (src_of (fun j x hx => (B0.cell (p := ⟨g, off + j, none⟩) hg).trans (hcc j x hx)))
    have HB := Lib.hid B0
    have HO := Lib.hid R0
    have HL := Lib.hid (intV_len l)
    obtain ⟨n, hn⟩ : ∃ n, l.length = n := ⟨_, rfl⟩
    have HN := Lib.hid hn
    rw [hn] at hl h0 HL ⊢
    clear hcc hc B0 hn R0
    have hz : w.heap.size ≤ (w.alloc (.cells #[] 3)).heap.size := by simp
    go_enter Try.func121, Try.ntmps121
    go_wp2_with (at_builtin; refine wpList_append_own _ rfl _ _ 25 rfl w.heap.size 3 f3 (.int .i64 0) 1 8 Try.underlying25 hi3 hz0 hz1 hz2 rfl (by decide) _ _ _ rfl HO.out ⟨g, off, none⟩ n _ (intV l) rfl (by rw [HL.out]; omega) HC.out (intV_one l) (by unfold maxLen; omega) (by omega) hz ?_; intro v' w4 hown' hgrow hnil)
    have HX : Hid (NewI w l (.returned v') w4) := Lib.hid (by
      simp only [Nat.zero_add, List.nil_append] at hown'
      obtain ⟨a4, c4, rfl⟩ := own_form hown'
      have hn := HN.out
      exact ⟨a4, c4, by rw [hn], by rw [hn]; exact hown', HB.out.grown hgrow hz (fun j e => by have := row_base HO.out j e; omega)⟩)
    clear hown' hgrow hnil
    go_ret
    exact HX.out
end Go.Proofs.Ytpljcpeghjplnaa
