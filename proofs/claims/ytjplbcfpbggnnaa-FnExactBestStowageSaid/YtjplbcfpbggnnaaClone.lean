/-
  What slices.Clone answers; what calls of this chapter answer: a list, a number and whether it worked. No statement of the seat by itself.
-/
import Derived.Test.YtjplbcfpbggnnaaLawP
import Derived.Test.YtjplbcfpbggnnaaOwn
import Derived.Laws.Cover3
namespace Go.Proofs.Ytjplbcfpbggnnaa
open Go.RowKit

/-- A list of the call's own, a number, and whether it worked. -/
def RetLX (w : World) (R : List Int) (x : Int) (ok : Bool) (e : Ending) (w' : World) : Prop := ∃ a c, e = .returned (.tuple #[.slice a R.length c, .int .i64 x, .bool ok]) ∧ LO w' w.heap.size w'.heap.size (.slice a R.length c) R ∧ Below w.heap.size w w'
/-- A list that reads so, a number, and whether it worked. -/
def SeenLX (w : World) (R : List Int) (x : Int) (ok : Bool) (e : Ending) (w' : World) : Prop := ∃ a c, e = .returned (.tuple #[.slice a R.length c, .int .i64 x, .bool ok]) ∧ IL w' (.slice a R.length c) R ∧ Below w.heap.size w w'
theorem RetLX.seen {w w' : World} {R : List Int} {x : Int} {ok : Bool} {e : Ending} (h : RetLX w R x ok e w') : SeenLX w R x ok e w' := by
  obtain ⟨a, c, he, h1, h2⟩ := h
  exact ⟨a, c, he, h1.read, h2⟩

theorem eqlNil (a : Addr) (n cap : Nat) (w : World) : Sem.run Try.prog (binOp BinOp.eql 22 (.slice (some a) n cap) (.slice none 0 0)) w = Result.ok (.bool false) w := by
  have h := run_equal_slice_nil (P := Try.prog) w 22 3 (some a) n cap Try.underlying22
  unfold binOp
  simp [h]

set_option maxRecDepth 100000 in
set_option maxHeartbeats 2000000 in
theorem clone_any (a : Addr) (cap : Nat) (l : List Int) (hl : l.length ≤ 1048576) (w : World) (h : IL w (.slice (some a) l.length cap) l) :
    Calls Try.prog 25 #[.slice (some a) l.length cap] w (NewI w l) := by
  obtain ⟨f3, hi3, hz0, hz1, hz2⟩ := info_is info3
  have hq := eqlNil a
  obtain ⟨a', cap', e, hc⟩ := h
  injection e with e1 e2 e3
  subst e3
  have R0 := own_empty w (.cells #[] 3) 3 rfl
  have B0 := below_one w (.cells #[] 3)
  by_cases h0 : l.length = 0
  · have e : l = [] := List.eq_nil_of_length_eq_zero h0
    subst e
    have HR : Hid (NewI w [] (.returned (.slice (some ⟨w.heap.size, 0, none⟩) 0 0)) (w.alloc (.cells #[] 3))) := Lib.hid ⟨_, _, rfl, by simpa [intV] using R0, B0⟩
    clear hc h0 hl R0 B0 e1 e2
    simp only [List.length_nil]
    go_enter Try.func25, Try.ntmps25
    go_wp2_with (at_builtin; refine wpList_append_zero rfl _ _ 22 rfl 3 f3 Try.underlying22 hi3 _ _ _ _ _ rfl rfl (Nat.le_refl _) ?_)
    go_ret
    exact HR.out
  · obtain ⟨g, off, e2', hg, hcc⟩ := hc (by omega)
    rw [← e1] at e2'
    injection e2' with e2'
    subst e2'
    have HC := Lib.hid (src_of (fun j x hx => (B0.cell (p := ⟨g, off + j, none⟩) hg).trans (hcc j x hx)))
    have HB := Lib.hid B0
    have HO := Lib.hid R0
    have HL := Lib.hid (intV_len l)
    obtain ⟨n, hn⟩ : ∃ n, l.length = n := ⟨_, rfl⟩
    have HN := Lib.hid hn
    rw [hn] at hl h0 HL ⊢
    clear hcc hc B0 hn R0 e1 e2
    have hz : w.heap.size ≤ (w.alloc (.cells #[] 3)).heap.size := by simp
    go_enter Try.func25, Try.ntmps25
    go_wp2_with (at_builtin; refine wpList_append_own _ rfl _ _ 22 rfl w.heap.size 3 f3 (.int .i64 0) 1 8 Try.underlying22 hi3 hz0 hz1 hz2 rfl (by decide) _ _ _ rfl HO.out ⟨g, off, none⟩ n _ (intV l) rfl (by rw [HL.out]; omega) HC.out (intV_one l) (by unfold maxLen; omega) (by omega) hz ?_; intro v' w4 hown' hgrow hnil)
    have HX : Hid (NewI w l (.returned v') w4) := Lib.hid (by
      simp only [Nat.zero_add, List.nil_append] at hown'
      obtain ⟨a4, c4, rfl⟩ := own_form hown'
      have hn := HN.out
      exact ⟨a4, c4, by rw [hn], by rw [hn]; exact hown', HB.out.grown hgrow hz (fun j e => by have := row_base HO.out j e; omega)⟩)
    clear hown' hgrow hnil
    go_ret
    exact HX.out
end Go.Proofs.Ytjplbcfpbggnnaa
