/-
  The laws' own helpers on one container: szContainer, toContainer. No statement of the seat by itself.
-/
import Derived.Test.YtpmaaflpknjbmaaCGood
namespace Go.Proofs.Ytpmaaflpknjbmaa.C
open Go.RowKit

theorem szCont_any (c : Cont) (left : Int) (w : World) (hs : c.id.size ≤ maxLen) (h0 : 0 ≤ left) (h1 : left ≤ 1048576) :
    Calls Try.prog 26 #[.agg (contV c), .int .i64 left] w fun e w' => e = .returned (.int .i64 (if (c.id.size : Int) ≤ left then left - c.id.size else -1)) ∧ Below w.heap.size w w' := by
  obtain ⟨id, sz, wt, cg, pt⟩ := c
  unfold maxLen at hs
  simp only [contV] at *
  by_cases h : (id.size : Int) ≤ left
  · rw [if_pos h]
    go_enter Try.func26, Try.ntmps26
    go_wp2_with fail
    go_ret
    exact ⟨rfl, (Below.refl _ _).alloc (Nat.le_refl _) _⟩
  · rw [if_neg h]
    go_enter Try.func26, Try.ntmps26
    go_wp2_with fail
    go_ret
    exact ⟨rfl, (Below.refl _ _).alloc (Nat.le_refl _) _⟩

theorem toCont_any (c : Cont) (w : World) :
    Calls Try.prog 28 #[.agg (contV c)] w fun e w' => e = .returned (.agg (contV c)) ∧ Below w.heap.size w w' := by
  obtain ⟨id, sz, wt, cg, pt⟩ := c
  simp only [contV] at *
  go_enter Try.func28, Try.ntmps28
  go_wp2_with fail
  refine bodyPost_ret (v := .agg #[.string id, .int .i64 sz, .int .i64 wt, .int .i64 cg, .int .i64 pt]) (by simp [results, Try.results28, go_sem]) rfl ⟨rfl, (((Below.refl _ _).alloc (Nat.le_refl _) _).alloc (by simp) _).alloc (by simp; omega) _⟩
end Go.Proofs.Ytpmaaflpknjbmaa.C
