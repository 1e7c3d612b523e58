/-
  What the two ChooseStack return. No statement of the seat by itself.
-/
import Derived.Test.YtececghifehjeaaChoS
namespace Go.Proofs.Ytececghifehjeaa
open Go.RowKit

set_option maxHeartbeats 2000000 in
theorem suits_any (n a b : Int) (w : World) : Calls Try.prog 133 #[.int .i64 n, .int .i64 a, .int .i64 b] w fun e w' => e = .returned (.bool (suits n a b)) ∧ w = w' := by
  by_cases h1 : n < a
  · by_cases h2 : n < b
    · have HX : Hid (suits n a b = decide (a < b)) := Lib.hid (by simp [suits, h1, h2])
      go_enter Try.func133, Try.ntmps133
      go_wp2_with fail
      go_ret
      exact ⟨by rw [HX.out]; rfl, rfl⟩
    · have HX : Hid (suits n a b = decide (b < a)) := Lib.hid (by simp [suits, h2])
      go_enter Try.func133, Try.ntmps133
      go_wp2_with fail
      go_ret
      exact ⟨by rw [HX.out]; rfl, rfl⟩
  · have HX : Hid (suits n a b = decide (b < a)) := Lib.hid (by simp [suits, h1])
    go_enter Try.func133, Try.ntmps133
    go_wp2_with fail
    go_ret
    exact ⟨by rw [HX.out]; rfl, rfl⟩

theorem choI_full {n : Int} {Y : List (List Int)} {i : Nat} {l : List Int} (hl : Y[i]? = some l) (h : l.length = 4) : choI n Y (i + 1) = choI n Y i := by
  rw [choI, getD_of hl, if_pos h]
theorem choI_open {n : Int} {Y : List (List Int)} {i : Nat} {l : List Int} (hl : Y[i]? = some l) (h : ¬ l.length = 4) : choI n Y (i + 1) = if suitO n (earL l) Y (choI n Y i) = true then some i else choI n Y i := by
  rw [choI, getD_of hl, if_neg h, earY_of hl]
theorem own_one (w : World) (x : Int) : (w.alloc (.cells #[.int .i64 x] 3)).ownsRow w.heap.size 3 1 (.slice (some ⟨w.heap.size, 0, none⟩) 1 1) 1 (intV [x]) :=
  ⟨rfl, .inr ⟨_, 1, #[.int .i64 x], rfl, Nat.le_refl _, heap_alloc_new w _, Nat.le_refl _, by decide, rfl, rfl⟩⟩
theorem choR_no {Y : List (List Int)} {x : Int} (h : choB Y x = false) : choR Y x = 0 := by simp [choR, h]
theorem choB_ask {Y : List (List Int)} {x : Int} (h : askP Y [x] = false) : choB Y x = false := by simp [choB, h]
theorem choB_none {Y : List (List Int)} {x : Int} (h : choY x Y = none) : choB Y x = false := by simp [choB, h]
theorem choB_some {Y : List (List Int)} {x : Int} {k : Nat} (h : askP Y [x] = true) (hk : choY x Y = some k) : choB Y x = true ∧ choR Y x = (k : Int) := by
  have : choB Y x = true := by simp [choB, h, hk]
  exact ⟨this, by simp [choR, this, hk, pkO]⟩

end Go.Proofs.Ytececghifehjeaa
