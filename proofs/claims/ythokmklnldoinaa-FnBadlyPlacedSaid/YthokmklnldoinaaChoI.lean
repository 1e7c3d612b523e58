/-
  What the two ChooseStack return. No statement of the seat by itself.
-/
import Derived.Test.YthokmklnldoinaaChoS
namespace Go.Proofs.Ythokmklnldoinaa
open Go.RowKit

set_option maxHeartbeats 2000000 in
theorem suits_any (n a b : Int) (w : World) : Calls Try.prog 52 #[.int .i64 n, .int .i64 a, .int .i64 b] w fun e w' => e = .returned (.bool (suits n a b)) ∧ w = w' := by
  by_cases h1 : n < a
  · by_cases h2 : n < b
    · have HX : Hid (suits n a b = decide (a < b)) := Lib.hid (by simp [suits, h1, h2])
      go_enter Try.func52, Try.ntmps52
      go_wp2_with fail
      go_ret
      exact ⟨by rw [HX.out]; rfl, rfl⟩
    · have HX : Hid (suits n a b = decide (b < a)) := Lib.hid (by simp [suits, h2])
      go_enter Try.func52, Try.ntmps52
      go_wp2_with fail
      go_ret
      exact ⟨by rw [HX.out]; rfl, rfl⟩
  · have HX : Hid (suits n a b = decide (b < a)) := Lib.hid (by simp [suits, h1])
    go_enter Try.func52, Try.ntmps52
    go_wp2_with fail
    go_ret
    exact ⟨by rw [HX.out]; rfl, rfl⟩

theorem choI_full {n : Int} {Y : List (List Int)} {i : Nat} {l : List Int} (hl : Y[i]? = some l) (h : l.length = 4) : choI n Y (i + 1) = choI n Y i := by
  rw [choI, getD_of hl, if_pos h]
theorem choI_open {n : Int} {Y : List (List Int)} {i : Nat} {l : List Int} (hl : Y[i]? = some l) (h : ¬ l.length = 4) : choI n Y (i + 1) = if suitO n (earL l) Y (choI n Y i) = true then some i else choI n Y i := by
  rw [choI, getD_of hl, if_neg h, earY_of hl]
theorem own_one (w : World) (x : Int) : (w.alloc (.cells #[.int .i64 x] 3)).ownsRow w.heap.size 3 1 (.slice (some ⟨w.heap.size, 0, none⟩) 1 1) 1 (intV [x]) :=
  ⟨rfl, .inr ⟨_, 1, #[.int .i64 x], rfl, Nat.le_refl _, heap_alloc_new w _, Nat.le_refl _, by decide, rfl, rfl⟩⟩
theorem choR_no {Y : List (List Int)} {x : Int} (h : choB Y x = false) : choR Y x = 0 := by simp [choR, h]
theorem choB_ask {Y : List (List Int)} {x : Int} (h : askP Y [x] = false) : choB Y x = false := by simp [choB, h]
theorem choB_none {Y : List (List Int)} {x : Int} (h : choY x Y = none) : choB Y x = false := by simp [choB, h]
theorem choB_some {Y : List (List Int)} {x : Int} {k : Nat} (h : askP Y [x] = true) (hk : choY x Y = some k) : choB Y x = true ∧ choR Y x = (k : Int) := by
  have : choB Y x = true := by simp [choB, h, hk]
  exact ⟨this, by simp [choR, this, hk, pkO]⟩

set_option maxRecDepth 100000 in
set_option maxHeartbeats 8000000 in
theorem specCho_any (v : Value) (Y : List (List Int)) (x : Int) (h1 : Y.length ≤ 1048576) (h2 : tot Y ≤ 1048576) (w : World) (h : YdR w v Y) :
    Calls Try.prog 23 #[v, .int .i64 x] w (RetP w (.tuple #[.int .i64 (choR Y x), .bool (choB Y x)])) := by
  obtain ⟨v0, rfl, hv⟩ := h
  have BA := Lib.hid (Box1.new w v0 26)
  have B0 := Lib.hid (below_one w (.cells #[v0] 26))
  have HA : Hid (∀ a c W, Below w.heap.size w W → W.ownsRow w.heap.size 3 1 (.slice a 1 c) 1 (intV [x]) → Calls Try.prog 54 #[.agg #[v0], .slice a 1 c] W (BoolP W (askP Y [x]))) := Lib.hid fun a c W hb ho =>
    l8Asked_any _ _ Y [x] h1 h2 (by simp) W ⟨v0, rfl, hv.below hb⟩ ⟨_, ho⟩
  have HC : Hid (goodY Y = true → ∀ W, Below w.heap.size w W → Calls Try.prog 55 #[.agg #[v0], .int .i64 x] W (RetP W (.int .i64 (pkO (choY x Y))))) := Lib.hid fun hg W hb => l8Choose_any _ Y x hg W ⟨v0, rfl, hv.below hb⟩
  clear hv h1 h2
  have c0 := BA.out.2
  have O1 := Lib.hid (own_one (w.alloc (.cells #[v0] 26)) x)
  have B1 := Lib.hid (B0.out.alloc B0.out.size (.cells #[.int .i64 x] 3))
  have A1 := Lib.hid (BA.out.below (below_one _ (.cells #[.int .i64 x] 3)))
  have hz : (w.alloc (.cells #[v0] 26)).heap.size = w.heap.size + 1 := by simp
  rw [hz] at O1
  have HA1 := Lib.hid (HA.out _ _ _ B1.out (O1.out.mono (Nat.le_succ _)))
  clear hz
  cases ha : askP Y [x] with
  | false =>
    have HX1 := Lib.hid (choB_ask ha)
    have HX2 := Lib.hid (choR_no HX1.out)
    rw [ha] at HA1
    clear ha
    go_enter Try.func23, Try.ntmps23
    go_wp2_with fail
    refine HA1.out.mono ?_
    rintro e w1 ⟨rfl, hb⟩
    have B2 := Lib.hid (B1.out.trans (hb.mono B1.out.size))
    clear hb c0
    go_wp2_with fail
    go_ret2
    exact ⟨by rw [HX1.out, HX2.out]; rfl, B2.out⟩
  | true =>
    have HAs := Lib.hid ha
    have HC1 := Lib.hid (HC.out (askP_iff.1 ha).1)
    rw [ha] at HA1
    clear ha
    cases hk : choY x Y with
    | none =>
      have HX1 := Lib.hid (choB_none hk)
      have HX2 := Lib.hid (choR_no HX1.out)
      rw [hk] at HC1
      have HC2 : Hid (∀ W, Below w.heap.size w W → Calls Try.prog 55 #[.agg #[v0], .int .i64 x] W (RetP W (.int .i64 (-1)))) := HC1
      clear hk HC1
      have hneg : ((-1 : Int) < 0) := by decide
      go_enter Try.func23, Try.ntmps23
      go_wp2_with fail
      refine HA1.out.mono ?_
      rintro e w1 ⟨rfl, hb⟩
      have B2 := Lib.hid (B1.out.trans (hb.mono B1.out.size))
      have A2 := Lib.hid (A1.out.below hb)
      have c1 := A2.out.2
      clear hb c0
      go_wp2_with fail
      refine (HC2.out _ B2.out).mono ?_
      rintro e w2 ⟨rfl, hb⟩
      have B3 := Lib.hid (B2.out.trans (hb.mono B2.out.size))
      clear hb c1
      go_wp2_with fail
      go_ret2
      exact ⟨by rw [HX1.out, HX2.out]; rfl, B3.out⟩
    | some k =>
      have HX1 := Lib.hid (choB_some HAs.out hk)
      rw [hk] at HC1
      have HC2 : Hid (∀ W, Below w.heap.size w W → Calls Try.prog 55 #[.agg #[v0], .int .i64 x] W (RetP W (.int .i64 (k : Int)))) := HC1
      clear hk HC1
      have hneg : ¬ (k : Int) < 0 := by omega
      go_enter Try.func23, Try.ntmps23
      go_wp2_with fail
      refine HA1.out.mono ?_
      rintro e w1 ⟨rfl, hb⟩
      have B2 := Lib.hid (B1.out.trans (hb.mono B1.out.size))
      have A2 := Lib.hid (A1.out.below hb)
      have c1 := A2.out.2
      clear hb c0
      go_wp2_with fail
      refine (HC2.out _ B2.out).mono ?_
      rintro e w2 ⟨rfl, hb⟩
      have B3 := Lib.hid (B2.out.trans (hb.mono B2.out.size))
      have c2 := (A2.out.below hb).2
      clear hb c1
      go_wp2_with fail
      refine (HC2.out _ B3.out).mono ?_
      rintro e w3 ⟨rfl, hb⟩
      have B4 := Lib.hid (B3.out.trans (hb.mono B3.out.size))
      clear hb c2
      go_wp2_with fail
      go_ret2
      exact ⟨by rw [HX1.out.1, HX1.out.2]; rfl, B4.out⟩

end Go.Proofs.Ythokmklnldoinaa
