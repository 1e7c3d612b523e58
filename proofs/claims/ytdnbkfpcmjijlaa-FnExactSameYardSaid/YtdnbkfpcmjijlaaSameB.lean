/-
  What slices.Equal and spec.l1Same return of two lists of numbers, and slices.EqualFunc of two lists of such. No statement of the seat by itself.
-/
import Derived.Test.YtdnbkfpcmjijlaaSameA
namespace Go.Proofs.Ytdnbkfpcmjijlaa
open Go.RowKit

theorem eq_take {a b : List Int} {n : Nat} (h1 : a.length = n) (h2 : b.length = n) (h : ∀ (j : Nat) (x y : Int), j < n → a[j]? = some x → b[j]? = some y → x = y) : a = b := by
  apply List.ext_getElem (by omega)
  intro i hi hj
  exact h i _ _ (by omega) (List.getElem?_eq_getElem hi) (List.getElem?_eq_getElem hj)
theorem ne_take {a b : List Int} {k : Nat} {x y : Int} (h1 : a[k]? = some x) (h2 : b[k]? = some y) (h : ¬ x = y) : decide (a = b) = false := by
  simp only [decide_eq_false_iff_not]
  intro e
  subst e
  rw [h1] at h2; cases h2; exact h rfl
theorem ne_len {α : Type} [DecidableEq α] {a b : List α} {n m : Nat} (h1 : a.length = n) (h2 : b.length = m) (h : ¬ n = m) : decide (a = b) = false := by
  simp only [decide_eq_false_iff_not]
  intro e
  subst e
  omega

set_option maxRecDepth 100000 in
set_option maxHeartbeats 2000000 in
theorem equal_any (v1 v2 : Value) (a b : List Int) (hn : a.length ≤ 1048576) (hm : b.length ≤ 1048576) (w : World) (h1 : IL w v1 a) (h2 : IL w v2 b) :
    Calls Try.prog 67 #[v1, v2] w (BoolP w (decide (a = b))) := by
  obtain ⟨a1, c1, rfl, h1⟩ := h1
  obtain ⟨a2, c2, rfl, h2⟩ := h2
  obtain ⟨n, hl⟩ : ∃ n, a.length = n := ⟨_, rfl⟩
  obtain ⟨m, hl2⟩ : ∃ m, b.length = m := ⟨_, rfl⟩
  have HN := Lib.hid hl
  have HM := Lib.hid hl2
  rw [hl] at hn ⊢
  rw [hl2] at hm ⊢
  have H1 := Lib.hid h1
  have H2 := Lib.hid h2
  clear h1 h2 hl hl2
  by_cases hnm : n = m
  · subst hnm
    obtain ⟨r, hr⟩ : ∃ r, decide (a = b) = r := ⟨_, rfl⟩
    have HR := Lib.hid hr
    rw [hr]
    clear hr
    go_enter Try.func67, Try.ntmps67
    go_wp2_with fail
    go_loopw [13] (fun i wr => ∃ k : Nat, k ≤ n ∧ i = .int .i64 k ∧ Hid (Below w.heap.size w wr) ∧ Hid (∀ (j : Nat) (x y : Int), j < k → a[j]? = some x → b[j]? = some y → x = y)) (fun i _ => n - (intOf i).toNat)
    case atStart => exact ⟨0, Nat.zero_le _, rfl, Lib.hid (Below.refl _ _), Lib.hid fun j x y hj => by omega⟩
    case round =>
      obtain ⟨k, hk, rfl, HB, HK⟩ := hrel
      by_cases hlt : k < n
      · obtain ⟨g1, o1, rfl, hg1, hc1⟩ := H1.out (by have := HN.out; omega)
        obtain ⟨x, hx⟩ := get_at HN.out hlt
        have d1 := (HB.out.cell (p := ⟨g1, o1 + k, none⟩) hg1).trans (hc1 k x hx)
        obtain ⟨g2, o2, rfl, hg2, hc2⟩ := H2.out (by have := HM.out; omega)
        obtain ⟨y, hy⟩ := get_at HM.out hlt
        have d2 := (HB.out.cell (p := ⟨g2, o2 + k, none⟩) hg2).trans (hc2 k y hy)
        have hki : (k : Int) < (n : Int) := by omega
        clear hc1 hc2 hg1 hg2
        by_cases he : x = y
        · have HK2 : Hid (∀ (j : Nat) (x y : Int), j < k + 1 → a[j]? = some x → b[j]? = some y → x = y) := Lib.hid fun j x' y' hj hx' hy' => by
            by_cases e : j = k
            · subst e; rw [hx] at hx'; rw [hy] at hy'; cases hx'; cases hy'; exact he
            · exact HK.out j x' y' (by omega) hx' hy'
          have heb : (x != y) = false := by simpa using he
          clear he hx hy
          go_wp2_with fail
          go_quiet (fail)
          have HB2 := Lib.hid (below_drewN HB.out nq)
          go_wp2_with fail
          exact ⟨⟨k + 1, by omega, by go_num, HB2, HK2⟩, by simp [intOf]; omega⟩
        · have HX : Hid (r = false) := Lib.hid (HR.out.symm.trans (ne_take hx hy he))
          have heb : (x != y) = true := by simpa using he
          clear he hx hy
          go_wp2_with fail
          go_quiet (fail)
          have HB2 := Lib.hid (below_drewN HB.out nq)
          go_wp2_with fail
          go_ret
          exact ⟨by rw [HX.out]; rfl, HB2.out⟩
      · obtain rfl : k = n := by omega
        have HY : Hid (r = true) := Lib.hid (HR.out.symm.trans (by have := eq_take HN.out HM.out HK.out; simpa using this))
        go_wp2_with fail
        go_ret
        exact ⟨by rw [HY.out]; rfl, HB.out⟩
  · have HX := Lib.hid (ne_len HN.out HM.out hnm)
    have hne : ((n : Int) != (m : Int)) = true := by simp; omega
    rw [HX.out]
    clear HX
    go_enter Try.func67, Try.ntmps67
    go_wp2_with fail
    go_ret
    exact ⟨rfl, Below.refl _ _⟩

set_option maxRecDepth 100000 in
set_option maxHeartbeats 2000000 in
theorem l1Same_any (v1 v2 : Value) (a b : List Int) (hn : a.length ≤ 1048576) (hm : b.length ≤ 1048576) (w : World) (h1 : IL w v1 a) (h2 : IL w v2 b) :
    Calls Try.prog 64 #[v1, v2] w (BoolP w (decide (a = b))) := by
  obtain ⟨a1, c1, rfl, h1⟩ := h1
  obtain ⟨a2, c2, rfl, h2⟩ := h2
  obtain ⟨n, hl⟩ : ∃ n, a.length = n := ⟨_, rfl⟩
  obtain ⟨m, hl2⟩ : ∃ m, b.length = m := ⟨_, rfl⟩
  have HN := Lib.hid hl
  have HM := Lib.hid hl2
  rw [hl] at hn ⊢
  rw [hl2] at hm ⊢
  have H1 := Lib.hid h1
  have H2 := Lib.hid h2
  clear h1 h2 hl hl2
  by_cases hnm : n = m
  · subst hnm
    obtain ⟨r, hr⟩ : ∃ r, decide (a = b) = r := ⟨_, rfl⟩
    have HR := Lib.hid hr
    rw [hr]
    clear hr
    go_enter Try.func64, Try.ntmps64
    go_wp2_with fail
    go_loopw [5] (fun i wr => ∃ k : Nat, k ≤ n ∧ i = .int .i64 k ∧ Hid (Below w.heap.size w wr) ∧ Hid (∀ (j : Nat) (x y : Int), j < k → a[j]? = some x → b[j]? = some y → x = y)) (fun i _ => n - (intOf i).toNat)
    case atStart => exact ⟨0, Nat.zero_le _, rfl, Lib.hid (Below.refl _ _), Lib.hid fun j x y hj => by omega⟩
    case round =>
      obtain ⟨k, hk, rfl, HB, HK⟩ := hrel
      by_cases hlt : k < n
      · obtain ⟨g1, o1, rfl, hg1, hc1⟩ := H1.out (by have := HN.out; omega)
        obtain ⟨x, hx⟩ := get_at HN.out hlt
        have d1 := (HB.out.cell (p := ⟨g1, o1 + k, none⟩) hg1).trans (hc1 k x hx)
        obtain ⟨g2, o2, rfl, hg2, hc2⟩ := H2.out (by have := HM.out; omega)
        obtain ⟨y, hy⟩ := get_at HM.out hlt
        have d2 := (HB.out.cell (p := ⟨g2, o2 + k, none⟩) hg2).trans (hc2 k y hy)
        have hki : (k : Int) < (n : Int) := by omega
        clear hc1 hc2 hg1 hg2
        by_cases he : x = y
        · have HK2 : Hid (∀ (j : Nat) (x y : Int), j < k + 1 → a[j]? = some x → b[j]? = some y → x = y) := Lib.hid fun j x' y' hj hx' hy' => by
            by_cases e : j = k
            · subst e; rw [hx] at hx'; rw [hy] at hy'; cases hx'; cases hy'; exact he
            · exact HK.out j x' y' (by omega) hx' hy'
          have heb : (x != y) = false := by simpa using he
          clear he hx hy
          go_wp2_with fail
          go_quiet (fail)
          have HB2 := Lib.hid (below_drewN HB.out nq)
          go_wp2_with fail
          exact ⟨⟨k + 1, by omega, by go_num, HB2, HK2⟩, by simp [intOf]; omega⟩
        · have HX : Hid (r = false) := Lib.hid (HR.out.symm.trans (ne_take hx hy he))
          have heb : (x != y) = true := by simpa using he
          clear he hx hy
          go_wp2_with fail
          go_quiet (fail)
          have HB2 := Lib.hid (below_drewN HB.out nq)
          go_wp2_with fail
          go_ret
          exact ⟨by rw [HX.out]; rfl, HB2.out⟩
      · obtain rfl : k = n := by omega
        have HY : Hid (r = true) := Lib.hid (HR.out.symm.trans (by have := eq_take HN.out HM.out HK.out; simpa using this))
        go_wp2_with fail
        go_ret
        exact ⟨by rw [HY.out]; rfl, HB.out⟩
  · have HX := Lib.hid (ne_len HN.out HM.out hnm)
    have hne : ((n : Int) != (m : Int)) = true := by simp; omega
    rw [HX.out]
    clear HX
    go_enter Try.func64, Try.ntmps64
    go_wp2_with fail
    go_ret
    exact ⟨rfl, Below.refl _ _⟩

theorem eqY_take {a b : List (List Int)} {n : Nat} (h1 : a.length = n) (h2 : b.length = n) (h : ∀ (j : Nat) (x y : List Int), j < n → a[j]? = some x → b[j]? = some y → x = y) : a = b := by
  apply List.ext_getElem (by omega)
  intro i hi hj
  exact h i _ _ (by omega) (List.getElem?_eq_getElem hi) (List.getElem?_eq_getElem hj)
theorem neY_take {a b : List (List Int)} {k : Nat} {x y : List Int} (h1 : a[k]? = some x) (h2 : b[k]? = some y) (h : decide (x = y) = false) : decide (a = b) = false := by
  simp only [decide_eq_false_iff_not] at *
  intro e
  subst e
  rw [h1] at h2; cases h2; exact h rfl

set_option maxRecDepth 100000 in
set_option maxHeartbeats 2000000 in
theorem eqFunc_any (v1 v2 : Value) (Y Z : List (List Int)) (hn : Y.length ≤ 1048576) (hm : Z.length ≤ 1048576) (ht1 : tot Y ≤ 1048576) (ht2 : tot Z ≤ 1048576) (w : World) (h1 : YL w v1 Y) (h2 : YL w v2 Z) :
    Calls Try.prog 65 #[v1, v2, .func (.func 67) #[] #[]] w (BoolP w (decide (Y = Z))) := by
  obtain ⟨a1, c1, rfl, h1⟩ := h1
  obtain ⟨a2, c2, rfl, h2⟩ := h2
  obtain ⟨n, hl⟩ : ∃ n, Y.length = n := ⟨_, rfl⟩
  obtain ⟨m, hl2⟩ : ∃ m, Z.length = m := ⟨_, rfl⟩
  have HN := Lib.hid hl
  have HM := Lib.hid hl2
  have HT1 := Lib.hid (fun (j : Nat) (l : List Int) (h : Y[j]? = some l) => (show l.length ≤ 1048576 by have := row_len h; omega))
  have HT2 := Lib.hid (fun (j : Nat) (l : List Int) (h : Z[j]? = some l) => (show l.length ≤ 1048576 by have := row_len h; omega))
  rw [hl] at hn ⊢
  rw [hl2] at hm ⊢
  have H1 := Lib.hid h1
  have H2 := Lib.hid h2
  clear h1 h2 hl hl2 ht1 ht2
  by_cases hnm : n = m
  · subst hnm
    obtain ⟨r, hr⟩ : ∃ r, decide (Y = Z) = r := ⟨_, rfl⟩
    have HR := Lib.hid hr
    rw [hr]
    clear hr
    go_enter Try.func65, Try.ntmps65
    go_wp2_with fail
    go_loopw [17] (fun i wr => ∃ k : Nat, k ≤ n ∧ i = .int .i64 k ∧ Hid (Below w.heap.size w wr) ∧ Hid (∀ (j : Nat) (x y : List Int), j < k → Y[j]? = some x → Z[j]? = some y → x = y)) (fun i _ => n - (intOf i).toNat)
    case atStart => exact ⟨0, Nat.zero_le _, rfl, Lib.hid (Below.refl _ _), Lib.hid fun j x y hj => by omega⟩
    case round =>
      obtain ⟨k, hk, rfl, HB, HK⟩ := hrel
      by_cases hlt : k < n
      · obtain ⟨g1, o1, rfl, hg1, hc1⟩ := H1.out (by have := HN.out; omega)
        obtain ⟨x, hx⟩ := get_at HN.out hlt
        obtain ⟨u1, hu1, hi1⟩ := hc1 k x hx
        have d1 := (HB.out.cell (p := ⟨g1, o1 + k, none⟩) hg1).trans hu1
        obtain ⟨g2, o2, rfl, hg2, hc2⟩ := H2.out (by have := HM.out; omega)
        obtain ⟨y, hy⟩ := get_at HM.out hlt
        obtain ⟨u2, hu2, hi2⟩ := hc2 k y hy
        have d2 := (HB.out.cell (p := ⟨g2, o2 + k, none⟩) hg2).trans hu2
        have HE := Lib.hid (equal_any u1 u2 x y (HT1.out k x hx) (HT2.out k y hy) wr (hi1.below HB.out) (hi2.below HB.out))
        have hki : (k : Int) < (n : Int) := by omega
        clear hc1 hc2 hg1 hg2 hu1 hu2 hi1 hi2
        obtain ⟨q, hq⟩ : ∃ q, decide (x = y) = q := ⟨_, rfl⟩
        rw [hq] at HE
        cases q with
        | true =>
          have HK2 : Hid (∀ (j : Nat) (x y : List Int), j < k + 1 → Y[j]? = some x → Z[j]? = some y → x = y) := Lib.hid fun j x' y' hj hx' hy' => by
            by_cases e : j = k
            · subst e; rw [hx] at hx'; rw [hy] at hy'; cases hx'; cases hy'; simpa using hq
            · exact HK.out j x' y' (by omega) hx' hy'
          clear hq hx hy
          go_wp2_with fail
          refine HE.out.mono ?_
          rintro e w2 ⟨rfl, hb⟩
          have HB2 := Lib.hid (HB.out.trans (hb.mono HB.out.size))
          clear hb
          go_wp2_with fail
          exact ⟨⟨k + 1, by omega, by go_num, HB2, HK2⟩, by simp [intOf]; omega⟩
        | false =>
          have HX : Hid (r = false) := Lib.hid (HR.out.symm.trans (neY_take hx hy hq))
          clear hq hx hy
          go_wp2_with fail
          refine HE.out.mono ?_
          rintro e w2 ⟨rfl, hb⟩
          have HB2 := Lib.hid (HB.out.trans (hb.mono HB.out.size))
          clear hb
          go_wp2_with fail
          go_ret
          exact ⟨by rw [HX.out]; rfl, HB2.out⟩
      · obtain rfl : k = n := by omega
        have HY : Hid (r = true) := Lib.hid (HR.out.symm.trans (by have := eqY_take HN.out HM.out HK.out; simpa using this))
        go_wp2_with fail
        go_ret
        exact ⟨by rw [HY.out]; rfl, HB.out⟩
  · have HX := Lib.hid (ne_len HN.out HM.out hnm)
    have hne : ((n : Int) != (m : Int)) = true := by simp; omega
    rw [HX.out]
    clear HX
    go_enter Try.func65, Try.ntmps65
    go_wp2_with fail
    go_ret
    exact ⟨rfl, Below.refl _ _⟩
end Go.Proofs.Ytdnbkfpcmjijlaa
