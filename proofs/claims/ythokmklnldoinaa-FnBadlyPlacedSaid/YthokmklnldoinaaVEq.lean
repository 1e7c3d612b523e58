/-
  What laws.vInts, vTable and vYard return. No statement of the seat by itself.
-/
import Derived.Test.YthokmklnldoinaaSameB
namespace Go.Proofs.Ythokmklnldoinaa
open Go.RowKit

set_option maxRecDepth 100000 in
set_option maxHeartbeats 2000000 in
theorem vInts_any (v1 v2 : Value) (a b : List Int) (hn : a.length ≤ 1048576) (hm : b.length ≤ 1048576) (w : World) (h1 : IL w v1 a) (h2 : IL w v2 b) :
    Calls Try.prog 15 #[v1, v2] w (BoolP w (decide (a = b))) := by
  obtain ⟨a1, c1, rfl, h1⟩ := h1
  obtain ⟨a2, c2, rfl, h2⟩ := h2
  obtain ⟨n, hl⟩ : ∃ n, a.length = n := ⟨_, rfl⟩
  obtain ⟨m, hl2⟩ : ∃ m, b.length = m := ⟨_, rfl⟩
  have HN := Lib.hid hl
  have HM := Lib.hid hl2
  rw [hl] at hn ⊢
  rw [hl2] at hm ⊢
  have H1 := Lib.hid h1
  have H2 := Lib.hid h2
  clear h1 h2 hl hl2
  by_cases hnm : n = m
  · subst hnm
    obtain ⟨r, hr⟩ : ∃ r, decide (a = b) = r := ⟨_, rfl⟩
    have HR := Lib.hid hr
    rw [hr]
    clear hr
    go_enter Try.func15, Try.ntmps15
    go_wp2_with fail
    go_loopw [5] (fun i wr => ∃ k : Nat, k ≤ n ∧ i = .int .i64 k ∧ Hid (Below w.heap.size w wr) ∧ Hid (∀ (j : Nat) (x y : Int), j < k → a[j]? = some x → b[j]? = some y → x = y)) (fun i _ => n - (intOf i).toNat)
    case atStart => exact ⟨0, Nat.zero_le _, rfl, Lib.hid (Below.refl _ _), Lib.hid fun j x y hj => by omega⟩
    case round =>
      obtain ⟨k, hk, rfl, HB, HK⟩ := hrel
      by_cases hlt : k < n
      · obtain ⟨g1, o1, rfl, hg1, hc1⟩ := H1.out (by have := HN.out; omega)
        obtain ⟨x, hx⟩ := get_at HN.out hlt
        have d1 := (HB.out.cell (p := ⟨g1, o1 + k, none⟩) hg1).trans (hc1 k x hx)
        obtain ⟨g2, o2, rfl, hg2, hc2⟩ := H2.out (by have := HM.out; omega)
        obtain ⟨y, hy⟩ := get_at HM.out hlt
        have d2 := (HB.out.cell (p := ⟨g2, o2 + k, none⟩) hg2).trans (hc2 k y hy)
        have hki : (k : Int) < (n : Int) := by omega
        clear hc1 hc2 hg1 hg2
        by_cases he : x = y
        · have HK2 : Hid (∀ (j : Nat) (x y : Int), j < k + 1 → a[j]? = some x → b[j]? = some y → x = y) := Lib.hid fun j x' y' hj hx' hy' => by
            by_cases e : j = k
            · subst e; rw [hx] at hx'; rw [hy] at hy'; cases hx'; cases hy'; exact he
            · exact HK.out j x' y' (by omega) hx' hy'
          have heb : (x != y) = false := by simpa using he
          clear he hx hy
          go_wp2_with fail
          go_quiet (fail)
          have HB2 := Lib.hid (below_drewN HB.out nq)
          go_wp2_with fail
          exact ⟨⟨k + 1, by omega, by go_num, HB2, HK2⟩, by simp [intOf]; omega⟩
        · have HX : Hid (r = false) := Lib.hid (HR.out.symm.trans (ne_take hx hy he))
          have heb : (x != y) = true := by simpa using he
          clear he hx hy
          go_wp2_with fail
          go_quiet (fail)
          have HB2 := Lib.hid (below_drewN HB.out nq)
          go_wp2_with fail
          go_ret
          exact ⟨by rw [HX.out]; rfl, HB2.out⟩
      · obtain rfl : k = n := by omega
        have HY : Hid (r = true) := Lib.hid (HR.out.symm.trans (by have := eq_take HN.out HM.out HK.out; simpa using this))
        go_wp2_with fail
        go_ret
        exact ⟨by rw [HY.out]; rfl, HB.out⟩
  · have HX := Lib.hid (ne_len HN.out HM.out hnm)
    have hne : ((n : Int) != (m : Int)) = true := by simp; omega
    rw [HX.out]
    clear HX
    go_enter Try.func15, Try.ntmps15
    go_wp2_with fail
    go_ret
    exact ⟨rfl, Below.refl _ _⟩

end Go.Proofs.Ythokmklnldoinaa
