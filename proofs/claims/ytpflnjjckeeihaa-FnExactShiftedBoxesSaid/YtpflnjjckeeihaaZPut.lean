/-
  What spec.l1Put returns, whether the number is there or not. No statement of the seat by itself.
-/
import Derived.Test.YtpflnjjckeeihaaZN
import Derived.Test.YtpflnjjckeeihaaBadP
import Derived.Test.YtpflnjjckeeihaaZNs
namespace Go.Proofs.Ytpflnjjckeeihaa
open Go.RowKit

set_option maxRecDepth 100000 in
set_option maxHeartbeats 4000000 in
theorem l1Put_in (g2 i cap : Nat) (L : List Int) (hl : L.length = i) (k0 : Nat) (s : Int) (hs : L[k0]? = some s) (ha : L.Pairwise (· < ·)) (hi : i ≤ 100) (w : World) (hc : ∀ j, j < i → w.cell? ⟨g2, j, none⟩ = some (.int .i64 (L.getD j 0))) :
    Calls Try.prog 71 #[.slice (some ⟨g2, 0, none⟩) i cap, .int .i64 s] w fun e w' => e = .returned (.slice (some ⟨g2, 0, none⟩) i cap) ∧ w = w' := by
  have hk0 := lt_of_get hs
  have HC := Lib.hid hc
  have HA : Hid (∀ k, k < k0 → L.getD k 0 < s) := Lib.hid fun k hk => by
    have e1 : L.getD k 0 = L[k]'(by omega) := by simp [List.getD, List.getElem?_eq_getElem (show k < L.length by omega)]
    have e2 : s = L[k0]'hk0 := by rw [List.getElem?_eq_getElem hk0] at hs; injection hs with hs; exact hs.symm
    rw [e1, e2]
    exact List.pairwise_iff_getElem.1 ha k k0 _ _ hk
  have HE : Hid (L.getD k0 0 = s) := Lib.hid (getDI hs)
  have hki : k0 < i := by omega
  clear hc ha hs
  go_enter Try.func71, Try.ntmps71
  go_wp2_with fail
  go_loop [5] (fun x => ∃ k : Nat, k ≤ k0 ∧ x = .int .i64 k) (fun x => i - (intOf x).toNat)
  case atStart => exact ⟨0, Nat.zero_le _, rfl⟩
  case round =>
    obtain ⟨k, hk, rfl⟩ := hrel
    have hck := HC.out k (by omega)
    have hkI : k < i := by omega
    by_cases hlt : k < k0
    · have hys := HA.out k hlt
      generalize L.getD k 0 = y at *
      go_wp2_with fail
      exact ⟨⟨k + 1, by omega, by go_num⟩, by simp [intOf]; omega⟩
    · obtain rfl : k = k0 := by omega
      rw [HE.out] at hck
      have hss : ¬ s < s := by omega
      have hse : (s == s) = true := by simp
      go_wp2_with fail
      go_ret
      exact ⟨rfl, rfl⟩

/-- A number put into an ascending list of some call's own. -/
theorem l1Put_all (B g2 i cap : Nat) (L : List Int) (hl : L.length = i) (hi : i ≤ 100) (ha : L.Pairwise (· < ·)) (s : Int) (w : World) (ho : w.ownsRow B 3 1 (.slice (some ⟨g2, 0, none⟩) i cap) i (intV L)) (hB : B ≤ w.heap.size) :
    Calls Try.prog 71 #[.slice (some ⟨g2, 0, none⟩) i cap, .int .i64 s] w fun e w' => ∃ g c, e = .returned (.slice (some ⟨g, 0, none⟩) (insU s L).length c) ∧ w'.ownsRow B 3 1 (.slice (some ⟨g, 0, none⟩) (insU s L).length c) (insU s L).length (intV (insU s L)) ∧ Below w.heap.size w w' := by
  have hc : ∀ j, j < i → w.cell? ⟨g2, j, none⟩ = some (.int .i64 (L.getD j 0)) := fun j hj => by
    rw [ho.cellAt j (by omega), getV_of (by omega)]
  have hg : g2 < w.heap.size := (ho.lt g2 rfl).2
  by_cases hm : s ∈ L
  · obtain ⟨k0, hk0⟩ := List.getElem?_of_mem hm
    rw [insU_in hm]
    refine (l1Put_in g2 i cap L hl k0 s hk0 ha hi w hc).mono ?_
    rintro e w' ⟨rfl, rfl⟩
    exact ⟨g2, cap, by rw [hl], by rw [hl]; exact ho, Below.refl _ _⟩
  · rw [insU_out hm]
    have hcap : i ≤ cap := by
      rcases ho.2 with ⟨e, _⟩ | ⟨g5, cap5, cur5, e, _, _, h5, _⟩
      · cases e
      · injection e with e1 e2 e3; omega
    refine (l1Put_any g2 i cap L hl hi hcap s hm w hc hg).mono ?_
    rintro e w' ⟨v, rfl, hv, hown, hb⟩
    obtain ⟨g, c, rfl⟩ := own_some hown hv
    exact ⟨g, c, rfl, hown.mono hB, hb⟩
end Go.Proofs.Ytpflnjjckeeihaa
