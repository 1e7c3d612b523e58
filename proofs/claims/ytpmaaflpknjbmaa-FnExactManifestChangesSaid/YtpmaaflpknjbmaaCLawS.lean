/-
  The laws' helpers on lists of strings at the marks that a law computes. No statement of the seat by itself.
-/
import Derived.Test.YtpmaaflpknjbmaaCLawK
import Derived.Test.YtpmaaflpknjbmaaCLawH
import Derived.Test.YtpmaaflpknjbmaaCMarkS
namespace Go.Proofs.Ytpmaaflpknjbmaa.C
open Go.RowKit

theorem eqS_b (v1 v2 : Value) (n : Nat) (f : Nat → ByteArray) (hn : n ≤ 100000) (w : World) (h1 : RowV w v1 n f) (h2 : RowV w v2 n f) :
    Calls Try.prog 18 #[v1, v2] w fun e w' => e = .returned (.bool true) ∧ Below w.heap.size w w' :=
  (eqS_any v1 v2 n f hn w h1 h2).mono fun e w' ⟨he, k, hw⟩ => ⟨he, by rw [hw]; exact below_drewN (Below.refl _ _) k⟩

set_option maxRecDepth 100000 in
set_option maxHeartbeats 1000000 in
theorem markS_far (g cap n k0 : Nat) (f : Nat → ByteArray) (hn : n ≤ 100000) (hk0 : 1 ≤ k0) (hk1 : k0 ≤ 10000000) (w : World) (h : RowAt w g cap n f) :
    Calls Try.prog 19 #[.slice (some ⟨g, 0, none⟩) n cap, .int .i64 k0] w fun e w' => e = .returned (.int .i64 ((k0 : Int) + (n : Int))) ∧ RowAt w' g cap n (fun j => mt (k0 + j)) ∧ w.grownBy w' (some g) := by
  have h0 : MarkRel w w g cap n 0 k0 := by
    obtain ⟨cur, hb, hnc, hsz, hc⟩ := h
    exact ⟨⟨rfl, rfl, rfl, Nat.le_refl _, fun _ _ _ => rfl⟩, hnc, cur, hb, hsz, fun j hj => ⟨_, hc j hj⟩, fun j hj => by omega⟩
  clear h
  go_enter Try.func19, Try.ntmps19
  go_wp2
  go_loopw [1, 5] (fun m i wr => ∃ k : Nat, k ≤ n ∧ i = .int .i64 k ∧ m = .int .i64 ((k0 : Int) + (k : Int)) ∧ MarkRel w wr g cap n k k0) (fun _ i _ => n - (intOf i).toNat)
  case atStart => exact ⟨0, Nat.zero_le _, rfl, by simp, h0⟩
  case round =>
    obtain ⟨k, hk, rfl, rfl, hR⟩ := hrel
    by_cases hlt : k < n
    · have HC : Hid (∀ w1, Below wr.heap.size wr w1 → (∃ x, w1.cell? ⟨g, k, none⟩ = some (.string x)) ∧ w1.frozen? ⟨g, k, none⟩ = false) := Lib.hid fun w1 hB => markRel_cell hR hlt hB
      have HR := Lib.hid hR
      clear hR h0
      go_wp2_with (go_at_call 34; refine (markText_int _ (by omega) (by omega) _).mono ?_; rintro e w1 ⟨rfl, hB1⟩; obtain ⟨⟨x, hcx⟩, hfx⟩ := HC.out _ hB1)
      refine ⟨⟨k + 1, by omega, by go_num, val_eq (by omega), markRel_step HR.out hlt hB1 rfl⟩, by simp [intOf]; omega⟩
    · obtain rfl : k = n := by omega
      go_wp2
      go_ret
      exact ⟨rfl, markRel_row hR, hR.1⟩

set_option maxRecDepth 100000 in
set_option maxHeartbeats 2000000 in
theorem heldS_far (g cap n k0 : Nat) (hn : n ≤ 100000) (hk0 : 1 ≤ k0) (hk1 : k0 ≤ 10000000) (w : World) (h : RowAt w g cap n (fun j => mt (k0 + j))) :
    Calls Try.prog 20 #[.slice (some ⟨g, 0, none⟩) n cap, .int .i64 k0] w fun e w' => e = .returned (.int .i64 ((k0 : Int) + (n : Int))) ∧ Below w.heap.size w w' := by
  have H := Lib.hid h
  have hg := h.lt
  clear h
  go_enter Try.func20, Try.ntmps20
  go_wp2
  go_loopw [1, 5] (fun m i wr => ∃ k : Nat, k ≤ n ∧ i = .int .i64 k ∧ m = .int .i64 ((k0 : Int) + (k : Int)) ∧ Below w.heap.size w wr) (fun _ i _ => n - (intOf i).toNat)
  case atStart => exact ⟨0, Nat.zero_le _, rfl, by simp, Below.refl _ _⟩
  case round =>
    obtain ⟨k, hk, rfl, rfl, hB⟩ := hrel
    by_cases hlt : k < n
    · have hc : wr.cell? ⟨g, k, none⟩ = some (.string (mt (k0 + k))) := (hB.cell (p := ⟨g, k, none⟩) hg).trans (H.out.cell k hlt)
      have hgr : g < wr.heap.size := Nat.lt_of_lt_of_le hg hB.size
      have HM : Hid (∀ W, W.cell? ⟨g, k, none⟩ = some (.string (mt (k0 + k))) → g < W.heap.size → Calls Try.prog 34 #[.int .i64 ((k0 : Int) + (k : Int))] W fun e w' => e = .returned (.string (mt (k0 + k))) ∧ Below W.heap.size W w' ∧ w'.cell? ⟨g, k, none⟩ = some (.string (mt (k0 + k))) ∧ g < w'.heap.size) := Lib.hid fun W hcW hgW => by
        have := markText_int ((k0 : Int) + (k : Int)) (by omega) (by omega) W
        rw [show ((k0 : Int) + (k : Int)).toNat = k0 + k by omega] at this
        exact this.mono fun e w' ⟨he, hb⟩ => ⟨he, hb, (hb.cell (p := ⟨g, k, none⟩) hgW).trans hcW, Nat.lt_of_lt_of_le hgW hb.size⟩
      go_wp2
      go_region_held3 (fun w' => w'.cell? ⟨g, k, none⟩ = some (.string (mt (k0 + k))) ∧ g < w'.heap.size) (go_keep) (first | (go_at_call 34; refine (HM.out _ (by simp [*]) (by simp [*])).mono ?_; rintro e w' ⟨rfl, hB1, hc1, hg1⟩))
      go_wp2
      refine ⟨⟨k + 1, by omega, by go_num, val_eq (by omega), ?_⟩, by simp [intOf]; omega⟩
      exact hB.drew.trans (hB1.mono hB.size)
    · obtain rfl : k = n := by omega
      go_wp2
      go_ret
      exact ⟨rfl, hB⟩

theorem markS_int (v : Value) (n : Nat) (f : Nat → ByteArray) (k : Int) (hn : n ≤ 100000) (h1 : 1 ≤ k) (h2 : k ≤ 10000000) (w : World) (h : RowV w v n f) :
    Calls Try.prog 19 #[v, .int .i64 k] w fun e w' => e = .returned (.int .i64 (k + (n : Int))) ∧ RowV w' v n (fun j => mt (k.toNat + j)) ∧ w.grownBy w' v.ownBlock := by
  obtain ⟨m, rfl⟩ := Int.eq_ofNat_of_zero_le (show 0 ≤ k by omega)
  rcases h with ⟨rfl, a, c, rfl⟩ | ⟨g, c, rfl, h⟩
  · refine (markS_empty a c m w).mono fun e w' ⟨he, hw⟩ => ?_
    subst hw
    exact ⟨by rw [he]; simp, .inl ⟨rfl, _, _, rfl⟩, ⟨rfl, rfl, rfl, Nat.le_refl _, fun _ _ _ => rfl⟩⟩
  · exact (markS_far g c n m f hn (by omega) (by omega) w h).mono fun e w' ⟨he, hr, hg⟩ => ⟨he, .inr ⟨g, c, rfl, hr⟩, hg⟩
theorem heldS_int (v : Value) (n : Nat) (k : Int) (hn : n ≤ 100000) (h1 : 1 ≤ k) (h2 : k ≤ 10000000) (w : World) (h : RowV w v n (fun j => mt (k.toNat + j))) :
    Calls Try.prog 20 #[v, .int .i64 k] w fun e w' => e = .returned (.int .i64 (k + (n : Int))) ∧ Below w.heap.size w w' := by
  obtain ⟨m, rfl⟩ := Int.eq_ofNat_of_zero_le (show 0 ≤ k by omega)
  rcases h with ⟨rfl, a, c, rfl⟩ | ⟨g, c, rfl, h⟩
  · refine (heldS_empty a c m w).mono fun e w' ⟨he, hw⟩ => ?_
    subst hw
    exact ⟨by rw [he]; simp, Below.refl _ _⟩
  · exact heldS_far g c n m hn (by omega) (by omega) w h
end Go.Proofs.Ytpmaaflpknjbmaa.C
