/-
  The laws' helpers markIntA2S and heldIntA2S. No statement of the seat by itself.
-/
import Derived.Test.YtpmaaflpknjbmaaCPairs
import Derived.Deep.LoopGhost
namespace Go.Proofs.Ytpmaaflpknjbmaa.C
open Go.RowKit

/-- What is written into pair j. -/
def mkP (k0 : Int) (j : Nat) : Int × Int := (k0 + 2 * (j : Int), k0 + 2 * (j : Int) + 1)
/-- While the pairs of block g are marked: the first t cells are. -/
def MP (w wr : World) (g n t : Nat) (k0 : Int) : Prop := w.grownBy wr (some g) ∧ ∃ cur : Array Value, wr.heap[g]? = some (.cells cur 50 (0, 0)) ∧ n * 2 ≤ cur.size ∧ ∀ i, i < t → wr.cell? ⟨g, i, none⟩ = some (.int .i64 (k0 + (i : Int)))
theorem mp_cell {w wr : World} {g n t : Nat} {k0 : Int} (h : MP w wr g n t k0) (i : Nat) (hi : i < n * 2) : (∃ x, wr.cell? ⟨g, i, none⟩ = some x) ∧ wr.frozen? ⟨g, i, none⟩ = false := by
  obtain ⟨hB, cur, hb, hsz, _⟩ := h
  exact ⟨⟨cur[i], by simp [World.cell?, hb, show i < cur.size by omega]⟩, by simp [World.frozen?, hb]⟩
theorem mp_step {w wr : World} {g n t : Nat} {k0 : Int} (h : MP w wr g n t k0) (ht : t < n * 2) (v : Int) (hv : v = k0 + (t : Int)) : MP w (wr.setCell ⟨g, t, none⟩ (.int .i64 v)) g n (t + 1) k0 := by
  have hc := (mp_cell h t ht).1
  obtain ⟨hB, cur, hb, hsz, hd⟩ := h
  obtain ⟨x, hx⟩ := hc
  refine ⟨Lib.grownBy_setB hB t _, cur.setIfInBounds t _, Lib.heap_setCell_same hb _, by simpa using hsz, fun i hi => ?_⟩
  by_cases e : i = t
  · subst e; rw [World.cell?_setCell_same _ _ _ hx, hv]
  · rw [World.cell?_setCell_other _ _ _ _ (by first | (simp; done) | (simp; omega))]
    exact hd i (by omega)

set_option maxRecDepth 100000 in
set_option maxHeartbeats 4000000 in
theorem markP_rows (g n c : Nat) (k0 : Int) (hn : n ≤ 1048576) (h1 : 1 ≤ k0) (h2 : k0 ≤ 10000000) (w : World) (h : MP w w g n 0 k0) :
    Calls Try.prog 14 #[.slice (some ⟨g, 0, none⟩) n c, .int .i64 k0] w fun e w' => e = .returned (.int .i64 (k0 + 2 * (n : Int))) ∧ MP w w' g n (n * 2) k0 := by
  have H := Lib.hid h
  clear h
  go_enter Try.func14, Try.ntmps14
  go_wp2_with fail
  go_loopw [1, 5, 6] (fun m i _ wr => ∃ k : Nat, k ≤ n ∧ i = .int .i64 k ∧ m = .int .i64 (k0 + 2 * (k : Int)) ∧ Hid (MP w wr g n (k * 2) k0)) (fun _ i _ _ => n - (intOf i).toNat)
  case atStart => exact ⟨0, Nat.zero_le _, rfl, val_i (by omega), by simpa using H⟩
  case round =>
    obtain ⟨k, hk, rfl, rfl, HR⟩ := hrel
    by_cases hlt : k < n
    · obtain ⟨a, ha⟩ : ∃ a : Int, a = k0 + 2 * (k : Int) := ⟨_, rfl⟩
      have KA := Lib.hid ha
      have ha1 : 1 ≤ a := by omega
      have ha2 : a ≤ 99999990 := by omega
      rw [← ha]
      clear ha
      have hki : (k : Int) < (n : Int) := by omega
      rename World => wo
      go_wp2_with fail
      go_loopw [1, 6] (fun m j wr => ∃ q : Nat, q ≤ 2 ∧ j = .int .i64 q ∧ m = .int .i64 (a + (q : Int)) ∧ Hid (MP w wr g n (k * 2 + q) k0)) (fun _ j _ => 2 - (intOf j).toNat)
      case atStart => exact ⟨0, by omega, rfl, val_i (by omega), by simpa using HR⟩
      case round =>
        obtain ⟨q, hq, rfl, rfl, HQ⟩ := hrel
        match q, hq with
        | 0, _ =>
          obtain ⟨⟨y0, d0⟩, z0⟩ := mp_cell HQ.out (k * 2) (by omega)
          have HS := Lib.hid (mp_step HQ.out (by omega) a (by have := KA.out; simp; omega))
          simp only [Nat.add_zero, Int.cast_ofNat_Int, Int.add_zero] at *
          go_wp2_with fail
          refine ⟨⟨1, by omega, rfl, rfl, HS⟩, by simp [intOf]⟩
        | 1, _ =>
          obtain ⟨⟨y0, d0⟩, z0⟩ := mp_cell HQ.out (k * 2 + 1) (by omega)
          have HS := Lib.hid (mp_step HQ.out (by omega) (a + 1) (by have := KA.out; simp; omega))
          simp only [Int.cast_ofNat_Int] at *
          go_wp2_with fail
          refine ⟨⟨2, by omega, rfl, val_i (by omega), HS⟩, by simp [intOf]⟩
        | 2, _ =>
          go_wp2_with fail
          refine ⟨⟨k + 1, by omega, by go_num, val_i (by have := KA.out; simp; omega), by rw [show (k + 1) * 2 = k * 2 + 2 by omega]; exact HQ⟩, by simp [intOf]; omega⟩
    · obtain rfl : k = n := by omega
      go_wp2_with fail
      go_ret
      exact ⟨rfl, HR.out⟩

set_option maxRecDepth 100000 in
set_option maxHeartbeats 4000000 in
theorem heldP_rows (g n c : Nat) (k0 : Int) (hn : n ≤ 1048576) (h1 : 1 ≤ k0) (h2 : k0 ≤ 10000000) (w : World) (h : ∀ j, j < n → PCells w g (j * 2) (mkP k0 j)) :
    Calls Try.prog 15 #[.slice (some ⟨g, 0, none⟩) n c, .int .i64 k0] w fun e w' => e = .returned (.int .i64 (k0 + 2 * (n : Int))) ∧ w = w' := by
  have H := Lib.hid h
  clear h
  go_enter Try.func15, Try.ntmps15
  go_wp2_with fail
  go_loop [1, 5, 6] (fun m i _ => ∃ k : Nat, k ≤ n ∧ i = .int .i64 k ∧ m = .int .i64 (k0 + 2 * (k : Int))) (fun _ i _ => n - (intOf i).toNat)
  case atStart => exact ⟨0, Nat.zero_le _, rfl, val_i (by omega)⟩
  case round =>
    obtain ⟨k, hk, rfl, rfl⟩ := hrel
    by_cases hlt : k < n
    · obtain ⟨a0, a1⟩ := H.out k hlt
      obtain ⟨a, ha⟩ : ∃ a : Int, a = k0 + 2 * (k : Int) := ⟨_, rfl⟩
      have KA := Lib.hid ha
      have ha1 : 1 ≤ a := by omega
      have ha2 : a ≤ 99999990 := by omega
      simp only [mkP] at a0 a1
      rw [← ha] at a0 a1
      rw [← ha]
      clear ha
      have hki : (k : Int) < (n : Int) := by omega
      go_wp2_with fail
      go_loop [1, 6] (fun m j => ∃ q : Nat, q ≤ 2 ∧ j = .int .i64 q ∧ m = .int .i64 (a + (q : Int))) (fun _ j => 2 - (intOf j).toNat)
      case atStart => exact ⟨0, by omega, rfl, val_i (by omega)⟩
      case round =>
        obtain ⟨q, hq, rfl, rfl⟩ := hrel
        match q, hq with
        | 0, _ =>
          simp only [Int.cast_ofNat_Int, Int.add_zero]
          go_wp2_with fail
          refine ⟨⟨1, by omega, rfl, rfl⟩, by simp [intOf]⟩
        | 1, _ =>
          simp only [Int.cast_ofNat_Int]
          go_wp2_with fail
          refine ⟨⟨2, by omega, rfl, val_i (by omega)⟩, by simp [intOf]⟩
        | 2, _ =>
          go_wp2_with fail
          refine ⟨⟨k + 1, by omega, by go_num, val_i (by have := KA.out; simp; omega)⟩, by simp [intOf]; omega⟩
    · obtain rfl : k = n := by omega
      go_wp2_with fail
      go_ret
      exact ⟨rfl, rfl⟩

set_option maxHeartbeats 400000 in
theorem markP_empty (a : Option Addr) (c : Nat) (k0 : Int) (w : World) :
    Calls Try.prog 14 #[.slice a 0 c, .int .i64 k0] w fun e w' => e = .returned (.int .i64 k0) ∧ w = w' := by
  go_enter Try.func14, Try.ntmps14
  go_wp2
  go_loop [1, 5, 6] (fun m i _ => i = .int .i64 0 ∧ m = .int .i64 k0) (fun _ _ _ => 0)
  case atStart => exact ⟨rfl, rfl⟩
  case round =>
    obtain ⟨rfl, rfl⟩ := hrel
    go_wp2
    go_ret
    exact ⟨rfl, rfl⟩
theorem markP_int (v : Value) (n : Nat) (f : Nat → Int × Int) (k : Int) (hn : n ≤ 1048576) (h1 : 1 ≤ k) (h2 : k ≤ 10000000) (w : World) (h : PV w v n f) :
    Calls Try.prog 14 #[v, .int .i64 k] w fun e w' => e = .returned (.int .i64 (k + 2 * (n : Int))) ∧ PV w' v n (mkP k) ∧ w.grownBy w' v.ownBlock := by
  rcases h with ⟨rfl, a, c, rfl⟩ | ⟨g, cap, cur, rfl, hb, hs, hc⟩
  · refine (markP_empty a c k w).mono fun e w' ⟨he, hw⟩ => ?_
    subst hw
    exact ⟨by rw [he]; simp, .inl ⟨rfl, _, _, rfl⟩, ⟨rfl, rfl, rfl, Nat.le_refl _, fun _ _ _ => rfl⟩⟩
  · refine (markP_rows g n cap k hn h1 h2 w ⟨⟨rfl, rfl, rfl, Nat.le_refl _, fun _ _ _ => rfl⟩, cur, hb, hs, fun i hi => by omega⟩).mono fun e w' ⟨he, hG, cur', hb', hs', hd⟩ => ?_
    refine ⟨he, .inr ⟨g, cap, cur', rfl, hb', hs', fun j hj => ⟨?_, ?_⟩⟩, hG⟩
    · rw [hd (j * 2) (by omega)]
      simp only [mkP]
      exact congrArg some (val_i (by omega))
    · rw [hd (j * 2 + 1) (by omega)]
      simp only [mkP]
      exact congrArg some (val_i (by omega))
theorem heldP_int (v : Value) (n : Nat) (k : Int) (hn : n ≤ 1048576) (h1 : 1 ≤ k) (h2 : k ≤ 10000000) (w : World) (h : PV w v n (mkP k)) :
    Calls Try.prog 15 #[v, .int .i64 k] w fun e w' => e = .returned (.int .i64 (k + 2 * (n : Int))) ∧ Below w.heap.size w w' := by
  have key : ∀ (a : Option Addr) (c : Nat), v = .slice a n c → (n = 0 → True) → (∃ g, a = some ⟨g, 0, none⟩ ∧ ∀ j, j < n → PCells w g (j * 2) (mkP k j)) ∨ n = 0 → Calls Try.prog 15 #[v, .int .i64 k] w fun e w' => e = .returned (.int .i64 (k + 2 * (n : Int))) ∧ w = w' := by
    intro a c hv _ hor
    rcases hor with ⟨g, rfl, hp⟩ | rfl
    · subst hv; exact heldP_rows g n c k hn h1 h2 w hp
    · subst hv
      rw [show k + 2 * ((0 : Nat) : Int) = k by simp]
      clear hn h h1 h2
      go_enter Try.func15, Try.ntmps15
      go_wp2
      go_loop [1, 5, 6] (fun m i _ => i = .int .i64 0 ∧ m = .int .i64 k) (fun _ _ _ => 0)
      case atStart => exact ⟨rfl, rfl⟩
      case round =>
        obtain ⟨rfl, rfl⟩ := hrel
        go_wp2
        go_ret
        exact ⟨rfl, rfl⟩
  have fin : Calls Try.prog 15 #[v, .int .i64 k] w fun e w' => e = .returned (.int .i64 (k + 2 * (n : Int))) ∧ w = w' := by
    rcases h with ⟨h0, a, c, rfl⟩ | ⟨g, cap, cur, rfl, hb, hs, hc⟩
    · subst h0; exact key a c rfl (fun _ => trivial) (.inr rfl)
    · exact key _ cap rfl (fun _ => trivial) (.inl ⟨g, rfl, hc⟩)
  exact fin.mono fun e w' ⟨he, hw⟩ => ⟨he, hw ▸ Below.refl _ _⟩
end Go.Proofs.Ytpmaaflpknjbmaa.C
