/-
  The laws' helpers at the marks that a law computes, and szContainerS at what is left. No statement of the seat by itself.
-/
import Derived.Test.YtpmaaflpknjbmaaCResC
import Derived.Test.YtpmaaflpknjbmaaCMarks
namespace Go.Proofs.Ytpmaaflpknjbmaa.C
open Go.RowKit

theorem markC_int (v : Value) (n : Nat) (f : Nat → Cont) (k : Int) (hn : n ≤ 1048576) (h1 : 1 ≤ k) (h2 : k ≤ 10000000) (w : World) (h : CV w v n f) :
    Calls Try.prog 13 #[v, .int .i64 k] w fun e w' => e = .returned (.int .i64 (k + 5 * (n : Int))) ∧ CV w' v n (mkC k.toNat) ∧ w.grownBy w' v.ownBlock := by
  obtain ⟨m, rfl⟩ := Int.eq_ofNat_of_zero_le (show 0 ≤ k by omega)
  exact markV_any v n m f hn (by omega) (by omega) w h
theorem own_is {g n c j : Nat} (e : some j = (Value.slice (some ⟨g, 0, none⟩) n c).ownBlock) : j = g := by simpa [Value.ownBlock] using e

/-- What szContainerS answers: -1, or a number that says that the list is small. -/
def SzL (w : World) (n : Nat) (f : Nat → Cont) (e : Ending) (w' : World) : Prop := Below w.heap.size w w' ∧ (e = .returned (.int .i64 (-1)) ∨ ∃ r : Nat, e = .returned (.int .i64 (r : Int)) ∧ r ≤ 1048576 ∧ n ≤ 1048576 ∧ ∀ j, j < n → (f j).id.size ≤ 1048576)

set_option maxRecDepth 100000 in
set_option maxHeartbeats 1000000 in
theorem szL_rows (b off n cap L0 : Nat) (f : Nat → Cont) (hL0 : L0 ≤ 1048576) (hn : n ≤ maxLen) (hsz : ∀ j, j < n → (f j).id.size ≤ maxLen) (w : World) (hc : CAt w b off n f) :
    Calls Try.prog 7 #[.slice (some ⟨b, off, none⟩) n cap, .int .i64 L0] w (SzL w n f) := by
  unfold maxLen at hn
  have HC := Lib.hid hc
  have HS := Lib.hid hsz
  clear hc hsz
  by_cases hbig : L0 < n
  · go_enter Try.func7, Try.ntmps7
    go_wp2_with fail
    go_ret
    exact ⟨Below.refl _ _, .inl rfl⟩
  · have hsm : n ≤ L0 := by omega
    go_enter Try.func7, Try.ntmps7
    go_wp2_with fail
    go_loopw [1, 5] (fun l i wr => ∃ k L : Nat, k ≤ n ∧ i = .int .i64 k ∧ l = .int .i64 (L : Int) ∧ L ≤ 1048576 ∧ Hid (∀ j, j < k → (f j).id.size ≤ 1048576) ∧ Hid (Below w.heap.size w wr)) (fun _ i _ => n - (intOf i).toNat)
    case atStart => exact ⟨0, L0 - n, Nat.zero_le _, rfl, val_i (by omega), by omega, Lib.hid fun j hj => by omega, Lib.hid (Below.refl _ _)⟩
    case round =>
      obtain ⟨k, L, hk, rfl, rfl, hL, HK, HB⟩ := hrel
      by_cases hlt : k < n
      · obtain ⟨h0, h1, h2, h3, h4⟩ := (HC.out.below HB.out).2 k hlt
        have KS := Lib.hid (HS.out k hlt)
        have HK2 := fun (h : (f k).id.size ≤ 1048576) => Lib.hid (show ∀ j, j < k + 1 → (f j).id.size ≤ 1048576 from fun j hj => by
          by_cases e : j = k
          · subst e; exact h
          · exact HK.out j (by omega))
        have KK := Lib.hid HK2
        clear HK2
        generalize f k = c at *
        have HZ := Lib.hid (fun W => szCont_any c L W KS.out (by omega) (by omega))
        obtain ⟨id, sz, wt, cg, pt⟩ := c
        simp only [contV] at *
        go_wp2_with fail
        refine (HZ.out _).mono ?_
        by_cases hneg : (id.size : Int) ≤ L
        · rw [if_pos hneg]
          rintro e w1 ⟨rfl, hb1⟩
          have B1 : Hid (Below w.heap.size w w1) := Lib.hid (HB.out.trans (hb1.mono HB.out.size))
          clear hb1
          go_wp2_with fail
          refine ⟨⟨k + 1, L - id.size, by omega, by go_num, val_i (by omega), by omega, KK.out (by omega), B1⟩, by simp [intOf]; omega⟩
        · rw [if_neg hneg]
          rintro e w1 ⟨rfl, hb1⟩
          have B1 : Hid (Below w.heap.size w w1) := Lib.hid (HB.out.trans (hb1.mono HB.out.size))
          clear hb1
          go_wp2_with fail
          go_ret
          exact ⟨B1.out, .inl rfl⟩
      · obtain rfl : k = n := by omega
        go_wp2_with fail
        go_ret
        exact ⟨HB.out, .inr ⟨L, rfl, hL, by omega, HK.out⟩⟩

set_option maxHeartbeats 400000 in
theorem szL_empty (a : Option Addr) (cap L0 : Nat) (hL0 : L0 ≤ 1048576) (f : Nat → Cont) (w : World) :
    Calls Try.prog 7 #[.slice a 0 cap, .int .i64 L0] w (SzL w 0 f) := by
  go_enter Try.func7, Try.ntmps7
  go_wp2_with fail
  go_loop [1, 5] (fun l i => i = .int .i64 0 ∧ l = .int .i64 L0) (fun _ _ => 0)
  case atStart => exact ⟨rfl, by simp⟩
  case round =>
    obtain ⟨rfl, rfl⟩ := hrel
    go_wp2_with fail
    go_ret
    exact ⟨Below.refl _ _, .inr ⟨L0, rfl, hL0, by decide, fun j hj => by omega⟩⟩

theorem szL_any (v : Value) (n L0 : Nat) (f : Nat → Cont) (hL0 : L0 ≤ 1048576) (hn : n ≤ maxLen) (hsz : ∀ j, j < n → (f j).id.size ≤ maxLen) (w : World) (h : ArgC w v n f) :
    Calls Try.prog 7 #[v, .int .i64 L0] w (SzL w n f) := by
  rcases h with ⟨rfl, a, c, rfl⟩ | ⟨b, off, cap, rfl, hc⟩
  · exact szL_empty a c L0 hL0 f w
  · exact szL_rows b off n cap L0 f hL0 hn hsz w hc
end Go.Proofs.Ytpmaaflpknjbmaa.C
