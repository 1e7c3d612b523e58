/-
  The laws' own helpers on lists of ints and rotations: markIntS, heldIntS, markRotation. No statement of the seat by itself.
-/
import Derived.Test.YtefkcdhmiepbfaaDoorRKeep
import Derived.Test.YtefkcdhmiepbfaaDoorRGoodI
namespace Go.Proofs.YtefkcdhmiepbfaaDoor.R
open Go.RowKit

theorem grown_of_below {w w' : World} (h : Below w.heap.size w w') (row : Option Nat) : w.grownBy w' row := ⟨h.os, h.tape, h.output, h.size, fun k hk _ => h.block k hk⟩
theorem row_base {W : World} {base e size k : Nat} {v : Value} {xs : List Value} (h : W.ownsRow base e size v k xs) : ∀ j, v.ownBlock = some j → base ≤ j := by
  intro j hj
  rcases h.2 with ⟨rfl, _⟩ | ⟨g, cap, cur, rfl, hg, _⟩
  · simp [Value.ownBlock] at hj
  · have : g = j := by simpa [Value.ownBlock] using hj
    omega
theorem row_lt {W : World} {base e size k : Nat} {v : Value} {xs : List Value} (h : W.ownsRow base e size v k xs) : ∀ j, v.ownBlock = some j → j < W.heap.size := by
  intro j hj
  rcases h.2 with ⟨rfl, _⟩ | ⟨g, cap, cur, rfl, hg, hb, _⟩
  · simp [Value.ownBlock] at hj
  · have : g = j := by simpa [Value.ownBlock] using hj
    subst this
    exact (Array.getElem?_eq_some_iff.1 hb).1
/-- Numbers as values. -/
def intV (l : List Int) : List Value := l.map fun x => Value.int .i64 x
theorem intV_len (l : List Int) : (intV l).length = l.length := by simp [intV]
theorem own_form {W : World} {b k : Nat} {v : Value} {xs : List Value} (h : W.ownsRow b 3 1 v k xs) : ∃ a c, v = .slice a k c := by
  rcases h.2 with ⟨rfl, rfl⟩ | ⟨g, cap, cur, rfl, _⟩
  · exact ⟨_, _, rfl⟩
  · exact ⟨_, _, rfl⟩
/-- A number was answered, and nothing older turned. -/
def NumP (w : World) (x : Int) (e : Ending) (w' : World) : Prop := e = .returned (.int .i64 x) ∧ Below w.heap.size w w'


/-- While the marks are written: the first k are there; nothing else of old has turned. -/
def MarkRelN (w wr : World) (g cap n k k0 : Nat) : Prop := w.grownBy wr (some g) ∧ n ≤ cap ∧ ∃ cur : Array Value, wr.heap[g]? = some (.cells cur 3 (0, 0)) ∧ cur.size = cap ∧ (∀ j, j < n → ∃ x, cur[j]? = some (.int .i64 x)) ∧ ∀ j, j < k → cur[j]? = some (.int .i64 ((k0 : Int) + (j : Int)))

theorem markRelN_step {w wr : World} {g cap n k k0 : Nat} (h : MarkRelN w wr g cap n k k0) (hlt : k < n) : MarkRelN w (wr.setCell ⟨g, k, none⟩ (.int .i64 ((k0 : Int) + (k : Int)))) g cap n (k + 1) k0 := by
  obtain ⟨hG, hnc, cur, hb, hsz, hall, hdone⟩ := h
  refine ⟨Lib.grownBy_setB hG _ _, hnc, cur.setIfInBounds k (.int .i64 ((k0 : Int) + (k : Int))), Lib.heap_setCell_same hb _, by simpa using hsz, ?_, ?_⟩
  · intro j hj
    by_cases hjk : k = j
    · subst hjk; exact ⟨_, by rw [Array.getElem?_setIfInBounds_self_of_lt (by omega)]⟩
    · obtain ⟨y, hy⟩ := hall j hj
      exact ⟨y, by rw [Array.getElem?_setIfInBounds_ne hjk]; exact hy⟩
  · intro j hj
    by_cases hjk : k = j
    · subst hjk; rw [Array.getElem?_setIfInBounds_self_of_lt (by omega)]
    · rw [Array.getElem?_setIfInBounds_ne hjk]; exact hdone j (by omega)

theorem markRelN_cell {w wr : World} {g cap n k k0 : Nat} (h : MarkRelN w wr g cap n k k0) (hlt : k < n) : (∃ x, wr.cell? ⟨g, k, none⟩ = some (.int .i64 x)) ∧ wr.frozen? ⟨g, k, none⟩ = false := by
  obtain ⟨hG, hnc, cur, hb, hsz, hall, hdone⟩ := h
  obtain ⟨x, hx⟩ := hall k hlt
  exact ⟨⟨x, by simp [World.cell?, hb, hx]⟩, by simp [World.frozen?, hb]⟩

theorem markRelN_row {w wr : World} {g cap n k0 : Nat} (h : MarkRelN w wr g cap n n k0) : RowI wr g cap n (fun j => (k0 : Int) + (j : Int)) := by
  obtain ⟨hG, hnc, cur, hb, hsz, hall, hdone⟩ := h
  exact ⟨cur, hb, hnc, hsz, hdone⟩

set_option maxRecDepth 100000 in
set_option maxHeartbeats 1000000 in
theorem markN_rows (g cap n k0 : Nat) (f : Nat → Int) (hn : n ≤ 1048576) (hk0 : 1 ≤ k0) (hk1 : k0 ≤ 2000000) (w : World) (h : RowI w g cap n f) :
    Calls Tryd.prog 36 #[.slice (some ⟨g, 0, none⟩) n cap, .int .i64 k0] w fun e w' => e = .returned (.int .i64 ((k0 : Int) + (n : Int))) ∧ RowI w' g cap n (fun j => (k0 : Int) + (j : Int)) ∧ w.grownBy w' (some g) := by
  have h0 : MarkRelN w w g cap n 0 k0 := by
    obtain ⟨cur, hb, hnc, hsz, hc⟩ := h
    exact ⟨⟨rfl, rfl, rfl, Nat.le_refl _, fun _ _ _ => rfl⟩, hnc, cur, hb, hsz, fun j hj => ⟨_, hc j hj⟩, fun j hj => by omega⟩
  clear h
  go_enter Tryd.func36, Tryd.ntmps36
  go_wp2
  go_loopw [1, 5] (fun m i wr => ∃ k : Nat, k ≤ n ∧ i = .int .i64 k ∧ m = .int .i64 ((k0 : Int) + (k : Int)) ∧ Hid (MarkRelN w wr g cap n k k0)) (fun _ i _ => n - (intOf i).toNat)
  case atStart => exact ⟨0, Nat.zero_le _, rfl, by simp, Lib.hid h0⟩
  case round =>
    obtain ⟨k, hk, rfl, rfl, HR⟩ := hrel
    by_cases hlt : k < n
    · obtain ⟨⟨x, hcx⟩, hfx⟩ := markRelN_cell HR.out hlt
      clear h0
      go_wp2
      refine ⟨⟨k + 1, by omega, by go_num, val_i (by omega), Lib.hid (markRelN_step HR.out hlt)⟩, by simp [intOf]; omega⟩
    · obtain rfl : k = n := by omega
      go_wp2
      go_ret
      exact ⟨rfl, markRelN_row HR.out, HR.out.1⟩

set_option maxRecDepth 100000 in
set_option maxHeartbeats 2000000 in
theorem heldN_rows (g cap n k0 : Nat) (hn : n ≤ 1048576) (hk0 : 1 ≤ k0) (hk1 : k0 ≤ 2000000) (w : World) (h : RowI w g cap n (fun j => (k0 : Int) + (j : Int))) :
    Calls Tryd.prog 37 #[.slice (some ⟨g, 0, none⟩) n cap, .int .i64 k0] w fun e w' => e = .returned (.int .i64 ((k0 : Int) + (n : Int))) ∧ ∃ k, w' = w.drewN k := by
  have H := Lib.hid h
  clear h
  go_enter Tryd.func37, Tryd.ntmps37
  go_wp2
  go_loopw [1, 5] (fun m i wr => ∃ k q : Nat, k ≤ n ∧ i = .int .i64 k ∧ m = .int .i64 ((k0 : Int) + (k : Int)) ∧ wr = w.drewN q) (fun _ i _ => n - (intOf i).toNat)
  case atStart => exact ⟨0, 0, Nat.zero_le _, rfl, by simp, rfl⟩
  case round =>
    obtain ⟨k, q, hk, rfl, rfl, rfl⟩ := hrel
    by_cases hlt : k < n
    · have hc : w.cell? ⟨g, k, none⟩ = some (.int .i64 ((k0 : Int) + (k : Int))) := H.out.cell k hlt
      go_wp2
      try go_quiet (fail)
      try go_wp2
      first
        | refine ⟨⟨k + 1, q + nq, by omega, by go_num, val_i (by omega), rfl⟩, by simp [intOf]; omega⟩
        | refine ⟨⟨k + 1, q, by omega, by go_num, val_i (by omega), rfl⟩, by simp [intOf]; omega⟩
    · obtain rfl : k = n := by omega
      go_wp2
      go_ret
      exact ⟨rfl, q, rfl⟩

set_option maxHeartbeats 400000 in
theorem markN_empty (a : Option Addr) (c : Nat) (k0 : Int) (w : World) :
    Calls Tryd.prog 36 #[.slice a 0 c, .int .i64 k0] w fun e w' => e = .returned (.int .i64 k0) ∧ w = w' := by
  go_enter Tryd.func36, Tryd.ntmps36
  go_wp2
  go_loop [1, 5] (fun m i => i = .int .i64 0 ∧ m = .int .i64 k0) (fun _ _ => 0)
  case atStart => exact ⟨rfl, rfl⟩
  case round =>
    obtain ⟨rfl, rfl⟩ := hrel
    go_wp2
    go_ret
    exact ⟨rfl, rfl⟩

set_option maxHeartbeats 400000 in
theorem heldN_empty (a : Option Addr) (c : Nat) (k0 : Int) (w : World) :
    Calls Tryd.prog 37 #[.slice a 0 c, .int .i64 k0] w fun e w' => e = .returned (.int .i64 k0) ∧ w = w' := by
  go_enter Tryd.func37, Tryd.ntmps37
  go_wp2
  go_loop [1, 5] (fun m i => i = .int .i64 0 ∧ m = .int .i64 k0) (fun _ _ => 0)
  case atStart => exact ⟨rfl, rfl⟩
  case round =>
    obtain ⟨rfl, rfl⟩ := hrel
    go_wp2
    go_ret
    exact ⟨rfl, rfl⟩


theorem rowI_of_owns {W : World} {base g n cap : Nat} {l : List Int} (h : W.ownsRow base 3 1 (.slice (some ⟨g, 0, none⟩) n cap) l.length (intV l)) (h0 : 0 < l.length) : n = l.length ∧ RowI W g cap l.length (fun j => l.getD j 0) := by
  rcases h.2 with ⟨hn, hz⟩ | ⟨g', cap', cur, hv, hg, hb, hnc, hcm, hsz, hx⟩
  · omega
  · injection hv with e1 e2 e3
    injection e1 with e1
    injection e1 with e1
    subst e1 e2 e3
    refine ⟨rfl, cur, hb, hnc, by simpa using hsz, fun j hj => ?_⟩
    have e : (cur.toList.take (l.length * 1))[j]? = (intV l)[j]? := by rw [hx]
    rw [List.getElem?_take_of_lt (by omega)] at e
    rw [← Array.getElem?_toList, e]
    simp [intV, List.getD, hj]
/-- A row of the call's own reads as its ints. -/
theorem arg_of_owns {W : World} {base : Nat} {v : Value} {l : List Int} (h : W.ownsRow base 3 1 v l.length (intV l)) : ArgI W v l.length (fun j => l.getD j 0) := by
  rcases h.2 with ⟨hn, hz⟩ | ⟨g, cap, cur, hv, hg, hb, hnc, hcm, hsz, hx⟩
  · subst hn; exact .inl ⟨hz, _, _, rfl⟩
  · subst hv
    by_cases h0 : 0 < l.length
    · exact (rowI_of_owns h h0).2.arg
    · exact .inl ⟨by omega, _, _, by rw [show l.length = 0 by omega]⟩
/-- A row of the call's own, as the marks see it: empty, or at the head of a block of ints. -/
def RowN (W : World) (v : Value) (n : Nat) (f : Nat → Int) : Prop := (n = 0 ∧ ∃ a c, v = .slice a 0 c) ∨ ∃ g cap, v = .slice (some ⟨g, 0, none⟩) n cap ∧ RowI W g cap n f
theorem rowN_of_owns {W : World} {base : Nat} {v : Value} {l : List Int} (h : W.ownsRow base 3 1 v l.length (intV l)) : RowN W v l.length (fun j => l.getD j 0) := by
  rcases h.2 with ⟨hn, hz⟩ | ⟨g, cap, cur, hv, hg, hb, hnc, hcm, hsz, hx⟩
  · subst hn; exact .inl ⟨hz, _, _, rfl⟩
  · subst hv
    by_cases h0 : 0 < l.length
    · exact .inr ⟨g, cap, rfl, (rowI_of_owns h h0).2⟩
    · exact .inl ⟨by omega, _, _, by rw [show l.length = 0 by omega]⟩
theorem RowN.arg {W : World} {v : Value} {n : Nat} {f : Nat → Int} (h : RowN W v n f) : ArgI W v n f := by
  rcases h with ⟨rfl, a, c, rfl⟩ | ⟨g, c, rfl, h⟩
  · exact .inl ⟨rfl, _, _, rfl⟩
  · exact h.arg
theorem RowN.kept {W W' : World} {v : Value} {n : Nat} {f : Nat → Int} {row : Option Nat} (h : RowN W v n f) (hg : W.grownBy W' row) (hne : ∀ j, v.ownBlock = some j → some j ≠ row) : RowN W' v n f := by
  rcases h with ⟨rfl, a, c, rfl⟩ | ⟨g, c, rfl, h⟩
  · exact .inl ⟨rfl, _, _, rfl⟩
  · exact .inr ⟨g, c, rfl, h.block (hg.block g h.lt (hne g rfl))⟩
theorem RowN.below {W W' : World} {v : Value} {n : Nat} {f : Nat → Int} (h : RowN W v n f) (hb : Below W.heap.size W W') : RowN W' v n f := h.kept (grown_of_below hb none) (by simp)

theorem markN_one (v : Value) (n k0 : Nat) (f : Nat → Int) (hn : n ≤ 1048576) (hk0 : 1 ≤ k0) (hk1 : k0 ≤ 2000000) (w : World) (h : RowN w v n f) :
    Calls Tryd.prog 36 #[v, .int .i64 (k0 : Int)] w fun e w' => e = .returned (.int .i64 ((k0 : Int) + (n : Int))) ∧ RowN w' v n (fun j => (k0 : Int) + (j : Int)) ∧ w.grownBy w' v.ownBlock := by
  rcases h with ⟨rfl, a, c, rfl⟩ | ⟨g, c, rfl, h⟩
  · refine (markN_empty a c k0 w).mono fun e w' ⟨he, hw⟩ => ?_
    subst hw
    exact ⟨by rw [he]; simp, .inl ⟨rfl, _, _, rfl⟩, ⟨rfl, rfl, rfl, Nat.le_refl _, fun _ _ _ => rfl⟩⟩
  · exact (markN_rows g c n k0 f hn hk0 hk1 w h).mono fun e w' ⟨he, hr, hg⟩ => ⟨he, .inr ⟨g, c, rfl, hr⟩, hg⟩
theorem heldN_one (v : Value) (n k0 : Nat) (hn : n ≤ 1048576) (hk0 : 1 ≤ k0) (hk1 : k0 ≤ 2000000) (w : World) (h : RowN w v n (fun j => (k0 : Int) + (j : Int))) :
    Calls Tryd.prog 37 #[v, .int .i64 (k0 : Int)] w fun e w' => e = .returned (.int .i64 ((k0 : Int) + (n : Int))) ∧ Below w.heap.size w w' := by
  rcases h with ⟨rfl, a, c, rfl⟩ | ⟨g, c, rfl, h⟩
  · refine (heldN_empty a c k0 w).mono fun e w' ⟨he, hw⟩ => ?_
    subst hw
    exact ⟨by rw [he]; simp, Below.refl _ _⟩
  · refine (heldN_rows g c n k0 hn hk0 hk1 w h).mono fun e w' ⟨he, k, hw⟩ => ?_
    subst hw
    exact ⟨he, below_drewN (Below.refl _ _) k⟩

/-- The marks are written into both lists of a rotation. -/
def MarkR (w : World) (g1 g2 n m : Nat) (e : Ending) (w' : World) : Prop := e = .returned (.int .i64 (1 + (n : Int) + (m : Int))) ∧ ∃ wm, w.grownBy wm (some g1) ∧ wm.grownBy w' (some g2)
end Go.Proofs.YtefkcdhmiepbfaaDoor.R
