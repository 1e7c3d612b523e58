/-
  The laws' own helpers on lists of ints: eqIntS, markIntS, heldIntS. No statement of the seat by itself.
-/
import Derived.Test.YtpdonhdffniabaaCMarkS
namespace Go.Proofs.Ytpdonhdffniabaa.C
open Go.RowKit

/-- A block of ints of which the first n are told. -/
def RowI (W : World) (g cap n : Nat) (f : Nat → Int) : Prop := ∃ cur : Array Value, W.heap[g]? = some (.cells cur 3 (0, 0)) ∧ n ≤ cap ∧ cur.size = cap ∧ ∀ j, j < n → cur[j]? = some (.int .i64 (f j))
theorem RowI.cell {W : World} {g cap n : Nat} {f : Nat → Int} (h : RowI W g cap n f) (j : Nat) (hj : j < n) : W.cell? ⟨g, j, none⟩ = some (.int .i64 (f j)) := by
  obtain ⟨cur, hb, _, _, hc⟩ := h
  simp [World.cell?, hb, hc j hj]
theorem RowI.lt {W : World} {g cap n : Nat} {f : Nat → Int} (h : RowI W g cap n f) : g < W.heap.size := by
  obtain ⟨cur, hb, _⟩ := h
  exact (Array.getElem?_eq_some_iff.1 hb).1
theorem RowI.block {W W' : World} {g cap n : Nat} {f : Nat → Int} (h : RowI W g cap n f) (he : W'.heap[g]? = W.heap[g]?) : RowI W' g cap n f := by
  obtain ⟨cur, hb, h1⟩ := h
  exact ⟨cur, he.trans hb, h1⟩

set_option maxHeartbeats 400000 in
theorem eqN_empty (a1 a2 : Option Addr) (c1 c2 : Nat) (w : World) :
    Calls Try.prog 33 #[.slice a1 0 c1, .slice a2 0 c2] w fun e w' => e = .returned (.bool true) ∧ ∃ k, w' = w.drewN k := by
  go_enter Try.func33, Try.ntmps33
  go_wp2
  go_loop [5] (fun i => i = .int .i64 0) (fun _ => 0)
  case atStart => rfl
  case round =>
    obtain rfl := hrel
    go_wp2
    go_ret
    exact ⟨rfl, 0, rfl⟩

set_option maxRecDepth 100000 in
set_option maxHeartbeats 1000000 in
theorem eqN_rows (g1 g2 c1 c2 n : Nat) (f : Nat → Int) (hn : n ≤ 1048576) (w : World) (h1 : RowI w g1 c1 n f) (h2 : RowI w g2 c2 n f) :
    Calls Try.prog 33 #[.slice (some ⟨g1, 0, none⟩) n c1, .slice (some ⟨g2, 0, none⟩) n c2] w fun e w' => e = .returned (.bool true) ∧ ∃ k, w' = w.drewN k := by
  have H1 := Lib.hid h1
  have H2 := Lib.hid h2
  clear h1 h2
  go_enter Try.func33, Try.ntmps33
  go_wp2
  go_loopw [5] (fun i wr => ∃ k q : Nat, k ≤ n ∧ i = .int .i64 k ∧ wr = w.drewN q) (fun i _ => n - (intOf i).toNat)
  case atStart => exact ⟨0, 0, Nat.zero_le _, rfl, rfl⟩
  case round =>
    obtain ⟨k, q, hk, rfl, rfl⟩ := hrel
    by_cases hlt : k < n
    · have hc1 : w.cell? ⟨g1, k, none⟩ = some (.int .i64 (f k)) := H1.out.cell k hlt
      have hc2 : w.cell? ⟨g2, k, none⟩ = some (.int .i64 (f k)) := H2.out.cell k hlt
      generalize f k = x at *
      go_wp2
      go_quiet (fail)
      go_wp2
      refine ⟨⟨k + 1, q + nq, by omega, by go_num, rfl⟩, by simp [intOf]; omega⟩
    · go_wp2
      go_ret
      exact ⟨rfl, q, rfl⟩

/-- While the marks are written: the first k are there; nothing else of old has turned. -/
def MarkRelN (w wr : World) (g cap n k k0 : Nat) : Prop := w.grownBy wr (some g) ∧ n ≤ cap ∧ ∃ cur : Array Value, wr.heap[g]? = some (.cells cur 3 (0, 0)) ∧ cur.size = cap ∧ (∀ j, j < n → ∃ x, cur[j]? = some (.int .i64 x)) ∧ ∀ j, j < k → cur[j]? = some (.int .i64 ((k0 : Int) + (j : Int)))

theorem markRelN_step {w wr : World} {g cap n k k0 : Nat} (h : MarkRelN w wr g cap n k k0) (hlt : k < n) : MarkRelN w (wr.setCell ⟨g, k, none⟩ (.int .i64 ((k0 : Int) + (k : Int)))) g cap n (k + 1) k0 := by
  obtain ⟨hG, hnc, cur, hb, hsz, hall, hdone⟩ := h
  refine ⟨Lib.grownBy_setB hG _ _, hnc, cur.setIfInBounds k (.int .i64 ((k0 : Int) + (k : Int))), Lib.heap_setCell_same hb _, by simpa using hsz, ?_, ?_⟩
  · intro j hj
    by_cases hjk : k = j
    · subst hjk; exact ⟨_, by rw [Array.getElem?_setIfInBounds_self_of_lt (by omega)]⟩
    · obtain ⟨y, hy⟩ := hall j hj
      exact ⟨y, by rw [Array.getElem?_setIfInBounds_ne hjk]; exact hy⟩
  · intro j hj
    by_cases hjk : k = j
    · subst hjk; rw [Array.getElem?_setIfInBounds_self_of_lt (by omega)]
    · rw [Array.getElem?_setIfInBounds_ne hjk]; exact hdone j (by omega)

theorem markRelN_cell {w wr : World} {g cap n k k0 : Nat} (h : MarkRelN w wr g cap n k k0) (hlt : k < n) : (∃ x, wr.cell? ⟨g, k, none⟩ = some (.int .i64 x)) ∧ wr.frozen? ⟨g, k, none⟩ = false := by
  obtain ⟨hG, hnc, cur, hb, hsz, hall, hdone⟩ := h
  obtain ⟨x, hx⟩ := hall k hlt
  exact ⟨⟨x, by simp [World.cell?, hb, hx]⟩, by simp [World.frozen?, hb]⟩

theorem markRelN_row {w wr : World} {g cap n k0 : Nat} (h : MarkRelN w wr g cap n n k0) : RowI wr g cap n (fun j => (k0 : Int) + (j : Int)) := by
  obtain ⟨hG, hnc, cur, hb, hsz, hall, hdone⟩ := h
  exact ⟨cur, hb, hnc, hsz, hdone⟩

set_option maxRecDepth 100000 in
set_option maxHeartbeats 1000000 in
theorem markN_rows (g cap n k0 : Nat) (f : Nat → Int) (hn : n ≤ 100000) (hk0 : 1 ≤ k0) (hk1 : k0 ≤ 100000) (w : World) (h : RowI w g cap n f) :
    Calls Try.prog 34 #[.slice (some ⟨g, 0, none⟩) n cap, .int .i64 k0] w fun e w' => e = .returned (.int .i64 ((k0 : Int) + (n : Int))) ∧ RowI w' g cap n (fun j => (k0 : Int) + (j : Int)) ∧ w.grownBy w' (some g) := by
  have h0 : MarkRelN w w g cap n 0 k0 := by
    obtain ⟨cur, hb, hnc, hsz, hc⟩ := h
    exact ⟨⟨rfl, rfl, rfl, Nat.le_refl _, fun _ _ _ => rfl⟩, hnc, cur, hb, hsz, fun j hj => ⟨_, hc j hj⟩, fun j hj => by omega⟩
  clear h
  go_enter Try.func34, Try.ntmps34
  go_wp2
  go_loopw [1, 5] (fun m i wr => ∃ k : Nat, k ≤ n ∧ i = .int .i64 k ∧ m = .int .i64 ((k0 : Int) + (k : Int)) ∧ Hid (MarkRelN w wr g cap n k k0)) (fun _ i _ => n - (intOf i).toNat)
  case atStart => exact ⟨0, Nat.zero_le _, rfl, by simp, Lib.hid h0⟩
  case round =>
    obtain ⟨k, hk, rfl, rfl, HR⟩ := hrel
    by_cases hlt : k < n
    · obtain ⟨⟨x, hcx⟩, hfx⟩ := markRelN_cell HR.out hlt
      clear h0
      go_wp2
      refine ⟨⟨k + 1, by omega, by go_num, val_eq (by omega), Lib.hid (markRelN_step HR.out hlt)⟩, by simp [intOf]; omega⟩
    · obtain rfl : k = n := by omega
      go_wp2
      go_ret
      exact ⟨rfl, markRelN_row HR.out, HR.out.1⟩

set_option maxRecDepth 100000 in
set_option maxHeartbeats 2000000 in
theorem heldN_rows (g cap n k0 : Nat) (hn : n ≤ 100000) (hk0 : 1 ≤ k0) (hk1 : k0 ≤ 100000) (w : World) (h : RowI w g cap n (fun j => (k0 : Int) + (j : Int))) :
    Calls Try.prog 35 #[.slice (some ⟨g, 0, none⟩) n cap, .int .i64 k0] w fun e w' => e = .returned (.int .i64 ((k0 : Int) + (n : Int))) ∧ ∃ k, w' = w.drewN k := by
  have H := Lib.hid h
  clear h
  go_enter Try.func35, Try.ntmps35
  go_wp2
  go_loopw [1, 5] (fun m i wr => ∃ k q : Nat, k ≤ n ∧ i = .int .i64 k ∧ m = .int .i64 ((k0 : Int) + (k : Int)) ∧ wr = w.drewN q) (fun _ i _ => n - (intOf i).toNat)
  case atStart => exact ⟨0, 0, Nat.zero_le _, rfl, by simp, rfl⟩
  case round =>
    obtain ⟨k, q, hk, rfl, rfl, rfl⟩ := hrel
    by_cases hlt : k < n
    · have hc : w.cell? ⟨g, k, none⟩ = some (.int .i64 ((k0 : Int) + (k : Int))) := H.out.cell k hlt
      go_wp2
      try go_quiet (fail)
      try go_wp2
      first
        | refine ⟨⟨k + 1, q + nq, by omega, by go_num, val_eq (by omega), rfl⟩, by simp [intOf]; omega⟩
        | refine ⟨⟨k + 1, q, by omega, by go_num, val_eq (by omega), rfl⟩, by simp [intOf]; omega⟩
    · obtain rfl : k = n := by omega
      go_wp2
      go_ret
      exact ⟨rfl, q, rfl⟩

set_option maxHeartbeats 400000 in
theorem markN_empty (a : Option Addr) (c : Nat) (k0 : Int) (w : World) :
    Calls Try.prog 34 #[.slice a 0 c, .int .i64 k0] w fun e w' => e = .returned (.int .i64 k0) ∧ w = w' := by
  go_enter Try.func34, Try.ntmps34
  go_wp2
  go_loop [1, 5] (fun m i => i = .int .i64 0 ∧ m = .int .i64 k0) (fun _ _ => 0)
  case atStart => exact ⟨rfl, rfl⟩
  case round =>
    obtain ⟨rfl, rfl⟩ := hrel
    go_wp2
    go_ret
    exact ⟨rfl, rfl⟩

set_option maxHeartbeats 400000 in
theorem heldN_empty (a : Option Addr) (c : Nat) (k0 : Int) (w : World) :
    Calls Try.prog 35 #[.slice a 0 c, .int .i64 k0] w fun e w' => e = .returned (.int .i64 k0) ∧ w = w' := by
  go_enter Try.func35, Try.ntmps35
  go_wp2
  go_loop [1, 5] (fun m i => i = .int .i64 0 ∧ m = .int .i64 k0) (fun _ _ => 0)
  case atStart => exact ⟨rfl, rfl⟩
  case round =>
    obtain ⟨rfl, rfl⟩ := hrel
    go_wp2
    go_ret
    exact ⟨rfl, rfl⟩

/-- A slice that reads as n ints: nil or empty, or at the head of a block of ints. -/
def RowN (W : World) (v : Value) (n : Nat) (f : Nat → Int) : Prop := (n = 0 ∧ ∃ a c, v = .slice a 0 c) ∨ ∃ g cap, v = .slice (some ⟨g, 0, none⟩) n cap ∧ RowI W g cap n f

theorem rowN_of_owns {W : World} {base : Nat} {v : Value} {ps : List Nat} (h : W.ownsRow base 3 1 v ps.length (ps.map fun x : Nat => Value.int .i64 (x : Int))) : RowN W v ps.length (fun j => ((ps[j]?.getD 0 : Nat) : Int)) := by
  rcases h.2 with ⟨rfl, hn⟩ | ⟨g, cap, cur, rfl, hg, hb, hnc, hcm, hsz, hx⟩
  · exact .inl ⟨hn, _, _, rfl⟩
  · refine .inr ⟨g, cap, rfl, cur, hb, hnc, by simpa using hsz, fun j hj => ?_⟩
    have e : (cur.toList.take (ps.length * 1))[j]? = (ps.map fun x : Nat => Value.int .i64 (x : Int))[j]? := by rw [hx]
    rw [List.getElem?_take_of_lt (by omega), List.getElem?_map, List.getElem?_eq_getElem hj] at e
    rw [← Array.getElem?_toList, e]
    simp [hj]

theorem eqN_any (v1 v2 : Value) (n : Nat) (f : Nat → Int) (hn : n ≤ 100000) (w : World) (h1 : RowN w v1 n f) (h2 : RowN w v2 n f) :
    Calls Try.prog 33 #[v1, v2] w fun e w' => e = .returned (.bool true) ∧ ∃ k, w' = w.drewN k := by
  rcases h1 with ⟨rfl, a1, c1, rfl⟩ | ⟨g1, c1, rfl, h1⟩
  · rcases h2 with ⟨_, a2, c2, rfl⟩ | ⟨g2, c2, rfl, h2⟩
    · exact eqN_empty _ _ _ _ w
    · exact eqN_empty _ _ _ _ w
  · rcases h2 with ⟨rfl, a2, c2, rfl⟩ | ⟨g2, c2, rfl, h2⟩
    · exact eqN_empty _ _ _ _ w
    · exact eqN_rows g1 g2 c1 c2 n f (by omega) w h1 h2

theorem markN_one (v : Value) (n : Nat) (f : Nat → Int) (hn : n ≤ 5000) (w : World) (h : RowN w v n f) :
    Calls Try.prog 34 #[v, .int .i64 1] w fun e w' => e = .returned (.int .i64 (1 + (n : Int))) ∧ RowN w' v n (fun j => 1 + (j : Int)) ∧ w.grownBy w' v.ownBlock := by
  rcases h with ⟨rfl, a, c, rfl⟩ | ⟨g, c, rfl, h⟩
  · refine (markN_empty a c 1 w).mono fun e w' ⟨he, hw⟩ => ?_
    subst hw
    exact ⟨by rw [he]; simp, .inl ⟨rfl, _, _, rfl⟩, ⟨rfl, rfl, rfl, Nat.le_refl _, fun _ _ _ => rfl⟩⟩
  · exact (markN_rows g c n 1 f (by omega) (by decide) (by decide) w h).mono fun e w' ⟨he, hr, hg⟩ => ⟨he, .inr ⟨g, c, rfl, hr⟩, hg⟩

theorem heldN_one (v : Value) (n : Nat) (hn : n ≤ 5000) (w : World) (h : RowN w v n (fun j => 1 + (j : Int))) :
    Calls Try.prog 35 #[v, .int .i64 1] w fun e w' => e = .returned (.int .i64 (1 + (n : Int))) ∧ ∃ k, w' = w.drewN k := by
  rcases h with ⟨rfl, a, c, rfl⟩ | ⟨g, c, rfl, h⟩
  · refine (heldN_empty a c 1 w).mono fun e w' ⟨he, hw⟩ => ?_
    subst hw
    exact ⟨by rw [he]; simp, 0, rfl⟩
  · exact heldN_rows g c n 1 (by omega) (by decide) (by decide) w h

theorem RowN.kept {W W' : World} {v : Value} {n : Nat} {f : Nat → Int} {row : Option Nat} (h : RowN W v n f) (hg : W.grownBy W' row) (hne : ∀ j, v.ownBlock = some j → some j ≠ row) : RowN W' v n f := by
  rcases h with ⟨rfl, a, c, rfl⟩ | ⟨g, c, rfl, h⟩
  · exact .inl ⟨rfl, _, _, rfl⟩
  · exact .inr ⟨g, c, rfl, h.block (hg.block g h.lt (hne g rfl))⟩
theorem RowN.below {W W' : World} {v : Value} {n : Nat} {f : Nat → Int} (h : RowN W v n f) (hb : Below W.heap.size W W') : RowN W' v n f := by
  rcases h with ⟨rfl, a, c, rfl⟩ | ⟨g, c, rfl, h⟩
  · exact .inl ⟨rfl, _, _, rfl⟩
  · exact .inr ⟨g, c, rfl, h.block (hb.block g h.lt)⟩
end Go.Proofs.Ytpdonhdffniabaa.C
