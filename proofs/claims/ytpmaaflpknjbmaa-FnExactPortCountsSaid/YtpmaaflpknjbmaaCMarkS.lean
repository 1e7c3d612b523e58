/-
  Lists of strings: compared, marked, held (laws.eqStringS and its kin). No statement of the seat by itself.
-/
import Derived.Test.YtpmaaflpknjbmaaCMarks
import Derived.WalkKit
import Derived.WalkSmall
import Derived.WalkSpells
import Derived.Lib.Hide
import Derived.Lib.ItoaNum
import Derived.Lib.BufferOwn
import Derived.Lib.BufferMore
import Derived.Deep.QuietTactic
import Derived.BigQuiet
import Derived.Deep.RegionHeld3
namespace Go.Proofs.Ytpmaaflpknjbmaa.C
open Go.RowKit

/-- A block of strings of which the first n are told. -/
def RowAt (W : World) (g cap n : Nat) (f : Nat → ByteArray) : Prop := ∃ cur : Array Value, W.heap[g]? = some (.cells cur 9 (0, 0)) ∧ n ≤ cap ∧ cur.size = cap ∧ ∀ j, j < n → cur[j]? = some (.string (f j))
theorem RowAt.cell {W : World} {g cap n : Nat} {f : Nat → ByteArray} (h : RowAt W g cap n f) (j : Nat) (hj : j < n) : W.cell? ⟨g, j, none⟩ = some (.string (f j)) := by
  obtain ⟨cur, hb, _, _, hc⟩ := h
  simp [World.cell?, hb, hc j hj]
theorem RowAt.frozen {W : World} {g cap n : Nat} {f : Nat → ByteArray} (h : RowAt W g cap n f) (j : Nat) : W.frozen? ⟨g, j, none⟩ = false := by
  obtain ⟨cur, hb, _, _, _⟩ := h
  simp [World.frozen?, hb]
theorem RowAt.lt {W : World} {g cap n : Nat} {f : Nat → ByteArray} (h : RowAt W g cap n f) : g < W.heap.size := by
  obtain ⟨cur, hb, _⟩ := h
  exact (Array.getElem?_eq_some_iff.1 hb).1
theorem RowAt.block {W W' : World} {g cap n : Nat} {f : Nat → ByteArray} (h : RowAt W g cap n f) (he : W'.heap[g]? = W.heap[g]?) : RowAt W' g cap n f := by
  obtain ⟨cur, hb, h1⟩ := h
  exact ⟨cur, he.trans hb, h1⟩

set_option maxHeartbeats 400000 in
theorem eqS_empty (a1 a2 : Option Addr) (c1 c2 : Nat) (w : World) :
    Calls Try.prog 18 #[.slice a1 0 c1, .slice a2 0 c2] w fun e w' => e = .returned (.bool true) ∧ ∃ k, w' = w.drewN k := by
  go_enter Try.func18, Try.ntmps18
  go_wp2
  go_loop [5] (fun i => i = .int .i64 0) (fun _ => 0)
  case atStart => rfl
  case round =>
    obtain rfl := hrel
    go_wp2
    go_ret
    exact ⟨rfl, 0, rfl⟩

set_option maxRecDepth 100000 in
set_option maxHeartbeats 1000000 in
theorem eqS_rows (g1 g2 c1 c2 n : Nat) (f : Nat → ByteArray) (hn : n ≤ 1048576) (w : World) (h1 : RowAt w g1 c1 n f) (h2 : RowAt w g2 c2 n f) :
    Calls Try.prog 18 #[.slice (some ⟨g1, 0, none⟩) n c1, .slice (some ⟨g2, 0, none⟩) n c2] w fun e w' => e = .returned (.bool true) ∧ ∃ k, w' = w.drewN k := by
  have H1 := Lib.hid h1
  have H2 := Lib.hid h2
  clear h1 h2
  go_enter Try.func18, Try.ntmps18
  go_wp2
  go_loopw [5] (fun i wr => ∃ k q : Nat, k ≤ n ∧ i = .int .i64 k ∧ wr = w.drewN q) (fun i _ => n - (intOf i).toNat)
  case atStart => exact ⟨0, 0, Nat.zero_le _, rfl, rfl⟩
  case round =>
    obtain ⟨k, q, hk, rfl, rfl⟩ := hrel
    by_cases hlt : k < n
    · have hc1 : w.cell? ⟨g1, k, none⟩ = some (.string (f k)) := H1.out.cell k hlt
      have hc2 : w.cell? ⟨g2, k, none⟩ = some (.string (f k)) := H2.out.cell k hlt
      go_wp2
      go_quiet (fail)
      go_wp2
      refine ⟨⟨k + 1, q + nq, by omega, by go_num, rfl⟩, by simp [intOf]; omega⟩
    · go_wp2
      go_ret
      exact ⟨rfl, q, rfl⟩

/-- While the marks are written: the first k are there; nothing else of old has turned. -/
def MarkRel (w wr : World) (g cap n k k0 : Nat) : Prop := w.grownBy wr (some g) ∧ n ≤ cap ∧ ∃ cur : Array Value, wr.heap[g]? = some (.cells cur 9 (0, 0)) ∧ cur.size = cap ∧ (∀ j, j < n → ∃ x, cur[j]? = some (.string x)) ∧ ∀ j, j < k → cur[j]? = some (.string (mt (k0 + j)))

theorem markRel_step {w wr w1 : World} {g cap n k k0 : Nat} {x : ByteArray} (h : MarkRel w wr g cap n k k0) (hlt : k < n) (hB : Below wr.heap.size wr w1) (hx : x = mt (k0 + k)) : MarkRel w (w1.setCell ⟨g, k, none⟩ (.string x)) g cap n (k + 1) k0 := by
  obtain ⟨hG, hnc, cur, hb, hsz, hall, hdone⟩ := h
  have hg : g < wr.heap.size := (Array.getElem?_eq_some_iff.1 hb).1
  have hb1 : w1.heap[g]? = some (.cells cur 9 (0, 0)) := (hB.block g hg).trans hb
  refine ⟨Lib.grownBy_setB (Lib.grownBy_trans hG (grown_of_below hB _)) _ _, hnc, cur.setIfInBounds k (.string x), Lib.heap_setCell_same hb1 _, by simpa using hsz, ?_, ?_⟩
  · intro j hj
    by_cases hjk : k = j
    · subst hjk; exact ⟨x, by rw [Array.getElem?_setIfInBounds_self_of_lt (by omega)]⟩
    · obtain ⟨y, hy⟩ := hall j hj
      exact ⟨y, by rw [Array.getElem?_setIfInBounds_ne hjk]; exact hy⟩
  · intro j hj
    by_cases hjk : k = j
    · subst hjk; rw [Array.getElem?_setIfInBounds_self_of_lt (by omega), hx]
    · rw [Array.getElem?_setIfInBounds_ne hjk]; exact hdone j (by omega)

theorem markRel_cell {w wr w1 : World} {g cap n k k0 : Nat} (h : MarkRel w wr g cap n k k0) (hlt : k < n) (hB : Below wr.heap.size wr w1) : (∃ x, w1.cell? ⟨g, k, none⟩ = some (.string x)) ∧ w1.frozen? ⟨g, k, none⟩ = false := by
  obtain ⟨hG, hnc, cur, hb, hsz, hall, hdone⟩ := h
  have hg : g < wr.heap.size := (Array.getElem?_eq_some_iff.1 hb).1
  have hb1 : w1.heap[g]? = some (.cells cur 9 (0, 0)) := (hB.block g hg).trans hb
  obtain ⟨x, hx⟩ := hall k hlt
  exact ⟨⟨x, by simp [World.cell?, hb1, hx]⟩, by simp [World.frozen?, hb1]⟩

theorem markRel_row {w wr : World} {g cap n k0 : Nat} (h : MarkRel w wr g cap n n k0) : RowAt wr g cap n (fun j => mt (k0 + j)) := by
  obtain ⟨hG, hnc, cur, hb, hsz, hall, hdone⟩ := h
  exact ⟨cur, hb, hnc, hsz, hdone⟩

set_option maxRecDepth 100000 in
set_option maxHeartbeats 1000000 in
theorem markS_rows (g cap n k0 : Nat) (f : Nat → ByteArray) (hn : n ≤ 100000) (hk0 : 1 ≤ k0) (hk1 : k0 ≤ 100000) (w : World) (h : RowAt w g cap n f) :
    Calls Try.prog 19 #[.slice (some ⟨g, 0, none⟩) n cap, .int .i64 k0] w fun e w' => e = .returned (.int .i64 ((k0 : Int) + (n : Int))) ∧ RowAt w' g cap n (fun j => mt (k0 + j)) ∧ w.grownBy w' (some g) := by
  have h0 : MarkRel w w g cap n 0 k0 := by
    obtain ⟨cur, hb, hnc, hsz, hc⟩ := h
    exact ⟨⟨rfl, rfl, rfl, Nat.le_refl _, fun _ _ _ => rfl⟩, hnc, cur, hb, hsz, fun j hj => ⟨_, hc j hj⟩, fun j hj => by omega⟩
  clear h
  go_enter Try.func19, Try.ntmps19
  go_wp2
  go_loopw [1, 5] (fun m i wr => ∃ k : Nat, k ≤ n ∧ i = .int .i64 k ∧ m = .int .i64 ((k0 : Int) + (k : Int)) ∧ MarkRel w wr g cap n k k0) (fun _ i _ => n - (intOf i).toNat)
  case atStart => exact ⟨0, Nat.zero_le _, rfl, by simp, h0⟩
  case round =>
    obtain ⟨k, hk, rfl, rfl, hR⟩ := hrel
    by_cases hlt : k < n
    · have HC : Hid (∀ w1, Below wr.heap.size wr w1 → (∃ x, w1.cell? ⟨g, k, none⟩ = some (.string x)) ∧ w1.frozen? ⟨g, k, none⟩ = false) := Lib.hid fun w1 hB => markRel_cell hR hlt hB
      have HR := Lib.hid hR
      clear hR h0
      go_wp2_with (go_at_call 34; refine (markText_int _ (by omega) (by omega) _).mono ?_; rintro e w1 ⟨rfl, hB1⟩; obtain ⟨⟨x, hcx⟩, hfx⟩ := HC.out _ hB1)
      refine ⟨⟨k + 1, by omega, by go_num, val_eq (by omega), markRel_step HR.out hlt hB1 rfl⟩, by simp [intOf]; omega⟩
    · obtain rfl : k = n := by omega
      go_wp2
      go_ret
      exact ⟨rfl, markRel_row hR, hR.1⟩

set_option maxRecDepth 100000 in
set_option maxHeartbeats 2000000 in
theorem heldS_rows (g cap n k0 : Nat) (hn : n ≤ 100000) (hk0 : 1 ≤ k0) (hk1 : k0 ≤ 100000) (w : World) (h : RowAt w g cap n (fun j => mt (k0 + j))) :
    Calls Try.prog 20 #[.slice (some ⟨g, 0, none⟩) n cap, .int .i64 k0] w fun e w' => e = .returned (.int .i64 ((k0 : Int) + (n : Int))) ∧ Below w.heap.size w w' := by
  have H := Lib.hid h
  have hg := h.lt
  clear h
  go_enter Try.func20, Try.ntmps20
  go_wp2
  go_loopw [1, 5] (fun m i wr => ∃ k : Nat, k ≤ n ∧ i = .int .i64 k ∧ m = .int .i64 ((k0 : Int) + (k : Int)) ∧ Below w.heap.size w wr) (fun _ i _ => n - (intOf i).toNat)
  case atStart => exact ⟨0, Nat.zero_le _, rfl, by simp, Below.refl _ _⟩
  case round =>
    obtain ⟨k, hk, rfl, rfl, hB⟩ := hrel
    by_cases hlt : k < n
    · have hc : wr.cell? ⟨g, k, none⟩ = some (.string (mt (k0 + k))) := (hB.cell (p := ⟨g, k, none⟩) hg).trans (H.out.cell k hlt)
      have hgr : g < wr.heap.size := Nat.lt_of_lt_of_le hg hB.size
      have HM : Hid (∀ W, W.cell? ⟨g, k, none⟩ = some (.string (mt (k0 + k))) → g < W.heap.size → Calls Try.prog 34 #[.int .i64 ((k0 : Int) + (k : Int))] W fun e w' => e = .returned (.string (mt (k0 + k))) ∧ Below W.heap.size W w' ∧ w'.cell? ⟨g, k, none⟩ = some (.string (mt (k0 + k))) ∧ g < w'.heap.size) := Lib.hid fun W hcW hgW => by
        have := markText_int ((k0 : Int) + (k : Int)) (by omega) (by omega) W
        rw [show ((k0 : Int) + (k : Int)).toNat = k0 + k by omega] at this
        exact this.mono fun e w' ⟨he, hb⟩ => ⟨he, hb, (hb.cell (p := ⟨g, k, none⟩) hgW).trans hcW, Nat.lt_of_lt_of_le hgW hb.size⟩
      go_wp2
      go_region_held3 (fun w' => w'.cell? ⟨g, k, none⟩ = some (.string (mt (k0 + k))) ∧ g < w'.heap.size) (go_keep) (first | (go_at_call 34; refine (HM.out _ (by simp [*]) (by simp [*])).mono ?_; rintro e w' ⟨rfl, hB1, hc1, hg1⟩))
      go_wp2
      refine ⟨⟨k + 1, by omega, by go_num, val_eq (by omega), ?_⟩, by simp [intOf]; omega⟩
      exact hB.drew.trans (hB1.mono hB.size)
    · obtain rfl : k = n := by omega
      go_wp2
      go_ret
      exact ⟨rfl, hB⟩

set_option maxHeartbeats 400000 in
theorem markS_empty (a : Option Addr) (c : Nat) (k0 : Int) (w : World) :
    Calls Try.prog 19 #[.slice a 0 c, .int .i64 k0] w fun e w' => e = .returned (.int .i64 k0) ∧ w = w' := by
  go_enter Try.func19, Try.ntmps19
  go_wp2
  go_loop [1, 5] (fun m i => i = .int .i64 0 ∧ m = .int .i64 k0) (fun _ _ => 0)
  case atStart => exact ⟨rfl, rfl⟩
  case round =>
    obtain ⟨rfl, rfl⟩ := hrel
    go_wp2
    go_ret
    exact ⟨rfl, rfl⟩

set_option maxHeartbeats 400000 in
theorem heldS_empty (a : Option Addr) (c : Nat) (k0 : Int) (w : World) :
    Calls Try.prog 20 #[.slice a 0 c, .int .i64 k0] w fun e w' => e = .returned (.int .i64 k0) ∧ w = w' := by
  go_enter Try.func20, Try.ntmps20
  go_wp2
  go_loop [1, 5] (fun m i => i = .int .i64 0 ∧ m = .int .i64 k0) (fun _ _ => 0)
  case atStart => exact ⟨rfl, rfl⟩
  case round =>
    obtain ⟨rfl, rfl⟩ := hrel
    go_wp2
    go_ret
    exact ⟨rfl, rfl⟩

/-- A slice that reads as n texts: nil or empty, or at the head of a block of strings. -/
def RowV (W : World) (v : Value) (n : Nat) (f : Nat → ByteArray) : Prop := (n = 0 ∧ ∃ a c, v = .slice a 0 c) ∨ ∃ g cap, v = .slice (some ⟨g, 0, none⟩) n cap ∧ RowAt W g cap n f

theorem rowV_of_owns {W : World} {base : Nat} {v : Value} {ps : List ByteArray} (h : W.ownsRow base 9 1 v ps.length (ps.map Value.string)) : RowV W v ps.length (fun j => ps[j]?.getD ByteArray.empty) := by
  rcases h.2 with ⟨rfl, hn⟩ | ⟨g, cap, cur, rfl, hg, hb, hnc, hcm, hsz, hx⟩
  · exact .inl ⟨hn, _, _, rfl⟩
  · refine .inr ⟨g, cap, rfl, cur, hb, hnc, by simpa using hsz, fun j hj => ?_⟩
    have e : (cur.toList.take (ps.length * 1))[j]? = (ps.map Value.string)[j]? := by rw [hx]
    rw [List.getElem?_take_of_lt (by omega), List.getElem?_map, List.getElem?_eq_getElem hj] at e
    rw [← Array.getElem?_toList, e]
    simp [hj]

theorem eqS_any (v1 v2 : Value) (n : Nat) (f : Nat → ByteArray) (hn : n ≤ 100000) (w : World) (h1 : RowV w v1 n f) (h2 : RowV w v2 n f) :
    Calls Try.prog 18 #[v1, v2] w fun e w' => e = .returned (.bool true) ∧ ∃ k, w' = w.drewN k := by
  rcases h1 with ⟨rfl, a1, c1, rfl⟩ | ⟨g1, c1, rfl, h1⟩
  · rcases h2 with ⟨_, a2, c2, rfl⟩ | ⟨g2, c2, rfl, h2⟩
    · exact eqS_empty _ _ _ _ w
    · exact eqS_empty _ _ _ _ w
  · rcases h2 with ⟨rfl, a2, c2, rfl⟩ | ⟨g2, c2, rfl, h2⟩
    · exact eqS_empty _ _ _ _ w
    · exact eqS_rows g1 g2 c1 c2 n f (by omega) w h1 h2

theorem markS_any (v : Value) (n : Nat) (f : Nat → ByteArray) (hn : n ≤ 100000) (k0 : Nat) (hk0 : 1 ≤ k0) (hk1 : k0 ≤ 100000) (w : World) (h : RowV w v n f) :
    Calls Try.prog 19 #[v, .int .i64 k0] w fun e w' => e = .returned (.int .i64 ((k0 : Int) + (n : Int))) ∧ RowV w' v n (fun j => mt (k0 + j)) ∧ w.grownBy w' v.ownBlock := by
  rcases h with ⟨rfl, a, c, rfl⟩ | ⟨g, c, rfl, h⟩
  · refine (markS_empty a c k0 w).mono fun e w' ⟨he, hw⟩ => ?_
    subst hw
    exact ⟨by rw [he]; simp, .inl ⟨rfl, _, _, rfl⟩, ⟨rfl, rfl, rfl, Nat.le_refl _, fun _ _ _ => rfl⟩⟩
  · exact (markS_rows g c n k0 f hn hk0 hk1 w h).mono fun e w' ⟨he, hr, hg⟩ => ⟨he, .inr ⟨g, c, rfl, hr⟩, hg⟩

theorem heldS_any (v : Value) (n : Nat) (hn : n ≤ 100000) (k0 : Nat) (hk0 : 1 ≤ k0) (hk1 : k0 ≤ 100000) (w : World) (h : RowV w v n (fun j => mt (k0 + j))) :
    Calls Try.prog 20 #[v, .int .i64 k0] w fun e w' => e = .returned (.int .i64 ((k0 : Int) + (n : Int))) ∧ Below w.heap.size w w' := by
  rcases h with ⟨rfl, a, c, rfl⟩ | ⟨g, c, rfl, h⟩
  · refine (heldS_empty a c k0 w).mono fun e w' ⟨he, hw⟩ => ?_
    subst hw
    exact ⟨by rw [he]; simp, Below.refl _ _⟩
  · exact heldS_rows g c n k0 hn hk0 hk1 w h

theorem RowV.kept {W W' : World} {v : Value} {n : Nat} {f : Nat → ByteArray} {row : Option Nat} (h : RowV W v n f) (hg : W.grownBy W' row) (hne : ∀ j, v.ownBlock = some j → some j ≠ row) : RowV W' v n f := by
  rcases h with ⟨rfl, a, c, rfl⟩ | ⟨g, c, rfl, h⟩
  · exact .inl ⟨rfl, _, _, rfl⟩
  · exact .inr ⟨g, c, rfl, h.block (hg.block g h.lt (hne g rfl))⟩
theorem RowV.below {W W' : World} {v : Value} {n : Nat} {f : Nat → ByteArray} (h : RowV W v n f) (hb : Below W.heap.size W W') : RowV W' v n f := by
  rcases h with ⟨rfl, a, c, rfl⟩ | ⟨g, c, rfl, h⟩
  · exact .inl ⟨rfl, _, _, rfl⟩
  · exact .inr ⟨g, c, rfl, h.block (hb.block g h.lt)⟩
end Go.Proofs.Ytpmaaflpknjbmaa.C
