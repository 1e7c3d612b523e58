/-
  Slices of containers that a call hands back: eqContainerS, markContainerS, heldContainerS at them. No statement of the seat by itself.
-/
import Derived.Test.YtpmaaflpknjbmaaCEqC
import Derived.Test.YtpmaaflpknjbmaaCMarks
import Derived.Test.YtpmaaflpknjbmaaCListI
namespace Go.Proofs.Ytpmaaflpknjbmaa.C
open Go.RowKit

/-- The cells of a list of containers. -/
def flatC : List Cont → List Value
  | [] => []
  | c :: l => encC c ++ flatC l
theorem flatC_len : ∀ l : List Cont, (flatC l).length = l.length * 5
  | [] => rfl
  | c :: l => by
    rw [flatC, List.length_append, flatC_len l]
    simp [encC]
    omega
theorem flatC_app : ∀ (l m : List Cont), flatC (l ++ m) = flatC l ++ flatC m
  | [], m => rfl
  | c :: l, m => by rw [List.cons_append, flatC, flatC, flatC_app l m, List.append_assoc]
theorem flatC_one (c : Cont) : flatC [c] = encC c := by simp [flatC]
theorem flatC_snoc (l : List Cont) (c : Cont) : flatC (l ++ [c]) = flatC l ++ encC c := by rw [flatC_app, flatC_one]
theorem flatC_at : ∀ (l : List Cont) (j : Nat) (hj : j < l.length) (i : Nat) (v : Value), (encC l[j])[i]? = some v → (flatC l)[j * 5 + i]? = some v
  | c :: l, 0, _, i, v, h => by
    have hi : i < (encC c).length := by
      rcases Nat.lt_or_ge i (encC c).length with h1 | h1
      · exact h1
      · rw [List.getElem?_eq_none (by simpa using h1)] at h; cases h
    rw [flatC, List.getElem?_append_left (by omega)]
    simpa using h
  | c :: l, j + 1, hj, i, v, h => by
    have hl : (encC c).length = 5 := rfl
    rw [flatC, List.getElem?_append_right (by omega), hl, show (j + 1) * 5 + i - 5 = j * 5 + i by omega]
    exact flatC_at l j (by simpa using hj) i v (by simpa using h)

/-- A slice of the call's own that holds these containers. -/
def CRow (W : World) (base : Nat) (v : Value) (l : List Cont) : Prop := W.ownsRow base 49 5 v l.length (flatC l)
/-- A slice that reads as n containers: nil or empty, or at the head of a block of containers. -/
def CV (W : World) (v : Value) (n : Nat) (f : Nat → Cont) : Prop := (n = 0 ∧ ∃ a c, v = .slice a 0 c) ∨ ∃ g cap cur, v = .slice (some ⟨g, 0, none⟩) n cap ∧ W.heap[g]? = some (.cells cur 49 (0, 0)) ∧ n * 5 ≤ cur.size ∧ ∀ j, j < n → CCells W g (j * 5) (f j)
theorem cv_of_row {W : World} {base : Nat} {v : Value} {l : List Cont} (h : CRow W base v l) : CV W v l.length (fun j => l[j]!) := by
  rcases h.2 with ⟨rfl, hn⟩ | ⟨g, cap, cur, rfl, hg, hb, hnc, hcm, hsz, hx⟩
  · exact .inl ⟨hn, _, _, rfl⟩
  · refine .inr ⟨g, cap, cur, rfl, hb, by omega, fun j hj => ?_⟩
    have key : ∀ i v, (encC l[j]!)[i]? = some v → i < 5 → W.cell? ⟨g, j * 5 + i, none⟩ = some v := fun i v h hi => by
      rw [getElem!_pos l j hj] at h
      have h2 := flatC_at l j hj i v h
      rw [← hx, List.getElem?_take, if_pos (by omega), Array.getElem?_toList] at h2
      simp [World.cell?, hb, h2]
    show CCells W g (j * 5) l[j]!
    generalize l[j]! = c at key ⊢
    exact ⟨key 0 _ rfl (by decide), key 1 _ rfl (by decide), key 2 _ rfl (by decide), key 3 _ rfl (by decide), key 4 _ rfl (by decide)⟩
theorem CV.lt {W : World} {v : Value} {n : Nat} {f : Nat → Cont} (h : CV W v n f) (hn : 0 < n) : ∃ g cap, v = .slice (some ⟨g, 0, none⟩) n cap ∧ g < W.heap.size := by
  rcases h with ⟨rfl, _⟩ | ⟨g, cap, cur, rfl, hb, _⟩
  · omega
  · exact ⟨g, cap, rfl, (Array.getElem?_eq_some_iff.1 hb).1⟩
theorem CCells.block {W W' : World} {g o : Nat} {c : Cont} (h : CCells W g o c) (he : W'.heap[g]? = W.heap[g]?) : CCells W' g o c := by
  have k : ∀ i, W'.cell? ⟨g, i, none⟩ = W.cell? ⟨g, i, none⟩ := fun i => World.cell?_of_block (a := ⟨g, i, none⟩) he
  obtain ⟨h0, h1, h2, h3, h4⟩ := h
  exact ⟨(k _).trans h0, (k _).trans h1, (k _).trans h2, (k _).trans h3, (k _).trans h4⟩
theorem CV.kept {W W' : World} {v : Value} {n : Nat} {f : Nat → Cont} {row : Option Nat} (h : CV W v n f) (hg : W.grownBy W' row) (hne : ∀ j, v.ownBlock = some j → some j ≠ row) : CV W' v n f := by
  rcases h with ⟨rfl, a, c, rfl⟩ | ⟨g, cap, cur, rfl, hb, hs, hc⟩
  · exact .inl ⟨rfl, _, _, rfl⟩
  · have he := hg.block g (Array.getElem?_eq_some_iff.1 hb).1 (hne g rfl)
    exact .inr ⟨g, cap, cur, rfl, he.trans hb, hs, fun j hj => (hc j hj).block he⟩
theorem CV.below {W W' : World} {v : Value} {n : Nat} {f : Nat → Cont} (h : CV W v n f) (hb : Below W.heap.size W W') : CV W' v n f := h.kept (grown_of_below hb none) (fun _ _ => by simp)
theorem CV.at {W : World} {g cap n : Nat} {f : Nat → Cont} (h : CV W (.slice (some ⟨g, 0, none⟩) n cap) n f) (hn : 0 < n) : CAt W g 0 n f := by
  rcases h with ⟨rfl, _⟩ | ⟨g', cap', cur, e, hb, hs, hc⟩
  · omega
  · cases e
    exact ⟨(Array.getElem?_eq_some_iff.1 hb).1, fun j hj => by rw [Nat.zero_add]; exact hc j hj⟩
theorem CV.length {W : World} {v : Value} {n : Nat} {f : Nat → Cont} (h : CV W v n f) : ∃ a c, v = .slice a n c := by
  rcases h with ⟨rfl, a, c, rfl⟩ | ⟨g, cap, cur, rfl, _⟩
  · exact ⟨_, _, rfl⟩
  · exact ⟨_, _, rfl⟩
theorem cv_of_copy {W : World} {n : Nat} {f : Nat → Cont} {g : Nat} (h1 : CAt W g 0 n f) (h2 : ∃ cur : Array Value, W.heap[g]? = some (.cells cur 49 (0, 0)) ∧ cur.size = n * 5) : CV W (.slice (some ⟨g, 0, none⟩) n n) n f := by
  obtain ⟨cur, hb, hs⟩ := h2
  exact .inr ⟨g, n, cur, rfl, hb, by omega, fun j hj => by have := h1.2 j hj; rwa [Nat.zero_add] at this⟩

set_option maxHeartbeats 400000 in
theorem eqC_empty (a1 a2 : Option Addr) (c1 c2 : Nat) (w : World) :
    Calls Try.prog 12 #[.slice a1 0 c1, .slice a2 0 c2] w fun e w' => e = .returned (.bool true) ∧ Below w.heap.size w w' := by
  go_enter Try.func12, Try.ntmps12
  go_wp2_with fail
  go_loop [5] (fun i => i = .int .i64 0) (fun _ => 0)
  case atStart => rfl
  case round =>
    obtain rfl := hrel
    go_wp2_with fail
    go_ret
    exact ⟨rfl, Below.refl _ _⟩
theorem eqC_any (v1 v2 : Value) (n : Nat) (f : Nat → Cont) (hn : n ≤ 1048576) (w : World) (h1 : CV w v1 n f) (h2 : CV w v2 n f) :
    Calls Try.prog 12 #[v1, v2] w fun e w' => e = .returned (.bool true) ∧ Below w.heap.size w w' := by
  by_cases h0 : n = 0
  · subst h0
    obtain ⟨a1, c1, rfl⟩ := h1.length
    obtain ⟨a2, c2, rfl⟩ := h2.length
    exact eqC_empty _ _ _ _ w
  · obtain ⟨g1, c1, rfl, _⟩ := h1.lt (by omega)
    obtain ⟨g2, c2, rfl, _⟩ := h2.lt (by omega)
    exact eqC_same g1 g2 c1 c2 n f hn w (h1.at (by omega)) (h2.at (by omega))

/-- What is written into container j. -/
def mkC (k0 j : Nat) : Cont := ⟨mt (k0 + 5 * j), ((k0 + 5 * j : Nat) : Int) + 1, ((k0 + 5 * j : Nat) : Int) + 2, ((k0 + 5 * j : Nat) : Int) + 3, ((k0 + 5 * j : Nat) : Int) + 4⟩
/-- While the containers of block g are marked: the first k are. -/
def MK (w wr : World) (g n k k0 : Nat) : Prop := w.grownBy wr (some g) ∧ ∃ cur : Array Value, wr.heap[g]? = some (.cells cur 49 (0, 0)) ∧ n * 5 ≤ cur.size ∧ ∀ j, j < k → CCells wr g (j * 5) (mkC k0 j)
theorem mk_cell {w wr : World} {g n k k0 : Nat} (h : MK w wr g n k k0) (i : Nat) (hi : i < n * 5) : (∃ x, wr.cell? ⟨g, i, none⟩ = some x) ∧ wr.frozen? ⟨g, i, none⟩ = false := by
  obtain ⟨hB, cur, hb, hsz, _⟩ := h
  exact ⟨⟨cur[i], by simp [World.cell?, hb, show i < cur.size by omega]⟩, by simp [World.frozen?, hb]⟩
theorem mk_set {w wr : World} {g n k k0 : Nat} (h : MK w wr g n k k0) (i : Nat) (hi : k * 5 ≤ i) (v : Value) : MK w (wr.setCell ⟨g, i, none⟩ v) g n k k0 := by
  obtain ⟨hB, cur, hb, hsz, hd⟩ := h
  refine ⟨Lib.grownBy_setB hB i v, cur.setIfInBounds i v, Lib.heap_setCell_same hb _, by simpa using hsz, fun j hj => ?_⟩
  obtain ⟨h0, h1, h2, h3, h4⟩ := hd j hj
  refine ⟨?_, ?_, ?_, ?_, ?_⟩
  all_goals
    rw [World.cell?_setCell_other _ _ _ _ (by first | (simp; done) | (simp; omega))]
    assumption
theorem mk_below {w wr w1 : World} {g n k k0 : Nat} (h : MK w wr g n k k0) (hb : Below wr.heap.size wr w1) : MK w w1 g n k k0 := by
  obtain ⟨hB, cur, hbk, hsz, hd⟩ := h
  have hlt := (Array.getElem?_eq_some_iff.1 hbk).1
  exact ⟨Lib.grownBy_trans hB (grown_of_below hb _), cur, (hb.block _ hlt).trans hbk, hsz, fun j hj => (hd j hj).block (hb.block _ hlt)⟩
theorem mk_step {w wr : World} {g n k k0 : Nat} (h : MK w wr g n k k0) (hk : k < n) : MK w (set5 wr g (k * 5) (mkC k0 k)) g n (k + 1) k0 := by
  have hc := set5_cells (W := wr) (g := g) (o := k * 5) (mkC k0 k) (fun i hi => (mk_cell h (k * 5 + i) (by omega)).1)
  have h5 := mk_set (mk_set (mk_set (mk_set (mk_set h (k * 5) (by omega) (.string (mkC k0 k).id)) (k * 5 + 1) (by omega) (.int .i64 (mkC k0 k).size)) (k * 5 + 2) (by omega) (.int .i64 (mkC k0 k).weight)) (k * 5 + 3) (by omega) (.int .i64 (mkC k0 k).cargo)) (k * 5 + 4) (by omega) (.int .i64 (mkC k0 k).port)
  obtain ⟨hB, cur, hb, hsz, hd⟩ := h5
  refine ⟨hB, cur, hb, hsz, fun j hj => ?_⟩
  by_cases e : j = k
  · subst e; exact hc
  · exact hd j (by omega)

set_option maxRecDepth 100000 in
set_option maxHeartbeats 4000000 in
theorem markC_rows (g n c k0 : Nat) (hn : n ≤ 1048576) (hk0 : 1 ≤ k0) (hk1 : k0 ≤ 10000000) (w : World) (h : MK w w g n 0 k0) :
    Calls Try.prog 13 #[.slice (some ⟨g, 0, none⟩) n c, .int .i64 k0] w fun e w' => e = .returned (.int .i64 ((k0 : Int) + 5 * (n : Int))) ∧ MK w w' g n n k0 := by
  have H := Lib.hid h
  clear h
  go_enter Try.func13, Try.ntmps13
  go_wp2_with fail
  go_loopw [1, 5] (fun m i wr => ∃ k : Nat, k ≤ n ∧ i = .int .i64 k ∧ m = .int .i64 ((k0 : Int) + 5 * (k : Int)) ∧ Hid (MK w wr g n k k0)) (fun _ i _ => n - (intOf i).toNat)
  case atStart => exact ⟨0, Nat.zero_le _, rfl, val_i (by omega), H⟩
  case round =>
    obtain ⟨k, hk, rfl, rfl, HR⟩ := hrel
    by_cases hlt : k < n
    · obtain ⟨a, ha⟩ : ∃ a : Int, a = (k0 : Int) + 5 * (k : Int) := ⟨_, rfl⟩
      have KA := Lib.hid ha
      have ha1 : 1 ≤ a := by omega
      have ha2 : a ≤ 99999990 := by omega
      have KM : Hid (mkC k0 k = ⟨mt a.toNat, a + 1, a + 2, a + 3, a + 4⟩) := Lib.hid (by
        unfold mkC
        rw [show a.toNat = k0 + 5 * k by omega, show ((k0 + 5 * k : Nat) : Int) = a by omega])
      rw [← ha]
      clear ha
      go_wp2_with fail
      refine (markText_int a ha1 (by omega) _).mono ?_
      rintro e w1 ⟨rfl, hb1⟩
      have HR1 := Lib.hid (mk_below HR.out hb1)
      clear hb1
      have HS : Hid (MK w (set5 w1 g (k * 5) ⟨mt a.toNat, a + 1, a + 2, a + 3, a + 4⟩) g n (k + 1) k0) := Lib.hid (by rw [← KM.out]; exact mk_step HR1.out hlt)
      generalize mt a.toNat = x0 at *
      obtain ⟨⟨y0, c0⟩, z0⟩ := mk_cell HR1.out (k * 5) (by omega)
      obtain ⟨⟨y1, c1⟩, z1⟩ := mk_cell HR1.out (k * 5 + 1) (by omega)
      obtain ⟨⟨y2, c2⟩, z2⟩ := mk_cell HR1.out (k * 5 + 2) (by omega)
      obtain ⟨⟨y3, c3⟩, z3⟩ := mk_cell HR1.out (k * 5 + 3) (by omega)
      obtain ⟨⟨y4, c4⟩, z4⟩ := mk_cell HR1.out (k * 5 + 4) (by omega)
      go_wp2_with fail
      refine ⟨⟨k + 1, by omega, by go_num, val_i (by have := KA.out; omega), Lib.hid ?_⟩, by simp [intOf]; omega⟩
      have := HS.out
      simp only [set5, Int.add_assoc, Int.reduceAdd] at this ⊢
      exact this
    · obtain rfl : k = n := by omega
      go_wp2_with fail
      go_ret
      exact ⟨rfl, HR.out⟩
set_option maxHeartbeats 400000 in
theorem markC_empty (a : Option Addr) (c : Nat) (k0 : Int) (w : World) :
    Calls Try.prog 13 #[.slice a 0 c, .int .i64 k0] w fun e w' => e = .returned (.int .i64 k0) ∧ w = w' := by
  go_enter Try.func13, Try.ntmps13
  go_wp2
  go_loop [1, 5] (fun m i => i = .int .i64 0 ∧ m = .int .i64 k0) (fun _ _ => 0)
  case atStart => exact ⟨rfl, rfl⟩
  case round =>
    obtain ⟨rfl, rfl⟩ := hrel
    go_wp2
    go_ret
    exact ⟨rfl, rfl⟩
theorem markV_any (v : Value) (n k0 : Nat) (f : Nat → Cont) (hn : n ≤ 1048576) (hk0 : 1 ≤ k0) (hk1 : k0 ≤ 10000000) (w : World) (h : CV w v n f) :
    Calls Try.prog 13 #[v, .int .i64 k0] w fun e w' => e = .returned (.int .i64 ((k0 : Int) + 5 * (n : Int))) ∧ CV w' v n (mkC k0) ∧ w.grownBy w' v.ownBlock := by
  by_cases h0 : n = 0
  · subst h0
    obtain ⟨a, c, rfl⟩ := h.length
    refine (markC_empty a c k0 w).mono fun e w' ⟨he, hw⟩ => ?_
    subst hw
    exact ⟨by rw [he]; simp, .inl ⟨rfl, _, _, rfl⟩, ⟨rfl, rfl, rfl, Nat.le_refl _, fun _ _ _ => rfl⟩⟩
  · rcases h with ⟨h, _⟩ | ⟨g, cap, cur, rfl, hb, hs, hc⟩
    · exact absurd h h0
    · refine (markC_rows g n cap k0 hn hk0 hk1 w ⟨⟨rfl, rfl, rfl, Nat.le_refl _, fun _ _ _ => rfl⟩, cur, hb, hs, fun j hj => by omega⟩).mono fun e w' ⟨he, hG, cur', hb', hs', hc'⟩ => ?_
      exact ⟨he, .inr ⟨g, cap, cur', rfl, hb', hs', hc'⟩, hG⟩
end Go.Proofs.Ytpmaaflpknjbmaa.C
