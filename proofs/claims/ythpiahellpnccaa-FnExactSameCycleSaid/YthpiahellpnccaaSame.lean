/-
  What spec.l1Same and slices.Equal return of two lists of ints, and impl.sameCalls of two rotations. No statement of the seat by itself.
-/
import Derived.Test.YthpiahellpnccaaTurnI
namespace Go.Proofs.Ythpiahellpnccaa
open Go.RowKit

/-- Whether two lists of ints are the same. -/
def eqB (n : Nat) (f : Nat → Int) (m : Nat) (g : Nat → Int) : Bool := decide (n = m) && (List.range n).all fun j => f j == g j
theorem eqB_size {n m : Nat} {f g : Nat → Int} (h : ¬ n = m) : eqB n f m g = false := by simp [eqB, h]
theorem eqB_yes {n : Nat} {f g : Nat → Int} (h : ∀ j, j < n → f j = g j) : eqB n f n g = true := by simpa [eqB] using h
theorem eqB_no {n k : Nat} {f g : Nat → Int} (hk : k < n) (h : ¬ f k = g k) : eqB n f n g = false := by
  cases e : eqB n f n g with
  | false => rfl
  | true =>
    have e2 : ∀ j, j < n → f j = g j := by simpa [eqB] using e
    exact absurd (e2 k hk) h

set_option maxRecDepth 100000 in
set_option maxHeartbeats 2000000 in
theorem l1Same_any (v1 v2 : Value) (n m : Nat) (f g : Nat → Int) (hn : n ≤ maxLen) (_hm : m ≤ maxLen) (w : World) (h1 : ArgI w v1 n f) (h2 : ArgI w v2 m g) :
    Calls Try.prog 59 #[v1, v2] w (BoolP w (eqB n f m g)) := by
  unfold maxLen at hn _hm
  by_cases hnm : n = m
  · subst hnm
    by_cases h0 : 0 < n
    · obtain ⟨g1, o1, c1, rfl, i1⟩ := h1.rows h0
      obtain ⟨g2, o2, c2, rfl, i2⟩ := h2.rows h0
      have I1 := Lib.hid i1
      have I2 := Lib.hid i2
      clear h1 h2 i1 i2
      go_enter Try.func59, Try.ntmps59
      go_wp2_with fail
      go_loopw [5] (fun i wr => ∃ k : Nat, k ≤ n ∧ i = .int .i64 k ∧ Hid (Below w.heap.size w wr) ∧ Hid (∀ j, j < k → f j = g j)) (fun i _ => n - (intOf i).toNat)
      case atStart => exact ⟨0, Nat.zero_le _, rfl, Lib.hid (Below.refl _ _), Lib.hid fun j hj => by omega⟩
      case round =>
        obtain ⟨k, hk, rfl, HB, HK⟩ := hrel
        by_cases hlt : k < n
        · have a1 := (I1.out.below HB.out).2 k hlt
          have a2 := (I2.out.below HB.out).2 k hlt
          have hki : (k : Int) < (n : Int) := by omega
          by_cases he : f k = g k
          · have HK2 : Hid (∀ j, j < k + 1 → f j = g j) := Lib.hid fun j hj => by
              by_cases e : j = k
              · subst e; exact he
              · exact HK.out j (by omega)
            have heb : (f k != g k) = false := by simpa using he
            clear he
            generalize f k = x at *
            generalize g k = y at *
            go_wp2_with fail
            go_quiet (fail)
            have HB2 := Lib.hid (below_drewN HB.out nq)
            go_wp2_with fail
            exact ⟨⟨k + 1, by omega, by go_num, HB2, HK2⟩, by simp [intOf]; omega⟩
          · have HN := Lib.hid (eqB_no (n := n) hlt he)
            have heb : (f k != g k) = true := by simpa using he
            clear he
            generalize f k = x at *
            generalize g k = y at *
            go_wp2_with fail
            go_quiet (fail)
            have HB2 := Lib.hid (below_drewN HB.out nq)
            go_wp2_with fail
            go_ret
            exact ⟨by rw [HN.out]; rfl, HB2.out⟩
        · obtain rfl : k = n := by omega
          have HY := Lib.hid (eqB_yes HK.out)
          go_wp2_with fail
          go_ret
          exact ⟨by rw [HY.out]; rfl, HB.out⟩
    · obtain rfl : n = 0 := by omega
      obtain ⟨a1, c1, rfl⟩ := h1.form
      obtain ⟨a2, c2, rfl⟩ := h2.form
      have HY : Hid (eqB 0 f 0 g = true) := Lib.hid (eqB_yes (fun j hj => by omega))
      clear h1 h2
      go_enter Try.func59, Try.ntmps59
      go_wp2_with fail
      go_loop [5] (fun i => i = .int .i64 0) (fun _ => 0)
      case atStart => rfl
      case round =>
        obtain rfl := hrel
        go_wp2_with fail
        go_ret
        exact ⟨by rw [HY.out]; rfl, Below.refl _ _⟩
  · obtain ⟨a1, c1, rfl⟩ := h1.form
    obtain ⟨a2, c2, rfl⟩ := h2.form
    have HN := Lib.hid (eqB_size (f := f) (g := g) hnm)
    have hne : ((n : Int) != (m : Int)) = true := by simp; omega
    clear h1 h2 hnm
    go_enter Try.func59, Try.ntmps59
    go_wp2_with fail
    go_ret
    exact ⟨by rw [HN.out]; rfl, Below.refl _ _⟩

set_option maxRecDepth 100000 in
set_option maxHeartbeats 2000000 in
theorem equal_any (v1 v2 : Value) (n m : Nat) (f g : Nat → Int) (hn : n ≤ maxLen) (_hm : m ≤ maxLen) (w : World) (h1 : ArgI w v1 n f) (h2 : ArgI w v2 m g) :
    Calls Try.prog 68 #[v1, v2] w (BoolP w (eqB n f m g)) := by
  unfold maxLen at hn _hm
  by_cases hnm : n = m
  · subst hnm
    by_cases h0 : 0 < n
    · obtain ⟨g1, o1, c1, rfl, i1⟩ := h1.rows h0
      obtain ⟨g2, o2, c2, rfl, i2⟩ := h2.rows h0
      have I1 := Lib.hid i1
      have I2 := Lib.hid i2
      clear h1 h2 i1 i2
      go_enter Try.func68, Try.ntmps68
      go_wp2_with fail
      go_loopw [13] (fun i wr => ∃ k : Nat, k ≤ n ∧ i = .int .i64 k ∧ Hid (Below w.heap.size w wr) ∧ Hid (∀ j, j < k → f j = g j)) (fun i _ => n - (intOf i).toNat)
      case atStart => exact ⟨0, Nat.zero_le _, rfl, Lib.hid (Below.refl _ _), Lib.hid fun j hj => by omega⟩
      case round =>
        obtain ⟨k, hk, rfl, HB, HK⟩ := hrel
        by_cases hlt : k < n
        · have a1 := (I1.out.below HB.out).2 k hlt
          have a2 := (I2.out.below HB.out).2 k hlt
          have hki : (k : Int) < (n : Int) := by omega
          by_cases he : f k = g k
          · have HK2 : Hid (∀ j, j < k + 1 → f j = g j) := Lib.hid fun j hj => by
              by_cases e : j = k
              · subst e; exact he
              · exact HK.out j (by omega)
            have heb : (f k != g k) = false := by simpa using he
            clear he
            generalize f k = x at *
            generalize g k = y at *
            go_wp2_with fail
            go_quiet (fail)
            have HB2 := Lib.hid (below_drewN HB.out nq)
            go_wp2_with fail
            exact ⟨⟨k + 1, by omega, by go_num, HB2, HK2⟩, by simp [intOf]; omega⟩
          · have HN := Lib.hid (eqB_no (n := n) hlt he)
            have heb : (f k != g k) = true := by simpa using he
            clear he
            generalize f k = x at *
            generalize g k = y at *
            go_wp2_with fail
            go_quiet (fail)
            have HB2 := Lib.hid (below_drewN HB.out nq)
            go_wp2_with fail
            go_ret
            exact ⟨by rw [HN.out]; rfl, HB2.out⟩
        · obtain rfl : k = n := by omega
          have HY := Lib.hid (eqB_yes HK.out)
          go_wp2_with fail
          go_ret
          exact ⟨by rw [HY.out]; rfl, HB.out⟩
    · obtain rfl : n = 0 := by omega
      obtain ⟨a1, c1, rfl⟩ := h1.form
      obtain ⟨a2, c2, rfl⟩ := h2.form
      have HY : Hid (eqB 0 f 0 g = true) := Lib.hid (eqB_yes (fun j hj => by omega))
      clear h1 h2
      go_enter Try.func68, Try.ntmps68
      go_wp2_with fail
      go_loop [13] (fun i => i = .int .i64 0) (fun _ => 0)
      case atStart => rfl
      case round =>
        obtain rfl := hrel
        go_wp2_with fail
        go_ret
        exact ⟨by rw [HY.out]; rfl, Below.refl _ _⟩
  · obtain ⟨a1, c1, rfl⟩ := h1.form
    obtain ⟨a2, c2, rfl⟩ := h2.form
    have HN := Lib.hid (eqB_size (f := f) (g := g) hnm)
    have hne : ((n : Int) != (m : Int)) = true := by simp; omega
    clear h1 h2 hnm
    go_enter Try.func68, Try.ntmps68
    go_wp2_with fail
    go_ret
    exact ⟨by rw [HN.out]; rfl, Below.refl _ _⟩

/-- Whether two rotations have the same lists. -/
def eqR (n m : Nat) (p d : Nat → Int) (n' m' : Nat) (p' d' : Nat → Int) : Bool := eqB n p n' p' && eqB m d m' d'
set_option maxRecDepth 100000 in
set_option maxHeartbeats 2000000 in
theorem sameCalls_any (v v' : Value) (n m n' m' : Nat) (p d p' d' : Nat → Int) (hn : n ≤ maxLen) (hm : m ≤ maxLen) (hn' : n' ≤ maxLen) (hm' : m' ≤ maxLen) (w : World) (h : ArgR w v n m p d) (h' : ArgR w v' n' m' p' d') :
    Calls Try.prog 60 #[v, v'] w (BoolP w (eqR n m p d n' m' p' d')) := by
  obtain ⟨a1, a2, rfl, x1, x2⟩ := h
  obtain ⟨b1, b2, rfl, y1, y2⟩ := h'
  have X1 := Lib.hid x1
  have X2 := Lib.hid x2
  have Y1 := Lib.hid y1
  have Y2 := Lib.hid y2
  clear x1 x2 y1 y2
  have HB : Hid (Below w.heap.size w ((w.alloc (.cells #[a1, a2] 26)).alloc (.cells #[b1, b2] 26))) := Lib.hid (((Below.refl _ _).alloc (Nat.le_refl _) _).alloc (by simp) _)
  cases he : eqB n p n' p' with
  | false =>
    have HE := Lib.hid he
    have HN : Hid (eqR n m p d n' m' p' d' = false) := Lib.hid (by simp [eqR, he])
    clear he
    go_enter Try.func60, Try.ntmps60
    go_wp2_with fail
    refine (equal_any a1 b1 n n' p p' hn hn' _ (X1.out.below HB.out) (Y1.out.below HB.out)).mono ?_
    rw [HE.out]
    rintro e w1 ⟨rfl, hb1⟩
    have B1 : Hid (Below w.heap.size w w1) := Lib.hid (HB.out.trans (hb1.mono HB.out.size))
    clear hb1
    go_wp2_with fail
    go_ret
    exact ⟨by rw [HN.out]; rfl, B1.out⟩
  | true =>
    have HE := Lib.hid he
    have HN : Hid (eqR n m p d n' m' p' d' = eqB m d m' d') := Lib.hid (by simp [eqR, he])
    clear he
    go_enter Try.func60, Try.ntmps60
    go_wp2_with fail
    refine (equal_any a1 b1 n n' p p' hn hn' _ (X1.out.below HB.out) (Y1.out.below HB.out)).mono ?_
    rw [HE.out]
    rintro e w1 ⟨rfl, hb1⟩
    have c0 : w1.cell? ⟨w.heap.size, 1, none⟩ = some a2 := (hb1.cell (p := ⟨w.heap.size, 1, none⟩) (by simp; omega)).trans (by simp)
    have c1 : w1.cell? ⟨w.heap.size + 1, 1, none⟩ = some b2 := (hb1.cell (p := ⟨w.heap.size + 1, 1, none⟩) (by simp)).trans (by simp)
    have B1 : Hid (Below w.heap.size w w1) := Lib.hid (HB.out.trans (hb1.mono HB.out.size))
    clear hb1
    go_wp2_with fail
    refine (equal_any a2 b2 m m' d d' hm hm' _ (X2.out.below B1.out) (Y2.out.below B1.out)).mono ?_
    rintro e w2 ⟨rfl, hb2⟩
    have B2 : Hid (Below w.heap.size w w2) := Lib.hid (B1.out.trans (hb2.mono B1.out.size))
    clear hb2
    go_wp2_with fail
    go_ret
    exact ⟨by rw [HN.out]; rfl, B2.out⟩
end Go.Proofs.Ythpiahellpnccaa
