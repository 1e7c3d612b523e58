/-
  Slices of pairs of ints: eqIntA2S, markIntA2S, heldIntA2S. No statement of the seat by itself.
-/
import Derived.Test.YtpmaaflpknjbmaaCHeldC
namespace Go.Proofs.Ytpmaaflpknjbmaa.C
open Go.RowKit

/-- The cells of a list of pairs. -/
def flatP : List (Int × Int) → List Value
  | [] => []
  | c :: l => [.int .i64 c.1, .int .i64 c.2] ++ flatP l
theorem flatP_len : ∀ l : List (Int × Int), (flatP l).length = l.length * 2
  | [] => rfl
  | c :: l => by
    rw [flatP, List.length_append, flatP_len l]
    simp
    omega
theorem flatP_snoc : ∀ (l : List (Int × Int)) (c : Int × Int), flatP (l ++ [c]) = flatP l ++ [.int .i64 c.1, .int .i64 c.2]
  | [], c => rfl
  | d :: l, c => by rw [List.cons_append, flatP, flatP, flatP_snoc l c, List.append_assoc]
theorem flatP_at : ∀ (l : List (Int × Int)) (j : Nat) (hj : j < l.length), (flatP l)[j * 2]? = some (.int .i64 l[j].1) ∧ (flatP l)[j * 2 + 1]? = some (.int .i64 l[j].2)
  | c :: l, 0, _ => ⟨rfl, rfl⟩
  | c :: l, j + 1, hj => by
    have ih := flatP_at l j (by simpa using hj)
    rw [flatP, List.getElem?_append_right (by simp; omega), List.getElem?_append_right (by simp; omega)]
    simp only [List.length_cons, List.length_nil]
    rw [show (j + 1) * 2 - (0 + 1 + 1) = j * 2 by omega, show (j + 1) * 2 + 1 - (0 + 1 + 1) = j * 2 + 1 by omega]
    simpa using ih
/-- The two cells of a pair. -/
def PCells (w : World) (g o : Nat) (c : Int × Int) : Prop := w.cell? ⟨g, o, none⟩ = some (.int .i64 c.1) ∧ w.cell? ⟨g, o + 1, none⟩ = some (.int .i64 c.2)
/-- A slice of the call's own that holds these pairs. -/
def PRow (W : World) (base : Nat) (v : Value) (l : List (Int × Int)) : Prop := W.ownsRow base 50 2 v l.length (flatP l)
/-- A slice that reads as n pairs. -/
def PV (W : World) (v : Value) (n : Nat) (f : Nat → Int × Int) : Prop := (n = 0 ∧ ∃ a c, v = .slice a 0 c) ∨ ∃ g cap cur, v = .slice (some ⟨g, 0, none⟩) n cap ∧ W.heap[g]? = some (.cells cur 50 (0, 0)) ∧ n * 2 ≤ cur.size ∧ ∀ j, j < n → PCells W g (j * 2) (f j)
theorem pv_of_row {W : World} {base : Nat} {v : Value} {l : List (Int × Int)} (h : PRow W base v l) : PV W v l.length (fun j => l[j]!) := by
  rcases h.2 with ⟨rfl, hn⟩ | ⟨g, cap, cur, rfl, hg, hb, hnc, hcm, hsz, hx⟩
  · exact .inl ⟨hn, _, _, rfl⟩
  · refine .inr ⟨g, cap, cur, rfl, hb, by omega, fun j hj => ?_⟩
    have key : ∀ i v, (flatP l)[i]? = some v → i < l.length * 2 → W.cell? ⟨g, i, none⟩ = some v := fun i v h hi => by
      rw [← hx, List.getElem?_take, if_pos hi, Array.getElem?_toList] at h
      simp [World.cell?, hb, h]
    have hp := flatP_at l j hj
    show PCells W g (j * 2) l[j]!
    rw [getElem!_pos l j hj]
    exact ⟨key _ _ hp.1 (by omega), key _ _ hp.2 (by omega)⟩
theorem PCells.block {W W' : World} {g o : Nat} {c : Int × Int} (h : PCells W g o c) (he : W'.heap[g]? = W.heap[g]?) : PCells W' g o c := by
  have k : ∀ i, W'.cell? ⟨g, i, none⟩ = W.cell? ⟨g, i, none⟩ := fun i => World.cell?_of_block (a := ⟨g, i, none⟩) he
  exact ⟨(k _).trans h.1, (k _).trans h.2⟩
theorem PV.kept {W W' : World} {v : Value} {n : Nat} {f : Nat → Int × Int} {row : Option Nat} (h : PV W v n f) (hg : W.grownBy W' row) (hne : ∀ j, v.ownBlock = some j → some j ≠ row) : PV W' v n f := by
  rcases h with ⟨rfl, a, c, rfl⟩ | ⟨g, cap, cur, rfl, hb, hs, hc⟩
  · exact .inl ⟨rfl, _, _, rfl⟩
  · have he := hg.block g (Array.getElem?_eq_some_iff.1 hb).1 (hne g rfl)
    exact .inr ⟨g, cap, cur, rfl, he.trans hb, hs, fun j hj => (hc j hj).block he⟩
theorem PV.below {W W' : World} {v : Value} {n : Nat} {f : Nat → Int × Int} (h : PV W v n f) (hb : Below W.heap.size W W') : PV W' v n f := h.kept (grown_of_below hb none) (fun _ _ => by simp)
theorem PV.length {W : World} {v : Value} {n : Nat} {f : Nat → Int × Int} (h : PV W v n f) : ∃ a c, v = .slice a n c := by
  rcases h with ⟨rfl, a, c, rfl⟩ | ⟨g, cap, cur, rfl, _⟩
  · exact ⟨_, _, rfl⟩
  · exact ⟨_, _, rfl⟩

set_option maxRecDepth 100000 in
set_option maxHeartbeats 1000000 in
theorem eqP_one (a b : Int) (w : World) : Calls Try.prog 32 #[.agg #[.int .i64 a, .int .i64 b], .agg #[.int .i64 a, .int .i64 b]] w fun e w' => e = .returned (.bool true) ∧ Below w.heap.size w w' := by
  have B0 := Lib.hid (((Below.refl _ w).alloc (Nat.le_refl _) (.cells #[.int .i64 a, .int .i64 b] 50)).alloc (by simp) (.cells #[.int .i64 a, .int .i64 b] 50))
  have c0 : ((w.alloc (.cells #[.int .i64 a, .int .i64 b] 50)).alloc (.cells #[.int .i64 a, .int .i64 b] 50)).cell? ⟨w.heap.size, 0, none⟩ = some (.int .i64 a) := by simp
  have c1 : ((w.alloc (.cells #[.int .i64 a, .int .i64 b] 50)).alloc (.cells #[.int .i64 a, .int .i64 b] 50)).cell? ⟨w.heap.size, 1, none⟩ = some (.int .i64 b) := by simp
  have c2 : ((w.alloc (.cells #[.int .i64 a, .int .i64 b] 50)).alloc (.cells #[.int .i64 a, .int .i64 b] 50)).cell? ⟨w.heap.size + 1, 0, none⟩ = some (.int .i64 a) := by simp
  have c3 : ((w.alloc (.cells #[.int .i64 a, .int .i64 b] 50)).alloc (.cells #[.int .i64 a, .int .i64 b] 50)).cell? ⟨w.heap.size + 1, 1, none⟩ = some (.int .i64 b) := by simp
  have C := Lib.hid (And.intro c0 (And.intro c1 (And.intro c2 c3)))
  clear c0 c1 c2 c3
  go_enter Try.func32, Try.ntmps32
  go_wp2_with fail
  generalize (w.alloc (.cells #[.int .i64 a, .int .i64 b] 50)).alloc (.cells #[.int .i64 a, .int .i64 b] 50) = W at *
  go_loopw [5] (fun i wr => ∃ k q : Nat, k ≤ 2 ∧ i = .int .i64 k ∧ wr = W.drewN q) (fun i _ => 2 - (intOf i).toNat)
  case atStart => exact ⟨0, 0, by omega, rfl, rfl⟩
  case round =>
    obtain ⟨k, q, hk, rfl, rfl⟩ := hrel
    obtain ⟨c0, c1, c2, c3⟩ := C.out
    match k, hk with
    | 0, _ =>
      go_wp2_with fail
      go_quiet (fail)
      go_wp2_with fail
      refine ⟨⟨1, q + nq, by omega, rfl, rfl⟩, by simp [intOf]⟩
    | 1, _ =>
      go_wp2_with fail
      go_quiet (fail)
      go_wp2_with fail
      refine ⟨⟨2, q + nq, by omega, rfl, rfl⟩, by simp [intOf]⟩
    | 2, _ =>
      go_wp2_with fail
      go_ret
      exact ⟨rfl, below_drewN B0.out _⟩

set_option maxRecDepth 100000 in
set_option maxHeartbeats 1000000 in
theorem eqP_any (v1 v2 : Value) (n : Nat) (f : Nat → Int × Int) (hn : n ≤ 1048576) (w : World) (h1 : PV w v1 n f) (h2 : PV w v2 n f) :
    Calls Try.prog 11 #[v1, v2] w fun e w' => e = .returned (.bool true) ∧ Below w.heap.size w w' := by
  by_cases h0 : n = 0
  · subst h0
    obtain ⟨a1, c1, rfl⟩ := h1.length
    obtain ⟨a2, c2, rfl⟩ := h2.length
    clear h1 h2
    go_enter Try.func11, Try.ntmps11
    go_wp2_with fail
    go_loop [5] (fun i => i = .int .i64 0) (fun _ => 0)
    case atStart => rfl
    case round =>
      obtain rfl := hrel
      go_wp2_with fail
      go_ret
      exact ⟨rfl, Below.refl _ _⟩
  · rcases h1 with ⟨h, _⟩ | ⟨g1, c1, cur1, rfl, hb1, hs1, hc1⟩
    · exact absurd h h0
    rcases h2 with ⟨h, _⟩ | ⟨g2, c2, cur2, rfl, hb2, hs2, hc2⟩
    · exact absurd h h0
    have l1 := (Array.getElem?_eq_some_iff.1 hb1).1
    have l2 := (Array.getElem?_eq_some_iff.1 hb2).1
    have H1 : Hid (∀ W, Below w.heap.size w W → ∀ j, j < n → PCells W g1 (j * 2) (f j)) := Lib.hid fun W hW j hj => (hc1 j hj).block (hW.block g1 l1)
    have H2 : Hid (∀ W, Below w.heap.size w W → ∀ j, j < n → PCells W g2 (j * 2) (f j)) := Lib.hid fun W hW j hj => (hc2 j hj).block (hW.block g2 l2)
    clear hc1 hc2 hb1 hb2 hs1 hs2 h0
    go_enter Try.func11, Try.ntmps11
    go_wp2_with fail
    go_loopw [5] (fun i wr => ∃ k : Nat, k ≤ n ∧ i = .int .i64 k ∧ Hid (Below w.heap.size w wr)) (fun i _ => n - (intOf i).toNat)
    case atStart => exact ⟨0, Nat.zero_le _, rfl, Lib.hid (Below.refl _ _)⟩
    case round =>
      obtain ⟨k, hk, rfl, HB⟩ := hrel
      by_cases hlt : k < n
      · obtain ⟨a0, a1⟩ := H1.out _ HB.out k hlt
        obtain ⟨b0, b1⟩ := H2.out _ HB.out k hlt
        generalize f k = c at *
        have HZ := Lib.hid (fun W => eqP_one c.1 c.2 W)
        obtain ⟨x, y⟩ := c
        simp only at *
        have hki : (k : Int) < (n : Int) := by omega
        go_wp2_with fail
        go_still_tail 8, (by kernel_rfl)
        change wpList _ _ _ _ _ wr.drew
        have hbd : Below w.heap.size w wr.drew := below_drew1 HB.out
        have BD := Lib.hid hbd
        clear hbd
        generalize wr.drew = w2 at *
        go_wp2_with fail
        refine (HZ.out _).mono ?_
        rintro e w3 ⟨rfl, hb3⟩
        have B3 : Hid (Below w.heap.size w w3) := Lib.hid (BD.out.trans (hb3.mono BD.out.size))
        clear hb3
        go_wp2_with fail
        refine ⟨⟨k + 1, by omega, by go_num, B3⟩, by simp [intOf]; omega⟩
      · obtain rfl : k = n := by omega
        go_wp2_with fail
        go_ret
        exact ⟨rfl, HB.out⟩
end Go.Proofs.Ytpmaaflpknjbmaa.C
