/-
  What slices.Concat returns of two lists of ints. No statement of the seat by itself.
-/
import Derived.Test.YthpiahellpnccaaTurnS
import Derived.Test.YthpiahellpnccaaGrow
namespace Go.Proofs.Ythpiahellpnccaa
open Go.RowKit

theorem grow_nil (n : Nat) (h0 : 0 < n) (hn : n ≤ 1000) (w : World) :
    Calls Try.prog 67 #[.slice none 0 0, .int .i64 (n : Int)] w fun e w' => ∃ c, e = .returned (.slice (some ⟨w.heap.size, 0, none⟩) 0 c) ∧ w'.ownsRow w.heap.size 3 1 (.slice (some ⟨w.heap.size, 0, none⟩) 0 c) 0 [] ∧ Below w.heap.size w w' := by
  obtain ⟨i0, hi, hz0, hz1, hz2⟩ := info_is info3
  have h := Any8.slices_Grow_grow (P := Try.prog) Try.laysGrow i0 (.int .i64 0) hi hz0 (by omega) none 0 0 n [] w (Nat.le_refl _) (by omega) (by rw [hz2]; omega) (by omega) (by simp) (fun _ => rfl) (fun a ha => by cases ha)
  refine Calls.mono (show Calls Try.prog 67 _ _ _ from h) ?_
  rintro e w' ⟨rfl, rfl⟩
  have hcm : grownCap w (0 + n) 0 3 ≤ maxLen := grownCap_le_maxLen w (0 + n) 0 3 (by unfold maxLen; omega)
  have hge := grownCap_ge w (0 + n) 0 3
  refine ⟨_, rfl, ?_, (below_drewN (Below.refl _ w) 1).alloc (Nat.le_refl _) _⟩
  refine World.ownsRow_made w.drew _ _ (Nat.le_refl _) hcm ?_
  show _ = grownCap w (0 + n) 0 3 * 1
  simp only [Array.size_append, List.size_toArray, size_zeroCells, Value.cells]
  have hge2 : n ≤ grownCap w n 0 3 := by simpa using hge
  have hge3 : n ≤ grownCap w n 0 (Go.Proofs.Try.laysGrow_ren.t 25) := hge2
  have he : grownCap w (0 + n) 0 3 = grownCap w n 0 (Go.Proofs.Try.laysGrow_ren.t 25) := by rw [Nat.zero_add]; rfl
  rw [he]
  simp
  omega

/-- A list of the call's own was answered, and nothing older turned. -/
def OneP (w : World) (n : Nat) (xs : List Value) (e : Ending) (w' : World) : Prop := ∃ u, e = .returned u ∧ w'.ownsRow w.heap.size 3 1 u n xs ∧ Below w.heap.size w w'
/-- How far the lengths of two lists are added up. -/
def SumR (k1 k2 j : Nat) (s : Value) : Prop := j = 0 ∧ s = .int .i64 0 ∨ j = 1 ∧ s = .int .i64 (k1 : Int) ∨ j = 2 ∧ s = .int .i64 ((k1 : Int) + (k2 : Int))
/-- How far two lists are joined. -/
def JoinR (w W : World) (k1 k2 : Nat) (X Y : List Value) (j : Nat) (o : Value) : Prop := (j = 0 ∧ W.ownsRow w.heap.size 3 1 o 0 [] ∨ j = 1 ∧ W.ownsRow w.heap.size 3 1 o k1 X ∨ j = 2 ∧ W.ownsRow w.heap.size 3 1 o (k1 + k2) (X ++ Y)) ∧ Below w.heap.size w W

set_option maxRecDepth 100000 in
set_option maxHeartbeats 2000000 in
theorem concat_two (q g1 o1 k1 c1 g2 o2 k2 c2 : Nat) (X Y : List Value) (hX : X.length = k1) (hY : Y.length = k2) (h0 : 0 < k1) (hk : k1 + k2 ≤ 1000) (w : World) (hq : q < w.heap.size)
    (hq0 : w.cell? ⟨q, 0, none⟩ = some (.slice (some ⟨g1, o1, none⟩) k1 c1)) (hq1 : w.cell? ⟨q, 1, none⟩ = some (.slice (some ⟨g2, o2, none⟩) k2 c2))
    (sX : ∀ W, Below w.heap.size w W → ∀ j u, X[j]? = some u → W.cell? ((⟨g1, o1, none⟩ : Addr).add j) = some u) (sY : ∀ W, Below w.heap.size w W → ∀ j u, Y[j]? = some u → W.cell? ((⟨g2, o2, none⟩ : Addr).add j) = some u)
    (oX : ∀ u ∈ X, u.oneCell' = true) (oY : ∀ u ∈ Y, u.oneCell' = true) :
    Calls Try.prog 58 #[.slice (some ⟨q, 0, none⟩) 2 2] w (OneP w (k1 + k2) (X ++ Y)) := by
  obtain ⟨f3, hi3, hz0, hz1, hz2⟩ := info_is info3
  have HX := Lib.hid hX
  have HY := Lib.hid hY
  have SX := Lib.hid sX
  have SY := Lib.hid sY
  have OX := Lib.hid oX
  have OY := Lib.hid oY
  have Q0 := Lib.hid hq0
  have Q1 := Lib.hid hq1
  clear hX hY sX sY oX oY
  go_enter Try.func58, Try.ntmps58
  go_wp2_with fail
  go_loop [3, 11] (fun s i => ∃ j : Nat, j ≤ 2 ∧ i = .int .i64 j ∧ SumR k1 k2 j s) (fun _ i => 2 - (intOf i).toNat)
  case atStart => exact ⟨0, by omega, rfl, .inl ⟨rfl, rfl⟩⟩
  case round =>
    obtain ⟨j, hj, rfl, hS⟩ := hrel
    rcases hS with ⟨rfl, rfl⟩ | ⟨rfl, rfl⟩ | ⟨rfl, rfl⟩
    · have q0 := Q0.out
      clear hq0 hq1
      go_wp2_with fail
      exact ⟨⟨1, by omega, rfl, .inr (.inl ⟨rfl, rfl⟩)⟩, by simp [intOf]⟩
    · have q1 := Q1.out
      clear hq0 hq1
      go_wp2_with fail
      exact ⟨⟨2, by omega, rfl, .inr (.inr ⟨rfl, rfl⟩)⟩, by simp [intOf]⟩
    · clear hq0 hq1
      have HG := Lib.hid (grow_nil (k1 + k2) (by omega) (by omega) w)
      rw [show ((k1 + k2 : Nat) : Int) = (k1 : Int) + (k2 : Int) by omega] at HG
      go_wp2_with fail
      refine HG.out.mono ?_
      rintro e w1 ⟨c, rfl, ho1, hb1⟩
      have J1 : Hid (JoinR w w1 k1 k2 X Y 0 (.slice (some ⟨w.heap.size, 0, none⟩) 0 c)) := Lib.hid ⟨.inl ⟨rfl, ho1⟩, hb1⟩
      clear ho1 hb1
      go_wp2_with fail
      go_loopw [6, 27] (fun o i wr => ∃ j : Nat, j ≤ 2 ∧ i = .int .i64 j ∧ Hid (JoinR w wr k1 k2 X Y j o)) (fun _ i _ => 2 - (intOf i).toNat)
      case atStart => exact ⟨0, by omega, rfl, J1⟩
      case round =>
        obtain ⟨j, hj, rfl, HJ⟩ := hrel
        obtain ⟨hjs, hB⟩ := HJ.out
        have q0 := (hB.cell (p := ⟨q, 0, none⟩) hq).trans Q0.out
        have q1 := (hB.cell (p := ⟨q, 1, none⟩) hq).trans Q1.out
        have hsz := hB.size
        have BB := Lib.hid hB
        clear hB
        rcases hjs with ⟨rfl, ho⟩ | ⟨rfl, ho⟩ | ⟨rfl, ho⟩
        · go_wp2_with (at_builtin; refine wpList_append_own _ rfl _ _ 24 rfl w.heap.size 3 f3 (.int .i64 0) 1 8 Try.underlying24 hi3 hz0 hz1 hz2 rfl (by decide) _ _ _ rfl ho ⟨g1, o1, none⟩ k1 c1 X rfl (by rw [HX.out]; omega) (SX.out _ BB.out) OX.out (by unfold maxLen; omega) (by omega) hsz ?_; intro v' w4 hown' hgrow hnil)
          have HN : Hid (JoinR w w4 k1 k2 X Y 1 v') := Lib.hid ⟨.inr (.inl ⟨rfl, by simpa using hown'⟩), BB.out.grown hgrow hsz (row_base ho)⟩
          clear hown' hgrow hnil ho
          exact ⟨⟨1, by omega, rfl, HN⟩, by simp [intOf]⟩
        · go_wp2_with (at_builtin; refine wpList_append_own _ rfl _ _ 24 rfl w.heap.size 3 f3 (.int .i64 0) 1 8 Try.underlying24 hi3 hz0 hz1 hz2 rfl (by decide) _ _ _ rfl ho ⟨g2, o2, none⟩ k2 c2 Y rfl (by rw [HY.out]; omega) (SY.out _ BB.out) OY.out (by unfold maxLen; omega) (by omega) hsz ?_; intro v' w4 hown' hgrow hnil)
          have HN : Hid (JoinR w w4 k1 k2 X Y 2 v') := Lib.hid ⟨.inr (.inr ⟨rfl, hown'⟩), BB.out.grown hgrow hsz (row_base ho)⟩
          clear hown' hgrow hnil ho
          exact ⟨⟨2, by omega, rfl, HN⟩, by simp [intOf]⟩
        · have HO := Lib.hid ho
          clear ho
          go_wp2_with fail
          go_ret
          exact ⟨_, rfl, HO.out, BB.out⟩
end Go.Proofs.Ythpiahellpnccaa
