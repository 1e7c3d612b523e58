/-
  What impl.SameYard returns. No statement of the seat by itself.
-/
import Derived.Test.YtdnbkfpcmjijlaaSameI
namespace Go.Proofs.Ytdnbkfpcmjijlaa
open Go.RowKit

theorem good_pos {Y : List (List Int)} (h : goodY Y = true) : 0 < Y.length := (goodY_iff.1 h).1
theorem tot_perm {Y Z : List (List Int)} (h : Y.Perm Z) : tot Y = tot Z := by
  unfold tot
  exact (h.map List.length).sum_nat
theorem tot_sort (Y : List (List Int)) : tot (sortY Y) = tot Y := tot_perm (sortY_perm Y)
theorem eqSort_any (v1 v2 : Value) (Y Z : List (List Int)) (hn : Y.length ≤ 1048576) (hm : Z.length ≤ 1048576) (ht1 : tot Y ≤ 1048576) (ht2 : tot Z ≤ 1048576) (w : World) (h1 : YL w v1 (sortY Y)) (h2 : YL w v2 (sortY Z)) :
    Calls Try.prog 65 #[v1, v2, .func (.func 67) #[] #[]] w (BoolP w (decide (Y.Perm Z))) := by
  have h := eqFunc_any v1 v2 (sortY Y) (sortY Z) (by rw [sortY_len]; exact hn) (by rw [sortY_len]; exact hm) (by rw [tot_sort]; exact ht1) (by rw [tot_sort]; exact ht2) w h1 h2
  have e : decide (sortY Y = sortY Z) = decide (Y.Perm Z) := decide_eq_decide.2 sort_same
  rw [e] at h
  exact h
theorem two_alloc (w : World) (o1 o2 : Obj) : Below w.heap.size w ((w.alloc o1).alloc o2) := (below_one w o1).trans ((below_one (w.alloc o1) o2).mono (below_one w o1).size)

set_option maxRecDepth 100000 in
set_option maxHeartbeats 4000000 in
theorem implSame_any (v1 v2 : Value) (Y Z : List (List Int)) (h1 : Y.length ≤ 1048576) (h2 : tot Y ≤ 1048576) (h3 : Z.length ≤ 1048576) (h4 : tot Z ≤ 1048576) (w : World) (hy : YdR w v1 Y) (hz : YdR w v2 Z) :
    Calls Try.prog 44 #[v1, v2] w (RetP w (.tuple #[.bool (sameR Y Z), .bool (okSm Y Z)])) := by
  obtain ⟨y0, rfl, hy⟩ := hy
  obtain ⟨z0, rfl, hz⟩ := hz
  have B0 := Lib.hid (two_alloc w (.cells #[y0] 26) (.cells #[z0] 26))
  have BY := Lib.hid ((Box1.new w y0 26).below (below_one (w.alloc (.cells #[y0] 26)) (.cells #[z0] 26)))
  have BZ := Lib.hid (Box1.new (w.alloc (.cells #[y0] 26)) z0 26)
  rw [show (w.alloc (.cells #[y0] 26)).heap.size = w.heap.size + 1 by simp] at BZ
  have VY : Hid (∀ W, Below w.heap.size w W → YdR W (.agg #[y0]) Y) := Lib.hid fun W hb => ⟨_, rfl, hy.below hb⟩
  have VZ : Hid (∀ W, Below w.heap.size w W → YdR W (.agg #[z0]) Z) := Lib.hid fun W hb => ⟨_, rfl, hz.below hb⟩
  have GY := Lib.hid (fun W hb => good_impl (.agg #[y0]) Y h1 h2 W (VY.out W hb))
  have GZ := Lib.hid (fun W hb => good_impl (.agg #[z0]) Z h3 h4 W (VZ.out W hb))
  have c1 := BY.out.2
  have c2 := BZ.out.2
  have HL := Lib.hid (And.intro (And.intro h1 h2) (And.intro h3 h4))
  clear hy hz h1 h2 h3 h4
  cases e1 : goodY Y with
  | false =>
    rw [e1] at GY
    rw [show okSm Y Z = false by simp [okSm, e1], show sameR Y Z = false by simp [sameR, okSm, e1]]
    clear e1
    go_enter Try.func44, Try.ntmps44
    go_wp2_with fail
    refine (GY.out _ B0.out).mono ?_
    rintro e w1 ⟨rfl, hb⟩
    have B1 := Lib.hid (B0.out.trans (hb.mono B0.out.size))
    clear hb
    go_wp2_with fail
    go_ret2
    exact ⟨rfl, B1.out⟩
  | true =>
    rw [e1] at GY
    cases e2 : goodY Z with
    | false =>
      rw [e2] at GZ
      rw [show okSm Y Z = false by simp [okSm, e2], show sameR Y Z = false by simp [sameR, okSm, e2]]
      clear e1 e2
      go_enter Try.func44, Try.ntmps44
      go_wp2_with fail
      refine (GY.out _ B0.out).mono ?_
      rintro e w1 ⟨rfl, hb⟩
      have c1 := (BY.out.below hb).2
      have c2 := (BZ.out.below hb).2
      have B1 := Lib.hid (B0.out.trans (hb.mono B0.out.size))
      clear hb
      go_wp2_with fail
      refine (GZ.out _ B1.out).mono ?_
      rintro e w2 ⟨rfl, hb⟩
      have B2 := Lib.hid (B1.out.trans (hb.mono B1.out.size))
      clear hb
      go_wp2_with fail
      go_ret2
      exact ⟨rfl, B2.out⟩
    | true =>
      rw [e2] at GZ
      rw [show okSm Y Z = true by simp [okSm, e1, e2], show sameR Y Z = decide (Y.Perm Z) by simp [sameR, okSm, e1, e2]]
      have SY := Lib.hid (fun W hb => sortedStacks_any (.agg #[y0]) Y (good_pos e1) HL.out.1.1 HL.out.1.2 W (VY.out W hb))
      have SZ := Lib.hid (fun W hb => sortedStacks_any (.agg #[z0]) Z (good_pos e2) HL.out.2.1 HL.out.2.2 W (VZ.out W hb))
      have HE := Lib.hid (fun u1 u2 W => eqSort_any u1 u2 Y Z HL.out.1.1 HL.out.2.1 HL.out.1.2 HL.out.2.2 W)
      generalize decide (Y.Perm Z) = r at *
      clear e1 e2
      go_enter Try.func44, Try.ntmps44
      go_wp2_with fail
      refine (GY.out _ B0.out).mono ?_
      rintro e w1 ⟨rfl, hb⟩
      have c1 := (BY.out.below hb).2
      have c2 := (BZ.out.below hb).2
      have Z1 := Lib.hid (BY.out.below hb)
      have Z2 := Lib.hid (BZ.out.below hb)
      have B1 := Lib.hid (B0.out.trans (hb.mono B0.out.size))
      clear hb
      go_wp2_with fail
      refine (GZ.out _ B1.out).mono ?_
      rintro e w2 ⟨rfl, hb⟩
      have c1 := (Z1.out.below hb).2
      have c2 := (Z2.out.below hb).2
      have Z3 := Lib.hid (Z1.out.below hb)
      have Z4 := Lib.hid (Z2.out.below hb)
      have B2 := Lib.hid (B1.out.trans (hb.mono B1.out.size))
      have D2 : Hid (Below w.heap.size w w2.drew) := Lib.hid B2.out.drew
      have D3 : Hid (Below w2.heap.size w2 w2.drew) := Lib.hid (Below.refl _ _).drew
      clear hb
      go_wp2_with fail
      have W1 := Lib.hid Z3.out.1
      have W2 := Lib.hid Z4.out.1
      go_region_held3 (fun W => W.cell? ⟨w.heap.size, 0, none⟩ = some y0 ∧ W.cell? ⟨w.heap.size + 1, 0, none⟩ = some z0) (go_keep) (first | (go_at_call 66; refine (SY.out _ D2.out).mono ?_; rintro e w3 ⟨ua, rfl, ya, hb⟩; have x0 := (hb.cell (p := ⟨w.heap.size, 0, none⟩) W1.out).trans c1; have x1 := (hb.cell (p := ⟨w.heap.size + 1, 0, none⟩) W2.out).trans c2; have YA := Lib.hid ya; have B3a := Lib.hid (D2.out.trans (hb.mono D2.out.size)); have Wa := Lib.hid (Nat.lt_of_lt_of_le W1.out hb.size); have Wb := Lib.hid (Nat.lt_of_lt_of_le W2.out hb.size); clear hb ya) | (go_at_call 66; refine (SZ.out _ B3a.out).mono ?_; rintro e w4 ⟨ub, rfl, yb, hb⟩; have x0 := (hb.cell (p := ⟨w.heap.size, 0, none⟩) Wa.out).trans x0; have x1 := (hb.cell (p := ⟨w.heap.size + 1, 0, none⟩) Wb.out).trans x1; have YB := Lib.hid yb; have YA := Lib.hid (YA.out.below hb); have B4 := Lib.hid (B3a.out.trans (hb.mono B3a.out.size)); have Wa := Lib.hid (Nat.lt_of_lt_of_le Wa.out hb.size); have Wb := Lib.hid (Nat.lt_of_lt_of_le Wb.out hb.size); clear hb yb) | (go_at_call 65; refine (HE.out _ _ _ YA.out YB.out).mono ?_; rintro e w5 ⟨rfl, hb⟩; have x0 := (hb.cell (p := ⟨w.heap.size, 0, none⟩) Wa.out).trans x0; have x1 := (hb.cell (p := ⟨w.heap.size + 1, 0, none⟩) Wb.out).trans x1; have B5 := Lib.hid (B4.out.trans (hb.mono B4.out.size)); clear hb))
      all_goals go_wp2_with fail
      all_goals go_ret2
      all_goals exact ⟨rfl, B5.out⟩
end Go.Proofs.Ytdnbkfpcmjijlaa
