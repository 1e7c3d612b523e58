/-
  What spec.ParseYardFinding answers. No statement of the seat by itself.
-/
import Derived.Test.YtcpelnnadabnpaaDoorEPim
namespace Go.Proofs.YtcpelnnadabnpaaDoor
open Go.RowKit Go.Shelf

/-- The box of the answer is still empty. -/
def BoxS (w W : World) : Prop := Below w.heap.size w W ∧ W.heap[w.heap.size]? = some (.cells #[.int .i64 0, .int .i64 0, .int .i64 0] 26 (0, 0))
theorem BoxS.below {w W W' : World} (h : BoxS w W) (hb : Below W.heap.size W W') : BoxS w W' :=
  ⟨h.1.trans (hb.mono h.1.size), (hb.block _ (Array.getElem?_eq_some_iff.1 h.2).1).trans h.2⟩
/-- No sentence of a rule below k is this text. -/
def NoR (s : ByteArray) (k : Nat) : Prop := ∀ a b c : Int, a < k → goodF a b c = true → txtF a b c ≠ s
def NoS (s : ByteArray) (a k : Nat) : Prop := ∀ b c : Int, b < k → goodF a b c = true → txtF a b c ≠ s
def NoT (s : ByteArray) (a b k : Nat) : Prop := ∀ c : Int, c < k → goodF a b c = true → txtF a b c ≠ s
theorem good_rng {r s t : Int} (h : goodF r s t = true) : (1 ≤ r ∧ r ≤ 4) ∧ (0 ≤ s ∧ s < 6) ∧ (0 ≤ t ∧ t < 4) := by
  obtain ⟨a, i, j, rfl, rfl, rfl, ha, hi, hj⟩ := goodF_nat h
  omega
theorem noR_one (s : ByteArray) : NoR s 1 := fun a b c ha hg => by have := good_rng hg; omega
theorem noS_zero (s : ByteArray) (a : Nat) : NoS s a 0 := fun b c hb hg => by have := good_rng hg; omega
theorem noT_zero (s : ByteArray) (a b : Nat) : NoT s a b 0 := fun c hc hg => by have := good_rng hg; omega
theorem NoT.step {s : ByteArray} {a b k : Nat} (h : NoT s a b k) (hx : goodF a b k = true → txtF a b k ≠ s) : NoT s a b (k + 1) := fun c hc hg => by
  by_cases e : c = (k : Int)
  · subst e; exact hx hg
  · exact h c (by omega) hg
theorem NoS.step {s : ByteArray} {a b : Nat} (h : NoS s a b) (hx : NoT s a b 4) : NoS s a (b + 1) := fun b' c hb hg => by
  by_cases e : b' = (b : Int)
  · subst e; exact hx c (good_rng hg).2.2.2 hg
  · exact h b' c (by omega) hg
theorem NoR.step {s : ByteArray} {a : Nat} (h : NoR s a) (hx : NoS s a 6) : NoR s (a + 1) := fun a' b c ha hg => by
  by_cases e : a' = (a : Int)
  · subst e; exact hx b c (good_rng hg).2.1.2 hg
  · exact h a' b c (by omega) hg

set_option maxRecDepth 100000 in
set_option maxHeartbeats 4000000 in
theorem specPrs_any (s : ByteArray) (w : World) : Calls Tryd.prog 8 #[.string s] w (PrsP w s) := by
  have S0 : Hid (BoxS w (w.alloc (.cells #[.int .i64 0, .int .i64 0, .int .i64 0] 26))) := Lib.hid ⟨below_one w _, heap_alloc_new w _⟩
  have HN0 := Lib.hid (noR_one s)
  go_enter Tryd.func8, Tryd.ntmps8
  go_wp2_with fail
  generalize w.alloc (.cells #[.int .i64 0, .int .i64 0, .int .i64 0] 26) = w0 at *
  go_loopw [4] (fun r wr => ∃ k : Nat, (1 ≤ k ∧ k ≤ 5) ∧ r = .int .i64 k ∧ Hid (BoxS w wr) ∧ Hid (NoR s k)) (fun r _ => 5 - (intOf r).toNat)
  case atStart => exact ⟨1, by omega, rfl, S0, HN0⟩
  case round =>
    obtain ⟨a, ha, rfl, HS1, HN1⟩ := hrel
    clear HN0 S0
    by_cases hla : a ≤ 4
    · have haI : (a : Int) ≤ 4 := by omega
      have HZ1 := Lib.hid (noS_zero s a)
      go_wp2_with fail
      go_loopw [5] (fun r wr => ∃ k : Nat, k ≤ 6 ∧ r = .int .i64 k ∧ Hid (BoxS w wr) ∧ Hid (NoS s a k)) (fun r _ => 6 - (intOf r).toNat)
      case atStart => exact ⟨0, by omega, rfl, HS1, HZ1⟩
      case round =>
        obtain ⟨b, hb, rfl, HS2, HN2⟩ := hrel
        clear HZ1 HS1
        by_cases hlb : b < 6
        · have hbI : (b : Int) < 6 := by omega
          have HZ2 := Lib.hid (noT_zero s a b)
          go_wp2_with fail
          go_loopw [6] (fun r wr => ∃ k : Nat, k ≤ 4 ∧ r = .int .i64 k ∧ Hid (BoxS w wr) ∧ Hid (NoT s a b k)) (fun r _ => 4 - (intOf r).toNat)
          case atStart => exact ⟨0, by omega, rfl, HS2, HZ2⟩
          case round =>
            obtain ⟨c, hc, rfl, HS3, HN3⟩ := hrel
            clear HZ2 HS2
            by_cases hlc : c < 4
            · have hcI : (c : Int) < 4 := by omega
              have hb4 := below_one wr (.cells #[.int .i64 (a : Int), .int .i64 (b : Int), .int .i64 (c : Int)] 26)
              have HF4 := Lib.hid (heap_alloc_new wr (.cells #[.int .i64 (a : Int), .int .i64 (b : Int), .int .i64 (c : Int)] 26))
              have HS4 := Lib.hid (HS3.out.below hb4)
              clear hb4
              go_wp2_with fail
              generalize wr.alloc (.cells #[.int .i64 (a : Int), .int .i64 (b : Int), .int .i64 (c : Int)] 26) = w4 at *
              have HX := Lib.hid (specTxt_any (a : Int) (b : Int) (c : Int) w4)
              have HC : Hid ((goodF (a : Int) (b : Int) (c : Int) && ((txtF (a : Int) (b : Int) (c : Int)).toList == s.toList)) = true → PrsO s a b c true) := Lib.hid fun h => by
                rw [str_eqB, Bool.and_eq_true, decide_eq_true_iff] at h
                exact Or.inl ⟨rfl, h.1, h.2⟩
              have HD : Hid ((goodF (a : Int) (b : Int) (c : Int) && ((txtF (a : Int) (b : Int) (c : Int)).toList == s.toList)) = false → NoT s a b (c + 1)) := Lib.hid fun h => HN3.out.step fun hg hx => by
                rw [str_eqB, hg, decide_eq_true hx] at h
                cases h
              generalize txtF (a : Int) (b : Int) (c : Int) = X at *
              generalize goodF (a : Int) (b : Int) (c : Int) = q at *
              refine HX.out.mono ?_
              rintro e w5 ⟨rfl, hb5⟩
              have HF5 := Lib.hid ((hb5.block _ (Array.getElem?_eq_some_iff.1 HF4.out).1).trans HF4.out)
              have HS5 := Lib.hid (HS4.out.below hb5)
              clear hb5 HF4 HS4 HX
              cases q with
              | false =>
                have HN4 := Lib.hid (HD.out rfl)
                clear HC HD
                go_wp2_with fail
                exact ⟨⟨c + 1, by omega, by go_num, HS5, HN4⟩, by simp [intOf]; omega⟩
              | true =>
                cases hx : (X.toList == s.toList) with
                | false =>
                  have HN4 := Lib.hid (HD.out (by rw [hx]; rfl))
                  clear HC HD
                  go_wp2_with fail
                  exact ⟨⟨c + 1, by omega, by go_num, HS5, HN4⟩, by simp [intOf]; omega⟩
                | true =>
                  have HP := Lib.hid (HC.out (by rw [hx]; rfl))
                  clear HC HD
                  have y0 := cell_of (i := 0) HF5.out rfl
                  have y1 := cell_of (i := 1) HF5.out rfl
                  have y2 := cell_of (i := 2) HF5.out rfl
                  have c0 := cell_of (i := 0) HS5.out.2 rfl
                  have c1 := cell_of (i := 1) HS5.out.2 rfl
                  have c2 := cell_of (i := 2) HS5.out.2 rfl
                  have f0 := free_of HS5.out.2 0
                  have f1 := free_of HS5.out.2 1
                  have f2 := free_of HS5.out.2 2
                  go_wp2_with fail
                  have HK := Lib.hid (set3_heap HS5.out.2 (.int .i64 (a : Int)) (.int .i64 (b : Int)) (.int .i64 (c : Int)))
                  have HB := Lib.hid (set3_below HS5.out.1 (.int .i64 (a : Int)) (.int .i64 (b : Int)) (.int .i64 (c : Int)))
                  clear c0 c1 c2 f0 f1 f2 y0 y1 y2
                  generalize ((w5.setCell ⟨w.heap.size, 0, none⟩ (.int .i64 (a : Int))).setCell ⟨w.heap.size, 1, none⟩ (.int .i64 (b : Int))).setCell ⟨w.heap.size, 2, none⟩ (.int .i64 (c : Int)) = w6 at *
                  have c0 := cell_of (i := 0) HK.out rfl
                  have c1 := cell_of (i := 1) HK.out rfl
                  have c2 := cell_of (i := 2) HK.out rfl
                  exact bodyPost_ret (v := .tuple #[.agg #[.int .i64 (a : Int), .int .i64 (b : Int), .int .i64 (c : Int)], .bool true]) (by simp [results, Tryd.results8, go_sem, c0, c1, c2]) rfl ⟨_, _, _, _, rfl, HP.out, HB.out⟩
            · obtain rfl : c = 4 := by omega
              have HN4 := Lib.hid (HN2.out.step HN3.out)
              go_wp2_with fail
              exact ⟨⟨b + 1, by omega, by go_num, HS3, HN4⟩, by simp [intOf]; omega⟩
        · obtain rfl : b = 6 := by omega
          have HN4 := Lib.hid (HN1.out.step HN2.out)
          go_wp2_with fail
          exact ⟨⟨a + 1, by omega, by go_num, HS2, HN4⟩, by simp [intOf]; omega⟩
    · obtain rfl : a = 5 := by omega
      have c0 := cell_of (i := 0) HS1.out.2 rfl
      have c1 := cell_of (i := 1) HS1.out.2 rfl
      have c2 := cell_of (i := 2) HS1.out.2 rfl
      have f0 := free_of HS1.out.2 0
      have f1 := free_of HS1.out.2 1
      have f2 := free_of HS1.out.2 2
      go_wp2_with fail
      have HK := Lib.hid (set3_heap HS1.out.2 (.int .i64 0) (.int .i64 0) (.int .i64 0))
      have HB := Lib.hid (set3_below HS1.out.1 (.int .i64 0) (.int .i64 0) (.int .i64 0))
      clear c0 c1 c2 f0 f1 f2
      generalize ((wr.setCell ⟨w.heap.size, 0, none⟩ (.int .i64 0)).setCell ⟨w.heap.size, 1, none⟩ (.int .i64 0)).setCell ⟨w.heap.size, 2, none⟩ (.int .i64 0) = w6 at *
      have c0 := cell_of (i := 0) HK.out rfl
      have c1 := cell_of (i := 1) HK.out rfl
      have c2 := cell_of (i := 2) HK.out rfl
      exact bodyPost_ret (v := .tuple #[.agg #[.int .i64 0, .int .i64 0, .int .i64 0], .bool false]) (by simp [results, Tryd.results8, go_sem, c0, c1, c2]) rfl ⟨_, _, _, _, rfl, Or.inr ⟨rfl, rfl, rfl, rfl, fun x y z hg => HN1.out x y z (by have := good_rng hg; omega) hg⟩, HB.out⟩
end Go.Proofs.YtcpelnnadabnpaaDoor
