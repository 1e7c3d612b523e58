/-
  What spec.l2Find, spec.l2List and spec.IsValidContainers return. No statement of the seat by itself.
-/
import Derived.Test.YtpmaaflpknjbmaaCRow
import Derived.Test.YtpmaaflpknjbmaaCFind
namespace Go.Proofs.Ytpmaaflpknjbmaa.C
open Go.RowKit

theorem str_eqB (a b : ByteArray) : (a.toList == b.toList) = decide (a = b) := by
  rw [Bool.eq_iff_iff, beq_iff_eq, decide_eq_true_iff]
  constructor
  · intro h
    rw [ByteArray.toList_eq, ByteArray.toList_eq] at h
    exact ByteArray.ext (Array.toList_inj.1 h)
  · rintro rfl; rfl

set_option maxRecDepth 100000 in
set_option maxHeartbeats 1000000 in
theorem l2Find_any (g n c : Nat) (f : Nat → Cont) (id : ByteArray) (hn : n ≤ 1048576) (w : World) (h : CAt w g 0 n f) :
    Calls Try.prog 35 #[.slice (some ⟨g, 0, none⟩) n c, .string id] w fun e w' => e = .returned (.int .i64 (findU f id n)) ∧ w = w' := by
  have H := Lib.hid h
  clear h
  go_enter Try.func35, Try.ntmps35
  go_wp2_with fail
  go_loop [5] (fun i => ∃ k : Nat, k ≤ n ∧ i = .int .i64 k ∧ Hid (∀ j, j < k → (f j).id ≠ id)) (fun i => n - (intOf i).toNat)
  case atStart => exact ⟨0, Nat.zero_le _, rfl, Lib.hid fun j hj => by omega⟩
  case round =>
    obtain ⟨k, hk, rfl, HK⟩ := hrel
    by_cases hlt : k < n
    · obtain ⟨h0, -, -, -, -⟩ := H.out.2 k hlt
      rw [Nat.zero_add] at h0
      by_cases e : (f k).id = id
      · have HF := Lib.hid (findU_hit f id k e HK.out n hlt)
        rw [e] at h0
        clear e
        go_wp2_with fail
        go_ret
        exact ⟨by rw [HF.out]; rfl, rfl⟩
      · have HK2 : Hid (∀ j, j < k + 1 → (f j).id ≠ id) := Lib.hid fun j hj => by
          by_cases e2 : j = k
          · subst e2; exact e
          · exact HK.out j (by omega)
        have hq : ((f k).id.toList == id.toList) = false := by rw [str_eqB]; simpa using e
        generalize (f k).id = x at *
        clear e
        go_wp2_with fail
        go_round
        case rel => exact ⟨k + 1, by omega, by go_num, HK2⟩
        case measure => simp [intOf]; omega
    · obtain rfl : k = n := by omega
      have HF := Lib.hid (findU_miss f id k HK.out)
      go_wp2_with fail
      go_ret
      exact ⟨by rw [HF.out]; rfl, rfl⟩

set_option maxRecDepth 100000 in
set_option maxHeartbeats 2000000 in
theorem l2List_any (g n c : Nat) (f : Nat → Cont) (hn : n ≤ 1048576) (hid : ∀ j, j < n → (f j).id.size ≤ 1048576) (w : World) (h : CAt w g 0 n f) :
    Calls Try.prog 27 #[.slice (some ⟨g, 0, none⟩) n c] w (GoodPost w (listB n f)) := by
  have H := Lib.hid h
  have HI := Lib.hid hid
  clear h hid
  go_enter Try.func27, Try.ntmps27
  go_wp2_with fail
  go_loopw [3] (fun i wr => ∃ k : Nat, k ≤ n ∧ k ≤ 13 ∧ i = .int .i64 k ∧ Hid (∀ j, j < k → okC f j = true) ∧ Hid (Below w.heap.size w wr)) (fun i _ => n - (intOf i).toNat)
  case atStart => exact ⟨0, Nat.zero_le _, by omega, rfl, Lib.hid (fun j hj => by omega), Lib.hid (Below.refl _ _)⟩
  case round =>
    obtain ⟨k, hk, hk13, rfl, HK, HB⟩ := hrel
    by_cases hlt : k < n
    · by_cases h12 : k ≤ 12
      · have HC := Lib.hid (H.out.below HB.out)
        obtain ⟨a0, a1, a2, a3, a4⟩ := HC.out.2 k hlt
        rw [Nat.zero_add] at *
        have HZ := Lib.hid (fun W => specGood_any (f k) W (by have := HI.out k hlt; unfold maxLen; omega))
        have HFd := Lib.hid (fun W h => l2Find_any g n c f (f k).id hn W h)
        have ho := Lib.hid (findU_own f n k hlt)
        have HK2 : Hid (okC f k = true → ∀ j, j < k + 1 → okC f j = true) := Lib.hid fun h j hj => by
          by_cases e2 : j = k
          · subst e2; exact h
          · exact HK.out j (by omega)
        have HNo : Hid (okC f k = false → listB n f = false) := Lib.hid (listB_no n f k hlt)
        have HOk : Hid (okC f k = (goodB (f k) && decide (findU f (f k).id n = (k : Int)))) := Lib.hid (by
          unfold okC
          congr 1
          rw [decide_eq_decide]
          exact ho.out.symm)
        have hbd : -1 ≤ findU f (f k).id n ∧ findU f (f k).id n < (n : Int) ∨ findU f (f k).id n = -1 := findU_bd f (f k).id n
        generalize findU f (f k).id n = q at *
        generalize okC f k = ok at *
        generalize f k = x at *
        clear ho
        cases hg : goodB x with
        | false =>
          rw [hg] at HZ HOk
          have HL : Hid (listB n f = false) := Lib.hid (HNo.out (by rw [HOk.out]; rfl))
          obtain ⟨id, sz, wt, cg, pt⟩ := x
          clear hg
          simp only [contV] at *
          go_wp2_with fail
          refine (HZ.out _).mono ?_
          rintro e w1 ⟨rfl, hb1⟩
          have B1 : Hid (Below w.heap.size w w1) := Lib.hid (HB.out.trans (hb1.mono HB.out.size))
          clear hb1
          go_wp2_with fail
          go_ret
          exact ⟨by rw [HL.out]; rfl, B1.out⟩
        | true =>
          rw [hg] at HZ HOk
          have HC1 := Lib.hid (fun (w1 : World) (hb : Below wr.heap.size wr w1) => HC.out.below hb)
          clear hg
          have AA := Lib.hid (fun (w1 : World) (hb : Below wr.heap.size wr w1) => (hb.cell (p := ⟨g, k * 5, none⟩) HC.out.1).trans a0)
          obtain ⟨id, sz, wt, cg, pt⟩ := x
          simp only [contV] at *
          go_wp2_with fail
          refine (HZ.out _).mono ?_
          rintro e w1 ⟨rfl, hb1⟩
          have d0 := AA.out w1 hb1
          have C1 := Lib.hid (HC1.out w1 hb1)
          have B1 : Hid (Below w.heap.size w w1) := Lib.hid (HB.out.trans (hb1.mono HB.out.size))
          clear hb1 a0 a1 a2 a3 a4
          go_wp2_with fail
          refine (HFd.out _ C1.out).mono ?_
          rintro e w2 ⟨rfl, rfl⟩
          by_cases hq : q = (k : Int)
          · have hq1 : (q != (k : Int)) = false := by simp [hq]
            have HT : Hid (∀ j, j < k + 1 → okC f j = true) := Lib.hid (HK2.out (by rw [HOk.out]; simp [hq]))
            clear hq
            go_wp2_with fail
            refine ⟨⟨k + 1, by omega, by omega, by go_num, HT, B1⟩, by simp [intOf]; omega⟩
          · have hq1 : (q != (k : Int)) = true := by simp [hq]
            have HL : Hid (listB n f = false) := Lib.hid (HNo.out (by rw [HOk.out]; simp [hq]))
            clear hq
            go_wp2_with fail
            go_ret
            exact ⟨by rw [HL.out]; rfl, B1.out⟩
      · have HL := Lib.hid (listB_big n f (by omega))
        have hd1 : decide ((k : Int) < (n : Int)) = true := by simp; omega
        have hd2 : decide ((k : Int) ≤ 12) = false := by simp; omega
        have hd3 : decide ((n : Int) ≤ 12) = false := by simp; omega
        go_wp2_with fail
        go_ret
        exact ⟨by rw [HL.out]; simp <;> omega, HB.out⟩
    · obtain rfl : k = n := by omega
      by_cases h12 : k ≤ 12
      · have HL := Lib.hid (listB_yes k f h12 HK.out)
        have hd3 : decide ((k : Int) ≤ 12) = true := by simp; omega
        go_wp2_with fail
        go_ret
        exact ⟨by rw [HL.out]; simp <;> omega, HB.out⟩
      · have HL := Lib.hid (listB_big k f (by omega))
        have hd3 : decide ((k : Int) ≤ 12) = false := by simp; omega
        go_wp2_with fail
        go_ret
        exact ⟨by rw [HL.out]; simp <;> omega, HB.out⟩
end Go.Proofs.Ytpmaaflpknjbmaa.C
