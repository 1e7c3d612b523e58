/-
  What LoadsOf answers, in the reference. No statement of the seat by itself.
-/
import Derived.Test.YtffejbgcgagkpaaCrK
import Derived.Test.YtffejbgcgagkpaaHeights
namespace Go.Proofs.Ytffejbgcgagkpaa
open Go.RowKit

set_option maxRecDepth 100000 in
set_option maxHeartbeats 4000000 in
theorem l13Range_any (v vd : Value) (l d : List Int) (c : Nat) (_hn : l.length ≤ 1048576) (hd : d.length ≤ 1048576) (hc : c ≤ d.length) (w : World) (h : IL w v l) (h2 : IL w vd d) :
    Calls Try.prog 66 #[v, vd, .int .i64 (c : Int)] w fun e w' => e = .returned (.tuple #[.int .i64 ((bdsC l.length d).getD c 0), .int .i64 ((bdsC l.length d).getD (c + 1) 0)]) ∧ w = w' := by
  have X0 : Hid ((bdsC l.length d).getD 0 0 = 0) := Lib.hid (bdsC_zero _ _)
  have X1 : Hid (∀ i, i < d.length → (bdsC l.length d).getD (i + 1) 0 = d.getD i 0) := Lib.hid fun i hi => bdsC_mid hi
  have X2 : Hid ((bdsC l.length d).getD (d.length + 1) 0 = l.length) := Lib.hid (bdsC_last _ _)
  obtain ⟨a, cap, rfl⟩ := h.form
  clear h
  obtain ⟨ad, capd, rfl, hcd⟩ := h2
  have HC := Lib.hid hcd
  have HG := Lib.hid (fun (i : Nat) (hi : i < d.length) => show d[i]? = some (d.getD i 0) by simp [List.getD, List.getElem?_eq_getElem hi])
  clear hcd
  generalize bdsC l.length d = L at *
  generalize l.length = n at *
  obtain ⟨m, hm⟩ : ∃ m, d.length = m := ⟨_, rfl⟩
  rw [hm] at hd hc HC HG X1 X2 ⊢
  clear hm
  by_cases h0 : c = 0
  · subst h0
    rw [X0.out]
    by_cases hlt : 0 < m
    · rw [X1.out 0 hlt]
      obtain ⟨g, off, rfl, hg, hcc⟩ := HC.out (by omega)
      have o1 := hcc 0 _ (HG.out 0 hlt)
      simp only [Nat.add_zero] at o1
      generalize d.getD 0 0 = x1 at *
      clear hcc
      go_enter Try.func66, Try.ntmps66
      go_wp2_with fail
      go_ret2
      exact ⟨rfl, rfl⟩
    · obtain rfl : m = 0 := by omega
      rw [X2.out]
      go_enter Try.func66, Try.ntmps66
      go_wp2_with fail
      go_ret2
      exact ⟨rfl, rfl⟩
  · obtain ⟨j, rfl⟩ : ∃ j, c = j + 1 := ⟨c - 1, by omega⟩
    rw [X1.out j (by omega)]
    obtain ⟨g, off, rfl, hg, hcc⟩ := HC.out (by omega)
    have o0 := hcc j _ (HG.out j (by omega))
    have hp : (0 : Int) < (j : Int) + 1 := by omega
    by_cases hlt : j + 1 < m
    · rw [X1.out (j + 1) hlt]
      have o1 := hcc (j + 1) _ (HG.out (j + 1) hlt)
      generalize d.getD (j + 1) 0 = x1 at *
      generalize d.getD j 0 = x0 at *
      clear hcc
      go_enter Try.func66, Try.ntmps66
      go_wp2_with fail
      go_ret2
      exact ⟨rfl, rfl⟩
    · obtain rfl : m = j + 1 := by omega
      rw [X2.out]
      generalize d.getD j 0 = x0 at *
      clear hcc
      go_enter Try.func66, Try.ntmps66
      go_wp2_with fail
      go_ret2
      exact ⟨rfl, rfl⟩

/-- The sum of the work from one bay up to another. -/
theorem seg_step {l : List Int} {lo k : Nat} {x : Int} (h : l[k]? = some x) : (l.take (k + 1)).sum - (l.take lo).sum = (l.take k).sum - (l.take lo).sum + x := by rw [sumC_take h]; omega

set_option maxRecDepth 100000 in
set_option maxHeartbeats 4000000 in
theorem l13Loads_any (v vd : Value) (l d : List Int) (hg : wkB l = true) (hd : d.length ≤ 2) (ha : ascB (bdsC l.length d) = true) (w : World) (h : IL w v l) (h2 : IL w vd d) :
    Calls Try.prog 57 #[v, vd] w (NewI w (ldsC l d (d.length + 1))) := by
  obtain ⟨f3, hi3, hz0, hz1, hz2⟩ := info_is info3
  have hl10 := (wkB_iff.1 hg).1
  have HR := Lib.hid (fun (c : Nat) (hc : c ≤ d.length) (W : World) (hW : Below w.heap.size w W) => l13Range_any v vd l d c (by omega) (by omega) hc W (h.below hW) (h2.below hW))
  have HL := Lib.hid (fun (c : Nat) (hc : c ≤ d.length) => ldsC_succ l d c)
  have HS := Lib.hid (fun (c : Nat) (hc : c ≤ d.length) => shrC_sum ha (show c < d.length + 1 by omega))
  have HB1 := Lib.hid (fun (c : Nat) (hc : c ≤ d.length) => show (bdsC l.length d).getD c 0 = ((bdN l.length d c : Nat) : Int) from (bdN_int ha (by omega)).symm)
  have HB2 := Lib.hid (fun (c : Nat) (hc : c ≤ d.length) => show (bdsC l.length d).getD (c + 1) 0 = ((bdN l.length d (c + 1) : Nat) : Int) from (bdN_int ha (by omega)).symm)
  have HLe := Lib.hid (fun (c : Nat) (hc : c ≤ d.length) => bdN_le ha (show c < d.length + 1 by omega))
  have HT := Lib.hid (fun k => wkB_sum hg k)
  have HV := Lib.hid h
  obtain ⟨a, cap, rfl, hcl⟩ := h
  have HC := Lib.hid hcl
  obtain ⟨ad, capd, rfl⟩ := h2.form
  have HW := Lib.hid (fun (k : Nat) (x : Int) (hx : l[k]? = some x) => wkB_get hg hx)
  obtain ⟨n, hn⟩ : ∃ n, l.length = n := ⟨_, rfl⟩
  have HN := Lib.hid hn
  obtain ⟨m, hm⟩ : ∃ m, d.length = m := ⟨_, rfl⟩
  rw [hn] at hl10 HR HB1 HB2 HLe HS ⊢
  rw [hm] at HR HL HS HB1 HB2 HLe hd ⊢
  have R0 := Lib.hid (numS_start w)
  clear hg ha hcl h2 hn hm
  rw [HN.out] at HC HV
  go_enter Try.func57, Try.ntmps57
  go_wp2_with fail
  go_loopw [5, 6] (fun s i wr => ∃ c : Nat, c ≤ m + 1 ∧ i = .int .i64 c ∧ Hid (NumS w wr s (ldsC l d c))) (fun _ i _ => m + 1 - (intOf i).toNat)
  case atStart => exact ⟨0, Nat.zero_le _, rfl, R0⟩
  case round =>
    obtain ⟨c, hc, rfl, HQ⟩ := hrel
    by_cases hlt : c ≤ m
    · have HE := Lib.hid (HR.out c hlt wr HQ.out.2.1)
      rw [HB1.out c hlt, HB2.out c hlt] at HE
      obtain ⟨b1, b2⟩ := HLe.out c hlt
      have HSc := Lib.hid (HS.out c hlt)
      have HLc := Lib.hid (HL.out c hlt)
      generalize bdN n d c = lo at *
      generalize bdN n d (c + 1) = hi at *
      generalize (shrC l d c).sum = sc at *
      go_wp2_with fail
      refine HE.out.mono ?_
      rintro e w1 ⟨rfl, rfl⟩
      go_wp2_with fail
      go_loop [9, 10] (fun s i => ∃ (k : Nat) (t : Int), lo ≤ k ∧ k ≤ hi ∧ i = .int .i64 k ∧ s = .int .i64 t ∧ Hid (t = (l.take k).sum - (l.take lo).sum)) (fun _ i => hi - (intOf i).toNat)
      case atStart => exact ⟨lo, 0, Nat.le_refl _, b1, rfl, rfl, Lib.hid (by omega)⟩
      case round =>
        obtain ⟨k, t, hk1, hk2, rfl, rfl, HS2⟩ := hrel
        by_cases hkl : k < hi
        · obtain ⟨g, off, rfl, hg, hcc⟩ := HC.out (by omega)
          obtain ⟨x, hx⟩ := get_at HN.out (show k < n by omega)
          have o1 := (HQ.out.2.1.cell (p := ⟨g, off + k, none⟩) hg).trans (hcc k x hx)
          have HK2 : Hid (t + x = (l.take (k + 1)).sum - (l.take lo).sum) := Lib.hid (by rw [sumC_take hx, HS2.out]; omega)
          have hx3 := HW.out k x hx
          have q1 := HT.out k
          have q2 := HT.out lo
          have q3 := HS2.out
          have q4 : -3000 ≤ t ∧ t ≤ 3000 := by omega
          have hkn : k < n := by omega
          clear hcc hx q1 q2 q3
          go_wp2_with fail
          go_round
          case rel => exact ⟨k + 1, t + x, by omega, by omega, by go_num, by go_num, HK2⟩
          case measure => simp [intOf]; omega
        · obtain rfl : k = hi := by omega
          obtain rfl : t = sc := by rw [HS2.out, HSc.out]
          have hbl := ldsC_len l d c
          have hrow := HQ.out.1
          have hz := HQ.out.2.1.size
          have hcm : (ldsC l d c).length ≤ 3 := by omega
          have HQ2 := Lib.hid HQ.out
          clear hbl
          generalize ldsC l d c = S at *
          go_wp2_with (at_builtin; refine wpList_append_own _ rfl _ _ 24 rfl w.heap.size 3 f3 (.int .i64 0) 1 8 Try.underlying24 hi3 hz0 hz1 hz2 rfl (by decide) _ _ _ rfl (hrow.alloc _) ⟨wr.heap.size, 0, none⟩ 1 1 [.int .i64 t] rfl rfl (cell_one_new _ _ _) (by simp [Value.oneCell']) (by unfold maxLen; omega) (by omega) (by simp; omega) ?_; intro v' w4 hown' hgrow hnil)
          have HN4 : Hid (NumS w w4 v' (ldsC l d (c + 1))) := Lib.hid (by rw [HLc.out]; exact HQ2.out.push hown' hgrow (fun e => by have := (hnil.1 e).2; omega))
          clear hown' hgrow hnil hrow
          exact ⟨⟨c + 1, by omega, by go_num, HN4⟩, by simp [intOf]; omega⟩
    · obtain rfl : c = m + 1 := by omega
      go_wp2_with fail
      go_ret
      exact HQ.out.done
end Go.Proofs.Ytffejbgcgagkpaa
