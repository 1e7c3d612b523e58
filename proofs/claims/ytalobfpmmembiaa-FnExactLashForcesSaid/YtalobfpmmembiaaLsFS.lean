/-
  What spec.l12Forces and spec.LashForces return. No statement of the seat by itself.
-/
import Derived.Test.YtalobfpmmembiaaLsF
namespace Go.Proofs.Ytalobfpmmembiaa
open Go.RowKit

set_option maxRecDepth 100000 in
set_option maxHeartbeats 8000000 in
theorem l12Forces_any (v : Value) (l : List Int) (t : Int) (hg : goodW l 8 = true) (ht : 0 ≤ t ∧ t ≤ 100) (w : World) (h : IL w v l) :
    Calls Try.prog 54 #[v, .int .i64 t] w (NewI w (frcs t l l.length)) := by
  obtain ⟨f3, hi3, hz0, hz1, hz2⟩ := info_is info3
  have hl8 := goodW_len hg
  have HV := Lib.hid h
  have HGW := Lib.hid hg
  have R0 : Hid (NumS w (w.alloc (.cells #[] 3)) (.slice (some ⟨w.heap.size, 0, none⟩) 0 0) (frcs t l 0)) := Lib.hid (numS_start w)
  obtain ⟨p, cap, rfl⟩ := h.form
  obtain ⟨n, hl⟩ : ∃ n, l.length = n := ⟨_, rfl⟩
  have HN := Lib.hid hl
  rw [hl] at hl8 HV ⊢
  clear hl h hg
  go_enter Try.func54, Try.ntmps54
  go_wp2_with fail
  go_loopw [5, 6] (fun s i wr => ∃ k : Nat, k ≤ n ∧ i = .int .i64 k ∧ Hid (NumS w wr s (frcs t l k))) (fun _ i _ => n - (intOf i).toNat)
  case atStart => exact ⟨0, Nat.zero_le _, rfl, R0⟩
  case round =>
    obtain ⟨k, hk, rfl, HS⟩ := hrel
    rename World => wr
    by_cases hlt : k < n
    · have HU := Lib.hid (l12Sum_any (.slice p n cap) l k (by rw [HN.out]; exact hl8) (by rw [HN.out]; omega) (goodW_small HGW.out) wr (HV.out.below HS.out.2.1))
      have hsm := goodW_sum HGW.out (Nat.le_refl _) k
      have HNx : Hid (frcs t l (k + 1) = frcs t l k ++ [frc t (l.drop k).sum]) := Lib.hid rfl
      have HLn := frcs_len t l k
      generalize (l.drop k).sum = s at *
      obtain ⟨b1, b2, p1, p2⟩ := frc_bound ht.1 ht.2 hsm.1 hsm.2
      have hw : IntKind.i64.wrap (s * t) = t * s := by rw [Int.mul_comm]; exact wrap_small p1 (by omega)
      have hq : (t * s + 99).tdiv 100 = frc t s := by rw [Int.tdiv_eq_ediv_of_nonneg (by omega)]; rfl
      generalize frc t s = q at *
      obtain ⟨m, hm⟩ : ∃ m, t * s = m := ⟨_, rfl⟩
      rw [hm] at hw hq p1 p2
      have hrow := HS.out.1
      have hz := HS.out.2.1.size
      generalize frcs t l k = S at *
      clear hm hsm
      go_wp2_with fail
      refine HU.out.mono ?_
      rintro e w1 ⟨rfl, rfl⟩
      go_wp2_with (at_builtin; refine wpList_append_own _ rfl _ _ 24 rfl w.heap.size 3 f3 (.int .i64 0) 1 8 Try.underlying24 hi3 hz0 hz1 hz2 rfl (by decide) _ _ _ rfl (hrow.alloc _) ⟨wr.heap.size, 0, none⟩ 1 1 [.int .i64 q] rfl rfl (cell_one_new _ _ _) (by simp [Value.oneCell']) (by unfold maxLen; omega) (by omega) (by simp; omega) ?_; intro v' w4 hown' hgrow hnil)
      have HN4 : Hid (NumS w w4 v' (frcs t l (k + 1))) := Lib.hid (by rw [HNx.out]; exact HS.out.push hown' hgrow (fun e => by have := (hnil.1 e).2; omega))
      clear hown' hgrow hnil hrow
      exact ⟨⟨k + 1, by omega, by go_num, HN4⟩, by simp [intOf]; omega⟩
    · obtain rfl : k = n := by omega
      have HD := Lib.hid HS.out.done
      go_wp2_with fail
      go_ret
      exact HD.out

theorem goodW_mono {l : List Int} {m M : Nat} (h : goodW l m = true) (hm : m ≤ M) : goodW l M = true := by
  obtain ⟨h1, h2⟩ := goodW_iff.1 h
  exact goodW_iff.2 ⟨Nat.le_trans h1 hm, h2⟩

set_option maxRecDepth 100000 in
set_option maxHeartbeats 8000000 in
theorem specFo_any (v : Value) (l : List Int) (a b c : Int) (hn : l.length ≤ 1048576) (w : World) (h : IL w v l) :
    Calls Try.prog 17 #[v, .agg #[.int .i64 a, .int .i64 b, .int .i64 c]] w (RetL w (foL l a b c) (goodC l a b c)) := by
  have hB0 := below_one w (.cells #[.int .i64 a, .int .i64 b, .int .i64 c] 26)
  have BA := Lib.hid (BoxR.new w a b c 26)
  have HB := Lib.hid hB0
  have HG := Lib.hid (l12Good_any v l hn _ (h.below hB0))
  obtain ⟨-, c0, c1, c2⟩ := BA.out
  have HV := Lib.hid h
  obtain ⟨p, cap, rfl⟩ := h.form
  clear h hB0
  cases hg : goodW l 4 with
  | false =>
    rw [hg] at HG
    rw [show goodC l a b c = false by simp [goodC, hg], show foL l a b c = [] by simp [foL, goodC, hg]]
    clear hg
    go_enter Try.func17, Try.ntmps17
    go_wp2_with fail
    refine HG.out.mono ?_
    rintro e w1 ⟨rfl, hb⟩
    have HB1 := Lib.hid (HB.out.trans (hb.mono HB.out.size))
    clear hb c0 c1 c2
    go_wp2_with fail
    have HX := Lib.hid (retL_of (l := []) (ok := false) (own_empty w1 (.cells #[] 3) 3 rfl) HB1.out.size (HB1.out.trans ((below_one w1 _).mono HB1.out.size)))
    go_ret2
    exact HX.out
  | true =>
    rw [hg] at HG
    have HR := Lib.hid (specRules_any a b c)
    cases hx : okX a b c with
    | false =>
      rw [hx] at HR
      rw [show goodC l a b c = false by simp [goodC, hx], show foL l a b c = [] by simp [foL, goodC, hx]]
      clear hg hx
      go_enter Try.func17, Try.ntmps17
      go_wp2_with fail
      refine HG.out.mono ?_
      rintro e w1 ⟨rfl, hb⟩
      have HB1 := Lib.hid (HB.out.trans (hb.mono HB.out.size))
      have BA1 := Lib.hid (BA.out.below hb)
      clear hb c0 c1 c2
      obtain ⟨-, c0, c1, c2⟩ := BA1.out
      go_wp2_with fail
      refine (HR.out _).mono ?_
      rintro e w2 ⟨rfl, hb⟩
      have HB2 := Lib.hid (HB1.out.trans (hb.mono HB1.out.size))
      clear hb c0 c1 c2
      go_wp2_with fail
      have HX := Lib.hid (retL_of (l := []) (ok := false) (own_empty w2 (.cells #[] 3) 3 rfl) HB2.out.size (HB2.out.trans ((below_one w2 _).mono HB2.out.size)))
      go_ret2
      exact HX.out
    | true =>
      rw [hx] at HR
      obtain ⟨-, hbb, -⟩ := okX_iff.1 hx
      have HT := Lib.hid (fun W hW => l12Forces_any (.slice p l.length cap) l b (goodW_mono hg (by decide)) hbb W hW)
      rw [show goodC l a b c = true by simp [goodC, hg, hx], show foL l a b c = frcs b l l.length by simp [foL, goodC, hg, hx]]
      clear hg hx hbb
      generalize frcs b l l.length = F at *
      go_enter Try.func17, Try.ntmps17
      go_wp2_with fail
      refine HG.out.mono ?_
      rintro e w1 ⟨rfl, hb⟩
      have HB1 := Lib.hid (HB.out.trans (hb.mono HB.out.size))
      have BA1 := Lib.hid (BA.out.below hb)
      clear hb c0 c1 c2
      obtain ⟨-, c0, c1, c2⟩ := BA1.out
      go_wp2_with fail
      refine (HR.out _).mono ?_
      rintro e w2 ⟨rfl, hb⟩
      have HB2 := Lib.hid (HB1.out.trans (hb.mono HB1.out.size))
      have BA2 := Lib.hid (BA1.out.below hb)
      clear hb c0 c1 c2
      obtain ⟨-, c0, c1, c2⟩ := BA2.out
      go_wp2_with fail
      refine (HT.out _ (HV.out.below HB2.out)).mono ?_
      rintro e w3 ⟨a3, c3, rfl, ho, hb⟩
      have HX := Lib.hid (retL_of (ok := true) ho HB2.out.size (HB2.out.trans (hb.mono HB2.out.size)))
      clear ho hb c0 c1 c2
      go_wp2_with fail
      go_ret2
      exact HX.out
end Go.Proofs.Ytalobfpmmembiaa
