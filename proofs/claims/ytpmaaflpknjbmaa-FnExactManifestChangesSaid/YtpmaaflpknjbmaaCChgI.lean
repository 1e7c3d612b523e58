/-
  What impl.ManifestChanges returns. No statement of the seat by itself.
-/
import Derived.Test.YtpmaaflpknjbmaaCChgS
import Derived.Test.YtpmaaflpknjbmaaCMergeI
namespace Go.Proofs.Ytpmaaflpknjbmaa.C
open Go.RowKit

theorem ids_row {w w' : World} {l : List Cont} {e : Ending} (h : IdsPost w (l.map (fun c => c.id)) e w') : ∃ v, e = .returned v ∧ w'.ownsRow w.heap.size 9 1 v (srt [] (idsC l)).length ((srt [] (idsC l)).map Value.string) ∧ Below w.heap.size w w' := by
  obtain ⟨v, he, hr, hb⟩ := h
  refine ⟨v, he, ?_, hb⟩
  rw [srt_len]
  simpa [idsC] using hr

set_option maxRecDepth 100000 in
set_option maxHeartbeats 1000000 in
theorem implChg_noA (g1 n c1 : Nat) (a : Nat → Cont) (g2 m c2 : Nat) (hn : n ≤ 1048576) (ha : ∀ j, j < n → (a j).id.size ≤ 1048576) (hnc : n ≤ c1) (w : World) (h1 : CAt w g1 0 n a) (hL : listB n a = false) :
    Calls Try.prog 17 #[.slice (some ⟨g1, 0, none⟩) n c1, .slice (some ⟨g2, 0, none⟩) m c2] w (TriPost w [] [] [] false) := by
  have K := Lib.hid (implList_any g1 n c1 a hn ha hnc _ h1)
  rw [hL] at K
  clear h1 ha hL hnc
  go_enter Try.func17, Try.ntmps17
  go_wp2_with fail
  refine K.out.mono ?_
  rintro e w1 ⟨rfl, hb1⟩
  have HT := tri_empty w1
  have B1 := Lib.hid hb1
  have T1 : Hid (Tri w (((w1.alloc (.cells #[] 9)).alloc (.cells #[] 9)).alloc (.cells #[] 9)) (.slice (some ⟨w1.heap.size, 0, none⟩) 0 0) (.slice (some ⟨w1.heap.size + 1, 0, none⟩) 0 0) (.slice (some ⟨w1.heap.size + 1 + 1, 0, none⟩) 0 0) [] [] []) := Lib.hid ⟨HT.1.mono hb1.size, HT.2.1.mono hb1.size, HT.2.2.1.mono hb1.size, HT.2.2.2.1, HT.2.2.2.2.1, HT.2.2.2.2.2.1, hb1.trans (HT.2.2.2.2.2.2.mono hb1.size)⟩
  clear hb1 HT
  go_wp2_with fail
  refine bodyPost_ret (v := .tuple #[_, _, _, .bool false]) (by simp [results, Try.results17, go_sem]) rfl ⟨_, _, _, rfl, T1.out⟩

set_option maxRecDepth 100000 in
set_option maxHeartbeats 1000000 in
theorem implChg_noB (g1 n c1 : Nat) (a : Nat → Cont) (g2 m c2 : Nat) (b : Nat → Cont) (hn : n ≤ 1048576) (hm : m ≤ 1048576) (ha : ∀ j, j < n → (a j).id.size ≤ 1048576) (hb : ∀ j, j < m → (b j).id.size ≤ 1048576) (hnc : n ≤ c1) (hmc : m ≤ c2) (w : World) (h1 : CAt w g1 0 n a) (h2 : CAt w g2 0 m b) (hL : listB n a = true) (hM : listB m b = false) :
    Calls Try.prog 17 #[.slice (some ⟨g1, 0, none⟩) n c1, .slice (some ⟨g2, 0, none⟩) m c2] w (TriPost w [] [] [] false) := by
  have K := Lib.hid (implList_any g1 n c1 a hn ha hnc _ h1)
  have K2 := Lib.hid (fun W (hW : Below w.heap.size w W) => implList_any g2 m c2 b hm hb hmc W (h2.below hW))
  rw [hL] at K
  rw [hM] at K2
  clear h1 h2 ha hb hL hM hnc hmc
  go_enter Try.func17, Try.ntmps17
  go_wp2_with fail
  refine K.out.mono ?_
  rintro e w1 ⟨rfl, hb1⟩
  have B1 := Lib.hid hb1
  clear hb1
  go_wp2_with fail
  refine (K2.out _ B1.out).mono ?_
  rintro e w2 ⟨rfl, hb2⟩
  have B2 : Below w.heap.size w w2 := B1.out.trans (hb2.mono B1.out.size)
  have HT := tri_empty w2
  have T1 : Hid (Tri w (((w2.alloc (.cells #[] 9)).alloc (.cells #[] 9)).alloc (.cells #[] 9)) (.slice (some ⟨w2.heap.size, 0, none⟩) 0 0) (.slice (some ⟨w2.heap.size + 1, 0, none⟩) 0 0) (.slice (some ⟨w2.heap.size + 1 + 1, 0, none⟩) 0 0) [] [] []) := Lib.hid ⟨HT.1.mono B2.size, HT.2.1.mono B2.size, HT.2.2.1.mono B2.size, HT.2.2.2.1, HT.2.2.2.2.1, HT.2.2.2.2.2.1, B2.trans (HT.2.2.2.2.2.2.mono B2.size)⟩
  clear hb2 HT B2
  go_wp2_with fail
  refine bodyPost_ret (v := .tuple #[_, _, _, .bool false]) (by simp [results, Try.results17, go_sem]) rfl ⟨_, _, _, rfl, T1.out⟩

set_option maxRecDepth 100000 in
set_option maxHeartbeats 4000000 in
theorem implChg_yes (g1 n c1 : Nat) (a : Nat → Cont) (g2 m c2 : Nat) (b : Nat → Cont) (hn : n ≤ 1048576) (hm : m ≤ 1048576) (ha : ∀ j, j < n → (a j).id.size ≤ 1048576) (hb : ∀ j, j < m → (b j).id.size ≤ 1048576) (hnc : n ≤ c1) (hmc : m ≤ c2) (w : World) (h1 : CAt w g1 0 n a) (h2 : CAt w g2 0 m b) (hL : listB n a = true) (hM : listB m b = true) :
    Calls Try.prog 17 #[.slice (some ⟨g1, 0, none⟩) n c1, .slice (some ⟨g2, 0, none⟩) m c2] w (TriPost w (srt [] (idsC (newL a b n m))) (srt [] (idsC (newL b a m n))) (srt [] (idsC (chgL a n b m))) true) := by
  obtain ⟨i0, hi, hz0, hz1, hz2⟩ := info_parts infoC
  have hn12 := ((listB_iff n a).1 hL).1
  have hm12 := ((listB_iff m b).1 hM).1
  have DA := Lib.hid (listB_dist hL)
  have DB := Lib.hid (listB_dist hM)
  have K := Lib.hid (implList_any g1 n c1 a hn ha hnc _ h1)
  have K2 := Lib.hid (fun W (hW : Below w.heap.size w W) => implList_any g2 m c2 b hm hb hmc W (h2.below hW))
  rw [hL] at K
  rw [hM] at K2
  have H1 := Lib.hid h1
  have H2 := Lib.hid h2
  have MA := Lib.hid (fun W (hW : Below w.heap.size w W) => byId_any g1 n c1 a hn ha W (h1.below hW))
  have MB := Lib.hid (fun W (hW : Below w.heap.size w W) => byId_any g2 m c2 b hm hb W (h2.below hW))
  have IA := Lib.hid ha
  have IB := Lib.hid hb
  clear h1 h2 ha hb hL hM hnc hmc
  go_enter Try.func17, Try.ntmps17
  go_wp2_with fail
  refine K.out.mono ?_
  rintro e w1 ⟨rfl, hb1⟩
  have B1 := Lib.hid hb1
  clear hb1
  go_wp2_with fail
  refine (K2.out _ B1.out).mono ?_
  rintro e w2 ⟨rfl, hb2⟩
  have B2 : Hid (Below w.heap.size w w2) := Lib.hid (B1.out.trans (hb2.mono B1.out.size))
  clear hb2
  go_wp2_with fail
  refine (MA.out _ B2.out).mono ?_
  rintro e w3 ⟨ba, ka, rfl, -, hma, hb3⟩
  have OA := Lib.hid hma
  have B3 : Hid (Below w.heap.size w w3) := Lib.hid (B2.out.trans (hb3.mono B2.out.size))
  clear hma hb3
  go_wp2_with fail
  refine (MB.out _ B3.out).mono ?_
  rintro e w4 ⟨bb, kb, rfl, -, hmb, hb4⟩
  have OA := Lib.hid (OA.out.kept (grown_of_below hb4 none) (by simp))
  have OB := Lib.hid hmb
  have B4 : Hid (Below w.heap.size w w4) := Lib.hid (B3.out.trans (hb4.mono B3.out.size))
  have J1 := Lib.hid (H1.out.below B4.out)
  have J2 := Lib.hid (H2.out.below B4.out)
  clear hmb hb4
  go_wp2_with fail
  go_loopw [10, 12, 13, 14, 32] (fun o _ _ _ i wr => ∃ k : Nat, k ≤ m ∧ i = .int .i64 k ∧ Hid (CRow wr w4.heap.size o (chgL a n b k)) ∧ Hid (Below w4.heap.size w4 wr)) (fun _ _ _ _ i _ => m - (RowKit.intOf i).toNat)
  case atStart => exact ⟨0, Nat.zero_le _, rfl, Lib.hid (World.ownsRow_nil _ _ _ _), Lib.hid (Below.refl _ _)⟩
  case round =>
    obtain ⟨k, hk, rfl, HR, HB⟩ := hrel
    have hln := chgL_len a n b k
    by_cases hlt : k < m
    · obtain ⟨a0, a1, a2, a3, a4⟩ := (J2.out.below HB.out).2 k hlt
      rw [Nat.zero_add] at *
      have HSz : Hid ((b k).id.size ≤ maxLen) := Lib.hid (by have := IB.out k hlt; unfold maxLen; omega)
      have HH := Lib.hid (mapD_has a (b k).id n)
      have HY := Lib.hid (mapD_at a (b k).id (.held zeroC) n DA.out)
      have hsz := HB.out.size
      have hm0 := OA.out.kept (grown_of_below HB.out none) (by simp)
      have HS : Hid (chgL a n b (k + 1) = if chQ a n (b k) then chgL a n b k ++ [b k] else chgL a n b k) := Lib.hid rfl
      by_cases hf : 0 ≤ findU a (b k).id n
      · obtain ⟨j, hj, hje, -⟩ := findU_pos hf
        have HH2 : Hid (Maps.has (mapD a n) (keyL (b k).id) = true) := Lib.hid (by rw [HH.out]; simpa using hf)
        have HY2 : Hid ((mapD a n).atKey (keyL (b k).id) (.held zeroC) = .held (.agg (contV (a j)))) := Lib.hid (by rw [HY.out, if_pos hf, hje]; rfl)
        have HQ2 : Hid (chQ a n (b k) = !sameC (a j) (b k)) := Lib.hid (by unfold chQ neC; rw [hje, decide_eq_true (by omega)]; rfl)
        have HE := Lib.hid (eqIn_cont (a j) (b k))
        clear hf hje HH HY
        generalize sameC (a j) (b k) = r at *
        generalize chgL a n b k = l at *
        generalize a j = x at *
        generalize b k = y at *
        obtain ⟨xid, xsz, xwt, xcg, xpt⟩ := x
        obtain ⟨id, sz, wt, cg, pt⟩ := y
        simp only [contV] at *
        have hm1 := hm0.alloc (.cells #[.string id, .int .i64 sz, .int .i64 wt, .int .i64 cg, .int .i64 pt] 49)
        clear hm0
        have hrow := (HR.out.alloc (.cells #[.string id, .int .i64 sz, .int .i64 wt, .int .i64 cg, .int .i64 pt] 49)).alloc (.cells #[.string xid, .int .i64 xsz, .int .i64 xwt, .int .i64 xcg, .int .i64 xpt] 49)
        have hB2 := Lib.hid ((HB.out.alloc hsz (.cells #[.string id, .int .i64 sz, .int .i64 wt, .int .i64 cg, .int .i64 pt] 49)).alloc (by simp; omega) (.cells #[.string xid, .int .i64 xsz, .int .i64 xwt, .int .i64 xcg, .int .i64 xpt] 49))
        cases r with
        | true =>
          have HS3 : Hid (chgL a n b (k + 1) = l) := Lib.hid (by rw [HS.out, HQ2.out]; rfl)
          have hRow := Lib.hid hrow
          clear hrow
          have he := HE.out
          have hgd := guard34
          go_wp2_with (at_lookup; refine wpList_look rfl _ _ rfl ba ka _ rfl hm1 id rfl HSz.out _ _ HY2.out HH2.out ?_)
          refine ⟨⟨k + 1, by omega, by go_num, by rw [HS3.out]; exact hRow, hB2⟩, by simp [RowKit.intOf]; omega⟩
        | false =>
          have HS3 : Hid (chgL a n b (k + 1) = l ++ [⟨id, sz, wt, cg, pt⟩]) := Lib.hid (by rw [HS.out, HQ2.out]; rfl)
          have he := HE.out
          have hgd := guard34
          go_wp2_with (first | (at_lookup; refine wpList_look rfl _ _ rfl ba ka _ rfl hm1 id rfl HSz.out _ _ HY2.out HH2.out ?_) | (at_builtin; refine wpList_append_own _ rfl _ _ 27 rfl w4.heap.size 49 i0 zeroC 5 48 Try.underlying27 hi hz0 hz1 hz2 rfl (by decide) _ _ _ rfl (hrow.alloc _) ⟨wr.heap.size + 1 + 1, 0, none⟩ 1 1 (encC ⟨id, sz, wt, cg, pt⟩) rfl rfl (by have := cell_arr_new ((wr.alloc (.cells #[.string id, .int .i64 sz, .int .i64 wt, .int .i64 cg, .int .i64 pt] 49)).alloc (.cells #[.string xid, .int .i64 xsz, .int .i64 xwt, .int .i64 xcg, .int .i64 xpt] 49)) #[.string id, .int .i64 sz, .int .i64 wt, .int .i64 cg, .int .i64 pt] 49; rw [World.size_alloc, World.size_alloc] at this; exact this) (enc_one _) (by unfold maxLen; omega) (by omega) (by simp; omega) ?_; intro v' w5 hown' hgrow _))
          have hB3 : Below w4.heap.size w4 w5 := (hB2.out.alloc (by simp; omega) _).grown hgrow (by simp; omega) (row_base hrow)
          refine ⟨⟨k + 1, by omega, by go_num, Lib.hid (by rw [HS3.out]; unfold CRow; rw [flatC_snoc]; simpa using hown'), Lib.hid hB3⟩, by simp [RowKit.intOf]; omega⟩
      · have HH2 : Hid (Maps.has (mapD a n) (keyL (b k).id) = false) := Lib.hid (by rw [HH.out]; simpa using hf)
        have HY2 : Hid ((mapD a n).atKey (keyL (b k).id) (.held zeroC) = .held (.agg #[.string ⟨#[]⟩, .int .i64 0, .int .i64 0, .int .i64 0, .int .i64 0])) := Lib.hid (by rw [HY.out, if_neg hf]; rfl)
        have HS3 : Hid (chgL a n b (k + 1) = chgL a n b k) := Lib.hid (by rw [HS.out, if_neg]; unfold chQ; rw [decide_eq_false hf, Bool.false_and]; decide)
        clear hf HH HY HS
        generalize chgL a n b k = l at *
        generalize b k = y at *
        obtain ⟨id, sz, wt, cg, pt⟩ := y
        simp only at *
        have hm1 := hm0.alloc (.cells #[.string id, .int .i64 sz, .int .i64 wt, .int .i64 cg, .int .i64 pt] 49)
        clear hm0
        have hRow := Lib.hid ((HR.out.alloc (.cells #[.string id, .int .i64 sz, .int .i64 wt, .int .i64 cg, .int .i64 pt] 49)).alloc (.cells #[.string ⟨#[]⟩, .int .i64 0, .int .i64 0, .int .i64 0, .int .i64 0] 49))
        have hB2 := Lib.hid ((HB.out.alloc hsz (.cells #[.string id, .int .i64 sz, .int .i64 wt, .int .i64 cg, .int .i64 pt] 49)).alloc (by simp; omega) (.cells #[.string ⟨#[]⟩, .int .i64 0, .int .i64 0, .int .i64 0, .int .i64 0] 49))
        go_wp2_with (at_lookup; refine wpList_look rfl _ _ rfl ba ka _ rfl hm1 id rfl HSz.out _ _ HY2.out HH2.out ?_)
        refine ⟨⟨k + 1, by omega, by go_num, by rw [HS3.out]; exact hRow, hB2⟩, by simp [RowKit.intOf]; omega⟩
    · obtain rfl : k = m := by omega
      have HW := Lib.hid (without_any g2 k c2 ba ka b (mapD a n) (look_zero a n DA.out) hm IB.out wr (J2.out.below HB.out) (OA.out.kept (grown_of_below HB.out none) (by simp)))
      have HV := Lib.hid (fun W (hW : Below wr.heap.size wr W) => without_any g1 n c1 bb kb a (mapD b k) (look_zero b k DB.out) hn IA.out W (J1.out.below (HB.out.trans (hW.mono HB.out.size))) (OB.out.kept (grown_of_below (HB.out.trans (hW.mono HB.out.size)) none) (by simp)))
      simp only [new_eq] at HW HV
      have l1 : (newL a b n k).length ≤ 12 := by have := filtL_len b (fun id => decide (findU a id n < 0)) k; unfold newL; omega
      have l2 : (newL b a k n).length ≤ 12 := by have := filtL_len a (fun id => decide (findU b id k < 0)) n; unfold newL; omega
      have l3 : (chgL a n b k).length ≤ 12 := by have := chgL_len a n b k; omega
      generalize newL a b n k = L1 at *
      generalize newL b a k n = L2 at *
      generalize chgL a n b k = L3 at *
      clear J1 J2 OA OB IA IB DA DB H1 H2 MA MB K K2 hm12 hn12
      go_wp2_with fail
      refine HW.out.mono ?_
      rintro e w5 ⟨v1, rfl, hr1, -, hb5⟩
      have S1 := Lib.hid (sortedIds_any v1 L1 wr.heap.size l1 w5 hr1)
      have Q5 := Lib.hid hb5
      clear hr1 hb5
      go_wp2_with fail
      refine S1.out.mono ?_
      rintro e w6 h6
      obtain ⟨x1, rfl, hx1, hb6⟩ := ids_row h6
      have X1 := Lib.hid hx1
      have Q6 := Lib.hid (Q5.out.trans (hb6.mono Q5.out.size))
      clear h6 hx1 hb6
      go_wp2_with fail
      refine (HV.out _ Q6.out).mono ?_
      rintro e w7 ⟨v2, rfl, hr2, -, hb7⟩
      have S2 := Lib.hid (sortedIds_any v2 L2 w6.heap.size l2 w7 hr2)
      have X1 := Lib.hid (row_below X1.out hb7)
      have Q7 := Lib.hid (Q6.out.trans (hb7.mono Q6.out.size))
      clear hr2 hb7
      go_wp2_with fail
      refine S2.out.mono ?_
      rintro e w8 h8
      obtain ⟨x2, rfl, hx2, hb8⟩ := ids_row h8
      have O21 := Lib.hid (off_new X1.out hx2)
      have X2 := Lib.hid hx2
      have X1 := Lib.hid (row_below X1.out hb8)
      have Q8 := Lib.hid (Q7.out.trans (hb8.mono Q7.out.size))
      clear h8 hx2 hb8
      have S3 := Lib.hid (sortedIds_any _ L3 w4.heap.size l3 w8 (row_below HR.out Q8.out))
      go_wp2_with fail
      refine S3.out.mono ?_
      rintro e w9 h9
      obtain ⟨x3, rfl, hx3, hb9⟩ := ids_row h9
      have T : Hid (Tri w w9 x1 x2 x3 (srt [] (idsC L1)) (srt [] (idsC L2)) (srt [] (idsC L3))) := Lib.hid (by
        have b4 := B4.out.size
        have bb := HB.out.size
        have b5 := Q5.out.size
        have b7 := Q7.out.size
        have b8 := Q8.out.size
        have hB : Below w.heap.size w w8 := (B4.out.trans (HB.out.mono b4)).trans (Q8.out.mono (by omega))
        exact ⟨(row_below X1.out hb9).mono (by omega), (row_below X2.out hb9).mono (by omega), hx3.mono (by omega), O21.out.symm, (off_new X1.out hx3).symm, (off_new X2.out hx3).symm, hB.trans (hb9.mono hB.size)⟩)
      clear h9 hx3 hb9
      go_wp2_with fail
      refine bodyPost_ret (v := .tuple #[_, _, _, .bool true]) (by simp [results, Try.results17, go_sem]) rfl ⟨_, _, _, rfl, T.out⟩
end Go.Proofs.Ytpmaaflpknjbmaa.C
