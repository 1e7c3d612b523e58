/-
  What impl.MergeManifests returns. No statement of the seat by itself.
-/
import Derived.Test.YtpmaaflpknjbmaaCMergeS
import Derived.Laws.AppendOwnNone
namespace Go.Proofs.Ytpmaaflpknjbmaa.C
open Go.RowKit

set_option maxRecDepth 100000 in
set_option maxHeartbeats 1000000 in
theorem implMerge_noA (g1 n c1 : Nat) (a : Nat → Cont) (g2 m c2 : Nat) (hn : n ≤ 1048576) (ha : ∀ j, j < n → (a j).id.size ≤ 1048576) (hnc : n ≤ c1) (w : World) (h1 : CAt w g1 0 n a) (hL : listB n a = false) :
    Calls Try.prog 22 #[.slice (some ⟨g1, 0, none⟩) n c1, .slice (some ⟨g2, 0, none⟩) m c2] w (OneRow w [] false) := by
  have K := Lib.hid (implList_any g1 n c1 a hn ha hnc _ h1)
  rw [hL] at K
  clear h1 ha hL hnc
  go_enter Try.func22, Try.ntmps22
  go_wp2_with fail
  refine K.out.mono ?_
  rintro e w1 ⟨rfl, hb1⟩
  have B1 := Lib.hid hb1
  clear hb1
  go_wp2_with fail
  go_ret2
  exact ⟨_, rfl, (crow_empty w1 _ rfl).mono B1.out.size, B1.out.alloc B1.out.size _⟩

set_option maxRecDepth 100000 in
set_option maxHeartbeats 1000000 in
theorem implMerge_noB (g1 n c1 : Nat) (a : Nat → Cont) (g2 m c2 : Nat) (b : Nat → Cont) (hn : n ≤ 1048576) (hm : m ≤ 1048576) (ha : ∀ j, j < n → (a j).id.size ≤ 1048576) (hb : ∀ j, j < m → (b j).id.size ≤ 1048576) (hnc : n ≤ c1) (hmc : m ≤ c2) (w : World) (h1 : CAt w g1 0 n a) (h2 : CAt w g2 0 m b) (hL : listB n a = true) (hM : listB m b = false) :
    Calls Try.prog 22 #[.slice (some ⟨g1, 0, none⟩) n c1, .slice (some ⟨g2, 0, none⟩) m c2] w (OneRow w [] false) := by
  have K := Lib.hid (implList_any g1 n c1 a hn ha hnc _ h1)
  have K2 := Lib.hid (fun W (hW : Below w.heap.size w W) => implList_any g2 m c2 b hm hb hmc W (h2.below hW))
  rw [hL] at K
  rw [hM] at K2
  clear h1 h2 ha hb hL hM hnc hmc
  go_enter Try.func22, Try.ntmps22
  go_wp2_with fail
  refine K.out.mono ?_
  rintro e w1 ⟨rfl, hb1⟩
  have B1 := Lib.hid hb1
  clear hb1
  go_wp2_with fail
  refine (K2.out _ B1.out).mono ?_
  rintro e w2 ⟨rfl, hb2⟩
  have B2 : Hid (Below w.heap.size w w2) := Lib.hid (B1.out.trans (hb2.mono B1.out.size))
  clear hb2
  go_wp2_with fail
  go_ret2
  exact ⟨_, rfl, (crow_empty w2 _ rfl).mono B2.out.size, B2.out.alloc B2.out.size _⟩

theorem look_zero (f : Nat → Cont) (n : Nat) (hd : ∀ i j, i < j → j < n → (f i).id ≠ (f j).id) (id : ByteArray) : ∃ x, (mapD f n).atKey (keyL id) (.held zeroC) = .held (.agg (contV x)) := by
  rw [mapD_at f id _ n hd]
  split
  · exact ⟨_, rfl⟩
  · exact ⟨⟨⟨#[]⟩, 0, 0, 0, 0⟩, rfl⟩

theorem flat_one : ∀ l : List Cont, ∀ u ∈ flatC l, u.oneCell' = true
  | [], u, h => by simp [flatC] at h
  | c :: l, u, h => by
    rw [flatC] at h
    rcases List.mem_append.1 h with h1 | h1
    · exact enc_one c u h1
    · exact flat_one l u h1
theorem acc_append {w wr w3 : World} {o v' : Value} {l l2 : List Cont} (h : Acc w wr o l)
    (hown : w3.ownsRow w.heap.size 49 5 v' (l.length + l2.length) (flatC l ++ flatC l2)) (hg : wr.grownBy w3 o.ownBlock) (hnil : v' = .slice none 0 0 ↔ o = .slice none 0 0 ∧ l2.length = 0) : Acc w w3 v' (l ++ l2) := by
  refine ⟨?_, fun e => h.2.1 (hnil.1 e).1, h.2.2.grown hg h.2.2.size (row_base h.1)⟩
  unfold CRow; rw [flatC_app]; simpa using hown
theorem new_eq (a b : Nat → Cont) (n m : Nat) : filtL b (fun id => !Maps.has (mapD a n) (keyL id)) m = newL a b n m := by
  unfold newL
  congr 1
  funext id
  rw [mapD_has]
  by_cases h : 0 ≤ findU a id n
  · rw [decide_eq_true h, decide_eq_false (by omega)]; rfl
  · rw [decide_eq_false h, decide_eq_true (by omega)]; rfl

set_option maxRecDepth 100000 in
set_option maxHeartbeats 4000000 in
theorem implMerge_yes (g1 n c1 : Nat) (a : Nat → Cont) (g2 m c2 : Nat) (b : Nat → Cont) (hn : n ≤ 1048576) (hm : m ≤ 1048576) (ha : ∀ j, j < n → (a j).id.size ≤ 1048576) (hb : ∀ j, j < m → (b j).id.size ≤ 1048576) (hnc : n ≤ c1) (hmc : m ≤ c2) (w : World) (h1 : CAt w g1 0 n a) (h2 : CAt w g2 0 m b) (hL : listB n a = true) (hM : listB m b = true) (L : List Cont) (ok : Bool) (hB : mergeB a b n m = ok) (hLok : L = if ok then mergeL a b n m else []) :
    Calls Try.prog 22 #[.slice (some ⟨g1, 0, none⟩) n c1, .slice (some ⟨g2, 0, none⟩) m c2] w (OneRow w L ok) := by
  have HB := Lib.hid hB
  have HL := Lib.hid hLok
  clear hB hLok
  obtain ⟨i0, hi, hz0, hz1, hz2⟩ := info_parts infoC
  have hn12 := ((listB_iff n a).1 hL).1
  have hm12 := ((listB_iff m b).1 hM).1
  have DA := Lib.hid (listB_dist hL)
  have DB := Lib.hid (listB_dist hM)
  have K := Lib.hid (implList_any g1 n c1 a hn ha hnc _ h1)
  have K2 := Lib.hid (fun W (hW : Below w.heap.size w W) => implList_any g2 m c2 b hm hb hmc W (h2.below hW))
  rw [hL] at K
  rw [hM] at K2
  have H1 := Lib.hid h1
  have H2 := Lib.hid h2
  have MA := Lib.hid (fun W (hW : Below w.heap.size w W) => byId_any g1 n c1 a hn ha W (h1.below hW))
  have MB := Lib.hid (fun W (hW : Below w.heap.size w W) => byId_any g2 m c2 b hm hb W (h2.below hW))
  have IA := Lib.hid ha
  have IB := Lib.hid hb
  have HS : Hid (∀ j, j < (mergeL a b n m).length → ((mergeL a b n m)[j]!).id.size ≤ 1048576) := Lib.hid (all_at (mergeL_all a b n m (fun x => x.id.size ≤ 1048576) ha hb))
  have hlen := mergeL_len a b n m
  clear h1 h2 ha hb hL hM hnc hmc
  go_enter Try.func22, Try.ntmps22
  go_wp2_with fail
  refine K.out.mono ?_
  rintro e w1 ⟨rfl, hb1⟩
  have B1 := Lib.hid hb1
  clear hb1
  go_wp2_with fail
  refine (K2.out _ B1.out).mono ?_
  rintro e w2 ⟨rfl, hb2⟩
  have B2 : Hid (Below w.heap.size w w2) := Lib.hid (B1.out.trans (hb2.mono B1.out.size))
  clear hb2
  go_wp2_with fail
  refine (MA.out _ B2.out).mono ?_
  rintro e w3 ⟨ba, ka, rfl, -, hma, hb3⟩
  have OA := Lib.hid hma
  have B3 : Hid (Below w.heap.size w w3) := Lib.hid (B2.out.trans (hb3.mono B2.out.size))
  clear hma hb3
  go_wp2_with fail
  refine (MB.out _ B3.out).mono ?_
  rintro e w4 ⟨bb, kb, rfl, -, hmb, hb4⟩
  have OA := Lib.hid (OA.out.kept (grown_of_below hb4 none) (by simp))
  have OB := Lib.hid hmb
  have B4 : Hid (Below w.heap.size w w4) := Lib.hid (B3.out.trans (hb4.mono B3.out.size))
  have J1 := Lib.hid (H1.out.below B4.out)
  have J2 := Lib.hid (H2.out.below B4.out)
  clear hmb hb4
  have A4 := Lib.hid (acc_empty w4)
  go_wp2_with fail
  go_loopw [8, 10, 11, 12, 29] (fun o _ _ _ i wr => ∃ k : Nat, k ≤ n ∧ i = .int .i64 k ∧ Hid (Acc w4 wr o (repL a b m k))) (fun _ _ _ _ i _ => n - (intOf i).toNat)
  case atStart => exact ⟨0, Nat.zero_le _, rfl, A4⟩
  case round =>
    obtain ⟨k, hk, rfl, HR⟩ := hrel
    have hln := repL_len a b m k
    by_cases hlt : k < n
    · obtain ⟨a0, a1, a2, a3, a4⟩ := (J1.out.below HR.out.2.2).2 k hlt
      rw [Nat.zero_add] at *
      have HSz : Hid ((a k).id.size ≤ maxLen) := Lib.hid (by have := IA.out k hlt; unfold maxLen; omega)
      have HH := Lib.hid (mapD_has b (a k).id m)
      have HY := Lib.hid (mapD_at b (a k).id (.held zeroC) m DB.out)
      have hsz := HR.out.2.2.size
      have hm0 := OB.out.kept (grown_of_below HR.out.2.2 none) (by simp)
      by_cases hf : 0 ≤ findU b (a k).id m
      · obtain ⟨j, hj, hje, -⟩ := findU_pos hf
        have HP : Hid (repL a b m (k + 1) = repL a b m k ++ [b j]) := Lib.hid (by rw [repL, repC, if_pos hf, hje]; rfl)
        have HH2 : Hid (Maps.has (mapD b m) (keyL (a k).id) = true) := Lib.hid (by rw [HH.out]; simpa using hf)
        have HY2 : Hid ((mapD b m).atKey (keyL (a k).id) (.held zeroC) = .held (.agg (contV (b j)))) := Lib.hid (by rw [HY.out, if_pos hf, hje]; rfl)
        clear hf hje HH HY
        generalize repL a b m k = l at *
        generalize a k = x at *
        generalize b j = y at *
        obtain ⟨xid, xsz, xwt, xcg, xpt⟩ := x
        obtain ⟨id, sz, wt, cg, pt⟩ := y
        simp only [contV] at *
        have hm1 := hm0.alloc (.cells #[.string xid, .int .i64 xsz, .int .i64 xwt, .int .i64 xcg, .int .i64 xpt] 49)
        clear hm0
        have hrow := (HR.out.1.alloc (.cells #[.string id, .int .i64 sz, .int .i64 wt, .int .i64 cg, .int .i64 pt] 49)).alloc (.cells #[.string id, .int .i64 sz, .int .i64 wt, .int .i64 cg, .int .i64 pt] 49)
        have AR := Lib.hid (HR.out.below (((Below.refl _ wr).alloc (Nat.le_refl _) (.cells #[.string id, .int .i64 sz, .int .i64 wt, .int .i64 cg, .int .i64 pt] 49)).alloc (by simp) (.cells #[.string id, .int .i64 sz, .int .i64 wt, .int .i64 cg, .int .i64 pt] 49)))
        go_wp2_with (first | (at_lookup; refine wpList_look rfl _ _ rfl bb kb _ rfl hm1 xid rfl HSz.out _ _ HY2.out HH2.out ?_) | (at_builtin; refine wpList_append_own _ rfl _ _ 27 rfl w4.heap.size 49 i0 zeroC 5 48 Try.underlying27 hi hz0 hz1 hz2 rfl (by decide) _ _ _ rfl (hrow.alloc _) ⟨wr.heap.size + 1 + 1, 0, none⟩ 1 1 (encC ⟨id, sz, wt, cg, pt⟩) rfl rfl (by have := cell_arr_new ((wr.alloc (.cells #[.string id, .int .i64 sz, .int .i64 wt, .int .i64 cg, .int .i64 pt] 49)).alloc (.cells #[.string id, .int .i64 sz, .int .i64 wt, .int .i64 cg, .int .i64 pt] 49)) #[.string id, .int .i64 sz, .int .i64 wt, .int .i64 cg, .int .i64 pt] 49; rw [World.size_alloc, World.size_alloc] at this; exact this) (enc_one _) (by unfold maxLen; omega) (by omega) (by simp; omega) ?_; intro v' w5 hown' hgrow hnil))
        have hA3 := acc_step (c := ⟨id, sz, wt, cg, pt⟩) (AR.out.below ((Below.refl _ _).alloc (Nat.le_refl _) _)) hown' hgrow hnil
        refine ⟨⟨k + 1, by omega, by go_num, Lib.hid (by rw [HP.out]; exact hA3)⟩, by simp [intOf]; omega⟩
      · have HP : Hid (repL a b m (k + 1) = repL a b m k ++ [a k]) := Lib.hid (by rw [repL, repC, if_neg hf])
        have HH2 : Hid (Maps.has (mapD b m) (keyL (a k).id) = false) := Lib.hid (by rw [HH.out]; simpa using hf)
        have HY2 : Hid ((mapD b m).atKey (keyL (a k).id) (.held zeroC) = .held (.agg #[.string ⟨#[]⟩, .int .i64 0, .int .i64 0, .int .i64 0, .int .i64 0])) := Lib.hid (by rw [HY.out, if_neg hf]; rfl)
        clear hf HH HY
        generalize repL a b m k = l at *
        generalize a k = y at *
        obtain ⟨id, sz, wt, cg, pt⟩ := y
        simp only at *
        have hm1 := hm0.alloc (.cells #[.string id, .int .i64 sz, .int .i64 wt, .int .i64 cg, .int .i64 pt] 49)
        clear hm0
        have hrow := (HR.out.1.alloc (.cells #[.string id, .int .i64 sz, .int .i64 wt, .int .i64 cg, .int .i64 pt] 49)).alloc (.cells #[.string ⟨#[]⟩, .int .i64 0, .int .i64 0, .int .i64 0, .int .i64 0] 49)
        have AR := Lib.hid (HR.out.below (((Below.refl _ wr).alloc (Nat.le_refl _) (.cells #[.string id, .int .i64 sz, .int .i64 wt, .int .i64 cg, .int .i64 pt] 49)).alloc (by simp) (.cells #[.string ⟨#[]⟩, .int .i64 0, .int .i64 0, .int .i64 0, .int .i64 0] 49)))
        go_wp2_with (first | (at_lookup; refine wpList_look rfl _ _ rfl bb kb _ rfl hm1 id rfl HSz.out _ _ HY2.out HH2.out ?_) | (at_builtin; refine wpList_append_own _ rfl _ _ 27 rfl w4.heap.size 49 i0 zeroC 5 48 Try.underlying27 hi hz0 hz1 hz2 rfl (by decide) _ _ _ rfl (hrow.alloc _) ⟨wr.heap.size + 1 + 1, 0, none⟩ 1 1 (encC ⟨id, sz, wt, cg, pt⟩) rfl rfl (by have := cell_arr_new ((wr.alloc (.cells #[.string id, .int .i64 sz, .int .i64 wt, .int .i64 cg, .int .i64 pt] 49)).alloc (.cells #[.string ⟨#[]⟩, .int .i64 0, .int .i64 0, .int .i64 0, .int .i64 0] 49)) #[.string id, .int .i64 sz, .int .i64 wt, .int .i64 cg, .int .i64 pt] 49; rw [World.size_alloc, World.size_alloc] at this; exact this) (enc_one _) (by unfold maxLen; omega) (by omega) (by simp; omega) ?_; intro v' w5 hown' hgrow hnil))
        have hA3 := acc_step (c := ⟨id, sz, wt, cg, pt⟩) (AR.out.below ((Below.refl _ _).alloc (Nat.le_refl _) _)) hown' hgrow hnil
        refine ⟨⟨k + 1, by omega, by go_num, Lib.hid (by rw [HP.out]; exact hA3)⟩, by simp [intOf]; omega⟩
    · obtain rfl : k = n := by omega
      have HW := Lib.hid (without_any g2 m c2 ba ka b (mapD a k) (look_zero a k DA.out) hm IB.out wr (J2.out.below HR.out.2.2) (OA.out.kept (grown_of_below HR.out.2.2 none) (by simp)))
      rw [new_eq] at HW
      have hl2 : (newL a b k m).length ≤ m := filtL_len b _ m
      have hl1 := repL_len a b m k
      generalize hml : mergeL a b k m = ML at *
      have HM2 : Hid (repL a b m k ++ newL a b k m = ML) := Lib.hid (by rw [← hml]; rfl)
      have HB2 : Hid (listB ML.length (fun j => ML[j]!) = ok) := Lib.hid (by rw [← hml]; exact HB.out)
      clear hml HB
      generalize repL a b m k = l at *
      generalize newL a b k m = l2 at *
      go_wp2_with fail
      refine HW.out.mono ?_
      rintro e w5 ⟨v2, rfl, hr2, hn2, hb5⟩
      have HR5 := Lib.hid (HR.out.below hb5)
      have key : ∀ (v' : Value) (w6 : World), Acc w4 w6 v' ML → ∀ (g cap : Nat), v' = .slice (some ⟨g, 0, none⟩) ML.length cap → ML.length ≤ cap → CAt w6 g 0 ML.length (fun j => ML[j]!) → Calls Try.prog 29 #[v'] w6 (GoodPost w6 ok) := fun v' w6 hA g cap hv hc hat => by
        subst hv
        have := implList_any g ML.length cap (fun j => ML[j]!) (by omega) HS.out hc w6 hat
        rwa [HB2.out] at this
      have KEY := Lib.hid key
      clear key HB2 HS
      by_cases h0 : l2 = []
      · have hv2 := hn2.2 h0
        subst hv2
        subst h0
        have hrow := HR5.out.1
        have HA : Hid (Acc w4 w5 u8 ML) := Lib.hid (by rw [← HM2.out, List.append_nil]; exact HR5.out)
        obtain ⟨gv, cap, rfl, hcap, hat⟩ := acc_form HA.out
        have HC := Lib.hid (KEY.out _ _ HA.out gv cap rfl hcap hat)
        clear hr2 hn2 hb5 hat
        cases ok with
        | true =>
          have HL2 : Hid (L = ML) := Lib.hid HL.out
          clear HL
          go_wp2_with (at_builtin; refine wpList_append_own_none rfl _ _ 27 rfl w4.heap.size 49 i0 5 Try.underlying27 hi _ l.length (flatC l) rfl hrow rfl ?_)
          refine HC.out.mono ?_
          rintro e w7 ⟨rfl, hb7⟩
          have HQ3 := Lib.hid (HA.out.below hb7)
          clear hb7
          go_wp2_with fail
          go_ret2
          exact ⟨_, rfl, by rw [HL2.out]; exact HQ3.out.1.mono B4.out.size, B4.out.trans (HQ3.out.2.2.mono B4.out.size)⟩
        | false =>
          have HL2 : Hid (L = []) := Lib.hid HL.out
          clear HL
          go_wp2_with (at_builtin; refine wpList_append_own_none rfl _ _ 27 rfl w4.heap.size 49 i0 5 Try.underlying27 hi _ l.length (flatC l) rfl hrow rfl ?_)
          refine HC.out.mono ?_
          rintro e w7 ⟨rfl, hb7⟩
          have BQ : Hid (Below w.heap.size w w7) := Lib.hid (B4.out.trans ((HA.out.below hb7).2.2.mono B4.out.size))
          clear hb7
          go_wp2_with fail
          go_ret2
          exact ⟨_, rfl, by rw [HL2.out]; exact (crow_empty w7 _ rfl).mono BQ.out.size, BQ.out.alloc BQ.out.size _⟩
      · have hrow := HR5.out.1
        unfold CRow at hrow
        rcases hr2.2 with ⟨hv2, _⟩ | ⟨gx, capx, curx, rfl, hgx, hbx, -⟩
        · exact absurd (hn2.1 hv2) h0
        · have HX := Lib.hid (World.ownsRow.cells hr2 (g := gx) rfl)
          have hfx := flatC_len l2
          clear hr2 hn2 hb5 hbx hgx
          have HE : Hid (l2.length ≠ 0) := Lib.hid (fun h => h0 (List.length_eq_zero_iff.1 h))
          clear h0
          have hm2 : l.length + l2.length ≤ 24 := by omega
          have hw5 := HR5.out.2.2.size
          have FIN : Hid (∀ v' w6, w6.ownsRow w4.heap.size 49 5 v' (l.length + l2.length) (flatC l ++ flatC l2) → w5.grownBy w6 u8.ownBlock → (v' = .slice none 0 0 ↔ u8 = .slice none 0 0 ∧ l2.length = 0) → ∃ g cap, v' = .slice (some ⟨g, 0, none⟩) ML.length cap ∧ Acc w4 w6 v' ML ∧ Calls Try.prog 29 #[v'] w6 (GoodPost w6 ok)) := Lib.hid fun v' w6 h1 h2 h3 => by
            have hA := acc_append HR5.out h1 h2 h3
            rw [HM2.out] at hA
            obtain ⟨gv, cap, hv, hcap, hat⟩ := acc_form hA
            exact ⟨gv, cap, hv, hA, KEY.out _ _ hA gv cap hv hcap hat⟩
          go_wp2_with (at_builtin; refine wpList_append_own _ rfl _ _ 27 rfl w4.heap.size 49 i0 zeroC 5 48 Try.underlying27 hi hz0 hz1 hz2 rfl (by decide) _ _ _ rfl hrow ⟨gx, 0, none⟩ l2.length capx (flatC l2) rfl hfx HX.out (flat_one l2) (by unfold maxLen; omega) (by omega) hw5 ?_; intro v' w6 hown' hgrow hnil; obtain ⟨gv, cap, hv, hA, hC⟩ := FIN.out v' w6 hown' hgrow hnil; have HA := Lib.hid hA; have HC := Lib.hid hC; have HV := Lib.hid hv; clear hown' hgrow hnil hA hC hv)
          cases ok with
          | true =>
            have HL2 : Hid (L = ML) := Lib.hid HL.out
            clear HL
            refine HC.out.mono ?_
            rintro e w7 ⟨rfl, hb7⟩
            have HQ3 := Lib.hid (HA.out.below hb7)
            clear hb7
            go_wp2_with fail
            go_ret2
            exact ⟨_, rfl, by rw [HL2.out]; exact HQ3.out.1.mono B4.out.size, B4.out.trans (HQ3.out.2.2.mono B4.out.size)⟩
          | false =>
            have HL2 : Hid (L = []) := Lib.hid HL.out
            clear HL
            refine HC.out.mono ?_
            rintro e w7 ⟨rfl, hb7⟩
            have BQ : Hid (Below w.heap.size w w7) := Lib.hid (B4.out.trans ((HA.out.below hb7).2.2.mono B4.out.size))
            clear hb7
            go_wp2_with fail
            go_ret2
            exact ⟨_, rfl, by rw [HL2.out]; exact (crow_empty w7 _ rfl).mono BQ.out.size, BQ.out.alloc BQ.out.size _⟩
end Go.Proofs.Ytpmaaflpknjbmaa.C
