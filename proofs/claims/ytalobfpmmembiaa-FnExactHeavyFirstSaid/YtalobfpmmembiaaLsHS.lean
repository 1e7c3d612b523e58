/-
  What spec.HeavyFirst returns. No statement of the seat by itself.
-/
import Derived.Test.YtalobfpmmembiaaLsH
import Derived.BigQuiet
namespace Go.Proofs.Ytalobfpmmembiaa
open Go.RowKit

/-- A weight put into its place among heavier and lighter ones. -/
theorem hv_step {S L : List Int} {x : Int} {k : Nat} (hp : S.Perm L) (hd : S.Pairwise fun a b : Int => b ≤ a) (h1 : ∀ (j : Nat) (y : Int), k ≤ j → S[j]? = some y → y < x) (h2 : k = 0 ∨ ∃ y, S[k - 1]? = some y ∧ ¬ y < x) (hk : k ≤ S.length) :
    (S.take k ++ [x] ++ S.drop k).Perm (L ++ [x]) ∧ (S.take k ++ [x] ++ S.drop k).Pairwise fun a b : Int => b ≤ a := by
  constructor
  · refine List.Perm.trans ?_ (hp.append_right [x])
    rw [List.append_assoc]
    refine (List.perm_append_comm (l₁ := [x]) (l₂ := S.drop k)).append_left (S.take k) |>.trans ?_
    rw [← List.append_assoc, List.take_append_drop]
  · have hup : ∀ a ∈ S.take k, x ≤ a := fun a ha => by
      rcases h2 with h2 | ⟨y, hy, hyx⟩
      · subst h2; simp at ha
      · obtain ⟨j, hj⟩ := List.getElem?_of_mem ha
        rw [List.getElem?_take] at hj
        split at hj
        · rename_i hjk
          by_cases e : j = k - 1
          · subst e; rw [hy] at hj; cases hj; omega
          · have hjl := lt_of_get hj
            have hyl := lt_of_get hy
            have := (List.pairwise_iff_getElem.1 hd) j (k - 1) hjl hyl (by omega)
            rw [List.getElem?_eq_getElem hjl] at hj
            rw [List.getElem?_eq_getElem hyl] at hy
            cases hj; cases hy
            omega
        · cases hj
    have hdn : ∀ a ∈ S.drop k, a < x := fun a ha => by
      obtain ⟨j, hj⟩ := List.getElem?_of_mem ha
      rw [List.getElem?_drop] at hj
      exact h1 _ _ (by omega) hj
    have e := List.take_append_drop k S
    rw [← e] at hd
    obtain ⟨d1, d2, d3⟩ := List.pairwise_append.1 hd
    rw [List.append_assoc, List.pairwise_append]
    refine ⟨d1, ?_, fun a ha b hb => ?_⟩
    · rw [List.singleton_append, List.pairwise_cons]
      exact ⟨fun b hb => by have := hdn b hb; omega, d2⟩
    · rcases List.mem_append.1 hb with hb | hb
      · rw [List.mem_singleton] at hb
        subst hb
        exact hup a ha
      · exact d3 a ha b hb
theorem hv_done {S l : List Int} (hp : S.Perm l) (hd : S.Pairwise fun a b : Int => b ≤ a) : S = (srtI l).reverse := by
  refine List.Perm.eq_of_pairwise (le := fun a b : Int => b ≤ a) (fun a b _ _ h1 h2 => by omega) hd ?_ (hp.trans ((srtI_perm l).symm.trans (List.reverse_perm _).symm))
  rw [List.pairwise_reverse]
  exact srtI_asc l

set_option maxRecDepth 100000 in
set_option maxHeartbeats 16000000 in
theorem specHv_any (v : Value) (l : List Int) (hn : l.length ≤ 1048576) (w : World) (h : IL w v l) :
    Calls Try.prog 23 #[v] w (RetL w (hvR l) (goodW l 4)) := by
  have hB0 := below_one w (.cells #[] 3)
  have HG := Lib.hid (l12Good_any v l hn _ (h.below hB0))
  have HN0 := Lib.hid (numS_start w)
  obtain ⟨p, cap, rfl, hc⟩ := h
  have HC := Lib.hid hc
  clear hc hB0
  cases hg : goodW l 4 with
  | false =>
    rw [hg] at HG
    rw [show hvR l = [] by simp [hvR, hg]]
    clear hg
    go_enter Try.func23, Try.ntmps23
    go_wp2_with fail
    refine HG.out.mono ?_
    rintro e w1 ⟨rfl, hb⟩
    have HN1 := Lib.hid (HN0.out.below hb)
    clear hb
    go_wp2_with fail
    go_ret2
    exact retL_of (l := []) HN1.out.1 (Nat.le_refl _) HN1.out.2.1
  | true =>
    rw [hg] at HG
    rw [show hvR l = (srtI l).reverse by simp [hvR, hg]]
    have hl4 := goodW_len hg
    have HF := Lib.hid (fun S => hv_done (S := S) (l := l))
    obtain ⟨n, hln⟩ : ∃ n, l.length = n := ⟨_, rfl⟩
    have HN := Lib.hid hln
    rw [hln] at HG hl4 ⊢
    generalize (srtI l).reverse = R at *
    clear hg hln hn
    go_enter Try.func23, Try.ntmps23
    go_wp2_with fail
    refine HG.out.mono ?_
    rintro e w1 ⟨rfl, hb⟩
    have HN1 := Lib.hid (HN0.out.below hb)
    clear hb
    go_wp2_with fail
    go_loopw [4, 5] (fun s ii wr => ∃ (i : Nat) (S : List Int), i ≤ n ∧ ii = .int .i64 i ∧ Hid (NumS w wr s S) ∧ Hid (S.Perm (l.take i) ∧ S.Pairwise fun a b : Int => b ≤ a)) (fun _ ii _ => n - (intOf ii).toNat)
    case atStart => exact ⟨0, [], Nat.zero_le _, rfl, HN1, Lib.hid ⟨by simp, List.Pairwise.nil⟩⟩
    case round =>
      obtain ⟨i, S, hi, rfl, HS, HP⟩ := hrel
      rename World => wo
      have HLi : Hid (S.length = i) := Lib.hid (by have := HP.out.1.length_eq; rw [List.length_take] at this; have := HN.out; omega)
      by_cases hlt : i < n
      · obtain ⟨x, hx⟩ := get_at HN.out hlt
        obtain ⟨gc, oc, rfl, hgc, hcc⟩ := HC.out (by have := HN.out; omega)
        have xc0 := hcc i x hx
        have XC := Lib.hid (fun W (hb : Below w.heap.size w W) => (hb.cell (p := ⟨gc, oc + i, none⟩) hgc).trans xc0)
        have HT : Hid (l.take (i + 1) = l.take i ++ [x]) := Lib.hid (by rw [List.take_add_one, hx]; rfl)
        have HS' := HS.out.1.2
        rcases HS' with ⟨e, _⟩ | ⟨g2, cap2, cur, rfl, hg2, hb2, hcp, hcp2, hcp3, hcp4⟩
        · exact absurd e HS.out.2.2
        have hg2w : g2 < wo.heap.size := (Array.getElem?_eq_some_iff.1 hb2).1
        have HG2 := Lib.hid (And.intro hg2 hg2w)
        have hSc : ∀ (wr : World) (hw : NumS w wr (.slice (some ⟨g2, 0, none⟩) S.length cap2) S) (j : Nat) (y : Int), S[j]? = some y → wr.cell? ⟨g2, j, none⟩ = some (.int .i64 y) := fun wr hw j y hy => by
          have hj := lt_of_get hy
          rw [hw.1.cellAt j (by omega), intV_get, hy]
          rfl
        have HSc := Lib.hid hSc
        rw [HLi.out] at HS hcp HSc ⊢
        clear hg2 hb2 hcp3 hcp4 hSc xc0 hcc hx hg2w
        go_wp2_with fail
        go_loopw [6] (fun kk wr => ∃ k : Nat, k ≤ i ∧ kk = .int .i64 k ∧ Hid (NumS w wr (.slice (some ⟨g2, 0, none⟩) i cap2) S) ∧ Hid (∀ (j : Nat) (y : Int), k ≤ j → S[j]? = some y → y < x)) (fun kk _ => (intOf kk).toNat)
        case atStart => exact ⟨i, Nat.le_refl _, rfl, HS, Lib.hid fun j y hj hy => by have := lt_of_get hy; have := HLi.out; omega⟩
        case round =>
          obtain ⟨k, hk, rfl, HS2, HK⟩ := hrel
          rename World => wr
          have o1 := XC.out wr HS2.out.2.1
          have hki : (i : Int) < (n : Int) := by omega
          by_cases hk0 : k = 0
          case pos =>
            subst hk0
            go_wp2_with fail
            go_quiet (fail)
            have HSd := Lib.hid (HS2.out.below (below_drewN (Below.refl _ _) nq))
            generalize wr.drewN nq = w9 at *
            have xw := XC.out w9 HSd.out.2.1
            have HGc : Hid (gc < w9.heap.size) := Lib.hid (Nat.lt_of_lt_of_le hgc HSd.out.2.1.size)
            have hcS : ∀ j, j < i → w9.cell? ⟨g2, j, none⟩ = some (.int .i64 (S.getD j 0)) := fun j hj => HSc.out w9 HSd.out j _ (by rw [List.getD, List.getElem?_eq_getElem (by have := HLi.out; omega)]; rfl)
            have hlS := HLi.out
            have hg9 : g2 < w9.heap.size := row_lt HSd.out.1 g2 rfl
            have SA := Lib.hid (fun W hb => srcI_take (k := 0) hk hcS hlS hg9 W hb)
            have SB := Lib.hid (fun W hb off ho => srcI_drop (k := 0) hcS hlS hg9 W hb off ho)
            have HX : Hid (∀ x ∈ (intV S).take (0), x.oneCell' = true) := Lib.hid fun x hx => intV_one S x (List.mem_of_mem_take hx)
            have HY : Hid (∀ x ∈ (intV S).drop (0), x.oneCell' = true) := Lib.hid fun x hx => intV_one S x (List.mem_of_mem_drop hx)
            have LX : Hid (((intV S).take (0)).length = 0) := Lib.hid (by rw [List.length_take, intV_len]; omega)
            have LY : Hid (((intV S).drop (0)).length = i - (0)) := Lib.hid (by rw [List.length_drop, intV_len]; omega)
            have HRes : Hid ((intV S).take (0) ++ [Value.int .i64 x] ++ (intV S).drop (0) = intV (S.take (0) ++ [x] ++ S.drop (0))) := Lib.hid (by simp [intV])
            have HLen : Hid ((S.take (0) ++ [x] ++ S.drop (0)).length = i + 1) := Lib.hid (by simp; omega)
            have HP4 : Hid ((S.take (0) ++ [x] ++ S.drop (0)).Perm (l.take (i + 1)) ∧ (S.take (0) ++ [x] ++ S.drop (0)).Pairwise fun a b : Int => b ≤ a) := Lib.hid (by
              have := hv_step HP.out.1 HP.out.2 HK.out (.inl rfl) (by rw [HLi.out]; exact hk)
              rw [HT.out]
              exact this)
            clear hlS hcS hg9
            have oA := Lib.hid (own_empty w9 (.cells #[] 3) 3 rfl)
            have oB := Lib.hid (oA.out.alloc (.cells #[.int .i64 x] 3))
            have oC : Hid (((w9.alloc (.cells #[.int .i64 x] 3)).alloc (.cells #[] 3)).ownsRow w9.heap.size 3 1 (.slice (some ⟨w9.heap.size + 1, 0, none⟩) 0 0) 0 []) := Lib.hid (by
              have := (own_empty (w9.alloc (.cells #[.int .i64 x] 3)) (.cells #[] 3) 3 rfl).mono (base' := w9.heap.size) (by simp)
              rw [show (w9.alloc (.cells #[.int .i64 x] 3)).heap.size = w9.heap.size + 1 by simp] at this
              exact this)
            have bA : Hid (Below w9.heap.size w9 (w9.alloc (.cells #[] 3))) := Lib.hid ((Below.refl _ w9).alloc (Nat.le_refl _) _)
            have bB := Lib.hid (bA.out.alloc (by simp) (.cells #[.int .i64 x] 3))
            have bC := Lib.hid (((Below.refl _ w9).alloc (Nat.le_refl _) (.cells #[.int .i64 x] 3)).alloc (by simp) (.cells #[] 3))
            generalize intV S = XS at *
            have hk0p : (0 : Int) ≤ (0 : Int) := by omega
            have hki3 : (0 : Int) ≤ (cap2 : Int) := by omega
            have hki4 : (0 : Int) ≤ (i : Int) := by omega
            by_cases hck2 : cap2 = 0
            case' pos =>
              have LY' := Lib.hid hck2
            case' neg =>
              have LY' := Lib.hid hck2
            all_goals
              go_wp2_with fail
              have xd : w9.drew.cell? ⟨gc, oc + i, none⟩ = some (.int .i64 x) := xw
              go_region_held_law (fun W => W.cell? ⟨gc, oc + i, none⟩ = some (.int .i64 x)) (go_keep) (first | (refine step_ints (by rfl) _ _ (by rfl) w9.heap.size _ 0 [] (by rfl) (by first | exact oA.out | exact oB.out | exact oC.out) ⟨g2, 0, none⟩ (0) _ (XS.take (0)) (by rfl) LX.out (SA.out _ (by first | exact drewB bA.out | exact drewB bB.out | exact drewB bC.out)) HX.out (by omega) (by first | exact bA.out.size | exact bB.out.size | exact bC.out.size) ?_; intro v43 w43 ho43 hg43 hn43; have hb43 : Below w9.heap.size w9 w43 := (by first | exact below_row (drewB bA.out) oA.out hg43 bA.out.size | exact below_row (drewB bB.out) oB.out hg43 bB.out.size | exact below_row (drewB bC.out) oC.out hg43 bC.out.size); have x43 : w43.cell? ⟨gc, oc + i, none⟩ = some (.int .i64 x) := (hb43.cell (p := ⟨gc, oc + i, none⟩) HGc.out).trans xw) | (refine step_ints (by rfl) _ _ (by rfl) w9.heap.size _ (0 + (0)) ([] ++ XS.take (0)) (by rfl) (by first | exact ho43 | exact ho43.alloc _) _ 1 1 [.int .i64 x] (by rfl) rfl (by first | exact cell_one_new _ _ _ | exact srcIB hg43 | exact srcIC hg43) (by simp [Value.oneCell']) (by omega) (by first | exact hb43.size | exact (hb43.alloc hb43.size _).size) ?_; intro v46 w46 ho46 hg46 hn46; have hb46 : Below w9.heap.size w9 w46 := (by first | exact below_row hb43 ho43 hg46 hb43.size | exact below_row (hb43.alloc hb43.size _) (ho43.alloc _) hg46 (hb43.alloc hb43.size _).size); have x46 := (hb46.cell (p := ⟨gc, oc + i, none⟩) HGc.out).trans xw) | (refine step_ints (by rfl) _ _ (by rfl) w9.heap.size _ (0 + (0) + 1) ([] ++ XS.take (0) ++ [.int .i64 x]) (by rfl) ho46 _ (i - (0)) _ (XS.drop (0)) (by rfl) LY.out (SB.out _ hb46 _ (by omega)) HY.out (by omega) hb46.size ?_; intro v50 w50 ho50 hg50 hn50; have hb50 : Below w9.heap.size w9 w50 := below_row hb46 ho46 hg50 hb46.size; have x50 := (hb50.cell (p := ⟨gc, oc + i, none⟩) HGc.out).trans xw))
              all_goals
                have hv46 : v46 ≠ .slice none 0 0 := fun e => by have := (hn46.1 e).2; omega
                have hv50 : v50 ≠ .slice none 0 0 := fun e => hv46 (hn50.1 e).1
                have HN5 : Hid (NumS w w50 v50 (S.take (0) ++ [x] ++ S.drop (0))) := Lib.hid (by
                  rw [List.nil_append, HRes.out, show 0 + (0) + 1 + (i - (0)) = i + 1 by omega] at ho50
                  refine ⟨?_, HSd.out.2.1.trans (hb50.mono HSd.out.2.1.size), hv50⟩
                  rw [HLen.out]
                  exact ho50.mono HSd.out.2.1.size)
                clear ho50 hg50 hn50 ho46 hg46 hn46 ho43 hg43 hn43 hb43 hb46 hb50 hv46 hv50 x43 x46 x50 xd
                go_wp2_with fail
                exact ⟨⟨i + 1, _, by omega, by go_num, HN5, HP4⟩, by simp [intOf]; omega⟩
          case neg =>
            obtain ⟨k', rfl⟩ : ∃ k', k = k' + 1 := ⟨k - 1, by omega⟩
            obtain ⟨y, hy⟩ : ∃ y, S[k']? = some y := ⟨_, List.getElem?_eq_getElem (by have := HLi.out; omega)⟩
            have o2 := HSc.out wr HS2.out k' y hy
            have hki2 : (k' : Int) < (i : Int) := by omega
            clear hk0
            by_cases hyx : y < x
            case pos =>
              have HK2 : Hid (∀ (j : Nat) (z : Int), k' ≤ j → S[j]? = some z → z < x) := Lib.hid fun j z hj hz => by
                by_cases e : j = k'
                · subst e; rw [hy] at hz; cases hz; exact hyx
                · exact HK.out j z (by omega) hz
              clear hy
              go_wp2_with fail
              go_quiet (fail)
              have HS3 := Lib.hid (HS2.out.below (below_drewN (Below.refl _ _) nq))
              go_wp2_with fail
              exact ⟨⟨k', by omega, by go_num, HS3, HK2⟩, by simp [intOf]⟩
            case neg =>
              have HST : Hid (S[k']? = some y ∧ x ≤ y) := Lib.hid ⟨hy, by omega⟩
              clear hy
              go_wp2_with fail
              go_quiet (fail)
              have HSd := Lib.hid (HS2.out.below (below_drewN (Below.refl _ _) nq))
              generalize wr.drewN nq = w9 at *
              have xw := XC.out w9 HSd.out.2.1
              have HGc : Hid (gc < w9.heap.size) := Lib.hid (Nat.lt_of_lt_of_le hgc HSd.out.2.1.size)
              have hcS : ∀ j, j < i → w9.cell? ⟨g2, j, none⟩ = some (.int .i64 (S.getD j 0)) := fun j hj => HSc.out w9 HSd.out j _ (by rw [List.getD, List.getElem?_eq_getElem (by have := HLi.out; omega)]; rfl)
              have hlS := HLi.out
              have hg9 : g2 < w9.heap.size := row_lt HSd.out.1 g2 rfl
              have SA := Lib.hid (fun W hb => srcI_take (k := k' + 1) hk hcS hlS hg9 W hb)
              have SB := Lib.hid (fun W hb off ho => srcI_drop (k := k' + 1) hcS hlS hg9 W hb off ho)
              have HX : Hid (∀ x ∈ (intV S).take (k' + 1), x.oneCell' = true) := Lib.hid fun x hx => intV_one S x (List.mem_of_mem_take hx)
              have HY : Hid (∀ x ∈ (intV S).drop (k' + 1), x.oneCell' = true) := Lib.hid fun x hx => intV_one S x (List.mem_of_mem_drop hx)
              have LX : Hid (((intV S).take (k' + 1)).length = k' + 1) := Lib.hid (by rw [List.length_take, intV_len]; omega)
              have LY : Hid (((intV S).drop (k' + 1)).length = i - (k' + 1)) := Lib.hid (by rw [List.length_drop, intV_len]; omega)
              have HRes : Hid ((intV S).take (k' + 1) ++ [Value.int .i64 x] ++ (intV S).drop (k' + 1) = intV (S.take (k' + 1) ++ [x] ++ S.drop (k' + 1))) := Lib.hid (by simp [intV, List.map_take, List.map_drop])
              have HLen : Hid ((S.take (k' + 1) ++ [x] ++ S.drop (k' + 1)).length = i + 1) := Lib.hid (by simp; omega)
              have HP4 : Hid ((S.take (k' + 1) ++ [x] ++ S.drop (k' + 1)).Perm (l.take (i + 1)) ∧ (S.take (k' + 1) ++ [x] ++ S.drop (k' + 1)).Pairwise fun a b : Int => b ≤ a) := Lib.hid (by
                have := hv_step HP.out.1 HP.out.2 HK.out (.inr ⟨_, HST.out.1, by have := HST.out.2; omega⟩) (by rw [HLi.out]; exact hk)
                rw [HT.out]
                exact this)
              clear hlS hcS hg9
              have oA := Lib.hid (own_empty w9 (.cells #[] 3) 3 rfl)
              have oB := Lib.hid (oA.out.alloc (.cells #[.int .i64 x] 3))
              have oC : Hid (((w9.alloc (.cells #[.int .i64 x] 3)).alloc (.cells #[] 3)).ownsRow w9.heap.size 3 1 (.slice (some ⟨w9.heap.size + 1, 0, none⟩) 0 0) 0 []) := Lib.hid (by
                have := (own_empty (w9.alloc (.cells #[.int .i64 x] 3)) (.cells #[] 3) 3 rfl).mono (base' := w9.heap.size) (by simp)
                rw [show (w9.alloc (.cells #[.int .i64 x] 3)).heap.size = w9.heap.size + 1 by simp] at this
                exact this)
              have bA : Hid (Below w9.heap.size w9 (w9.alloc (.cells #[] 3))) := Lib.hid ((Below.refl _ w9).alloc (Nat.le_refl _) _)
              have bB := Lib.hid (bA.out.alloc (by simp) (.cells #[.int .i64 x] 3))
              have bC := Lib.hid (((Below.refl _ w9).alloc (Nat.le_refl _) (.cells #[.int .i64 x] 3)).alloc (by simp) (.cells #[] 3))
              generalize intV S = XS at *
              have hk0p : (0 : Int) ≤ (k' : Int) + 1 := by omega
              have hki3 : (k' : Int) + 1 ≤ (cap2 : Int) := by omega
              have hki4 : (k' : Int) + 1 ≤ (i : Int) := by omega
              by_cases hck2 : cap2 = k' + 1
              case' pos =>
                have LY' := Lib.hid hck2
              case' neg =>
                have LY' := Lib.hid hck2
              all_goals
                go_wp2_with fail
                have xd : w9.drew.cell? ⟨gc, oc + i, none⟩ = some (.int .i64 x) := xw
                go_region_held_law (fun W => W.cell? ⟨gc, oc + i, none⟩ = some (.int .i64 x)) (go_keep) (first | (refine step_ints (by rfl) _ _ (by rfl) w9.heap.size _ 0 [] (by rfl) (by first | exact oA.out | exact oB.out | exact oC.out) ⟨g2, 0, none⟩ (k' + 1) _ (XS.take (k' + 1)) (by rfl) LX.out (SA.out _ (by first | exact drewB bA.out | exact drewB bB.out | exact drewB bC.out)) HX.out (by omega) (by first | exact bA.out.size | exact bB.out.size | exact bC.out.size) ?_; intro v43 w43 ho43 hg43 hn43; have hb43 : Below w9.heap.size w9 w43 := (by first | exact below_row (drewB bA.out) oA.out hg43 bA.out.size | exact below_row (drewB bB.out) oB.out hg43 bB.out.size | exact below_row (drewB bC.out) oC.out hg43 bC.out.size); have x43 : w43.cell? ⟨gc, oc + i, none⟩ = some (.int .i64 x) := (hb43.cell (p := ⟨gc, oc + i, none⟩) HGc.out).trans xw) | (refine step_ints (by rfl) _ _ (by rfl) w9.heap.size _ (0 + (k' + 1)) ([] ++ XS.take (k' + 1)) (by rfl) (by first | exact ho43 | exact ho43.alloc _) _ 1 1 [.int .i64 x] (by rfl) rfl (by first | exact cell_one_new _ _ _ | exact srcIB hg43 | exact srcIC hg43) (by simp [Value.oneCell']) (by omega) (by first | exact hb43.size | exact (hb43.alloc hb43.size _).size) ?_; intro v46 w46 ho46 hg46 hn46; have hb46 : Below w9.heap.size w9 w46 := (by first | exact below_row hb43 ho43 hg46 hb43.size | exact below_row (hb43.alloc hb43.size _) (ho43.alloc _) hg46 (hb43.alloc hb43.size _).size); have x46 := (hb46.cell (p := ⟨gc, oc + i, none⟩) HGc.out).trans xw) | (refine step_ints (by rfl) _ _ (by rfl) w9.heap.size _ (0 + (k' + 1) + 1) ([] ++ XS.take (k' + 1) ++ [.int .i64 x]) (by rfl) ho46 _ (i - (k' + 1)) _ (XS.drop (k' + 1)) (by rfl) LY.out (SB.out _ hb46 _ (by omega)) HY.out (by omega) hb46.size ?_; intro v50 w50 ho50 hg50 hn50; have hb50 : Below w9.heap.size w9 w50 := below_row hb46 ho46 hg50 hb46.size; have x50 := (hb50.cell (p := ⟨gc, oc + i, none⟩) HGc.out).trans xw))
                all_goals
                  have hv46 : v46 ≠ .slice none 0 0 := fun e => by have := (hn46.1 e).2; omega
                  have hv50 : v50 ≠ .slice none 0 0 := fun e => hv46 (hn50.1 e).1
                  have HN5 : Hid (NumS w w50 v50 (S.take (k' + 1) ++ [x] ++ S.drop (k' + 1))) := Lib.hid (by
                    rw [List.nil_append, HRes.out, show 0 + (k' + 1) + 1 + (i - (k' + 1)) = i + 1 by omega] at ho50
                    refine ⟨?_, HSd.out.2.1.trans (hb50.mono HSd.out.2.1.size), hv50⟩
                    rw [HLen.out]
                    exact ho50.mono HSd.out.2.1.size)
                  clear ho50 hg50 hn50 ho46 hg46 hn46 ho43 hg43 hn43 hb43 hb46 hb50 hv46 hv50 x43 x46 x50 xd
                  go_wp2_with fail
                  exact ⟨⟨i + 1, _, by omega, by go_num, HN5, HP4⟩, by simp [intOf]; omega⟩
      · obtain rfl : i = n := by omega
        have HE := Lib.hid (HF.out S (by have := HP.out.1; rwa [List.take_of_length_le (by have := HN.out; omega)] at this) HP.out.2)
        have HX := Lib.hid (retL_of (ok := true) HS.out.1 (Nat.le_refl _) HS.out.2.1)
        rw [HE.out] at HX
        go_wp2_with fail
        go_ret2
        exact HX.out
end Go.Proofs.Ytalobfpmmembiaa
