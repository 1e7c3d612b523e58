/-
  What FnForces asks besides: rInts, rSum; forces never rise, lashings are enough and not one too many, sums of orders. No statement of the seat by itself.
-/
import Derived.Test.YtalobfpmmembiaaMLg
import Derived.BigQuiet
import Derived.Test.YtalobfpmmembiaaMLc
import Derived.IntWalk
namespace Go.Proofs.Ytalobfpmmembiaa
open Go.RowKit

/-- A weight put into its place among heavier and lighter ones. -/
theorem hv_step {S L : List Int} {x : Int} {k : Nat} (hp : S.Perm L) (hd : S.Pairwise fun a b : Int => b ≤ a) (h1 : ∀ (j : Nat) (y : Int), k ≤ j → S[j]? = some y → y < x) (h2 : k = 0 ∨ ∃ y, S[k - 1]? = some y ∧ ¬ y < x) (hk : k ≤ S.length) :
    (S.take k ++ [x] ++ S.drop k).Perm (L ++ [x]) ∧ (S.take k ++ [x] ++ S.drop k).Pairwise fun a b : Int => b ≤ a := by
  constructor
  · refine List.Perm.trans ?_ (hp.append_right [x])
    rw [List.append_assoc]
    refine (List.perm_append_comm (l₁ := [x]) (l₂ := S.drop k)).append_left (S.take k) |>.trans ?_
    rw [← List.append_assoc, List.take_append_drop]
  · have hup : ∀ a ∈ S.take k, x ≤ a := fun a ha => by
      rcases h2 with h2 | ⟨y, hy, hyx⟩
      · subst h2; simp at ha
      · obtain ⟨j, hj⟩ := List.getElem?_of_mem ha
        rw [List.getElem?_take] at hj
        split at hj
        · rename_i hjk
          by_cases e : j = k - 1
          · subst e; rw [hy] at hj; cases hj; omega
          · have hjl := lt_of_get hj
            have hyl := lt_of_get hy
            have := (List.pairwise_iff_getElem.1 hd) j (k - 1) hjl hyl (by omega)
            rw [List.getElem?_eq_getElem hjl] at hj
            rw [List.getElem?_eq_getElem hyl] at hy
            cases hj; cases hy
            omega
        · cases hj
    have hdn : ∀ a ∈ S.drop k, a < x := fun a ha => by
      obtain ⟨j, hj⟩ := List.getElem?_of_mem ha
      rw [List.getElem?_drop] at hj
      exact h1 _ _ (by omega) hj
    have e := List.take_append_drop k S
    rw [← e] at hd
    obtain ⟨d1, d2, d3⟩ := List.pairwise_append.1 hd
    rw [List.append_assoc, List.pairwise_append]
    refine ⟨d1, ?_, fun a ha b hb => ?_⟩
    · rw [List.singleton_append, List.pairwise_cons]
      exact ⟨fun b hb => by have := hdn b hb; omega, d2⟩
    · rcases List.mem_append.1 hb with hb | hb
      · rw [List.mem_singleton] at hb
        subst hb
        exact hup a ha
      · exact d3 a ha b hb
theorem hv_done {S l : List Int} (hp : S.Perm l) (hd : S.Pairwise fun a b : Int => b ≤ a) : S = (srtI l).reverse := by
  refine List.Perm.eq_of_pairwise (le := fun a b : Int => b ≤ a) (fun a b _ _ h1 h2 => by omega) hd ?_ (hp.trans ((srtI_perm l).symm.trans (List.reverse_perm _).symm))
  rw [List.pairwise_reverse]
  exact srtI_asc l

set_option maxRecDepth 100000 in
set_option maxHeartbeats 16000000 in
theorem specHv_any (v : Value) (l : List Int) (hn : l.length ≤ 1048576) (w : World) (h : IL w v l) :
    Calls Try.prog 23 #[v] w (RetL w (hvR l) (goodW l 4)) := by
  have hB0 := below_one w (.cells #[] 3)
  have HG := Lib.hid (l12Good_any v l hn _ (h.below hB0))
  have HN0 := Lib.hid (numS_start w)
  obtain ⟨p, cap, rfl, hc⟩ := h
  have HC := Lib.hid hc
  clear hc hB0
  cases hg : goodW l 4 with
  | false =>
    rw [hg] at HG
    rw [show hvR l = [] by simp [hvR, hg]]
    clear hg
    go_enter Try.func23, Try.ntmps23
    go_wp2_with fail
    refine HG.out.mono ?_
    rintro e w1 ⟨rfl, hb⟩
    have HN1 := Lib.hid (HN0.out.below hb)
    clear hb
    go_wp2_with fail
    go_ret2
    exact retL_of (l := []) HN1.out.1 (Nat.le_refl _) HN1.out.2.1
  | true =>
    rw [hg] at HG
    rw [show hvR l = (srtI l).reverse by simp [hvR, hg]]
    have hl4 := goodW_len hg
    have HF := Lib.hid (fun S => hv_done (S := S) (l := l))
    obtain ⟨n, hln⟩ : ∃ n, l.length = n := ⟨_, rfl⟩
    have HN := Lib.hid hln
    rw [hln] at HG hl4 ⊢
    generalize (srtI l).reverse = R at *
    clear hg hln hn
    go_enter Try.func23, Try.ntmps23
    go_wp2_with fail
    refine HG.out.mono ?_
    rintro e w1 ⟨rfl, hb⟩
    have HN1 := Lib.hid (HN0.out.below hb)
    clear hb
    go_wp2_with fail
    go_loopw [4, 5] (fun s ii wr => ∃ (i : Nat) (S : List Int), i ≤ n ∧ ii = .int .i64 i ∧ Hid (NumS w wr s S) ∧ Hid (S.Perm (l.take i) ∧ S.Pairwise fun a b : Int => b ≤ a)) (fun _ ii _ => n - (intOf ii).toNat)
    case atStart => exact ⟨0, [], Nat.zero_le _, rfl, HN1, Lib.hid ⟨by simp, List.Pairwise.nil⟩⟩
    case round =>
      obtain ⟨i, S, hi, rfl, HS, HP⟩ := hrel
      rename World => wo
      have HLi : Hid (S.length = i) := Lib.hid (by have := HP.out.1.length_eq; rw [List.length_take] at this; have := HN.out; omega)
      by_cases hlt : i < n
      · obtain ⟨x, hx⟩ := get_at HN.out hlt
        obtain ⟨gc, oc, rfl, hgc, hcc⟩ := HC.out (by have := HN.out; omega)
        have xc0 := hcc i x hx
        have XC := Lib.hid (fun W (hb : Below w.heap.size w W) => (hb.cell (p := ⟨gc, oc + i, none⟩) hgc).trans xc0)
        have HT : Hid (l.take (i + 1) = l.take i ++ [x]) := Lib.hid (by rw [List.take_add_one, hx]; rfl)
        have HS' := HS.out.1.2
        rcases HS' with ⟨e, _⟩ | ⟨g2, cap2, cur, rfl, hg2, hb2, hcp, hcp2, hcp3, hcp4⟩
        · exact absurd e HS.out.2.2
        have hg2w : g2 < wo.heap.size := (Array.getElem?_eq_some_iff.1 hb2).1
        have HG2 := Lib.hid (And.intro hg2 hg2w)
        have hSc : ∀ (wr : World) (hw : NumS w wr (.slice (some ⟨g2, 0, none⟩) S.length cap2) S) (j : Nat) (y : Int), S[j]? = some y → wr.cell? ⟨g2, j, none⟩ = some (.int .i64 y) := fun wr hw j y hy => by
          have hj := lt_of_get hy
          rw [hw.1.cellAt j (by omega), intV_get, hy]
          rfl
        have HSc := Lib.hid hSc
        rw [HLi.out] at HS hcp HSc ⊢
        clear hg2 hb2 hcp3 hcp4 hSc xc0 hcc hx hg2w
        go_wp2_with fail
        go_loopw [6] (fun kk wr => ∃ k : Nat, k ≤ i ∧ kk = .int .i64 k ∧ Hid (NumS w wr (.slice (some ⟨g2, 0, none⟩) i cap2) S) ∧ Hid (∀ (j : Nat) (y : Int), k ≤ j → S[j]? = some y → y < x)) (fun kk _ => (intOf kk).toNat)
        case atStart => exact ⟨i, Nat.le_refl _, rfl, HS, Lib.hid fun j y hj hy => by have := lt_of_get hy; have := HLi.out; omega⟩
        case round =>
          obtain ⟨k, hk, rfl, HS2, HK⟩ := hrel
          rename World => wr
          have o1 := XC.out wr HS2.out.2.1
          have hki : (i : Int) < (n : Int) := by omega
          by_cases hk0 : k = 0
          case pos =>
            subst hk0
            go_wp2_with fail
            go_quiet (fail)
            have HSd := Lib.hid (HS2.out.below (below_drewN (Below.refl _ _) nq))
            generalize wr.drewN nq = w9 at *
            have xw := XC.out w9 HSd.out.2.1
            have HGc : Hid (gc < w9.heap.size) := Lib.hid (Nat.lt_of_lt_of_le hgc HSd.out.2.1.size)
            have hcS : ∀ j, j < i → w9.cell? ⟨g2, j, none⟩ = some (.int .i64 (S.getD j 0)) := fun j hj => HSc.out w9 HSd.out j _ (by rw [List.getD, List.getElem?_eq_getElem (by have := HLi.out; omega)]; rfl)
            have hlS := HLi.out
            have hg9 : g2 < w9.heap.size := row_lt HSd.out.1 g2 rfl
            have SA := Lib.hid (fun W hb => srcI_take (k := 0) hk hcS hlS hg9 W hb)
            have SB := Lib.hid (fun W hb off ho => srcI_drop (k := 0) hcS hlS hg9 W hb off ho)
            have HX : Hid (∀ x ∈ (intV S).take (0), x.oneCell' = true) := Lib.hid fun x hx => intV_one S x (List.mem_of_mem_take hx)
            have HY : Hid (∀ x ∈ (intV S).drop (0), x.oneCell' = true) := Lib.hid fun x hx => intV_one S x (List.mem_of_mem_drop hx)
            have LX : Hid (((intV S).take (0)).length = 0) := Lib.hid (by rw [List.length_take, intV_len]; omega)
            have LY : Hid (((intV S).drop (0)).length = i - (0)) := Lib.hid (by rw [List.length_drop, intV_len]; omega)
            have HRes : Hid ((intV S).take (0) ++ [Value.int .i64 x] ++ (intV S).drop (0) = intV (S.take (0) ++ [x] ++ S.drop (0))) := Lib.hid (by simp [intV])
            have HLen : Hid ((S.take (0) ++ [x] ++ S.drop (0)).length = i + 1) := Lib.hid (by simp; omega)
            have HP4 : Hid ((S.take (0) ++ [x] ++ S.drop (0)).Perm (l.take (i + 1)) ∧ (S.take (0) ++ [x] ++ S.drop (0)).Pairwise fun a b : Int => b ≤ a) := Lib.hid (by
              have := hv_step HP.out.1 HP.out.2 HK.out (.inl rfl) (by rw [HLi.out]; exact hk)
              rw [HT.out]
              exact this)
            clear hlS hcS hg9
            have oA := Lib.hid (own_empty w9 (.cells #[] 3) 3 rfl)
            have oB := Lib.hid (oA.out.alloc (.cells #[.int .i64 x] 3))
            have oC : Hid (((w9.alloc (.cells #[.int .i64 x] 3)).alloc (.cells #[] 3)).ownsRow w9.heap.size 3 1 (.slice (some ⟨w9.heap.size + 1, 0, none⟩) 0 0) 0 []) := Lib.hid (by
              have := (own_empty (w9.alloc (.cells #[.int .i64 x] 3)) (.cells #[] 3) 3 rfl).mono (base' := w9.heap.size) (by simp)
              rw [show (w9.alloc (.cells #[.int .i64 x] 3)).heap.size = w9.heap.size + 1 by simp] at this
              exact this)
            have bA : Hid (Below w9.heap.size w9 (w9.alloc (.cells #[] 3))) := Lib.hid ((Below.refl _ w9).alloc (Nat.le_refl _) _)
            have bB := Lib.hid (bA.out.alloc (by simp) (.cells #[.int .i64 x] 3))
            have bC := Lib.hid (((Below.refl _ w9).alloc (Nat.le_refl _) (.cells #[.int .i64 x] 3)).alloc (by simp) (.cells #[] 3))
            generalize intV S = XS at *
            have hk0p : (0 : Int) ≤ (0 : Int) := by omega
            have hki3 : (0 : Int) ≤ (cap2 : Int) := by omega
            have hki4 : (0 : Int) ≤ (i : Int) := by omega
            by_cases hck2 : cap2 = 0
            case' pos =>
              have LY' := Lib.hid hck2
            case' neg =>
              have LY' := Lib.hid hck2
            all_goals
              go_wp2_with fail
              have xd : w9.drew.cell? ⟨gc, oc + i, none⟩ = some (.int .i64 x) := xw
              go_region_held_law (fun W => W.cell? ⟨gc, oc + i, none⟩ = some (.int .i64 x)) (go_keep) (first | (refine step_ints (by rfl) _ _ (by rfl) w9.heap.size _ 0 [] (by rfl) (by first | exact oA.out | exact oB.out | exact oC.out) ⟨g2, 0, none⟩ (0) _ (XS.take (0)) (by rfl) LX.out (SA.out _ (by first | exact drewB bA.out | exact drewB bB.out | exact drewB bC.out)) HX.out (by omega) (by first | exact bA.out.size | exact bB.out.size | exact bC.out.size) ?_; intro v43 w43 ho43 hg43 hn43; have hb43 : Below w9.heap.size w9 w43 := (by first | exact below_row (drewB bA.out) oA.out hg43 bA.out.size | exact below_row (drewB bB.out) oB.out hg43 bB.out.size | exact below_row (drewB bC.out) oC.out hg43 bC.out.size); have x43 : w43.cell? ⟨gc, oc + i, none⟩ = some (.int .i64 x) := (hb43.cell (p := ⟨gc, oc + i, none⟩) HGc.out).trans xw) | (refine step_ints (by rfl) _ _ (by rfl) w9.heap.size _ (0 + (0)) ([] ++ XS.take (0)) (by rfl) (by first | exact ho43 | exact ho43.alloc _) _ 1 1 [.int .i64 x] (by rfl) rfl (by first | exact cell_one_new _ _ _ | exact srcIB hg43 | exact srcIC hg43) (by simp [Value.oneCell']) (by omega) (by first | exact hb43.size | exact (hb43.alloc hb43.size _).size) ?_; intro v46 w46 ho46 hg46 hn46; have hb46 : Below w9.heap.size w9 w46 := (by first | exact below_row hb43 ho43 hg46 hb43.size | exact below_row (hb43.alloc hb43.size _) (ho43.alloc _) hg46 (hb43.alloc hb43.size _).size); have x46 := (hb46.cell (p := ⟨gc, oc + i, none⟩) HGc.out).trans xw) | (refine step_ints (by rfl) _ _ (by rfl) w9.heap.size _ (0 + (0) + 1) ([] ++ XS.take (0) ++ [.int .i64 x]) (by rfl) ho46 _ (i - (0)) _ (XS.drop (0)) (by rfl) LY.out (SB.out _ hb46 _ (by omega)) HY.out (by omega) hb46.size ?_; intro v50 w50 ho50 hg50 hn50; have hb50 : Below w9.heap.size w9 w50 := below_row hb46 ho46 hg50 hb46.size; have x50 := (hb50.cell (p := ⟨gc, oc + i, none⟩) HGc.out).trans xw))
              all_goals
                have hv46 : v46 ≠ .slice none 0 0 := fun e => by have := (hn46.1 e).2; omega
                have hv50 : v50 ≠ .slice none 0 0 := fun e => hv46 (hn50.1 e).1
                have HN5 : Hid (NumS w w50 v50 (S.take (0) ++ [x] ++ S.drop (0))) := Lib.hid (by
                  rw [List.nil_append, HRes.out, show 0 + (0) + 1 + (i - (0)) = i + 1 by omega] at ho50
                  refine ⟨?_, HSd.out.2.1.trans (hb50.mono HSd.out.2.1.size), hv50⟩
                  rw [HLen.out]
                  exact ho50.mono HSd.out.2.1.size)
                clear ho50 hg50 hn50 ho46 hg46 hn46 ho43 hg43 hn43 hb43 hb46 hb50 hv46 hv50 x43 x46 x50 xd
                go_wp2_with fail
                exact ⟨⟨i + 1, _, by omega, by go_num, HN5, HP4⟩, by simp [intOf]; omega⟩
          case neg =>
            obtain ⟨k', rfl⟩ : ∃ k', k = k' + 1 := ⟨k - 1, by omega⟩
            obtain ⟨y, hy⟩ : ∃ y, S[k']? = some y := ⟨_, List.getElem?_eq_getElem (by have := HLi.out; omega)⟩
            have o2 := HSc.out wr HS2.out k' y hy
            have hki2 : (k' : Int) < (i : Int) := by omega
            clear hk0
            by_cases hyx : y < x
            case pos =>
              have HK2 : Hid (∀ (j : Nat) (z : Int), k' ≤ j → S[j]? = some z → z < x) := Lib.hid fun j z hj hz => by
                by_cases e : j = k'
                · subst e; rw [hy] at hz; cases hz; exact hyx
                · exact HK.out j z (by omega) hz
              clear hy
              go_wp2_with fail
              go_quiet (fail)
              have HS3 := Lib.hid (HS2.out.below (below_drewN (Below.refl _ _) nq))
              go_wp2_with fail
              exact ⟨⟨k', by omega, by go_num, HS3, HK2⟩, by simp [intOf]⟩
            case neg =>
              have HST : Hid (S[k']? = some y ∧ x ≤ y) := Lib.hid ⟨hy, by omega⟩
              clear hy
              go_wp2_with fail
              go_quiet (fail)
              have HSd := Lib.hid (HS2.out.below (below_drewN (Below.refl _ _) nq))
              generalize wr.drewN nq = w9 at *
              have xw := XC.out w9 HSd.out.2.1
              have HGc : Hid (gc < w9.heap.size) := Lib.hid (Nat.lt_of_lt_of_le hgc HSd.out.2.1.size)
              have hcS : ∀ j, j < i → w9.cell? ⟨g2, j, none⟩ = some (.int .i64 (S.getD j 0)) := fun j hj => HSc.out w9 HSd.out j _ (by rw [List.getD, List.getElem?_eq_getElem (by have := HLi.out; omega)]; rfl)
              have hlS := HLi.out
              have hg9 : g2 < w9.heap.size := row_lt HSd.out.1 g2 rfl
              have SA := Lib.hid (fun W hb => srcI_take (k := k' + 1) hk hcS hlS hg9 W hb)
              have SB := Lib.hid (fun W hb off ho => srcI_drop (k := k' + 1) hcS hlS hg9 W hb off ho)
              have HX : Hid (∀ x ∈ (intV S).take (k' + 1), x.oneCell' = true) := Lib.hid fun x hx => intV_one S x (List.mem_of_mem_take hx)
              have HY : Hid (∀ x ∈ (intV S).drop (k' + 1), x.oneCell' = true) := Lib.hid fun x hx => intV_one S x (List.mem_of_mem_drop hx)
              have LX : Hid (((intV S).take (k' + 1)).length = k' + 1) := Lib.hid (by rw [List.length_take, intV_len]; omega)
              have LY : Hid (((intV S).drop (k' + 1)).length = i - (k' + 1)) := Lib.hid (by rw [List.length_drop, intV_len]; omega)
              have HRes : Hid ((intV S).take (k' + 1) ++ [Value.int .i64 x] ++ (intV S).drop (k' + 1) = intV (S.take (k' + 1) ++ [x] ++ S.drop (k' + 1))) := Lib.hid (by simp [intV, List.map_take, List.map_drop])
              have HLen : Hid ((S.take (k' + 1) ++ [x] ++ S.drop (k' + 1)).length = i + 1) := Lib.hid (by simp; omega)
              have HP4 : Hid ((S.take (k' + 1) ++ [x] ++ S.drop (k' + 1)).Perm (l.take (i + 1)) ∧ (S.take (k' + 1) ++ [x] ++ S.drop (k' + 1)).Pairwise fun a b : Int => b ≤ a) := Lib.hid (by
                have := hv_step HP.out.1 HP.out.2 HK.out (.inr ⟨_, HST.out.1, by have := HST.out.2; omega⟩) (by rw [HLi.out]; exact hk)
                rw [HT.out]
                exact this)
              clear hlS hcS hg9
              have oA := Lib.hid (own_empty w9 (.cells #[] 3) 3 rfl)
              have oB := Lib.hid (oA.out.alloc (.cells #[.int .i64 x] 3))
              have oC : Hid (((w9.alloc (.cells #[.int .i64 x] 3)).alloc (.cells #[] 3)).ownsRow w9.heap.size 3 1 (.slice (some ⟨w9.heap.size + 1, 0, none⟩) 0 0) 0 []) := Lib.hid (by
                have := (own_empty (w9.alloc (.cells #[.int .i64 x] 3)) (.cells #[] 3) 3 rfl).mono (base' := w9.heap.size) (by simp)
                rw [show (w9.alloc (.cells #[.int .i64 x] 3)).heap.size = w9.heap.size + 1 by simp] at this
                exact this)
              have bA : Hid (Below w9.heap.size w9 (w9.alloc (.cells #[] 3))) := Lib.hid ((Below.refl _ w9).alloc (Nat.le_refl _) _)
              have bB := Lib.hid (bA.out.alloc (by simp) (.cells #[.int .i64 x] 3))
              have bC := Lib.hid (((Below.refl _ w9).alloc (Nat.le_refl _) (.cells #[.int .i64 x] 3)).alloc (by simp) (.cells #[] 3))
              generalize intV S = XS at *
              have hk0p : (0 : Int) ≤ (k' : Int) + 1 := by omega
              have hki3 : (k' : Int) + 1 ≤ (cap2 : Int) := by omega
              have hki4 : (k' : Int) + 1 ≤ (i : Int) := by omega
              by_cases hck2 : cap2 = k' + 1
              case' pos =>
                have LY' := Lib.hid hck2
              case' neg =>
                have LY' := Lib.hid hck2
              all_goals
                go_wp2_with fail
                have xd : w9.drew.cell? ⟨gc, oc + i, none⟩ = some (.int .i64 x) := xw
                go_region_held_law (fun W => W.cell? ⟨gc, oc + i, none⟩ = some (.int .i64 x)) (go_keep) (first | (refine step_ints (by rfl) _ _ (by rfl) w9.heap.size _ 0 [] (by rfl) (by first | exact oA.out | exact oB.out | exact oC.out) ⟨g2, 0, none⟩ (k' + 1) _ (XS.take (k' + 1)) (by rfl) LX.out (SA.out _ (by first | exact drewB bA.out | exact drewB bB.out | exact drewB bC.out)) HX.out (by omega) (by first | exact bA.out.size | exact bB.out.size | exact bC.out.size) ?_; intro v43 w43 ho43 hg43 hn43; have hb43 : Below w9.heap.size w9 w43 := (by first | exact below_row (drewB bA.out) oA.out hg43 bA.out.size | exact below_row (drewB bB.out) oB.out hg43 bB.out.size | exact below_row (drewB bC.out) oC.out hg43 bC.out.size); have x43 : w43.cell? ⟨gc, oc + i, none⟩ = some (.int .i64 x) := (hb43.cell (p := ⟨gc, oc + i, none⟩) HGc.out).trans xw) | (refine step_ints (by rfl) _ _ (by rfl) w9.heap.size _ (0 + (k' + 1)) ([] ++ XS.take (k' + 1)) (by rfl) (by first | exact ho43 | exact ho43.alloc _) _ 1 1 [.int .i64 x] (by rfl) rfl (by first | exact cell_one_new _ _ _ | exact srcIB hg43 | exact srcIC hg43) (by simp [Value.oneCell']) (by omega) (by first | exact hb43.size | exact (hb43.alloc hb43.size _).size) ?_; intro v46 w46 ho46 hg46 hn46; have hb46 : Below w9.heap.size w9 w46 := (by first | exact below_row hb43 ho43 hg46 hb43.size | exact below_row (hb43.alloc hb43.size _) (ho43.alloc _) hg46 (hb43.alloc hb43.size _).size); have x46 := (hb46.cell (p := ⟨gc, oc + i, none⟩) HGc.out).trans xw) | (refine step_ints (by rfl) _ _ (by rfl) w9.heap.size _ (0 + (k' + 1) + 1) ([] ++ XS.take (k' + 1) ++ [.int .i64 x]) (by rfl) ho46 _ (i - (k' + 1)) _ (XS.drop (k' + 1)) (by rfl) LY.out (SB.out _ hb46 _ (by omega)) HY.out (by omega) hb46.size ?_; intro v50 w50 ho50 hg50 hn50; have hb50 : Below w9.heap.size w9 w50 := below_row hb46 ho46 hg50 hb46.size; have x50 := (hb50.cell (p := ⟨gc, oc + i, none⟩) HGc.out).trans xw))
                all_goals
                  have hv46 : v46 ≠ .slice none 0 0 := fun e => by have := (hn46.1 e).2; omega
                  have hv50 : v50 ≠ .slice none 0 0 := fun e => hv46 (hn50.1 e).1
                  have HN5 : Hid (NumS w w50 v50 (S.take (k' + 1) ++ [x] ++ S.drop (k' + 1))) := Lib.hid (by
                    rw [List.nil_append, HRes.out, show 0 + (k' + 1) + 1 + (i - (k' + 1)) = i + 1 by omega] at ho50
                    refine ⟨?_, HSd.out.2.1.trans (hb50.mono HSd.out.2.1.size), hv50⟩
                    rw [HLen.out]
                    exact ho50.mono HSd.out.2.1.size)
                  clear ho50 hg50 hn50 ho46 hg46 hn46 ho43 hg43 hn43 hb43 hb46 hb50 hv46 hv50 x43 x46 x50 xd
                  go_wp2_with fail
                  exact ⟨⟨i + 1, _, by omega, by go_num, HN5, HP4⟩, by simp [intOf]; omega⟩
      · obtain rfl : i = n := by omega
        have HE := Lib.hid (HF.out S (by have := HP.out.1; rwa [List.take_of_length_le (by have := HN.out; omega)] at this) HP.out.2)
        have HX := Lib.hid (retL_of (ok := true) HS.out.1 (Nat.le_refl _) HS.out.2.1)
        rw [HE.out] at HX
        go_wp2_with fail
        go_ret2
        exact HX.out

set_option maxRecDepth 100000 in
set_option maxHeartbeats 1000000 in
theorem rInts_any (v1 v2 : Value) (l : List Int) (hn : l.length ≤ 1048576) (w : World) (h1 : IL w v1 l) (h2 : IL w v2 l) :
    Calls Try.prog 18 #[v1, v2] w fun e w' => e = .returned (.bool true) ∧ Below w.heap.size w w' := by
  obtain ⟨a1, c1, rfl, h1⟩ := h1
  obtain ⟨a2, c2, rfl, h2⟩ := h2
  obtain ⟨n, hl⟩ : ∃ n, l.length = n := ⟨_, rfl⟩
  have HN := Lib.hid hl
  rw [hl] at hn ⊢
  have H1 := Lib.hid h1
  have H2 := Lib.hid h2
  clear h1 h2 hl
  go_enter Try.func18, Try.ntmps18
  go_wp2_with fail
  go_loopw [5] (fun i wr => ∃ k q : Nat, k ≤ n ∧ i = .int .i64 k ∧ wr = w.drewN q) (fun i _ => n - (intOf i).toNat)
  case atStart => exact ⟨0, 0, Nat.zero_le _, rfl, rfl⟩
  case round =>
    obtain ⟨k, q, hk, rfl, rfl⟩ := hrel
    by_cases hlt : k < n
    · obtain ⟨g1, o1, rfl, hg1, hc1⟩ := H1.out (by have := HN.out; omega)
      obtain ⟨g2, o2, rfl, hg2, hc2⟩ := H2.out (by have := HN.out; omega)
      obtain ⟨x, hx⟩ : ∃ x, l[k]? = some x := ⟨_, List.getElem?_eq_getElem (by have := HN.out; omega)⟩
      have hc1 : w.cell? ⟨g1, o1 + k, none⟩ = some (.int .i64 x) := hc1 k x hx
      have hc2 : w.cell? ⟨g2, o2 + k, none⟩ = some (.int .i64 x) := hc2 k x hx
      clear hx hg1 hg2
      go_wp2_with fail
      go_quiet (fail)
      go_wp2_with fail
      refine ⟨⟨k + 1, q + nq, by omega, by go_num, rfl⟩, by simp [intOf]; omega⟩
    · go_wp2_with fail
      go_ret
      exact ⟨rfl, below_drewN (Below.refl _ _) q⟩

/-- The sum of a list, where its numbers are small. -/
def smallI (l : List Int) : Prop := ∀ x ∈ l, 0 ≤ x ∧ x ≤ 1000000000
set_option maxRecDepth 100000 in
set_option maxHeartbeats 1000000 in
theorem rSum_any (v : Value) (l : List Int) (hn : l.length ≤ 10) (w : World) (h : IL w v l) :
    Calls Try.prog 24 #[v] w fun e w' => ∃ s : Int, e = .returned (.int .i64 s) ∧ w' = w ∧ (smallI l → s = l.sum) := by
  obtain ⟨a1, c1, rfl, h1⟩ := h
  obtain ⟨n, hl⟩ : ∃ n, l.length = n := ⟨_, rfl⟩
  have HN := Lib.hid hl
  rw [hl] at hn ⊢
  have H1 := Lib.hid h1
  clear h1 hl
  go_enter Try.func24, Try.ntmps24
  go_wp2_with fail
  go_loopw [3, 4] (fun s i wr => ∃ (k : Nat) (S : Int), k ≤ n ∧ i = .int .i64 k ∧ s = .int .i64 S ∧ wr = w ∧ Hid (smallI l → S = (l.take k).sum)) (fun _ i _ => n - (intOf i).toNat)
  case atStart => exact ⟨0, 0, Nat.zero_le _, rfl, rfl, rfl, Lib.hid fun _ => by simp⟩
  case round =>
    obtain ⟨k, S, hk, rfl, rfl, hw, HS⟩ := hrel
    subst hw
    by_cases hlt : k < n
    · obtain ⟨g1, o1, rfl, hg1, hc1⟩ := H1.out (by have := HN.out; omega)
      obtain ⟨x, hx⟩ : ∃ x, l[k]? = some x := ⟨_, List.getElem?_eq_getElem (by have := HN.out; omega)⟩
      have hc1 := hc1 k x hx
      have HK : Hid (smallI l → S + x = (l.take (k + 1)).sum ∧ 0 ≤ S + x ∧ S + x ≤ 100000000000) := Lib.hid fun hs => by
        have e := HS.out hs
        have a := sum_small 1000000000 10 (l.take k) (by rw [List.length_take]; omega) (by omega) (fun y hy => hs y (List.take_subset _ _ hy))
        have b := hs x (List.mem_of_getElem? hx)
        rw [sum_take hx, e]
        omega
      clear hx hg1 HS
      go_wp2_with fail
      refine ⟨⟨k + 1, _, by omega, by go_num, rfl, by first | rfl | trivial, Lib.hid fun hs => by obtain ⟨e, e1, e2⟩ := HK.out hs; rw [IntWalk.wrap64_in _ (by omega)]; exact e⟩, by simp [intOf]; omega⟩
    · have hkn : k = n := by omega
      subst hkn
      have HE : Hid (smallI l → S = l.sum) := Lib.hid fun hs => by rw [HS.out hs, ← HN.out, List.take_length]
      go_wp2_with fail
      go_ret
      exact ⟨S, rfl, rfl, HE.out⟩

theorem frc_mono {t s u : Int} (h0 : 0 ≤ t) (h : s ≤ u) : frc t s ≤ frc t u := by
  have := Int.mul_le_mul_of_nonneg_left h h0
  unfold frc
  omega
theorem drop_step {l : List Int} {k : Nat} {x : Int} (h : l[k]? = some x) : (l.drop k).sum = x + (l.drop (k + 1)).sum := by
  rw [drop_sum, drop_sum, sum_take h]
  omega
theorem fo_desc {l : List Int} {a b c : Int} {k : Nat} {f g : Int} (h1 : (foL l a b c)[k]? = some f) (h2 : (foL l a b c)[k + 1]? = some g) : g ≤ f := by
  unfold foL at h1 h2
  by_cases hg : goodC l a b c = true
  · rw [if_pos hg] at h1 h2
    have hl := lt_of_get h2
    rw [frcs_len] at hl
    rw [frcs_get _ _ _ _ (by omega)] at h1
    rw [frcs_get _ _ _ _ hl] at h2
    cases h1
    cases h2
    simp only [goodC, Bool.and_eq_true] at hg
    obtain ⟨-, hb, -⟩ := okX_iff.1 hg.2
    obtain ⟨x, hx⟩ : ∃ x, l[k]? = some x := ⟨_, List.getElem?_eq_getElem (by omega)⟩
    have := goodW_get hg.1 hx
    exact frc_mono hb.1 (by rw [drop_step hx]; omega)
  · rw [if_neg hg] at h1
    simp at h1
theorem lsh_facts {st f : Int} (h : 1 ≤ st) : f ≤ lsh st f * st ∧ (lsh st f - 1) * st < f := by
  unfold lsh
  have h1 := Int.mul_ediv_add_emod (f + st - 1) st
  have h2 := Int.emod_nonneg (f + st - 1) (by omega : st ≠ 0)
  have h3 := Int.emod_lt_of_pos (f + st - 1) (by omega : 0 < st)
  rw [Int.mul_comm] at h1
  rw [Int.sub_mul]
  omega
theorem ne_facts {l : List Int} {a b c : Int} {k : Nat} {p f : Int} (h1 : (neL l a b c)[k]? = some p) (h2 : (foL l a b c)[k]? = some f) :
    (0 ≤ p ∧ p ≤ 4) ∧ (1 ≤ c ∧ c ≤ 100000) ∧ f ≤ p * c ∧ (p - 1) * c < f ∧ p * c ≤ 400000 ∧ -100000 ≤ (p - 1) * c := by
  unfold neL at h1
  by_cases hn : neB l a b c = true
  · rw [if_pos hn] at h1
    unfold neB at hn
    simp only [Bool.and_eq_true] at hn
    have hg := hn.1
    unfold foL at h2
    rw [if_pos hg] at h2
    simp only [goodC, Bool.and_eq_true] at hg
    obtain ⟨-, hb, hc⟩ := okX_iff.1 hg.2
    unfold lshs at h1
    rw [List.take_of_length_le (by rw [frcs_len]; exact Nat.le_refl _), List.getElem?_map, h2] at h1
    cases h1
    have hf : lsh c f ≤ 4 := by
      have := hn.2
      unfold few at this
      rw [List.all_eq_true] at this
      exact of_decide_eq_true (this f (List.mem_of_getElem? h2))
    have h0 : 0 ≤ f := by
      have hl := lt_of_get h2
      rw [frcs_len] at hl
      rw [frcs_get b l _ _ hl] at h2
      cases h2
      have hs := goodW_sum hg.1 (by decide) k
      exact (frc_bound hb.1 hb.2 hs.1 hs.2).1
    obtain ⟨q1, q2⟩ := lsh_facts (f := f) hc.1
    have q3 := (lsh_bound hc.1 h0).1
    have q4 := Int.mul_le_mul hf hc.2 (by omega) (by omega)
    have q5 : -1 * c ≤ (lsh c f - 1) * c := Int.mul_le_mul_of_nonneg_right (by omega) (by omega)
    exact ⟨⟨q3, hf⟩, hc, q1, q2, by omega, by omega⟩
  · rw [if_neg hn] at h1
    simp at h1
theorem ne_len (l : List Int) (a b c : Int) : (neL l a b c).length ≤ (foL l a b c).length := by
  unfold neL
  split
  · rename_i hn
    unfold neB at hn
    simp only [Bool.and_eq_true] at hn
    unfold foL
    rw [if_pos hn.1, lshs_len _ (by rw [frcs_len]; exact Nat.le_refl _), frcs_len]
    exact Nat.le_refl _
  · simp
theorem perm_sum {l m : List Int} (h : l.Perm m) : l.sum = m.sum := by
  induction h with
  | nil => rfl
  | cons x _ ih => rw [List.sum_cons, List.sum_cons, ih]
  | swap x y l => simp only [List.sum_cons]; omega
  | trans _ _ h1 h2 => exact h1.trans h2
theorem hv_facts {l : List Int} (h : goodW l 4 = true) : smallI (hvR l) ∧ (hvR l).sum = l.sum := by
  unfold hvR
  rw [if_pos h]
  have hp : (srtI l).reverse.Perm l := (List.reverse_perm _).trans (srtI_perm l)
  exact ⟨fun x hx => goodW_small h x (hp.mem_iff.1 hx), perm_sum hp⟩
theorem li_facts {l : List Int} {a b c : Int} (h : goodC l a b c = true) : liX l a b c ≤ (foL l a b c).sum ∧ smallI (liR l a b c) ∧ (liR l a b c).sum = l.sum ∧ smallI (foL l a b c) := by
  obtain ⟨-, h2, h3⟩ := li_all h
  have hg := h
  simp only [goodC, Bool.and_eq_true] at hg
  have hmem : l ∈ soN l l.length (List.replicate l.length false) := (soN_mem l l.length _ l (by simp) (by rw [unu_none])).2 (by rw [unu_none])
  obtain ⟨D, e2, hD⟩ := foldS (fsm b) (soN l l.length (List.replicate l.length false)) (fun e => by rw [e] at hmem; cases hmem) (fun P hP => (fsm_facts (goodC_perm (by
    have := (soN_mem l l.length (List.replicate l.length false) P (by simp) (by rw [unu_none])).1 hP
    rwa [unu_none] at this) h)).2.2.1)
  have hle : fsm b D ≤ fsm b l := by
    rcases hD.2 l hmem with p | ⟨p, _⟩
    · omega
    · omega
  have e3 : liP l b = (D, fsm b D) := e2
  unfold liX liR foL
  rw [if_pos h, if_pos h, if_pos h]
  refine ⟨?_, fun x hx => goodW_small hg.1 x (h2.mem_iff.1 hx), perm_sum h2, fun x hx => ?_⟩
  · rw [e3]
    exact hle
  · obtain ⟨k, hk⟩ := List.getElem?_of_mem hx
    have hl := lt_of_get hk
    rw [frcs_len] at hl
    rw [frcs_get b l _ _ hl] at hk
    cases hk
    obtain ⟨-, hb, -⟩ := okX_iff.1 hg.2
    have hs := goodW_sum hg.1 (by decide) k
    have := frc_bound hb.1 hb.2 hs.1 hs.2
    omega
/-- What stays while the law runs: the drawn column and its rules. -/
def KF (w : World) (A : Nat) (a b c : Int) (v : Value) (l : List Int) (W : World) : Prop := Below w.heap.size w W ∧ OwnI W v l ∧ BoxR W A a b c
section
variable {w W W' : World} {A : Nat} {a b c : Int} {v : Value} {l : List Int}
theorem KF.below (h : KF w A a b c v l W) (hb : Below W.heap.size W W') : KF w A a b c v l W' := ⟨h.1.trans (hb.mono h.1.size), h.2.1.below hb, h.2.2.below hb⟩
theorem KF.start {B : Nat} (hb : Below w.heap.size w W) (ho : W.ownsRow B 3 1 v l.length (intV l)) (a b c : Int) (T : TypeId) : KF w W.heap.size a b c v l (W.alloc (.cells #[.int .i64 a, .int .i64 b, .int .i64 c] T)) :=
  ⟨hb.alloc hb.size _, ⟨B, ho.alloc _⟩, BoxR.new W a b c T⟩
theorem KF.cells (h : KF w A a b c v l W) : W.cell? ⟨A, 0, none⟩ = some (.int .i64 a) ∧ W.cell? ⟨A, 1, none⟩ = some (.int .i64 b) ∧ W.cell? ⟨A, 2, none⟩ = some (.int .i64 c) := h.2.2.2
end
theorem il_atF {w : World} {a : Option Addr} {n c : Nat} {l : List Int} (h : IL w (.slice a n c) l) (hl : l.length = n) (h0 : 0 < n) : ∃ g off, a = some ⟨g, off, none⟩ ∧ g < w.heap.size ∧ ∀ j x, l[j]? = some x → w.cell? ⟨g, off + j, none⟩ = some (.int .i64 x) := by
  obtain ⟨a', c', e, h⟩ := h
  injection e with e1 e2 e3
  obtain ⟨g, off, e4, hg, hc⟩ := h (by omega)
  exact ⟨g, off, e1.trans e4, hg, hc⟩
end Go.Proofs.Ytalobfpmmembiaa
