/-
  Proved here: the law FnExactLoadsOf returns true at every two lists and every number, and the lists read afterwards as they read before. There are no conditions.
-/
import Derived.Test.YtffejbgcgagkpaaRows
import Derived.Test.YtffejbgcgagkpaaLawP
import Derived.Test.YtffejbgcgagkpaaCrI
import Derived.WalkKit
import Derived.ProofKit
import Derived.OpenShut
namespace Go.Proofs.Ytffejbgcgagkpaa
open Go.Joins Go.Deep Go.ChangeShapes Go.WideShapes Go.ChangeAt Go.RowKit

set_option maxRecDepth 100000 in
set_option maxHeartbeats 16000000 in
theorem loadsOf_body (v vd : Value) (l d : List Int) (c : Int) (R : List Int) (ok : Bool) (hR : R.length ≤ 1000) (hn : l.length ≤ maxLen) (hnd : d.length ≤ maxLen) (w : World) (hv : IL w v l) (hvd : IL w vd d)
    (hspec : l.length ≤ 1048576 → d.length ≤ 1048576 → ∀ (u ud : Value) (W : World), OwnI W u l → OwnI W ud d → Calls Try.prog 18 #[u, .int .i64 c, ud] W (RetL W R ok))
    (himpl : l.length ≤ 1048576 → d.length ≤ 1048576 → ∀ (u ud : Value) (W : World), OwnI W u l → OwnI W ud d → Calls Try.prog 17 #[u, .int .i64 c, ud] W (RetL W R ok)) :
    Calls Try.prog 5 #[v, .int .i64 c, vd] w fun e w' => e = .returned (.bool true) ∧ Below w.heap.size w w' := by
  have HV := Lib.hid hv
  have HD := Lib.hid hvd
  have H1 := Lib.hid hspec
  have H2 := Lib.hid himpl
  obtain ⟨va, vc, rfl⟩ := hv.form
  obtain ⟨da, dc, rfl⟩ := hvd.form
  clear hv hvd hspec himpl
  obtain ⟨m, hm⟩ : ∃ m, l.length = m := ⟨_, rfl⟩
  have HM := Lib.hid hm
  rw [hm] at HV hn ⊢
  obtain ⟨md, hmd⟩ : ∃ md, d.length = md := ⟨_, rfl⟩
  have HMD := Lib.hid hmd
  rw [hmd] at HD hnd ⊢
  clear hm hmd
  unfold maxLen at hn hnd
  obtain ⟨nr, hnr⟩ : ∃ nr, R.length = nr := ⟨_, rfl⟩
  have HNR := Lib.hid hnr
  rw [hnr] at hR
  clear hnr
  have B := Lib.hid (Below.refl w.heap.size w)
  by_cases hS : m ≤ 1048576
  case neg =>
    have hgt : (1048576 : Int) < (m : Int) := by omega
    go_enter Try.func5, Try.ntmps5
    go_wp2_with fail
    go_ret
    exact ⟨rfl, B.out⟩
  by_cases hSd : md ≤ 1048576
  case neg =>
    have hgt : ¬ (1048576 : Int) < (m : Int) := by omega
    have hgtd : (1048576 : Int) < (md : Int) := by omega
    go_enter Try.func5, Try.ntmps5
    go_wp2_with fail
    go_ret
    exact ⟨rfl, B.out⟩
  have hgt : ¬ (1048576 : Int) < (m : Int) := by omega
  have hgtd : ¬ (1048576 : Int) < (md : Int) := by omega
  have HS : Hid (l.length ≤ 1048576) := Lib.hid (by rw [HM.out]; exact hS)
  have HSD : Hid (d.length ≤ 1048576) := Lib.hid (by rw [HMD.out]; exact hSd)
  clear hS hSd
  go_enter Try.func5, Try.ntmps5
  go_wp2_with fail
  refine (toI_any _ l HS.out _ (HV.out.below B.out)).mono ?_
  rintro e w1 ⟨aUA, cUA, rfl, ho, hb⟩
  have B := Lib.hid (B.out.trans (hb.mono B.out.size))
  have UA : Hid (OwnI w1 (.slice aUA l.length cUA) l) := Lib.hid ⟨_, ho⟩
  have Zw1 := Lib.hid hb.size
  clear hb ho
  rw [HM.out] at UA ⊢
  go_wp2_with fail
  refine (toI_any _ d HSD.out _ (HD.out.below B.out)).mono ?_
  rintro e w2 ⟨aUB, cUB, rfl, ho, hb⟩
  have UA := Lib.hid (UA.out.below hb)
  have B := Lib.hid (B.out.trans (hb.mono B.out.size))
  have UB : Hid (OwnI w2 (.slice aUB d.length cUB) d) := Lib.hid ⟨_, ho⟩
  have Zw2 := Lib.hid hb.size
  clear hb ho
  rw [HMD.out] at UB ⊢
  go_wp2_with fail
  refine (H1.out HS.out HSD.out _ _ _ UA.out UB.out).mono ?_
  rintro e w3 ⟨aOW, cOW, rfl, ho, hb⟩
  have UA := Lib.hid (UA.out.below hb)
  have UB := Lib.hid (UB.out.below hb)
  have B := Lib.hid (B.out.trans (hb.mono B.out.size))
  have OW := Lib.hid ho
  clear hb ho
  rw [HNR.out] at OW ⊢
  go_wp2_with fail
  clear UA
  clear UB
  have ZB : Hid (w.heap.size ≤ w3.heap.size) := Lib.hid B.out.size
  refine (toI_any _ l HS.out _ (HV.out.below B.out)).mono ?_
  rintro e w4 ⟨aXA, cXA, rfl, ho, hb⟩
  have OW := Lib.hid (OW.out.below hb)
  have B := Lib.hid (B.out.trans (hb.mono B.out.size))
  have XA := Lib.hid (lo_of_own ho (Nat.le_refl _))
  have Zw4 := Lib.hid hb.size
  clear hb ho
  rw [HM.out] at XA ⊢
  go_wp2_with fail
  refine (toI_any _ d HSD.out _ (HD.out.below B.out)).mono ?_
  rintro e w5 ⟨aXB, cXB, rfl, ho, hb⟩
  have OW := Lib.hid (OW.out.below hb)
  have XA := Lib.hid (XA.out.below hb)
  have B := Lib.hid (B.out.trans (hb.mono B.out.size))
  have XB := Lib.hid (lo_of_own ho (Nat.le_refl _))
  have Zw5 := Lib.hid hb.size
  clear hb ho
  rw [HMD.out] at XB ⊢
  go_wp2_with fail
  refine (H2.out HS.out HSD.out _ _ _ ⟨_, XA.out.2.1⟩ ⟨_, XB.out.2.1⟩).mono ?_
  rintro e w6 ⟨aOG, cOG, rfl, ho, hb⟩
  have OW := Lib.hid (OW.out.below hb)
  have XA := Lib.hid (XA.out.below hb)
  have XB := Lib.hid (XB.out.below hb)
  have B := Lib.hid (B.out.trans (hb.mono B.out.size))
  have OG := Lib.hid ho
  clear hb ho
  rw [HNR.out] at OG ⊢
  go_wp2_with fail
  refine (eqL_any _ _ R (by rw [HNR.out]; omega) _ OG.out.read OW.out.read).mono ?_
  rintro e w7 ⟨rfl, hb⟩
  have OW := Lib.hid (OW.out.below hb)
  have XA := Lib.hid (XA.out.below hb)
  have XB := Lib.hid (XB.out.below hb)
  have OG := Lib.hid (OG.out.below hb)
  have B := Lib.hid (B.out.trans (hb.mono B.out.size))
  clear hb
  go_wp2_with fail
  refine (toI_any _ l HS.out _ (HV.out.below B.out)).mono ?_
  rintro e w8 ⟨aUA, cUA, rfl, ho, hb⟩
  have OW := Lib.hid (OW.out.below hb)
  have XA := Lib.hid (XA.out.below hb)
  have XB := Lib.hid (XB.out.below hb)
  have OG := Lib.hid (OG.out.below hb)
  have B := Lib.hid (B.out.trans (hb.mono B.out.size))
  have UA : Hid (OwnI w8 (.slice aUA l.length cUA) l) := Lib.hid ⟨_, ho⟩
  have Zw8 := Lib.hid hb.size
  clear hb ho
  rw [HM.out] at UA ⊢
  go_wp2_with fail
  refine (eqL_any _ _ l HS.out _ XA.out.read UA.out.read).mono ?_
  rintro e w9 ⟨rfl, hb⟩
  have OW := Lib.hid (OW.out.below hb)
  have XA := Lib.hid (XA.out.below hb)
  have XB := Lib.hid (XB.out.below hb)
  have OG := Lib.hid (OG.out.below hb)
  have UA := Lib.hid (UA.out.below hb)
  have B := Lib.hid (B.out.trans (hb.mono B.out.size))
  clear hb
  go_wp2_with fail
  clear UA
  refine (toI_any _ d HSD.out _ (HD.out.below B.out)).mono ?_
  rintro e w10 ⟨aUB, cUB, rfl, ho, hb⟩
  have OW := Lib.hid (OW.out.below hb)
  have XA := Lib.hid (XA.out.below hb)
  have XB := Lib.hid (XB.out.below hb)
  have OG := Lib.hid (OG.out.below hb)
  have B := Lib.hid (B.out.trans (hb.mono B.out.size))
  have UB : Hid (OwnI w10 (.slice aUB d.length cUB) d) := Lib.hid ⟨_, ho⟩
  have Zw10 := Lib.hid hb.size
  clear hb ho
  rw [HMD.out] at UB ⊢
  go_wp2_with fail
  refine (eqL_any _ _ d HSD.out _ XB.out.read UB.out.read).mono ?_
  rintro e w11 ⟨rfl, hb⟩
  have OW := Lib.hid (OW.out.below hb)
  have XA := Lib.hid (XA.out.below hb)
  have XB := Lib.hid (XB.out.below hb)
  have OG := Lib.hid (OG.out.below hb)
  have UB := Lib.hid (UB.out.below hb)
  have B := Lib.hid (B.out.trans (hb.mono B.out.size))
  clear hb
  go_wp2_with fail
  clear UB
  refine (markL_wide _ l 1 _ _ HS.out (by decide) (by decide) _ XA.out).mono ?_
  rintro e w12 ⟨rfl, ox, hs⟩
  have OG := Lib.hid (OG.out.span hs (.inr Zw5.out))
  have XB := Lib.hid (XB.out.span hs (.inr (Nat.le_refl _)))
  have OW := Lib.hid (OW.out.span hs (.inl (Nat.le_refl _)))
  have B := Lib.hid (Below.span B.out (hs.lift ZB.out) B.out.size)
  clear hs ox XA
  rw [HM.out]
  go_wp2_with fail
  refine (markL_wide _ d (1 + (m : Int)) _ _ HSD.out (by omega) (by omega) _ XB.out).mono ?_
  rintro e w13 ⟨rfl, ox, hs⟩
  have OG := Lib.hid (OG.out.span hs (.inr (Nat.le_refl _)))
  have OW := Lib.hid (OW.out.span hs (.inl Zw4.out))
  have B := Lib.hid (Below.span B.out (hs.lift (Nat.le_trans ZB.out Zw4.out)) B.out.size)
  clear hs ox XB
  rw [HMD.out]
  go_wp2_with fail
  refine (eqL_any _ _ R (by rw [HNR.out]; omega) _ OG.out.read OW.out.read).mono ?_
  rintro e w14 ⟨rfl, hb⟩
  have OW := Lib.hid (OW.out.below hb)
  have OG := Lib.hid (OG.out.below hb)
  have B := Lib.hid (B.out.trans (hb.mono B.out.size))
  clear hb
  go_wp2_with fail
  refine (markL_wide _ R 1 _ _ (by rw [HNR.out]; omega) (by decide) (by decide) _ OG.out).mono ?_
  rintro e w15 ⟨rfl, og, hs⟩
  have OG := Lib.hid og
  have OW := Lib.hid (OW.out.span hs (.inl (Nat.le_trans Zw4.out Zw5.out)))
  have B := Lib.hid (Below.span B.out (hs.lift (Nat.le_trans ZB.out (Nat.le_trans Zw4.out Zw5.out))) B.out.size)
  clear hs og
  rw [HNR.out] at OG ⊢
  go_wp2_with fail
  refine (heldL_wide _ nr 1 (by omega) (by decide) (by decide) _ OG.out.read).mono ?_
  rintro e w16 ⟨rfl, hb⟩
  have OW := Lib.hid (OW.out.below hb)
  have OG := Lib.hid (OG.out.below hb)
  have B := Lib.hid (B.out.trans (hb.mono B.out.size))
  clear hb
  go_wp2_with fail
  refine (toI_any _ l HS.out _ (HV.out.below B.out)).mono ?_
  rintro e w17 ⟨aUA, cUA, rfl, ho, hb⟩
  have OW := Lib.hid (OW.out.below hb)
  have OG := Lib.hid (OG.out.below hb)
  have B := Lib.hid (B.out.trans (hb.mono B.out.size))
  have UA : Hid (OwnI w17 (.slice aUA l.length cUA) l) := Lib.hid ⟨_, ho⟩
  have Zw17 := Lib.hid hb.size
  clear hb ho
  rw [HM.out] at UA ⊢
  go_wp2_with fail
  refine (toI_any _ d HSD.out _ (HD.out.below B.out)).mono ?_
  rintro e w18 ⟨aUB, cUB, rfl, ho, hb⟩
  have OW := Lib.hid (OW.out.below hb)
  have OG := Lib.hid (OG.out.below hb)
  have UA := Lib.hid (UA.out.below hb)
  have B := Lib.hid (B.out.trans (hb.mono B.out.size))
  have UB : Hid (OwnI w18 (.slice aUB d.length cUB) d) := Lib.hid ⟨_, ho⟩
  have Zw18 := Lib.hid hb.size
  clear hb ho
  rw [HMD.out] at UB ⊢
  go_wp2_with fail
  refine (H2.out HS.out HSD.out _ _ _ UA.out UB.out).mono ?_
  rintro e w19 ⟨aOH, cOH, rfl, ho, hb⟩
  have OW := Lib.hid (OW.out.below hb)
  have OG := Lib.hid (OG.out.below hb)
  have UA := Lib.hid (UA.out.below hb)
  have UB := Lib.hid (UB.out.below hb)
  have B := Lib.hid (B.out.trans (hb.mono B.out.size))
  have OH := Lib.hid ho
  clear hb ho
  rw [HNR.out] at OH ⊢
  go_wp2_with fail
  clear UA
  clear UB
  refine (eqL_any _ _ R (by rw [HNR.out]; omega) _ OH.out.read OW.out.read).mono ?_
  rintro e w20 ⟨rfl, hb⟩
  have OW := Lib.hid (OW.out.below hb)
  have OG := Lib.hid (OG.out.below hb)
  have OH := Lib.hid (OH.out.below hb)
  have B := Lib.hid (B.out.trans (hb.mono B.out.size))
  clear hb
  go_wp2_with fail
  refine (heldL_wide _ nr 1 (by omega) (by decide) (by decide) _ OG.out.read).mono ?_
  rintro e w21 ⟨rfl, hb⟩
  have OW := Lib.hid (OW.out.below hb)
  have OG := Lib.hid (OG.out.below hb)
  have OH := Lib.hid (OH.out.below hb)
  have B := Lib.hid (B.out.trans (hb.mono B.out.size))
  clear hb
  go_wp2_with fail
  go_ret
  exact ⟨rfl, B.out⟩

set_option maxRecDepth 100000 in
theorem loadsOf_lifted (os : Os) (started : os.Started) (H : Type) (enc : TypeId × Value → H) :
    ReturnsInHanded {} Try.checked os 5 .any (Rows.fnExactLoadsOfSpec.pre6 enc Try.prog Try.f5 Rows.fnExactLoadsOfRow.domain false) (Rows.fnExactLoadsOfSpec.post enc Try.prog Try.f5 false true false false) := by
  refine returnsInHanded_of_change (C := Try.checked) yard_own started (by kernel_rfl) Try.func5
    (ChangeSpec.witness6 (enc := enc) (C := Try.checked) false ⟨#[], #[.slice none 0 0, .int .i64 0, .slice none 0 0], []⟩ 8 (by kernel_rfl) (by kernel_rfl) (by kernel_rfl) (by kernel_rfl)) ?_
  intro W base args ds gs before hval0 hW hcnd0 _
  have hval : ∀ (j : Nat) t v, Try.f5.params[j]? = some t → args[j]? = some v → Value.okWide Try.prog W .any base t v := hval0
  have hW' := hW
  obtain ⟨p, q, hA0, hV, rfl, hfz, _⟩ := hW
  have hA : DataW.TrodAll enc Try.prog W 0 (fun _ => true) true Try.f5.params.toList args.toList ds p := hA0
  rw [Try.params5] at hA hval
  obtain ⟨v0, v1, v2, d0, d1, d2, p0, p1, p2, rfl, rfl, rfl, h0, h1, h2⟩ := trodAll_three hA
  obtain ⟨rfl, rfl⟩ := trodVars_none hV
  obtain ⟨a0, len, cap, rfl⟩ := okWide_slice Try.underlying24 (hval 0 24 v0 rfl rfl)
  obtain ⟨n0, rfl, rfl, rfl, wn0⟩ := open_int Try.underlying3 (hval 1 3 v1 rfl rfl) h1
  obtain ⟨a2, len2, cap2, rfl⟩ := okWide_slice Try.underlying24 (hval 2 24 v2 rfl rfl)
  clear hA0 hval0 hcnd0
  simp only [List.append_nil] at hW'
  have hlt : ∀ x ∈ p0 ++ p2, x.block < W.heap.size := fun x hx => by simpa using hW'.lt x (by simpa using hx)
  have hlt0 : ∀ x ∈ p0, x.block < W.heap.size := fun x hx => hlt x (List.mem_append_left _ hx)
  have hlt2 : ∀ x ∈ p2, x.block < W.heap.size := fun x hx => hlt x (List.mem_append_right _ hx)
  obtain ⟨l, hn, hv⟩ := open_il h0 hlt0
  obtain ⟨d, hnd, hvd⟩ := open_il h2 hlt2
  refine (loadsOf_body (.slice a0 len cap) (.slice a2 len2 cap2) l d n0 _ _ (by have := lofR_len l n0 d; omega) hn hnd W hv hvd (fun h h' u ud W hu hd => specLo_any u ud l d n0 h h' W hu.read hd.read) (fun h h' u ud W hu hd => implLo_any u ud l d n0 h h' W hu.read (own_cap hu) hd.read)).mono fun e W' ⟨he, hB⟩ => ?_
  subst he
  refine ⟨_, rfl, _, _, _, [], p0 ++ p2, [], hW', ?_, ?_, rfl, hB.frame _, fun h => by cases h⟩
  · exact trodAll_mk1 (shut_bool Try.underlying4 true)
  · have h9 := trodAll_mk3 (Below.trod yard_laidOut (by kernel_rfl) (of_decide_eq_true (by kernel_rfl)) h0 hB hlt0) (shut_int Try.underlying3 wn0) (Below.trod yard_laidOut (by kernel_rfl) (of_decide_eq_true (by kernel_rfl)) h2 hB hlt2)
    first
      | exact h9
      | (simp only [List.append_nil, List.nil_append] at h9; exact h9)

theorem FnExactLoadsOf_holds : Rows.FnExactLoadsOfSaid :=
  OpenClaim.holds_of_wide 5 Try.f5 rfl rfl rfl rfl rfl rfl rfl ⟨rfl, rfl, rfl, rfl, rfl⟩ rfl rfl rfl rfl rfl (by kernel_rfl) Try.func5 (by kernel_rfl)
    (of_decide_eq_true (by kernel_rfl)) (by unfold Func.isWrapper; first | (rw [if_pos (by decide +kernel)]; kernel_rfl) | (rw [if_neg (by decide +kernel)]; exact ⟨rfl, rfl⟩))
    (fun os started H enc _ => loadsOf_lifted os started H enc)
#print axioms FnExactLoadsOf_holds
end Go.Proofs.Ytffejbgcgagkpaa
