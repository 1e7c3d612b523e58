/-
  Proved here: the law FnForces returns true at every list of bytes, and the list reads afterwards as it read before. There are no conditions.
-/
import Derived.Test.YtalobfpmmembiaaRows
import Derived.Test.YtalobfpmmembiaaMFh
import Derived.Test.YtalobfpmmembiaaMFg
import Derived.Test.YtalobfpmmembiaaMLg
import Derived.WalkKit
import Derived.ProofKit
import Derived.OpenShut
import Derived.SizedLaws
namespace Go.Proofs.Ytalobfpmmembiaa
open Go.ChangeShapes Go.WideShapes Go.ChangeAt Go.RowKit

theorem rBig_any (a : Option Addr) (len cap : Nat) (w : World) (hl : len ≤ maxLen) (b : Bool) (hb : decide (65536 < len) = b) : Calls Try.prog 14 #[.slice a len cap] w fun e w' => e = .returned (.bool b) ∧ w = w' := by
  unfold maxLen at hl
  subst hb
  by_cases h : 65536 < len
  · go_enter Try.func14, Try.ntmps14
    go_wp2_with fail
    go_ret
    exact ⟨by rw [show decide (65536 < len) = decide ((65536 : Int) < (len : Int)) from decide_eq_decide.2 (by omega)]; first | rfl | simp, rfl⟩
  · go_enter Try.func14, Try.ntmps14
    go_wp2_with fail
    go_ret
    exact ⟨by rw [show decide (65536 < len) = decide ((65536 : Int) < (len : Int)) from decide_eq_decide.2 (by omega)]; first | rfl | simp, rfl⟩

set_option maxRecDepth 100000 in
set_option maxHeartbeats 2000000 in
theorem st_big (a : Option Addr) (len cap : Nat) (w : World) (h : 65536 < len) (hl : len ≤ maxLen) :
    Calls Try.prog 3 #[.slice a len cap] w fun e w' => e = .returned (.bool true) ∧ w' = w := by
  go_enter Try.func3, Try.ntmps3
  go_wp2_with fail
  refine (rBig_any a len cap _ hl true (by simpa using h)).mono ?_
  rintro e w1 ⟨rfl, rfl⟩
  go_wp2_with fail
  go_ret
  exact ⟨rfl, rfl⟩

set_option maxRecDepth 100000 in
set_option maxHeartbeats 32000000 in
theorem st_small (a : Option Addr) (len cap : Nat) (w : World) (h : D.CodeA w a len) :
    Calls Try.prog 3 #[.slice a len cap] w fun e w' => e = .returned (.bool true) ∧ Below w.heap.size w w' := by
  have HD := Lib.hid (D.drawFo_any a len cap w h)
  have HV := Lib.hid (rBig_any a len cap w (by have := h.1; unfold maxLen; omega) false (by simpa using h.1))
  clear h
  go_enter Try.func3, Try.ntmps3
  go_wp2_with fail
  refine HV.out.mono ?_
  rintro e w1 ⟨rfl, rfl⟩
  go_wp2_with fail
  refine HD.out.mono ?_
  rintro e w1 ⟨l, a1, c1, x, y, z, rfl, hT, ⟨B, -, ho⟩, hb⟩
  have HK := Lib.hid (KF.start hb ho x y z 26)
  clear hb ho HD HV
  generalize Value.slice a1 l.length c1 = v at *
  go_wp2_with fail
  obtain ⟨A, hA⟩ : ∃ A, w1.heap.size = A := ⟨_, rfl⟩
  rw [hA] at HK ⊢
  generalize w1.alloc (.cells #[.int .i64 x, .int .i64 y, .int .i64 z] 26) = w2 at *
  clear hA w1
  obtain ⟨q0, q1, q2⟩ := HK.out.cells
  have PD := Lib.hid (fun k f g => @fo_desc l x y z k f g)
  have PN := Lib.hid (fun k p f => @ne_facts l x y z k p f)
  have PL := Lib.hid (ne_len l x y z)
  have P4 := Lib.hid (foL_len l x y z)
  have P5 := Lib.hid (hvR_len l)
  have P6 := Lib.hid (liR_len l x y z)
  have PH := Lib.hid (@hv_facts l)
  have PI := Lib.hid (@li_facts l x y z)
  have PS := Lib.hid (@goodW_small l 4)
  have C1 := Lib.hid (fun W h => implFo_any v l x y z (by omega) W h)
  have C2 := Lib.hid (fun W h => specFo_any v l x y z (by omega) W h)
  have C3 := Lib.hid (fun W h => implValidC_any v l (by omega) W h)
  have C4 := Lib.hid (fun W h => implNe_any v l x y z (by omega) W h)
  have C5 := Lib.hid (fun W h => specNe_any v l x y z (by omega) W h)
  have C6 := Lib.hid (fun W h => implHv_any v l (by omega) W h)
  have C7 := Lib.hid (fun W h => specHv_any v l (by omega) W h)
  have C8 := Lib.hid (fun W h => implLi_any v l x y z (by omega) W h)
  have C9 := Lib.hid (fun W h => specLi_any v l x y z (by omega) W h)
  have CS := Lib.hid (fun W h => rSum_any v l hT W h)
  have key : (goodC l x y z = true ∧ goodW l 4 = true) ∨ (goodC l x y z = false ∧ goodW l 4 = true) ∨ (goodC l x y z = false ∧ goodW l 4 = false) := by
    unfold goodC
    cases goodW l 4 <;> cases okX x y z <;> simp
  generalize goodC l x y z = gc at *
  generalize goodW l 4 = gw at *
  generalize foL l x y z = F at *
  generalize neL l x y z = E at *
  generalize neB l x y z = nb at *
  generalize hvR l = V at *
  generalize liR l x y z = G at *
  generalize liX l x y z = s at *
  obtain ⟨nF, hF⟩ : ∃ n, F.length = n := ⟨_, rfl⟩
  obtain ⟨nE, hE⟩ : ∃ n, E.length = n := ⟨_, rfl⟩
  obtain ⟨nV, hV⟩ : ∃ n, V.length = n := ⟨_, rfl⟩
  obtain ⟨nG, hG⟩ : ∃ n, G.length = n := ⟨_, rfl⟩
  have LF := Lib.hid hF
  have LE := Lib.hid hE
  have LV := Lib.hid hV
  have LG := Lib.hid hG
  rw [hF] at PL P4
  rw [hE] at PL
  rw [hV] at P5
  rw [hG] at P6
  clear hF hE hV hG hT
  have hn1 : nF ≤ 4 := P4.out
  have hn2 : nE ≤ nF := PL.out
  have hn3 : nV ≤ 4 := P5.out
  have hn4 : nG ≤ 4 := P6.out
  rcases key with ⟨rfl, rfl⟩ | ⟨rfl, rfl⟩ | ⟨rfl, rfl⟩
  · skip
    go_wp2_with fail
    refine (C1.out _ HK.out.2.1).mono ?_
    rintro e w11 ⟨aF, caF, rfl, ho, hb⟩
    have HF := Lib.hid ho.read
    rw [LF.out] at HF ⊢
    clear ho
    have HK := Lib.hid (HK.out.below hb)
    clear hb q0 q1 q2
    obtain ⟨q0, q1, q2⟩ := HK.out.cells
    go_wp2_with fail
    refine (C2.out _ HK.out.2.1.read).mono ?_
    rintro e w12 ⟨aF2, caF2, rfl, ho, hb⟩
    have HF2 := Lib.hid ho.read
    rw [LF.out] at HF2 ⊢
    clear ho
    have HK := Lib.hid (HK.out.below hb)
    have HF := Lib.hid (HF.out.below hb)
    clear hb q0 q1 q2
    obtain ⟨q0, q1, q2⟩ := HK.out.cells
    go_wp2_with fail
    refine (rInts_any _ _ F (by have := LF.out; omega) _ HF.out HF2.out).mono ?_
    rintro e w13 ⟨rfl, hb⟩
    clear HF2
    have HK := Lib.hid (HK.out.below hb)
    have HF := Lib.hid (HF.out.below hb)
    clear hb q0 q1 q2
    obtain ⟨q0, q1, q2⟩ := HK.out.cells
    go_wp2_with fail
    refine (C3.out _ HK.out.2.1.read).mono ?_
    rintro e w14 ⟨rfl, hb⟩
    have HK := Lib.hid (HK.out.below hb)
    have HF := Lib.hid (HF.out.below hb)
    clear hb q0 q1 q2
    obtain ⟨q0, q1, q2⟩ := HK.out.cells
    go_wp2_with fail
    go_loopw [9] (fun i wr => ∃ k q : Nat, k ≤ nF ∧ i = .int .i64 ((k : Int) + 1) ∧ wr = w14.drewN q) (fun i _ => nF + 1 - (intOf i).toNat)
    case atStart => exact ⟨0, 0, Nat.zero_le _, rfl, rfl⟩
    case round =>
      obtain ⟨k, q, hk, rfl, rfl⟩ := hrel
      by_cases hlt : k + 1 < nF
      · obtain ⟨g1, o1, rfl, -, hcc⟩ := il_atF HF.out LF.out (by omega)
        obtain ⟨f, hf⟩ : ∃ f, F[k]? = some f := ⟨_, List.getElem?_eq_getElem (by have := LF.out; omega)⟩
        obtain ⟨g, hg⟩ : ∃ g, F[k + 1]? = some g := ⟨_, List.getElem?_eq_getElem (by have := LF.out; omega)⟩
        have d1 := PD.out k f g hf hg
        have i0 := hcc k f hf
        have i1 := hcc (k + 1) g hg
        have hi : (k : Int) + 1 < (nF : Int) := by omega
        have h0 : (0 : Int) ≤ (k : Int) + 1 := by omega
        have ht : ((k : Int) + 1).toNat = k + 1 := by omega
        have hs : IntKind.i64.wrap ((k : Int) + 1 - 1) = (k : Int) := by rw [IntKind.wrap_i64]; omega
        have hd : decide (f < g) = false := by simp; omega
        clear hcc hf hg
        go_wp2_with fail
        go_quiet (fail)
        go_wp2_with fail
        refine ⟨⟨k + 1, q + nq, by omega, by go_num, rfl⟩, by simp [intOf]; omega⟩
      · have hi : ¬ (k : Int) + 1 < (nF : Int) := by omega
        have hb : Below w14.heap.size w14 (w14.drewN q) := below_drewN (Below.refl _ _) q
        have HK := Lib.hid (HK.out.below hb)
        have HF := Lib.hid (HF.out.below hb)
        clear hb q0 q1 q2
        obtain ⟨q0, q1, q2⟩ := HK.out.cells
        go_wp2_with fail
        refine (C4.out _ HK.out.2.1).mono ?_
        rintro e w15 ⟨aE, caE, rfl, ho, hb⟩
        have HE := Lib.hid ho.read
        rw [LE.out] at HE ⊢
        clear ho
        have HK := Lib.hid (HK.out.below hb)
        have HF := Lib.hid (HF.out.below hb)
        clear hb q0 q1 q2
        obtain ⟨q0, q1, q2⟩ := HK.out.cells
        go_wp2_with fail
        refine (C5.out _ HK.out.2.1.read).mono ?_
        rintro e w16 ⟨aE2, caE2, rfl, ho, hb⟩
        have HE2 := Lib.hid ho.read
        rw [LE.out] at HE2 ⊢
        clear ho
        have HK := Lib.hid (HK.out.below hb)
        have HF := Lib.hid (HF.out.below hb)
        have HE := Lib.hid (HE.out.below hb)
        clear hb q0 q1 q2
        obtain ⟨q0, q1, q2⟩ := HK.out.cells
        go_wp2_with fail
        refine (rInts_any _ _ E (by have := LE.out; omega) _ HE.out HE2.out).mono ?_
        rintro e w17 ⟨rfl, hb⟩
        clear HE2
        have HK := Lib.hid (HK.out.below hb)
        have HF := Lib.hid (HF.out.below hb)
        have HE := Lib.hid (HE.out.below hb)
        clear hb q0 q1 q2
        obtain ⟨q0, q1, q2⟩ := HK.out.cells
        go_wp2_with fail
        go_loopw [14] (fun i wr => ∃ k q : Nat, k ≤ nE ∧ i = .int .i64 (k : Int) ∧ wr = w17.drewN q) (fun i _ => nE - (intOf i).toNat)
        case atStart => exact ⟨0, 0, Nat.zero_le _, rfl, rfl⟩
        case round =>
          obtain ⟨k, q, hk, rfl, rfl⟩ := hrel
          by_cases hlt : k < nE
          · obtain ⟨g1, o1, rfl, -, hc1⟩ := il_atF HE.out LE.out (by omega)
            obtain ⟨g2, o2, rfl, -, hc2⟩ := il_atF HF.out LF.out (by omega)
            obtain ⟨p, hp⟩ : ∃ p, E[k]? = some p := ⟨_, List.getElem?_eq_getElem (by have := LE.out; omega)⟩
            obtain ⟨f, hf⟩ : ∃ f, F[k]? = some f := ⟨_, List.getElem?_eq_getElem (by have := LF.out; omega)⟩
            obtain ⟨⟨p1, p2⟩, ⟨p3, p4⟩, p5, p6, p7, p8⟩ := PN.out k p f hp hf
            have i0 := hc1 k p hp
            have i1 := hc2 k f hf
            have hi : (k : Int) < (nE : Int) := by omega
            have hi2 : (k : Int) < (nF : Int) := by omega
            obtain ⟨m, hm⟩ : ∃ m, p * z = m := ⟨_, rfl⟩
            obtain ⟨r, hr⟩ : ∃ r, p - 1 = r := ⟨_, rfl⟩
            obtain ⟨t, ht⟩ : ∃ t, r * z = t := ⟨_, rfl⟩
            rw [hr] at p6 p8
            rw [hm] at p5 p7
            rw [ht] at p6 p8
            have m1 : IntKind.i64.wrap (p * z) = m := by rw [hm, IntKind.wrap_i64]; omega
            have m2 : IntKind.i64.wrap (p - 1) = r := by rw [IntKind.wrap_i64]; omega
            have m3 : IntKind.i64.wrap (r * z) = t := by rw [ht, IntKind.wrap_i64]; omega
            have d1 : decide (m < f) = false := by simp; omega
            have d2 : decide (f ≤ t) = false := by simp; omega
            have d3 : decide (4 < p) = false := by simp; omega
            clear hc1 hc2 hp hf hm hr ht p5 p6 p7 p8
            by_cases h0 : 0 < p
            · have d4 : decide (0 < p) = true := by simp; exact h0
              go_wp2_with fail
              go_quiet (fail)
              go_wp2_with fail
              refine ⟨⟨k + 1, q + nq, by omega, by go_num, rfl⟩, by simp [intOf]; omega⟩
            · have d4 : decide (0 < p) = false := by simp; omega
              go_wp2_with fail
              go_quiet (fail)
              go_wp2_with fail
              refine ⟨⟨k + 1, q + nq, by omega, by go_num, rfl⟩, by simp [intOf]; omega⟩
          · have hi : ¬ (k : Int) < (nE : Int) := by omega
            have hb : Below w17.heap.size w17 (w17.drewN q) := below_drewN (Below.refl _ _) q
            have HK := Lib.hid (HK.out.below hb)
            have HF := Lib.hid (HF.out.below hb)
            have HE := Lib.hid (HE.out.below hb)
            clear hb q0 q1 q2
            obtain ⟨q0, q1, q2⟩ := HK.out.cells
            clear HE
            go_wp2_with fail
            refine (C6.out _ HK.out.2.1.read).mono ?_
            rintro e w18 ⟨aH, caH, rfl, ho, hb⟩
            have HH := Lib.hid ho.read
            rw [LV.out] at HH ⊢
            clear ho
            have HK := Lib.hid (HK.out.below hb)
            have HF := Lib.hid (HF.out.below hb)
            clear hb q0 q1 q2
            obtain ⟨q0, q1, q2⟩ := HK.out.cells
            go_wp2_with fail
            refine (C7.out _ HK.out.2.1.read).mono ?_
            rintro e w19 ⟨aH2, caH2, rfl, ho, hb⟩
            have HH2 := Lib.hid ho.read
            rw [LV.out] at HH2 ⊢
            clear ho
            have HK := Lib.hid (HK.out.below hb)
            have HF := Lib.hid (HF.out.below hb)
            have HH := Lib.hid (HH.out.below hb)
            clear hb q0 q1 q2
            obtain ⟨q0, q1, q2⟩ := HK.out.cells
            go_wp2_with fail
            refine (rInts_any _ _ V (by have := LV.out; omega) _ HH.out HH2.out).mono ?_
            rintro e w20 ⟨rfl, hb⟩
            clear HH2
            have HK := Lib.hid (HK.out.below hb)
            have HF := Lib.hid (HF.out.below hb)
            have HH := Lib.hid (HH.out.below hb)
            clear hb q0 q1 q2
            obtain ⟨q0, q1, q2⟩ := HK.out.cells
            go_wp2_with fail
            refine (rSum_any _ V (by rw [LV.out]; omega) _ HH.out).mono ?_
            rintro e w9 ⟨s1, rfl, hw, Hs1⟩
            subst hw
            have Hs1 := Lib.hid Hs1
            go_wp2_with fail
            refine (CS.out _ HK.out.2.1.read).mono ?_
            rintro e w9 ⟨s2, rfl, hw, Hs2⟩
            subst hw
            have Hs2 := Lib.hid Hs2
            obtain ⟨v1, v2⟩ := PH.out (by trivial)
            have v3 := (Hs1.out v1).trans (v2.trans (Hs2.out (PS.out (by trivial))).symm)
            subst v3
            clear v1 v2
            go_wp2_with fail
            refine (C8.out _ HK.out.2.1.read).mono ?_
            rintro e w21 ⟨aG, caG, rfl, ho, hb⟩
            have HG := Lib.hid ho.read
            rw [LG.out] at HG ⊢
            clear ho
            have HK := Lib.hid (HK.out.below hb)
            have HF := Lib.hid (HF.out.below hb)
            have HH := Lib.hid (HH.out.below hb)
            clear hb q0 q1 q2
            obtain ⟨q0, q1, q2⟩ := HK.out.cells
            go_wp2_with fail
            refine (C9.out _ HK.out.2.1.read).mono ?_
            rintro e w22 ⟨aG2, caG2, rfl, ho, hb⟩
            have HG2 := Lib.hid ho.read
            rw [LG.out] at HG2 ⊢
            clear ho
            have HK := Lib.hid (HK.out.below hb)
            have HF := Lib.hid (HF.out.below hb)
            have HH := Lib.hid (HH.out.below hb)
            have HG := Lib.hid (HG.out.below hb)
            clear hb q0 q1 q2
            obtain ⟨q0, q1, q2⟩ := HK.out.cells
            go_wp2_with fail
            refine (rInts_any _ _ G (by have := LG.out; omega) _ HG.out HG2.out).mono ?_
            rintro e w23 ⟨rfl, hb⟩
            clear HG2
            have HK := Lib.hid (HK.out.below hb)
            have HF := Lib.hid (HF.out.below hb)
            have HH := Lib.hid (HH.out.below hb)
            have HG := Lib.hid (HG.out.below hb)
            clear hb q0 q1 q2
            obtain ⟨q0, q1, q2⟩ := HK.out.cells
            go_wp2_with fail
            refine (rSum_any _ F (by rw [LF.out]; omega) _ HF.out).mono ?_
            rintro e w9 ⟨s3, rfl, hw, Hs3⟩
            subst hw
            have Hs3 := Lib.hid Hs3
            obtain ⟨z1, z2, z3, z4⟩ := PI.out (by trivial)
            have z5 : s ≤ s3 := by rw [Hs3.out z4]; exact z1
            clear z1 z4
            go_wp2_with fail
            refine (rSum_any _ G (by rw [LG.out]; omega) _ HG.out).mono ?_
            rintro e w9 ⟨s4, rfl, hw, Hs4⟩
            subst hw
            have Hs4 := Lib.hid Hs4
            have z6 := Hs4.out z2
            rw [z3] at z6
            subst z6
            clear z2 z3
            go_wp2_with fail
            refine (CS.out _ HK.out.2.1.read).mono ?_
            rintro e w9 ⟨s5, rfl, hw, Hs5⟩
            subst hw
            have Hs5 := Lib.hid Hs5
            have z7 := Hs5.out (PS.out (by trivial))
            subst z7
            go_wp2_with fail
            go_ret
            exact ⟨rfl, HK.out.1⟩
  · skip
    go_wp2_with fail
    refine (C1.out _ HK.out.2.1).mono ?_
    rintro e w24 ⟨aF, caF, rfl, ho, hb⟩
    have HF := Lib.hid ho.read
    rw [LF.out] at HF ⊢
    clear ho
    have HK := Lib.hid (HK.out.below hb)
    clear hb q0 q1 q2
    obtain ⟨q0, q1, q2⟩ := HK.out.cells
    go_wp2_with fail
    refine (C2.out _ HK.out.2.1.read).mono ?_
    rintro e w25 ⟨aF2, caF2, rfl, ho, hb⟩
    have HF2 := Lib.hid ho.read
    rw [LF.out] at HF2 ⊢
    clear ho
    have HK := Lib.hid (HK.out.below hb)
    have HF := Lib.hid (HF.out.below hb)
    clear hb q0 q1 q2
    obtain ⟨q0, q1, q2⟩ := HK.out.cells
    go_wp2_with fail
    refine (rInts_any _ _ F (by have := LF.out; omega) _ HF.out HF2.out).mono ?_
    rintro e w26 ⟨rfl, hb⟩
    clear HF2
    have HK := Lib.hid (HK.out.below hb)
    have HF := Lib.hid (HF.out.below hb)
    clear hb q0 q1 q2
    obtain ⟨q0, q1, q2⟩ := HK.out.cells
    go_wp2_with fail
    go_loopw [9] (fun i wr => ∃ k q : Nat, k ≤ nF ∧ i = .int .i64 ((k : Int) + 1) ∧ wr = w26.drewN q) (fun i _ => nF + 1 - (intOf i).toNat)
    case atStart => exact ⟨0, 0, Nat.zero_le _, rfl, rfl⟩
    case round =>
      obtain ⟨k, q, hk, rfl, rfl⟩ := hrel
      by_cases hlt : k + 1 < nF
      · obtain ⟨g1, o1, rfl, -, hcc⟩ := il_atF HF.out LF.out (by omega)
        obtain ⟨f, hf⟩ : ∃ f, F[k]? = some f := ⟨_, List.getElem?_eq_getElem (by have := LF.out; omega)⟩
        obtain ⟨g, hg⟩ : ∃ g, F[k + 1]? = some g := ⟨_, List.getElem?_eq_getElem (by have := LF.out; omega)⟩
        have d1 := PD.out k f g hf hg
        have i0 := hcc k f hf
        have i1 := hcc (k + 1) g hg
        have hi : (k : Int) + 1 < (nF : Int) := by omega
        have h0 : (0 : Int) ≤ (k : Int) + 1 := by omega
        have ht : ((k : Int) + 1).toNat = k + 1 := by omega
        have hs : IntKind.i64.wrap ((k : Int) + 1 - 1) = (k : Int) := by rw [IntKind.wrap_i64]; omega
        have hd : decide (f < g) = false := by simp; omega
        clear hcc hf hg
        go_wp2_with fail
        go_quiet (fail)
        go_wp2_with fail
        refine ⟨⟨k + 1, q + nq, by omega, by go_num, rfl⟩, by simp [intOf]; omega⟩
      · have hi : ¬ (k : Int) + 1 < (nF : Int) := by omega
        have hb : Below w26.heap.size w26 (w26.drewN q) := below_drewN (Below.refl _ _) q
        have HK := Lib.hid (HK.out.below hb)
        have HF := Lib.hid (HF.out.below hb)
        clear hb q0 q1 q2
        obtain ⟨q0, q1, q2⟩ := HK.out.cells
        go_wp2_with fail
        refine (C4.out _ HK.out.2.1).mono ?_
        rintro e w27 ⟨aE, caE, rfl, ho, hb⟩
        have HE := Lib.hid ho.read
        rw [LE.out] at HE ⊢
        clear ho
        have HK := Lib.hid (HK.out.below hb)
        have HF := Lib.hid (HF.out.below hb)
        clear hb q0 q1 q2
        obtain ⟨q0, q1, q2⟩ := HK.out.cells
        go_wp2_with fail
        refine (C5.out _ HK.out.2.1.read).mono ?_
        rintro e w28 ⟨aE2, caE2, rfl, ho, hb⟩
        have HE2 := Lib.hid ho.read
        rw [LE.out] at HE2 ⊢
        clear ho
        have HK := Lib.hid (HK.out.below hb)
        have HF := Lib.hid (HF.out.below hb)
        have HE := Lib.hid (HE.out.below hb)
        clear hb q0 q1 q2
        obtain ⟨q0, q1, q2⟩ := HK.out.cells
        go_wp2_with fail
        refine (rInts_any _ _ E (by have := LE.out; omega) _ HE.out HE2.out).mono ?_
        rintro e w29 ⟨rfl, hb⟩
        clear HE2
        have HK := Lib.hid (HK.out.below hb)
        have HF := Lib.hid (HF.out.below hb)
        have HE := Lib.hid (HE.out.below hb)
        clear hb q0 q1 q2
        obtain ⟨q0, q1, q2⟩ := HK.out.cells
        go_wp2_with fail
        go_loopw [14] (fun i wr => ∃ k q : Nat, k ≤ nE ∧ i = .int .i64 (k : Int) ∧ wr = w29.drewN q) (fun i _ => nE - (intOf i).toNat)
        case atStart => exact ⟨0, 0, Nat.zero_le _, rfl, rfl⟩
        case round =>
          obtain ⟨k, q, hk, rfl, rfl⟩ := hrel
          by_cases hlt : k < nE
          · obtain ⟨g1, o1, rfl, -, hc1⟩ := il_atF HE.out LE.out (by omega)
            obtain ⟨g2, o2, rfl, -, hc2⟩ := il_atF HF.out LF.out (by omega)
            obtain ⟨p, hp⟩ : ∃ p, E[k]? = some p := ⟨_, List.getElem?_eq_getElem (by have := LE.out; omega)⟩
            obtain ⟨f, hf⟩ : ∃ f, F[k]? = some f := ⟨_, List.getElem?_eq_getElem (by have := LF.out; omega)⟩
            obtain ⟨⟨p1, p2⟩, ⟨p3, p4⟩, p5, p6, p7, p8⟩ := PN.out k p f hp hf
            have i0 := hc1 k p hp
            have i1 := hc2 k f hf
            have hi : (k : Int) < (nE : Int) := by omega
            have hi2 : (k : Int) < (nF : Int) := by omega
            obtain ⟨m, hm⟩ : ∃ m, p * z = m := ⟨_, rfl⟩
            obtain ⟨r, hr⟩ : ∃ r, p - 1 = r := ⟨_, rfl⟩
            obtain ⟨t, ht⟩ : ∃ t, r * z = t := ⟨_, rfl⟩
            rw [hr] at p6 p8
            rw [hm] at p5 p7
            rw [ht] at p6 p8
            have m1 : IntKind.i64.wrap (p * z) = m := by rw [hm, IntKind.wrap_i64]; omega
            have m2 : IntKind.i64.wrap (p - 1) = r := by rw [IntKind.wrap_i64]; omega
            have m3 : IntKind.i64.wrap (r * z) = t := by rw [ht, IntKind.wrap_i64]; omega
            have d1 : decide (m < f) = false := by simp; omega
            have d2 : decide (f ≤ t) = false := by simp; omega
            have d3 : decide (4 < p) = false := by simp; omega
            clear hc1 hc2 hp hf hm hr ht p5 p6 p7 p8
            by_cases h0 : 0 < p
            · have d4 : decide (0 < p) = true := by simp; exact h0
              go_wp2_with fail
              go_quiet (fail)
              go_wp2_with fail
              refine ⟨⟨k + 1, q + nq, by omega, by go_num, rfl⟩, by simp [intOf]; omega⟩
            · have d4 : decide (0 < p) = false := by simp; omega
              go_wp2_with fail
              go_quiet (fail)
              go_wp2_with fail
              refine ⟨⟨k + 1, q + nq, by omega, by go_num, rfl⟩, by simp [intOf]; omega⟩
          · have hi : ¬ (k : Int) < (nE : Int) := by omega
            have hb : Below w29.heap.size w29 (w29.drewN q) := below_drewN (Below.refl _ _) q
            have HK := Lib.hid (HK.out.below hb)
            have HF := Lib.hid (HF.out.below hb)
            have HE := Lib.hid (HE.out.below hb)
            clear hb q0 q1 q2
            obtain ⟨q0, q1, q2⟩ := HK.out.cells
            clear HE
            go_wp2_with fail
            refine (C6.out _ HK.out.2.1.read).mono ?_
            rintro e w30 ⟨aH, caH, rfl, ho, hb⟩
            have HH := Lib.hid ho.read
            rw [LV.out] at HH ⊢
            clear ho
            have HK := Lib.hid (HK.out.below hb)
            have HF := Lib.hid (HF.out.below hb)
            clear hb q0 q1 q2
            obtain ⟨q0, q1, q2⟩ := HK.out.cells
            go_wp2_with fail
            refine (C7.out _ HK.out.2.1.read).mono ?_
            rintro e w31 ⟨aH2, caH2, rfl, ho, hb⟩
            have HH2 := Lib.hid ho.read
            rw [LV.out] at HH2 ⊢
            clear ho
            have HK := Lib.hid (HK.out.below hb)
            have HF := Lib.hid (HF.out.below hb)
            have HH := Lib.hid (HH.out.below hb)
            clear hb q0 q1 q2
            obtain ⟨q0, q1, q2⟩ := HK.out.cells
            go_wp2_with fail
            refine (rInts_any _ _ V (by have := LV.out; omega) _ HH.out HH2.out).mono ?_
            rintro e w32 ⟨rfl, hb⟩
            clear HH2
            have HK := Lib.hid (HK.out.below hb)
            have HF := Lib.hid (HF.out.below hb)
            have HH := Lib.hid (HH.out.below hb)
            clear hb q0 q1 q2
            obtain ⟨q0, q1, q2⟩ := HK.out.cells
            go_wp2_with fail
            refine (rSum_any _ V (by rw [LV.out]; omega) _ HH.out).mono ?_
            rintro e w9 ⟨s1, rfl, hw, Hs1⟩
            subst hw
            have Hs1 := Lib.hid Hs1
            go_wp2_with fail
            refine (CS.out _ HK.out.2.1.read).mono ?_
            rintro e w9 ⟨s2, rfl, hw, Hs2⟩
            subst hw
            have Hs2 := Lib.hid Hs2
            obtain ⟨v1, v2⟩ := PH.out (by trivial)
            have v3 := (Hs1.out v1).trans (v2.trans (Hs2.out (PS.out (by trivial))).symm)
            subst v3
            clear v1 v2
            go_wp2_with fail
            refine (C8.out _ HK.out.2.1.read).mono ?_
            rintro e w33 ⟨aG, caG, rfl, ho, hb⟩
            have HG := Lib.hid ho.read
            rw [LG.out] at HG ⊢
            clear ho
            have HK := Lib.hid (HK.out.below hb)
            have HF := Lib.hid (HF.out.below hb)
            have HH := Lib.hid (HH.out.below hb)
            clear hb q0 q1 q2
            obtain ⟨q0, q1, q2⟩ := HK.out.cells
            go_wp2_with fail
            refine (C9.out _ HK.out.2.1.read).mono ?_
            rintro e w34 ⟨aG2, caG2, rfl, ho, hb⟩
            have HG2 := Lib.hid ho.read
            rw [LG.out] at HG2 ⊢
            clear ho
            have HK := Lib.hid (HK.out.below hb)
            have HF := Lib.hid (HF.out.below hb)
            have HH := Lib.hid (HH.out.below hb)
            have HG := Lib.hid (HG.out.below hb)
            clear hb q0 q1 q2
            obtain ⟨q0, q1, q2⟩ := HK.out.cells
            go_wp2_with fail
            refine (rInts_any _ _ G (by have := LG.out; omega) _ HG.out HG2.out).mono ?_
            rintro e w35 ⟨rfl, hb⟩
            clear HG2
            have HK := Lib.hid (HK.out.below hb)
            have HF := Lib.hid (HF.out.below hb)
            have HH := Lib.hid (HH.out.below hb)
            have HG := Lib.hid (HG.out.below hb)
            clear hb q0 q1 q2
            obtain ⟨q0, q1, q2⟩ := HK.out.cells
            go_wp2_with fail
            go_ret
            exact ⟨rfl, HK.out.1⟩
  · skip
    go_wp2_with fail
    refine (C1.out _ HK.out.2.1).mono ?_
    rintro e w36 ⟨aF, caF, rfl, ho, hb⟩
    have HF := Lib.hid ho.read
    rw [LF.out] at HF ⊢
    clear ho
    have HK := Lib.hid (HK.out.below hb)
    clear hb q0 q1 q2
    obtain ⟨q0, q1, q2⟩ := HK.out.cells
    go_wp2_with fail
    refine (C2.out _ HK.out.2.1.read).mono ?_
    rintro e w37 ⟨aF2, caF2, rfl, ho, hb⟩
    have HF2 := Lib.hid ho.read
    rw [LF.out] at HF2 ⊢
    clear ho
    have HK := Lib.hid (HK.out.below hb)
    have HF := Lib.hid (HF.out.below hb)
    clear hb q0 q1 q2
    obtain ⟨q0, q1, q2⟩ := HK.out.cells
    go_wp2_with fail
    refine (rInts_any _ _ F (by have := LF.out; omega) _ HF.out HF2.out).mono ?_
    rintro e w38 ⟨rfl, hb⟩
    clear HF2
    have HK := Lib.hid (HK.out.below hb)
    have HF := Lib.hid (HF.out.below hb)
    clear hb q0 q1 q2
    obtain ⟨q0, q1, q2⟩ := HK.out.cells
    go_wp2_with fail
    go_loopw [9] (fun i wr => ∃ k q : Nat, k ≤ nF ∧ i = .int .i64 ((k : Int) + 1) ∧ wr = w38.drewN q) (fun i _ => nF + 1 - (intOf i).toNat)
    case atStart => exact ⟨0, 0, Nat.zero_le _, rfl, rfl⟩
    case round =>
      obtain ⟨k, q, hk, rfl, rfl⟩ := hrel
      by_cases hlt : k + 1 < nF
      · obtain ⟨g1, o1, rfl, -, hcc⟩ := il_atF HF.out LF.out (by omega)
        obtain ⟨f, hf⟩ : ∃ f, F[k]? = some f := ⟨_, List.getElem?_eq_getElem (by have := LF.out; omega)⟩
        obtain ⟨g, hg⟩ : ∃ g, F[k + 1]? = some g := ⟨_, List.getElem?_eq_getElem (by have := LF.out; omega)⟩
        have d1 := PD.out k f g hf hg
        have i0 := hcc k f hf
        have i1 := hcc (k + 1) g hg
        have hi : (k : Int) + 1 < (nF : Int) := by omega
        have h0 : (0 : Int) ≤ (k : Int) + 1 := by omega
        have ht : ((k : Int) + 1).toNat = k + 1 := by omega
        have hs : IntKind.i64.wrap ((k : Int) + 1 - 1) = (k : Int) := by rw [IntKind.wrap_i64]; omega
        have hd : decide (f < g) = false := by simp; omega
        clear hcc hf hg
        go_wp2_with fail
        go_quiet (fail)
        go_wp2_with fail
        refine ⟨⟨k + 1, q + nq, by omega, by go_num, rfl⟩, by simp [intOf]; omega⟩
      · have hi : ¬ (k : Int) + 1 < (nF : Int) := by omega
        have hb : Below w38.heap.size w38 (w38.drewN q) := below_drewN (Below.refl _ _) q
        have HK := Lib.hid (HK.out.below hb)
        have HF := Lib.hid (HF.out.below hb)
        clear hb q0 q1 q2
        obtain ⟨q0, q1, q2⟩ := HK.out.cells
        go_wp2_with fail
        refine (C4.out _ HK.out.2.1).mono ?_
        rintro e w39 ⟨aE, caE, rfl, ho, hb⟩
        have HE := Lib.hid ho.read
        rw [LE.out] at HE ⊢
        clear ho
        have HK := Lib.hid (HK.out.below hb)
        have HF := Lib.hid (HF.out.below hb)
        clear hb q0 q1 q2
        obtain ⟨q0, q1, q2⟩ := HK.out.cells
        go_wp2_with fail
        refine (C5.out _ HK.out.2.1.read).mono ?_
        rintro e w40 ⟨aE2, caE2, rfl, ho, hb⟩
        have HE2 := Lib.hid ho.read
        rw [LE.out] at HE2 ⊢
        clear ho
        have HK := Lib.hid (HK.out.below hb)
        have HF := Lib.hid (HF.out.below hb)
        have HE := Lib.hid (HE.out.below hb)
        clear hb q0 q1 q2
        obtain ⟨q0, q1, q2⟩ := HK.out.cells
        go_wp2_with fail
        refine (rInts_any _ _ E (by have := LE.out; omega) _ HE.out HE2.out).mono ?_
        rintro e w41 ⟨rfl, hb⟩
        clear HE2
        have HK := Lib.hid (HK.out.below hb)
        have HF := Lib.hid (HF.out.below hb)
        have HE := Lib.hid (HE.out.below hb)
        clear hb q0 q1 q2
        obtain ⟨q0, q1, q2⟩ := HK.out.cells
        go_wp2_with fail
        go_loopw [14] (fun i wr => ∃ k q : Nat, k ≤ nE ∧ i = .int .i64 (k : Int) ∧ wr = w41.drewN q) (fun i _ => nE - (intOf i).toNat)
        case atStart => exact ⟨0, 0, Nat.zero_le _, rfl, rfl⟩
        case round =>
          obtain ⟨k, q, hk, rfl, rfl⟩ := hrel
          by_cases hlt : k < nE
          · obtain ⟨g1, o1, rfl, -, hc1⟩ := il_atF HE.out LE.out (by omega)
            obtain ⟨g2, o2, rfl, -, hc2⟩ := il_atF HF.out LF.out (by omega)
            obtain ⟨p, hp⟩ : ∃ p, E[k]? = some p := ⟨_, List.getElem?_eq_getElem (by have := LE.out; omega)⟩
            obtain ⟨f, hf⟩ : ∃ f, F[k]? = some f := ⟨_, List.getElem?_eq_getElem (by have := LF.out; omega)⟩
            obtain ⟨⟨p1, p2⟩, ⟨p3, p4⟩, p5, p6, p7, p8⟩ := PN.out k p f hp hf
            have i0 := hc1 k p hp
            have i1 := hc2 k f hf
            have hi : (k : Int) < (nE : Int) := by omega
            have hi2 : (k : Int) < (nF : Int) := by omega
            obtain ⟨m, hm⟩ : ∃ m, p * z = m := ⟨_, rfl⟩
            obtain ⟨r, hr⟩ : ∃ r, p - 1 = r := ⟨_, rfl⟩
            obtain ⟨t, ht⟩ : ∃ t, r * z = t := ⟨_, rfl⟩
            rw [hr] at p6 p8
            rw [hm] at p5 p7
            rw [ht] at p6 p8
            have m1 : IntKind.i64.wrap (p * z) = m := by rw [hm, IntKind.wrap_i64]; omega
            have m2 : IntKind.i64.wrap (p - 1) = r := by rw [IntKind.wrap_i64]; omega
            have m3 : IntKind.i64.wrap (r * z) = t := by rw [ht, IntKind.wrap_i64]; omega
            have d1 : decide (m < f) = false := by simp; omega
            have d2 : decide (f ≤ t) = false := by simp; omega
            have d3 : decide (4 < p) = false := by simp; omega
            clear hc1 hc2 hp hf hm hr ht p5 p6 p7 p8
            by_cases h0 : 0 < p
            · have d4 : decide (0 < p) = true := by simp; exact h0
              go_wp2_with fail
              go_quiet (fail)
              go_wp2_with fail
              refine ⟨⟨k + 1, q + nq, by omega, by go_num, rfl⟩, by simp [intOf]; omega⟩
            · have d4 : decide (0 < p) = false := by simp; omega
              go_wp2_with fail
              go_quiet (fail)
              go_wp2_with fail
              refine ⟨⟨k + 1, q + nq, by omega, by go_num, rfl⟩, by simp [intOf]; omega⟩
          · have hi : ¬ (k : Int) < (nE : Int) := by omega
            have hb : Below w41.heap.size w41 (w41.drewN q) := below_drewN (Below.refl _ _) q
            have HK := Lib.hid (HK.out.below hb)
            have HF := Lib.hid (HF.out.below hb)
            have HE := Lib.hid (HE.out.below hb)
            clear hb q0 q1 q2
            obtain ⟨q0, q1, q2⟩ := HK.out.cells
            clear HE
            go_wp2_with fail
            refine (C6.out _ HK.out.2.1.read).mono ?_
            rintro e w42 ⟨aH, caH, rfl, ho, hb⟩
            have HH := Lib.hid ho.read
            rw [LV.out] at HH ⊢
            clear ho
            have HK := Lib.hid (HK.out.below hb)
            have HF := Lib.hid (HF.out.below hb)
            clear hb q0 q1 q2
            obtain ⟨q0, q1, q2⟩ := HK.out.cells
            go_wp2_with fail
            refine (C7.out _ HK.out.2.1.read).mono ?_
            rintro e w43 ⟨aH2, caH2, rfl, ho, hb⟩
            have HH2 := Lib.hid ho.read
            rw [LV.out] at HH2 ⊢
            clear ho
            have HK := Lib.hid (HK.out.below hb)
            have HF := Lib.hid (HF.out.below hb)
            have HH := Lib.hid (HH.out.below hb)
            clear hb q0 q1 q2
            obtain ⟨q0, q1, q2⟩ := HK.out.cells
            go_wp2_with fail
            refine (rInts_any _ _ V (by have := LV.out; omega) _ HH.out HH2.out).mono ?_
            rintro e w44 ⟨rfl, hb⟩
            clear HH2
            have HK := Lib.hid (HK.out.below hb)
            have HF := Lib.hid (HF.out.below hb)
            have HH := Lib.hid (HH.out.below hb)
            clear hb q0 q1 q2
            obtain ⟨q0, q1, q2⟩ := HK.out.cells
            go_wp2_with fail
            refine (rSum_any _ V (by rw [LV.out]; omega) _ HH.out).mono ?_
            rintro e w9 ⟨s1, rfl, hw, Hs1⟩
            subst hw
            have Hs1 := Lib.hid Hs1
            go_wp2_with fail
            refine (CS.out _ HK.out.2.1.read).mono ?_
            rintro e w9 ⟨s2, rfl, hw, Hs2⟩
            subst hw
            have Hs2 := Lib.hid Hs2
            by_cases hss : s1 = s2
            · subst hss
              go_wp2_with fail
              refine (C8.out _ HK.out.2.1.read).mono ?_
              rintro e w45 ⟨aG, caG, rfl, ho, hb⟩
              have HG := Lib.hid ho.read
              rw [LG.out] at HG ⊢
              clear ho
              have HK := Lib.hid (HK.out.below hb)
              have HF := Lib.hid (HF.out.below hb)
              have HH := Lib.hid (HH.out.below hb)
              clear hb q0 q1 q2
              obtain ⟨q0, q1, q2⟩ := HK.out.cells
              go_wp2_with fail
              refine (C9.out _ HK.out.2.1.read).mono ?_
              rintro e w46 ⟨aG2, caG2, rfl, ho, hb⟩
              have HG2 := Lib.hid ho.read
              rw [LG.out] at HG2 ⊢
              clear ho
              have HK := Lib.hid (HK.out.below hb)
              have HF := Lib.hid (HF.out.below hb)
              have HH := Lib.hid (HH.out.below hb)
              have HG := Lib.hid (HG.out.below hb)
              clear hb q0 q1 q2
              obtain ⟨q0, q1, q2⟩ := HK.out.cells
              go_wp2_with fail
              refine (rInts_any _ _ G (by have := LG.out; omega) _ HG.out HG2.out).mono ?_
              rintro e w47 ⟨rfl, hb⟩
              clear HG2
              have HK := Lib.hid (HK.out.below hb)
              have HF := Lib.hid (HF.out.below hb)
              have HH := Lib.hid (HH.out.below hb)
              have HG := Lib.hid (HG.out.below hb)
              clear hb q0 q1 q2
              obtain ⟨q0, q1, q2⟩ := HK.out.cells
              go_wp2_with fail
              go_ret
              exact ⟨rfl, HK.out.1⟩
            · have hss2 : (s1 == s2) = false := by simpa using hss
              go_wp2_with fail
              refine (C8.out _ HK.out.2.1.read).mono ?_
              rintro e w48 ⟨aG, caG, rfl, ho, hb⟩
              have HG := Lib.hid ho.read
              rw [LG.out] at HG ⊢
              clear ho
              have HK := Lib.hid (HK.out.below hb)
              have HF := Lib.hid (HF.out.below hb)
              have HH := Lib.hid (HH.out.below hb)
              clear hb q0 q1 q2
              obtain ⟨q0, q1, q2⟩ := HK.out.cells
              go_wp2_with fail
              refine (C9.out _ HK.out.2.1.read).mono ?_
              rintro e w49 ⟨aG2, caG2, rfl, ho, hb⟩
              have HG2 := Lib.hid ho.read
              rw [LG.out] at HG2 ⊢
              clear ho
              have HK := Lib.hid (HK.out.below hb)
              have HF := Lib.hid (HF.out.below hb)
              have HH := Lib.hid (HH.out.below hb)
              have HG := Lib.hid (HG.out.below hb)
              clear hb q0 q1 q2
              obtain ⟨q0, q1, q2⟩ := HK.out.cells
              go_wp2_with fail
              refine (rInts_any _ _ G (by have := LG.out; omega) _ HG.out HG2.out).mono ?_
              rintro e w50 ⟨rfl, hb⟩
              clear HG2
              have HK := Lib.hid (HK.out.below hb)
              have HF := Lib.hid (HF.out.below hb)
              have HH := Lib.hid (HH.out.below hb)
              have HG := Lib.hid (HG.out.below hb)
              clear hb q0 q1 q2
              obtain ⟨q0, q1, q2⟩ := HK.out.cells
              go_wp2_with fail
              go_ret
              exact ⟨rfl, HK.out.1⟩

theorem st_walk (a : Option Addr) (len cap : Nat) (w : World) (hl : len ≤ maxLen) (hc : ∀ j, j < len → ∃ (cb off : Nat) (x : UInt8), a = some ⟨cb, off, none⟩ ∧ cb < w.heap.size ∧ w.cell? ⟨cb, off + j, none⟩ = some (.int .u8 (x.toNat : Int))) :
    Calls Try.prog 3 #[.slice a len cap] w fun e w' => e = .returned (.bool true) ∧ Below w.heap.size w w' := by
  by_cases h : 65536 < len
  · refine (st_big a len cap w h hl).mono ?_
    rintro e w' ⟨he, rfl⟩
    exact ⟨he, Below.refl _ _⟩
  · exact st_small a len cap w ⟨by omega, hc⟩

theorem st_own : ownKnob Try.prog.godebug = none := by kernel_rfl
theorem st_laidOut : laidOutB Try.prog = true := by kernel_rfl
theorem byte_of {z : Int} (h : (Lit.int .u8 z).wf = true) : ∃ x : UInt8, (x.toNat : Int) = z := by
  have h1 : 0 ≤ z ∧ z < 256 := by
    simp only [Lit.wf, Bool.and_eq_true, decide_eq_true_eq] at h
    have e1 : IntKind.u8.min = 0 := rfl
    have e2 : IntKind.u8.max = 255 := rfl
    omega
  refine ⟨UInt8.ofNat z.toNat, ?_⟩
  rw [UInt8.toNat_ofNat']
  omega

set_option maxRecDepth 100000 in
theorem st_lifted (os : Os) (started : os.Started) (H : Type) (enc : TypeId × Value → H) :
    ReturnsInHanded {} Try.checked os 3 .any (Rows.fnForcesSpec.pre6 enc Try.prog Try.f3 Rows.fnForcesRow.domain false) (Rows.fnForcesSpec.post enc Try.prog Try.f3 false true false false) := by
  refine returnsInHanded_of_change (C := Try.checked) st_own started (by kernel_rfl) Try.func3
    (ChangeSpec.witness6 (enc := enc) (C := Try.checked) false ⟨#[], #[.slice none 0 0], []⟩ 8 (by kernel_rfl) (by kernel_rfl) (by kernel_rfl) (by kernel_rfl)) ?_
  intro W base args ds gs before hval0 hW hcnd0 _
  have hval : ∀ (j : Nat) t v, Try.f3.params[j]? = some t → args[j]? = some v → Value.okWide Try.prog W .any base t v := hval0
  have hW' := hW
  obtain ⟨p, q, hA0, hV, rfl, hfz, _⟩ := hW
  have hA : DataW.TrodAll enc Try.prog W 0 (fun _ => true) true Try.f3.params.toList args.toList ds p := hA0
  rw [Try.params3] at hA hval
  obtain ⟨v0, d0, rfl, rfl, h0⟩ := trodAll_one hA
  obtain ⟨rfl, rfl⟩ := trodVars_none hV
  obtain ⟨a0, len, cap, rfl⟩ := okWide_slice Try.underlying22 (hval 0 22 v0 rfl rfl)
  have h0k := h0
  obtain ⟨fuel, hf⟩ := h0
  clear hA0 hval0 hcnd0
  simp only [List.append_nil] at hW'
  have hlt : ∀ x ∈ p, x.block < W.heap.size := fun x hx => by simpa using hW'.lt x (by simpa using hx)
  have key : len ≤ maxLen ∧ ∀ j, j < len → ∃ (cb off : Nat) (x : UInt8), a0 = some ⟨cb, off, none⟩ ∧ cb < W.heap.size ∧ W.cell? ⟨cb, off + j, none⟩ = some (.int .u8 (x.toNat : Int)) := by
    rcases open_ints Try.underlying22 Try.underlying5 (by kernel_rfl) hf with ⟨hcs, hx⟩ | ⟨a, len', cap', zs, hcs, _, hl, hm, hz, hx, hcell, hws⟩
    · simp [Value.cells] at hcs
      obtain ⟨rfl, rfl, rfl⟩ := hcs
      exact ⟨Nat.zero_le _, fun j hj => by omega⟩
    · simp [Value.cells] at hcs
      obtain ⟨rfl, rfl, rfl⟩ := hcs
      simp only [Prod.mk.injEq] at hx
      obtain ⟨-, hp⟩ := hx
      simp only [if_true] at hz
      refine ⟨by omega, fun j hj => ?_⟩
      have hjz : j < zs.length := by omega
      obtain ⟨b, off, spot⟩ := a
      have hspot : spot = none := by simpa [Addr.add] using World.cell?_spot (hcell 0 (by omega))
      subst hspot
      have hbW : b < W.heap.size := hlt (.cell b off) (by rw [hp]; exact MemPlace.mem_row.2 ⟨0, by omega, by simp⟩)
      obtain ⟨x, hx⟩ := byte_of (hws zs[j] (List.getElem_mem hjz))
      refine ⟨b, off, x, rfl, hbW, ?_⟩
      rw [← add_plain, hcell j hjz, hx]
      simp [hjz]
  obtain ⟨hn, hv⟩ := key
  refine (st_walk a0 len cap W hn hv).mono fun e W' ⟨he, hB⟩ => ?_
  subst he
  refine ⟨_, rfl, _, _, _, [], p, [], hW', ?_, ?_, rfl, hB.frame _, fun h => by cases h⟩
  · exact trodAll_mk1 (shut_bool Try.underlying4 true)
  · exact trodAll_mk1 (Below.trod st_laidOut (by kernel_rfl) (of_decide_eq_true (by kernel_rfl)) h0k hB hlt)

theorem FnForces_holds : Rows.FnForcesSaid :=
  OpenClaim.holds_of_wide 3 Try.f3 rfl rfl rfl rfl rfl rfl rfl ⟨rfl, rfl, rfl, rfl, rfl⟩ rfl rfl rfl rfl rfl (by kernel_rfl) Try.func3 (by kernel_rfl)
    (of_decide_eq_true (by kernel_rfl)) (by unfold Func.isWrapper; first | (rw [if_pos (by decide +kernel)]; kernel_rfl) | (rw [if_neg (by decide +kernel)]; exact ⟨rfl, rfl⟩))
    (fun os started H enc _ => st_lifted os started H enc)

#print axioms FnForces_holds
end Go.Proofs.Ytalobfpmmembiaa
