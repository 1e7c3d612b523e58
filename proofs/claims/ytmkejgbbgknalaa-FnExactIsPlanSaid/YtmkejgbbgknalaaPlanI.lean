/-
  What impl.IsPlan returns. No statement of the seat by itself.
-/
import Derived.Test.YtmkejgbbgknalaaPlanS
import Derived.Test.YtmkejgbbgknalaaPlanF
import Derived.Test.YtmkejgbbgknalaaStepI
namespace Go.Proofs.Ytmkejgbbgknalaa
open Go.RowKit

theorem il_drop {w : World} {g off m c c' : Nat} {n : Int} {L : List Int} (h : IL w (.slice (some ⟨g, off, none⟩) m c) (n :: L)) : IL w (.slice (some ⟨g, off + 1, none⟩) L.length c') L := by
  obtain ⟨a, c2, e, h⟩ := h
  injection e with e1 e2 e3
  subst e1
  obtain ⟨g', off', e, hg, hc⟩ := h (by simp)
  injection e with e
  injection e with e4 e5
  subst e4 e5
  refine ⟨_, _, rfl, fun h0 => ⟨g, off + 1, rfl, hg, fun j x hx => ?_⟩⟩
  have := hc (j + 1) x (by simpa using hx)
  rw [show off + 1 + j = off + (j + 1) by omega]
  exact this

set_option maxRecDepth 100000 in
set_option maxHeartbeats 8000000 in
theorem implPlan_any (v vo vs : Value) (Y : List (List Int)) (O : List Int) (S : List (Int × Int)) (h1 : Y.length ≤ 1048576) (h2 : tot Y ≤ 1048576) (h3 : O.length ≤ 1048576) (h4 : S.length ≤ 1048576) (w : World) (h : YdR w v Y) (ho : OwnI w vo O) (hs : SL w vs S) :
    Calls Try.prog 30 #[v, vo, vs] w (RetP w (.tuple #[.bool (planB Y O S), .bool (askB Y O)])) := by
  obtain ⟨v0, rfl, hv⟩ := h
  have HV := Lib.hid hv
  obtain ⟨a0, cap0, rfl⟩ := hv.form
  obtain ⟨oa, oc, rfl, hoc⟩ := ho.form
  obtain ⟨sa, sc, rfl, hsc⟩ := hs
  have HSC := Lib.hid hsc
  obtain ⟨ns, hns⟩ : ∃ ns, S.length = ns := ⟨_, rfl⟩
  have HNS := Lib.hid hns
  rw [hns] at h4 ⊢
  have HIO := Lib.hid (fun W (hb : Below w.heap.size w W) => isOrder_any (.agg #[.slice a0 Y.length cap0]) _ Y O h1 h2 h3 W ⟨_, rfl, hv.below hb⟩ (ho.below hb))
  have HIL := Lib.hid ho.read
  have R0 : Hid (PlSt (.slice a0 Y.length cap0) w (w.alloc (.cells #[.slice a0 Y.length cap0] 28)) Y a0 cap0 Y) := Lib.hid ⟨below_one w _, heap_alloc_new w _, .inl ⟨rfl, rfl⟩⟩
  have HQ := Lib.hid (show planB Y O S = (askB Y O && planS Y O S) from rfl)
  have HAI := Lib.hid (fun h => ask_inv (Y := Y) (O := O) h)
  have c0 := cell_of (i := 0) R0.out.2.1 rfl
  clear hsc hv ho hns h1 h2 h3
  go_enter Try.func30, Try.ntmps30
  go_wp2_with fail
  generalize w.alloc (.cells #[.slice a0 Y.length cap0] 28) = W at *
  refine (HIO.out _ R0.out.1).mono ?_
  rintro e w1 ⟨rfl, hb⟩
  have R1 := Lib.hid (R0.out.below hb)
  clear hb c0
  cases hask : askB Y O with
  | false =>
    rw [hask] at HQ
    have HB := Lib.hid R1.out.1
    have ha : askB Y O = false := hask
    go_wp2_with fail
    go_ret2
    exact ⟨by rw [HQ.out]; simp [ha], HB.out⟩
  | true =>
    rw [hask, Bool.true_and] at HQ
    obtain ⟨hinv, h8⟩ := HAI.out hask
    have I1 := Lib.hid hinv
    have ha := Lib.hid hask
    clear hinv hask
    go_wp2_with fail
    go_loopw [8, 10, 11, 12, 20] (fun lv _ _ _ i wr => ∃ (k m lc : Nat) (la : Option Addr) (L : List Int) (ak : Option Addr) (ck : Nat) (Yk : List (List Int)), k ≤ ns ∧ i = .int .i64 k ∧ lv = .slice la m lc ∧ m ≤ lc ∧ m ≤ 8 ∧ Hid (L.length = m) ∧ Hid (IL w (.slice la m lc) L) ∧ Hid (PlSt (.slice a0 Y.length cap0) w wr Y ak ck Yk) ∧ Hid (PlanInv Yk L) ∧ Hid (planS Yk L (S.drop k) = planS Y O S)) (fun _ _ _ _ i _ => ns - (intOf i).toNat)
    case atStart => exact ⟨0, O.length, oc, oa, O, a0, cap0, Y, Nat.zero_le _, rfl, rfl, hoc, h8, Lib.hid rfl, HIL, R1, I1, Lib.hid (by simp)⟩
    case round =>
      obtain ⟨k, m, lc, la, L, ak, ck, Yk, hk, rfl, rfl, hmc, hm8, HM, HL, HR, HI, HP⟩ := hrel
      by_cases hlt : k < ns
      · have hkI : (k : Int) < (ns : Int) := by omega
        obtain ⟨g, off, rfl, hg, hcc⟩ := HSC.out (by have := HNS.out; omega)
        obtain ⟨s, hs⟩ := get_at HNS.out hlt
        obtain ⟨b, t⟩ := s
        obtain ⟨d1, d2⟩ := hcc k _ hs
        obtain ⟨q1, q2, q3⟩ := HR.out
        have s1 : wr.cell? ⟨g, off + k * 2, none⟩ = some (.int .i64 b) := (q1.cell (p := ⟨g, off + k * 2, none⟩) hg).trans d1
        have s2 : wr.cell? ⟨g, off + k * 2 + 1, none⟩ = some (.int .i64 t) := (q1.cell (p := ⟨g, off + k * 2 + 1, none⟩) hg).trans d2
        have hb1 := below_one wr (.cells #[.int .i64 b, .int .i64 t] 80)
        have HB1 := Lib.hid hb1
        have hst := heap_alloc_new wr (.cells #[.int .i64 b, .int .i64 t] 80)
        have HST := Lib.hid hst
        by_cases hm0 : m = 0
        · subst hm0
          have HQ2 : Hid (planS Y O S = false) := Lib.hid (by
            rw [← HP.out, show L = [] from List.eq_nil_of_length_eq_zero HM.out]
            exact planS_none (by rw [HNS.out]; exact hlt))
          have HB := Lib.hid (q1.trans (hb1.mono q1.size))
          clear q1 q2 q3 hb1 hst hs hcc d1 d2
          go_wp2_with fail
          go_quiet (fail)
          go_wp2_with fail
          go_ret2
          exact ⟨by rw [HQ.out, HQ2.out]; simp [ha.out], below_drewN HB.out _⟩
        · obtain ⟨n, L', rfl⟩ : ∃ n L', L = n :: L' := by
            cases L with
            | nil => exact absurd HM.out.symm hm0
            | cons n L' => exact ⟨n, L', rfl⟩
          have hmb : ((m : Int) == 0) = false := by rw [beq_eq_false_iff_ne]; omega
          have hmI : (0 : Int) < (m : Int) := by omega
          have hmN : 0 < m := by omega
          obtain ⟨gl, offl, rfl, hgl, o0⟩ := il_at (k := 0) (HL.out) rfl
          have HIL2 := Lib.hid (il_drop (c' := lc - 1) HL.out)
          have HL1 : Hid (L'.length = m - 1) := Lib.hid (by have := HM.out; simp at this; omega)
          have hinv := HI.out
          have hsm := good_small hinv.1
          have HStep := Lib.hid (planS_step (Y := Yk) (n := n) (L := L') hs)
          have HFE := Lib.hid (fits_eq (b := b) (t := t) hinv)
          have HNext := Lib.hid (fun h1 h2 => hinv.step (b := b) (t := t) h1 h2)
          have HPn := Lib.hid HP.out
          rw [HStep.out, ← HFE.out] at HPn
          have HFt : Hid (∀ W, Below wr.heap.size wr W → Calls Try.prog 73 #[.agg #[.slice ak Yk.length ck], .int .i64 n, .agg #[.int .i64 b, .int .i64 t]] W (BoolP W (fitsB Yk n b t))) := Lib.hid fun W hb => fits_any _ Yk n b t (by omega) (by omega) W ⟨_, rfl, (q3.read HV.out q1).below hb⟩
          have HZ : Hid (∀ W, Below wr.heap.size wr W → Calls Try.prog 68 #[.agg #[.slice ak Yk.length ck], .agg #[.int .i64 b, .int .i64 t]] W (RetY W (stepR Yk b t) (stepOk Yk b t))) := Lib.hid fun W hb => implStep_any _ Yk b t (by omega) (by omega) W ⟨_, rfl, (q3.read HV.out q1).below hb⟩
          have HBn : Hid (fitsB Yk n b t = true → t = -1 → b = n) := Lib.hid fun h ht => by unfold fitsB at h; rw [if_pos ht] at h; exact of_decide_eq_true h
          have c0 := (hb1.cell (p := ⟨w.heap.size, 0, none⟩) (Array.getElem?_eq_some_iff.1 q2).1).trans (cell_of q2 rfl)
          have o1 : (wr.alloc (.cells #[.int .i64 b, .int .i64 t] 80)).cell? ⟨gl, offl, none⟩ = some (.int .i64 n) := (hb1.cell (p := ⟨gl, offl, none⟩) (Nat.lt_of_lt_of_le hgl q1.size)).trans ((q1.cell (p := ⟨gl, offl, none⟩) hgl).trans o0)
          have t0 := cell_of (i := 0) hst rfl
          have t1 := cell_of (i := 1) hst rfl
          have LA := Lib.hid (show w.heap.size < (wr.alloc (.cells #[.int .i64 b, .int .i64 t] 80)).heap.size from Nat.lt_of_lt_of_le (Array.getElem?_eq_some_iff.1 q2).1 hb1.size)
          have LG := Lib.hid (show gl < (wr.alloc (.cells #[.int .i64 b, .int .i64 t] 80)).heap.size from Nat.lt_of_lt_of_le (Nat.lt_of_lt_of_le hgl q1.size) hb1.size)
          have LS := Lib.hid (Array.getElem?_eq_some_iff.1 hst).1
          clear q1 q2 q3 hb1 hst hs hcc d1 d2 HStep HFE hinv hsm o0 hgl hg
          generalize hnk : Yk.length = nk at *
          obtain ⟨Z, hZe⟩ : ∃ Z, stepR Yk b t = Z := ⟨_, rfl⟩
          rw [hZe] at HZ HPn HNext
          obtain ⟨ok, hoe⟩ : ∃ ok, stepOk Yk b t = ok := ⟨_, rfl⟩
          rw [hoe] at HZ HPn HNext
          obtain ⟨ft, hfe⟩ : ∃ ft, fitsB Yk n b t = ft := ⟨_, rfl⟩
          rw [hfe] at HFt HPn HBn
          clear hZe hoe hfe
          go_wp2_with fail
          generalize wr.alloc (.cells #[.int .i64 b, .int .i64 t] 80) = wa at *
          cases ft with
          | false =>
            have HQ2 : Hid (planS Y O S = false) := Lib.hid (by rw [← HPn.out]; rfl)
            go_region_held3 (fun W => W.cell? ⟨w.heap.size, 0, none⟩ = some (.slice ak nk ck) ∧ W.cell? ⟨gl, offl, none⟩ = some (.int .i64 n) ∧ W.cell? ⟨wr.heap.size, 0, none⟩ = some (.int .i64 b) ∧ W.cell? ⟨wr.heap.size, 1, none⟩ = some (.int .i64 t)) (go_keep) (first | (go_at_call 73; refine (HFt.out _ HB1.out.drew).mono ?_; rintro e w5 ⟨rfl, hb⟩; have x0 := (hb.cell (p := ⟨w.heap.size, 0, none⟩) LA.out).trans c0; have x1 := (hb.cell (p := ⟨gl, offl, none⟩) LG.out).trans o1; have x2 := (hb.cell (p := ⟨wr.heap.size, 0, none⟩) LS.out).trans t0; have x3 := (hb.cell (p := ⟨wr.heap.size, 1, none⟩) LS.out).trans t1; have BA5 := Lib.hid (((Below.refl _ wa).drew).trans hb); clear hb))
            have HB5 := Lib.hid (HR.out.1.trans ((HB1.out.trans (BA5.out.mono HB1.out.size)).mono HR.out.1.size))
            clear x0 x1 x2 x3 c0 o1 t0 t1
            go_wp2_with fail
            go_ret2
            exact ⟨by rw [HQ.out, HQ2.out]; simp [ha.out], HB5.out⟩
          | true =>
            go_region_held3 (fun W => W.cell? ⟨w.heap.size, 0, none⟩ = some (.slice ak nk ck) ∧ W.cell? ⟨gl, offl, none⟩ = some (.int .i64 n) ∧ W.cell? ⟨wr.heap.size, 0, none⟩ = some (.int .i64 b) ∧ W.cell? ⟨wr.heap.size, 1, none⟩ = some (.int .i64 t)) (go_keep) (first | (go_at_call 73; refine (HFt.out _ HB1.out.drew).mono ?_; rintro e w5 ⟨rfl, hb⟩; have x0 := (hb.cell (p := ⟨w.heap.size, 0, none⟩) LA.out).trans c0; have x1 := (hb.cell (p := ⟨gl, offl, none⟩) LG.out).trans o1; have x2 := (hb.cell (p := ⟨wr.heap.size, 0, none⟩) LS.out).trans t0; have x3 := (hb.cell (p := ⟨wr.heap.size, 1, none⟩) LS.out).trans t1; have BA5 := Lib.hid (((Below.refl _ wa).drew).trans hb); clear hb))
            have HB5 := Lib.hid (HB1.out.trans (BA5.out.mono HB1.out.size))
            have HS5 := Lib.hid ((BA5.out.block _ LS.out).trans HST.out)
            have LS5 := Lib.hid (Nat.lt_of_lt_of_le LS.out BA5.out.size)
            clear x1 c0 o1 t0 t1
            go_wp2_with fail
            refine (HZ.out _ HB5.out).mono ?_
            rintro e w6 ⟨a9, c9, rfl, hoz, hb⟩
            have hb7 := below_one w6 (.cells #[.slice a9 Z.length c9] 28)
            have HB7 := Lib.hid (HB5.out.trans ((hb.trans (hb7.mono hb.size)).mono HB5.out.size))
            have O7 := Lib.hid (hoz.below hb7)
            have y11 : (w6.alloc (.cells #[.slice a9 Z.length c9] 28)).cell? ⟨w6.heap.size, 0, none⟩ = some (.slice a9 Z.length c9) := cell_of (heap_alloc_new w6 _) rfl
            have ST7 := Lib.hid (((hb.trans (hb7.mono hb.size)).block _ LS5.out).trans HS5.out)
            have R7 := Lib.hid (HR.out.below HB7.out)
            clear hb hoz hb7 x0 x2 x3
            cases ok with
            | false =>
              have HQ2 : Hid (planS Y O S = false) := Lib.hid (by rw [← HPn.out]; rfl)
              have HB := Lib.hid R7.out.1
              clear y11
              go_wp2_with fail
              go_ret2
              exact ⟨by rw [HQ.out, HQ2.out]; simp [ha.out], HB.out⟩
            | true =>
              have HN2 := HNext.out (by trivial) (HBn.out (by trivial))
              rw [Bool.true_and, Bool.true_and] at HPn
              have y3 := cell_of (i := 0) R7.out.2.1 rfl
              have f3 : ∀ i, (w6.alloc (.cells #[.slice a9 Z.length c9] 28)).frozen? ⟨w.heap.size, i, none⟩ = false := fun _ => free_of R7.out.2.1
              have HF := Lib.hid (HR.out.put HB7.out HB5.out.size O7.out)
              have hne : ¬ wr.heap.size = w.heap.size := by have := (Array.getElem?_eq_some_iff.1 HR.out.2.1).1; omega
              have st8 : ((w6.alloc (.cells #[.slice a9 Z.length c9] 28)).setCell ⟨w.heap.size, 0, none⟩ (.slice a9 Z.length c9)).heap[wr.heap.size]? = some (.cells #[.int .i64 b, .int .i64 t] 80 (0, 0)) := (Below.heap_setCell _ ⟨w.heap.size, 0, none⟩ _ _ hne).trans ST7.out
              have t2 := cell_of (i := 1) st8 rfl
              clear st8 hne
              by_cases ht : t = -1
              · subst ht
                rw [if_pos rfl] at HPn HN2
                have HN3 := Lib.hid HN2
                clear HN2
                have hlc : (1 : Int) ≤ (m : Int) := by omega
                go_upto_region 13 with fail
                generalize (w6.alloc (.cells #[.slice a9 Z.length c9] 28)).setCell ⟨w.heap.size, 0, none⟩ (.slice a9 Z.length c9) = w8 at *
                clear y11 y3 f3
                by_cases hl1 : lc = 1
                · have hL0 : L' = [] := List.eq_nil_of_length_eq_zero (by have := HL1.out; omega)
                  subst hL0
                  have hm1 : m = 1 := by omega
                  subst hm1 hl1
                  go_wp2_with fail
                  exact ⟨⟨k + 1, 0, 0, _, [], a9, c9, Z, by omega, by go_num, rfl, Nat.le_refl _, by omega, Lib.hid rfl, Lib.hid (IL.nil _ _ _), HF, HN3, HPn⟩, by simp [intOf]; omega⟩
                · have HI4 : Hid (IL w (.slice (some ⟨gl, offl + 1, none⟩) (m - 1) (lc - 1)) L') := Lib.hid (by have := HIL2.out; rw [HL1.out] at this; exact this)
                  go_wp2_with fail
                  exact ⟨⟨k + 1, m - 1, lc - 1, _, L', a9, c9, Z, by omega, by go_num, rfl, by omega, by omega, HL1, HI4, HF, HN3, HPn⟩, by simp [intOf]; omega⟩
              · have hte : (t == -1) = false := by simpa using ht
                rw [if_neg ht] at HPn HN2
                have HN3 := Lib.hid HN2
                clear HN2
                go_wp2_with fail
                generalize (w6.alloc (.cells #[.slice a9 Z.length c9] 28)).setCell ⟨w.heap.size, 0, none⟩ (.slice a9 Z.length c9) = w8 at *
                exact ⟨⟨k + 1, m, lc, _, n :: L', a9, c9, Z, by omega, by go_num, (by first | rfl | trivial), hmc, hm8, HM, HL, HF, HN3, HPn⟩, by simp [intOf]; omega⟩
      · obtain rfl : k = ns := by omega
        have HQ2 : Hid (planS Y O S = decide ((m : Int) = 0)) := Lib.hid (by
          rw [← HP.out, planS_end _ _ HNS.out, HM.out]
          by_cases h : m = 0
          · rw [decide_eq_true h, decide_eq_true (by omega)]
          · rw [decide_eq_false h, decide_eq_false (by omega)])
        have HB := Lib.hid HR.out.1
        by_cases h : m = 0
        · subst h
          rw [decide_eq_true (by omega)] at HQ2
          go_wp2_with fail
          go_ret2
          exact ⟨by rw [HQ.out, HQ2.out]; simp [ha.out], HB.out⟩
        · have hb1 : ((m : Int) == 0) = false := by rw [beq_eq_false_iff_ne]; omega
          rw [decide_eq_false (by omega)] at HQ2
          clear h
          go_wp2_with fail
          go_ret2
          exact ⟨by rw [HQ.out, HQ2.out]; simp [ha.out], HB.out⟩
end Go.Proofs.Ytmkejgbbgknalaa
