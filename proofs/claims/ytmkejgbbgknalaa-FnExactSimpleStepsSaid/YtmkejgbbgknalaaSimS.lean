/-
  What spec.l6Simple and spec.SimpleSteps return. No statement of the seat by itself.
-/
import Derived.Test.YtmkejgbbgknalaaSimI
import Derived.BigQuiet
namespace Go.Proofs.Ytmkejgbbgknalaa
open Go.RowKit

def sliceLen : Value → Nat
  | .slice _ n _ => n
  | _ => 0
theorem PlB.put2 {w wc : World} {ak a2 : Option Addr} {ck c2 B hi : Nat} {u : Value} {Yk Z : List (List Int)} {out : List (Int × Int)} (h : PlB w wc ak ck u Yk out) (ho : OwnY wc B hi (.slice a2 Z.length c2) Z) (hB : w.heap.size < B) (hu : ∀ b, u.ownBlock = some b → b < B ∨ hi ≤ b) :
    PlB w (wc.setCell ⟨w.heap.size, 0, none⟩ (.slice a2 Z.length c2)) a2 c2 u Z out := by
  obtain ⟨h1, h2, -, h4⟩ := h
  refine ⟨h1.setCell (p := ⟨w.heap.size, 0, none⟩) (Nat.le_refl _) _, ?_, ⟨B, hi, .inr hB, ho.span (span_set (Nat.le_refl w.heap.size) (Nat.lt_succ_self _) _) (.inr (by omega)), hu⟩, own_span h4 (span_set (Nat.le_refl w.heap.size) (Nat.lt_succ_self _) _) (fun b hb => .inr (by have := row_base h4 b hb; omega))⟩
  rw [Lib.heap_setCell_same h2]; simp
/-- The box of the step that is chosen. -/
def StB (wo wr : World) (qb : Nat) (b t : Int) : Prop := wo.heap.size ≤ qb ∧ wr.heap[qb]? = some (.cells #[.int .i64 b, .int .i64 t] 80 (0, 0)) ∧ Below wo.heap.size wo wr

set_option maxRecDepth 100000 in
set_option maxHeartbeats 16000000 in
theorem l6Simple_any (v vo : Value) (Y : List (List Int)) (O : List Int) (h0 : PlanInv Y O) (hO : O.length ≤ 8) (w : World) (B0 hi0 : Nat) (h : YdO w B0 hi0 v Y) (ho : IL w vo O) :
    Calls Try.prog 77 #[v, vo] w fun e w' => ∃ r, Sim Y O r ∧ SeenS w (r.getD []) r.isSome e w' := by
  obtain ⟨f6, hi6, hz6, hs6, hb6⟩ := info_is infoS
  obtain ⟨v0, rfl, hv⟩ := h
  obtain ⟨a0, cap0, rfl⟩ := hv.form
  obtain ⟨oa, oc, rfl⟩ := ho.form
  obtain ⟨no, hno⟩ : ∃ no, O.length = no := ⟨_, rfl⟩
  have HNO := Lib.hid hno
  rw [hno] at ho hO ⊢
  have HO := Lib.hid ho
  have R0 : Hid (PlB w ((w.alloc (.cells #[.slice a0 Y.length cap0] 28)).alloc (.cells #[] 80)) a0 cap0 (.slice (some ⟨w.heap.size + 1, 0, none⟩) 0 0) Y []) := Lib.hid (plB_start hv)
  have I0 := Lib.hid h0
  have HM0 : Hid (meas Y O ≤ 32) := Lib.hid (by have := meas_le h0; omega)
  clear hv ho hno h0
  go_enter Try.func77, Try.ntmps77
  go_wp2_with fail
  generalize (w.alloc (.cells #[.slice a0 Y.length cap0] 28)).alloc (.cells #[] 80) = W at *
  go_loopw [6, 7, 8, 9, 10, 11, 12, 13] (fun u i _ _ _ _ _ _ wr => ∃ (q : Nat) (ak : Option Addr) (ck : Nat) (Yk : List (List Int)) (out : List (Int × Int)) (ua : Option Addr) (uc : Nat), q ≤ no ∧ i = .int .i64 q ∧ u = .slice ua out.length uc ∧ Hid (PlB w wr ak ck u Yk out) ∧ Hid (PlanInv Yk (O.drop q)) ∧ Hid (Cont Y O out Yk (O.drop q)) ∧ Hid (out.length + meas Yk (O.drop q) ≤ 32)) (fun u _ _ _ _ _ _ _ _ => 40 - sliceLen u)
  case atStart => exact ⟨0, a0, cap0, Y, [], _, 0, Nat.zero_le _, rfl, rfl, R0, by simpa using I0, Lib.hid (by simpa using Cont.start Y O), Lib.hid (by simpa using HM0.out)⟩
  case round =>
    obtain ⟨q, ak, ck, Yk, out, ua, uc, hq, rfl, rfl, HR, HI, HC, HM⟩ := hrel
    rename World => wo
    by_cases hlt : q < no
    · have hqI : (q : Int) < (no : Int) := by omega
      obtain ⟨n, hn⟩ := get_at HNO.out hlt
      have HDr : Hid (O.drop q = n :: O.drop (q + 1)) := Lib.hid (by
        rw [List.drop_eq_getElem_cons (lt_of_get hn)]
        rw [List.getElem?_eq_getElem (lt_of_get hn)] at hn
        rw [Option.some.inj hn])
      have HI2 := HI.out
      have HC2 := HC.out
      have HM2 := HM.out
      rw [HDr.out] at HI2 HC2 HM2
      have hpn := HI2.2.2 n (by simp)
      obtain ⟨⟨i, k⟩, hp⟩ := Option.isSome_iff_exists.1 hpn
      obtain ⟨l, hl, hat⟩ := place_inv hp
      have hgd := HI2.1
      have hsm := good_small hgd
      have hl4 := (goodY_iff.1 hgd).2.2.1 l (List.mem_of_getElem? hl)
      have hkl := lt_of_get (atL_get hat)
      rw [meas_cons hp hl] at HM2
      obtain ⟨m, hm⟩ : ∃ m, l.length = m + 1 := ⟨l.length - 1, by omega⟩
      obtain ⟨b, hbm⟩ := get_at hm (Nat.lt_succ_self m)
      obtain ⟨q1, q2, ⟨B, hi, b1, b2, b3⟩, q4⟩ := HR.out
      have hyl := b2.yl
      obtain ⟨ya, yc, hye, hyc⟩ := hyl
      injection hye with e1 e2 e3
      subst e1
      clear e2 e3
      obtain ⟨g, off, rfl, hg, hcc⟩ := hyc (by have := lt_of_get hl; omega)
      obtain ⟨uu, hu, hil⟩ := hcc i l hl
      obtain ⟨ra, rc, rfl, hrr⟩ := hil
      obtain ⟨g2, off2, rfl, hg2, hcc2⟩ := hrr (by omega)
      have htop := hcc2 m b hbm
      rw [hm] at hu
      have HF : Hid (∀ W, Below wo.heap.size wo W → Calls Try.prog 92 #[.agg #[.slice (some ⟨g, off, none⟩) Yk.length ck], .int .i64 n] W (RetP W (.tuple #[.int .i64 (i : Int), .int .i64 (k : Int)]))) := Lib.hid fun W hb => by
        have := l5Find_any (.agg #[.slice (some ⟨g, off, none⟩) Yk.length ck]) Yk n (by omega) (by omega) W ⟨_, rfl, b2.yl.below hb⟩
        rw [findV_some hp] at this
        exact this
      have HStp0 : Hid (∀ t W, Below wo.heap.size wo W → Calls Try.prog 102 #[.agg #[.slice (some ⟨g, off, none⟩) Yk.length ck], .agg #[.int .i64 b, .int .i64 t]] W (SeenY W (stepR Yk b t) (stepOk Yk b t))) := Lib.hid fun t W hb => specStep_any _ Yk b t (by omega) (by omega) hgd W ⟨_, rfl, b2.yl.below hb⟩
      obtain ⟨go, offo, rfl, hgo, o1'⟩ := il_at (HO.out) hn
      have o1 := (q1.cell (p := ⟨go, offo + q, none⟩) hgo).trans o1'
      have c0 := cell_of (i := 0) q2 rfl
      have LA := Lib.hid (Array.getElem?_eq_some_iff.1 q2).1
      have LG := Lib.hid (Nat.lt_of_lt_of_le hgo q1.size)
      have LR := Lib.hid hg
      have LT := Lib.hid hg2
      have HC0 := Lib.hid c0
      have HU := Lib.hid hu
      have HT := Lib.hid htop
      have HRows : Hid (∀ j, j < Yk.length → ∃ a c, wo.cell? ⟨g, off + j, none⟩ = some (.slice a (Yk.getD j []).length c)) := Lib.hid fun j hj => by
        obtain ⟨lj, hlj⟩ := get_at (Y := Yk) rfl hj
        obtain ⟨uj, huj, hilj⟩ := hcc j lj hlj
        obtain ⟨aj, cj, rfl⟩ := hilj.form
        exact ⟨aj, cj, by rw [getD_of hlj]; exact huj⟩
      have HL := Lib.hid hl
      have HPp := Lib.hid hp
      have HBm := Lib.hid hbm
      have HLm := Lib.hid hm
      have HI3 := Lib.hid HI2
      have HC3 := Lib.hid HC2
      have HM3 := Lib.hid HM2
      have HOL : Hid (out.length ≤ 32) := Lib.hid (by have := HM.out; omega)
      have hin : i < Yk.length := lt_of_get hl
      have hny6 : Yk.length ≤ 6 := by omega
      have hR4 : Hid (∀ j, (Yk.getD j []).length ≤ 4) := Lib.hid fun j => by
        rcases Nat.lt_or_ge j Yk.length with hs | hs
        · rw [getD_of (List.getElem?_eq_getElem hs)]; exact (goodY_iff.1 hgd).2.2.1 _ (List.getElem_mem hs)
        · rw [List.getD, List.getElem?_eq_none hs]; simp
      have hkm : k ≤ m := by omega
      have hm4 : m ≤ 3 := by omega
      have hiI : (i : Int) < (Yk.length : Int) := by omega
      have HSub : Hid (IntKind.i64.wrap ((m : Int) + 1 - 1) = (m : Int)) := Lib.hid (by rw [IntWalk.i64_in _ (by omega)]; omega)
      clear q1 q2 b1 b2 b3 q4 hn hpn hl hat hsm hp HI2 HC2 HM2 o1' hgo hg hg2 hcc hcc2 hyc hrr htop hbm hm hgd hl4 hkl
      go_wp2_with fail
      go_region_held3 (fun W => W.cell? ⟨w.heap.size, 0, none⟩ = some (.slice (some ⟨g, off, none⟩) Yk.length ck) ∧ W.cell? ⟨go, offo + q, none⟩ = some (.int .i64 n)) (go_keep) (first | (go_at_call 92; refine (HF.out _ (Below.refl _ wo).drew).mono ?_; rintro e w1 ⟨rfl, hb⟩; have x0 := (hb.cell (p := ⟨w.heap.size, 0, none⟩) LA.out).trans c0; have x1 := (hb.cell (p := ⟨go, offo + q, none⟩) LG.out).trans o1; have B1 : Hid (Below wo.heap.size wo w1) := Lib.hid ((Below.refl _ wo).drew.trans hb); clear hb))
      clear c0 o1 hu x1
      have u0 := (B1.out.cell (p := ⟨g, off + i, none⟩) LR.out).trans HU.out
      have t0 := (B1.out.cell (p := ⟨g2, off2 + m, none⟩) LT.out).trans HT.out
      have hsub1 : ((m + 1 : Nat) : Int) - 1 = (m : Int) := by omega
      have hmI : (m : Int) < ((m + 1 : Nat) : Int) := by omega
      obtain ⟨M, hM⟩ : ∃ M, m + 1 = M := ⟨_, rfl⟩
      rw [hM] at u0 hsub1 hmI
      have hMw : IntKind.i64.wrap ((M : Int) - 1) = (m : Int) := by rw [IntWalk.i64_in _ (by omega)]; exact hsub1
      have hmw : IntKind.i64.wrap (m : Int) = (m : Int) := IntWalk.i64_in _ (by omega)
      have HMM := Lib.hid hM
      clear hM
      go_wp2_with fail
      have HSB : Hid (StB w1 (w1.alloc (.cells #[.int .i64 b, .int .i64 (-1)] 80)).drew w1.heap.size b (-1)) := Lib.hid ⟨Nat.le_refl _, heap_alloc_new w1 _, (below_one w1 _).drew⟩
      go_cut [10] from 15 to 110 (fun p w6 => ∃ qb : Nat, p = .pointer (some ⟨qb, 0, none⟩) ∧ Hid (StB w1 w6 qb b (-1)))
      case first =>
        go_region_held3 (fun W => W.cell? ⟨w.heap.size, 0, none⟩ = some (.slice (some ⟨g, off, none⟩) Yk.length ck) ∧ W.cell? ⟨g, off + i, none⟩ = some (.slice (some ⟨g2, off2, none⟩) M rc) ∧ W.cell? ⟨g2, off2 + m, none⟩ = some (.int .i64 b)) (go_keep) (fail)
        all_goals
          clear x0 u0 t0
          go_wp2_with fail
          go_meet
          exact ⟨_, rfl, HSB⟩
      case rest =>
        obtain ⟨qb, rfl, HSt⟩ := hcut
        have HBc : Hid (Below wo.heap.size wo wc) := Lib.hid (B1.out.trans (HSt.out.2.2.mono B1.out.size))
        clear x0 u0 t0 HSB
        have c0 := (HBc.out.cell (p := ⟨w.heap.size, 0, none⟩) LA.out).trans HC0.out
        have u0 := (HBc.out.cell (p := ⟨g, off + i, none⟩) LR.out).trans HU.out
        rw [HMM.out] at u0
        by_cases hkt : k = m
        · have hnb : n = b := by
            have h1 := atL_get (by
              obtain ⟨l', hl', hat'⟩ := place_inv HPp.out
              rw [HL.out] at hl'
              cases hl'
              exact hat' : atL l n = some k)
            rw [hkt, HBm.out] at h1
            exact (Option.some.inj h1).symm
          subst hnb
          have hst := step_take HI3.out.1 HPp.out HL.out (by rw [HLm.out]; omega)
          have HI9' := HI3.out.step (b := n) (t := -1) hst.1 (fun _ => rfl)
          rw [if_pos rfl, hst.2] at HI9'
          have HI9 := Lib.hid HI9'
          have HC9 := Lib.hid (HC3.out.take HPp.out HL.out (by rw [HLm.out]; omega))
          have HM9 : Hid ((out ++ [(n, -1)]).length + meas (Yk.set i (l.take k)) (O.drop (q + 1)) ≤ 32) := Lib.hid (by
            have h1 := meas_le HI9.out
            have h2 := HM3.out
            rw [HLm.out] at h2
            rw [List.length_append]
            show out.length + 1 + _ ≤ 32
            omega)
          have HStp : Hid (∀ W, Below wc.heap.size wc W → Calls Try.prog 102 #[.agg #[.slice (some ⟨g, off, none⟩) Yk.length ck], .agg #[.int .i64 n, .int .i64 (-1)]] W (SeenY W (Yk.set i (l.take k)) true)) := Lib.hid fun W hb => by
            have := HStp0.out (-1) W (HBc.out.trans (hb.mono HBc.out.size))
            rw [hst.1, hst.2] at this
            exact this
          have RX := Lib.hid (HR.out.below HBc.out)
          have HBX := Lib.hid HSt.out.2.1
          have hkI : ¬ (k : Int) < (m : Int) := by omega
          clear HI9' hst
          generalize Yk.set i (l.take k) = Z at *
          go_upto_region 15 with fail
          clear c0 u0
          have c0 := cell_of (i := 0) RX.out.2.1 rfl
          have t0 := cell_of (i := 0) HBX.out rfl
          have t1 := cell_of (i := 1) HBX.out rfl
          generalize hnk : Yk.length = nk at *
          go_wp2_with fail
          refine (HStp.out _ (Below.refl _ _)).mono ?_
          rintro e w5 ⟨a9, m9, c9, rfl, hok, hb⟩
          obtain ⟨rfl, hoz⟩ := hok rfl
          have R5 := Lib.hid (RX.out.below hb)
          have hb6' := below_one w5 (.cells #[.slice a9 Z.length c9] 28)
          have R6 := Lib.hid (R5.out.below hb6')
          have hbx6 := (hb6'.block _ (Nat.lt_of_lt_of_le (Array.getElem?_eq_some_iff.1 HBX.out).1 hb.size)).trans ((hb.block _ (Array.getElem?_eq_some_iff.1 HBX.out).1).trans HBX.out)
          have HB6 := Lib.hid hbx6
          have hn6 := heap_alloc_new w5 (.cells #[.slice a9 Z.length c9] 28)
          have HN6 := Lib.hid hn6
          have O6 := Lib.hid (hoz.below hb6')
          have BX6 := Lib.hid (hb.trans (hb6'.mono hb.size))
          clear c0 t0 t1 hb hoz hb6' hbx6 hn6
          have t0 := cell_of (i := 0) HB6.out rfl
          have t1 := cell_of (i := 1) HB6.out rfl
          go_upto_region 16 with fail
          generalize w5.alloc (.cells #[.slice a9 Z.length c9] 28) = w7 at *
          have hrow := R6.out.2.2.2
          have hsz : w.heap.size + 1 ≤ w7.heap.size := (Array.getElem?_eq_some_iff.1 R6.out.2.1).1
          have hol := HOL.out
          go_upto_region 17 with (at_builtin; refine wpList_append_own_at _ rfl _ _ 33 rfl (w.heap.size + 1) 80 f6 (.agg #[.int .i64 0, .int .i64 0]) 2 16 Try.underlying33 hi6 hz6 hs6 hb6 rfl (by decide) _ _ _ rfl (hrow.alloc _) ⟨w7.heap.size, 0, none⟩ 1 1 [.int .i64 n, .int .i64 (-1)] rfl rfl (two_new _ _ _ _) (by simp [Value.oneCell']) (by unfold maxLen; omega) (by omega) (by simp; omega) ?_; intro v' w4 hown' hgrow hnil hat)
          have hat2 : v'.ownBlock = (Value.slice ua out.length uc).ownBlock ∨ v'.ownBlock = some (w7.alloc (.cells #[.int .i64 n, .int .i64 (-1)] 80)).heap.size := hat
          clear hat
          have HN4 := Lib.hid (R6.out.append _ hown' hgrow hat2)
          have j12 := HN6.out
          have O4 := Lib.hid (O6.out)
          have hz7 : (w7.alloc (.cells #[.int .i64 n, .int .i64 (-1)] 80)).heap.size = w7.heap.size + 1 := by simp
          have hux : (Value.slice ua out.length uc).ownBlock ≠ some w5.heap.size := fun e => by have := row_lt R5.out.2.2.2 _ e; omega
          have hb71 := below_one w7 (.cells #[.int .i64 n, .int .i64 (-1)] 80)
          have l12 := (Array.getElem?_eq_some_iff.1 j12).1
          have n12 : w4.heap[w5.heap.size]? = some (.cells #[.slice a9 Z.length c9] 28 (0, 0)) := (hgrow.block _ (by omega) (fun e => hux e.symm)).trans ((hb71.block _ l12).trans j12)
          have y12 := cell_of (i := 0) n12 rfl
          have OZ : Hid (OwnY w4 wc.heap.size w5.heap.size (.slice a9 Z.length c9) Z) := Lib.hid (owny_apart (O6.out.below hb71) hgrow (fun b hb => .inl (by have := row_lt RX.out.2.2.2 b hb; omega)))
          have c3 := cell_of (i := 0) HN4.out.2.1 rfl
          rw [hnk] at c3
          have f3 : ∀ i, w4.frozen? ⟨w.heap.size, i, none⟩ = false := fun _ => free_of HN4.out.2.1
          have R9 : Hid (PlB w (w4.setCell ⟨w.heap.size, 0, none⟩ (.slice a9 Z.length c9)) a9 c9 v' Z (out ++ [(n, (-1))])) := Lib.hid (PlB.put2 HN4.out OZ.out (by have := (Array.getElem?_eq_some_iff.1 RX.out.2.1).1; omega) (fun b hb => by
            rcases hat2 with e | e
            · exact .inl (by have := row_lt RX.out.2.2.2 b (by rw [← e]; exact hb); omega)
            · rw [e] at hb
              cases hb
              exact .inr (by omega)))
          obtain ⟨va, vc, rfl⟩ := own_form hown'
          clear hown' hgrow hnil hat2 hrow hsz j12 hux hb71 l12 n12 hz7 hol t0 t1
          go_wp2_with fail
          exact ⟨⟨q + 1, a9, c9, Z, out ++ [(n, (-1))], va, vc, by omega, (by first | rfl | go_num), by simp, R9, HI9, HC9, HM9⟩, by have := HOL.out; simp [sliceLen]; omega⟩

        · have hkI : (k : Int) < (m : Int) := by omega
          have HFz := Lib.hid (fun (wr : World) (h : StB w1 wr qb b (lowV (lowN Yk i 0))) => h)
          go_upto_region 7 with fail
          clear c0 u0
          go_wp2_with fail
          go_loopw [11] (fun tt wr => ∃ j : Nat, j ≤ Yk.length ∧ tt = .int .i64 j ∧ Hid (StB w1 wr qb b (lowV (lowN Yk i j)))) (fun tt _ => Yk.length - (intOf tt).toNat)
          case atStart => exact ⟨0, Nat.zero_le _, rfl, HSt⟩
          case round =>
            obtain ⟨j, hj, rfl, HSj⟩ := hrel
            have HBj : Hid (Below wo.heap.size wo (‹World›)) := Lib.hid (B1.out.trans (HSj.out.2.2.mono B1.out.size))
            rename World => wj
            have c0 := (HBj.out.cell (p := ⟨w.heap.size, 0, none⟩) LA.out).trans HC0.out
            have t1 := cell_of (i := 1) HSj.out.2.1 rfl
            have t0 := cell_of (i := 0) HSj.out.2.1 rfl
            have ft : ∀ i, wj.frozen? ⟨qb, i, none⟩ = false := fun _ => free_of HSj.out.2.1
            by_cases hjn : j < Yk.length
            · have hjI : (j : Int) < (Yk.length : Int) := by omega
              obtain ⟨aj, cj, hjc⟩ := HRows.out j hjn
              have u1 := (HBj.out.cell (p := ⟨g, off + j, none⟩) LR.out).trans hjc
              have hj4 := hR4.out j
              have HStep : Hid (lowN Yk i (j + 1) = if j ≠ i ∧ (Yk.getD j []).length < 4 ∧ (∀ t, lowN Yk i j = some t → (Yk.getD j []).length < (Yk.getD t []).length) then some j else lowN Yk i j) := Lib.hid rfl
              obtain ⟨lj, hlj⟩ : ∃ lj, (Yk.getD j []).length = lj := ⟨_, rfl⟩
              rw [hlj] at u1 hj4 HStep
              clear hjc
              by_cases hji : j = i
              · have hb1 : ((j : Int) != (i : Int)) = false := by simp [hji]
                have hb2 : ((j : Int) == (i : Int)) = true := by simp [hji]
                have HS : Hid (lowN Yk i (j + 1) = lowN Yk i j) := Lib.hid (by rw [HStep.out, if_neg fun h => h.1 hji])
                clear hlj
                go_wp2_with fail
                go_quiet (fail)
                go_wp2_with fail
                exact ⟨⟨j + 1, by omega, by go_num, Lib.hid (by rw [HS.out]; exact ⟨HSj.out.1, HSj.out.2.1, below_drewN HSj.out.2.2 _⟩)⟩, by simp [intOf]; omega⟩
              · have hb1 : ((j : Int) != (i : Int)) = true := by simp; omega
                have hb2 : ((j : Int) == (i : Int)) = false := by simp; omega
                by_cases hl4 : lj < 4
                · have hl4I : (lj : Int) < 4 := by omega
                  cases hlo : lowN Yk i j with
                  | none =>
                    have HS : Hid (lowN Yk i (j + 1) = some j) := Lib.hid (by rw [HStep.out, if_pos ⟨hji, hl4, fun t ht => by rw [hlo] at ht; cases ht⟩])
                    have h1 := HSj.out.2.1
                    rw [hlo] at t1 h1
                    have hv : lowV none = -1 := rfl
                    rw [hv] at t1 h1
                    have HH := Lib.hid h1
                    have hm1 : decide ((-1 : Int) < 0) = true := by decide
                    clear hlj hlo hv h1
                    go_wp2_with fail
                    go_quiet (fail)
                    go_wp2_with fail
                    exact ⟨⟨j + 1, by omega, by go_num, Lib.hid (by
                      rw [HS.out]
                      have h1 : (wj.drewN nq).heap[qb]? = some (.cells #[.int .i64 b, .int .i64 (-1)] 80 (0, 0)) := HH.out
                      exact ⟨HSj.out.1, by rw [Lib.heap_setCell_same h1]; rfl, (below_drewN HSj.out.2.2 nq).setCell (p := ⟨qb, 1, none⟩) HSj.out.1 _⟩)⟩, by simp [intOf]; omega⟩
                  | some t =>
                    have hlt9 := lowN_lt hlo
                    obtain ⟨at9, ct9, htc⟩ := HRows.out t (by omega)
                    have u2 := (HBj.out.cell (p := ⟨g, off + t, none⟩) LR.out).trans htc
                    have ht4 := hR4.out t
                    obtain ⟨lt9, hlt8⟩ : ∃ lt9, (Yk.getD t []).length = lt9 := ⟨_, rfl⟩
                    rw [hlt8] at u2 ht4
                    have htI : (t : Int) < (Yk.length : Int) := by omega
                    have ht0 : ¬ (t : Int) < 0 := by omega
                    have ht0b : decide ((t : Int) < 0) = false := by simp
                    have h1 := HSj.out.2.1
                    rw [hlo] at t1 h1
                    have hv : lowV (some t) = (t : Int) := rfl
                    rw [hv] at t1 h1
                    have HH := Lib.hid h1
                    by_cases hcmp : lj < lt9
                    · have hcI : (lj : Int) < (lt9 : Int) := by omega
                      have HS : Hid (lowN Yk i (j + 1) = some j) := Lib.hid (by rw [HStep.out, if_pos ⟨hji, hl4, fun q hq => by rw [hlo] at hq; cases hq; omega⟩])
                      clear hlj hlo hv h1 htc hlt8 hlt9
                      go_wp2_with fail
                      go_quiet (fail)
                      go_wp2_with fail
                      exact ⟨⟨j + 1, by omega, by go_num, Lib.hid (by
                        rw [HS.out]
                        have h1 : (wj.drewN nq).heap[qb]? = some (.cells #[.int .i64 b, .int .i64 (t : Int)] 80 (0, 0)) := HH.out
                        exact ⟨HSj.out.1, by rw [Lib.heap_setCell_same h1]; rfl, (below_drewN HSj.out.2.2 nq).setCell (p := ⟨qb, 1, none⟩) HSj.out.1 _⟩)⟩, by simp [intOf]; omega⟩
                    · have hcI : ¬ (lj : Int) < (lt9 : Int) := by omega
                      have HS : Hid (lowN Yk i (j + 1) = lowN Yk i j) := Lib.hid (by rw [HStep.out, if_neg fun h => hcmp (by have := h.2.2 t hlo; omega)])
                      clear hlj hlo hv h1 htc hlt8 hlt9
                      go_wp2_with fail
                      go_quiet (fail)
                      go_wp2_with fail
                      exact ⟨⟨j + 1, by omega, by go_num, Lib.hid (by rw [HS.out]; exact ⟨HSj.out.1, HSj.out.2.1, below_drewN HSj.out.2.2 _⟩)⟩, by simp [intOf]; omega⟩
                · have HS : Hid (lowN Yk i (j + 1) = lowN Yk i j) := Lib.hid (by rw [HStep.out, if_neg fun h => hl4 h.2.1])
                  obtain rfl : lj = 4 := by omega
                  clear hlj
                  go_wp2_with fail
                  go_quiet (fail)
                  go_wp2_with fail
                  exact ⟨⟨j + 1, by omega, by go_num, Lib.hid (by rw [HS.out]; exact ⟨HSj.out.1, HSj.out.2.1, below_drewN HSj.out.2.2 _⟩)⟩, by simp [intOf]; omega⟩
            · obtain rfl : j = Yk.length := by omega
              cases hlo : lowN Yk i Yk.length with
              | none =>
                have HS : Hid (Sim Y O none) := Lib.hid (HC3.out.stuck HPp.out HL.out (by rw [HLm.out]; omega) hlo)
                rw [hlo] at t1
                have hv : lowV none = -1 := rfl
                rw [hv] at t1
                have HB9 : Hid (Below w.heap.size w (wj.alloc (.cells #[] 80))) := Lib.hid (by
                  have h1 := HR.out.1.trans (HBj.out.mono HR.out.1.size)
                  exact h1.alloc h1.size _)
                go_wp2_with fail
                go_ret2
                exact ⟨none, HS.out, _, 0, rfl, SL.nil _ _ _, HB9.out⟩
              | some t =>
                have hltN := lowN_lt hlo
                have hst := step_of_move HI3.out.1 HL.out HLm.out HBm.out hltN.1 hltN.2.1 hltN.2.2
                have HI9' := HI3.out.step (b := b) (t := (t : Int)) hst.1 (fun h => by omega)
                rw [if_neg (by omega), hst.2] at HI9'
                have hmp := moved_place HI9'.1 HL.out (show k < m by omega) (atL_get (by
                  obtain ⟨l', hl', hat'⟩ := place_inv HPp.out
                  rw [HL.out] at hl'
                  cases hl'
                  exact hat')) hltN.2.1
                have HM9 : Hid ((out ++ [(b, (t : Int))]).length + meas (putY (Yk.set i (l.take m)) t b) (O.drop q) ≤ 32) := Lib.hid (by
                  rw [HDr.out, meas_cons hmp.2 hmp.1, List.length_take]
                  have h2 := HM3.out
                  rw [HLm.out] at h2
                  rw [List.length_append]
                  show out.length + 1 + _ ≤ 32
                  have h3 := HLm.out
                  omega)
                have HC9 : Hid (Cont Y O (out ++ [(b, (t : Int))]) (putY (Yk.set i (l.take m)) t b) (O.drop q)) := Lib.hid (by
                  rw [HDr.out]
                  exact HC3.out.move HPp.out HL.out HLm.out (by omega) HBm.out hlo)
                have HI9 : Hid (PlanInv (putY (Yk.set i (l.take m)) t b) (O.drop q)) := Lib.hid (by rw [HDr.out]; exact HI9')
                have HStp : Hid (∀ W, Below wj.heap.size wj W → Calls Try.prog 102 #[.agg #[.slice (some ⟨g, off, none⟩) Yk.length ck], .agg #[.int .i64 b, .int .i64 (t : Int)]] W (SeenY W (putY (Yk.set i (l.take m)) t b) true)) := Lib.hid fun W hb => by
                  have := HStp0.out (t : Int) W (HBj.out.trans (hb.mono HBj.out.size))
                  rw [hst.1, hst.2] at this
                  exact this
                have RX := Lib.hid (HR.out.below HBj.out)
                have h1 := HSj.out.2.1
                rw [hlo] at t1 h1
                have hv : lowV (some t) = (t : Int) := rfl
                rw [hv] at t1 h1
                have HBX := Lib.hid h1
                have ht0 : ¬ (t : Int) < 0 := by omega
                clear HI9' hst hmp hltN h1 hv hlo ft
                generalize putY (Yk.set i (l.take m)) t b = Z at *
                go_upto_region 15 with fail
                clear t1 c0 t0
                have c0 := cell_of (i := 0) RX.out.2.1 rfl
                have t0 := cell_of (i := 0) HBX.out rfl
                have t1 := cell_of (i := 1) HBX.out rfl
                generalize hnk : Yk.length = nk at *
                go_wp2_with fail
                refine (HStp.out _ (Below.refl _ _)).mono ?_
                rintro e w5 ⟨a9, m9, c9, rfl, hok, hb⟩
                obtain ⟨rfl, hoz⟩ := hok rfl
                have R5 := Lib.hid (RX.out.below hb)
                have hb6' := below_one w5 (.cells #[.slice a9 Z.length c9] 28)
                have R6 := Lib.hid (R5.out.below hb6')
                have hbx6 := (hb6'.block _ (Nat.lt_of_lt_of_le (Array.getElem?_eq_some_iff.1 HBX.out).1 hb.size)).trans ((hb.block _ (Array.getElem?_eq_some_iff.1 HBX.out).1).trans HBX.out)
                have HB6 := Lib.hid hbx6
                have hn6 := heap_alloc_new w5 (.cells #[.slice a9 Z.length c9] 28)
                have HN6 := Lib.hid hn6
                have O6 := Lib.hid (hoz.below hb6')
                have BX6 := Lib.hid (hb.trans (hb6'.mono hb.size))
                clear c0 t0 t1 hb hoz hb6' hbx6 hn6
                have t0 := cell_of (i := 0) HB6.out rfl
                have t1 := cell_of (i := 1) HB6.out rfl
                go_upto_region 16 with fail
                generalize w5.alloc (.cells #[.slice a9 Z.length c9] 28) = w7 at *
                have hrow := R6.out.2.2.2
                have hsz : w.heap.size + 1 ≤ w7.heap.size := (Array.getElem?_eq_some_iff.1 R6.out.2.1).1
                have hol := HOL.out
                go_upto_region 17 with (at_builtin; refine wpList_append_own_at _ rfl _ _ 33 rfl (w.heap.size + 1) 80 f6 (.agg #[.int .i64 0, .int .i64 0]) 2 16 Try.underlying33 hi6 hz6 hs6 hb6 rfl (by decide) _ _ _ rfl (hrow.alloc _) ⟨w7.heap.size, 0, none⟩ 1 1 [.int .i64 b, .int .i64 (t : Int)] rfl rfl (two_new _ _ _ _) (by simp [Value.oneCell']) (by unfold maxLen; omega) (by omega) (by simp; omega) ?_; intro v' w4 hown' hgrow hnil hat)
                have hat2 : v'.ownBlock = (Value.slice ua out.length uc).ownBlock ∨ v'.ownBlock = some (w7.alloc (.cells #[.int .i64 b, .int .i64 (t : Int)] 80)).heap.size := hat
                clear hat
                have HN4 := Lib.hid (R6.out.append _ hown' hgrow hat2)
                have j12 := HN6.out
                have O4 := Lib.hid (O6.out)
                have hz7 : (w7.alloc (.cells #[.int .i64 b, .int .i64 (t : Int)] 80)).heap.size = w7.heap.size + 1 := by simp
                have hux : (Value.slice ua out.length uc).ownBlock ≠ some w5.heap.size := fun e => by have := row_lt R5.out.2.2.2 _ e; omega
                have hb71 := below_one w7 (.cells #[.int .i64 b, .int .i64 (t : Int)] 80)
                have l12 := (Array.getElem?_eq_some_iff.1 j12).1
                have n12 : w4.heap[w5.heap.size]? = some (.cells #[.slice a9 Z.length c9] 28 (0, 0)) := (hgrow.block _ (by omega) (fun e => hux e.symm)).trans ((hb71.block _ l12).trans j12)
                have y12 := cell_of (i := 0) n12 rfl
                have OZ : Hid (OwnY w4 wj.heap.size w5.heap.size (.slice a9 Z.length c9) Z) := Lib.hid (owny_apart (O6.out.below hb71) hgrow (fun b hb => .inl (by have := row_lt RX.out.2.2.2 b hb; omega)))
                have c3 := cell_of (i := 0) HN4.out.2.1 rfl
                rw [hnk] at c3
                have f3 : ∀ i, w4.frozen? ⟨w.heap.size, i, none⟩ = false := fun _ => free_of HN4.out.2.1
                have R9 : Hid (PlB w (w4.setCell ⟨w.heap.size, 0, none⟩ (.slice a9 Z.length c9)) a9 c9 v' Z (out ++ [(b, (t : Int))])) := Lib.hid (PlB.put2 HN4.out OZ.out (by have := (Array.getElem?_eq_some_iff.1 RX.out.2.1).1; omega) (fun b hb => by
                  rcases hat2 with e | e
                  · exact .inl (by have := row_lt RX.out.2.2.2 b (by rw [← e]; exact hb); omega)
                  · rw [e] at hb
                    cases hb
                    exact .inr (by omega)))
                obtain ⟨va, vc, rfl⟩ := own_form hown'
                clear hown' hgrow hnil hat2 hrow hsz j12 hux hb71 l12 n12 hz7 hol t0 t1
                go_wp2_with fail
                exact ⟨⟨q, a9, c9, Z, out ++ [(b, (t : Int))], va, vc, by omega, (by first | rfl | go_num), by simp, R9, HI9, HC9, HM9⟩, by have := HOL.out; simp [sliceLen]; omega⟩

    · obtain rfl : q = no := by omega
      have HS : Hid (Sim Y O (some out)) := Lib.hid (by
        have := HC.out
        rw [show O.drop q = [] by rw [← HNO.out, List.drop_length]] at this
        exact this.done)
      obtain ⟨q1, q2, q3, q4⟩ := HR.out
      have HB := Lib.hid q1
      have HO4 := Lib.hid (sl_of_owns q4)
      clear q1 q2 q3 q4
      go_wp2_with fail
      go_ret2
      exact ⟨_, HS.out, _, _, rfl, HO4.out, HB.out⟩

set_option maxRecDepth 100000 in
set_option maxHeartbeats 4000000 in
theorem specSim_any (v vo : Value) (Y : List (List Int)) (O : List Int) (h1 : Y.length ≤ 1048576) (h2 : tot Y ≤ 1048576) (h3 : O.length ≤ 1048576) (w : World) (B0 hi0 : Nat) (h : YdO w B0 hi0 v Y) (ho : OwnI w vo O) :
    Calls Try.prog 33 #[v, vo] w (SeenS w (simR Y O) (simB Y O)) := by
  obtain ⟨v0, rfl, hv⟩ := h
  obtain ⟨a, c, rfl, hc⟩ := ho.form
  obtain ⟨a0, cap0, rfl⟩ := hv.form
  have HA := Lib.hid (fun W (hb : Below w.heap.size w W) => l6Asked_any (.agg #[.slice a0 Y.length cap0]) _ Y O h1 h2 h3 W ⟨_, rfl, hv.yl.below hb⟩ (ho.below hb))
  have HP := Lib.hid (fun W (hb : Below w.heap.size w W) (hask : askB Y O = true) => l6Simple_any (.agg #[.slice a0 Y.length cap0]) _ Y O (ask_inv hask).1 (ask_inv hask).2 W B0 hi0 ⟨_, rfl, hv.below hb⟩ (ho.below hb).read)
  have BA := Lib.hid (Box1.new w (.slice a0 Y.length cap0) 28)
  have B0' := Lib.hid (below_one w (.cells #[.slice a0 Y.length cap0] 28))
  clear hv ho hc h1 h2 h3
  generalize O.length = no at *
  generalize Y.length = ny at *
  go_enter Try.func33, Try.ntmps33
  go_wp2_with fail
  generalize w.alloc (.cells #[.slice a0 ny cap0] 28) = w0 at *
  refine (HA.out _ B0'.out).mono ?_
  rintro e w1 ⟨rfl, hb⟩
  have c0 := (BA.out.below hb).2
  have B1 := Lib.hid (B0'.out.trans (hb.mono B0'.out.size))
  clear hb
  cases hg : askB Y O with
  | false =>
    have hq := simO_no hg
    have HS : Hid (SeenS w (simR Y O) (simB Y O) (.returned (.tuple #[.slice (some ⟨w1.heap.size, 0, none⟩) 0 0, .bool false])) (w1.alloc (.cells #[] 80))) := Lib.hid (by
      rw [show simR Y O = [] by simp [simR, hq], show simB Y O = false by simp [simB, hq]]
      exact ⟨_, 0, rfl, SL.nil _ _ _, B1.out.alloc B1.out.size _⟩)
    go_wp2_with fail
    go_ret2
    exact HS.out
  | true =>
    go_wp2_with fail
    refine (HP.out _ B1.out hg).mono ?_
    rintro e w2 ⟨r, hr, a2, c2, rfl, hso, hb⟩
    have hq := simO_is hg hr
    have HS : Hid (SeenS w (simR Y O) (simB Y O) (.returned (.tuple #[.slice a2 (r.getD []).length c2, .bool r.isSome])) w2) := Lib.hid (by
      rw [show simR Y O = r.getD [] by simp [simR, hq], show simB Y O = r.isSome by simp [simB, hq]]
      exact ⟨a2, c2, rfl, hso, B1.out.trans (hb.mono B1.out.size)⟩)
    clear hb hso hr hq
    generalize (r.getD []).length = rl at *
    generalize r.isSome = rs at *
    go_wp2_with fail
    go_ret2
    exact HS.out
end Go.Proofs.Ytmkejgbbgknalaa
