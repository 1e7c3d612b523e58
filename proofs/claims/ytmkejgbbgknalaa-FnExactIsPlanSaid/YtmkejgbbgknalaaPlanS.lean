/-
  What spec.l6Plan and spec.IsPlan return. No statement of the seat by itself.
-/
import Derived.Test.YtmkejgbbgknalaaPlanM
import Derived.Test.YtmkejgbbgknalaaRunS
import Derived.Test.YtmkejgbbgknalaaOrd
import Derived.BigQuiet
namespace Go.Proofs.Ytmkejgbbgknalaa
open Go.RowKit

def tirY (Y : List (List Int)) (x : Int) : Int := match placeY Y x with
  | none => -1
  | some p => (p.2 : Int)
theorem findV_eq (Y : List (List Int)) (x : Int) : findV Y x = .tuple #[.int .i64 (stkY Y x), .int .i64 (tirY Y x)] := by
  unfold findV stkY tirY
  cases placeY Y x with
  | none => rfl
  | some p => rfl
/-- While a plan is followed: the yard lies in the box at w's end. -/
def PlSt (v0 : Value) (w wr : World) (Y : List (List Int)) (ak : Option Addr) (ck : Nat) (Yk : List (List Int)) : Prop :=
  Below w.heap.size w wr ∧ wr.heap[w.heap.size]? = some (.cells #[.slice ak Yk.length ck] 28 (0, 0)) ∧ YSt v0 Y wr (w.heap.size + 1) (.slice ak Yk.length ck) Yk (.slice none 0 0)
theorem PlSt.below {v0 : Value} {w wr w' : World} {Y : List (List Int)} {ak : Option Addr} {ck : Nat} {Yk : List (List Int)} (h : PlSt v0 w wr Y ak ck Yk) (hb : Below wr.heap.size wr w') : PlSt v0 w w' Y ak ck Yk :=
  ⟨h.1.trans (hb.mono h.1.size), (hb.block _ (Array.getElem?_eq_some_iff.1 h.2.1).1).trans h.2.1, h.2.2.below hb⟩
theorem PlSt.put {v0 : Value} {w wr wc : World} {Y : List (List Int)} {ak a2 : Option Addr} {ck c2 B hi : Nat} {Yk Z : List (List Int)} (h : PlSt v0 w wr Y ak ck Yk) (hb : Below wr.heap.size wr wc) (hB : wr.heap.size ≤ B) (ho : OwnY wc B hi (.slice a2 Z.length c2) Z) :
    PlSt v0 w (wc.setCell ⟨w.heap.size, 0, none⟩ (.slice a2 Z.length c2)) Y a2 c2 Z := by
  have hl := (Array.getElem?_eq_some_iff.1 h.2.1).1
  obtain ⟨h1, h2, h3⟩ := h.below hb
  refine ⟨h1.setCell (p := ⟨w.heap.size, 0, none⟩) (Nat.le_refl _) _, ?_, .inr ⟨B, hi, by omega, ho.span (span_set (Nat.le_refl w.heap.size) (Nat.lt_succ_self _) _) (.inr (by omega)), fun b e => by cases e⟩⟩
  rw [Lib.heap_setCell_same h2]; simp
theorem il_at {w : World} {a : Option Addr} {n c k : Nat} {l : List Int} {x : Int} (h : IL w (.slice a n c) l) (hx : l[k]? = some x) : ∃ g off, a = some ⟨g, off, none⟩ ∧ g < w.heap.size ∧ w.cell? ⟨g, off + k, none⟩ = some (.int .i64 x) := by
  obtain ⟨a', c', e, h⟩ := h
  injection e with e1 _ _
  subst e1
  obtain ⟨g, off, rfl, hg, hc⟩ := h (by have := lt_of_get hx; omega)
  exact ⟨g, off, rfl, hg, hc k x hx⟩

set_option maxRecDepth 100000 in
set_option maxHeartbeats 8000000 in
theorem l6Plan_any (v0 vo vs : Value) (Y : List (List Int)) (O : List Int) (S : List (Int × Int)) (h0 : PlanInv Y O) (hO : O.length ≤ 8) (hS : S.length ≤ 1048576) (w : World) (hv : YL w v0 Y) (ho : IL w vo O) (hs : SL w vs S) :
    Calls Try.prog 71 #[.agg #[v0], vo, vs] w (BoolP w (planS Y O S)) := by
  have HV := Lib.hid hv
  obtain ⟨a0, cap0, rfl⟩ := hv.form
  obtain ⟨sa, sc, rfl, hsc⟩ := hs
  obtain ⟨oa, oc, rfl⟩ := ho.form
  obtain ⟨no, hno⟩ : ∃ no, O.length = no := ⟨_, rfl⟩
  have HNO := Lib.hid hno
  obtain ⟨ns, hns⟩ : ∃ ns, S.length = ns := ⟨_, rfl⟩
  have HNS := Lib.hid hns
  have HSC := Lib.hid hsc
  rw [hno] at ho hO ⊢
  rw [hns] at hS ⊢
  have HO := Lib.hid ho
  have R0 : Hid (PlSt (.slice a0 Y.length cap0) w (w.alloc (.cells #[.slice a0 Y.length cap0] 28)) Y a0 cap0 Y) := Lib.hid ⟨below_one w _, heap_alloc_new w _, .inl ⟨rfl, rfl⟩⟩
  have I0 := Lib.hid h0
  clear hsc hv ho hno hns h0
  go_enter Try.func71, Try.ntmps71
  go_wp2_with fail
  generalize w.alloc (.cells #[.slice a0 Y.length cap0] 28) = W at *
  go_loopw [7, 8, 9, 10, 11, 12, 13, 14] (fun dd i _ _ _ _ _ _ wr => ∃ (k d : Nat) (ak : Option Addr) (ck : Nat) (Yk : List (List Int)), k ≤ ns ∧ d ≤ no ∧ i = .int .i64 k ∧ dd = .int .i64 d ∧ Hid (PlSt (.slice a0 Y.length cap0) w wr Y ak ck Yk) ∧ Hid (PlanInv Yk (O.drop d)) ∧ Hid (planS Yk (O.drop d) (S.drop k) = planS Y O S)) (fun _ i _ _ _ _ _ _ _ => ns - (intOf i).toNat)
  case atStart => exact ⟨0, 0, a0, cap0, Y, Nat.zero_le _, Nat.zero_le _, rfl, rfl, R0, by simpa using I0, Lib.hid (by simp)⟩
  case round =>
    obtain ⟨k, d, ak, ck, Yk, hk, hd, rfl, rfl, HR, HI, HP⟩ := hrel
    by_cases hlt : k < ns
    · have hkI : (k : Int) < (ns : Int) := by omega
      by_cases hdn : d = no
      · have HQ : Hid (planS Y O S = false) := Lib.hid (by rw [← HP.out, show O.drop d = [] by rw [hdn, ← HNO.out, List.drop_length]]; exact planS_none (by rw [HNS.out]; exact hlt))
        have hb1 : ((d : Int) == (no : Int)) = true := by rw [beq_iff_eq, hdn]
        have HB := Lib.hid HR.out.1
        clear hdn
        go_wp2_with fail
        go_ret
        exact ⟨by rw [HQ.out]; rfl, HB.out⟩
      · have hb1 : ((d : Int) == (no : Int)) = false := by rw [beq_eq_false_iff_ne]; omega
        have hdI : (d : Int) < (no : Int) := by omega
        obtain ⟨n, hn⟩ := get_at HNO.out (show d < no by omega)
        have HDr : Hid (O.drop d = n :: O.drop (d + 1)) := Lib.hid (by
          rw [List.drop_eq_getElem_cons (lt_of_get hn)]
          rw [List.getElem?_eq_getElem (lt_of_get hn)] at hn
          rw [Option.some.inj hn])
        obtain ⟨q1, q2, q3⟩ := HR.out
        obtain ⟨go, offo, rfl, hgo, o1⟩ := il_at (HO.out.below q1) hn
        obtain ⟨g, off, rfl, hg, hcc⟩ := HSC.out (by have := HNS.out; omega)
        obtain ⟨s, hs⟩ := get_at HNS.out hlt
        obtain ⟨b, t⟩ := s
        obtain ⟨d1, d2⟩ := hcc k _ hs
        have s1 : wr.cell? ⟨g, off + k * 2, none⟩ = some (.int .i64 b) := (q1.cell (p := ⟨g, off + k * 2, none⟩) hg).trans d1
        have s2 : wr.cell? ⟨g, off + k * 2 + 1, none⟩ = some (.int .i64 t) := (q1.cell (p := ⟨g, off + k * 2 + 1, none⟩) hg).trans d2
        have c0 : wr.cell? ⟨w.heap.size, 0, none⟩ = some (.slice ak Yk.length ck) := cell_of q2 rfl
        have HI2 := HI.out
        rw [HDr.out] at HI2
        have HStep : Hid (planS Yk (n :: O.drop (d + 1)) (S.drop k) = _) := Lib.hid (planS_step (Y := Yk) (n := n) (L := O.drop (d + 1)) hs)
        have hsm := good_small HI2.1
        have hgd := HI2.1
        have HNext := Lib.hid (fun h1 h2 => HI2.step (b := b) (t := t) h1 h2)
        have HFn : Hid (∀ W, Below wr.heap.size wr W → Calls Try.prog 92 #[.agg #[.slice ak Yk.length ck], .int .i64 n] W (RetP W (.tuple #[.int .i64 (stkY Yk n), .int .i64 (tirY Yk n)]))) := Lib.hid fun W hb => by
          have := l5Find_any (.agg #[.slice ak Yk.length ck]) Yk n (by omega) (by omega) W ⟨_, rfl, (q3.read HV.out q1).below hb⟩
          rw [findV_eq] at this
          exact this
        have HFb : Hid (∀ W, Below wr.heap.size wr W → Calls Try.prog 92 #[.agg #[.slice ak Yk.length ck], .int .i64 b] W (RetP W (.tuple #[.int .i64 (stkY Yk b), .int .i64 (tirY Yk b)]))) := Lib.hid fun W hb => by
          have := l5Find_any (.agg #[.slice ak Yk.length ck]) Yk b (by omega) (by omega) W ⟨_, rfl, (q3.read HV.out q1).below hb⟩
          rw [findV_eq] at this
          exact this
        have HZ0 : Hid (∀ W, Below wr.heap.size wr W → Calls Try.prog 102 #[.agg #[.slice ak Yk.length ck], .agg #[.int .i64 b, .int .i64 t]] W (SeenY W (stepR Yk b t) (stepOk Yk b t))) := Lib.hid fun W hb => specStep_any _ Yk b t (by omega) (by omega) hgd W ⟨_, rfl, (q3.read HV.out q1).below hb⟩
        have L0 := Lib.hid (Array.getElem?_eq_some_iff.1 q2).1
        have L1 := Lib.hid (show g < wr.heap.size from Nat.lt_of_lt_of_le hg q1.size)
        have LO := Lib.hid (show go < wr.heap.size from hgo)
        have HB0 := Lib.hid (Below.refl wr.heap.size wr)
        have LW0 := L0
        have LW1 := L1
        have HPn := Lib.hid (HP.out)
        rw [HDr.out, HStep.out] at HPn
        clear HStep HI2 q1 q2 q3 hs hcc d1 d2 hsm hgd hg hgo hn HI
        generalize hnk : Yk.length = nk at *
        obtain ⟨Z, hZe⟩ : ∃ Z, stepR Yk b t = Z := ⟨_, rfl⟩
        rw [hZe] at HZ0 HPn HNext
        obtain ⟨ok, hoe⟩ : ∃ ok, stepOk Yk b t = ok := ⟨_, rfl⟩
        rw [hoe] at HZ0 HPn HNext
        obtain ⟨sb, hsb⟩ : ∃ sb, stkY Yk b = sb := ⟨_, rfl⟩
        rw [hsb] at HFb HPn
        obtain ⟨sn, hsn⟩ : ∃ sn, stkY Yk n = sn := ⟨_, rfl⟩
        rw [hsn] at HFn HPn
        generalize tirY Yk b = tb at *
        generalize tirY Yk n = tn at *
        clear hZe hoe hsb hsn
        go_wp2_with fail
        go_region_held3 (fun W => W.cell? ⟨w.heap.size, 0, none⟩ = some (.slice ak nk ck) ∧ W.cell? ⟨go, offo + d, none⟩ = some (.int .i64 n)) (go_keep) (first | (go_at_call 92; refine (HFn.out _ HB0.out.drew).mono ?_; rintro e w1 ⟨rfl, hb⟩; have x0 := (hb.cell (p := ⟨w.heap.size, 0, none⟩) L0.out).trans c0; have x1 := (hb.cell (p := ⟨go, offo + d, none⟩) LO.out).trans o1; have HB1 : Hid (Below wr.heap.size wr w1) := Lib.hid (HB0.out.drew.trans (hb.mono HB0.out.size)); have HB01 := Lib.hid hb.size; clear hb))
        have HS1 := Lib.hid s1
        have HS2 := Lib.hid s2
        have HO1 := Lib.hid o1
        have HC0 := Lib.hid c0
        clear c0 s1 s2 o1 x0 x1
        have c0 := (HB1.out.cell (p := ⟨w.heap.size, 0, none⟩) L0.out).trans HC0.out
        have s1 := (HB1.out.cell (p := ⟨g, off + k * 2, none⟩) L1.out).trans HS1.out
        have L0 := Lib.hid (Nat.lt_of_lt_of_le L0.out HB1.out.size)
        have L1 := Lib.hid (Nat.lt_of_lt_of_le L1.out HB1.out.size)
        go_wp2_with fail
        go_region_held3 (fun W => W.cell? ⟨w.heap.size, 0, none⟩ = some (.slice ak nk ck) ∧ W.cell? ⟨g, off + k * 2, none⟩ = some (.int .i64 b)) (go_keep) (first | (go_at_call 92; refine (HFb.out _ HB1.out.drew).mono ?_; rintro e w2 ⟨rfl, hb⟩; have x0 := (hb.cell (p := ⟨w.heap.size, 0, none⟩) L0.out).trans c0; have x1 := (hb.cell (p := ⟨g, off + k * 2, none⟩) L1.out).trans s1; have HB2 : Hid (Below wr.heap.size wr w2) := Lib.hid (HB1.out.drew.trans (hb.mono HB1.out.size)); have HB12 := Lib.hid hb.size; clear hb))
        clear c0 s1 x0 x1
        have L0 := Lib.hid (Nat.lt_of_lt_of_le L0.out (show w1.heap.size ≤ w2.heap.size from HB12.out))
        have L1 := Lib.hid (Nat.lt_of_lt_of_le L1.out HB12.out)
        have c0 := (HB2.out.cell (p := ⟨w.heap.size, 0, none⟩) LW0.out).trans HC0.out
        have s1 := (HB2.out.cell (p := ⟨g, off + k * 2, none⟩) LW1.out).trans HS1.out
        have s2 := (HB2.out.cell (p := ⟨g, off + k * 2 + 1, none⟩) LW1.out).trans HS2.out
        have HZ : Hid (∀ W, Below w2.heap.size w2 W → Calls Try.prog 102 #[.agg #[.slice ak nk ck], .agg #[.int .i64 b, .int .i64 t]] W (SeenY W Z ok)) := Lib.hid fun W hb => HZ0.out W (HB2.out.trans (hb.mono HB2.out.size))
        go_wp2_with fail
        go_cut [13, 14] from 15 to 88 (fun p o w6 => ∃ (q : Nat) (a : Option Addr) (m c : Nat), p = .pointer (some ⟨q, 0, none⟩) ∧ o = .bool ok ∧ Hid (Nx w2 w6 q a m c ok Z))
        case first =>
          go_region_held3 (fun W => W.cell? ⟨w.heap.size, 0, none⟩ = some (.slice ak nk ck) ∧ W.cell? ⟨g, off + k * 2, none⟩ = some (.int .i64 b) ∧ W.cell? ⟨g, off + k * 2 + 1, none⟩ = some (.int .i64 t)) (first | exact ⟨(set_cell_ne _ _ _ _ _ _ (Nat.ne_of_lt L0.out)).trans x0, (set_cell_ne _ _ _ _ _ _ (Nat.ne_of_lt L1.out)).trans x1, (set_cell_ne _ _ _ _ _ _ (Nat.ne_of_lt L1.out)).trans x2⟩ | go_keep) (first | (go_at_call 102; refine (HZ.out _ (((Below.refl _ w2).drew : Below w2.heap.size w2 w2.drew))).mono ?_; rintro e w' ⟨a9, m9, c9, rfl, hok, hb⟩; have x0 := (hb.cell (p := ⟨w.heap.size, 0, none⟩) (Nat.lt_of_lt_of_le L0.out (Nat.le_refl _))).trans ((((Below.refl _ w2).drew : Below w2.heap.size w2 w2.drew)).cell (p := ⟨w.heap.size, 0, none⟩) L0.out |>.trans c0); have x1 := (hb.cell (p := ⟨g, off + k * 2, none⟩) (Nat.lt_of_lt_of_le L1.out (Nat.le_refl _))).trans ((((Below.refl _ w2).drew : Below w2.heap.size w2 w2.drew)).cell (p := ⟨g, off + k * 2, none⟩) L1.out |>.trans s1); have x2 := (hb.cell (p := ⟨g, off + k * 2 + 1, none⟩) (Nat.lt_of_lt_of_le L1.out (Nat.le_refl _))).trans ((((Below.refl _ w2).drew : Below w2.heap.size w2 w2.drew)).cell (p := ⟨g, off + k * 2 + 1, none⟩) L1.out |>.trans s2); have HX := Lib.hid (Nx.after ((Below.refl _ w2).drew : Below w2.heap.size w2 w2.drew) hb hok); clear hb hok) | (go_at_call 102; refine (HZ.out _ (((below_one w2 (.cells #[.slice none 0 0] 28)).drew : Below w2.heap.size w2 (w2.alloc (.cells #[.slice none 0 0] 28)).drew))).mono ?_; rintro e w' ⟨a9, m9, c9, rfl, hok, hb⟩; have x0 := (hb.cell (p := ⟨w.heap.size, 0, none⟩) (Nat.lt_of_lt_of_le L0.out (Nat.le_of_lt (by simp)))).trans ((((below_one w2 (.cells #[.slice none 0 0] 28)).drew : Below w2.heap.size w2 (w2.alloc (.cells #[.slice none 0 0] 28)).drew)).cell (p := ⟨w.heap.size, 0, none⟩) L0.out |>.trans c0); have x1 := (hb.cell (p := ⟨g, off + k * 2, none⟩) (Nat.lt_of_lt_of_le L1.out (Nat.le_of_lt (by simp)))).trans ((((below_one w2 (.cells #[.slice none 0 0] 28)).drew : Below w2.heap.size w2 (w2.alloc (.cells #[.slice none 0 0] 28)).drew)).cell (p := ⟨g, off + k * 2, none⟩) L1.out |>.trans s1); have x2 := (hb.cell (p := ⟨g, off + k * 2 + 1, none⟩) (Nat.lt_of_lt_of_le L1.out (Nat.le_of_lt (by simp)))).trans ((((below_one w2 (.cells #[.slice none 0 0] 28)).drew : Below w2.heap.size w2 (w2.alloc (.cells #[.slice none 0 0] 28)).drew)).cell (p := ⟨g, off + k * 2 + 1, none⟩) L1.out |>.trans s2); have jz : (w2.alloc (.cells #[.slice none 0 0] 28)).drew.heap[w2.heap.size]? = some (.cells #[.slice none 0 0] 28 (0, 0)) := heap_alloc_new w2 _; have HX := Lib.hid (Nx.before ((below_one w2 (.cells #[.slice none 0 0] 28)).drew : Below w2.heap.size w2 (w2.alloc (.cells #[.slice none 0 0] 28)).drew) (Nat.le_refl _) jz hb hok); have j9 := (hb.block _ (by simp : w2.heap.size < (w2.alloc (.cells #[.slice none 0 0] 28)).drew.heap.size)).trans jz; have z9 : w'.cell? ⟨w2.heap.size, 0, none⟩ = some (.slice none 0 0) := cell_of j9 rfl; have f9 : ∀ i, w'.frozen? ⟨w2.heap.size, i, none⟩ = false := fun i => free_of j9; clear jz j9; clear hb hok))
          all_goals
            clear x0 x1 x2 c0 s1 s2
            go_wp2_with fail
            go_meet
            exact ⟨_, _, _, _, rfl, rfl, HX⟩
        case rest =>
          obtain ⟨q, a, m, c, rfl, rfl, HNx⟩ := hcut
          obtain ⟨x1, x2, x3, x4⟩ := HNx.out
          clear c0 s1 s2
          have HBc : Hid (Below wr.heap.size wr wc) := Lib.hid (HB2.out.trans (x3.mono HB2.out.size))
          have s1 := (HBc.out.cell (p := ⟨g, off + k * 2, none⟩) LW1.out).trans HS1.out
          have s2 := (HBc.out.cell (p := ⟨g, off + k * 2 + 1, none⟩) LW1.out).trans HS2.out
          have o1 := (HBc.out.cell (p := ⟨go, offo + d, none⟩) LO.out).trans HO1.out
          have HBw : Hid (Below w.heap.size w wc) := Lib.hid (HR.out.1.trans (HBc.out.mono HR.out.1.size))
          by_cases hgo9 : ok = true ∧ sb = sn ∧ (t = -1 → b = n)
          · obtain ⟨rfl, rfl, htn⟩ := hgo9
            obtain ⟨rfl, B, hi, hB, hO⟩ := x4 rfl
            have hss : (sb == sb) = true := by simp
            have hsn2 : (sb != sb) = false := by simp
            have HN2 := HNext.out rfl htn
            rw [show (true && decide (sb = sb) && (decide (t ≠ -1) || decide (b = n)) : Bool) = true by by_cases ht : t = -1 <;> simp [ht, htn], Bool.true_and] at HPn
            have hBr : wr.heap.size ≤ B := Nat.le_trans HB2.out.size hB
            have HPut := Lib.hid (fun (wd : World) (h : Below wc.heap.size wc wd) => HR.out.put (HBc.out.trans (h.mono HBc.out.size)) hBr (hO.below h))
            have HQc := Lib.hid x2
            clear x1 x2 x3 x4 hO hB hBr
            by_cases ht : t = -1
            · subst ht
              obtain rfl := htn rfl
              have hbb : (b == b) = true := by simp
              have hbb2 : (b != b) = false := by simp
              rw [if_pos rfl] at HPn HN2
              have HN3 := Lib.hid HN2
              clear HN2 htn
              go_wp2_with fail
              go_quiet (fail)
              have hwd : Below wc.heap.size wc (wc.drewN nq) := below_drewN (Below.refl _ _) _
              have t2 := (hwd.cell (p := ⟨g, off + k * 2 + 1, none⟩) (Nat.lt_of_lt_of_le LW1.out HBc.out.size)).trans s2
              have y13 : (wc.drewN nq).cell? ⟨q, 0, none⟩ = some (.slice a Z.length c) := cell_of ((hwd.block _ (Array.getElem?_eq_some_iff.1 HQc.out).1).trans HQc.out) rfl
              have j3 := (HR.out.below (HBc.out.trans (hwd.mono HBc.out.size))).2.1
              have y3 : (wc.drewN nq).cell? ⟨w.heap.size, 0, none⟩ = some (.slice ak Yk.length ck) := cell_of j3 rfl
              have f3 : ∀ i, (wc.drewN nq).frozen? ⟨w.heap.size, i, none⟩ = false := fun _ => free_of j3
              have HF := Lib.hid (HPut.out _ hwd)
              clear s1 s2 o1 j3 hwd
              generalize wc.drewN nq = wd at *
              go_wp2_with fail
              exact ⟨⟨k + 1, d + 1, a, c, Z, by omega, by omega, by go_num, by go_num, HF, HN3, HPn⟩, by simp [intOf]; omega⟩
            · have hte : (t == -1) = false := by simpa using ht
              rw [if_neg ht] at HPn HN2
              have HN3 : Hid (PlanInv Z (O.drop d)) := Lib.hid (by rw [HDr.out]; exact HN2)
              have HP3 : Hid (planS Z (O.drop d) (S.drop (k + 1)) = planS Y O S) := Lib.hid (by rw [HDr.out]; exact HPn.out)
              clear HN2 htn
              go_wp2_with fail
              go_quiet (fail)
              have hwd : Below wc.heap.size wc (wc.drewN nq) := below_drewN (Below.refl _ _) _
              have t2 := (hwd.cell (p := ⟨g, off + k * 2 + 1, none⟩) (Nat.lt_of_lt_of_le LW1.out HBc.out.size)).trans s2
              have y13 : (wc.drewN nq).cell? ⟨q, 0, none⟩ = some (.slice a Z.length c) := cell_of ((hwd.block _ (Array.getElem?_eq_some_iff.1 HQc.out).1).trans HQc.out) rfl
              have j3 := (HR.out.below (HBc.out.trans (hwd.mono HBc.out.size))).2.1
              have y3 : (wc.drewN nq).cell? ⟨w.heap.size, 0, none⟩ = some (.slice ak Yk.length ck) := cell_of j3 rfl
              have f3 : ∀ i, (wc.drewN nq).frozen? ⟨w.heap.size, i, none⟩ = false := fun _ => free_of j3
              have HF := Lib.hid (HPut.out _ hwd)
              clear s1 s2 o1 j3 hwd
              generalize wc.drewN nq = wd at *
              go_wp2_with fail
              exact ⟨⟨k + 1, d, a, c, Z, by omega, by omega, by go_num, rfl, HF, HN3, HP3⟩, by simp [intOf]; omega⟩
          · have HQ : Hid (planS Y O S = false) := Lib.hid (by
              rw [← HPn.out]
              have : (ok && decide (sb = sn) && (decide (t ≠ -1) || decide (b = n))) = false := by
                cases hx : (ok && decide (sb = sn) && (decide (t ≠ -1) || decide (b = n))) with
                | false => rfl
                | true =>
                  simp only [Bool.and_eq_true, Bool.or_eq_true, decide_eq_true_eq] at hx
                  exact absurd ⟨hx.1.1, hx.1.2, fun ht => hx.2.resolve_left fun h => h ht⟩ hgo9
              rw [this]; rfl)
            clear x1 x2 x3 x4
            cases ok with
            | false =>
              clear hgo9
              go_wp2_with fail
              go_quiet (fail)
              go_wp2_with fail
              go_ret
              exact ⟨by rw [HQ.out]; rfl, below_drewN HBw.out _⟩
            | true =>
              by_cases hs9 : sb = sn
              · subst hs9
                have hss : (sb == sb) = true := by simp
                have hsn2 : (sb != sb) = false := by simp
                have ht : t = -1 := Classical.byContradiction fun h => hgo9 ⟨rfl, rfl, fun e => absurd e h⟩
                subst ht
                have hbn : ¬ b = n := fun e => hgo9 ⟨rfl, rfl, fun _ => e⟩
                have hbb : (b == n) = false := by simpa using hbn
                have hbb2 : (b != n) = true := by simp [bne, hbb]
                clear hgo9 hbn
                go_wp2_with fail
                go_quiet (fail)
                go_wp2_with fail
                go_ret
                exact ⟨by rw [HQ.out]; rfl, below_drewN HBw.out _⟩
              · have hss : (sb == sn) = false := by simpa using hs9
                have hsn2 : (sb != sn) = true := by simp [bne, hss]
                clear hgo9 hs9
                go_wp2_with fail
                go_quiet (fail)
                go_wp2_with fail
                go_ret
                exact ⟨by rw [HQ.out]; rfl, below_drewN HBw.out _⟩
    · obtain rfl : k = ns := by omega
      have HQ : Hid (planS Y O S = decide ((d : Int) = (no : Int))) := Lib.hid (by
        rw [← HP.out, planS_end _ _ HNS.out, List.length_drop, HNO.out]
        by_cases h : d = no
        · rw [decide_eq_true (by omega), decide_eq_true (by omega)]
        · rw [decide_eq_false (by omega), decide_eq_false (by omega)])
      have HB := Lib.hid HR.out.1
      by_cases h : d = no
      · have hb1 : ((d : Int) == (no : Int)) = true := by rw [beq_iff_eq, h]
        rw [decide_eq_true (by omega)] at HQ
        clear h
        go_wp2_with fail
        go_ret
        exact ⟨by rw [HQ.out]; rfl, HB.out⟩
      · have hb1 : ((d : Int) == (no : Int)) = false := by rw [beq_eq_false_iff_ne]; omega
        rw [decide_eq_false (by omega)] at HQ
        clear h
        go_wp2_with fail
        go_ret
        exact ⟨by rw [HQ.out]; rfl, HB.out⟩

set_option maxRecDepth 100000 in
set_option maxHeartbeats 4000000 in
theorem specPlan_any (v vo vs : Value) (Y : List (List Int)) (O : List Int) (S : List (Int × Int)) (h1 : Y.length ≤ 1048576) (h2 : tot Y ≤ 1048576) (h3 : O.length ≤ 1048576) (h4 : S.length ≤ 1048576) (w : World) (h : YdR w v Y) (ho : OwnI w vo O) (hs : SL w vs S) :
    Calls Try.prog 28 #[v, vo, vs] w (RetP w (.tuple #[.bool (planB Y O S), .bool (askB Y O)])) := by
  obtain ⟨v0, rfl, hv⟩ := h
  obtain ⟨a, c, rfl, hc⟩ := ho.form
  obtain ⟨sa, sc, rfl⟩ := hs.form
  have HA := Lib.hid (fun W (hb : Below w.heap.size w W) => l6Asked_any (.agg #[v0]) _ Y O h1 h2 h3 W ⟨v0, rfl, hv.below hb⟩ (ho.below hb))
  have HP := Lib.hid (fun W (hb : Below w.heap.size w W) (hask : askB Y O = true) => l6Plan_any v0 _ _ Y O S (ask_inv hask).1 (ask_inv hask).2 h4 W (hv.below hb) (ho.below hb).read (hs.below hb))
  have BA := Lib.hid (Box1.new w v0 28)
  have B0 := Lib.hid (below_one w (.cells #[v0] 28))
  have HQ := Lib.hid (show planB Y O S = (askB Y O && planS Y O S) from rfl)
  clear hv ho hs hc h1 h2 h3 h4
  generalize planB Y O S = pb at *
  generalize planS Y O S = ps at *
  generalize O.length = no at *
  generalize S.length = ns at *
  go_enter Try.func28, Try.ntmps28
  go_wp2_with fail
  generalize w.alloc (.cells #[v0] 28) = w0 at *
  refine (HA.out _ B0.out).mono ?_
  rintro e w1 ⟨rfl, hb⟩
  have c0 := (BA.out.below hb).2
  have B1 := Lib.hid (B0.out.trans (hb.mono B0.out.size))
  clear hb
  cases hg : askB Y O with
  | false =>
    rw [hg] at HQ
    go_wp2_with fail
    go_ret2
    exact ⟨by rw [HQ.out]; simp [hg], B1.out⟩
  | true =>
    rw [hg] at HQ
    go_wp2_with fail
    refine (HP.out _ B1.out hg).mono ?_
    rintro e w2 ⟨rfl, hb⟩
    have B2 := Lib.hid (B1.out.trans (hb.mono B1.out.size))
    clear hb
    go_wp2_with fail
    go_ret2
    exact ⟨by rw [HQ.out]; simp [hg], B2.out⟩
end Go.Proofs.Ytmkejgbbgknalaa
