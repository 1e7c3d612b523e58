/-
  What spec.l10Plan, spec.l10Asked and spec.PlanBay return. No statement of the seat by itself.
-/
import Derived.Test.YtpflnjjckeeihaaZPbS
import Derived.Test.YtpflnjjckeeihaaZPbI
namespace Go.Proofs.Ytpflnjjckeeihaa
open Go.RowKit

theorem flipZ {P : Program} {f : FuncId} {args : Array Value} {w : World} {v : Value} (h : Calls P f args w fun e w' => e = .returned v ∧ w = w') : Calls P f args w fun e w' => e = .returned v ∧ w' = w := h.mono fun _ _ ⟨a, b⟩ => ⟨a, b.symm⟩

set_option maxRecDepth 100000 in
set_option maxHeartbeats 8000000 in
theorem l10Plan_any (v vo : Value) (r h : Int) (P O : List Int) (hg : goodZ r h P = true) (hO : O.length ≤ 1048576) (w : World) (hv : StR w v r h P) (ho : IL w vo O) :
    Calls Try.prog 80 #[v, vo] w (BoolP w (planZ r h P O)) := by
  obtain ⟨g1, g2, g3, g4, g5, -, -⟩ := goodZ_iff.1 hg
  obtain ⟨q, rfl⟩ : ∃ q : Nat, r = (q : Int) := ⟨r.toNat, by omega⟩
  obtain ⟨v0, rfl, hv⟩ := hv
  have BA := Box3.new w (q : Int) h v0 26
  have B0 := Lib.hid (below_one w (.cells #[.int .i64 (q : Int), .int .i64 h, v0] 26))
  have HV := Lib.hid hv
  have HI := Lib.hid ho
  obtain ⟨p, hp⟩ : ∃ p, P.length = p := ⟨_, rfl⟩
  have HP := Lib.hid hp
  obtain ⟨a, c, rfl⟩ := hv.form
  obtain ⟨n, hn⟩ : ∃ n, O.length = n := ⟨_, rfl⟩
  have HN := Lib.hid hn
  obtain ⟨ao, co, rfl⟩ := ho.form
  rw [hp] at BA B0 HV g5 ⊢
  rw [hn] at HI hO ⊢
  obtain ⟨-, c0, c1, c2⟩ := BA
  clear hg hv ho hp hn
  have HGd := Lib.hid (And.intro (And.intro g1 g2) (And.intro g3 g4))
  have hsub : IntKind.i64.wrap ((q : Int) - 1) = (q : Int) - 1 := by rw [IntKind.wrap_i64]; omega
  go_enter Try.func80, Try.ntmps80
  go_wp2_with fail
  have HA := Lib.hid (mem_lt (heap_alloc_new w (.cells #[.int .i64 (q : Int), .int .i64 h, .slice a p c] 26)))
  have HM0 := Lib.hid (heap_alloc_new w (.cells #[.int .i64 (q : Int), .int .i64 h, .slice a p c] 26))
  clear c0 c1 c2
  generalize w.alloc (.cells #[.int .i64 (q : Int), .int .i64 h, .slice a p c] 26) = w1 at *
  go_loopw [5] (fun i wr => ∃ (k : Nat), k ≤ n ∧ i = .int .i64 k ∧ Hid (Below w1.heap.size w1 wr) ∧ Hid (∀ (j : Nat) (y : Int), j < k → O[j]? = some y → 0 ≤ y ∧ y < (q : Int))) (fun i _ => n - (intOf i).toNat)
  case atStart => exact ⟨0, Nat.zero_le _, rfl, Lib.hid (Below.refl _ _), Lib.hid fun j y hj => by omega⟩
  case round =>
    obtain ⟨k, hk, rfl, HW, HK⟩ := hrel
    rename World => wr
    have HM1 := Lib.hid ((HW.out.block _ HA.out).trans HM0.out)
    have HB1 := Lib.hid (B0.out.trans (HW.out.mono B0.out.size))
    have c0 := cell_of (i := 0) HM1.out rfl
    have c2 := cell_of (i := 2) HM1.out rfl
    by_cases hlt : k < n
    · obtain ⟨go, offo, rfl, hgo, hcc⟩ : ∃ go offo, ao = some ⟨go, offo, none⟩ ∧ go < w.heap.size ∧ ∀ i x, O[i]? = some x → w.cell? ⟨go, offo + i, none⟩ = some (.int .i64 x) := by
        obtain ⟨a', c', e, hh⟩ := HI.out
        injection e with e1 e2 e3
        subst e1
        exact hh (by have := HN.out; omega)
      obtain ⟨x, hx⟩ := get_at HN.out hlt
      have o1 := (HB1.out.cell (p := ⟨go, offo + k, none⟩) hgo).trans (hcc k x hx)
      clear hcc
      by_cases hr : 0 ≤ x ∧ x < (q : Int)
      · have HR := Lib.hid (fun W => l1In_yes x 0 ((q : Int) - 1) W hr.1 (by omega))
        have HK2 : Hid (∀ (j : Nat) (y : Int), j < k + 1 → O[j]? = some y → 0 ≤ y ∧ y < (q : Int)) := Lib.hid fun j y hj hy => by
          by_cases e : j = k
          · subst e; rw [hx] at hy; cases hy; exact hr
          · exact HK.out j y (by omega) hy
        clear hr hx
        go_wp2_with fail
        go_quiet ((go_at_call 70; exact Calls.quiet_of_same (flipZ (HR.out _))))
        go_wp2_with fail
        exact ⟨⟨k + 1, by omega, by go_num, Lib.hid (below_drewN HW.out _), HK2⟩, by simp [intOf]; omega⟩
      · have HR := Lib.hid (fun W => l1In_no x 0 ((q : Int) - 1) W (by omega))
        have HF : Hid (planZ (q : Int) h P O = false) := Lib.hid (planZ_range hx hr)
        clear hr hx
        go_wp2_with fail
        go_quiet ((go_at_call 70; exact Calls.quiet_of_same (flipZ (HR.out _))))
        go_wp2_with fail
        go_ret
        exact ⟨by rw [HF.out]; rfl, below_drewN HB1.out _⟩
    · obtain rfl : k = n := by omega
      have c1 := cell_of (i := 1) HM1.out rfl
      by_cases hkp : k = p
      case neg =>
        have hd : ((k : Int) == (p : Int)) = false := beq_eq_false_iff_ne.2 (by omega)
        have HF : Hid (planZ (q : Int) h P O = false) := Lib.hid (planZ_len (by rw [HN.out, HP.out]; exact hkp))
        clear hkp
        go_wp2_with fail
        go_ret
        exact ⟨by rw [HF.out]; rfl, HB1.out⟩
      case pos =>
        subst hkp
        have hd : ((k : Int) == (k : Int)) = true := by simp
        have HRg : ∀ x ∈ O, 0 ≤ x ∧ x < (q : Int) := fun x hx => by
          obtain ⟨j, hj⟩ := List.getElem?_of_mem hx
          exact HK.out j x (by have := lt_of_get hj; have := HN.out; omega) hj
        have HBy := Lib.hid (l10Bay_any (.agg #[.int .i64 (q : Int), .int .i64 h, .slice a k c]) _ q h P O (by have := HGd.out.1.1; omega) (by have := HGd.out.1.2; omega) (by rw [HN.out]; exact g5) HRg wr ⟨_, rfl, HV.out.below HB1.out⟩ (HI.out.below HB1.out))
        have HF : Hid (planZ (q : Int) h P O = goodB h (bayZ q O k)) := Lib.hid (by
          have e := bayZ_good (O := O) (k := k) HGd.out.1 HGd.out.2 (by omega)
          rw [Int.toNat_natCast] at e
          rw [e]
          unfold planZ
          refine decide_eq_decide.2 ⟨fun z => by have := z.2.2; rw [HN.out, Int.toNat_natCast] at this; exact this, fun z => ⟨HRg, by rw [HN.out, HP.out], by rw [HN.out, Int.toNat_natCast]; exact z⟩⟩)
        have HSm := Lib.hid (bayZ_small (r := (q : Int)) (O := O) (k := k) (by have := HGd.out.1.2; omega) g5)
        rw [Int.toNat_natCast] at HSm
        rw [HN.out] at HBy
        clear HRg
        go_wp2_with fail
        refine HBy.out.mono ?_
        rintro e w2 ⟨a2, k2, rfl, ho2, hb2⟩
        have HB2 := Lib.hid (HB1.out.trans (hb2.mono HB1.out.size))
        have HGB := Lib.hid (goodB_spec (.agg #[.int .i64 h, .slice a2 (bayZ q O k).length k2]) h (bayZ q O k) (by have := HSm.out.1; omega) (by have := HSm.out.2; omega) w2 ⟨_, rfl, ho2.yl⟩)
        clear hb2 ho2
        obtain ⟨gb, hgb⟩ : ∃ b, goodB h (bayZ q O k) = b := ⟨_, rfl⟩
        rw [hgb] at HF HGB
        clear hgb
        generalize (bayZ q O k).length = nb at *
        go_wp2_with fail
        refine HGB.out.mono ?_
        rintro e w3 ⟨rfl, hb3⟩
        have HB3 := Lib.hid (HB2.out.trans (hb3.mono HB2.out.size))
        clear hb3
        cases gb with
        | true =>
          go_wp2_with fail
          go_ret
          exact ⟨by rw [HF.out]; rfl, HB3.out⟩
        | false =>
          go_wp2_with fail
          go_ret
          exact ⟨by rw [HF.out]; rfl, HB3.out⟩

set_option maxHeartbeats 4000000 in
theorem l10Asked_any (v vo : Value) (r h : Int) (P O : List Int) (hn : P.length ≤ 1048576) (hO : O.length ≤ 1048576) (w : World) (hv : StR w v r h P) (ho : IL w vo O) :
    Calls Try.prog 58 #[v, vo] w (BoolP w (okZ r h P O)) := by
  obtain ⟨v0, rfl, hv⟩ := hv
  have BA := Lib.hid (Box3.new w r h v0 26)
  have B0 := Lib.hid (below_one w (.cells #[.int .i64 r, .int .i64 h, v0] 26))
  have HF := Lib.hid (goodZ_spec (.agg #[.int .i64 r, .int .i64 h, v0]) r h P hn _ ⟨v0, rfl, hv.below B0.out⟩)
  have HV := Lib.hid hv
  have HI := Lib.hid ho
  obtain ⟨ao, co, rfl⟩ := ho.form
  obtain ⟨-, c0, c1, c2⟩ := BA.out
  clear hv ho
  have HOL := Lib.hid hO
  obtain ⟨n, hnO⟩ : ∃ n, O.length = n := ⟨_, rfl⟩
  rw [hnO] at HI hO ⊢
  clear hnO
  cases hg : goodZ r h P with
  | false =>
    have HX : Hid (okZ r h P O = false) := Lib.hid (okZ_l hg)
    rw [hg] at HF
    clear hg
    go_enter Try.func58, Try.ntmps58
    go_wp2_with fail
    refine HF.out.mono ?_
    rintro e w1 ⟨rfl, hb⟩
    have B1 := Lib.hid (B0.out.trans (hb.mono B0.out.size))
    clear hb c0 c1 c2
    go_wp2_with fail
    go_ret
    exact ⟨by rw [HX.out]; rfl, B1.out⟩
  | true =>
    have HX : Hid (okZ r h P O = planZ r h P O) := Lib.hid (by simp [okZ, hg])
    rw [hg] at HF
    have HG := Lib.hid hg
    clear hg
    go_enter Try.func58, Try.ntmps58
    go_wp2_with fail
    refine HF.out.mono ?_
    rintro e w1 ⟨rfl, hb⟩
    have B1 := Lib.hid (B0.out.trans (hb.mono B0.out.size))
    obtain ⟨-, k0, k1, k2⟩ := BA.out.below hb
    clear hb c0 c1 c2
    have HQ := Lib.hid (fun W (hb : Below w.heap.size w W) => l10Plan_any (.agg #[.int .i64 r, .int .i64 h, v0]) (.slice ao n co) r h P O HG.out HOL.out W ⟨_, rfl, HV.out.below hb⟩ (HI.out.below hb))
    obtain ⟨gb, hgb⟩ : ∃ b, planZ r h P O = b := ⟨_, rfl⟩
    rw [hgb] at HX HQ
    clear hgb
    go_wp2_with fail
    refine (HQ.out _ B1.out).mono ?_
    rintro e w2 ⟨rfl, hb2⟩
    have B2 := Lib.hid (B1.out.trans (hb2.mono B1.out.size))
    clear hb2
    cases gb with
    | true =>
      go_wp2_with fail
      go_ret
      exact ⟨by rw [HX.out]; rfl, B2.out⟩
    | false =>
      go_wp2_with fail
      go_ret
      exact ⟨by rw [HX.out]; rfl, B2.out⟩

set_option maxRecDepth 100000 in
set_option maxHeartbeats 4000000 in
theorem specPb_any (v vo : Value) (r h : Int) (P O : List Int) (hn : P.length ≤ 1048576) (hO : O.length ≤ 1048576) (w : World) (hv : StR w v r h P) (ho : IL w vo O) :
    Calls Try.prog 35 #[v, vo] w (RetB w (pbH r h P O) (pbR r h P O) (okZ r h P O)) := by
  obtain ⟨v0, rfl, hv⟩ := hv
  have hb0 := below_one w (.cells #[.int .i64 r, .int .i64 h, v0] 26)
  have hb1 := below_one (w.alloc (.cells #[.int .i64 r, .int .i64 h, v0] 26)) (.cells #[.int .i64 0, .slice none 0 0] 37)
  have B0 := Lib.hid (hb0.trans (hb1.mono hb0.size))
  have hR : ((w.alloc (.cells #[.int .i64 r, .int .i64 h, v0] 26)).alloc (.cells #[.int .i64 0, .slice none 0 0] 37)).heap[w.heap.size + 1]? = some (.cells #[.int .i64 0, .slice none 0 0] 37 (0, 0)) := by
    have := heap_alloc_new (w.alloc (.cells #[.int .i64 r, .int .i64 h, v0] 26)) (.cells #[.int .i64 0, .slice none 0 0] 37)
    rwa [show (w.alloc (.cells #[.int .i64 r, .int .i64 h, v0] 26)).heap.size = w.heap.size + 1 by simp] at this
  have HA := Lib.hid ((Box3.new w r h v0 26).below hb1)
  have HR := Lib.hid hR
  have HF := Lib.hid (l10Asked_any (.agg #[.int .i64 r, .int .i64 h, v0]) vo r h P O hn hO _ ⟨v0, rfl, hv.below B0.out⟩ (ho.below B0.out))
  have HV := Lib.hid hv
  have HI := Lib.hid ho
  obtain ⟨-, c0, c1, c2⟩ := HA.out
  obtain ⟨ao, co, rfl⟩ := ho.form
  clear hb0 hb1 hR hv ho
  obtain ⟨n, hnO⟩ : ∃ n, O.length = n := ⟨_, rfl⟩
  have HN := Lib.hid hnO
  rw [hnO] at HF HI hO ⊢
  clear hnO
  cases hg : okZ r h P O with
  | false =>
    have HX := Lib.hid (pb_no hg)
    rw [hg] at HF
    clear hg
    go_enter Try.func35, Try.ntmps35
    go_wp2_with fail
    refine HF.out.mono ?_
    rintro e w1 ⟨rfl, hb⟩
    have B1 := Lib.hid (B0.out.trans (hb.mono B0.out.size))
    have hr1 := (hb.block _ (mem_lt HR.out)).trans HR.out
    have z0 := cell_of (i := 0) hr1 rfl
    have z1 := cell_of (i := 1) hr1 rfl
    have f0 : ∀ i, w1.frozen? ⟨w.heap.size + 1, i, none⟩ = false := fun i => free_of hr1
    obtain ⟨e7, e8⟩ := res_bay (.int .i64 0) (.slice none 0 0) z0 z1
    clear hb c0 c1 c2 hr1
    go_wp2_with fail
    refine bodyPost_ret (v := .tuple #[.agg #[.int .i64 0, .slice none 0 0], .bool false]) (by simp [results, Try.results35, go_sem, e7, e8]) rfl ?_
    rw [HX.out.1, HX.out.2]
    exact retB_none B1.out (by omega)
  | true =>
    have HX := Lib.hid (pb_yes hg)
    obtain ⟨g1, g2, g3, g4, g5, g6, g7⟩ := okZ_get hg
    rw [hg] at HF
    obtain ⟨q, rfl⟩ : ∃ q : Nat, r = (q : Int) := ⟨r.toNat, by omega⟩
    have HBy := Lib.hid (fun W (hb : Below w.heap.size w W) => l10Bay_any (.agg #[.int .i64 (q : Int), .int .i64 h, v0]) (.slice ao n co) q h P O (by omega) (by omega) (by omega) g6 W ⟨_, rfl, HV.out.below hb⟩ (HI.out.below hb))
    unfold NewBd at HBy
    rw [bayZ_len, HN.out] at HBy
    rw [HN.out, Int.toNat_natCast] at HX
    clear hg g1 g2 g3 g4 g5 g6 g7
    go_enter Try.func35, Try.ntmps35
    go_wp2_with fail
    refine HF.out.mono ?_
    rintro e w1 ⟨rfl, hb⟩
    have B1 := Lib.hid (B0.out.trans (hb.mono B0.out.size))
    have R1 := Lib.hid ((hb.block _ (mem_lt HR.out)).trans HR.out)
    obtain ⟨-, k0, k1, k2⟩ := HA.out.below hb
    clear hb c0 c1 c2
    go_wp2_with fail
    refine (HBy.out _ B1.out).mono ?_
    rintro e w2 ⟨a2, c2, rfl, ho2, hb⟩
    have B2 := Lib.hid (B1.out.trans (hb.mono B1.out.size))
    have hr1 := (hb.block _ (mem_lt R1.out)).trans R1.out
    have z0 := cell_of (i := 0) hr1 rfl
    have z1 := cell_of (i := 1) hr1 rfl
    have f0 : ∀ i, w2.frozen? ⟨w.heap.size + 1, i, none⟩ = false := fun i => free_of hr1
    have O2 := Lib.hid ho2
    have HL := Lib.hid (mem_lt R1.out)
    obtain ⟨e7, e8⟩ := res_bay (.int .i64 h) (.slice a2 q c2) z0 z1
    clear hb hr1 ho2 k0 k1 k2
    go_wp2_with fail
    refine bodyPost_ret (v := .tuple #[.agg #[.int .i64 h, .slice a2 q c2], .bool true]) (by simp [results, Try.results35, go_sem, e7, e8]) rfl ?_
    rw [HX.out.1, HX.out.2]
    refine ⟨a2, c2, by rw [bayZ_len], ?_, (B2.out.setCell (p := ⟨w.heap.size + 1, 0, none⟩) (by show w.heap.size ≤ w.heap.size + 1; omega) _).setCell (p := ⟨w.heap.size + 1, 1, none⟩) (by show w.heap.size ≤ w.heap.size + 1; omega) _⟩
    rw [bayZ_len]
    exact (O2.out.span (span_res w2 (w.heap.size + 1) _ _) (.inr (by have := HL.out; omega))).mono (by have := B1.out.size; omega) (by simp) (Nat.le_refl _)
end Go.Proofs.Ytpflnjjckeeihaa
