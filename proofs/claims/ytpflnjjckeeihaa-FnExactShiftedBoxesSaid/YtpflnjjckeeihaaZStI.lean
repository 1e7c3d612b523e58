/-
  What impl.stowedBoxes returns: the walk. No statement of the seat by itself.
-/
import Derived.Test.YtpflnjjckeeihaaZStb
import Derived.Deep.CutRange
namespace Go.Proofs.Ytpflnjjckeeihaa
open Go.RowKit

set_option maxRecDepth 100000 in
set_option maxHeartbeats 16000000 in
theorem stowed_any (v vo : Value) (r h : Int) (P O : List Int) (hn : P.length ≤ 1048576) (hO : O.length ≤ 1048576) (w : World) (hv : StR w v r h P) (ho : IL w vo O) :
    Calls Try.prog 55 #[v, vo] w (BoxP w r h P O) := by
  obtain ⟨v0, rfl, hv⟩ := hv
  have BA := Lib.hid (Box3.new w r h v0 26)
  have B0 := Lib.hid (below_one w (.cells #[.int .i64 r, .int .i64 h, v0] 26))
  have HF := Lib.hid (implPb_any (.agg #[.int .i64 r, .int .i64 h, v0]) vo r h P O hn hO _ ⟨v0, rfl, hv.below B0.out⟩ (ho.below B0.out))
  have HV := Lib.hid hv
  have HI := Lib.hid ho
  obtain ⟨-, c0, c1, c2⟩ := BA.out
  obtain ⟨ao, co, rfl⟩ := ho.form
  obtain ⟨n, hnO⟩ : ∃ n, O.length = n := ⟨_, rfl⟩
  have HN := Lib.hid hnO
  rw [hnO] at hO HI HF ⊢
  clear hv ho hnO
  cases hg : okZ r h P O with
  | false =>
    have HX := Lib.hid (pb_no hg)
    have HZ := Lib.hid hg
    rw [hg, HX.out.1, HX.out.2] at HF
    clear hg
    go_enter Try.func55, Try.ntmps55
    go_wp2_with fail
    refine HF.out.mono ?_
    rintro e w1 ⟨a2, k2, rfl, ho2, hb⟩
    have B1 := Lib.hid (B0.out.trans (hb.mono B0.out.size))
    have B2 := Lib.hid (B1.out.trans ((below_one w1 (.cells #[.int .i64 0, .slice a2 0 k2] 37)).mono B1.out.size))
    clear hb ho2 c0 c1 c2
    simp only [List.length_nil]
    go_wp2_with fail
    go_ret2
    exact ⟨B2.out, .inl ⟨HZ.out, rfl⟩⟩
  | true =>
    have HX := Lib.hid (pb_yes hg)
    have HZ := Lib.hid hg
    obtain ⟨g1, g2, g3, g4, g5, g6, g7⟩ := okZ_get hg
    obtain ⟨q, rfl⟩ : ∃ q : Nat, r = (q : Int) := ⟨r.toNat, by omega⟩
    have hn7 : n ≤ 7 := by have := HN.out; omega
    have hp7 := g3
    have HPO := Lib.hid g4
    have HRg := Lib.hid g6
    have hq5 : q ≤ 5 := by omega
    rw [hg, HX.out.1, HX.out.2, HN.out, Int.toNat_natCast] at HF
    unfold RetB at HF
    rw [bayZ_len] at HF
    clear hg g1 g2 g3 g4 g5 g6 g7
    go_enter Try.func55, Try.ntmps55
    go_wp2_with fail
    refine HF.out.mono ?_
    rintro e w1 ⟨a2, k2, rfl, ho2, hb⟩
    have B1 := Lib.hid (B0.out.trans (hb.mono B0.out.size))
    have BA1 := Lib.hid (BA.out.below hb)
    have hsz0 := hb.size
    clear hb c0 c1 c2
    have hb2 := below_one w1 (.cells #[.int .i64 h, .slice a2 q k2] 37)
    have BA2 := Lib.hid (BA1.out.below hb2)
    have BD2 := Lib.hid (Box2.new w1 h (.slice a2 q k2) 37)
    have B2 := Lib.hid (B1.out.trans (hb2.mono B1.out.size))
    have O2 := Lib.hid (ho2.below hb2)
    have hs2 : (w1.alloc (.cells #[.int .i64 h, .slice a2 q k2] 37)).heap.size = w1.heap.size + 1 := by simp
    have HS2 := Lib.hid hs2
    obtain ⟨w2, xs0, hmk, how, hb3⟩ := make_boxes n hO (w1.alloc (.cells #[.int .i64 h, .slice a2 q k2] 37))
    rw [hs2] at hmk how
    have S0 : Hid (StbS w w2 (q : Int) h v0 w1.heap.size (w.alloc (.cells #[.int .i64 (q : Int), .int .i64 h, v0] 26)).heap.size w1.heap.size (w1.heap.size + 1) n (.slice a2 q k2) (bayZ q O n) xs0) :=
      Lib.hid ⟨BA2.out.below hb3, BD2.out.below hb3, O2.out.below hb3, how, B2.out.trans (hb3.mono B2.out.size), by have := BA1.out.1; omega, by omega, by omega⟩
    have j1 := (BD2.out.below hb3).2.2
    clear how hb2 ho2 hs2 hb3
    go_wp2_with fail
    go_loopw [28] (fun i wr => ∃ (j : Nat) (xs : List Value), j ≤ q ∧ i = .int .i64 j ∧ Hid (StbS w wr (q : Int) h v0 w1.heap.size (w.alloc (.cells #[.int .i64 (q : Int), .int .i64 h, v0] 26)).heap.size w1.heap.size (w1.heap.size + 1) n (.slice a2 q k2) (bayZ q O n) xs) ∧ Hid (∀ i, i < n → (O.getD i 0).toNat < j → FilB P O wr xs i)) (fun i _ => q - (intOf i).toNat)
    case atStart => exact ⟨0, xs0, Nat.zero_le _, rfl, S0, Lib.hid fun i _ h => by omega⟩
    case round =>
      clear j1 hmk
      obtain ⟨j, xs, hj, rfl, HS, HFi⟩ := hrel
      rename World => wr
      by_cases hlt : j < q
      · have hrow := bayZ_row (O := O) hlt n
        obtain ⟨g, cap, e⟩ := HS.out.rows.rows (by rw [bayZ_len]; omega)
        injection e with e1 e2 e3
        subst e1 e3
        obtain ⟨u, hu, -, hou, -⟩ := HS.out.rows.cell hrow
        obtain ⟨a4, c4, rfl⟩ := own_form hou
        obtain ⟨m, hm⟩ : ∃ m, (rowZ O n j).length = m := ⟨_, rfl⟩
        have HM := Lib.hid hm
        have hm7 := rowZ_len O j n
        obtain ⟨-, c0, c1, c2⟩ := HS.out.box
        have d1 := HS.out.bay.2.2
        have HPt := Lib.hid (portsOf_any (.agg #[.int .i64 (q : Int), .int .i64 h, v0]) (.slice a4 (rowZ O n j).length c4) (q : Int) h P (rowZ O n j) hp7 (by omega) (fun x hx => by
          obtain ⟨i, hi, -, rfl⟩ := rowZ_mem.1 hx
          have := HPO.out
          have := HN.out
          omega) wr ⟨_, rfl, HV.out.below HS.out.bl⟩ (il_of_owns hou))
        have HRow := Lib.hid (tl_of_owns hou)
        have hml : ((rowZ O n j).map (ptZ P)).length = m := by rw [List.length_map]; exact hm
        unfold NewN at HPt
        rw [hml, hm] at HPt
        rw [hm] at hu hm7 HRow
        clear hrow hou hm e2
        go_wp2_with fail
        refine HPt.out.mono ?_
        rintro e w3 ⟨gp, cp, rfl, hop, hb3⟩
        have S3 := Lib.hid (HS.out.below hb3)
        have HF3 : Hid (∀ i, i < n → (O.getD i 0).toNat < j → FilB P O w3 xs i) := Lib.hid fun i hi hij => (HFi.out i hi hij).below hb3
        have HT3 : Hid (TL w3 (.slice (some ⟨gp, 0, none⟩) m cp) ((rowZ O n j).map (ptZ P))) := Lib.hid (by rw [← hml] at hop ⊢; exact tl_of_owns hop)
        have HR3 := Lib.hid (HRow.out.below hb3)
        have hcap : m ≤ cp := by
          rcases hop.2 with ⟨e, _⟩ | ⟨g5, cap5, cur5, e, _, _, h5, _⟩
          · cases e
          · injection e with e1 e2 e3
            omega
        clear hb3 hop hu c0 c1 c2 d1
        go_wp2_with fail
        go_loopw [37] (fun kk wr => ∃ (t : Nat) (xs : List Value), t ≤ m ∧ kk = .int .i64 t ∧ Hid (StbS w wr (q : Int) h v0 w1.heap.size (w.alloc (.cells #[.int .i64 (q : Int), .int .i64 h, v0] 26)).heap.size w1.heap.size (w1.heap.size + 1) n (.slice (some ⟨g, 0, none⟩) q k2) (bayZ q O n) xs) ∧ Hid (∀ i, i < n → ((O.getD i 0).toNat < j ∨ ∃ t', t' < t ∧ (rowZ O n j).getD t' 0 = (i : Int) + 1) → FilB P O wr xs i) ∧ Hid (TL wr (.slice (some ⟨gp, 0, none⟩) m cp) ((rowZ O n j).map (ptZ P)) ∧ TL wr (.slice a4 m c4) (rowZ O n j))) (fun kk _ => m - (intOf kk).toNat)
        case atStart => exact ⟨0, xs, Nat.zero_le _, rfl, S3, Lib.hid fun i hi hh => by
          rcases hh with hh | ⟨t', h1, -⟩
          · exact HF3.out i hi hh
          · omega, Lib.hid ⟨HT3.out, HR3.out⟩⟩
        case round =>
          clear S3 HF3 HT3 HR3
          obtain ⟨t, ys, ht, rfl, HS2, HF2, HT2⟩ := hrel
          rename World => wq
          by_cases htm : t < m
          · have ht9 : t < (rowZ O n j).length := by rw [HM.out]; exact htm
            obtain ⟨i, hi, hij, hxe⟩ := rowZ_at ht9
            have hget := getDI2 ht9
            rw [hxe] at hget
            have hpg : ((rowZ O n j).map (ptZ P))[t]? = some (P.getD i 0) := by rw [List.getElem?_map, hget]; simp [ptZ_at]
            obtain ⟨ar, or, gr, hgr, r1⟩ : ∃ ar or gr, a4 = some ⟨gr, or, none⟩ ∧ (ar = gr ∧ wq.cell? ⟨gr, or + t, none⟩ = some (.int .i64 ((i : Int) + 1))) := by
              obtain ⟨a', c', e, hh⟩ := HT2.out.2.il
              injection e with e1 e2 e3
              subst e1
              obtain ⟨g5, off5, e5, -, hc5⟩ := hh (by omega)
              exact ⟨g5, off5, g5, e5, rfl, hc5 t _ hget⟩
            obtain ⟨rfl, r1⟩ := r1
            subst hgr
            have p1 : wq.cell? ⟨gp, t, none⟩ = some (.int .i64 (P.getD i 0)) := by
              obtain ⟨a', c', e, hh⟩ := HT2.out.1.il
              injection e with e1 e2 e3
              obtain ⟨g5, off5, e5, -, hc5⟩ := hh (by rw [List.length_map]; omega)
              rw [← e1] at e5
              injection e5 with e5
              injection e5 with e5 e6
              subst e5 e6
              have := hc5 t _ hpg
              rwa [Nat.zero_add] at this
            obtain ⟨⟨x0, y0⟩, z0⟩ := HS2.out.cellB (i := i * 2) (by omega)
            obtain ⟨⟨x1, y1⟩, z1⟩ := HS2.out.cellB (i := i * 2 + 1) (by omega)
            have hsb : (i : Int) + 1 - 1 = (i : Int) := by omega
            have hwi : IntKind.i64.wrap (i : Int) = (i : Int) := by rw [IntKind.wrap_i64]; omega
            have htc : t ≤ cp := by omega
            have hiI : (i : Int) < (n : Int) := by omega
            have hi9 : i ≤ 9 := by omega
            have HNew := Lib.hid (FilB.new (P := P) (O := O) HS2.out hi (a := some ⟨gp, 0, none⟩) (m := t) (c := cp) (by
              have e := tl_take (c' := cp) HT2.out.1 (by rw [List.length_map, HM.out]) (k := t) (by omega)
              rwa [blZ_at ht9 hxe] at e))
            have HSt := Lib.hid (HS2.out.store i (.int .i64 (P.getD i 0)) (.slice (some ⟨gp, 0, none⟩) t cp))
            have HOl := Lib.hid (fun k (hk : k ≠ i) f => FilB.store (P := P) (O := O) (x := .int .i64 (P.getD i 0)) (u := .slice (some ⟨gp, 0, none⟩) t cp) HS2.out (k := k) f hk)
            have HXE := Lib.hid hxe
            generalize P.getD i 0 = pv at *
            clear hget hpg ht9 hxe hij
            go_wp2_with fail
            go_region_law (fail)
            all_goals
              go_wp2_with fail
              go_roundw
              case rel => exact ⟨t + 1, _, by omega, by go_num, Lib.hid (HSt.out.1.below (Below.refl _ _).drew), Lib.hid (fun k hk hh => by
                by_cases e : k = i
                · subst e
                  exact HNew.out.below (Below.refl _ _).drew
                · refine FilB.below ?_ (Below.refl _ _).drew
                  refine HOl.out k e (HF2.out k hk ?_)
                  rcases hh with hh | ⟨t', h1, h2⟩
                  · exact .inl hh
                  · refine .inr ⟨t', ?_, h2⟩
                    by_cases e2 : t' = t
                    · subst e2
                      have := HXE.out
                      omega
                    · omega), Lib.hid ⟨(HT2.out.1.keep HSt.out.2).below (Below.refl _ _).drew, (HT2.out.2.keep HSt.out.2).below (Below.refl _ _).drew⟩⟩
              case measure => simp [intOf]; omega
          · obtain rfl : t = m := by omega
            have HNx : Hid (∀ i, i < n → (O.getD i 0).toNat < j + 1 → FilB P O wq ys i) := Lib.hid fun i hi hh => HF2.out i hi (by
              by_cases e : (O.getD i 0).toNat = j
              · obtain ⟨t', h1, h2⟩ := rowZ_find hi e
                exact .inr ⟨t', by rw [HM.out] at h1; exact h1, h2⟩
              · exact .inl (by omega))
            go_wp2_with fail
            go_roundw
            case rel => exact ⟨j + 1, ys, by omega, by go_num, HS2, HNx⟩
            case measure => simp [intOf]; omega
      · obtain rfl : j = q := by omega
        have HAll : Hid (∀ i, i < n → FilB P O wr xs i) := Lib.hid fun i hi => HFi.out i hi (by
          have := HRg.out (O.getD i 0) (by rw [List.getD, List.getElem?_eq_getElem (by rw [HN.out]; exact hi)]; exact List.getElem_mem _)
          omega)
        go_wp2_with fail
        go_ret2
        exact boxP_of HS.out HN.out HZ.out HAll.out
end Go.Proofs.Ytpflnjjckeeihaa
