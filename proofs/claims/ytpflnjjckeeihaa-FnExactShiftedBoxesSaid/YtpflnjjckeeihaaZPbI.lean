/-
  What impl.PlanBay returns. No statement of the seat by itself.
-/
import Derived.Test.YtpflnjjckeeihaaZPbM
import Derived.Deep.CutRange
import Derived.Deep.RegionHeldLaw
namespace Go.Proofs.Ytpflnjjckeeihaa
open Go.RowKit

/-- No bay was answered. -/
theorem retB_none {w W : World} {R : Nat} (hb : Below w.heap.size w W) (hwR : w.heap.size ≤ R) :
    RetB w 0 [] false (.returned (.tuple #[.agg #[.int .i64 0, .slice none 0 0], .bool false])) ((W.setCell ⟨R, 0, none⟩ (.int .i64 0)).setCell ⟨R, 1, none⟩ (.slice none 0 0)) :=
  ⟨none, 0, rfl, OwnY.nil _ _ _ (Nat.le_refl _), (hb.setCell (p := ⟨R, 0, none⟩) hwR _).setCell (p := ⟨R, 1, none⟩) hwR _⟩

set_option maxRecDepth 100000 in
set_option maxHeartbeats 16000000 in
theorem implPb_any (v vo : Value) (r h : Int) (P O : List Int) (hn : P.length ≤ 1048576) (hO : O.length ≤ 1048576) (w : World) (hv : StR w v r h P) (ho : IL w vo O) :
    Calls Try.prog 23 #[v, vo] w (RetB w (pbH r h P O) (pbR r h P O) (okZ r h P O)) := by
  obtain ⟨v0, rfl, hv⟩ := hv
  have hb0 := below_one w (.cells #[.int .i64 r, .int .i64 h, v0] 26)
  have hb1 := below_one (w.alloc (.cells #[.int .i64 r, .int .i64 h, v0] 26)) (.cells #[.int .i64 0, .slice none 0 0] 37)
  have B0 := Lib.hid (hb0.trans (hb1.mono hb0.size))
  have hA : ((w.alloc (.cells #[.int .i64 r, .int .i64 h, v0] 26)).alloc (.cells #[.int .i64 0, .slice none 0 0] 37)).heap[w.heap.size]? = some (.cells #[.int .i64 r, .int .i64 h, v0] 26 (0, 0)) :=
    (hb1.block _ (by simp)).trans (heap_alloc_new w _)
  have hR : ((w.alloc (.cells #[.int .i64 r, .int .i64 h, v0] 26)).alloc (.cells #[.int .i64 0, .slice none 0 0] 37)).heap[w.heap.size + 1]? = some (.cells #[.int .i64 0, .slice none 0 0] 37 (0, 0)) := by
    have := heap_alloc_new (w.alloc (.cells #[.int .i64 r, .int .i64 h, v0] 26)) (.cells #[.int .i64 0, .slice none 0 0] 37)
    rwa [show (w.alloc (.cells #[.int .i64 r, .int .i64 h, v0] 26)).heap.size = w.heap.size + 1 by simp] at this
  have HF := Lib.hid (implValidZ_any (.agg #[.int .i64 r, .int .i64 h, v0]) r h P hn _ ⟨v0, rfl, hv.below B0.out⟩)
  have HA := Lib.hid hA
  have HR := Lib.hid hR
  have HI := Lib.hid ho
  have HV := Lib.hid hv
  obtain ⟨p, hp⟩ : ∃ p, P.length = p := ⟨_, rfl⟩
  have HP := Lib.hid hp
  obtain ⟨a, c, rfl⟩ := hv.form
  rw [hp] at hn hA hR B0 HF HA HR HV ⊢
  obtain ⟨n, hnO⟩ : ∃ n, O.length = n := ⟨_, rfl⟩
  have HN := Lib.hid hnO
  obtain ⟨ao, co, rfl⟩ := ho.form
  rw [hnO] at hO HI ⊢
  have c0 := cell_of (i := 0) hA rfl
  have c1 := cell_of (i := 1) hA rfl
  have c2 := cell_of (i := 2) hA rfl
  clear hb0 hb1 hv ho hp hnO hA hR
  have hfail : okZ r h P O = false → pbH r h P O = 0 ∧ pbR r h P O = [] := pb_no
  have HX := Lib.hid hfail
  clear hfail
  cases hg : goodZ r h P with
  | false =>
    have HZ := Lib.hid (okZ_l (O := O) hg)
    rw [hg] at HF
    clear hg
    go_enter Try.func23, Try.ntmps23
    go_wp2_with fail
    refine HF.out.mono ?_
    rintro e w1 ⟨rfl, hb⟩
    have B1 := Lib.hid (B0.out.trans (hb.mono B0.out.size))
    have hr1 := (hb.block _ (mem_lt HR.out)).trans HR.out
    have z0 := cell_of (i := 0) hr1 rfl
    have z1 := cell_of (i := 1) hr1 rfl
    have f0 : ∀ i, w1.frozen? ⟨w.heap.size + 1, i, none⟩ = false := fun i => free_of hr1
    obtain ⟨e7, e8⟩ := res_bay (.int .i64 0) (.slice none 0 0) z0 z1
    clear hb c0 c1 c2 hr1
    go_wp2_with fail
    refine bodyPost_ret (v := .tuple #[.agg #[.int .i64 0, .slice none 0 0], .bool false]) (by simp [results, Try.results23, go_sem, e7, e8]) rfl ?_
    rw [(HX.out HZ.out).1, (HX.out HZ.out).2, HZ.out]
    exact retB_none B1.out (by omega)
  | true =>
    rw [hg] at HF
    by_cases hpn : n = p
    case neg =>
      have HZ := Lib.hid (okZ_r (planZ_len (r := r) (h := h) (P := P) (O := O) (by rw [HN.out, HP.out]; exact hpn)))
      have hd : ((n : Int) != (p : Int)) = true := by simp; omega
      clear hg hpn
      go_enter Try.func23, Try.ntmps23
      go_wp2_with fail
      refine HF.out.mono ?_
      rintro e w1 ⟨rfl, hb⟩
      have B1 := Lib.hid (B0.out.trans (hb.mono B0.out.size))
      have hr1 := (hb.block _ (mem_lt HR.out)).trans HR.out
      have ha1 := (hb.block _ (mem_lt HA.out)).trans HA.out
      have a2 := cell_of (i := 2) ha1 rfl
      have z0 := cell_of (i := 0) hr1 rfl
      have z1 := cell_of (i := 1) hr1 rfl
      have f0 : ∀ i, w1.frozen? ⟨w.heap.size + 1, i, none⟩ = false := fun i => free_of hr1
      obtain ⟨e7, e8⟩ := res_bay (.int .i64 0) (.slice none 0 0) z0 z1
      clear hb c0 c1 c2 hr1 ha1
      go_wp2_with fail
      refine bodyPost_ret (v := .tuple #[.agg #[.int .i64 0, .slice none 0 0], .bool false]) (by simp [results, Try.results23, go_sem, e7, e8]) rfl ?_
      rw [(HX.out HZ.out).1, (HX.out HZ.out).2, HZ.out]
      exact retB_none B1.out (by omega)
    case pos =>
      subst hpn
      obtain ⟨g1, g2, g3, g4, g5, -, -⟩ := goodZ_iff.1 hg
      obtain ⟨q, rfl⟩ : ∃ q : Nat, r = (q : Int) := ⟨r.toNat, by omega⟩
      obtain ⟨H, rfl⟩ : ∃ H : Nat, h = (H : Int) := ⟨h.toNat, by omega⟩
      have hq1 : 1 ≤ q := by omega
      have hq5 : q ≤ 5 := by omega
      have hH4 : H ≤ 4 := by omega
      have hp7 : n ≤ 7 := by have := HP.out; omega
      have HG := Lib.hid hg
      have hd : ((n : Int) != (n : Int)) = false := by simp
      clear hg g1 g2 g3 g4 g5
      go_enter Try.func23, Try.ntmps23
      go_wp2_with fail
      refine HF.out.mono ?_
      rintro e w1 ⟨rfl, hb⟩
      have B1 := Lib.hid (B0.out.trans (hb.mono B0.out.size))
      have hr1 := (hb.block _ (mem_lt HR.out)).trans HR.out
      have ha1 := (hb.block _ (mem_lt HA.out)).trans HA.out
      have a0 := cell_of (i := 0) ha1 rfl
      have a1 := cell_of (i := 1) ha1 rfl
      have a2 := cell_of (i := 2) ha1 rfl
      have HA1 := Lib.hid ha1
      have HR1 := Lib.hid hr1
      have hzD := below_one w1 (.cells #[.int .i64 0, .slice none 0 0] 37)
      have hdD := heap_alloc_new w1 (.cells #[.int .i64 0, .slice none 0 0] 37)
      have hsD : (w1.alloc (.cells #[.int .i64 0, .slice none 0 0] 37)).heap.size = w1.heap.size + 1 := by simp
      have ha2 := (hzD.block _ (mem_lt ha1)).trans ha1
      have hr2 := (hzD.block _ (mem_lt hr1)).trans hr1
      have hB2 := B1.out.trans (hzD.mono B1.out.size)
      have HD2 := Lib.hid (And.intro ha2 (And.intro hr2 (And.intro hdD hB2)))
      have HD1 := Lib.hid (And.intro ha1 (And.intro hr1 B1.out))
      have HSD := Lib.hid hsD
      have hlt2 := mem_lt ha2
      have hltD := mem_lt hdD
      clear hzD hr2 hB2 hsD
      obtain ⟨hmk, hown⟩ := make_nils q (by omega) (w1.alloc (.cells #[.int .i64 0, .slice none 0 0] 37)).drew
      obtain ⟨hmk2, hown2⟩ := make_nils q (by omega) w1.drew
      have HO2 := Lib.hid hown
      have HO1 := Lib.hid hown2
      have hl1 := mem_lt ha1
      have HLo := Lib.hid (mem_lt hr1)
      have a0 := cell_of (i := 0) ha1 rfl
      have a1 := cell_of (i := 1) ha1 rfl
      have b0 := cell_of (i := 0) ha2 rfl
      have b1 := cell_of (i := 1) ha2 rfl
      have j0 := fun o => (World.cell?_alloc_lt w1 o ⟨w.heap.size, 0, none⟩ hl1).trans a0
      have j1 := fun o => (World.cell?_alloc_lt w1 o ⟨w.heap.size, 1, none⟩ hl1).trans a1
      have i0 := fun o o2 => (World.cell?_alloc_lt (w1.alloc o) o2 ⟨w.heap.size, 0, none⟩ (by simp; exact Nat.lt_succ_of_lt hl1)).trans (j0 o)
      have i1 := fun o o2 => (World.cell?_alloc_lt (w1.alloc o) o2 ⟨w.heap.size, 1, none⟩ (by simp; exact Nat.lt_succ_of_lt hl1)).trans (j1 o)
      have m0 := fun o => (World.cell?_alloc_lt (w1.alloc (.cells #[.int .i64 0, .slice none 0 0] 37)) o ⟨w1.heap.size, 0, none⟩ hltD).trans (cell_of (i := 0) hdD rfl)
      have m1 := fun o => (World.cell?_alloc_lt (w1.alloc (.cells #[.int .i64 0, .slice none 0 0] 37)) o ⟨w1.heap.size, 1, none⟩ hltD).trans (cell_of (i := 1) hdD rfl)
      have mf : ∀ o i, ((w1.alloc (.cells #[.int .i64 0, .slice none 0 0] 37)).alloc o).frozen? ⟨w1.heap.size, i, none⟩ = false := fun o i => free_of ((heap_alloc_old (w1.alloc (.cells #[.int .i64 0, .slice none 0 0] 37)) o w1.heap.size hltD).trans hdD)
      clear hb c0 c1 c2 hr1 ha1 HF HR HA hown hown2 ha2 hdD hlt2 hltD hl1
      go_wp2_with fail
      go_cut [6] from 21 (fun x w6 => ∃ (D g : Nat), x = .pointer (some ⟨D, 0, none⟩) ∧ Hid (PbS w w6 (q : Int) (H : Int) (.slice a n c) w.heap.size (w.heap.size + 1) D (w.heap.size + 2) g q q (List.replicate q [])))
      case first =>
        go_region_law (fail)
        all_goals
          go_wp2_with fail
          go_meet
          first
            | exact ⟨_, _, rfl, Lib.hid (pbs_first HD1.out.1 HD1.out.2.1 HD1.out.2.2 (by omega) HLo.out (by omega))⟩
            | exact ⟨_, _, rfl, Lib.hid (pbs_second HD1.out.1 HD1.out.2.1 HD1.out.2.2 (by omega) HLo.out (by omega))⟩
      case rest =>
        obtain ⟨D, g, rfl, HPs⟩ := hcut
        rename World => w3
        have S3 := Lib.hid HPs.out
        clear HPs hmk hmk2 HO1 HO2 HD1 HD2 HSD HLo HA1 HR1 a0 a1 a2 b0 b1 j0 j1 i0 i1 m0 m1 mf
        go_wp2_with fail
        go_loopw [29] (fun i wr => ∃ k : Nat, k ≤ n ∧ i = .int .i64 k ∧ Hid (PbS w wr (q : Int) (H : Int) (.slice a n c) w.heap.size (w.heap.size + 1) D (w.heap.size + 2) g q q (bayZ q O k)) ∧ Hid ((∀ (j : Nat) (y : Int), j < k → O[j]? = some y → 0 ≤ y ∧ y < (q : Int)) ∧ ∀ j, j < q → (rowZ O k j).length ≤ H)) (fun i _ => n - (intOf i).toNat)
        case atStart => exact ⟨0, Nat.zero_le _, rfl, S3, Lib.hid ⟨fun j y hj => by omega, fun j _ => by simp [rowZ_zero]⟩⟩
        case round =>
          obtain ⟨k, hk, rfl, HS, HK⟩ := hrel
          rename World => wr
          by_cases hlt : k < n
          · have hil := HI.out.below HS.out.bl
            obtain ⟨ao', co', eo, hco⟩ := hil
            obtain ⟨go, offo, eo2, hgo, hcc⟩ := hco (by have := HN.out; omega)
            injection eo with e1 e4 e5
            subst eo2
            subst e1
            obtain ⟨x, hx⟩ := get_at HN.out hlt
            have o1 := hcc k x hx
            obtain ⟨⟨a0, a1, a2⟩, d0, d1⟩ := HS.out.cells
            clear hco hcc e4 e5
            by_cases hx0 : 0 ≤ x
            case neg =>
              have HZ : Hid (okZ (q : Int) (H : Int) P O = false) := Lib.hid (okZ_r (planZ_range hx fun e => hx0 e.1))
              have hx1 : x < 0 := by omega
              clear hx hx0
              go_wp2_with fail
              go_quiet (fail)
              have SN := Lib.hid (HS.out.below (below_drewN (Below.refl _ wr) nq))
              clear o1 a0 a1 a2 d0 d1
              generalize wr.drewN nq = W9 at *
              have hr9 := SN.out.r
              have z0 := cell_of (i := 0) hr9 rfl
              have z1 := cell_of (i := 1) hr9 rfl
              have f0 : ∀ i, W9.frozen? ⟨w.heap.size + 1, i, none⟩ = false := fun i => free_of hr9
              obtain ⟨e7, e8⟩ := res_bay (.int .i64 0) (.slice none 0 0) z0 z1
              clear hr9
              go_wp2_with fail
              refine bodyPost_ret (v := .tuple #[.agg #[.int .i64 0, .slice none 0 0], .bool false]) (by simp [results, Try.results23, go_sem, e7, e8]) rfl ?_
              rw [(HX.out HZ.out).1, (HX.out HZ.out).2, HZ.out]
              exact retB_none SN.out.bl (by omega)
            case pos =>
            by_cases hxq : x < (q : Int)
            case neg =>
              have HZ : Hid (okZ (q : Int) (H : Int) P O = false) := Lib.hid (okZ_r (planZ_range hx fun e => hxq e.2))
              have hx1 : decide (x < 0) = false := by simp; omega
              have hx2 : decide ((q : Int) ≤ x) = true := by simp; omega
              clear hx hxq
              go_wp2_with fail
              go_quiet (fail)
              have SN := Lib.hid (HS.out.below (below_drewN (Below.refl _ wr) nq))
              clear o1 a0 a1 a2 d0 d1
              generalize wr.drewN nq = W9 at *
              have hr9 := SN.out.r
              have z0 := cell_of (i := 0) hr9 rfl
              have z1 := cell_of (i := 1) hr9 rfl
              have f0 : ∀ i, W9.frozen? ⟨w.heap.size + 1, i, none⟩ = false := fun i => free_of hr9
              obtain ⟨e7, e8⟩ := res_bay (.int .i64 0) (.slice none 0 0) z0 z1
              clear hr9
              go_wp2_with fail
              refine bodyPost_ret (v := .tuple #[.agg #[.int .i64 0, .slice none 0 0], .bool false]) (by simp [results, Try.results23, go_sem, e7, e8]) rfl ?_
              rw [(HX.out HZ.out).1, (HX.out HZ.out).2, HZ.out]
              exact retB_none SN.out.bl (by omega)
            case pos =>
              obtain ⟨s, rfl⟩ : ∃ s : Nat, x = (s : Int) := ⟨x.toNat, by omega⟩
              have hsq : s < q := by omega
              have hrow := bayZ_row (O := O) hsq k
              obtain ⟨u, hu, -, hou, hub⟩ := HS.out.own.cell hrow
              obtain ⟨a4, c4, rfl⟩ := own_form hou
              obtain ⟨m, hm⟩ : ∃ m, (rowZ O k s).length = m := ⟨_, rfl⟩
              have hmH := HK.out.2 s hsq
              have HM := Lib.hid hm
              have HROW := Lib.hid hrow
              have HL := Lib.hid (rowZ_len O s k)
              rw [hm] at hu hmH hou hub
              have hx1 : decide ((s : Int) < 0) = false := decide_eq_false (by omega)
              have hx2 : decide ((q : Int) ≤ (s : Int)) = false := decide_eq_false (by omega)
              by_cases hmf : m = H
              · have HZ : Hid (okZ (q : Int) (H : Int) P O = false) := Lib.hid (okZ_r (planZ_full hx ⟨hx0, hxq⟩ (by rw [Int.toNat_natCast, Int.toNat_natCast]; exact hm.trans hmf)))
                have hx3 : ((m : Int) == (H : Int)) = true := by simp [hmf]
                clear hx hxq hrow hou hub hm hmf hmH
                go_wp2_with fail
                go_quiet (fail)
                have SN := Lib.hid (HS.out.below (below_drewN (Below.refl _ wr) nq))
                clear o1 a0 a1 a2 d0 d1 hu
                generalize wr.drewN nq = W9 at *
                have hr9 := SN.out.r
                have z0 := cell_of (i := 0) hr9 rfl
                have z1 := cell_of (i := 1) hr9 rfl
                have f0 : ∀ i, W9.frozen? ⟨w.heap.size + 1, i, none⟩ = false := fun i => free_of hr9
                obtain ⟨e7, e8⟩ := res_bay (.int .i64 0) (.slice none 0 0) z0 z1
                clear hr9
                go_wp2_with fail
                refine bodyPost_ret (v := .tuple #[.agg #[.int .i64 0, .slice none 0 0], .bool false]) (by simp [results, Try.results23, go_sem, e7, e8]) rfl ?_
                rw [(HX.out HZ.out).1, (HX.out HZ.out).2, HZ.out]
                exact retB_none SN.out.bl (by omega)
              · have hx3 : ((m : Int) == (H : Int)) = false := beq_eq_false_iff_ne.2 (by omega)
                have hgd := HS.out.tab.2.2
                have hdg : ¬ D = g := fun e => hgd e.symm
                have hsg := HS.out.base.2
                have hltD := mem_lt HS.out.d
                have HK2 : Hid ((∀ (j : Nat) (y : Int), j < k + 1 → O[j]? = some y → 0 ≤ y ∧ y < (q : Int)) ∧ ∀ j, j < q → (rowZ O (k + 1) j).length ≤ H) := Lib.hid ⟨fun j y hj hy => by
                  by_cases e : j = k
                  · subst e; rw [hx] at hy; cases hy; exact ⟨hx0, hxq⟩
                  · exact HK.out.1 j y (by omega) hy, fun j hj => by
                  have e0 : (O.getD k 0).toNat = s := by simp [List.getD, hx]
                  by_cases e : s = j
                  · rw [rowZ_yes (e0.trans e), List.length_append, List.length_singleton, ← e, HM.out]; omega
                  · rw [rowZ_no (fun e2 => e (e0.symm.trans e2))]; exact HK.out.2 j hj⟩
                have HY : Hid (bayZ q O (k + 1) = putY (bayZ q O k) s ((k : Int) + 1)) := Lib.hid (by
                  rw [bayZ]
                  congr 1
                  simp [List.getD, hx])
                have HPut := Lib.hid (fun (W w5 : World) (v' : Value) (o : Obj) (hb : Below wr.heap.size wr W) (hu : W.cell? ⟨g, s, none⟩ = some (.slice a4 m c4)) (ho : w5.ownsRow (w.heap.size + 2) 3 1 v' (m + 1) (intV (rowZ O k s) ++ [.int .i64 ((k : Int) + 1)])) (hg : (W.alloc o).grownBy w5 (Value.slice a4 m c4).ownBlock) (hat : v'.ownBlock = (Value.slice a4 m c4).ownBlock ∨ v'.ownBlock = some (W.alloc o).heap.size) =>
                  (HS.out.below hb).put HROW.out HM.out hu ho hg hat)
                clear hx hxq hrow hm hmf hx0
                have HUO := Lib.hid (And.intro hou hub)
                have HUU := Lib.hid hu
                have hsqI : (s : Int) < (q : Int) := by omega
                clear hou hub
                go_wp2_with fail
                go_quiet (fail)
                have HBN : Hid (Below wr.heap.size wr (wr.drewN nq)) := Lib.hid (below_drewN (Below.refl _ _) nq)
                clear o1 a0 a1 a2 d0 d1 hu hltD hsg
                generalize wr.drewN nq = W9 at *
                have S9 := Lib.hid (HS.out.below HBN.out)
                have hu : W9.cell? ⟨g, s, none⟩ = some (.slice a4 m c4) := (HBN.out.cell (p := ⟨g, s, none⟩) HS.out.base.2).trans HUU.out
                have cO := S9.out.cells.2.2
                have hltD := mem_lt S9.out.d
                have hltg := S9.out.base.2
                have hlow := S9.out.base.1
                have HP := Lib.hid (fun (w5 : World) (v' : Value) (o : Obj) ho hg hat => HPut.out W9.drew w5 v' o (HBN.out.trans ((Below.refl _ W9).drew.mono HBN.out.size)) hu ho hg hat)
                have HU5 := Lib.hid (fun o => row_below (row_below HUO.out.1 HBN.out) (((Below.refl _ W9).drew).alloc (Nat.le_refl _) o))
                have hcB := fun o => (World.cell?_alloc_lt W9 o ⟨D, 1, none⟩ hltD).trans cO
                have hu9 : W9.drew.cell? ⟨g, s, none⟩ = some (.slice a4 m c4) := hu
                have huB := fun o => (World.cell?_alloc_lt W9 o ⟨g, s, none⟩ hltg).trans hu
                have huA := fun o => (World.cell?_alloc_lt W9.drew o ⟨g, s, none⟩ hltg).trans hu9
                have hcA := fun o => (World.cell?_alloc_lt W9.drew o ⟨D, 1, none⟩ hltD).trans cO
                have hzz : w.heap.size + 2 ≤ W9.heap.size := by omega
                have HZA := Lib.hid (fun o => Nat.le_trans hzz (below_one W9.drew o).size)
                have hm7 := HL.out
                rw [HM.out] at hm7
                go_wp2_with fail
                have hw : IntKind.i64.wrap ((k : Int) + 1) = (k : Int) + 1 := by rw [IntKind.wrap_i64]; omega
                refine wp_region_held_drew (S := fun W => W.cell? ⟨D, 1, none⟩ = some (.slice (some ⟨g, 0, none⟩) q q)) (by kernel_rfl) ?_ (fun hHeld => ?_)
                · exact cO
                refine (wpAnyH_take (i := 0) (v := ?_) rfl (by kernel_rfl) (by kernel_rfl) (by kernel_rfl) (fun _ _ _ h => h) (Or.inl ⟨by rfl, ?_⟩) (by assumption) ?_)
                rotate_left 1
                · (intro w hSw; (try dsimp only at hSw); (go_simp) <;> with_reducible rfl)
                try simp only [Act.put, List.setIfInBounds_toArray]
                refine (wpAnyH_take (i := 1) (v := ?_) rfl (by kernel_rfl) (by kernel_rfl) (by kernel_rfl) (fun _ _ _ h => h) (Or.inl ⟨by rfl, ?_⟩) (by assumption) ?_)
                rotate_left 1
                · (intro w hSw; (try dsimp only at hSw); (go_simp) <;> with_reducible rfl)
                try simp only [Act.put]
                refine (wpAnyH_take (i := 2) (v := ?_) rfl (by kernel_rfl) (by kernel_rfl) (by kernel_rfl) (fun _ _ _ h => h) (Or.inl ⟨by rfl, ?_⟩) (by assumption) ?_)
                rotate_left 1
                · (intro w hSw; (try dsimp only at hSw); (go_simp) <;> with_reducible rfl)
                try simp only [Act.put]
                refine (wpAnyH_take (i := 3) (v := ?_) rfl (by kernel_rfl) (by kernel_rfl) (by kernel_rfl) (fun _ _ _ h => h) (Or.inl ⟨by rfl, ?_⟩) (by assumption) ?_)
                rotate_left 1
                · (intro w hSw; (try dsimp only at hSw); (go_simp) <;> with_reducible rfl)
                try simp only [Act.put]
                refine (wpAnyH_take (i := 4) (v := ?_) rfl (by kernel_rfl) (by kernel_rfl) (by kernel_rfl) (fun _ _ _ h => h) (Or.inl ⟨by rfl, ?_⟩) (by assumption) ?_)
                rotate_left 1
                · (intro w hSw; (try dsimp only at hSw); (go_simp) <;> with_reducible rfl)
                try simp only [Act.put]
                refine (wpAnyH_take (i := 5) (v := ?_) rfl (by kernel_rfl) (by kernel_rfl) (by kernel_rfl) (fun _ _ _ h => h) (Or.inl ⟨by rfl, ?_⟩) (by assumption) ?_)
                rotate_left 1
                · (intro w hSw; (try dsimp only at hSw); (go_simp) <;> with_reducible rfl)
                try simp only [Act.put]
                refine (wpAnyH_take (i := 6) (v := ?_) rfl (by kernel_rfl) (by kernel_rfl) (by kernel_rfl) (fun _ _ _ h => h) (Or.inl ⟨by rfl, ?_⟩) (by assumption) ?_)
                rotate_left 1
                · (intro w hSw; (try dsimp only at hSw); (go_simp) <;> with_reducible rfl)
                try simp only [Act.put]
                refine (wpAnyH_take (i := 8) (v := ?_) rfl (by kernel_rfl) (by kernel_rfl) (by kernel_rfl) (fun _ _ _ h => h) (Or.inl ⟨by rfl, ?_⟩) (by assumption) ?_)
                rotate_left 1
                · (intro w hSw; (try dsimp only at hSw); (go_simp) <;> with_reducible rfl)
                try simp only [Act.put]
                refine (wpAnyH_take (i := 9) (v := ?_) rfl (by kernel_rfl) (by kernel_rfl) (by kernel_rfl) (fun _ _ _ h => h) (Or.inl ⟨by rfl, ?_⟩) (by assumption) ?_)
                rotate_left 1
                · (intro w hSw; (try dsimp only at hSw); (go_simp) <;> with_reducible rfl)
                try simp only [Act.put]
                refine wpAnyH_ready (rs := [7, 10]) (by kernel_rfl) (by simp) ?_
                refine AllReadyH.cons rfl (fun K hK => ?_) ?_
                · go_simp
                  refine hK.out _ _ ?_ (fun hNew => ?_)
                  · (try dsimp only); exact hHeld
                  clear hK K hHeld
                  have hHeld := hNew
                  clear hNew
                  refine wpAnyH_ready (rs := [10]) (by kernel_rfl) (by simp) ?_
                  refine AllReadyH.cons rfl (fun K hK => ?_) ?_
                  · go_simp
                    refine hK.out _ _ ?_ (fun hNew => ?_)
                    · (try dsimp only); exact hcA _
                    clear hK K hHeld
                    have hHeld := hNew
                    clear hNew
                    refine wpAnyH_ready (rs := [11]) (by kernel_rfl) (by simp) ?_
                    refine AllReadyH.cons rfl (fun K hK => ?_) ?_
                    · refine step_int_at (by rfl) _ _ (by rfl) (w.heap.size + 2) _ m (intV (rowZ O k s)) (by rfl) (HU5.out _) _ _ _ (by rfl) (cell_val_new _ _ _) (by simp [Value.oneCell']) (by omega) (HZA.out _) ?_
                      intro v5 w5 ho5 hg5 hat5
                      try rw [hw] at ho5
                      have HP5 := Lib.hid (HP.out w5 v5 _ ho5 hg5 hat5)
                      obtain ⟨y5, p2⟩ := HP5.out.2.1
                      have p3 := HP5.out.2.2.1
                      have q1 := HP5.out.2.2.2
                      obtain ⟨a6, c6, rfl⟩ := own_form ho5
                      clear ho5 hg5 hat5
                      refine hK.out _ _ ?_ (fun hNew => ?_)
                      · (try dsimp only); exact q1
                      clear hK K hHeld
                      have hHeld := hNew
                      clear hNew
                      refine (wpAnyH_take (i := 12) (v := ?_) rfl (by kernel_rfl) (by kernel_rfl) (by kernel_rfl) (fun _ _ _ h => h) (Or.inl ⟨by rfl, ?_⟩) (by assumption) ?_)
                      rotate_left 1
                      · (intro w hSw; (try dsimp only at hSw); (go_simp) <;> with_reducible rfl)
                      try simp only [Act.put, List.setIfInBounds_toArray]
                      refine wpAnyH_ready (rs := [13]) (by kernel_rfl) (by simp) ?_
                      refine AllReadyH.cons rfl (fun K hK => ?_) ?_
                      · go_simp
                        refine hK.out _ _ ?_ (fun hNew => ?_)
                        · (try dsimp only); exact (set_cell_ne _ _ _ _ _ _ hdg).trans q1
                        clear hK K hHeld
                        have hHeld := hNew
                        clear hNew
                        refine wpAnyH_done (by kernel_rfl) ?_ _
                        have HPx := Lib.hid HP5.out.1
                        clear HP5 p2 p3 q1 y5 hHeld
                        go_wp2_with fail
                        exact ⟨⟨k + 1, by omega, by go_num, Lib.hid (by rw [HY.out]; exact HPx.out), HK2⟩, by simp [intOf]; omega⟩
                      exact AllReadyH.nil
                    exact AllReadyH.nil
                  exact AllReadyH.nil
                refine AllReadyH.cons rfl (fun K hK => ?_) ?_
                · go_simp
                  refine hK.out _ _ ?_ (fun hNew => ?_)
                  · (try dsimp only); exact hcA _
                  clear hK K hHeld
                  have hHeld := hNew
                  clear hNew
                  refine wpAnyH_ready (rs := [7]) (by kernel_rfl) (by simp) ?_
                  refine AllReadyH.cons rfl (fun K hK => ?_) ?_
                  · go_simp
                    refine hK.out _ _ ?_ (fun hNew => ?_)
                    · (try dsimp only); exact hHeld
                    clear hK K hHeld
                    have hHeld := hNew
                    clear hNew
                    refine wpAnyH_ready (rs := [11]) (by kernel_rfl) (by simp) ?_
                    refine AllReadyH.cons rfl (fun K hK => ?_) ?_
                    · refine step_int_at (by rfl) _ _ (by rfl) (w.heap.size + 2) _ m (intV (rowZ O k s)) (by rfl) (HU5.out _) _ _ _ (by rfl) (cell_val_new _ _ _) (by simp [Value.oneCell']) (by omega) (HZA.out _) ?_
                      intro v5 w5 ho5 hg5 hat5
                      try rw [hw] at ho5
                      have HP5 := Lib.hid (HP.out w5 v5 _ ho5 hg5 hat5)
                      obtain ⟨y5, p2⟩ := HP5.out.2.1
                      have p3 := HP5.out.2.2.1
                      have q1 := HP5.out.2.2.2
                      obtain ⟨a6, c6, rfl⟩ := own_form ho5
                      clear ho5 hg5 hat5
                      refine hK.out _ _ ?_ (fun hNew => ?_)
                      · (try dsimp only); exact q1
                      clear hK K hHeld
                      have hHeld := hNew
                      clear hNew
                      refine (wpAnyH_take (i := 12) (v := ?_) rfl (by kernel_rfl) (by kernel_rfl) (by kernel_rfl) (fun _ _ _ h => h) (Or.inl ⟨by rfl, ?_⟩) (by assumption) ?_)
                      rotate_left 1
                      · (intro w hSw; (try dsimp only at hSw); (go_simp) <;> with_reducible rfl)
                      try simp only [Act.put, List.setIfInBounds_toArray]
                      refine wpAnyH_ready (rs := [13]) (by kernel_rfl) (by simp) ?_
                      refine AllReadyH.cons rfl (fun K hK => ?_) ?_
                      · go_simp
                        refine hK.out _ _ ?_ (fun hNew => ?_)
                        · (try dsimp only); exact (set_cell_ne _ _ _ _ _ _ hdg).trans q1
                        clear hK K hHeld
                        have hHeld := hNew
                        clear hNew
                        refine wpAnyH_done (by kernel_rfl) ?_ _
                        have HPx := Lib.hid HP5.out.1
                        clear HP5 p2 p3 q1 y5 hHeld
                        go_wp2_with fail
                        exact ⟨⟨k + 1, by omega, by go_num, Lib.hid (by rw [HY.out]; exact HPx.out), HK2⟩, by simp [intOf]; omega⟩
                      exact AllReadyH.nil
                    exact AllReadyH.nil
                  exact AllReadyH.nil
                exact AllReadyH.nil
          · obtain rfl : k = n := by omega
            have HZ : Hid (okZ (q : Int) (H : Int) P O = true) := Lib.hid (okZ_iff.2 ⟨HG.out, planZ_iff.2 ⟨fun x hx => by
              obtain ⟨j, hj⟩ := List.getElem?_of_mem hx
              exact HK.out.1 j x (by have := lt_of_get hj; have := HN.out; omega) hj, by rw [HN.out, HP.out], fun j hj => by
              rw [HN.out]
              have := HK.out.2 j (by simpa using hj)
              simpa using this⟩⟩)
            have HY := Lib.hid (pb_yes HZ.out)
            have hr9 := HS.out.r
            obtain ⟨-, d0, d1⟩ := HS.out.cells
            have y0 := cell_of (i := 0) hr9 rfl
            have y1 := cell_of (i := 1) hr9 rfl
            have z0 := cell_of (i := 0) HS.out.r rfl
            have z1 := cell_of (i := 1) HS.out.r rfl
            have f0 : ∀ i, wr.frozen? ⟨w.heap.size + 1, i, none⟩ = false := fun i => free_of hr9
            obtain ⟨e7, e8⟩ := res_bay (.int .i64 (H : Int)) (.slice (some ⟨g, 0, none⟩) q q) z0 z1
            clear hr9
            go_wp2_with fail
            refine bodyPost_ret (v := .tuple #[.agg #[.int .i64 (H : Int), .slice (some ⟨g, 0, none⟩) q q], .bool true]) (by simp [results, Try.results23, go_sem, e7, e8]) rfl ?_
            rw [HY.out.1, HY.out.2, HZ.out, HN.out, Int.toNat_natCast]
            refine ⟨_, _, by rw [bayZ_len], ?_, (HS.out.bl.setCell (p := ⟨w.heap.size + 1, 0, none⟩) (by show w.heap.size ≤ w.heap.size + 1; omega) _).setCell (p := ⟨w.heap.size + 1, 1, none⟩) (by show w.heap.size ≤ w.heap.size + 1; omega) _⟩
            rw [bayZ_len]
            exact (HS.out.own.span (span_res wr (w.heap.size + 1) _ _) (.inr (Nat.le_refl _))).mono (by omega) (by simp) (Nat.le_refl _)
end Go.Proofs.Ytpflnjjckeeihaa
