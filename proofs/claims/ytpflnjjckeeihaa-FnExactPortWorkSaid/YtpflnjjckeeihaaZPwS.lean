/-
  What spec.PortWork returns. No statement of the seat by itself.
-/
import Derived.Test.YtpflnjjckeeihaaZPwI
import Derived.Test.YtpflnjjckeeihaaZShS
namespace Go.Proofs.Ytpflnjjckeeihaa
open Go.RowKit

/-- While the two lists are collected. -/
structure PwS (w wr : World) (r h : Int) (v0 : Value) (D : Nat) (hh : Int) (vs s1 : Value) (S1 : List Int) (s2 : Value) (S2 : List Int) : Prop where
  o1 : wr.ownsRow (w.heap.size + 1) 3 1 s1 S1.length (intV S1)
  o2 : wr.ownsRow (w.heap.size + 1) 3 1 s2 S2.length (intV S2)
  a : Box3 wr w.heap.size r h v0
  b : Box2 wr D hh vs
  bl : Below w.heap.size w wr
  hlt : w.heap.size + 1 ≤ wr.heap.size
section
variable {w wr W : World} {r h : Int} {v0 : Value} {D : Nat} {hh : Int} {vs s1 s2 s' : Value} {S1 S2 S' : List Int}
theorem PwS.below (g : PwS w wr r h v0 D hh vs s1 S1 s2 S2) (hb : Below wr.heap.size wr W) : PwS w W r h v0 D hh vs s1 S1 s2 S2 :=
  ⟨row_below g.o1 hb, row_below g.o2 hb, g.a.below hb, g.b.below hb, g.bl.trans (hb.mono g.bl.size), Nat.le_trans g.hlt hb.size⟩
theorem PwS.put1 (g : PwS w wr r h v0 D hh vs s1 S1 s2 S2) (hb : Below wr.heap.size wr W) (ho : W.ownsRow (w.heap.size + 1) 3 1 s' S'.length (intV S')) : PwS w W r h v0 D hh vs s' S' s2 S2 :=
  ⟨ho, row_below g.o2 hb, g.a.below hb, g.b.below hb, g.bl.trans (hb.mono g.bl.size), Nat.le_trans g.hlt hb.size⟩
theorem PwS.put2 (g : PwS w wr r h v0 D hh vs s1 S1 s2 S2) (hb : Below wr.heap.size wr W) (ho : W.ownsRow (w.heap.size + 1) 3 1 s' S'.length (intV S')) : PwS w W r h v0 D hh vs s1 S1 s' S' :=
  ⟨row_below g.o1 hb, ho, g.a.below hb, g.b.below hb, g.bl.trans (hb.mono g.bl.size), Nat.le_trans g.hlt hb.size⟩
end
theorem ow_small {P : List Int} {p : Int} {Y : List (List Int)} (hY : ∀ j t, t < (Y.getD j []).length → 1 ≤ (Y.getD j []).getD t 0 ∧ (Y.getD j []).getD t 0 ≤ 7) {i k : Nat} (hk : k ≤ (Y.getD i []).length) : (owK P p (Y.getD i []) (owI P p Y i) k).length ≤ 7 ∧ (upK P p (Y.getD i []) (upI P p Y i) k).length ≤ 7 := by
  constructor
  · have h := asc_len (lo := 1) (hi := 7) (owK_asc (P := P) (l := Y.getD i []) (p := p) (owI_asc P p Y i) k) (fun x hx => by
      rcases (owK_mem k).1 hx with ⟨t, ht, rfl, -⟩ | hx
      · exact hY i t (by omega)
      · obtain ⟨j, -, t, ht, rfl, -⟩ := (owI_mem i).1 hx
        exact hY j t ht) (by omega)
    omega
  · have h := asc_len (lo := 1) (hi := 7) (upK_asc (P := P) (l := Y.getD i []) (p := p) (upI_asc P p Y i) k) (fun x hx => by
      rcases (upK_mem k).1 hx with ⟨t, ht, rfl, -⟩ | hx
      · exact hY i t (by omega)
      · obtain ⟨j, -, t, ht, rfl, -⟩ := (upI_mem i).1 hx
        exact hY j t ht) (by omega)
    omega

set_option maxRecDepth 100000 in
set_option maxHeartbeats 16000000 in
theorem specPw_any (v vo : Value) (r h : Int) (P O : List Int) (p : Int) (hn : P.length ≤ 1048576) (hO : O.length ≤ 1048576) (w : World) (hv : StR w v r h P) (ho : IL w vo O) :
    Calls Try.prog 27 #[v, vo, .int .i64 p] w (SeenLL w (pwR r h P O p) (pwD r h P O p) (okW r h P O p)) := by
  obtain ⟨v0, rfl, hv⟩ := hv
  have hb0 := below_one w (.cells #[.int .i64 r, .int .i64 h, v0] 26)
  have hb1 := below_one (w.alloc (.cells #[.int .i64 r, .int .i64 h, v0] 26)) (.cells #[] 3)
  have hb2 := below_one ((w.alloc (.cells #[.int .i64 r, .int .i64 h, v0] 26)).alloc (.cells #[] 3)) (.cells #[] 3)
  have hs1 : (w.alloc (.cells #[.int .i64 r, .int .i64 h, v0] 26)).heap.size = w.heap.size + 1 := by simp
  have hs2 : ((w.alloc (.cells #[.int .i64 r, .int .i64 h, v0] 26)).alloc (.cells #[] 3)).heap.size = w.heap.size + 1 + 1 := by simp
  have B0 := Lib.hid ((hb0.trans (hb1.mono hb0.size)).trans (hb2.mono (Nat.le_trans hb0.size hb1.size)))
  have BA := Lib.hid (((Box3.new w r h v0 26).below hb1).below hb2)
  have e1 := row_below (own_empty (w.alloc (.cells #[.int .i64 r, .int .i64 h, v0] 26)) (.cells #[] 3) 3 rfl) hb2
  have e2 := own_empty ((w.alloc (.cells #[.int .i64 r, .int .i64 h, v0] 26)).alloc (.cells #[] 3)) (.cells #[] 3) 3 rfl
  rw [hs1] at e1
  rw [hs2] at e2
  have E1 := Lib.hid e1
  have E2 := Lib.hid e2
  have HF := Lib.hid (l10Asked_any (.agg #[.int .i64 r, .int .i64 h, v0]) vo r h P O hn hO _ ⟨v0, rfl, hv.below B0.out⟩ (ho.below B0.out))
  have HV := Lib.hid hv
  have HI := Lib.hid ho
  obtain ⟨-, c0, c1, c2⟩ := BA.out
  obtain ⟨ao, co, rfl⟩ := ho.form
  obtain ⟨n, hnO⟩ : ∃ n, O.length = n := ⟨_, rfl⟩
  have HN := Lib.hid hnO
  rw [hnO] at hO HI HF ⊢
  clear hb0 hb1 hb2 hs1 hs2 hv ho hnO e1 e2
  have hseen : ∀ W, Below w.heap.size w W → SeenLL w [] [] false (.returned (.tuple #[.slice (some ⟨w.heap.size + 1, 0, none⟩) 0 0, .slice (some ⟨w.heap.size + 1 + 1, 0, none⟩) 0 0, .bool false])) W := fun W hb => ⟨_, 0, _, 0, rfl, IL.nil _ _ _, IL.nil _ _ _, hb⟩
  have HSn := Lib.hid hseen
  clear hseen
  cases hg : okZ r h P O with
  | false =>
    have HX := Lib.hid (And.intro (pw_no (okW_l (p := p) hg)) (okW_l (p := p) hg))
    rw [hg] at HF
    clear hg
    go_enter Try.func27, Try.ntmps27
    go_wp2_with fail
    refine HF.out.mono ?_
    rintro e w1 ⟨rfl, hb⟩
    have B1 := Lib.hid (B0.out.trans (hb.mono B0.out.size))
    clear hb c0 c1 c2
    go_wp2_with fail
    go_ret3
    rw [HX.out.1.1, HX.out.1.2, HX.out.2]
    exact HSn.out _ B1.out
  | true =>
    by_cases hp : 1 ≤ p ∧ p ≤ 9
    case neg =>
      have HX := Lib.hid (And.intro (pw_no (okW_r (r := r) (h := h) (P := P) (O := O) hp)) (okW_r (r := r) (h := h) (P := P) (O := O) hp))
      have HL := Lib.hid (fun W => l1In_no p 1 9 W (by omega))
      rw [hg] at HF
      clear hg hp
      go_enter Try.func27, Try.ntmps27
      go_wp2_with fail
      refine HF.out.mono ?_
      rintro e w1 ⟨rfl, hb⟩
      have B1 := Lib.hid (B0.out.trans (hb.mono B0.out.size))
      clear hb c0 c1 c2
      go_wp2_with fail
      refine (HL.out _).mono ?_
      rintro e w2 ⟨rfl, rfl⟩
      go_wp2_with fail
      go_ret3
      rw [HX.out.1.1, HX.out.1.2, HX.out.2]
      exact HSn.out _ B1.out
    case pos =>
      have HX := Lib.hid (And.intro (pw_yes (okW_yes hg hp)) (okW_yes hg hp))
      have HL := Lib.hid (fun W => l1In_yes p 1 9 W hp.1 hp.2)
      obtain ⟨g1, g2, g3, g4, g5, g6, g7⟩ := okZ_get hg
      obtain ⟨q, rfl⟩ : ∃ q : Nat, r = (q : Int) := ⟨r.toNat, by omega⟩
      rw [hg] at HF
      have hn7 : n ≤ 7 := by have := HN.out; omega
      have HBy := Lib.hid (fun W (hb : Below w.heap.size w W) => l10Bay_any (.agg #[.int .i64 (q : Int), .int .i64 h, v0]) (.slice ao n co) q h P O (by omega) (by omega) (by omega) g6 W ⟨_, rfl, HV.out.below hb⟩ (HI.out.below hb))
      unfold NewBd at HBy
      rw [HN.out, bayZ_len] at HBy
      rw [HN.out] at HX
      have hri : ∀ i, i < n → (O.getD i 0).toNat < q := fun i hi => by
        have := g6 (O.getD i 0) (by rw [List.getD, List.getElem?_eq_getElem (by rw [HN.out]; exact hi)]; exact List.getElem_mem _)
        omega
      have HEq := Lib.hid (And.intro (owI_eq (P := P) (p := p) hri) (upI_eq (P := P) (p := p) hri))
      have hYL := bayZ_len q O n
      have hbb := bayZ_bounds (q := q) (O := O) hn7
      have HSm := Lib.hid (fun (i k : Nat) hk => ow_small (P := P) (p := p) (Y := bayZ q O n) (fun j t ht => ⟨(hbb.1 j t ht).1, by have := (hbb.1 j t ht).2; omega⟩) (i := i) (k := k) hk)
      have HB := Lib.hid hbb
      obtain ⟨Y, hY⟩ : ∃ Y, bayZ q O n = Y := ⟨_, rfl⟩
      rw [hY] at HBy HEq hYL HSm HB
      have HQ := Lib.hid hYL
      obtain ⟨ap, cp, rfl⟩ := HV.out.form
      obtain ⟨np, hnp⟩ : ∃ np, P.length = np := ⟨_, rfl⟩
      have HPn : Hid (P.length = n) := Lib.hid (by have := HN.out; omega)
      have hnp2 : np = n := by have := HPn.out; omega
      subst hnp2
      rw [hnp] at HF HV BA B0 c2 HBy E1 E2 ⊢
      have hq5 : q ≤ 5 := by omega
      clear hg hp g1 g2 g4 g5 g6 g7 hri hbb hY hYL hnp
      go_enter Try.func27, Try.ntmps27
      go_wp2_with fail
      refine HF.out.mono ?_
      rintro e w1 ⟨rfl, hb⟩
      have B1 := Lib.hid (B0.out.trans (hb.mono B0.out.size))
      have BA1 := Lib.hid (BA.out.below hb)
      have F1 := Lib.hid (row_below E1.out hb)
      have F2 := Lib.hid (row_below E2.out hb)
      obtain ⟨-, k0, k1, k2⟩ := BA.out.below hb
      clear hb c0 c1 c2
      go_wp2_with fail
      refine (HL.out _).mono ?_
      rintro e w2 ⟨rfl, rfl⟩
      go_wp2_with fail
      refine (HBy.out _ B1.out).mono ?_
      rintro e w3 ⟨a3, c3, rfl, ho3, hb3⟩
      have B3 := Lib.hid (B1.out.trans (hb3.mono B1.out.size))
      have hb4 := below_one w3 (.cells #[.int .i64 h, .slice a3 q c3] 37)
      have PS0 : Hid (PwS w (w3.alloc (.cells #[.int .i64 h, .slice a3 q c3] 37)) (q : Int) h (.slice ap np cp) w3.heap.size h (.slice a3 q c3) (.slice (some ⟨w.heap.size + 1, 0, none⟩) 0 0) [] (.slice (some ⟨w.heap.size + 1 + 1, 0, none⟩) 0 0) []) :=
        Lib.hid ⟨row_below (row_below F1.out hb3) hb4, row_below (row_below (F2.out.mono (by omega)) hb3) hb4, (BA1.out.below hb3).below hb4, Box2.new w3 h (.slice a3 q c3) 37, B3.out.trans (hb4.mono B3.out.size), by have := BA1.out.1; have := hb3.size; have := hb4.size; omega⟩
      have YL0 := Lib.hid (ho3.yl.below hb4)
      have HZ0 := Lib.hid PS0.out.bl
      have HSY := Lib.hid (Below.refl (w3.alloc (.cells #[.int .i64 h, .slice a3 q c3] 37)).heap.size (w3.alloc (.cells #[.int .i64 h, .slice a3 q c3] 37)))
      clear hb3 hb4 ho3 k0 k1 k2
      go_wp2_with fail
      generalize w3.alloc (.cells #[.int .i64 h, .slice a3 q c3] 37) = w4 at *
      go_loopw [9, 10, 12] (fun s1 s2 ii wr => ∃ (i ga ka gb kb : Nat), i ≤ q ∧ ii = .int .i64 i ∧ s1 = .slice (some ⟨ga, 0, none⟩) (owI P p Y i).length ka ∧ s2 = .slice (some ⟨gb, 0, none⟩) (upI P p Y i).length kb ∧ Hid (PwS w wr (q : Int) h (.slice ap np cp) w3.heap.size h (.slice a3 q c3) (.slice (some ⟨ga, 0, none⟩) (owI P p Y i).length ka) (owI P p Y i) (.slice (some ⟨gb, 0, none⟩) (upI P p Y i).length kb) (upI P p Y i)) ∧ Hid (Below w4.heap.size w4 wr)) (fun _ _ ii _ => q - (intOf ii).toNat)
      case atStart => exact ⟨0, _, _, _, _, Nat.zero_le _, rfl, rfl, rfl, PS0, HSY⟩
      case round =>
        clear PS0 HSY
        obtain ⟨i, ga, ka, gb, kb, hi, rfl, rfl, rfl, HR, HW⟩ := hrel
        rename World => wr
        have b1 := HR.out.b.2.2
        by_cases hlt : i < q
        · obtain ⟨l, hl⟩ := get_at HQ.out hlt
          have hgl := getD_of hl
          obtain ⟨gy, oy, rfl, hgy, hcy⟩ : ∃ g off, a3 = some ⟨g, off, none⟩ ∧ g < w4.heap.size ∧ ∀ j l, Y[j]? = some l → ∃ u, w4.cell? ⟨g, off + j, none⟩ = some u ∧ IL w4 u l := by
            obtain ⟨a', c', e, hh⟩ := YL0.out
            injection e with e1 e2 e3
            subst e1
            exact hh (by have := HQ.out; omega)
          obtain ⟨u, hu, hil⟩ := hcy i l hl
          obtain ⟨al, cl, rfl⟩ := hil.form
          obtain ⟨m, hm⟩ : ∃ m, l.length = m := ⟨_, rfl⟩
          have HM := Lib.hid hm
          have hm7 := HB.out.2 i
          have HR8 := Lib.hid (HB.out.1 i)
          have HS8 := Lib.hid (HSm.out i)
          rw [hgl] at hm7 HR8 HS8
          have HIL := Lib.hid hil
          rw [hm] at hu hm7 HIL HR8 HS8
          have HU := Lib.hid (fun W (hb : Below w4.heap.size w4 W) => (hb.cell (p := ⟨gy, oy + i, none⟩) hgy).trans hu)
          have HSh := Lib.hid (show owI P p Y (i + 1) = owK P p l (owI P p Y i) m ∧ upI P p Y (i + 1) = upK P p l (upI P p Y i) m from ⟨by rw [owI, hgl, hm], by rw [upI, hgl, hm]⟩)
          clear hcy hil hu hm hgl hl
          go_wp2_with fail
          go_loopw [9, 10, 13, 14] (fun s1 s2 fb kk wr => ∃ (k ga ka gb kb : Nat), k ≤ m ∧ kk = .int .i64 k ∧ fb = .bool (abF P p l k) ∧ s1 = .slice (some ⟨ga, 0, none⟩) (owK P p l (owI P p Y i) k).length ka ∧ s2 = .slice (some ⟨gb, 0, none⟩) (upK P p l (upI P p Y i) k).length kb ∧ Hid (PwS w wr (q : Int) h (.slice ap np cp) w3.heap.size h (.slice (some ⟨gy, oy, none⟩) q c3) (.slice (some ⟨ga, 0, none⟩) (owK P p l (owI P p Y i) k).length ka) (owK P p l (owI P p Y i) k) (.slice (some ⟨gb, 0, none⟩) (upK P p l (upI P p Y i) k).length kb) (upK P p l (upI P p Y i) k)) ∧ Hid (Below w4.heap.size w4 wr)) (fun _ _ _ kk _ => m - (intOf kk).toNat)
          case atStart => exact ⟨0, _, _, _, _, Nat.zero_le _, rfl, rfl, rfl, rfl, HR, HW⟩
          case round =>
            clear b1 HR HW
            obtain ⟨k, ga2, ka2, gb2, kb2, hk, rfl, rfl, rfl, rfl, HR2, HW2⟩ := hrel
            rename World => wq
            have b1 := HR2.out.b.2.2
            have u1 := HU.out wq HW2.out
            by_cases hkm : k < m
            · obtain ⟨a5, c5, e5, hh5⟩ := HIL.out
              injection e5 with e1 e2 e3
              obtain ⟨gl, ol, e6, hgl, hcl⟩ := hh5 (by have := HM.out; omega)
              rw [← e1] at e6
              subst e6
              clear e1 e2 e3
              have hkl : k < l.length := by rw [HM.out]; exact hkm
              have hgk := getDI2 hkl
              obtain ⟨ka3, hka, hkap⟩ : ∃ ka : Nat, l.getD k 0 = (ka : Int) + 1 ∧ ka < np := ⟨(l.getD k 0 - 1).toNat, by have := HR8.out k hkm; omega, by have := HR8.out k hkm; omega⟩
              rw [hka] at hgk
              have n1 := (HW2.out.cell (p := ⟨gl, ol + k, none⟩) hgl).trans (hcl k _ hgk)
              obtain ⟨gp, op, rfl, hgp, hcp⟩ : ∃ g off, ap = some ⟨g, off, none⟩ ∧ g < w.heap.size ∧ ∀ i x, P[i]? = some x → w.cell? ⟨g, off + i, none⟩ = some (.int .i64 x) := by
                obtain ⟨a', c', e, hh⟩ := HV.out
                injection e with e1 e2 e3
                subst e1
                exact hh (by have := HPn.out; omega)
              obtain ⟨pk, hpk⟩ := get_at HPn.out hkap
              have n3 := (HR2.out.bl.cell (p := ⟨gp, op + ka3, none⟩) hgp).trans (hcp ka3 _ hpk)
              have s2 := HR2.out.a.2.2.2
              have HZk : Hid (ptZ P (l.getD k 0) = pk) := Lib.hid (by rw [hka, ptZ_at, List.getD, hpk]; rfl)
              have hsk : IntKind.i64.wrap ((ka3 : Int) + 1 - 1) = (ka3 : Int) := by rw [IntKind.wrap_i64]; omega
              have hsk2 : (ka3 : Int) + 1 - 1 = (ka3 : Int) := by omega
              have HO1 := Lib.hid (show owK P p l (owI P p Y i) (k + 1) = if ptZ P (l.getD k 0) = p then insU (l.getD k 0) (owK P p l (owI P p Y i) k) else owK P p l (owI P p Y i) k from rfl)
              have HO2 := Lib.hid (show abF P p l (k + 1) = if ptZ P (l.getD k 0) = p then true else abF P p l k from rfl)
              have HO3 := Lib.hid (show upK P p l (upI P p Y i) (k + 1) = if ptZ P (l.getD k 0) ≠ p ∧ p < ptZ P (l.getD k 0) ∧ abF P p l k = true then insU (l.getD k 0) (upK P p l (upI P p Y i) k) else upK P p l (upI P p Y i) k from rfl)
              rw [HZk.out, hka] at HO1 HO3
              rw [HZk.out] at HO2
              have hl1 := (HS8.out k (by omega)).1
              have hl2 := (HS8.out k (by omega)).2
              have HA1 := Lib.hid (owK_asc (P := P) (l := l) (p := p) (owI_asc P p Y i) k)
              have HA2 := Lib.hid (upK_asc (P := P) (l := l) (p := p) (upI_asc P p Y i) k)
              clear hgk hpk hkl hka hcl hcp
              by_cases hpe : pk = p
              · have hd : (pk == p) = true := by simp [hpe]
                rw [if_pos hpe] at HO1 HO2
                rw [if_neg (fun e => e.1 hpe)] at HO3
                have HPut := Lib.hid (l1Put_all (w.heap.size + 1) ga2 (owK P p l (owI P p Y i) k).length ka2 (owK P p l (owI P p Y i) k) rfl (by omega) HA1.out ((ka3 : Int) + 1) wq HR2.out.o1 HR2.out.hlt)
                clear hpe
                generalize owK P p l (owI P p Y i) k = S1 at *
                generalize S1.length = m1 at *
                rw [← HO3.out] at HR2 ⊢
                go_wp2_with fail
                refine HPut.out.mono ?_
                rintro e w5 ⟨g5, k5, rfl, ho5, hb5⟩
                have R5 := Lib.hid (HR2.out.put1 hb5 ho5)
                have W5 := Lib.hid (HW2.out.trans (hb5.mono HW2.out.size))
                clear ho5 hb5 b1 u1 n1 n3 s2
                rw [← HO1.out] at R5 ⊢
                go_wp2_with fail
                go_roundw
                case rel => exact ⟨k + 1, _, _, _, _, by omega, by go_num, by rw [HO2.out], rfl, rfl, R5, W5⟩
                case measure => simp [intOf]; omega
              · have hd : (pk == p) = false := beq_eq_false_iff_ne.2 hpe
                rw [if_neg hpe] at HO1 HO2
                by_cases hup : p < pk
                case neg =>
                  have hd2 : decide (p < pk) = false := decide_eq_false hup
                  rw [if_neg (fun e => hup e.2.1)] at HO3
                  have HRn := HR2
                  rw [← HO1.out, ← HO3.out] at HRn ⊢
                  rw [← HO2.out]
                  clear hup hpe
                  go_wp2_with fail
                  go_roundw
                  case rel => exact ⟨k + 1, _, _, _, _, by omega, by go_num, rfl, rfl, rfl, HRn, HW2⟩
                  case measure => simp [intOf]; omega
                case pos =>
                  have hd2 : decide (p < pk) = true := decide_eq_true hup
                  rw [← HO2.out]
                  obtain ⟨fb, hfb⟩ : ∃ fb, abF P p l k = fb := ⟨_, rfl⟩
                  have HFb : Hid (abF P p l (k + 1) = fb) := Lib.hid (HO2.out.trans hfb)
                  rw [HFb.out]
                  cases fb with
                  | false =>
                    rw [if_neg (fun e => by rw [hfb] at e; exact absurd e.2.2 (by decide))] at HO3
                    have HRn := HR2
                    rw [← HO1.out, ← HO3.out] at HRn ⊢
                    clear hup hpe hfb
                    go_wp2_with fail
                    go_roundw
                    case rel => exact ⟨k + 1, _, _, _, _, by omega, by go_num, by rw [HFb.out], rfl, rfl, HRn, HW2⟩
                    case measure => simp [intOf]; omega
                  | true =>
                    rw [if_pos ⟨hpe, hup, hfb⟩] at HO3
                    have HPut := Lib.hid (l1Put_all (w.heap.size + 1) gb2 (upK P p l (upI P p Y i) k).length kb2 (upK P p l (upI P p Y i) k) rfl (by omega) HA2.out ((ka3 : Int) + 1) wq HR2.out.o2 HR2.out.hlt)
                    clear hup hpe hfb
                    generalize upK P p l (upI P p Y i) k = S2 at *
                    generalize S2.length = m2 at *
                    rw [← HO1.out] at HR2 ⊢
                    go_wp2_with fail
                    refine HPut.out.mono ?_
                    rintro e w5 ⟨g5, k5, rfl, ho5, hb5⟩
                    have R5 := Lib.hid (HR2.out.put2 hb5 ho5)
                    have W5 := Lib.hid (HW2.out.trans (hb5.mono HW2.out.size))
                    clear ho5 hb5 b1 u1 n1 n3 s2
                    rw [← HO3.out] at R5 ⊢
                    go_wp2_with fail
                    go_roundw
                    case rel => exact ⟨k + 1, _, _, _, _, by omega, by go_num, by rw [HFb.out], rfl, rfl, R5, W5⟩
                    case measure => simp [intOf]; omega
            · obtain rfl : k = m := by omega
              rw [← HSh.out.1, ← HSh.out.2] at HR2 ⊢
              have hi5 : (i : Int) < 1000 := by omega
              go_wp2_with fail
              go_roundw
              case rel => exact ⟨i + 1, _, _, _, _, by omega, by go_num, rfl, rfl, HR2, HW2⟩
              case measure => simp [intOf]; omega
        · obtain rfl : i = q := by omega
          have h1 := HR.out.o1
          have h2 := HR.out.o2
          rw [HEq.out.1] at h1 ⊢
          rw [HEq.out.2] at h2 ⊢
          go_wp2_with fail
          go_ret3
          rw [HX.out.1.1, HX.out.1.2, HX.out.2]
          exact ⟨_, _, _, _, rfl, il_of_owns h1, il_of_owns h2, HR.out.bl⟩
end Go.Proofs.Ytpflnjjckeeihaa
