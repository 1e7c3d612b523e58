/-
  What spec.l8Bad and spec.BadlyPlaced return. No statement of the seat by itself.
-/
import Derived.Test.YtfbeoficgkkamaaBadJ
namespace Go.Proofs.Ytfbeoficgkkamaa
open Go.RowKit

/-- The badly placed ones of the first stacks and of the first k numbers of the next one. -/
def badIK (Y : List (List Int)) (i : Nat) (l : List Int) (k : Nat) : List Int := srtI (badYL Y i ++ badL l k)
theorem badYL_flat (Y : List (List Int)) : ∀ i x, i ≤ Y.length → x ∈ badYL Y i → x ∈ (Y.take i).flatten
  | 0, x, _, h => by simp [badYL] at h
  | i + 1, x, hi, h => by
    have hg : Y[i]? = some Y[i] := List.getElem?_eq_getElem (by omega)
    rw [badYL_succ hg, List.mem_append] at h
    rw [flat_succ hg, List.mem_append]
    rcases h with h | h
    · exact .inl (badYL_flat Y i x (by omega) h)
    · have := badL_mem Y[i] _ x (Nat.le_refl _) h
      rw [List.take_length] at this
      exact .inr this
theorem badIK_new {Y : List (List Int)} {i k : Nat} {l : List Int} {x : Int} (hg : goodY Y = true) (hl : Y[i]? = some l) (hx : l[k]? = some x) : ¬ x ∈ badIK Y i l k := fun hm => by
  rw [badIK, srtI_mem, List.mem_append] at hm
  have := good_twice hl hx (by
    rw [List.mem_append]
    rcases hm with hm | hm
    · exact .inl (badYL_flat Y i x (by have := lt_of_get hl; omega) hm)
    · exact .inr (badL_mem l k x (by have := lt_of_get hx; omega) hm))
  rw [this] at hg
  cases hg
theorem badIK_row (Y : List (List Int)) (i : Nat) (l : List Int) : badIK Y i l 0 = srtI (badYL Y i) := by simp [badIK, badL]
theorem badIK_next {Y : List (List Int)} {i : Nat} {l : List Int} (hl : Y[i]? = some l) : badIK Y i l l.length = srtI (badYL Y (i + 1)) := by rw [badIK, badYL_succ hl]
theorem badIK_yes {Y : List (List Int)} {i k : Nat} {l : List Int} {x : Int} (hx : l[k]? = some x) (h : earL (l.take k) < x) : badIK Y i l (k + 1) = insI x (badIK Y i l k) := by
  rw [badIK, badL_yes hx h, ← List.append_assoc, srtI_snoc, badIK]
theorem badIK_no {Y : List (List Int)} {i k : Nat} {l : List Int} {x : Int} (hx : l[k]? = some x) (h : ¬ earL (l.take k) < x) : badIK Y i l (k + 1) = badIK Y i l k := by
  rw [badIK, badL_no hx h, badIK]
theorem badIK_len {Y : List (List Int)} {i k : Nat} {l : List Int} (h : ∀ l ∈ Y, l.length ≤ 4) (hi : i ≤ Y.length) : (badIK Y i l k).length ≤ 4 * i + k := by
  have h1 := badYL_len Y h i hi
  have h2 := badL_len l k
  rw [badIK, srtI_len, List.length_append]
  omega
theorem good_99 {Y : List (List Int)} {i k : Nat} {l : List Int} {x : Int} (hg : goodY Y = true) (hl : Y[i]? = some l) (hx : l[k]? = some x) : 1 ≤ x ∧ x ≤ 99 :=
  (goodY_iff.1 hg).2.2.2.1 x (List.mem_flatten.2 ⟨l, List.mem_of_getElem? hl, List.mem_of_getElem? hx⟩)

set_option maxRecDepth 100000 in
set_option maxHeartbeats 8000000 in
theorem l8Bad_any (v : Value) (Y : List (List Int)) (hgd : goodY Y = true) (w : World) (h : YdR w v Y) :
    Calls Try.prog 105 #[v] w (NewB w (srtI (badYL Y Y.length))) := by
  obtain ⟨v0, rfl, hv⟩ := h
  have C0 := Lib.hid (coll_start w v0 67)
  obtain ⟨a, cap, rfl, hc⟩ := hv
  obtain ⟨n, hn⟩ : ∃ n, Y.length = n := ⟨_, rfl⟩
  have HN := Lib.hid hn
  have HC := Lib.hid hc
  have HG := Lib.hid hgd
  obtain ⟨h11, h66, h44, -⟩ := goodY_iff.1 hgd
  have H4 := Lib.hid h44
  rw [hn] at h66 C0 ⊢
  clear hc hgd h11 h44 hn
  go_enter Try.func105, Try.ntmps105
  go_wp2_with fail
  go_loopw [3, 4] (fun s i wr => ∃ (k : Nat), k ≤ n ∧ i = .int .i64 k ∧ Hid (Coll w wr (.slice a n cap) s (srtI (badYL Y k)))) (fun _ i _ => n - (intOf i).toNat)
  case atStart => exact ⟨0, Nat.zero_le _, rfl, C0⟩
  case round =>
    obtain ⟨i, hi, rfl, HCo⟩ := hrel
    rename World => wo
    have c0 := HCo.out.2.1
    by_cases hlt : i < n
    · obtain ⟨l, hl⟩ := get_at HN.out hlt
      obtain ⟨g, off, rfl, hg, hcc⟩ := HC.out (by have := HN.out; omega)
      obtain ⟨u, hu', hil⟩ := hcc i l hl
      have hl4 := H4.out l (List.mem_of_getElem? hl)
      have hu := (HCo.out.2.2.1.cell (p := ⟨g, off + i, none⟩) hg).trans hu'
      have HIL := Lib.hid hil
      obtain ⟨a2, c2, rfl, hrow⟩ := hil
      have HU := Lib.hid hu'
      have HR := Lib.hid hrow
      have HL := Lib.hid hl
      have HS0 : Hid (Coll w wo (.slice (some ⟨g, off, none⟩) n cap) _ (badIK Y i l 0)) := Lib.hid (by rw [badIK_row]; exact HCo.out)
      have HSn := Lib.hid (badIK_next hl)
      obtain ⟨m, hm⟩ : ∃ m, l.length = m := ⟨_, rfl⟩
      have HM := Lib.hid hm
      rw [hm] at hl4 hu HU HIL HSn
      clear hcc hl hrow hm hu'
      go_wp2_with fail
      go_loopw [3, 5] (fun s kk wr => ∃ (k : Nat), k ≤ m ∧ kk = .int .i64 k ∧ Hid (Coll w wr (.slice (some ⟨g, off, none⟩) n cap) s (badIK Y i l k))) (fun _ kk _ => m - (intOf kk).toNat)
      case atStart => exact ⟨0, Nat.zero_le _, rfl, HS0⟩
      case round =>
        clear hu c0
        obtain ⟨k, hk, rfl, HC2⟩ := hrel
        have c0 := HC2.out.2.1
        have hu := (HC2.out.2.2.1.cell (p := ⟨g, off + i, none⟩) hg).trans HU.out
        by_cases hkm : k < m
        · obtain ⟨g2, off2, rfl, hg2, hcc2⟩ := HR.out (by have := HM.out; omega)
          obtain ⟨x, hx⟩ := get_at HM.out hkm
          have hxc := (HC2.out.2.2.1.cell (p := ⟨g2, off2 + k, none⟩) hg2).trans (hcc2 k x hx)
          have HXc := Lib.hid (hcc2 k x hx)
          have h99 := good_99 HG.out HL.out hx
          have HBl := Lib.hid (l8Below_any _ l k x (by have := HM.out; omega) hx wr (HIL.out.below HC2.out.2.2.1))
          have hpos := bel_pos (l.take k) x (by omega)
          have hlen := badIK_len (l := l) (k := k) H4.out (show i ≤ Y.length by have := HN.out; omega)
          by_cases he : earL (l.take k) < x
          · have HY := Lib.hid (badIK_yes (Y := Y) (i := i) hx he)
            have HNew := Lib.hid (badIK_new HG.out HL.out hx)
            have hp : 0 < bel (l.take k) x := hpos.2 he
            generalize bel (l.take k) x = z at *
            have hpI : (0 : Int) < (z : Int) := by omega
            have hpn : ¬ (z : Int) ≤ 0 := by omega
            generalize badIK Y i l k = S at *
            clear hcc2 hx hpos he
            go_wp2_with fail
            refine HBl.out.mono ?_
            rintro e w2 ⟨rfl, hb⟩
            have HC3 := Lib.hid (coll_below HC2.out hb)
            have c1 := HC3.out.2.1
            have hu1 := (HC3.out.2.2.1.cell (p := ⟨g, off + i, none⟩) hg).trans HU.out
            have hxc1 := (HC3.out.2.2.1.cell (p := ⟨g2, off2 + k, none⟩) hg2).trans HXc.out
            have HB3 := Lib.hid HC3.out.2.2.1
            have hne := HC3.out.2.2.2.2
            have hrow := HC3.out.1
            have hz := HC3.out.2.2.2.1
            rcases hrow.2 with ⟨e, _⟩ | ⟨gS, cS, cur, rfl, hbS, hbk, hcS, hcm, -, -⟩
            · exact absurd e hne
            have hgS : gS < w2.heap.size := (Array.getElem?_eq_some_iff.1 hbk).1
            have HP := Lib.hid (l1Put_any gS S.length cS S rfl (by omega) hcS x HNew.out w2 (fun j hj => by rw [hrow.cellAt j (by omega), getV_of hj]) hgS)
            clear hb hbk hbS hne hrow cur hcS hcm
            go_wp2_with fail
            refine HP.out.mono ?_
            rintro e w3 ⟨v3, rfl, hne3, hr3, hb3⟩
            have HC4 : Hid (Coll w w3 (.slice (some ⟨g, off, none⟩) n cap) v3 (badIK Y i l (k + 1))) := Lib.hid (by
              rw [HY.out]
              have h4 := coll_below HC3.out hb3
              exact ⟨hr3.mono (by omega), h4.2.1, h4.2.2.1, h4.2.2.2.1, hne3⟩)
            clear hr3 hb3 hne3
            go_wp2_with fail
            exact ⟨⟨k + 1, by omega, by go_num, HC4⟩, by simp [intOf]; omega⟩
          · have HY := Lib.hid (badIK_no (Y := Y) (i := i) hx he)
            have hp : ¬ 0 < bel (l.take k) x := fun h => he (hpos.1 h)
            generalize bel (l.take k) x = z at *
            have hpn : ¬ (0 : Int) < (z : Int) := by omega
            clear hcc2 hx hpos he
            go_wp2_with fail
            refine HBl.out.mono ?_
            rintro e w2 ⟨rfl, hb⟩
            have HC3 : Hid (Coll w w2 (.slice (some ⟨g, off, none⟩) n cap) _ (badIK Y i l (k + 1))) := Lib.hid (by rw [HY.out]; exact coll_below HC2.out hb)
            clear hb c0 hu hxc
            go_wp2_with fail
            exact ⟨⟨k + 1, by omega, by go_num, HC3⟩, by simp [intOf]; omega⟩
        · obtain rfl : k = m := by omega
          go_wp2_with fail
          refine ⟨⟨i + 1, by omega, by go_num, by rw [← HSn.out]; exact HC2⟩, by simp [intOf]; omega⟩
    · obtain rfl : i = n := by omega
      go_wp2_with fail
      go_ret
      exact ⟨_, rfl, HCo.out.1.mono (Nat.le_succ _), HCo.out.2.2.1⟩

end Go.Proofs.Ytfbeoficgkkamaa
