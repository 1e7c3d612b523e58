/-
  What spec.UnloadRow returns. No statement of the seat by itself.
-/
import Derived.Test.YtececghifehjeaaHUnM
import Derived.Test.YtececghifehjeaaHOwn
namespace Go.Proofs.Ytececghifehjeaa
open Go.RowKit

set_option maxRecDepth 100000 in
set_option maxHeartbeats 8000000 in
theorem specUn_any (v : Value) (hh : Int) (Y : List (List Int)) (s : Int) (h1 : Y.length ≤ 1048576) (h2 : tot Y ≤ 1048576) (w : World) (h : BdR w v hh Y) :
    Calls Try.prog 59 #[v, .int .i64 s] w (RetBI w (unH hh Y s) (unR hh Y s) (unX hh Y s) (okU hh Y s)) := by
  obtain ⟨v0, rfl, hv⟩ := h
  have F0 := Lib.hid (FrB.start w hh v0)
  have HV := Lib.hid hv
  have HF := Lib.hid (l9Row_any (.agg #[.int .i64 hh, v0]) hh Y s h1 h2 _ ⟨v0, rfl, hv.below F0.out.bl⟩)
  have c0 := F0.out.a.2.1
  have c0b := F0.out.a.2.2
  clear hv
  cases hg : okB hh Y s with
  | false =>
    have HX := Lib.hid (okU_no hg)
    rw [hg] at HF
    clear hg
    rw [HX.out, (un_no HX.out).1, (un_no HX.out).2.1, (un_no HX.out).2.2]
    go_enter Try.func59, Try.ntmps59
    go_wp2_with fail
    refine HF.out.mono ?_
    rintro e w1 ⟨rfl, hb⟩
    have F1 := Lib.hid (F0.out.below hb)
    obtain ⟨z0, z1, f0⟩ := F1.out.z
    obtain ⟨e7, e8⟩ := res_bay (.int .i64 0) (.slice none 0 0) z0 z1
    clear hb c0 c0b
    go_wp2_with fail
    exact bodyPost_ret (v := .tuple #[.agg #[.int .i64 0, .slice none 0 0], .int .i64 0, .bool false]) (by simp [results, Try.results59, go_sem, e7, e8]) rfl (retBI_zero F1.out)
  | true =>
    obtain ⟨hgd, hs0, hs1⟩ := okB_iff.1 hg
    obtain ⟨i, rfl⟩ : ∃ i : Nat, s = (i : Int) := ⟨s.toNat, by omega⟩
    obtain ⟨n, hn⟩ : ∃ n, Y.length = n := ⟨_, rfl⟩
    have HN := Lib.hid hn
    have hin : i < n := by omega
    have hn6 : n ≤ 6 := by have := (goodB_small hgd).1; omega
    obtain ⟨l, hl⟩ := get_at hn hin
    have HL := Lib.hid hl
    obtain ⟨m, hm⟩ : ∃ m, l.length = m := ⟨_, rfl⟩
    have HM := Lib.hid hm
    have hm4 : m ≤ 4 := by have := (goodB_rows hgd).2.2.1 l (List.mem_of_getElem? hl); omega
    obtain ⟨a0, cap0, rfl, hc⟩ := HV.out
    obtain ⟨g0, off0, rfl, hg0, hcc⟩ := hc (by omega)
    obtain ⟨u0, hu0, hil⟩ := hcc i l hl
    obtain ⟨b0, d0, rfl⟩ := hil.form
    have HU0 := Lib.hid hu0
    rw [hm] at HU0
    rw [hg] at HF
    by_cases hm0 : m = 0
    · have HX := Lib.hid (okU_empty (hh := hh) hl (by omega))
      rw [HX.out, (un_no HX.out).1, (un_no HX.out).2.1, (un_no HX.out).2.2]
      have hz : ((m : Int) == 0) = true := by simp [hm0]
      rw [hn] at HF F0 c0b
      rw [hn]
      clear hg hgd hs0 hs1 hn hl hm h1 h2 hc hcc hu0 hil hm0
      go_enter Try.func59, Try.ntmps59
      go_wp2_with fail
      refine HF.out.mono ?_
      rintro e w1 ⟨rfl, hb⟩
      have F1 := Lib.hid (F0.out.below hb)
      obtain ⟨z0, z1, f0⟩ := F1.out.z
      obtain ⟨e7, e8⟩ := res_bay (.int .i64 0) (.slice none 0 0) z0 z1
      have c1 := F1.out.a.2.1
      have c1b := F1.out.a.2.2
      have hu1 := (F1.out.bl.cell (p := ⟨g0, off0 + i, none⟩) hg0).trans HU0.out
      clear hb c0 c0b
      go_wp2_with fail
      exact bodyPost_ret (v := .tuple #[.agg #[.int .i64 0, .slice none 0 0], .int .i64 0, .bool false]) (by simp [results, Try.results59, go_sem, e7, e8]) rfl (retBI_zero F1.out)
    obtain ⟨k, hk⟩ : ∃ k, m = k + 1 := ⟨m - 1, by omega⟩
    have hkm : k < m := by omega
    obtain ⟨x, hx⟩ := get_at hm hkm
    have HX := Lib.hid (un_yes (hh := hh) hg hl (by omega) hx)
    rw [HX.out.1, HX.out.2.1, HX.out.2.2.1, HX.out.2.2.2]
    have hz : ((m : Int) == 0) = false := by simp [hm0]
    have hsub : (m : Int) - 1 = (k : Int) := by omega
    have HXk := Lib.hid hx
    have HCp := Lib.hid (fun W hb => l9Own_any (.agg #[.int .i64 hh, .slice (some ⟨g0, off0, none⟩) Y.length cap0]) hh Y h1 h2 W ⟨_, rfl, HV.out.below hb⟩)
    unfold NewBd at HCp
    rw [hn] at HCp HF F0 c0b
    rw [hn]
    have HPL : Hid ((Y.set i (l.take k)).length = n) := Lib.hid (by rw [List.length_set]; exact hn)
    clear hg hgd hs0 hs1 hn hl hm h1 h2 hc hcc hu0 hil hx hk
    go_enter Try.func59, Try.ntmps59
    go_wp2_with fail
    refine HF.out.mono ?_
    rintro e w1 ⟨rfl, hb⟩
    have F1 := Lib.hid (F0.out.below hb)
    have hzR := F1.out.lt
    have c1 := F1.out.a.2.1
    have c1b := F1.out.a.2.2
    have hu1 := (F1.out.bl.cell (p := ⟨g0, off0 + i, none⟩) hg0).trans HU0.out
    clear hb c0 c0b
    go_wp2_with fail
    refine (HCp.out _ F1.out.bl).mono ?_
    rintro e w2 ⟨a2, c2, rfl, ho, hb⟩
    obtain ⟨g, cap, e⟩ := ho.rows (by have := HN.out; omega)
    injection e with e1 e2 e3
    subst e1 e3
    have F2 := Lib.hid (F1.out.below hb)
    have O2 := Lib.hid ho
    have hz2 := hb.size
    obtain ⟨u, hu2, hfu2, hou, hub2⟩ := O2.out.cell HL.out
    obtain ⟨a4, c4, rfl⟩ := own_form hou
    rw [HM.out] at hu2 hou
    have hgl : g < w2.heap.size := (own_at ho).2
    have hcx : ∃ g4 off4, a4 = some ⟨g4, off4, none⟩ ∧ g4 < w2.heap.size ∧ w2.cell? ⟨g4, off4 + k, none⟩ = some (.int .i64 x) := by
      obtain ⟨aa, cc, e, hh4⟩ := il_of_owns hou
      injection e with e1 e2 e3
      obtain ⟨g4, off4, e4, hl4, hc4⟩ := hh4 (by have := HM.out; omega)
      exact ⟨g4, off4, e1.trans e4, hl4, hc4 k x HXk.out⟩
    obtain ⟨g4, off4, rfl, hg4, hcx⟩ := hcx
    have hA1 := fun o => (World.cell?_alloc_lt w2 o ⟨g, i, none⟩ hgl).trans hu2
    have hA2 := fun o => (World.cell?_alloc_lt w2 o ⟨g4, off4 + k, none⟩ hg4).trans hcx
    clear hb ho c1 c1b e2 hu1 hou hub2
    go_wp2_with fail
    have hb3 := below_one w2 (.cells #[.int .i64 hh, .slice (some ⟨g, 0, none⟩) n c2] 54)
    have F3 := Lib.hid (F2.out.below hb3)
    have BO := Lib.hid (Box2.new w2 hh (.slice (some ⟨g, 0, none⟩) n c2) 54)
    have O3 := Lib.hid (O2.out.below hb3)
    have hu := hA1 (.cells #[.int .i64 hh, .slice (some ⟨g, 0, none⟩) n c2] 54)
    clear hb3 hA1 hA2 hu2 hcx hfu2
    generalize w2.alloc (.cells #[.int .i64 hh, .slice (some ⟨g, 0, none⟩) n c2] 54) = w3 at *
    have cO := BO.out.2.2
    have HPall := takeRB_of (w := w) (w1 := w1) (w2 := w2) (w3 := w3.drew) (O3.out.below (Below.refl _ w3).drew) HL.out HM.out hkm hu (BO.out.below (Below.refl _ w3).drew) F3.out.drew hzR
    have HP := Lib.hid HPall.1
    have hmc := HPall.2.1
    have hkc : (k : Int) ≤ (c4 : Int) := by omega
    have hfu := HPall.2.2
    clear HPall
    go_cut [] from 41 (fun w6 => Hid (PutRB w w1 w2 hh (.slice (some ⟨g0, off0, none⟩) n cap0) g n c2 (Y.set i (l.take k)) w6))
    case first =>
      go_region_law (fail)
      all_goals
        go_wp2_with fail
        go_meet
        exact HP
    case rest =>
      obtain ⟨o6, b6, f6⟩ := hcut.out
      have O6 := Lib.hid o6
      have F6 := Lib.hid f6
      have cO6 := b6.2.1
      have cO6b := b6.2.2
      obtain ⟨z0, z1, f0⟩ := F6.out.z
      obtain ⟨e7, e8⟩ := res_bay (.int .i64 hh) (.slice (some ⟨g, 0, none⟩) n c2) z0 z1
      clear o6 b6 f6 hcut hu hfu cO
      go_wp2_with fail
      refine bodyPost_ret (v := .tuple #[.agg #[.int .i64 hh, .slice (some ⟨g, 0, none⟩) n c2], .int .i64 x, .bool true]) (by simp [results, Try.results59, go_sem, e7, e8]) rfl ?_
      refine ⟨_, _, by rw [HPL.out], ?_, F6.out.set _ _⟩
      rw [HPL.out]
      exact (O6.out.span (span_res wc (w.heap.size + 1) _ _) (.inr (by omega))).mono (by omega) (by simp) (Nat.le_refl _)
end Go.Proofs.Ytececghifehjeaa
