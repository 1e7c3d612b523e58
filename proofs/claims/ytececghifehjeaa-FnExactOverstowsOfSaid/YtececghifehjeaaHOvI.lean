/-
  What impl.countOverstows and impl.OverstowsOf return. No statement of the seat by itself.
-/
import Derived.Test.YtececghifehjeaaHOvS
import Derived.Test.YtececghifehjeaaHPutM
namespace Go.Proofs.Ytececghifehjeaa
open Go.RowKit

theorem BdO.read {w : World} {B hi : Nat} {v : Value} {hh : Int} {Y : List (List Int)} (h : BdO w B hi v hh Y) : BdR w v hh Y := by
  obtain ⟨v0, rfl, h⟩ := h
  exact ⟨v0, rfl, h.yl⟩
theorem ovN_none {Y : List (List Int)} {x : Int} {T : List Int} (h : placeY Y x = none) : ovN Y x T = 0 := by simp [ovN, h]
theorem own_cap {w : World} {B m c : Nat} {a : Option Addr} {xs : List Value} (h : w.ownsRow B 3 1 (.slice a m c) m xs) : m ≤ c := by
  rcases h.2 with ⟨e, hz⟩ | ⟨g, cap, cur, e, hg, hb, hnc, _⟩
  · omega
  · injection e with e1 e2 e3
    omega
theorem ovK_done {l : List Int} {t : Nat} {T : List Int} (ht : l.length = t + 1) : ovC l t T = 0 := by rw [← ovK_all, ht]; exact ovK_start l t T

set_option maxRecDepth 100000 in
set_option maxHeartbeats 8000000 in
theorem countOv_any (v vt : Value) (hh : Int) (Y : List (List Int)) (x : Int) (T : List Int) (B hi : Nat) (h1 : Y.length ≤ 1048576) (h2 : tot Y ≤ 1048576) (h3 : T.length ≤ 1048576) (hg : goodB hh Y = true) (w : World) (h : BdO w B hi v hh Y) (ht : IL w vt T) :
    Calls Try.prog 98 #[v, .int .i64 x, vt] w (RetP w (.tuple #[.int .i64 (ovN Y x T), .bool (pcB Y x)])) := by
  obtain ⟨v0, rfl, hv⟩ := h
  have BA := Lib.hid (Box2.new w hh v0 54)
  have B0 := Lib.hid (below_one w (.cells #[.int .i64 hh, v0] 54))
  have HS := Lib.hid (implSlot_any (.agg #[.int .i64 hh, v0]) hh Y x h1 h2 _ ⟨v0, rfl, hv.yl.below B0.out⟩)
  rw [slV_pc hg] at HS
  have c0 := BA.out.2.1
  have c0b := BA.out.2.2
  have HV := Lib.hid hv
  have HT := Lib.hid ht
  obtain ⟨at', ct, rfl⟩ := ht.form
  have H4 := Lib.hid (goodB_rows hg).2.2.1
  cases hp : placeY Y x with
  | none =>
    obtain ⟨e1, e2, e3⟩ := pc_none hp
    rw [e1, e2, e3] at HS
    have HX := Lib.hid (ovN_none (T := T) hp)
    rw [e3]
    generalize T.length = nt at *
    clear hp hv ht hg e1 e2 e3 h1 h2
    go_enter Try.func98, Try.ntmps98
    go_wp2_with fail
    refine HS.out.mono ?_
    rintro e w1 ⟨rfl, hb⟩
    have B1 := Lib.hid (B0.out.trans (hb.mono B0.out.size))
    clear hb c0 c0b
    go_wp2_with fail
    go_ret2
    exact ⟨by rw [HX.out]; rfl, B1.out⟩
  | some p =>
    obtain ⟨i, t⟩ := p
    obtain ⟨e1, e2, e3⟩ := pc_some hp
    rw [e1, e2, e3] at HS
    obtain ⟨l, hl, hat⟩ := place_inv hp
    have htl := lt_of_get (atL_get hat)
    have HX := Lib.hid (ovN_of (T := T) hp hl)
    have HL := Lib.hid hl
    obtain ⟨m, hm⟩ : ∃ m, l.length = m := ⟨_, rfl⟩
    have HM := Lib.hid hm
    have hm4 : m ≤ 4 := by have := H4.out l (List.mem_of_getElem? hl); omega
    obtain ⟨n, hn⟩ : ∃ n, Y.length = n := ⟨_, rfl⟩
    have HN := Lib.hid hn
    have hin : i < n := by have := lt_of_get hl; omega
    obtain ⟨g, cap, rfl⟩ := hv.rows (by have := lt_of_get hl; omega)
    have hgl := own_at hv
    obtain ⟨u, hu, -, hou, hub⟩ := hv.cell hl
    obtain ⟨a4, c4, rfl⟩ := own_form hou
    have hmc := own_cap hou
    have HIL := Lib.hid (il_of_owns hou)
    have HU := Lib.hid hu
    have HG : Hid (g < w.heap.size) := Lib.hid (by have := hv.1; omega)
    rw [hm] at htl hmc HU HIL
    rw [hn] at HS BA B0 c0b
    rw [e3]
    have HCn : Hid (∀ y W, Below w.heap.size w W → Calls Try.prog 99 #[.slice at' T.length ct, .int .i64 y] W fun e w' => e = .returned (.bool (hasB T y)) ∧ W = w') := Lib.hid fun y W hb => contains_any _ T y (small_len h3) W (HT.out.below hb)
    rw [show (Value.slice (some ⟨g, 0, none⟩) Y.length cap) = .slice (some ⟨g, 0, none⟩) n cap by rw [hn]]
    generalize T.length = nt at *
    clear hp hg e1 e2 e3 hat hl hm hn hgl hu hou hub h1 h2 hv ht HT
    by_cases hlast : t + 1 = m
    · have HZ := Lib.hid (ovK_done (T := T) (HM.out.trans hlast.symm))
      have hlI : (t : Int) + 1 = (m : Int) := by omega
      go_enter Try.func98, Try.ntmps98
      go_wp2_with fail
      refine HS.out.mono ?_
      rintro e w1 ⟨rfl, hb⟩
      have B1 := Lib.hid (B0.out.trans (hb.mono B0.out.size))
      have c1 := (BA.out.below hb).2.2
      have hu1 := (B1.out.cell (p := ⟨g, i, none⟩) HG.out).trans HU.out
      clear hb c0 c0b
      go_wp2_with fail
      all_goals
        go_loop [11, 13, 32] (fun cc _ jj => cc = .int .i64 0 ∧ jj = .int .i64 0) (fun _ _ _ => 0)
        case atStart => exact ⟨rfl, rfl⟩
        case round =>
          obtain ⟨rfl, rfl⟩ := hrel
          go_wp2_with fail
          go_ret2
          exact ⟨by rw [HX.out, HZ.out]; rfl, B1.out⟩
    · obtain ⟨g2, off2, rfl, hg2, hcc⟩ : ∃ g2 off2, a4 = some ⟨g2, off2, none⟩ ∧ g2 < w.heap.size ∧ ∀ j y, l[j]? = some y → w.cell? ⟨g2, off2 + j, none⟩ = some (.int .i64 y) := by
        obtain ⟨aa, cc, e, hh4⟩ := HIL.out
        injection e with e1 e2 e3
        obtain ⟨g4, off4, e4, hl4, hc4⟩ := hh4 (by have := HM.out; omega)
        exact ⟨g4, off4, e1.trans e4, hl4, hc4⟩
      have HCC := Lib.hid hcc
      have hc1 : ¬ c4 = t + 1 := by omega
      have hc2 : ¬ (c4 : Int) = (t : Int) + 1 := by omega
      have hcle : (t : Int) + 1 ≤ (m : Int) := by omega
      clear hcc
      go_enter Try.func98, Try.ntmps98
      go_wp2_with fail
      refine HS.out.mono ?_
      rintro e w1 ⟨rfl, hb⟩
      have B1 := Lib.hid (B0.out.trans (hb.mono B0.out.size))
      have c1 := (BA.out.below hb).2.2
      have hu1 := (B1.out.cell (p := ⟨g, i, none⟩) HG.out).trans HU.out
      clear hb c0 c0b
      go_wp2_with fail
      obtain ⟨r, hr⟩ : ∃ r, m - (t + 1) = r := ⟨_, rfl⟩
      have hrm : t + 1 + r = m := by omega
      rw [hr]
      clear hc1 hc2 hcle hu1 c1 hr
      generalize c4 - (t + 1) = cr at *
      go_loop [11, 13, 32] (fun cc _ jj => ∃ q c : Nat, q ≤ r ∧ jj = .int .i64 q ∧ cc = .int .i64 c ∧ Hid (c = ovK l t T (t + 1 + q))) (fun _ _ jj => r - (intOf jj).toNat)
      case atStart => exact ⟨0, 0, Nat.zero_le _, rfl, rfl, Lib.hid (ovK_start l t T).symm⟩
      case round =>
        obtain ⟨q, cn, hq, rfl, rfl, HC⟩ := hrel
        have hcnt : cn ≤ m := by rw [HC.out, ← HM.out]; exact ovK_le _ _ _ _
        by_cases hqr : q < r
        · obtain ⟨y, hy⟩ := get_at (k := t + 1 + q) HM.out (by omega)
          have hyc : w1.cell? ⟨g2, off2 + (t + 1) + q, none⟩ = some (.int .i64 y) := (B1.out.cell (p := ⟨g2, off2 + (t + 1) + q, none⟩) hg2).trans (by rw [Nat.add_assoc]; exact HCC.out _ y hy)
          have HKs := Lib.hid (ovK_succ (k := t + 1 + q) (t := t) (T := T) (by omega) hy)
          have HCy := Lib.hid (HCn.out y w1 B1.out)
          clear hy
          by_cases hmem : y ∈ T
          · rw [show hasB T y = true by simp [hasB, hmem]] at HCy
            rw [if_pos hmem] at HKs
            clear hmem
            go_wp2_with fail
            refine HCy.out.mono ?_
            rintro e w2 ⟨rfl, rfl⟩
            go_wp2_with fail
            go_round
            case rel => exact ⟨q + 1, cn, by omega, by go_num, rfl, Lib.hid (by have h1 := HC.out; have h2 := HKs.out; rw [show t + 1 + (q + 1) = t + 1 + q + 1 by omega]; omega)⟩
            case measure => simp [intOf]; omega
          · rw [show hasB T y = false by simp [hasB, hmem]] at HCy
            rw [if_neg hmem] at HKs
            clear hmem
            go_wp2_with fail
            refine HCy.out.mono ?_
            rintro e w2 ⟨rfl, rfl⟩
            go_wp2_with fail
            go_round
            case rel => exact ⟨q + 1, cn + 1, by omega, by go_num, by go_num, Lib.hid (by have h1 := HC.out; have h2 := HKs.out; rw [show t + 1 + (q + 1) = t + 1 + q + 1 by omega]; omega)⟩
            case measure => simp [intOf]; omega
        · obtain rfl : q = r := by omega
          have HE : Hid (ovN Y x T = (cn : Int)) := Lib.hid (by rw [HX.out, ← ovK_all, HM.out, HC.out, hrm])
          go_wp2_with fail
          go_ret2
          exact ⟨by rw [HE.out]; rfl, B1.out⟩

set_option maxRecDepth 100000 in
set_option maxHeartbeats 8000000 in
theorem implOv_any (v vo : Value) (hh : Int) (Y : List (List Int)) (O : List Int) (B hi : Nat) (h1 : Y.length ≤ 1048576) (h2 : tot Y ≤ 1048576) (h3 : O.length ≤ 1048576) (w : World) (h : BdO w B hi v hh Y) (ho : OwnI w vo O) :
    Calls Try.prog 36 #[v, vo] w (RetL w (ovR hh Y O) (ovB hh Y O)) := by
  obtain ⟨f3, hi3, hz0, hz1, hz2⟩ := info_is info3
  obtain ⟨v0, rfl, hv⟩ := h
  obtain ⟨a, c, rfl, hcn⟩ := ho.form
  obtain ⟨n, hn⟩ : ∃ n, O.length = n := ⟨_, rfl⟩
  have HN := Lib.hid hn
  have HO : Hid (∀ W, Below w.heap.size w W → IL W (.slice a n c) O) := Lib.hid fun W hb => by
    have := ho.read.below hb
    rw [hn] at this
    exact this
  have BA := Lib.hid (Box2.new w hh v0 54)
  have B0 := Lib.hid (below_one w (.cells #[.int .i64 hh, v0] 54))
  have HG := Lib.hid (goodB_impl (.agg #[.int .i64 hh, v0]) hh Y h1 h2 _ ⟨v0, rfl, hv.yl.below B0.out⟩)
  have c0 := BA.out.2.1
  have c0b := BA.out.2.2
  have HQ := Lib.hid (@ov_no hh Y O)
  have HQY := Lib.hid (@ov_yes hh Y O)
  rw [hn] at h3 hcn HQY ⊢
  cases hg : goodB hh Y with
  | false =>
    have HX := Lib.hid (HQ.out (.inl hg))
    rw [hg] at HG
    clear hg hv ho hn h1 h2 h3
    go_enter Try.func36, Try.ntmps36
    go_wp2_with fail
    refine HG.out.mono ?_
    rintro e w1 ⟨rfl, hb⟩
    have B1 := Lib.hid (B0.out.trans (hb.mono B0.out.size))
    clear hb c0 c0b
    go_wp2_with fail
    go_ret2
    rw [HX.out.1, HX.out.2]
    exact retL_zero B1.out
  | true =>
    have HC : Hid (∀ x k W, k ≤ n → Below w.heap.size w W → Calls Try.prog 98 #[.agg #[.int .i64 hh, v0], .int .i64 x, .slice a k c] W (RetP W (.tuple #[.int .i64 (ovN Y x (O.take k)), .bool (pcB Y x)]))) := Lib.hid fun x k W hk hb => countOv_any _ _ hh Y x (O.take k) B hi h1 h2 (by rw [List.length_take]; omega) hg W ⟨v0, rfl, by
      have hO := hv.below (w' := W) (hb.mono (Nat.le_refl _))
      exact hO⟩ (il_take (HO.out W hb) HN.out hk)
    have HGd := Lib.hid hg
    rw [hg] at HG
    clear hg hv ho hn h1 h2
    go_enter Try.func36, Try.ntmps36
    go_wp2_with fail
    refine HG.out.mono ?_
    rintro e w1 ⟨rfl, hb⟩
    have B1 := Lib.hid (B0.out.trans (hb.mono B0.out.size))
    have S0 := Lib.hid (OvS.start (BA.out.below hb) B1.out)
    have hz1' := B1.out.size
    clear hb c0 c0b
    go_wp2_with fail
    generalize w1.alloc (.cells #[] 3) = w2 at *
    generalize w1.heap.size = b1 at *
    clear B1 hz1'
    go_loopw [6, 7, 8, 9, 10, 11, 19] (fun s _ _ _ _ _ i wr => ∃ k : Nat, k ≤ n ∧ i = .int .i64 k ∧ Hid (OvS w wr hh v0 b1 s k (ovL Y O k)) ∧ Hid (ordK Y O k)) (fun _ _ _ _ _ _ i _ => n - (intOf i).toNat)
    case atStart => exact ⟨0, Nat.zero_le _, rfl, S0, Lib.hid fun i x hi => by omega⟩
    case round =>
      obtain ⟨k, hk, rfl, HS, HP⟩ := hrel
      by_cases hlt : k < n
      · obtain ⟨a', c', e, hcc⟩ := HO.out wr HS.out.bl
        obtain ⟨g, off, e2, hg, hcl⟩ := hcc (by have := HN.out; omega)
        injection e with e1 e4 e5
        subst e2
        subst e1
        clear e4 e5
        obtain ⟨x, hx⟩ := get_at HN.out hlt
        have o1 : wr.cell? ⟨g, off + k, none⟩ = some (.int .i64 x) := hcl k x hx
        have c0 := HS.out.box.2.1
        have c1 := HS.out.box.2.2
        have HX := Lib.hid hx
        have hkI : (k : Int) < (n : Int) := by omega
        have hkc : (k : Int) ≤ (c : Int) := by omega
        have HZ := Lib.hid (HC.out x k wr hk HS.out.bl)
        have HH : Hid (∀ W, Below w.heap.size w W → Calls Try.prog 99 #[.slice (some ⟨g, off, none⟩) k c, .int .i64 x] W fun e w' => e = .returned (.bool (hasB (O.take k) x)) ∧ W = w') := Lib.hid fun W hb => contains_any _ _ x (by rw [List.length_take]; unfold maxLen; omega) W (il_take (HO.out W hb) HN.out (by omega))
        clear hcc hcl hx hg
        obtain ⟨ov, hov⟩ : ∃ ov, ovN Y x (O.take k) = ov := ⟨_, rfl⟩
        have HOV := Lib.hid hov
        rw [hov] at HZ
        clear hov
        go_wp2_with fail
        refine HZ.out.mono ?_
        rintro e w5 ⟨rfl, hb⟩
        have HS2 := Lib.hid (HS.out.below hb)
        clear hb c0 c1 o1
        cases hp : placeY Y x with
        | none =>
          have HQ2 := Lib.hid (HQ.out (.inr (ordB_no HX.out (.inl hp))))
          rw [(pc_none hp).2.2]
          clear hp
          go_wp2_with fail
          go_ret2
          rw [HQ2.out.1, HQ2.out.2]
          exact retL_zero HS2.out.bl
        | some p =>
          have HPl := Lib.hid (show (placeY Y x).isSome = true by rw [hp]; rfl)
          rw [show pcB Y x = true from HPl.out]
          clear hp
          by_cases hm : x ∈ O.take k
          · have HQ2 := Lib.hid (HQ.out (.inr (ordB_no (Y := Y) HX.out (.inr hm))))
            rw [show hasB (O.take k) x = true by simp [hasB, hm]] at HH
            clear hm
            go_wp2_with fail
            refine (HH.out _ HS2.out.bl).mono ?_
            rintro e w6 ⟨rfl, rfl⟩
            go_wp2_with fail
            go_ret2
            rw [HQ2.out.1, HQ2.out.2]
            exact retL_zero HS2.out.bl
          · have HQ2 := Lib.hid (ordK_succ HP.out HX.out HPl.out hm)
            have HT := Lib.hid (ovL_succ (Y := Y) HX.out)
            rw [HOV.out] at HT
            rw [show hasB (O.take k) x = false by simp [hasB, hm]] at HH
            have hrow := HS2.out.own
            have hsz := HS2.out.sz
            clear hm
            go_wp2_with fail
            refine (HH.out _ HS2.out.bl).mono ?_
            rintro e w6 ⟨rfl, rfl⟩
            go_wp2_with (at_builtin; refine wpList_append_own _ rfl _ _ 34 rfl b1 3 f3 (.int .i64 0) 1 8 Try.underlying34 hi3 hz0 hz1 hz2 rfl (by decide) _ _ _ rfl (hrow.alloc _) ⟨w5.heap.size, 0, none⟩ 1 1 [.int .i64 ov] rfl rfl (cell_one_new _ _ _) (by simp [Value.oneCell']) (by unfold maxLen; omega) (by omega) (by simp; omega) ?_; intro v' w7 hown' hgrow hnil)
            have HN4 := Lib.hid (HS2.out.push hown' hgrow)
            clear hown' hgrow hnil hrow hsz
            rw [← HT.out] at HN4
            go_wp2_with fail
            exact ⟨⟨k + 1, by omega, by go_num, HN4, HQ2⟩, by simp [intOf]; omega⟩
      · obtain rfl : k = n := by omega
        have HX := Lib.hid (HQY.out HGd.out (ordB_yes (by rw [HN.out]; exact HP.out)))
        go_wp2_with fail
        go_ret2
        rw [HX.out.1, HX.out.2]
        exact HS.out.ret
end Go.Proofs.Ytececghifehjeaa
