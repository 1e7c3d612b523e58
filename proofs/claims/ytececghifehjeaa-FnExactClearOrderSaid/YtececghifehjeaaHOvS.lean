/-
  What spec.l9Overstows and spec.OverstowsOf return. No statement of the seat by itself.
-/
import Derived.Test.YtececghifehjeaaHOv
namespace Go.Proofs.Ytececghifehjeaa
open Go.RowKit

set_option maxRecDepth 100000 in
set_option maxHeartbeats 8000000 in
theorem l9Over_any (v vo : Value) (hh : Int) (Y : List (List Int)) (O : List Int) (h1 : Y.length ≤ 1048576) (h2 : tot Y ≤ 1048576) (h3 : O.length ≤ 1048576) (hrd : ordK Y O O.length) (w : World) (h : BdR w v hh Y) (ho : OwnI w vo O) :
    Calls Try.prog 102 #[v, vo] w (NewI w (ovL Y O O.length)) := by
  obtain ⟨f3, hi3, hz0, hz1, hz2⟩ := info_is info3
  obtain ⟨v0, rfl, hv⟩ := h
  obtain ⟨a, c, rfl, hcn⟩ := ho.form
  obtain ⟨n, hn⟩ : ∃ n, O.length = n := ⟨_, rfl⟩
  have HN := Lib.hid hn
  have HO : Hid (∀ W, Below w.heap.size w W → IL W (.slice a n c) O) := Lib.hid fun W hb => by
    have := ho.read.below hb
    rw [hn] at this
    exact this
  rw [hn] at h3 hcn hrd ⊢
  have HRd := Lib.hid hrd
  have S0 := Lib.hid (OvS.start (Box2.new w hh v0 54) (below_one w (.cells #[.int .i64 hh, v0] 54)))
  rw [show (w.alloc (.cells #[.int .i64 hh, v0] 54)).heap.size = w.heap.size + 1 by simp] at S0
  have HF : Hid (∀ x W, Below w.heap.size w W → Calls Try.prog 116 #[.agg #[.int .i64 hh, v0], .int .i64 x] W (RetP W (findV Y x))) := Lib.hid fun x W hb => l9Find_any _ hh Y x h1 h2 W ⟨v0, rfl, hv.below hb⟩
  obtain ⟨ay, cy, rfl, hcy⟩ := hv
  obtain ⟨ny, hny⟩ : ∃ ny, Y.length = ny := ⟨_, rfl⟩
  have HNY := Lib.hid hny
  have HCY := Lib.hid hcy
  have HLen := Lib.hid (fun (j : Nat) (l : List Int) (hl : Y[j]? = some l) => show l.length ≤ 1048576 by have := row_len hl; omega)
  rw [hny] at S0 HF h1
  clear ho hn h2 hny hcy hrd
  rw [show (.slice ay Y.length cy : Value) = .slice ay ny cy by rw [HNY.out]]
  go_enter Try.func102, Try.ntmps102
  go_wp2_with fail
  generalize (w.alloc (.cells #[.int .i64 hh, .slice ay ny cy] 54)).alloc (.cells #[] 3) = w0 at *
  go_loopw [5, 6, 7, 8, 9, 10] (fun s i _ _ _ _ wr => ∃ k : Nat, k ≤ n ∧ i = .int .i64 k ∧ Hid (OvS w wr hh (.slice ay ny cy) (w.heap.size + 1) s k (ovL Y O k))) (fun _ i _ _ _ _ _ => n - (intOf i).toNat)
  case atStart => exact ⟨0, Nat.zero_le _, rfl, S0⟩
  case round =>
    obtain ⟨k, hk, rfl, HS⟩ := hrel
    by_cases hlt : k < n
    · obtain ⟨a', c', e, hcc⟩ := HO.out wr HS.out.bl
      obtain ⟨g, off, e2, hg, hcl⟩ := hcc (by have := HN.out; omega)
      injection e with e1 e4 e5
      subst e2
      subst e1
      clear e4 e5
      obtain ⟨x, hx⟩ := get_at HN.out hlt
      have o1 : wr.cell? ⟨g, off + k, none⟩ = some (.int .i64 x) := hcl k x hx
      have c0 := HS.out.box.2.1
      have c1 := HS.out.box.2.2
      have HX := Lib.hid hx
      have HG := Lib.hid hg
      have hkI : (k : Int) < (n : Int) := by omega
      have hkc : (k : Int) ≤ (c : Int) := by omega
      have HZ := Lib.hid (HF.out x)
      have hpl := (HRd.out k x hlt hx).1
      obtain ⟨⟨i, t⟩, hp⟩ := Option.isSome_iff_exists.1 hpl
      obtain ⟨l, hl, hat⟩ := place_inv hp
      have ht := lt_of_get (atL_get hat)
      have HOv := Lib.hid (ovN_of (T := O.take k) hp hl)
      have HL := Lib.hid hl
      have hin : i < ny := by have := lt_of_get hl; have := HNY.out; omega
      have hlen := HLen.out i l hl
      obtain ⟨gy, offy, rfl, hgy, hcy⟩ := HCY.out (by have := HNY.out; omega)
      obtain ⟨u, hu', hil⟩ := hcy i l hl
      obtain ⟨a2, c2, rfl, hrow⟩ := hil
      obtain ⟨m, hm⟩ : ∃ m, l.length = m := ⟨_, rfl⟩
      have HM := Lib.hid hm
      have HU := Lib.hid hu'
      have HR := Lib.hid hrow
      have HGY := Lib.hid hgy
      rw [hm] at HU ht hlen
      rw [findV_some hp] at HZ
      clear hcc hcl hx hg hpl hp hl hat hcy hu' hrow hm hgy
      go_wp2_with fail
      go_region_held3 (fun W => W.cell? ⟨w.heap.size, 0, none⟩ = some (.int .i64 hh) ∧ W.cell? ⟨w.heap.size, 1, none⟩ = some (.slice (some ⟨gy, offy, none⟩) ny cy) ∧ W.cell? ⟨g, off + k, none⟩ = some (.int .i64 x)) (go_keep) (first | (go_at_call 116; refine (HZ.out _ HS.out.drew.bl).mono ?_; rintro e w' ⟨rfl, hb⟩; have HS2 := Lib.hid (HS.out.drew.below hb); have x0 := HS2.out.box.2.1; have x1 := HS2.out.box.2.2; have x2 := (hb.cell (p := ⟨g, off + k, none⟩) HG.out).trans o1; clear hb))
      rename World => w5
      clear x0 x1 x2 c0 c1 o1
      go_wp2_with fail
      go_loopw [9, 10] (fun nn kk wr => ∃ q c : Nat, t + 1 ≤ q ∧ q ≤ m ∧ kk = .int .i64 q ∧ nn = .int .i64 c ∧ Hid (c = ovK l t (O.take k) q) ∧ Hid (OvS w wr hh (.slice (some ⟨gy, offy, none⟩) ny cy) (w.heap.size + 1) u5 k (ovL Y O k))) (fun _ kk _ => m - (intOf kk).toNat)
      case atStart => exact ⟨t + 1, 0, Nat.le_refl _, ht, by go_num, rfl, Lib.hid (ovK_start l t _).symm, HS2⟩
      case round =>
        obtain ⟨q, cn, hq1, hq2, rfl, rfl, HC, HS3⟩ := hrel
        rename World => w6
        have c1 := HS3.out.box.2.2
        have hu := (HS3.out.bl.cell (p := ⟨gy, offy + i, none⟩) HGY.out).trans HU.out
        have hcnt : cn ≤ m := by rw [HC.out, ← HM.out]; exact ovK_le _ _ _ _
        by_cases hqm : q < m
        · obtain ⟨y, hy⟩ := get_at HM.out hqm
          obtain ⟨g2, off2, rfl, hg2, hcc2⟩ := HR.out (by have := HM.out; omega)
          have hyc := (HS3.out.bl.cell (p := ⟨g2, off2 + q, none⟩) hg2).trans (hcc2 q y hy)
          have hqI : (q : Int) < (m : Int) := by omega
          have HKs := Lib.hid (ovK_succ (T := O.take k) hq1 hy)
          have HH : Hid (∀ W, Below w.heap.size w W → Calls Try.prog 123 #[.slice (some ⟨g, off, none⟩) k c, .int .i64 y] W fun e w' => e = .returned (.bool (hasB (O.take k) y)) ∧ W = w') := Lib.hid fun W hb => l1Has_il _ _ y (by rw [List.length_take]; omega) W (il_take (HO.out W hb) HN.out (by omega))
          clear hcc2 hy hg2
          by_cases hmem : y ∈ O.take k
          · rw [show hasB (O.take k) y = true by simp [hasB, hmem]] at HH
            rw [if_pos hmem] at HKs
            clear hmem
            go_wp2_with fail
            go_quiet ((go_at_call 123; exact Calls.quiet_of_same (flipB (HH.out _ (below_drewN HS3.out.bl _)))))
            go_wp2_with fail
            exact ⟨⟨q + 1, cn, by omega, by omega, by go_num, rfl, Lib.hid (by have h1 := HC.out; have h2 := HKs.out; omega), Lib.hid (HS3.out.drewN _)⟩, by simp [intOf]; omega⟩
          · rw [show hasB (O.take k) y = false by simp [hasB, hmem]] at HH
            rw [if_neg hmem] at HKs
            clear hmem
            go_wp2_with fail
            go_quiet ((go_at_call 123; exact Calls.quiet_of_same (flipB (HH.out _ (below_drewN HS3.out.bl _)))))
            go_wp2_with fail
            exact ⟨⟨q + 1, cn + 1, by omega, by omega, by go_num, by go_num, Lib.hid (by have h1 := HC.out; have h2 := HKs.out; omega), Lib.hid (HS3.out.drewN _)⟩, by simp [intOf]; omega⟩
        · obtain rfl : q = m := by omega
          have HT := Lib.hid (ovL_succ (Y := Y) HX.out)
          have HE : Hid (ovN Y x (O.take k) = (cn : Int)) := Lib.hid (by rw [HOv.out, ← ovK_all, HM.out, ← HC.out])
          rw [HE.out] at HT
          have hrow := HS3.out.own
          have hsz := HS3.out.sz
          go_wp2_with (at_builtin; refine wpList_append_own _ rfl _ _ 34 rfl (w.heap.size + 1) 3 f3 (.int .i64 0) 1 8 Try.underlying34 hi3 hz0 hz1 hz2 rfl (by decide) _ _ _ rfl (hrow.alloc _) ⟨w6.heap.size, 0, none⟩ 1 1 [.int .i64 cn] rfl rfl (cell_one_new _ _ _) (by simp [Value.oneCell']) (by unfold maxLen; omega) (by omega) (by simp; omega) ?_; intro v' w7 hown' hgrow hnil)
          have HN4 := Lib.hid (HS3.out.push hown' hgrow)
          clear hown' hgrow hnil hrow hsz
          rw [← HT.out] at HN4
          go_wp2_with fail
          exact ⟨⟨k + 1, by omega, by go_num, HN4⟩, by simp [intOf]; omega⟩
    · obtain rfl : k = n := by omega
      have HQ : Hid (NewI w (ovL Y O k) (.returned u5) wr) := Lib.hid (by
        obtain ⟨aa, cc, rfl⟩ := own_form HS.out.own
        refine ⟨aa, cc, by rw [ovL_len], ?_, HS.out.bl⟩
        rw [ovL_len]
        exact HS.out.own.mono (by have := HS.out.lo; omega))
      go_wp2_with fail
      go_ret
      exact HQ.out

/-- What the two OverstowsOf answer. -/
def ovB (hh : Int) (Y : List (List Int)) (O : List Int) : Bool := goodB hh Y && ordB Y O
def ovR (hh : Int) (Y : List (List Int)) (O : List Int) : List Int := if ovB hh Y O = true then ovL Y O O.length else []
theorem ov_no {hh : Int} {Y : List (List Int)} {O : List Int} (h : goodB hh Y = false ∨ ordB Y O = false) : ovB hh Y O = false ∧ ovR hh Y O = [] := by
  have e : ovB hh Y O = false := by rcases h with h | h <;> simp [ovB, h]
  exact ⟨e, by simp [ovR, e]⟩
theorem ov_yes {hh : Int} {Y : List (List Int)} {O : List Int} (h1 : goodB hh Y = true) (h2 : ordB Y O = true) : ovB hh Y O = true ∧ ovR hh Y O = ovL Y O O.length := by
  have e : ovB hh Y O = true := by simp [ovB, h1, h2]
  exact ⟨e, by simp [ovR, e]⟩
theorem ovR_len (hh : Int) (Y : List (List Int)) (O : List Int) (h : O.length ≤ 1048576) : (ovR hh Y O).length ≤ 1048576 := by
  unfold ovR
  split
  · rw [ovL_len]; exact h
  · simp

set_option maxRecDepth 100000 in
set_option maxHeartbeats 4000000 in
theorem specOv_any (v vo : Value) (hh : Int) (Y : List (List Int)) (O : List Int) (h1 : Y.length ≤ 1048576) (h2 : tot Y ≤ 1048576) (h3 : O.length ≤ 1048576) (w : World) (h : BdR w v hh Y) (ho : OwnI w vo O) :
    Calls Try.prog 37 #[v, vo] w (RetL w (ovR hh Y O) (ovB hh Y O)) := by
  obtain ⟨v0, rfl, hv⟩ := h
  obtain ⟨a, c, rfl, hcn⟩ := ho.form
  have BA := Lib.hid (Box2.new w hh v0 54)
  have B0 := Lib.hid (below_one w (.cells #[.int .i64 hh, v0] 54))
  have HG := Lib.hid (goodB_spec (.agg #[.int .i64 hh, v0]) hh Y h1 h2 _ ⟨v0, rfl, hv.below B0.out⟩)
  have HR : Hid (∀ W, Below w.heap.size w W → Calls Try.prog 101 #[.agg #[.int .i64 hh, v0], .slice a O.length c] W (BoolP W (ordB Y O))) := Lib.hid fun W hb => l9Order_any _ _ hh Y O h1 h2 h3 W ⟨v0, rfl, hv.below hb⟩ (ho.read.below hb)
  have HV : Hid (ordB Y O = true → ∀ W, Below w.heap.size w W → Calls Try.prog 102 #[.agg #[.int .i64 hh, v0], .slice a O.length c] W (NewI W (ovL Y O O.length))) := Lib.hid fun hb9 W hb => l9Over_any _ _ hh Y O h1 h2 h3 (ordK_of hb9) W ⟨v0, rfl, hv.below hb⟩ (ho.below hb)
  have c0 := BA.out.2.1
  have c0b := BA.out.2.2
  have HQ := Lib.hid (@ov_no hh Y O)
  have HQY := Lib.hid (@ov_yes hh Y O)
  clear hv ho hcn h1 h2 h3
  generalize O.length = n at *
  cases hg : goodB hh Y with
  | false =>
    have HX := Lib.hid (HQ.out (.inl hg))
    rw [hg] at HG
    clear hg
    go_enter Try.func37, Try.ntmps37
    go_wp2_with fail
    refine HG.out.mono ?_
    rintro e w1 ⟨rfl, hb⟩
    have B1 := Lib.hid (B0.out.trans (hb.mono B0.out.size))
    clear hb c0 c0b
    go_wp2_with fail
    go_ret2
    rw [HX.out.1, HX.out.2]
    exact retL_zero B1.out
  | true =>
    rw [hg] at HG
    cases ho : ordB Y O with
    | false =>
      have HX := Lib.hid (HQ.out (.inr ho))
      rw [ho] at HR
      clear hg ho
      go_enter Try.func37, Try.ntmps37
      go_wp2_with fail
      refine HG.out.mono ?_
      rintro e w1 ⟨rfl, hb⟩
      have B1 := Lib.hid (B0.out.trans (hb.mono B0.out.size))
      have A1 := BA.out.below hb
      have c1 := A1.2.1
      have c1b := A1.2.2
      clear hb c0 c0b A1
      go_wp2_with fail
      refine (HR.out _ B1.out).mono ?_
      rintro e w2 ⟨rfl, hb⟩
      have B2 := Lib.hid (B1.out.trans (hb.mono B1.out.size))
      clear hb c1 c1b
      go_wp2_with fail
      go_ret2
      rw [HX.out.1, HX.out.2]
      exact retL_zero B2.out
    | true =>
      have HX := Lib.hid (HQY.out hg ho)
      have HW := Lib.hid (HV.out ho)
      rw [ho] at HR
      clear hg ho
      go_enter Try.func37, Try.ntmps37
      go_wp2_with fail
      refine HG.out.mono ?_
      rintro e w1 ⟨rfl, hb⟩
      have B1 := Lib.hid (B0.out.trans (hb.mono B0.out.size))
      have A1 := Lib.hid (BA.out.below hb)
      have c1 := A1.out.2.1
      have c1b := A1.out.2.2
      clear hb c0 c0b
      go_wp2_with fail
      refine (HR.out _ B1.out).mono ?_
      rintro e w2 ⟨rfl, hb⟩
      have B2 := Lib.hid (B1.out.trans (hb.mono B1.out.size))
      have A2 := A1.out.below hb
      have c2 := A2.2.1
      have c2b := A2.2.2
      clear hb c1 c1b A2
      go_wp2_with fail
      refine (HW.out _ B2.out).mono ?_
      rintro e w3 ⟨a3, c3, rfl, hown, hb⟩
      have B3 := Lib.hid (B2.out.trans (hb.mono B2.out.size))
      have O3 := Lib.hid hown
      have HZ2 := Lib.hid B2.out.size
      clear hb hown c2 c2b
      go_wp2_with fail
      go_ret2
      rw [HX.out.1, HX.out.2]
      exact retL_of O3.out HZ2.out B3.out
end Go.Proofs.Ytececghifehjeaa
