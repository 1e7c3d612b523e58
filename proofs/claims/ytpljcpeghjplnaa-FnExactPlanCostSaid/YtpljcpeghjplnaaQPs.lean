/-
  What the reference answers of a plan: l14Cost, PlanCost, LastHour. No statement of the seat by itself.
-/
import Derived.Test.YtpljcpeghjplnaaQSp
import Derived.Test.YtpljcpeghjplnaaQSt
import Derived.BigQuiet
namespace Go.Proofs.Ytpljcpeghjplnaa
open Go.RowKit

theorem flipQ {f : Nat} {args : Array Value} {w : World} {r : Ending} (h : Calls Try.prog f args w fun e w' => e = r ∧ w = w') : Calls Try.prog f args w fun e w' => e = r ∧ w' = w := h.mono fun _ _ ⟨a, b⟩ => ⟨a, b.symm⟩
theorem qMost_any (a b : Int) (w : World) : Calls Try.prog 94 #[.int .i64 a, .int .i64 b] w fun e w' => e = .returned (.int .i64 (max a b)) ∧ w = w' := by
  by_cases h : b < a
  · rw [show max a b = a by omega]
    go_enter Try.func94, Try.ntmps94
    go_wp2_with fail
    go_ret
    exact ⟨rfl, rfl⟩
  · rw [show max a b = b by omega]
    go_enter Try.func94, Try.ntmps94
    go_wp2_with fail
    go_ret
    exact ⟨rfl, rfl⟩
theorem sumQ_sts {S : List Shp} {P : List Brt} {k : Nat} {x : Shp} {b : Brt} (hx : S[k]? = some x) (hb : P[k]? = some b) : sumQ (stsQ S P (k + 1)) = sumQ (stsQ S P k) + x.2.2.2 * (b.2 - x.2.1) := by
  rw [stsQ_succ hx hb, sumQ_app]
  rfl
theorem lasQ_sts {S : List Shp} {P : List Brt} {k : Nat} {x : Shp} {b : Brt} (hx : S[k]? = some x) (hb : P[k]? = some b) (h : 0 ≤ b.2 + x.2.2.1) : lasQ (stsQ S P (k + 1)) = max (lasQ (stsQ S P k)) (b.2 + x.2.2.1) := by
  rw [stsQ_succ hx hb, lasQ_app]
  show max (lasQ (stsQ S P k)) (max (b.2 + x.2.2.1) 0) = _
  omega
/-- What a possible plan says of a ship and its berth. -/
theorem ask_at {q : Int} {S : List Shp} {P : List Brt} (h : askQ q S P = true) {k : Nat} {x : Shp} {b : Brt} (hx : S[k]? = some x) (hb : P[k]? = some b) : okSty ((k : Int), x, b) := by
  obtain ⟨h1, h2, h3, h4⟩ := askQ_iff.1 h
  have hk : k < P.length := (List.getElem?_eq_some_iff.1 hb).1
  have := upQ_step h4 hk
  rw [stepQ_get hx hb] at this
  exact okSty_of h1 ((goodQ_iff.1 h2).2 x (List.mem_of_getElem? hx)) this
theorem ask_len {q : Int} {S : List Shp} {P : List Brt} (h : askQ q S P = true) : P.length = S.length ∧ P.length ≤ 5 := by
  obtain ⟨h1, h2, h3, h4⟩ := askQ_iff.1 h
  have := goodQ_len h2
  omega
theorem ask_sum {q : Int} {S : List Shp} {P : List Brt} (h : askQ q S P = true) (k : Nat) (hk : k ≤ P.length) : 0 ≤ sumQ (stsQ S P k) ∧ sumQ (stsQ S P k) ≤ 45000 := by
  obtain ⟨h1, h2, h3, h4⟩ := askQ_iff.1 h
  have h5 := ask_len h
  have := sumQ_bound (stsQ_ok h1 h2 (by omega) (upQ_mono h4 hk))
  rw [stsQ_len] at this
  omega

set_option maxRecDepth 100000 in
set_option maxHeartbeats 8000000 in
theorem l14Cost_any (q : Int) (v vp : Value) (S : List Shp) (P : List Brt) (ha : askQ q S P = true) (w : World) (hv : QsL w v S) (hvp : QbL w vp P) :
    Calls Try.prog 77 #[v, vp] w (RetP w (.int .i64 (sumQ (stsQ S P P.length)))) := by
  have HA := Lib.hid ha
  obtain ⟨hmn, h5⟩ := ask_len ha
  obtain ⟨a0, c0, rfl, hc0⟩ := hv
  obtain ⟨a1, c1, rfl, hc1⟩ := hvp
  obtain ⟨n, hl⟩ : ∃ n, P.length = n := ⟨_, rfl⟩
  have hm : S.length = n := by omega
  have HM := Lib.hid hm
  have HN := Lib.hid hl
  have HC0 := Lib.hid hc0
  have HC1 := Lib.hid hc1
  rw [hl] at h5 ⊢
  rw [hm]
  clear hc0 hc1 hl hm ha hmn
  go_enter Try.func77, Try.ntmps77
  go_wp2_with fail
  go_loopw [5, 6] (fun s i wr => ∃ (k : Nat) (y : Int), k ≤ n ∧ i = .int .i64 k ∧ s = .int .i64 y ∧ Hid (y = sumQ (stsQ S P k)) ∧ Hid (Below w.heap.size w wr)) (fun _ i _ => n - (intOf i).toNat)
  case atStart => exact ⟨0, 0, Nat.zero_le _, rfl, rfl, Lib.hid rfl, Lib.hid (Below.refl _ _)⟩
  case round =>
    obtain ⟨k, y, hk, rfl, rfl, HS, HB⟩ := hrel
    by_cases hlt : k < n
    · have HK := Lib.hid (ask_sum HA.out k (by rw [HN.out]; exact hk))

      obtain ⟨g, off, rfl, hg, hcc⟩ := HC0.out (by have := HM.out; omega)
      obtain ⟨g2, off2, rfl, hg2, hcc2⟩ := HC1.out (by have := HN.out; omega)
      obtain ⟨x, hx⟩ := get_at HM.out hlt
      obtain ⟨b, hb⟩ := get_at HN.out hlt
      have HOk := ask_at HA.out hx hb
      have hcs := HOk.cos
      have hsm := HOk.small
      unfold smS at hsm
      have HS2 := Lib.hid (sumQ_sts hx hb)
      obtain ⟨l, a, h, c⟩ := x
      obtain ⟨p, t⟩ := b
      have a0 := (HB.out.cell (p := ⟨g, off + k * 4, none⟩) hg).trans (hcc k _ hx).1
      have a1 := (HB.out.cell (p := ⟨g, off + k * 4 + 1, none⟩) hg).trans (hcc k _ hx).2.1
      have a2 := (HB.out.cell (p := ⟨g, off + k * 4 + 2, none⟩) hg).trans (hcc k _ hx).2.2.1
      have a3 := (HB.out.cell (p := ⟨g, off + k * 4 + 3, none⟩) hg).trans (hcc k _ hx).2.2.2
      have b0 := (HB.out.cell (p := ⟨g2, off2 + k * 2, none⟩) hg2).trans (hcc2 k _ hb).1
      have b1 := (HB.out.cell (p := ⟨g2, off2 + k * 2 + 1, none⟩) hg2).trans (hcc2 k _ hb).2
      have hki : (k : Int) < (n : Int) := by omega
      clear hcc hcc2 hg hg2 hx hb HOk
      simp only at a0 a1 a2 a3 b0 b1 hcs hsm
      have hy := HK.out
      rw [← HS.out] at hy
      obtain ⟨u, hu⟩ : ∃ u, c * (t - a) = u := ⟨_, rfl⟩
      have hub : 0 ≤ u ∧ u ≤ 9000 := by
        have e : cosQ ((k : Int), (l, a, h, c), (p, t)) = c * (t - a) := rfl
        rw [e, hu] at hcs
        exact ⟨hcs.1, hcs.2.1⟩
      have HS3 : Hid (y + u = sumQ (stsQ S P (k + 1))) := Lib.hid (by rw [HS2.out, ← HS.out]; simp only; omega)
      have hw : IntKind.i64.wrap (c * (t - a)) = u := by rw [hu, IntKind.wrap_i64]; omega
      obtain ⟨hu0, hu1⟩ := hub
      obtain ⟨hy0, hy1⟩ := hy
      clear hcs hu HS2 HK
      go_wp2_with fail
      go_quiet (fail)
      go_wp2_with fail
      exact ⟨⟨k + 1, y + u, by omega, by go_num, by go_num, HS3, Lib.hid (below_drewN HB.out _)⟩, by simp [intOf]; omega⟩
    · obtain rfl : k = n := by omega
      have e := HS.out
      subst e
      go_wp2_with fail
      go_ret
      exact ⟨rfl, HB.out⟩

set_option maxRecDepth 100000 in
set_option maxHeartbeats 8000000 in
theorem specPc_any (q : Int) (v vp : Value) (S : List Shp) (P : List Brt) (hs : S.length ≤ 1048576) (hn : P.length ≤ 1048576) (w : World) (hv : QsL w v S) (hvp : QbL w vp P) :
    Calls Try.prog 41 #[.int .i64 q, v, vp] w (RetP w (.tuple #[.int .i64 (costR q S P), .bool (askQ q S P)])) := by
  have HS := Lib.hid (l14Asked_any q v vp S P hs hn w hv hvp)
  have HV := Lib.hid hv
  have HVP := Lib.hid hvp
  cases ha : askQ q S P with
  | false =>
    rw [ha] at HS
    rw [show costR q S P = 0 by simp [costR, ha]]
    clear hv hvp ha
    go_enter Try.func41, Try.ntmps41
    go_wp2_with fail
    refine HS.out.mono ?_
    rintro e w1 ⟨rfl, hb⟩
    have HB := Lib.hid hb
    clear hb
    go_wp2_with fail
    go_ret2
    exact ⟨rfl, HB.out⟩
  | true =>
    rw [ha] at HS
    rw [show costR q S P = sumQ (stsQ S P P.length) by simp [costR, ha]]
    have HC := Lib.hid (fun W (hW : Below w.heap.size w W) => l14Cost_any q v vp S P ha W (hv.below hW) (hvp.below hW))
    clear hv hvp ha
    go_enter Try.func41, Try.ntmps41
    go_wp2_with fail
    refine HS.out.mono ?_
    rintro e w1 ⟨rfl, hb⟩
    have HB := Lib.hid hb
    clear hb
    go_wp2_with fail
    refine (HC.out _ HB.out).mono ?_
    rintro e w2 ⟨rfl, hb⟩
    have HB2 := Lib.hid (HB.out.trans (hb.mono HB.out.size))
    clear hb
    go_wp2_with fail
    go_ret2
    exact ⟨rfl, HB2.out⟩

set_option maxRecDepth 100000 in
set_option maxHeartbeats 8000000 in
theorem specLh_any (q : Int) (v vp : Value) (S : List Shp) (P : List Brt) (hs : S.length ≤ 1048576) (hn : P.length ≤ 1048576) (w : World) (hv : QsL w v S) (hvp : QbL w vp P) :
    Calls Try.prog 50 #[.int .i64 q, v, vp] w (RetP w (.tuple #[.int .i64 (lastR q S P), .bool (askQ q S P)])) := by
  have HS := Lib.hid (l14Asked_any q v vp S P hs hn w hv hvp)
  have HV := Lib.hid hv
  have HVP := Lib.hid hvp
  cases ha : askQ q S P with
  | false =>
    rw [ha] at HS
    rw [show lastR q S P = 0 by simp [lastR, ha]]
    clear hv hvp ha
    go_enter Try.func50, Try.ntmps50
    go_wp2_with fail
    refine HS.out.mono ?_
    rintro e w1 ⟨rfl, hb⟩
    have HB := Lib.hid hb
    clear hb
    go_wp2_with fail
    go_ret2
    exact ⟨rfl, HB.out⟩
  | true =>
    rw [ha] at HS
    rw [show lastR q S P = lasQ (stsQ S P P.length) by simp [lastR, ha]]
    have HMo := Lib.hid (fun (a b : Int) (W : World) => qMost_any a b W)
    have HA := Lib.hid ha
    obtain ⟨hmn, h5⟩ := ask_len ha
    obtain ⟨a0, c0, rfl, hc0⟩ := hv
    obtain ⟨a1, c1, rfl, hc1⟩ := hvp
    obtain ⟨n, hl⟩ : ∃ n, P.length = n := ⟨_, rfl⟩
    have hm : S.length = n := by omega
    have HM := Lib.hid hm
    have HN := Lib.hid hl
    have HC0 := Lib.hid hc0
    have HC1 := Lib.hid hc1
    rw [hl] at h5 HS ⊢
    rw [hm] at HS ⊢
    clear HV HVP hc0 hc1 hl hm ha hmn
    go_enter Try.func50, Try.ntmps50
    go_wp2_with fail
    refine HS.out.mono ?_
    rintro e w1 ⟨rfl, hb⟩
    have HB := Lib.hid hb
    clear hb HS
    go_wp2_with fail
    go_loopw [8, 9] (fun s i wr => ∃ (k : Nat) (y : Int), k ≤ n ∧ i = .int .i64 k ∧ s = .int .i64 y ∧ Hid (y = lasQ (stsQ S P k)) ∧ Hid (Below w.heap.size w wr)) (fun _ i _ => n - (intOf i).toNat)
    case atStart => exact ⟨0, 0, Nat.zero_le _, rfl, rfl, Lib.hid rfl, HB⟩
    case round =>
      obtain ⟨k, y, hk, rfl, rfl, HS, HB⟩ := hrel
      by_cases hlt : k < n
      · skip
        obtain ⟨g, off, rfl, hg, hcc⟩ := HC0.out (by have := HM.out; omega)
        obtain ⟨g2, off2, rfl, hg2, hcc2⟩ := HC1.out (by have := HN.out; omega)
        obtain ⟨x, hx⟩ := get_at HM.out hlt
        obtain ⟨b, hb⟩ := get_at HN.out hlt
        have HOk := ask_at HA.out hx hb
        have hcs := HOk.cos
        have hsm := HOk.small
        unfold smS at hsm
        have HS2 := Lib.hid (lasQ_sts hx hb (by have := HOk.cos; unfold endQ at this; simp only at this; omega))
        obtain ⟨l, a, h, c⟩ := x
        obtain ⟨p, t⟩ := b
        have a0 := (HB.out.cell (p := ⟨g, off + k * 4, none⟩) hg).trans (hcc k _ hx).1
        have a1 := (HB.out.cell (p := ⟨g, off + k * 4 + 1, none⟩) hg).trans (hcc k _ hx).2.1
        have a2 := (HB.out.cell (p := ⟨g, off + k * 4 + 2, none⟩) hg).trans (hcc k _ hx).2.2.1
        have a3 := (HB.out.cell (p := ⟨g, off + k * 4 + 3, none⟩) hg).trans (hcc k _ hx).2.2.2
        have b0 := (HB.out.cell (p := ⟨g2, off2 + k * 2, none⟩) hg2).trans (hcc2 k _ hb).1
        have b1 := (HB.out.cell (p := ⟨g2, off2 + k * 2 + 1, none⟩) hg2).trans (hcc2 k _ hb).2
        have hki : (k : Int) < (n : Int) := by omega
        clear hcc hcc2 hg hg2 hx hb HOk
        simp only at a0 a1 a2 a3 b0 b1 hcs hsm
        have HS3 : Hid (max y (t + h) = lasQ (stsQ S P (k + 1))) := Lib.hid (by rw [HS2.out, ← HS.out])
        clear hcs HS2
        go_wp2_with fail
        go_quiet ((go_at_call 94; exact Calls.quiet_of_same (flipQ (HMo.out _ _ _))))
        go_wp2_with fail
        exact ⟨⟨k + 1, _, by omega, by go_num, rfl, HS3, Lib.hid (below_drewN HB.out _)⟩, by simp [intOf]; omega⟩
      · obtain rfl : k = n := by omega
        have e := HS.out
        subst e
        go_wp2_with fail
        go_ret2
        exact ⟨rfl, HB.out⟩

end Go.Proofs.Ytpljcpeghjplnaa
