/-
  QPs, QWs, QWt, QU, QUs in one text. No statement of the seat by itself.
-/
import Derived.Test.YtpljcpeghjplnaaQSp
import Derived.Test.YtpljcpeghjplnaaQSt
import Derived.BigQuiet
import Derived.Test.YtpljcpeghjplnaaZNum
import Derived.Deep.RegionHeld
import Derived.Test.YtpljcpeghjplnaaQPc
namespace Go.Proofs.Ytpljcpeghjplnaa
section
open Go.RowKit
theorem flipQ {f : Nat} {args : Array Value} {w : World} {r : Ending} (h : Calls Try.prog f args w fun e w' => e = r ∧ w = w') : Calls Try.prog f args w fun e w' => e = r ∧ w' = w := h.mono fun _ _ ⟨a, b⟩ => ⟨a, b.symm⟩
theorem qMost_any (a b : Int) (w : World) : Calls Try.prog 94 #[.int .i64 a, .int .i64 b] w fun e w' => e = .returned (.int .i64 (max a b)) ∧ w = w' := by
  by_cases h : b < a
  · rw [show max a b = a by omega]
    go_enter Try.func94, Try.ntmps94
    go_wp2_with fail
    go_ret
    exact ⟨rfl, rfl⟩
  · rw [show max a b = b by omega]
    go_enter Try.func94, Try.ntmps94
    go_wp2_with fail
    go_ret
    exact ⟨rfl, rfl⟩
theorem sumQ_sts {S : List Shp} {P : List Brt} {k : Nat} {x : Shp} {b : Brt} (hx : S[k]? = some x) (hb : P[k]? = some b) : sumQ (stsQ S P (k + 1)) = sumQ (stsQ S P k) + x.2.2.2 * (b.2 - x.2.1) := by
  rw [stsQ_succ hx hb, sumQ_app]
  rfl
theorem lasQ_sts {S : List Shp} {P : List Brt} {k : Nat} {x : Shp} {b : Brt} (hx : S[k]? = some x) (hb : P[k]? = some b) (h : 0 ≤ b.2 + x.2.2.1) : lasQ (stsQ S P (k + 1)) = max (lasQ (stsQ S P k)) (b.2 + x.2.2.1) := by
  rw [stsQ_succ hx hb, lasQ_app]
  show max (lasQ (stsQ S P k)) (max (b.2 + x.2.2.1) 0) = _
  omega
/-- What a possible plan says of a ship and its berth. -/
theorem ask_at {q : Int} {S : List Shp} {P : List Brt} (h : askQ q S P = true) {k : Nat} {x : Shp} {b : Brt} (hx : S[k]? = some x) (hb : P[k]? = some b) : okSty ((k : Int), x, b) := by
  obtain ⟨h1, h2, h3, h4⟩ := askQ_iff.1 h
  have hk : k < P.length := (List.getElem?_eq_some_iff.1 hb).1
  have := upQ_step h4 hk
  rw [stepQ_get hx hb] at this
  exact okSty_of h1 ((goodQ_iff.1 h2).2 x (List.mem_of_getElem? hx)) this
theorem ask_len {q : Int} {S : List Shp} {P : List Brt} (h : askQ q S P = true) : P.length = S.length ∧ P.length ≤ 5 := by
  obtain ⟨h1, h2, h3, h4⟩ := askQ_iff.1 h
  have := goodQ_len h2
  omega
theorem ask_sum {q : Int} {S : List Shp} {P : List Brt} (h : askQ q S P = true) (k : Nat) (hk : k ≤ P.length) : 0 ≤ sumQ (stsQ S P k) ∧ sumQ (stsQ S P k) ≤ 45000 := by
  obtain ⟨h1, h2, h3, h4⟩ := askQ_iff.1 h
  have h5 := ask_len h
  have := sumQ_bound (stsQ_ok h1 h2 (by omega) (upQ_mono h4 hk))
  rw [stsQ_len] at this
  omega

set_option maxRecDepth 100000 in
set_option maxHeartbeats 8000000 in
theorem l14Cost_any (q : Int) (v vp : Value) (S : List Shp) (P : List Brt) (ha : askQ q S P = true) (w : World) (hv : QsL w v S) (hvp : QbL w vp P) :
    Calls Try.prog 77 #[v, vp] w (RetP w (.int .i64 (sumQ (stsQ S P P.length)))) := by
  have HA := Lib.hid ha
  obtain ⟨hmn, h5⟩ := ask_len ha
  obtain ⟨a0, c0, rfl, hc0⟩ := hv
  obtain ⟨a1, c1, rfl, hc1⟩ := hvp
  obtain ⟨n, hl⟩ : ∃ n, P.length = n := ⟨_, rfl⟩
  have hm : S.length = n := by omega
  have HM := Lib.hid hm
  have HN := Lib.hid hl
  have HC0 := Lib.hid hc0
  have HC1 := Lib.hid hc1
  rw [hl] at h5 ⊢
  rw [hm]
  clear hc0 hc1 hl hm ha hmn
  go_enter Try.func77, Try.ntmps77
  go_wp2_with fail
  go_loopw [5, 6] (fun s i wr => ∃ (k : Nat) (y : Int), k ≤ n ∧ i = .int .i64 k ∧ s = .int .i64 y ∧ Hid (y = sumQ (stsQ S P k)) ∧ Hid (Below w.heap.size w wr)) (fun _ i _ => n - (intOf i).toNat)
  case atStart => exact ⟨0, 0, Nat.zero_le _, rfl, rfl, Lib.hid rfl, Lib.hid (Below.refl _ _)⟩
  case round =>
    obtain ⟨k, y, hk, rfl, rfl, HS, HB⟩ := hrel
    by_cases hlt : k < n
    · have HK := Lib.hid (ask_sum HA.out k (by rw [HN.out]; exact hk))

      obtain ⟨g, off, rfl, hg, hcc⟩ := HC0.out (by have := HM.out; omega)
      obtain ⟨g2, off2, rfl, hg2, hcc2⟩ := HC1.out (by have := HN.out; omega)
      obtain ⟨x, hx⟩ := get_at HM.out hlt
      obtain ⟨b, hb⟩ := get_at HN.out hlt
      have HOk := ask_at HA.out hx hb
      have hcs := HOk.cos
      have hsm := HOk.small
      unfold smS at hsm
      have HS2 := Lib.hid (sumQ_sts hx hb)
      obtain ⟨l, a, h, c⟩ := x
      obtain ⟨p, t⟩ := b
      have a0 := (HB.out.cell (p := ⟨g, off + k * 4, none⟩) hg).trans (hcc k _ hx).1
      have a1 := (HB.out.cell (p := ⟨g, off + k * 4 + 1, none⟩) hg).trans (hcc k _ hx).2.1
      have a2 := (HB.out.cell (p := ⟨g, off + k * 4 + 2, none⟩) hg).trans (hcc k _ hx).2.2.1
      have a3 := (HB.out.cell (p := ⟨g, off + k * 4 + 3, none⟩) hg).trans (hcc k _ hx).2.2.2
      have b0 := (HB.out.cell (p := ⟨g2, off2 + k * 2, none⟩) hg2).trans (hcc2 k _ hb).1
      have b1 := (HB.out.cell (p := ⟨g2, off2 + k * 2 + 1, none⟩) hg2).trans (hcc2 k _ hb).2
      have hki : (k : Int) < (n : Int) := by omega
      clear hcc hcc2 hg hg2 hx hb HOk
      simp only at a0 a1 a2 a3 b0 b1 hcs hsm
      have hy := HK.out
      rw [← HS.out] at hy
      obtain ⟨u, hu⟩ : ∃ u, c * (t - a) = u := ⟨_, rfl⟩
      have hub : 0 ≤ u ∧ u ≤ 9000 := by
        have e : cosQ ((k : Int), (l, a, h, c), (p, t)) = c * (t - a) := rfl
        rw [e, hu] at hcs
        exact ⟨hcs.1, hcs.2.1⟩
      have HS3 : Hid (y + u = sumQ (stsQ S P (k + 1))) := Lib.hid (by rw [HS2.out, ← HS.out]; simp only; omega)
      have hw : IntKind.i64.wrap (c * (t - a)) = u := by rw [hu, IntKind.wrap_i64]; omega
      obtain ⟨hu0, hu1⟩ := hub
      obtain ⟨hy0, hy1⟩ := hy
      clear hcs hu HS2 HK
      go_wp2_with fail
      go_quiet (fail)
      go_wp2_with fail
      exact ⟨⟨k + 1, y + u, by omega, by go_num, by go_num, HS3, Lib.hid (below_drewN HB.out _)⟩, by simp [intOf]; omega⟩
    · obtain rfl : k = n := by omega
      have e := HS.out
      subst e
      go_wp2_with fail
      go_ret
      exact ⟨rfl, HB.out⟩

set_option maxRecDepth 100000 in
set_option maxHeartbeats 8000000 in
theorem specPc_any (q : Int) (v vp : Value) (S : List Shp) (P : List Brt) (hs : S.length ≤ 1048576) (hn : P.length ≤ 1048576) (w : World) (hv : QsL w v S) (hvp : QbL w vp P) :
    Calls Try.prog 41 #[.int .i64 q, v, vp] w (RetP w (.tuple #[.int .i64 (costR q S P), .bool (askQ q S P)])) := by
  have HS := Lib.hid (l14Asked_any q v vp S P hs hn w hv hvp)
  have HV := Lib.hid hv
  have HVP := Lib.hid hvp
  cases ha : askQ q S P with
  | false =>
    rw [ha] at HS
    rw [show costR q S P = 0 by simp [costR, ha]]
    clear hv hvp ha
    go_enter Try.func41, Try.ntmps41
    go_wp2_with fail
    refine HS.out.mono ?_
    rintro e w1 ⟨rfl, hb⟩
    have HB := Lib.hid hb
    clear hb
    go_wp2_with fail
    go_ret2
    exact ⟨rfl, HB.out⟩
  | true =>
    rw [ha] at HS
    rw [show costR q S P = sumQ (stsQ S P P.length) by simp [costR, ha]]
    have HC := Lib.hid (fun W (hW : Below w.heap.size w W) => l14Cost_any q v vp S P ha W (hv.below hW) (hvp.below hW))
    clear hv hvp ha
    go_enter Try.func41, Try.ntmps41
    go_wp2_with fail
    refine HS.out.mono ?_
    rintro e w1 ⟨rfl, hb⟩
    have HB := Lib.hid hb
    clear hb
    go_wp2_with fail
    refine (HC.out _ HB.out).mono ?_
    rintro e w2 ⟨rfl, hb⟩
    have HB2 := Lib.hid (HB.out.trans (hb.mono HB.out.size))
    clear hb
    go_wp2_with fail
    go_ret2
    exact ⟨rfl, HB2.out⟩

set_option maxRecDepth 100000 in
set_option maxHeartbeats 8000000 in
theorem specLh_any (q : Int) (v vp : Value) (S : List Shp) (P : List Brt) (hs : S.length ≤ 1048576) (hn : P.length ≤ 1048576) (w : World) (hv : QsL w v S) (hvp : QbL w vp P) :
    Calls Try.prog 50 #[.int .i64 q, v, vp] w (RetP w (.tuple #[.int .i64 (lastR q S P), .bool (askQ q S P)])) := by
  have HS := Lib.hid (l14Asked_any q v vp S P hs hn w hv hvp)
  have HV := Lib.hid hv
  have HVP := Lib.hid hvp
  cases ha : askQ q S P with
  | false =>
    rw [ha] at HS
    rw [show lastR q S P = 0 by simp [lastR, ha]]
    clear hv hvp ha
    go_enter Try.func50, Try.ntmps50
    go_wp2_with fail
    refine HS.out.mono ?_
    rintro e w1 ⟨rfl, hb⟩
    have HB := Lib.hid hb
    clear hb
    go_wp2_with fail
    go_ret2
    exact ⟨rfl, HB.out⟩
  | true =>
    rw [ha] at HS
    rw [show lastR q S P = lasQ (stsQ S P P.length) by simp [lastR, ha]]
    have HMo := Lib.hid (fun (a b : Int) (W : World) => qMost_any a b W)
    have HA := Lib.hid ha
    obtain ⟨hmn, h5⟩ := ask_len ha
    obtain ⟨a0, c0, rfl, hc0⟩ := hv
    obtain ⟨a1, c1, rfl, hc1⟩ := hvp
    obtain ⟨n, hl⟩ : ∃ n, P.length = n := ⟨_, rfl⟩
    have hm : S.length = n := by omega
    have HM := Lib.hid hm
    have HN := Lib.hid hl
    have HC0 := Lib.hid hc0
    have HC1 := Lib.hid hc1
    rw [hl] at h5 HS ⊢
    rw [hm] at HS ⊢
    clear HV HVP hc0 hc1 hl hm ha hmn
    go_enter Try.func50, Try.ntmps50
    go_wp2_with fail
    refine HS.out.mono ?_
    rintro e w1 ⟨rfl, hb⟩
    have HB := Lib.hid hb
    clear hb HS
    go_wp2_with fail
    go_loopw [8, 9] (fun s i wr => ∃ (k : Nat) (y : Int), k ≤ n ∧ i = .int .i64 k ∧ s = .int .i64 y ∧ Hid (y = lasQ (stsQ S P k)) ∧ Hid (Below w.heap.size w wr)) (fun _ i _ => n - (intOf i).toNat)
    case atStart => exact ⟨0, 0, Nat.zero_le _, rfl, rfl, Lib.hid rfl, HB⟩
    case round =>
      obtain ⟨k, y, hk, rfl, rfl, HS, HB⟩ := hrel
      by_cases hlt : k < n
      · skip
        obtain ⟨g, off, rfl, hg, hcc⟩ := HC0.out (by have := HM.out; omega)
        obtain ⟨g2, off2, rfl, hg2, hcc2⟩ := HC1.out (by have := HN.out; omega)
        obtain ⟨x, hx⟩ := get_at HM.out hlt
        obtain ⟨b, hb⟩ := get_at HN.out hlt
        have HOk := ask_at HA.out hx hb
        have hcs := HOk.cos
        have hsm := HOk.small
        unfold smS at hsm
        have HS2 := Lib.hid (lasQ_sts hx hb (by have := HOk.cos; unfold endQ at this; simp only at this; omega))
        obtain ⟨l, a, h, c⟩ := x
        obtain ⟨p, t⟩ := b
        have a0 := (HB.out.cell (p := ⟨g, off + k * 4, none⟩) hg).trans (hcc k _ hx).1
        have a1 := (HB.out.cell (p := ⟨g, off + k * 4 + 1, none⟩) hg).trans (hcc k _ hx).2.1
        have a2 := (HB.out.cell (p := ⟨g, off + k * 4 + 2, none⟩) hg).trans (hcc k _ hx).2.2.1
        have a3 := (HB.out.cell (p := ⟨g, off + k * 4 + 3, none⟩) hg).trans (hcc k _ hx).2.2.2
        have b0 := (HB.out.cell (p := ⟨g2, off2 + k * 2, none⟩) hg2).trans (hcc2 k _ hb).1
        have b1 := (HB.out.cell (p := ⟨g2, off2 + k * 2 + 1, none⟩) hg2).trans (hcc2 k _ hb).2
        have hki : (k : Int) < (n : Int) := by omega
        clear hcc hcc2 hg hg2 hx hb HOk
        simp only at a0 a1 a2 a3 b0 b1 hcs hsm
        have HS3 : Hid (max y (t + h) = lasQ (stsQ S P (k + 1))) := Lib.hid (by rw [HS2.out, ← HS.out])
        clear hcs HS2
        go_wp2_with fail
        go_quiet ((go_at_call 94; exact Calls.quiet_of_same (flipQ (HMo.out _ _ _))))
        go_wp2_with fail
        exact ⟨⟨k + 1, _, by omega, by go_num, rfl, HS3, Lib.hid (below_drewN HB.out _)⟩, by simp [intOf]; omega⟩
      · obtain rfl : k = n := by omega
        have e := HS.out
        subst e
        go_wp2_with fail
        go_ret2
        exact ⟨rfl, HB.out⟩
end

section
open Go.RowKit
/-- append of an int onto a row of the call's own, inside a region that draws its order. -/
theorem step_num {ops : Array Oper} {o : Oper} {a : Act} {w : World} {K : Act → World → Prop} {Q : Exit → Act → World → Prop} {E : Prop} (hgd : o.guard = none) (s x : Operand)
    (ho : o.op = .call { callee := .builtin .append, args := #[s, x], argTypes := #[25, 25] }) (base : Nat) (v : Value) (n : Nat) (xs : List Value) (hs : a.eval s = v) (hown : w.ownsRow base 3 1 v n xs)
    (ad : Addr) (c : Nat) (u : Value) (hx : a.eval x = .slice (some ad) 1 c) (hnews : ∀ j y, ([u] : List Value)[j]? = some y → w.cell? (ad.add j) = some y) (h1 : u.oneCell' = true)
    (hb : n ≤ 1000) (hbase : base ≤ w.heap.size)
    (h : ∀ v' w', w'.ownsRow base 3 1 v' (n + 1) (xs ++ [u]) → w.grownBy w' v.ownBlock → (v' = .slice none 0 0 ↔ v = .slice none 0 0 ∧ 1 = 0) → K (a.put o.dst v') w') :
    if Region.wanted o (yielded ops a.tmps) = true then Oper.wp Try.prog o a w K Q else E := by
  have hw : Region.wanted o (yielded ops a.tmps) = true := by simp [Region.wanted, hgd]
  obtain ⟨i0, hi, hz0, hz1, hz2⟩ := info_is info3
  rw [if_pos hw]
  exact wp_append_own w s x 25 ho base 3 i0 (.int .i64 0) 1 8 Try.underlying25 hi hz0 hz1 hz2 rfl (by decide) v n xs hs hown ad 1 c [u] hx rfl hnews (by simpa using h1) (by unfold maxLen; omega) (by omega) hbase h
theorem retL_numsR {w wr : World} {sv : Value} {R : List Int} (h : NumS w wr sv R) (ok : Bool) : RetL w R ok (.returned (.tuple #[sv, .bool ok])) wr := by
  obtain ⟨h1, h2, _⟩ := h
  obtain ⟨a, c, rfl⟩ := own_form h1
  exact ⟨a, c, rfl, lo_of_own h1 (Nat.le_refl _), h2⟩
theorem waits_sts {S : List Shp} {P : List Brt} {k : Nat} {x : Shp} {b : Brt} (hx : S[k]? = some x) (hb : P[k]? = some b) : (stsQ S P (k + 1)).map waiQ = (stsQ S P k).map waiQ ++ [b.2 - x.2.1] := by
  rw [stsQ_succ hx hb]
  simp [waiQ]

theorem waitR_len (q : Int) (S : List Shp) (P : List Brt) : (waitR q S P).length ≤ 1000 := by
  unfold waitR
  split
  · next h =>
    have := ask_len h
    rw [List.length_map, stsQ_len]
    omega
  · simp

set_option maxRecDepth 100000 in
set_option maxHeartbeats 8000000 in
theorem specWt_any (q : Int) (v vp : Value) (S : List Shp) (P : List Brt) (hs : S.length ≤ 1048576) (hn : P.length ≤ 1048576) (w : World) (hv : QsL w v S) (hvp : QbL w vp P) :
    Calls Try.prog 51 #[.int .i64 q, v, vp] w (RetL w (waitR q S P) (askQ q S P)) := by
  have R0 := Lib.hid (numS_start w)
  have HS := Lib.hid (l14Asked_any q v vp S P hs hn _ (hv.below (below_one w (.cells #[] 3))) (hvp.below (below_one w (.cells #[] 3))))
  cases ha : askQ q S P with
  | false =>
    rw [ha] at HS
    rw [show waitR q S P = [] by simp [waitR, ha]]
    clear hv hvp ha
    go_enter Try.func51, Try.ntmps51
    go_wp2_with fail
    generalize hW0 : w.alloc (.cells #[] 3) = w0 at *
    refine HS.out.mono ?_
    rintro e w1 ⟨rfl, hb⟩
    have HX := Lib.hid (retL_numsR (R0.out.below hb) false)
    clear hb
    go_wp2_with fail
    go_ret2
    exact HX.out
  | true =>
    rw [ha] at HS
    rw [show waitR q S P = (stsQ S P P.length).map waiQ by simp [waitR, ha]]
    have HA := Lib.hid ha
    obtain ⟨hmn, h5⟩ := ask_len ha
    obtain ⟨a0, c0, rfl, hc0⟩ := hv
    obtain ⟨a1, c1, rfl, hc1⟩ := hvp
    obtain ⟨n, hl⟩ : ∃ n, P.length = n := ⟨_, rfl⟩
    have hm : S.length = n := by omega
    have HM := Lib.hid hm
    have HN := Lib.hid hl
    have HC0 := Lib.hid hc0
    have HC1 := Lib.hid hc1
    rw [hl] at h5 HS ⊢
    rw [hm] at HS ⊢
    clear hc0 hc1 hl hm ha hmn
    go_enter Try.func51, Try.ntmps51
    go_wp2_with fail
    generalize hW0 : w.alloc (.cells #[] 3) = w0 at *
    refine HS.out.mono ?_
    rintro e w1 ⟨rfl, hb⟩
    have HR1 := Lib.hid (R0.out.below hb)
    clear hb HS
    go_wp2_with fail
    go_loopw [8, 9] (fun s i wr => ∃ k : Nat, k ≤ n ∧ i = .int .i64 k ∧ Hid (NumS w wr s ((stsQ S P k).map waiQ))) (fun _ i _ => n - (intOf i).toNat)
    case atStart => exact ⟨0, Nat.zero_le _, rfl, HR1⟩
    case round =>
      obtain ⟨k, hk, rfl, HR⟩ := hrel
      by_cases hlt : k < n
      · obtain ⟨g, off, rfl, hg, hcc⟩ := HC0.out (by have := HM.out; omega)
        obtain ⟨g2, off2, rfl, hg2, hcc2⟩ := HC1.out (by have := HN.out; omega)
        obtain ⟨x, hx⟩ := get_at HM.out hlt
        obtain ⟨b, hb⟩ := get_at HN.out hlt
        have hsm := (ask_at HA.out hx hb).small
        unfold smS at hsm
        have HK2 := Lib.hid (waits_sts hx hb)
        obtain ⟨l, a, h, c⟩ := x
        obtain ⟨p, t⟩ := b
        have HE : Hid (∀ (W : World), Below w.heap.size w W → W.cell? ⟨g, off + k * 4 + 1, none⟩ = some (.int .i64 a) ∧ W.cell? ⟨g2, off2 + k * 2 + 1, none⟩ = some (.int .i64 t)) := Lib.hid fun W hW =>
          ⟨(hW.cell (p := ⟨g, off + k * 4 + 1, none⟩) hg).trans (hcc k _ hx).2.1, (hW.cell (p := ⟨g2, off2 + k * 2 + 1, none⟩) hg2).trans (hcc2 k _ hb).2⟩
        have hki : (k : Int) < (n : Int) := by omega
        have hlen : ((stsQ S P k).map waiQ).length = k := by rw [List.length_map, stsQ_len]
        have hst := HR.out.2.1.drew
        have HRd := Lib.hid (HR.out.below (Below.refl _ _).drew)
        have hz := HR.out.2.1.size
        simp only at hsm HK2
        have HWr : Hid (IntKind.i64.wrap (t - a) = t - a) := Lib.hid (by rw [IntKind.wrap_i64]; omega)
        clear hcc hcc2 hg hg2 hx hb HR
        go_wp2_with fail
        refine wp_region_held_drew (S := fun W' => Below w.heap.size w W') (by kernel_rfl) ?_ (fun hHeld => ?_)
        · exact hst
        refine (wpAnyH_take (i := 0) (v := ?_) rfl (by kernel_rfl) (by kernel_rfl) (by kernel_rfl) (fun _ _ _ h => h) (Or.inl ⟨by rfl, ?_⟩) (by assumption) ?_)
        rotate_left 1
        · (intro W hSw; clear hSw; (go_simp) <;> with_reducible rfl)
        try simp only [List.getElem_toArray, List.getElem_cons_zero, Act.put, List.setIfInBounds_toArray, List.set_cons_zero, List.set_cons_succ]
        refine (wpAnyH_take (i := 1) (v := ?_) rfl (by kernel_rfl) (by kernel_rfl) (by kernel_rfl) (fun _ _ _ h => h) (Or.inl ⟨by rfl, ?_⟩) (by assumption) ?_)
        rotate_left 1
        · (intro W hSw; clear hSw; (go_simp) <;> with_reducible rfl)
        try simp only [List.getElem_toArray, List.getElem_cons_zero, List.getElem_cons_succ, Act.put, List.setIfInBounds_toArray, List.set_cons_zero, List.set_cons_succ]
        refine (wpAnyH_take (i := 2) (v := ?_) rfl (by kernel_rfl) (by kernel_rfl) (by kernel_rfl) (fun _ _ _ h => h) (Or.inl ⟨by rfl, ?_⟩) (by assumption) ?_)
        rotate_left 1
        · (intro W hSw; clear hSw; (go_simp) <;> with_reducible rfl)
        try simp only [List.getElem_toArray, List.getElem_cons_zero, List.getElem_cons_succ, Act.put, List.setIfInBounds_toArray, List.set_cons_zero, List.set_cons_succ]
        refine (wpAnyH_take (i := 3) (v := ?_) rfl (by kernel_rfl) (by kernel_rfl) (by kernel_rfl) (fun _ _ _ h => h) (Or.inl ⟨by rfl, ?_⟩) (by assumption) ?_)
        rotate_left 1
        · (intro W hSw; clear hSw; (go_simp) <;> with_reducible rfl)
        try simp only [List.getElem_toArray, List.getElem_cons_zero, List.getElem_cons_succ, Act.put, List.setIfInBounds_toArray, List.set_cons_zero, List.set_cons_succ]
        refine (wpAnyH_take (i := 4) (v := ?_) rfl (by kernel_rfl) (by kernel_rfl) (by kernel_rfl) (fun _ _ _ h => h) (Or.inl ⟨by rfl, ?_⟩) (by assumption) ?_)
        rotate_left 1
        · (intro W hSw; clear hSw; (go_simp) <;> with_reducible rfl)
        try simp only [List.getElem_toArray, List.getElem_cons_zero, List.getElem_cons_succ, Act.put, List.setIfInBounds_toArray, List.set_cons_zero, List.set_cons_succ]
        refine (wpAnyH_take (i := 5) (v := ?_) rfl (by kernel_rfl) (by kernel_rfl) (by kernel_rfl) (fun _ _ _ h => h) (Or.inl ⟨by rfl, ?_⟩) (by assumption) ?_)
        rotate_left 1
        · (intro W hSw; obtain ⟨s0, s1⟩ := HE.out W hSw; clear hSw; (go_simp) <;> with_reducible rfl)
        try simp only [List.getElem_toArray, List.getElem_cons_zero, List.getElem_cons_succ, Act.put, List.setIfInBounds_toArray, List.set_cons_zero, List.set_cons_succ]
        refine (wpAnyH_take (i := 6) (v := ?_) rfl (by kernel_rfl) (by kernel_rfl) (by kernel_rfl) (fun _ _ _ h => h) (Or.inl ⟨by rfl, ?_⟩) (by assumption) ?_)
        rotate_left 1
        · (intro W hSw; clear hSw; (go_simp) <;> with_reducible rfl)
        try simp only [List.getElem_toArray, List.getElem_cons_zero, List.getElem_cons_succ, Act.put, List.setIfInBounds_toArray, List.set_cons_zero, List.set_cons_succ]
        refine (wpAnyH_take (i := 7) (v := ?_) rfl (by kernel_rfl) (by kernel_rfl) (by kernel_rfl) (fun _ _ _ h => h) (Or.inl ⟨by rfl, ?_⟩) (by assumption) ?_)
        rotate_left 1
        · (intro W hSw; clear hSw; (go_simp) <;> with_reducible rfl)
        try simp only [List.getElem_toArray, List.getElem_cons_zero, List.getElem_cons_succ, Act.put, List.setIfInBounds_toArray, List.set_cons_zero, List.set_cons_succ]
        refine (wpAnyH_take (i := 8) (v := ?_) rfl (by kernel_rfl) (by kernel_rfl) (by kernel_rfl) (fun _ _ _ h => h) (Or.inl ⟨by rfl, ?_⟩) (by assumption) ?_)
        rotate_left 1
        · (intro W hSw; clear hSw; (go_simp) <;> with_reducible rfl)
        try simp only [List.getElem_toArray, List.getElem_cons_zero, List.getElem_cons_succ, Act.put, List.setIfInBounds_toArray, List.set_cons_zero, List.set_cons_succ]
        refine (wpAnyH_take (i := 9) (v := ?_) rfl (by kernel_rfl) (by kernel_rfl) (by kernel_rfl) (fun _ _ _ h => h) (Or.inl ⟨by rfl, ?_⟩) (by assumption) ?_)
        rotate_left 1
        · (intro W hSw; clear hSw; (go_simp) <;> with_reducible rfl)
        try simp only [List.getElem_toArray, List.getElem_cons_zero, List.getElem_cons_succ, Act.put, List.setIfInBounds_toArray, List.set_cons_zero, List.set_cons_succ]
        refine (wpAnyH_take (i := 10) (v := ?_) rfl (by kernel_rfl) (by kernel_rfl) (by kernel_rfl) (fun _ _ _ h => h) (Or.inl ⟨by rfl, ?_⟩) (by assumption) ?_)
        rotate_left 1
        · (intro W hSw; obtain ⟨s0, s1⟩ := HE.out W hSw; clear hSw; (go_simp) <;> with_reducible rfl)
        try simp only [List.getElem_toArray, List.getElem_cons_zero, List.getElem_cons_succ, Act.put, List.setIfInBounds_toArray, List.set_cons_zero, List.set_cons_succ]
        refine (wpAnyH_take (i := 11) (v := ?_) rfl (by kernel_rfl) (by kernel_rfl) (by kernel_rfl) (fun _ _ _ h => h) (Or.inl ⟨by rfl, ?_⟩) (by assumption) ?_)
        rotate_left 1
        · (intro W hSw; clear hSw; (go_simp) <;> with_reducible rfl)
        try simp only [List.getElem_toArray, List.getElem_cons_zero, List.getElem_cons_succ, Act.put, List.setIfInBounds_toArray, List.set_cons_zero, List.set_cons_succ]
        refine wpAnyH_ready (rs := [12]) (by kernel_rfl) (by simp) ?_
        refine AllReadyH.cons rfl (fun K hK => ?_) ?_
        · go_simp
          refine hK.out _ _ ?_ (fun hNew => ?_)
          · (try dsimp only); exact Below.alloc hHeld (Below.size hHeld) _
          clear hK K hHeld
          have hHeld := hNew
          clear hNew
          try simp only [List.getElem_toArray, List.getElem_cons_zero, List.getElem_cons_succ, Act.put, List.setIfInBounds_toArray, List.set_cons_zero, List.set_cons_succ]
          refine wpAnyH_ready (rs := [13]) (by kernel_rfl) (by simp) ?_
          refine AllReadyH.cons rfl (fun K hK => ?_) ?_
          · refine step_num (by rfl) _ _ (by rfl) w.heap.size _ ((stsQ S P k).map waiQ).length (intV ((stsQ S P k).map waiQ)) (by rfl) (HRd.out.1.alloc _) _ _ _ (by rfl) (cell_one_new _ _ _) (by simp [Value.oneCell']) (by omega) (Below.size hHeld) ?_; intro v5 w5 ho5 hg5 hn5
            have HN5 := Lib.hid (HRd.out.push ho5 hg5 (fun e => by have := (hn5.1 e).2; omega))
            refine hK.out _ _ ?_ (fun hNew => ?_)
            · (try dsimp only); exact HN5.out.2.1
            clear hK K hHeld
            have hHeld := hNew
            clear hNew
            try simp only [List.getElem_toArray, List.getElem_cons_zero, List.getElem_cons_succ, Act.put, List.setIfInBounds_toArray, List.set_cons_zero, List.set_cons_succ]
            refine (wpAnyH_take (i := 14) (v := ?_) rfl (by kernel_rfl) (by kernel_rfl) (by kernel_rfl) (fun _ _ _ h => h) (Or.inl ⟨by rfl, ?_⟩) (by assumption) ?_)
            rotate_left 1
            · (intro W hSw; clear hSw; (go_simp) <;> with_reducible rfl)
            try simp only [List.getElem_toArray, List.getElem_cons_zero, List.getElem_cons_succ, Act.put, List.setIfInBounds_toArray, List.set_cons_zero, List.set_cons_succ]
            refine wpAnyH_done (by kernel_rfl) ?_ _
            have HN6 : Hid (NumS w w5 v5 ((stsQ S P (k + 1)).map waiQ)) := Lib.hid (by rw [HK2.out]; have h6 := HN5.out; rw [HWr.out] at h6; exact h6)
            clear hHeld ho5 hg5 hn5 HN5 HRd
            go_wp2_with fail
            exact ⟨⟨k + 1, by omega, by go_num, HN6⟩, by simp [intOf]; omega⟩
          exact AllReadyH.nil
        exact AllReadyH.nil
      · obtain rfl : k = n := by omega
        have HX := Lib.hid (retL_numsR HR.out true)
        go_wp2_with fail
        go_ret2
        exact HX.out
end

section
open Go.RowKit
theorem retL_numsQ {w wr : World} {sv : Value} {R : List Int} (h : NumS w wr sv R) (ok : Bool) : RetL w R ok (.returned (.tuple #[sv, .bool ok])) wr := by
  obtain ⟨h1, h2, _⟩ := h
  obtain ⟨a, c, rfl⟩ := own_form h1
  exact ⟨a, c, rfl, lo_of_own h1 (Nat.le_refl _), h2⟩
theorem MoC.of_block {w w' : World} {b off : Nat} {q : Int} {M : List Sty} (h : MoC w b off q M) (hb : w'.heap[b]? = w.heap[b]?) : MoC w' b off q M := by
  obtain ⟨h1, h2, h3, h4, h5, h6⟩ := h
  have hc : ∀ j, w'.cell? ⟨b, j, none⟩ = w.cell? ⟨b, j, none⟩ := fun j => World.cell?_of_block (w := w) (a := ⟨b, j, none⟩) hb
  refine ⟨(hc _).trans h1, (hc _).trans h2, fun j s hs i v hv => (hc _).trans (h3 j s hs i v hv), fun j hj => ?_, fun j hj => (World.frozen?_of_block (w := w) (a := ⟨b, off + j, none⟩) hb).trans (h5 j hj), h6⟩
  obtain ⟨i, hi⟩ := h4 j hj
  exact ⟨i, (hc _).trans hi⟩
theorem MoC.grew {w w' : World} {b off : Nat} {q : Int} {M : List Sty} {o : Obj} {row : Option Nat} (h : MoC w b off q M) (hg : (w.alloc o).grownBy w' row) (hr : ∀ k, row = some k → k ≠ b) : MoC w' b off q M :=
  (h.below (below_one w o)).of_block (hg.block b (by have := h.block; simp; omega) fun e => hr b e.symm rfl)
theorem waits_take {M : List Sty} {k : Nat} {s : Sty} (hs : M[k]? = some s) : (M.take (k + 1)).map waiQ = (M.take k).map waiQ ++ [waiQ s] := by
  rw [List.take_add_one, hs]
  simp

set_option maxRecDepth 100000 in
set_option maxHeartbeats 8000000 in
theorem implWt_any (q : Int) (v vp : Value) (S : List Shp) (P : List Brt) (hs : S.length ≤ 1048576) (hn : P.length ≤ 1048576) (w : World) (hv : QsL w v S) (hvp : QbL w vp P) :
    Calls Try.prog 26 #[.int .i64 q, v, vp] w (RetL w (waitR q S P) (askQ q S P)) := by
  obtain ⟨f3, hi3, hz0, hz1, hz2⟩ := info_is info3
  have R0 := Lib.hid (numS_start w)
  have H1 := Lib.hid (mooringOf_any q v vp S P hs hn _ (hv.below (below_one w (.cells #[] 3))) (hvp.below (below_one w (.cells #[] 3))))
  have HOk := Lib.hid (mfM_ok (q := q) (S := S) (P := P))
  rw [waitR_mf]
  clear hv hvp
  unfold MfP at H1
  generalize askQ q S P = bq at *
  generalize mfM q S P = M at *
  generalize mfQ q S P = q1 at *
  go_enter Try.func26, Try.ntmps26
  go_wp2_with fail
  generalize hW0 : w.alloc (.cells #[] 3) = w0 at *
  refine H1.out.mono ?_
  rintro e w1 ⟨xs, hx, rfl, hb⟩
  have HX := Lib.hid hx
  have HR1 := Lib.hid (R0.out.below hb)
  have HBm : Hid (w.heap.size < w1.heap.size) := Lib.hid (by have := hb.size; rw [← hW0] at this; simp at this; omega)
  clear hx hb
  go_wp2_with (first | (refine wpList_newM rfl rfl ?_; intro W2 hN2; have N2 := Lib.hid hN2; clear hN2) | (refine wpList_putM rfl _ _ rfl w1.heap.size rfl xs rfl HX.out.1 N2.out.there ?_; intro W3 hP3; have P3 := Lib.hid hP3; clear hP3))
  have HM := Lib.hid (N2.out.put P3.out HX.out).1
  have HR3 := Lib.hid (HR1.out.below (N2.out.put P3.out HX.out).2.1)
  clear N2 P3 HX HR1
  refine (moored0_any _ _ M _ HM.out).mono ?_
  rintro e w4 ⟨rfl, hb⟩
  have HR4 := Lib.hid (HR3.out.below hb)
  have HM4 := Lib.hid (HM.out.below hb)
  have hl := HM.out.2.2.2.2.2
  clear hb HM HR3
  generalize w1.heap.size = bm at *
  obtain ⟨n, hn2⟩ : ∃ n, M.length = n := ⟨_, rfl⟩
  have HN := Lib.hid hn2
  have HBk := Lib.hid HM4.out.block
  rw [hn2] at hl ⊢
  clear hn2
  go_wp2_with fail
  go_loopw [8, 23] (fun s i wr => ∃ k : Nat, k ≤ n ∧ i = .int .i64 k ∧ Hid (NumS w wr s ((M.take k).map waiQ)) ∧ Hid (∀ b, s.ownBlock = some b → b ≠ bm) ∧ Hid (MoC wr bm 0 q1 M)) (fun _ i _ => n - (intOf i).toNat)
  case atStart => exact ⟨0, Nat.zero_le _, rfl, HR4, Lib.hid (fun b hb => by injection hb with hb; subst hb; exact Nat.ne_of_lt HBm.out), HM4⟩
  case round =>
    obtain ⟨k, hk, rfl, HR, HAp, HMo⟩ := hrel
    by_cases hlt : k < n
    · obtain ⟨s, hs2⟩ := get_at HN.out hlt
      obtain ⟨a0, a1, a2, a3, a4, a5, a6⟩ := st_cells (HMo.out.at0 hs2)
      have hsm := (HOk.out s (List.mem_of_getElem? hs2)).small
      have HE := Lib.hid (waitF_any s.1 s.2.1.1 s.2.1.2.1 s.2.1.2.2.1 s.2.1.2.2.2 s.2.2.1 s.2.2.2 (by unfold smS at hsm; omega) (by unfold smS at hsm; omega) (wr.alloc (.cells (svV s).toArray 90)))
      have HB2 := below_one wr (.cells (svV s).toArray 90)
      have HR2 := Lib.hid (HR.out.below HB2)
      have HMa := Lib.hid (HMo.out.below HB2)
      have HK2 := Lib.hid (waits_take hs2)
      have hki : (k : Int) < (n : Int) := by omega
      have hu : s.2.2.2 - s.2.1.2.1 = waiQ s := rfl
      rw [hu] at HE
      generalize waiQ s = u at *
      have hlen : ((M.take k).map waiQ).length ≤ 5 := by simp only [List.length_map, List.length_take]; have := HN.out; omega
      clear hs2 hu hsm HB2
      go_wp2_with fail
      refine HE.out.mono ?_
      rintro e w5 ⟨rfl, hb⟩
      have HR3 := Lib.hid (HR2.out.below hb)
      have HM5 := Lib.hid (HMa.out.below hb)
      clear hb a0 a1 a2 a3 a4 a5 a6 HR HMo HR2 HMa
      have hrow := HR3.out.1
      have hz := HR3.out.2.1.size
      generalize hSS : (M.take k).map waiQ = SS at *
      go_wp2_with (at_builtin; refine wpList_append_own_at _ rfl _ _ 25 rfl w.heap.size 3 f3 (.int .i64 0) 1 8 Try.underlying25 hi3 hz0 ‹_› hz2 rfl (by decide) _ _ _ rfl (hrow.alloc _) ⟨w5.heap.size, 0, none⟩ 1 1 [.int .i64 u] rfl rfl (cell_one_new _ _ _) (by simp [Value.oneCell']) (by unfold maxLen; omega) (by omega) (by simp; omega) ?_; intro v' w4 hown' hgrow hnil hat)
      have HN4 : Hid (NumS w w4 v' ((M.take (k + 1)).map waiQ)) := Lib.hid (by rw [HK2.out]; exact HR3.out.push hown' hgrow (fun e => by have := (hnil.1 e).2; omega))
      have HM6 : Hid (MoC w4 bm 0 q1 M) := Lib.hid (MoC.grew HM5.out hgrow HAp.out)
      have HAp2 : Hid (∀ b, v'.ownBlock = some b → b ≠ bm) := Lib.hid fun b hb => by
        rcases hat with e | e
        · exact HAp.out b (Eq.trans e.symm hb)
        · rw [e] at hb
          injection hb with hb
          have := HM5.out.block
          simp at hb
          omega
      clear hown' hgrow hnil hrow hat
      exact ⟨⟨k + 1, by omega, by go_num, HN4, HAp2, HM6⟩, by simp [intOf]; omega⟩
    · obtain rfl : k = n := by omega
      have e := HR.out
      rw [List.take_of_length_le (by have := HN.out; omega)] at e
      have HX := Lib.hid (retL_numsQ e bq)
      go_wp2_with fail
      go_ret2
      exact HX.out
end

section
open Go.RowKit
/-- A stay covers a section at an hour. -/
def cvS (s : Sty) (sec hour : Int) : Bool := inB s.2.2.1 (s.2.2.1 + s.2.1.1) sec && inB s.2.2.2 (s.2.2.2 + s.2.1.2.2.1) hour

set_option maxRecDepth 100000 in
set_option maxHeartbeats 8000000 in
theorem covers_any (s : Sty) (hs : smS s) (sec hour : Int) (w : World) : Calls Try.prog 85 #[stV s, .int .i64 sec, .int .i64 hour] w fun e w' => e = .returned (.bool (cvS s sec hour)) ∧ Below w.heap.size w w' := by
  unfold smS at hs
  have HA1 := Lib.hid (fun W => sections_any s.1 s.2.1.1 s.2.1.2.1 s.2.1.2.2.1 s.2.1.2.2.2 s.2.2.1 s.2.2.2 (by omega) (by omega) W)
  have HB1 := Lib.hid (fun W => hours_any s.1 s.2.1.1 s.2.1.2.1 s.2.1.2.2.1 s.2.1.2.2.2 s.2.2.1 s.2.2.2 (by omega) (by omega) W)
  have HO1 := Lib.hid (fun W => spanIn_any s.2.2.1 (s.2.2.1 + s.2.1.1) sec W)
  have HO2 := Lib.hid (fun W => spanIn_any s.2.2.2 (s.2.2.2 + s.2.1.2.2.1) hour W)
  unfold cvS
  have HK := Lib.hid (KeepO.start w s 90)
  clear hs
  generalize inB s.2.2.1 (s.2.2.1 + s.2.1.1) sec = o1 at *
  generalize inB s.2.2.2 (s.2.2.2 + s.2.1.2.2.1) hour = o2 at *
  obtain ⟨k0, k1, k2, k3, k4, k5, k6⟩ := st_cells HK.out.cs
  go_enter Try.func85, Try.ntmps85
  go_wp2_with fail
  generalize hW : w.alloc (.cells (svV s).toArray 90) = W at *
  clear hW
  refine (HA1.out _).mono ?_
  rintro e w1 ⟨rfl, hb1⟩
  have K1 := Lib.hid (KeepO.below HK.out hb1)
  clear hb1 HK k0 k1 k2 k3 k4 k5 k6
  go_wp2_with fail
  refine (HO1.out _).mono ?_
  rintro e w2 ⟨rfl, hb2⟩
  have K2 := Lib.hid (KeepO.below K1.out hb2)
  clear hb2 K1
  obtain ⟨k0, k1, k2, k3, k4, k5, k6⟩ := st_cells K2.out.cs
  cases o1 with
  | false =>
    go_wp2_with fail
    go_ret
    exact ⟨by first | rfl | simp, K2.out.1⟩
  | true =>
    go_wp2_with fail
    refine (HB1.out _).mono ?_
    rintro e w3 ⟨rfl, hb3⟩
    have K3 := Lib.hid (KeepO.below K2.out hb3)
    clear hb3 K2 k0 k1 k2 k3 k4 k5 k6
    go_wp2_with fail
    refine (HO2.out _).mono ?_
    rintro e w4 ⟨rfl, hb4⟩
    have K4 := Lib.hid (KeepO.below K3.out hb4)
    clear hb4 K3
    go_wp2_with fail
    go_ret
    exact ⟨by first | rfl | simp, K4.out.1⟩


set_option maxRecDepth 100000 in
set_option maxHeartbeats 4000000 in
theorem use1_any (s : Sty) (hs : smS s) (sb hb : Nat) (sec hour : Int) (w : World) (h1 : w.cell? ⟨sb, 0, none⟩ = some (.int .i64 sec)) (h2 : w.cell? ⟨hb, 0, none⟩ = some (.int .i64 hour)) :
    Calls Try.prog 84 #[stV s, .pointer (some ⟨sb, 0, none⟩), .pointer (some ⟨hb, 0, none⟩)] w fun e w' => e = .returned (.bool (cvS s sec hour)) ∧ Below w.heap.size w w' := by
  have HC := Lib.hid (fun W => covers_any s hs sec hour W)
  have l1 := World.block_lt_of_cell? w _ h1
  have l2 := World.block_lt_of_cell? w _ h2
  have c1 := (World.cell?_alloc_lt w (.cells (svV s).toArray 90) ⟨sb, 0, none⟩ l1).trans h1
  have c2 := (World.cell?_alloc_lt w (.cells (svV s).toArray 90) ⟨hb, 0, none⟩ l2).trans h2
  obtain ⟨k0, k1, k2, k3, k4, k5, k6⟩ := st_cells (KeepO.start w s 90).cs
  have HB0 := Lib.hid (below_one w (.cells (svV s).toArray 90))
  generalize cvS s sec hour = r at *
  clear h1 h2 l1 l2 hs
  go_enter Try.func84, Try.ntmps84
  go_wp2_with fail
  refine (HC.out _).mono ?_
  rintro e w1 ⟨rfl, hb1⟩
  have HB1 := Lib.hid (HB0.out.trans (hb1.mono HB0.out.size))
  clear hb1 k0 k1 k2 k3 k4 k5 k6 c1 c2
  go_wp2_with fail
  go_ret
  exact ⟨rfl, HB1.out⟩

set_option maxRecDepth 100000 in
set_option maxHeartbeats 4000000 in
theorem ixUse_any (sb hb : Nat) (sec hour : Int) (v : Value) (M : List Sty) (hl : M.length ≤ 1048576) (hok : ∀ s ∈ M, smS s) (w : World) (h : StL w v M) (h1 : w.cell? ⟨sb, 0, none⟩ = some (.int .i64 sec)) (h2 : w.cell? ⟨hb, 0, none⟩ = some (.int .i64 hour)) :
    Calls Try.prog 83 #[v, .func (.func 84) #[] #[.pointer (some ⟨sb, 0, none⟩), .pointer (some ⟨hb, 0, none⟩)]] w fun e w' => e = .returned (.int .i64 (fstQ (fun j => cvS (M.getD j zSt) sec hour) M.length)) ∧ Below w.heap.size w w' := by
  obtain ⟨n, hn⟩ : ∃ n, M.length = n := ⟨_, rfl⟩
  have HN := Lib.hid hn
  have HOk := Lib.hid hok
  obtain ⟨a, c, rfl, hc⟩ := h
  have HC := Lib.hid hc
  rw [hn] at hl ⊢
  have HX := Lib.hid (fun (y : Sty) (hy : smS y) (W : World) (hW : Below w.heap.size w W) => use1_any y hy sb hb sec hour W ((hW.cell (p := ⟨sb, 0, none⟩) (World.block_lt_of_cell? w _ h1)).trans h1) ((hW.cell (p := ⟨hb, 0, none⟩) (World.block_lt_of_cell? w _ h2)).trans h2))
  clear h1 h2
  have B0 := Lib.hid (Below.refl w.heap.size w)
  clear hc hn hok
  go_enter Try.func83, Try.ntmps83
  go_wp2_with fail
  go_loopw [8] (fun i wr => ∃ k : Nat, k ≤ n ∧ i = .int .i64 k ∧ Hid (∀ j, j < k → cvS (M.getD j zSt) sec hour = false) ∧ Hid (Below w.heap.size w wr)) (fun i _ => n - (intOf i).toNat)
  case atStart => exact ⟨0, Nat.zero_le _, rfl, Lib.hid fun j hj => by omega, B0⟩
  case round =>
    obtain ⟨k, hk, rfl, HK, HB⟩ := hrel
    by_cases hlt : k < n
    · obtain ⟨g, off, rfl, hg, hcc⟩ := HC.out (by have := HN.out; omega)
      obtain ⟨y, hy⟩ := get_at HN.out hlt
      obtain ⟨a0, a1, a2, a3, a4, a5, a6⟩ := st_cells (rangeAt_below (hcc k _ hy) HB.out hg)
      have HE := Lib.hid (HX.out y (HOk.out y (List.mem_of_getElem? hy)) wr HB.out)
      have HG : Hid (M.getD k zSt = y) := Lib.hid (by simp [List.getD, hy])
      have hki : (k : Int) < (n : Int) := by omega
      clear hcc hy hg
      cases hcl : cvS y sec hour with
      | true =>
        rw [hcl] at HE
        have HF : Hid (fstQ (fun j => cvS (M.getD j zSt) sec hour) n = (k : Int)) := Lib.hid (fstQ_some hlt (by rw [HG.out]; exact hcl) HK.out)
        clear hcl
        go_wp2_with fail
        refine HE.out.mono ?_
        rintro e w1 ⟨rfl, hb⟩
        have HB2 := Lib.hid (below3q hb HB.out)
        clear hb a0 a1 a2 a3 a4 a5 a6
        go_wp2_with fail
        go_ret
        exact ⟨by rw [HF.out]; rfl, HB2.out⟩
      | false =>
        rw [hcl] at HE
        have HK2 : Hid (∀ j, j < k + 1 → cvS (M.getD j zSt) sec hour = false) := Lib.hid fun j hj => by
          by_cases e : j = k
          · subst e; rw [HG.out]; exact hcl
          · exact HK.out j (by omega)
        clear hcl
        go_wp2_with fail
        refine HE.out.mono ?_
        rintro e w1 ⟨rfl, hb⟩
        have HB2 := Lib.hid (below3q hb HB.out)
        clear hb a0 a1 a2 a3 a4 a5 a6
        go_wp2_with fail
        exact ⟨⟨k + 1, by omega, by go_num, HK2, HB2⟩, by simp [intOf]; omega⟩
    · obtain rfl : k = n := by omega
      have HF : Hid (fstQ (fun j => cvS (M.getD j zSt) sec hour) k = -1) := Lib.hid (fstQ_none HK.out)
      go_wp2_with fail
      go_ret
      exact ⟨by rw [HF.out]; rfl, HB.out⟩

/-- The use of the first sections. -/
def useQ (M : List Sty) (hour : Int) (n : Nat) : List Int := (List.range n).map fun (s : Nat) => fstQ (fun j => cvS (M.getD j zSt) (s : Int) hour) M.length
theorem useQ_succ (M : List Sty) (hour : Int) (n : Nat) : useQ M hour (n + 1) = useQ M hour n ++ [fstQ (fun j => cvS (M.getD j zSt) (n : Int) hour) M.length] := by simp [useQ, List.range_succ]
theorem useQ_len (M : List Sty) (hour : Int) (n : Nat) : (useQ M hour n).length = n := by simp [useQ]
def hrB (hour : Int) : Bool := decide (0 ≤ hour ∧ hour ≤ 1100)
def useR (q : Int) (S : List Shp) (P : List Brt) (hour : Int) : List Int := if (askQ q S P && hrB hour) = true then useQ (stsQ S P P.length) hour q.toNat else []
theorem useR_no {q : Int} {S : List Shp} {P : List Brt} {hour : Int} (h : (askQ q S P && hrB hour) = false) : useR q S P hour = [] := by simp [useR, h]
theorem useR_len (q : Int) (S : List Shp) (P : List Brt) (hour : Int) : (useR q S P hour).length ≤ 1000 := by
  unfold useR
  split
  · next h =>
    simp only [Bool.and_eq_true] at h
    have := isQ_iff.1 (askQ_iff.1 h.1).1
    rw [useQ_len]
    omega
  · simp
theorem MoC.stl0 {w : World} {b : Nat} {q : Int} {M : List Sty} (h : MoC w b 0 q M) : StL w (.slice (some ⟨b, 2, none⟩) M.length 5) M := h.stl
theorem NumS.lower {w wa wr : World} {sv : Value} {S : List Int} (h : NumS wa wr sv S) (hb : Below w.heap.size w wa) : NumS w wr sv S := by
  refine ⟨⟨h.1.1, ?_⟩, hb.trans (h.2.1.mono hb.size), h.2.2⟩
  rcases h.1.2 with h2 | ⟨g, cap, cur, h3, h4, h5⟩
  · exact .inl h2
  · exact .inr ⟨g, cap, cur, h3, Nat.le_trans hb.size h4, h5⟩
theorem hrB_no {hour : Int} (h : ¬ (0 ≤ hour ∧ hour ≤ 1100)) : hrB hour = false := decide_eq_false h

set_option maxRecDepth 100000 in
set_option maxHeartbeats 8000000 in
theorem implQu_any (q : Int) (v vp : Value) (hour : Int) (S : List Shp) (P : List Brt) (hs : S.length ≤ 1048576) (hn : P.length ≤ 1048576) (w : World) (hv : QsL w v S) (hvp : QbL w vp P) :
    Calls Try.prog 28 #[.int .i64 q, v, vp, .int .i64 hour] w (RetL w (useR q S P hour) (askQ q S P && hrB hour)) := by
  obtain ⟨f3, hi3, hz0, hz1, hz2⟩ := info_is info3
  have hb00 := Lib.hid (below_one w (.cells #[.int .i64 hour] 3))
  have hk0 := cell_of (last_alloc w (.cells #[.int .i64 hour] 3)) (i := 0) rfl
  have hw1 : (w.alloc (.cells #[.int .i64 hour] 3)).heap.size = w.heap.size + 1 := by simp
  have hw2 : ((w.alloc (.cells #[.int .i64 hour] 3)).alloc (.cells #[] 3)).heap.size = w.heap.size + 1 + 1 := by simp
  have R0 : Hid (NumS (w.alloc (.cells #[.int .i64 hour] 3)) ((w.alloc (.cells #[.int .i64 hour] 3)).alloc (.cells #[] 3)) (.slice (some ⟨w.heap.size + 1, 0, none⟩) 0 0) []) := Lib.hid (by
    have := numS_start (w.alloc (.cells #[.int .i64 hour] 3))
    rwa [show (⟨(w.alloc (.cells #[.int .i64 hour] 3)).heap.size, 0, none⟩ : Addr) = ⟨w.heap.size + 1, 0, none⟩ by rw [hw1]] at this)
  have hb0 := Lib.hid (hb00.out.alloc hb00.out.size (.cells #[] 3))
  have H1 := Lib.hid (mooringOf_any q v vp S P hs hn _ (hv.below hb0.out) (hvp.below hb0.out))
  have HOk := Lib.hid (mfM_ok (q := q) (S := S) (P := P))
  have HU : Hid (askQ q S P = true → hrB hour = true → useR q S P hour = useQ (mfM q S P) hour q.toNat) := Lib.hid fun h h2 => by
    rw [useR, h, h2, (mf_yes h).2]
    rfl
  have HQb : Hid (askQ q S P = true → 1 ≤ q ∧ q ≤ 30) := Lib.hid fun h => isQ_iff.1 (askQ_iff.1 h).1
  have HNo : Hid ((askQ q S P && hrB hour) = false → useR q S P hour = []) := Lib.hid useR_no
  have HW1 := Lib.hid hw1
  have HW2 := Lib.hid hw2
  have HK0 := Lib.hid hk0
  generalize useR q S P hour = R at *
  have HHb : Hid (∀ b, hrB hour = b → hrB hour = b) := Lib.hid fun _ h => h
  obtain ⟨hbv, hhb⟩ : ∃ b, hrB hour = b := ⟨_, rfl⟩
  rw [hhb] at HU HNo ⊢
  have HHv := Lib.hid hhb
  clear hv hvp hhb HHb hw1 hw2 hk0 hb0
  unfold MfP at H1
  generalize askQ q S P = bq at *
  generalize mfM q S P = M at *
  generalize mfQ q S P = q1 at *
  go_enter Try.func28, Try.ntmps28
  go_wp2_with fail
  generalize w.alloc (.cells #[.int .i64 hour] 3) = wa at *
  generalize wa.alloc (.cells #[] 3) = w0 at *
  refine H1.out.mono ?_
  rintro e w1 ⟨xs, hx, rfl, hb⟩
  have HX := Lib.hid hx
  have HR1 := Lib.hid (R0.out.below hb)
  have HBm : Hid (w.heap.size + 1 < w1.heap.size) := Lib.hid (by have := hb.size; have := HW2.out; omega)
  have HH1 : Hid (w1.cell? ⟨w.heap.size, 0, none⟩ = some (.int .i64 hour)) := Lib.hid ((HR1.out.2.1.cell (p := ⟨w.heap.size, 0, none⟩) (by have := HW1.out; simp only; omega)).trans HK0.out)
  clear hx hb
  cases bq with
  | false =>
    go_wp2_with (first | (refine wpList_newM rfl rfl ?_; intro W2 hN2; have N2 := Lib.hid hN2; clear hN2) | (refine wpList_putM rfl _ _ rfl w1.heap.size rfl xs rfl HX.out.1 N2.out.there ?_; intro W3 hP3; have c3 := ((N2.out.put hP3 HX.out).2.1.cell (p := ⟨w.heap.size, 0, none⟩) (by have := HBm.out; simp only; omega)).trans HH1.out; have HM := Lib.hid (N2.out.put hP3 HX.out).1; have HR3 := Lib.hid (HR1.out.below (N2.out.put hP3 HX.out).2.1); clear hP3))
    have HE := HNo.out rfl
    subst HE
    have HRt := Lib.hid (retL_numsQ (HR3.out.lower hb00.out) false)
    go_ret2
    exact HRt.out
  | true =>
  by_cases c1 : hour < 0
  case pos =>
    have d1 : decide (hour < 0) = true := decide_eq_true c1
    obtain rfl : hbv = false := by rw [← HHv.out]; exact hrB_no (by omega)
    go_wp2_with (first | (refine wpList_newM rfl rfl ?_; intro W2 hN2; have N2 := Lib.hid hN2; clear hN2) | (refine wpList_putM rfl _ _ rfl w1.heap.size rfl xs rfl HX.out.1 N2.out.there ?_; intro W3 hP3; have c3 := ((N2.out.put hP3 HX.out).2.1.cell (p := ⟨w.heap.size, 0, none⟩) (by have := HBm.out; simp only; omega)).trans HH1.out; have HM := Lib.hid (N2.out.put hP3 HX.out).1; have HR3 := Lib.hid (HR1.out.below (N2.out.put hP3 HX.out).2.1); clear hP3))
    have HE := HNo.out rfl
    subst HE
    have HRt := Lib.hid (retL_numsQ (HR3.out.lower hb00.out) false)
    go_ret2
    exact HRt.out
  have d1 : decide (hour < 0) = false := decide_eq_false c1
  by_cases c2 : 1100 < hour
  case pos =>
    have d2 : decide (1100 < hour) = true := decide_eq_true c2
    obtain rfl : hbv = false := by rw [← HHv.out]; exact hrB_no (by omega)
    go_wp2_with (first | (refine wpList_newM rfl rfl ?_; intro W2 hN2; have N2 := Lib.hid hN2; clear hN2) | (refine wpList_putM rfl _ _ rfl w1.heap.size rfl xs rfl HX.out.1 N2.out.there ?_; intro W3 hP3; have c3 := ((N2.out.put hP3 HX.out).2.1.cell (p := ⟨w.heap.size, 0, none⟩) (by have := HBm.out; simp only; omega)).trans HH1.out; have HM := Lib.hid (N2.out.put hP3 HX.out).1; have HR3 := Lib.hid (HR1.out.below (N2.out.put hP3 HX.out).2.1); clear hP3))
    have HE := HNo.out rfl
    subst HE
    have HRt := Lib.hid (retL_numsQ (HR3.out.lower hb00.out) false)
    go_ret2
    exact HRt.out
  have d2 : decide (1100 < hour) = false := decide_eq_false c2
  obtain rfl : hbv = true := by rw [← HHv.out]; exact decide_eq_true (by omega)
  have HE := HU.out rfl rfl
  obtain ⟨hq1, hq2⟩ := HQb.out rfl
  obtain ⟨nq, rfl⟩ : ∃ nq : Nat, q = (nq : Int) := ⟨q.toNat, by omega⟩
  have hnq : nq ≤ 30 := by omega
  rw [show ((nq : Int)).toNat = nq by simp] at HE
  subst HE
  clear HU HNo HQb hq1 hq2
  go_wp2_with (first | (refine wpList_newM rfl rfl ?_; intro W2 hN2; have N2 := Lib.hid hN2; clear hN2) | (refine wpList_putM rfl _ _ rfl w1.heap.size rfl xs rfl HX.out.1 N2.out.there ?_; intro W3 hP3; have c3 := ((N2.out.put hP3 HX.out).2.1.cell (p := ⟨w.heap.size, 0, none⟩) (by have := HBm.out; simp only; omega)).trans HH1.out; have HM := Lib.hid (N2.out.put hP3 HX.out).1; have HR3 := Lib.hid (HR1.out.below (N2.out.put hP3 HX.out).2.1); clear hP3))
  have HBk := Lib.hid HBm.out
  have hl5 := HM.out.2.2.2.2.2
  clear N2 HX HR1 HH1 c3 R0
  generalize w1.heap.size = bm at *
  go_loopw [10, 34] (fun s i wr => ∃ k : Nat, k ≤ nq ∧ i = .int .i64 k ∧ Hid (NumS wa wr s (useQ M hour k)) ∧ Hid (∀ b, s.ownBlock = some b → b ≠ bm) ∧ Hid (MoC wr bm 0 q1 M)) (fun _ i _ => nq - (intOf i).toNat)
  case atStart => exact ⟨0, Nat.zero_le _, rfl, HR3, Lib.hid (fun b hb => by injection hb with hb; subst hb; have := HBk.out; simp only; omega), HM⟩
  case round =>
    obtain ⟨k, hk, rfl, HR, HAp, HMo⟩ := hrel
    by_cases hlt : k < nq
    · have HB1 := Lib.hid (below_one wr (.cells #[.int .i64 (k : Int)] 3))
      have HR2 := Lib.hid (HR.out.below HB1.out)
      have HM2 := Lib.hid (HMo.out.below HB1.out)
      have HC1 := Lib.hid (moored0_any bm q1 M _ HM2.out)
      have HS1 : Hid ((wr.alloc (.cells #[.int .i64 (k : Int)] 3)).cell? ⟨wr.heap.size, 0, none⟩ = some (.int .i64 (k : Int))) := Lib.hid (cell_of (last_alloc wr _) rfl)
      have HK2 := Lib.hid (useQ_succ M hour k)
      have hki : (k : Int) < (nq : Int) := by omega
      have hlen : (useQ M hour k).length ≤ 30 := by rw [useQ_len]; omega
      clear HMo
      go_wp2_with fail
      refine HC1.out.mono ?_
      rintro e w5 ⟨rfl, hb5⟩
      have HR5 := Lib.hid (HR2.out.below hb5)
      have HM5 := Lib.hid (HM2.out.below hb5)
      have s5 : w5.cell? ⟨wr.heap.size, 0, none⟩ = some (.int .i64 (k : Int)) := (hb5.cell (p := ⟨wr.heap.size, 0, none⟩) (by simp)).trans HS1.out
      have h5 : w5.cell? ⟨w.heap.size, 0, none⟩ = some (.int .i64 hour) := (HR5.out.2.1.cell (p := ⟨w.heap.size, 0, none⟩) (by have := HW1.out; simp only; omega)).trans HK0.out
      have HI := Lib.hid (ixUse_any wr.heap.size w.heap.size (k : Int) hour _ M (by omega) (fun s hs => (HOk.out s hs).small) w5 HM5.out.stl0 s5 h5)
      clear hb5 s5 h5 HC1 HS1 HB1 HR2 HM2 HR
      obtain ⟨r, hr⟩ : ∃ r, fstQ (fun j => cvS (M.getD j zSt) (k : Int) hour) M.length = r := ⟨_, rfl⟩
      rw [hr] at HI HK2
      clear hr
      go_wp2_with fail
      refine HI.out.mono ?_
      rintro e w6 ⟨rfl, hb6⟩
      have HR6 := Lib.hid (HR5.out.below hb6)
      have HM6 := Lib.hid (HM5.out.below hb6)
      clear hb6 HR5 HM5 HI
      have hrow := HR6.out.1
      have hz := HR6.out.2.1.size
      generalize hSS : useQ M hour k = SS at *
      go_wp2_with (at_builtin; refine wpList_append_own_at _ rfl _ _ 25 rfl wa.heap.size 3 f3 (.int .i64 0) 1 8 Try.underlying25 hi3 hz0 ‹_› hz2 rfl (by decide) _ _ _ rfl (hrow.alloc _) ⟨w6.heap.size, 0, none⟩ 1 1 [.int .i64 r] rfl rfl (cell_one_new _ _ _) (by simp [Value.oneCell']) (by unfold maxLen; omega) (by omega) (by simp; omega) ?_; intro v' w4 hown' hgrow hnil hat)
      have HN4 : Hid (NumS wa w4 v' (useQ M hour (k + 1))) := Lib.hid (by rw [HK2.out]; exact HR6.out.push hown' hgrow (fun e => by have := (hnil.1 e).2; omega))
      have HM7 : Hid (MoC w4 bm 0 q1 M) := Lib.hid (MoC.grew HM6.out hgrow HAp.out)
      have HAp2 : Hid (∀ b, v'.ownBlock = some b → b ≠ bm) := Lib.hid fun b hb => by
        rcases hat with e | e
        · exact HAp.out b (Eq.trans e.symm hb)
        · rw [e] at hb
          injection hb with hb
          have := HM6.out.block
          simp at hb
          omega
      clear hown' hgrow hnil hrow hat
      exact ⟨⟨k + 1, by omega, by go_num, HN4, HAp2, HM7⟩, by simp [intOf]; omega⟩
    · obtain rfl : k = nq := by omega
      have HX := Lib.hid (retL_numsQ (HR.out.lower hb00.out) true)
      go_wp2_with fail
      go_ret2
      exact HX.out
end

section
open Go.RowKit
/-- The last number below n with a property, or -1. -/
def lstQ (f : Nat → Bool) : Nat → Int
  | 0 => -1
  | n + 1 => if f n = true then (n : Int) else lstQ f n
theorem lstQ_some {f : Nat → Bool} {k : Nat} (h1 : f k = true) : ∀ n, k < n → (∀ j, k < j → j < n → f j = false) → lstQ f n = (k : Int)
  | 0, hk, _ => by omega
  | n + 1, hk, h => by
    rw [lstQ]
    by_cases e : k = n
    · subst e; rw [if_pos h1]
    · rw [if_neg (by rw [h n (by omega) (by omega)]; simp)]
      exact lstQ_some h1 n (by omega) fun j q1 q2 => h j q1 (by omega)
theorem lstQ_none {f : Nat → Bool} : ∀ n, (∀ j, j < n → f j = false) → lstQ f n = -1
  | 0, _ => rfl
  | n + 1, h => by
    rw [lstQ, if_neg (by rw [h n (by omega)]; simp)]
    exact lstQ_none n fun j q => h j (by omega)
theorem lst_fst {f : Nat → Bool} {n : Nat} (h : ∀ i j, i < j → j < n → f i = true → f j = true → False) : lstQ f n = fstQ f n := by
  by_cases he : ∃ k, k < n ∧ f k = true
  · obtain ⟨k, hk, hf⟩ := he
    have n1 : ∀ j, j < k → f j = false := fun j hj => by
      cases e : f j with
      | false => rfl
      | true => exact (h j k hj hk e hf).elim
    have n2 : ∀ j, k < j → j < n → f j = false := fun j hj hn => by
      cases e : f j with
      | false => rfl
      | true => exact (h k j hj hn hf e).elim
    rw [lstQ_some hf n hk n2, fstQ_some hk hf n1]
  · have n1 : ∀ j, j < n → f j = false := fun j hj => by
      cases e : f j with
      | false => rfl
      | true => exact (he ⟨j, hj, e⟩).elim
    rw [lstQ_none n n1, fstQ_none n1]
theorem cv_apt {x y : Sty} {sec hour : Int} (h1 : cvS x sec hour = true) (h2 : cvS y sec hour = true) (h : aptB y.2.1 y.2.2 x.2.1 x.2.2 = true) : False := by
  simp only [cvS, inB, Bool.and_eq_true, decide_eq_true_eq] at h1 h2
  have := aptB_iff.1 h
  omega
theorem use_excl {q : Int} {S : List Shp} {P : List Brt} (ha : askQ q S P = true) (sec hour : Int) : ∀ i j, i < j → j < P.length → cvS ((stsQ S P P.length).getD i zSt) sec hour = true → cvS ((stsQ S P P.length).getD j zSt) sec hour = true → False := fun i j hij hj h1 h2 => by
  have hl := (ask_len ha).1
  obtain ⟨x, hx⟩ := get_at (Y := S) rfl (show j < S.length by omega)
  obtain ⟨b, hb⟩ := get_at (Y := P) rfl hj
  have hs := upQ_step (askQ_iff.1 ha).2.2.2 hj
  rw [stepQ_get hx hb, canB, Bool.and_eq_true] at hs
  have hm := stsQ_get (S := S) (P := P) hij
  have := List.all_eq_true.1 hs.2 _ (List.mem_of_getElem? hm)
  have e1 : (stsQ S P P.length).getD i zSt = ((i : Int), S.getD i zS, P.getD i zB) := by rw [List.getD_eq_getElem?_getD, stsQ_get (by omega)]; rfl
  have e2 : (stsQ S P P.length).getD j zSt = ((j : Int), x, b) := by rw [List.getD_eq_getElem?_getD, stsQ_get hj]; simp [List.getD, hx, hb]
  rw [e1] at h1
  rw [e2] at h2
  exact cv_apt h1 h2 this
theorem l1In_is (a lo hi : Int) (W : World) : Calls Try.prog 87 #[.int .i64 a, .int .i64 lo, .int .i64 hi] W fun e w' => e = .returned (.bool (decide (lo ≤ a ∧ a ≤ hi))) ∧ W = w' := by
  by_cases h : lo ≤ a ∧ a ≤ hi
  · rw [decide_eq_true h]; exact l1In_yes a lo hi W h.1 h.2
  · rw [decide_eq_false h]; exact l1In_no a lo hi W (by omega)
theorem in_is (a b n : Int) : decide (a ≤ n ∧ n ≤ b - 1) = inB a b n := by
  unfold inB
  rw [Bool.eq_iff_iff]
  simp
  omega

set_option maxRecDepth 100000 in
set_option maxHeartbeats 8000000 in
theorem specQu_any (q : Int) (v vp : Value) (hour : Int) (S : List Shp) (P : List Brt) (hs : S.length ≤ 1048576) (hn : P.length ≤ 1048576) (w : World) (hv : QsL w v S) (hvp : QbL w vp P) :
    Calls Try.prog 29 #[.int .i64 q, v, vp, .int .i64 hour] w (RetL w (useR q S P hour) (askQ q S P && hrB hour)) := by
  obtain ⟨f3, hi3, hz0, hz1, hz2⟩ := info_is info3
  have R0 := Lib.hid (numS_start w)
  have HS := Lib.hid (l14Asked_any q v vp S P hs hn _ (hv.below (below_one w (.cells #[] 3))) (hvp.below (below_one w (.cells #[] 3))))
  have HHr := Lib.hid (fun W => l1In_is hour 0 1100 W)
  rw [show decide (0 ≤ hour ∧ hour ≤ 1100) = hrB hour from rfl] at HHr
  cases ha : askQ q S P with
  | false =>
    rw [ha] at HS
    rw [useR_no (by rw [ha]; rfl), Bool.false_and]
    clear hv hvp ha HHr
    go_enter Try.func29, Try.ntmps29
    go_wp2_with fail
    generalize hW0 : w.alloc (.cells #[] 3) = w0 at *
    refine HS.out.mono ?_
    rintro e w1 ⟨rfl, hb⟩
    have HX := Lib.hid (retL_numsR (R0.out.below hb) false)
    clear hb
    go_wp2_with fail
    go_ret2
    exact HX.out
  | true =>
  rw [ha] at HS
  cases hh : hrB hour with
  | false =>
    rw [hh] at HHr
    rw [useR_no (by rw [hh, Bool.and_false]), Bool.and_false]
    clear hv hvp ha hh
    go_enter Try.func29, Try.ntmps29
    go_wp2_with fail
    generalize hW0 : w.alloc (.cells #[] 3) = w0 at *
    refine HS.out.mono ?_
    rintro e w1 ⟨rfl, hb⟩
    have HX := Lib.hid (retL_numsR (R0.out.below hb) false)
    clear hb
    go_wp2_with fail
    refine (HHr.out _).mono ?_
    rintro e w2 ⟨rfl, rfl⟩
    go_wp2_with fail
    go_ret2
    exact HX.out
  | true =>
  rw [hh] at HHr
  rw [show useR q S P hour = useQ (stsQ S P P.length) hour q.toNat by simp [useR, ha, hh], Bool.true_and]
  have HA := Lib.hid ha
  have hqb := isQ_iff.1 (askQ_iff.1 ha).1
  have HEx := Lib.hid (fun (sec : Int) => lst_fst (use_excl ha sec hour))
  have HLn := Lib.hid (stsQ_len S P P.length)
  obtain ⟨hmn, h5⟩ := ask_len ha
  obtain ⟨a0, c0, rfl, hc0⟩ := hv
  obtain ⟨a1, c1, rfl, hc1⟩ := hvp
  obtain ⟨n, hl⟩ : ∃ n, P.length = n := ⟨_, rfl⟩
  have hm : S.length = n := by omega
  have HM := Lib.hid hm
  have HN := Lib.hid hl
  have HC0 := Lib.hid hc0
  have HC1 := Lib.hid hc1
  have HUs := Lib.hid (fun k => useQ_succ (stsQ S P P.length) hour k)
  rw [hl] at h5 HS HEx HLn HUs ⊢
  rw [hm] at HS ⊢
  obtain ⟨nq, rfl⟩ : ∃ nq : Nat, q = (nq : Int) := ⟨q.toNat, by omega⟩
  have hnq : nq ≤ 30 := by omega
  rw [show ((nq : Int)).toNat = nq by simp]
  clear hc0 hc1 hl hm ha hmn hqb hh
  go_enter Try.func29, Try.ntmps29
  go_wp2_with fail
  generalize hW0 : w.alloc (.cells #[] 3) = w0 at *
  refine HS.out.mono ?_
  rintro e w1 ⟨rfl, hb⟩
  have HR1 := Lib.hid (R0.out.below hb)
  clear hb HS
  go_wp2_with fail
  refine (HHr.out _).mono ?_
  rintro e w2 ⟨rfl, rfl⟩
  go_wp2_with fail
  go_loopw [10, 11] (fun s i wr => ∃ k : Nat, k ≤ nq ∧ i = .int .i64 k ∧ Hid (NumS w wr s (useQ (stsQ S P n) hour k))) (fun _ i _ => nq - (intOf i).toNat)
  case atStart => exact ⟨0, Nat.zero_le _, rfl, HR1⟩
  case round =>
    obtain ⟨k, hk, rfl, HR⟩ := hrel
    by_cases hlt : k < nq
    case neg =>
      obtain rfl : k = nq := by omega
      have HX := Lib.hid (retL_numsR HR.out true)
      go_wp2_with fail
      go_ret2
      exact HX.out
    have HK2 := Lib.hid (HUs.out k)
    have HEk := Lib.hid (HEx.out (k : Int))
    have hlen : (useQ (stsQ S P n) hour k).length ≤ 30 := by rw [useQ_len]; omega
    rw [HLn.out, ← HEk.out] at HK2
    go_wp2_with fail
    go_loopw [12, 13] (fun z i wr => ∃ j : Nat, j ≤ n ∧ i = .int .i64 j ∧ z = .int .i64 (lstQ (fun j => cvS ((stsQ S P n).getD j zSt) (k : Int) hour) j) ∧ Hid (NumS w wr u10 (useQ (stsQ S P n) hour k))) (fun _ i _ => n - (intOf i).toNat)
    case atStart => exact ⟨0, Nat.zero_le _, rfl, rfl, HR⟩
    case round =>
      obtain ⟨j, hj, rfl, rfl, HR⟩ := hrel
      by_cases hjn : j < n
      case neg =>
        obtain rfl : j = n := by omega
        have HR9 := Lib.hid HR.out
        obtain ⟨r, hr⟩ : ∃ r, lstQ (fun i => cvS ((stsQ S P j).getD i zSt) (k : Int) hour) j = r := ⟨_, rfl⟩
        rw [hr] at HK2 ⊢
        clear hr HR
        have hrow := HR9.out.1
        have hz := HR9.out.2.1.size
        generalize hSS : useQ (stsQ S P j) hour k = SS at *
        go_wp2_with (at_builtin; refine wpList_append_own _ rfl _ _ 25 rfl w.heap.size 3 f3 (.int .i64 0) 1 8 Try.underlying25 hi3 hz0 ‹_› hz2 rfl (by decide) _ _ _ rfl (hrow.alloc _) ⟨wr.heap.size, 0, none⟩ 1 1 [.int .i64 r] rfl rfl (cell_one_new _ _ _) (by simp [Value.oneCell']) (by unfold maxLen; omega) (by omega) (by simp; omega) ?_; intro v' w4 hown' hgrow hnil)
        have HN4 : Hid (NumS w w4 v' (useQ (stsQ S P j) hour (k + 1))) := Lib.hid (by rw [HK2.out]; exact HR9.out.push hown' hgrow (fun e => by have := (hnil.1 e).2; omega))
        clear hown' hgrow hnil hrow
        exact ⟨⟨k + 1, by omega, by go_num, HN4⟩, by simp [intOf]; omega⟩
      obtain ⟨g, off, rfl, hg, hcc⟩ := HC0.out (by have := HM.out; omega)
      obtain ⟨g2, off2, rfl, hg2, hcc2⟩ := HC1.out (by have := HN.out; omega)
      obtain ⟨x, hx⟩ := get_at HM.out hjn
      obtain ⟨b, hb⟩ := get_at HN.out hjn
      have HOk := ask_at HA.out hx hb
      have hsm := HOk.small
      unfold smS at hsm
      have HG : Hid ((stsQ S P n).getD j zSt = ((j : Int), x, b)) := Lib.hid (by rw [List.getD_eq_getElem?_getD, stsQ_get hjn]; simp [List.getD, hx, hb])
      obtain ⟨l, a, h, c⟩ := x
      obtain ⟨p, t⟩ := b
      have a0 := (HR.out.2.1.cell (p := ⟨g, off + j * 4, none⟩) hg).trans (hcc j _ hx).1
      have a2 := (HR.out.2.1.cell (p := ⟨g, off + j * 4 + 2, none⟩) hg).trans (hcc j _ hx).2.2.1
      have b0 := (HR.out.2.1.cell (p := ⟨g2, off2 + j * 2, none⟩) hg2).trans (hcc2 j _ hb).1
      have b1 := (HR.out.2.1.cell (p := ⟨g2, off2 + j * 2 + 1, none⟩) hg2).trans (hcc2 j _ hb).2
      have HB1 := below_one wr (.cells #[.int .i64 p, .int .i64 t] 46)
      have a0' := (HB1.cell (p := ⟨g, off + j * 4, none⟩) (World.block_lt_of_cell? wr _ a0)).trans a0
      have a2' := (HB1.cell (p := ⟨g, off + j * 4 + 2, none⟩) (World.block_lt_of_cell? wr _ a2)).trans a2
      have p0 := cell_of (last_alloc wr (.cells #[.int .i64 p, .int .i64 t] 46)) (i := 0) rfl
      have p1 := cell_of (last_alloc wr (.cells #[.int .i64 p, .int .i64 t] 46)) (i := 1) rfl
      have HR2 := Lib.hid (HR.out.below HB1)
      have hji : (j : Int) < (n : Int) := by omega
      have HX1 := Lib.hid (fun W => l1In_is (k : Int) p (p + l - 1) W)
      have HX2 := Lib.hid (fun W => l1In_is hour t (t + h - 1) W)
      rw [in_is] at HX1 HX2
      have HCv : Hid (cvS ((stsQ S P n).getD j zSt) (k : Int) hour = (inB p (p + l) (k : Int) && inB t (t + h) hour)) := Lib.hid (by rw [HG.out]; rfl)
      simp only at hsm a0 a2 a0' a2' b0 b1
      have hw1 : IntKind.i64.wrap (p + l) = p + l := by rw [IntKind.wrap_i64]; omega
      have hw2 : IntKind.i64.wrap (p + l - 1) = p + l - 1 := by rw [IntKind.wrap_i64]; omega
      have hw3 : IntKind.i64.wrap (t + h) = t + h := by rw [IntKind.wrap_i64]; omega
      have hw4 : IntKind.i64.wrap (t + h - 1) = t + h - 1 := by rw [IntKind.wrap_i64]; omega
      generalize inB p (p + l) (k : Int) = o1 at *
      generalize inB t (t + h) hour = o2 at *
      clear hcc hcc2 hg hg2 hx hb HOk HR HB1 HG
      have HLs : Hid (lstQ (fun j => cvS ((stsQ S P n).getD j zSt) (k : Int) hour) (j + 1) = if (o1 && o2) = true then (j : Int) else lstQ (fun j => cvS ((stsQ S P n).getD j zSt) (k : Int) hour) j) := Lib.hid (by rw [lstQ, HCv.out])
      obtain ⟨z, hz⟩ : ∃ z, lstQ (fun j => cvS ((stsQ S P n).getD j zSt) (k : Int) hour) j = z := ⟨_, rfl⟩
      rw [hz] at HLs ⊢
      clear hz HCv
      go_wp2_with fail
      clear a0 a2 b0 b1
      generalize hWb : wr.alloc (.cells #[.int .i64 p, .int .i64 t] 46) = Wb at *
      generalize hbb : wr.heap.size = bb at *
      have hst : Wb.drew.cell? ⟨g, off + j * 4, none⟩ = some (.int .i64 l) ∧ Wb.drew.cell? ⟨g, off + j * 4 + 2, none⟩ = some (.int .i64 h) ∧ Wb.drew.cell? ⟨bb, 0, none⟩ = some (.int .i64 p) ∧ Wb.drew.cell? ⟨bb, 1, none⟩ = some (.int .i64 t) := ⟨a0', a2', p0, p1⟩

      cases o1 with
      | true =>
        cases o2
        case false =>
          refine wp_region_held_drew (S := fun W' => W'.cell? ⟨g, off + j * 4, none⟩ = some (.int .i64 l) ∧ W'.cell? ⟨g, off + j * 4 + 2, none⟩ = some (.int .i64 h) ∧ W'.cell? ⟨bb, 0, none⟩ = some (.int .i64 p) ∧ W'.cell? ⟨bb, 1, none⟩ = some (.int .i64 t)) (by kernel_rfl) ?_ (fun hHeld => ?_)
          · exact hst
          refine (wpAnyH_take (i := 0) (v := ?_) rfl (by kernel_rfl) (by kernel_rfl) (by kernel_rfl) (fun _ _ _ h => h) (Or.inl ⟨by rfl, ?_⟩) (by assumption) ?_)
          rotate_left 1
          · (intro w hSw; (try dsimp only at hSw); obtain ⟨s0, s1, s2, s3⟩ := hSw; (go_simp) <;> with_reducible rfl)
          try simp only [List.getElem_toArray, List.getElem_cons_zero, Act.put, List.setIfInBounds_toArray, List.set_cons_zero, List.set_cons_succ]
          refine (wpAnyH_take (i := 1) (v := ?_) rfl (by kernel_rfl) (by kernel_rfl) (by kernel_rfl) (fun _ _ _ h => h) (Or.inl ⟨by rfl, ?_⟩) (by assumption) ?_)
          rotate_left 1
          · (intro w hSw; (try dsimp only at hSw); obtain ⟨s0, s1, s2, s3⟩ := hSw; (go_simp) <;> with_reducible rfl)
          try simp only [List.getElem_toArray, List.getElem_cons_zero, List.getElem_cons_succ, Act.put, List.setIfInBounds_toArray, List.set_cons_zero, List.set_cons_succ]
          refine (wpAnyH_take (i := 2) (v := ?_) rfl (by kernel_rfl) (by kernel_rfl) (by kernel_rfl) (fun _ _ _ h => h) (Or.inl ⟨by rfl, ?_⟩) (by assumption) ?_)
          rotate_left 1
          · (intro w hSw; (try dsimp only at hSw); obtain ⟨s0, s1, s2, s3⟩ := hSw; (go_simp) <;> with_reducible rfl)
          try simp only [List.getElem_toArray, List.getElem_cons_zero, List.getElem_cons_succ, Act.put, List.setIfInBounds_toArray, List.set_cons_zero, List.set_cons_succ]
          refine (wpAnyH_take (i := 3) (v := ?_) rfl (by kernel_rfl) (by kernel_rfl) (by kernel_rfl) (fun _ _ _ h => h) (Or.inl ⟨by rfl, ?_⟩) (by assumption) ?_)
          rotate_left 1
          · (intro w hSw; (try dsimp only at hSw); obtain ⟨s0, s1, s2, s3⟩ := hSw; (go_simp) <;> with_reducible rfl)
          try simp only [List.getElem_toArray, List.getElem_cons_zero, List.getElem_cons_succ, Act.put, List.setIfInBounds_toArray, List.set_cons_zero, List.set_cons_succ]
          refine (wpAnyH_take (i := 4) (v := ?_) rfl (by kernel_rfl) (by kernel_rfl) (by kernel_rfl) (fun _ _ _ h => h) (Or.inl ⟨by rfl, ?_⟩) (by assumption) ?_)
          rotate_left 1
          · (intro w hSw; (try dsimp only at hSw); obtain ⟨s0, s1, s2, s3⟩ := hSw; (go_simp) <;> with_reducible rfl)
          try simp only [List.getElem_toArray, List.getElem_cons_zero, List.getElem_cons_succ, Act.put, List.setIfInBounds_toArray, List.set_cons_zero, List.set_cons_succ]
          refine (wpAnyH_take (i := 5) (v := ?_) rfl (by kernel_rfl) (by kernel_rfl) (by kernel_rfl) (fun _ _ _ h => h) (Or.inl ⟨by rfl, ?_⟩) (by assumption) ?_)
          rotate_left 1
          · (intro w hSw; (try dsimp only at hSw); obtain ⟨s0, s1, s2, s3⟩ := hSw; (go_simp) <;> with_reducible rfl)
          try simp only [List.getElem_toArray, List.getElem_cons_zero, List.getElem_cons_succ, Act.put, List.setIfInBounds_toArray, List.set_cons_zero, List.set_cons_succ]
          refine (wpAnyH_take (i := 6) (v := ?_) rfl (by kernel_rfl) (by kernel_rfl) (by kernel_rfl) (fun _ _ _ h => h) (Or.inl ⟨by rfl, ?_⟩) (by assumption) ?_)
          rotate_left 1
          · (intro w hSw; (try dsimp only at hSw); obtain ⟨s0, s1, s2, s3⟩ := hSw; (go_simp) <;> with_reducible rfl)
          try simp only [List.getElem_toArray, List.getElem_cons_zero, List.getElem_cons_succ, Act.put, List.setIfInBounds_toArray, List.set_cons_zero, List.set_cons_succ]
          refine (wpAnyH_take (i := 7) (v := ?_) rfl (by kernel_rfl) (by kernel_rfl) (by kernel_rfl) (fun _ _ _ h => h) (Or.inl ⟨by rfl, ?_⟩) (by assumption) ?_)
          rotate_left 1
          · (intro w hSw; (try dsimp only at hSw); obtain ⟨s0, s1, s2, s3⟩ := hSw; (go_simp) <;> with_reducible rfl)
          try simp only [List.getElem_toArray, List.getElem_cons_zero, List.getElem_cons_succ, Act.put, List.setIfInBounds_toArray, List.set_cons_zero, List.set_cons_succ]
          refine (wpAnyH_take (i := 8) (v := ?_) rfl (by kernel_rfl) (by kernel_rfl) (by kernel_rfl) (fun _ _ _ h => h) (Or.inl ⟨by rfl, ?_⟩) (by assumption) ?_)
          rotate_left 1
          · (intro w hSw; (try dsimp only at hSw); obtain ⟨s0, s1, s2, s3⟩ := hSw; (go_simp) <;> with_reducible rfl)
          try simp only [List.getElem_toArray, List.getElem_cons_zero, List.getElem_cons_succ, Act.put, List.setIfInBounds_toArray, List.set_cons_zero, List.set_cons_succ]
          refine (wpAnyH_take (i := 9) (v := ?_) rfl (by kernel_rfl) (by kernel_rfl) (by kernel_rfl) (fun _ _ _ h => h) (Or.inl ⟨by rfl, ?_⟩) (by assumption) ?_)
          rotate_left 1
          · (intro w hSw; (try dsimp only at hSw); obtain ⟨s0, s1, s2, s3⟩ := hSw; (go_simp) <;> with_reducible rfl)
          try simp only [List.getElem_toArray, List.getElem_cons_zero, List.getElem_cons_succ, Act.put, List.setIfInBounds_toArray, List.set_cons_zero, List.set_cons_succ]
          refine (wpAnyH_take (i := 10) (v := ?_) rfl (by kernel_rfl) (by kernel_rfl) (by kernel_rfl) (fun _ _ _ h => h) (Or.inl ⟨by rfl, ?_⟩) (by assumption) ?_)
          rotate_left 1
          · (intro w hSw; (try dsimp only at hSw); obtain ⟨s0, s1, s2, s3⟩ := hSw; (go_simp) <;> with_reducible rfl)
          try simp only [List.getElem_toArray, List.getElem_cons_zero, List.getElem_cons_succ, Act.put, List.setIfInBounds_toArray, List.set_cons_zero, List.set_cons_succ]
          refine (wpAnyH_take (i := 11) (v := ?_) rfl (by kernel_rfl) (by kernel_rfl) (by kernel_rfl) (fun _ _ _ h => h) (Or.inl ⟨by rfl, ?_⟩) (by assumption) ?_)
          rotate_left 1
          · (intro w hSw; (try dsimp only at hSw); obtain ⟨s0, s1, s2, s3⟩ := hSw; (go_simp) <;> with_reducible rfl)
          try simp only [List.getElem_toArray, List.getElem_cons_zero, List.getElem_cons_succ, Act.put, List.setIfInBounds_toArray, List.set_cons_zero, List.set_cons_succ]
          refine wpAnyH_ready (rs := [12]) (by kernel_rfl) (by simp) ?_
          refine AllReadyH.cons rfl (fun K hK => ?_) ?_
          · go_simp
            go_at_call 87
            refine (HX1.out _).mono ?_
            rintro e w5 ⟨rfl, rfl⟩
            refine hK.out _ _ ?_ (fun hNew => ?_)
            · (try dsimp only); exact hHeld
            clear hK K hHeld
            have hHeld := hNew
            clear hNew
            try simp only [List.getElem_toArray, List.getElem_cons_zero, List.getElem_cons_succ, Act.put, List.setIfInBounds_toArray, List.set_cons_zero, List.set_cons_succ]
            refine (wpAnyH_take (i := 13) (v := ?_) rfl (by kernel_rfl) (by kernel_rfl) (by kernel_rfl) (fun _ _ _ h => h) (Or.inl ⟨by rfl, ?_⟩) (by assumption) ?_)
            rotate_left 1
            · (intro w hSw; (try dsimp only at hSw); obtain ⟨s0, s1, s2, s3⟩ := hSw; (go_simp) <;> with_reducible rfl)
            try simp only [List.getElem_toArray, List.getElem_cons_zero, List.getElem_cons_succ, Act.put, List.setIfInBounds_toArray, List.set_cons_zero, List.set_cons_succ]
            refine (wpAnyH_take (i := 14) (v := ?_) rfl (by kernel_rfl) (by kernel_rfl) (by kernel_rfl) (fun _ _ _ h => h) (Or.inl ⟨by rfl, ?_⟩) (by assumption) ?_)
            rotate_left 1
            · (intro w hSw; (try dsimp only at hSw); obtain ⟨s0, s1, s2, s3⟩ := hSw; (go_simp) <;> with_reducible rfl)
            try simp only [List.getElem_toArray, List.getElem_cons_zero, List.getElem_cons_succ, Act.put, List.setIfInBounds_toArray, List.set_cons_zero, List.set_cons_succ]
            refine (wpAnyH_take (i := 15) (v := ?_) rfl (by kernel_rfl) (by kernel_rfl) (by kernel_rfl) (fun _ _ _ h => h) (Or.inl ⟨by rfl, ?_⟩) (by assumption) ?_)
            rotate_left 1
            · (intro w hSw; (try dsimp only at hSw); obtain ⟨s0, s1, s2, s3⟩ := hSw; (go_simp) <;> with_reducible rfl)
            try simp only [List.getElem_toArray, List.getElem_cons_zero, List.getElem_cons_succ, Act.put, List.setIfInBounds_toArray, List.set_cons_zero, List.set_cons_succ]
            refine (wpAnyH_take (i := 16) (v := ?_) rfl (by kernel_rfl) (by kernel_rfl) (by kernel_rfl) (fun _ _ _ h => h) (Or.inl ⟨by rfl, ?_⟩) (by assumption) ?_)
            rotate_left 1
            · (intro w hSw; (try dsimp only at hSw); obtain ⟨s0, s1, s2, s3⟩ := hSw; (go_simp) <;> with_reducible rfl)
            try simp only [List.getElem_toArray, List.getElem_cons_zero, List.getElem_cons_succ, Act.put, List.setIfInBounds_toArray, List.set_cons_zero, List.set_cons_succ]
            refine (wpAnyH_take (i := 17) (v := ?_) rfl (by kernel_rfl) (by kernel_rfl) (by kernel_rfl) (fun _ _ _ h => h) (Or.inl ⟨by rfl, ?_⟩) (by assumption) ?_)
            rotate_left 1
            · (intro w hSw; (try dsimp only at hSw); obtain ⟨s0, s1, s2, s3⟩ := hSw; (go_simp) <;> with_reducible rfl)
            try simp only [List.getElem_toArray, List.getElem_cons_zero, List.getElem_cons_succ, Act.put, List.setIfInBounds_toArray, List.set_cons_zero, List.set_cons_succ]
            refine (wpAnyH_take (i := 18) (v := ?_) rfl (by kernel_rfl) (by kernel_rfl) (by kernel_rfl) (fun _ _ _ h => h) (Or.inl ⟨by rfl, ?_⟩) (by assumption) ?_)
            rotate_left 1
            · (intro w hSw; (try dsimp only at hSw); obtain ⟨s0, s1, s2, s3⟩ := hSw; (go_simp) <;> with_reducible rfl)
            try simp only [List.getElem_toArray, List.getElem_cons_zero, List.getElem_cons_succ, Act.put, List.setIfInBounds_toArray, List.set_cons_zero, List.set_cons_succ]
            refine (wpAnyH_take (i := 19) (v := ?_) rfl (by kernel_rfl) (by kernel_rfl) (by kernel_rfl) (fun _ _ _ h => h) (Or.inl ⟨by rfl, ?_⟩) (by assumption) ?_)
            rotate_left 1
            · (intro w hSw; (try dsimp only at hSw); obtain ⟨s0, s1, s2, s3⟩ := hSw; (go_simp) <;> with_reducible rfl)
            try simp only [List.getElem_toArray, List.getElem_cons_zero, List.getElem_cons_succ, Act.put, List.setIfInBounds_toArray, List.set_cons_zero, List.set_cons_succ]
            refine (wpAnyH_take (i := 20) (v := ?_) rfl (by kernel_rfl) (by kernel_rfl) (by kernel_rfl) (fun _ _ _ h => h) (Or.inl ⟨by rfl, ?_⟩) (by assumption) ?_)
            rotate_left 1
            · (intro w hSw; (try dsimp only at hSw); obtain ⟨s0, s1, s2, s3⟩ := hSw; (go_simp) <;> with_reducible rfl)
            try simp only [List.getElem_toArray, List.getElem_cons_zero, List.getElem_cons_succ, Act.put, List.setIfInBounds_toArray, List.set_cons_zero, List.set_cons_succ]
            refine (wpAnyH_take (i := 21) (v := ?_) rfl (by kernel_rfl) (by kernel_rfl) (by kernel_rfl) (fun _ _ _ h => h) (Or.inl ⟨by rfl, ?_⟩) (by assumption) ?_)
            rotate_left 1
            · (intro w hSw; (try dsimp only at hSw); obtain ⟨s0, s1, s2, s3⟩ := hSw; (go_simp) <;> with_reducible rfl)
            try simp only [List.getElem_toArray, List.getElem_cons_zero, List.getElem_cons_succ, Act.put, List.setIfInBounds_toArray, List.set_cons_zero, List.set_cons_succ]
            refine (wpAnyH_take (i := 22) (v := ?_) rfl (by kernel_rfl) (by kernel_rfl) (by kernel_rfl) (fun _ _ _ h => h) (Or.inl ⟨by rfl, ?_⟩) (by assumption) ?_)
            rotate_left 1
            · (intro w hSw; (try dsimp only at hSw); obtain ⟨s0, s1, s2, s3⟩ := hSw; (go_simp) <;> with_reducible rfl)
            try simp only [List.getElem_toArray, List.getElem_cons_zero, List.getElem_cons_succ, Act.put, List.setIfInBounds_toArray, List.set_cons_zero, List.set_cons_succ]
            refine (wpAnyH_take (i := 23) (v := ?_) rfl (by kernel_rfl) (by kernel_rfl) (by kernel_rfl) (fun _ _ _ h => h) (Or.inl ⟨by rfl, ?_⟩) (by assumption) ?_)
            rotate_left 1
            · (intro w hSw; (try dsimp only at hSw); obtain ⟨s0, s1, s2, s3⟩ := hSw; (go_simp) <;> with_reducible rfl)
            try simp only [List.getElem_toArray, List.getElem_cons_zero, List.getElem_cons_succ, Act.put, List.setIfInBounds_toArray, List.set_cons_zero, List.set_cons_succ]
            refine (wpAnyH_take (i := 24) (v := ?_) rfl (by kernel_rfl) (by kernel_rfl) (by kernel_rfl) (fun _ _ _ h => h) (Or.inl ⟨by rfl, ?_⟩) (by assumption) ?_)
            rotate_left 1
            · (intro w hSw; (try dsimp only at hSw); obtain ⟨s0, s1, s2, s3⟩ := hSw; (go_simp) <;> with_reducible rfl)
            try simp only [List.getElem_toArray, List.getElem_cons_zero, List.getElem_cons_succ, Act.put, List.setIfInBounds_toArray, List.set_cons_zero, List.set_cons_succ]
            refine (wpAnyH_take (i := 25) (v := ?_) rfl (by kernel_rfl) (by kernel_rfl) (by kernel_rfl) (fun _ _ _ h => h) (Or.inl ⟨by rfl, ?_⟩) (by assumption) ?_)
            rotate_left 1
            · (intro w hSw; (try dsimp only at hSw); obtain ⟨s0, s1, s2, s3⟩ := hSw; (go_simp) <;> with_reducible rfl)
            try simp only [List.getElem_toArray, List.getElem_cons_zero, List.getElem_cons_succ, Act.put, List.setIfInBounds_toArray, List.set_cons_zero, List.set_cons_succ]
            refine wpAnyH_ready (rs := [26]) (by kernel_rfl) (by simp) ?_
            refine AllReadyH.cons rfl (fun K hK => ?_) ?_
            · go_simp
              go_at_call 87
              refine (HX2.out _).mono ?_
              rintro e w5 ⟨rfl, rfl⟩
              refine hK.out _ _ ?_ (fun hNew => ?_)
              · (try dsimp only); exact hHeld
              clear hK K hHeld
              have hHeld := hNew
              clear hNew
              try simp only [List.getElem_toArray, List.getElem_cons_zero, List.getElem_cons_succ, Act.put, List.setIfInBounds_toArray, List.set_cons_zero, List.set_cons_succ]
              refine (wpAnyH_take (i := 27) (v := ?_) rfl (by kernel_rfl) (by kernel_rfl) (by kernel_rfl) (fun _ _ _ h => h) (Or.inl ⟨by rfl, ?_⟩) (by assumption) ?_)
              rotate_left 1
              · (intro w hSw; (try dsimp only at hSw); obtain ⟨s0, s1, s2, s3⟩ := hSw; (go_simp) <;> with_reducible rfl)
              try simp only [List.getElem_toArray, List.getElem_cons_zero, List.getElem_cons_succ, Act.put, List.setIfInBounds_toArray, List.set_cons_zero, List.set_cons_succ]
              refine wpAnyH_done (by kernel_rfl) ?_ _
              clear hHeld
              go_wp2_with fail
              exact ⟨⟨j + 1, by omega, by go_num, by rw [HLs.out]; rfl, Lib.hid (HR2.out.below (Below.refl _ _).drew)⟩, by simp [intOf]; omega⟩
            exact AllReadyH.nil
          exact AllReadyH.nil
        case true =>
          refine wp_region_held_drew (S := fun W' => W'.cell? ⟨g, off + j * 4, none⟩ = some (.int .i64 l) ∧ W'.cell? ⟨g, off + j * 4 + 2, none⟩ = some (.int .i64 h) ∧ W'.cell? ⟨bb, 0, none⟩ = some (.int .i64 p) ∧ W'.cell? ⟨bb, 1, none⟩ = some (.int .i64 t)) (by kernel_rfl) ?_ (fun hHeld => ?_)
          · exact hst
          refine (wpAnyH_take (i := 0) (v := ?_) rfl (by kernel_rfl) (by kernel_rfl) (by kernel_rfl) (fun _ _ _ h => h) (Or.inl ⟨by rfl, ?_⟩) (by assumption) ?_)
          rotate_left 1
          · (intro w hSw; (try dsimp only at hSw); obtain ⟨s0, s1, s2, s3⟩ := hSw; (go_simp) <;> with_reducible rfl)
          try simp only [List.getElem_toArray, List.getElem_cons_zero, Act.put, List.setIfInBounds_toArray, List.set_cons_zero, List.set_cons_succ]
          refine (wpAnyH_take (i := 1) (v := ?_) rfl (by kernel_rfl) (by kernel_rfl) (by kernel_rfl) (fun _ _ _ h => h) (Or.inl ⟨by rfl, ?_⟩) (by assumption) ?_)
          rotate_left 1
          · (intro w hSw; (try dsimp only at hSw); obtain ⟨s0, s1, s2, s3⟩ := hSw; (go_simp) <;> with_reducible rfl)
          try simp only [List.getElem_toArray, List.getElem_cons_zero, List.getElem_cons_succ, Act.put, List.setIfInBounds_toArray, List.set_cons_zero, List.set_cons_succ]
          refine (wpAnyH_take (i := 2) (v := ?_) rfl (by kernel_rfl) (by kernel_rfl) (by kernel_rfl) (fun _ _ _ h => h) (Or.inl ⟨by rfl, ?_⟩) (by assumption) ?_)
          rotate_left 1
          · (intro w hSw; (try dsimp only at hSw); obtain ⟨s0, s1, s2, s3⟩ := hSw; (go_simp) <;> with_reducible rfl)
          try simp only [List.getElem_toArray, List.getElem_cons_zero, List.getElem_cons_succ, Act.put, List.setIfInBounds_toArray, List.set_cons_zero, List.set_cons_succ]
          refine (wpAnyH_take (i := 3) (v := ?_) rfl (by kernel_rfl) (by kernel_rfl) (by kernel_rfl) (fun _ _ _ h => h) (Or.inl ⟨by rfl, ?_⟩) (by assumption) ?_)
          rotate_left 1
          · (intro w hSw; (try dsimp only at hSw); obtain ⟨s0, s1, s2, s3⟩ := hSw; (go_simp) <;> with_reducible rfl)
          try simp only [List.getElem_toArray, List.getElem_cons_zero, List.getElem_cons_succ, Act.put, List.setIfInBounds_toArray, List.set_cons_zero, List.set_cons_succ]
          refine (wpAnyH_take (i := 4) (v := ?_) rfl (by kernel_rfl) (by kernel_rfl) (by kernel_rfl) (fun _ _ _ h => h) (Or.inl ⟨by rfl, ?_⟩) (by assumption) ?_)
          rotate_left 1
          · (intro w hSw; (try dsimp only at hSw); obtain ⟨s0, s1, s2, s3⟩ := hSw; (go_simp) <;> with_reducible rfl)
          try simp only [List.getElem_toArray, List.getElem_cons_zero, List.getElem_cons_succ, Act.put, List.setIfInBounds_toArray, List.set_cons_zero, List.set_cons_succ]
          refine (wpAnyH_take (i := 5) (v := ?_) rfl (by kernel_rfl) (by kernel_rfl) (by kernel_rfl) (fun _ _ _ h => h) (Or.inl ⟨by rfl, ?_⟩) (by assumption) ?_)
          rotate_left 1
          · (intro w hSw; (try dsimp only at hSw); obtain ⟨s0, s1, s2, s3⟩ := hSw; (go_simp) <;> with_reducible rfl)
          try simp only [List.getElem_toArray, List.getElem_cons_zero, List.getElem_cons_succ, Act.put, List.setIfInBounds_toArray, List.set_cons_zero, List.set_cons_succ]
          refine (wpAnyH_take (i := 6) (v := ?_) rfl (by kernel_rfl) (by kernel_rfl) (by kernel_rfl) (fun _ _ _ h => h) (Or.inl ⟨by rfl, ?_⟩) (by assumption) ?_)
          rotate_left 1
          · (intro w hSw; (try dsimp only at hSw); obtain ⟨s0, s1, s2, s3⟩ := hSw; (go_simp) <;> with_reducible rfl)
          try simp only [List.getElem_toArray, List.getElem_cons_zero, List.getElem_cons_succ, Act.put, List.setIfInBounds_toArray, List.set_cons_zero, List.set_cons_succ]
          refine (wpAnyH_take (i := 7) (v := ?_) rfl (by kernel_rfl) (by kernel_rfl) (by kernel_rfl) (fun _ _ _ h => h) (Or.inl ⟨by rfl, ?_⟩) (by assumption) ?_)
          rotate_left 1
          · (intro w hSw; (try dsimp only at hSw); obtain ⟨s0, s1, s2, s3⟩ := hSw; (go_simp) <;> with_reducible rfl)
          try simp only [List.getElem_toArray, List.getElem_cons_zero, List.getElem_cons_succ, Act.put, List.setIfInBounds_toArray, List.set_cons_zero, List.set_cons_succ]
          refine (wpAnyH_take (i := 8) (v := ?_) rfl (by kernel_rfl) (by kernel_rfl) (by kernel_rfl) (fun _ _ _ h => h) (Or.inl ⟨by rfl, ?_⟩) (by assumption) ?_)
          rotate_left 1
          · (intro w hSw; (try dsimp only at hSw); obtain ⟨s0, s1, s2, s3⟩ := hSw; (go_simp) <;> with_reducible rfl)
          try simp only [List.getElem_toArray, List.getElem_cons_zero, List.getElem_cons_succ, Act.put, List.setIfInBounds_toArray, List.set_cons_zero, List.set_cons_succ]
          refine (wpAnyH_take (i := 9) (v := ?_) rfl (by kernel_rfl) (by kernel_rfl) (by kernel_rfl) (fun _ _ _ h => h) (Or.inl ⟨by rfl, ?_⟩) (by assumption) ?_)
          rotate_left 1
          · (intro w hSw; (try dsimp only at hSw); obtain ⟨s0, s1, s2, s3⟩ := hSw; (go_simp) <;> with_reducible rfl)
          try simp only [List.getElem_toArray, List.getElem_cons_zero, List.getElem_cons_succ, Act.put, List.setIfInBounds_toArray, List.set_cons_zero, List.set_cons_succ]
          refine (wpAnyH_take (i := 10) (v := ?_) rfl (by kernel_rfl) (by kernel_rfl) (by kernel_rfl) (fun _ _ _ h => h) (Or.inl ⟨by rfl, ?_⟩) (by assumption) ?_)
          rotate_left 1
          · (intro w hSw; (try dsimp only at hSw); obtain ⟨s0, s1, s2, s3⟩ := hSw; (go_simp) <;> with_reducible rfl)
          try simp only [List.getElem_toArray, List.getElem_cons_zero, List.getElem_cons_succ, Act.put, List.setIfInBounds_toArray, List.set_cons_zero, List.set_cons_succ]
          refine (wpAnyH_take (i := 11) (v := ?_) rfl (by kernel_rfl) (by kernel_rfl) (by kernel_rfl) (fun _ _ _ h => h) (Or.inl ⟨by rfl, ?_⟩) (by assumption) ?_)
          rotate_left 1
          · (intro w hSw; (try dsimp only at hSw); obtain ⟨s0, s1, s2, s3⟩ := hSw; (go_simp) <;> with_reducible rfl)
          try simp only [List.getElem_toArray, List.getElem_cons_zero, List.getElem_cons_succ, Act.put, List.setIfInBounds_toArray, List.set_cons_zero, List.set_cons_succ]
          refine wpAnyH_ready (rs := [12]) (by kernel_rfl) (by simp) ?_
          refine AllReadyH.cons rfl (fun K hK => ?_) ?_
          · go_simp
            go_at_call 87
            refine (HX1.out _).mono ?_
            rintro e w5 ⟨rfl, rfl⟩
            refine hK.out _ _ ?_ (fun hNew => ?_)
            · (try dsimp only); exact hHeld
            clear hK K hHeld
            have hHeld := hNew
            clear hNew
            try simp only [List.getElem_toArray, List.getElem_cons_zero, List.getElem_cons_succ, Act.put, List.setIfInBounds_toArray, List.set_cons_zero, List.set_cons_succ]
            refine (wpAnyH_take (i := 13) (v := ?_) rfl (by kernel_rfl) (by kernel_rfl) (by kernel_rfl) (fun _ _ _ h => h) (Or.inl ⟨by rfl, ?_⟩) (by assumption) ?_)
            rotate_left 1
            · (intro w hSw; (try dsimp only at hSw); obtain ⟨s0, s1, s2, s3⟩ := hSw; (go_simp) <;> with_reducible rfl)
            try simp only [List.getElem_toArray, List.getElem_cons_zero, List.getElem_cons_succ, Act.put, List.setIfInBounds_toArray, List.set_cons_zero, List.set_cons_succ]
            refine (wpAnyH_take (i := 14) (v := ?_) rfl (by kernel_rfl) (by kernel_rfl) (by kernel_rfl) (fun _ _ _ h => h) (Or.inl ⟨by rfl, ?_⟩) (by assumption) ?_)
            rotate_left 1
            · (intro w hSw; (try dsimp only at hSw); obtain ⟨s0, s1, s2, s3⟩ := hSw; (go_simp) <;> with_reducible rfl)
            try simp only [List.getElem_toArray, List.getElem_cons_zero, List.getElem_cons_succ, Act.put, List.setIfInBounds_toArray, List.set_cons_zero, List.set_cons_succ]
            refine (wpAnyH_take (i := 15) (v := ?_) rfl (by kernel_rfl) (by kernel_rfl) (by kernel_rfl) (fun _ _ _ h => h) (Or.inl ⟨by rfl, ?_⟩) (by assumption) ?_)
            rotate_left 1
            · (intro w hSw; (try dsimp only at hSw); obtain ⟨s0, s1, s2, s3⟩ := hSw; (go_simp) <;> with_reducible rfl)
            try simp only [List.getElem_toArray, List.getElem_cons_zero, List.getElem_cons_succ, Act.put, List.setIfInBounds_toArray, List.set_cons_zero, List.set_cons_succ]
            refine (wpAnyH_take (i := 16) (v := ?_) rfl (by kernel_rfl) (by kernel_rfl) (by kernel_rfl) (fun _ _ _ h => h) (Or.inl ⟨by rfl, ?_⟩) (by assumption) ?_)
            rotate_left 1
            · (intro w hSw; (try dsimp only at hSw); obtain ⟨s0, s1, s2, s3⟩ := hSw; (go_simp) <;> with_reducible rfl)
            try simp only [List.getElem_toArray, List.getElem_cons_zero, List.getElem_cons_succ, Act.put, List.setIfInBounds_toArray, List.set_cons_zero, List.set_cons_succ]
            refine (wpAnyH_take (i := 17) (v := ?_) rfl (by kernel_rfl) (by kernel_rfl) (by kernel_rfl) (fun _ _ _ h => h) (Or.inl ⟨by rfl, ?_⟩) (by assumption) ?_)
            rotate_left 1
            · (intro w hSw; (try dsimp only at hSw); obtain ⟨s0, s1, s2, s3⟩ := hSw; (go_simp) <;> with_reducible rfl)
            try simp only [List.getElem_toArray, List.getElem_cons_zero, List.getElem_cons_succ, Act.put, List.setIfInBounds_toArray, List.set_cons_zero, List.set_cons_succ]
            refine (wpAnyH_take (i := 18) (v := ?_) rfl (by kernel_rfl) (by kernel_rfl) (by kernel_rfl) (fun _ _ _ h => h) (Or.inl ⟨by rfl, ?_⟩) (by assumption) ?_)
            rotate_left 1
            · (intro w hSw; (try dsimp only at hSw); obtain ⟨s0, s1, s2, s3⟩ := hSw; (go_simp) <;> with_reducible rfl)
            try simp only [List.getElem_toArray, List.getElem_cons_zero, List.getElem_cons_succ, Act.put, List.setIfInBounds_toArray, List.set_cons_zero, List.set_cons_succ]
            refine (wpAnyH_take (i := 19) (v := ?_) rfl (by kernel_rfl) (by kernel_rfl) (by kernel_rfl) (fun _ _ _ h => h) (Or.inl ⟨by rfl, ?_⟩) (by assumption) ?_)
            rotate_left 1
            · (intro w hSw; (try dsimp only at hSw); obtain ⟨s0, s1, s2, s3⟩ := hSw; (go_simp) <;> with_reducible rfl)
            try simp only [List.getElem_toArray, List.getElem_cons_zero, List.getElem_cons_succ, Act.put, List.setIfInBounds_toArray, List.set_cons_zero, List.set_cons_succ]
            refine (wpAnyH_take (i := 20) (v := ?_) rfl (by kernel_rfl) (by kernel_rfl) (by kernel_rfl) (fun _ _ _ h => h) (Or.inl ⟨by rfl, ?_⟩) (by assumption) ?_)
            rotate_left 1
            · (intro w hSw; (try dsimp only at hSw); obtain ⟨s0, s1, s2, s3⟩ := hSw; (go_simp) <;> with_reducible rfl)
            try simp only [List.getElem_toArray, List.getElem_cons_zero, List.getElem_cons_succ, Act.put, List.setIfInBounds_toArray, List.set_cons_zero, List.set_cons_succ]
            refine (wpAnyH_take (i := 21) (v := ?_) rfl (by kernel_rfl) (by kernel_rfl) (by kernel_rfl) (fun _ _ _ h => h) (Or.inl ⟨by rfl, ?_⟩) (by assumption) ?_)
            rotate_left 1
            · (intro w hSw; (try dsimp only at hSw); obtain ⟨s0, s1, s2, s3⟩ := hSw; (go_simp) <;> with_reducible rfl)
            try simp only [List.getElem_toArray, List.getElem_cons_zero, List.getElem_cons_succ, Act.put, List.setIfInBounds_toArray, List.set_cons_zero, List.set_cons_succ]
            refine (wpAnyH_take (i := 22) (v := ?_) rfl (by kernel_rfl) (by kernel_rfl) (by kernel_rfl) (fun _ _ _ h => h) (Or.inl ⟨by rfl, ?_⟩) (by assumption) ?_)
            rotate_left 1
            · (intro w hSw; (try dsimp only at hSw); obtain ⟨s0, s1, s2, s3⟩ := hSw; (go_simp) <;> with_reducible rfl)
            try simp only [List.getElem_toArray, List.getElem_cons_zero, List.getElem_cons_succ, Act.put, List.setIfInBounds_toArray, List.set_cons_zero, List.set_cons_succ]
            refine (wpAnyH_take (i := 23) (v := ?_) rfl (by kernel_rfl) (by kernel_rfl) (by kernel_rfl) (fun _ _ _ h => h) (Or.inl ⟨by rfl, ?_⟩) (by assumption) ?_)
            rotate_left 1
            · (intro w hSw; (try dsimp only at hSw); obtain ⟨s0, s1, s2, s3⟩ := hSw; (go_simp) <;> with_reducible rfl)
            try simp only [List.getElem_toArray, List.getElem_cons_zero, List.getElem_cons_succ, Act.put, List.setIfInBounds_toArray, List.set_cons_zero, List.set_cons_succ]
            refine (wpAnyH_take (i := 24) (v := ?_) rfl (by kernel_rfl) (by kernel_rfl) (by kernel_rfl) (fun _ _ _ h => h) (Or.inl ⟨by rfl, ?_⟩) (by assumption) ?_)
            rotate_left 1
            · (intro w hSw; (try dsimp only at hSw); obtain ⟨s0, s1, s2, s3⟩ := hSw; (go_simp) <;> with_reducible rfl)
            try simp only [List.getElem_toArray, List.getElem_cons_zero, List.getElem_cons_succ, Act.put, List.setIfInBounds_toArray, List.set_cons_zero, List.set_cons_succ]
            refine (wpAnyH_take (i := 25) (v := ?_) rfl (by kernel_rfl) (by kernel_rfl) (by kernel_rfl) (fun _ _ _ h => h) (Or.inl ⟨by rfl, ?_⟩) (by assumption) ?_)
            rotate_left 1
            · (intro w hSw; (try dsimp only at hSw); obtain ⟨s0, s1, s2, s3⟩ := hSw; (go_simp) <;> with_reducible rfl)
            try simp only [List.getElem_toArray, List.getElem_cons_zero, List.getElem_cons_succ, Act.put, List.setIfInBounds_toArray, List.set_cons_zero, List.set_cons_succ]
            refine wpAnyH_ready (rs := [26]) (by kernel_rfl) (by simp) ?_
            refine AllReadyH.cons rfl (fun K hK => ?_) ?_
            · go_simp
              go_at_call 87
              refine (HX2.out _).mono ?_
              rintro e w5 ⟨rfl, rfl⟩
              refine hK.out _ _ ?_ (fun hNew => ?_)
              · (try dsimp only); exact hHeld
              clear hK K hHeld
              have hHeld := hNew
              clear hNew
              try simp only [List.getElem_toArray, List.getElem_cons_zero, List.getElem_cons_succ, Act.put, List.setIfInBounds_toArray, List.set_cons_zero, List.set_cons_succ]
              refine (wpAnyH_take (i := 27) (v := ?_) rfl (by kernel_rfl) (by kernel_rfl) (by kernel_rfl) (fun _ _ _ h => h) (Or.inl ⟨by rfl, ?_⟩) (by assumption) ?_)
              rotate_left 1
              · (intro w hSw; (try dsimp only at hSw); obtain ⟨s0, s1, s2, s3⟩ := hSw; (go_simp) <;> with_reducible rfl)
              try simp only [List.getElem_toArray, List.getElem_cons_zero, List.getElem_cons_succ, Act.put, List.setIfInBounds_toArray, List.set_cons_zero, List.set_cons_succ]
              refine wpAnyH_done (by kernel_rfl) ?_ _
              clear hHeld
              go_wp2_with fail
              exact ⟨⟨j + 1, by omega, by go_num, by rw [HLs.out]; rfl, Lib.hid (HR2.out.below (Below.refl _ _).drew)⟩, by simp [intOf]; omega⟩
            exact AllReadyH.nil
          exact AllReadyH.nil

      | false =>
        refine wp_region_held_drew (S := fun W' => W'.cell? ⟨g, off + j * 4, none⟩ = some (.int .i64 l) ∧ W'.cell? ⟨g, off + j * 4 + 2, none⟩ = some (.int .i64 h) ∧ W'.cell? ⟨bb, 0, none⟩ = some (.int .i64 p) ∧ W'.cell? ⟨bb, 1, none⟩ = some (.int .i64 t)) (by kernel_rfl) ?_ (fun hHeld => ?_)
        · exact hst
        refine (wpAnyH_take (i := 0) (v := ?_) rfl (by kernel_rfl) (by kernel_rfl) (by kernel_rfl) (fun _ _ _ h => h) (Or.inl ⟨by rfl, ?_⟩) (by assumption) ?_)
        rotate_left 1
        · (intro w hSw; (try dsimp only at hSw); obtain ⟨s0, s1, s2, s3⟩ := hSw; (go_simp) <;> with_reducible rfl)
        try simp only [List.getElem_toArray, List.getElem_cons_zero, Act.put, List.setIfInBounds_toArray, List.set_cons_zero, List.set_cons_succ]
        refine (wpAnyH_take (i := 1) (v := ?_) rfl (by kernel_rfl) (by kernel_rfl) (by kernel_rfl) (fun _ _ _ h => h) (Or.inl ⟨by rfl, ?_⟩) (by assumption) ?_)
        rotate_left 1
        · (intro w hSw; (try dsimp only at hSw); obtain ⟨s0, s1, s2, s3⟩ := hSw; (go_simp) <;> with_reducible rfl)
        try simp only [List.getElem_toArray, List.getElem_cons_zero, List.getElem_cons_succ, Act.put, List.setIfInBounds_toArray, List.set_cons_zero, List.set_cons_succ]
        refine (wpAnyH_take (i := 2) (v := ?_) rfl (by kernel_rfl) (by kernel_rfl) (by kernel_rfl) (fun _ _ _ h => h) (Or.inl ⟨by rfl, ?_⟩) (by assumption) ?_)
        rotate_left 1
        · (intro w hSw; (try dsimp only at hSw); obtain ⟨s0, s1, s2, s3⟩ := hSw; (go_simp) <;> with_reducible rfl)
        try simp only [List.getElem_toArray, List.getElem_cons_zero, List.getElem_cons_succ, Act.put, List.setIfInBounds_toArray, List.set_cons_zero, List.set_cons_succ]
        refine (wpAnyH_take (i := 3) (v := ?_) rfl (by kernel_rfl) (by kernel_rfl) (by kernel_rfl) (fun _ _ _ h => h) (Or.inl ⟨by rfl, ?_⟩) (by assumption) ?_)
        rotate_left 1
        · (intro w hSw; (try dsimp only at hSw); obtain ⟨s0, s1, s2, s3⟩ := hSw; (go_simp) <;> with_reducible rfl)
        try simp only [List.getElem_toArray, List.getElem_cons_zero, List.getElem_cons_succ, Act.put, List.setIfInBounds_toArray, List.set_cons_zero, List.set_cons_succ]
        refine (wpAnyH_take (i := 4) (v := ?_) rfl (by kernel_rfl) (by kernel_rfl) (by kernel_rfl) (fun _ _ _ h => h) (Or.inl ⟨by rfl, ?_⟩) (by assumption) ?_)
        rotate_left 1
        · (intro w hSw; (try dsimp only at hSw); obtain ⟨s0, s1, s2, s3⟩ := hSw; (go_simp) <;> with_reducible rfl)
        try simp only [List.getElem_toArray, List.getElem_cons_zero, List.getElem_cons_succ, Act.put, List.setIfInBounds_toArray, List.set_cons_zero, List.set_cons_succ]
        refine (wpAnyH_take (i := 5) (v := ?_) rfl (by kernel_rfl) (by kernel_rfl) (by kernel_rfl) (fun _ _ _ h => h) (Or.inl ⟨by rfl, ?_⟩) (by assumption) ?_)
        rotate_left 1
        · (intro w hSw; (try dsimp only at hSw); obtain ⟨s0, s1, s2, s3⟩ := hSw; (go_simp) <;> with_reducible rfl)
        try simp only [List.getElem_toArray, List.getElem_cons_zero, List.getElem_cons_succ, Act.put, List.setIfInBounds_toArray, List.set_cons_zero, List.set_cons_succ]
        refine (wpAnyH_take (i := 6) (v := ?_) rfl (by kernel_rfl) (by kernel_rfl) (by kernel_rfl) (fun _ _ _ h => h) (Or.inl ⟨by rfl, ?_⟩) (by assumption) ?_)
        rotate_left 1
        · (intro w hSw; (try dsimp only at hSw); obtain ⟨s0, s1, s2, s3⟩ := hSw; (go_simp) <;> with_reducible rfl)
        try simp only [List.getElem_toArray, List.getElem_cons_zero, List.getElem_cons_succ, Act.put, List.setIfInBounds_toArray, List.set_cons_zero, List.set_cons_succ]
        refine (wpAnyH_take (i := 7) (v := ?_) rfl (by kernel_rfl) (by kernel_rfl) (by kernel_rfl) (fun _ _ _ h => h) (Or.inl ⟨by rfl, ?_⟩) (by assumption) ?_)
        rotate_left 1
        · (intro w hSw; (try dsimp only at hSw); obtain ⟨s0, s1, s2, s3⟩ := hSw; (go_simp) <;> with_reducible rfl)
        try simp only [List.getElem_toArray, List.getElem_cons_zero, List.getElem_cons_succ, Act.put, List.setIfInBounds_toArray, List.set_cons_zero, List.set_cons_succ]
        refine (wpAnyH_take (i := 8) (v := ?_) rfl (by kernel_rfl) (by kernel_rfl) (by kernel_rfl) (fun _ _ _ h => h) (Or.inl ⟨by rfl, ?_⟩) (by assumption) ?_)
        rotate_left 1
        · (intro w hSw; (try dsimp only at hSw); obtain ⟨s0, s1, s2, s3⟩ := hSw; (go_simp) <;> with_reducible rfl)
        try simp only [List.getElem_toArray, List.getElem_cons_zero, List.getElem_cons_succ, Act.put, List.setIfInBounds_toArray, List.set_cons_zero, List.set_cons_succ]
        refine (wpAnyH_take (i := 9) (v := ?_) rfl (by kernel_rfl) (by kernel_rfl) (by kernel_rfl) (fun _ _ _ h => h) (Or.inl ⟨by rfl, ?_⟩) (by assumption) ?_)
        rotate_left 1
        · (intro w hSw; (try dsimp only at hSw); obtain ⟨s0, s1, s2, s3⟩ := hSw; (go_simp) <;> with_reducible rfl)
        try simp only [List.getElem_toArray, List.getElem_cons_zero, List.getElem_cons_succ, Act.put, List.setIfInBounds_toArray, List.set_cons_zero, List.set_cons_succ]
        refine (wpAnyH_take (i := 10) (v := ?_) rfl (by kernel_rfl) (by kernel_rfl) (by kernel_rfl) (fun _ _ _ h => h) (Or.inl ⟨by rfl, ?_⟩) (by assumption) ?_)
        rotate_left 1
        · (intro w hSw; (try dsimp only at hSw); obtain ⟨s0, s1, s2, s3⟩ := hSw; (go_simp) <;> with_reducible rfl)
        try simp only [List.getElem_toArray, List.getElem_cons_zero, List.getElem_cons_succ, Act.put, List.setIfInBounds_toArray, List.set_cons_zero, List.set_cons_succ]
        refine (wpAnyH_take (i := 11) (v := ?_) rfl (by kernel_rfl) (by kernel_rfl) (by kernel_rfl) (fun _ _ _ h => h) (Or.inl ⟨by rfl, ?_⟩) (by assumption) ?_)
        rotate_left 1
        · (intro w hSw; (try dsimp only at hSw); obtain ⟨s0, s1, s2, s3⟩ := hSw; (go_simp) <;> with_reducible rfl)
        try simp only [List.getElem_toArray, List.getElem_cons_zero, List.getElem_cons_succ, Act.put, List.setIfInBounds_toArray, List.set_cons_zero, List.set_cons_succ]
        refine wpAnyH_ready (rs := [12]) (by kernel_rfl) (by simp) ?_
        refine AllReadyH.cons rfl (fun K hK => ?_) ?_
        · go_simp
          go_at_call 87
          refine (HX1.out _).mono ?_
          rintro e w5 ⟨rfl, rfl⟩
          refine hK.out _ _ ?_ (fun hNew => ?_)
          · (try dsimp only); exact hHeld
          clear hK K hHeld
          have hHeld := hNew
          clear hNew
          try simp only [List.getElem_toArray, List.getElem_cons_zero, List.getElem_cons_succ, Act.put, List.setIfInBounds_toArray, List.set_cons_zero, List.set_cons_succ]
          refine (wpAnyH_take (i := 13) (v := ?_) rfl (by kernel_rfl) (by kernel_rfl) (by kernel_rfl) (fun _ _ _ h => h) (Or.inl ⟨by rfl, ?_⟩) (by assumption) ?_)
          rotate_left 1
          · (intro w hSw; (try dsimp only at hSw); obtain ⟨s0, s1, s2, s3⟩ := hSw; (go_simp) <;> with_reducible rfl)
          try simp only [List.getElem_toArray, List.getElem_cons_zero, List.getElem_cons_succ, Act.put, List.setIfInBounds_toArray, List.set_cons_zero, List.set_cons_succ]
          refine (wpAnyH_take (i := 14) (v := undef) rfl (by kernel_rfl) (by kernel_rfl) (by kernel_rfl) (fun _ _ _ h => h) (Or.inr ⟨by rfl, rfl⟩) (by assumption) ?_)
          try simp only [List.getElem_toArray, List.getElem_cons_zero, List.getElem_cons_succ, Act.put, List.setIfInBounds_toArray, List.set_cons_zero, List.set_cons_succ]
          refine (wpAnyH_take (i := 15) (v := undef) rfl (by kernel_rfl) (by kernel_rfl) (by kernel_rfl) (fun _ _ _ h => h) (Or.inr ⟨by rfl, rfl⟩) (by assumption) ?_)
          try simp only [List.getElem_toArray, List.getElem_cons_zero, List.getElem_cons_succ, Act.put, List.setIfInBounds_toArray, List.set_cons_zero, List.set_cons_succ]
          refine (wpAnyH_take (i := 16) (v := undef) rfl (by kernel_rfl) (by kernel_rfl) (by kernel_rfl) (fun _ _ _ h => h) (Or.inr ⟨by rfl, rfl⟩) (by assumption) ?_)
          try simp only [List.getElem_toArray, List.getElem_cons_zero, List.getElem_cons_succ, Act.put, List.setIfInBounds_toArray, List.set_cons_zero, List.set_cons_succ]
          refine (wpAnyH_take (i := 17) (v := undef) rfl (by kernel_rfl) (by kernel_rfl) (by kernel_rfl) (fun _ _ _ h => h) (Or.inr ⟨by rfl, rfl⟩) (by assumption) ?_)
          try simp only [List.getElem_toArray, List.getElem_cons_zero, List.getElem_cons_succ, Act.put, List.setIfInBounds_toArray, List.set_cons_zero, List.set_cons_succ]
          refine (wpAnyH_take (i := 18) (v := undef) rfl (by kernel_rfl) (by kernel_rfl) (by kernel_rfl) (fun _ _ _ h => h) (Or.inr ⟨by rfl, rfl⟩) (by assumption) ?_)
          try simp only [List.getElem_toArray, List.getElem_cons_zero, List.getElem_cons_succ, Act.put, List.setIfInBounds_toArray, List.set_cons_zero, List.set_cons_succ]
          refine (wpAnyH_take (i := 19) (v := undef) rfl (by kernel_rfl) (by kernel_rfl) (by kernel_rfl) (fun _ _ _ h => h) (Or.inr ⟨by rfl, rfl⟩) (by assumption) ?_)
          try simp only [List.getElem_toArray, List.getElem_cons_zero, List.getElem_cons_succ, Act.put, List.setIfInBounds_toArray, List.set_cons_zero, List.set_cons_succ]
          refine (wpAnyH_take (i := 20) (v := undef) rfl (by kernel_rfl) (by kernel_rfl) (by kernel_rfl) (fun _ _ _ h => h) (Or.inr ⟨by rfl, rfl⟩) (by assumption) ?_)
          try simp only [List.getElem_toArray, List.getElem_cons_zero, List.getElem_cons_succ, Act.put, List.setIfInBounds_toArray, List.set_cons_zero, List.set_cons_succ]
          refine (wpAnyH_take (i := 21) (v := undef) rfl (by kernel_rfl) (by kernel_rfl) (by kernel_rfl) (fun _ _ _ h => h) (Or.inr ⟨by rfl, rfl⟩) (by assumption) ?_)
          try simp only [List.getElem_toArray, List.getElem_cons_zero, List.getElem_cons_succ, Act.put, List.setIfInBounds_toArray, List.set_cons_zero, List.set_cons_succ]
          refine (wpAnyH_take (i := 22) (v := undef) rfl (by kernel_rfl) (by kernel_rfl) (by kernel_rfl) (fun _ _ _ h => h) (Or.inr ⟨by rfl, rfl⟩) (by assumption) ?_)
          try simp only [List.getElem_toArray, List.getElem_cons_zero, List.getElem_cons_succ, Act.put, List.setIfInBounds_toArray, List.set_cons_zero, List.set_cons_succ]
          refine (wpAnyH_take (i := 23) (v := undef) rfl (by kernel_rfl) (by kernel_rfl) (by kernel_rfl) (fun _ _ _ h => h) (Or.inr ⟨by rfl, rfl⟩) (by assumption) ?_)
          try simp only [List.getElem_toArray, List.getElem_cons_zero, List.getElem_cons_succ, Act.put, List.setIfInBounds_toArray, List.set_cons_zero, List.set_cons_succ]
          refine (wpAnyH_take (i := 24) (v := undef) rfl (by kernel_rfl) (by kernel_rfl) (by kernel_rfl) (fun _ _ _ h => h) (Or.inr ⟨by rfl, rfl⟩) (by assumption) ?_)
          try simp only [List.getElem_toArray, List.getElem_cons_zero, List.getElem_cons_succ, Act.put, List.setIfInBounds_toArray, List.set_cons_zero, List.set_cons_succ]
          refine (wpAnyH_take (i := 25) (v := undef) rfl (by kernel_rfl) (by kernel_rfl) (by kernel_rfl) (fun _ _ _ h => h) (Or.inr ⟨by rfl, rfl⟩) (by assumption) ?_)
          try simp only [List.getElem_toArray, List.getElem_cons_zero, List.getElem_cons_succ, Act.put, List.setIfInBounds_toArray, List.set_cons_zero, List.set_cons_succ]
          refine (wpAnyH_take (i := 26) (v := undef) rfl (by kernel_rfl) (by kernel_rfl) (by kernel_rfl) (fun _ _ _ h => h) (Or.inr ⟨by rfl, rfl⟩) (by assumption) ?_)
          try simp only [List.getElem_toArray, List.getElem_cons_zero, List.getElem_cons_succ, Act.put, List.setIfInBounds_toArray, List.set_cons_zero, List.set_cons_succ]
          refine (wpAnyH_take (i := 27) (v := ?_) rfl (by kernel_rfl) (by kernel_rfl) (by kernel_rfl) (fun _ _ _ h => h) (Or.inl ⟨by rfl, ?_⟩) (by assumption) ?_)
          rotate_left 1
          · (intro w hSw; (try dsimp only at hSw); obtain ⟨s0, s1, s2, s3⟩ := hSw; (go_simp) <;> with_reducible rfl)
          try simp only [List.getElem_toArray, List.getElem_cons_zero, List.getElem_cons_succ, Act.put, List.setIfInBounds_toArray, List.set_cons_zero, List.set_cons_succ]
          refine wpAnyH_done (by kernel_rfl) ?_ _
          clear hHeld
          go_wp2_with fail
          exact ⟨⟨j + 1, by omega, by go_num, by rw [HLs.out]; rfl, Lib.hid (HR2.out.below (Below.refl _ _).drew)⟩, by simp [intOf]; omega⟩
        exact AllReadyH.nil
end
end Go.Proofs.Ytpljcpeghjplnaa
