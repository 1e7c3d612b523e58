/-
  QPs, QWs, QWt in one text. No statement of the seat by itself.
-/
import Derived.Test.YtpljcpeghjplnaaQSp
import Derived.Test.YtpljcpeghjplnaaQSt
import Derived.BigQuiet
import Derived.Test.YtpljcpeghjplnaaZNum
import Derived.Deep.RegionHeld
import Derived.Test.YtpljcpeghjplnaaQPc
namespace Go.Proofs.Ytpljcpeghjplnaa
section
open Go.RowKit
theorem flipQ {f : Nat} {args : Array Value} {w : World} {r : Ending} (h : Calls Try.prog f args w fun e w' => e = r ∧ w = w') : Calls Try.prog f args w fun e w' => e = r ∧ w' = w := h.mono fun _ _ ⟨a, b⟩ => ⟨a, b.symm⟩
theorem qMost_any (a b : Int) (w : World) : Calls Try.prog 94 #[.int .i64 a, .int .i64 b] w fun e w' => e = .returned (.int .i64 (max a b)) ∧ w = w' := by
  by_cases h : b < a
  · rw [show max a b = a by omega]
    go_enter Try.func94, Try.ntmps94
    go_wp2_with fail
    go_ret
    exact ⟨rfl, rfl⟩
  · rw [show max a b = b by omega]
    go_enter Try.func94, Try.ntmps94
    go_wp2_with fail
    go_ret
    exact ⟨rfl, rfl⟩
theorem sumQ_sts {S : List Shp} {P : List Brt} {k : Nat} {x : Shp} {b : Brt} (hx : S[k]? = some x) (hb : P[k]? = some b) : sumQ (stsQ S P (k + 1)) = sumQ (stsQ S P k) + x.2.2.2 * (b.2 - x.2.1) := by
  rw [stsQ_succ hx hb, sumQ_app]
  rfl
theorem lasQ_sts {S : List Shp} {P : List Brt} {k : Nat} {x : Shp} {b : Brt} (hx : S[k]? = some x) (hb : P[k]? = some b) (h : 0 ≤ b.2 + x.2.2.1) : lasQ (stsQ S P (k + 1)) = max (lasQ (stsQ S P k)) (b.2 + x.2.2.1) := by
  rw [stsQ_succ hx hb, lasQ_app]
  show max (lasQ (stsQ S P k)) (max (b.2 + x.2.2.1) 0) = _
  omega
/-- What a possible plan says of a ship and its berth. -/
theorem ask_at {q : Int} {S : List Shp} {P : List Brt} (h : askQ q S P = true) {k : Nat} {x : Shp} {b : Brt} (hx : S[k]? = some x) (hb : P[k]? = some b) : okSty ((k : Int), x, b) := by
  obtain ⟨h1, h2, h3, h4⟩ := askQ_iff.1 h
  have hk : k < P.length := (List.getElem?_eq_some_iff.1 hb).1
  have := upQ_step h4 hk
  rw [stepQ_get hx hb] at this
  exact okSty_of h1 ((goodQ_iff.1 h2).2 x (List.mem_of_getElem? hx)) this
theorem ask_len {q : Int} {S : List Shp} {P : List Brt} (h : askQ q S P = true) : P.length = S.length ∧ P.length ≤ 5 := by
  obtain ⟨h1, h2, h3, h4⟩ := askQ_iff.1 h
  have := goodQ_len h2
  omega
theorem ask_sum {q : Int} {S : List Shp} {P : List Brt} (h : askQ q S P = true) (k : Nat) (hk : k ≤ P.length) : 0 ≤ sumQ (stsQ S P k) ∧ sumQ (stsQ S P k) ≤ 45000 := by
  obtain ⟨h1, h2, h3, h4⟩ := askQ_iff.1 h
  have h5 := ask_len h
  have := sumQ_bound (stsQ_ok h1 h2 (by omega) (upQ_mono h4 hk))
  rw [stsQ_len] at this
  omega

set_option maxRecDepth 100000 in
set_option maxHeartbeats 8000000 in
theorem l14Cost_any (q : Int) (v vp : Value) (S : List Shp) (P : List Brt) (ha : askQ q S P = true) (w : World) (hv : QsL w v S) (hvp : QbL w vp P) :
    Calls Try.prog 77 #[v, vp] w (RetP w (.int .i64 (sumQ (stsQ S P P.length)))) := by
  have HA := Lib.hid ha
  obtain ⟨hmn, h5⟩ := ask_len ha
  obtain ⟨a0, c0, rfl, hc0⟩ := hv
  obtain ⟨a1, c1, rfl, hc1⟩ := hvp
  obtain ⟨n, hl⟩ : ∃ n, P.length = n := ⟨_, rfl⟩
  have hm : S.length = n := by omega
  have HM := Lib.hid hm
  have HN := Lib.hid hl
  have HC0 := Lib.hid hc0
  have HC1 := Lib.hid hc1
  rw [hl] at h5 ⊢
  rw [hm]
  clear hc0 hc1 hl hm ha hmn
  go_enter Try.func77, Try.ntmps77
  go_wp2_with fail
  go_loopw [5, 6] (fun s i wr => ∃ (k : Nat) (y : Int), k ≤ n ∧ i = .int .i64 k ∧ s = .int .i64 y ∧ Hid (y = sumQ (stsQ S P k)) ∧ Hid (Below w.heap.size w wr)) (fun _ i _ => n - (intOf i).toNat)
  case atStart => exact ⟨0, 0, Nat.zero_le _, rfl, rfl, Lib.hid rfl, Lib.hid (Below.refl _ _)⟩
  case round =>
    obtain ⟨k, y, hk, rfl, rfl, HS, HB⟩ := hrel
    by_cases hlt : k < n
    · have HK := Lib.hid (ask_sum HA.out k (by rw [HN.out]; exact hk))

      obtain ⟨g, off, rfl, hg, hcc⟩ := HC0.out (by have := HM.out; omega)
      obtain ⟨g2, off2, rfl, hg2, hcc2⟩ := HC1.out (by have := HN.out; omega)
      obtain ⟨x, hx⟩ := get_at HM.out hlt
      obtain ⟨b, hb⟩ := get_at HN.out hlt
      have HOk := ask_at HA.out hx hb
      have hcs := HOk.cos
      have hsm := HOk.small
      unfold smS at hsm
      have HS2 := Lib.hid (sumQ_sts hx hb)
      obtain ⟨l, a, h, c⟩ := x
      obtain ⟨p, t⟩ := b
      have a0 := (HB.out.cell (p := ⟨g, off + k * 4, none⟩) hg).trans (hcc k _ hx).1
      have a1 := (HB.out.cell (p := ⟨g, off + k * 4 + 1, none⟩) hg).trans (hcc k _ hx).2.1
      have a2 := (HB.out.cell (p := ⟨g, off + k * 4 + 2, none⟩) hg).trans (hcc k _ hx).2.2.1
      have a3 := (HB.out.cell (p := ⟨g, off + k * 4 + 3, none⟩) hg).trans (hcc k _ hx).2.2.2
      have b0 := (HB.out.cell (p := ⟨g2, off2 + k * 2, none⟩) hg2).trans (hcc2 k _ hb).1
      have b1 := (HB.out.cell (p := ⟨g2, off2 + k * 2 + 1, none⟩) hg2).trans (hcc2 k _ hb).2
      have hki : (k : Int) < (n : Int) := by omega
      clear hcc hcc2 hg hg2 hx hb HOk
      simp only at a0 a1 a2 a3 b0 b1 hcs hsm
      have hy := HK.out
      rw [← HS.out] at hy
      obtain ⟨u, hu⟩ : ∃ u, c * (t - a) = u := ⟨_, rfl⟩
      have hub : 0 ≤ u ∧ u ≤ 9000 := by
        have e : cosQ ((k : Int), (l, a, h, c), (p, t)) = c * (t - a) := rfl
        rw [e, hu] at hcs
        exact ⟨hcs.1, hcs.2.1⟩
      have HS3 : Hid (y + u = sumQ (stsQ S P (k + 1))) := Lib.hid (by rw [HS2.out, ← HS.out]; simp only; omega)
      have hw : IntKind.i64.wrap (c * (t - a)) = u := by rw [hu, IntKind.wrap_i64]; omega
      obtain ⟨hu0, hu1⟩ := hub
      obtain ⟨hy0, hy1⟩ := hy
      clear hcs hu HS2 HK
      go_wp2_with fail
      go_quiet (fail)
      go_wp2_with fail
      exact ⟨⟨k + 1, y + u, by omega, by go_num, by go_num, HS3, Lib.hid (below_drewN HB.out _)⟩, by simp [intOf]; omega⟩
    · obtain rfl : k = n := by omega
      have e := HS.out
      subst e
      go_wp2_with fail
      go_ret
      exact ⟨rfl, HB.out⟩

set_option maxRecDepth 100000 in
set_option maxHeartbeats 8000000 in
theorem specPc_any (q : Int) (v vp : Value) (S : List Shp) (P : List Brt) (hs : S.length ≤ 1048576) (hn : P.length ≤ 1048576) (w : World) (hv : QsL w v S) (hvp : QbL w vp P) :
    Calls Try.prog 41 #[.int .i64 q, v, vp] w (RetP w (.tuple #[.int .i64 (costR q S P), .bool (askQ q S P)])) := by
  have HS := Lib.hid (l14Asked_any q v vp S P hs hn w hv hvp)
  have HV := Lib.hid hv
  have HVP := Lib.hid hvp
  cases ha : askQ q S P with
  | false =>
    rw [ha] at HS
    rw [show costR q S P = 0 by simp [costR, ha]]
    clear hv hvp ha
    go_enter Try.func41, Try.ntmps41
    go_wp2_with fail
    refine HS.out.mono ?_
    rintro e w1 ⟨rfl, hb⟩
    have HB := Lib.hid hb
    clear hb
    go_wp2_with fail
    go_ret2
    exact ⟨rfl, HB.out⟩
  | true =>
    rw [ha] at HS
    rw [show costR q S P = sumQ (stsQ S P P.length) by simp [costR, ha]]
    have HC := Lib.hid (fun W (hW : Below w.heap.size w W) => l14Cost_any q v vp S P ha W (hv.below hW) (hvp.below hW))
    clear hv hvp ha
    go_enter Try.func41, Try.ntmps41
    go_wp2_with fail
    refine HS.out.mono ?_
    rintro e w1 ⟨rfl, hb⟩
    have HB := Lib.hid hb
    clear hb
    go_wp2_with fail
    refine (HC.out _ HB.out).mono ?_
    rintro e w2 ⟨rfl, hb⟩
    have HB2 := Lib.hid (HB.out.trans (hb.mono HB.out.size))
    clear hb
    go_wp2_with fail
    go_ret2
    exact ⟨rfl, HB2.out⟩

set_option maxRecDepth 100000 in
set_option maxHeartbeats 8000000 in
theorem specLh_any (q : Int) (v vp : Value) (S : List Shp) (P : List Brt) (hs : S.length ≤ 1048576) (hn : P.length ≤ 1048576) (w : World) (hv : QsL w v S) (hvp : QbL w vp P) :
    Calls Try.prog 50 #[.int .i64 q, v, vp] w (RetP w (.tuple #[.int .i64 (lastR q S P), .bool (askQ q S P)])) := by
  have HS := Lib.hid (l14Asked_any q v vp S P hs hn w hv hvp)
  have HV := Lib.hid hv
  have HVP := Lib.hid hvp
  cases ha : askQ q S P with
  | false =>
    rw [ha] at HS
    rw [show lastR q S P = 0 by simp [lastR, ha]]
    clear hv hvp ha
    go_enter Try.func50, Try.ntmps50
    go_wp2_with fail
    refine HS.out.mono ?_
    rintro e w1 ⟨rfl, hb⟩
    have HB := Lib.hid hb
    clear hb
    go_wp2_with fail
    go_ret2
    exact ⟨rfl, HB.out⟩
  | true =>
    rw [ha] at HS
    rw [show lastR q S P = lasQ (stsQ S P P.length) by simp [lastR, ha]]
    have HMo := Lib.hid (fun (a b : Int) (W : World) => qMost_any a b W)
    have HA := Lib.hid ha
    obtain ⟨hmn, h5⟩ := ask_len ha
    obtain ⟨a0, c0, rfl, hc0⟩ := hv
    obtain ⟨a1, c1, rfl, hc1⟩ := hvp
    obtain ⟨n, hl⟩ : ∃ n, P.length = n := ⟨_, rfl⟩
    have hm : S.length = n := by omega
    have HM := Lib.hid hm
    have HN := Lib.hid hl
    have HC0 := Lib.hid hc0
    have HC1 := Lib.hid hc1
    rw [hl] at h5 HS ⊢
    rw [hm] at HS ⊢
    clear HV HVP hc0 hc1 hl hm ha hmn
    go_enter Try.func50, Try.ntmps50
    go_wp2_with fail
    refine HS.out.mono ?_
    rintro e w1 ⟨rfl, hb⟩
    have HB := Lib.hid hb
    clear hb HS
    go_wp2_with fail
    go_loopw [8, 9] (fun s i wr => ∃ (k : Nat) (y : Int), k ≤ n ∧ i = .int .i64 k ∧ s = .int .i64 y ∧ Hid (y = lasQ (stsQ S P k)) ∧ Hid (Below w.heap.size w wr)) (fun _ i _ => n - (intOf i).toNat)
    case atStart => exact ⟨0, 0, Nat.zero_le _, rfl, rfl, Lib.hid rfl, HB⟩
    case round =>
      obtain ⟨k, y, hk, rfl, rfl, HS, HB⟩ := hrel
      by_cases hlt : k < n
      · skip
        obtain ⟨g, off, rfl, hg, hcc⟩ := HC0.out (by have := HM.out; omega)
        obtain ⟨g2, off2, rfl, hg2, hcc2⟩ := HC1.out (by have := HN.out; omega)
        obtain ⟨x, hx⟩ := get_at HM.out hlt
        obtain ⟨b, hb⟩ := get_at HN.out hlt
        have HOk := ask_at HA.out hx hb
        have hcs := HOk.cos
        have hsm := HOk.small
        unfold smS at hsm
        have HS2 := Lib.hid (lasQ_sts hx hb (by have := HOk.cos; unfold endQ at this; simp only at this; omega))
        obtain ⟨l, a, h, c⟩ := x
        obtain ⟨p, t⟩ := b
        have a0 := (HB.out.cell (p := ⟨g, off + k * 4, none⟩) hg).trans (hcc k _ hx).1
        have a1 := (HB.out.cell (p := ⟨g, off + k * 4 + 1, none⟩) hg).trans (hcc k _ hx).2.1
        have a2 := (HB.out.cell (p := ⟨g, off + k * 4 + 2, none⟩) hg).trans (hcc k _ hx).2.2.1
        have a3 := (HB.out.cell (p := ⟨g, off + k * 4 + 3, none⟩) hg).trans (hcc k _ hx).2.2.2
        have b0 := (HB.out.cell (p := ⟨g2, off2 + k * 2, none⟩) hg2).trans (hcc2 k _ hb).1
        have b1 := (HB.out.cell (p := ⟨g2, off2 + k * 2 + 1, none⟩) hg2).trans (hcc2 k _ hb).2
        have hki : (k : Int) < (n : Int) := by omega
        clear hcc hcc2 hg hg2 hx hb HOk
        simp only at a0 a1 a2 a3 b0 b1 hcs hsm
        have HS3 : Hid (max y (t + h) = lasQ (stsQ S P (k + 1))) := Lib.hid (by rw [HS2.out, ← HS.out])
        clear hcs HS2
        go_wp2_with fail
        go_quiet ((go_at_call 94; exact Calls.quiet_of_same (flipQ (HMo.out _ _ _))))
        go_wp2_with fail
        exact ⟨⟨k + 1, _, by omega, by go_num, rfl, HS3, Lib.hid (below_drewN HB.out _)⟩, by simp [intOf]; omega⟩
      · obtain rfl : k = n := by omega
        have e := HS.out
        subst e
        go_wp2_with fail
        go_ret2
        exact ⟨rfl, HB.out⟩
end

section
open Go.RowKit
/-- append of an int onto a row of the call's own, inside a region that draws its order. -/
theorem step_num {ops : Array Oper} {o : Oper} {a : Act} {w : World} {K : Act → World → Prop} {Q : Exit → Act → World → Prop} {E : Prop} (hgd : o.guard = none) (s x : Operand)
    (ho : o.op = .call { callee := .builtin .append, args := #[s, x], argTypes := #[25, 25] }) (base : Nat) (v : Value) (n : Nat) (xs : List Value) (hs : a.eval s = v) (hown : w.ownsRow base 3 1 v n xs)
    (ad : Addr) (c : Nat) (u : Value) (hx : a.eval x = .slice (some ad) 1 c) (hnews : ∀ j y, ([u] : List Value)[j]? = some y → w.cell? (ad.add j) = some y) (h1 : u.oneCell' = true)
    (hb : n ≤ 1000) (hbase : base ≤ w.heap.size)
    (h : ∀ v' w', w'.ownsRow base 3 1 v' (n + 1) (xs ++ [u]) → w.grownBy w' v.ownBlock → (v' = .slice none 0 0 ↔ v = .slice none 0 0 ∧ 1 = 0) → K (a.put o.dst v') w') :
    if Region.wanted o (yielded ops a.tmps) = true then Oper.wp Try.prog o a w K Q else E := by
  have hw : Region.wanted o (yielded ops a.tmps) = true := by simp [Region.wanted, hgd]
  obtain ⟨i0, hi, hz0, hz1, hz2⟩ := info_is info3
  rw [if_pos hw]
  exact wp_append_own w s x 25 ho base 3 i0 (.int .i64 0) 1 8 Try.underlying25 hi hz0 hz1 hz2 rfl (by decide) v n xs hs hown ad 1 c [u] hx rfl hnews (by simpa using h1) (by unfold maxLen; omega) (by omega) hbase h
theorem retL_numsR {w wr : World} {sv : Value} {R : List Int} (h : NumS w wr sv R) (ok : Bool) : RetL w R ok (.returned (.tuple #[sv, .bool ok])) wr := by
  obtain ⟨h1, h2, _⟩ := h
  obtain ⟨a, c, rfl⟩ := own_form h1
  exact ⟨a, c, rfl, lo_of_own h1 (Nat.le_refl _), h2⟩
theorem waits_sts {S : List Shp} {P : List Brt} {k : Nat} {x : Shp} {b : Brt} (hx : S[k]? = some x) (hb : P[k]? = some b) : (stsQ S P (k + 1)).map waiQ = (stsQ S P k).map waiQ ++ [b.2 - x.2.1] := by
  rw [stsQ_succ hx hb]
  simp [waiQ]

theorem waitR_len (q : Int) (S : List Shp) (P : List Brt) : (waitR q S P).length ≤ 1000 := by
  unfold waitR
  split
  · next h =>
    have := ask_len h
    rw [List.length_map, stsQ_len]
    omega
  · simp

set_option maxRecDepth 100000 in
set_option maxHeartbeats 8000000 in
theorem specWt_any (q : Int) (v vp : Value) (S : List Shp) (P : List Brt) (hs : S.length ≤ 1048576) (hn : P.length ≤ 1048576) (w : World) (hv : QsL w v S) (hvp : QbL w vp P) :
    Calls Try.prog 51 #[.int .i64 q, v, vp] w (RetL w (waitR q S P) (askQ q S P)) := by
  have R0 := Lib.hid (numS_start w)
  have HS := Lib.hid (l14Asked_any q v vp S P hs hn _ (hv.below (below_one w (.cells #[] 3))) (hvp.below (below_one w (.cells #[] 3))))
  cases ha : askQ q S P with
  | false =>
    rw [ha] at HS
    rw [show waitR q S P = [] by simp [waitR, ha]]
    clear hv hvp ha
    go_enter Try.func51, Try.ntmps51
    go_wp2_with fail
    generalize hW0 : w.alloc (.cells #[] 3) = w0 at *
    refine HS.out.mono ?_
    rintro e w1 ⟨rfl, hb⟩
    have HX := Lib.hid (retL_numsR (R0.out.below hb) false)
    clear hb
    go_wp2_with fail
    go_ret2
    exact HX.out
  | true =>
    rw [ha] at HS
    rw [show waitR q S P = (stsQ S P P.length).map waiQ by simp [waitR, ha]]
    have HA := Lib.hid ha
    obtain ⟨hmn, h5⟩ := ask_len ha
    obtain ⟨a0, c0, rfl, hc0⟩ := hv
    obtain ⟨a1, c1, rfl, hc1⟩ := hvp
    obtain ⟨n, hl⟩ : ∃ n, P.length = n := ⟨_, rfl⟩
    have hm : S.length = n := by omega
    have HM := Lib.hid hm
    have HN := Lib.hid hl
    have HC0 := Lib.hid hc0
    have HC1 := Lib.hid hc1
    rw [hl] at h5 HS ⊢
    rw [hm] at HS ⊢
    clear hc0 hc1 hl hm ha hmn
    go_enter Try.func51, Try.ntmps51
    go_wp2_with fail
    generalize hW0 : w.alloc (.cells #[] 3) = w0 at *
    refine HS.out.mono ?_
    rintro e w1 ⟨rfl, hb⟩
    have HR1 := Lib.hid (R0.out.below hb)
    clear hb HS
    go_wp2_with fail
    go_loopw [8, 9] (fun s i wr => ∃ k : Nat, k ≤ n ∧ i = .int .i64 k ∧ Hid (NumS w wr s ((stsQ S P k).map waiQ))) (fun _ i _ => n - (intOf i).toNat)
    case atStart => exact ⟨0, Nat.zero_le _, rfl, HR1⟩
    case round =>
      obtain ⟨k, hk, rfl, HR⟩ := hrel
      by_cases hlt : k < n
      · obtain ⟨g, off, rfl, hg, hcc⟩ := HC0.out (by have := HM.out; omega)
        obtain ⟨g2, off2, rfl, hg2, hcc2⟩ := HC1.out (by have := HN.out; omega)
        obtain ⟨x, hx⟩ := get_at HM.out hlt
        obtain ⟨b, hb⟩ := get_at HN.out hlt
        have hsm := (ask_at HA.out hx hb).small
        unfold smS at hsm
        have HK2 := Lib.hid (waits_sts hx hb)
        obtain ⟨l, a, h, c⟩ := x
        obtain ⟨p, t⟩ := b
        have HE : Hid (∀ (W : World), Below w.heap.size w W → W.cell? ⟨g, off + k * 4 + 1, none⟩ = some (.int .i64 a) ∧ W.cell? ⟨g2, off2 + k * 2 + 1, none⟩ = some (.int .i64 t)) := Lib.hid fun W hW =>
          ⟨(hW.cell (p := ⟨g, off + k * 4 + 1, none⟩) hg).trans (hcc k _ hx).2.1, (hW.cell (p := ⟨g2, off2 + k * 2 + 1, none⟩) hg2).trans (hcc2 k _ hb).2⟩
        have hki : (k : Int) < (n : Int) := by omega
        have hlen : ((stsQ S P k).map waiQ).length = k := by rw [List.length_map, stsQ_len]
        have hst := HR.out.2.1.drew
        have HRd := Lib.hid (HR.out.below (Below.refl _ _).drew)
        have hz := HR.out.2.1.size
        simp only at hsm HK2
        have HWr : Hid (IntKind.i64.wrap (t - a) = t - a) := Lib.hid (by rw [IntKind.wrap_i64]; omega)
        clear hcc hcc2 hg hg2 hx hb HR
        go_wp2_with fail
        refine wp_region_held_drew (S := fun W' => Below w.heap.size w W') (by kernel_rfl) ?_ (fun hHeld => ?_)
        · exact hst
        refine (wpAnyH_take (i := 0) (v := ?_) rfl (by kernel_rfl) (by kernel_rfl) (by kernel_rfl) (fun _ _ _ h => h) (Or.inl ⟨by rfl, ?_⟩) (by assumption) ?_)
        rotate_left 1
        · (intro W hSw; clear hSw; (go_simp) <;> with_reducible rfl)
        try simp only [List.getElem_toArray, List.getElem_cons_zero, Act.put, List.setIfInBounds_toArray, List.set_cons_zero, List.set_cons_succ]
        refine (wpAnyH_take (i := 1) (v := ?_) rfl (by kernel_rfl) (by kernel_rfl) (by kernel_rfl) (fun _ _ _ h => h) (Or.inl ⟨by rfl, ?_⟩) (by assumption) ?_)
        rotate_left 1
        · (intro W hSw; clear hSw; (go_simp) <;> with_reducible rfl)
        try simp only [List.getElem_toArray, List.getElem_cons_zero, List.getElem_cons_succ, Act.put, List.setIfInBounds_toArray, List.set_cons_zero, List.set_cons_succ]
        refine (wpAnyH_take (i := 2) (v := ?_) rfl (by kernel_rfl) (by kernel_rfl) (by kernel_rfl) (fun _ _ _ h => h) (Or.inl ⟨by rfl, ?_⟩) (by assumption) ?_)
        rotate_left 1
        · (intro W hSw; clear hSw; (go_simp) <;> with_reducible rfl)
        try simp only [List.getElem_toArray, List.getElem_cons_zero, List.getElem_cons_succ, Act.put, List.setIfInBounds_toArray, List.set_cons_zero, List.set_cons_succ]
        refine (wpAnyH_take (i := 3) (v := ?_) rfl (by kernel_rfl) (by kernel_rfl) (by kernel_rfl) (fun _ _ _ h => h) (Or.inl ⟨by rfl, ?_⟩) (by assumption) ?_)
        rotate_left 1
        · (intro W hSw; clear hSw; (go_simp) <;> with_reducible rfl)
        try simp only [List.getElem_toArray, List.getElem_cons_zero, List.getElem_cons_succ, Act.put, List.setIfInBounds_toArray, List.set_cons_zero, List.set_cons_succ]
        refine (wpAnyH_take (i := 4) (v := ?_) rfl (by kernel_rfl) (by kernel_rfl) (by kernel_rfl) (fun _ _ _ h => h) (Or.inl ⟨by rfl, ?_⟩) (by assumption) ?_)
        rotate_left 1
        · (intro W hSw; clear hSw; (go_simp) <;> with_reducible rfl)
        try simp only [List.getElem_toArray, List.getElem_cons_zero, List.getElem_cons_succ, Act.put, List.setIfInBounds_toArray, List.set_cons_zero, List.set_cons_succ]
        refine (wpAnyH_take (i := 5) (v := ?_) rfl (by kernel_rfl) (by kernel_rfl) (by kernel_rfl) (fun _ _ _ h => h) (Or.inl ⟨by rfl, ?_⟩) (by assumption) ?_)
        rotate_left 1
        · (intro W hSw; obtain ⟨s0, s1⟩ := HE.out W hSw; clear hSw; (go_simp) <;> with_reducible rfl)
        try simp only [List.getElem_toArray, List.getElem_cons_zero, List.getElem_cons_succ, Act.put, List.setIfInBounds_toArray, List.set_cons_zero, List.set_cons_succ]
        refine (wpAnyH_take (i := 6) (v := ?_) rfl (by kernel_rfl) (by kernel_rfl) (by kernel_rfl) (fun _ _ _ h => h) (Or.inl ⟨by rfl, ?_⟩) (by assumption) ?_)
        rotate_left 1
        · (intro W hSw; clear hSw; (go_simp) <;> with_reducible rfl)
        try simp only [List.getElem_toArray, List.getElem_cons_zero, List.getElem_cons_succ, Act.put, List.setIfInBounds_toArray, List.set_cons_zero, List.set_cons_succ]
        refine (wpAnyH_take (i := 7) (v := ?_) rfl (by kernel_rfl) (by kernel_rfl) (by kernel_rfl) (fun _ _ _ h => h) (Or.inl ⟨by rfl, ?_⟩) (by assumption) ?_)
        rotate_left 1
        · (intro W hSw; clear hSw; (go_simp) <;> with_reducible rfl)
        try simp only [List.getElem_toArray, List.getElem_cons_zero, List.getElem_cons_succ, Act.put, List.setIfInBounds_toArray, List.set_cons_zero, List.set_cons_succ]
        refine (wpAnyH_take (i := 8) (v := ?_) rfl (by kernel_rfl) (by kernel_rfl) (by kernel_rfl) (fun _ _ _ h => h) (Or.inl ⟨by rfl, ?_⟩) (by assumption) ?_)
        rotate_left 1
        · (intro W hSw; clear hSw; (go_simp) <;> with_reducible rfl)
        try simp only [List.getElem_toArray, List.getElem_cons_zero, List.getElem_cons_succ, Act.put, List.setIfInBounds_toArray, List.set_cons_zero, List.set_cons_succ]
        refine (wpAnyH_take (i := 9) (v := ?_) rfl (by kernel_rfl) (by kernel_rfl) (by kernel_rfl) (fun _ _ _ h => h) (Or.inl ⟨by rfl, ?_⟩) (by assumption) ?_)
        rotate_left 1
        · (intro W hSw; clear hSw; (go_simp) <;> with_reducible rfl)
        try simp only [List.getElem_toArray, List.getElem_cons_zero, List.getElem_cons_succ, Act.put, List.setIfInBounds_toArray, List.set_cons_zero, List.set_cons_succ]
        refine (wpAnyH_take (i := 10) (v := ?_) rfl (by kernel_rfl) (by kernel_rfl) (by kernel_rfl) (fun _ _ _ h => h) (Or.inl ⟨by rfl, ?_⟩) (by assumption) ?_)
        rotate_left 1
        · (intro W hSw; obtain ⟨s0, s1⟩ := HE.out W hSw; clear hSw; (go_simp) <;> with_reducible rfl)
        try simp only [List.getElem_toArray, List.getElem_cons_zero, List.getElem_cons_succ, Act.put, List.setIfInBounds_toArray, List.set_cons_zero, List.set_cons_succ]
        refine (wpAnyH_take (i := 11) (v := ?_) rfl (by kernel_rfl) (by kernel_rfl) (by kernel_rfl) (fun _ _ _ h => h) (Or.inl ⟨by rfl, ?_⟩) (by assumption) ?_)
        rotate_left 1
        · (intro W hSw; clear hSw; (go_simp) <;> with_reducible rfl)
        try simp only [List.getElem_toArray, List.getElem_cons_zero, List.getElem_cons_succ, Act.put, List.setIfInBounds_toArray, List.set_cons_zero, List.set_cons_succ]
        refine wpAnyH_ready (rs := [12]) (by kernel_rfl) (by simp) ?_
        refine AllReadyH.cons rfl (fun K hK => ?_) ?_
        · go_simp
          refine hK.out _ _ ?_ (fun hNew => ?_)
          · (try dsimp only); exact Below.alloc hHeld (Below.size hHeld) _
          clear hK K hHeld
          have hHeld := hNew
          clear hNew
          try simp only [List.getElem_toArray, List.getElem_cons_zero, List.getElem_cons_succ, Act.put, List.setIfInBounds_toArray, List.set_cons_zero, List.set_cons_succ]
          refine wpAnyH_ready (rs := [13]) (by kernel_rfl) (by simp) ?_
          refine AllReadyH.cons rfl (fun K hK => ?_) ?_
          · refine step_num (by rfl) _ _ (by rfl) w.heap.size _ ((stsQ S P k).map waiQ).length (intV ((stsQ S P k).map waiQ)) (by rfl) (HRd.out.1.alloc _) _ _ _ (by rfl) (cell_one_new _ _ _) (by simp [Value.oneCell']) (by omega) (Below.size hHeld) ?_; intro v5 w5 ho5 hg5 hn5
            have HN5 := Lib.hid (HRd.out.push ho5 hg5 (fun e => by have := (hn5.1 e).2; omega))
            refine hK.out _ _ ?_ (fun hNew => ?_)
            · (try dsimp only); exact HN5.out.2.1
            clear hK K hHeld
            have hHeld := hNew
            clear hNew
            try simp only [List.getElem_toArray, List.getElem_cons_zero, List.getElem_cons_succ, Act.put, List.setIfInBounds_toArray, List.set_cons_zero, List.set_cons_succ]
            refine (wpAnyH_take (i := 14) (v := ?_) rfl (by kernel_rfl) (by kernel_rfl) (by kernel_rfl) (fun _ _ _ h => h) (Or.inl ⟨by rfl, ?_⟩) (by assumption) ?_)
            rotate_left 1
            · (intro W hSw; clear hSw; (go_simp) <;> with_reducible rfl)
            try simp only [List.getElem_toArray, List.getElem_cons_zero, List.getElem_cons_succ, Act.put, List.setIfInBounds_toArray, List.set_cons_zero, List.set_cons_succ]
            refine wpAnyH_done (by kernel_rfl) ?_ _
            have HN6 : Hid (NumS w w5 v5 ((stsQ S P (k + 1)).map waiQ)) := Lib.hid (by rw [HK2.out]; have h6 := HN5.out; rw [HWr.out] at h6; exact h6)
            clear hHeld ho5 hg5 hn5 HN5 HRd
            go_wp2_with fail
            exact ⟨⟨k + 1, by omega, by go_num, HN6⟩, by simp [intOf]; omega⟩
          exact AllReadyH.nil
        exact AllReadyH.nil
      · obtain rfl : k = n := by omega
        have HX := Lib.hid (retL_numsR HR.out true)
        go_wp2_with fail
        go_ret2
        exact HX.out
end

section
open Go.RowKit
theorem retL_numsQ {w wr : World} {sv : Value} {R : List Int} (h : NumS w wr sv R) (ok : Bool) : RetL w R ok (.returned (.tuple #[sv, .bool ok])) wr := by
  obtain ⟨h1, h2, _⟩ := h
  obtain ⟨a, c, rfl⟩ := own_form h1
  exact ⟨a, c, rfl, lo_of_own h1 (Nat.le_refl _), h2⟩
theorem MoC.of_block {w w' : World} {b off : Nat} {q : Int} {M : List Sty} (h : MoC w b off q M) (hb : w'.heap[b]? = w.heap[b]?) : MoC w' b off q M := by
  obtain ⟨h1, h2, h3, h4, h5, h6⟩ := h
  have hc : ∀ j, w'.cell? ⟨b, j, none⟩ = w.cell? ⟨b, j, none⟩ := fun j => World.cell?_of_block (w := w) (a := ⟨b, j, none⟩) hb
  refine ⟨(hc _).trans h1, (hc _).trans h2, fun j s hs i v hv => (hc _).trans (h3 j s hs i v hv), fun j hj => ?_, fun j hj => (World.frozen?_of_block (w := w) (a := ⟨b, off + j, none⟩) hb).trans (h5 j hj), h6⟩
  obtain ⟨i, hi⟩ := h4 j hj
  exact ⟨i, (hc _).trans hi⟩
theorem MoC.grew {w w' : World} {b off : Nat} {q : Int} {M : List Sty} {o : Obj} {row : Option Nat} (h : MoC w b off q M) (hg : (w.alloc o).grownBy w' row) (hr : ∀ k, row = some k → k ≠ b) : MoC w' b off q M :=
  (h.below (below_one w o)).of_block (hg.block b (by have := h.block; simp; omega) fun e => hr b e.symm rfl)
theorem waits_take {M : List Sty} {k : Nat} {s : Sty} (hs : M[k]? = some s) : (M.take (k + 1)).map waiQ = (M.take k).map waiQ ++ [waiQ s] := by
  rw [List.take_add_one, hs]
  simp

set_option maxRecDepth 100000 in
set_option maxHeartbeats 8000000 in
theorem implWt_any (q : Int) (v vp : Value) (S : List Shp) (P : List Brt) (hs : S.length ≤ 1048576) (hn : P.length ≤ 1048576) (w : World) (hv : QsL w v S) (hvp : QbL w vp P) :
    Calls Try.prog 26 #[.int .i64 q, v, vp] w (RetL w (waitR q S P) (askQ q S P)) := by
  obtain ⟨f3, hi3, hz0, hz1, hz2⟩ := info_is info3
  have R0 := Lib.hid (numS_start w)
  have H1 := Lib.hid (mooringOf_any q v vp S P hs hn _ (hv.below (below_one w (.cells #[] 3))) (hvp.below (below_one w (.cells #[] 3))))
  have HOk := Lib.hid (mfM_ok (q := q) (S := S) (P := P))
  rw [waitR_mf]
  clear hv hvp
  unfold MfP at H1
  generalize askQ q S P = bq at *
  generalize mfM q S P = M at *
  generalize mfQ q S P = q1 at *
  go_enter Try.func26, Try.ntmps26
  go_wp2_with fail
  generalize hW0 : w.alloc (.cells #[] 3) = w0 at *
  refine H1.out.mono ?_
  rintro e w1 ⟨xs, hx, rfl, hb⟩
  have HX := Lib.hid hx
  have HR1 := Lib.hid (R0.out.below hb)
  have HBm : Hid (w.heap.size < w1.heap.size) := Lib.hid (by have := hb.size; rw [← hW0] at this; simp at this; omega)
  clear hx hb
  go_wp2_with (first | (refine wpList_newM rfl rfl ?_; intro W2 hN2; have N2 := Lib.hid hN2; clear hN2) | (refine wpList_putM rfl _ _ rfl w1.heap.size rfl xs rfl HX.out.1 N2.out.there ?_; intro W3 hP3; have P3 := Lib.hid hP3; clear hP3))
  have HM := Lib.hid (N2.out.put P3.out HX.out).1
  have HR3 := Lib.hid (HR1.out.below (N2.out.put P3.out HX.out).2.1)
  clear N2 P3 HX HR1
  refine (moored0_any _ _ M _ HM.out).mono ?_
  rintro e w4 ⟨rfl, hb⟩
  have HR4 := Lib.hid (HR3.out.below hb)
  have HM4 := Lib.hid (HM.out.below hb)
  have hl := HM.out.2.2.2.2.2
  clear hb HM HR3
  generalize w1.heap.size = bm at *
  obtain ⟨n, hn2⟩ : ∃ n, M.length = n := ⟨_, rfl⟩
  have HN := Lib.hid hn2
  have HBk := Lib.hid HM4.out.block
  rw [hn2] at hl ⊢
  clear hn2
  go_wp2_with fail
  go_loopw [8, 23] (fun s i wr => ∃ k : Nat, k ≤ n ∧ i = .int .i64 k ∧ Hid (NumS w wr s ((M.take k).map waiQ)) ∧ Hid (∀ b, s.ownBlock = some b → b ≠ bm) ∧ Hid (MoC wr bm 0 q1 M)) (fun _ i _ => n - (intOf i).toNat)
  case atStart => exact ⟨0, Nat.zero_le _, rfl, HR4, Lib.hid (fun b hb => by injection hb with hb; subst hb; exact Nat.ne_of_lt HBm.out), HM4⟩
  case round =>
    obtain ⟨k, hk, rfl, HR, HAp, HMo⟩ := hrel
    by_cases hlt : k < n
    · obtain ⟨s, hs2⟩ := get_at HN.out hlt
      obtain ⟨a0, a1, a2, a3, a4, a5, a6⟩ := st_cells (HMo.out.at0 hs2)
      have hsm := (HOk.out s (List.mem_of_getElem? hs2)).small
      have HE := Lib.hid (waitF_any s.1 s.2.1.1 s.2.1.2.1 s.2.1.2.2.1 s.2.1.2.2.2 s.2.2.1 s.2.2.2 (by unfold smS at hsm; omega) (by unfold smS at hsm; omega) (wr.alloc (.cells (svV s).toArray 90)))
      have HB2 := below_one wr (.cells (svV s).toArray 90)
      have HR2 := Lib.hid (HR.out.below HB2)
      have HMa := Lib.hid (HMo.out.below HB2)
      have HK2 := Lib.hid (waits_take hs2)
      have hki : (k : Int) < (n : Int) := by omega
      have hu : s.2.2.2 - s.2.1.2.1 = waiQ s := rfl
      rw [hu] at HE
      generalize waiQ s = u at *
      have hlen : ((M.take k).map waiQ).length ≤ 5 := by simp only [List.length_map, List.length_take]; have := HN.out; omega
      clear hs2 hu hsm HB2
      go_wp2_with fail
      refine HE.out.mono ?_
      rintro e w5 ⟨rfl, hb⟩
      have HR3 := Lib.hid (HR2.out.below hb)
      have HM5 := Lib.hid (HMa.out.below hb)
      clear hb a0 a1 a2 a3 a4 a5 a6 HR HMo HR2 HMa
      have hrow := HR3.out.1
      have hz := HR3.out.2.1.size
      generalize hSS : (M.take k).map waiQ = SS at *
      go_wp2_with (at_builtin; refine wpList_append_own_at _ rfl _ _ 25 rfl w.heap.size 3 f3 (.int .i64 0) 1 8 Try.underlying25 hi3 hz0 ‹_› hz2 rfl (by decide) _ _ _ rfl (hrow.alloc _) ⟨w5.heap.size, 0, none⟩ 1 1 [.int .i64 u] rfl rfl (cell_one_new _ _ _) (by simp [Value.oneCell']) (by unfold maxLen; omega) (by omega) (by simp; omega) ?_; intro v' w4 hown' hgrow hnil hat)
      have HN4 : Hid (NumS w w4 v' ((M.take (k + 1)).map waiQ)) := Lib.hid (by rw [HK2.out]; exact HR3.out.push hown' hgrow (fun e => by have := (hnil.1 e).2; omega))
      have HM6 : Hid (MoC w4 bm 0 q1 M) := Lib.hid (MoC.grew HM5.out hgrow HAp.out)
      have HAp2 : Hid (∀ b, v'.ownBlock = some b → b ≠ bm) := Lib.hid fun b hb => by
        rcases hat with e | e
        · exact HAp.out b (Eq.trans e.symm hb)
        · rw [e] at hb
          injection hb with hb
          have := HM5.out.block
          simp at hb
          omega
      clear hown' hgrow hnil hrow hat
      exact ⟨⟨k + 1, by omega, by go_num, HN4, HAp2, HM6⟩, by simp [intOf]; omega⟩
    · obtain rfl : k = n := by omega
      have e := HR.out
      rw [List.take_of_length_le (by have := HN.out; omega)] at e
      have HX := Lib.hid (retL_numsQ e bq)
      go_wp2_with fail
      go_ret2
      exact HX.out
end
end Go.Proofs.Ytpljcpeghjplnaa
