/-
  What the two WeightAbove and IsUpright return. No statement of the seat by itself.
-/
import Derived.Test.YtndafdjllbhbfaaLdS
import Derived.Test.YtndafdjllbhbfaaFrac
namespace Go.Proofs.Ytndafdjllbhbfaa
open Go.RowKit

/-- What a load counts above a height. -/
def abW (h : Int) (c : Int × Int × Int) : Int := if h < c.2.2 then c.1 else 0
/-- Whether the weight above was asked for with good numbers. -/
def askWa (S : List (Int × Int × Int)) (h : Int) : Bool := goodLd S && decide (0 ≤ h ∧ h ≤ 400)
/-- An int and whether it worked. -/
def RetG1 (w : World) (r : Int × Bool) : Ending → World → Prop := RetP w (.tuple #[.int .i64 r.1, .bool r.2])
def waV (S : List (Int × Int × Int)) (h : Int) : Int × Bool := if askWa S h then (sumF (abW h) S, true) else (0, false)
theorem abW_small {h : Int} {c : Int × Int × Int} (k : okLd c = true) : 0 ≤ abW h c ∧ abW h c ≤ 32000 := by
  obtain ⟨⟨a1, a2⟩, -⟩ := okLd_iff.1 k
  unfold abW
  split <;> omega

set_option maxRecDepth 100000 in
set_option maxHeartbeats 4000000 in
theorem specWa_any (v : Value) (S : List (Int × Int × Int)) (h : Int) (hn : S.length ≤ 1048576) (w : World) (hv : LdL w v S) :
    Calls Try.prog 27 #[v, .int .i64 h] w (RetG1 w (waV S h)) := by
  have HG := Lib.hid (l11Good_any v S hn w hv)
  obtain ⟨a, c, rfl, hc⟩ := hv
  have HC := Lib.hid hc
  clear hc
  cases hg : goodLd S with
  | false =>
    rw [hg] at HG
    rw [show waV S h = (0, false) by simp [waV, askWa, hg]]
    clear hg
    go_enter Try.func27, Try.ntmps27
    go_wp2_with fail
    refine HG.out.mono ?_
    rintro e w1 ⟨rfl, hb⟩
    have HB := Lib.hid hb
    clear hb
    go_wp2_with fail
    go_ret2
    exact ⟨rfl, HB.out⟩
  | true =>
    have HGD := Lib.hid hg
    rw [hg] at HG
    by_cases q : 0 ≤ h ∧ h ≤ 400
    · have HI := Lib.hid (fun W => l1In_yes h 0 400 W q.1 q.2)
      rw [show waV S h = (sumF (abW h) S, true) by simp [waV, askWa, hg, q]]
      have hl20 := goodLd_len hg
      have HT := Lib.hid (fun k => sumF_take_small (abW h) 32000 S (fun c hc => by have := abW_small (h := h) ((goodLd_iff.1 hg).2 c hc); omega) (by decide) hl20 k)
      obtain ⟨n, hl⟩ : ∃ n, S.length = n := ⟨_, rfl⟩
      have HN := Lib.hid hl
      rw [hl] at HG hl20 ⊢
      clear hg hl q hn
      go_enter Try.func27, Try.ntmps27
      go_wp2_with fail
      refine HG.out.mono ?_
      rintro e w1 ⟨rfl, hb⟩
      have HB1 := Lib.hid hb
      clear hb
      go_wp2_with fail
      refine (HI.out _).mono ?_
      rintro e w2 ⟨rfl, rfl⟩
      go_wp2_with fail
      go_loopw [6, 7] (fun s i wr => ∃ (k : Nat) (t : Int), k ≤ n ∧ i = .int .i64 k ∧ s = .int .i64 t ∧ Hid (t = sumF (abW h) (S.take k)) ∧ Hid (Below w.heap.size w wr)) (fun _ i _ => n - (intOf i).toNat)
      case atStart => exact ⟨0, 0, Nat.zero_le _, rfl, rfl, Lib.hid rfl, HB1⟩
      case round =>
        obtain ⟨k, t, hk, rfl, rfl, HS, HB⟩ := hrel
        by_cases hlt : k < n
        · obtain ⟨g, off, rfl, hgg, hcc⟩ := HC.out (by have := HN.out; omega)
          obtain ⟨s, hs⟩ := get_at HN.out hlt
          obtain ⟨x, y, z⟩ := s
          have o0 : wr.cell? ⟨g, off + k * 3, none⟩ = some (.int .i64 x) := (HB.out.cell (p := ⟨g, off + k * 3, none⟩) hgg).trans (hcc k _ hs).1
          have o2 : wr.cell? ⟨g, off + k * 3 + 2, none⟩ = some (.int .i64 z) := (HB.out.cell (p := ⟨g, off + k * 3 + 2, none⟩) hgg).trans (hcc k _ hs).2.2
          obtain ⟨⟨x1, x2⟩, -⟩ := goodLd_get HGD.out hs
          simp only at x1 x2
          have HK2 := sumF_take (abW h) hs
          obtain ⟨q1, q2⟩ := HT.out k
          rw [← HS.out] at q1 q2
          have hki : (k : Int) < (n : Int) := by omega
          clear hcc hs
          by_cases hz : h < z
          · have HT2 : Hid (t + x = sumF (abW h) (S.take (k + 1))) := Lib.hid (by rw [HK2, HS.out]; simp [abW, hz])
            clear HK2
            go_wp2_with fail
            exact ⟨⟨k + 1, t + x, by omega, by go_num, by go_num, HT2, HB⟩, by simp [intOf]; omega⟩
          · have HT2 : Hid (t = sumF (abW h) (S.take (k + 1))) := Lib.hid (by rw [HK2, HS.out]; simp [abW, hz])
            clear HK2
            go_wp2_with fail
            exact ⟨⟨k + 1, t, by omega, by go_num, rfl, HT2, HB⟩, by simp [intOf]; omega⟩
        · obtain rfl : k = n := by omega
          have HE := Lib.hid (List.take_of_length_le (l := S) (i := k) (by have := HN.out; omega))
          go_wp2_with fail
          go_ret2
          have e1 := HS.out
          rw [HE.out] at e1
          exact ⟨by rw [← e1]; rfl, HB.out⟩
    · have HI := Lib.hid (fun W => l1In_no h 0 400 W (by omega))
      rw [show waV S h = (0, false) by unfold waV askWa; rw [decide_eq_false q]; simp]
      clear hg q
      go_enter Try.func27, Try.ntmps27
      go_wp2_with fail
      refine HG.out.mono ?_
      rintro e w1 ⟨rfl, hb⟩
      have HB := Lib.hid hb
      clear hb
      go_wp2_with fail
      refine (HI.out _).mono ?_
      rintro e w2 ⟨rfl, rfl⟩
      go_wp2_with fail
      go_ret2
      exact ⟨rfl, HB.out⟩

/-- The counting function of impl.WeightAbove: what it captures is the box of the height. -/
theorem above_any (p q r h : Int) (b : Nat) (w : World) (hb : b < w.heap.size) (hc : w.cell? ⟨b, 0, none⟩ = some (.int .i64 h)) : Calls Try.prog 66 (#[.agg #[.int .i64 p, .int .i64 q, .int .i64 r]] ++ #[.pointer (some ⟨b, 0, none⟩)]) w fun e w' => e = .returned (.int .i64 (abW h (p, q, r))) ∧ Below w.heap.size w w' := by
  have B0 := Lib.hid (below_one w (.cells #[.int .i64 p, .int .i64 q, .int .i64 r] 50))
  have c1 : (w.alloc (.cells #[.int .i64 p, .int .i64 q, .int .i64 r] 50)).cell? ⟨b, 0, none⟩ = some (.int .i64 h) := (World.cell?_alloc_lt w _ ⟨b, 0, none⟩ hb).trans hc
  clear hb hc
  by_cases hr : h < r
  · rw [show abW h (p, q, r) = p by simp [abW, hr]]
    go_enter Try.func66, Try.ntmps66
    go_wp2_with fail
    go_ret
    exact ⟨rfl, B0.out⟩
  · rw [show abW h (p, q, r) = 0 by simp [abW, hr]]
    go_enter Try.func66, Try.ntmps66
    go_wp2_with fail
    go_ret
    exact ⟨rfl, B0.out⟩
theorem enters_above : Enters Try.prog 66 := enters_of Try.func66 (by kernel_rfl) rfl

set_option maxRecDepth 100000 in
set_option maxHeartbeats 4000000 in
theorem implWa_any (v : Value) (S : List (Int × Int × Int)) (h : Int) (hn : S.length ≤ 1048576) (w : World) (hv : LdL w v S) :
    Calls Try.prog 26 #[v, .int .i64 h] w (RetG1 w (waV S h)) := by
  have B0 := Lib.hid (below_one w (.cells #[.int .i64 h] 3))
  have HG := Lib.hid (implValidLd_any v S hn _ (hv.below B0.out))
  have HV := Lib.hid (hv.below B0.out)
  have c0 := Lib.hid (show (w.alloc (.cells #[.int .i64 h] 3)).cell? ⟨w.heap.size, 0, none⟩ = some (.int .i64 h) by simp)
  have z0 := Lib.hid (show w.heap.size < (w.alloc (.cells #[.int .i64 h] 3)).heap.size by simp)
  obtain ⟨a, c, rfl⟩ := hv.form
  clear hv
  cases hg : goodLd S with
  | false =>
    rw [hg] at HG
    rw [show waV S h = (0, false) by simp [waV, askWa, hg]]
    clear hg
    go_enter Try.func26, Try.ntmps26
    go_wp2_with fail
    refine HG.out.mono ?_
    rintro e w1 ⟨rfl, hb⟩
    have HB := Lib.hid (B0.out.trans (hb.mono B0.out.size))
    clear hb
    go_wp2_with fail
    go_ret2
    exact ⟨rfl, HB.out⟩
  | true =>
    have hl20 := goodLd_len hg
    have HA := Lib.hid (fun (u : Value) W0 (hW : LdL W0 u S) (hb : w.heap.size < W0.heap.size) (hcb : W0.cell? ⟨w.heap.size, 0, none⟩ = some (.int .i64 h)) => sumOf_any _ #[.pointer (some ⟨w.heap.size, 0, none⟩)] enters_above u S (abW h) hl20 (fun c hc => by have := abW_small (h := h) ((goodLd_iff.1 hg).2 c hc); omega) W0 hW fun x y z W' _ hB => above_any x y z h w.heap.size W' (Nat.lt_of_lt_of_le hb hB.size) ((hB.cell (p := ⟨w.heap.size, 0, none⟩) hb).trans hcb))
    rw [hg] at HG
    by_cases q : 0 ≤ h ∧ h ≤ 400
    · have HI : Hid (∀ W : World, Calls Try.prog 62 #[.int .i64 h] W fun e w' => e = .returned (.bool true) ∧ W = w') := Lib.hid fun W => by rw [← decide_eq_true q]; exact isHeight_any h W
      rw [show waV S h = (sumF (abW h) S, true) by simp [waV, askWa, hg, q]]
      clear hg q hn
      go_enter Try.func26, Try.ntmps26
      go_wp2_with fail
      refine HG.out.mono ?_
      rintro e w1 ⟨rfl, hb⟩
      have c1 := (hb.cell (p := ⟨w.heap.size, 0, none⟩) z0.out).trans c0.out
      have C1 := Lib.hid c1
      have Z1 := Lib.hid (Nat.lt_of_lt_of_le z0.out hb.size)
      have V1 := Lib.hid (HV.out.below hb)
      have HB := Lib.hid (B0.out.trans (hb.mono B0.out.size))
      clear hb
      go_wp2_with fail
      refine (HI.out _).mono ?_
      rintro e w2 ⟨rfl, rfl⟩
      go_wp2_with fail
      refine (HA.out _ _ V1.out Z1.out C1.out).mono ?_
      rintro e w2 ⟨rfl, hb⟩
      have HB2 := Lib.hid (HB.out.trans (hb.mono HB.out.size))
      clear hb
      go_wp2_with fail
      go_ret2
      exact ⟨rfl, HB2.out⟩
    · have HI : Hid (∀ W : World, Calls Try.prog 62 #[.int .i64 h] W fun e w' => e = .returned (.bool false) ∧ W = w') := Lib.hid fun W => by rw [← decide_eq_false q]; exact isHeight_any h W
      rw [show waV S h = (0, false) by unfold waV askWa; rw [decide_eq_false q]; simp]
      clear hg q
      go_enter Try.func26, Try.ntmps26
      go_wp2_with fail
      refine HG.out.mono ?_
      rintro e w1 ⟨rfl, hb⟩
      have c1 := (hb.cell (p := ⟨w.heap.size, 0, none⟩) z0.out).trans c0.out
      have HB := Lib.hid (B0.out.trans (hb.mono B0.out.size))
      clear hb
      go_wp2_with fail
      refine (HI.out _).mono ?_
      rintro e w2 ⟨rfl, rfl⟩
      go_wp2_with fail
      go_ret2
      exact ⟨rfl, HB.out⟩

/-- Two bools. -/
def RetG2 (w : World) (r : Bool × Bool) : Ending → World → Prop := RetP w (.tuple #[.bool r.1, .bool r.2])
def upV (S : List (Int × Int × Int)) (m : Int) : Bool × Bool := if goodLd S = true ∧ 0 ≤ m ∧ m ≤ 200 then (decide (((sA S).natAbs : Int) ≤ m * sW S), true) else (false, false)
theorem up_bounds {S : List (Int × Int × Int)} (hg : goodLd S = true) {m : Int} (hm : 0 ≤ m ∧ m ≤ 200) : 0 ≤ m * sW S ∧ m * sW S ≤ 128000000 := by
  have k := sums_all hg
  have p := Int.mul_nonneg hm.1 k.1.1
  have q := mul_box hm.1 hm.2 (by omega : -640000 ≤ sW S) k.1.2
  omega

set_option maxRecDepth 100000 in
set_option maxHeartbeats 4000000 in
theorem implUp_any (v : Value) (S : List (Int × Int × Int)) (m : Int) (hn : S.length ≤ 1048576) (w : World) (hv : LdL w v S) :
    Calls Try.prog 38 #[v, .int .i64 m] w (RetG2 w (upV S m)) := by
  have HM := Lib.hid (implMom_any v S hn w hv)
  obtain ⟨a, c, rfl⟩ := hv.form
  clear hv
  cases hg : goodLd S with
  | false =>
    rw [mom_no hg] at HM
    rw [show upV S m = (false, false) by simp [upV, hg]]
    clear hg
    go_enter Try.func38, Try.ntmps38
    go_wp2_with fail
    refine HM.out.mono ?_
    rintro e w1 ⟨rfl, hb⟩
    have HB := Lib.hid hb
    clear hb
    go_wp2_with fail
    go_ret2
    exact ⟨rfl, HB.out⟩
  | true =>
    rw [mom_yes hg] at HM
    by_cases q1 : m < 0
    · rw [show upV S m = (false, false) by unfold upV; rw [if_neg fun q => by omega]]
      clear hg
      go_enter Try.func38, Try.ntmps38
      go_wp2_with fail
      refine HM.out.mono ?_
      rintro e w1 ⟨rfl, hb⟩
      have HB := Lib.hid hb
      clear hb
      go_wp2_with fail
      go_ret2
      exact ⟨rfl, HB.out⟩
    · by_cases q2 : 200 < m
      · rw [show upV S m = (false, false) by unfold upV; rw [if_neg fun q => by omega]]
        clear hg
        go_enter Try.func38, Try.ntmps38
        go_wp2_with fail
        refine HM.out.mono ?_
        rintro e w1 ⟨rfl, hb⟩
        have HB := Lib.hid hb
        clear hb
        go_wp2_with fail
        go_ret2
        exact ⟨rfl, HB.out⟩
      · obtain ⟨b1, b2⟩ := up_bounds hg (m := m) ⟨by omega, by omega⟩
        have k := sums_all hg
        have HA := Lib.hid (fun W => absolute_any (sA S) (by omega) W)
        rw [show upV S m = (decide (((sA S).natAbs : Int) ≤ m * sW S), true) by unfold upV; rw [if_pos ⟨hg, by omega, by omega⟩]]
        obtain ⟨p, hp⟩ : ∃ p, m * sW S = p := ⟨_, rfl⟩
        have f1 : IntKind.i64.wrap (m * sW S) = p := by rw [IntKind.wrap_i64]; omega
        rw [hp] at b1 b2 ⊢
        clear hg k hp
        generalize sA S = x at *
        generalize sW S = y at *
        go_enter Try.func38, Try.ntmps38
        go_wp2_with fail
        refine HM.out.mono ?_
        rintro e w1 ⟨rfl, hb⟩
        have HB := Lib.hid hb
        clear hb
        go_wp2_with fail
        refine (HA.out _).mono ?_
        rintro e w2 ⟨rfl, rfl⟩
        go_wp2_with fail
        go_ret2
        exact ⟨rfl, HB.out⟩

set_option maxRecDepth 100000 in
set_option maxHeartbeats 4000000 in
theorem specUp_any (v : Value) (S : List (Int × Int × Int)) (m : Int) (hn : S.length ≤ 1048576) (w : World) (hv : LdL w v S) :
    Calls Try.prog 39 #[v, .int .i64 m] w (RetG2 w (upV S m)) := by
  have HG := Lib.hid (l11Good_any v S hn w hv)
  have HV := Lib.hid hv
  obtain ⟨a, c, rfl⟩ := hv.form
  clear hv
  cases hg : goodLd S with
  | false =>
    rw [hg] at HG
    rw [show upV S m = (false, false) by simp [upV, hg]]
    clear hg
    go_enter Try.func39, Try.ntmps39
    go_wp2_with fail
    refine HG.out.mono ?_
    rintro e w1 ⟨rfl, hb⟩
    have HB := Lib.hid hb
    clear hb
    go_wp2_with fail
    go_ret2
    exact ⟨rfl, HB.out⟩
  | true =>
    have HM := Lib.hid (fun (u : Value) W (hW : LdL W u S) => l11Moments_any u S hg W hW)
    rw [hg] at HG
    by_cases q : 0 ≤ m ∧ m ≤ 200
    · have HI := Lib.hid (fun W => l1In_yes m 0 200 W q.1 q.2)
      obtain ⟨b1, b2⟩ := up_bounds hg q
      have k := sums_all hg
      have HA := Lib.hid (fun W => l11Abs_any (sA S) (by omega) W)
      rw [show upV S m = (decide (((sA S).natAbs : Int) ≤ m * sW S), true) by unfold upV; rw [if_pos ⟨hg, by omega, by omega⟩]]
      obtain ⟨p, hp⟩ : ∃ p, m * sW S = p := ⟨_, rfl⟩
      have f1 : IntKind.i64.wrap (m * sW S) = p := by rw [IntKind.wrap_i64]; omega
      rw [hp] at b1 b2 ⊢
      clear hg k hp q
      generalize sA S = x at *
      generalize sW S = y at *
      go_enter Try.func39, Try.ntmps39
      go_wp2_with fail
      refine HG.out.mono ?_
      rintro e w1 ⟨rfl, hb⟩
      have HB := Lib.hid hb
      clear hb
      go_wp2_with fail
      refine (HI.out _).mono ?_
      rintro e w2 ⟨rfl, rfl⟩
      go_wp2_with fail
      refine (HM.out _ _ (HV.out.below HB.out)).mono ?_
      rintro e w2 ⟨rfl, hb⟩
      have HB2 := Lib.hid (HB.out.trans (hb.mono HB.out.size))
      clear hb
      go_wp2_with fail
      refine (HA.out _).mono ?_
      rintro e w3 ⟨rfl, rfl⟩
      go_wp2_with fail
      go_ret2
      exact ⟨rfl, HB2.out⟩
    · have HI := Lib.hid (fun W => l1In_no m 0 200 W (by omega))
      rw [show upV S m = (false, false) by unfold upV; rw [if_neg fun k => q k.2]]
      clear hg q
      go_enter Try.func39, Try.ntmps39
      go_wp2_with fail
      refine HG.out.mono ?_
      rintro e w1 ⟨rfl, hb⟩
      have HB := Lib.hid hb
      clear hb
      go_wp2_with fail
      refine (HI.out _).mono ?_
      rintro e w2 ⟨rfl, rfl⟩
      go_wp2_with fail
      go_ret2
      exact ⟨rfl, HB.out⟩
end Go.Proofs.Ytndafdjllbhbfaa
