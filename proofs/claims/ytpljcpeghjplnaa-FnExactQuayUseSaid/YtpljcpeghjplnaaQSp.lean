/-
  The reference on plans: when two ships are apart, when a plan is possible. No statement of the seat by itself.
-/
import Derived.Test.YtpljcpeghjplnaaQG
import Derived.Deep.RegionHeld
import Derived.Deep.CutRange
namespace Go.Proofs.Ytpljcpeghjplnaa
open Go.RowKit

theorem Below.drew_left {B : Nat} {a b : World} (h : Below B a.drew b) : Below B a b := ((Below.refl B a).drew).trans h

theorem four_alloc (w : World) (a b c d : Obj) : Below w.heap.size w ((((w.alloc a).alloc b).alloc c).alloc d) :=
  ((((Below.refl _ w).alloc (Nat.le_refl _) _).alloc (by simp) _).alloc (by simp; omega) _).alloc (by simp; omega) _

set_option maxRecDepth 100000 in
set_option maxHeartbeats 8000000 in
theorem l14Apart_any (l a h c p t l2 a2 h2 c2 p2 t2 : Int) (b1 : (0 ≤ l ∧ l ≤ 2000) ∧ (0 ≤ h ∧ h ≤ 2000) ∧ (0 ≤ p ∧ p ≤ 2000) ∧ 0 ≤ t ∧ t ≤ 2000) (b2 : (0 ≤ l2 ∧ l2 ≤ 2000) ∧ (0 ≤ h2 ∧ h2 ≤ 2000) ∧ (0 ≤ p2 ∧ p2 ≤ 2000) ∧ 0 ≤ t2 ∧ t2 ≤ 2000) (w : World) :
    Calls Try.prog 127 #[.agg #[.int .i64 l, .int .i64 a, .int .i64 h, .int .i64 c], .agg #[.int .i64 p, .int .i64 t], .agg #[.int .i64 l2, .int .i64 a2, .int .i64 h2, .int .i64 c2], .agg #[.int .i64 p2, .int .i64 t2]] w
      fun e w' => e = .returned (.bool (aptB (l, a, h, c) (p, t) (l2, a2, h2, c2) (p2, t2))) ∧ Below w.heap.size w w' := by
  have B0 := Lib.hid (four_alloc w (.cells #[.int .i64 l, .int .i64 a, .int .i64 h, .int .i64 c] 41) (.cells #[.int .i64 p, .int .i64 t] 46) (.cells #[.int .i64 l2, .int .i64 a2, .int .i64 h2, .int .i64 c2] 41) (.cells #[.int .i64 p2, .int .i64 t2] 46))
  obtain ⟨⟨x0, x1⟩, ⟨x2, x3⟩, ⟨x4, x5⟩, x6, x7⟩ := b1
  obtain ⟨⟨y0, y1⟩, ⟨y2, y3⟩, ⟨y4, y5⟩, y6, y7⟩ := b2
  by_cases k0 : p + l ≤ p2
  case pos =>
    rw [aptB_iff.2 (by simp only; omega)]
    go_enter Try.func127, Try.ntmps127
    go_wp2_with fail
    go_ret
    exact ⟨by first | rfl | simp, by first | exact B0.out | exact B0.out.drew⟩
  have d0 : decide (p + l ≤ p2) = false := decide_eq_false k0
  by_cases k1 : p2 + l2 ≤ p
  case pos =>
    rw [aptB_iff.2 (by simp only; omega)]
    go_enter Try.func127, Try.ntmps127
    go_wp2_with fail
    go_ret
    exact ⟨by first | rfl | simp, by first | exact B0.out | exact B0.out.drew⟩
  have d1 : decide (p2 + l2 ≤ p) = false := decide_eq_false k1
  by_cases k2 : t + h ≤ t2
  case pos =>
    rw [aptB_iff.2 (by simp only; omega)]
    go_enter Try.func127, Try.ntmps127
    go_wp2_with fail
    go_ret
    exact ⟨by first | rfl | simp, by first | exact B0.out | exact B0.out.drew⟩
  have d2 : decide (t + h ≤ t2) = false := decide_eq_false k2
  by_cases k3 : t2 + h2 ≤ t
  case pos =>
    rw [aptB_iff.2 (by simp only; omega)]
    go_enter Try.func127, Try.ntmps127
    go_wp2_with fail
    go_ret
    exact ⟨by first | rfl | simp, by first | exact B0.out | exact B0.out.drew⟩
  have d3 : decide (t2 + h2 ≤ t) = false := decide_eq_false k3
  rw [show aptB (l, a, h, c) (p, t) (l2, a2, h2, c2) (p2, t2) = false by unfold aptB; exact decide_eq_false (by simp only; omega)]
  clear k0 k1 k2 k3
  go_enter Try.func127, Try.ntmps127
  go_wp2_with fail
  go_ret
  exact ⟨by first | rfl | simp, by first | exact B0.out | exact B0.out.drew⟩

set_option maxRecDepth 100000 in
set_option maxHeartbeats 8000000 in
theorem l14Fits_any (q l a h c p t : Int) (b1 : (0 ≤ l ∧ l ≤ 2000) ∧ 0 ≤ q ∧ q ≤ 2000) (w : World) :
    Calls Try.prog 126 #[.int .i64 q, .agg #[.int .i64 l, .int .i64 a, .int .i64 h, .int .i64 c], .agg #[.int .i64 p, .int .i64 t]] w
      fun e w' => e = .returned (.bool (fitB q (l, a, h, c) (p, t))) ∧ Below w.heap.size w w' := by
  have B0 := Lib.hid (((Below.refl _ w).alloc (Nat.le_refl _) (.cells #[.int .i64 l, .int .i64 a, .int .i64 h, .int .i64 c] 41)).alloc (by simp) (.cells #[.int .i64 p, .int .i64 t] 46))
  by_cases k1 : 0 ≤ p ∧ p ≤ q - l
  case neg =>
    have X1 := Lib.hid (fun W => l1In_no p 0 (q - l) W (by omega))
    rw [show fitB q (l, a, h, c) (p, t) = false by unfold fitB; exact decide_eq_false (by simp only; omega)]
    clear k1
    go_enter Try.func126, Try.ntmps126
    go_wp2_with fail
    refine (X1.out _).mono ?_
    rintro e w1 ⟨rfl, rfl⟩
    go_wp2_with fail
    go_ret
    exact ⟨by first | rfl | simp, by first | exact B0.out | exact B0.out.drew⟩
  have X1 := Lib.hid (fun W => l1In_yes p 0 (q - l) W k1.1 k1.2)
  by_cases k2 : a ≤ t ∧ t ≤ 1000
  case neg =>
    have X2 := Lib.hid (fun W => l1In_no t a 1000 W (by omega))
    rw [show fitB q (l, a, h, c) (p, t) = false by unfold fitB; exact decide_eq_false (by simp only; omega)]
    clear k1 k2
    go_enter Try.func126, Try.ntmps126
    go_wp2_with fail
    refine (X1.out _).mono ?_
    rintro e w1 ⟨rfl, rfl⟩
    go_wp2_with fail
    refine (X2.out _).mono ?_
    rintro e w1 ⟨rfl, rfl⟩
    go_wp2_with fail
    go_ret
    exact ⟨by first | rfl | simp, by first | exact B0.out | exact B0.out.drew⟩
  have X2 := Lib.hid (fun W => l1In_yes t a 1000 W k2.1 k2.2)
  rw [fitB_iff.2 (by simp only; omega)]
  clear k1 k2
  go_enter Try.func126, Try.ntmps126
  go_wp2_with fail
  refine (X1.out _).mono ?_
  rintro e w1 ⟨rfl, rfl⟩
  go_wp2_with fail
  refine (X2.out _).mono ?_
  rintro e w1 ⟨rfl, rfl⟩
  go_wp2_with fail
  go_ret
  exact ⟨by first | rfl | simp, by first | exact B0.out | exact B0.out.drew⟩

theorem freB_succ {S : List Shp} {P : List Brt} {j : Nat} {x y : Shp} {b c : Brt} (hy : S[j]? = some y) (hc : P[j]? = some c) : freB (stsQ S P (j + 1)) x b = (freB (stsQ S P j) x b && aptB x b y c) := by
  rw [stsQ_succ hy hc, freB, List.all_append, ← freB]
  simp
theorem freB_no {S : List Shp} {P : List Brt} {j k : Nat} {x y : Shp} {b c : Brt} (hy : S[j]? = some y) (hc : P[j]? = some c) (hj : j < k) (h : aptB x b y c = false) : freB (stsQ S P k) x b = false := by
  cases he : freB (stsQ S P k) x b with
  | false => rfl
  | true =>
    have hm : ((j : Int), y, c) ∈ stsQ S P k := by
      have := stsQ_get (S := S) (P := P) hj
      simp only [List.getD, hy, hc, Option.getD_some] at this
      exact List.mem_of_getElem? this
    have := List.all_eq_true.1 he _ hm
    simp only at this
    rw [h] at this
    cases this

set_option maxRecDepth 100000 in
set_option maxHeartbeats 8000000 in
theorem l14Plan_any (q : Int) (v vp : Value) (S : List Shp) (P : List Brt) (hq : isQ q = true) (hgd : goodQ S = true) (hn : P.length ≤ 1048576) (w : World) (hv : QsL w v S) (hvp : QbL w vp P) :
    Calls Try.prog 89 #[.int .i64 q, v, vp] w (BoolP w (begQ q S P)) := by
  have HQ := Lib.hid hq
  have HGd := Lib.hid hgd
  have hq2 := isQ_iff.1 hq
  have hm5 := goodQ_len hgd
  have HFi := Lib.hid (fun (i : Nat) (x : Shp) (b : Brt) (hx : S[i]? = some x) (W : World) => l14Fits_any q x.1 x.2.1 x.2.2.1 x.2.2.2 b.1 b.2 (by have := goodQ_get hgd hx; omega) W)
  obtain ⟨a0, c0, rfl, hc0⟩ := hv
  obtain ⟨a1, c1, rfl, hc1⟩ := hvp
  obtain ⟨m, hm⟩ : ∃ m, S.length = m := ⟨_, rfl⟩
  obtain ⟨n, hl⟩ : ∃ n, P.length = n := ⟨_, rfl⟩
  have HM := Lib.hid hm
  have HN := Lib.hid hl
  have HC0 := Lib.hid hc0
  have HC1 := Lib.hid hc1
  rw [hl] at hn ⊢
  rw [hm] at hm5 ⊢
  clear hc0 hc1 hl hm hq hgd
  have B0 := Lib.hid (Below.refl w.heap.size w)
  have hF : ∀ k x b, S[k]? = some x → P[k]? = some b → canB q (stsQ S P k) x b = false → Hid (begQ q S P = false) := fun k x b hx hb h => Lib.hid (by
    have hk : k < P.length := (List.getElem?_eq_some_iff.1 hb).1
    rw [begQ, upQ_no hk (by rw [stepQ_get hx hb]; exact h), Bool.and_false])
  have HFal := Lib.hid hF
  clear hF
  go_enter Try.func89, Try.ntmps89
  go_wp2_with fail
  go_loopw [7] (fun i wr => ∃ k : Nat, k ≤ n ∧ k ≤ m ∧ i = .int .i64 k ∧ Hid (Below w.heap.size w wr) ∧ Hid (upQ q S P k = true)) (fun i _ => n - (intOf i).toNat)
  case atStart => exact ⟨0, Nat.zero_le _, Nat.zero_le _, rfl, B0, Lib.hid (upQ_zero _ _ _)⟩
  case round =>
    obtain ⟨k, hk, hkm, rfl, HB, HU⟩ := hrel
    by_cases hlt : k < n
    case neg =>
      obtain rfl : k = n := by omega
      have HT : Hid (begQ q S P = true) := Lib.hid (by rw [begQ, HN.out, HU.out, HM.out, decide_eq_true hkm]; rfl)
      go_wp2_with fail
      go_ret
      exact ⟨by rw [HT.out]; first | done | rfl, HB.out⟩
    by_cases hlm : k < m
    case neg =>
      obtain rfl : k = m := by omega
      have HT : Hid (begQ q S P = false) := Lib.hid (by rw [begQ, HN.out, HM.out, decide_eq_false (by omega)]; rfl)
      clear hlm
      go_wp2_with fail
      go_quiet (fail)
      go_wp2_with fail
      go_ret
      exact ⟨by rw [HT.out]; first | done | rfl, by first | exact below_drewN HB.out _ | exact HB.out⟩
    obtain ⟨g, off, rfl, hg, hcc⟩ := HC0.out (by have := HM.out; omega)
    obtain ⟨g2, off2, rfl, hg2, hcc2⟩ := HC1.out (by have := HN.out; omega)
    obtain ⟨x, hx⟩ := get_at HM.out hlm
    obtain ⟨b, hb⟩ := get_at HN.out hlt
    have HX := Lib.hid hx
    have HBb := Lib.hid hb
    have HFt := Lib.hid (fun W => HFi.out k x b hx W)
    have bx := goodQ_get HGd.out hx
    obtain ⟨l, a, h, c⟩ := x
    obtain ⟨p, t⟩ := b
    have e0 : ∀ (W : World), Below w.heap.size w W → W.cell? ⟨g, off + k * 4, none⟩ = some (.int .i64 l) ∧ W.cell? ⟨g, off + k * 4 + 1, none⟩ = some (.int .i64 a) ∧ W.cell? ⟨g, off + k * 4 + 2, none⟩ = some (.int .i64 h) ∧ W.cell? ⟨g, off + k * 4 + 3, none⟩ = some (.int .i64 c) ∧ W.cell? ⟨g2, off2 + k * 2, none⟩ = some (.int .i64 p) ∧ W.cell? ⟨g2, off2 + k * 2 + 1, none⟩ = some (.int .i64 t) := fun W hW => ⟨(hW.cell (p := ⟨g, off + k * 4, none⟩) hg).trans (hcc k _ hx).1, (hW.cell (p := ⟨g, off + k * 4 + 1, none⟩) hg).trans (hcc k _ hx).2.1, (hW.cell (p := ⟨g, off + k * 4 + 2, none⟩) hg).trans (hcc k _ hx).2.2.1, (hW.cell (p := ⟨g, off + k * 4 + 3, none⟩) hg).trans (hcc k _ hx).2.2.2, (hW.cell (p := ⟨g2, off2 + k * 2, none⟩) hg2).trans (hcc2 k _ hb).1, (hW.cell (p := ⟨g2, off2 + k * 2 + 1, none⟩) hg2).trans (hcc2 k _ hb).2⟩
    have HE := Lib.hid e0
    have HCC := Lib.hid hcc
    have HCC2 := Lib.hid hcc2
    have HGr := Lib.hid (Nat.lt_of_lt_of_le hg HB.out.size)
    have HGr2 := Lib.hid (Nat.lt_of_lt_of_le hg2 HB.out.size)
    have HG0 := Lib.hid hg
    have HG2 := Lib.hid hg2
    have st := e0 _ HB.out.drew
    have dm : decide (m ≤ k) = false := by simp; omega
    simp only at HFt bx
    clear e0 hcc hcc2 hg hg2 hx hb
    cases hfi : fitB q (l, a, h, c) (p, t) with
    | false =>
      have HR := HFal.out k _ _ HX.out HBb.out (by rw [canB, hfi]; rfl)
      rw [hfi] at HFt
      clear hfi
      go_wp2_with fail
      refine wp_region_held_drew (S := fun W' => W'.cell? ⟨g, off + k * 4, none⟩ = some (.int .i64 l) ∧ W'.cell? ⟨g, off + k * 4 + 1, none⟩ = some (.int .i64 a) ∧ W'.cell? ⟨g, off + k * 4 + 2, none⟩ = some (.int .i64 h) ∧ W'.cell? ⟨g, off + k * 4 + 3, none⟩ = some (.int .i64 c) ∧ W'.cell? ⟨g2, off2 + k * 2, none⟩ = some (.int .i64 p) ∧ W'.cell? ⟨g2, off2 + k * 2 + 1, none⟩ = some (.int .i64 t)) (by kernel_rfl) ?_ (fun hHeld => ?_)
      · exact st
      refine (wpAnyH_take (i := 0) (v := ?_) rfl (by kernel_rfl) (by kernel_rfl) (by kernel_rfl) (fun _ _ _ h => h) (Or.inl ⟨by rfl, ?_⟩) (by assumption) ?_)
      rotate_left 1
      · (intro w hSw; (try dsimp only at hSw); obtain ⟨s0, s1, s2, s3, s4, s5⟩ := hSw; (go_simp) <;> with_reducible rfl)
      try simp only [List.getElem_toArray, List.getElem_cons_zero, Act.put, List.setIfInBounds_toArray, List.set_cons_zero, List.set_cons_succ]
      refine (wpAnyH_take (i := 1) (v := ?_) rfl (by kernel_rfl) (by kernel_rfl) (by kernel_rfl) (fun _ _ _ h => h) (Or.inl ⟨by rfl, ?_⟩) (by assumption) ?_)
      rotate_left 1
      · (intro w hSw; (try dsimp only at hSw); obtain ⟨s0, s1, s2, s3, s4, s5⟩ := hSw; (go_simp) <;> with_reducible rfl)
      try simp only [List.getElem_toArray, List.getElem_cons_zero, List.getElem_cons_succ, Act.put, List.setIfInBounds_toArray, List.set_cons_zero, List.set_cons_succ]
      refine (wpAnyH_take (i := 2) (v := ?_) rfl (by kernel_rfl) (by kernel_rfl) (by kernel_rfl) (fun _ _ _ h => h) (Or.inl ⟨by rfl, ?_⟩) (by assumption) ?_)
      rotate_left 1
      · (intro w hSw; (try dsimp only at hSw); obtain ⟨s0, s1, s2, s3, s4, s5⟩ := hSw; (go_simp) <;> with_reducible rfl)
      try simp only [List.getElem_toArray, List.getElem_cons_zero, List.getElem_cons_succ, Act.put, List.setIfInBounds_toArray, List.set_cons_zero, List.set_cons_succ]
      refine (wpAnyH_take (i := 3) (v := ?_) rfl (by kernel_rfl) (by kernel_rfl) (by kernel_rfl) (fun _ _ _ h => h) (Or.inl ⟨by rfl, ?_⟩) (by assumption) ?_)
      rotate_left 1
      · (intro w hSw; (try dsimp only at hSw); obtain ⟨s0, s1, s2, s3, s4, s5⟩ := hSw; (go_simp) <;> with_reducible rfl)
      try simp only [List.getElem_toArray, List.getElem_cons_zero, List.getElem_cons_succ, Act.put, List.setIfInBounds_toArray, List.set_cons_zero, List.set_cons_succ]
      refine (wpAnyH_take (i := 4) (v := ?_) rfl (by kernel_rfl) (by kernel_rfl) (by kernel_rfl) (fun _ _ _ h => h) (Or.inl ⟨by rfl, ?_⟩) (by assumption) ?_)
      rotate_left 1
      · (intro w hSw; (try dsimp only at hSw); obtain ⟨s0, s1, s2, s3, s4, s5⟩ := hSw; (go_simp) <;> with_reducible rfl)
      try simp only [List.getElem_toArray, List.getElem_cons_zero, List.getElem_cons_succ, Act.put, List.setIfInBounds_toArray, List.set_cons_zero, List.set_cons_succ]
      refine (wpAnyH_take (i := 5) (v := ?_) rfl (by kernel_rfl) (by kernel_rfl) (by kernel_rfl) (fun _ _ _ h => h) (Or.inl ⟨by rfl, ?_⟩) (by assumption) ?_)
      rotate_left 1
      · (intro w hSw; (try dsimp only at hSw); obtain ⟨s0, s1, s2, s3, s4, s5⟩ := hSw; (go_simp) <;> with_reducible rfl)
      try simp only [List.getElem_toArray, List.getElem_cons_zero, List.getElem_cons_succ, Act.put, List.setIfInBounds_toArray, List.set_cons_zero, List.set_cons_succ]
      refine (wpAnyH_take (i := 6) (v := ?_) rfl (by kernel_rfl) (by kernel_rfl) (by kernel_rfl) (fun _ _ _ h => h) (Or.inl ⟨by rfl, ?_⟩) (by assumption) ?_)
      rotate_left 1
      · (intro w hSw; (try dsimp only at hSw); obtain ⟨s0, s1, s2, s3, s4, s5⟩ := hSw; (go_simp) <;> with_reducible rfl)
      try simp only [List.getElem_toArray, List.getElem_cons_zero, List.getElem_cons_succ, Act.put, List.setIfInBounds_toArray, List.set_cons_zero, List.set_cons_succ]
      refine (wpAnyH_take (i := 7) (v := ?_) rfl (by kernel_rfl) (by kernel_rfl) (by kernel_rfl) (fun _ _ _ h => h) (Or.inl ⟨by rfl, ?_⟩) (by assumption) ?_)
      rotate_left 1
      · (intro w hSw; (try dsimp only at hSw); obtain ⟨s0, s1, s2, s3, s4, s5⟩ := hSw; (go_simp) <;> with_reducible rfl)
      try simp only [List.getElem_toArray, List.getElem_cons_zero, List.getElem_cons_succ, Act.put, List.setIfInBounds_toArray, List.set_cons_zero, List.set_cons_succ]
      refine (wpAnyH_take (i := 8) (v := ?_) rfl (by kernel_rfl) (by kernel_rfl) (by kernel_rfl) (fun _ _ _ h => h) (Or.inl ⟨by rfl, ?_⟩) (by assumption) ?_)
      rotate_left 1
      · (intro w hSw; (try dsimp only at hSw); obtain ⟨s0, s1, s2, s3, s4, s5⟩ := hSw; (go_simp) <;> with_reducible rfl)
      try simp only [List.getElem_toArray, List.getElem_cons_zero, List.getElem_cons_succ, Act.put, List.setIfInBounds_toArray, List.set_cons_zero, List.set_cons_succ]
      refine (wpAnyH_take (i := 9) (v := ?_) rfl (by kernel_rfl) (by kernel_rfl) (by kernel_rfl) (fun _ _ _ h => h) (Or.inl ⟨by rfl, ?_⟩) (by assumption) ?_)
      rotate_left 1
      · (intro w hSw; (try dsimp only at hSw); obtain ⟨s0, s1, s2, s3, s4, s5⟩ := hSw; (go_simp) <;> with_reducible rfl)
      try simp only [List.getElem_toArray, List.getElem_cons_zero, List.getElem_cons_succ, Act.put, List.setIfInBounds_toArray, List.set_cons_zero, List.set_cons_succ]
      refine (wpAnyH_take (i := 10) (v := ?_) rfl (by kernel_rfl) (by kernel_rfl) (by kernel_rfl) (fun _ _ _ h => h) (Or.inl ⟨by rfl, ?_⟩) (by assumption) ?_)
      rotate_left 1
      · (intro w hSw; (try dsimp only at hSw); obtain ⟨s0, s1, s2, s3, s4, s5⟩ := hSw; (go_simp) <;> with_reducible rfl)
      try simp only [List.getElem_toArray, List.getElem_cons_zero, List.getElem_cons_succ, Act.put, List.setIfInBounds_toArray, List.set_cons_zero, List.set_cons_succ]
      refine (wpAnyH_take (i := 11) (v := ?_) rfl (by kernel_rfl) (by kernel_rfl) (by kernel_rfl) (fun _ _ _ h => h) (Or.inl ⟨by rfl, ?_⟩) (by assumption) ?_)
      rotate_left 1
      · (intro w hSw; (try dsimp only at hSw); obtain ⟨s0, s1, s2, s3, s4, s5⟩ := hSw; (go_simp) <;> with_reducible rfl)
      try simp only [List.getElem_toArray, List.getElem_cons_zero, List.getElem_cons_succ, Act.put, List.setIfInBounds_toArray, List.set_cons_zero, List.set_cons_succ]
      refine (wpAnyH_take (i := 12) (v := ?_) rfl (by kernel_rfl) (by kernel_rfl) (by kernel_rfl) (fun _ _ _ h => h) (Or.inl ⟨by rfl, ?_⟩) (by assumption) ?_)
      rotate_left 1
      · (intro w hSw; (try dsimp only at hSw); obtain ⟨s0, s1, s2, s3, s4, s5⟩ := hSw; (go_simp) <;> with_reducible rfl)
      try simp only [List.getElem_toArray, List.getElem_cons_zero, List.getElem_cons_succ, Act.put, List.setIfInBounds_toArray, List.set_cons_zero, List.set_cons_succ]
      refine (wpAnyH_take (i := 13) (v := ?_) rfl (by kernel_rfl) (by kernel_rfl) (by kernel_rfl) (fun _ _ _ h => h) (Or.inl ⟨by rfl, ?_⟩) (by assumption) ?_)
      rotate_left 1
      · (intro w hSw; (try dsimp only at hSw); obtain ⟨s0, s1, s2, s3, s4, s5⟩ := hSw; (go_simp) <;> with_reducible rfl)
      try simp only [List.getElem_toArray, List.getElem_cons_zero, List.getElem_cons_succ, Act.put, List.setIfInBounds_toArray, List.set_cons_zero, List.set_cons_succ]
      refine wpAnyH_ready (rs := [14]) (by kernel_rfl) (by simp) ?_
      refine AllReadyH.cons rfl (fun K hK => ?_) ?_
      · go_simp
        go_at_call 126
        refine (HFt.out _).mono ?_
        rintro e w1 ⟨rfl, hb1⟩
        refine hK.out _ _ ?_ (fun hNew => ?_)
        · (try dsimp only); exact ⟨((Below.drew_left hb1).cell (p := ⟨g, off + k * 4, none⟩) HGr.out).trans (hHeld.1), ((Below.drew_left hb1).cell (p := ⟨g, off + k * 4 + 1, none⟩) HGr.out).trans (hHeld.2.1), ((Below.drew_left hb1).cell (p := ⟨g, off + k * 4 + 2, none⟩) HGr.out).trans (hHeld.2.2.1), ((Below.drew_left hb1).cell (p := ⟨g, off + k * 4 + 3, none⟩) HGr.out).trans (hHeld.2.2.2.1), ((Below.drew_left hb1).cell (p := ⟨g2, off2 + k * 2, none⟩) HGr2.out).trans (hHeld.2.2.2.2.1), ((Below.drew_left hb1).cell (p := ⟨g2, off2 + k * 2 + 1, none⟩) HGr2.out).trans (hHeld.2.2.2.2.2)⟩
        clear hK K hHeld
        have hHeld := hNew
        clear hNew
        try simp only [List.getElem_toArray, List.getElem_cons_zero, List.getElem_cons_succ, Act.put, List.setIfInBounds_toArray, List.set_cons_zero, List.set_cons_succ]
        refine (wpAnyH_take (i := 15) (v := ?_) rfl (by kernel_rfl) (by kernel_rfl) (by kernel_rfl) (fun _ _ _ h => h) (Or.inl ⟨by rfl, ?_⟩) (by assumption) ?_)
        rotate_left 1
        · (intro w hSw; (try dsimp only at hSw); obtain ⟨s0, s1, s2, s3, s4, s5⟩ := hSw; (go_simp) <;> with_reducible rfl)
        try simp only [List.getElem_toArray, List.getElem_cons_zero, List.getElem_cons_succ, Act.put, List.setIfInBounds_toArray, List.set_cons_zero, List.set_cons_succ]
        refine (wpAnyH_take (i := 16) (v := ?_) rfl (by kernel_rfl) (by kernel_rfl) (by kernel_rfl) (fun _ _ _ h => h) (Or.inl ⟨by rfl, ?_⟩) (by assumption) ?_)
        rotate_left 1
        · (intro w hSw; (try dsimp only at hSw); obtain ⟨s0, s1, s2, s3, s4, s5⟩ := hSw; (go_simp) <;> with_reducible rfl)
        try simp only [List.getElem_toArray, List.getElem_cons_zero, List.getElem_cons_succ, Act.put, List.setIfInBounds_toArray, List.set_cons_zero, List.set_cons_succ]
        refine wpAnyH_done (by kernel_rfl) ?_ _
        have HBw := Lib.hid (HB.out.trans ((Below.drew_left hb1).mono HB.out.size))
        clear hHeld hb1
        go_wp2_with fail
        go_ret
        exact ⟨by rw [HR.out]; first | done | rfl, HBw.out⟩
      exact AllReadyH.nil
    | true =>
      have HFi2 := Lib.hid hfi
      rw [hfi] at HFt
      clear hfi
      go_wp2_with fail
      go_cut [31] from 15 to 31 (fun s wx => s = .bool false ∧ Hid (Below w.heap.size w wx))
      case first =>
        refine wp_region_held_drew (S := fun W' => W'.cell? ⟨g, off + k * 4, none⟩ = some (.int .i64 l) ∧ W'.cell? ⟨g, off + k * 4 + 1, none⟩ = some (.int .i64 a) ∧ W'.cell? ⟨g, off + k * 4 + 2, none⟩ = some (.int .i64 h) ∧ W'.cell? ⟨g, off + k * 4 + 3, none⟩ = some (.int .i64 c) ∧ W'.cell? ⟨g2, off2 + k * 2, none⟩ = some (.int .i64 p) ∧ W'.cell? ⟨g2, off2 + k * 2 + 1, none⟩ = some (.int .i64 t)) (by kernel_rfl) ?_ (fun hHeld => ?_)
        · exact st
        refine (wpAnyH_take (i := 0) (v := ?_) rfl (by kernel_rfl) (by kernel_rfl) (by kernel_rfl) (fun _ _ _ h => h) (Or.inl ⟨by rfl, ?_⟩) (by assumption) ?_)
        rotate_left 1
        · (intro w hSw; (try dsimp only at hSw); obtain ⟨s0, s1, s2, s3, s4, s5⟩ := hSw; (go_simp) <;> with_reducible rfl)
        try simp only [List.getElem_toArray, List.getElem_cons_zero, Act.put, List.setIfInBounds_toArray, List.set_cons_zero, List.set_cons_succ]
        refine (wpAnyH_take (i := 1) (v := ?_) rfl (by kernel_rfl) (by kernel_rfl) (by kernel_rfl) (fun _ _ _ h => h) (Or.inl ⟨by rfl, ?_⟩) (by assumption) ?_)
        rotate_left 1
        · (intro w hSw; (try dsimp only at hSw); obtain ⟨s0, s1, s2, s3, s4, s5⟩ := hSw; (go_simp) <;> with_reducible rfl)
        try simp only [List.getElem_toArray, List.getElem_cons_zero, List.getElem_cons_succ, Act.put, List.setIfInBounds_toArray, List.set_cons_zero, List.set_cons_succ]
        refine (wpAnyH_take (i := 2) (v := ?_) rfl (by kernel_rfl) (by kernel_rfl) (by kernel_rfl) (fun _ _ _ h => h) (Or.inl ⟨by rfl, ?_⟩) (by assumption) ?_)
        rotate_left 1
        · (intro w hSw; (try dsimp only at hSw); obtain ⟨s0, s1, s2, s3, s4, s5⟩ := hSw; (go_simp) <;> with_reducible rfl)
        try simp only [List.getElem_toArray, List.getElem_cons_zero, List.getElem_cons_succ, Act.put, List.setIfInBounds_toArray, List.set_cons_zero, List.set_cons_succ]
        refine (wpAnyH_take (i := 3) (v := ?_) rfl (by kernel_rfl) (by kernel_rfl) (by kernel_rfl) (fun _ _ _ h => h) (Or.inl ⟨by rfl, ?_⟩) (by assumption) ?_)
        rotate_left 1
        · (intro w hSw; (try dsimp only at hSw); obtain ⟨s0, s1, s2, s3, s4, s5⟩ := hSw; (go_simp) <;> with_reducible rfl)
        try simp only [List.getElem_toArray, List.getElem_cons_zero, List.getElem_cons_succ, Act.put, List.setIfInBounds_toArray, List.set_cons_zero, List.set_cons_succ]
        refine (wpAnyH_take (i := 4) (v := ?_) rfl (by kernel_rfl) (by kernel_rfl) (by kernel_rfl) (fun _ _ _ h => h) (Or.inl ⟨by rfl, ?_⟩) (by assumption) ?_)
        rotate_left 1
        · (intro w hSw; (try dsimp only at hSw); obtain ⟨s0, s1, s2, s3, s4, s5⟩ := hSw; (go_simp) <;> with_reducible rfl)
        try simp only [List.getElem_toArray, List.getElem_cons_zero, List.getElem_cons_succ, Act.put, List.setIfInBounds_toArray, List.set_cons_zero, List.set_cons_succ]
        refine (wpAnyH_take (i := 5) (v := ?_) rfl (by kernel_rfl) (by kernel_rfl) (by kernel_rfl) (fun _ _ _ h => h) (Or.inl ⟨by rfl, ?_⟩) (by assumption) ?_)
        rotate_left 1
        · (intro w hSw; (try dsimp only at hSw); obtain ⟨s0, s1, s2, s3, s4, s5⟩ := hSw; (go_simp) <;> with_reducible rfl)
        try simp only [List.getElem_toArray, List.getElem_cons_zero, List.getElem_cons_succ, Act.put, List.setIfInBounds_toArray, List.set_cons_zero, List.set_cons_succ]
        refine (wpAnyH_take (i := 6) (v := ?_) rfl (by kernel_rfl) (by kernel_rfl) (by kernel_rfl) (fun _ _ _ h => h) (Or.inl ⟨by rfl, ?_⟩) (by assumption) ?_)
        rotate_left 1
        · (intro w hSw; (try dsimp only at hSw); obtain ⟨s0, s1, s2, s3, s4, s5⟩ := hSw; (go_simp) <;> with_reducible rfl)
        try simp only [List.getElem_toArray, List.getElem_cons_zero, List.getElem_cons_succ, Act.put, List.setIfInBounds_toArray, List.set_cons_zero, List.set_cons_succ]
        refine (wpAnyH_take (i := 7) (v := ?_) rfl (by kernel_rfl) (by kernel_rfl) (by kernel_rfl) (fun _ _ _ h => h) (Or.inl ⟨by rfl, ?_⟩) (by assumption) ?_)
        rotate_left 1
        · (intro w hSw; (try dsimp only at hSw); obtain ⟨s0, s1, s2, s3, s4, s5⟩ := hSw; (go_simp) <;> with_reducible rfl)
        try simp only [List.getElem_toArray, List.getElem_cons_zero, List.getElem_cons_succ, Act.put, List.setIfInBounds_toArray, List.set_cons_zero, List.set_cons_succ]
        refine (wpAnyH_take (i := 8) (v := ?_) rfl (by kernel_rfl) (by kernel_rfl) (by kernel_rfl) (fun _ _ _ h => h) (Or.inl ⟨by rfl, ?_⟩) (by assumption) ?_)
        rotate_left 1
        · (intro w hSw; (try dsimp only at hSw); obtain ⟨s0, s1, s2, s3, s4, s5⟩ := hSw; (go_simp) <;> with_reducible rfl)
        try simp only [List.getElem_toArray, List.getElem_cons_zero, List.getElem_cons_succ, Act.put, List.setIfInBounds_toArray, List.set_cons_zero, List.set_cons_succ]
        refine (wpAnyH_take (i := 9) (v := ?_) rfl (by kernel_rfl) (by kernel_rfl) (by kernel_rfl) (fun _ _ _ h => h) (Or.inl ⟨by rfl, ?_⟩) (by assumption) ?_)
        rotate_left 1
        · (intro w hSw; (try dsimp only at hSw); obtain ⟨s0, s1, s2, s3, s4, s5⟩ := hSw; (go_simp) <;> with_reducible rfl)
        try simp only [List.getElem_toArray, List.getElem_cons_zero, List.getElem_cons_succ, Act.put, List.setIfInBounds_toArray, List.set_cons_zero, List.set_cons_succ]
        refine (wpAnyH_take (i := 10) (v := ?_) rfl (by kernel_rfl) (by kernel_rfl) (by kernel_rfl) (fun _ _ _ h => h) (Or.inl ⟨by rfl, ?_⟩) (by assumption) ?_)
        rotate_left 1
        · (intro w hSw; (try dsimp only at hSw); obtain ⟨s0, s1, s2, s3, s4, s5⟩ := hSw; (go_simp) <;> with_reducible rfl)
        try simp only [List.getElem_toArray, List.getElem_cons_zero, List.getElem_cons_succ, Act.put, List.setIfInBounds_toArray, List.set_cons_zero, List.set_cons_succ]
        refine (wpAnyH_take (i := 11) (v := ?_) rfl (by kernel_rfl) (by kernel_rfl) (by kernel_rfl) (fun _ _ _ h => h) (Or.inl ⟨by rfl, ?_⟩) (by assumption) ?_)
        rotate_left 1
        · (intro w hSw; (try dsimp only at hSw); obtain ⟨s0, s1, s2, s3, s4, s5⟩ := hSw; (go_simp) <;> with_reducible rfl)
        try simp only [List.getElem_toArray, List.getElem_cons_zero, List.getElem_cons_succ, Act.put, List.setIfInBounds_toArray, List.set_cons_zero, List.set_cons_succ]
        refine (wpAnyH_take (i := 12) (v := ?_) rfl (by kernel_rfl) (by kernel_rfl) (by kernel_rfl) (fun _ _ _ h => h) (Or.inl ⟨by rfl, ?_⟩) (by assumption) ?_)
        rotate_left 1
        · (intro w hSw; (try dsimp only at hSw); obtain ⟨s0, s1, s2, s3, s4, s5⟩ := hSw; (go_simp) <;> with_reducible rfl)
        try simp only [List.getElem_toArray, List.getElem_cons_zero, List.getElem_cons_succ, Act.put, List.setIfInBounds_toArray, List.set_cons_zero, List.set_cons_succ]
        refine (wpAnyH_take (i := 13) (v := ?_) rfl (by kernel_rfl) (by kernel_rfl) (by kernel_rfl) (fun _ _ _ h => h) (Or.inl ⟨by rfl, ?_⟩) (by assumption) ?_)
        rotate_left 1
        · (intro w hSw; (try dsimp only at hSw); obtain ⟨s0, s1, s2, s3, s4, s5⟩ := hSw; (go_simp) <;> with_reducible rfl)
        try simp only [List.getElem_toArray, List.getElem_cons_zero, List.getElem_cons_succ, Act.put, List.setIfInBounds_toArray, List.set_cons_zero, List.set_cons_succ]
        refine wpAnyH_ready (rs := [14]) (by kernel_rfl) (by simp) ?_
        refine AllReadyH.cons rfl (fun K hK => ?_) ?_
        · go_simp
          go_at_call 126
          refine (HFt.out _).mono ?_
          rintro e w1 ⟨rfl, hb1⟩
          refine hK.out _ _ ?_ (fun hNew => ?_)
          · (try dsimp only); exact ⟨((Below.drew_left hb1).cell (p := ⟨g, off + k * 4, none⟩) HGr.out).trans (hHeld.1), ((Below.drew_left hb1).cell (p := ⟨g, off + k * 4 + 1, none⟩) HGr.out).trans (hHeld.2.1), ((Below.drew_left hb1).cell (p := ⟨g, off + k * 4 + 2, none⟩) HGr.out).trans (hHeld.2.2.1), ((Below.drew_left hb1).cell (p := ⟨g, off + k * 4 + 3, none⟩) HGr.out).trans (hHeld.2.2.2.1), ((Below.drew_left hb1).cell (p := ⟨g2, off2 + k * 2, none⟩) HGr2.out).trans (hHeld.2.2.2.2.1), ((Below.drew_left hb1).cell (p := ⟨g2, off2 + k * 2 + 1, none⟩) HGr2.out).trans (hHeld.2.2.2.2.2)⟩
          clear hK K hHeld
          have hHeld := hNew
          clear hNew
          try simp only [List.getElem_toArray, List.getElem_cons_zero, List.getElem_cons_succ, Act.put, List.setIfInBounds_toArray, List.set_cons_zero, List.set_cons_succ]
          refine (wpAnyH_take (i := 15) (v := ?_) rfl (by kernel_rfl) (by kernel_rfl) (by kernel_rfl) (fun _ _ _ h => h) (Or.inl ⟨by rfl, ?_⟩) (by assumption) ?_)
          rotate_left 1
          · (intro w hSw; (try dsimp only at hSw); obtain ⟨s0, s1, s2, s3, s4, s5⟩ := hSw; (go_simp) <;> with_reducible rfl)
          try simp only [List.getElem_toArray, List.getElem_cons_zero, List.getElem_cons_succ, Act.put, List.setIfInBounds_toArray, List.set_cons_zero, List.set_cons_succ]
          refine (wpAnyH_take (i := 16) (v := ?_) rfl (by kernel_rfl) (by kernel_rfl) (by kernel_rfl) (fun _ _ _ h => h) (Or.inl ⟨by rfl, ?_⟩) (by assumption) ?_)
          rotate_left 1
          · (intro w hSw; (try dsimp only at hSw); obtain ⟨s0, s1, s2, s3, s4, s5⟩ := hSw; (go_simp) <;> with_reducible rfl)
          try simp only [List.getElem_toArray, List.getElem_cons_zero, List.getElem_cons_succ, Act.put, List.setIfInBounds_toArray, List.set_cons_zero, List.set_cons_succ]
          refine wpAnyH_done (by kernel_rfl) ?_ _
          have HBw := Lib.hid (HB.out.trans ((Below.drew_left hb1).mono HB.out.size))
          clear hHeld hb1
          go_wp2_with fail
          go_meet
          exact ⟨rfl, HBw⟩
        exact AllReadyH.nil
      case rest =>
        obtain ⟨rfl, HB1⟩ := hcut
        clear st HB HGr HGr2 HFt
        rename World => w1
        go_wp2_with fail
        go_loopw [8] (fun i wr => ∃ j : Nat, j ≤ k ∧ i = .int .i64 j ∧ Hid (Below w.heap.size w wr) ∧ Hid (freB (stsQ S P j) (l, a, h, c) (p, t) = true)) (fun i _ => k - (intOf i).toNat)
        case atStart => exact ⟨0, Nat.zero_le _, rfl, HB1, Lib.hid rfl⟩
        case round =>
          obtain ⟨j, hj, rfl, HB, HFr⟩ := hrel
          by_cases hjk : j < k
          case neg =>
            obtain rfl : j = k := by omega
            have HU2 : Hid (upQ q S P (j + 1) = true) := Lib.hid (by rw [upQ_succ, HU.out, stepQ_get HX.out HBb.out, canB, HFi2.out, HFr.out]; rfl)
            go_wp2_with fail
            exact ⟨⟨j + 1, by omega, by omega, by go_num, HB, HU2⟩, by simp [intOf]; omega⟩
          have hjm : j < m := by omega
          have hjn : j < n := by omega
          obtain ⟨y, hy⟩ := get_at HM.out hjm
          obtain ⟨z, hz⟩ := get_at HN.out hjn
          have HY := Lib.hid hy
          have HZz := Lib.hid hz
          have by2 := goodQ_get HGd.out hy
          have HOk := Lib.hid (stsQ_ok HQ.out HGd.out (show k ≤ S.length by have := HM.out; omega) HU.out ((j : Int), y, z) (by
            have := stsQ_get (S := S) (P := P) hjk
            simp only [List.getD, hy, hz, Option.getD_some] at this
            exact List.mem_of_getElem? this))
          have hfx := fitB_iff.1 HFi2.out
          obtain ⟨l2, a2, h2, c2⟩ := y
          obtain ⟨p2, t2⟩ := z
          have e9 : ∀ (W : World), Below w.heap.size w W → W.cell? ⟨g, off + j * 4, none⟩ = some (.int .i64 l2) ∧ W.cell? ⟨g, off + j * 4 + 1, none⟩ = some (.int .i64 a2) ∧ W.cell? ⟨g, off + j * 4 + 2, none⟩ = some (.int .i64 h2) ∧ W.cell? ⟨g, off + j * 4 + 3, none⟩ = some (.int .i64 c2) ∧ W.cell? ⟨g2, off2 + j * 2, none⟩ = some (.int .i64 p2) ∧ W.cell? ⟨g2, off2 + j * 2 + 1, none⟩ = some (.int .i64 t2) := fun W hW => ⟨(hW.cell (p := ⟨g, off + j * 4, none⟩) HG0.out).trans (HCC.out j _ hy).1, (hW.cell (p := ⟨g, off + j * 4 + 1, none⟩) HG0.out).trans (HCC.out j _ hy).2.1, (hW.cell (p := ⟨g, off + j * 4 + 2, none⟩) HG0.out).trans (HCC.out j _ hy).2.2.1, (hW.cell (p := ⟨g, off + j * 4 + 3, none⟩) HG0.out).trans (HCC.out j _ hy).2.2.2, (hW.cell (p := ⟨g2, off2 + j * 2, none⟩) HG2.out).trans (HCC2.out j _ hz).1, (hW.cell (p := ⟨g2, off2 + j * 2 + 1, none⟩) HG2.out).trans (HCC2.out j _ hz).2⟩
          have HAp := Lib.hid (fun W => l14Apart_any l a h c p t l2 a2 h2 c2 p2 t2 (by simp only at bx hfx; omega) (by have q1 := HOk.out.2; simp only at by2 q1; omega) W)
          have st9 : wr.drew.cell? ⟨g, off + k * 4, none⟩ = some (.int .i64 l) ∧ wr.drew.cell? ⟨g, off + k * 4 + 1, none⟩ = some (.int .i64 a) ∧ wr.drew.cell? ⟨g, off + k * 4 + 2, none⟩ = some (.int .i64 h) ∧ wr.drew.cell? ⟨g, off + k * 4 + 3, none⟩ = some (.int .i64 c) ∧ wr.drew.cell? ⟨g2, off2 + k * 2, none⟩ = some (.int .i64 p) ∧ wr.drew.cell? ⟨g2, off2 + k * 2 + 1, none⟩ = some (.int .i64 t) ∧ wr.drew.cell? ⟨g, off + j * 4, none⟩ = some (.int .i64 l2) ∧ wr.drew.cell? ⟨g, off + j * 4 + 1, none⟩ = some (.int .i64 a2) ∧ wr.drew.cell? ⟨g, off + j * 4 + 2, none⟩ = some (.int .i64 h2) ∧ wr.drew.cell? ⟨g, off + j * 4 + 3, none⟩ = some (.int .i64 c2) ∧ wr.drew.cell? ⟨g2, off2 + j * 2, none⟩ = some (.int .i64 p2) ∧ wr.drew.cell? ⟨g2, off2 + j * 2 + 1, none⟩ = some (.int .i64 t2) := by
            obtain ⟨q0, q1, q2, q3, q4, q5⟩ := HE.out _ HB.out.drew
            obtain ⟨r0, r1, r2, r3, r4, r5⟩ := e9 _ HB.out.drew
            exact ⟨q0, q1, q2, q3, q4, q5, r0, r1, r2, r3, r4, r5⟩
          have HGr := Lib.hid (Nat.lt_of_lt_of_le HG0.out HB.out.size)
          have HGr2 := Lib.hid (Nat.lt_of_lt_of_le HG2.out HB.out.size)
          clear e9 hy hz bx by2 hfx
          cases hap : aptB (l, a, h, c) (p, t) (l2, a2, h2, c2) (p2, t2) with
          | false =>
            have HR := HFal.out k _ _ HX.out HBb.out (by rw [canB, freB_no HY.out HZz.out hjk hap, Bool.and_false])
            rw [hap] at HAp
            clear hap
            go_wp2_with fail
            refine wp_region_held_drew (S := fun W' => W'.cell? ⟨g, off + k * 4, none⟩ = some (.int .i64 l) ∧ W'.cell? ⟨g, off + k * 4 + 1, none⟩ = some (.int .i64 a) ∧ W'.cell? ⟨g, off + k * 4 + 2, none⟩ = some (.int .i64 h) ∧ W'.cell? ⟨g, off + k * 4 + 3, none⟩ = some (.int .i64 c) ∧ W'.cell? ⟨g2, off2 + k * 2, none⟩ = some (.int .i64 p) ∧ W'.cell? ⟨g2, off2 + k * 2 + 1, none⟩ = some (.int .i64 t) ∧ W'.cell? ⟨g, off + j * 4, none⟩ = some (.int .i64 l2) ∧ W'.cell? ⟨g, off + j * 4 + 1, none⟩ = some (.int .i64 a2) ∧ W'.cell? ⟨g, off + j * 4 + 2, none⟩ = some (.int .i64 h2) ∧ W'.cell? ⟨g, off + j * 4 + 3, none⟩ = some (.int .i64 c2) ∧ W'.cell? ⟨g2, off2 + j * 2, none⟩ = some (.int .i64 p2) ∧ W'.cell? ⟨g2, off2 + j * 2 + 1, none⟩ = some (.int .i64 t2)) (by kernel_rfl) ?_ (fun hHeld => ?_)
            · exact st9
            refine (wpAnyH_take (i := 0) (v := ?_) rfl (by kernel_rfl) (by kernel_rfl) (by kernel_rfl) (fun _ _ _ h => h) (Or.inl ⟨by rfl, ?_⟩) (by assumption) ?_)
            rotate_left 1
            · (intro w hSw; (try dsimp only at hSw); obtain ⟨s0, s1, s2, s3, s4, s5, s6, s7, s8, s9, s10, s11⟩ := hSw; (go_simp) <;> with_reducible rfl)
            try simp only [List.getElem_toArray, List.getElem_cons_zero, Act.put, List.setIfInBounds_toArray, List.set_cons_zero, List.set_cons_succ]
            refine (wpAnyH_take (i := 1) (v := ?_) rfl (by kernel_rfl) (by kernel_rfl) (by kernel_rfl) (fun _ _ _ h => h) (Or.inl ⟨by rfl, ?_⟩) (by assumption) ?_)
            rotate_left 1
            · (intro w hSw; (try dsimp only at hSw); obtain ⟨s0, s1, s2, s3, s4, s5, s6, s7, s8, s9, s10, s11⟩ := hSw; (go_simp) <;> with_reducible rfl)
            try simp only [List.getElem_toArray, List.getElem_cons_zero, List.getElem_cons_succ, Act.put, List.setIfInBounds_toArray, List.set_cons_zero, List.set_cons_succ]
            refine (wpAnyH_take (i := 2) (v := ?_) rfl (by kernel_rfl) (by kernel_rfl) (by kernel_rfl) (fun _ _ _ h => h) (Or.inl ⟨by rfl, ?_⟩) (by assumption) ?_)
            rotate_left 1
            · (intro w hSw; (try dsimp only at hSw); obtain ⟨s0, s1, s2, s3, s4, s5, s6, s7, s8, s9, s10, s11⟩ := hSw; (go_simp) <;> with_reducible rfl)
            try simp only [List.getElem_toArray, List.getElem_cons_zero, List.getElem_cons_succ, Act.put, List.setIfInBounds_toArray, List.set_cons_zero, List.set_cons_succ]
            refine (wpAnyH_take (i := 3) (v := ?_) rfl (by kernel_rfl) (by kernel_rfl) (by kernel_rfl) (fun _ _ _ h => h) (Or.inl ⟨by rfl, ?_⟩) (by assumption) ?_)
            rotate_left 1
            · (intro w hSw; (try dsimp only at hSw); obtain ⟨s0, s1, s2, s3, s4, s5, s6, s7, s8, s9, s10, s11⟩ := hSw; (go_simp) <;> with_reducible rfl)
            try simp only [List.getElem_toArray, List.getElem_cons_zero, List.getElem_cons_succ, Act.put, List.setIfInBounds_toArray, List.set_cons_zero, List.set_cons_succ]
            refine (wpAnyH_take (i := 4) (v := ?_) rfl (by kernel_rfl) (by kernel_rfl) (by kernel_rfl) (fun _ _ _ h => h) (Or.inl ⟨by rfl, ?_⟩) (by assumption) ?_)
            rotate_left 1
            · (intro w hSw; (try dsimp only at hSw); obtain ⟨s0, s1, s2, s3, s4, s5, s6, s7, s8, s9, s10, s11⟩ := hSw; (go_simp) <;> with_reducible rfl)
            try simp only [List.getElem_toArray, List.getElem_cons_zero, List.getElem_cons_succ, Act.put, List.setIfInBounds_toArray, List.set_cons_zero, List.set_cons_succ]
            refine (wpAnyH_take (i := 5) (v := ?_) rfl (by kernel_rfl) (by kernel_rfl) (by kernel_rfl) (fun _ _ _ h => h) (Or.inl ⟨by rfl, ?_⟩) (by assumption) ?_)
            rotate_left 1
            · (intro w hSw; (try dsimp only at hSw); obtain ⟨s0, s1, s2, s3, s4, s5, s6, s7, s8, s9, s10, s11⟩ := hSw; (go_simp) <;> with_reducible rfl)
            try simp only [List.getElem_toArray, List.getElem_cons_zero, List.getElem_cons_succ, Act.put, List.setIfInBounds_toArray, List.set_cons_zero, List.set_cons_succ]
            refine (wpAnyH_take (i := 6) (v := ?_) rfl (by kernel_rfl) (by kernel_rfl) (by kernel_rfl) (fun _ _ _ h => h) (Or.inl ⟨by rfl, ?_⟩) (by assumption) ?_)
            rotate_left 1
            · (intro w hSw; (try dsimp only at hSw); obtain ⟨s0, s1, s2, s3, s4, s5, s6, s7, s8, s9, s10, s11⟩ := hSw; (go_simp) <;> with_reducible rfl)
            try simp only [List.getElem_toArray, List.getElem_cons_zero, List.getElem_cons_succ, Act.put, List.setIfInBounds_toArray, List.set_cons_zero, List.set_cons_succ]
            refine (wpAnyH_take (i := 7) (v := ?_) rfl (by kernel_rfl) (by kernel_rfl) (by kernel_rfl) (fun _ _ _ h => h) (Or.inl ⟨by rfl, ?_⟩) (by assumption) ?_)
            rotate_left 1
            · (intro w hSw; (try dsimp only at hSw); obtain ⟨s0, s1, s2, s3, s4, s5, s6, s7, s8, s9, s10, s11⟩ := hSw; (go_simp) <;> with_reducible rfl)
            try simp only [List.getElem_toArray, List.getElem_cons_zero, List.getElem_cons_succ, Act.put, List.setIfInBounds_toArray, List.set_cons_zero, List.set_cons_succ]
            refine (wpAnyH_take (i := 8) (v := ?_) rfl (by kernel_rfl) (by kernel_rfl) (by kernel_rfl) (fun _ _ _ h => h) (Or.inl ⟨by rfl, ?_⟩) (by assumption) ?_)
            rotate_left 1
            · (intro w hSw; (try dsimp only at hSw); obtain ⟨s0, s1, s2, s3, s4, s5, s6, s7, s8, s9, s10, s11⟩ := hSw; (go_simp) <;> with_reducible rfl)
            try simp only [List.getElem_toArray, List.getElem_cons_zero, List.getElem_cons_succ, Act.put, List.setIfInBounds_toArray, List.set_cons_zero, List.set_cons_succ]
            refine (wpAnyH_take (i := 9) (v := ?_) rfl (by kernel_rfl) (by kernel_rfl) (by kernel_rfl) (fun _ _ _ h => h) (Or.inl ⟨by rfl, ?_⟩) (by assumption) ?_)
            rotate_left 1
            · (intro w hSw; (try dsimp only at hSw); obtain ⟨s0, s1, s2, s3, s4, s5, s6, s7, s8, s9, s10, s11⟩ := hSw; (go_simp) <;> with_reducible rfl)
            try simp only [List.getElem_toArray, List.getElem_cons_zero, List.getElem_cons_succ, Act.put, List.setIfInBounds_toArray, List.set_cons_zero, List.set_cons_succ]
            refine (wpAnyH_take (i := 10) (v := ?_) rfl (by kernel_rfl) (by kernel_rfl) (by kernel_rfl) (fun _ _ _ h => h) (Or.inl ⟨by rfl, ?_⟩) (by assumption) ?_)
            rotate_left 1
            · (intro w hSw; (try dsimp only at hSw); obtain ⟨s0, s1, s2, s3, s4, s5, s6, s7, s8, s9, s10, s11⟩ := hSw; (go_simp) <;> with_reducible rfl)
            try simp only [List.getElem_toArray, List.getElem_cons_zero, List.getElem_cons_succ, Act.put, List.setIfInBounds_toArray, List.set_cons_zero, List.set_cons_succ]
            refine (wpAnyH_take (i := 11) (v := ?_) rfl (by kernel_rfl) (by kernel_rfl) (by kernel_rfl) (fun _ _ _ h => h) (Or.inl ⟨by rfl, ?_⟩) (by assumption) ?_)
            rotate_left 1
            · (intro w hSw; (try dsimp only at hSw); obtain ⟨s0, s1, s2, s3, s4, s5, s6, s7, s8, s9, s10, s11⟩ := hSw; (go_simp) <;> with_reducible rfl)
            try simp only [List.getElem_toArray, List.getElem_cons_zero, List.getElem_cons_succ, Act.put, List.setIfInBounds_toArray, List.set_cons_zero, List.set_cons_succ]
            refine (wpAnyH_take (i := 12) (v := ?_) rfl (by kernel_rfl) (by kernel_rfl) (by kernel_rfl) (fun _ _ _ h => h) (Or.inl ⟨by rfl, ?_⟩) (by assumption) ?_)
            rotate_left 1
            · (intro w hSw; (try dsimp only at hSw); obtain ⟨s0, s1, s2, s3, s4, s5, s6, s7, s8, s9, s10, s11⟩ := hSw; (go_simp) <;> with_reducible rfl)
            try simp only [List.getElem_toArray, List.getElem_cons_zero, List.getElem_cons_succ, Act.put, List.setIfInBounds_toArray, List.set_cons_zero, List.set_cons_succ]
            refine (wpAnyH_take (i := 13) (v := ?_) rfl (by kernel_rfl) (by kernel_rfl) (by kernel_rfl) (fun _ _ _ h => h) (Or.inl ⟨by rfl, ?_⟩) (by assumption) ?_)
            rotate_left 1
            · (intro w hSw; (try dsimp only at hSw); obtain ⟨s0, s1, s2, s3, s4, s5, s6, s7, s8, s9, s10, s11⟩ := hSw; (go_simp) <;> with_reducible rfl)
            try simp only [List.getElem_toArray, List.getElem_cons_zero, List.getElem_cons_succ, Act.put, List.setIfInBounds_toArray, List.set_cons_zero, List.set_cons_succ]
            refine (wpAnyH_take (i := 14) (v := ?_) rfl (by kernel_rfl) (by kernel_rfl) (by kernel_rfl) (fun _ _ _ h => h) (Or.inl ⟨by rfl, ?_⟩) (by assumption) ?_)
            rotate_left 1
            · (intro w hSw; (try dsimp only at hSw); obtain ⟨s0, s1, s2, s3, s4, s5, s6, s7, s8, s9, s10, s11⟩ := hSw; (go_simp) <;> with_reducible rfl)
            try simp only [List.getElem_toArray, List.getElem_cons_zero, List.getElem_cons_succ, Act.put, List.setIfInBounds_toArray, List.set_cons_zero, List.set_cons_succ]
            refine (wpAnyH_take (i := 15) (v := ?_) rfl (by kernel_rfl) (by kernel_rfl) (by kernel_rfl) (fun _ _ _ h => h) (Or.inl ⟨by rfl, ?_⟩) (by assumption) ?_)
            rotate_left 1
            · (intro w hSw; (try dsimp only at hSw); obtain ⟨s0, s1, s2, s3, s4, s5, s6, s7, s8, s9, s10, s11⟩ := hSw; (go_simp) <;> with_reducible rfl)
            try simp only [List.getElem_toArray, List.getElem_cons_zero, List.getElem_cons_succ, Act.put, List.setIfInBounds_toArray, List.set_cons_zero, List.set_cons_succ]
            refine wpAnyH_ready (rs := [16]) (by kernel_rfl) (by simp) ?_
            refine AllReadyH.cons rfl (fun K hK => ?_) ?_
            · go_simp
              go_at_call 127
              refine (HAp.out _).mono ?_
              rintro e w5 ⟨rfl, hb1⟩
              refine hK.out _ _ ?_ (fun hNew => ?_)
              · (try dsimp only); exact ⟨((Below.drew_left hb1).cell (p := ⟨g, off + k * 4, none⟩) HGr.out).trans (hHeld.1), ((Below.drew_left hb1).cell (p := ⟨g, off + k * 4 + 1, none⟩) HGr.out).trans (hHeld.2.1), ((Below.drew_left hb1).cell (p := ⟨g, off + k * 4 + 2, none⟩) HGr.out).trans (hHeld.2.2.1), ((Below.drew_left hb1).cell (p := ⟨g, off + k * 4 + 3, none⟩) HGr.out).trans (hHeld.2.2.2.1), ((Below.drew_left hb1).cell (p := ⟨g2, off2 + k * 2, none⟩) HGr2.out).trans (hHeld.2.2.2.2.1), ((Below.drew_left hb1).cell (p := ⟨g2, off2 + k * 2 + 1, none⟩) HGr2.out).trans (hHeld.2.2.2.2.2.1), ((Below.drew_left hb1).cell (p := ⟨g, off + j * 4, none⟩) HGr.out).trans (hHeld.2.2.2.2.2.2.1), ((Below.drew_left hb1).cell (p := ⟨g, off + j * 4 + 1, none⟩) HGr.out).trans (hHeld.2.2.2.2.2.2.2.1), ((Below.drew_left hb1).cell (p := ⟨g, off + j * 4 + 2, none⟩) HGr.out).trans (hHeld.2.2.2.2.2.2.2.2.1), ((Below.drew_left hb1).cell (p := ⟨g, off + j * 4 + 3, none⟩) HGr.out).trans (hHeld.2.2.2.2.2.2.2.2.2.1), ((Below.drew_left hb1).cell (p := ⟨g2, off2 + j * 2, none⟩) HGr2.out).trans (hHeld.2.2.2.2.2.2.2.2.2.2.1), ((Below.drew_left hb1).cell (p := ⟨g2, off2 + j * 2 + 1, none⟩) HGr2.out).trans (hHeld.2.2.2.2.2.2.2.2.2.2.2)⟩
              clear hK K hHeld
              have hHeld := hNew
              clear hNew
              try simp only [List.getElem_toArray, List.getElem_cons_zero, List.getElem_cons_succ, Act.put, List.setIfInBounds_toArray, List.set_cons_zero, List.set_cons_succ]
              refine (wpAnyH_take (i := 17) (v := ?_) rfl (by kernel_rfl) (by kernel_rfl) (by kernel_rfl) (fun _ _ _ h => h) (Or.inl ⟨by rfl, ?_⟩) (by assumption) ?_)
              rotate_left 1
              · (intro w hSw; (try dsimp only at hSw); obtain ⟨s0, s1, s2, s3, s4, s5, s6, s7, s8, s9, s10, s11⟩ := hSw; (go_simp) <;> with_reducible rfl)
              try simp only [List.getElem_toArray, List.getElem_cons_zero, List.getElem_cons_succ, Act.put, List.setIfInBounds_toArray, List.set_cons_zero, List.set_cons_succ]
              refine wpAnyH_done (by kernel_rfl) ?_ _
              have HBw := Lib.hid (HB.out.trans ((Below.drew_left hb1).mono HB.out.size))
              clear hHeld hb1
              go_wp2_with fail
              go_ret
              exact ⟨by rw [HR.out]; first | done | rfl, HBw.out⟩
            exact AllReadyH.nil
          | true =>
            have HFr2 : Hid (freB (stsQ S P (j + 1)) (l, a, h, c) (p, t) = true) := Lib.hid (by rw [freB_succ HY.out HZz.out, HFr.out, hap]; rfl)
            rw [hap] at HAp
            clear hap
            go_wp2_with fail
            refine wp_region_held_drew (S := fun W' => W'.cell? ⟨g, off + k * 4, none⟩ = some (.int .i64 l) ∧ W'.cell? ⟨g, off + k * 4 + 1, none⟩ = some (.int .i64 a) ∧ W'.cell? ⟨g, off + k * 4 + 2, none⟩ = some (.int .i64 h) ∧ W'.cell? ⟨g, off + k * 4 + 3, none⟩ = some (.int .i64 c) ∧ W'.cell? ⟨g2, off2 + k * 2, none⟩ = some (.int .i64 p) ∧ W'.cell? ⟨g2, off2 + k * 2 + 1, none⟩ = some (.int .i64 t) ∧ W'.cell? ⟨g, off + j * 4, none⟩ = some (.int .i64 l2) ∧ W'.cell? ⟨g, off + j * 4 + 1, none⟩ = some (.int .i64 a2) ∧ W'.cell? ⟨g, off + j * 4 + 2, none⟩ = some (.int .i64 h2) ∧ W'.cell? ⟨g, off + j * 4 + 3, none⟩ = some (.int .i64 c2) ∧ W'.cell? ⟨g2, off2 + j * 2, none⟩ = some (.int .i64 p2) ∧ W'.cell? ⟨g2, off2 + j * 2 + 1, none⟩ = some (.int .i64 t2)) (by kernel_rfl) ?_ (fun hHeld => ?_)
            · exact st9
            refine (wpAnyH_take (i := 0) (v := ?_) rfl (by kernel_rfl) (by kernel_rfl) (by kernel_rfl) (fun _ _ _ h => h) (Or.inl ⟨by rfl, ?_⟩) (by assumption) ?_)
            rotate_left 1
            · (intro w hSw; (try dsimp only at hSw); obtain ⟨s0, s1, s2, s3, s4, s5, s6, s7, s8, s9, s10, s11⟩ := hSw; (go_simp) <;> with_reducible rfl)
            try simp only [List.getElem_toArray, List.getElem_cons_zero, Act.put, List.setIfInBounds_toArray, List.set_cons_zero, List.set_cons_succ]
            refine (wpAnyH_take (i := 1) (v := ?_) rfl (by kernel_rfl) (by kernel_rfl) (by kernel_rfl) (fun _ _ _ h => h) (Or.inl ⟨by rfl, ?_⟩) (by assumption) ?_)
            rotate_left 1
            · (intro w hSw; (try dsimp only at hSw); obtain ⟨s0, s1, s2, s3, s4, s5, s6, s7, s8, s9, s10, s11⟩ := hSw; (go_simp) <;> with_reducible rfl)
            try simp only [List.getElem_toArray, List.getElem_cons_zero, List.getElem_cons_succ, Act.put, List.setIfInBounds_toArray, List.set_cons_zero, List.set_cons_succ]
            refine (wpAnyH_take (i := 2) (v := ?_) rfl (by kernel_rfl) (by kernel_rfl) (by kernel_rfl) (fun _ _ _ h => h) (Or.inl ⟨by rfl, ?_⟩) (by assumption) ?_)
            rotate_left 1
            · (intro w hSw; (try dsimp only at hSw); obtain ⟨s0, s1, s2, s3, s4, s5, s6, s7, s8, s9, s10, s11⟩ := hSw; (go_simp) <;> with_reducible rfl)
            try simp only [List.getElem_toArray, List.getElem_cons_zero, List.getElem_cons_succ, Act.put, List.setIfInBounds_toArray, List.set_cons_zero, List.set_cons_succ]
            refine (wpAnyH_take (i := 3) (v := ?_) rfl (by kernel_rfl) (by kernel_rfl) (by kernel_rfl) (fun _ _ _ h => h) (Or.inl ⟨by rfl, ?_⟩) (by assumption) ?_)
            rotate_left 1
            · (intro w hSw; (try dsimp only at hSw); obtain ⟨s0, s1, s2, s3, s4, s5, s6, s7, s8, s9, s10, s11⟩ := hSw; (go_simp) <;> with_reducible rfl)
            try simp only [List.getElem_toArray, List.getElem_cons_zero, List.getElem_cons_succ, Act.put, List.setIfInBounds_toArray, List.set_cons_zero, List.set_cons_succ]
            refine (wpAnyH_take (i := 4) (v := ?_) rfl (by kernel_rfl) (by kernel_rfl) (by kernel_rfl) (fun _ _ _ h => h) (Or.inl ⟨by rfl, ?_⟩) (by assumption) ?_)
            rotate_left 1
            · (intro w hSw; (try dsimp only at hSw); obtain ⟨s0, s1, s2, s3, s4, s5, s6, s7, s8, s9, s10, s11⟩ := hSw; (go_simp) <;> with_reducible rfl)
            try simp only [List.getElem_toArray, List.getElem_cons_zero, List.getElem_cons_succ, Act.put, List.setIfInBounds_toArray, List.set_cons_zero, List.set_cons_succ]
            refine (wpAnyH_take (i := 5) (v := ?_) rfl (by kernel_rfl) (by kernel_rfl) (by kernel_rfl) (fun _ _ _ h => h) (Or.inl ⟨by rfl, ?_⟩) (by assumption) ?_)
            rotate_left 1
            · (intro w hSw; (try dsimp only at hSw); obtain ⟨s0, s1, s2, s3, s4, s5, s6, s7, s8, s9, s10, s11⟩ := hSw; (go_simp) <;> with_reducible rfl)
            try simp only [List.getElem_toArray, List.getElem_cons_zero, List.getElem_cons_succ, Act.put, List.setIfInBounds_toArray, List.set_cons_zero, List.set_cons_succ]
            refine (wpAnyH_take (i := 6) (v := ?_) rfl (by kernel_rfl) (by kernel_rfl) (by kernel_rfl) (fun _ _ _ h => h) (Or.inl ⟨by rfl, ?_⟩) (by assumption) ?_)
            rotate_left 1
            · (intro w hSw; (try dsimp only at hSw); obtain ⟨s0, s1, s2, s3, s4, s5, s6, s7, s8, s9, s10, s11⟩ := hSw; (go_simp) <;> with_reducible rfl)
            try simp only [List.getElem_toArray, List.getElem_cons_zero, List.getElem_cons_succ, Act.put, List.setIfInBounds_toArray, List.set_cons_zero, List.set_cons_succ]
            refine (wpAnyH_take (i := 7) (v := ?_) rfl (by kernel_rfl) (by kernel_rfl) (by kernel_rfl) (fun _ _ _ h => h) (Or.inl ⟨by rfl, ?_⟩) (by assumption) ?_)
            rotate_left 1
            · (intro w hSw; (try dsimp only at hSw); obtain ⟨s0, s1, s2, s3, s4, s5, s6, s7, s8, s9, s10, s11⟩ := hSw; (go_simp) <;> with_reducible rfl)
            try simp only [List.getElem_toArray, List.getElem_cons_zero, List.getElem_cons_succ, Act.put, List.setIfInBounds_toArray, List.set_cons_zero, List.set_cons_succ]
            refine (wpAnyH_take (i := 8) (v := ?_) rfl (by kernel_rfl) (by kernel_rfl) (by kernel_rfl) (fun _ _ _ h => h) (Or.inl ⟨by rfl, ?_⟩) (by assumption) ?_)
            rotate_left 1
            · (intro w hSw; (try dsimp only at hSw); obtain ⟨s0, s1, s2, s3, s4, s5, s6, s7, s8, s9, s10, s11⟩ := hSw; (go_simp) <;> with_reducible rfl)
            try simp only [List.getElem_toArray, List.getElem_cons_zero, List.getElem_cons_succ, Act.put, List.setIfInBounds_toArray, List.set_cons_zero, List.set_cons_succ]
            refine (wpAnyH_take (i := 9) (v := ?_) rfl (by kernel_rfl) (by kernel_rfl) (by kernel_rfl) (fun _ _ _ h => h) (Or.inl ⟨by rfl, ?_⟩) (by assumption) ?_)
            rotate_left 1
            · (intro w hSw; (try dsimp only at hSw); obtain ⟨s0, s1, s2, s3, s4, s5, s6, s7, s8, s9, s10, s11⟩ := hSw; (go_simp) <;> with_reducible rfl)
            try simp only [List.getElem_toArray, List.getElem_cons_zero, List.getElem_cons_succ, Act.put, List.setIfInBounds_toArray, List.set_cons_zero, List.set_cons_succ]
            refine (wpAnyH_take (i := 10) (v := ?_) rfl (by kernel_rfl) (by kernel_rfl) (by kernel_rfl) (fun _ _ _ h => h) (Or.inl ⟨by rfl, ?_⟩) (by assumption) ?_)
            rotate_left 1
            · (intro w hSw; (try dsimp only at hSw); obtain ⟨s0, s1, s2, s3, s4, s5, s6, s7, s8, s9, s10, s11⟩ := hSw; (go_simp) <;> with_reducible rfl)
            try simp only [List.getElem_toArray, List.getElem_cons_zero, List.getElem_cons_succ, Act.put, List.setIfInBounds_toArray, List.set_cons_zero, List.set_cons_succ]
            refine (wpAnyH_take (i := 11) (v := ?_) rfl (by kernel_rfl) (by kernel_rfl) (by kernel_rfl) (fun _ _ _ h => h) (Or.inl ⟨by rfl, ?_⟩) (by assumption) ?_)
            rotate_left 1
            · (intro w hSw; (try dsimp only at hSw); obtain ⟨s0, s1, s2, s3, s4, s5, s6, s7, s8, s9, s10, s11⟩ := hSw; (go_simp) <;> with_reducible rfl)
            try simp only [List.getElem_toArray, List.getElem_cons_zero, List.getElem_cons_succ, Act.put, List.setIfInBounds_toArray, List.set_cons_zero, List.set_cons_succ]
            refine (wpAnyH_take (i := 12) (v := ?_) rfl (by kernel_rfl) (by kernel_rfl) (by kernel_rfl) (fun _ _ _ h => h) (Or.inl ⟨by rfl, ?_⟩) (by assumption) ?_)
            rotate_left 1
            · (intro w hSw; (try dsimp only at hSw); obtain ⟨s0, s1, s2, s3, s4, s5, s6, s7, s8, s9, s10, s11⟩ := hSw; (go_simp) <;> with_reducible rfl)
            try simp only [List.getElem_toArray, List.getElem_cons_zero, List.getElem_cons_succ, Act.put, List.setIfInBounds_toArray, List.set_cons_zero, List.set_cons_succ]
            refine (wpAnyH_take (i := 13) (v := ?_) rfl (by kernel_rfl) (by kernel_rfl) (by kernel_rfl) (fun _ _ _ h => h) (Or.inl ⟨by rfl, ?_⟩) (by assumption) ?_)
            rotate_left 1
            · (intro w hSw; (try dsimp only at hSw); obtain ⟨s0, s1, s2, s3, s4, s5, s6, s7, s8, s9, s10, s11⟩ := hSw; (go_simp) <;> with_reducible rfl)
            try simp only [List.getElem_toArray, List.getElem_cons_zero, List.getElem_cons_succ, Act.put, List.setIfInBounds_toArray, List.set_cons_zero, List.set_cons_succ]
            refine (wpAnyH_take (i := 14) (v := ?_) rfl (by kernel_rfl) (by kernel_rfl) (by kernel_rfl) (fun _ _ _ h => h) (Or.inl ⟨by rfl, ?_⟩) (by assumption) ?_)
            rotate_left 1
            · (intro w hSw; (try dsimp only at hSw); obtain ⟨s0, s1, s2, s3, s4, s5, s6, s7, s8, s9, s10, s11⟩ := hSw; (go_simp) <;> with_reducible rfl)
            try simp only [List.getElem_toArray, List.getElem_cons_zero, List.getElem_cons_succ, Act.put, List.setIfInBounds_toArray, List.set_cons_zero, List.set_cons_succ]
            refine (wpAnyH_take (i := 15) (v := ?_) rfl (by kernel_rfl) (by kernel_rfl) (by kernel_rfl) (fun _ _ _ h => h) (Or.inl ⟨by rfl, ?_⟩) (by assumption) ?_)
            rotate_left 1
            · (intro w hSw; (try dsimp only at hSw); obtain ⟨s0, s1, s2, s3, s4, s5, s6, s7, s8, s9, s10, s11⟩ := hSw; (go_simp) <;> with_reducible rfl)
            try simp only [List.getElem_toArray, List.getElem_cons_zero, List.getElem_cons_succ, Act.put, List.setIfInBounds_toArray, List.set_cons_zero, List.set_cons_succ]
            refine wpAnyH_ready (rs := [16]) (by kernel_rfl) (by simp) ?_
            refine AllReadyH.cons rfl (fun K hK => ?_) ?_
            · go_simp
              go_at_call 127
              refine (HAp.out _).mono ?_
              rintro e w5 ⟨rfl, hb1⟩
              refine hK.out _ _ ?_ (fun hNew => ?_)
              · (try dsimp only); exact ⟨((Below.drew_left hb1).cell (p := ⟨g, off + k * 4, none⟩) HGr.out).trans (hHeld.1), ((Below.drew_left hb1).cell (p := ⟨g, off + k * 4 + 1, none⟩) HGr.out).trans (hHeld.2.1), ((Below.drew_left hb1).cell (p := ⟨g, off + k * 4 + 2, none⟩) HGr.out).trans (hHeld.2.2.1), ((Below.drew_left hb1).cell (p := ⟨g, off + k * 4 + 3, none⟩) HGr.out).trans (hHeld.2.2.2.1), ((Below.drew_left hb1).cell (p := ⟨g2, off2 + k * 2, none⟩) HGr2.out).trans (hHeld.2.2.2.2.1), ((Below.drew_left hb1).cell (p := ⟨g2, off2 + k * 2 + 1, none⟩) HGr2.out).trans (hHeld.2.2.2.2.2.1), ((Below.drew_left hb1).cell (p := ⟨g, off + j * 4, none⟩) HGr.out).trans (hHeld.2.2.2.2.2.2.1), ((Below.drew_left hb1).cell (p := ⟨g, off + j * 4 + 1, none⟩) HGr.out).trans (hHeld.2.2.2.2.2.2.2.1), ((Below.drew_left hb1).cell (p := ⟨g, off + j * 4 + 2, none⟩) HGr.out).trans (hHeld.2.2.2.2.2.2.2.2.1), ((Below.drew_left hb1).cell (p := ⟨g, off + j * 4 + 3, none⟩) HGr.out).trans (hHeld.2.2.2.2.2.2.2.2.2.1), ((Below.drew_left hb1).cell (p := ⟨g2, off2 + j * 2, none⟩) HGr2.out).trans (hHeld.2.2.2.2.2.2.2.2.2.2.1), ((Below.drew_left hb1).cell (p := ⟨g2, off2 + j * 2 + 1, none⟩) HGr2.out).trans (hHeld.2.2.2.2.2.2.2.2.2.2.2)⟩
              clear hK K hHeld
              have hHeld := hNew
              clear hNew
              try simp only [List.getElem_toArray, List.getElem_cons_zero, List.getElem_cons_succ, Act.put, List.setIfInBounds_toArray, List.set_cons_zero, List.set_cons_succ]
              refine (wpAnyH_take (i := 17) (v := ?_) rfl (by kernel_rfl) (by kernel_rfl) (by kernel_rfl) (fun _ _ _ h => h) (Or.inl ⟨by rfl, ?_⟩) (by assumption) ?_)
              rotate_left 1
              · (intro w hSw; (try dsimp only at hSw); obtain ⟨s0, s1, s2, s3, s4, s5, s6, s7, s8, s9, s10, s11⟩ := hSw; (go_simp) <;> with_reducible rfl)
              try simp only [List.getElem_toArray, List.getElem_cons_zero, List.getElem_cons_succ, Act.put, List.setIfInBounds_toArray, List.set_cons_zero, List.set_cons_succ]
              refine wpAnyH_done (by kernel_rfl) ?_ _
              have HBw := Lib.hid (HB.out.trans ((Below.drew_left hb1).mono HB.out.size))
              clear hHeld hb1
              go_wp2_with fail
              exact ⟨⟨j + 1, by omega, by go_num, HBw, HFr2⟩, by simp [intOf]; omega⟩
            exact AllReadyH.nil

set_option maxRecDepth 100000 in
set_option maxHeartbeats 8000000 in
theorem l14Asked_any (q : Int) (v vp : Value) (S : List Shp) (P : List Brt) (hs : S.length ≤ 1048576) (hn : P.length ≤ 1048576) (w : World) (hv : QsL w v S) (hvp : QbL w vp P) :
    Calls Try.prog 86 #[.int .i64 q, v, vp] w (BoolP w (askQ q S P)) := by
  have HS := Lib.hid (l14Ships_any q v S hs w hv)
  obtain ⟨a0, c0, rfl⟩ := hv.form
  obtain ⟨a1, c1, rfl⟩ := hvp.form
  by_cases hb : (isQ q && goodQ S) = true
  case neg =>
    have hb2 : (isQ q && goodQ S) = false := by simpa using hb
    rw [show askQ q S P = false by rw [askQ, hb2]; rfl]
    rw [hb2] at HS
    clear hv hvp hb hb2
    generalize S.length = m at *
    generalize P.length = n at *
    go_enter Try.func86, Try.ntmps86
    go_wp2_with fail
    refine HS.out.mono ?_
    rintro e w1 ⟨rfl, hb⟩
    have HB := Lib.hid hb
    clear hb
    go_wp2_with fail
    go_ret
    exact ⟨by first | rfl | simp, HB.out⟩
  rw [hb] at HS
  rw [Bool.and_eq_true] at hb
  have HP := Lib.hid (fun W (hW : Below w.heap.size w W) => l14Plan_any q _ _ S P hb.1 hb.2 hn W (hv.below hW) (hvp.below hW))
  have HA : Hid (askQ q S P = (begQ q S P && decide (P.length = S.length))) := Lib.hid (by
    rw [askQ, begQ, hb.1, hb.2]
    by_cases h : P.length = S.length
    · simp [h]
    · simp [h])
  rw [HA.out]
  clear hv hvp hb HA
  generalize begQ q S P = bq at *
  generalize S.length = m at *
  generalize P.length = n at *
  by_cases hmn : n = m
  case pos =>
    subst hmn
    rw [decide_eq_true rfl, Bool.and_true]
    go_enter Try.func86, Try.ntmps86
    go_wp2_with fail
    refine HS.out.mono ?_
    rintro e w1 ⟨rfl, hb⟩
    have HB := Lib.hid hb
    clear hb
    go_wp2_with fail
    refine (HP.out _ HB.out).mono ?_
    rintro e w2 ⟨rfl, hb⟩
    have HB2 := Lib.hid (HB.out.trans (hb.mono HB.out.size))
    clear hb
    cases bq
    all_goals
      go_wp2_with fail
      go_ret
      exact ⟨by first | rfl | simp, HB2.out⟩
  case neg =>
    have hd : decide ((n : Int) = (m : Int)) = false := by simp; omega
    rw [decide_eq_false hmn, Bool.and_false]
    have HD : Hid (¬ (n : Int) = (m : Int)) := Lib.hid (by omega)
    clear hmn
    go_enter Try.func86, Try.ntmps86
    go_wp2_with fail
    refine HS.out.mono ?_
    rintro e w1 ⟨rfl, hb⟩
    have HB := Lib.hid hb
    clear hb
    go_wp2_with fail
    refine (HP.out _ HB.out).mono ?_
    rintro e w2 ⟨rfl, hb⟩
    have HB2 := Lib.hid (HB.out.trans (hb.mono HB.out.size))
    clear hb
    cases bq
    all_goals
      go_wp2_with fail
      go_ret
      exact ⟨by first | rfl | (simp; exact HD.out) | simp, HB2.out⟩

set_option maxRecDepth 100000 in
set_option maxHeartbeats 8000000 in
theorem specIp_any (q : Int) (v vp : Value) (S : List Shp) (P : List Brt) (hs : S.length ≤ 1048576) (hn : P.length ≤ 1048576) (w : World) (hv : QsL w v S) (hvp : QbL w vp P) :
    Calls Try.prog 36 #[.int .i64 q, v, vp] w (BoolP w (askQ q S P)) := by
  have HS := Lib.hid (l14Asked_any q v vp S P hs hn w hv hvp)
  clear hv hvp
  go_enter Try.func36, Try.ntmps36
  go_wp2_with fail
  refine HS.out.mono ?_
  rintro e w1 ⟨rfl, hb⟩
  have HB := Lib.hid hb
  clear hb
  go_wp2_with fail
  go_ret
  exact ⟨rfl, HB.out⟩
end Go.Proofs.Ytpljcpeghjplnaa
