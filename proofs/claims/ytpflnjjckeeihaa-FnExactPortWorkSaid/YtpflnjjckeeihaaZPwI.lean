/-
  What impl.PortWork returns. No statement of the seat by itself.
-/
import Derived.Test.YtpflnjjckeeihaaZPw
import Derived.Test.YtpflnjjckeeihaaOwnI
namespace Go.Proofs.Ytpflnjjckeeihaa
open Go.RowKit

theorem enters_work : Enters Try.prog 67 := enters_of Try.func67 (by kernel_rfl) rfl
set_option maxHeartbeats 2000000 in
theorem work_any (x p : Int) (A : Nat) (u : Value) (l : List Int) (hl : l.length ≤ 1000) (w : World) (h : IL w u l) (hc : w.cell? ⟨A, 0, none⟩ = some (.int .i64 p)) :
    Calls Try.prog 67 #[.agg #[.int .i64 x, u], .pointer (some ⟨A, 0, none⟩)] w fun e w' => e = .returned (.bool (decide (p < x) && hasB l p)) ∧ Below w.heap.size w w' := by
  have HB := Lib.hid (below_one w (.cells #[.int .i64 x, u] 75))
  have c0 := cell_of (i := 0) (heap_alloc_new w (.cells #[.int .i64 x, u] 75)) rfl
  have c1 := cell_of (i := 1) (heap_alloc_new w (.cells #[.int .i64 x, u] 75)) rfl
  have hA : A < w.heap.size := World.block_lt_of_cell? w _ hc
  have c2 := (World.cell?_alloc_lt w (.cells #[.int .i64 x, u] 75) ⟨A, 0, none⟩ hA).trans hc
  have HE := Lib.hid (contains_any u l p (by unfold maxLen; omega) _ (h.below HB.out))
  obtain ⟨a, c, rfl⟩ := h.form
  by_cases hx : p < x
  · have hd : decide (p < x) = true := decide_eq_true hx
    rw [hd, Bool.true_and]
    generalize hasB l p = b at *
    generalize l.length = n at *
    clear h hd hc
    go_enter Try.func67, Try.ntmps67
    go_wp2_with fail
    refine HE.out.mono ?_
    rintro e w1 ⟨rfl, rfl⟩
    go_wp2_with fail
    go_ret
    exact ⟨rfl, HB.out⟩
  · have hd : decide (p < x) = false := decide_eq_false hx
    rw [hd, Bool.false_and]
    clear hc h
    go_enter Try.func67, Try.ntmps67
    go_wp2_with fail
    go_ret
    exact ⟨rfl, HB.out⟩

theorem retLL_none {w W : World} (hb : Below w.heap.size w W) : RetLL w [] [] false (.returned (.tuple #[.slice (some ⟨W.heap.size, 0, none⟩) 0 0, .slice (some ⟨W.heap.size + 1, 0, none⟩) 0 0, .bool false])) ((W.alloc (.cells #[] 3)).alloc (.cells #[] 3)) := by
  have h1 := own_empty W (.cells #[] 3) 3 rfl
  have h2 := own_empty (W.alloc (.cells #[] 3)) (.cells #[] 3) 3 rfl
  have hs : (W.alloc (.cells #[] 3)).heap.size = W.heap.size + 1 := by simp
  rw [hs] at h2
  have b1 := below_one W (.cells #[] 3)
  have b2 := below_one (W.alloc (.cells #[] 3)) (.cells #[] 3)
  have h1' := row_below h1 b2
  have hs2 : ((W.alloc (.cells #[] 3)).alloc (.cells #[] 3)).heap.size = W.heap.size + 1 + 1 := by simp
  have hbs := hb.size
  refine ⟨_, 0, _, 0, rfl, ⟨⟨Nat.le_refl _, by simpa [intV] using h1'.mono hbs, fun b e => ?_⟩, ⟨Nat.le_refl _, by simpa [intV] using h2.mono (by omega), fun b e => ?_⟩, fun b e e2 => ?_⟩, (hb.trans (b1.mono hbs)).trans (b2.mono (by omega))⟩
  · simp only [Value.ownBlock, Option.some.injEq] at e
    omega
  · simp only [Value.ownBlock, Option.some.injEq] at e
    omega
  · simp only [Value.ownBlock, Option.some.injEq] at e e2
    omega

set_option maxRecDepth 100000 in
set_option maxHeartbeats 8000000 in
theorem implPw_any (v vo : Value) (r h : Int) (P O : List Int) (p : Int) (hn : P.length ≤ 1048576) (hO : O.length ≤ 1048576) (w : World) (hv : StR w v r h P) (ho : IL w vo O) :
    Calls Try.prog 26 #[v, vo, .int .i64 p] w (RetLL w (pwR r h P O p) (pwD r h P O p) (okW r h P O p)) := by
  obtain ⟨v0, rfl, hv⟩ := hv
  have hb0 := below_one w (.cells #[.int .i64 r, .int .i64 h, v0] 26)
  have hb1 := below_one (w.alloc (.cells #[.int .i64 r, .int .i64 h, v0] 26)) (.cells #[.int .i64 p] 3)
  have B0 := Lib.hid (hb0.trans (hb1.mono hb0.size))
  have BA := Lib.hid ((Box3.new w r h v0 26).below hb1)
  have hpc := heap_alloc_new (w.alloc (.cells #[.int .i64 r, .int .i64 h, v0] 26)) (.cells #[.int .i64 p] 3)
  rw [show (w.alloc (.cells #[.int .i64 r, .int .i64 h, v0] 26)).heap.size = w.heap.size + 1 by simp] at hpc
  have HPc := Lib.hid hpc
  have HF := Lib.hid (stowed_any (.agg #[.int .i64 r, .int .i64 h, v0]) vo r h P O hn hO _ ⟨v0, rfl, hv.below B0.out⟩ (ho.below B0.out))
  have HV := Lib.hid hv
  obtain ⟨-, c0, c1, c2⟩ := BA.out
  obtain ⟨ao, co, rfl⟩ := ho.form
  have HPt := Lib.hid (isPort_any p)
  clear hb0 hb1 hpc hv ho
  go_enter Try.func26, Try.ntmps26
  go_wp2_with fail
  refine HF.out.mono ?_
  rintro e w1 ⟨hb, ⟨hg, rfl⟩ | ⟨hg, g, c, fa, fm, fc, rfl, hlt, hcs⟩⟩
  · have B1 := Lib.hid (B0.out.trans (hb.mono B0.out.size))
    have HX := Lib.hid (And.intro (pw_no (okW_l (p := p) hg)) (okW_l (p := p) hg))
    have HRet := Lib.hid (retLL_none B1.out)
    clear hb hg c0 c1 c2
    go_wp2_with fail
    go_ret3
    rw [HX.out.1.1, HX.out.1.2, HX.out.2]
    exact HRet.out
  · have B1 := Lib.hid (B0.out.trans (hb.mono B0.out.size))
    have BA1 := Lib.hid (BA.out.below hb)
    have P1 := Lib.hid ((hb.block _ (mem_lt HPc.out)).trans HPc.out)
    have p1 := cell_of (i := 0) P1.out rfl
    have HE := Lib.hid (HPt.out w1)
    by_cases hp : 1 ≤ p ∧ p ≤ 9
    case neg =>
      have HX := Lib.hid (And.intro (pw_no (okW_r (r := r) (h := h) (P := P) (O := O) hp)) (okW_r (r := r) (h := h) (P := P) (O := O) hp))
      rw [decide_eq_false hp] at HE
      clear hb hg c0 c1 c2 hcs hlt hp
      go_wp2_with fail
      refine HE.out.mono ?_
      rintro e w2 ⟨rfl, hb2⟩
      have B2 := Lib.hid (B1.out.trans (hb2.mono B1.out.size))
      have HRet := Lib.hid (retLL_none B2.out)
      clear hb2 p1
      go_wp2_with fail
      go_ret3
      rw [HX.out.1.1, HX.out.1.2, HX.out.2]
      exact HRet.out
    case pos =>
      have HX := Lib.hid (And.intro (pw_yes (okW_yes hg hp)) (okW_yes hg hp))
      obtain ⟨g1, g2, g3, g4, g5, -, -⟩ := okZ_get hg
      rw [decide_eq_true hp] at HE
      have HNW := Lib.hid (fun W (hbW : Below w1.heap.size w1 W) => numsb_any 67 #[.pointer (some ⟨w.heap.size + 1, 0, none⟩)] enters_work (some ⟨g, 0, none⟩) O.length c (abB P O p) (fun i => P.getD i 0) fa fm fc hO W (fun _ => ⟨g, 0, rfl, Nat.lt_of_lt_of_le hlt hbW.size, fun i hi => ⟨(hbW.cell (p := ⟨g, 0 + i * 2, none⟩) hlt).trans (hcs i hi).1.1, (hbW.cell (p := ⟨g, 0 + i * 2 + 1, none⟩) hlt).trans (hcs i hi).1.2⟩⟩) (fun i W2 hi hb2 => by
        have hbb := hbW.trans (hb2.mono hbW.size)
        exact work_any _ p (w.heap.size + 1) _ _ (by have := blZ_len P O i; omega) W2 ((hcs i hi).2.below hbb) ((hbb.cell (p := ⟨w.heap.size + 1, 0, none⟩) (mem_lt P1.out)).trans (cell_of P1.out rfl))))
      have HNf := Lib.hid (fun W (hb : Below w.heap.size w W) => numbersFor_any (.agg #[.int .i64 r, .int .i64 h, v0]) r h P p hn W ⟨v0, rfl, HV.out.below hb⟩)
      rw [← g4] at HNf
      unfold NewN at HNW HNf
      generalize O.length = n at *
      generalize numsW (abB P O p) n = D at *
      generalize numsW (isP P p) n = R at *
      clear hb hg c0 c1 c2 hcs hlt hp g1 g2 g3 g4 g5
      go_wp2_with fail
      refine HE.out.mono ?_
      rintro e w2 ⟨rfl, hb2⟩
      have B2 := Lib.hid (B1.out.trans (hb2.mono B1.out.size))
      have BA2 := Lib.hid (BA1.out.below hb2)
      have P2 := Lib.hid ((hb2.block _ (mem_lt P1.out)).trans P1.out)
      have HW2 := Lib.hid (HNW.out w2 hb2)
      clear hb2 p1
      generalize hDl : D.length = nd at *
      have HDl := Lib.hid hDl
      clear hDl
      go_wp2_with fail
      refine HW2.out.mono ?_
      rintro e w3 ⟨ga, ka, rfl, ho3, hb3⟩
      have B3 := Lib.hid (B2.out.trans (hb3.mono B2.out.size))
      have O3 := Lib.hid ho3
      obtain ⟨-, k0, k1, k2⟩ := BA2.out.below hb3
      have p3 := cell_of (i := 0) ((hb3.block _ (mem_lt P2.out)).trans P2.out) rfl
      have HF3 := Lib.hid (HNf.out w3 B3.out)
      have hz3 := hb3.size
      clear hb3 ho3
      generalize hRl : R.length = nr at *
      have HRl := Lib.hid hRl
      clear hRl
      go_wp2_with fail
      refine HF3.out.mono ?_
      rintro e w4 ⟨gb, kb, rfl, ho4, hb4⟩
      have B4 := Lib.hid (B3.out.trans (hb4.mono B3.out.size))
      have O4 := Lib.hid ho4
      have O3' := Lib.hid (row_below O3.out hb4)
      have HA := Lib.hid (And.intro (row_lt O3.out) (row_base ho4))
      clear hb4 ho4 k0 k1 k2 p3
      go_wp2_with fail
      go_ret3
      rw [HX.out.1.1, HX.out.1.2, HX.out.2]
      have e1 := HRl.out
      have e2 := HDl.out
      subst e1 e2
      have hw2 := B2.out.size
      have hw3 := B3.out.size
      refine ⟨_, kb, _, ka, rfl, ⟨lo_of_own O4.out hw3, ⟨Nat.le_refl _, O3'.out.mono hw2, row_lt O3'.out⟩, fun b e e2 => ?_⟩, B4.out⟩
      have h1 := HA.out.1 b e2
      have h2 := HA.out.2 b e
      omega
end Go.Proofs.Ytpflnjjckeeihaa
