/-
  What impl.BestPlacement returns. No statement of the seat by itself.
-/
import Derived.Test.YtfbeoficgkkamaaTryJ
import Derived.Test.YtfbeoficgkkamaaArr
import Derived.Test.YtfbeoficgkkamaaCopyI
namespace Go.Proofs.Ytfbeoficgkkamaa
open Go.RowKit

theorem bpi_none {Y : List (List Int)} {O : List Int} (h : bpO Y O = none) : bpR Y O = [] ∧ bpX Y O = 0 ∧ bpB Y O = false := by simp [bpR, bpX, bpB, h, bstP]
theorem bpi_ask {Y : List (List Int)} {O : List Int} (h : askP Y O = false) : bpO Y O = none := by simp [bpO, h]
theorem bpi_is {Y : List (List Int)} {O : List Int} (h : askP Y O = true) : bpR Y O = bstP [] (updB none [] (bst 4 O Y)) ∧ bpX Y O = bstF (updB none [] (bst 4 O Y)) ∧ bpB Y O = (updB none [] (bst 4 O Y)).isSome := by
  have e : bpO Y O = bst 4 O Y := by simp [bpO, h]
  unfold bpR bpX bpB
  rw [e]
  cases bst 4 O Y with
  | none => exact ⟨rfl, rfl, rfl⟩
  | some pc =>
    obtain ⟨p, c⟩ := pc
    exact ⟨rfl, rfl, rfl⟩
theorem retLX_zero {w W : World} (hb : Below w.heap.size w W) : RetLX w [] 0 false (.returned (.tuple #[.slice (some ⟨W.heap.size, 0, none⟩) 0 0, .int .i64 0, .bool false])) (W.alloc (.cells #[] 3)) := by
  have h : (W.alloc (.cells #[] 3)).ownsRow W.heap.size 3 1 (.slice (some ⟨W.heap.size, 0, none⟩) 0 0) ([] : List Int).length (intV []) := by simpa [intV] using own_empty W (.cells #[] 3) 3 rfl
  exact ⟨_, _, rfl, lo_of_own h hb.size, hb.trans ((below_one W _).mono hb.size)⟩
/-- A table of rows of the call's own, as the search sees it, with an empty list beside it. -/
theorem trs_of {w : World} {B hi g n c : Nat} {u : Value} {Y : List (List Int)} (h : OwnY w B hi (.slice (some ⟨g, 0, none⟩) n c) Y) (hu : w.ownsRow B 3 1 u 0 (intV [])) (hx : ∀ b, u.ownBlock = some b → hi ≤ b) : n = Y.length ∧ ∃ vs, TrS w B g c vs Y u [] := by
  obtain ⟨h1, h2, us, h3, h4, h5, h6⟩ := h
  have hn : n = Y.length := by
    obtain ⟨a, c, e⟩ := own_form h3
    injection e
  subst hn
  refine ⟨rfl, us, h3, h4, fun j x l hx hl => (h5 j x l hx hl).1, h6, hu, fun j x b hx' hb e => ?_⟩
  obtain ⟨l, hl⟩ := get_at (Y := Y) (k := j) rfl (by have := lt_of_get hx'; omega)
  have h7 := (h5 j x l hx' hl).2 b hb
  have h8 := hx b e
  omega
theorem field_yd (a : Option Addr) (n c : Nat) (W : World) : (Instr.field 67 (.agg #[.slice a n c]) 0).run Try.prog W = .ok (.slice a n c) W := by kernel_rfl
/-- make([]int, 0, n): no number yet, room for n. -/
theorem make_room (n : Nat) (hn : n ≤ 1048576) (W : World) : ∃ o, (Instr.makeSlice 24 (.int .i64 0) (.int .i64 (n : Int))).run Try.prog W = .ok (.slice (some ⟨W.heap.size, 0, none⟩) 0 n) (W.alloc o) ∧
    (W.alloc o).ownsRow W.heap.size 3 1 (.slice (some ⟨W.heap.size, 0, none⟩) 0 n) 0 (intV []) := by
  obtain ⟨i, hi, hz, hs, hb⟩ := info_is info3
  have hb' : (i.bytes : Int) * (n : Int) ≤ 281474976710656 := by rw [hb]; omega
  have hr := run_make (P := Try.prog) W 24 3 i _ Try.underlying24 hi hz .i64 .i64 0 n (by omega) (by omega) hb' (by omega)
  have e : madeCells (Value.int .i64 0).cells (n * i.size) = (intV (List.replicate n 0)).toArray := by
    apply Array.toList_inj.1
    rw [hs, Nat.mul_one, show (Value.int .i64 0).cells = #[Value.int .i64 0] from rfl, toList_madeCells_one]; simp [intV]
  simp only [Int.toNat_natCast, Int.toNat_zero] at hr
  rw [e] at hr
  refine ⟨_, hr, rfl, .inr ⟨W.heap.size, n, _, rfl, Nat.le_refl _, heap_alloc_new W _, Nat.zero_le _, by unfold maxLen; omega, by simp [intV], by simp [intV]⟩⟩

set_option maxRecDepth 100000 in
set_option maxHeartbeats 8000000 in
theorem implBp_any (v vo : Value) (Y : List (List Int)) (O : List Int) (B hi : Nat) (h1 : Y.length ≤ 1048576) (h2 : tot Y ≤ 1048576) (h3 : O.length ≤ 1048576) (w : World) (h : YdO w B hi v Y) (ho : OwnI w vo O) :
    Calls Try.prog 53 #[v, vo] w (RetLX w (bpR Y O) (bpX Y O) (bpB Y O)) := by
  obtain ⟨v0, rfl, hv⟩ := h
  obtain ⟨a, c, rfl, hc⟩ := ho.form
  obtain ⟨n, hn⟩ : ∃ n, O.length = n := ⟨_, rfl⟩
  have HN := Lib.hid hn
  have BA := Lib.hid (Box1.new w v0 67)
  have B0 := Lib.hid (below_one w (.cells #[v0] 67))
  have c0 := BA.out.2
  have HBad := Lib.hid (implBad_any (.agg #[v0]) Y B hi h1 h2 _ ⟨v0, rfl, hv.below B0.out⟩)
  have HAr : Hid (∀ W, Below w.heap.size w W → Calls Try.prog 88 #[.agg #[v0], .slice a n c] W (BoolP W (askP Y O))) := Lib.hid fun W hb => by
    have := areArrivals_any _ _ Y O h1 h2 h3 W ⟨v0, rfl, hv.yl.below hb⟩ (ho.below hb)
    rw [hn] at this
    exact this
  have HCp := Lib.hid (fun W hb => copyYard_any (.agg #[v0]) Y h1 h2 W ⟨v0, rfl, hv.yl.below hb⟩)
  unfold NewYd at HCp
  have HI : Hid (∀ W, Below w.heap.size w W → IL W (.slice a n c) O) := Lib.hid fun W hb => by
    have := ho.read.below hb
    rw [hn] at this
    exact this
  rw [hn] at h3 hc ⊢
  clear hv ho
  generalize hbl : w.alloc (.cells #[v0] 67) = w0 at *
  cases hg : goodY Y with
  | false =>
    have ha : askP Y O = false := by simp [askP, hg]
    have HX := Lib.hid (bpi_none (bpi_ask ha))
    rw [hg] at HBad
    clear hg ha hn h1 h2
    go_enter Try.func53, Try.ntmps53
    go_wp2_with fail
    try simp only [hbl]
    refine HBad.out.mono ?_
    rintro e w1 ⟨ab, cb, rfl, -, hb⟩
    have B1 := Lib.hid (B0.out.trans (hb.mono B0.out.size))
    clear hb c0
    go_wp2_with fail
    go_ret3
    rw [HX.out.1, HX.out.2.1, HX.out.2.2]
    exact retLX_zero B1.out
  | true =>
    have HBl : Hid ((badR Y).length = badN Y) := Lib.hid (by rw [badR, if_pos hg, srtI_len]; rfl)
    rw [hg] at HBad
    cases ha : askP Y O with
    | false =>
      have HX := Lib.hid (bpi_none (bpi_ask ha))
      rw [ha] at HAr
      clear hg ha hn h1 h2
      go_enter Try.func53, Try.ntmps53
      go_wp2_with fail
      try simp only [hbl]
      refine HBad.out.mono ?_
      rintro e w1 ⟨ab, cb, rfl, -, hb⟩
      have B1 := Lib.hid (B0.out.trans (hb.mono B0.out.size))
      have c1 := (BA.out.below hb).2
      clear hb c0
      go_wp2_with fail
      refine (HAr.out _ B1.out).mono ?_
      rintro e w2 ⟨rfl, hb⟩
      have B2 := Lib.hid (B1.out.trans (hb.mono B1.out.size))
      clear hb c1
      go_wp2_with fail
      go_ret3
      rw [HX.out.1, HX.out.2.1, HX.out.2.2]
      exact retLX_zero B2.out
    | true =>
      have HX := Lib.hid (bpi_is ha)
      have h5 := (askP_iff.1 ha).2.1
      rw [hn] at h5
      have HA9 := Lib.hid ha
      obtain ⟨q, hq⟩ : ∃ q, Y.length = q := ⟨_, rfl⟩
      have HQ := Lib.hid hq
      have hq1 : 1 ≤ q := by have := (goodY_iff.1 hg).1; omega
      have hq6 : q ≤ 6 := by have := (goodY_iff.1 hg).2.1; omega
      rw [hq] at HCp
      rw [ha] at HAr
      clear hg ha hn h1 h2 hq
      go_enter Try.func53, Try.ntmps53
      go_wp2_with fail
      try simp only [hbl]
      refine HBad.out.mono ?_
      rintro e w1 ⟨ab, cb, rfl, -, hb⟩
      have B1 := Lib.hid (B0.out.trans (hb.mono B0.out.size))
      have A1 := Lib.hid (BA.out.below hb)
      have c1 := A1.out.2
      clear hb c0
      rw [HBl.out]
      go_wp2_with fail
      refine (HAr.out _ B1.out).mono ?_
      rintro e w2 ⟨rfl, hb⟩
      have B2 := Lib.hid (B1.out.trans (hb.mono B1.out.size))
      have c2 := (A1.out.below hb).2
      clear hb c1
      go_wp2_with fail
      refine (HCp.out _ B2.out).mono ?_
      rintro e w3 ⟨a3, c3, rfl, ho3, hb⟩
      obtain ⟨g, cap, e⟩ := ho3.rows (by have := HQ.out; omega)
      injection e with e1 e2 e3
      subst e1 e3
      have B3 := Lib.hid (B2.out.trans (hb.mono B2.out.size))
      have O3 := Lib.hid ho3
      have hfd := fun W => field_yd (some ⟨g, 0, none⟩) q c3 W
      have hB23 : w2.heap.size ≤ w3.heap.size := hb.size
      clear hb ho3 e2 c2
      go_wp2_with fail
      have BS := below_one w3 (.cells #[.slice a n c, .int .i64 4, .slice (some ⟨g, 0, none⟩) q c3, .slice none 0 0, .int .i64 0, .bool false] 73)
      have hm4 := heap_alloc_new w3 (.cells #[.slice a n c, .int .i64 4, .slice (some ⟨g, 0, none⟩) q c3, .slice none 0 0, .int .i64 0, .bool false] 73)
      generalize w3.alloc (.cells #[.slice a n c, .int .i64 4, .slice (some ⟨g, 0, none⟩) q c3, .slice none 0 0, .int .i64 0, .bool false] 73) = w4 at *
      have hlt4 := (Array.getElem?_eq_some_iff.1 hm4).1
      obtain ⟨o, hmk, hmo⟩ := make_room n h3 w4
      have BM := below_one w4 o
      have hm5 := (BM.block _ hlt4).trans hm4
      have O5 := (O3.out.below BS).below BM
      have B5 := Lib.hid ((B3.out.trans (BS.mono B3.out.size)).trans (BM.mono (Nat.le_trans B3.out.size BS.size)))
      have hB25 : w2.heap.size ≤ (w4.alloc o).heap.size := Nat.le_trans hB23 (Nat.le_trans BS.size BM.size)
      obtain ⟨-, vs, T5⟩ := trs_of O5 (hmo.mono (Nat.le_trans hB23 BS.size)) (fun b e => by
        simp only [Value.ownBlock, Option.some.injEq] at e
        have := BS.size
        omega)
      have S5 : StS (w4.alloc o) w2.heap.size w3.heap.size 4 (.slice a n c) (.slice (some ⟨g, 0, none⟩) Y.length c3) (.slice none 0 0) none vs (.slice (some ⟨w4.heap.size, 0, none⟩) 0 n) := ⟨by rw [HQ.out]; exact hm5, own_nil _ _, fun b e => by simp [Value.ownBlock] at e, fun b e => by simp [Value.ownBlock] at e⟩
      have HC := Lib.hid (implTry_any O O [] Y _ _ _ vs none w2.heap.size w3.heap.size 4 g c3 ⟨(goodY_iff.1 (askP_iff.1 HA9.out).1).2.1, (goodY_iff.1 (askP_iff.1 HA9.out).1).2.2.1⟩ (by decide) rfl (by simp) (by rw [HN.out]; omega) _ T5 S5 (fun W hb => HI.out W (B5.out.trans (hb.mono B2.out.size))) hB25 hB23 ⟨_, _, rfl⟩)
      obtain ⟨s, hs⟩ : ∃ s, updB none [] (bst 4 O Y) = s := ⟨_, rfl⟩
      rw [hs] at HC HX
      clear hs T5 S5 O5 hmo hm5 hm4 BS BM
      generalize w4.alloc o = w5 at *
      rw [hmk]
      go_wp2_with fail
      refine HC.out.mono ?_
      rintro e w6 ⟨rfl, vb', -, hS6, -, -, hb6⟩
      obtain ⟨av, cv, e⟩ := own_form hS6.own
      subst e
      have c2 := cell_of (i := 3) hS6.mem rfl
      have c3' := cell_of (i := 4) hS6.mem rfl
      have c4 := cell_of (i := 5) hS6.mem rfl
      have HO := Lib.hid (lo_of_own (w := w) hS6.own B2.out.size)
      have B6 := Lib.hid (B5.out.trans (hb6.mono B2.out.size))
      clear hS6 hb6 HC
      go_wp2_with fail
      go_quiet (fail)
      go_wp2_with fail
      go_ret3
      rw [HX.out.1, HX.out.2.1, HX.out.2.2]
      exact ⟨_, _, rfl, lo_of_own (HO.out.below (below_drewN (Below.refl _ _) _)).2.1 (Nat.le_refl _), below_drewN B6.out _⟩
end Go.Proofs.Ytfbeoficgkkamaa
