/-
  What spec.BlockersOf returns. No statement of the seat by itself.
-/
import Derived.Test.YtdnbkfpcmjijlaaBlockI
import Derived.Test.YtdnbkfpcmjijlaaPutM
namespace Go.Proofs.Ytdnbkfpcmjijlaa
open Go.RowKit

theorem coll_below {w w1 w2 : World} {v0 o : Value} {l : List Int} (h : Coll w w1 v0 o l) (hb : Below w1.heap.size w1 w2) : Coll w w2 v0 o l := by
  obtain ⟨r1, r2, r3, r4, r5⟩ := h
  exact ⟨row_below r1 hb, (hb.cell (p := ⟨w.heap.size, 0, none⟩) (by show w.heap.size < _; omega)).trans r2, r3.trans (hb.mono r3.size), Nat.le_trans r4 hb.size, r5⟩

set_option maxRecDepth 100000 in
set_option maxHeartbeats 4000000 in
theorem specBlockers_any (v : Value) (Y : List (List Int)) (x : Int) (h1 : Y.length ≤ 1048576) (h2 : tot Y ≤ 1048576) (w : World) (h : YdR w v Y) :
    Calls Try.prog 37 #[v, .int .i64 x] w (RetL w (blR Y x) (plB Y x)) := by
  obtain ⟨f3, hi3, hz0, hz1, hz2⟩ := info_is info3
  obtain ⟨v0, rfl, hv⟩ := h
  have C0 := coll_start w v0 26
  have B0 := Lib.hid (below_two w (.cells #[v0] 26) (.cells #[] 3))
  have HV := Lib.hid hv
  have HF := Lib.hid (l5Find_any (.agg #[v0]) Y x h1 h2 _ ⟨v0, rfl, hv.below B0.out⟩)
  have HG : Hid (∀ W, Below w.heap.size w W → Calls Try.prog 52 #[.agg #[v0]] W (BoolP W (goodY Y))) := Lib.hid fun W hb => good_spec _ Y h1 h2 W ⟨v0, rfl, HV.out.below hb⟩
  have c0 := C0.2.1
  have HC0 := Lib.hid C0
  clear hv C0 h1 h2
  have HNo : Hid (plO Y x = none → ∀ W a c, Coll w W v0 (.slice a 0 c) [] → RetL w (blR Y x) (plB Y x) (.returned (.tuple #[.slice a 0 c, .bool false])) W) := Lib.hid fun hp W a c hc => by
    rw [(blR_none hp).1, (blR_none hp).2]
    exact retL_of (l := []) hc.1 (Nat.le_succ _) hc.2.2.1
  cases hp : placeY Y x with
  | none =>
    have HX := Lib.hid (HNo.out (by unfold plO; split <;> simp [hp]))
    rw [findV_none hp] at HF
    clear hp HNo
    generalize goodY Y = b at *
    go_enter Try.func37, Try.ntmps37
    go_wp2_with fail
    refine HF.out.mono ?_
    rintro e w1 ⟨rfl, hb⟩
    have C1 := Lib.hid (coll_below HC0.out hb)
    have c1 := C1.out.2.1
    clear hb c0
    go_wp2_with fail
    refine (HG.out _ C1.out.2.2.1).mono ?_
    rintro e w2 ⟨rfl, hb⟩
    have C2 := Lib.hid (coll_below C1.out hb)
    clear hb c1
    cases b
    all_goals
      go_wp2_with fail
      go_ret2
      exact HX.out _ _ _ C2.out
  | some p =>
    obtain ⟨i, k⟩ := p
    rw [findV_some hp] at HF
    cases hg : goodY Y with
    | false =>
      have HX := Lib.hid (HNo.out (plO_bad hg))
      rw [hg] at HG
      clear hp hg HNo
      go_enter Try.func37, Try.ntmps37
      go_wp2_with fail
      refine HF.out.mono ?_
      rintro e w1 ⟨rfl, hb⟩
      have C1 := Lib.hid (coll_below HC0.out hb)
      have c1 := C1.out.2.1
      clear hb c0
      go_wp2_with fail
      refine (HG.out _ C1.out.2.2.1).mono ?_
      rintro e w2 ⟨rfl, hb⟩
      have C2 := Lib.hid (coll_below C1.out hb)
      clear hb c1
      go_wp2_with fail
      go_ret2
      exact HX.out _ _ _ C2.out
    | true =>
      obtain ⟨l, hl, hat⟩ := place_inv hp
      have hkl := lt_of_get (atL_get hat)
      have hX := blR_some ((plO_good hg).trans hp) hl
      have hl4 := (goodY_iff.1 hg).2.2.1 l (List.mem_of_getElem? hl)
      have hn6 := (good_small hg).1
      rw [hX.1, hX.2]
      obtain ⟨a0, cap0, rfl, hc⟩ := HV.out
      obtain ⟨g0, off0, rfl, hg0, hcc⟩ := hc (by have := lt_of_get hl; omega)
      obtain ⟨u0, hu0, hil⟩ := hcc i l hl
      obtain ⟨a2, c2, rfl, hrow⟩ := hil
      obtain ⟨g2, off2, rfl, hg2, hcc2⟩ := hrow (by omega)
      have hin := lt_of_get hl
      obtain ⟨n, hn⟩ : ∃ n, Y.length = n := ⟨_, rfl⟩
      obtain ⟨m, hm⟩ : ∃ m, l.length = m := ⟨_, rfl⟩
      obtain ⟨d, hd⟩ : ∃ d, m = k + d + 1 := ⟨m - (k + 1), by omega⟩
      have HM := Lib.hid hm
      have HU := Lib.hid hu0
      have HCC := Lib.hid hcc2
      have hin2 : i < n := by omega
      have HD : Hid ((l.drop (k + 1)).reverse.length = d) := Lib.hid (by simp; omega)
      have HDg : Hid (∀ j r, j + (r + 1) = d → (l.drop (k + 1)).reverse[j]? = l[k + r + 1]?) := Lib.hid fun j r hjr => by
        rw [List.getElem?_reverse (by rw [List.length_drop]; omega), List.getElem?_drop, List.length_drop]
        congr 1
        omega
      have hsub : (m : Int) - 1 = ((k + d : Nat) : Int) := by omega
      rw [hn] at HF HC0 B0 HG c0 hn6
      rw [hn]
      rw [hm] at HU hl4
      rw [hg] at HG
      clear hp hg HNo hl hat hkl hX hc hcc hu0 hrow hcc2 hin hn hm
      generalize (l.drop (k + 1)).reverse = D at *
      go_enter Try.func37, Try.ntmps37
      go_wp2_with fail
      refine HF.out.mono ?_
      rintro e w1 ⟨rfl, hb⟩
      have C1 := Lib.hid (coll_below HC0.out hb)
      have c1 := C1.out.2.1
      clear hb c0
      go_wp2_with fail
      refine (HG.out _ C1.out.2.2.1).mono ?_
      rintro e w2 ⟨rfl, hb⟩
      have C2 := Lib.hid (coll_below C1.out hb)
      have c2' := C2.out.2.1
      have hu2 := (C2.out.2.2.1.cell (p := ⟨g0, off0 + i, none⟩) hg0).trans HU.out
      clear hb c1
      go_wp2_with fail
      clear c2' hu2
      go_loopw [6, 9] (fun s q wr => ∃ j r : Nat, j + r = d ∧ q = .int .i64 ((k + r : Nat) : Int) ∧ Hid (Coll w wr (.slice (some ⟨g0, off0, none⟩) n cap0) s (D.take j))) (fun _ q _ => (intOf q).toNat)
      case atStart => exact ⟨0, d, by omega, val_i (by omega), Lib.hid (by rw [List.take_zero]; exact C2.out)⟩
      case round =>
        obtain ⟨j, r, hjr, rfl, HR⟩ := hrel
        have c0 := HR.out.2.1
        match r, hjr with
        | r + 1, hjr =>
          obtain ⟨y, hy⟩ := get_at (Y := l) (k := k + r + 1) HM.out (by omega)
          have hDy : D[j]? = some y := (HDg.out j r hjr).trans hy
          have hu := (HR.out.2.2.1.cell (p := ⟨g0, off0 + i, none⟩) hg0).trans HU.out
          have hyc := (HR.out.2.2.1.cell (p := ⟨g2, off2 + (k + r + 1), none⟩) hg2).trans (HCC.out _ y hy)
          have HT := Lib.hid (take_next hDy)
          have hTl : (D.take j).length = j := by have := HD.out; rw [List.length_take]; omega
          have hlt : (k : Int) < ((k + (r + 1) : Nat) : Int) := by omega
          obtain ⟨z, hz⟩ : ∃ z, k + (r + 1) = z := ⟨_, rfl⟩
          rw [show k + r + 1 = z by omega] at hyc
          rw [hz] at hlt
          rw [hz]
          have hzm : z < m := by omega
          have hsz : (z : Int) - 1 = ((k + r : Nat) : Int) := by omega
          obtain ⟨hrow, hc0, hB, hzs, hne⟩ := HR.out
          have KC0 := Lib.hid hc0
          clear hc0 hne hy hDy
          go_wp2_with (at_builtin; refine wpList_append_own _ rfl _ _ 38 rfl (w.heap.size + 1) 3 f3 (.int .i64 0) 1 8 Try.underlying38 hi3 hz0 hz1 hz2 rfl (by decide) _ _ _ rfl (hrow.alloc _) ⟨wr.heap.size, 0, none⟩ 1 1 [.int .i64 y] rfl rfl (cell_one_new _ _ _) (by simp [Value.oneCell']) (by unfold maxLen; omega) (by omega) (by simp; omega) ?_; intro v' w4 hown' hgrow hnil)
          have HN4 : Hid (Coll w w4 (.slice (some ⟨g0, off0, none⟩) n cap0) v' (D.take (j + 1))) := Lib.hid ⟨by rw [HT.out]; simpa [intV] using hown', cell_append hB hrow (by omega) (by omega) hgrow KC0.out, below_append hB hrow (by omega) hgrow, by have := hgrow.size; simp at this; omega, fun e => by have := (hnil.1 e).2; omega⟩
          clear hown' hgrow hnil hrow hB hzs
          exact ⟨⟨j + 1, r, by omega, val_i (by omega), HN4⟩, by simp [intOf]; omega⟩
        | 0, hjr =>
          obtain rfl : j = d := by omega
          have HX : Hid (D.take j = D) := Lib.hid (by rw [← HD.out]; exact List.take_length)
          have hnl : ¬ (k : Int) < ((k + 0 : Nat) : Int) := by omega
          go_wp2_with fail
          go_ret2
          have hR := HR.out.1
          rw [HX.out] at hR
          exact retL_of hR (Nat.le_succ _) HR.out.2.2.1
end Go.Proofs.Ytdnbkfpcmjijlaa
