/-
  What the program answers of a plan: IsPossiblePlan, PlanCost, LastHour. No statement of the seat by itself.
-/
import Derived.Test.YtpljcpeghjplnaaQMf
namespace Go.Proofs.Ytpljcpeghjplnaa
open Go.RowKit

theorem field_span1 (x y : Value) (W : World)   : (Instr.field 119 (.agg #[x, y]) 1).run Try.prog W = .ok y W := by
  simp [Instr.field, go_sem, asAgg]
theorem enters_stayCost : Enters Try.prog 119 := enters_of Try.func119 (by kernel_rfl) rfl
theorem MoC.at0 {w : World} {b : Nat} {q : Int} {M : List Sty} (h : MoC w b 0 q M) {k : Nat} {s : Sty} (hs : M[k]? = some s) : w.rangeAt b (2 + k * 7) (svV s) := by
  have := h.2.2.1 k s hs
  rwa [show 0 + 2 + k * 7 = 2 + k * 7 by omega] at this
theorem moored0_any (b : Nat) (q : Int) (M : List Sty) (w : World) (h : MoC w b 0 q M) : Calls Try.prog 79 #[.pointer (some ⟨b, 0, none⟩)] w fun e w' => e = .returned (.slice (some ⟨b, 2, none⟩) M.length 5) ∧ Below w.heap.size w w' :=
  moored_any b 0 q M w h
theorem sumQ_take {M : List Sty} {k : Nat} {s : Sty} (hs : M[k]? = some s) : sumQ (M.take (k + 1)) = sumQ (M.take k) + cosQ s := by
  rw [List.take_add_one, hs]
  exact sumQ_app _ _
theorem lasQ_take {M : List Sty} {k : Nat} {s : Sty} (hs : M[k]? = some s) (h : 0 ≤ endQ s) : lasQ (M.take (k + 1)) = max (lasQ (M.take k)) (endQ s) := by
  rw [List.take_add_one, hs]
  have := lasQ_app (M.take k) s
  simp only [Option.toList]
  omega
theorem sumQ_small {M : List Sty} (h : ∀ s ∈ M, okSty s) (hl : M.length ≤ 5) (k : Nat) : 0 ≤ sumQ (M.take k) ∧ sumQ (M.take k) ≤ 45000 := by
  have := sumQ_bound (M := M.take k) fun s hs => h s (List.mem_of_mem_take hs)
  have h2 : (M.take k).length ≤ 5 := by simp only [List.length_take]; omega
  omega

set_option maxRecDepth 100000 in
set_option maxHeartbeats 4000000 in
theorem sumStays_any (b : Nat) (q : Int) (M : List Sty) (hok : ∀ s ∈ M, okSty s) (w : World) (h : MoC w b 0 q M) :
    Calls Try.prog 118 #[.slice (some ⟨b, 2, none⟩) M.length 5, .func (.func 119) #[] #[]] w (RetP w (.int .i64 (sumQ M))) := by
  obtain ⟨n, hn⟩ : ∃ n, M.length = n := ⟨_, rfl⟩
  have HN := Lib.hid hn
  have HOk := Lib.hid hok
  have HC := Lib.hid h
  have hl := h.2.2.2.2.2
  have HT := Lib.hid (fun k => sumQ_small hok hl k)
  have HBk := Lib.hid h.block
  rw [hn] at hl ⊢
  clear h hn hok
  go_enter Try.func118, Try.ntmps118
  go_wp2_with fail
  go_loopw [5, 10] (fun s i wr => ∃ (k : Nat) (t : Int), k ≤ n ∧ i = .int .i64 k ∧ s = .int .i64 t ∧ Hid (t = sumQ (M.take k)) ∧ Hid (Below w.heap.size w wr)) (fun _ i _ => n - (intOf i).toNat)
  case atStart => exact ⟨0, 0, Nat.zero_le _, rfl, rfl, Lib.hid rfl, Lib.hid (Below.refl _ _)⟩
  case round =>
    obtain ⟨k, t, hk, rfl, rfl, HS, HB⟩ := hrel
    by_cases hlt : k < n
    · obtain ⟨s, hs⟩ := get_at HN.out hlt
      obtain ⟨a0, a1, a2, a3, a4, a5, a6⟩ := st_cells (rangeAt_below (HC.out.at0 hs) HB.out HBk.out)
      have HOs := Lib.hid (HOk.out s (List.mem_of_getElem? hs))
      have HE := Lib.hid (costF_any s HOs.out (wr.alloc (.cells (svV s).toArray 90)))
      have HB2 := Lib.hid (HB.out.trans ((below_one wr (.cells (svV s).toArray 90)).mono HB.out.size))
      have HK2 := Lib.hid (sumQ_take hs)
      have hki : (k : Int) < (n : Int) := by omega
      obtain ⟨m1, m2, -⟩ := HOs.out.cos
      obtain ⟨q1, q2⟩ := HT.out k
      rw [← HS.out] at q1 q2
      obtain ⟨u, hu⟩ : ∃ u, cosQ s = u := ⟨_, rfl⟩
      rw [hu] at m1 m2 HE HK2
      clear hs hu
      go_wp2_with fail
      refine HE.out.mono ?_
      rintro e w1 ⟨rfl, hb⟩
      have HB3 := Lib.hid (HB2.out.trans (hb.mono HB2.out.size))
      clear hb a0 a1 a2 a3 a4 a5 a6
      go_wp2_with fail
      exact ⟨⟨k + 1, t + u, by omega, by go_num, rfl, Lib.hid (by rw [HK2.out, HS.out]), HB3⟩, by simp [intOf]; omega⟩
    · obtain rfl : k = n := by omega
      go_wp2_with fail
      go_ret
      exact ⟨ret_i (by rw [HS.out, List.take_of_length_le (by have := HN.out; omega)]), HB.out⟩

set_option maxRecDepth 100000 in
set_option maxHeartbeats 4000000 in
theorem costM_any (b : Nat) (q : Int) (M : List Sty) (hok : ∀ s ∈ M, okSty s) (w : World) (h : MoC w b 0 q M) :
    Calls Try.prog 69 #[.pointer (some ⟨b, 0, none⟩)] w (RetP w (.int .i64 (sumQ M))) := by
  have H1 := Lib.hid (moored0_any b q M w h)
  have H2 := Lib.hid (fun W (hW : Below w.heap.size w W) => sumStays_any b q M hok W (h.below hW))
  clear h hok
  generalize M.length = n at *
  go_enter Try.func69, Try.ntmps69
  go_wp2_with fail
  refine H1.out.mono ?_
  rintro e w1 ⟨rfl, hb⟩
  have HB := Lib.hid hb
  clear hb
  go_wp2_with fail
  refine (H2.out _ HB.out).mono ?_
  rintro e w2 ⟨rfl, hb⟩
  have HB2 := Lib.hid (HB.out.trans (hb.mono HB.out.size))
  clear hb
  go_wp2_with fail
  go_ret
  exact ⟨rfl, HB2.out⟩
theorem mfM_ok {q : Int} {S : List Shp} {P : List Brt} : ∀ s ∈ mfM q S P, okSty s := by
  intro s hs
  cases h : askQ q S P with
  | false => rw [(mf_no h).2] at hs; cases hs
  | true =>
    rw [(mf_yes h).2] at hs
    have h2 := askQ_iff.1 h
    exact stsQ_ok h2.1 h2.2.1 (by omega) h2.2.2.2 s hs
theorem costR_mf (q : Int) (S : List Shp) (P : List Brt) : costR q S P = sumQ (mfM q S P) := by
  unfold costR mfM
  split <;> rfl
theorem lastR_mf (q : Int) (S : List Shp) (P : List Brt) : lastR q S P = lasQ (mfM q S P) := by
  unfold lastR mfM
  split <;> rfl
theorem waitR_mf (q : Int) (S : List Shp) (P : List Brt) : waitR q S P = (mfM q S P).map waiQ := by
  unfold waitR mfM
  split <;> rfl


set_option maxRecDepth 100000 in
set_option maxHeartbeats 8000000 in
theorem implIp_any (q : Int) (v vp : Value) (S : List Shp) (P : List Brt) (hs : S.length ≤ 1048576) (hn : P.length ≤ 1048576) (w : World) (hv : QsL w v S) (hvp : QbL w vp P) :
    Calls Try.prog 24 #[.int .i64 q, v, vp] w (BoolP w (askQ q S P)) := by
  have H1 := Lib.hid (mooringOf_any q v vp S P hs hn w hv hvp)
  have HOk := Lib.hid (mfM_ok (q := q) (S := S) (P := P))
  clear hv hvp
  unfold MfP at H1
  generalize askQ q S P = bq at *
  generalize mfM q S P = M at *
  generalize mfQ q S P = q1 at *
  go_enter Try.func24, Try.ntmps24
  go_wp2_with fail
  refine H1.out.mono ?_
  rintro e w1 ⟨xs, hx, rfl, hb⟩
  have HX := Lib.hid hx
  have HB := Lib.hid hb
  clear hx hb
  go_wp2_with (first | (refine wpList_newM rfl rfl ?_; intro W2 hN2; have N2 := Lib.hid hN2; clear hN2) | (refine wpList_putM rfl _ _ rfl w1.heap.size rfl xs rfl HX.out.1 N2.out.there ?_; intro W3 hP3; have P3 := Lib.hid hP3; clear hP3))
  have HM := Lib.hid (N2.out.put P3.out HX.out).1
  have HB3 := Lib.hid (HB.out.trans ((N2.out.put P3.out HX.out).2.1.mono HB.out.size))
  clear N2 P3 HX HB
  go_ret
  exact ⟨rfl, HB3.out⟩


set_option maxRecDepth 100000 in
set_option maxHeartbeats 8000000 in
theorem implPc_any (q : Int) (v vp : Value) (S : List Shp) (P : List Brt) (hs : S.length ≤ 1048576) (hn : P.length ≤ 1048576) (w : World) (hv : QsL w v S) (hvp : QbL w vp P) :
    Calls Try.prog 25 #[.int .i64 q, v, vp] w (RetP w (.tuple #[.int .i64 (costR q S P), .bool (askQ q S P)])) := by
  have H1 := Lib.hid (mooringOf_any q v vp S P hs hn w hv hvp)
  have HOk := Lib.hid (mfM_ok (q := q) (S := S) (P := P))
  rw [costR_mf]
  clear hv hvp
  unfold MfP at H1
  generalize askQ q S P = bq at *
  generalize mfM q S P = M at *
  generalize mfQ q S P = q1 at *
  go_enter Try.func25, Try.ntmps25
  go_wp2_with fail
  refine H1.out.mono ?_
  rintro e w1 ⟨xs, hx, rfl, hb⟩
  have HX := Lib.hid hx
  have HB := Lib.hid hb
  clear hx hb
  go_wp2_with (first | (refine wpList_newM rfl rfl ?_; intro W2 hN2; have N2 := Lib.hid hN2; clear hN2) | (refine wpList_putM rfl _ _ rfl w1.heap.size rfl xs rfl HX.out.1 N2.out.there ?_; intro W3 hP3; have P3 := Lib.hid hP3; clear hP3))
  have HM := Lib.hid (N2.out.put P3.out HX.out).1
  have HB3 := Lib.hid (HB.out.trans ((N2.out.put P3.out HX.out).2.1.mono HB.out.size))
  clear N2 P3 HX HB
  refine (costM_any _ _ M HOk.out _ HM.out).mono ?_
  rintro e w4 ⟨rfl, hb⟩
  have HB4 := Lib.hid (HB3.out.trans (hb.mono HB3.out.size))
  clear hb
  go_wp2_with fail
  go_ret2
  exact ⟨rfl, HB4.out⟩


set_option maxRecDepth 100000 in
set_option maxHeartbeats 8000000 in
theorem implLh_any (q : Int) (v vp : Value) (S : List Shp) (P : List Brt) (hs : S.length ≤ 1048576) (hn : P.length ≤ 1048576) (w : World) (hv : QsL w v S) (hvp : QbL w vp P) :
    Calls Try.prog 30 #[.int .i64 q, v, vp] w (RetP w (.tuple #[.int .i64 (lastR q S P), .bool (askQ q S P)])) := by
  have H1 := Lib.hid (mooringOf_any q v vp S P hs hn w hv hvp)
  have HOk := Lib.hid (mfM_ok (q := q) (S := S) (P := P))
  rw [lastR_mf]
  clear hv hvp
  unfold MfP at H1
  generalize askQ q S P = bq at *
  generalize mfM q S P = M at *
  generalize mfQ q S P = q1 at *
  go_enter Try.func30, Try.ntmps30
  go_wp2_with fail
  refine H1.out.mono ?_
  rintro e w1 ⟨xs, hx, rfl, hb⟩
  have HX := Lib.hid hx
  have HB := Lib.hid hb
  clear hx hb
  go_wp2_with (first | (refine wpList_newM rfl rfl ?_; intro W2 hN2; have N2 := Lib.hid hN2; clear hN2) | (refine wpList_putM rfl _ _ rfl w1.heap.size rfl xs rfl HX.out.1 N2.out.there ?_; intro W3 hP3; have P3 := Lib.hid hP3; clear hP3))
  have HM := Lib.hid (N2.out.put P3.out HX.out).1
  have HB3 := Lib.hid (HB.out.trans ((N2.out.put P3.out HX.out).2.1.mono HB.out.size))
  clear N2 P3 HX HB
  refine (moored0_any _ _ M _ HM.out).mono ?_
  rintro e w4 ⟨rfl, hb⟩
  have HB4 := Lib.hid (HB3.out.trans (hb.mono HB3.out.size))
  have HM4 := Lib.hid (HM.out.below hb)
  have hl := HM.out.2.2.2.2.2
  clear hb HM HB3
  generalize w1.heap.size = bm at *
  obtain ⟨n, hn⟩ : ∃ n, M.length = n := ⟨_, rfl⟩
  have HN := Lib.hid hn
  have HBk := Lib.hid HM4.out.block
  rw [hn] at hl ⊢
  clear hn
  go_wp2_with fail
  go_loopw [8, 22] (fun s i wr => ∃ (k : Nat) (t : Int), k ≤ n ∧ i = .int .i64 k ∧ s = .int .i64 t ∧ Hid (t = lasQ (M.take k)) ∧ Hid (Below w4.heap.size w4 wr)) (fun _ i _ => n - (intOf i).toNat)
  case atStart => exact ⟨0, 0, Nat.zero_le _, rfl, rfl, Lib.hid rfl, Lib.hid (Below.refl _ _)⟩
  case round =>
    obtain ⟨k, t, hk, rfl, rfl, HS, HB⟩ := hrel
    by_cases hlt : k < n
    · obtain ⟨s, hs⟩ := get_at HN.out hlt
      obtain ⟨a0, a1, a2, a3, a4, a5, a6⟩ := st_cells (rangeAt_below (HM4.out.at0 hs) HB.out HBk.out)
      have HOs := HOk.out s (List.mem_of_getElem? hs)
      have hsm := HOs.small
      have HE := Lib.hid (hours_any s.1 s.2.1.1 s.2.1.2.1 s.2.1.2.2.1 s.2.1.2.2.2 s.2.2.1 s.2.2.2 (by unfold smS at hsm; omega) (by unfold smS at hsm; omega) (wr.alloc (.cells (svV s).toArray 90)))
      have HB2 := Lib.hid (HB.out.trans ((below_one wr (.cells (svV s).toArray 90)).mono HB.out.size))
      have HK2 := Lib.hid (lasQ_take hs (by have := HOs.cos; omega))
      have hki : (k : Int) < (n : Int) := by omega
      have hu : s.2.2.2 + s.2.1.2.2.1 = endQ s := rfl
      rw [hu] at HE
      generalize endQ s = u at *
      have hfl := field_span1
      clear hs hu HOs hsm
      go_wp2_with fail
      refine HE.out.mono ?_
      rintro e w5 ⟨rfl, hb⟩
      have HB3 := Lib.hid (HB2.out.trans (hb.mono HB2.out.size))
      clear hb a0 a1 a2 a3 a4 a5 a6
      by_cases hmx : u ≤ t
      case' pos =>
        have hmx2 : ¬ t < u := by omega
        have HL : Hid (t = lasQ (M.take (k + 1))) := Lib.hid (by rw [HK2.out, ← HS.out]; omega)
      case' neg =>
        have hmx2 : t < u := by omega
        have HL : Hid (u = lasQ (M.take (k + 1))) := Lib.hid (by rw [HK2.out, ← HS.out]; omega)
      all_goals
        go_wp2_with fail
        exact ⟨⟨k + 1, _, by omega, by go_num, rfl, HL, HB3⟩, by simp [intOf]; omega⟩
    · obtain rfl : k = n := by omega
      have e := HS.out
      rw [List.take_of_length_le (by have := HN.out; omega)] at e
      subst e
      go_wp2_with fail
      go_ret2
      exact ⟨rfl, HB4.out.trans (HB.out.mono HB4.out.size)⟩

end Go.Proofs.Ytpljcpeghjplnaa
