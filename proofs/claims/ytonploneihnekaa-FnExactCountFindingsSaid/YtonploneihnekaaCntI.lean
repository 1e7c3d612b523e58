/-
  What impl.CountFindings answers. No statement of the seat by itself.
-/
import Derived.Test.YtonploneihnekaaCntS
import Derived.Test.YtonploneihnekaaFndI
namespace Go.Proofs.Ytonploneihnekaa
open Go.RowKit

theorem FL.form2 {w : World} {a : Option Addr} {n c : Nat} {S : List Fnd} (h : FL w (.slice a n c) S) (hp : 0 < S.length) : ∃ g off, a = some ⟨g, off, none⟩ ∧ g < w.heap.size ∧ ∀ j s, S[j]? = some s → FCells w g (off + j * 3) s := by
  obtain ⟨a', c', e, h⟩ := h
  injection e with e1 e2 e3
  subst e1
  exact h hp

set_option maxRecDepth 100000 in
set_option maxHeartbeats 4000000 in
theorem implCnt_any (v : Value) (Y : List (List Int)) (g n : Nat) (f : Nat → C.Cont) (p : Int) (h1 : Y.length ≤ 1048576) (h2 : tot Y ≤ 1048576) (hn : n ≤ 1048576) (hid : ∀ j, j < n → (f j).id.size ≤ 1048576) (w : World) (h : YdR w v Y) (hc : C.CAt w g 0 n f) :
    Calls Try.prog 30 #[v, .slice (some ⟨g, 0, none⟩) n n, .int .i64 p] w (RetL w (cntR n f Y p) (askF n f Y p)) := by
  obtain ⟨v0, rfl, hv⟩ := h
  have HA : Hid (∀ W, Below w.heap.size w W → Calls Try.prog 14 #[.agg #[v0], .slice (some ⟨g, 0, none⟩) n n, .int .i64 p] W (RetF W (finR n f Y p) (askF n f Y p))) := Lib.hid fun W hb => implFnd_any _ Y g n f p h1 h2 hn hid W ⟨_, rfl, hv.below hb⟩ (hc.below hb)
  have HY : Hid (askF n f Y p = true → cntR n f Y p = hist ruleK 4 (finR n f Y p)) := Lib.hid cntR_yes
  have HN : Hid (askF n f Y p = false → cntR n f Y p = []) := Lib.hid cntR_no
  have HM : Hid (askF n f Y p = true → ∀ (j : Nat) (x : Fnd), (finR n f Y p)[j]? = some x → ∃ r t : Nat, x.1 = (r : Int) + 1 ∧ r < 4 ∧ x.2.1 = (t : Int) ∧ t < 6) := Lib.hid fun h j x hx => finR_mem h hx
  have hS := finR_len n f Y p
  have BA := Lib.hid (Box1.new w v0 31)
  have B0 := Lib.hid (below_one w (.cells #[v0] 31))
  clear hv hc hid h1 h2
  generalize askF n f Y p = q at *
  generalize cntR n f Y p = R at *
  generalize finR n f Y p = S at *
  go_enter Try.func30, Try.ntmps30
  go_wp2_with fail
  generalize w.alloc (.cells #[v0] 31) = w0 at *
  refine (HA.out _ B0.out).mono ?_
  rintro e w1 ⟨a3, c3, rfl, hfo, hb⟩
  have A1 := Lib.hid (BA.out.below hb)
  have B1 := Lib.hid (B0.out.trans (hb.mono B0.out.size))
  have HFo := Lib.hid hfo
  clear hb hfo
  cases q with
  | false =>
    have HS := Lib.hid (retL_none B1.out)
    rw [← HN.out rfl] at HS
    go_wp2_with fail
    go_ret2
    exact HS.out
  | true =>
    have HM2 := Lib.hid (HM.out rfl)
    have hRS := HY.out rfl
    subst hRS
    clear HY HN HM
    obtain ⟨W', hmk, hown, hbl⟩ := make_four w1
    have S0 : Hid (HistS w W' v0 w1.heap.size 4 w0.heap.size w1.heap.size (.slice a3 S.length c3) S (hist ruleK 4 (S.take 0))) := Lib.hid (by
      rw [List.take_zero, hist_nil]
      exact ⟨B1.out.trans (hbl.mono B1.out.size), A1.out.below hbl, hown, A1.out.1, .inr (Nat.le_refl _), HFo.out.below hbl⟩)
    obtain ⟨t, ht⟩ : ∃ t, S.length = t := ⟨_, rfl⟩
    have HT := Lib.hid ht
    rw [ht] at S0 hS HFo ⊢
    clear hown hbl ht
    go_upto_region 5 with fail
    clear hmk
    generalize w1.heap.size = bo at *
    generalize w0.heap.size = Bf at *
    go_wp2_with fail
    go_loopw [26] (fun i wr => ∃ j : Nat, j ≤ t ∧ i = .int .i64 j ∧ Hid (HistS w wr v0 bo 4 Bf bo (.slice a3 t c3) S (hist ruleK 4 (S.take j)))) (fun i _ => t - (intOf i).toNat)
    case atStart => exact ⟨0, Nat.zero_le _, rfl, S0⟩
    case round =>
      obtain ⟨j, hj, rfl, HS⟩ := hrel
      by_cases hlt : j < t
      · obtain ⟨x, hx⟩ := get_at HT.out hlt
        obtain ⟨r, k, hr, hr4, -, -⟩ := HM2.out j x hx
        obtain ⟨g3, o3, rfl, hg3, hcc⟩ := HS.out.2.2.2.2.2.read.form2 (by have := HT.out; omega)
        obtain ⟨y1, y2, y3⟩ := hcc j x hx
        obtain ⟨xr, xs, xt⟩ := x
        simp only at hr y1 y2 y3
        subst hr
        have HS2 := Lib.hid (HS.out.below (below_one wr (.cells #[.int .i64 ((r : Int) + 1), .int .i64 xs, .int .i64 xt] 70)))
        obtain ⟨o1, o2⟩ := HS2.out.cell (hist_get ruleK (S.take j) hr4) hr4
        have HN := Lib.hid (HS2.out.set r ((cntK ruleK r (S.take j) : Int) + 1))
        rw [hist_step hx (by unfold ruleK; simp) hr4] at HN
        have b0 : (wr.alloc (.cells #[.int .i64 ((r : Int) + 1), .int .i64 xs, .int .i64 xt] 70)).cell? ⟨wr.heap.size, 0, none⟩ = some (.int .i64 ((r : Int) + 1)) := cell_of (heap_alloc_new wr _) rfl
        have hcl := cnt_len ruleK r (S.take j)
        rw [List.length_take] at hcl
        have hjI : (j : Int) < (t : Int) := by omega
        have hr4I : (r : Int) < 4 := by omega
        generalize cntK ruleK r (S.take j) = cn at *
        have hcn : cn ≤ 100 := by omega
        clear hx hcl hcc
        go_upto_region 8 with fail
        clear y1 y2 y3
        generalize wr.alloc (.cells #[.int .i64 ((r : Int) + 1), .int .i64 xs, .int .i64 xt] 70) = w4 at *
        go_wp2_with fail
        exact ⟨⟨j + 1, by omega, by go_num, HN⟩, by simp [intOf]; omega⟩
      · obtain rfl : j = t := by omega
        have HN := Lib.hid (HS.out.ret (hist_len _ _ _))
        rw [List.take_of_length_le (by have := HT.out; omega)] at HN
        go_wp2_with fail
        go_ret2
        exact HN.out
end Go.Proofs.Ytonploneihnekaa
