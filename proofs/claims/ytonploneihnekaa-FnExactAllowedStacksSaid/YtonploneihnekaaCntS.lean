/-
  What spec.CountFindings answers. No statement of the seat by itself.
-/
import Derived.Test.YtonploneihnekaaCntM
import Derived.Test.YtonploneihnekaaFndG
import Derived.StillTailTactics
import Derived.IntWalk
namespace Go.Proofs.Ytonploneihnekaa
open Go.RowKit

theorem make_four (W : World) : ∃ W', (Instr.makeSlice 44 (.int .i64 4) (.int .i64 4)).run Try.prog W = .ok (.slice (some ⟨W.heap.size, 0, none⟩) 4 4) W' ∧
    W'.ownsRow W.heap.size 3 1 (.slice (some ⟨W.heap.size, 0, none⟩) 4 4) 4 (intV (List.replicate 4 0)) ∧ Below W.heap.size W W' := make_ints 4 (by decide) W
theorem FL.at {w : World} {g o n c j : Nat} {S : List Fnd} {s : Fnd} (h : FL w (.slice (some ⟨g, o, none⟩) n c) S) (hs : S[j]? = some s) : FCells w g (o + j * 3) s := by
  obtain ⟨a9, c9, e9, h9⟩ := h
  obtain ⟨g8, o8, e8, -, h8⟩ := h9 (by have := lt_of_get hs; omega)
  injection e9 with e1 e2 e3
  rw [e8] at e1
  cases e1
  exact h8 j s hs
/-- While findings are counted in block b: the yard's box, the findings in blocks from B to hi. -/
def HistS (w wr : World) (y : Value) (b m B hi : Nat) (v : Value) (S : List Fnd) (L : List Int) : Prop :=
  Below w.heap.size w wr ∧ Box1 wr w.heap.size y ∧ wr.ownsRow b 3 1 (.slice (some ⟨b, 0, none⟩) m m) m (intV L) ∧ w.heap.size < b ∧ (b < B ∨ hi ≤ b) ∧ FO wr B hi v S
theorem HistS.below {w wr w' : World} {y v : Value} {b m B hi : Nat} {S : List Fnd} {L : List Int} (h : HistS w wr y b m B hi v S L) (hb : Below wr.heap.size wr w') : HistS w w' y b m B hi v S L :=
  ⟨h.1.trans (hb.mono h.1.size), h.2.1.below hb, row_below h.2.2.1 hb, h.2.2.2.1, h.2.2.2.2.1, h.2.2.2.2.2.below hb⟩
theorem HistS.set {w wr : World} {y v : Value} {b m B hi : Nat} {S : List Fnd} {L : List Int} (h : HistS w wr y b m B hi v S L) (r : Nat) (x : Int) : HistS w (wr.setCell ⟨b, r, none⟩ (.int .i64 x)) y b m B hi v S (L.set r x) := by
  obtain ⟨h1, h2, h3, h4, h5, h6⟩ := h
  obtain ⟨hs, -⟩ := h3.stored r (.int .i64 x)
  rw [intV_set] at hs
  have hsp := span_set (w := wr) (i := r) (Nat.le_refl b) (Nat.lt_succ_self b) (.int .i64 x)
  exact ⟨h1.setCell (p := ⟨b, r, none⟩) (by show w.heap.size ≤ b; omega) _, h2.span hsp (by omega), hs, h4, h5, h6.span hsp (by omega)⟩
theorem HistS.cell {w wr : World} {y v : Value} {b m B hi r : Nat} {S : List Fnd} {L : List Int} {x : Int} (h : HistS w wr y b m B hi v S L) (hr : L[r]? = some x) (hm : r < m) : wr.cell? ⟨b, r, none⟩ = some (.int .i64 x) ∧ wr.frozen? ⟨b, r, none⟩ = false := by
  refine ⟨?_, h.2.2.1.frozenAt r⟩
  rw [h.2.2.1.cellAt r (by omega), intV_get, hr]; rfl
theorem HistS.ret {w wr : World} {y v : Value} {b m B hi : Nat} {S : List Fnd} {L : List Int} (h : HistS w wr y b m B hi v S L) (hL : L.length = m) : RetL w L true (.returned (.tuple #[.slice (some ⟨b, 0, none⟩) m m, .bool true])) wr := by
  refine ⟨some ⟨b, 0, none⟩, m, by rw [hL], ⟨Nat.le_refl _, ?_, fun k hk => ?_⟩, h.1⟩
  · rw [hL]; exact h.2.2.1.mono (by have := h.2.2.2.1; omega)
  · rw [hL] at hk; exact row_lt h.2.2.1 k hk
theorem retL_none {w wr : World} (h : Below w.heap.size w wr) : RetL w [] false (.returned (.tuple #[.slice (some ⟨wr.heap.size, 0, none⟩) 0 0, .bool false])) (wr.alloc (.cells #[] 3)) := by
  refine ⟨some ⟨wr.heap.size, 0, none⟩, 0, rfl, ⟨Nat.le_refl _, ?_, fun k hk => ?_⟩, h.alloc h.size _⟩
  · have := (own_empty wr (.cells #[] 3) 3 rfl).mono h.size
    simpa [intV] using this
  · cases hk; simp

set_option maxRecDepth 100000 in
set_option maxHeartbeats 4000000 in
theorem specCnt_any (v : Value) (Y : List (List Int)) (g n : Nat) (f : Nat → C.Cont) (p : Int) (h1 : Y.length ≤ 1048576) (h2 : tot Y ≤ 1048576) (hn : n ≤ 1048576) (hid : ∀ j, j < n → (f j).id.size ≤ 1048576) (w : World) (h : YdR w v Y) (hc : C.CAt w g 0 n f) :
    Calls Try.prog 29 #[v, .slice (some ⟨g, 0, none⟩) n n, .int .i64 p] w (RetL w (cntR n f Y p) (askF n f Y p)) := by
  obtain ⟨v0, rfl, hv⟩ := h
  have HA : Hid (∀ W, Below w.heap.size w W → Calls Try.prog 40 #[.agg #[v0], .slice (some ⟨g, 0, none⟩) n n, .int .i64 p] W (BoolP W (askF n f Y p))) := Lib.hid fun W hb => l7Asked_any _ Y g n f p h1 h2 hn hid W ⟨_, rfl, hv.below hb⟩ (hc.below hb)
  have HF : Hid (askF n f Y p = true → ∀ W, Below w.heap.size w W → Calls Try.prog 41 #[.agg #[v0], .slice (some ⟨g, 0, none⟩) n n, .int .i64 p] W (AtP W (finR n f Y p))) := Lib.hid fun ha W hb => by rw [finR_yes ha]; exact l7Find_any _ Y g n f p (askF_iff.1 ha).1 h1 h2 hn W ⟨_, rfl, hv.below hb⟩ (hc.below hb)
  have HY : Hid (askF n f Y p = true → cntR n f Y p = hist ruleK 4 (finR n f Y p)) := Lib.hid cntR_yes
  have HN : Hid (askF n f Y p = false → cntR n f Y p = []) := Lib.hid cntR_no
  have HM : Hid (askF n f Y p = true → ∀ (j : Nat) (x : Fnd), (finR n f Y p)[j]? = some x → ∃ r t : Nat, x.1 = (r : Int) + 1 ∧ r < 4 ∧ x.2.1 = (t : Int) ∧ t < 6) := Lib.hid fun h j x hx => finR_mem h hx
  have hS := finR_len n f Y p
  have BA := Lib.hid (Box1.new w v0 31)
  have B0 := Lib.hid (below_one w (.cells #[v0] 31))
  clear hv hc hid h1 h2
  generalize askF n f Y p = q at *
  generalize cntR n f Y p = R at *
  generalize finR n f Y p = S at *
  go_enter Try.func29, Try.ntmps29
  go_wp2_with fail
  generalize w.alloc (.cells #[v0] 31) = w0 at *
  refine (HA.out _ B0.out).mono ?_
  rintro e w1 ⟨rfl, hb⟩
  have A1 := Lib.hid (BA.out.below hb)
  have B1 := Lib.hid (B0.out.trans (hb.mono B0.out.size))
  clear hb
  cases q with
  | false =>
    have HS := Lib.hid (retL_none B1.out)
    rw [← HN.out rfl] at HS
    go_wp2_with fail
    go_ret2
    exact HS.out
  | true =>
    have HF2 := Lib.hid (HF.out rfl)
    have HM2 := Lib.hid (HM.out rfl)
    have hRS := HY.out rfl
    subst hRS
    clear HF HY HN HM
    obtain ⟨W', hmk, hown, hbl⟩ := make_four w1
    have A2 := Lib.hid (A1.out.below hbl)
    have B2 := Lib.hid (B1.out.trans (hbl.mono B1.out.size))
    have HO := Lib.hid hown
    have HBL := Lib.hid hbl
    have HZ : Hid (w1.heap.size < W'.heap.size) := Lib.hid (row_lt hown _ rfl)
    have HZ1 : Hid (w.heap.size < w1.heap.size) := Lib.hid A1.out.1
    have c0 := A2.out.2
    clear hown hbl
    go_wp2_with fail
    clear hmk
    refine (HF2.out _ B2.out).mono ?_
    rintro e w2 ⟨g3, c3, rfl, -, hfo, hb⟩
    have S0 : Hid (HistS w w2 v0 w1.heap.size 4 W'.heap.size w2.heap.size (.slice (some ⟨g3, 0, none⟩) S.length c3) S (hist ruleK 4 (S.take 0))) := Lib.hid (by
      rw [List.take_zero, hist_nil]
      exact ⟨B2.out.trans (hb.mono B2.out.size), A2.out.below hb, row_below HO.out hb, HZ1.out, .inl HZ.out, hfo⟩)
    obtain ⟨t, ht⟩ : ∃ t, S.length = t := ⟨_, rfl⟩
    have HT := Lib.hid ht
    rw [ht] at S0 hS ⊢
    clear hb hfo ht c0
    generalize w1.heap.size = bo at *
    generalize W'.heap.size = Bf at *
    generalize w2.heap.size = hif at *
    go_wp2_with fail
    go_loopw [10] (fun i wr => ∃ j : Nat, j ≤ t ∧ i = .int .i64 j ∧ Hid (HistS w wr v0 bo 4 Bf hif (.slice (some ⟨g3, 0, none⟩) t c3) S (hist ruleK 4 (S.take j)))) (fun i _ => t - (intOf i).toNat)
    case atStart => exact ⟨0, Nat.zero_le _, rfl, S0⟩
    case round =>
      obtain ⟨j, hj, rfl, HS⟩ := hrel
      by_cases hlt : j < t
      · obtain ⟨x, hx⟩ := get_at HT.out hlt
        obtain ⟨r, k, hr, hr4, -, -⟩ := HM2.out j x hx
        obtain ⟨x1, -, -⟩ := HS.out.2.2.2.2.2.read.at hx
        rw [hr] at x1
        obtain ⟨o1, o2⟩ := HS.out.cell (hist_get ruleK (S.take j) hr4) hr4
        have HSd := HS.out.below (show Below wr.heap.size wr wr.drew from below_drewN (Below.refl _ _) 1)
        have HN := Lib.hid (HSd.set r ((cntK ruleK r (S.take j) : Int) + 1))
        rw [hist_step hx (by unfold ruleK; omega) hr4] at HN
        have HP := Lib.hid (HSd.cell (hist_get ruleK (S.take j) hr4) hr4)
        clear HSd
        have hcl := cnt_len ruleK r (S.take j)
        rw [List.length_take] at hcl
        have hjI : (j : Int) < (t : Int) := by omega
        have hr4I : (r : Int) < 4 := by omega
        generalize cntK ruleK r (S.take j) = cn at *
        have hcn : cn ≤ 100 := by omega
        simp only [Nat.zero_add] at x1
        clear hx hr hcl
        go_wp2_with fail
        have hw1 : IntKind.i64.wrap ((r : Int) + 1 - 1) = (r : Int) := by rw [Int.add_sub_cancel]; exact IntWalk.i64_in _ (by omega)
        have hw2 : IntKind.i64.wrap (r : Int) = (r : Int) := IntWalk.i64_in _ (by omega)
        have hw3 : IntKind.i64.wrap ((cn : Int) + 1) = (cn : Int) + 1 := IntWalk.i64_in _ (by omega)
        go_still_tail 18, (by kernel_rfl)
        clear hw1 hw2 hw3
        change wpList _ _ _ _ _ wr.drew
        generalize wr.drew = w4 at *
        obtain ⟨p1, p2⟩ := HP.out
        clear x1 o1 o2
        go_wp2_with fail
        exact ⟨⟨j + 1, by omega, by go_num, HN⟩, by simp [intOf]; omega⟩
      · obtain rfl : j = t := by omega
        have HN := Lib.hid (HS.out.ret (hist_len _ _ _))
        rw [List.take_of_length_le (by have := HT.out; omega)] at HN
        go_wp2_with fail
        go_ret2
        exact HN.out
end Go.Proofs.Ytonploneihnekaa
