/-
  What impl.WorstStack answers. No statement of the seat by itself.
-/
import Derived.Test.YtonploneihnekaaWorS
import Derived.Test.YtonploneihnekaaCntI
import Derived.Test.YtonploneihnekaaLaidMax
import Derived.Test.YtonploneihnekaaLaidIx
namespace Go.Proofs.Ytonploneihnekaa
open Go.RowKit

theorem wor_eq (c : Nat → Int) (m : Nat) (hm : 0 < m) (h6 : m ≤ 6) (h0 : ∀ i, 0 ≤ c i) (hz : ∀ i, m ≤ i → c i = 0) : wst c m = (Lib.idxOf ((List.range 6).map c) (Lib.maxOf ((List.range 6).map c)), Lib.maxOf ((List.range 6).map c)) := by
  have hg : ∀ j, j < 6 → ((List.range 6).map c)[j]? = some (c j) := fun j hj => by simp [hj]
  have hl : ((List.range 6).map c).length = 6 := by simp
  obtain ⟨b, h1, h2, h3, h4⟩ := wst_is c h0 m hm
  obtain ⟨k1, j, k2⟩ := max_is ((List.range 6).map c) (by rw [hl]; decide)
  have hj6 : j < 6 := by have := lt_of_get k2; rw [hl] at this; exact this
  have e1 : c b ≤ Lib.maxOf ((List.range 6).map c) := k1 b _ (hg b (by omega))
  have e2 : c j = Lib.maxOf ((List.range 6).map c) := by
    have := k2
    rw [hg j hj6] at this
    exact Option.some.inj this
  have e3 : c j ≤ c b := by
    by_cases e : j < m
    · exact h3 j e
    · rw [hz j (by omega)]; exact h0 b
  have e4 : Lib.maxOf ((List.range 6).map c) = c b := by omega
  have hd : ∀ i, i < 6 → ((List.range 6).map c).getD i 0 = c i := fun i hi => by rw [List.getD, hg i hi]; rfl
  rw [h1, e4]
  have := Lib.idxFrom_hit (c b) ((List.range 6).map c) b 0 (by rw [hl]; omega) (hd b (by omega)) (fun i hi => by
    rw [hd i (by omega)]
    have := h4 i hi
    omega)
  rw [show Lib.idxOf ((List.range 6).map c) (c b) = Lib.idxFrom ((List.range 6).map c) (c b) 0 from rfl, this, Nat.zero_add]
theorem cnt_far {n : Nat} {f : Nat → C.Cont} {Y : List (List Int)} {p : Int} (h : askF n f Y p = true) {i : Nat} (hi : Y.length ≤ i) : cntK stackK i (finR n f Y p) = 0 := by
  rw [finR_yes h]
  unfold cntK
  rw [List.countP_eq_zero]
  intro x hx
  have := yF_mem hx
  simp only [decide_eq_true_eq]
  unfold stackK
  omega
theorem worR_is {n : Nat} {f : Nat → C.Cont} {Y : List (List Int)} {p : Int} (h : askF n f Y p = true) : worR n f Y p = (Lib.idxOf (hist stackK 6 (finR n f Y p)) (Lib.maxOf (hist stackK 6 (finR n f Y p))), Lib.maxOf (hist stackK 6 (finR n f Y p))) := by
  have hg := (goodY_iff.1 (stF_iff.1 (askF_iff.1 h).1).1)
  rw [worR_yes h]
  exact wor_eq (fun i => (cntK stackK i (finR n f Y p) : Int)) Y.length hg.1 hg.2.1 (fun i => Int.natCast_nonneg _) (fun i hi => by rw [cnt_far h hi]; rfl)

theorem six_noughts : #[Value.int .i64 0, .int .i64 0, .int .i64 0, .int .i64 0, .int .i64 0, .int .i64 0] = (intV (hist stackK 6 [])).toArray := by
  rw [hist_nil]; rfl
/-- While findings are counted in the array at block b. -/
def ArrS (w wr : World) (y : Value) (b B hi : Nat) (v : Value) (S : List Fnd) (L : List Int) : Prop :=
  Below w.heap.size w wr ∧ Box1 wr w.heap.size y ∧ wr.heap[b]? = some (.cells (intV L).toArray 82 (0, 0)) ∧ w.heap.size < b ∧ hi ≤ b ∧ FO wr B hi v S
theorem ArrS.below {w wr w' : World} {y v : Value} {b B hi : Nat} {S : List Fnd} {L : List Int} (h : ArrS w wr y b B hi v S L) (hb : Below wr.heap.size wr w') : ArrS w w' y b B hi v S L :=
  ⟨h.1.trans (hb.mono h.1.size), h.2.1.below hb, blk_below h.2.2.1 hb, h.2.2.2.1, h.2.2.2.2.1, h.2.2.2.2.2.below hb⟩
theorem ArrS.set {w wr : World} {y v : Value} {b B hi : Nat} {S : List Fnd} {L : List Int} (h : ArrS w wr y b B hi v S L) (r : Nat) (x : Int) : ArrS w (wr.setCell ⟨b, r, none⟩ (.int .i64 x)) y b B hi v S (L.set r x) := by
  obtain ⟨h1, h2, h3, h4, h5, h6⟩ := h
  have hsp := span_set (w := wr) (i := r) (Nat.le_refl b) (Nat.lt_succ_self b) (.int .i64 x)
  refine ⟨h1.setCell (p := ⟨b, r, none⟩) (by show w.heap.size ≤ b; omega) _, h2.span hsp (by omega), ?_, h4, h5, h6.span hsp (by omega)⟩
  rw [Lib.heap_setCell_same h3, ← intV_set]
  simp
theorem ArrS.cell {w wr : World} {y v : Value} {b B hi r : Nat} {S : List Fnd} {L : List Int} {x : Int} (h : ArrS w wr y b B hi v S L) (hr : L[r]? = some x) : wr.cell? ⟨b, r, none⟩ = some (.int .i64 x) ∧ wr.frozen? ⟨b, r, none⟩ = false := by
  refine ⟨cell_of h.2.2.1 ?_, free_of h.2.2.1⟩
  simp [intV_get, hr]
theorem ArrS.cells {w wr : World} {y v : Value} {b B hi : Nat} {S : List Fnd} {L : List Int} (h : ArrS w wr y b B hi v S L) : ∀ j, j < L.length → wr.cell? ⟨b, 0 + j, none⟩ = some (.int .i64 (L.getD j 0)) := fun j hj => by
  rw [Nat.zero_add, List.getD, List.getElem?_eq_getElem hj]
  exact (h.cell (List.getElem?_eq_getElem hj)).1
theorem maxI_any (b : Nat) (zs : List Int) (w : World) (hz : zs.length = 6) (hc : ∀ j, j < zs.length → w.cell? ⟨b, 0 + j, none⟩ = some (.int .i64 (zs.getD j 0))) :
    Calls Try.prog 56 #[.slice (some ⟨b, 0, none⟩) 6 6] w fun e w' => e = .returned (.int .i64 (Lib.maxOf zs)) ∧ w' = w := by
  have := AnyG.slices_Max_int Try.laysMax b 0 6 6 zs w (by decide) (by omega) (by decide) hc
  rw [List.take_of_length_le (by omega)] at this
  exact this
theorem ixI_any (b : Nat) (zs : List Int) (x : Int) (w : World) (hz : zs.length = 6) (hc : ∀ j, j < zs.length → w.cell? ⟨b, 0 + j, none⟩ = some (.int .i64 (zs.getD j 0))) :
    Calls Try.prog 57 #[.slice (some ⟨b, 0, none⟩) 6 6, .int .i64 x] w fun e w' => e = .returned (.int .i64 (Lib.idxOf zs x)) ∧ w' = w := by
  have := AnyG.slices_Index_int Try.laysIx b 0 6 6 zs x w (by omega) (by decide) hc
  rw [List.take_of_length_le (by omega)] at this
  exact this

set_option maxRecDepth 100000 in
set_option maxHeartbeats 4000000 in
theorem implWor_any (v : Value) (Y : List (List Int)) (g n : Nat) (f : Nat → C.Cont) (p : Int) (h1 : Y.length ≤ 1048576) (h2 : tot Y ≤ 1048576) (hn : n ≤ 1048576) (hid : ∀ j, j < n → (f j).id.size ≤ 1048576) (w : World) (h : YdR w v Y) (hc : C.CAt w g 0 n f) :
    Calls Try.prog 32 #[v, .slice (some ⟨g, 0, none⟩) n n, .int .i64 p] w (RetP w (.tuple #[.int .i64 (worR n f Y p).1, .int .i64 (worR n f Y p).2, .bool (askF n f Y p)])) := by
  obtain ⟨v0, rfl, hv⟩ := h
  have HA : Hid (∀ W, Below w.heap.size w W → Calls Try.prog 14 #[.agg #[v0], .slice (some ⟨g, 0, none⟩) n n, .int .i64 p] W (RetF W (finR n f Y p) (askF n f Y p))) := Lib.hid fun W hb => implFnd_any _ Y g n f p h1 h2 hn hid W ⟨_, rfl, hv.below hb⟩ (hc.below hb)
  have HY : Hid (askF n f Y p = true → worR n f Y p = (Lib.idxOf (hist stackK 6 (finR n f Y p)) (Lib.maxOf (hist stackK 6 (finR n f Y p))), Lib.maxOf (hist stackK 6 (finR n f Y p)))) := Lib.hid worR_is
  have HN : Hid (askF n f Y p = false → worR n f Y p = (0, 0)) := Lib.hid worR_no
  have HM : Hid (askF n f Y p = true → ∀ (j : Nat) (x : Fnd), (finR n f Y p)[j]? = some x → ∃ r t : Nat, x.1 = (r : Int) + 1 ∧ r < 4 ∧ x.2.1 = (t : Int) ∧ t < 6) := Lib.hid fun h j x hx => finR_mem h hx
  have hS := finR_len n f Y p
  have BA := Lib.hid (Box1.new w v0 31)
  have B0 := Lib.hid (below_one w (.cells #[v0] 31))
  clear hv hc hid h1 h2
  generalize askF n f Y p = q at *
  generalize worR n f Y p = R at *
  generalize finR n f Y p = S at *
  go_enter Try.func32, Try.ntmps32
  go_wp2_with fail
  generalize w.alloc (.cells #[v0] 31) = w0 at *
  refine (HA.out _ B0.out).mono ?_
  rintro e w1 ⟨a3, c3, rfl, hfo, hb⟩
  have A1 := Lib.hid (BA.out.below hb)
  have B1 := Lib.hid (B0.out.trans (hb.mono B0.out.size))
  have HFo := Lib.hid hfo
  clear hb hfo
  cases q with
  | false =>
    have HE := Lib.hid (HN.out rfl)
    go_wp2_with fail
    go_ret3
    exact ⟨by rw [HE.out]; rfl, B1.out⟩
  | true =>
    have HM2 := Lib.hid (HM.out rfl)
    have HE := Lib.hid (HY.out rfl)
    clear HY HN HM HA
    have S0 : Hid (ArrS w (w1.alloc (.cells #[.int .i64 0, .int .i64 0, .int .i64 0, .int .i64 0, .int .i64 0, .int .i64 0] 82)) v0 w1.heap.size w0.heap.size w1.heap.size (.slice a3 S.length c3) S (hist stackK 6 (S.take 0))) := Lib.hid (by
      have hbl := below_one w1 (.cells #[.int .i64 0, .int .i64 0, .int .i64 0, .int .i64 0, .int .i64 0, .int .i64 0] 82)
      refine ⟨B1.out.trans (hbl.mono B1.out.size), A1.out.below hbl, ?_, A1.out.1, Nat.le_refl _, HFo.out.below hbl⟩
      rw [List.take_zero, ← six_noughts]
      exact heap_alloc_new w1 _)
    obtain ⟨t, ht⟩ : ∃ t, S.length = t := ⟨_, rfl⟩
    have HT := Lib.hid ht
    rw [ht] at S0 hS HFo ⊢
    clear ht
    go_upto_region 5 with fail
    generalize w1.alloc (.cells #[.int .i64 0, .int .i64 0, .int .i64 0, .int .i64 0, .int .i64 0, .int .i64 0] 82) = w2 at *
    generalize w1.heap.size = bo at *
    generalize w0.heap.size = Bf at *
    go_wp2_with fail
    go_loopw [26] (fun i wr => ∃ j : Nat, j ≤ t ∧ i = .int .i64 j ∧ Hid (ArrS w wr v0 bo Bf bo (.slice a3 t c3) S (hist stackK 6 (S.take j)))) (fun i _ => t - (intOf i).toNat)
    case atStart => exact ⟨0, Nat.zero_le _, rfl, S0⟩
    case round =>
      obtain ⟨j, hj, rfl, HS⟩ := hrel
      by_cases hlt : j < t
      · obtain ⟨x, hx⟩ := get_at HT.out hlt
        obtain ⟨-, k, -, -, hr, hr4⟩ := HM2.out j x hx
        obtain ⟨g3, o3, rfl, hg3, hcc⟩ := HS.out.2.2.2.2.2.read.form2 (by have := HT.out; omega)
        obtain ⟨y1, y2, y3⟩ := hcc j x hx
        obtain ⟨xr, xs, xt⟩ := x
        simp only at hr y1 y2 y3
        subst hr
        have HS2 := Lib.hid (HS.out.below (below_one wr (.cells #[.int .i64 xr, .int .i64 (k : Int), .int .i64 xt] 70)))
        obtain ⟨o1, o2⟩ := HS2.out.cell (hist_get stackK (S.take j) hr4)
        have HN := Lib.hid (HS2.out.set k ((cntK stackK k (S.take j) : Int) + 1))
        rw [hist_step hx (by unfold stackK; rfl) hr4] at HN
        have b0 : (wr.alloc (.cells #[.int .i64 xr, .int .i64 (k : Int), .int .i64 xt] 70)).cell? ⟨wr.heap.size, 1, none⟩ = some (.int .i64 (k : Int)) := cell_of (heap_alloc_new wr _) rfl
        have hcl := cnt_len stackK k (S.take j)
        rw [List.length_take] at hcl
        have hjI : (j : Int) < (t : Int) := by omega
        have hr4I : (k : Int) < 6 := by omega
        generalize cntK stackK k (S.take j) = cn at *
        have hcn : cn ≤ 100 := by omega
        clear hx hcl hcc
        go_upto_region 8 with fail
        clear y1 y2 y3
        generalize wr.alloc (.cells #[.int .i64 xr, .int .i64 (k : Int), .int .i64 xt] 70) = w4 at *
        go_wp2_with fail
        exact ⟨⟨j + 1, by omega, by go_num, HN⟩, by simp [intOf]; omega⟩
      · obtain rfl : j = t := by omega
        have HN := HS.out
        rw [List.take_of_length_le (by have := HT.out; omega)] at HN
        have HB := Lib.hid HN.1
        have HMx := Lib.hid (maxI_any bo (hist stackK 6 S) wr (hist_len _ _ _) HN.cells)
        have HIx := Lib.hid (fun x => ixI_any bo (hist stackK 6 S) x wr (hist_len _ _ _) HN.cells)
        clear HN
        generalize hist stackK 6 S = zs at *
        go_wp2_with fail
        refine HMx.out.mono ?_
        rintro e w5 ⟨rfl, rfl⟩
        go_wp2_with fail
        refine (HIx.out _).mono ?_
        rintro e w6 ⟨rfl, rfl⟩
        go_wp2_with fail
        go_ret3
        exact ⟨by rw [HE.out]; rfl, HB.out⟩
end Go.Proofs.Ytonploneihnekaa
