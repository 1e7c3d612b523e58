/-
  What impl.RunSteps returns. No statement of the seat by itself.
-/
import Derived.Test.YtmkejgbbgknalaaRunT
import Derived.Test.YtmkejgbbgknalaaStepI
namespace Go.Proofs.Ytmkejgbbgknalaa
open Go.RowKit

/-- While steps are run by impl: the yard lies in box q. -/
def RunSI (w wr : World) (q : Nat) (Y : List (List Int)) (S : List (Int × Int)) (k : Nat) (ak : Option Addr) (ck : Nat) (u : Value) (Yk : List (List Int)) (D : List Int) : Prop :=
  Below w.heap.size w wr ∧ wr.heap[w.heap.size + 1]? = some (.cells #[.slice none 0 0] 28 (0, 0)) ∧ wr.heap[q]? = some (.cells #[.slice ak Yk.length ck] 28 (0, 0)) ∧
  (∃ B hi, w.heap.size + 2 < B ∧ (hi ≤ q ∨ q < B) ∧ OwnY wr B hi (.slice ak Yk.length ck) Yk ∧ ∀ b, u.ownBlock = some b → b < B ∨ hi ≤ b) ∧
  wr.ownsRow (w.heap.size + 2) 3 1 u D.length (intV D) ∧ goodY Yk = true ∧ (D.length ≤ k ∧ w.heap.size + 2 < q ∧ ∀ b, u.ownBlock = some b → b ≠ q) ∧ runO Yk (S.drop k) D = runO Y S []
theorem RunSI.below {w wr w' : World} {q : Nat} {Y : List (List Int)} {S : List (Int × Int)} {k : Nat} {ak : Option Addr} {ck : Nat} {u : Value} {Yk : List (List Int)} {D : List Int} (h : RunSI w wr q Y S k ak ck u Yk D) (hb : Below wr.heap.size wr w') : RunSI w w' q Y S k ak ck u Yk D := by
  obtain ⟨h1, h2, h3, ⟨B, hi, b1, b2, b3, b4⟩, h5, h7, h8, h9⟩ := h
  have l2 := (Array.getElem?_eq_some_iff.1 h2).1
  have l3 := (Array.getElem?_eq_some_iff.1 h3).1
  exact ⟨h1.trans (hb.mono h1.size), (hb.block _ l2).trans h2, (hb.block _ l3).trans h3, ⟨B, hi, b1, b2, b3.below hb, b4⟩, row_below h5 hb, h7, h8, h9⟩
/-- What holds when the next yard was put into box q. -/
def RunPI (w wr : World) (q : Nat) (a : Option Addr) (c : Nat) (u : Value) (Z : List (List Int)) (D : List Int) : Prop :=
  Below w.heap.size w wr ∧ wr.heap[w.heap.size + 1]? = some (.cells #[.slice none 0 0] 28 (0, 0)) ∧ wr.heap[q]? = some (.cells #[.slice a Z.length c] 28 (0, 0)) ∧
  (∃ B hi, w.heap.size + 2 < B ∧ (hi ≤ q ∨ q < B) ∧ OwnY wr B hi (.slice a Z.length c) Z ∧ ∀ b, u.ownBlock = some b → b < B ∨ hi ≤ b) ∧
  wr.ownsRow (w.heap.size + 2) 3 1 u D.length (intV D) ∧ w.heap.size + 2 < q ∧ ∀ b, u.ownBlock = some b → b ≠ q
theorem RunSI.put {w wr wc : World} {q : Nat} {Y : List (List Int)} {S : List (Int × Int)} {k : Nat} {ak a2 : Option Addr} {ck c2 B hi : Nat} {u : Value} {Yk Z : List (List Int)} {D : List Int} (h : RunSI w wr q Y S k ak ck u Yk D) (hb : Below wr.heap.size wr wc) (hB : wr.heap.size ≤ B) (ho : OwnY wc B hi (.slice a2 Z.length c2) Z) :
    RunPI w (wc.setCell ⟨q, 0, none⟩ (.slice a2 Z.length c2)) q a2 c2 u Z D := by
  have hlu := fun b hb => row_lt h.2.2.2.2.1 b hb
  have hlq := (Array.getElem?_eq_some_iff.1 h.2.2.1).1
  obtain ⟨h1, h2, h3, -, h5, h7, ⟨h8, h10, h11⟩, h9⟩ := h.below hb
  refine ⟨h1.setCell (p := ⟨q, 0, none⟩) (by show w.heap.size ≤ q; omega) _, ?_, ?_, ⟨B, hi, by omega, .inr (by omega), ho.span (span_set (Nat.le_refl q) (Nat.lt_succ_self _) _) (.inr (by omega)), fun b hbu => .inl (by have := hlu b hbu; omega)⟩, ?_, h10, h11⟩
  · rw [Below.heap_setCell wc ⟨q, 0, none⟩ _ _ (by show w.heap.size + 1 ≠ q; omega)]; exact h2
  · rw [Lib.heap_setCell_same h3]; simp
  · exact own_span h5 (span_set (Nat.le_refl q) (Nat.lt_succ_self _) _) (fun b hb => by have := h11 b hb; omega)
theorem RunPI.append {w w7 w4 : World} {q : Nat} {a : Option Addr} {c : Nat} {u v' : Value} {Z : List (List Int)} {D : List Int} {b : Int} (h : RunPI w w7 q a c u Z D) (o : Obj) (ho : w4.ownsRow (w.heap.size + 2) 3 1 v' (D.length + 1) (intV D ++ [.int .i64 b])) (hg : (w7.alloc o).grownBy w4 u.ownBlock) (hat : v'.ownBlock = u.ownBlock ∨ v'.ownBlock = some (w7.alloc o).heap.size) :
    RunPI w w4 q a c v' Z (D ++ [b]) := by
  obtain ⟨h1, h2, h3, ⟨B, hi, b1, b2, b3, b4⟩, h5, h10, h11⟩ := h
  have hb := below_one w7 o
  have l2 := (Array.getElem?_eq_some_iff.1 h2).1
  have l3 := (Array.getElem?_eq_some_iff.1 h3).1
  have hz : (w7.alloc o).heap.size = w7.heap.size + 1 := by simp
  have hyo := (show YO (w7.alloc o) 0 (.slice a Z.length c) Z u from ⟨B, hi, by omega, b3.below hb, b4⟩)
  have b3' := b3.1
  refine ⟨(h1.trans (hb.mono h1.size)).grown hg (by have := h1.size; omega) (fun j e => by have := row_base h5 j e; omega), ?_, ?_, ⟨B, hi, b1, b2, owny_apart (b3.below hb) hg b4, fun b hbv => ?_⟩, ?_, h10, fun b hbv => ?_⟩
  · exact (hg.block _ (by omega) (fun e => by have := row_base h5 _ e.symm; omega)).trans ((hb.block _ l2).trans h2)
  · exact (hg.block _ (by omega) (fun e => h11 _ e.symm rfl)).trans ((hb.block _ l3).trans h3)
  · rcases hat with e | e
    · exact b4 b (by rw [← e]; exact hbv)
    · rw [e] at hbv; cases hbv; exact .inr (by omega)
  · have e : intV D ++ [.int .i64 b] = intV (D ++ [b]) := by simp [intV]
    rw [e] at ho
    simpa using ho
  · rcases hat with e | e
    · exact h11 b (by rw [← e]; exact hbv)
    · rw [e] at hbv; cases hbv; omega

set_option maxRecDepth 100000 in
set_option maxHeartbeats 8000000 in
theorem implRun_any (v vs : Value) (Y : List (List Int)) (S : List (Int × Int)) (h1 : Y.length ≤ 1048576) (h2 : tot Y ≤ 1048576) (h3 : S.length ≤ 1048576) (w : World) (h : YdR w v Y) (hs : SL w vs S) :
    Calls Try.prog 19 #[v, vs] w (RetYL w (runY Y S) (runD Y S) (runB Y S)) := by
  obtain ⟨f3, hi3, hz0, hz1, hz2⟩ := info_is info3
  obtain ⟨v0, rfl, hv⟩ := h
  have HV := Lib.hid hv
  have H1 := Lib.hid h1
  have H2 := Lib.hid h2
  obtain ⟨sa, sc, rfl, hsc⟩ := hs
  have HSC := Lib.hid hsc
  obtain ⟨n, hn⟩ : ∃ n, S.length = n := ⟨_, rfl⟩
  have HN := Lib.hid hn
  rw [hn] at h3 ⊢
  have F0 := Lib.hid ((Fr2.start w v0).below (below_one _ (.cells #[] 3)))
  have c0 := F0.out.c
  have HE0 := own_empty ((w.alloc (.cells #[v0] 28)).alloc (.cells #[.slice none 0 0] 28)) (.cells #[] 3) 3 rfl
  rw [show ((w.alloc (.cells #[v0] 28)).alloc (.cells #[.slice none 0 0] 28)).heap.size = w.heap.size + 1 + 1 by simp] at HE0
  have HE1 := Lib.hid HE0
  have HG : Hid (∀ W, Below w.heap.size w W → Calls Try.prog 66 #[.agg #[v0]] W (BoolP W (goodY Y))) := Lib.hid fun W hb => good_impl _ Y H1.out H2.out W ⟨v0, rfl, HV.out.below hb⟩
  clear hv hsc h1 h2 hn HE0
  by_cases hgn : goodY Y = true ∧ n ≤ 60
  · have HA : Hid (runA Y S = runO Y S []) := Lib.hid (by unfold runA; rw [if_pos (by rw [HN.out]; exact hgn)])
    obtain ⟨hg, hn60⟩ := hgn
    rw [hg] at HG
    have HGd := Lib.hid hg
    clear hg
    have hn60i : ¬ (60 : Int) < (n : Int) := by omega
    go_enter Try.func19, Try.ntmps19
    go_wp2_with fail
    generalize ((w.alloc (.cells #[v0] 28)).alloc (.cells #[.slice none 0 0] 28)).alloc (.cells #[] 3) = W at *
    refine (HG.out _ F0.out.bl).mono ?_
    rintro e w1 ⟨rfl, hb⟩
    have F1 := Lib.hid (F0.out.below hb)
    have E1 := Lib.hid (row_below HE1.out hb)
    have Z1 := Lib.hid (Nat.le_trans (row_lt HE1.out _ rfl) hb.size)
    clear hb c0
    have c0 := F1.out.c
    go_wp2_with fail
    refine (copyYard_any _ Y H1.out H2.out _ ⟨v0, rfl, HV.out.below F1.out.bl⟩).mono ?_
    rintro e w2 ⟨a2, c2, rfl, ho, hb⟩
    have F2 := Lib.hid (F1.out.below hb)
    have hb3 := below_one w2 (.cells #[.slice a2 Y.length c2] 28)
    have R0 : Hid (RunSI w (w2.alloc (.cells #[.slice a2 Y.length c2] 28)) w2.heap.size Y S 0 a2 c2 (.slice (some ⟨w.heap.size + 1 + 1, 0, none⟩) 0 0) Y []) := Lib.hid (by
      have F3 := F2.out.below hb3
      have hz1 : w.heap.size + 1 + 1 < w1.heap.size := Z1.out
      have hz2 := hb.size
      have hbu : ∀ b, (Value.slice (some ⟨w.heap.size + 1 + 1, 0, none⟩) 0 0).ownBlock = some b → w.heap.size + 1 + 1 = b := fun b e => by cases e; rfl
      refine ⟨F3.bl, F3.r, heap_alloc_new w2 _, ⟨_, _, by omega, .inl (Nat.le_refl _), ho.below hb3, fun b e => .inl (by have := hbu b e; omega)⟩, ?_, HGd.out, ⟨by simp, by omega, fun b e => by have := hbu b e; omega⟩, by simp⟩
      have := row_below (row_below E1.out hb) hb3
      simpa [intV] using this)
    clear hb hb3 ho c0
    go_wp2_with fail
    generalize w2.alloc (.cells #[.slice a2 Y.length c2] 28) = w3 at *
    generalize w2.heap.size = q at *
    go_loopw [7, 10, 11, 12, 28] (fun u _ _ _ i wr => ∃ (k : Nat) (ak : Option Addr) (ck : Nat) (Yk : List (List Int)) (D : List Int), k ≤ n ∧ i = .int .i64 k ∧ Hid (RunSI w wr q Y S k ak ck u Yk D)) (fun _ _ _ _ i _ => n - (intOf i).toNat)
    case atStart => exact ⟨0, a2, c2, Y, [], Nat.zero_le _, rfl, R0⟩
    case round =>
      obtain ⟨k, ak, ck, Yk, D, hk, rfl, HR⟩ := hrel
      by_cases hlt : k < n
      · obtain ⟨g, off, rfl, hg, hcc⟩ := HSC.out (by have := HN.out; omega)
        obtain ⟨s, hs⟩ := get_at HN.out hlt
        obtain ⟨b, t⟩ := s
        obtain ⟨d1, d2⟩ := hcc k _ hs
        obtain ⟨q1, q2, q3, q4, q5, q7, q8, q9⟩ := HR.out
        have s1 : wr.cell? ⟨g, off + k * 2, none⟩ = some (.int .i64 b) := (q1.cell (p := ⟨g, off + k * 2, none⟩) hg).trans d1
        have s2 : wr.cell? ⟨g, off + k * 2 + 1, none⟩ = some (.int .i64 t) := (q1.cell (p := ⟨g, off + k * 2 + 1, none⟩) hg).trans d2
        have HE := Lib.hid (runO_drop (Y := Yk) (D := D) hs)
        have hsm := good_small q7
        obtain ⟨B4, hi4, -, -, o4, -⟩ := q4
        have HZ : Hid (∀ W, Below wr.heap.size wr W → Calls Try.prog 68 #[.agg #[.slice ak Yk.length ck], .agg #[.int .i64 b, .int .i64 t]] W (RetY W (stepR Yk b t) (stepOk Yk b t))) := Lib.hid fun W hb => implStep_any _ Yk b t (by omega) (by omega) W ⟨_, rfl, o4.yl.below hb⟩
        have HG := Lib.hid (fun h => step_good (Y := Yk) (b := b) (t := t) h)
        have hb1 := below_one wr (.cells #[.int .i64 b, .int .i64 t] 80)
        have c8 : (wr.alloc (.cells #[.int .i64 b, .int .i64 t] 80)).cell? ⟨q, 0, none⟩ = some (.slice ak Yk.length ck) := (hb1.cell (p := ⟨q, 0, none⟩) (Array.getElem?_eq_some_iff.1 q3).1).trans (cell_of q3 rfl)
        have HB1 := Lib.hid hb1
        have hbs : Hid ((wr.alloc (.cells #[.int .i64 b, .int .i64 t] 80)).heap[wr.heap.size]? = some (.cells #[.int .i64 b, .int .i64 t] 80 (0, 0))) := Lib.hid (heap_alloc_new wr _)
        generalize hnk : Yk.length = nk at *
        obtain ⟨Z, hZe⟩ : ∃ Z, stepR Yk b t = Z := ⟨_, rfl⟩
        rw [hZe] at HZ HE HG
        obtain ⟨ok, hoe⟩ : ∃ ok, stepOk Yk b t = ok := ⟨_, rfl⟩
        rw [hoe] at HZ HE HG
        have HD := Lib.hid q8.1
        have hkI : (k : Int) < (n : Int) := by omega
        clear q1 q2 q3 q5 q7 q8 q9 hs hcc d1 d2 hZe hoe hsm hg o4 hb1
        go_wp2_with fail
        refine (HZ.out _ HB1.out).mono ?_
        rintro e w5 ⟨a9, c9, rfl, ho, hb⟩
        have BR := Lib.hid (HB1.out.trans (hb.mono HB1.out.size))
        have hb6 := below_one w5 (.cells #[.slice a9 Z.length c9] 28)
        have BR6 := Lib.hid (BR.out.trans (hb6.mono BR.out.size))
        have O6 := Lib.hid (ho.below hb6)
        have y11 : (w5.alloc (.cells #[.slice a9 Z.length c9] 28)).cell? ⟨w5.heap.size, 0, none⟩ = some (.slice a9 Z.length c9) := cell_of (heap_alloc_new w5 _) rfl
        have st5 := (hb6.block wr.heap.size (Nat.lt_of_lt_of_le (by simp) hb.size)).trans ((hb.block wr.heap.size (by simp)).trans hbs.out)
        have ST5 := Lib.hid st5
        have hlw : wr.heap.size ≤ (wr.alloc (.cells #[.int .i64 b, .int .i64 t] 80)).heap.size := by simp
        have HLW := Lib.hid hlw
        have R6 := Lib.hid (HR.out.below BR6.out)
        have j8 := R6.out.2.2.1
        have y8 : (w5.alloc (.cells #[.slice a9 Z.length c9] 28)).cell? ⟨q, 0, none⟩ = some (.slice ak Yk.length ck) := cell_of j8 rfl
        have f8 : ∀ i, (w5.alloc (.cells #[.slice a9 Z.length c9] 28)).frozen? ⟨q, i, none⟩ = false := fun _ => free_of j8
        clear hb ho hb6 st5 j8 c8 s1 s2 hlw
        cases ok with
        | false =>
          have HQ := Lib.hid (run_no (Y := Y) (S := S) (by rw [HA.out, ← HR.out.2.2.2.2.2.2.2, HE.out]; rfl))
          have R7 := Lib.hid (R6.out.below (below_one _ (.cells #[] 3)))
          have hoe := Lib.hid (own_empty (w5.alloc (.cells #[.slice a9 Z.length c9] 28)) (.cells #[] 3) 3 rfl)
          have HW := Lib.hid R6.out.1.size
          have HW2 := Lib.hid (Array.getElem?_eq_some_iff.1 R6.out.2.1).1
          have z0 : ((w5.alloc (.cells #[.slice a9 Z.length c9] 28)).alloc (.cells #[] 3)).cell? ⟨w.heap.size + 1, 0, none⟩ = some (.slice none 0 0) := cell_of R7.out.2.1 rfl
          have f0 : ∀ i, ((w5.alloc (.cells #[.slice a9 Z.length c9] 28)).alloc (.cells #[] 3)).frozen? ⟨w.heap.size + 1, i, none⟩ = false := fun _ => free_of R7.out.2.1
          have e7 := World.cell?_setCell_same _ _ (.slice none 0 0) z0
          clear y8 f8 y11
          go_wp2_with fail
          refine bodyPost_ret (v := .tuple #[.agg #[.slice none 0 0], .slice (some ⟨(w5.alloc (.cells #[.slice a9 Z.length c9] 28)).heap.size, 0, none⟩) 0 0, .bool false]) (by simp [results, Try.results19, go_sem, e7]) rfl ?_
          generalize w5.alloc (.cells #[.slice a9 Z.length c9] 28) = w6 at *
          rw [HQ.out.1, HQ.out.2.1, HQ.out.2.2]
          refine ⟨none, 0, _, w.heap.size, w.heap.size, rfl, Nat.le_refl _, OwnY.nil _ _ _ (by have := R7.out.1.size; simpa using this), ?_, fun b e => .inr (by cases e; exact HW.out), R7.out.1.setCell (p := ⟨w.heap.size + 1, 0, none⟩) (by show w.heap.size ≤ w.heap.size + 1; omega) _⟩
          have := own_span (hoe.out.mono HW.out) (span_set (w := w6.alloc (.cells #[] 3)) (i := 0) (Nat.le_refl (w.heap.size + 1)) (Nat.lt_succ_self _) (.slice none 0 0)) (fun b e => .inr (by cases e; exact HW2.out))
          simpa [intV] using this
        | true =>
          have HG2 := HG.out rfl
          have HP := Lib.hid (HR.out.put BR6.out HLW.out O6.out)
          have HK9 := Lib.hid HR.out.2.2.2.2.2.2.2
          have hqr : q < wr.heap.size := (Array.getElem?_eq_some_iff.1 HR.out.2.2.1).1
          have st7 : ((w5.alloc (.cells #[.slice a9 Z.length c9] 28)).setCell ⟨q, 0, none⟩ (.slice a9 Z.length c9)).heap[wr.heap.size]? = some (.cells #[.int .i64 b, .int .i64 t] 80 (0, 0)) := (Below.heap_setCell _ ⟨q, 0, none⟩ _ _ (by show wr.heap.size ≠ q; omega)).trans ST5.out
          have t1 := cell_of (i := 0) st7 rfl
          have t2 := cell_of (i := 1) st7 rfl
          have HZ3 : Hid (w.heap.size + 2 ≤ ((w5.alloc (.cells #[.slice a9 Z.length c9] 28)).setCell ⟨q, 0, none⟩ (.slice a9 Z.length c9)).heap.size) := Lib.hid (by have h1 := HR.out.2.2.2.2.2.2.1.2.1; have h2 := BR6.out.size; simp at *; omega)
          clear st7 hqr
          by_cases ht : t = -1
          · subst ht
            go_upto_region 12 with fail
            generalize (w5.alloc (.cells #[.slice a9 Z.length c9] 28)).setCell ⟨q, 0, none⟩ (.slice a9 Z.length c9) = w7 at *
            have hrow := HP.out.2.2.2.2.1
            have hD := HD.out
            have hb2 : w.heap.size + 2 ≤ w7.heap.size := HZ3.out
            clear y8 f8 y11
            go_wp2_with (at_builtin; refine wpList_append_own_at _ rfl _ _ 29 rfl (w.heap.size + 2) 3 f3 (.int .i64 0) 1 8 Try.underlying29 hi3 hz0 hz1 hz2 rfl (by decide) _ _ _ rfl (hrow.alloc _) ⟨w7.heap.size, 0, none⟩ 1 1 [.int .i64 b] rfl rfl (cell_one_new _ _ _) (by simp [Value.oneCell']) (by unfold maxLen; omega) (by omega) (by simp; omega) ?_; intro v' w8 hown' hgrow hnil hat)
            have HN4 : Hid (RunSI w w8 q Y S (k + 1) a9 c9 v' Z (D ++ [b])) := Lib.hid (by
              obtain ⟨p1, p2, p3, p4, p5, p6, p7⟩ := HP.out.append _ hown' hgrow hat
              refine ⟨p1, p2, p3, p4, p5, HG2, ⟨by simp; omega, p6, p7⟩, ?_⟩
              rw [← HK9.out, HE.out]; simp)
            clear hown' hgrow hnil hat hrow
            exact ⟨⟨k + 1, _, _, _, _, by omega, by go_num, HN4⟩, by simp [intOf]; omega⟩
          · have hte : (t == -1) = false := by simpa using ht
            go_wp2_with fail
            generalize (w5.alloc (.cells #[.slice a9 Z.length c9] 28)).setCell ⟨q, 0, none⟩ (.slice a9 Z.length c9) = w7 at *
            have HN4 : Hid (RunSI w w7 q Y S (k + 1) a9 c9 u7 Z D) := Lib.hid (by
              obtain ⟨p1, p2, p3, p4, p5, p6, p7⟩ := HP.out
              refine ⟨p1, p2, p3, p4, p5, HG2, ⟨by have := HD.out; omega, p6, p7⟩, ?_⟩
              rw [← HK9.out, HE.out]; simp [ht])
            exact ⟨⟨k + 1, _, _, _, _, by omega, by go_num, HN4⟩, by simp [intOf]; omega⟩
      · obtain rfl : k = n := by omega
        obtain ⟨q1, q2, q3, ⟨B, hi, b1, b2, b3, b4⟩, q5, q7, q8, q9⟩ := HR.out
        have HQ := Lib.hid (run_yes (Y := Y) (S := S) (p := (Yk, D)) (by rw [HA.out, ← q9, show k = S.length by exact HN.out.symm, List.drop_length]; rfl))
        have z0 : wr.cell? ⟨w.heap.size + 1, 0, none⟩ = some (.slice none 0 0) := cell_of q2 rfl
        have f0 : ∀ i, wr.frozen? ⟨w.heap.size + 1, i, none⟩ = false := fun _ => free_of q2
        have e7 := World.cell?_setCell_same _ _ (.slice ak Yk.length ck) z0
        have y8 : wr.cell? ⟨q, 0, none⟩ = some (.slice ak Yk.length ck) := cell_of q3 rfl
        have HB7 := Lib.hid (q1.setCell (p := ⟨w.heap.size + 1, 0, none⟩) (by show w.heap.size ≤ w.heap.size + 1; omega) (.slice ak Yk.length ck))
        have HY7 := Lib.hid (b3.span (span_set (i := 0) (Nat.le_refl (w.heap.size + 1)) (Nat.lt_succ_self _) (.slice ak Yk.length ck)) (.inr (by omega)))
        have HX7 := Lib.hid b4
        have HB1 := Lib.hid (show w.heap.size ≤ B by omega)
        have HD7 := Lib.hid ((own_span q5 (span_set (w := wr) (i := 0) (Nat.le_refl (w.heap.size + 1)) (Nat.lt_succ_self _) (.slice ak Yk.length ck)) (fun b hb => .inr (by have := row_base q5 b hb; omega))).mono (show w.heap.size ≤ w.heap.size + 2 by omega))
        clear q1 q2 q3 q5 q7 q8 q9 b1 b2 b3 b4
        go_wp2_with fail
        refine bodyPost_ret (v := .tuple #[.agg #[.slice ak Yk.length ck], u7, .bool true]) (by simp [results, Try.results19, go_sem, e7]) rfl ?_
        rw [HQ.out.1, HQ.out.2.1, HQ.out.2.2]
        exact ⟨_, _, _, B, hi, rfl, HB1.out, HY7.out, HD7.out, HX7.out, HB7.out⟩
  · have HQ := Lib.hid (run_no (Y := Y) (S := S) (by unfold runA; rw [if_neg (by rw [HN.out]; exact hgn)]))
    obtain ⟨g, hge⟩ : ∃ g, goodY Y = g := ⟨_, rfl⟩
    rw [hge] at HG hgn
    have hn60i : g = true → (60 : Int) < (n : Int) := fun e => by
      have : ¬ n ≤ 60 := fun h => hgn ⟨e, h⟩
      omega
    go_enter Try.func19, Try.ntmps19
    go_wp2_with fail
    generalize ((w.alloc (.cells #[v0] 28)).alloc (.cells #[.slice none 0 0] 28)).alloc (.cells #[] 3) = W at *
    refine (HG.out _ F0.out.bl).mono ?_
    rintro e w1 ⟨rfl, hb⟩
    have F1 := Lib.hid (F0.out.below hb)
    have E1 := Lib.hid (row_below HE1.out hb)
    obtain ⟨z0, f0⟩ := F1.out.z
    have e7 := World.cell?_setCell_same _ _ (.slice none 0 0) z0
    have HB7 := Lib.hid (F1.out.set (.slice none 0 0))
    have HD7 := Lib.hid (own_span E1.out (span_set (w := w1) (i := 0) (Nat.le_refl (w.heap.size + 1)) (Nat.lt_succ_self _) (.slice none 0 0)) (fun b hb => .inr (by have := row_base E1.out b hb; omega)))
    have HFin : Hid (RetYL w [] [] false (.returned (.tuple #[.agg #[.slice none 0 0], .slice (some ⟨w.heap.size + 1 + 1, 0, none⟩) 0 0, .bool false])) (w1.setCell ⟨w.heap.size + 1, 0, none⟩ (.slice none 0 0))) := Lib.hid
      ⟨none, 0, _, w.heap.size, w.heap.size, rfl, Nat.le_refl _, OwnY.nil _ _ _ HB7.out.size, by simpa [intV] using HD7.out.mono (show w.heap.size ≤ w.heap.size + 1 + 1 by omega), fun b e => .inr (Nat.le_trans (Nat.le_add_right _ 2) (Nat.le_of_eq (by cases e; rfl))), HB7.out⟩
    clear hb c0
    cases g with
    | false =>
      go_wp2_with fail
      refine bodyPost_ret (v := .tuple #[.agg #[.slice none 0 0], .slice (some ⟨w.heap.size + 1 + 1, 0, none⟩) 0 0, .bool false]) (by simp [results, Try.results19, go_sem, e7]) rfl ?_
      rw [HQ.out.1, HQ.out.2.1, HQ.out.2.2]
      exact HFin.out
    | true =>
      have hn60j := hn60i rfl
      go_wp2_with fail
      refine bodyPost_ret (v := .tuple #[.agg #[.slice none 0 0], .slice (some ⟨w.heap.size + 1 + 1, 0, none⟩) 0 0, .bool false]) (by simp [results, Try.results19, go_sem, e7]) rfl ?_
      rw [HQ.out.1, HQ.out.2.1, HQ.out.2.2]
      exact HFin.out
end Go.Proofs.Ytmkejgbbgknalaa
