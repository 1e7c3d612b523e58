/-
  What spec.RunSteps returns. No statement of the seat by itself.
-/
import Derived.Test.YtmkejgbbgknalaaRunS
namespace Go.Proofs.Ytmkejgbbgknalaa
open Go.RowKit

/-- The two boxes of a call with a yard: the yard, the answer. -/
structure Fr2 (w W : World) (v0 : Value) : Prop where
  bl : Below w.heap.size w W
  a : W.heap[w.heap.size]? = some (.cells #[v0] 28 (0, 0))
  r : W.heap[w.heap.size + 1]? = some (.cells #[.slice none 0 0] 28 (0, 0))
theorem Fr2.start (w : World) (v0 : Value) : Fr2 w ((w.alloc (.cells #[v0] 28)).alloc (.cells #[.slice none 0 0] 28)) v0 := by
  have hb := below_one (w.alloc (.cells #[v0] 28)) (.cells #[.slice none 0 0] 28)
  have h2 := heap_alloc_new (w.alloc (.cells #[v0] 28)) (.cells #[.slice none 0 0] 28)
  rw [show (w.alloc (.cells #[v0] 28)).heap.size = w.heap.size + 1 by simp] at h2
  exact ⟨below_two w _ _, (hb.block _ (by simp)).trans (heap_alloc_new w _), h2⟩
theorem Fr2.lt {w W : World} {v0 : Value} (h : Fr2 w W v0) : w.heap.size + 1 < W.heap.size := (Array.getElem?_eq_some_iff.1 h.r).1
theorem Fr2.below {w W W' : World} {v0 : Value} (h : Fr2 w W v0) (hb : Below W.heap.size W W') : Fr2 w W' v0 := by
  have := h.lt
  exact ⟨h.bl.trans (hb.mono h.bl.size), (hb.block _ (by omega)).trans h.a, (hb.block _ (by omega)).trans h.r⟩
theorem Fr2.c {w W : World} {v0 : Value} (h : Fr2 w W v0) : W.cell? ⟨w.heap.size, 0, none⟩ = some v0 := cell_of h.a rfl
theorem Fr2.z {w W : World} {v0 : Value} (h : Fr2 w W v0) : W.cell? ⟨w.heap.size + 1, 0, none⟩ = some (.slice none 0 0) ∧ ∀ i, W.frozen? ⟨w.heap.size + 1, i, none⟩ = false :=
  ⟨cell_of h.r rfl, fun _ => free_of h.r⟩
theorem Fr2.set {w W : World} {v0 : Value} (h : Fr2 w W v0) (x : Value) : Below w.heap.size w (W.setCell ⟨w.heap.size + 1, 0, none⟩ x) := h.bl.setCell (p := ⟨w.heap.size + 1, 0, none⟩) (by show w.heap.size ≤ w.heap.size + 1; omega) _

set_option maxRecDepth 100000 in
set_option maxHeartbeats 8000000 in
theorem specRun_any (v vs : Value) (Y : List (List Int)) (S : List (Int × Int)) (h1 : Y.length ≤ 1048576) (h2 : tot Y ≤ 1048576) (h3 : S.length ≤ 1048576) (w : World) (h : YdR w v Y) (hs : SL w vs S) :
    Calls Try.prog 16 #[v, vs] w (SeenYL w (runY Y S) (runD Y S) (runB Y S)) := by
  obtain ⟨v0, rfl, hv⟩ := h
  have HV := Lib.hid hv
  have HS := Lib.hid hs
  have H1 := Lib.hid h1
  have H2 := Lib.hid h2
  obtain ⟨sa, sc, rfl⟩ := hs.form
  obtain ⟨n, hn⟩ : ∃ n, S.length = n := ⟨_, rfl⟩
  have HN := Lib.hid hn
  rw [hn] at h3 HS ⊢
  have F0 := Lib.hid (Fr2.start w v0)
  have c0 := F0.out.c
  have HG : Hid (∀ W, Below w.heap.size w W → Calls Try.prog 61 #[.agg #[v0]] W (BoolP W (goodY Y))) := Lib.hid fun W hb => good_spec _ Y H1.out H2.out W ⟨v0, rfl, HV.out.below hb⟩
  clear hv hs h1 h2 hn
  by_cases hgn : goodY Y = true ∧ n ≤ 60
  · have HA : Hid (runA Y S = runO Y S []) := Lib.hid (by unfold runA; rw [if_pos (by rw [HN.out]; exact hgn)])
    have HL : Hid (∀ W u, YL W u Y → SL W (.slice sa n sc) S → Calls Try.prog 62 #[.agg #[u], .slice sa n sc] W (SeenRun u Y W (runY Y S) (runD Y S) (runB Y S))) := Lib.hid fun W u hu hs => l6Run_any u _ Y S hgn.1 (by rw [HN.out]; exact hgn.2) W hu hs HA.out
    obtain ⟨hg, hn60⟩ := hgn
    rw [hg] at HG
    have hn60i : ¬ (60 : Int) < (n : Int) := by omega
    generalize runY Y S = R at *
    generalize runD Y S = D at *
    generalize runB Y S = ok at *
    go_enter Try.func16, Try.ntmps16
    go_wp2_with fail
    generalize (w.alloc (.cells #[v0] 28)).alloc (.cells #[.slice none 0 0] 28) = W at *
    refine (HG.out _ F0.out.bl).mono ?_
    rintro e w1 ⟨rfl, hb⟩
    have F1 := Lib.hid (F0.out.below hb)
    clear hb c0
    have c0 := F1.out.c
    go_wp2_with fail
    refine (l5Own_any _ Y H1.out H2.out _ ⟨v0, rfl, HV.out.below F1.out.bl⟩).mono ?_
    rintro e w2 ⟨a2, c2, rfl, ho, hb⟩
    have F2 := Lib.hid (F1.out.below hb)
    have O2 := Lib.hid ho
    clear hb ho c0
    go_wp2_with fail
    refine (HL.out _ _ O2.out.yl (HS.out.below F2.out.bl)).mono ?_
    rintro e w3 ⟨a, c, ua, uc, rfl, hy, hd, hb⟩
    have F3 := Lib.hid (F2.out.below hb)
    have hF := F3.out.lt
    obtain ⟨z0, f0⟩ := F3.out.z
    have e7 := World.cell?_setCell_same _ _ (.slice a R.length c) z0
    have HB7 := Lib.hid (F3.out.set (.slice a R.length c))
    have hl2 := F2.out.lt
    have hl1 := F1.out.lt
    have HY : Hid (YL (w3.setCell ⟨w.heap.size + 1, 0, none⟩ (.slice a R.length c)) (.slice a R.length c) R) := Lib.hid (by
      have hS := span_set (w := w3) (i := 0) (Nat.le_refl (w.heap.size + 1)) (Nat.lt_succ_self _) (.slice a R.length c)
      rcases hy with ⟨e, rfl⟩ | ⟨B, hi, h1, h2⟩
      · have := (O2.out.below hb).span hS (.inr (by omega))
        rw [← e] at this
        exact this.yl
      · exact (h2.span hS (.inr (by omega))).yl)
    have HD := Lib.hid (il_of_owns (own_span hd (span_set (w := w3) (i := 0) (Nat.le_refl (w.heap.size + 1)) (Nat.lt_succ_self _) (.slice a R.length c)) (fun b hb => .inr (by have := row_base hd b hb; omega))))
    clear hb hy hd
    go_wp2_with fail
    refine bodyPost_ret (v := .tuple #[.agg #[.slice a R.length c], .slice ua D.length uc, .bool ok]) (by simp [results, Try.results16, go_sem, e7]) rfl ?_
    exact ⟨_, _, _, rfl, HY.out, HD.out, HB7.out⟩
  · have HQ := Lib.hid (run_no (Y := Y) (S := S) (by unfold runA; rw [if_neg (by rw [HN.out]; exact hgn)]))
    obtain ⟨g, hge⟩ : ∃ g, goodY Y = g := ⟨_, rfl⟩
    rw [hge] at HG hgn
    go_enter Try.func16, Try.ntmps16
    go_wp2_with fail
    generalize (w.alloc (.cells #[v0] 28)).alloc (.cells #[.slice none 0 0] 28) = W at *
    refine (HG.out _ F0.out.bl).mono ?_
    rintro e w1 ⟨rfl, hb⟩
    have F1 := Lib.hid ((F0.out.below hb).below (below_one w1 (.cells #[] 3)))
    obtain ⟨z0, f0⟩ := F1.out.z
    have e7 := World.cell?_setCell_same _ _ (.slice none 0 0) z0
    have HB7 := Lib.hid (F1.out.set (.slice none 0 0))
    clear hb c0
    cases g with
    | false =>
      go_wp2_with fail
      refine bodyPost_ret (v := .tuple #[.agg #[.slice none 0 0], .slice (some ⟨w1.heap.size, 0, none⟩) 0 0, .bool false]) (by simp [results, Try.results16, go_sem, e7]) rfl ?_
      rw [HQ.out.1, HQ.out.2.1, HQ.out.2.2]
      exact ⟨none, 0, _, rfl, ⟨none, 0, rfl, fun h => by simp at h⟩, IL.nil _ _ _, HB7.out⟩
    | true =>
      have hn60i : (60 : Int) < (n : Int) := by
        have : ¬ n ≤ 60 := fun h => hgn ⟨rfl, h⟩
        omega
      go_wp2_with fail
      refine bodyPost_ret (v := .tuple #[.agg #[.slice none 0 0], .slice (some ⟨w1.heap.size, 0, none⟩) 0 0, .bool false]) (by simp [results, Try.results16, go_sem, e7]) rfl ?_
      rw [HQ.out.1, HQ.out.2.1, HQ.out.2.2]
      exact ⟨none, 0, _, rfl, ⟨none, 0, rfl, fun h => by simp at h⟩, IL.nil _ _ _, HB7.out⟩
end Go.Proofs.Ytmkejgbbgknalaa
