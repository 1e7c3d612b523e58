/-
  What impl.ParseYardFinding answers. No statement of the seat by itself.
-/
import Derived.Test.YtcpelnnadabnpaaDoorERdW
namespace Go.Proofs.YtcpelnnadabnpaaDoor
open Go.RowKit Go.Shelf

/-- What is asked of the finding that a text is parsed to. -/
def PrsO (s : ByteArray) (r i j : Int) (ok : Bool) : Prop := (ok = true ∧ goodF r i j = true ∧ txtF r i j = s) ∨ (ok = false ∧ r = 0 ∧ i = 0 ∧ j = 0 ∧ ∀ a b c, goodF a b c = true → txtF a b c ≠ s)
def PrsP (w : World) (s : ByteArray) (e : Ending) (w' : World) : Prop := ∃ r i j ok, e = .returned (.tuple #[.agg #[.int .i64 r, .int .i64 i, .int .i64 j], .bool ok]) ∧ PrsO s r i j ok ∧ Below w.heap.size w w'
/-- Two that are asked alike are the same. -/
theorem PrsO.same {s : ByteArray} {r i j a b c : Int} {ok go : Bool} (h : PrsO s r i j ok) (g : PrsO s a b c go) : r = a ∧ i = b ∧ j = c ∧ ok = go := by
  rcases h with ⟨rfl, h1, h2⟩ | ⟨rfl, rfl, rfl, rfl, h2⟩
  · rcases g with ⟨rfl, g1, g2⟩ | ⟨rfl, rfl, rfl, rfl, g2⟩
    · have e := (readF_txt h1 h2).symm.trans (readF_txt g1 g2)
      simp only [Prod.mk.injEq] at e
      exact ⟨e.1, e.2.1, e.2.2, rfl⟩
    · exact absurd h2 (g2 _ _ _ h1)
  · rcases g with ⟨rfl, g1, g2⟩ | ⟨rfl, rfl, rfl, rfl, g2⟩
    · exact absurd g2 (h2 _ _ _ g1)
    · exact ⟨rfl, rfl, rfl, rfl⟩
theorem str_eqB (a b : ByteArray) : (a.toList == b.toList) = decide (a = b) := by
  rw [Bool.eq_iff_iff, beq_iff_eq, decide_eq_true_iff]
  constructor
  · intro h
    rw [ByteArray.toList_eq, ByteArray.toList_eq] at h
    exact ByteArray.ext (Array.toList_inj.1 h)
  · rintro rfl
    rfl

set_option maxRecDepth 100000 in
set_option maxHeartbeats 4000000 in
theorem implPrs_walk (s X : ByteArray) (r i j : Int) (q c : Bool) (hx : (X.toList == s.toList) = c)
    (w : World) (hT : Tabs w) (K1 : Hid (∀ W, Tabs W → Calls Tryd.prog 16 #[.string s] W (FndP W (r, i, j)))) (K2 : Hid (∀ W, Calls Tryd.prog 7 #[.agg #[.int .i64 r, .int .i64 i, .int .i64 j]] W (TxtP W X q))) :
    Calls Tryd.prog 9 #[.string s] w fun e w' => e = .returned (if q && c then .tuple #[.agg #[.int .i64 r, .int .i64 i, .int .i64 j], .bool true] else .tuple #[.agg #[.int .i64 0, .int .i64 0, .int .i64 0], .bool false]) ∧ Below w.heap.size w w' := by
  have HB := Lib.hid (below_one w (.cells #[.int .i64 0, .int .i64 0, .int .i64 0] 26))
  have HK := Lib.hid (heap_alloc_new w (.cells #[.int .i64 0, .int .i64 0, .int .i64 0] 26))
  have HT := Lib.hid hT
  clear hT
  cases q <;> cases c
  all_goals
    go_enter Tryd.func9, Tryd.ntmps9
    go_wp2_with fail
    generalize w.alloc (.cells #[.int .i64 0, .int .i64 0, .int .i64 0] 26) = w0 at *
    refine (K1.out _ (HT.out.below HB.out)).mono ?_
    rintro e w1 ⟨rfl, hb⟩
    have HK1 := Lib.hid ((hb.block _ (Array.getElem?_eq_some_iff.1 HK.out).1).trans HK.out)
    have HB1 := Lib.hid (HB.out.trans (hb.mono HB.out.size))
    clear hb HK HB
    have hb2 := below_one w1 (.cells #[.int .i64 r, .int .i64 i, .int .i64 j] 26)
    have HK2 := Lib.hid ((hb2.block _ (Array.getElem?_eq_some_iff.1 HK1.out).1).trans HK1.out)
    have HB2 := Lib.hid (HB1.out.trans (hb2.mono HB1.out.size))
    have HF2 := Lib.hid (heap_alloc_new w1 (.cells #[.int .i64 r, .int .i64 i, .int .i64 j] 26))
    clear hb2 HK1 HB1
    go_wp2_with fail
    generalize w1.alloc (.cells #[.int .i64 r, .int .i64 i, .int .i64 j] 26) = w2 at *
    refine (K2.out _).mono ?_
    rintro e w3 ⟨rfl, hb⟩
    have HK3 := Lib.hid ((hb.block _ (Array.getElem?_eq_some_iff.1 HK2.out).1).trans HK2.out)
    have HF3 := Lib.hid ((hb.block _ (Array.getElem?_eq_some_iff.1 HF2.out).1).trans HF2.out)
    have HB3 := Lib.hid (HB2.out.trans (hb.mono HB2.out.size))
    clear hb HK2 HF2 HB2
    have c0 := cell_of (i := 0) HK3.out rfl
    have c1 := cell_of (i := 1) HK3.out rfl
    have c2 := cell_of (i := 2) HK3.out rfl
    have y0 := cell_of (i := 0) HF3.out rfl
    have y1 := cell_of (i := 1) HF3.out rfl
    have y2 := cell_of (i := 2) HF3.out rfl
    have f0 := free_of HK3.out 0
    have f1 := free_of HK3.out 1
    have f2 := free_of HK3.out 2
    go_wp2_with fail
  · have HK := Lib.hid (set3_heap HK3.out (.int .i64 0) (.int .i64 0) (.int .i64 0))
    have HB := Lib.hid (set3_below HB3.out (.int .i64 0) (.int .i64 0) (.int .i64 0))
    clear c0 c1 c2 f0 f1 f2
    generalize ((w3.setCell ⟨w.heap.size, 0, none⟩ (.int .i64 0)).setCell ⟨w.heap.size, 1, none⟩ (.int .i64 0)).setCell ⟨w.heap.size, 2, none⟩ (.int .i64 0) = w6 at *
    have c0 := cell_of (i := 0) HK.out rfl
    have c1 := cell_of (i := 1) HK.out rfl
    have c2 := cell_of (i := 2) HK.out rfl
    exact bodyPost_ret (v := .tuple #[.agg #[.int .i64 0, .int .i64 0, .int .i64 0], .bool false]) (by simp [results, Tryd.results9, go_sem, c0, c1, c2]) rfl ⟨rfl, HB.out⟩
  · have HK := Lib.hid (set3_heap HK3.out (.int .i64 0) (.int .i64 0) (.int .i64 0))
    have HB := Lib.hid (set3_below HB3.out (.int .i64 0) (.int .i64 0) (.int .i64 0))
    clear c0 c1 c2 f0 f1 f2
    generalize ((w3.setCell ⟨w.heap.size, 0, none⟩ (.int .i64 0)).setCell ⟨w.heap.size, 1, none⟩ (.int .i64 0)).setCell ⟨w.heap.size, 2, none⟩ (.int .i64 0) = w6 at *
    have c0 := cell_of (i := 0) HK.out rfl
    have c1 := cell_of (i := 1) HK.out rfl
    have c2 := cell_of (i := 2) HK.out rfl
    exact bodyPost_ret (v := .tuple #[.agg #[.int .i64 0, .int .i64 0, .int .i64 0], .bool false]) (by simp [results, Tryd.results9, go_sem, c0, c1, c2]) rfl ⟨rfl, HB.out⟩
  · have HK := Lib.hid (set3_heap HK3.out (.int .i64 0) (.int .i64 0) (.int .i64 0))
    have HB := Lib.hid (set3_below HB3.out (.int .i64 0) (.int .i64 0) (.int .i64 0))
    clear c0 c1 c2 f0 f1 f2
    generalize ((w3.setCell ⟨w.heap.size, 0, none⟩ (.int .i64 0)).setCell ⟨w.heap.size, 1, none⟩ (.int .i64 0)).setCell ⟨w.heap.size, 2, none⟩ (.int .i64 0) = w6 at *
    have c0 := cell_of (i := 0) HK.out rfl
    have c1 := cell_of (i := 1) HK.out rfl
    have c2 := cell_of (i := 2) HK.out rfl
    exact bodyPost_ret (v := .tuple #[.agg #[.int .i64 0, .int .i64 0, .int .i64 0], .bool false]) (by simp [results, Tryd.results9, go_sem, c0, c1, c2]) rfl ⟨rfl, HB.out⟩
  · have HK := Lib.hid (set3_heap HK3.out (.int .i64 r) (.int .i64 i) (.int .i64 j))
    have HB := Lib.hid (set3_below HB3.out (.int .i64 r) (.int .i64 i) (.int .i64 j))
    clear c0 c1 c2 f0 f1 f2
    generalize ((w3.setCell ⟨w.heap.size, 0, none⟩ (.int .i64 r)).setCell ⟨w.heap.size, 1, none⟩ (.int .i64 i)).setCell ⟨w.heap.size, 2, none⟩ (.int .i64 j) = w6 at *
    have c0 := cell_of (i := 0) HK.out rfl
    have c1 := cell_of (i := 1) HK.out rfl
    have c2 := cell_of (i := 2) HK.out rfl
    exact bodyPost_ret (v := .tuple #[.agg #[.int .i64 r, .int .i64 i, .int .i64 j], .bool true]) (by simp [results, Tryd.results9, go_sem, c0, c1, c2]) rfl ⟨rfl, HB.out⟩

theorem implPrs_any (s : ByteArray) (hs : s.size ≤ 1048576) (w : World) (hT : Tabs w) : Calls Tryd.prog 9 #[.string s] w (PrsP w s) := by
  have h := implPrs_walk s (txtF (readF s).1 (readF s).2.1 (readF s).2.2) (readF s).1 (readF s).2.1 (readF s).2.2 (goodF (readF s).1 (readF s).2.1 (readF s).2.2) _ rfl w hT
    (Lib.hid fun W h => read_any s hs W h) (Lib.hid fun W => implTxt_any _ _ _ W)
  rw [str_eqB] at h
  refine h.mono ?_
  rintro e w' ⟨he, hb⟩
  cases hq : goodF (readF s).1 (readF s).2.1 (readF s).2.2 with
  | false =>
    rw [hq] at he
    refine ⟨0, 0, 0, false, by simpa using he, Or.inr ⟨rfl, rfl, rfl, rfl, fun a b c hg hx => ?_⟩, hb⟩
    rw [readF_txt hg hx, hg] at hq
    cases hq
  | true =>
    rw [hq] at he
    by_cases hx : txtF (readF s).1 (readF s).2.1 (readF s).2.2 = s
    · rw [decide_eq_true hx] at he
      exact ⟨_, _, _, true, by simpa using he, Or.inl ⟨rfl, hq, hx⟩, hb⟩
    · rw [decide_eq_false hx] at he
      refine ⟨0, 0, 0, false, by simpa using he, Or.inr ⟨rfl, rfl, rfl, rfl, fun a b c hg hy => ?_⟩, hb⟩
      rw [readF_txt hg hy] at hx
      exact hx hy
end Go.Proofs.YtcpelnnadabnpaaDoor
