/-
  What impl.fitsPlan returns. No statement of the seat by itself.
-/
import Derived.Test.YtmkejgbbgknalaaPlanM
import Derived.Test.YtmkejgbbgknalaaTops
namespace Go.Proofs.Ytmkejgbbgknalaa
open Go.RowKit

set_option maxRecDepth 100000 in
set_option maxHeartbeats 4000000 in
theorem fits_any (v : Value) (Y : List (List Int)) (n b t : Int) (h1 : Y.length ≤ 1048576) (h2 : tot Y ≤ 1048576) (w : World) (h : YdR w v Y) :
    Calls Try.prog 73 #[v, .int .i64 n, .agg #[.int .i64 b, .int .i64 t]] w (BoolP w (fitsB Y n b t)) := by
  obtain ⟨v0, rfl, hv⟩ := h
  have HV := Lib.hid hv
  have hb2 := below_two w (.cells #[v0] 28) (.cells #[.int .i64 b, .int .i64 t] 80)
  have hb1 := below_one (w.alloc (.cells #[v0] 28)) (.cells #[.int .i64 b, .int .i64 t] 80)
  have B0 := Lib.hid hb2
  have j1 := heap_alloc_new (w.alloc (.cells #[v0] 28)) (.cells #[.int .i64 b, .int .i64 t] 80)
  rw [show (w.alloc (.cells #[v0] 28)).heap.size = w.heap.size + 1 by simp] at j1
  have JA := Lib.hid ((hb1.block _ (by simp)).trans (heap_alloc_new w (.cells #[v0] 28)))
  have JS := Lib.hid j1
  have HP : Hid (∀ W, Below w.heap.size w W → Calls Try.prog 95 #[.agg #[v0], .int .i64 n] W (RetP W (.tuple #[.int .i64 (plI Y n), .int .i64 (plK Y n), .bool (plB Y n)]))) := Lib.hid fun W hb => implPlace_eq _ Y n h1 h2 W ⟨v0, rfl, HV.out.below hb⟩
  have HT : Hid (∀ W, Below w.heap.size w W → Calls Try.prog 109 #[.agg #[v0], .int .i64 (plI Y n)] W (RetP W (.tuple #[.int .i64 (topR Y (plI Y n)), .bool (okS Y (plI Y n))]))) := Lib.hid fun W hb => implTop_any _ Y _ h1 h2 W ⟨v0, rfl, HV.out.below hb⟩
  have HQ := Lib.hid (show fitsB Y n b t = if t = -1 then decide (b = n) else decide (b = topR Y (plI Y n)) from rfl)
  generalize fitsB Y n b t = q at *
  generalize okS Y (plI Y n) = okv at *
  generalize topR Y (plI Y n) = tv at *
  generalize plI Y n = i at *
  generalize plK Y n = k at *
  generalize plB Y n = pb at *
  have s0 := cell_of (i := 0) JS.out rfl
  have s1 := cell_of (i := 1) JS.out rfl
  have c0 := cell_of (i := 0) JA.out rfl
  clear hv hb1 hb2 j1 h1 h2
  by_cases ht : t = -1
  · subst ht
    rw [if_pos rfl] at HQ
    go_enter Try.func73, Try.ntmps73
    go_wp2_with fail
    generalize (w.alloc (.cells #[v0] 28)).alloc (.cells #[.int .i64 b, .int .i64 (-1)] 80) = W at *
    go_ret
    refine ⟨?_, B0.out⟩
    rw [HQ.out]
    show Ending.returned (.bool (b == n)) = _
    by_cases e : b = n <;> simp [e]
  · have hte : (t == -1) = false := by simpa using ht
    rw [if_neg ht] at HQ
    clear ht
    go_enter Try.func73, Try.ntmps73
    go_wp2_with fail
    generalize (w.alloc (.cells #[v0] 28)).alloc (.cells #[.int .i64 b, .int .i64 t] 80) = W at *
    refine (HP.out _ B0.out).mono ?_
    rintro e w1 ⟨rfl, hb⟩
    have B1 := Lib.hid (B0.out.trans (hb.mono B0.out.size))
    have ja1 := (hb.block _ (Array.getElem?_eq_some_iff.1 JA.out).1).trans JA.out
    have js1 := (hb.block _ (Array.getElem?_eq_some_iff.1 JS.out).1).trans JS.out
    have JA1 := Lib.hid ja1
    have JS1 := Lib.hid js1
    clear s0 s1 c0 hb ja1 js1
    have c0 := cell_of (i := 0) JA1.out rfl
    go_wp2_with fail
    refine (HT.out _ B1.out).mono ?_
    rintro e w2 ⟨rfl, hb⟩
    have B2 := Lib.hid (B1.out.trans (hb.mono B1.out.size))
    have js2 := (hb.block _ (Array.getElem?_eq_some_iff.1 JS1.out).1).trans JS1.out
    have s0 := cell_of (i := 0) js2 rfl
    clear c0 hb js2
    go_wp2_with fail
    go_ret
    refine ⟨?_, B2.out⟩
    rw [HQ.out]
    show Ending.returned (.bool (b == tv)) = _
    by_cases e : b = tv <;> simp [e]
end Go.Proofs.Ytmkejgbbgknalaa
