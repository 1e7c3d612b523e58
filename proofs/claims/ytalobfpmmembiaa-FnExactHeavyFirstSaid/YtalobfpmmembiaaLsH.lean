/-
  What the two HeavyFirst return. No statement of the seat by itself.
-/
import Derived.Test.YtalobfpmmembiaaLsG
import Derived.Test.YtalobfpmmembiaaLaidRev
import Derived.Test.YtalobfpmmembiaaHSort
import Derived.Test.YtalobfpmmembiaaBadP
import Derived.Test.YtalobfpmmembiaaHeights
import Derived.Deep.RegionHeldLaw
namespace Go.Proofs.Ytalobfpmmembiaa
open Go.RowKit

/-- The weights in descending order. -/
def hvR (l : List Int) : List Int := if goodW l 4 = true then (srtI l).reverse else []
theorem hvR_len (l : List Int) : (hvR l).length ≤ 4 := by
  unfold hvR
  split
  · rename_i h
    rw [List.length_reverse, srtI_len]
    exact goodW_len h
  · simp
/-- slices.Sorted of the values of a list. -/
theorem sortedIL (a : Option Addr) (n c : Nat) (l : List Int) (hl : l.length = n) (hn : n ≤ 1000) (w : World) (h : IL w (.slice a n c) l) :
    Calls Try.prog 57 #[.func (.func 86) #[] #[.pointer (some ⟨w.heap.size, 0, none⟩)]] (w.alloc (.cells #[.slice a n c] 24)) (OneL (w.alloc (.cells #[.slice a n c] 24)) (srtI l)) := by
  have hb := below_one w (.cells #[.slice a n c] 24)
  have hS : (w.alloc (.cells #[.slice a n c] 24)).cell? ⟨w.heap.size, 0, none⟩ = some (.slice a n c) := cell_of (heap_alloc_new w _) rfl
  by_cases h0 : n = 0
  · refine sorted_any w.heap.size w.heap.size 0 c n a l hl hn _ (by simp) (by simp) hS (fun h => by omega) fun j x hx => ?_
    have := lt_of_get hx
    omega
  · obtain ⟨a', c', e, hc⟩ := h
    injection e with e1 e2 e3
    obtain ⟨g, off, e4, hg, hcc⟩ := hc (by omega)
    exact sorted_any w.heap.size g off c n a l hl hn _ (by simp) (Nat.lt_of_lt_of_le hg hb.size) hS (fun _ => e1.trans e4) fun j x hx => (hb.cell (p := ⟨g, off + j, none⟩) hg).trans (hcc j x hx)

set_option maxRecDepth 100000 in
set_option maxHeartbeats 4000000 in
theorem implHv_any (v : Value) (l : List Int) (hn : l.length ≤ 1048576) (w : World) (h : IL w v l) :
    Calls Try.prog 22 #[v] w (RetL w (hvR l) (goodW l 4)) := by
  have HG := Lib.hid (implValidC_any v l (by omega) w h)
  have HV := Lib.hid h
  obtain ⟨p, cap, rfl⟩ := h.form
  clear h
  cases hg : goodW l 4 with
  | false =>
    rw [hg] at HG
    rw [show hvR l = [] by simp [hvR, hg]]
    clear hg
    go_enter Try.func22, Try.ntmps22
    go_wp2_with fail
    refine HG.out.mono ?_
    rintro e w1 ⟨rfl, hb⟩
    have HX := Lib.hid (retL_of (l := []) (ok := false) (own_empty w1 (.cells #[] 3) 3 rfl) hb.size (hb.trans ((below_one w1 _).mono hb.size)))
    clear hb
    go_wp2_with fail
    go_ret2
    exact HX.out
  | true =>
    rw [hg] at HG
    rw [show hvR l = (srtI l).reverse by simp [hvR, hg]]
    have hl4 := goodW_len hg
    have HL : Hid ((srtI l).length ≤ 1000) := Lib.hid (by rw [srtI_len]; omega)
    have HSo := Lib.hid (fun W hW => sortedIL p l.length cap l rfl (by omega) W hW)
    clear hg
    generalize srtI l = R at *
    generalize l.length = n at *
    go_enter Try.func22, Try.ntmps22
    go_wp2_with fail
    refine HG.out.mono ?_
    rintro e w1 ⟨rfl, hb⟩
    have HB1 := Lib.hid hb
    have HV1 := Lib.hid (HV.out.below hb)
    clear hb
    go_wp2_with fail
    refine (values_any _ _ _ _).mono ?_
    rintro e w2 ⟨rfl, hw2⟩
    have HS2 := Lib.hid (HSo.out w1 HV1.out)
    rw [← hw2] at HS2
    have HB2 : Hid (Below w.heap.size w w2) := Lib.hid (by rw [hw2]; exact HB1.out.trans ((below_one w1 _).mono HB1.out.size))
    clear hw2
    go_wp2_with fail
    refine HS2.out.mono ?_
    rintro e w3 ⟨u, rfl, ho, hb⟩
    have HRv := Lib.hid (rev_any _ u R w3 ho HL.out)
    have HO := Lib.hid ho
    have HB3 := Lib.hid (HB2.out.trans (hb.mono HB2.out.size))
    have HZ := Lib.hid hb.size
    obtain ⟨au, cu, rfl⟩ := own_form ho
    clear ho hb
    go_wp2_with fail
    refine HRv.out.mono ?_
    rintro e w4 ⟨rfl, ho, hgr⟩
    have HB4 : Hid (Below w.heap.size w w4) := Lib.hid (Below.span HB3.out ((Span.of_grown (hi := w3.heap.size) hgr fun k hk => ⟨row_base HO.out k hk, row_lt HO.out k hk⟩).lift HB2.out.size) HB3.out.size)
    have HX : Hid (RetL w R.reverse true (.returned (.tuple #[.slice au R.length cu, .bool true])) w4) := Lib.hid (by
      have := retL_of (w := w) (l := R.reverse) (ok := true) (v := .slice au R.length cu) (W := w4) (B := w2.heap.size) (by rw [List.length_reverse]; exact ho) HB2.out.size HB4.out
      exact this)
    clear ho hgr
    go_wp2_with fail
    go_ret2
    exact HX.out
end Go.Proofs.Ytalobfpmmembiaa
