/-
  What spec.LightestForce returns. No statement of the seat by itself.
-/
import Derived.Test.YtalobfpmmembiaaMLb
import Derived.Test.YtalobfpmmembiaaLaidRev
import Derived.Test.YtalobfpmmembiaaHSort
import Derived.Test.YtalobfpmmembiaaBadP
import Derived.Test.YtalobfpmmembiaaHeights
import Derived.Deep.RegionHeldLaw
import Derived.Test.YtalobfpmmembiaaMLe
import Derived.Test.YtalobfpmmembiaaClone
import Derived.BigQuiet
import Derived.Test.YtalobfpmmembiaaMLf
import Derived.Test.YtalobfpmmembiaaMLc
import Derived.Deep.RegionHeld3
namespace Go.Proofs.Ytalobfpmmembiaa
open Go.RowKit

/-- The weights in descending order. -/
def hvR (l : List Int) : List Int := if goodW l 4 = true then (srtI l).reverse else []
theorem hvR_len (l : List Int) : (hvR l).length ≤ 4 := by
  unfold hvR
  split
  · rename_i h
    rw [List.length_reverse, srtI_len]
    exact goodW_len h
  · simp
/-- slices.Sorted of the values of a list. -/
theorem sortedIL (a : Option Addr) (n c : Nat) (l : List Int) (hl : l.length = n) (hn : n ≤ 1000) (w : World) (h : IL w (.slice a n c) l) :
    Calls Try.prog 57 #[.func (.func 86) #[] #[.pointer (some ⟨w.heap.size, 0, none⟩)]] (w.alloc (.cells #[.slice a n c] 24)) (OneL (w.alloc (.cells #[.slice a n c] 24)) (srtI l)) := by
  have hb := below_one w (.cells #[.slice a n c] 24)
  have hS : (w.alloc (.cells #[.slice a n c] 24)).cell? ⟨w.heap.size, 0, none⟩ = some (.slice a n c) := cell_of (heap_alloc_new w _) rfl
  by_cases h0 : n = 0
  · refine sorted_any w.heap.size w.heap.size 0 c n a l hl hn _ (by simp) (by simp) hS (fun h => by omega) fun j x hx => ?_
    have := lt_of_get hx
    omega
  · obtain ⟨a', c', e, hc⟩ := h
    injection e with e1 e2 e3
    obtain ⟨g, off, e4, hg, hcc⟩ := hc (by omega)
    exact sorted_any w.heap.size g off c n a l hl hn _ (by simp) (Nat.lt_of_lt_of_le hg hb.size) hS (fun _ => e1.trans e4) fun j x hx => (hb.cell (p := ⟨g, off + j, none⟩) hg).trans (hcc j x hx)

set_option maxRecDepth 100000 in
set_option maxHeartbeats 4000000 in
theorem implHv_any (v : Value) (l : List Int) (hn : l.length ≤ 1048576) (w : World) (h : IL w v l) :
    Calls Try.prog 22 #[v] w (RetL w (hvR l) (goodW l 4)) := by
  have HG := Lib.hid (implValidC_any v l (by omega) w h)
  have HV := Lib.hid h
  obtain ⟨p, cap, rfl⟩ := h.form
  clear h
  cases hg : goodW l 4 with
  | false =>
    rw [hg] at HG
    rw [show hvR l = [] by simp [hvR, hg]]
    clear hg
    go_enter Try.func22, Try.ntmps22
    go_wp2_with fail
    refine HG.out.mono ?_
    rintro e w1 ⟨rfl, hb⟩
    have HX := Lib.hid (retL_of (l := []) (ok := false) (own_empty w1 (.cells #[] 3) 3 rfl) hb.size (hb.trans ((below_one w1 _).mono hb.size)))
    clear hb
    go_wp2_with fail
    go_ret2
    exact HX.out
  | true =>
    rw [hg] at HG
    rw [show hvR l = (srtI l).reverse by simp [hvR, hg]]
    have hl4 := goodW_len hg
    have HL : Hid ((srtI l).length ≤ 1000) := Lib.hid (by rw [srtI_len]; omega)
    have HSo := Lib.hid (fun W hW => sortedIL p l.length cap l rfl (by omega) W hW)
    clear hg
    generalize srtI l = R at *
    generalize l.length = n at *
    go_enter Try.func22, Try.ntmps22
    go_wp2_with fail
    refine HG.out.mono ?_
    rintro e w1 ⟨rfl, hb⟩
    have HB1 := Lib.hid hb
    have HV1 := Lib.hid (HV.out.below hb)
    clear hb
    go_wp2_with fail
    refine (values_any _ _ _ _).mono ?_
    rintro e w2 ⟨rfl, hw2⟩
    have HS2 := Lib.hid (HSo.out w1 HV1.out)
    rw [← hw2] at HS2
    have HB2 : Hid (Below w.heap.size w w2) := Lib.hid (by rw [hw2]; exact HB1.out.trans ((below_one w1 _).mono HB1.out.size))
    clear hw2
    go_wp2_with fail
    refine HS2.out.mono ?_
    rintro e w3 ⟨u, rfl, ho, hb⟩
    have HRv := Lib.hid (rev_any _ u R w3 ho HL.out)
    have HO := Lib.hid ho
    have HB3 := Lib.hid (HB2.out.trans (hb.mono HB2.out.size))
    have HZ := Lib.hid hb.size
    obtain ⟨au, cu, rfl⟩ := own_form ho
    clear ho hb
    go_wp2_with fail
    refine HRv.out.mono ?_
    rintro e w4 ⟨rfl, ho, hgr⟩
    have HB4 : Hid (Below w.heap.size w w4) := Lib.hid (Below.span HB3.out ((Span.of_grown (hi := w3.heap.size) hgr fun k hk => ⟨row_base HO.out k hk, row_lt HO.out k hk⟩).lift HB2.out.size) HB3.out.size)
    have HX : Hid (RetL w R.reverse true (.returned (.tuple #[.slice au R.length cu, .bool true])) w4) := Lib.hid (by
      have := retL_of (w := w) (l := R.reverse) (ok := true) (v := .slice au R.length cu) (W := w4) (B := w2.heap.size) (by rw [List.length_reverse]; exact ho) HB2.out.size HB4.out
      exact this)
    clear ho hgr
    go_wp2_with fail
    go_ret2
    exact HX.out

theorem each_all : ∀ n, EachN n
  | 0 => each_zero
  | n + 1 => each_succ n (each_all n)
theorem goodC_perm {P l : List Int} {a b c : Int} (h : P.Perm l) (hg : goodC l a b c = true) : goodC P a b c = true := by
  simp only [goodC, Bool.and_eq_true] at hg ⊢
  obtain ⟨g1, g2⟩ := goodW_iff.1 hg.1
  exact ⟨goodW_iff.2 ⟨by rw [h.length_eq]; exact g1, fun x hx => g2 x (h.mem_iff.1 hx)⟩, hg.2⟩
/-- What LightestForce answers. -/
def liR (l : List Int) (a b c : Int) : List Int := if goodC l a b c = true then (liP l b).1 else []
def liX (l : List Int) (a b c : Int) : Int := if goodC l a b c = true then (liP l b).2 else 0
theorem li_all {l : List Int} {a b c : Int} (hg : goodC l a b c = true) : (eoN (srtI l).length (srtI l)).foldl (stI (fsm b)) ([], 9223372036854775807) = liP l b ∧ (liP l b).1.Perm l ∧ (liP l b).2 = fsm b (liP l b).1 :=
  li_same l (srtI l) b _ (srtI_perm l) (srtI_asc l) (fun P hP => (fsm_facts (goodC_perm hP hg)).2.2.1) (fun P hP => by have := (fsm_facts (goodC_perm hP hg)).2.2.2; omega)
theorem liR_len (l : List Int) (a b c : Int) : (liR l a b c).length ≤ 4 := by
  unfold liR
  split
  · rename_i h
    rw [(li_all h).2.1.length_eq]
    simp only [goodC, Bool.and_eq_true] at h
    exact goodW_len h.1
  · simp
theorem LiS.start {w w2 : World} {a b c : Int} (top : Int) (hB : Below w.heap.size w w2) (hA : BoxR w2 w.heap.size a b c) :
    LiS (((w2.alloc (.cells #[] 3)).alloc (.cells #[.slice (some ⟨w2.heap.size, 0, none⟩) 0 0] 24)).alloc (.cells #[.int .i64 top] 3)) w.heap.size (w2.heap.size + 1) w.heap.size a b c ([], top) := by
  have b1 := below_one w2 (.cells #[] 3)
  have b2 := below_one (w2.alloc (.cells #[] 3)) (.cells #[.slice (some ⟨w2.heap.size, 0, none⟩) 0 0] 24)
  have b3 := below_one ((w2.alloc (.cells #[] 3)).alloc (.cells #[.slice (some ⟨w2.heap.size, 0, none⟩) 0 0] 24)) (.cells #[.int .i64 top] 3)
  have s1 : (w2.alloc (.cells #[] 3)).heap.size = w2.heap.size + 1 := by simp
  have s2 : ((w2.alloc (.cells #[] 3)).alloc (.cells #[.slice (some ⟨w2.heap.size, 0, none⟩) 0 0] 24)).heap.size = w2.heap.size + 1 + 1 := by simp
  have n2 := heap_alloc_new (w2.alloc (.cells #[] 3)) (.cells #[.slice (some ⟨w2.heap.size, 0, none⟩) 0 0] 24)
  have n3 := heap_alloc_new ((w2.alloc (.cells #[] 3)).alloc (.cells #[.slice (some ⟨w2.heap.size, 0, none⟩) 0 0] 24)) (.cells #[.int .i64 top] 3)
  rw [s1] at n2
  rw [s2] at n3
  have o1 := own_empty w2 (.cells #[] 3) 3 rfl
  have hz := hB.size
  have hA1 := hA.1
  refine ⟨((hA.below b1).below b2).below b3, ⟨by omega, by omega⟩, ⟨_, (b3.block _ (by rw [s2]; omega)).trans n2, ?_, fun g hg => ?_⟩, n3⟩
  · exact (row_below (row_below o1 b2) b3).mono hz
  · simp only [Value.ownBlock, Option.some.injEq] at hg
    omega
theorem retLX_len {w W : World} {B m : Nat} {a : Option Addr} {c : Nat} {R : List Int} {x : Int} {ok : Bool} (h : W.ownsRow B 3 1 (.slice a m c) m (intV R)) (hm : R.length = m) (hB : w.heap.size ≤ B) (hb : Below w.heap.size w W) : RetLX w R x ok (.returned (.tuple #[.slice a m c, .int .i64 x, .bool ok])) W := by
  subst hm
  exact ⟨a, c, rfl, lo_of_own h hB, hb⟩

set_option maxRecDepth 100000 in
set_option maxHeartbeats 8000000 in
theorem implLi_any (v : Value) (l : List Int) (a b c : Int) (hn : l.length ≤ 1048576) (w : World) (h : IL w v l) :
    Calls Try.prog 25 #[v, .agg #[.int .i64 a, .int .i64 b, .int .i64 c]] w (RetLX w (liR l a b c) (liX l a b c) (goodC l a b c)) := by
  have hB0 := below_one w (.cells #[.int .i64 a, .int .i64 b, .int .i64 c] 26)
  have BA := Lib.hid (BoxR.new w a b c 26)
  have HB := Lib.hid hB0
  have HG := Lib.hid (implValidC_any v l (by omega) _ (h.below hB0))
  obtain ⟨-, c0, c1, c2⟩ := BA.out
  have HV := Lib.hid h
  obtain ⟨p, cap, rfl⟩ := h.form
  clear h hB0
  cases hg : goodW l 4 with
  | false =>
    rw [hg] at HG
    rw [show goodC l a b c = false by simp [goodC, hg], show liR l a b c = [] by simp [liR, goodC, hg], show liX l a b c = 0 by simp [liX, goodC, hg]]
    clear hg
    go_enter Try.func25, Try.ntmps25
    go_wp2_with fail
    refine HG.out.mono ?_
    rintro e w1 ⟨rfl, hb⟩
    have HB1 := Lib.hid (HB.out.trans (hb.mono HB.out.size))
    clear hb c0 c1 c2
    go_wp2_with fail
    have HX := Lib.hid (retLX_len (R := []) (x := 0) (ok := false) (own_empty w1 (.cells #[] 3) 3 rfl) rfl HB1.out.size (HB1.out.trans ((below_one w1 _).mono HB1.out.size)))
    go_ret3
    exact HX.out
  | true =>
    rw [hg] at HG
    have HR := Lib.hid (implRules_any a b c)
    cases hx : okX a b c with
    | false =>
      rw [hx] at HR
      rw [show goodC l a b c = false by simp [goodC, hx], show liR l a b c = [] by simp [liR, goodC, hx], show liX l a b c = 0 by simp [liX, goodC, hx]]
      clear hg hx
      go_enter Try.func25, Try.ntmps25
      go_wp2_with fail
      refine HG.out.mono ?_
      rintro e w1 ⟨rfl, hb⟩
      have HB1 := Lib.hid (HB.out.trans (hb.mono HB.out.size))
      have BA1 := Lib.hid (BA.out.below hb)
      clear hb c0 c1 c2
      obtain ⟨-, c0, c1, c2⟩ := BA1.out
      go_wp2_with fail
      refine (HR.out _).mono ?_
      rintro e w2 ⟨rfl, hb⟩
      have HB2 := Lib.hid (HB1.out.trans (hb.mono HB1.out.size))
      clear hb c0 c1 c2
      go_wp2_with fail
      have HX := Lib.hid (retLX_len (R := []) (x := 0) (ok := false) (own_empty w2 (.cells #[] 3) 3 rfl) rfl HB2.out.size (HB2.out.trans ((below_one w2 _).mono HB2.out.size)))
      go_ret3
      exact HX.out
    | true =>
      rw [hx] at HR
      have hgc : goodC l a b c = true := by simp [goodC, hg, hx]
      have HGC := Lib.hid hgc
      have HLi := Lib.hid (li_all hgc)
      have hl4 := goodW_len hg
      have HSo := Lib.hid (fun W hW => sortedIL p l.length cap l rfl (by omega) W hW)
      rw [show goodC l a b c = true by simp [goodC, hg, hx], show liR l a b c = (liP l b).1 by simp [liR, hgc], show liX l a b c = (liP l b).2 by simp [liX, hgc]]
      have HEa := Lib.hid (each_all (srtI l).length)
      have HSP := Lib.hid (srtI_perm l)
      clear hg hx hgc hn
      generalize srtI l = S at *
      generalize liP l b = L at *
      go_enter Try.func25, Try.ntmps25
      go_wp2_with fail
      refine HG.out.mono ?_
      rintro e w1 ⟨rfl, hb⟩
      have HB1 := Lib.hid (HB.out.trans (hb.mono HB.out.size))
      have BA1 := Lib.hid (BA.out.below hb)
      clear hb c0 c1 c2
      obtain ⟨-, c0, c1, c2⟩ := BA1.out
      go_wp2_with fail
      refine (HR.out _).mono ?_
      rintro e w2 ⟨rfl, hb⟩
      have HB2 := Lib.hid (HB1.out.trans (hb.mono HB1.out.size))
      have BA2 := Lib.hid (BA1.out.below hb)
      clear hb c0 c1 c2
      go_wp2_with fail
      have HS0 := Lib.hid (LiS.start 9223372036854775807 HB2.out BA2.out)
      have HB3 := Lib.hid (HB2.out.trans ((((below_one w2 (.cells #[] 3)).trans ((below_one _ (.cells #[.slice (some ⟨w2.heap.size, 0, none⟩) 0 0] 24)).mono (by simp))).trans ((below_one _ (.cells #[.int .i64 9223372036854775807] 3)).mono (by simp; omega))).mono HB2.out.size))
      have hsz : (((w2.alloc (.cells #[] 3)).alloc (.cells #[.slice (some ⟨w2.heap.size, 0, none⟩) 0 0] 24)).alloc (.cells #[.int .i64 9223372036854775807] 3)).heap.size = w2.heap.size + 1 + 1 + 1 := by simp
      generalize ((w2.alloc (.cells #[] 3)).alloc (.cells #[.slice (some ⟨w2.heap.size, 0, none⟩) 0 0] 24)).alloc (.cells #[.int .i64 9223372036854775807] 3) = w3 at *
      have o4 := own_empty w3 (.cells #[] 3) 3 rfl
      rw [hsz] at o4
      have HO4 := Lib.hid (lo_from (l := []) o4 (Nat.le_refl _))
      have hb4 := below_one w3 (.cells #[] 3)
      have HS4 := Lib.hid (HS0.out.below hb4)
      have HB4 := Lib.hid (HB3.out.trans (hb4.mono HB3.out.size))
      have HV4 := Lib.hid (HV.out.below HB4.out)
      have Z4 : Hid (w2.heap.size + 1 + 1 + 1 ≤ (w3.alloc (.cells #[] 3)).heap.size) := Lib.hid (by rw [← hsz]; exact hb4.size)
      generalize w3.alloc (.cells #[] 3) = w4 at *
      clear o4 hb4 hsz
      refine (values_any _ _ _ _).mono ?_
      rintro e w5 ⟨rfl, hw5⟩
      have HSo5 := Lib.hid (HSo.out w4 HV4.out)
      have hb5 : Below w4.heap.size w4 w5 := by rw [hw5]; exact below_one w4 _
      rw [← hw5] at HSo5
      have HB5 := Lib.hid hb5
      clear hw5 hb5
      go_wp2_with fail
      refine HSo5.out.mono ?_
      rintro e w6 ⟨u, rfl, ho, hb⟩
      have HB6 := Lib.hid (HB5.out.trans (hb.mono HB5.out.size))
      have HO6 := Lib.hid (lo_from (B' := w2.heap.size + 1 + 2) ho (Nat.le_trans (by have := Z4.out; omega) HB5.out.size))
      have HO46 := Lib.hid (HO4.out.below HB6.out)
      have HS6 := Lib.hid (HS4.out.below HB6.out)
      clear ho hb
      have HE := Lib.hid (HEa.out w.heap.size (w2.heap.size + 1) w.heap.size _ _ a b c ([], 9223372036854775807) _ u [] S w6 rfl (fun P hP => goodC_perm (hP.trans HSP.out) HGC.out) HS6.out HO46.out HO6.out)
      rw [show (eoN S.length S).map (fun P => ([] : List Int) ++ P) = eoN S.length S by simp] at HE
      rw [HLi.out.1] at HE
      unfold visF at HE
      go_wp2_with fail
      refine HE.out.mono ?_
      rintro e w7 ⟨rfl, hS7, hp7⟩
      obtain ⟨ub, j1, j2, -⟩ := hS7.bst
      have HJ := Lib.hid j2
      have k0 := cell_of (i := 0) j1 rfl
      have k1 := cell_of (i := 0) hS7.sml rfl
      have HB7 : Hid (Below w.heap.size w w7) := Lib.hid (Below.span (HB4.out.trans (HB6.out.mono HB4.out.size)) (hp7.lift (by have := HS6.out.low; omega)) (HB4.out.trans (HB6.out.mono HB4.out.size)).size)
      clear hS7 hp7 j1 j2
      obtain ⟨r, hr⟩ : ∃ r, L.1.length = r := ⟨_, rfl⟩
      have HRr := Lib.hid hr
      rw [hr] at HJ
      clear hr
      obtain ⟨au, cu, rfl⟩ := own_form HJ.out
      go_wp2_with fail
      go_quiet (fail)
      have HX : Hid (RetLX w L.1 L.2 true _ (w7.drewN nq)) := Lib.hid (retLX_len (row_below HJ.out (below_drewN (Below.refl _ _) nq)) HRr.out (Nat.le_refl _) (below_drewN HB7.out nq))
      go_wp2_with fail
      go_ret3
      exact HX.out

theorem ord_all : ∀ n, OrdN n
  | 0 => ord_zero
  | n + 1 => ord_succ n (ord_all n)
theorem fold_next {f : List Int → Int} {L : List (List Int)} {s : List Int × Int} {k : Nat} {P : List Int} (h : L[k]? = some P) : (L.take (k + 1)).foldl (stS f) s = stS f ((L.take k).foldl (stS f) s) P := by
  rw [List.take_add_one, h, List.foldl_append]
  rfl
/-- While the orders are compared. -/
structure LsS (w W : World) (a b c : Int) (vb va : Value) (s : List Int × Int) (L : List (List Int)) : Prop where
  bel : Below w.heap.size w W
  rul : BoxR W w.heap.size a b c
  bst : W.ownsRow w.heap.size 3 1 vb s.1.length (intV s.1)
  all : ∃ B1, OrY W B1 w.heap.size va L
theorem LsS.below {w W W' : World} {a b c : Int} {vb va : Value} {s : List Int × Int} {L : List (List Int)} (h : LsS w W a b c vb va s L) (hb : Below W.heap.size W W') : LsS w W' a b c vb va s L := by
  obtain ⟨B1, h4⟩ := h.all
  exact ⟨h.bel.trans (hb.mono h.bel.size), h.rul.below hb, row_below h.bst hb, B1, h4.below hb⟩
theorem LsS.best {w W : World} {a b c : Int} {vb va u : Value} {s : List Int × Int} {L : List (List Int)} {P : List Int} (x : Int) (h : LsS w W a b c vb va s L) (hu : W.ownsRow w.heap.size 3 1 u P.length (intV P)) : LsS w W a b c u va (P, x) L := ⟨h.bel, h.rul, hu, h.all⟩

set_option maxRecDepth 100000 in
set_option maxHeartbeats 16000000 in
theorem specLi_any (v : Value) (l : List Int) (a b c : Int) (hn : l.length ≤ 1048576) (w : World) (h : IL w v l) :
    Calls Try.prog 26 #[v, .agg #[.int .i64 a, .int .i64 b, .int .i64 c]] w (RetLX w (liR l a b c) (liX l a b c) (goodC l a b c)) := by
  have hB0 := below_one w (.cells #[.int .i64 a, .int .i64 b, .int .i64 c] 26)
  have BA := Lib.hid (BoxR.new w a b c 26)
  have HB := Lib.hid hB0
  have HG := Lib.hid (l12Good_any v l hn _ (h.below hB0))
  obtain ⟨-, c0, c1, c2⟩ := BA.out
  have HV := Lib.hid h
  obtain ⟨p, cap, rfl⟩ := h.form
  clear h hB0
  cases hg : goodW l 4 with
  | false =>
    rw [hg] at HG
    rw [show goodC l a b c = false by simp [goodC, hg], show liR l a b c = [] by simp [liR, goodC, hg], show liX l a b c = 0 by simp [liX, goodC, hg]]
    clear hg
    go_enter Try.func26, Try.ntmps26
    go_wp2_with fail
    refine HG.out.mono ?_
    rintro e w1 ⟨rfl, hb⟩
    have HB1 := Lib.hid (HB.out.trans (hb.mono HB.out.size))
    clear hb c0 c1 c2
    go_wp2_with fail
    have HX := Lib.hid (retLX_len (R := []) (x := 0) (ok := false) (own_empty w1 (.cells #[] 3) 3 rfl) rfl HB1.out.size (HB1.out.trans ((below_one w1 _).mono HB1.out.size)))
    go_ret3
    exact HX.out
  | true =>
    rw [hg] at HG
    have HR := Lib.hid (specRules_any a b c)
    cases hx : okX a b c with
    | false =>
      rw [hx] at HR
      rw [show goodC l a b c = false by simp [goodC, hx], show liR l a b c = [] by simp [liR, goodC, hx], show liX l a b c = 0 by simp [liX, goodC, hx]]
      clear hg hx
      go_enter Try.func26, Try.ntmps26
      go_wp2_with fail
      refine HG.out.mono ?_
      rintro e w1 ⟨rfl, hb⟩
      have HB1 := Lib.hid (HB.out.trans (hb.mono HB.out.size))
      have BA1 := Lib.hid (BA.out.below hb)
      clear hb c0 c1 c2
      obtain ⟨-, c0, c1, c2⟩ := BA1.out
      go_wp2_with fail
      refine (HR.out _).mono ?_
      rintro e w2 ⟨rfl, hb⟩
      have HB2 := Lib.hid (HB1.out.trans (hb.mono HB1.out.size))
      clear hb c0 c1 c2
      go_wp2_with fail
      have HX := Lib.hid (retLX_len (R := []) (x := 0) (ok := false) (own_empty w2 (.cells #[] 3) 3 rfl) rfl HB2.out.size (HB2.out.trans ((below_one w2 _).mono HB2.out.size)))
      go_ret3
      exact HX.out
    | true =>
      rw [hx] at HR
      have hgc : goodC l a b c = true := by simp [goodC, hg, hx]
      have HGC := Lib.hid hgc
      have hl4 := goodW_len hg
      obtain ⟨-, hbb, -⟩ := okX_iff.1 hx
      have HBB := Lib.hid hbb
      rw [show goodC l a b c = true by simp [goodC, hg, hx], show liR l a b c = (liP l b).1 by simp [liR, hgc], show liX l a b c = (liP l b).2 by simp [liX, hgc]]
      have HLP : Hid (liP l b = (soN l l.length (List.replicate l.length false)).foldl (stS (fsm b)) ([], -1)) := Lib.hid rfl
      have HOr := Lib.hid (fun W vU vb hW hU hb hB => ord_all l.length w.heap.size W.heap.size l [] (List.replicate l.length false) (.slice p l.length cap) vU vb W (by rw [unu_none]) (by simp) (by simp) hl4 hW hU hb hB)
      have HMem : Hid (∀ P, P ∈ soN l l.length (List.replicate l.length false) → P.Perm l) := Lib.hid fun P hP => by
        have := (soN_mem l l.length _ P (by simp) (by rw [unu_none])).1 hP
        rwa [unu_none] at this
      have HBn : Hid ((soN l l.length (List.replicate l.length false)).length ≤ 256) := Lib.hid (Nat.le_trans (soN_bound l hl4 _ _) (Nat.pow_le_pow_right (by decide) hl4 : 4 ^ l.length ≤ 4 ^ 4))
      rw [HLP.out]
      simp only [List.nil_append, List.map_id'] at HOr
      obtain ⟨L, hL⟩ : ∃ L, soN l l.length (List.replicate l.length false) = L := ⟨_, rfl⟩
      rw [hL] at HMem HBn HOr ⊢
      obtain ⟨nl, hnl⟩ : ∃ nl, l.length = nl := ⟨_, rfl⟩
      have HNL := Lib.hid hnl
      rw [hnl] at HG HV HOr hl4 ⊢
      clear hg hx hgc hn hbb HLP hL hnl
      have hmk := fun W => make_bools nl (by omega) W
      go_enter Try.func26, Try.ntmps26
      go_wp2_with fail
      refine HG.out.mono ?_
      rintro e w1 ⟨rfl, hb⟩
      have HB1 := Lib.hid (HB.out.trans (hb.mono HB.out.size))
      have BA1 := Lib.hid (BA.out.below hb)
      clear hb c0 c1 c2
      obtain ⟨-, c0, c1, c2⟩ := BA1.out
      go_wp2_with fail
      refine (HR.out _).mono ?_
      rintro e w2 ⟨rfl, hb⟩
      have HB2 := Lib.hid (HB1.out.trans (hb.mono HB1.out.size))
      have BA2 := Lib.hid (BA1.out.below hb)
      clear hb c0 c1 c2
      obtain ⟨w3, m1, m2, m3⟩ := hmk w2
      clear hmk
      go_wp2_with fail
      have HB3 := Lib.hid (HB2.out.trans (m3.mono HB2.out.size))
      have HU3 : Hid (BO w3 (.slice (some ⟨w2.heap.size, 0, none⟩) nl nl) (List.replicate nl false)) := Lib.hid ⟨_, by rw [List.length_replicate]; exact m2⟩
      have BA3 := Lib.hid (BA2.out.below m3)
      clear m1 m2 m3
      have hb4 := below_one w3 (.cells #[] 3)
      have HO4 := Lib.hid (lo_from (l := []) (B' := w.heap.size) (own_empty w3 (.cells #[] 3) 3 rfl) HB3.out.size)
      have HB4 := Lib.hid (HB3.out.trans (hb4.mono HB3.out.size))
      have HU4 := Lib.hid (HU3.out.below hb4)
      have BA4 := Lib.hid (BA3.out.below hb4)
      have HOr4 := Lib.hid (HOr.out _ _ _ (HV.out.below HB4.out) HU4.out HO4.out HB4.out.size)
      clear hb4
      generalize w3.alloc (.cells #[] 3) = w4 at *
      refine HOr4.out.mono ?_
      rintro e w5 ⟨va, rfl, hY, hb⟩
      have BA5 := Lib.hid (BA4.out.below hb)
      have HB5 := Lib.hid (HB4.out.trans (hb.mono HB4.out.size))
      have HY5 := Lib.hid hY
      obtain ⟨ga, ca, hva⟩ : ∃ ga ca, va = .slice ga L.length ca := by
        obtain ⟨us, q, _⟩ := hY
        exact own_form q
      subst hva
      have HS6 : Hid (LsS w (w5.alloc (.cells #[] 3)) a b c (.slice (some ⟨w5.heap.size, 0, none⟩) 0 0) (.slice ga L.length ca) ((L.take 0).foldl (stS (fsm b)) ([], -1)) L) := Lib.hid ⟨HB5.out.trans ((below_one w5 _).mono HB5.out.size), BA5.out.below (below_one w5 _), (own_empty w5 (.cells #[] 3) 3 rfl).mono HB5.out.size, _, HY5.out.below (below_one w5 _)⟩
      clear hY hb
      obtain ⟨m, hm⟩ : ∃ m, L.length = m := ⟨_, rfl⟩
      have HM := Lib.hid hm
      have hm2 : m ≤ 256 := by rw [← hm]; exact HBn.out
      rw [hm] at HS6 ⊢
      clear hm
      go_wp2_with fail
      go_loopw [8, 9, 10] (fun bb ss ii wr => ∃ (k : Nat) (x : Int), k ≤ m ∧ ii = .int .i64 k ∧ ss = .int .i64 x ∧ Hid (x = ((L.take k).foldl (stS (fsm b)) ([], -1)).2) ∧ Hid (LsS w wr a b c bb (.slice ga m ca) ((L.take k).foldl (stS (fsm b)) ([], -1)) L) ∧ Hid (x < 0 ∨ ((L.take k).foldl (stS (fsm b)) ([], -1)).1.length = nl) ∧ Hid (x ≤ 1000000000)) (fun _ _ ii _ => m - (intOf ii).toNat)
      case atStart => exact ⟨0, -1, Nat.zero_le _, rfl, rfl, Lib.hid rfl, HS6, Lib.hid (.inl (by decide)), Lib.hid (by decide)⟩
      case round =>
        obtain ⟨k, x, hk, rfl, rfl, HXx, HS, HLn, HX9⟩ := hrel
        rename World => wr
        by_cases hlt : k < m
        · obtain ⟨P, hP⟩ := get_at HM.out hlt
          have hPp := HMem.out P (List.mem_of_getElem? hP)
          have hPg := goodC_perm hPp HGC.out
          obtain ⟨-, -, f1, f2⟩ := fsm_facts hPg
          have hPl : P.length = nl := hPp.length_eq.trans HNL.out
          have HPl := Lib.hid hPl
          have HFN := Lib.hid (fold_next (f := fsm b) (s := ([], -1)) hP)
          obtain ⟨B1, hY⟩ := HS.out.all
          obtain ⟨g, cg, u, eg, hgs, ku, hu⟩ := hY.row hP
          rw [HM.out] at eg
          injection eg with eg1 _ eg3
          subst eg1 eg3
          have HU := Lib.hid hu
          obtain ⟨pu, cu, rfl⟩ := own_form hu
          rw [hPl] at ku HU
          have hPg8 : goodW P 8 = true := by
            simp only [goodC, Bool.and_eq_true] at hPg
            exact goodW_mono hPg.1 (by decide)
          have hPw : ∀ y ∈ frcs b P P.length, 0 ≤ y ∧ y ≤ 1000000000 := (fsm_facts hPg).1
          have hP8 : (frcs b P P.length).length ≤ 8 := (fsm_facts hPg).2.1
          have HIu := Lib.hid (il_of_owns hu)
          rw [hPl] at HIu
          have HFo := Lib.hid (fun W (hb : Below wr.heap.size wr W) => l12Forces_any (.slice pu nl cu) P b hPg8 HBB.out W (HIu.out.below hb))
          have HSm := Lib.hid (fun u2 W hW => by have := l12Sum_any u2 (frcs b P P.length) 0 hP8 (Nat.zero_le _) hPw W hW; rwa [List.drop_zero] at this)
          rw [show (frcs b P P.length).sum = fsm b P from rfl] at HSm
          unfold NewI at HFo
          have HSt : Hid (stS (fsm b) ((L.take k).foldl (stS (fsm b)) ([], -1)) P = if (x < 0 ∨ fsm b P < x) ∨ (fsm b P = x ∧ bef P ((L.take k).foldl (stS (fsm b)) ([], -1)).1 = true) then (P, fsm b P) else (L.take k).foldl (stS (fsm b)) ([], -1)) := Lib.hid (by rw [HXx.out]; rfl)
          rw [← HFN.out] at HSt
          obtain ⟨-, c0, c1, c2⟩ := HS.out.rul
          have hx9 := HX9.out
          have HGs := Lib.hid hgs
          have HRl := Lib.hid HS.out.rul.1
          clear hPp hPg hPl hY hu hPg8 hPw hP8 hP hgs
          generalize frcs b P P.length = F at *
          obtain ⟨fx, hfx⟩ : ∃ fx, fsm b P = fx := ⟨_, rfl⟩
          rw [hfx] at HSm HSt f1 f2
          clear hfx
          obtain ⟨s0, hs0⟩ : ∃ s0, (L.take k).foldl (stS (fsm b)) ([], -1) = s0 := ⟨_, rfl⟩
          rw [hs0] at HSt HS HLn HXx
          clear hs0 c0 c2
          go_wp2_with fail
          have ku' : wr.drew.cell? ⟨g, k, none⟩ = some (.slice pu nl cu) := ku
          have c1' : wr.drew.cell? ⟨w.heap.size, 1, none⟩ = some (.int .i64 b) := c1
          go_region_held3 (fun W => W.cell? ⟨g, k, none⟩ = some (.slice pu nl cu) ∧ W.cell? ⟨w.heap.size, 1, none⟩ = some (.int .i64 b)) (go_keep) (first | (go_at_call 54; refine (HFo.out _ (Below.refl _ wr).drew).mono ?_; rintro e w6 ⟨a6, k6, rfl, ho6, hb6⟩; have x0 := (hb6.cell (p := ⟨g, k, none⟩) HGs.out).trans ku; have x1 := (hb6.cell (p := ⟨w.heap.size, 1, none⟩) HRl.out).trans c1) | (go_at_call 63; refine (HSm.out _ _ (il_of_owns ho6)).mono ?_; rintro e w7 ⟨rfl, rfl⟩))
          have HS7 := Lib.hid (HS.out.below ((Below.refl _ wr).drew.trans hb6))
          have HU7 := Lib.hid (row_below HU.out ((Below.refl _ wr).drew.trans hb6))
          clear ho6 hb6 ku c1 ku' c1' x1
          by_cases q1 : x < 0
          · have HN9 := Lib.hid (HS7.out.best fx (P := P) (by rw [HPl.out]; exact HU7.out))
            have HF9 : Hid ((L.take (k + 1)).foldl (stS (fsm b)) ([], -1) = (P, fx)) := Lib.hid (by rw [HSt.out, if_pos (.inl (.inl q1))])
            clear HSt
            go_wp2_with fail
            exact ⟨⟨k + 1, fx, by omega, by go_num, rfl, Lib.hid (by rw [HF9.out]), Lib.hid (by rw [HF9.out]; exact HN9.out), Lib.hid (.inr (by rw [HF9.out]; exact HPl.out)), Lib.hid (by omega)⟩, by simp [intOf]; omega⟩
          · by_cases q2 : fx < x
            · have HN9 := Lib.hid (HS7.out.best fx (P := P) (by rw [HPl.out]; exact HU7.out))
              have HF9 : Hid ((L.take (k + 1)).foldl (stS (fsm b)) ([], -1) = (P, fx)) := Lib.hid (by rw [HSt.out, if_pos (.inl (.inr q2))])
              clear HSt
              go_wp2_with fail
              exact ⟨⟨k + 1, fx, by omega, by go_num, rfl, Lib.hid (by rw [HF9.out]), Lib.hid (by rw [HF9.out]; exact HN9.out), Lib.hid (.inr (by rw [HF9.out]; exact HPl.out)), Lib.hid (by omega)⟩, by simp [intOf]; omega⟩
            · by_cases q3 : fx = x
              · have hlen : s0.1.length = nl := by
                  rcases HLn.out with q | q
                  · omega
                  · exact q
                have hbest := HS7.out.bst
                have HBf := Lib.hid (l12Before_any (.slice pu nl cu) _ P s0.1 (by rw [HPl.out, hlen]) (by rw [HPl.out]; omega) _ (il_of_owns HU7.out) (il_of_owns hbest))
                subst q3
                have hee : ((fx : Int) == fx) = true := by simp
                obtain ⟨pb, cb, hpb⟩ := own_form hbest
                rw [hlen] at hpb
                subst hpb
                clear hbest hlen
                cases hbf : bef P s0.1 with
                | true =>
                  rw [hbf] at HBf
                  have HF9 : Hid ((L.take (k + 1)).foldl (stS (fsm b)) ([], -1) = (P, fx)) := Lib.hid (by rw [HSt.out, if_pos (.inr ⟨rfl, hbf⟩)])
                  clear HSt hbf
                  go_wp2_with fail
                  refine HBf.out.mono ?_
                  rintro e w8 ⟨rfl, hb8⟩
                  have HN9 := Lib.hid ((HS7.out.best fx (P := P) (by rw [HPl.out]; exact HU7.out)).below hb8)
                  have x8 := (hb8.cell (p := ⟨g, k, none⟩) (World.block_lt_of_cell? _ _ x0)).trans x0
                  clear hb8 x0
                  go_wp2_with fail
                  exact ⟨⟨k + 1, fx, by omega, by go_num, rfl, Lib.hid (by rw [HF9.out]), Lib.hid (by rw [HF9.out]; exact HN9.out), Lib.hid (.inr (by rw [HF9.out]; exact HPl.out)), Lib.hid (by omega)⟩, by simp [intOf]; omega⟩
                | false =>
                  rw [hbf] at HBf
                  have HF9 : Hid ((L.take (k + 1)).foldl (stS (fsm b)) ([], -1) = s0) := Lib.hid (by rw [HSt.out, if_neg]; rintro ((q | q) | q) <;> first | omega | (rw [hbf] at q; exact absurd q.2 (by simp)))
                  clear HSt hbf
                  go_wp2_with fail
                  refine HBf.out.mono ?_
                  rintro e w8 ⟨rfl, hb8⟩
                  have HN9 := Lib.hid (HS7.out.below hb8)
                  clear hb8 x0
                  go_wp2_with fail
                  exact ⟨⟨k + 1, fx, by omega, by go_num, rfl, Lib.hid (by rw [HF9.out]; exact HXx.out), Lib.hid (by rw [HF9.out]; exact HN9.out), Lib.hid (by rw [HF9.out]; exact HLn.out), Lib.hid (by omega)⟩, by simp [intOf]; omega⟩
              · have HF9 : Hid ((L.take (k + 1)).foldl (stS (fsm b)) ([], -1) = s0) := Lib.hid (by rw [HSt.out, if_neg]; rintro ((q | q) | q) <;> omega)
                have hee : ((fx : Int) == x) = false := by simpa using q3
                clear HSt
                go_wp2_with fail
                exact ⟨⟨k + 1, x, by omega, by go_num, rfl, Lib.hid (by rw [HF9.out]; exact HXx.out), Lib.hid (by rw [HF9.out]; exact HS7.out), Lib.hid (by rw [HF9.out]; exact HLn.out), Lib.hid (by omega)⟩, by simp [intOf]; omega⟩
        · obtain rfl : k = m := by omega
          have HT : Hid (L.take k = L) := Lib.hid (List.take_of_length_le (by have := HM.out; omega))
          have hbest := HS.out.bst
          rw [HT.out] at hbest HXx
          obtain ⟨r, hr⟩ : ∃ r, (L.foldl (stS (fsm b)) ([], -1)).1.length = r := ⟨_, rfl⟩
          rw [hr] at hbest
          obtain ⟨pb, cb, rfl⟩ := own_form hbest
          have HX : Hid (RetLX w (L.foldl (stS (fsm b)) ([], -1)).1 (L.foldl (stS (fsm b)) ([], -1)).2 true (.returned (.tuple #[.slice pb r cb, .int .i64 x, .bool true])) wr) := Lib.hid (by
            have := retLX_len (w := w) (ok := true) (x := x) hbest hr (Nat.le_refl _) HS.out.bel
            rw [HXx.out] at this ⊢
            exact this)
          clear hbest hr
          go_wp2_with fail
          go_ret3
          exact HX.out
end Go.Proofs.Ytalobfpmmembiaa
