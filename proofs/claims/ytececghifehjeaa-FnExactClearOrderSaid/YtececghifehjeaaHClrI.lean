/-
  What impl.ClearOrder returns. No statement of the seat by itself.
-/
import Derived.Test.YtececghifehjeaaHClrS
import Derived.Test.YtececghifehjeaaHOvI
import Derived.Test.YtececghifehjeaaHSort
import Derived.WalkMore
namespace Go.Proofs.Ytececghifehjeaa
open Go.RowKit

theorem place_uniq {Y : List (List Int)} (hn : Y.flatten.Nodup) {j k : Nat} {r : List Int} {y : Int} (hr : Y[j]? = some r) (hy : r[k]? = some y) : placeY Y y = some (j, k) := by
  cases hp : placeY Y y with
  | none => exact absurd (List.mem_of_getElem? hy) (atL_not (place_not hp j r hr))
  | some p =>
    obtain ⟨i, t⟩ := p
    obtain ⟨l, hl, hat⟩ := place_inv hp
    obtain ⟨e1, e2⟩ := flat_uniq hn hl (atL_get hat) hr hy
    rw [e1, e2]
theorem flat_at {Y : List (List Int)} {x : Int} (h : x ∈ Y.flatten) : ∃ (j k : Nat) (r : List Int), Y[j]? = some r ∧ r[k]? = some x := by
  obtain ⟨r, hr, hx⟩ := List.mem_flatten.1 h
  obtain ⟨j, hj⟩ := List.mem_iff_getElem?.1 hr
  obtain ⟨k, hk⟩ := List.mem_iff_getElem?.1 hx
  exact ⟨j, k, r, hj, hk⟩
/-- Whether a number can be taken next. -/
def candN (Y : List (List Int)) (O : List Int) (y : Int) : Prop := ovN Y y O = 0 ∧ ¬ y ∈ O
/-- The first number that can be taken, in ascending order, is the smallest top. -/
theorem rem_first {Y R : List (List Int)} {O : List Int} (h : Rem Y R O) (hn : Y.flatten.Nodup) {k : Nat} {x : Int} (hx : (srtI Y.flatten)[k]? = some x) (hc : candN Y O x) (hno : ∀ (j : Nat) (y : Int), j < k → (srtI Y.flatten)[j]? = some y → ¬ candN Y O y) :
    ∃ b l' q, bestI R R.length = some b ∧ R[b]? = some l' ∧ l'.length = q + 1 ∧ l'[q]? = some x := by
  obtain ⟨i, t, l, hl, ht⟩ := flat_at ((srtI_mem _ _).1 (List.mem_of_getElem? hx))
  have h0 : ovC l t O = 0 := by
    have := hc.1
    rw [ovN_of (place_uniq hn hl ht) hl] at this
    omega
  refine h.best hn hl ht h0 hc.2 fun j q r y hr hy hz hm => ?_
  have hmem : y ∈ srtI Y.flatten := (srtI_mem _ _).2 (flat_mem hr hy)
  obtain ⟨p, hp⟩ := List.mem_iff_getElem?.1 hmem
  have hcy : candN Y O y := ⟨by rw [ovN_of (place_uniq hn hr hy) hr, hz]; rfl, hm⟩
  rcases Nat.lt_or_ge p k with h1 | h1
  · exact absurd hcy (hno p y h1 hp)
  · rcases Nat.eq_or_lt_of_le h1 with e | h2
    · subst e
      rw [hx] at hp
      cases hp
      exact Int.le_refl _
    · have hk := lt_of_get hx
      have hpl := lt_of_get hp
      have := List.pairwise_iff_getElem.1 (srtI_asc Y.flatten) k p hk hpl h2
      rw [List.getElem?_eq_getElem hk] at hx
      rw [List.getElem?_eq_getElem hpl] at hp
      rw [Option.some.inj hx, Option.some.inj hp] at this
      exact this
theorem rem_last {Y R : List (List Int)} {O : List Int} (h : Rem Y R O) (hn : Y.flatten.Nodup) (hno : ∀ (j : Nat) (y : Int), (srtI Y.flatten)[j]? = some y → ¬ candN Y O y) : bestI R R.length = none := by
  refine h.none fun j q r y hr hy hz => ?_
  have hmem : y ∈ srtI Y.flatten := (srtI_mem _ _).2 (flat_mem hr hy)
  obtain ⟨p, hp⟩ := List.mem_iff_getElem?.1 hmem
  by_cases hm : y ∈ O
  · exact hm
  · exact absurd ⟨by rw [ovN_of (place_uniq hn hr hy) hr, hz]; rfl, hm⟩ (hno p y hp)

/-- While the order grows: the order, all numbers, and the bay's box. -/
structure OrS (w wr : World) (hh : Int) (v0 : Value) (lo hi : Nat) (vN : Value) (N : List Int) (sv : Value) (m : Nat) (O : List Int) : Prop where
  own : wr.ownsRow (w.heap.size + 1) 3 1 sv m (intV O)
  apt : ∀ b, sv.ownBlock = some b → b < lo ∨ hi ≤ b
  num : wr.ownsRow lo 3 1 vN N.length (intV N)
  nlt : ∀ b, vN.ownBlock = some b → b < hi
  box : Box2 wr w.heap.size hh v0
  bl : Below w.heap.size w wr
  hlo : w.heap.size + 1 < lo
  hhi : hi ≤ wr.heap.size
section
variable {w wr W w4 : World} {hh : Int} {v0 vN sv : Value} {lo hi m : Nat} {N O : List Int}
theorem OrS.below (h : OrS w wr hh v0 lo hi vN N sv m O) (hb : Below wr.heap.size wr W) : OrS w W hh v0 lo hi vN N sv m O :=
  ⟨row_below h.own hb, h.apt, row_below h.num hb, h.nlt, h.box.below hb, h.bl.trans (hb.mono h.bl.size), h.hlo, Nat.le_trans h.hhi hb.size⟩
theorem OrS.push {o : Obj} {v' : Value} {x : Int} (h : OrS w wr hh v0 lo hi vN N sv m O) (ho : w4.ownsRow (w.heap.size + 1) 3 1 v' (m + 1) (intV O ++ [.int .i64 x])) (hg : (wr.alloc o).grownBy w4 sv.ownBlock) (hf : OneForm (wr.alloc o) w4 sv v' m) :
    OrS w w4 hh v0 lo hi vN N v' (m + 1) (O ++ [x]) := by
  have hb := below_one wr o
  have h1 := h.below hb
  have hhi := h.hhi
  refine ⟨by simpa [intV] using ho, fun b hv => ?_, ?_, h.nlt, box2_outside h1.box hg fun e => ?_, h1.bl.grown hg h1.bl.size fun j e => by have := row_base h.own j e; omega, h.hlo, Nat.le_trans h1.hhi hg.size⟩
  · rcases hf with ⟨g', cap, e1, e2, -⟩ | ⟨e1, -⟩
    · exact h.apt b (by rw [e1]; rw [e2] at hv; exact hv)
    · rw [e1] at hv
      cases hv
      exact .inr (by simp; omega)
  · refine h1.num.kept hg ?_
    cases hs : sv.ownBlock with
    | none => 
      cases hv : vN.ownBlock with
      | none => exact .inl rfl
      | some b => exact .inr (by simp)
    | some b =>
      refine .inr fun e => ?_
      have h2 := h.apt b hs
      have h3 := h.nlt b e
      have h4 := row_base h.num b e
      omega
  · have := row_base h.own _ e
    omega
end
theorem il_any {W : World} {a : Option Addr} {m c : Nat} {L : List Int} (h : IL W (.slice a m c) L) (hm : L.length = m) (h0 : 0 < W.heap.size) : ∃ g off, g < W.heap.size ∧ (0 < m → a = some ⟨g, off, none⟩) ∧ ∀ (j : Nat) (x : Int), L[j]? = some x → W.cell? ⟨g, off + j, none⟩ = some (.int .i64 x) := by
  obtain ⟨a', c', e, h⟩ := h
  injection e with e1 e2 e3
  subst e1
  by_cases hz : 0 < L.length
  · obtain ⟨g, off, e, hg, hc⟩ := h hz
    exact ⟨g, off, hg, fun _ => e, hc⟩
  · exact ⟨0, 0, h0, fun h => by omega, fun j x hx => by have := lt_of_get hx; omega⟩

set_option maxRecDepth 100000 in
set_option maxHeartbeats 16000000 in
theorem implClr_any (v : Value) (hh : Int) (Y : List (List Int)) (B hi : Nat) (h1 : Y.length ≤ 1048576) (h2 : tot Y ≤ 1048576) (w : World) (h : BdO w B hi v hh Y) :
    Calls Try.prog 38 #[v] w (RetL w (clrR hh Y) (goodB hh Y)) := by
  obtain ⟨v0, rfl, hv⟩ := h
  have S0 := Lib.hid (OvS.start (Box2.new w hh v0 54) (below_one w (.cells #[.int .i64 hh, v0] 54)))
  rw [show (w.alloc (.cells #[.int .i64 hh, v0] 54)).heap.size = w.heap.size + 1 by simp] at S0
  have HG := Lib.hid (goodB_impl (.agg #[.int .i64 hh, v0]) hh Y h1 h2 _ ⟨v0, rfl, hv.yl.below S0.out.bl⟩)
  have c0 := S0.out.box.2.1
  have c0b := S0.out.box.2.2
  cases hg : goodB hh Y with
  | false =>
    have HX : Hid (clrR hh Y = []) := Lib.hid (by simp [clrR, hg])
    rw [hg] at HG
    clear hg h1 h2 hv
    go_enter Try.func38, Try.ntmps38
    go_wp2_with fail
    go_step3
    go_wp2_with fail
    generalize (w.alloc (.cells #[.int .i64 hh, v0] 54)).alloc (.cells #[] 3) = w0 at *
    refine HG.out.mono ?_
    rintro e w1 ⟨rfl, hb⟩
    have S1 := Lib.hid (S0.out.below hb)
    clear hb c0 c0b
    go_wp2_with fail
    try rw [Exit.noGoto_ret]
    go_ret2
    rw [HX.out]
    exact retL_of (by simpa using S1.out.own) (Nat.le_succ _) S1.out.bl
  | true =>
    obtain ⟨g1, g5, g4, gS⟩ := goodB_rows hg
    have HNd := Lib.hid gS.2
    have HX : Hid (clrR hh Y = clr (tot Y) Y) := Lib.hid (by simp [clrR, hg])
    have htot := (goodB_small hg).2
    obtain ⟨n, hn⟩ : ∃ n, Y.length = n := ⟨_, rfl⟩
    have HN := Lib.hid hn
    have HI0 : Hid (ClI Y n 0 Y []) := Lib.hid ⟨rfl, hn, g4, by omega⟩
    have HCat : Hid (∀ W, Below w.heap.size w W → Calls Try.prog 105 #[v0] W (OneL W Y.flatten)) := Lib.hid fun W hb => concat_any v0 Y (by omega) (by omega) W (hv.yl.below hb)
    have HCnt : Hid (∀ y T u W, T.length ≤ 1048576 → Below w.heap.size w W → IL W u T → Calls Try.prog 98 #[.agg #[.int .i64 hh, v0], .int .i64 y, u] W (RetP W (.tuple #[.int .i64 (ovN Y y T), .bool (pcB Y y)]))) := Lib.hid fun y T u W hT hb hu => countOv_any _ _ hh Y y T B hi h1 h2 hT hg W ⟨v0, rfl, hv.below hb⟩ hu
    have hfl : Y.flatten.length = tot Y := by simp [tot, List.length_flatten]
    obtain ⟨ty, hty⟩ : ∃ ty, tot Y = ty := ⟨_, rfl⟩
    have HTY := Lib.hid hty
    rw [hty] at htot hfl
    have HFL := Lib.hid hfl
    rw [hg] at HG
    clear hg hn h1 h2 g4 hty hv gS hfl
    go_enter Try.func38, Try.ntmps38
    go_wp2_with fail
    go_step3
    go_wp2_with fail
    generalize (w.alloc (.cells #[.int .i64 hh, v0] 54)).alloc (.cells #[] 3) = w0 at *
    refine HG.out.mono ?_
    rintro e w1 ⟨rfl, hb⟩
    have S1 := Lib.hid (S0.out.below hb)
    have c1 := S1.out.box.2.1
    have c1b := S1.out.box.2.2
    have HZ1 : Hid (w.heap.size + 1 < w1.heap.size) := Lib.hid (by have h9 : w.heap.size + 1 < w0.heap.size := row_lt S0.out.own _ rfl; have := hb.size; omega)
    clear hb c0 c0b
    go_wp2_with fail
    refine (HCat.out _ S1.out.bl).mono ?_
    rintro e w2 ⟨v1, rfl, ho1, hb⟩
    obtain ⟨a1, k1, rfl⟩ := own_form ho1
    have S2 := Lib.hid (S1.out.below hb)
    have O2 := Lib.hid ho1
    have HZ2 := Lib.hid hb.size
    rw [HFL.out] at O2
    clear hb ho1 c1 c1b
    rw [HFL.out]
    go_wp2_with fail
    refine (values_any _ _ _ _).mono ?_
    rintro e w3 ⟨rfl, hw3⟩
    have hb3 : Below w2.heap.size w2 w3 := by rw [hw3]; exact below_one _ _
    have HB3 := Lib.hid hb3
    obtain ⟨g, off, hgl, hA, hC⟩ := il_any (L := Y.flatten) (il_of_owns O2.out) HFL.out (by have := HZ2.out; have := HZ1.out; omega)
    have HSo := Lib.hid (sorted_any w2.heap.size g off k1 ty a1 Y.flatten HFL.out (by omega) w3 (by rw [hw3]; simp) (Nat.lt_of_lt_of_le hgl hb3.size) (by rw [hw3]; exact cell_of (heap_alloc_new w2 _) rfl) hA fun j x hx => (hb3.cell (p := ⟨g, off + j, none⟩) hgl).trans (hC j x hx))
    have S3 := Lib.hid (S2.out.below hb3)
    clear hw3 hb3 hgl hA hC
    go_wp2_with fail
    refine HSo.out.mono ?_
    rintro e w4 ⟨vN, rfl, hoN, hb4⟩
    obtain ⟨aN, cN, rfl⟩ := own_form hoN
    have HS0 : Hid (OrS w w4 hh v0 w1.heap.size w4.heap.size (.slice aN (srtI Y.flatten).length cN) (srtI Y.flatten) (.slice (some ⟨w.heap.size + 1, 0, none⟩) 0 0) 0 []) := Lib.hid (by
      have S4 := S3.out.below hb4
      refine ⟨S4.own, fun b hb => ?_, hoN.mono (Nat.le_trans HZ2.out HB3.out.size), fun b hb => row_lt hoN b hb, S4.box, S4.bl, HZ1.out, Nat.le_refl _⟩
      have e : w.heap.size + 1 = b := (by simpa [Value.ownBlock] using hb)
      have := HZ1.out
      omega)
    have HNl : Hid ((srtI Y.flatten).length = ty) := Lib.hid (by rw [srtI_len]; exact HFL.out)
    rw [HNl.out] at HS0 ⊢
    generalize w1.heap.size = lo at *
    generalize w4.heap.size = hj at *
    clear hoN hb4 S3 S2 S1 S0 HZ1 HZ2 HB3 O2 HSo
    go_wp2_with fail
    go_step3
    go_wp2_with fail
    go_loopw [4] (fun s wr => ∃ (m : Nat) (R : List (List Int)) (O : List Int), lenV s = m ∧ m ≤ ty ∧ Hid (OrS w wr hh v0 lo hj (.slice aN ty cN) (srtI Y.flatten) s m O) ∧ Hid (ClI Y n m R O) ∧ Hid (Rem Y R O)) (fun s _ => ty - lenV s)
    case atStart => exact ⟨0, Y, [], rfl, Nat.zero_le _, HS0, HI0, Lib.hid (Rem.start Y)⟩
    case round =>
      obtain ⟨m, R, O, hlv, hmt, HS, HI, HRm⟩ := hrel
      rename World => wo
      go_wp2_with fail
      go_loopw [4, 22] (fun s ii wr => ∃ j : Nat, j ≤ ty ∧ ii = .int .i64 j ∧ s = u4 ∧ Hid (OrS w wr hh v0 lo hj (.slice aN ty cN) (srtI Y.flatten) s m O) ∧ Hid (∀ (i : Nat) (y : Int), i < j → (srtI Y.flatten)[i]? = some y → ¬ candN Y O y)) (fun _ ii _ => ty - (intOf ii).toNat)
      case atStart => exact ⟨0, Nat.zero_le _, rfl, rfl, HS, Lib.hid fun i y hi => by omega⟩
      case round =>
        obtain ⟨j, hj1, rfl, rfl, HS1, HNo⟩ := hrel
        rename World => wi
        obtain ⟨aO, cO, hO⟩ := own_form HS1.out.own
        subst hO
        by_cases hjt : j < ty
        · obtain ⟨x, hx⟩ := get_at (Y := srtI Y.flatten) (k := j) HNl.out hjt
          have hnum := HS1.out.num
          obtain ⟨gN, oN, hgN, hAN, hCN⟩ := il_any (L := srtI Y.flatten) (il_of_owns hnum) HNl.out (by have := HS1.out.box.1; omega)
          obtain rfl := hAN (by omega)
          have hxc := hCN j x hx
          have hjI : (j : Int) < (ty : Int) := by omega
          obtain ⟨i, t, l, hl, ht⟩ := flat_at ((srtI_mem _ _).1 (List.mem_of_getElem? hx))
          have hp := place_uniq HNd.out hl ht
          have hOl : O.length = m := by have := HS1.out.own.1; rw [intV_len] at this; omega
          have HOl := Lib.hid hOl
          have HCx := Lib.hid (HCnt.out x O (.slice aO m cO) wi (by omega) HS1.out.bl (il_of_owns HS1.out.own))
          rw [(pc_some hp).2.2] at HCx
          have c0 := HS1.out.box.2.1
          have c0b := HS1.out.box.2.2
          have HX0 := Lib.hid hx
          obtain ⟨ov, hov⟩ : ∃ ov, ovN Y x O = ov := ⟨_, rfl⟩
          have HOV := Lib.hid hov
          rw [hov] at HCx
          clear hnum hgN hAN hCN hl ht hp hx hov hOl
          go_wp2_with fail
          refine HCx.out.mono ?_
          rintro e w5 ⟨rfl, hb⟩
          have HS2 := Lib.hid (HS1.out.below hb)
          clear hb c0 c0b hxc
          by_cases h0 : ov = 0
          · have hb0 : (ov == 0) = true := by simp [h0]
            have HH := Lib.hid (contains_any (.slice aO m cO) O x (by rw [HOl.out]; unfold maxLen; omega) w5 (il_of_owns HS2.out.own))
            by_cases hm : x ∈ O
            · have HNo2 : Hid (∀ (i : Nat) (y : Int), i < j + 1 → (srtI Y.flatten)[i]? = some y → ¬ candN Y O y) := Lib.hid fun i y hi hy hc => by
                by_cases e : i = j
                · subst e
                  rw [HX0.out] at hy
                  cases hy
                  exact hc.2 hm
                · exact HNo.out i y (by omega) hy hc
              rw [show hasB O x = true by simp [hasB, hm]] at HH
              clear hm h0
              go_wp2_with fail
              refine HH.out.mono ?_
              rintro e w6 ⟨rfl, rfl⟩
              go_wp2_with fail
              exact ⟨⟨j + 1, by omega, by go_num, rfl, HS2, HNo2⟩, by simp [intOf]; omega⟩
            · obtain ⟨b, l', q, hb1, hl', hq, hxq⟩ := rem_first HRm.out HNd.out HX0.out ⟨HOV.out.trans h0, hm⟩ HNo.out
              have HI2 := Lib.hid (HI.out.step hb1 hl' hq hxq)
              have HR2 := Lib.hid (HRm.out.step HNd.out hl' hq hxq)
              have hmty : m + 1 ≤ ty := by have := HI2.out.sum; have := HTY.out; omega
              have HLst := Lib.hid HS2.out.own
              have HZ6 : Hid (∀ o, w.heap.size + 1 ≤ (w5.alloc o).heap.size) := Lib.hid fun o => Nat.le_trans (show w.heap.size + 1 ≤ w5.heap.size by have := HS2.out.box.1; omega) (below_one w5 o).size
              rw [show hasB O x = false by simp [hasB, hm]] at HH
              clear hm h0 hb1 hl' hq hxq
              go_wp2_with fail
              refine HH.out.mono ?_
              rintro e w6 ⟨rfl, rfl⟩
              go_wp2_with (at_builtin; refine wpList_int_form rfl _ _ rfl (w.heap.size + 1) _ m (intV O) rfl (HLst.out.alloc _) ⟨w5.heap.size, 0, none⟩ 1 (.int .i64 x) rfl (cell_one_new _ _ _) rfl (by omega) (HZ6.out _) ?_; intro v7 w7 ho7 hg7 hf7)
              have HS3 := Lib.hid (HS2.out.push ho7 hg7 hf7)
              obtain ⟨a8, c8, rfl⟩ := own_form ho7
              clear ho7 hg7 hf7
              go_wp2_with fail
              exact ⟨⟨m + 1, _, _, rfl, hmty, HS3, HI2, HR2⟩, by show ty - (m + 1) < ty - m; omega⟩
          · have hb0 : (ov == 0) = false := by simp [h0]
            have HNo2 : Hid (∀ (i : Nat) (y : Int), i < j + 1 → (srtI Y.flatten)[i]? = some y → ¬ candN Y O y) := Lib.hid fun i y hi hy hc => by
              by_cases e : i = j
              · subst e
                rw [HX0.out] at hy
                cases hy
                exact h0 (HOV.out.symm.trans hc.1)
              · exact HNo.out i y (by omega) hy hc
            clear h0
            go_wp2_with fail
            exact ⟨⟨j + 1, by omega, by go_num, rfl, HS2, HNo2⟩, by simp [intOf]; omega⟩
        · obtain rfl : j = ty := by omega
          have HQ := Lib.hid (HI.out.done (rem_last HRm.out HNd.out fun i y hy => HNo.out i y (by have := lt_of_get hy; have := HNl.out; omega) hy))
          go_wp2_with fail
          try rw [Exit.noGoto_ret]
          go_ret2
          rw [HX.out, HQ.out]
          have hm : m = O.length := by have := HS1.out.own.1; rw [intV_len] at this; omega
          subst hm
          exact retL_of HS1.out.own (Nat.le_succ _) HS1.out.bl
end Go.Proofs.Ytececghifehjeaa
