/-
  slices.Values over a list of ints, slices.Collect and slices.Sorted of it. No statement of the seat by itself.
-/
import Derived.Test.YtalobfpmmembiaaIter
import Derived.Test.YtalobfpmmembiaaHCat
import Derived.Test.YtalobfpmmembiaaBadJ
import Derived.Shelf.SortM.SortNone
namespace Go.Proofs.Ytalobfpmmembiaa
open Go.RowKit Go.Shelf
attribute [local go_sem] Oper.semAt_some

def encs1 (x : Int) : Array Value := #[.int .i64 x]
theorem values_any (a : Option Addr) (n c : Nat) (w : World) : Calls Try.prog 58 #[.slice a n c] w fun e w' => e = .returned (.func (.func 86) #[] #[.pointer (some ⟨w.heap.size, 0, none⟩)]) ∧ w' = w.alloc (.cells #[.slice a n c] 24) := by
  go_enter Try.func58, Try.ntmps58
  go_wp2_with fail
  go_ret
  exact ⟨rfl, rfl⟩

set_option maxRecDepth 100000 in
set_option maxHeartbeats 1000000 in
theorem vals1_in (F : Fence) (n : Nat) (h36 : F.fn 86) (hro : F.round = none) (hn : 1 ≤ n) (l Bs g off c m : Nat) (a : Option Addr) (L : List Int) (hm : L.length = m) (hm1 : m ≤ 1048576) (J Jx : List Int → World → Prop)
    (hY : ∀ pre x W, J pre W → pre.length < m → YieldAt F (n - 1) Try.prog l (encs1 x) W fun e W' =>
      (e = .returned (.bool true) ∧ J (pre ++ [x]) W' ∧ KeepsL Bs g W W') ∨ (e = .returned (.bool false) ∧ Jx (pre ++ [x]) W'))
    (W : World) (hS : W.cell? ⟨Bs, 0, none⟩ = some (.slice a m c)) (hA : 0 < m → a = some ⟨g, off, none⟩) (hC : ∀ (j : Nat) (x : Int), L[j]? = some x → W.cell? ⟨g, off + j, none⟩ = some (.int .i64 x)) (h0 : J [] W) :
    CallsIn F n Try.prog 86 #[.func (.yield l) #[] #[], .pointer (some ⟨Bs, 0, none⟩)] W fun e W' => (∃ v, e = .returned v) ∧
      ((∃ ys, ys = L ∧ J ys W') ∨ (∃ pre, pre <+: L ∧ Jx pre W')) := by
  have HY := Lib.hid hY
  have HC := Lib.hid hC
  have HM := Lib.hid hm
  have HA := Lib.hid hA
  have HLm : Hid (L.take m = L) := Lib.hid (by rw [← hm]; exact List.take_length)
  clear hY hC hm hA
  refine callsIn_of_wp Try.func86 rfl h36 ?_ hro
  simp only [Try.ntmps86, List.size_toArray, List.length_cons, List.length_nil, Nat.reduceAdd, Nat.reduceSub, Array.replicate_succ, Array.replicate_zero, List.push_toArray, List.append_toArray, List.nil_append, List.cons_append]
  gi_wp2
  gi_loopw [4, 7] (fun _ i wr => ∃ k : Nat, k ≤ m ∧ i = .int .i64 k ∧ Hid (J (L.take k) wr) ∧ Hid (KeepsL Bs g W wr)) (fun _ i _ => m - (intOf i).toNat)
  case atStart => exact ⟨0, Nat.zero_le _, rfl, Lib.hid (by simpa using h0), Lib.hid (keepsL_refl _ _ _)⟩
  case round =>
    obtain ⟨k, hk, rfl, HJ, HB⟩ := hrel
    by_cases hlt : k < m
    · obtain ⟨x, hx⟩ := get_at (Y := L) (k := k) HM.out hlt
      obtain rfl := HA.out (by omega)
      have hc1 : wr.cell? ⟨g, off + k, none⟩ = some (.int .i64 x) := (World.cell?_of_block (a := ⟨g, off + k, none⟩) HB.out.2).trans (HC.out k x hx)
      have HH := Lib.hid (take_next hx)
      obtain ⟨fn, tmps, assign, body, hy, hR⟩ := HY.out (L.take k) x wr HJ.out (by rw [List.length_take]; omega)
      dsimp only [encs1] at hy
      clear hx
      gi_wp2
      refine hR.mono ?_
      rintro e W3 (⟨rfl, hJ3, hk3⟩ | ⟨rfl, hJx3⟩)
      · have HB3 : Hid (KeepsL Bs g W W3) := Lib.hid (keepsL_t HB.out hk3)
        have HJ3 : Hid (J (L.take (k + 1)) W3) := Lib.hid (by rw [HH.out]; exact hJ3)
        clear hJ3 hk3
        gi_wp2
        refine ⟨⟨k + 1, by omega, by go_num, HJ3, HB3⟩, by simp [intOf]; omega⟩
      · gi_wp2
        refine bodyPost_ret (results_none rfl _ _ _) rfl ?_
        refine ⟨⟨_, rfl⟩, .inr ⟨_, ?_, hJx3⟩⟩
        rw [← HH.out]
        exact List.take_prefix _ _
    · obtain rfl : k = m := by omega
      gi_wp2
      go_end0
      exact ⟨⟨_, rfl⟩, .inl ⟨_, HLm.out, HJ.out⟩⟩
theorem vals_stops (F : Fence) (n : Nat) (h36 : F.fn 86) (hro : F.round = none) (hn : 1 ≤ n) (Bs g off c m : Nat) (a : Option Addr) (L : List Int) (hm : L.length = m) (hm1 : m ≤ 1048576) (w : World) (hB : Bs < w.heap.size) (hg : g < w.heap.size)
    (hS : w.cell? ⟨Bs, 0, none⟩ = some (.slice a m c)) (hA : 0 < m → a = some ⟨g, off, none⟩) (hC : ∀ (j : Nat) (x : Int), L[j]? = some x → w.cell? ⟨g, off + j, none⟩ = some (.int .i64 x)) :
    SeqStopsK F n Try.prog 86 #[.pointer (some ⟨Bs, 0, none⟩)] encs1 (KeepsL Bs g) (fun ys => ys = L) (fun pre => pre <+: L) m w :=
  fun l J Jx W hW _ _ hY h0 => vals1_in F n h36 hro hn l Bs g off c m a L hm hm1 J Jx hY W ((hW.cell (p := ⟨Bs, 0, none⟩) hB).trans hS) hA (fun j x hx => (hW.cell (p := ⟨g, off + j, none⟩) hg).trans (hC j x hx)) h0

set_option maxRecDepth 100000 in
set_option maxHeartbeats 4000000 in
theorem appSeq_any (Bs g off c m : Nat) (a : Option Addr) (L : List Int) (hm : L.length = m) (hm1 : m ≤ 1000) (w : World) (hB : Bs < w.heap.size) (hg : g < w.heap.size)
    (hS : w.cell? ⟨Bs, 0, none⟩ = some (.slice a m c)) (hA : 0 < m → a = some ⟨g, off, none⟩) (hC : ∀ (j : Nat) (x : Int), L[j]? = some x → w.cell? ⟨g, off + j, none⟩ = some (.int .i64 x)) :
    Calls Try.prog 91 #[.slice none 0 0, .func (.func 86) #[] #[.pointer (some ⟨Bs, 0, none⟩)]] w (OneL w L) := by
  obtain ⟨i0, hi, hz0, hz1, hz2⟩ := info_is info3
  have hb := below_one w (.cells #[.slice none 0 0] 24)
  have bO : Boxed (w.alloc (.cells #[.slice none 0 0] 24)) w.heap.size 24 (.slice none 0 0) := Boxed.new w 24 (.slice none 0 0)
  have row0 : (w.alloc (.cells #[.slice none 0 0] 24)).ownsRow w.heap.size 3 1 (.slice none 0 0) 0 [] := ⟨rfl, .inl ⟨rfl, rfl⟩⟩
  have HL := Lib.hid hm
  have hzW : w.heap.size ≤ (w.alloc (.cells #[.slice none 0 0] 24)).heap.size := hb.size
  have HSt := vals_stops Fence.wide 2 trivial rfl (by decide) Bs g off c m a L hm (by omega) (w.alloc (.cells #[.slice none 0 0] 24)) (Nat.lt_of_lt_of_le hB hzW) (Nat.lt_of_lt_of_le hg hzW) ((hb.cell (p := ⟨Bs, 0, none⟩) hB).trans hS) hA (fun j x hx => (hb.cell (p := ⟨g, off + j, none⟩) hg).trans (hC j x hx))
  have HSB := Lib.hid hS
  clear hS hA hC hm
  refine (callsIn_wide (n := 3)).1 ?_
  refine callsIn_of_wp_marks Try.func91 rfl trivial ?_ rfl
  simp only [Try.ntmps91, List.size_toArray, List.length_cons, List.length_nil, Nat.reduceAdd, Nat.reduceSub, Array.replicate_succ, Array.replicate_zero, List.push_toArray, List.append_toArray, List.nil_append, List.cons_append]
  gi_wp2_with fail
  generalize hW2 : w.alloc (.cells #[.slice none 0 0] 24) = W2 at *
  refine wpIn_rangeFunc_ownG rfl (by decide) (gf := 86) (lb := #[.pointer (some ⟨Bs, 0, none⟩)]) rfl trivial (enters_of Try.func86 (by kernel_rfl) rfl)
    HSt keepsL_t (keepsL_b (Nat.lt_of_lt_of_le hB hzW) (Nat.lt_of_lt_of_le hg hzW)) (Below.refl _ _) (fun _ => rfl)
    (fun pre W => (∃ v, Boxed W w.heap.size 24 v ∧ W.ownsRow w.heap.size 3 1 v pre.length (pre.map fun p => Value.int .i64 p) ∧ True) ∧ Below w.heap.size w W)
    (fun _ _ _ => False)
    (OwnFrom.and (Own.from (holdsRow_own w.heap.size w.heap.size 24 3 1 (fun pre : List Int => pre.length) (fun pre => pre.map fun p => Value.int .i64 p) (fun _ _ => True)) _) (ownFrom_below (Nat.le_refl _) hzW))
    (fun _ _ _ _ _ hs _ _ => hs)
    ⟨⟨_, bO, row0, trivial⟩, hb⟩
    (fun p => { tmps := #[.slice none 0 0, .func (.func 86) #[] #[.pointer (some ⟨Bs, 0, none⟩)], .pointer (some ⟨w.heap.size, 0, none⟩), undef, .slice none 0 0, .int .i64 p, .func (.func 86) #[] #[.pointer (some ⟨Bs, 0, none⟩)], .int .i64 p, undef, undef, undef, undef, undef], defers := [] }) ?assign ?body ?done ?stop
  case assign =>
    rintro l y W K hK
    dsimp only [encs1]
    gi_wp2
    exact hK
  case body =>
    rintro l pre p W ⟨⟨v, hv, hrow, -⟩, hB2⟩ hlt
    have hc := hv.cell
    have hBs := hB2.size
    gi_wp2_with (gi_at_builtin; refine wpListIn_append_own _ rfl _ _ 24 rfl w.heap.size 3 i0 (.int .i64 0) 1 8 Try.underlying24 hi hz0 hz1 hz2 rfl (by decide) _ _ _ rfl (hrow.alloc _) ⟨W.heap.size, 0, none⟩ 1 1 [.int .i64 p] rfl rfl (cell_one_new _ _ _) (by simp [Value.oneCell']) (by unfold maxLen; omega) (by omega) (by simp; omega) ?_; intro v' w9 hown' hgrow _; obtain ⟨g', cap', rfl⟩ := ownsRow_succ hown'; obtain ⟨hv1, hv2, hr2, hk2, hb2⟩ := hv.appended (by decide) hrow hB2.size (by omega) hown' hgrow; have hc1 := hv1.cell; have hf1 := hv1.frozen)
    exact ⟨hk2.from _, ⟨hb2.cell (p := ⟨Bs, 0, none⟩) hB, hb2.block g hg⟩, ⟨_, hv2, by simpa using hr2, trivial⟩, hB2.trans hb2⟩
  case done =>
    rintro D ys W hD rfl ⟨⟨v, hv, hrow, -⟩, hB2⟩ hK
    have hc := hv.cell
    gi_wp2
    refine ⟨by simp, .inl ⟨_, _, rfl, run_takeDeferred hK, ?_⟩⟩
    exact ⟨_, results_tmp rfl _ _ _, _, rfl, ownsRow_putObj hrow _ hK rfl, hB2.trans (belowK_b (w := w) (Nat.le_refl _) W D _ _ (by omega) hK rfl rfl)⟩
  case stop =>
    rintro D c pre W _ _ h _
    exact h.elim

theorem collect_any (Bs g off c m : Nat) (a : Option Addr) (L : List Int) (hm : L.length = m) (hm1 : m ≤ 1000) (w : World) (hB : Bs < w.heap.size) (hg : g < w.heap.size)
    (hS : w.cell? ⟨Bs, 0, none⟩ = some (.slice a m c)) (hA : 0 < m → a = some ⟨g, off, none⟩) (hC : ∀ (j : Nat) (x : Int), L[j]? = some x → w.cell? ⟨g, off + j, none⟩ = some (.int .i64 x)) :
    Calls Try.prog 84 #[.func (.func 86) #[] #[.pointer (some ⟨Bs, 0, none⟩)]] w (OneL w L) := by
  have H := Lib.hid (appSeq_any Bs g off c m a L hm hm1 w hB hg hS hA hC)
  clear hS hA hC hm hm1
  go_enter Try.func84, Try.ntmps84
  go_wp2_with fail
  refine H.out.mono ?_
  rintro e w1 ⟨v, rfl, ho, hb⟩
  have HR : Hid (OneL w L (.returned v) w1) := Lib.hid ⟨v, rfl, ho, hb⟩
  clear ho hb
  go_wp2_with fail
  go_ret
  exact HR.out
theorem sort_own (B : Nat) (v : Value) (R : List Int) (w : World) (h : w.ownsRow B 3 1 v R.length (intV R)) (hs : R.length ≤ 1000) :
    Calls Try.prog 85 #[v] w fun e w' => e = .returned (.tuple #[]) ∧ w'.ownsRow B 3 1 v (srtI R).length (intV (srtI R)) ∧ w.grownBy w' v.ownBlock := by
  by_cases hv : v = .slice none 0 0
  · subst hv
    have hz : R.length = 0 := by
      rcases h.2 with ⟨_, e⟩ | ⟨_, _, _, e, _⟩
      · exact e
      · cases e
    have e : R = [] := List.eq_nil_of_length_eq_zero hz
    subst e
    refine Calls.mono (AnyM.slices_Sort_int_none Try.sortI none 0 w) fun e w' ⟨he, hw⟩ => ⟨he, ?_, ?_⟩
    · subst hw; simpa [srtI] using h
    · subst hw; exact ⟨rfl, rfl, rfl, Nat.le_refl _, fun _ _ _ => rfl⟩
  · exact sortI_call B v R w h hv hs
theorem sorted_any (Bs g off c m : Nat) (a : Option Addr) (L : List Int) (hm : L.length = m) (hm1 : m ≤ 1000) (w : World) (hB : Bs < w.heap.size) (hg : g < w.heap.size)
    (hS : w.cell? ⟨Bs, 0, none⟩ = some (.slice a m c)) (hA : 0 < m → a = some ⟨g, off, none⟩) (hC : ∀ (j : Nat) (x : Int), L[j]? = some x → w.cell? ⟨g, off + j, none⟩ = some (.int .i64 x)) :
    Calls Try.prog 57 #[.func (.func 86) #[] #[.pointer (some ⟨Bs, 0, none⟩)]] w (OneL w (srtI L)) := by
  have H := Lib.hid (collect_any Bs g off c m a L hm hm1 w hB hg hS hA hC)
  have HL : Hid (L.length ≤ 1000) := Lib.hid (by omega)
  clear hS hA hC hm hm1
  go_enter Try.func57, Try.ntmps57
  go_wp2_with fail
  refine H.out.mono ?_
  rintro e w1 ⟨v, rfl, ho, hb⟩
  have HS := Lib.hid (sort_own w.heap.size v L w1 ho HL.out)
  have HB := Lib.hid hb
  have HO := Lib.hid ho
  clear ho hb
  go_wp2_with fail
  refine HS.out.mono ?_
  rintro e w2 ⟨rfl, ho2, hg2⟩
  have HR : Hid (OneL w (srtI L) (.returned v) w2) := Lib.hid ⟨v, rfl, ho2, HB.out.grown hg2 HB.out.size (row_base HO.out)⟩
  clear ho2 hg2
  go_wp2_with fail
  go_ret
  exact HR.out
end Go.Proofs.Ytalobfpmmembiaa
