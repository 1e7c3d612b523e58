/-
  Copies of yards: impl.copyStacks, impl.copyYard. No statement of the seat by itself.
-/
import Derived.Test.YtalobfpmmembiaaCopyS
namespace Go.Proofs.Ytalobfpmmembiaa
open Go.RowKit

/-- make([]int, m): a block of noughts. -/
theorem make_noughts (n : Nat) (hn : n ≤ 1048576) (W : World) : (Instr.makeSlice 24 (.int .i64 (n : Int)) (.int .i64 (n : Int))).run Try.prog W = .ok (.slice (some ⟨W.heap.size, 0, none⟩) n n) (W.alloc (.cells (intV (List.replicate n 0)).toArray 3)) ∧
    (W.alloc (.cells (intV (List.replicate n 0)).toArray 3)).ownsRow W.heap.size 3 1 (.slice (some ⟨W.heap.size, 0, none⟩) n n) n (intV (List.replicate n 0)) := by
  obtain ⟨i, hi, hz, hs, hb⟩ := info_is info3
  have hb' : (i.bytes : Int) * (n : Int) ≤ 281474976710656 := by rw [hb]; omega
  have hr := run_make (P := Try.prog) W 24 3 i _ Try.underlying24 hi hz .i64 .i64 n n (by omega) (by omega) hb' (by omega)
  simp only [Int.toNat_natCast] at hr
  have e : madeCells (Value.int .i64 0).cells (n * i.size) = (intV (List.replicate n 0)).toArray := by
    apply Array.toList_inj.1
    rw [hs, Nat.mul_one, show (Value.int .i64 0).cells = #[Value.int .i64 0] from rfl, toList_madeCells_one]; simp [intV]
  rw [e] at hr
  refine ⟨hr, ?_⟩
  have := World.ownsRow_lit (base := W.heap.size) (e := 3) (size := 1) W (intV (List.replicate n 0)).toArray n (Nat.le_refl _) (by unfold maxLen; omega) (by simp [intV])
  simpa using this
theorem owns_of_heap {w : World} {g n : Nat} {l : List Int} (h : w.heap[g]? = some (.cells (intV l).toArray 3 (0, 0))) (hn : l.length = n) (hm : n ≤ maxLen) : w.ownsRow g 3 1 (.slice (some ⟨g, 0, none⟩) n n) n (intV l) :=
  ⟨by rw [intV_len]; omega, .inr ⟨g, n, _, rfl, Nat.le_refl _, h, Nat.le_refl _, hm, by simp [intV_len]; omega, List.take_of_length_le (by simp [intV_len]; omega)⟩⟩

/-- make([][]int, n): a block of nil rows. -/
theorem make_nils (n : Nat) (hn : n ≤ 1048576) (W : World) : (Instr.makeSlice 42 (.int .i64 (n : Int)) (.int .i64 (n : Int))).run Try.prog W = .ok (.slice (some ⟨W.heap.size, 0, none⟩) n n) (W.alloc (.cells (List.replicate n (Value.slice none 0 0)).toArray 24)) ∧
    OwnY (W.alloc (.cells (List.replicate n (Value.slice none 0 0)).toArray 24)) W.heap.size (W.alloc (.cells (List.replicate n (Value.slice none 0 0)).toArray 24)).heap.size (.slice (some ⟨W.heap.size, 0, none⟩) n n) (List.replicate n []) := by
  obtain ⟨W', h1, h2, -⟩ := make_rows n hn W
  obtain ⟨i, hi, hz, hs, hb⟩ := info_is info38
  have hb' : (i.bytes : Int) * (n : Int) ≤ 281474976710656 := by rw [hb]; omega
  have hr := run_make (P := Try.prog) W 42 24 i _ Try.underlying42 hi hz .i64 .i64 n n (by omega) (by omega) hb' (by omega)
  simp only [Int.toNat_natCast] at hr
  have e : madeCells (Value.slice none 0 0).cells (n * i.size) = (List.replicate n (Value.slice none 0 0)).toArray := by
    apply Array.toList_inj.1
    rw [hs, Nat.mul_one, show (Value.slice none 0 0).cells = #[Value.slice none 0 0] from rfl, toList_madeCells_one]
  rw [e] at hr
  rw [hr] at h1
  injection h1 with _ h1
  subst h1
  exact ⟨hr, h2⟩

/-- The row of noughts is in place, and then the numbers are. -/
theorem copyY_noughts {w wr : World} {g n cap k m : Nat} {Y : List (List Int)} (h : CopyY w wr (.slice (some ⟨g, 0, none⟩) n cap) n k Y) (hn : Y.length = n) (hk : k < n) (hm : m ≤ 1048576) :
    let W := wr.alloc (.cells (intV (List.replicate m 0)).toArray 3)
    let v := Value.slice (some ⟨wr.heap.size, 0, none⟩) m m
    let W2 := W.setCell ⟨g, k, none⟩ v
    OwnY W2 w.heap.size W2.heap.size (.slice (some ⟨g, 0, none⟩) n cap) ((Y.take k ++ List.replicate (n - k) []).set k (List.replicate m 0)) ∧ Below w.heap.size w W2 ∧ W2.cell? ⟨g, k, none⟩ = some v ∧ W2.heap[wr.heap.size]? = some (.cells (intV (List.replicate m 0)).toArray 3 (0, 0)) ∧
      (∃ x, W.cell? ⟨g, k, none⟩ = some x) ∧ W.frozen? ⟨g, k, none⟩ = false ∧ W2.heap.size = wr.heap.size + 1 ∧ g < wr.heap.size ∧ w.heap.size ≤ wr.heap.size := by
  intro W v W2
  obtain ⟨h1, h2⟩ := h
  obtain ⟨u0, hu0, -, ho0, hb0⟩ := h1.cell (copyY_get hk hn)
  have hB : w.heap.size ≤ wr.heap.size := h2.size
  have hb : Below wr.heap.size wr W := below_one _ _
  have ho := (make_noughts m hm wr).2
  have hgw : g < wr.heap.size := h1.2.1 g rfl
  have hr := h1.repl (w' := W) (u' := v) (l' := List.replicate m 0) (by rw [copyY_len (by omega) hn]; exact hk) hu0 (grown_of_below hb _) (own_base (by simpa using ho) fun j hj => Nat.le_trans hB (row_base ho j hj)) fun b hb => .inr (row_base ho b hb)
  have hg : w.heap.size ≤ g := by
    obtain ⟨_, _, us, h3, _⟩ := h1
    exact row_base h3 g rfl
  obtain ⟨x, hx, hfx, _⟩ := (h1.below hb).cell (copyY_get hk hn)
  refine ⟨by simpa [W2] using hr.1, (h2.trans (hb.mono hB)).setCell (p := ⟨g, k, none⟩) hg _, World.cell?_setCell_same _ _ _ hx, ?_, ⟨x, hx⟩, hfx, by simp [W2, W], hgw, hB⟩
  rw [Below.heap_setCell W ⟨g, k, none⟩ v wr.heap.size (by show wr.heap.size ≠ g; omega)]
  exact heap_alloc_new wr _
theorem copyY_numbers {w W2 w' : World} {g b n cap k m : Nat} {Y Z : List (List Int)} {l : List Int} (h : OwnY W2 w.heap.size W2.heap.size (.slice (some ⟨g, 0, none⟩) n cap) (Z.set k (List.replicate m 0))) (hB : Below w.heap.size w W2) (hc : W2.cell? ⟨g, k, none⟩ = some (.slice (some ⟨b, 0, none⟩) m m))
    (hw : w.heap.size ≤ b) (hs : W2.heap.size = b + 1) (hb : Below b W2 w') (hg : w'.heap[b]? = some (.cells (intV l).toArray 3 (0, 0))) (hl : l.length = m) (hm : m ≤ 1048576) (hk : k < Z.length) (he : Z.set k l = Y) :
    OwnY w' w.heap.size w'.heap.size (.slice (some ⟨g, 0, none⟩) n cap) Y ∧ Below w.heap.size w w' := by
  have hgr : W2.grownBy w' (some b) := ⟨hb.os, hb.tape, hb.output, hb.size, fun j hj hne => hb.block j (by have : j ≠ b := fun e => hne (by rw [e]); omega)⟩
  have ho := owns_of_heap hg hl (by unfold maxLen; omega)
  have hp := h.put (l' := l) (by simpa using hk) hc hgr (by rw [hl]; exact ho.mono hw)
  rw [List.set_set, he] at hp
  exact ⟨hp.1.mono (Nat.le_refl _) hb.size (Nat.le_refl _), hB.trans (hb.mono hw)⟩
theorem splice_all (xs ys : List Value) (h : ys.length = xs.length) : splice xs 0 ys = ys := by simp [splice, h]

set_option maxRecDepth 100000 in
set_option maxHeartbeats 4000000 in
theorem copyStacks_any (v : Value) (Y : List (List Int)) (hn : Y.length ≤ 1048576) (ht : tot Y ≤ 1048576) (w : World) (h : YL w v Y) :
    Calls Try.prog 71 #[v] w (NewY w Y) := by
  obtain ⟨a, cap, rfl, hc⟩ := h
  obtain ⟨n, hl⟩ : ∃ n, Y.length = n := ⟨_, rfl⟩
  have HN := Lib.hid hl
  have HC := Lib.hid hc
  rw [hl] at hn
  have hsz38 : (Try.prog.info? 3).map (·.size) = some 1 := by
    obtain ⟨i, hi, hz, hs, hb⟩ := info_is info3
    rw [hi, Option.map_some, hs]
  have hmk := fun W => (make_nils n hn W).1
  have hbl := below_one w (.cells (List.replicate n (Value.slice none 0 0)).toArray 24)
  have RR : Hid (CopyY w (w.alloc (.cells (List.replicate n (Value.slice none 0 0)).toArray 24)) (.slice (some ⟨w.heap.size, 0, none⟩) n n) n 0 Y) := Lib.hid ⟨by
    have := (make_nils n hn w).2
    simpa using this, hbl⟩
  clear hc hbl
  unfold NewY
  rw [hl]
  clear hl
  generalize (List.replicate n (Value.slice none 0 0)).toArray = nils at *
  go_enter Try.func71, Try.ntmps71
  go_wp2_with fail
  clear hmk
  generalize w.alloc (.cells nils 24) = w2 at *
  go_loopw [11] (fun i wr => ∃ k : Nat, k ≤ n ∧ i = .int .i64 k ∧ Hid (CopyY w wr (.slice (some ⟨w.heap.size, 0, none⟩) n n) n k Y)) (fun i _ => n - (intOf i).toNat)
  case atStart => exact ⟨0, Nat.zero_le _, rfl, RR⟩
  case round =>
    obtain ⟨k, hk, rfl, HR⟩ := hrel
    have HB := Lib.hid HR.out.2
    by_cases hlt : k < n
    · obtain ⟨l, hl⟩ := get_at HN.out hlt
      obtain ⟨g, off, rfl, hg, hcc⟩ := HC.out (by have := HN.out; omega)
      obtain ⟨u, hu', hil⟩ := hcc k l hl
      have hu := (HB.out.cell (p := ⟨g, off + k, none⟩) hg).trans hu'
      obtain ⟨m, hm⟩ : ∃ m, l.length = m := ⟨_, rfl⟩
      have HM := Lib.hid hm
      have hm1 : m ≤ 1048576 := by have := row_len hl; omega
      obtain ⟨a2, c2, rfl, hrow⟩ := hil
      have hmk2 := fun W => (make_noughts m hm1 W).1
      obtain ⟨p1, p2, p3, p4, ⟨x0, p5⟩, p6, p7, p8, p9⟩ := copyY_noughts (m := m) HR.out HN.out hlt hm1
      have HNT : Hid ((intV (List.replicate m 0)).length = m) := Lib.hid (by simp [intV])
      have HSrc : Hid (0 < (intV l).length → ∃ ad, a2 = some ad ∧ ∀ j y, (intV l)[j]? = some y → ((wr.alloc (.cells (intV (List.replicate m 0)).toArray 3)).setCell ⟨w.heap.size, k, none⟩ (.slice (some ⟨wr.heap.size, 0, none⟩) m m)).cell? (ad.add j) = some y) := Lib.hid (fun h0 => by
        rw [intV_len] at h0
        obtain ⟨g2, off2, e, hg2, hcc2⟩ := hrow h0
        exact ⟨_, e, src_of fun j x hx => (p2.cell (p := ⟨g2, off2 + j, none⟩) hg2).trans (hcc2 j x hx)⟩)
      have HNum := Lib.hid (fun w' hb hgw => copyY_numbers (w' := w') (l := l) (Y := Y.take (k + 1) ++ List.replicate (n - (k + 1)) []) p1 p2 p3 p9 p7 hb hgw hm hm1 (by rw [copyY_len (by omega) HN.out]; exact hlt) (set_nextY HN.out hl))
      have H4 := Lib.hid p4
      rw [hm] at hu
      clear hcc hl hu' hrow hm p1 p2 p4 p7 p8 p9
      generalize intV (List.replicate m 0) = NT at *
      have HL : Hid ((intV l).length = m) := Lib.hid (by rw [intV_len]; exact HM.out)
      have HO1 := Lib.hid (intV_one l)
      have HNum2 : Hid (∀ w', Below wr.heap.size ((wr.alloc (.cells NT.toArray 3)).setCell ⟨w.heap.size, k, none⟩ (.slice (some ⟨wr.heap.size, 0, none⟩) m m)) w' → w'.heap[wr.heap.size]? = some (.cells (splice NT 0 (intV l)).toArray 3 (0, 0)) → CopyY w w' (.slice (some ⟨w.heap.size, 0, none⟩) n n) n (k + 1) Y) := Lib.hid fun w' hb hgw => HNum.out w' hb (by rw [splice_all _ _ (by rw [HL.out, HNT.out])] at hgw; exact hgw)
      clear HNum
      generalize intV l = LV at *
      go_wp2_with (with_reducible refine wpList_copy_splice (o := ⟨some 27, _, _, _, _, _⟩) rfl _ _ 24 24 rfl 3 Try.underlying24 hsz38 _ _ _ _ _ _ rfl rfl wr.heap.size 0 NT 3 H4.out LV (by rw [HL.out]; exact (Nat.min_self m).symm) (fun h0 => ⟨rfl, HSrc.out h0⟩) (by rw [HL.out, HNT.out]; omega) HO1.out wr.heap.size _ (Below.refl _ _) (Nat.le_refl _) ?_; intro w5 hg5 hb5)
      have HX := Lib.hid (HNum2.out w5 hb5 hg5.out)
      clear hb5 hg5
      go_wp2_with fail
      refine ⟨⟨k + 1, by omega, by go_num, HX⟩, by simp [intOf]; omega⟩
    · obtain rfl : k = n := by omega
      have HX : Hid (NewY w Y (.returned (.slice (some ⟨w.heap.size, 0, none⟩) k k)) wr) := Lib.hid (by
        obtain ⟨h1, h2⟩ := HR.out
        rw [← HN.out, List.take_length, Nat.sub_self, List.replicate_zero, List.append_nil, HN.out] at h1
        exact ⟨_, _, by rw [HN.out], by rw [HN.out]; exact h1, h2⟩)
      unfold NewY at HX
      rw [HN.out] at HX
      go_wp2_with fail
      go_ret
      exact HX.out

end Go.Proofs.Ytalobfpmmembiaa
