/-
  What the two StackHeights return. No statement of the seat by itself.
-/
import Derived.Test.YtdnbkfpcmjijlaaPlace
namespace Go.Proofs.Ytdnbkfpcmjijlaa
open Go.RowKit

/-- The heights of the stacks. -/
def heightL (Y : List (List Int)) (k : Nat) : List Int := (Y.take k).map fun l => (l.length : Int)
theorem heightL_succ {Y : List (List Int)} {k : Nat} {l : List Int} (h : Y[k]? = some l) : heightL Y (k + 1) = heightL Y k ++ [(l.length : Int)] := by
  simp [heightL, List.take_add_one, h]
theorem heightL_len {Y : List (List Int)} {k : Nat} (h : k ≤ Y.length) : (heightL Y k).length = k := by simp [heightL]; omega
def heightR (Y : List (List Int)) : List Int := if goodY Y = true then heightL Y Y.length else []
theorem heightR_len (Y : List (List Int)) : (heightR Y).length ≤ 1048576 := by
  unfold heightR
  split
  · rename_i h
    have := (goodY_iff.1 h).2.1
    rw [heightL_len (Nat.le_refl _)]
    omega
  · simp
/-- A list that has begun in the second block. -/
theorem below_two (w : World) (o1 o2 : Obj) : Below w.heap.size w ((w.alloc o1).alloc o2) := ((Below.refl _ w).alloc (Nat.le_refl _) _).alloc (by simp) _
theorem below_append {w wr w4 : World} {B : Nat} {sv : Value} {k : Nat} {xs : List Value} {o : Obj} (hB : Below w.heap.size w wr) (hr : wr.ownsRow B 3 1 sv k xs) (hw : w.heap.size ≤ B) (hg : (wr.alloc o).grownBy w4 sv.ownBlock) : Below w.heap.size w w4 :=
  (hB.alloc hB.size _).grown hg (by have := hB.size; simp; omega) (fun j e => by have := row_base hr j e; omega)
theorem cell_append {w wr w4 : World} {B b : Nat} {sv x : Value} {k : Nat} {xs : List Value} {o : Obj} (_hB : Below w.heap.size w wr) (hr : wr.ownsRow B 3 1 sv k xs) (hb : b < B) (hz : b < wr.heap.size) (hg : (wr.alloc o).grownBy w4 sv.ownBlock) (hc : wr.cell? ⟨b, 0, none⟩ = some x) : w4.cell? ⟨b, 0, none⟩ = some x := by
  rw [World.cell?_of_block (hg.block b (by simp; omega) (fun e => by have := row_base hr _ e.symm; omega)), World.cell?_alloc_lt _ _ _ hz]
  exact hc
theorem lo_of_own {w W : World} {B : Nat} {v : Value} {l : List Int} (h : W.ownsRow B 3 1 v l.length (intV l)) (hB : w.heap.size ≤ B) : LO W w.heap.size W.heap.size v l :=
  ⟨Nat.le_refl _, h.mono hB, fun b hb => row_lt h b hb⟩
theorem retL_of {w W : World} {B : Nat} {v : Value} {l : List Int} {ok : Bool} (h : W.ownsRow B 3 1 v l.length (intV l)) (hB : w.heap.size ≤ B) (hb : Below w.heap.size w W) : RetL w l ok (.returned (.tuple #[v, .bool ok])) W := by
  obtain ⟨a, c, rfl⟩ := own_form h
  exact ⟨a, c, rfl, lo_of_own h hB, hb⟩

set_option maxRecDepth 100000 in
set_option maxHeartbeats 4000000 in
theorem implHeights_any (v : Value) (Y : List (List Int)) (h1 : Y.length ≤ 1048576) (h2 : tot Y ≤ 1048576) (w : World) (h : YdR w v Y) :
    Calls Try.prog 26 #[v] w (RetL w (heightR Y) (goodY Y)) := by
  obtain ⟨f3, hi3, hz0, hz1, hz2⟩ := info_is info3
  obtain ⟨v0, rfl, hv⟩ := h
  have C0 := coll_start w v0 26
  have c0 := C0.2.1
  have B0 := Lib.hid (below_two w (.cells #[v0] 26) (.cells #[] 3))
  have HF := Lib.hid (good_impl (.agg #[v0]) Y h1 h2 _ ⟨v0, rfl, hv.below B0.out⟩)
  obtain ⟨a, cap, rfl, hc⟩ := hv
  obtain ⟨n, hn⟩ : ∃ n, Y.length = n := ⟨_, rfl⟩
  have HN := Lib.hid hn
  have HC := Lib.hid hc
  rw [hn] at h1 C0 B0 HF c0
  have HC0 := Lib.hid C0
  rw [hn]
  clear hc C0
  cases hg : goodY Y with
  | false =>
    have HX : Hid (heightR Y = []) := Lib.hid (by simp [heightR, hg])
    rw [hg] at HF
    clear hg hn
    go_enter Try.func26, Try.ntmps26
    go_wp2_with fail
    refine HF.out.mono ?_
    rintro e w1 ⟨rfl, hb⟩
    have B1 := Lib.hid (B0.out.trans (hb.mono B0.out.size))
    have R1 := Lib.hid (row_below HC0.out.1 hb)
    clear hb c0
    go_wp2_with fail
    go_ret2
    rw [HX.out]
    exact retL_of (by simpa using R1.out) (Nat.le_succ _) B1.out
  | true =>
    have HX : Hid (heightR Y = heightL Y n) := Lib.hid (by simp [heightR, hg, HN.out])
    have h6 : n ≤ 6 := by have := (goodY_iff.1 hg).2.1; omega
    have HSm := Lib.hid (fun (j : Nat) (l : List Int) (hl : Y[j]? = some l) => show l.length ≤ 1048576 by have := row_len hl; omega)
    rw [hg] at HF
    clear hg hn
    go_enter Try.func26, Try.ntmps26
    go_wp2_with fail
    refine HF.out.mono ?_
    rintro e w1 ⟨rfl, hb⟩
    have C1 : Hid (Coll w w1 (.slice a n cap) (.slice (some ⟨w.heap.size + 1, 0, none⟩) 0 0) (heightL Y 0)) := Lib.hid (by
      obtain ⟨r1, r2, r3, r4, r5⟩ := HC0.out
      exact ⟨by have := row_below r1 hb; simpa [heightL, intV] using this, (hb.cell (p := ⟨w.heap.size, 0, none⟩) (by show w.heap.size < _; omega)).trans r2, r3.trans (hb.mono r3.size), Nat.le_trans r4 hb.size, r5⟩)
    have c1 := C1.out.2.1
    clear hb c0
    go_wp2_with fail
    clear c1
    go_loopw [4, 15] (fun s i wr => ∃ k : Nat, k ≤ n ∧ i = .int .i64 k ∧ Hid (Coll w wr (.slice a n cap) s (heightL Y k))) (fun _ i _ => n - (intOf i).toNat)
    case atStart => exact ⟨0, Nat.zero_le _, rfl, C1⟩
    case round =>
      obtain ⟨k, hk, rfl, HR⟩ := hrel
      have c0 := HR.out.2.1
      by_cases hlt : k < n
      · obtain ⟨l, hl⟩ := get_at HN.out hlt
        obtain ⟨g, off, rfl, hg0, hcc⟩ := HC.out (by have := HN.out; omega)
        obtain ⟨u, hu', hil⟩ := hcc k l hl
        have hu := (HR.out.2.2.1.cell (p := ⟨g, off + k, none⟩) hg0).trans hu'
        obtain ⟨a2, c2, rfl⟩ := hil.form
        have hm4 := HSm.out k l hl
        have HT := Lib.hid (heightL_succ hl)
        have hln : (heightL Y k).length = k := heightL_len (by have := HN.out; omega)
        clear hcc hil hl hu'
        generalize l.length = m at *
        obtain ⟨hrow, hc0, hB, hz, hne⟩ := HR.out
        have KC0 := Lib.hid hc0
        clear hc0 hne
        go_wp2_with (at_builtin; refine wpList_append_own _ rfl _ _ 38 rfl (w.heap.size + 1) 3 f3 (.int .i64 0) 1 8 Try.underlying38 hi3 hz0 hz1 hz2 rfl (by decide) _ _ _ rfl (hrow.alloc _) ⟨wr.heap.size, 0, none⟩ 1 1 [.int .i64 (m : Int)] rfl rfl (cell_one_new _ _ _) (by simp [Value.oneCell']) (by unfold maxLen; omega) (by omega) (by simp; omega) ?_; intro v' w4 hown' hgrow hnil)
        have HN4 : Hid (Coll w w4 (.slice (some ⟨g, off, none⟩) n cap) v' (heightL Y (k + 1))) := Lib.hid ⟨by rw [HT.out]; simpa [intV] using hown', cell_append hB hrow (by omega) (by omega) hgrow KC0.out, below_append hB hrow (by omega) hgrow, by have := hgrow.size; simp at this; omega, fun e => by have := (hnil.1 e).2; omega⟩
        clear hown' hgrow hnil hrow hB hz
        exact ⟨⟨k + 1, by omega, by go_num, HN4⟩, by simp [intOf]; omega⟩
      · obtain rfl : k = n := by omega
        go_wp2_with fail
        go_ret2
        rw [HX.out]
        exact retL_of HR.out.1 (Nat.le_succ _) HR.out.2.2.1

set_option maxRecDepth 100000 in
set_option maxHeartbeats 4000000 in
theorem specHeights_any (v : Value) (Y : List (List Int)) (h1 : Y.length ≤ 1048576) (h2 : tot Y ≤ 1048576) (w : World) (h : YdR w v Y) :
    Calls Try.prog 42 #[v] w (RetL w (heightR Y) (goodY Y)) := by
  obtain ⟨f3, hi3, hz0, hz1, hz2⟩ := info_is info3
  obtain ⟨v0, rfl, hv⟩ := h
  have C0 := coll_start w v0 26
  have c0 := C0.2.1
  have B0 := Lib.hid (below_two w (.cells #[v0] 26) (.cells #[] 3))
  have HF := Lib.hid (good_spec (.agg #[v0]) Y h1 h2 _ ⟨v0, rfl, hv.below B0.out⟩)
  obtain ⟨a, cap, rfl, hc⟩ := hv
  obtain ⟨n, hn⟩ : ∃ n, Y.length = n := ⟨_, rfl⟩
  have HN := Lib.hid hn
  have HC := Lib.hid hc
  rw [hn] at h1 C0 B0 HF c0
  have HC0 := Lib.hid C0
  rw [hn]
  clear hc C0
  cases hg : goodY Y with
  | false =>
    have HX : Hid (heightR Y = []) := Lib.hid (by simp [heightR, hg])
    rw [hg] at HF
    clear hg hn
    go_enter Try.func42, Try.ntmps42
    go_wp2_with fail
    refine HF.out.mono ?_
    rintro e w1 ⟨rfl, hb⟩
    have B1 := Lib.hid (B0.out.trans (hb.mono B0.out.size))
    have R1 := Lib.hid (row_below HC0.out.1 hb)
    clear hb c0
    go_wp2_with fail
    go_ret2
    rw [HX.out]
    exact retL_of (by simpa using R1.out) (Nat.le_succ _) B1.out
  | true =>
    have HX : Hid (heightR Y = heightL Y n) := Lib.hid (by simp [heightR, hg, HN.out])
    have h6 : n ≤ 6 := by have := (goodY_iff.1 hg).2.1; omega
    have HSm := Lib.hid (fun (j : Nat) (l : List Int) (hl : Y[j]? = some l) => show l.length ≤ 1048576 by have := row_len hl; omega)
    rw [hg] at HF
    clear hg hn
    go_enter Try.func42, Try.ntmps42
    go_wp2_with fail
    refine HF.out.mono ?_
    rintro e w1 ⟨rfl, hb⟩
    have C1 : Hid (Coll w w1 (.slice a n cap) (.slice (some ⟨w.heap.size + 1, 0, none⟩) 0 0) (heightL Y 0)) := Lib.hid (by
      obtain ⟨r1, r2, r3, r4, r5⟩ := HC0.out
      exact ⟨by have := row_below r1 hb; simpa [heightL, intV] using this, (hb.cell (p := ⟨w.heap.size, 0, none⟩) (by show w.heap.size < _; omega)).trans r2, r3.trans (hb.mono r3.size), Nat.le_trans r4 hb.size, r5⟩)
    have c1 := C1.out.2.1
    clear hb c0
    go_wp2_with fail
    clear c1
    go_loopw [4, 5] (fun s i wr => ∃ k : Nat, k ≤ n ∧ i = .int .i64 k ∧ Hid (Coll w wr (.slice a n cap) s (heightL Y k))) (fun _ i _ => n - (intOf i).toNat)
    case atStart => exact ⟨0, Nat.zero_le _, rfl, C1⟩
    case round =>
      obtain ⟨k, hk, rfl, HR⟩ := hrel
      have c0 := HR.out.2.1
      by_cases hlt : k < n
      · obtain ⟨l, hl⟩ := get_at HN.out hlt
        obtain ⟨g, off, rfl, hg0, hcc⟩ := HC.out (by have := HN.out; omega)
        obtain ⟨u, hu', hil⟩ := hcc k l hl
        have hu := (HR.out.2.2.1.cell (p := ⟨g, off + k, none⟩) hg0).trans hu'
        obtain ⟨a2, c2, rfl⟩ := hil.form
        have hm4 := HSm.out k l hl
        have HT := Lib.hid (heightL_succ hl)
        have hln : (heightL Y k).length = k := heightL_len (by have := HN.out; omega)
        clear hcc hil hl hu'
        generalize l.length = m at *
        obtain ⟨hrow, hc0, hB, hz, hne⟩ := HR.out
        have KC0 := Lib.hid hc0
        clear hc0 hne
        go_wp2_with (at_builtin; refine wpList_append_own _ rfl _ _ 38 rfl (w.heap.size + 1) 3 f3 (.int .i64 0) 1 8 Try.underlying38 hi3 hz0 hz1 hz2 rfl (by decide) _ _ _ rfl (hrow.alloc _) ⟨wr.heap.size, 0, none⟩ 1 1 [.int .i64 (m : Int)] rfl rfl (cell_one_new _ _ _) (by simp [Value.oneCell']) (by unfold maxLen; omega) (by omega) (by simp; omega) ?_; intro v' w4 hown' hgrow hnil)
        have HN4 : Hid (Coll w w4 (.slice (some ⟨g, off, none⟩) n cap) v' (heightL Y (k + 1))) := Lib.hid ⟨by rw [HT.out]; simpa [intV] using hown', cell_append hB hrow (by omega) (by omega) hgrow KC0.out, below_append hB hrow (by omega) hgrow, by have := hgrow.size; simp at this; omega, fun e => by have := (hnil.1 e).2; omega⟩
        clear hown' hgrow hnil hrow hB hz
        exact ⟨⟨k + 1, by omega, by go_num, HN4⟩, by simp [intOf]; omega⟩
      · obtain rfl : k = n := by omega
        go_wp2_with fail
        go_ret2
        rw [HX.out]
        exact retL_of HR.out.1 (Nat.le_succ _) HR.out.2.2.1
end Go.Proofs.Ytdnbkfpcmjijlaa
