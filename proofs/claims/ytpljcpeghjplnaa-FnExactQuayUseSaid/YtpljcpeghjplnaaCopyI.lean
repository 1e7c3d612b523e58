/-
  Copies of yards: impl.copyStacks, impl.copyYard. No statement of the seat by itself.
-/
import Derived.Test.YtpljcpeghjplnaaCopyS
namespace Go.Proofs.Ytpljcpeghjplnaa
open Go.RowKit

/-- make([]int, m): a block of noughts. -/
theorem make_noughts (n : Nat) (hn : n ≤ 1048576) (W : World) : (Instr.makeSlice 25 (.int .i64 (n : Int)) (.int .i64 (n : Int))).run Try.prog W = .ok (.slice (some ⟨W.heap.size, 0, none⟩) n n) (W.alloc (.cells (intV (List.replicate n 0)).toArray 3)) ∧
    (W.alloc (.cells (intV (List.replicate n 0)).toArray 3)).ownsRow W.heap.size 3 1 (.slice (some ⟨W.heap.size, 0, none⟩) n n) n (intV (List.replicate n 0)) := by
  obtain ⟨i, hi, hz, hs, hb⟩ := info_is info3
  have hb' : (i.bytes : Int) * (n : Int) ≤ 281474976710656 := by rw [hb]; omega
  have hr := run_make (P := Try.prog) W 25 3 i _ Try.underlying25 hi hz .i64 .i64 n n (by omega) (by omega) hb' (by omega)
  simp only [Int.toNat_natCast] at hr
  have e : madeCells (Value.int .i64 0).cells (n * i.size) = (intV (List.replicate n 0)).toArray := by
    apply Array.toList_inj.1
    rw [hs, Nat.mul_one, show (Value.int .i64 0).cells = #[Value.int .i64 0] from rfl, toList_madeCells_one]; simp [intV]
  rw [e] at hr
  refine ⟨hr, ?_⟩
  have := World.ownsRow_lit (base := W.heap.size) (e := 3) (size := 1) W (intV (List.replicate n 0)).toArray n (Nat.le_refl _) (by unfold maxLen; omega) (by simp [intV])
  simpa using this
theorem owns_of_heap {w : World} {g n : Nat} {l : List Int} (h : w.heap[g]? = some (.cells (intV l).toArray 3 (0, 0))) (hn : l.length = n) (hm : n ≤ maxLen) : w.ownsRow g 3 1 (.slice (some ⟨g, 0, none⟩) n n) n (intV l) :=
  ⟨by rw [intV_len]; omega, .inr ⟨g, n, _, rfl, Nat.le_refl _, h, Nat.le_refl _, hm, by simp [intV_len]; omega, List.take_of_length_le (by simp [intV_len]; omega)⟩⟩

/-- make([][]int, n): a block of nil rows. -/
theorem make_nils (n : Nat) (hn : n ≤ 1048576) (W : World) : (Instr.makeSlice 139 (.int .i64 (n : Int)) (.int .i64 (n : Int))).run Try.prog W = .ok (.slice (some ⟨W.heap.size, 0, none⟩) n n) (W.alloc (.cells (List.replicate n (Value.slice none 0 0)).toArray 25)) ∧
    OwnY (W.alloc (.cells (List.replicate n (Value.slice none 0 0)).toArray 25)) W.heap.size (W.alloc (.cells (List.replicate n (Value.slice none 0 0)).toArray 25)).heap.size (.slice (some ⟨W.heap.size, 0, none⟩) n n) (List.replicate n []) := by
  obtain ⟨W', h1, h2, -⟩ := make_rows n hn W
  obtain ⟨i, hi, hz, hs, hb⟩ := info_is info38
  have hb' : (i.bytes : Int) * (n : Int) ≤ 281474976710656 := by rw [hb]; omega
  have hr := run_make (P := Try.prog) W 139 25 i _ Try.underlying139 hi hz .i64 .i64 n n (by omega) (by omega) hb' (by omega)
  simp only [Int.toNat_natCast] at hr
  have e : madeCells (Value.slice none 0 0).cells (n * i.size) = (List.replicate n (Value.slice none 0 0)).toArray := by
    apply Array.toList_inj.1
    rw [hs, Nat.mul_one, show (Value.slice none 0 0).cells = #[Value.slice none 0 0] from rfl, toList_madeCells_one]
  rw [e] at hr
  rw [hr] at h1
  injection h1 with _ h1
  subst h1
  exact ⟨hr, h2⟩

/-- The row of noughts is in place, and then the numbers are. -/
theorem copyY_noughts {w wr : World} {g n cap k m : Nat} {Y : List (List Int)} (h : CopyY w wr (.slice (some ⟨g, 0, none⟩) n cap) n k Y) (hn : Y.length = n) (hk : k < n) (hm : m ≤ 1048576) :
    let W := wr.alloc (.cells (intV (List.replicate m 0)).toArray 3)
    let v := Value.slice (some ⟨wr.heap.size, 0, none⟩) m m
    let W2 := W.setCell ⟨g, k, none⟩ v
    OwnY W2 w.heap.size W2.heap.size (.slice (some ⟨g, 0, none⟩) n cap) ((Y.take k ++ List.replicate (n - k) []).set k (List.replicate m 0)) ∧ Below w.heap.size w W2 ∧ W2.cell? ⟨g, k, none⟩ = some v ∧ W2.heap[wr.heap.size]? = some (.cells (intV (List.replicate m 0)).toArray 3 (0, 0)) ∧
      (∃ x, W.cell? ⟨g, k, none⟩ = some x) ∧ W.frozen? ⟨g, k, none⟩ = false ∧ W2.heap.size = wr.heap.size + 1 ∧ g < wr.heap.size ∧ w.heap.size ≤ wr.heap.size := by
  intro W v W2
  obtain ⟨h1, h2⟩ := h
  obtain ⟨u0, hu0, -, ho0, hb0⟩ := h1.cell (copyY_get hk hn)
  have hB : w.heap.size ≤ wr.heap.size := h2.size
  have hb : Below wr.heap.size wr W := below_one _ _
  have ho := (make_noughts m hm wr).2
  have hgw : g < wr.heap.size := h1.2.1 g rfl
  have hr := h1.repl (w' := W) (u' := v) (l' := List.replicate m 0) (by rw [copyY_len (by omega) hn]; exact hk) hu0 (grown_of_below hb _) (own_base (by simpa using ho) fun j hj => Nat.le_trans hB (row_base ho j hj)) fun b hb => .inr (row_base ho b hb)
  have hg : w.heap.size ≤ g := by
    obtain ⟨_, _, us, h3, _⟩ := h1
    exact row_base h3 g rfl
  obtain ⟨x, hx, hfx, _⟩ := (h1.below hb).cell (copyY_get hk hn)
  refine ⟨by simpa [W2] using hr.1, (h2.trans (hb.mono hB)).setCell (p := ⟨g, k, none⟩) hg _, World.cell?_setCell_same _ _ _ hx, ?_, ⟨x, hx⟩, hfx, by simp [W2, W], hgw, hB⟩
  rw [Below.heap_setCell W ⟨g, k, none⟩ v wr.heap.size (by show wr.heap.size ≠ g; omega)]
  exact heap_alloc_new wr _
theorem copyY_numbers {w W2 w' : World} {g b n cap k m : Nat} {Y Z : List (List Int)} {l : List Int} (h : OwnY W2 w.heap.size W2.heap.size (.slice (some ⟨g, 0, none⟩) n cap) (Z.set k (List.replicate m 0))) (hB : Below w.heap.size w W2) (hc : W2.cell? ⟨g, k, none⟩ = some (.slice (some ⟨b, 0, none⟩) m m))
    (hw : w.heap.size ≤ b) (hs : W2.heap.size = b + 1) (hb : Below b W2 w') (hg : w'.heap[b]? = some (.cells (intV l).toArray 3 (0, 0))) (hl : l.length = m) (hm : m ≤ 1048576) (hk : k < Z.length) (he : Z.set k l = Y) :
    OwnY w' w.heap.size w'.heap.size (.slice (some ⟨g, 0, none⟩) n cap) Y ∧ Below w.heap.size w w' := by
  have hgr : W2.grownBy w' (some b) := ⟨hb.os, hb.tape, hb.output, hb.size, fun j hj hne => hb.block j (by have : j ≠ b := fun e => hne (by rw [e]); omega)⟩
  have ho := owns_of_heap hg hl (by unfold maxLen; omega)
  have hp := h.put (l' := l) (by simpa using hk) hc hgr (by rw [hl]; exact ho.mono hw)
  rw [List.set_set, he] at hp
  exact ⟨hp.1.mono (Nat.le_refl _) hb.size (Nat.le_refl _), hB.trans (hb.mono hw)⟩
theorem splice_all (xs ys : List Value) (h : ys.length = xs.length) : splice xs 0 ys = ys := by simp [splice, h]

end Go.Proofs.Ytpljcpeghjplnaa
