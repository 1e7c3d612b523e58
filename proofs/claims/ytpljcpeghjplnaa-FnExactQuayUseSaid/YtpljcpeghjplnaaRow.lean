/-
  The laws' own helpers on lists of ints: szIntS, toIntS, eqIntS, markIntS, heldIntS. No statement of the seat by itself.
-/
import Derived.Test.YtpljcpeghjplnaaMem
namespace Go.Proofs.Ytpljcpeghjplnaa
open Go.RowKit

theorem info3 : (Try.prog.info? 3).map (fun i => (i.zero, i.size, i.bytes)) = some (some (.int .i64 0), 1, 8) := by kernel_rfl
theorem info38 : (Try.prog.info? 25).map (fun i => (i.zero, i.size, i.bytes)) = some (some (.slice none 0 0), 1, 24) := by kernel_rfl
theorem below_of_none {w w' : World} (h : w.grownBy w' none) : Below w.heap.size w w' := ⟨h.os, h.tape, h.output, h.size, fun k hk => h.block k hk (by simp)⟩
/-- make([]int, n). -/
theorem make_ints (n : Nat) (hn : n ≤ 1048576) (W : World) : ∃ W', (Instr.makeSlice 25 (.int .i64 (n : Int)) (.int .i64 (n : Int))).run Try.prog W = .ok (.slice (some ⟨W.heap.size, 0, none⟩) n n) W' ∧
    W'.ownsRow W.heap.size 3 1 (.slice (some ⟨W.heap.size, 0, none⟩) n n) n (intV (List.replicate n 0)) ∧ Below W.heap.size W W' := by
  obtain ⟨i, hi, hz, hs, hb⟩ := info_is info3
  obtain ⟨W', h1, h2, h3⟩ := run_make_full (P := Try.prog) W W.heap.size 25 3 i _ 1 Try.underlying25 hi hz hs .i64 .i64 n (by rw [hb]; omega) (by unfold maxLen; omega) (Nat.le_refl _)
  refine ⟨W', h1, ?_, below_of_none h3⟩
  have e : (madeCells (Value.int .i64 0).cells (n * 1)).toList = intV (List.replicate n 0) := by
    rw [Nat.mul_one, show (Value.int .i64 0).cells = #[Value.int .i64 0] from rfl, toList_madeCells_one]; simp [intV]
  rw [e] at h2
  exact h2

theorem set_next {l : List Int} {k n : Nat} {x : Int} (hn : l.length = n) (hx : l[k]? = some x) : (l.take k ++ List.replicate (n - k) 0).set k x = l.take (k + 1) ++ List.replicate (n - (k + 1)) 0 := by
  have hk : k < l.length := by rcases Nat.lt_or_ge k l.length with h | h; exact h; rw [List.getElem?_eq_none h] at hx; cases hx
  rw [List.set_append_right _ _ (by simp; omega), List.take_add_one, hx]
  rw [show n - k = (n - (k + 1)) + 1 by omega, List.replicate_succ]
  rw [List.length_take, show k - min k l.length = 0 by omega]
  simp
/-- While a copy is made: the first k are there. -/
def CopyI (w wr : World) (v : Value) (n k : Nat) (l : List Int) : Prop := wr.ownsRow w.heap.size 3 1 v n (intV (l.take k ++ List.replicate (n - k) 0)) ∧ Below w.heap.size w wr
theorem copyI_step {w wr : World} {g n cap k : Nat} {l : List Int} {x : Int} (h : CopyI w wr (.slice (some ⟨g, 0, none⟩) n cap) n k l) (hn : l.length = n) (hx : l[k]? = some x) : CopyI w (wr.setCell ⟨g, k, none⟩ (.int .i64 x)) (.slice (some ⟨g, 0, none⟩) n cap) n (k + 1) l := by
  obtain ⟨h1, h2⟩ := h
  have hs := (h1.stored k (.int .i64 x)).1
  rw [intV_set, set_next hn hx] at hs
  exact ⟨hs, h2.setCell (p := ⟨g, k, none⟩) (row_base h1 g rfl) _⟩
theorem own_cell {w : World} {B g n cap k : Nat} {l : List Int} (h : w.ownsRow B 3 1 (.slice (some ⟨g, 0, none⟩) n cap) n (intV l)) (hk : k < n) : (∃ x, w.cell? ⟨g, k, none⟩ = some x) ∧ w.frozen? ⟨g, k, none⟩ = false := by
  refine ⟨?_, h.frozenAt k⟩
  have hl : l.length = n := by have := h.1; rw [intV_len] at this; omega
  rw [h.cellAt k (by omega), intV_get, List.getElem?_eq_getElem (by omega)]
  exact ⟨_, rfl⟩
/-- A list of ints of the call's own was answered, and nothing older turned. -/
def NewI (w : World) (l : List Int) (e : Ending) (w' : World) : Prop := ∃ a c, e = .returned (.slice a l.length c) ∧ w'.ownsRow w.heap.size 3 1 (.slice a l.length c) l.length (intV l) ∧ Below w.heap.size w w'
theorem copyI_done {w wr : World} {g n cap : Nat} {l : List Int} (h : CopyI w wr (.slice (some ⟨g, 0, none⟩) n cap) n n l) (hn : l.length = n) : NewI w l (.returned (.slice (some ⟨g, 0, none⟩) n cap)) wr := by
  obtain ⟨h1, h2⟩ := h
  subst hn
  rw [List.take_length, Nat.sub_self, List.replicate_zero, List.append_nil] at h1
  exact ⟨_, _, rfl, h1, h2⟩

set_option maxRecDepth 100000 in
set_option maxHeartbeats 2000000 in
theorem toI_any (v : Value) (l : List Int) (hn : l.length ≤ 1048576) (w : World) (h : IL w v l) :
    Calls Try.prog 43 #[v] w (NewI w l) := by
  obtain ⟨a, cap, rfl, hc⟩ := h
  obtain ⟨n, hl⟩ : ∃ n, l.length = n := ⟨_, rfl⟩
  have HN := Lib.hid hl
  rw [hl] at hn ⊢
  obtain ⟨W', hmk, hown, hbl⟩ := make_ints n hn w
  have HC := Lib.hid hc
  have R0 : Hid (CopyI w W' (.slice (some ⟨w.heap.size, 0, none⟩) n n) n 0 l) := Lib.hid ⟨by simpa using hown, hbl⟩
  clear hc hown hbl hl
  go_enter Try.func43, Try.ntmps43
  go_wp2_with fail
  clear hmk
  go_loopw [4] (fun i wr => ∃ k : Nat, k ≤ n ∧ i = .int .i64 k ∧ Hid (CopyI w wr (.slice (some ⟨w.heap.size, 0, none⟩) n n) n k l)) (fun i _ => n - (intOf i).toNat)
  case atStart => exact ⟨0, Nat.zero_le _, rfl, R0⟩
  case round =>
    obtain ⟨k, hk, rfl, HR⟩ := hrel
    by_cases hlt : k < n
    · obtain ⟨g, off, rfl, hg, hcc⟩ := HC.out (by have := HN.out; omega)
      obtain ⟨x, hx⟩ : ∃ x, l[k]? = some x := ⟨_, List.getElem?_eq_getElem (by have := HN.out; omega)⟩
      have h0 : wr.cell? ⟨g, off + k, none⟩ = some (.int .i64 x) := (HR.out.2.cell (p := ⟨g, off + k, none⟩) hg).trans (hcc k x hx)
      have KT := Lib.hid (copyI_step HR.out HN.out hx)
      obtain ⟨⟨x0, y0⟩, z0⟩ := own_cell HR.out.1 hlt
      clear hcc hx
      go_wp2_with fail
      refine ⟨⟨k + 1, by omega, by go_num, KT⟩, by simp [intOf]; omega⟩
    · obtain rfl : k = n := by omega
      have HX := Lib.hid (copyI_done HR.out HN.out)
      go_wp2_with fail
      go_ret
      exact HX.out

set_option maxRecDepth 100000 in
set_option maxHeartbeats 1000000 in
theorem eqI_any (v1 v2 : Value) (l : List Int) (hn : l.length ≤ 1048576) (w : World) (h1 : IL w v1 l) (h2 : IL w v2 l) :
    Calls Try.prog 44 #[v1, v2] w fun e w' => e = .returned (.bool true) ∧ ∃ k, w' = w.drewN k := by
  obtain ⟨a1, c1, rfl, h1⟩ := h1
  obtain ⟨a2, c2, rfl, h2⟩ := h2
  obtain ⟨n, hl⟩ : ∃ n, l.length = n := ⟨_, rfl⟩
  have HN := Lib.hid hl
  rw [hl] at hn ⊢
  have H1 := Lib.hid h1
  have H2 := Lib.hid h2
  clear h1 h2 hl
  go_enter Try.func44, Try.ntmps44
  go_wp2
  go_loopw [5] (fun i wr => ∃ k q : Nat, k ≤ n ∧ i = .int .i64 k ∧ wr = w.drewN q) (fun i _ => n - (intOf i).toNat)
  case atStart => exact ⟨0, 0, Nat.zero_le _, rfl, rfl⟩
  case round =>
    obtain ⟨k, q, hk, rfl, rfl⟩ := hrel
    by_cases hlt : k < n
    · obtain ⟨g1, o1, rfl, hg1, hc1⟩ := H1.out (by have := HN.out; omega)
      obtain ⟨g2, o2, rfl, hg2, hc2⟩ := H2.out (by have := HN.out; omega)
      obtain ⟨x, hx⟩ : ∃ x, l[k]? = some x := ⟨_, List.getElem?_eq_getElem (by have := HN.out; omega)⟩
      have hc1 : w.cell? ⟨g1, o1 + k, none⟩ = some (.int .i64 x) := hc1 k x hx
      have hc2 : w.cell? ⟨g2, o2 + k, none⟩ = some (.int .i64 x) := hc2 k x hx
      clear hx hg1 hg2
      go_wp2
      go_quiet (fail)
      go_wp2
      refine ⟨⟨k + 1, q + nq, by omega, by go_num, rfl⟩, by simp [intOf]; omega⟩
    · go_wp2
      go_ret
      exact ⟨rfl, q, rfl⟩

/-- k0, k0 + 1 and so on, n of them. -/
def runL (k0 : Int) (n : Nat) : List Int := (List.range n).map fun (j : Nat) => k0 + (j : Int)
theorem runL_len (k0 : Int) (n : Nat) : (runL k0 n).length = n := by simp [runL]
theorem runL_get {k0 : Int} {n j : Nat} (h : j < n) : (runL k0 n)[j]? = some (k0 + (j : Int)) := by simp [runL, h]
/-- While the marks are written: the first k are there. -/
def MarkI (w wr : World) (B : Nat) (v : Value) (n k : Nat) (k0 : Int) (l : List Int) : Prop := wr.ownsRow B 3 1 v n (intV (runL k0 k ++ l.drop k)) ∧ w.grownBy wr v.ownBlock
theorem markI_step {w wr : World} {B g n cap k : Nat} {k0 : Int} {l : List Int} (h : MarkI w wr B (.slice (some ⟨g, 0, none⟩) n cap) n k k0 l) (hn : l.length = n) (hk : k < n) : MarkI w (wr.setCell ⟨g, k, none⟩ (.int .i64 (k0 + (k : Int)))) B (.slice (some ⟨g, 0, none⟩) n cap) n (k + 1) k0 l := by
  obtain ⟨h1, h2⟩ := h
  obtain ⟨hs, hg⟩ := h1.stored k (.int .i64 (k0 + (k : Int)))
  have e : (runL k0 k ++ l.drop k).set k (k0 + (k : Int)) = runL k0 (k + 1) ++ l.drop (k + 1) := by
    rw [List.set_append_right _ _ (by rw [runL_len]; omega), runL_len, Nat.sub_self, List.drop_eq_getElem_cons (by omega : k < l.length), List.set_cons_zero]
    simp [runL, List.range_succ]
  rw [intV_set, e] at hs
  exact ⟨hs, Lib.grownBy_trans h2 hg⟩

set_option maxRecDepth 100000 in
set_option maxHeartbeats 1000000 in
theorem markI_any (v : Value) (l : List Int) (k0 : Int) (B : Nat) (hn : l.length ≤ 1048576) (hk0 : 0 ≤ k0) (hk1 : k0 ≤ 10000000) (w : World) (h : w.ownsRow B 3 1 v l.length (intV l)) :
    Calls Try.prog 46 #[v, .int .i64 k0] w fun e w' => e = .returned (.int .i64 (k0 + (l.length : Int))) ∧ w'.ownsRow B 3 1 v l.length (intV (runL k0 l.length)) ∧ w.grownBy w' v.ownBlock := by
  obtain ⟨n, hl⟩ : ∃ n, l.length = n := ⟨_, rfl⟩
  have HN := Lib.hid hl
  rw [hl] at hn h ⊢
  have R0 : Hid (MarkI w w B v n 0 k0 l) := Lib.hid ⟨by simpa [runL] using h, ⟨rfl, rfl, rfl, Nat.le_refl _, fun _ _ _ => rfl⟩⟩
  have HF := Lib.hid (show 0 < n → ∃ g cap, v = .slice (some ⟨g, 0, none⟩) n cap from fun h0 => by
    rcases h.2 with ⟨_, hz⟩ | ⟨g, cap, cur, hv, _⟩
    · omega
    · exact ⟨g, cap, hv⟩)
  obtain ⟨a, cap, rfl⟩ := own_form h
  clear h hl
  go_enter Try.func46, Try.ntmps46
  go_wp2
  go_loopw [1, 5] (fun m i wr => ∃ k : Nat, k ≤ n ∧ i = .int .i64 k ∧ m = .int .i64 (k0 + (k : Int)) ∧ Hid (MarkI w wr B (.slice a n cap) n k k0 l)) (fun _ i _ => n - (intOf i).toNat)
  case atStart => exact ⟨0, Nat.zero_le _, rfl, by simp, R0⟩
  case round =>
    obtain ⟨k, hk, rfl, rfl, HR⟩ := hrel
    by_cases hlt : k < n
    · obtain ⟨g, cap', e⟩ := HF.out (by omega)
      injection e with e1 e2 e3
      subst e1 e3
      have KT := Lib.hid (markI_step HR.out HN.out hlt)
      obtain ⟨⟨x0, y0⟩, z0⟩ := own_cell HR.out.1 hlt
      clear R0
      go_wp2
      refine ⟨⟨k + 1, by omega, by go_num, val_i (by omega), KT⟩, by simp [intOf]; omega⟩
    · obtain rfl : k = n := by omega
      have HX := Lib.hid HR.out
      have HL := Lib.hid (show l.drop k = [] by simp [HN.out])
      go_wp2
      go_ret
      refine ⟨rfl, ?_, HX.out.2⟩
      have := HX.out.1
      rw [HL.out, List.append_nil] at this
      exact this

set_option maxRecDepth 100000 in
set_option maxHeartbeats 2000000 in
theorem heldI_any (v : Value) (n : Nat) (k0 : Int) (hn : n ≤ 1048576) (hk0 : 0 ≤ k0) (hk1 : k0 ≤ 10000000) (w : World) (h : IL w v (runL k0 n)) :
    Calls Try.prog 49 #[v, .int .i64 k0] w fun e w' => e = .returned (.int .i64 (k0 + (n : Int))) ∧ ∃ k, w' = w.drewN k := by
  obtain ⟨a, c, rfl, hc⟩ := h
  rw [runL_len] at hc ⊢
  have H := Lib.hid hc
  clear hc
  go_enter Try.func49, Try.ntmps49
  go_wp2
  go_loopw [1, 5] (fun m i wr => ∃ k q : Nat, k ≤ n ∧ i = .int .i64 k ∧ m = .int .i64 (k0 + (k : Int)) ∧ wr = w.drewN q) (fun _ i _ => n - (intOf i).toNat)
  case atStart => exact ⟨0, 0, Nat.zero_le _, rfl, by simp, rfl⟩
  case round =>
    obtain ⟨k, q, hk, rfl, rfl, rfl⟩ := hrel
    by_cases hlt : k < n
    · obtain ⟨g, off, rfl, hg, hcc⟩ := H.out (by omega)
      have hc : w.cell? ⟨g, off + k, none⟩ = some (.int .i64 (k0 + (k : Int))) := hcc k _ (runL_get hlt)
      clear hcc
      go_wp2
      try go_quiet (fail)
      try go_wp2
      first
        | refine ⟨⟨k + 1, q + nq, by omega, by go_num, val_i (by omega), rfl⟩, by simp [intOf]; omega⟩
        | refine ⟨⟨k + 1, q, by omega, by go_num, val_i (by omega), rfl⟩, by simp [intOf]; omega⟩
    · obtain rfl : k = n := by omega
      go_wp2
      go_ret
      exact ⟨rfl, q, rfl⟩
end Go.Proofs.Ytpljcpeghjplnaa
