/-
  The laws' own helpers on a list of strings that came in: szStringS, toStringS. No statement of the seat by itself.
-/
import Derived.Test.YtaebphbnfnjfcaaMarks
import Derived.Maps.AppendAt
namespace Go.Proofs.Ytaebphbnfnjfcaa
open Go.RowKit

/-- A list of n strings that came in. -/
def ArgRow (w : World) (v : Value) (n : Nat) (f : Nat → ByteArray) : Prop := (n = 0 ∧ ∃ a c, v = .slice a 0 c) ∨ ∃ b off cap, v = .slice (some ⟨b, off, none⟩) n cap ∧ b < w.heap.size ∧ ∀ j, j < n → w.cell? ⟨b, off + j, none⟩ = some (.string (f j))
theorem ArgRow.below {w w' : World} {v : Value} {n : Nat} {f : Nat → ByteArray} (h : ArgRow w v n f) (hb : Below w.heap.size w w') : ArgRow w' v n f := by
  rcases h with ⟨rfl, a, c, rfl⟩ | ⟨b, off, cap, rfl, hlt, hc⟩
  · exact .inl ⟨rfl, _, _, rfl⟩
  · exact .inr ⟨b, off, cap, rfl, Nat.lt_of_lt_of_le hlt hb.size, fun j hj => (hb.cell (p := ⟨b, off + j, none⟩) hlt).trans (hc j hj)⟩

/-- What szStringS answers: -1, or a number that says that the list is small. -/
def SzPost (w : World) (n : Nat) (f : Nat → ByteArray) (e : Ending) (w' : World) : Prop := w = w' ∧ (e = .returned (.int .i64 (-1)) ∨ ∃ r : Nat, e = .returned (.int .i64 (r : Int)) ∧ n ≤ 1048576 ∧ ∀ j, j < n → (f j).size ≤ 1048576)

set_option maxRecDepth 100000 in
set_option maxHeartbeats 1000000 in
theorem szS_rows (b off n cap : Nat) (f : Nat → ByteArray) (hn : n ≤ maxLen) (hsz : ∀ j, j < n → (f j).size ≤ maxLen) (w : World) (hc : ∀ j, j < n → w.cell? ⟨b, off + j, none⟩ = some (.string (f j))) :
    Calls Try.prog 21 #[.slice (some ⟨b, off, none⟩) n cap, .int .i64 1048576] w (SzPost w n f) := by
  unfold maxLen at hn
  have HC := Lib.hid hc
  have HS := Lib.hid hsz
  clear hc hsz
  by_cases hbig : 1048576 < n
  · go_enter Try.func21, Try.ntmps21
    go_wp2
    go_ret
    exact ⟨rfl, .inl rfl⟩
  · have hsm : n ≤ 1048576 := by omega
    go_enter Try.func21, Try.ntmps21
    go_wp2
    go_loop [1, 5] (fun l i => ∃ k L : Nat, k ≤ n ∧ i = .int .i64 k ∧ l = .int .i64 (L : Int) ∧ L ≤ 1048576 ∧ Hid (∀ j, j < k → (f j).size ≤ 1048576)) (fun _ i => n - (intOf i).toNat)
    case atStart => exact ⟨0, 1048576 - n, Nat.zero_le _, rfl, val_eq (by omega), by omega, Lib.hid fun j hj => by omega⟩
    case round =>
      obtain ⟨k, L, hk, rfl, rfl, hL, HK⟩ := hrel
      by_cases hlt : k < n
      · have hcell : w.cell? ⟨b, off + k, none⟩ = some (.string (f k)) := HC.out k hlt
        have hs := HS.out k hlt
        unfold maxLen at hs
        by_cases hneg : L < (f k).size
        · go_wp2
          go_ret
          exact ⟨rfl, .inl rfl⟩
        · have HK2 : Hid (∀ j, j < k + 1 → (f j).size ≤ 1048576) := Lib.hid fun j hj => by
            by_cases e : j = k
            · subst e; omega
            · exact HK.out j (by omega)
          go_wp2
          go_round
          case rel => exact ⟨k + 1, L - (f k).size, by omega, by go_num, val_eq (by omega), by omega, HK2⟩
          case measure => simp [intOf]; omega
      · obtain rfl : k = n := by omega
        go_wp2
        go_ret
        exact ⟨rfl, .inr ⟨L, rfl, hsm, HK.out⟩⟩

set_option maxHeartbeats 400000 in
theorem szS_empty (a : Option Addr) (cap : Nat) (f : Nat → ByteArray) (w : World) :
    Calls Try.prog 21 #[.slice a 0 cap, .int .i64 1048576] w (SzPost w 0 f) := by
  go_enter Try.func21, Try.ntmps21
  go_wp2
  go_loop [1, 5] (fun l i => i = .int .i64 0 ∧ l = .int .i64 1048576) (fun _ _ => 0)
  case atStart => exact ⟨rfl, rfl⟩
  case round =>
    obtain ⟨rfl, rfl⟩ := hrel
    go_wp2
    go_ret
    exact ⟨rfl, .inr ⟨1048576, rfl, by decide, fun j hj => by omega⟩⟩

theorem szS_any (v : Value) (n : Nat) (f : Nat → ByteArray) (hn : n ≤ maxLen) (hsz : ∀ j, j < n → (f j).size ≤ maxLen) (w : World) (h : ArgRow w v n f) :
    Calls Try.prog 21 #[v, .int .i64 1048576] w (SzPost w n f) := by
  rcases h with ⟨rfl, a, c, rfl⟩ | ⟨b, off, cap, rfl, hlt, hc⟩
  · exact szS_empty a c f w
  · exact szS_rows b off n cap f hn hsz w hc

theorem infoStr : (Try.prog.info? 9).map (fun i => (i.zero, i.size, i.bytes)) = some (some (.string ⟨#[]⟩), 1, 16) := by kernel_rfl

/-- While the copy is made: the first k are there. -/
def CopyRel (w wr : World) (n k : Nat) (f : Nat → ByteArray) : Prop := Below w.heap.size w wr ∧ ∃ cur : Array Value, wr.heap[w.heap.size]? = some (.cells cur 9 (0, 0)) ∧ cur.size = n ∧ ∀ j, j < k → cur[j]? = some (.string (f j))
theorem copyRel_cell {w wr : World} {n k : Nat} {f : Nat → ByteArray} (h : CopyRel w wr n k f) (hk : k < n) : (∃ x, wr.cell? ⟨w.heap.size, k, none⟩ = some x) ∧ wr.frozen? ⟨w.heap.size, k, none⟩ = false := by
  obtain ⟨hB, cur, hb, hsz, hd⟩ := h
  exact ⟨⟨cur[k], by simp [World.cell?, hb, hsz, hk]⟩, by simp [World.frozen?, hb]⟩
theorem copyRel_step {w wr : World} {n k : Nat} {f : Nat → ByteArray} (h : CopyRel w wr n k f) (hk : k < n) : CopyRel w (wr.setCell ⟨w.heap.size, k, none⟩ (.string (f k))) n (k + 1) f := by
  obtain ⟨hB, cur, hb, hsz, hd⟩ := h
  refine ⟨hB.setCell (p := ⟨w.heap.size, k, none⟩) (Nat.le_refl _) _, cur.setIfInBounds k (.string (f k)), Lib.heap_setCell_same hb _, by simpa using hsz, fun j hj => ?_⟩
  by_cases hjk : k = j
  · subst hjk; rw [Array.getElem?_setIfInBounds_self_of_lt (by omega)]
  · rw [Array.getElem?_setIfInBounds_ne hjk]; exact hd j (by omega)

/-- What toStringS answers: a copy of its own. -/
def CopyPost (w : World) (n : Nat) (f : Nat → ByteArray) (e : Ending) (w' : World) : Prop := e = .returned (.slice (some ⟨w.heap.size, 0, none⟩) n n) ∧ RowAt w' w.heap.size n n f ∧ Below w.heap.size w w'

theorem made_copy {w w' : World} {n : Nat} {xs : List Value} (h : w'.ownsRow w.heap.size 9 1 (.slice (some ⟨w.heap.size, 0, none⟩) n n) n xs) (hg : w.grownBy w' none) (f : Nat → ByteArray) : CopyRel w w' n 0 f := by
  rcases h.2 with ⟨h0, _⟩ | ⟨g, cap, cur, hv, hgb, hb, hnc, hcm, hsz, hx⟩
  · cases h0
  · have e1 : g = w.heap.size ∧ cap = n := by
      simp only [Value.slice.injEq, Option.some.injEq, Addr.mk.injEq] at hv
      exact ⟨hv.1.1.symm, hv.2.2.symm⟩
    obtain ⟨rfl, rfl⟩ := e1
    exact ⟨⟨hg.os, hg.tape, hg.output, hg.size, fun k hk => hg.block k hk (by simp)⟩, cur, hb, by simpa using hsz, fun j hj => by omega⟩

set_option maxRecDepth 100000 in
set_option maxHeartbeats 1000000 in
theorem toS_rows (b off n cap : Nat) (f : Nat → ByteArray) (hn : n ≤ 1048576) (w : World) (hb : b < w.heap.size) (hc : ∀ j, j < n → w.cell? ⟨b, off + j, none⟩ = some (.string (f j))) :
    Calls Try.prog 22 #[.slice (some ⟨b, off, none⟩) n cap] w (CopyPost w n f) := by
  obtain ⟨i0, hi, hz0, hz1, hz2⟩ := info_parts infoStr
  have HC := Lib.hid hc
  clear hc
  go_enter Try.func22, Try.ntmps22
  go_wp2_with (at_make; refine wpList_make_full _ rfl _ _ 26 rfl w.heap.size 9 i0 (.string ⟨#[]⟩) 1 Try.underlying26 hi hz0 hz1 .i64 .i64 _ _ n rfl rfl rfl rfl (by rw [hz2]; omega) (by unfold maxLen; omega) (Nat.le_refl _) ?_; intro w0 hown0 hgrow0)
  have HR0 := Lib.hid (made_copy hown0 hgrow0 f)
  clear hown0 hgrow0
  go_loopw [4] (fun i wr => ∃ k : Nat, k ≤ n ∧ i = .int .i64 k ∧ Hid (CopyRel w wr n k f)) (fun i _ => n - (intOf i).toNat)
  case atStart => exact ⟨0, Nat.zero_le _, rfl, HR0⟩
  case round =>
    obtain ⟨k, hk, rfl, HR⟩ := hrel
    by_cases hlt : k < n
    · have hcell : wr.cell? ⟨b, off + k, none⟩ = some (.string (f k)) := (HR.out.1.cell (p := ⟨b, off + k, none⟩) hb).trans (HC.out k hlt)
      obtain ⟨⟨x, hx⟩, hf⟩ := copyRel_cell HR.out hlt
      go_wp2
      refine ⟨⟨k + 1, by omega, by go_num, Lib.hid (copyRel_step HR.out hlt)⟩, by simp [intOf]; omega⟩
    · obtain rfl : k = n := by omega
      obtain ⟨hB, cur, hbl, hsz, hd⟩ := HR.out
      have HX : Hid (RowAt wr w.heap.size k k f) := Lib.hid ⟨cur, hbl, Nat.le_refl _, hsz, hd⟩
      clear hbl hsz hd
      go_wp2
      go_ret
      exact ⟨rfl, HX.out, hB⟩

set_option maxRecDepth 100000 in
set_option maxHeartbeats 1000000 in
theorem toS_empty (a : Option Addr) (cap : Nat) (f : Nat → ByteArray) (w : World) :
    Calls Try.prog 22 #[.slice a 0 cap] w (CopyPost w 0 f) := by
  obtain ⟨i0, hi, hz0, hz1, hz2⟩ := info_parts infoStr
  go_enter Try.func22, Try.ntmps22
  go_wp2_with (at_make; refine wpList_make_full _ rfl _ _ 26 rfl w.heap.size 9 i0 (.string ⟨#[]⟩) 1 Try.underlying26 hi hz0 hz1 .i64 .i64 _ _ 0 rfl rfl rfl rfl (by rw [hz2]; decide) (by unfold maxLen; omega) (Nat.le_refl _) ?_; intro w0 hown0 hgrow0)
  have HR0 := Lib.hid (made_copy hown0 hgrow0 f)
  clear hown0 hgrow0
  go_loop [4] (fun i => i = .int .i64 0) (fun _ => 0)
  case atStart => rfl
  case round =>
    obtain rfl := hrel
    obtain ⟨hB, cur, hbl, hsz, hd⟩ := HR0.out
    have HX : Hid (RowAt w0 w.heap.size 0 0 f) := Lib.hid ⟨cur, hbl, Nat.le_refl _, hsz, hd⟩
    clear hbl hsz hd
    go_wp2
    go_ret
    exact ⟨rfl, HX.out, hB⟩

theorem toS_any (v : Value) (n : Nat) (f : Nat → ByteArray) (hn : n ≤ 1048576) (w : World) (h : ArgRow w v n f) : Calls Try.prog 22 #[v] w (CopyPost w n f) := by
  rcases h with ⟨rfl, a, c, rfl⟩ | ⟨b, off, cap, rfl, hlt, hc⟩
  · exact toS_empty a c f w
  · exact toS_rows b off n cap f hn w hlt hc
end Go.Proofs.Ytaebphbnfnjfcaa
