/-
  What the two ContainersFor functions return, and the laws' helper markContainerS. No statement of the seat by itself.
-/
import Derived.Test.YtpmaaflpknjbmaaCSums
import Derived.Test.YtpmaaflpknjbmaaCMarkS
import Derived.RangeFuncRecord
import Derived.Deep.Onto
namespace Go.Proofs.Ytpmaaflpknjbmaa.C
open Go.RowKit

theorem row_base {W : World} {base e size k : Nat} {v : Value} {xs : List Value} (h : W.ownsRow base e size v k xs) : ∀ j, v.ownBlock = some j → base ≤ j := by
  intro j hj
  rcases h.2 with ⟨rfl, _⟩ | ⟨g, cap, cur, rfl, hg, _⟩
  · simp [Value.ownBlock] at hj
  · have : g = j := by simpa [Value.ownBlock] using hj
    omega
theorem row_lt {W : World} {base e size k : Nat} {v : Value} {xs : List Value} (h : W.ownsRow base e size v k xs) : ∀ j, v.ownBlock = some j → j < W.heap.size := by
  intro j hj
  rcases h.2 with ⟨rfl, _⟩ | ⟨g, cap, cur, rfl, hg, hb, _⟩
  · simp [Value.ownBlock] at hj
  · have : g = j := by simpa [Value.ownBlock] using hj
    subst this
    exact (Array.getElem?_eq_some_iff.1 hb).1
theorem own_empty (w : World) (o : Obj) (e : TypeId) (h : o = .cells #[] e (0, 0)) : (w.alloc o).ownsRow w.heap.size e 1 (.slice (some ⟨w.heap.size, 0, none⟩) 0 0) 0 [] := by
  subst h
  exact ⟨rfl, .inr ⟨_, 0, #[], rfl, Nat.le_refl _, heap_alloc_new w _, Nat.le_refl _, Nat.zero_le _, rfl, rfl⟩⟩
theorem row_below {W W' : World} {base e size k : Nat} {v : Value} {xs : List Value} (h : W.ownsRow base e size v k xs) (hb : Below W.heap.size W W') : W'.ownsRow base e size v k xs :=
  h.kept (grown_of_below hb none) (by cases hv : v.ownBlock <;> simp)
theorem info9 : (Try.prog.info? 9).map (fun i => (i.zero, i.size, i.bytes)) = some (some (.string ⟨#[]⟩), 1, 16) := by kernel_rfl

/-- The Ids of the containers with a port among the first k. -/
def forL (f : Nat → Cont) (p : Int) : Nat → List ByteArray
  | 0 => []
  | k + 1 => if (f k).port = p then forL f p k ++ [(f k).id] else forL f p k
theorem forL_len (f : Nat → Cont) (p : Int) : ∀ k, (forL f p k).length ≤ k
  | 0 => by simp [forL]
  | k + 1 => by
    have := forL_len f p k
    rw [forL]
    split
    · simp; omega
    · omega
/-- A list of texts of the call's own was answered, and nothing older turned. -/
def ForPost (w : World) (ps : List ByteArray) (ok : Bool) (e : Ending) (W' : World) : Prop := ∃ v, e = .returned (.tuple #[v, .bool ok]) ∧ W'.ownsRow w.heap.size 9 1 v ps.length (ps.map Value.string) ∧ Below w.heap.size w W'

/-- While the containers of block g are marked. -/
def MarkC (w wr : World) (g n : Nat) : Prop := w.grownBy wr (some g) ∧ ∃ cur : Array Value, wr.heap[g]? = some (.cells cur 49 (0, 0)) ∧ cur.size = n * 5
theorem markC_cell {w wr : World} {g n : Nat} (h : MarkC w wr g n) (i : Nat) (hi : i < n * 5) : (∃ x, wr.cell? ⟨g, i, none⟩ = some x) ∧ wr.frozen? ⟨g, i, none⟩ = false := by
  obtain ⟨hB, cur, hb, hsz⟩ := h
  exact ⟨⟨cur[i], by simp [World.cell?, hb, hsz, hi]⟩, by simp [World.frozen?, hb]⟩
theorem markC_set {w wr : World} {g n : Nat} (h : MarkC w wr g n) (i : Nat) (v : Value) : MarkC w (wr.setCell ⟨g, i, none⟩ v) g n := by
  obtain ⟨hB, cur, hb, hsz⟩ := h
  exact ⟨Lib.grownBy_setB hB i v, cur.setIfInBounds i v, Lib.heap_setCell_same hb _, by simpa using hsz⟩
theorem markC_below {w wr w1 : World} {g n : Nat} (h : MarkC w wr g n) (hb : Below wr.heap.size wr w1) : MarkC w w1 g n := by
  obtain ⟨hB, cur, hbk, hsz⟩ := h
  exact ⟨Lib.grownBy_trans hB (grown_of_below hb _), cur, (hb.block _ (Array.getElem?_eq_some_iff.1 hbk).1).trans hbk, hsz⟩

set_option maxRecDepth 100000 in
set_option maxHeartbeats 4000000 in
theorem markC_any (g n c : Nat) (hn : n ≤ 1048576) (w : World) (h : MarkC w w g n) :
    Calls Try.prog 13 #[.slice (some ⟨g, 0, none⟩) n c, .int .i64 1] w fun e w' => e = .returned (.int .i64 (1 + 5 * (n : Int))) ∧ w.grownBy w' (some g) := by
  have H := Lib.hid h
  clear h
  go_enter Try.func13, Try.ntmps13
  go_wp2_with fail
  go_loopw [1, 5] (fun m i wr => ∃ k : Nat, k ≤ n ∧ i = .int .i64 k ∧ m = .int .i64 (1 + 5 * (k : Int)) ∧ Hid (MarkC w wr g n)) (fun _ i _ => n - (intOf i).toNat)
  case atStart => exact ⟨0, Nat.zero_le _, rfl, rfl, H⟩
  case round =>
    obtain ⟨k, hk, rfl, rfl, HR⟩ := hrel
    by_cases hlt : k < n
    · obtain ⟨a, ha⟩ : ∃ a : Int, a = 1 + 5 * (k : Int) := ⟨_, rfl⟩
      have KA := Lib.hid ha
      have ha1 : 1 ≤ a := by omega
      have ha2 : a ≤ 99999990 := by omega
      rw [← ha]
      clear ha
      go_wp2_with fail
      refine (markText_int a ha1 (by omega) _).mono ?_
      rintro e w1 ⟨rfl, hb1⟩
      have HR1 := Lib.hid (markC_below HR.out hb1)
      clear hb1
      generalize mt a.toNat = x0 at *
      obtain ⟨⟨y0, c0⟩, z0⟩ := markC_cell HR1.out (k * 5) (by omega)
      obtain ⟨⟨y1, c1⟩, z1⟩ := markC_cell HR1.out (k * 5 + 1) (by omega)
      obtain ⟨⟨y2, c2⟩, z2⟩ := markC_cell HR1.out (k * 5 + 2) (by omega)
      obtain ⟨⟨y3, c3⟩, z3⟩ := markC_cell HR1.out (k * 5 + 3) (by omega)
      obtain ⟨⟨y4, c4⟩, z4⟩ := markC_cell HR1.out (k * 5 + 4) (by omega)
      have HR2 := Lib.hid (fun v0 v1 v2 v3 v4 => markC_set (markC_set (markC_set (markC_set (markC_set HR1.out (k * 5) v0) (k * 5 + 1) v1) (k * 5 + 2) v2) (k * 5 + 3) v3) (k * 5 + 4) v4)
      go_wp2_with fail
      refine ⟨⟨k + 1, by omega, by go_num, val_i (by have := KA.out; omega), Lib.hid (HR2.out _ _ _ _ _)⟩, by simp [intOf]; omega⟩
    · obtain rfl : k = n := by omega
      go_wp2_with fail
      go_ret
      exact ⟨rfl, HR.out.1⟩
end Go.Proofs.Ytpmaaflpknjbmaa.C
