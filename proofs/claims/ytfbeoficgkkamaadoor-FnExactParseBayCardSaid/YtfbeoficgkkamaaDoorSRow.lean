/-
  The maker of the iterator, its contract for a loop, and blocks of strings. No statement of the seat by itself.
-/
import Derived.Test.YtfbeoficgkkamaaDoorSIter
namespace Go.Proofs.YtfbeoficgkkamaaDoor
open Go.RowKit Go.Shelf
attribute [local go_sem] Oper.semAt_some

set_option maxHeartbeats 1000000 in
theorem piecesOf_in (F : Fence) (n : Nat) (h27 : F.fn 48) (hro : F.round = none) (s : ByteArray) (c : Int) (w : World) :
    CallsIn F n Tryd.prog 48 #[.string s, .int .u8 c] w fun e w' => e = .returned (.func (.func 63) #[] #[.pointer (some ⟨w.heap.size, 0, none⟩), .pointer (some ⟨w.heap.size + 1, 0, none⟩)]) ∧ w' = (w.alloc (.cells #[.string s] 9)).alloc (.cells #[.int .u8 c] 5) := by
  refine callsIn_of_wp Tryd.func48 rfl h27 ?_ hro
  simp only [Tryd.ntmps48, List.size_toArray, List.length_cons, List.length_nil, Nat.reduceAdd, Nat.reduceSub, Array.replicate_succ, Array.replicate_zero, List.push_toArray, List.append_toArray, List.nil_append, List.cons_append]
  gi_wp2
  go_ret
  exact ⟨rfl, rfl⟩

theorem pieces_stops (F : Fence) (n : Nat) (h36 : F.fn 63) (hro : F.round = none) (hn : 1 ≤ n) (Bs Bc : Nat) (s : ByteArray) (c : UInt8) (hs : s.size ≤ 1048576) (w : World) (hbs : Bs < w.heap.size) (hbc : Bc < w.heap.size)
    (hS : w.cell? ⟨Bs, 0, none⟩ = some (.string s)) (hC : w.cell? ⟨Bc, 0, none⟩ = some (.int .u8 (c.toNat : Int))) :
    SeqStopsK F n Tryd.prog 63 #[.pointer (some ⟨Bs, 0, none⟩), .pointer (some ⟨Bc, 0, none⟩)] (fun x : ByteArray => #[Value.string x]) (KeepsCells Bs Bc) (fun ys => ys = pieces s c) (fun pre => pre <+: pieces s c) (pieces s c).length w := fun l J Jx W hW hJ _ hY h0 =>
  pieces1_in F n h36 hro hn l Bs Bc s c hs J Jx hY W hJ ((hW.cell (p := ⟨Bs, 0, none⟩) hbs).trans hS) ((hW.cell (p := ⟨Bc, 0, none⟩) hbc).trans hC) h0

/-- A block of strings of which the first n are told. -/
def RowAt (W : World) (g cap n : Nat) (f : Nat → ByteArray) : Prop := ∃ cur : Array Value, W.heap[g]? = some (.cells cur 9 (0, 0)) ∧ n ≤ cap ∧ cur.size = cap ∧ ∀ j, j < n → cur[j]? = some (.string (f j))
theorem RowAt.cell {W : World} {g cap n : Nat} {f : Nat → ByteArray} (h : RowAt W g cap n f) (j : Nat) (hj : j < n) : W.cell? ⟨g, j, none⟩ = some (.string (f j)) := by
  obtain ⟨cur, hb, _, _, hc⟩ := h
  simp [World.cell?, hb, hc j hj]
theorem RowAt.frozen {W : World} {g cap n : Nat} {f : Nat → ByteArray} (h : RowAt W g cap n f) (j : Nat) : W.frozen? ⟨g, j, none⟩ = false := by
  obtain ⟨cur, hb, _, _, _⟩ := h
  simp [World.frozen?, hb]
theorem RowAt.lt {W : World} {g cap n : Nat} {f : Nat → ByteArray} (h : RowAt W g cap n f) : g < W.heap.size := by
  obtain ⟨cur, hb, _⟩ := h
  exact (Array.getElem?_eq_some_iff.1 hb).1
theorem RowAt.block {W W' : World} {g cap n : Nat} {f : Nat → ByteArray} (h : RowAt W g cap n f) (he : W'.heap[g]? = W.heap[g]?) : RowAt W' g cap n f := by
  obtain ⟨cur, hb, h1⟩ := h
  exact ⟨cur, he.trans hb, h1⟩

end Go.Proofs.YtfbeoficgkkamaaDoor
