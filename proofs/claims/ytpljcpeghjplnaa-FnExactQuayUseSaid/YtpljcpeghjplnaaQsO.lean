/-
  An argument that is a list of structs Ship, opened: what it reads as. No statement of the seat by itself.
-/
import Derived.Test.YtpljcpeghjplnaaQsR
namespace Go.Proofs.Ytpljcpeghjplnaa
open Go.Joins Go.Deep Go.ChangeShapes Go.WideShapes Go.ChangeAt Go.RowKit

section
variable {H : Type} {enc : TypeId × Value → H} {P : Program} {w : World} {base : Nat} {spare : Nat → Bool} {held : Bool}
/-- Cells that read as a struct of ints. -/
theorem cellsQs {t : TypeId} {f0 f1 f2 f3 : Field} {n : Nat} {cs : List Value} {x : DataW H × List MemPlace} (hs : P.underlying t = some (.struct #[f0, f1, f2, f3])) (hone : oneCellFields P #[f0, f1, f2, f3] = true) (hC : P.cellsOf t = 4)
    (u0 : P.underlying f0.type = some (.int .i64)) (u1 : P.underlying f1.type = some (.int .i64)) (u2 : P.underlying f2.type = some (.int .i64)) (u3 : P.underlying f3.type = some (.int .i64))
    (h : DataW.trod enc P w base spare held n t cs = some x) :
    ∃ c : (Int × Int × Int × Int), cs = [.int .i64 c.1, .int .i64 c.2.1, .int .i64 c.2.2.1, .int .i64 c.2.2.2] := by
  obtain ⟨xs, n', _, _, hlc, hlen, hg⟩ := DataW.trod_struct hs h
  rw [hC] at hlc
  have hx : xs.length = 4 := hlen
  have k0 := hone_of hone 0 f0 rfl
  have k1 := hone_of hone 1 f1 rfl
  have k2 := hone_of hone 2 f2 rfl
  have k3 := hone_of hone 3 f3 rfl
  match cs, hlc, xs, hx with
  | [c0, c1, c2, c3], _, [y0, y1, y2, y3], _ =>
    have t0 : DataW.trod enc P w base spare held n' f0.type [c0] = some y0 := by simpa [k0] using hg 0 f0 rfl
    have t1 : DataW.trod enc P w base spare held n' f1.type [c1] = some y1 := by simpa [k0, k1] using hg 1 f1 rfl
    have t2 : DataW.trod enc P w base spare held n' f2.type [c2] = some y2 := by simpa [k0, k1, k2] using hg 2 f2 rfl
    have t3 : DataW.trod enc P w base spare held n' f3.type [c3] = some y3 := by simpa [k0, k1, k2, k3] using hg 3 f3 rfl
    obtain ⟨n0, e0, _, _⟩ := DataW.trod_int u0 t0
    obtain ⟨n1, e1, _, _⟩ := DataW.trod_int u1 t1
    obtain ⟨n2, e2, _, _⟩ := DataW.trod_int u2 t2
    obtain ⟨n3, e3, _, _⟩ := DataW.trod_int u3 t3
    simp only [List.cons.injEq, and_true] at e0 e1 e2 e3
    subst e0 e1 e2 e3
    exact ⟨⟨n0, n1, n2, n3⟩, rfl⟩
end

/-- The law's list. -/
theorem openQs {H : Type} {enc : TypeId × Value → H} {W : World} {a0 : Option Addr} {len cap : Nat} {d : DataW H} {p : List MemPlace} (h : DataW.Trod enc Try.prog W 0 (fun _ => true) true 51 (.slice a0 len cap) d p) (hlt : ∀ x ∈ p, x.block < W.heap.size) :
    ∃ S : List (Int × Int × Int × Int), S.length ≤ maxLen ∧ QsL W (.slice a0 len cap) S := by
  obtain ⟨fuel, hf⟩ := h
  have c43 : Try.prog.cellsOf 123 = 4 := by kernel_rfl
  rcases open_slice Try.underlying51 hf with ⟨hcs, hx⟩ | ⟨a, len', cap', m, n, D, Pl, hcs, hb, hl, hm, hmm, hx, hi⟩
  · simp [Value.cells] at hcs
    obtain ⟨rfl, rfl, rfl⟩ := hcs
    exact ⟨[], Nat.zero_le _, QsL.nil _ _ _⟩
  · simp [Value.cells] at hcs
    obtain ⟨rfl, rfl, rfl⟩ := hcs
    simp only [if_true] at hmm
    subst hmm
    rw [c43] at hx hi
    simp only [Prod.mk.injEq] at hx
    obtain ⟨-, hp⟩ := hx
    have key : ∀ i, i < m → ∃ c : (Int × Int × Int × Int), ∀ j, j < 4 → W.cell? ((a.add (i * 4)).add j) = [Value.int .i64 c.1, Value.int .i64 c.2.1, Value.int .i64 c.2.2.1, Value.int .i64 c.2.2.2][j]? := fun i him => by
      obtain ⟨cs', hc, ht'⟩ := hi i him
      obtain ⟨c, rfl⟩ := cellsQs Try.underlying123 (by kernel_rfl) c43 Try.underlying3 Try.underlying3 Try.underlying3 Try.underlying3 ht'
      exact ⟨c, (World.cells?_some hc).2.2⟩
    have pick : ∀ i, ∃ c : (Int × Int × Int × Int), i < m → (∀ j, j < 4 → W.cell? ((a.add (i * 4)).add j) = [Value.int .i64 c.1, Value.int .i64 c.2.1, Value.int .i64 c.2.2.1, Value.int .i64 c.2.2.2][j]?) := fun i => by
      by_cases him : i < m
      · obtain ⟨c, hc⟩ := key i him
        exact ⟨c, fun _ => hc⟩
      · exact ⟨⟨0, 0, 0, 0⟩, fun h => absurd h him⟩
    refine ⟨(List.range len).map fun i => Classical.choose (pick i), by simp; omega, some a, m, by simp, fun h0 => ?_⟩
    simp at h0
    obtain ⟨b, off, spot⟩ := a
    have h00 := Classical.choose_spec (pick 0) (by omega) 0 (by decide)
    have hspot : spot = none := by
      have h1 : W.cell? ⟨b, off, spot⟩ = some (.int .i64 (Classical.choose (pick 0)).1) := by simpa [Addr.add] using h00
      exact World.cell?_spot h1
    subst hspot
    have hbW : b < W.heap.size := hlt (.cell b off) (by rw [hp]; exact List.mem_append_left _ (MemPlace.mem_row.2 ⟨0, by omega, by simp⟩))
    refine ⟨b, off, rfl, hbW, fun j s hs => ?_⟩
    have hj := lt_of_get hs
    simp at hj
    simp [hj] at hs
    have hq := Classical.choose_spec (pick j) (by omega)
    rw [hs] at hq
    have hq' : ∀ i, i < 4 → W.cell? ⟨b, off + j * 4 + i, none⟩ = [Value.int .i64 s.1, Value.int .i64 s.2.1, Value.int .i64 s.2.2.1, Value.int .i64 s.2.2.2][i]? := fun i hi5 => by
      have := hq i hi5
      rw [add_plain, add_plain] at this
      exact this
    exact ⟨hq' 0 (by decide), hq' 1 (by decide), hq' 2 (by decide), hq' 3 (by decide)⟩
end Go.Proofs.Ytpljcpeghjplnaa
