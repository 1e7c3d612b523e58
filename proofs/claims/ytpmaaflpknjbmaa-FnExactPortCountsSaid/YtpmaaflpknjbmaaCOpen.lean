/-
  An argument that is a list of containers, opened: how many, what each reads as. No statement of the seat by itself.
-/
import Derived.Test.YtpmaaflpknjbmaaCRow
import Derived.Deep.Slices
import Derived.Deep.Fields
import Derived.ChangeSame
import Derived.Lib.SmallJoins
import Derived.ProofKit
import Derived.OpenShut
import Derived.Carry
namespace Go.Proofs.Ytpmaaflpknjbmaa.C
open Go.Joins Go.Deep Go.ChangeShapes Go.WideShapes Go.ChangeAt Go.RowKit

section
variable {H : Type} {enc : TypeId × Value → H} {P : Program} {w : World} {base : Nat} {spare : Nat → Bool} {held : Bool}
/-- Five cells that read as a struct of a text and four ints. -/
theorem five_cells {t : TypeId} {f0 f1 f2 f3 f4 : Field} {n : Nat} {cs : List Value} {x : DataW H × List MemPlace} (hs : P.underlying t = some (.struct #[f0, f1, f2, f3, f4])) (hone : oneCellFields P #[f0, f1, f2, f3, f4] = true) (hC : P.cellsOf t = 5)
    (u0 : P.underlying f0.type = some .string) (u1 : P.underlying f1.type = some (.int .i64)) (u2 : P.underlying f2.type = some (.int .i64)) (u3 : P.underlying f3.type = some (.int .i64)) (u4 : P.underlying f4.type = some (.int .i64))
    (h : DataW.trod enc P w base spare held n t cs = some x) :
    ∃ c : Cont, cs = [.string c.id, .int .i64 c.size, .int .i64 c.weight, .int .i64 c.cargo, .int .i64 c.port] ∧ c.id.size ≤ maxLen := by
  obtain ⟨xs, n', _, _, hlc, hlen, hg⟩ := DataW.trod_struct hs h
  rw [hC] at hlc
  have hx : xs.length = 5 := hlen
  have k0 := hone_of hone 0 f0 rfl
  have k1 := hone_of hone 1 f1 rfl
  have k2 := hone_of hone 2 f2 rfl
  have k3 := hone_of hone 3 f3 rfl
  have k4 := hone_of hone 4 f4 rfl
  match cs, hlc, xs, hx with
  | [c0, c1, c2, c3, c4], _, [y0, y1, y2, y3, y4], _ =>
    have t0 : DataW.trod enc P w base spare held n' f0.type [c0] = some y0 := by simpa [k0] using hg 0 f0 rfl
    have t1 : DataW.trod enc P w base spare held n' f1.type [c1] = some y1 := by simpa [k1] using hg 1 f1 rfl
    have t2 : DataW.trod enc P w base spare held n' f2.type [c2] = some y2 := by simpa [k2] using hg 2 f2 rfl
    have t3 : DataW.trod enc P w base spare held n' f3.type [c3] = some y3 := by simpa [k3] using hg 3 f3 rfl
    have t4 : DataW.trod enc P w base spare held n' f4.type [c4] = some y4 := by simpa [k4] using hg 4 f4 rfl
    obtain ⟨s, e0, _, ws⟩ := DataW.trod_string u0 t0
    obtain ⟨n1, e1, _, _⟩ := DataW.trod_int u1 t1
    obtain ⟨n2, e2, _, _⟩ := DataW.trod_int u2 t2
    obtain ⟨n3, e3, _, _⟩ := DataW.trod_int u3 t3
    obtain ⟨n4, e4, _, _⟩ := DataW.trod_int u4 t4
    simp only [List.cons.injEq, and_true] at e0 e1 e2 e3 e4
    subst e0 e1 e2 e3 e4
    exact ⟨⟨s, n1, n2, n3, n4⟩, rfl, ws⟩
end

/-- The law's list of containers. -/
theorem open_conts {H : Type} {enc : TypeId × Value → H} {W : World} {a0 : Option Addr} {len cap : Nat} {d : DataW H} {p : List MemPlace} (h : DataW.Trod enc Try.prog W 0 (fun _ => true) true 22 (.slice a0 len cap) d p) (hlt : ∀ x ∈ p, x.block < W.heap.size) :
    ∃ f : Nat → Cont, len ≤ maxLen ∧ (∀ j, j < len → (f j).id.size ≤ maxLen) ∧ ArgC W (.slice a0 len cap) len f := by
  obtain ⟨fuel, hf⟩ := h
  have c90 : Try.prog.cellsOf 47 = 5 := by kernel_rfl
  rcases open_slice Try.underlying22 hf with ⟨hcs, hx⟩ | ⟨a, len', cap', m, n, D, Pl, hcs, hb, hl, hm, hmm, hx, hi⟩
  · simp [Value.cells] at hcs
    obtain ⟨rfl, rfl, rfl⟩ := hcs
    exact ⟨fun _ => ⟨⟨#[]⟩, 0, 0, 0, 0⟩, Nat.zero_le _, fun j hj => by omega, .inl ⟨rfl, _, _, rfl⟩⟩
  · simp [Value.cells] at hcs
    obtain ⟨rfl, rfl, rfl⟩ := hcs
    simp only [if_true] at hmm
    subst hmm
    rw [c90] at hx hi
    simp only [Prod.mk.injEq] at hx
    obtain ⟨-, hp⟩ := hx
    have key : ∀ i, i < m → ∃ c : Cont, c.id.size ≤ maxLen ∧ ∀ j, j < 5 → W.cell? ((a.add (i * 5)).add j) = [Value.string c.id, .int .i64 c.size, .int .i64 c.weight, .int .i64 c.cargo, .int .i64 c.port][j]? := fun i him => by
      obtain ⟨cs', hc, ht'⟩ := hi i him
      obtain ⟨c, rfl, ws⟩ := five_cells Try.underlying47 (by kernel_rfl) c90 Try.underlying9 Try.underlying3 Try.underlying3 Try.underlying3 Try.underlying3 ht'
      exact ⟨c, ws, (World.cells?_some hc).2.2⟩
    have pick : ∀ i, ∃ c : Cont, i < m → (c.id.size ≤ maxLen ∧ ∀ j, j < 5 → W.cell? ((a.add (i * 5)).add j) = [Value.string c.id, .int .i64 c.size, .int .i64 c.weight, .int .i64 c.cargo, .int .i64 c.port][j]?) := fun i => by
      by_cases him : i < m
      · obtain ⟨c, hc⟩ := key i him
        exact ⟨c, fun _ => hc⟩
      · exact ⟨⟨⟨#[]⟩, 0, 0, 0, 0⟩, fun h => absurd h him⟩
    refine ⟨fun i => Classical.choose (pick i), by omega, fun j hj => (Classical.choose_spec (pick j) (by omega)).1, ?_⟩
    by_cases hl0 : len = 0
    · subst hl0; exact .inl ⟨rfl, _, _, rfl⟩
    · obtain ⟨b, off, spot⟩ := a
      have h00 := (Classical.choose_spec (pick 0) (by omega)).2 0 (by decide)
      have hspot : spot = none := by
        have h1 : W.cell? ⟨b, off, spot⟩ = some (.string (Classical.choose (pick 0)).id) := by simpa [Addr.add] using h00
        exact World.cell?_spot h1
      subst hspot
      have hbW : b < W.heap.size := hlt (.cell b off) (by rw [hp]; exact List.mem_append_left _ (MemPlace.mem_row.2 ⟨0, by omega, by simp⟩))
      refine .inr ⟨b, off, _, rfl, hbW, fun j hj => ?_⟩
      have hq := (Classical.choose_spec (pick j) (by omega)).2
      show CCells W b (off + j * 5) (Classical.choose (pick j))
      generalize Classical.choose (pick j) = c at hq ⊢
      have hq' : ∀ i, i < 5 → W.cell? ⟨b, off + j * 5 + i, none⟩ = [Value.string c.id, .int .i64 c.size, .int .i64 c.weight, .int .i64 c.cargo, .int .i64 c.port][i]? := fun i hi5 => by
        have := hq i hi5
        rw [add_plain, add_plain] at this
        exact this
      exact ⟨hq' 0 (by decide), hq' 1 (by decide), hq' 2 (by decide), hq' 3 (by decide), hq' 4 (by decide)⟩
theorem list_laidOut : laidOutB Try.prog = true := by kernel_rfl
theorem list_own : ownKnob Try.prog.godebug = none := by kernel_rfl
end Go.Proofs.Ytpmaaflpknjbmaa.C
