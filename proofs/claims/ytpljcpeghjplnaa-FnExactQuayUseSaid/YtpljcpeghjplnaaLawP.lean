/-
  What the laws of this chapter need besides: marks beyond a million, marks of two answers that lie apart, an argument that is a list of ints. No statement of the seat by itself.
-/
import Derived.Test.YtpljcpeghjplnaaKeep
import Derived.Test.YtpljcpeghjplnaaRet
import Derived.Test.YtpljcpeghjplnaaHeights
import Derived.Test.YtpljcpeghjplnaaOwnI
import Derived.OpenShut
namespace Go.Proofs.Ytpljcpeghjplnaa
open Go.Joins Go.Deep Go.ChangeShapes Go.WideShapes Go.ChangeAt Go.RowKit

/-- A yard and a list of ints that read so and whether it worked. -/
def SeenYL (w : World) (R : List (List Int)) (D : List Int) (ok : Bool) (e : Ending) (w' : World) : Prop := ∃ a c u, e = .returned (.tuple #[.agg #[.slice a R.length c], u, .bool ok]) ∧ YL w' (.slice a R.length c) R ∧ IL w' u D ∧ Below w.heap.size w w'
/-- A yard and a list of ints of the call's own, apart from each other, and whether it worked. -/
def RetYL (w : World) (R : List (List Int)) (D : List Int) (ok : Bool) (e : Ending) (w' : World) : Prop := ∃ a c u B1 h1, e = .returned (.tuple #[.agg #[.slice a R.length c], u, .bool ok]) ∧ w.heap.size ≤ B1 ∧ OwnY w' B1 h1 (.slice a R.length c) R ∧ w'.ownsRow w.heap.size 3 1 u D.length (intV D) ∧ (∀ b, u.ownBlock = some b → b < B1 ∨ h1 ≤ b) ∧ Below w.heap.size w w'
theorem markL_wide (v : Value) (l : List Int) (k0 : Int) (B hi : Nat) (hn : l.length ≤ 1048576) (hk0 : 0 ≤ k0) (hk1 : k0 ≤ 10000000) (w : World) (h : LO w B hi v l) :
    Calls Try.prog 46 #[v, .int .i64 k0] w fun e w' => e = .returned (.int .i64 (k0 + (l.length : Int))) ∧ LO w' B hi v (runL k0 l.length) ∧ Span B hi w w' :=
  (markI_any v l k0 B hn hk0 hk1 w h.2.1).mono fun e w' ⟨he, ho, hg⟩ => ⟨he, ⟨Nat.le_trans h.1 hg.size, by rw [runL_len]; exact ho, h.2.2⟩, Span.of_grown hg fun b hb => ⟨row_base h.2.1 b hb, h.2.2 b hb⟩⟩
theorem heldL_wide (v : Value) (n : Nat) (k0 : Int) (hn : n ≤ 1048576) (hk0 : 0 ≤ k0) (hk1 : k0 ≤ 10000000) (w : World) (h : IL w v (runL k0 n)) :
    Calls Try.prog 49 #[v, .int .i64 k0] w fun e w' => e = .returned (.int .i64 (k0 + (n : Int))) ∧ Below w.heap.size w w' :=
  (heldI_any v n k0 hn hk0 hk1 w h).mono fun e w' ⟨he, k, hk⟩ => ⟨he, by subst hk; exact below_drewN (Below.refl _ _) k⟩
theorem markL_out (v : Value) (l : List Int) (k0 : Int) (B hi : Nat) (hn : l.length ≤ 1048576) (hk0 : 0 ≤ k0) (hk1 : k0 ≤ 10000000) (w : World) (h : LO w B hi v l) :
    Calls Try.prog 46 #[v, .int .i64 k0] w fun e w' => e = .returned (.int .i64 (k0 + (l.length : Int))) ∧ LO w' B hi v (runL k0 l.length) ∧ Span B hi w w' ∧ w.grownBy w' v.ownBlock :=
  (markI_any v l k0 B hn hk0 hk1 w h.2.1).mono fun e w' ⟨he, ho, hg⟩ => ⟨he, ⟨Nat.le_trans h.1 hg.size, by rw [runL_len]; exact ho, h.2.2⟩, Span.of_grown hg fun b hb => ⟨row_base h.2.1 b hb, h.2.2 b hb⟩, hg⟩
theorem lo_outside {w w' : World} {B hi B1 h1 : Nat} {v : Value} {l : List Int} (h : LO w B hi v l) (hS : Span B1 h1 w w') (hx : ∀ b, v.ownBlock = some b → b < B1 ∨ h1 ≤ b) : LO w' B hi v l :=
  ⟨Nat.le_trans h.1 hS.size, own_span h.2.1 hS hx, h.2.2⟩
theorem owny_outside {w w' : World} {B1 h1 : Nat} {u v : Value} {Y : List (List Int)} (h : OwnY w B1 h1 v Y) (hg : w.grownBy w' u.ownBlock) (hx : ∀ b, u.ownBlock = some b → b < B1 ∨ h1 ≤ b) : OwnY w' B1 h1 v Y := by
  cases hu : u.ownBlock with
  | none =>
    rw [hu] at hg
    exact h.span (Span.of_grown (lo := 0) (hi := 0) hg fun k hk => by cases hk) (.inr (Nat.zero_le _))
  | some b =>
    rw [hu] at hg
    exact h.span (Span.of_grown (lo := b) (hi := b + 1) hg fun k hk => by cases hk; omega) (by have := hx b hu; omega)

/-- The law's list of ints. -/
theorem open_il {H : Type} {enc : TypeId × Value → H} {W : World} {a0 : Option Addr} {len cap : Nat} {d : DataW H} {p : List MemPlace} (h : DataW.Trod enc Try.prog W 0 (fun _ => true) true 25 (.slice a0 len cap) d p) (hlt : ∀ x ∈ p, x.block < W.heap.size) :
    ∃ O : List Int, O.length ≤ maxLen ∧ IL W (.slice a0 len cap) O := by
  obtain ⟨fuel, hf⟩ := h
  have c3 : Try.prog.cellsOf 3 = 1 := by kernel_rfl
  rcases open_ints Try.underlying25 Try.underlying3 c3 hf with ⟨hcs, hx⟩ | ⟨a, len', cap', zs, hcs, _, hl, hm, hz, hx, hcell, _⟩
  · simp [Value.cells] at hcs
    obtain ⟨rfl, rfl, rfl⟩ := hcs
    exact ⟨[], Nat.zero_le _, IL.nil _ _ _⟩
  · simp [Value.cells] at hcs
    obtain ⟨rfl, rfl, rfl⟩ := hcs
    simp only [if_true] at hz
    simp only [Prod.mk.injEq] at hx
    obtain ⟨-, hp⟩ := hx
    have hzl : (zs.take len).length = len := by simp; omega
    refine ⟨zs.take len, by omega, some a, cap, by rw [hzl], fun h0 => ?_⟩
    rw [hzl] at h0
    obtain ⟨b, off, spot⟩ := a
    have hspot : spot = none := by simpa [Addr.add] using World.cell?_spot (hcell 0 (by omega))
    subst hspot
    have hbW : b < W.heap.size := hlt (.cell b off) (by rw [hp]; exact MemPlace.mem_row.2 ⟨0, by omega, by simp⟩)
    refine ⟨b, off, rfl, hbW, fun j x hx => ?_⟩
    have hj := lt_of_get hx
    rw [hzl] at hj
    rw [List.getElem?_take, if_pos hj] at hx
    rw [← add_plain, hcell j (by omega)]
    simp [List.getD, hx]
end Go.Proofs.Ytpljcpeghjplnaa
