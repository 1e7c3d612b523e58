/-
  Plain mathematics of joining: when a list of texts can be joined, and how much room is left. No program stands in it.
-/
import Derived.Test.YthpiahellpnccaaDoorPieces
namespace Go.Proofs.YthpiahellpnccaaDoor

/-- The separator stands in the text. -/
def HasSep (p : ByteArray) (c : UInt8) : Prop := ∃ (i : Nat) (h : i < p.size), p[i] = c

theorem pst_none (p : ByteArray) (c : UInt8) (k : Nat) (h : ∀ (i : Nat) (hi : i < p.size), i < k → ¬ p[i] = c) : pst p c k = ([], 0) := by
  induction k with
  | zero => rfl
  | succ k ih =>
    have e := ih fun i hi hk => h i hi (by omega)
    rw [pst]
    split
    · rename_i hk
      rw [if_neg (h k hk (by omega))]
      exact e
    · exact e

theorem extract_all (p : ByteArray) : p.extract 0 p.size = p := by
  apply ByteArray.ext
  simp

theorem pieces_none (p : ByteArray) (c : UInt8) (h : ¬ HasSep p c) : pieces p c = [p] := by
  have e := pst_none p c p.size fun i hi _ hc => h ⟨i, hi, hc⟩
  unfold pieces
  rw [e]
  simp

theorem first_sep (p : ByteArray) (c : UInt8) (n : Nat) : (∃ (i : Nat) (h : i < p.size), i < n ∧ p[i] = c) → ∃ (i : Nat) (h : i < p.size), p[i] = c ∧ ∀ (j : Nat) (hj : j < p.size), j < i → ¬ p[j] = c := by
  induction n with
  | zero => rintro ⟨i, h, hn, _⟩; omega
  | succ n ih =>
    rintro ⟨i, h, hn, hc⟩
    by_cases hx : ∃ (j : Nat) (hj : j < p.size), j < n ∧ p[j] = c
    · exact ih hx
    · refine ⟨i, h, hc, fun j hj hji hjc => hx ⟨j, hj, by omega, hjc⟩⟩

theorem pieces_head (p : ByteArray) (c : UInt8) (h : HasSep p c) : ∃ x r, pieces p c = x :: r ∧ x.size < p.size := by
  obtain ⟨i0, h0, hc0⟩ := h
  obtain ⟨i, hi, hc, hmin⟩ := first_sep p c (i0 + 1) ⟨i0, h0, by omega, hc0⟩
  have e := pst_none p c i hmin
  have e1 := pst_hit p c i hi hc
  rw [e] at e1
  have hp := pst_prefix p c (i + 1) (by omega)
  rw [e1] at hp
  obtain ⟨t, ht⟩ := hp
  refine ⟨p.extract 0 i, t, by rw [← ht]; rfl, ?_⟩
  rw [ByteArray.size_extract]
  omega

/-- The separator stands in the text, as a test. -/
def sepIn (p : ByteArray) (c : UInt8) : Bool := p.data.toList.contains c
theorem sepIn_iff (p : ByteArray) (c : UInt8) : sepIn p c = true ↔ HasSep p c := by
  unfold sepIn
  rw [List.contains_iff_mem]
  constructor
  · intro h
    obtain ⟨i, hi, e⟩ := List.getElem_of_mem h
    exact ⟨i, by simpa using hi, by rw [← e]; rfl⟩
  · rintro ⟨i, hi, rfl⟩
    have : p.data.toList[i]'(by simpa using hi) ∈ p.data.toList := List.getElem_mem _
    exact this

/-- The room that is left behind the texts; none: one of them holds the separator, or there is no room. -/
def roomAfter (c : UInt8) : List ByteArray → Nat → Option Nat
  | [], r => some r
  | p :: ps, r => if sepIn p c || !decide (p.size < r) then none else roomAfter c ps (r - (p.size + 1))

theorem roomAfter_snoc (c : UInt8) (ps : List ByteArray) (p : ByteArray) : ∀ r, roomAfter c (ps ++ [p]) r = (roomAfter c ps r).bind fun q => roomAfter c [p] q := by
  induction ps with
  | nil => intro r; rfl
  | cons x xs ih =>
    intro r
    simp only [List.cons_append, roomAfter]
    split
    · rfl
    · exact ih _

theorem roomAfter_none (c : UInt8) (ps qs : List ByteArray) : ∀ r, roomAfter c ps r = none → roomAfter c (ps ++ qs) r = none := by
  induction ps with
  | nil => intro r h; cases h
  | cons x xs ih =>
    intro r h
    simp only [List.cons_append, roomAfter] at h ⊢
    split at h
    · rename_i hx
      rw [if_pos hx]
    · rename_i hx
      rw [if_neg hx]
      exact ih _ h

theorem roomAfter_le (c : UInt8) (ps : List ByteArray) : ∀ r q, roomAfter c ps r = some q → q ≤ r := by
  induction ps with
  | nil => intro r q h; cases h; exact Nat.le_refl _
  | cons x xs ih =>
    intro r q h
    simp only [roomAfter] at h
    split at h
    · cases h
    · have := ih _ _ h; omega

/-- What the pieces that came take up. -/
def tot (l : List ByteArray) : Nat := (l.map fun x => x.size + 1).sum
theorem tot_nil : tot [] = 0 := rfl
theorem tot_snoc (l : List ByteArray) (x : ByteArray) : tot (l ++ [x]) = tot l + (x.size + 1) := by
  simp [tot]

/-- All pieces have come, and each was as long as the text: the text has no separator, and one piece came. -/
theorem pieces_whole (p : ByteArray) (c : UInt8) (h : ∀ x ∈ pieces p c, x.size = p.size) : ¬ HasSep p c := by
  intro hs
  obtain ⟨x, r, e, hx⟩ := pieces_head p c hs
  have := h x (by rw [e]; simp)
  omega

/-- A piece was refused: the text holds the separator, or there is no room. -/
theorem pieces_refused (p : ByteArray) (c : UInt8) (r q : Nat) (q0 : List ByteArray) (x : ByteArray) (hp : (q0 ++ [x]) <+: pieces p c) (hall : ∀ y ∈ q0, y.size = p.size) (hq : q + tot q0 = r) (hx : ¬ (x.size = p.size ∧ x.size < q)) :
    HasSep p c ∨ ¬ p.size < r := by
  by_cases hs : HasSep p c
  · exact .inl hs
  · right
    rw [pieces_none p c hs] at hp
    obtain ⟨t, ht⟩ := hp
    cases q0 with
    | nil =>
      simp only [List.nil_append, List.cons_append] at ht
      have hxp : x = p := by injection ht
      subst hxp
      rw [tot_nil] at hq
      omega
    | cons a as =>
      exfalso
      have := congrArg List.length ht
      simp at this
end Go.Proofs.YthpiahellpnccaaDoor
