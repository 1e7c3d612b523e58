/-
  Plain mathematics: the plan of the greedy rule. No statement of the seat by itself.
-/
import Derived.Test.YtpflnjjckeeihaaZPr
import Derived.Test.YtpflnjjckeeihaaZShI
namespace Go.Proofs.Ytpflnjjckeeihaa

/-- The row that the rule takes: the first good one, or, if none is good, the first one with room. -/
def GrP (p1 p2 : Nat → Bool) (n k : Nat) : Prop := k < n ∧ ((p1 k = true ∧ ∀ j, j < k → p1 j = false) ∨ ((∀ j, j < n → p1 j = false) ∧ p2 k = true ∧ ∀ j, j < k → p2 j = false))
theorem GrP.one {p1 p2 : Nat → Bool} {n k m : Nat} (h : GrP p1 p2 n k) (g : GrP p1 p2 n m) : k = m := by
  have tri : ∀ {p : Nat → Bool} {a b : Nat}, p a = true → (∀ j, j < b → p j = false) → ¬ a < b := fun ha hb hlt => by rw [hb _ hlt] at ha; cases ha
  obtain ⟨h1, ⟨h2, h3⟩ | ⟨h2, h3, h4⟩⟩ := h
  · obtain ⟨g1, ⟨g2, g3⟩ | ⟨g2, g3, g4⟩⟩ := g
    · have := tri h2 g3; have := tri g2 h3; omega
    · rw [g2 k h1] at h2; cases h2
  · obtain ⟨g1, ⟨g2, g3⟩ | ⟨g2, g3, g4⟩⟩ := g
    · rw [h2 m g1] at g2; cases g2
    · have := tri h3 g4; have := tri g3 h4; omega
/-- The first place at which p holds. -/
def fstP (p : Nat → Bool) : Nat → Option Nat
  | 0 => none
  | n + 1 => match fstP p n with
    | some k => some k
    | none => if p n = true then some n else none
theorem fstP_spec (p : Nat → Bool) : ∀ n, (∃ k, fstP p n = some k ∧ k < n ∧ p k = true ∧ ∀ j, j < k → p j = false) ∨ (fstP p n = none ∧ ∀ j, j < n → p j = false)
  | 0 => .inr ⟨rfl, fun j hj => by omega⟩
  | n + 1 => by
    rcases fstP_spec p n with ⟨k, h0, h1, h2, h3⟩ | ⟨h0, h⟩
    · exact .inl ⟨k, by rw [fstP, h0], by omega, h2, h3⟩
    · by_cases hp : p n = true
      · exact .inl ⟨n, by rw [fstP, h0]; simp [hp], by omega, hp, h⟩
      · exact .inr ⟨by rw [fstP, h0]; simp [hp], fun j hj => by
          by_cases e : j = n
          · rw [e]; simpa using hp
          · exact h j (by omega)⟩
theorem GrP.some {p1 p2 : Nat → Bool} {n i : Nat} (hi : i < n) (h2 : p2 i = true) : ∃ k, GrP p1 p2 n k := by
  rcases fstP_spec p1 n with ⟨k, -, h⟩ | ⟨-, h⟩
  · exact ⟨k, h.1, .inl h.2⟩
  · rcases fstP_spec p2 n with ⟨k, -, g⟩ | ⟨-, g⟩
    · exact ⟨k, g.1, .inr ⟨h, g.2⟩⟩
    · rw [g i hi] at h2; cases h2
/-- Whether a row is good for a port; whether it has room. -/
def gr1 (H : Nat) (Y : List (List Int)) (x : Int) (j : Nat) : Bool := decide ((Y.getD j []).length < H) && decide (x ≤ earL (Y.getD j []))
def gr2 (H : Nat) (Y : List (List Int)) (j : Nat) : Bool := decide ((Y.getD j []).length < H)
def grK (H : Nat) (Y : List (List Int)) (x : Int) : Nat := match fstP (gr1 H Y x) Y.length with
  | some k => k
  | none => (fstP (gr2 H Y) Y.length).getD 0
theorem grK_of {H : Nat} {Y : List (List Int)} {x : Int} {k : Nat} (h : GrP (gr1 H Y x) (gr2 H Y) Y.length k) : grK H Y x = k := by
  unfold grK
  rcases fstP_spec (gr1 H Y x) Y.length with ⟨m, e, g⟩ | ⟨e, g⟩
  · rw [e]
    exact GrP.one ⟨g.1, .inl g.2⟩ h
  · rw [e]
    rcases fstP_spec (gr2 H Y) Y.length with ⟨m, e2, g2⟩ | ⟨e2, g2⟩
    · rw [e2]
      exact GrP.one ⟨g2.1, .inr ⟨g, g2.2⟩⟩ h
    · obtain ⟨h1, ⟨h2, -⟩ | ⟨-, h3, -⟩⟩ := h
      · rw [g k h1] at h2; cases h2
      · rw [g2 k h1] at h3; cases h3
/-- The plan and the rows after the first i containers. -/
def grO (q H : Nat) (P : List Int) : Nat → List Int
  | 0 => []
  | i + 1 => grO q H P i ++ [(grK H (prY q P (grO q H P i) i) (P.getD i 0) : Int)]
theorem grO_len (q H : Nat) (P : List Int) : ∀ i, (grO q H P i).length = i
  | 0 => rfl
  | i + 1 => by rw [grO, List.length_append, grO_len q H P i]; rfl
/-- The rows after the first i containers. -/
def grY (q H : Nat) (P : List Int) (i : Nat) : List (List Int) := prY q P (grO q H P i) i
theorem grY_len (q H : Nat) (P : List Int) (i : Nat) : (grY q H P i).length = q := prY_len _ _ _ _
theorem grY_next {q H : Nat} {P : List Int} {i : Nat} {x : Int} (hx : P[i]? = some x) : grY q H P (i + 1) = putY (grY q H P i) (grK H (grY q H P i) x) x := by
  have hd : P.getD i 0 = x := by simp [List.getD, hx]
  unfold grY
  rw [grO, hd]
  have := prY_snoc (q := q) (P := P) (O := grO q H P i) (k := grK H (prY q P (grO q H P i) i) x) (x := x) (by rw [grO_len]; exact hx)
  rw [grO_len] at this
  exact this
/-- What is kept while the rule goes on. -/
structure GrI (q H : Nat) (P : List Int) (i : Nat) : Prop where
  room : roomL H (grY q H P i) + i = q * H
  low : ∀ l ∈ grY q H P i, l.length ≤ H
  ran : ∀ x ∈ grO q H P i, 0 ≤ x ∧ x < (q : Int)
theorem GrI.start (q H : Nat) (P : List Int) : GrI q H P 0 :=
  ⟨by show roomL H (List.replicate q []) + 0 = _; rw [roomL_nil]; rfl, fun l hl => by
    have : l ∈ List.replicate q ([] : List Int) := hl
    rw [List.mem_replicate] at this; rw [this.2]; simp, fun x hx => by cases hx⟩
theorem GrI.pick {q H : Nat} {P : List Int} {i : Nat} (h : GrI q H P i) (hi : i < q * H) (x : Int) : ∃ k, GrP (gr1 H (grY q H P i) x) (gr2 H (grY q H P i)) (grY q H P i).length k ∧ grK H (grY q H P i) x = k ∧ k < q ∧ ∃ l, (grY q H P i)[k]? = some l ∧ l.length < H := by
  obtain ⟨j, l, h1, h2⟩ := roomL_pos (H := H) (Y := grY q H P i) (by have := h.room; omega)
  obtain ⟨k, hk⟩ := GrP.some (p1 := gr1 H (grY q H P i) x) (p2 := gr2 H (grY q H P i)) (lt_of_get h1) (by simp [gr2, List.getD, h1, h2])
  have hkq : k < q := by have := hk.1; rwa [grY_len] at this
  obtain ⟨l', hl'⟩ := get_at (Y := grY q H P i) rfl hk.1
  refine ⟨k, hk, grK_of hk, hkq, l', hl', ?_⟩
  have hd : (grY q H P i).getD k [] = l' := by simp [List.getD, hl']
  obtain ⟨-, ⟨a, -⟩ | ⟨-, b, -⟩⟩ := hk
  · unfold gr1 at a; rw [hd] at a; simp at a; exact a.1
  · unfold gr2 at b; rw [hd] at b; simpa using b
theorem GrI.next {q H : Nat} {P : List Int} {i : Nat} {x : Int} (h : GrI q H P i) (hx : P[i]? = some x) (hi : i < q * H) : GrI q H P (i + 1) := by
  obtain ⟨k, hk, hg, hkq, l, hl, hlH⟩ := h.pick hi x
  have e : grY q H P (i + 1) = (grY q H P i).set k (l ++ [x]) := by rw [grY_next hx, hg, putY_of hl]
  refine ⟨?_, fun r hr => ?_, fun y hy => ?_⟩
  · rw [e]
    have := roomL_set (x := x) hl hlH
    have := h.room
    omega
  · rw [e] at hr
    rcases List.mem_or_eq_of_mem_set hr with hr | rfl
    · exact h.low r hr
    · rw [List.length_append, List.length_singleton]; omega
  · have hd : P.getD i 0 = x := by simp [List.getD, hx]
    rw [grO, hd] at hy
    rcases List.mem_append.1 hy with hy | hy
    · exact h.ran y hy
    · simp only [List.mem_singleton] at hy
      have hg2 : grK H (prY q P (grO q H P i) i) x = k := hg
      rw [hg2] at hy
      subst hy
      omega
theorem GrI.all {q H : Nat} {P : List Int} (hn : P.length ≤ q * H) : ∀ i, i ≤ P.length → GrI q H P i
  | 0, _ => GrI.start q H P
  | i + 1, hi => by
    obtain ⟨x, hx⟩ := get_at (Y := P) rfl (by omega : i < P.length)
    exact (GrI.all hn i (by omega)).next hx (by omega)
/-- The plan of the rule is a possible plan. -/
theorem gr_ok {q H : Nat} {P : List Int} (hg : goodZ (q : Int) (H : Int) P = true) : okZ (q : Int) (H : Int) P (grO q H P P.length) = true := by
  obtain ⟨g1, g2, g3, g4, g5, g6, g7⟩ := goodZ_iff.1 hg
  have h6 : P.length ≤ q * H := by
    have : ((q * H : Nat) : Int) = (q : Int) * (H : Int) := Int.natCast_mul q H
    omega
  have hI := GrI.all (q := q) (H := H) h6 P.length (Nat.le_refl _)
  refine okZ_iff.2 ⟨hg, planZ_iff.2 ⟨hI.ran, grO_len _ _ _ _, fun j hj => ?_⟩⟩
  rw [Int.toNat_natCast] at hj ⊢
  have := hI.low ((rowZ (grO q H P P.length) P.length j).map (ptZ P)) (List.mem_of_getElem? (prY_row hj P.length))
  rw [List.length_map] at this
  rw [grO_len]
  exact this
def grR (r h : Int) (P : List Int) : List Int := if goodZ r h P = true then grO r.toNat h.toNat P P.length else []
def grX (r h : Int) (P : List Int) : Int := if goodZ r h P = true then ((numsW (shB P (grO r.toNat h.toNat P P.length)) P.length).length : Int) else 0
theorem gr_no {r h : Int} {P : List Int} (g : goodZ r h P = false) : grR r h P = [] ∧ grX r h P = 0 := by simp [grR, grX, g]
theorem gr_yes {q H : Nat} {P : List Int} (g : goodZ (q : Int) (H : Int) P = true) : grR (q : Int) (H : Int) P = grO q H P P.length ∧ grX (q : Int) (H : Int) P = ((numsW (shB P (grO q H P P.length)) P.length).length : Int) := by simp [grR, grX, g]
theorem grR_len (r h : Int) (P : List Int) : (grR r h P).length ≤ 1048576 := by
  unfold grR
  split
  · rename_i g
    rw [grO_len]
    have := (goodZ_iff.1 g).2.2.2.2.1
    omega
  · simp
end Go.Proofs.Ytpflnjjckeeihaa
