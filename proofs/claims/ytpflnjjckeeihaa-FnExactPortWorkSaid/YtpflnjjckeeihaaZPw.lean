/-
  The work of a port: plain mathematics; two lists as the law asks them. No statement of the seat by itself.
-/
import Derived.Test.YtpflnjjckeeihaaZShI
import Derived.Test.YtpflnjjckeeihaaZPut
namespace Go.Proofs.Ytpflnjjckeeihaa
open Go.RowKit

/-- Whether a container stands above one for the port and has a greater one. -/
def abB (P O : List Int) (p : Int) (i : Nat) : Bool := decide (p < P.getD i 0) && hasB (blZ P O i) p
theorem abB_iff {P O : List Int} {p : Int} {i : Nat} : abB P O p i = true ↔ p < P.getD i 0 ∧ ∃ m : Nat, m < i ∧ (O.getD m 0).toNat = (O.getD i 0).toNat ∧ P.getD m 0 = p := by
  unfold abB hasB
  rw [Bool.and_eq_true, decide_eq_true_iff, decide_eq_true_iff, blZ_mem]
  constructor
  · rintro ⟨h, m, h1, h2, h3⟩; exact ⟨h, m, h1, h2, h3.symm⟩
  · rintro ⟨h, m, h1, h2, h3⟩; exact ⟨h, m, h1, h2, h3.symm⟩
def okW (r h : Int) (P O : List Int) (p : Int) : Bool := okZ r h P O && decide (1 ≤ p ∧ p ≤ 9)
def pwR (r h : Int) (P O : List Int) (p : Int) : List Int := if okW r h P O p = true then numsW (isP P p) O.length else []
def pwD (r h : Int) (P O : List Int) (p : Int) : List Int := if okW r h P O p = true then numsW (abB P O p) O.length else []
theorem pw_no {r h : Int} {P O : List Int} {p : Int} (g : okW r h P O p = false) : pwR r h P O p = [] ∧ pwD r h P O p = [] := by simp [pwR, pwD, g]
theorem pw_yes {r h : Int} {P O : List Int} {p : Int} (g : okW r h P O p = true) : pwR r h P O p = numsW (isP P p) O.length ∧ pwD r h P O p = numsW (abB P O p) O.length := by simp [pwR, pwD, g]
theorem okW_l {r h : Int} {P O : List Int} {p : Int} (g : okZ r h P O = false) : okW r h P O p = false := by simp [okW, g]
theorem okW_r {r h : Int} {P O : List Int} {p : Int} (g : ¬ (1 ≤ p ∧ p ≤ 9)) : okW r h P O p = false := by
  unfold okW; rw [decide_eq_false g, Bool.and_false]
theorem okW_yes {r h : Int} {P O : List Int} {p : Int} (g : okZ r h P O = true) (gp : 1 ≤ p ∧ p ≤ 9) : okW r h P O p = true := by
  unfold okW; rw [g, decide_eq_true gp]; rfl
theorem pw_len (r h : Int) (P O : List Int) (p : Int) : (pwR r h P O p).length ≤ 1048576 ∧ (pwD r h P O p).length ≤ 1048576 := by
  cases g : okW r h P O p with
  | false => rw [(pw_no g).1, (pw_no g).2]; simp
  | true =>
    rw [(pw_yes g).1, (pw_yes g).2]
    have hz : okZ r h P O = true := by
      unfold okW at g
      exact (Bool.and_eq_true _ _ ▸ g : _ ∧ _).1
    obtain ⟨g1, g2, g3, g4, -, -, -⟩ := okZ_get hz
    have := numsW_len (isP P p) O.length
    have := numsW_len (abB P O p) O.length
    omega

/-- Two lists of the call's own, in different blocks. -/
def TwoL (w : World) (B hi : Nat) (v1 : Value) (R : List Int) (v2 : Value) (D : List Int) : Prop := LO w B hi v1 R ∧ LO w B hi v2 D ∧ ∀ b, v1.ownBlock = some b → v2.ownBlock ≠ some b
theorem TwoL.below {w w' : World} {B hi : Nat} {v1 v2 : Value} {R D : List Int} (g : TwoL w B hi v1 R v2 D) (hb : Below w.heap.size w w') : TwoL w' B hi v1 R v2 D := ⟨g.1.below hb, g.2.1.below hb, g.2.2⟩
theorem TwoL.span {w w' : World} {B hi lo' hi' : Nat} {v1 v2 : Value} {R D : List Int} (g : TwoL w B hi v1 R v2 D) (hs : Span lo' hi' w w') (ho : hi ≤ lo' ∨ hi' ≤ B) : TwoL w' B hi v1 R v2 D := ⟨g.1.span hs ho, g.2.1.span hs ho, g.2.2⟩
/-- Two lists of the call's own were answered, and a yes or no. -/
def RetLL (w : World) (R D : List Int) (ok : Bool) (e : Ending) (w' : World) : Prop := ∃ a c b d, e = .returned (.tuple #[.slice a R.length c, .slice b D.length d, .bool ok]) ∧ TwoL w' w.heap.size w'.heap.size (.slice a R.length c) R (.slice b D.length d) D ∧ Below w.heap.size w w'
/-- Two lists that read so, and a yes or no. -/
def SeenLL (w : World) (R D : List Int) (ok : Bool) (e : Ending) (w' : World) : Prop := ∃ a c b d, e = .returned (.tuple #[.slice a R.length c, .slice b D.length d, .bool ok]) ∧ IL w' (.slice a R.length c) R ∧ IL w' (.slice b D.length d) D ∧ Below w.heap.size w w'
theorem own_apart {w w' : World} {B : Nat} {v u : Value} {l : List Int} (h : w.ownsRow B 3 1 v l.length (intV l)) (hg : w.grownBy w' u.ownBlock) (hx : ∀ b, u.ownBlock = some b → v.ownBlock ≠ some b) : w'.ownsRow B 3 1 v l.length (intV l) := by
  refine h.kept hg ?_
  cases hv : v.ownBlock with
  | none => exact .inl rfl
  | some b => exact .inr fun e => hx b e.symm hv
theorem markL_first (v1 v2 : Value) (R D : List Int) (k0 : Int) (B hi : Nat) (hn : R.length ≤ 1048576) (hk0 : 0 ≤ k0) (hk1 : k0 ≤ 10000000) (w : World) (h : TwoL w B hi v1 R v2 D) :
    Calls Try.prog 40 #[v1, .int .i64 k0] w fun e w' => e = .returned (.int .i64 (k0 + (R.length : Int))) ∧ TwoL w' B hi v1 (runL k0 R.length) v2 D ∧ Span B hi w w' :=
  (markL_out v1 R k0 B hi hn hk0 hk1 w h.1).mono fun _ _ ⟨he, ho, hs, hg⟩ => ⟨he, ⟨ho, ⟨Nat.le_trans h.2.1.1 hs.size, own_apart h.2.1.2.1 hg h.2.2, h.2.1.2.2⟩, h.2.2⟩, hs⟩
theorem markL_second (v1 v2 : Value) (R D : List Int) (k0 : Int) (B hi : Nat) (hn : D.length ≤ 1048576) (hk0 : 0 ≤ k0) (hk1 : k0 ≤ 10000000) (w : World) (h : TwoL w B hi v1 R v2 D) :
    Calls Try.prog 40 #[v2, .int .i64 k0] w fun e w' => e = .returned (.int .i64 (k0 + (D.length : Int))) ∧ TwoL w' B hi v1 R v2 (runL k0 D.length) ∧ Span B hi w w' :=
  (markL_out v2 D k0 B hi hn hk0 hk1 w h.2.1).mono fun _ _ ⟨he, ho, hs, hg⟩ => ⟨he, ⟨⟨Nat.le_trans h.1.1 hs.size, own_apart h.1.2.1 hg fun b hb e2 => h.2.2 b e2 hb, h.1.2.2⟩, ho, h.2.2⟩, hs⟩

/-- As the reference collects them. -/
def owK (P : List Int) (p : Int) (l S : List Int) : Nat → List Int
  | 0 => S
  | k + 1 => if ptZ P (l.getD k 0) = p then insU (l.getD k 0) (owK P p l S k) else owK P p l S k
def abF (P : List Int) (p : Int) (l : List Int) : Nat → Bool
  | 0 => false
  | k + 1 => if ptZ P (l.getD k 0) = p then true else abF P p l k
def upK (P : List Int) (p : Int) (l S : List Int) : Nat → List Int
  | 0 => S
  | k + 1 => if ptZ P (l.getD k 0) ≠ p ∧ p < ptZ P (l.getD k 0) ∧ abF P p l k = true then insU (l.getD k 0) (upK P p l S k) else upK P p l S k
def owI (P : List Int) (p : Int) (Y : List (List Int)) : Nat → List Int
  | 0 => []
  | i + 1 => owK P p (Y.getD i []) (owI P p Y i) (Y.getD i []).length
def upI (P : List Int) (p : Int) (Y : List (List Int)) : Nat → List Int
  | 0 => []
  | i + 1 => upK P p (Y.getD i []) (upI P p Y i) (Y.getD i []).length
theorem owK_asc {P l S : List Int} {p : Int} (hS : S.Pairwise (· < ·)) : ∀ k, (owK P p l S k).Pairwise (· < ·)
  | 0 => hS
  | k + 1 => by
    rw [owK]
    split
    · exact insU_asc (owK_asc hS k)
    · exact owK_asc hS k
theorem upK_asc {P l S : List Int} {p : Int} (hS : S.Pairwise (· < ·)) : ∀ k, (upK P p l S k).Pairwise (· < ·)
  | 0 => hS
  | k + 1 => by
    rw [upK]
    split
    · exact insU_asc (upK_asc hS k)
    · exact upK_asc hS k
theorem owI_asc (P : List Int) (p : Int) (Y : List (List Int)) : ∀ i, (owI P p Y i).Pairwise (· < ·)
  | 0 => List.Pairwise.nil
  | i + 1 => owK_asc (owI_asc P p Y i) _
theorem upI_asc (P : List Int) (p : Int) (Y : List (List Int)) : ∀ i, (upI P p Y i).Pairwise (· < ·)
  | 0 => List.Pairwise.nil
  | i + 1 => upK_asc (upI_asc P p Y i) _
theorem owK_mem {P l S : List Int} {p x : Int} : ∀ k, x ∈ owK P p l S k ↔ (∃ t, t < k ∧ x = l.getD t 0 ∧ ptZ P (l.getD t 0) = p) ∨ x ∈ S
  | 0 => by simp [owK]
  | k + 1 => by
    have ih := owK_mem (P := P) (l := l) (S := S) (p := p) (x := x) k
    rw [owK]
    split
    · rename_i hc
      rw [insU_mem, ih]
      constructor
      · rintro (rfl | ⟨t, ht, e⟩ | e)
        · exact .inl ⟨k, by omega, rfl, hc⟩
        · exact .inl ⟨t, by omega, e⟩
        · exact .inr e
      · rintro (⟨t, ht, e, h⟩ | e)
        · by_cases q : t = k
          · subst q; exact .inl e
          · exact .inr (.inl ⟨t, by omega, e, h⟩)
        · exact .inr (.inr e)
    · rename_i hc
      rw [ih]
      constructor
      · rintro (⟨t, ht, e⟩ | e)
        · exact .inl ⟨t, by omega, e⟩
        · exact .inr e
      · rintro (⟨t, ht, e, h⟩ | e)
        · by_cases q : t = k
          · subst q; exact absurd h hc
          · exact .inl ⟨t, by omega, e, h⟩
        · exact .inr e
theorem abF_iff {P l : List Int} {p : Int} : ∀ k, abF P p l k = true ↔ ∃ q, q < k ∧ ptZ P (l.getD q 0) = p
  | 0 => by simp [abF]
  | k + 1 => by
    have ih := abF_iff (P := P) (l := l) (p := p) k
    rw [abF]
    split
    · rename_i hc
      exact ⟨fun _ => ⟨k, by omega, hc⟩, fun _ => rfl⟩
    · rename_i hc
      rw [ih]
      constructor
      · rintro ⟨q, hq, h⟩; exact ⟨q, by omega, h⟩
      · rintro ⟨q, hq, h⟩
        by_cases e : q = k
        · subst e; exact absurd h hc
        · exact ⟨q, by omega, h⟩
theorem upK_mem {P l S : List Int} {p x : Int} : ∀ k, x ∈ upK P p l S k ↔ (∃ t, t < k ∧ x = l.getD t 0 ∧ p < ptZ P (l.getD t 0) ∧ ∃ q, q < t ∧ ptZ P (l.getD q 0) = p) ∨ x ∈ S
  | 0 => by simp [upK]
  | k + 1 => by
    have ih := upK_mem (P := P) (l := l) (S := S) (p := p) (x := x) k
    rw [upK]
    split
    · rename_i hc
      rw [insU_mem, ih]
      constructor
      · rintro (rfl | ⟨t, ht, e⟩ | e)
        · exact .inl ⟨k, by omega, rfl, hc.2.1, (abF_iff k).1 hc.2.2⟩
        · exact .inl ⟨t, by omega, e⟩
        · exact .inr e
      · rintro (⟨t, ht, e, h⟩ | e)
        · by_cases q : t = k
          · subst q; exact .inl e
          · exact .inr (.inl ⟨t, by omega, e, h⟩)
        · exact .inr (.inr e)
    · rename_i hc
      rw [ih]
      constructor
      · rintro (⟨t, ht, e⟩ | e)
        · exact .inl ⟨t, by omega, e⟩
        · exact .inr e
      · rintro (⟨t, ht, e, h1, h2⟩ | e)
        · by_cases q : t = k
          · subst q; exact absurd ⟨by omega, h1, (abF_iff t).2 h2⟩ hc
          · exact .inl ⟨t, by omega, e, h1, h2⟩
        · exact .inr e
theorem owI_mem {P : List Int} {p : Int} {Y : List (List Int)} {x : Int} : ∀ i, x ∈ owI P p Y i ↔ ∃ j, j < i ∧ ∃ t, t < (Y.getD j []).length ∧ x = (Y.getD j []).getD t 0 ∧ ptZ P ((Y.getD j []).getD t 0) = p
  | 0 => by simp [owI]
  | i + 1 => by
    rw [owI, owK_mem, owI_mem i]
    constructor
    · rintro (⟨t, ht, h⟩ | ⟨j, hj, h⟩)
      · exact ⟨i, by omega, t, ht, h⟩
      · exact ⟨j, by omega, h⟩
    · rintro ⟨j, hj, h⟩
      by_cases e : j = i
      · subst e; exact .inl h
      · exact .inr ⟨j, by omega, h⟩
theorem upI_mem {P : List Int} {p : Int} {Y : List (List Int)} {x : Int} : ∀ i, x ∈ upI P p Y i ↔ ∃ j, j < i ∧ ∃ t, t < (Y.getD j []).length ∧ x = (Y.getD j []).getD t 0 ∧ p < ptZ P ((Y.getD j []).getD t 0) ∧ ∃ q, q < t ∧ ptZ P ((Y.getD j []).getD q 0) = p
  | 0 => by simp [upI]
  | i + 1 => by
    rw [upI, upK_mem, upI_mem i]
    constructor
    · rintro (⟨t, ht, h⟩ | ⟨j, hj, h⟩)
      · exact ⟨i, by omega, t, ht, h⟩
      · exact ⟨j, by omega, h⟩
    · rintro ⟨j, hj, h⟩
      by_cases e : j = i
      · subst e; exact .inl h
      · exact .inr ⟨j, by omega, h⟩
theorem owI_eq {P O : List Int} {n r : Nat} {p : Int} (hr : ∀ i, i < n → (O.getD i 0).toNat < r) : owI P p (bayZ r O n) r = numsW (isP P p) n := by
  refine asc_ext (owI_asc _ _ _ _) (numsW_asc _ _) fun x => ?_
  rw [owI_mem, numsW_mem]
  constructor
  · rintro ⟨j, hj, t, ht, rfl, h⟩
    rw [bayZ_getD hj] at ht h ⊢
    obtain ⟨i, h1, h2, h3⟩ := rowZ_at ht
    rw [h3, ptZ_at] at h
    exact ⟨i, h1, by simp [isP, List.getD] at h ⊢; exact h, h3⟩
  · rintro ⟨i, h1, h2, rfl⟩
    obtain ⟨t, ht, e⟩ := rowZ_find h1 (j := (O.getD i 0).toNat) rfl
    refine ⟨_, hr i h1, t, by rw [bayZ_getD (hr i h1)]; exact ht, by rw [bayZ_getD (hr i h1)]; exact e.symm, ?_⟩
    rw [bayZ_getD (hr i h1), e, ptZ_at]
    unfold isP at h2
    exact eq_of_beq h2
theorem upI_eq {P O : List Int} {n r : Nat} {p : Int} (hr : ∀ i, i < n → (O.getD i 0).toNat < r) : upI P p (bayZ r O n) r = numsW (abB P O p) n := by
  refine asc_ext (upI_asc _ _ _ _) (numsW_asc _ _) fun x => ?_
  rw [upI_mem, numsW_mem]
  constructor
  · rintro ⟨j, hj, t, ht, rfl, hp, h⟩
    rw [bayZ_getD hj] at ht h hp ⊢
    obtain ⟨i, h1, h2, h3⟩ := rowZ_at ht
    rw [h3, ptZ_at] at hp
    obtain ⟨m, m1, m2, m3⟩ := (row_below_iff (R := fun y => ptZ P y = p) ht h3).1 h
    rw [ptZ_at] at m3
    exact ⟨i, h1, abB_iff.2 ⟨hp, m, m1, by rw [m2, h2], m3⟩, h3⟩
  · rintro ⟨i, h1, h2, rfl⟩
    obtain ⟨hp, m, m1, m2, m3⟩ := abB_iff.1 h2
    obtain ⟨t, ht, e⟩ := rowZ_find h1 (j := (O.getD i 0).toNat) rfl
    refine ⟨_, hr i h1, t, by rw [bayZ_getD (hr i h1)]; exact ht, by rw [bayZ_getD (hr i h1)]; exact e.symm, ?_⟩
    rw [bayZ_getD (hr i h1), e, ptZ_at]
    exact ⟨hp, (row_below_iff (R := fun y => ptZ P y = p) ht e).2 ⟨m, m1, m2, by rw [ptZ_at]; exact m3⟩⟩
end Go.Proofs.Ytpflnjjckeeihaa
