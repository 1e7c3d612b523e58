/-
  Plain mathematics: the rows of a plan as rows of ports; room in rows. No statement of the seat by itself.
-/
import Derived.Test.YtpflnjjckeeihaaZBox
import Derived.Test.YtpflnjjckeeihaaPutM
namespace Go.Proofs.Ytpflnjjckeeihaa

/-- The ports of the rows, of the first k of a plan. -/
def prY (q : Nat) (P O : List Int) : Nat → List (List Int)
  | 0 => List.replicate q []
  | k + 1 => putY (prY q P O k) (O.getD k 0).toNat (P.getD k 0)
theorem prY_len (q : Nat) (P O : List Int) : ∀ k, (prY q P O k).length = q
  | 0 => by simp [prY]
  | k + 1 => by rw [prY, putY_len, prY_len q P O k]
theorem prY_row {q : Nat} {P O : List Int} {j : Nat} (hj : j < q) : ∀ k, (prY q P O k)[j]? = some ((rowZ O k j).map (ptZ P))
  | 0 => by simp [prY, rowZ, hj]
  | k + 1 => by
    have ih := prY_row (P := P) (O := O) hj k
    rw [prY]
    by_cases e : (O.getD k 0).toNat = j
    · rw [rowZ_yes e, putY_of (e ▸ ih), e, List.getElem?_set_self (by rw [prY_len]; exact hj), List.map_append]
      simp [ptZ_at]
    · rw [rowZ_no e]
      unfold putY
      rw [List.getElem?_set_ne e]
      exact ih
/-- Only the first k count. -/
theorem prY_front {q : Nat} {P O : List Int} {x : Int} : ∀ k, k ≤ O.length → prY q P (O ++ [x]) k = prY q P O k
  | 0, _ => rfl
  | k + 1, h => by
    have e : (O ++ [x]).getD k 0 = O.getD k 0 := by rw [List.getD, List.getD, List.getElem?_append_left (by omega)]
    rw [prY, prY, prY_front k (by omega), e]
theorem prY_snoc {q : Nat} {P O : List Int} {k : Nat} {x : Int} (hx : P[O.length]? = some x) : prY q P (O ++ [(k : Int)]) (O.length + 1) = putY (prY q P O O.length) k x := by
  have e : (O ++ [(k : Int)]).getD O.length 0 = (k : Int) := by rw [List.getD, List.getElem?_append_right (Nat.le_refl _)]; simp
  rw [prY, prY_front _ (Nat.le_refl _), e, List.getD, hx, Int.toNat_natCast]
  rfl
/-- Room in rows. -/
def roomL (H : Nat) (Y : List (List Int)) : Nat := (Y.map fun (l : List Int) => H - l.length).sum
theorem roomL_set {H : Nat} {x : Int} : ∀ {Y : List (List Int)} {k : Nat} {l : List Int}, Y[k]? = some l → l.length < H → roomL H (Y.set k (l ++ [x])) + 1 = roomL H Y
  | [], k, l, h, _ => by simp at h
  | r :: Y, 0, l, h, hl => by
    simp at h
    subst h
    simp [roomL]
    omega
  | r :: Y, k + 1, l, h, hl => by
    have := roomL_set (H := H) (x := x) (Y := Y) (k := k) (l := l) (by simpa using h) hl
    simp only [roomL, List.set_cons_succ, List.map_cons, List.sum_cons] at this ⊢
    omega
theorem roomL_pos {H : Nat} : ∀ {Y : List (List Int)}, 0 < roomL H Y → ∃ (k : Nat) (l : List Int), Y[k]? = some l ∧ l.length < H
  | [], h => by simp [roomL] at h
  | r :: Y, h => by
    by_cases hr : r.length < H
    · exact ⟨0, r, rfl, hr⟩
    · have h' : 0 < roomL H Y := by simp only [roomL, List.map_cons, List.sum_cons] at h ⊢; omega
      obtain ⟨k, l, h1, h2⟩ := roomL_pos h'
      exact ⟨k + 1, l, by simpa using h1, h2⟩
theorem roomL_nil (H q : Nat) : roomL H (List.replicate q []) = q * H := by simp [roomL, List.map_replicate, List.sum_replicate_nat]
end Go.Proofs.Ytpflnjjckeeihaa
