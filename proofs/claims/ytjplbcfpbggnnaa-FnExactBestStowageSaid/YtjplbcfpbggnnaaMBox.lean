/-
  Plain mathematics: the rows of a plan as rows of ports; the best plan as the best placement. No statement of the seat by itself.
-/
import Derived.Test.YtjplbcfpbggnnaaMZb
import Derived.Test.YtjplbcfpbggnnaaMPbI
import Derived.Test.YtjplbcfpbggnnaaPutM
import Derived.Test.YtjplbcfpbggnnaaTryP
namespace Go.Proofs.Ytjplbcfpbggnnaa

section
open Go.RowKit
/-- The containers of the greatest k ports. -/
def loK (P : List Int) : Nat → List Int
  | 0 => []
  | k + 1 => loK P k ++ numsW (isP P (9 - (k : Int))) P.length
theorem loK_len (P : List Int) : ∀ k, (loK P k).length ≤ k * P.length
  | 0 => by simp [loK]
  | k + 1 => by
    have h1 := loK_len P k
    have h2 := numsW_len (isP P (9 - (k : Int))) P.length
    rw [loK, List.length_append, Nat.succ_mul]
    omega
theorem loK_small {P : List Int} (h : P.length ≤ 7) {k : Nat} (hk : k ≤ 9) : (loK P k).length ≤ 63 := by
  have h1 := loK_len P k
  have h2 : k * P.length ≤ 9 * 7 := Nat.mul_le_mul hk h
  omega
def loR (r h : Int) (P : List Int) : List Int := if goodZ r h P = true then loK P 9 else []
theorem loR_no {r h : Int} {P : List Int} (g : goodZ r h P = false) : loR r h P = [] := by simp [loR, g]
theorem loR_yes {r h : Int} {P : List Int} (g : goodZ r h P = true) : loR r h P = loK P 9 := by simp [loR, g]
theorem loR_len (r h : Int) (P : List Int) : (loR r h P).length ≤ 1048576 := by
  cases g : goodZ r h P with
  | false => rw [loR_no g]; simp
  | true =>
    rw [loR_yes g]
    have := loK_small (goodZ_iff.1 g).2.2.2.2.1 (Nat.le_refl 9)
    omega

/-- While the order grows: the order and the stowage's box. -/
structure OrdZ (w wr : World) (r h : Int) (v0 sv : Value) (S : List Int) : Prop where
  own : wr.ownsRow (w.heap.size + 1) 3 1 sv S.length (intV S)
  box : Box3 wr w.heap.size r h v0
  bl : Below w.heap.size w wr
  hlt : w.heap.size + 1 ≤ wr.heap.size
  nn : sv ≠ .slice none 0 0
section
variable {w wr W w4 : World} {r h : Int} {v0 sv v' : Value} {S : List Int}
theorem OrdZ.below (g : OrdZ w wr r h v0 sv S) (hb : Below wr.heap.size wr W) : OrdZ w W r h v0 sv S :=
  ⟨row_below g.own hb, g.box.below hb, g.bl.trans (hb.mono g.bl.size), Nat.le_trans g.hlt hb.size, g.nn⟩
theorem OrdZ.start (w : World) (r h : Int) (v0 : Value) : OrdZ w ((w.alloc (.cells #[.int .i64 r, .int .i64 h, v0] 28)).alloc (.cells #[] 3)) r h v0 (.slice (some ⟨w.heap.size + 1, 0, none⟩) 0 0) [] := by
  have hb0 := below_one w (.cells #[.int .i64 r, .int .i64 h, v0] 28)
  have hb1 := below_one (w.alloc (.cells #[.int .i64 r, .int .i64 h, v0] 28)) (.cells #[] 3)
  have ho := own_empty (w.alloc (.cells #[.int .i64 r, .int .i64 h, v0] 28)) (.cells #[] 3) 3 rfl
  have hs : (w.alloc (.cells #[.int .i64 r, .int .i64 h, v0] 28)).heap.size = w.heap.size + 1 := by simp
  rw [hs] at ho
  exact ⟨ho, (Box3.new w r h v0 28).below hb1, hb0.trans (hb1.mono hb0.size), by rw [← hs]; exact hb1.size, by simp⟩
/-- Numbers behind the order. -/
theorem OrdZ.more {L : List Int} (g : OrdZ w wr r h v0 sv S) (hb : Below wr.heap.size wr W) (ho : w4.ownsRow (w.heap.size + 1) 3 1 v' (S.length + L.length) (intV S ++ intV L)) (hg : W.grownBy w4 sv.ownBlock) (hn : v' ≠ .slice none 0 0) : OrdZ w w4 r h v0 v' (S ++ L) := by
  have g1 := g.below hb
  have hne : ∀ b, sv.ownBlock = some b → w.heap.size + 1 ≤ b := fun b e => row_base g.own b e
  have blk : W.heap[w.heap.size]? = w4.heap[w.heap.size]? := (hg.block _ g1.box.1 (fun e => by have := hne _ e.symm; omega)).symm
  refine ⟨by rw [List.length_append]; simpa [intV] using ho, ⟨Nat.lt_of_lt_of_le g1.box.1 hg.size, ?_, ?_, ?_⟩, g1.bl.grown hg g1.bl.size (fun j e => by have := hne j e; omega), Nat.le_trans g1.hlt hg.size, hn⟩
  · exact (World.cell?_of_block (a := ⟨w.heap.size, 0, none⟩) blk.symm).trans g1.box.2.1
  · exact (World.cell?_of_block (a := ⟨w.heap.size, 1, none⟩) blk.symm).trans g1.box.2.2.1
  · exact (World.cell?_of_block (a := ⟨w.heap.size, 2, none⟩) blk.symm).trans g1.box.2.2.2
theorem OrdZ.ret (g : OrdZ w wr r h v0 sv S) (ok : Bool) : RetL w S ok (.returned (.tuple #[sv, .bool ok])) wr := by
  obtain ⟨a, c, rfl⟩ := own_form g.own
  exact ⟨a, c, rfl, lo_of_own g.own (Nat.le_succ _), g.bl⟩
end

theorem numsW_one {p : Nat → Bool} {n : Nat} : numsW p (n + 1) = numsW p n ++ (if p n = true then [(n : Int) + 1] else []) := by
  cases h : p n with
  | true => rw [numsW_yes h]; rfl
  | false => rw [numsW_no h]; simp
end

section
open Go.RowKit
/-- A slice that reads as a list of ints, in a block of ints. -/
def TL (w : World) (v : Value) (l : List Int) : Prop := ∃ a c, v = .slice a l.length c ∧ (0 < l.length → ∃ g off cur, a = some ⟨g, off, none⟩ ∧ w.heap[g]? = some (Obj.cells cur 3 (0, 0)) ∧ ∀ (j : Nat) (x : Int), l[j]? = some x → cur[off + j]? = some (.int .i64 x))
theorem TL.il {w : World} {v : Value} {l : List Int} (h : TL w v l) : IL w v l := by
  obtain ⟨a, c, rfl, h⟩ := h
  refine ⟨a, c, rfl, fun h0 => ?_⟩
  obtain ⟨g, off, cur, rfl, hg, hc⟩ := h h0
  exact ⟨g, off, rfl, mem_lt hg, fun j x hx => cell_of hg (hc j x hx)⟩
theorem TL.keep {w w' : World} {v : Value} {l : List Int} (h : TL w v l) (hk : ∀ (g : Nat) (cur : Array Value), w.heap[g]? = some (Obj.cells cur 3 (0, 0)) → w'.heap[g]? = some (Obj.cells cur 3 (0, 0))) : TL w' v l := by
  obtain ⟨a, c, rfl, h⟩ := h
  refine ⟨a, c, rfl, fun h0 => ?_⟩
  obtain ⟨g, off, cur, rfl, hg, hc⟩ := h h0
  exact ⟨g, off, cur, rfl, hk g cur hg, hc⟩
theorem TL.below {w w' : World} {v : Value} {l : List Int} (h : TL w v l) (hb : Below w.heap.size w w') : TL w' v l := h.keep fun g _ hg => (hb.block g (mem_lt hg)).trans hg
theorem tl_of_owns {W : World} {base : Nat} {v : Value} {l : List Int} (h : W.ownsRow base 3 1 v l.length (intV l)) : TL W v l := by
  obtain ⟨a, c, rfl⟩ := own_form h
  refine ⟨a, c, rfl, fun h0 => ?_⟩
  rcases h.2 with ⟨_, hz⟩ | ⟨g, cap, cur, hv, hg, hb, h1, h2, h3, h4⟩
  · omega
  · injection hv with e1 e2 e3
    subst e1 e3
    refine ⟨g, 0, cur, rfl, hb, fun j x hx => ?_⟩
    have hj := lt_of_get hx
    have hc := h.cellAt j (by omega)
    rw [intV_get, hx] at hc
    simpa [World.cell?, hb] using hc
/-- The first of a list, read through a shorter slice. -/
theorem tl_take {w : World} {a : Option Addr} {n c c' k : Nat} {l : List Int} (h : TL w (.slice a n c) l) (hn : l.length = n) (hk : k ≤ n) : TL w (.slice a k c') (l.take k) := by
  obtain ⟨a', c2, e, h⟩ := h
  injection e with e1 e2 e3
  subst e1
  refine ⟨a, c', by rw [List.length_take]; congr 1; omega, fun h0 => ?_⟩
  rw [List.length_take] at h0
  obtain ⟨g, off, cur, rfl, hg, hc⟩ := h (by omega)
  refine ⟨g, off, cur, rfl, hg, fun j x hx => ?_⟩
  rw [List.getElem?_take] at hx
  split at hx
  · exact hc j x hx
  · cases hx

theorem rowZ_take {O : List Int} {j : Nat} : ∀ {n t i : Nat}, t < (rowZ O n j).length → (rowZ O n j).getD t 0 = (i : Int) + 1 → (rowZ O n j).take t = rowZ O i j := by
  intro n
  induction n with
  | zero => intro t i ht; simp [rowZ_zero] at ht
  | succ n ih =>
    intro t i ht e
    by_cases q : (O.getD n 0).toNat = j
    · rw [rowZ_yes q] at ht e ⊢
      rw [List.length_append, List.length_singleton] at ht
      by_cases h : t < (rowZ O n j).length
      · rw [List.take_append_of_le_length (by omega)]
        refine ih h ?_
        rw [List.getD, List.getElem?_append_left h] at e
        exact e
      · have ht2 : t = (rowZ O n j).length := by omega
        subst ht2
        rw [List.getD, List.getElem?_append_right (Nat.le_refl _)] at e
        simp at e
        rw [List.take_left]
        rw [show i = n by omega]
    · rw [rowZ_no q] at ht e ⊢
      exact ih ht e
/-- The ports of the containers below one. -/
def blZ (P O : List Int) (i : Nat) : List Int := (rowZ O i (O.getD i 0).toNat).map (ptZ P)
theorem blZ_at {P O : List Int} {n t i j : Nat} (ht : t < (rowZ O n j).length) (e : (rowZ O n j).getD t 0 = (i : Int) + 1) : ((rowZ O n j).map (ptZ P)).take t = blZ P O i := by
  have hj : (O.getD i 0).toNat = j := by
    obtain ⟨i', -, h2, h3⟩ := rowZ_at ht
    have : i = i' := by omega
    rw [this]; exact h2
  rw [← List.map_take, rowZ_take ht e, blZ, hj]
theorem blZ_len (P O : List Int) (i : Nat) : (blZ P O i).length ≤ i := by
  unfold blZ
  rw [List.length_map]
  exact rowZ_len O _ i
theorem blZ_mem {P O : List Int} {i : Nat} {x : Int} : x ∈ blZ P O i ↔ ∃ m : Nat, m < i ∧ (O.getD m 0).toNat = (O.getD i 0).toNat ∧ x = P.getD m 0 := by
  unfold blZ
  rw [List.mem_map]
  constructor
  · rintro ⟨y, hy, rfl⟩
    obtain ⟨m, h1, h2, rfl⟩ := rowZ_mem.1 hy
    exact ⟨m, h1, h2, ptZ_at P m⟩
  · rintro ⟨m, h1, h2, rfl⟩
    exact ⟨_, rowZ_mem.2 ⟨m, h1, h2, rfl⟩, ptZ_at P m⟩
theorem shB_ear {P O : List Int} {i : Nat} (h : P.getD i 0 ≤ 9) : shB P O i = decide (earL (blZ P O i) < P.getD i 0) := by
  refine Bool.eq_iff_iff.2 ?_
  rw [shB_iff, decide_eq_true_iff, earL_lt]
  constructor
  · rintro ⟨m, h1, h2, h3⟩
    exact .inr ⟨_, blZ_mem.2 ⟨m, h1, h2, rfl⟩, h3⟩
  · rintro (h1 | ⟨a, ha, h3⟩)
    · omega
    · obtain ⟨m, h1, h2, rfl⟩ := blZ_mem.1 ha
      exact ⟨m, h1, h2, h3⟩
end

section
/-- The ports of the rows, of the first k of a plan. -/
def prY (q : Nat) (P O : List Int) : Nat → List (List Int)
  | 0 => List.replicate q []
  | k + 1 => putY (prY q P O k) (O.getD k 0).toNat (P.getD k 0)
theorem prY_len (q : Nat) (P O : List Int) : ∀ k, (prY q P O k).length = q
  | 0 => by simp [prY]
  | k + 1 => by rw [prY, putY_len, prY_len q P O k]
theorem prY_row {q : Nat} {P O : List Int} {j : Nat} (hj : j < q) : ∀ k, (prY q P O k)[j]? = some ((rowZ O k j).map (ptZ P))
  | 0 => by simp [prY, rowZ, hj]
  | k + 1 => by
    have ih := prY_row (P := P) (O := O) hj k
    rw [prY]
    by_cases e : (O.getD k 0).toNat = j
    · rw [rowZ_yes e, putY_of (e ▸ ih), e, List.getElem?_set_self (by rw [prY_len]; exact hj), List.map_append]
      simp [ptZ_at]
    · rw [rowZ_no e]
      unfold putY
      rw [List.getElem?_set_ne e]
      exact ih
/-- Only the first k count. -/
theorem prY_front {q : Nat} {P O : List Int} {x : Int} : ∀ k, k ≤ O.length → prY q P (O ++ [x]) k = prY q P O k
  | 0, _ => rfl
  | k + 1, h => by
    have e : (O ++ [x]).getD k 0 = O.getD k 0 := by rw [List.getD, List.getD, List.getElem?_append_left (by omega)]
    rw [prY, prY, prY_front k (by omega), e]
theorem prY_snoc {q : Nat} {P O : List Int} {k : Nat} {x : Int} (hx : P[O.length]? = some x) : prY q P (O ++ [(k : Int)]) (O.length + 1) = putY (prY q P O O.length) k x := by
  have e : (O ++ [(k : Int)]).getD O.length 0 = (k : Int) := by rw [List.getD, List.getElem?_append_right (Nat.le_refl _)]; simp
  rw [prY, prY_front _ (Nat.le_refl _), e, List.getD, hx, Int.toNat_natCast]
  rfl
/-- Room in rows. -/
def roomL (H : Nat) (Y : List (List Int)) : Nat := (Y.map fun (l : List Int) => H - l.length).sum
theorem roomL_set {H : Nat} {x : Int} : ∀ {Y : List (List Int)} {k : Nat} {l : List Int}, Y[k]? = some l → l.length < H → roomL H (Y.set k (l ++ [x])) + 1 = roomL H Y
  | [], k, l, h, _ => by simp at h
  | r :: Y, 0, l, h, hl => by
    simp at h
    subst h
    simp [roomL]
    omega
  | r :: Y, k + 1, l, h, hl => by
    have := roomL_set (H := H) (x := x) (Y := Y) (k := k) (l := l) (by simpa using h) hl
    simp only [roomL, List.set_cons_succ, List.map_cons, List.sum_cons] at this ⊢
    omega
theorem roomL_pos {H : Nat} : ∀ {Y : List (List Int)}, 0 < roomL H Y → ∃ (k : Nat) (l : List Int), Y[k]? = some l ∧ l.length < H
  | [], h => by simp [roomL] at h
  | r :: Y, h => by
    by_cases hr : r.length < H
    · exact ⟨0, r, rfl, hr⟩
    · have h' : 0 < roomL H Y := by simp only [roomL, List.map_cons, List.sum_cons] at h ⊢; omega
      obtain ⟨k, l, h1, h2⟩ := roomL_pos h'
      exact ⟨k + 1, l, by simpa using h1, h2⟩
theorem roomL_nil (H q : Nat) : roomL H (List.replicate q []) = q * H := by simp [roomL, List.map_replicate, List.sum_replicate_nat]
end

section
theorem badYL_nil (q : Nat) : ∀ k, badYL (List.replicate q []) k = []
  | 0 => rfl
  | k + 1 => by
    have e : (List.replicate q ([] : List Int)).getD k [] = [] := by
      rw [List.getD]
      rcases Nat.lt_or_ge k q with h | h
      · rw [List.getElem?_replicate, if_pos h]; rfl
      · rw [List.getElem?_replicate, if_neg (by omega)]; rfl
    rw [badYL, badYL_nil q k, e]
    rfl
theorem badN_nil (q : Nat) : badN (List.replicate q []) = 0 := by unfold badN; rw [badYL_nil]; rfl
/-- As many are badly placed as are shifted. -/
theorem badN_pr {q : Nat} {P O : List Int} (hP : ∀ i, P.getD i 0 ≤ 9) : ∀ n, (∀ i, i < n → (O.getD i 0).toNat < q) → badN (prY q P O n) = (numsW (shB P O) n).length
  | 0, _ => by rw [prY, badN_nil]; rfl
  | n + 1, h => by
    have ih := badN_pr hP n fun i hi => h i (by omega)
    rw [prY, badN_put (prY_row (h n (by omega)) n), ih]
    have e := shB_ear (P := P) (O := O) (i := n) (hP n)
    unfold blZ at e
    by_cases hc : earL ((rowZ O n (O.getD n 0).toNat).map (ptZ P)) < P.getD n 0
    · rw [if_pos hc, numsW_yes (e.trans (decide_eq_true hc)), List.length_append, List.length_singleton]
    · rw [if_neg hc, numsW_no (e.trans (decide_eq_false hc)), Nat.add_zero]
theorem cmb_some {k : Nat} {acc r : Option (List Int × Nat)} (h : acc.isSome = true ∨ r.isSome = true) : (cmbB k acc r).isSome = true := by
  unfold cmbB
  cases r with
  | none =>
    rcases h with h | h
    · exact h
    · cases h
  | some pc =>
    cases acc with
    | none => rfl
    | some qd =>
      obtain ⟨p, c⟩ := pc
      obtain ⟨q, d⟩ := qd
      simp only
      split <;> rfl
theorem bst_some {H : Nat} : ∀ (L : List Int) (Y : List (List Int)), rowsH H Y → L.length ≤ roomL H Y → (bst H L Y).isSome = true
  | [], Y, _, _ => by rw [bst_nil]; rfl
  | x :: L, Y, hr, h => by
    rw [bst_cons]
    rw [List.length_cons] at h
    obtain ⟨k0, l0, h1, h2⟩ := roomL_pos (H := H) (Y := Y) (by omega)
    have key : ∀ k, k0 < k → k ≤ Y.length → (bstK H (bst H L) x Y k).isSome = true := by
      intro k
      induction k with
      | zero => intro h _; omega
      | succ k ih =>
        intro hk hkl
        have hg : Y[k]? = some (Y[k]'(by omega)) := List.getElem?_eq_getElem (by omega)
        by_cases h4 : (Y[k]'(by omega)).length = H
        · rw [bstK_full hg h4]
          by_cases e : k0 = k
          · subst e
            rw [h1] at hg
            injection hg with hg
            rw [← hg] at h4
            omega
          · exact ih (by omega) (by omega)
        · rw [bstK_open hg h4]
          refine cmb_some (.inr (bst_some L _ (rowsH_put hr hg h4) ?_))
          rw [putY_of hg]
          have hlt : (Y[k]'(by omega)).length < H := by have := hr.2 _ (List.mem_of_getElem? hg); omega
          have := roomL_set (x := x) hg hlt
          omega
    exact key _ (lt_of_get h1) (Nat.le_refl _)
/-- The best plan. -/
def bsO (r h : Int) (P : List Int) : Option (List Int × Nat) := bst h.toNat P (List.replicate r.toNat [])
def bsR (r h : Int) (P : List Int) : List Int := if goodZ r h P = true then bstP [] (bsO r h P) else []
def bsX (r h : Int) (P : List Int) : Int := if goodZ r h P = true then bstF (bsO r h P) else 0
theorem bs_no {r h : Int} {P : List Int} (g : goodZ r h P = false) : bsR r h P = [] ∧ bsX r h P = 0 := by simp [bsR, bsX, g]
theorem bs_yes {r h : Int} {P : List Int} (g : goodZ r h P = true) : ∃ p c, bsO r h P = some (p, c) ∧ bsR r h P = p ∧ bsX r h P = (c : Int) ∧ p.length = P.length := by
  obtain ⟨g1, g2, g3, g4, g5, g6, -⟩ := goodZ_iff.1 g
  have hs : (bsO r h P).isSome = true := by
    refine bst_some _ _ ⟨by simp; omega, fun l hl => ?_⟩ ?_
    · rw [List.mem_replicate] at hl
      rw [hl.2]; simp
    · rw [roomL_nil]
      have e : ((r.toNat * h.toNat : Nat) : Int) = r * h := by rw [Int.natCast_mul, Int.toNat_of_nonneg (by omega), Int.toNat_of_nonneg (by omega)]
      omega
  cases hb : bsO r h P with
  | none => rw [hb] at hs; cases hs
  | some pc =>
    obtain ⟨p, c⟩ := pc
    exact ⟨p, c, rfl, by simp [bsR, g, hb, bstP], by simp [bsX, g, hb, bstF], bst_len P _ p c hb⟩
theorem bsR_len (r h : Int) (P : List Int) : (bsR r h P).length ≤ 1048576 := by
  cases g : goodZ r h P with
  | false => rw [(bs_no g).1]; simp
  | true =>
    obtain ⟨p, c, -, h2, -, h4⟩ := bs_yes g
    have := (goodZ_iff.1 g).2.2.2.2.1
    rw [h2]; omega
end
end Go.Proofs.Ytjplbcfpbggnnaa
