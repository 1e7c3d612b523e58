/-
  Plain mathematics: the order of containers, the heaviest first, and the one list of indices in that order. No program stands in it.
-/
import Derived.Test.YtpdonhdffniabaaCFind
import Derived.Sort.LotA
import Derived.Laws.Strings
namespace Go.Proofs.Ytpdonhdffniabaa.C
open Go.Sort

theorem less_is : ∀ (x y : List UInt8), Op.bytesLess x y = ltStr x y
  | [], [] => by simp [Op.bytesLess, ltStr]
  | _ :: _, [] => by simp [Op.bytesLess, ltStr]
  | [], _ :: _ => by simp [Op.bytesLess, ltStr]
  | a :: x, b :: y => by
    rw [Op.bytesLess, less_is x y]
    unfold ltStr
    simp only [List.cons_lt_cons_iff]
    by_cases h1 : a < b <;> by_cases h2 : a = b <;> by_cases h3 : x < y <;> simp [h1, h2, h3]
theorem str_total (x y : List UInt8) (h1 : ltStr x y = false) (h2 : ltStr y x = false) : x = y := by
  unfold ltStr at h1 h2
  simp only [decide_eq_false_iff_not] at h1 h2
  exact List.le_antisymm (List.not_lt.1 h2) (List.not_lt.1 h1)

/-- Whether a container stands before another one. -/
def befB (a b : Cont) : Bool := decide (b.weight < a.weight) || (decide (a.weight = b.weight) && Op.bytesLess a.id.toList b.id.toList)
theorem bef_swo : SWO befB where
  irrefl x := by
    have := swo_ltStr.irrefl x.id.toList
    simp [befB, less_is, this]
  trans x y z h1 h2 := by
    unfold befB at *
    simp only [less_is, Bool.or_eq_true, Bool.and_eq_true, decide_eq_true_eq] at *
    rcases h1 with h1 | ⟨h1, l1⟩
    · rcases h2 with h2 | ⟨h2, l2⟩
      · exact .inl (by omega)
      · exact .inl (by omega)
    · rcases h2 with h2 | ⟨h2, l2⟩
      · exact .inl (by omega)
      · exact .inr ⟨by omega, swo_ltStr.trans _ _ _ l1 l2⟩
  ntrans x y z h1 h2 := by
    unfold befB at *
    simp only [less_is, Bool.or_eq_false_iff, Bool.and_eq_false_iff, decide_eq_false_iff_not] at *
    obtain ⟨a1, b1⟩ := h1
    obtain ⟨a2, b2⟩ := h2
    refine ⟨by omega, ?_⟩
    by_cases e : x.weight = z.weight
    · have e1 : x.weight = y.weight := by omega
      have e2 : y.weight = z.weight := by omega
      right
      exact swo_ltStr.ntrans _ _ _ (b1.resolve_left (fun h => h e1)) (b2.resolve_left (fun h => h e2))
    · exact .inl e
theorem bef_total (a b : Cont) (h1 : befB a b = false) (h2 : befB b a = false) : a.id.toList = b.id.toList := by
  unfold befB at *
  simp only [less_is, Bool.or_eq_false_iff, Bool.and_eq_false_iff, decide_eq_false_iff_not] at *
  have e : a.weight = b.weight := by omega
  exact str_total _ _ (h1.2.resolve_left (fun h => h e)) (h2.2.resolve_left (fun h => h e.symm))

/-- Where i goes in the first k of a list. -/
def posK (f : Nat → Cont) (i : Nat) (out : List Nat) : Nat → Nat
  | 0 => 0
  | k + 1 => if befB (f i) (f (out.getD k 0)) = true then posK f i out k else k + 1
theorem posK_le (f : Nat → Cont) (i : Nat) (out : List Nat) : ∀ k, posK f i out k ≤ k
  | 0 => Nat.le_refl _
  | k + 1 => by
    have := posK_le f i out k
    rw [posK]; split <;> omega
theorem posK_after (f : Nat → Cont) (i : Nat) (out : List Nat) : ∀ k j, posK f i out k ≤ j → j < k → befB (f i) (f (out.getD j 0)) = true
  | 0, j, _, h => by omega
  | k + 1, j, h1, h2 => by
    rw [posK] at h1
    by_cases e : befB (f i) (f (out.getD k 0)) = true
    · rw [if_pos e] at h1
      by_cases ej : j = k
      · subst ej; exact e
      · exact posK_after f i out k j h1 (by omega)
    · rw [if_neg e] at h1; omega
theorem posK_at (f : Nat → Cont) (i : Nat) (out : List Nat) : ∀ k, 0 < posK f i out k → befB (f i) (f (out.getD (posK f i out k - 1) 0)) = false
  | 0, h => by simp [posK] at h
  | k + 1, h => by
    rw [posK] at *
    by_cases e : befB (f i) (f (out.getD k 0)) = true
    · rw [if_pos e] at *
      exact posK_at f i out k h
    · rw [if_neg e] at *
      simpa using e
/-- i put into its place. -/
def insL (f : Nat → Cont) (i : Nat) (out : List Nat) : List Nat := out.take (posK f i out out.length) ++ [i] ++ out.drop (posK f i out out.length)
/-- The indices, the heaviest first. -/
def ordL (f : Nat → Cont) : Nat → List Nat
  | 0 => []
  | i + 1 => insL f i (ordL f i)
/-- A list of the first n indices in order. -/
def OrdOK (f : Nat → Cont) (n : Nat) (l : List Nat) : Prop := l.Perm (List.range n) ∧ l.Pairwise (fun a b => befB (f b) (f a) = false)
theorem ordL_ok (f : Nat → Cont) : ∀ n, OrdOK f n (ordL f n)
  | 0 => ⟨List.Perm.refl _, List.Pairwise.nil⟩
  | n + 1 => by
    obtain ⟨hp, hs⟩ := ordL_ok f n
    rw [ordL]
    generalize ordL f n = out at *
    unfold insL
    have hle := posK_le f n out out.length
    have haf := posK_after f n out out.length
    have hat := posK_at f n out out.length
    generalize posK f n out out.length = p at *
    constructor
    · have h1 : (out.take p ++ [n] ++ out.drop p).Perm (n :: out) := by
        have h2 : (out.take p ++ [n] ++ out.drop p).Perm ([n] ++ (out.take p ++ out.drop p)) := by
          rw [← List.append_assoc]
          exact List.Perm.append_right _ List.perm_append_comm
        rw [List.take_append_drop] at h2
        exact h2
      refine h1.trans ?_
      rw [List.range_succ]
      exact (List.Perm.cons n hp).trans (List.perm_append_comm (l₁ := [n]))
    · have hg : ∀ j (hj : j < out.length), out.getD j 0 = out[j] := fun j hj => by simp [List.getD, List.getElem?_eq_getElem hj]
      have htk : ∀ x ∈ out.take p, befB (f n) (f x) = false := fun x hx => by
        obtain ⟨j, hj, rfl⟩ := List.mem_iff_getElem.1 hx
        have hjp : j < p := by simp at hj; omega
        have hjl : j < out.length := by omega
        rw [List.getElem_take]
        have hlast := hat (by omega)
        rw [hg (p - 1) (by omega)] at hlast
        by_cases e : j = p - 1
        · subst e; exact hlast
        · have := List.pairwise_iff_getElem.1 hs j (p - 1) hjl (by omega) (by omega)
          exact bef_swo.ntrans _ _ _ hlast this
      have hdr : ∀ x ∈ out.drop p, befB (f x) (f n) = false := fun x hx => by
        obtain ⟨j, hj, rfl⟩ := List.mem_iff_getElem.1 hx
        have hjl : p + j < out.length := by simp at hj; omega
        rw [List.getElem_drop]
        have h1 := haf (p + j) (by omega) hjl
        rw [hg (p + j) hjl] at h1
        cases e : befB (f out[p + j]) (f n) with
        | false => rfl
        | true =>
          have := bef_swo.trans _ _ _ h1 e
          rw [bef_swo.irrefl] at this; cases this
      have hsp : (out.take p ++ out.drop p).Pairwise (fun a b => befB (f b) (f a) = false) := by rw [List.take_append_drop]; exact hs
      rw [List.pairwise_append] at hsp
      rw [List.append_assoc, List.pairwise_append]
      refine ⟨hsp.1, ?_, ?_⟩
      · rw [List.singleton_append, List.pairwise_cons]
        exact ⟨fun x hx => hdr x hx, hsp.2.1⟩
      · intro a ha b hb
        rw [List.singleton_append, List.mem_cons] at hb
        rcases hb with rfl | hb
        · exact htk a ha
        · exact hsp.2.2 a ha b hb
theorem ordL_len (f : Nat → Cont) (n : Nat) : (ordL f n).length = n := by
  have := (ordL_ok f n).1.length_eq
  simpa using this
theorem ordL_lt (f : Nat → Cont) (n : Nat) : ∀ x ∈ ordL f n, x < n := fun x hx => by
  have := (ordL_ok f n).1.mem_iff.1 hx
  simpa using this
theorem perm_unique {R : Nat → Nat → Prop} : ∀ (l1 l2 : List Nat), l1.Perm l2 → l1.Pairwise R → l2.Pairwise R → (∀ a ∈ l1, ∀ b ∈ l1, R a b → R b a → a = b) → l1 = l2
  | [], l2, hp, _, _, _ => (List.Perm.nil_eq hp)
  | a :: t1, [], hp, _, _, _ => by have := hp.length_eq; simp at this
  | a :: t1, b :: t2, hp, h1, h2, ha => by
    rw [List.pairwise_cons] at h1 h2
    have e : a = b := by
      by_cases e : a = b
      · exact e
      · have m1 : a ∈ t2 := by
          have := hp.mem_iff.1 (List.mem_cons_self (a := a) (l := t1))
          rcases List.mem_cons.1 this with h | h
          · exact absurd h e
          · exact h
        have m2 : b ∈ t1 := by
          have := hp.mem_iff.2 (List.mem_cons_self (a := b) (l := t2))
          rcases List.mem_cons.1 this with h | h
          · exact absurd h.symm e
          · exact h
        exact ha a List.mem_cons_self b (List.mem_cons_of_mem _ m2) (h1.1 b m2) (h2.1 a m1)
    subst e
    rw [perm_unique t1 t2 (List.Perm.cons_inv hp) h1.2 h2.2 (fun x hx y hy => ha x (List.mem_cons_of_mem _ hx) y (List.mem_cons_of_mem _ hy))]
/-- There is one list in order, where the Ids differ. -/
theorem ord_unique (f : Nat → Cont) (n : Nat) (h : listB n f = true) (l : List Nat) (hl : OrdOK f n l) : l = ordL f n := by
  have ho := ordL_ok f n
  refine perm_unique l (ordL f n) (hl.1.trans ho.1.symm) hl.2 ho.2 (fun a ha b hb h1 h2 => ?_)
  have la : a < n := by simpa using hl.1.mem_iff.1 ha
  have lb : b < n := by simpa using hl.1.mem_iff.1 hb
  have he := bef_total _ _ h2 h1
  have hid : (f a).id = (f b).id := by
    rw [ByteArray.toList_eq, ByteArray.toList_eq] at he
    exact ByteArray.ext (Array.toList_inj.1 he)
  rcases Nat.lt_trichotomy a b with h3 | h3 | h3
  · exact absurd hid (listB_dist h a b h3 lb)
  · exact h3
  · exact absurd hid.symm (listB_dist h b a h3 la)

/-- What compareHeaviest answers. -/
def cmpH (a b : Cont) : Int := if a.weight ≠ b.weight then b.weight - a.weight else if Op.bytesLess a.id.toList b.id.toList = true then -1 else if Op.bytesLess b.id.toList a.id.toList = true then 1 else 0
theorem cmpH_lt (a b : Cont) : decide (cmpH a b < 0) = befB a b := by
  unfold cmpH befB
  by_cases e : a.weight = b.weight
  · rw [if_neg (by simpa using e), e]
    cases h1 : Op.bytesLess a.id.toList b.id.toList with
    | true => simp
    | false =>
      rw [if_neg (by simp)]
      split <;> simp
  · rw [if_pos e]
    have h : decide (a.weight = b.weight) = false := by simpa using e
    rw [h]
    simp only [Bool.false_and, Bool.or_false]
    rw [decide_eq_decide]
    omega
end Go.Proofs.Ytpdonhdffniabaa.C
