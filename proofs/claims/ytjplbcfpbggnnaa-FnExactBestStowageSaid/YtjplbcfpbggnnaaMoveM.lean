/-
  A yard whose top was moved: what is valid of it. No statement of the seat by itself.
-/
import Derived.Test.YtjplbcfpbggnnaaTakeM
import Derived.Test.YtjplbcfpbggnnaaTops
namespace Go.Proofs.Ytjplbcfpbggnnaa
open Go.RowKit

theorem flat_set {Y : List (List Int)} {i : Nat} {l : List Int} (l' : List Int) (h : Y[i]? = some l) : (Y.set i l').flatten = (Y.take i).flatten ++ (l' ++ (Y.drop (i + 1)).flatten) := by
  have hi := lt_of_get h
  have h2 : (Y.set i l')[i]? = some l' := by rw [List.getElem?_set_self hi]
  rw [flat_split h2, List.take_set_of_le (Nat.le_refl i), List.drop_set_of_lt (by omega)]
theorem count_set {Y : List (List Int)} {i : Nat} {l : List Int} (l' : List Int) (h : Y[i]? = some l) (a : Int) : (Y.set i l').flatten.count a + l.count a = Y.flatten.count a + l'.count a := by
  rw [flat_set l' h, flat_split h]
  simp only [List.count_append]
  omega
theorem seen_count {S : List Int} : Seen S ↔ ∀ a, S.count a ≤ 1 ∧ (0 < S.count a → 1 ≤ a ∧ a ≤ 99) := by
  constructor
  · intro h a
    exact ⟨List.nodup_iff_count.1 h.2 a, fun h0 => h.1 a (List.count_pos_iff.1 h0)⟩
  · intro h
    exact ⟨fun x hx => (h x).2 (List.count_pos_iff.2 hx), List.nodup_iff_count.2 fun a => (h a).1⟩
theorem rows_set {Y : List (List Int)} {i : Nat} {l' : List Int} (h : rowsOk Y) (hl : l'.length ≤ 4) : rowsOk (Y.set i l') := fun l hm => by
  rcases List.mem_or_eq_of_mem_set hm with hm | rfl
  · exact h l hm
  · exact hl
/-- A list with a last one. -/
theorem last_split {l : List Int} {m : Nat} (hm : l.length = m + 1) : ∃ x, l[m]? = some x ∧ l = l.take m ++ [x] := by
  obtain ⟨x, hx⟩ := get_at hm (Nat.lt_succ_self m)
  refine ⟨x, hx, ?_⟩
  have := take_next hx
  rw [← hm, List.take_length] at this
  exact this
section
variable {Y : List (List Int)} {f t m : Nat} {l lt : List Int} {x : Int}
theorem took_count (hl : Y[f]? = some l) (hx : l = l.take m ++ [x]) (a : Int) : (Y.set f (l.take m)).flatten.count a + [x].count a = Y.flatten.count a := by
  have h1 := count_set (l.take m) hl a
  have h2 : l.count a = (l.take m).count a + [x].count a := by
    have : l.count a = (l.take m ++ [x]).count a := by rw [← hx]
    rw [this, List.count_append]
  omega
theorem took_good (hg : goodY Y = true) (hl : Y[f]? = some l) (hx : l = l.take m ++ [x]) : goodY (Y.set f (l.take m)) = true := by
  obtain ⟨h1, h2, h3, h4⟩ := goodY_iff.1 hg
  refine goodY_iff.2 ⟨by simpa using h1, by simpa using h2, rows_set h3 (by have := h3 l (List.mem_of_getElem? hl); rw [List.length_take]; omega), seen_count.2 fun a => ?_⟩
  have := took_count hl hx a
  have hs := seen_count.1 h4 a
  exact ⟨by omega, fun h0 => hs.2 (by omega)⟩
theorem moved_count (hl : Y[f]? = some l) (hx : l = l.take m ++ [x]) (ht : (Y.set f (l.take m))[t]? = some lt) (a : Int) : (putY (Y.set f (l.take m)) t x).flatten.count a = Y.flatten.count a := by
  have h1 := took_count hl hx a
  have h2 := count_set (lt ++ [x]) ht a
  rw [putY_of ht]
  rw [List.count_append] at h2
  omega
theorem moved_good (hg : goodY Y = true) (hl : Y[f]? = some l) (hx : l = l.take m ++ [x]) (ht : (Y.set f (l.take m))[t]? = some lt) (hb : lt.length < 4) : goodY (putY (Y.set f (l.take m)) t x) = true := by
  obtain ⟨h1, h2, h3, h4⟩ := goodY_iff.1 (took_good hg hl hx)
  obtain ⟨_, _, _, h5⟩ := goodY_iff.1 hg
  refine goodY_iff.2 ⟨by rw [putY_len]; exact h1, by rw [putY_len]; exact h2, by rw [putY_of ht]; exact rows_set h3 (by simp; omega), seen_count.2 fun a => ?_⟩
  rw [moved_count hl hx ht a]
  exact seen_count.1 h5 a
theorem moved_full (ht : (Y.set f (l.take m))[t]? = some lt) (hb : 4 ≤ lt.length) : goodY (putY (Y.set f (l.take m)) t x) = false :=
  goodY_not fun ⟨_, _, h3, _⟩ => by
    rw [putY_of ht] at h3
    have := h3 (lt ++ [x]) (List.mem_of_getElem? (by rw [List.getElem?_set_self (lt_of_get ht)]))
    simp at this
    omega
/-- In a valid yard a number stands where it stands. -/
theorem place_only {i k : Nat} {r : List Int} (hg : goodY Y = true) (hl : Y[i]? = some r) (hx : r[k]? = some x) : placeY Y x = some (i, k) := by
  obtain ⟨_, _, _, h4⟩ := goodY_iff.1 hg
  have hn := h4.2
  refine place_some hl (atL_some hx fun j y hj hy e => ?_) fun j r' hj hr' => ?_
  · subst e
    have hnr : r.Nodup := by
      rw [flat_split hl] at hn
      exact (List.nodup_append.1 (List.nodup_append.1 hn).2.1).1
    have hk := lt_of_get hx
    have e1 : r[j] = r[k] := by
      rw [List.getElem?_eq_getElem hk] at hx
      rw [List.getElem?_eq_getElem (by omega)] at hy
      rw [Option.some.inj hx, Option.some.inj hy]
    have := (List.getElem_inj (h₀ := by omega) (h₁ := hk) hnr).1 e1
    omega
  · refine atL_none fun c y hy e => ?_
    subst e
    rw [flat_split hl] at hn
    have h1 := (List.nodup_append.1 hn).2.2
    refine h1 y (List.mem_flatten.2 ⟨r', ?_, List.mem_of_getElem? hy⟩) y (List.mem_append_left _ (List.mem_of_getElem? hx)) rfl
    refine List.mem_of_getElem? (i := j) ?_
    rw [List.getElem?_take, if_pos hj, hr']
theorem place_zero (hg : goodY Y = true) : placeY Y 0 = none := by
  obtain ⟨_, _, _, h4⟩ := goodY_iff.1 hg
  refine place_none fun j r hr => atL_none fun c y hy e => ?_
  subst e
  have := h4.1 0 (flat_mem hr hy)
  omega
end

/-- Whether the top of stack f can be moved to stack t. -/
def okM (Y : List (List Int)) (f t : Int) : Bool := okS Y f && okS Y t && decide (f ≠ t) && decide ((Y.getD f.toNat []).length ≠ 0) && decide ((Y.getD t.toNat []).length ≠ 4)
def moveZ (Y : List (List Int)) (f t : Nat) : List (List Int) := putY (Y.set f ((Y.getD f []).take ((Y.getD f []).length - 1))) t (topL (Y.getD f []))
def moveR (Y : List (List Int)) (f t : Int) : List (List Int) := if okM Y f t = true then moveZ Y f.toNat t.toNat else []
def moveX (Y : List (List Int)) (f t : Int) : Int := if okM Y f t = true then topL (Y.getD f.toNat []) else 0
theorem okM_iff {Y : List (List Int)} {f t : Int} : okM Y f t = true ↔ okS Y f = true ∧ okS Y t = true ∧ f ≠ t ∧ (Y.getD f.toNat []).length ≠ 0 ∧ (Y.getD t.toNat []).length ≠ 4 := by
  simp only [okM, Bool.and_eq_true, decide_eq_true_eq, and_assoc]
theorem move_no {Y : List (List Int)} {f t : Int} (h : ¬ (okS Y f = true ∧ okS Y t = true ∧ f ≠ t ∧ (Y.getD f.toNat []).length ≠ 0 ∧ (Y.getD t.toNat []).length ≠ 4)) : moveR Y f t = [] ∧ moveX Y f t = 0 ∧ okM Y f t = false := by
  have hb : okM Y f t = false := by
    cases hb : okM Y f t with
    | false => rfl
    | true => exact absurd (okM_iff.1 hb) h
  simp [moveR, moveX, hb]
theorem move_yes {Y : List (List Int)} {f t : Int} (h : okM Y f t = true) : moveR Y f t = moveZ Y f.toNat t.toNat ∧ moveX Y f t = topL (Y.getD f.toNat []) := by simp [moveR, moveX, h]
theorem moveR_small (Y : List (List Int)) (f t : Int) : (moveR Y f t).length ≤ 1048576 ∧ tot (moveR Y f t) ≤ 1048576 := by
  unfold moveR
  split
  · rename_i h
    have hg := (okS_iff.1 (okM_iff.1 h).1).1
    have h1 := goodY_iff.1 hg
    have hl : (moveZ Y f.toNat t.toNat).length ≤ 6 := by unfold moveZ; rw [putY_len, List.length_set]; exact h1.2.1
    have h4 : ∀ i, (Y.getD i []).length ≤ 4 := fun i => by
      rcases Nat.lt_or_ge i Y.length with hs | hs
      · rw [getD_of (List.getElem?_eq_getElem hs)]; exact h1.2.2.1 _ (List.getElem_mem hs)
      · rw [List.getD, List.getElem?_eq_none hs]; simp
    have hb := tot_bound 5 (moveZ Y f.toNat t.toNat) fun r hr => by
      unfold moveZ putY at hr
      rcases List.mem_or_eq_of_mem_set hr with hm | rfl
      · rcases List.mem_or_eq_of_mem_set hm with hm | rfl
        · have := h1.2.2.1 r hm; omega
        · have := h4 f.toNat; rw [List.length_take]; omega
      · rw [List.length_append, List.length_singleton]
        have : ∀ i, ((Y.set f.toNat ((Y.getD f.toNat []).take ((Y.getD f.toNat []).length - 1))).getD i []).length ≤ 4 := fun i => by
          rcases Nat.lt_or_ge i (Y.set f.toNat ((Y.getD f.toNat []).take ((Y.getD f.toNat []).length - 1))).length with hs | hs
          · rw [getD_of (List.getElem?_eq_getElem hs)]
            rcases List.mem_or_eq_of_mem_set (List.getElem_mem hs) with hm | e
            · exact h1.2.2.1 _ hm
            · rw [e, List.length_take]; have := h4 f.toNat; omega
          · rw [List.getD, List.getElem?_eq_none hs]; simp
        have := this t.toNat
        omega
    omega
  · simp [tot]
end Go.Proofs.Ytjplbcfpbggnnaa
