/-
  Plain mathematics and one function of the law FnBadlyPlaced: sorted stacks have no badly placed numbers; the worst one is badly placed; a chosen stack has an earliest number. No statement of the seat by itself.
-/
import Derived.Test.YthokmklnldoinaaWstM
import Derived.Test.YthokmklnldoinaaSrtI
import Derived.Test.YthokmklnldoinaaPlcR
import Derived.Test.YthokmklnldoinaaChoI
namespace Go.Proofs.Ythokmklnldoinaa
open Go.RowKit

theorem srtL_mem {Y : List (List Int)} {z : Int} : ∀ i, z ∈ srtL Y i ↔ ∃ j, j < i ∧ z = (j : Int) ∧ srtB (Y.getD j []) (Y.getD j []).length = true
  | 0 => by simp [srtL]
  | i + 1 => by
    rw [srtL, List.mem_append, srtL_mem i]
    constructor
    · rintro (⟨j, h1, h2⟩ | h)
      · exact ⟨j, by omega, h2⟩
      · split at h
        · rename_i hs
          exact ⟨i, by omega, by simpa using h, hs⟩
        · simp at h
    · rintro ⟨j, h1, h2, h3⟩
      by_cases e : j = i
      · subst e
        right
        rw [if_pos h3]
        simp [h2]
      · exact .inl ⟨j, by omega, h2, h3⟩
/-- A badly placed number: its place, and its stack is not sorted. -/
theorem bad_place {Y : List (List Int)} {x : Int} (h : x ∈ badR Y) : goodY Y = true ∧ ∃ i k : Nat, placeY Y x = some (i, k) ∧ ¬ (i : Int) ∈ srtR Y := by
  obtain ⟨hg, i, k, l, hl, hk, hc⟩ := badR_at h
  refine ⟨hg, i, k, place_only hg hl hk, fun hm => ?_⟩
  have hpos := ((badR_has hg x).1 h).2
  rw [← hc] at hpos
  have he := (bel_pos _ _ (by have := good_99 hg hl hk; omega)).1 hpos
  have hx : x ∈ badL l l.length := (badL_has l.length).2 ⟨k, lt_of_get hk, getDI hk, he⟩
  unfold srtR at hm
  rw [if_pos hg, srtL_mem] at hm
  obtain ⟨j, -, hj, hs⟩ := hm
  have : i = j := by omega
  subst this
  rw [getD_of hl] at hs
  unfold srtB at hs
  rw [List.isEmpty_iff] at hs
  rw [hs] at hx
  simp at hx
theorem wst_any {Y : List (List Int)} : decide (0 < (wstR Y).2) = decide (0 < (badR Y).length) := by
  have h1 := wstV_is (Y := Y) (badR Y).length (Nat.le_refl _)
  rw [wstV_all, List.take_length] at h1
  rcases h1 with ⟨h1, h2⟩ | ⟨h1, h2, _⟩
  · rw [h1]
    cases hb : badR Y with
    | nil => rfl
    | cons x L =>
      have hx : x ∈ badR Y := by rw [hb]; simp
      have hg := (badR_at hx).1
      have := ((badR_has hg x).1 hx).2
      have := h2 x hx
      omega
  · rw [decide_eq_true h1, decide_eq_true (List.length_pos_iff.2 fun e => by rw [e] at h2; simp at h2)]
theorem earL_pos {l : List Int} (h : ∀ x ∈ l, 1 ≤ x) : 1 ≤ earL l := by
  rcases Int.lt_or_le (earL l) 1 with h1 | h1
  · rcases (earL_lt l 1).1 h1 with h2 | ⟨a, h2, h3⟩
    · omega
    · have := h a h2; omega
  · exact h1
/-- A stack that is chosen: it is there, and its earliest number. -/
theorem cho_ear {Z : List (List Int)} {x : Int} (h : choB Z x = true) : ∃ i : Nat, choR Z x = (i : Int) ∧ okS Z (i : Int) = true ∧ 1 ≤ earR Z (i : Int) ∧ earR Z (i : Int) ≤ 100 := by
  have ha : askP Z [x] = true ∧ (choY x Z).isSome = true := by simpa [choB] using h
  obtain ⟨i, hi⟩ := Option.isSome_iff_exists.1 ha.2
  have hg := (askP_iff.1 ha.1).1
  obtain ⟨l, hl, -⟩ := cho_row hi
  have hok : okS Z (i : Int) = true := okS_iff.2 ⟨hg, by omega, by have := lt_of_get hl; omega⟩
  refine ⟨i, (choB_some ha.1 hi).2, hok, ?_, ?_⟩
  · rw [earR_yes hok hl]
    exact earL_pos fun y hy => ((goodY_iff.1 hg).2.2.2.1 y (List.mem_flatten.2 ⟨l, List.mem_of_getElem? hl, hy⟩)).1
  · rw [earR_yes hok hl]
    exact earL_le l

set_option maxHeartbeats 2000000 in
theorem vHas_any (v : Value) (l : List Int) (x : Int) (hl : l.length ≤ 1048576) (w : World) (h : IL w v l) :
    Calls Try.prog 19 #[v, .int .i64 x] w fun e w' => e = .returned (.bool (hasB l x)) ∧ w = w' := by
  obtain ⟨a, cap, rfl, hc⟩ := h
  obtain ⟨n, hN⟩ : ∃ n, l.length = n := ⟨_, rfl⟩
  have HN := Lib.hid hN
  have HC := Lib.hid hc
  rw [hN] at hl ⊢
  clear hN hc
  go_enter Try.func19, Try.ntmps19
  go_wp2_with fail
  go_loop [5] (fun i => ∃ k : Nat, k ≤ n ∧ i = .int .i64 k ∧ Hid (∀ j (hj : j < l.length), j < k → l[j] ≠ x)) (fun i => n - (intOf i).toNat)
  case atStart => exact ⟨0, Nat.zero_le _, rfl, Lib.hid fun j hj h0 => by omega⟩
  case round =>
    obtain ⟨k, hk, rfl, HK⟩ := hrel
    by_cases hlt : k < n
    · have hkl : k < l.length := by rw [HN.out]; exact hlt
      obtain ⟨g, off, rfl, hg, hcc⟩ := HC.out (by omega)
      have a1 := hcc k _ (List.getElem?_eq_getElem hkl)
      clear hcc
      by_cases hy : l[k] = x
      · have HX : Hid (hasB l x = true) := Lib.hid (by unfold hasB; rw [decide_eq_true_eq, ← hy]; exact List.getElem_mem _)
        have hyb : (l[k] == x) = true := by simpa using hy
        clear hy
        generalize l[k] = y at *
        go_wp2_with fail
        go_ret
        exact ⟨by rw [HX.out]; rfl, rfl⟩
      · have HK2 : Hid (∀ j (hj : j < l.length), j < k + 1 → l[j] ≠ x) := Lib.hid fun j hj h0 => by
          by_cases e : j = k
          · subst e; exact hy
          · exact HK.out j hj (by omega)
        have hyb : (l[k] == x) = false := by simpa using hy
        clear hy
        generalize l[k] = y at *
        go_wp2_with fail
        go_round
        case rel => exact ⟨k + 1, by omega, by go_num, HK2⟩
        case measure => simp [intOf]; omega
    · have HX : Hid (hasB l x = false) := Lib.hid (by
        unfold hasB
        rw [decide_eq_false_iff_not]
        intro hm
        obtain ⟨j, hj, hjx⟩ := List.mem_iff_getElem.1 hm
        exact HK.out j hj (by have := HN.out; omega) hjx)
      go_wp2_with fail
      go_ret
      exact ⟨by rw [HX.out]; rfl, rfl⟩
end Go.Proofs.Ythokmklnldoinaa
