/-
  Whether a stack exists, where a number stands: spec.l5Stack, impl.hasStack, spec.l5Find, slices.Index, the two PlaceOf. No statement of the seat by itself.
-/
import Derived.Test.YtpljcpeghjplnaaRet
namespace Go.Proofs.Ytpljcpeghjplnaa
open Go.RowKit

/-- Whether a yard is valid and has a stack. -/
def okS (Y : List (List Int)) (s : Int) : Bool := goodY Y && decide (0 ≤ s ∧ s < (Y.length : Int))
theorem okS_iff {Y : List (List Int)} {s : Int} : okS Y s = true ↔ goodY Y = true ∧ 0 ≤ s ∧ s < (Y.length : Int) := by simp [okS]
theorem okS_not {Y : List (List Int)} {s : Int} (h : goodY Y = true → ¬ (0 ≤ s ∧ s < (Y.length : Int))) : okS Y s = false := by
  cases hb : okS Y s with
  | false => rfl
  | true => exact absurd (okS_iff.1 hb).2 (h (okS_iff.1 hb).1)

/-- Where a number stands in a list. -/
def atL (l : List Int) (x : Int) : Option Nat := l.findIdx? (fun y => decide (y = x))
theorem atL_some {l : List Int} {x : Int} {k : Nat} (h : l[k]? = some x) (hn : ∀ (j : Nat) (y : Int), j < k → l[j]? = some y → y ≠ x) : atL l x = some k := by
  have hk := lt_of_get h
  refine List.findIdx?_eq_some_iff_getElem.2 ⟨hk, ?_, fun j hj => ?_⟩
  · rw [List.getElem?_eq_getElem hk] at h
    simpa using Option.some.inj h
  · have := hn j l[j] hj (List.getElem?_eq_getElem (by omega))
    simpa using this
theorem atL_none {l : List Int} {x : Int} (hn : ∀ (j : Nat) (y : Int), l[j]? = some y → y ≠ x) : atL l x = none := by
  refine List.findIdx?_eq_none_iff.2 fun y hy => ?_
  obtain ⟨j, hj, e⟩ := List.mem_iff_getElem.1 hy
  have := hn j y (by rw [List.getElem?_eq_getElem hj, e])
  simpa using this
theorem atL_get {l : List Int} {x : Int} {k : Nat} (h : atL l x = some k) : l[k]? = some x := by
  obtain ⟨hk, h1, _⟩ := List.findIdx?_eq_some_iff_getElem.1 h
  rw [List.getElem?_eq_getElem hk]
  simpa using h1
theorem atL_not {l : List Int} {x : Int} (h : atL l x = none) : ¬ x ∈ l := fun hm => by
  have := List.findIdx?_eq_none_iff.1 h x hm
  simp at this
/-- Where a number stands in a yard. -/
def placeY (Y : List (List Int)) (x : Int) : Option (Nat × Nat) := match Y.findIdx? (fun l => (atL l x).isSome) with
  | none => none
  | some i => (atL (Y.getD i []) x).map fun k => (i, k)
theorem place_some {Y : List (List Int)} {x : Int} {i k : Nat} {l : List Int} (h : Y[i]? = some l) (hk : atL l x = some k) (hn : ∀ (j : Nat) (r : List Int), j < i → Y[j]? = some r → atL r x = none) : placeY Y x = some (i, k) := by
  have hi := lt_of_get h
  have e : Y.findIdx? (fun l => (atL l x).isSome) = some i := by
    refine List.findIdx?_eq_some_iff_getElem.2 ⟨hi, ?_, fun j hj => ?_⟩
    · rw [List.getElem?_eq_getElem hi] at h
      rw [Option.some.inj h, hk]; rfl
    · rw [hn j Y[j] hj (List.getElem?_eq_getElem (by omega))]; simp
  unfold placeY
  rw [e]
  simp only [getD_of h, hk, Option.map_some]
theorem place_none {Y : List (List Int)} {x : Int} (hn : ∀ (j : Nat) (r : List Int), Y[j]? = some r → atL r x = none) : placeY Y x = none := by
  have e : Y.findIdx? (fun l => (atL l x).isSome) = none := by
    refine List.findIdx?_eq_none_iff.2 fun l hl => ?_
    obtain ⟨j, hj, e⟩ := List.mem_iff_getElem.1 hl
    rw [hn j l (by rw [List.getElem?_eq_getElem hj, e])]; rfl
  unfold placeY
  rw [e]
theorem place_inv {Y : List (List Int)} {x : Int} {i k : Nat} (h : placeY Y x = some (i, k)) : ∃ l, Y[i]? = some l ∧ atL l x = some k := by
  unfold placeY at h
  split at h
  · cases h
  · rename_i j hj
    obtain ⟨hj', h1, _⟩ := List.findIdx?_eq_some_iff_getElem.1 hj
    rw [getD_of (List.getElem?_eq_getElem hj')] at h
    cases hk : atL Y[j] x with
    | none => rw [hk] at h; cases h
    | some m =>
      rw [hk] at h
      simp only [Option.map_some, Option.some.injEq, Prod.mk.injEq] at h
      obtain ⟨rfl, rfl⟩ := h
      exact ⟨_, List.getElem?_eq_getElem hj', hk⟩
theorem place_not {Y : List (List Int)} {x : Int} (h : placeY Y x = none) : ∀ (j : Nat) (r : List Int), Y[j]? = some r → atL r x = none := by
  intro j r hr
  unfold placeY at h
  split at h
  · rename_i hj
    have := List.findIdx?_eq_none_iff.1 hj r (List.mem_of_getElem? hr)
    simpa using this
  · rename_i i hj
    obtain ⟨hj', h1, _⟩ := List.findIdx?_eq_some_iff_getElem.1 hj
    rw [getD_of (List.getElem?_eq_getElem hj')] at h
    cases hk : atL Y[i] x with
    | none => rw [hk] at h1; cases h1
    | some m => rw [hk] at h; cases h

/-- A number, or -1. -/
def atI (l : List Int) (x : Int) : Int := match atL l x with
  | none => -1
  | some k => (k : Int)
theorem atI_some {l : List Int} {x : Int} {k : Nat} (h : atL l x = some k) : atI l x = (k : Int) := by simp [atI, h]
theorem atI_none {l : List Int} {x : Int} (h : atL l x = none) : atI l x = -1 := by simp [atI, h]

set_option maxRecDepth 100000 in
set_option maxHeartbeats 1000000 in
theorem index_any (v : Value) (l : List Int) (x : Int) (hl : l.length ≤ maxLen) (w : World) (h : IL w v l) :
    Calls Try.prog 143 #[v, .int .i64 x] w fun e w' => e = .returned (.int .i64 (atI l x)) ∧ w = w' := by
  obtain ⟨a, cap, rfl, hc⟩ := h
  obtain ⟨n, hN⟩ : ∃ n, l.length = n := ⟨_, rfl⟩
  have HN := Lib.hid hN
  have HC := Lib.hid hc
  rw [hN] at hl ⊢
  unfold maxLen at hl
  clear hN hc
  go_enter Try.func143, Try.ntmps143
  go_wp2_with fail
  go_loop [8] (fun i => ∃ k : Nat, k ≤ n ∧ i = .int .i64 k ∧ Hid (∀ (j : Nat) (y : Int), j < k → l[j]? = some y → y ≠ x)) (fun i => n - (intOf i).toNat)
  case atStart => exact ⟨0, Nat.zero_le _, rfl, Lib.hid fun j hj h0 => by omega⟩
  case round =>
    obtain ⟨k, hk, rfl, HK⟩ := hrel
    by_cases hlt : k < n
    · obtain ⟨y, hy⟩ := get_at HN.out hlt
      obtain ⟨g, off, rfl, hg, hcc⟩ := HC.out (by have := HN.out; omega)
      have a1 := hcc k y hy
      clear hcc
      by_cases hyx : y = x
      · subst hyx
        have HX := Lib.hid (atI_some (atL_some hy HK.out))
        clear hy
        go_wp2_with fail
        go_ret
        exact ⟨by rw [HX.out]; rfl, rfl⟩
      · have HK2 : Hid (∀ (j : Nat) (z : Int), j < k + 1 → l[j]? = some z → z ≠ x) := Lib.hid fun j z hj hz => by
          by_cases e : j = k
          · subst e; rw [hy] at hz; cases hz; exact hyx
          · exact HK.out j z (by omega) hz
        have hyb : (x == y) = false := by simpa using fun e => hyx e.symm
        clear hy hyx
        go_wp2_with fail
        go_round
        case rel => exact ⟨k + 1, by omega, by go_num, HK2⟩
        case measure => simp [intOf]; omega
    · have HX := Lib.hid (atI_none (atL_none fun j y hy => HK.out j y (by have := lt_of_get hy; have := HN.out; omega) hy))
      go_wp2_with fail
      go_ret
      exact ⟨by rw [HX.out]; rfl, rfl⟩
end Go.Proofs.Ytpljcpeghjplnaa
