/-
  Plain mathematics: the reference's reading of a bay's text agrees with the program's. No program stands in it.
-/
import Derived.Test.YtfbeoficgkkamaaDoorPbP
namespace Go.Proofs.YtfbeoficgkkamaaDoor

def wordS (x : ByteArray) : Int := if h : 1 < x.size then 10 * ((x[0]'(by omega)).toNat - 48 : Int) + (x[1]'h).toNat - 48 else 0
def atS (x : ByteArray) : Option Int := if x = bs [46, 46] then none else if x.size = 2 then some (wordS x) else none
theorem atS_digits : ∀ q : Fin 10, ∀ r : Fin 10, atS (bs [UInt8.ofNat (48 + q.val), UInt8.ofNat (48 + r.val)]) = some ((10 * q.val + r.val : Nat) : Int) := by decide +kernel
theorem atS_ok : AtOk atS := by
  refine ⟨by simp [atS], fun x h1 h2 => ?_⟩
  have := atS_digits ⟨x / 10, by omega⟩ ⟨x % 10, by omega⟩
  rw [this]
  show some (((10 * (x / 10) + x % 10 : Nat) : Int)) = some (x : Int)
  congr 2
  omega
def rS (s : ByteArray) : List (List Int) := prW atS (pieces s 10) (hI s) (hI s)
theorem btx_good {h : Nat} {Y : List (List Int)} (hg : goodB (h : Int) Y = true) : btx (h : Int) Y = bs (textT Y h h) := by simp [btx, hg]
theorem ok_parts {s : ByteArray} (h : okI s = true) : goodB (hI s : Int) (rI s) = true ∧ bs (textT (rI s) (hI s) (hI s)) = s := by
  unfold okI at h
  rw [Bool.and_eq_true, decide_eq_true_iff] at h
  rw [btx_good h.1] at h
  exact h
theorem ok_rows {s : ByteArray} (h : okI s = true) : rS s = rI s := by
  obtain ⟨hg, ht⟩ := ok_parts h
  have hr := recover atS_ok hg
  rw [ht] at hr
  exact hr.2
theorem ok_of {s : ByteArray} (hg : goodB (hI s : Int) (rS s) = true) (ht : bs (textT (rS s) (hI s) (hI s)) = s) : okI s = true := by
  have hr := recover atN_ok hg
  rw [ht] at hr
  have e : rI s = rS s := hr.2
  unfold okI
  rw [e, hg, btx_good hg, ht]
  simp
theorem ok_small {s : ByteArray} (h : okI s = true) : s.size ≤ 64 ∧ 1 ≤ hI s ∧ hI s ≤ 4 := by
  obtain ⟨hg, ht⟩ := ok_parts h
  have hH := (goodB_iff.1 hg).1
  have hl := textT_len (goodB_rows hg).2.1 (hI s) (hI s)
  have : s.size = (textT (rI s) (hI s) (hI s)).length := by rw [← bs_size, ht]
  omega
theorem ok_words {s : ByteArray} (h : okI s = true) {k : Nat} (hk : k < hI s) : ∀ x ∈ pieces ((pieces s 10).getD k (bs [])) 32, x.size = 2 := by
  obtain ⟨hg, ht⟩ := ok_parts h
  obtain ⟨g1, g5, g4, gS⟩ := goodB_rows hg
  have hs : ∀ l ∈ rI s, ∀ x ∈ l, 1 ≤ x ∧ x ≤ 99 := fun l hl x hx => gS.1 x (List.mem_flatten.2 ⟨l, hl, hx⟩)
  have hp := text_pieces hs (hI s)
  rw [ht] at hp
  have hl : (pieces s 10).getD k (bs []) = bs (lineT (rI s) (hI s - 1 - k) (rI s).length) := by
    rw [hp, List.getD_eq_getElem?_getD, List.getElem?_append_left (by simp [lnsT]; omega)]
    simp [lnsT, hk]
  rw [hl, line_pieces hs g1]
  intro x hx
  simp only [wrdT, List.mem_map, List.mem_range] at hx
  obtain ⟨a, ⟨j, _, rfl⟩, rfl⟩ := hx
  rw [bs_size, cellT_len]
end Go.Proofs.YtfbeoficgkkamaaDoor
