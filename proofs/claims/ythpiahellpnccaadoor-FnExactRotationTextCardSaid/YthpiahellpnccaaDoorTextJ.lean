/-
  The calls' texts joined are the rotation's text, and there is room for them. No statement of the seat by itself.
-/
import Derived.Test.YthpiahellpnccaaDoorText
import Derived.Test.YthpiahellpnccaaDoorJoinI
namespace Go.Proofs.YthpiahellpnccaaDoor
open Go.RowKit

theorem numT_blank {x : Int} (h1 : 0 ≤ x) (h2 : x ≤ 40) : ¬ (32 : UInt8) ∈ numT x := by
  obtain ⟨m, rfl⟩ : ∃ m : Nat, x = (m : Int) := ⟨x.toNat, by omega⟩
  unfold numT
  rw [itoa_nat]
  have key : ∀ r, r < 10 → ¬ (32 : UInt8) = UInt8.ofNat (48 + r) := by
    intro r hr
    rcases ten_cases r hr with rfl | rfl | rfl | rfl | rfl | rfl | rfl | rfl | rfl | rfl <;> decide
  by_cases hm : m < 10
  · rw [decDigits_small m hm]
    intro h
    exact key m hm (by simpa using h)
  · rw [decDigits_big m hm, decDigits_small (m / 10) (by omega)]
    intro h
    simp only [List.mem_append, List.mem_cons, List.not_mem_nil, or_false] at h
    rcases h with h | h
    · exact key _ (by omega) h
    · exact key _ (by omega) h
/-- The text of call j as a string. -/
def callS (p d : Nat → Int) (j : Nat) : ByteArray := ⟨(callT p d j).toArray⟩
theorem callS_list (p d : Nat → Int) (j : Nat) : (callS p d j).data.toList = callT p d j := by simp [callS]
theorem callS_size (p d : Nat → Int) (j : Nat) : (callS p d j).size = (callT p d j).length := by
  show (callS p d j).data.size = _
  simp [callS]
theorem callS_blank {n m : Nat} {p d : Nat → Int} (h : Good n m p d) (j : Nat) (hj : j < n) : sepIn (callS p d j) 32 = false := by
  have h1 := h.port j hj
  have h2 := h.days j hj
  have k1 := numT_blank (x := p j) (by omega) (by omega)
  have k2 := numT_blank (x := d j) (by omega) (by omega)
  cases e : sepIn (callS p d j) 32 with
  | false => rfl
  | true =>
    unfold sepIn at e
    rw [callS_list, List.contains_iff_mem] at e
    simp only [callT, List.mem_append, List.mem_cons, List.not_mem_nil, or_false] at e
    rcases e with (e | e) | e
    · exact absurd e k1
    · exact absurd e (by decide)
    · exact absurd e k2
theorem room_calls {n m : Nat} {p d : Nat → Int} (h : Good n m p d) : ∀ k, k ≤ n → ∃ r, roomAfter 32 ((List.range k).map (callS p d)) 4001 = some r ∧ 4001 ≤ r + 6 * k
  | 0, _ => ⟨4001, rfl, by omega⟩
  | k + 1, hk => by
    obtain ⟨r, hr, hz⟩ := room_calls h k (by omega)
    have hl := callT_len h k (by omega)
    have h12 := h.top
    have hs := callS_size p d k
    refine ⟨r - ((callS p d k).size + 1), ?_, by omega⟩
    rw [List.range_succ, List.map_append, List.map_singleton, roomAfter_snoc, hr, Option.bind_some]
    unfold roomAfter
    rw [callS_blank h k (by omega)]
    have hd : decide ((callS p d k).size < r) = true := by simp; omega
    rw [hd]
    rfl
theorem join_calls (p d : Nat → Int) : ∀ k, joinL (callS p d) k 32 = txtL p d k
  | 0 => rfl
  | k + 1 => by
    by_cases hz : k = 0
    · subst hz; rw [joinL_one, callS_list, txtL_one]
    · rw [joinL_succ _ k _ (by omega), join_calls p d k, callS_list, txtL_succ p d k (by omega)]
theorem join_text {n m : Nat} {p d : Nat → Int} (h : Good n m p d) : joinAns (callS p d) n 32 = (⟨(txtL p d n).toArray⟩, true) := by
  obtain ⟨r, hr, _⟩ := room_calls h n (Nat.le_refl _)
  rw [joinAns_some _ _ _ r hr h.pos, join_calls]

set_option maxRecDepth 100000 in
set_option maxHeartbeats 1000000 in
theorem specText_no (v : Value) (n m : Nat) (p d : Nat → Int) (hn : n ≤ maxLen) (hm : m ≤ maxLen) (w : World) (h : ArgR w v n m p d) (hr : rotB n m p d = false) :
    Calls Tryd.prog 6 #[v] w (TextP w n m p d) := by
  have HV := Lib.hid h
  have HR := Lib.hid hr
  obtain ⟨v1, v2, rfl, -, -⟩ := h
  clear hr
  go_enter Tryd.func6, Tryd.ntmps6
  go_wp2_with fail
  have B := Lib.hid (below_one w (.cells #[v1, v2] 28))
  refine (specGood_any _ n m p d hn hm _ (HV.out.below B.out)).mono ?_
  rw [HR.out]
  rintro e w1 ⟨rfl, hb⟩
  go_wp2_with fail
  go_ret2
  exact textP_no HR.out (B.out.trans (hb.mono B.out.size))
theorem specText_any (v : Value) (n m : Nat) (p d : Nat → Int) (hn : n ≤ maxLen) (hm : m ≤ maxLen) (w : World) (h : ArgR w v n m p d) :
    Calls Tryd.prog 6 #[v] w (TextP w n m p d) := by
  cases hr : rotB n m p d with
  | false => exact specText_no v n m p d hn hm w h hr
  | true => exact specText_yes v n m p d hn hm w h hr
end Go.Proofs.YthpiahellpnccaaDoor
