/-
  spec.l1Stands and impl.JoinStrings: what they return. No statement of the seat by itself.
-/
import Derived.Test.YthpiahellpnccaaDoorCanJoin
import Derived.Test.YthpiahellpnccaaDoorJoinL
import Derived.Lib.Join
namespace Go.Proofs.YthpiahellpnccaaDoor
open Go.RowKit

/-- The first k texts joined. -/
def joinL (f : Nat → ByteArray) (k : Nat) (c : UInt8) : List UInt8 := Lib.join ((List.range k).map fun j => (f j).data.toList) [c]
theorem joinL_zero (f : Nat → ByteArray) (c : UInt8) : joinL f 0 c = [] := rfl
theorem joinL_one (f : Nat → ByteArray) (c : UInt8) : joinL f 1 c = (f 0).data.toList := by
  unfold joinL
  exact Lib.join_one _ _
theorem joinL_succ (f : Nat → ByteArray) (k : Nat) (c : UInt8) (h : 0 < k) : joinL f (k + 1) c = joinL f k c ++ [c] ++ (f k).data.toList := by
  unfold joinL
  rw [List.range_succ, List.map_append, List.map_singleton]
  obtain ⟨x, r, e⟩ : ∃ x r, (List.range k).map (fun j => (f j).data.toList) = x :: r := by
    cases hh : (List.range k).map (fun j => (f j).data.toList) with
    | nil =>
      have := congrArg List.length hh
      simp at this
      omega
    | cons x r => exact ⟨x, r, rfl⟩
  rw [e, List.cons_append, Lib.join_cons, Lib.join_cons]
  unfold Lib.joinTail
  simp

/-- What both functions answer. -/
def joinAns (f : Nat → ByteArray) (n : Nat) (c : UInt8) : ByteArray × Bool := if (roomAfter c ((List.range n).map f) 4001).isSome && decide (0 < n) then (⟨(joinL f n c).toArray⟩, true) else (⟨#[]⟩, false)
theorem joinAns_none (f : Nat → ByteArray) (n : Nat) (c : UInt8) (h : roomAfter c ((List.range n).map f) 4001 = none) : joinAns f n c = (⟨#[]⟩, false) := by
  unfold joinAns; rw [h]; rfl
theorem joinAns_some (f : Nat → ByteArray) (n : Nat) (c : UInt8) (r : Nat) (h : roomAfter c ((List.range n).map f) 4001 = some r) (hn : 0 < n) : joinAns f n c = (⟨(joinL f n c).toArray⟩, true) := by
  unfold joinAns; rw [h]; simp [hn]

theorem room_cut (f : Nat → ByteArray) (c : UInt8) (k n : Nat) (h : k < n) (h1 : roomAfter c ((List.range (k + 1)).map f) 4001 = none) : roomAfter c ((List.range n).map f) 4001 = none := by
  have e : List.range n = List.range (k + 1) ++ (List.range (n - (k + 1))).map (k + 1 + ·) := by
    rw [← List.range_add]; congr 1; omega
  rw [e, List.map_append]
  exact roomAfter_none _ _ _ _ h1

theorem ret_strb {a : ByteArray} {b : Bool} {x : ByteArray × Bool} (h : x = (a, b)) : Ending.returned (.tuple #[.string a, .bool b]) = .returned (.tuple #[.string x.1, .bool x.2]) := by rw [h]

theorem canJoin_is (g cap n : Nat) (f : Nat → ByteArray) (c : UInt8) (hn : n ≤ 1048576) (hf : ∀ j, j < n → (f j).size ≤ 1048576) (w : World) (hrow : RowAt w g cap n f) (b : Bool) (hb : ((roomAfter c ((List.range n).map f) 4001).isSome && decide (0 < n)) = b) :
    Calls Tryd.prog 32 #[.slice (some ⟨g, 0, none⟩) n cap, .int .u8 (c.toNat : Int)] w fun e W' => e = .returned (.bool b) ∧ Below w.heap.size w W' := by
  subst hb
  exact (callsIn_wide (n := 3)).1 (canJoin_in g cap n f c hn hf w hrow)

theorem joinL_len (f : Nat → ByteArray) (c : UInt8) (k : Nat) : ∀ r, roomAfter c ((List.range k).map f) 4001 = some r → (joinL f k c).length ≤ 4000 := by
  intro r h
  have key : ∀ m, m ≤ k → ∃ r', roomAfter c ((List.range m).map f) 4001 = some r' ∧ (m = 0 → r' = 4001) ∧ (0 < m → r' + (joinL f m c).length = 4000) := by
    intro m
    induction m with
    | zero => exact fun _ => ⟨4001, rfl, fun _ => rfl, fun h => by omega⟩
    | succ m ih =>
      intro hm
      obtain ⟨r', hr', h0, h1⟩ := ih (by omega)
      have hne : roomAfter c ((List.range (m + 1)).map f) 4001 ≠ none := by
        intro e
        by_cases hmk : m + 1 = k
        · subst hmk; rw [h] at e; cases e
        · have := room_cut f c m k (by omega) e; rw [h] at this; cases this
      rw [List.range_succ, List.map_append, List.map_singleton, roomAfter_snoc, hr'] at hne ⊢
      simp only [Option.bind_some, roomAfter] at hne ⊢
      by_cases hx : (sepIn (f m) c || !decide ((f m).size < r')) = true
      · rw [if_pos hx] at hne; exact absurd rfl hne
      · rw [if_neg hx]
        have hlt : (f m).size < r' := by
          simp at hx; omega
        refine ⟨_, rfl, by omega, fun _ => ?_⟩
        have hsz : (f m).data.toList.length = (f m).size := by simp
        by_cases hz : m = 0
        · subst hz
          have := h0 rfl
          rw [joinL_one, hsz]; omega
        · have := h1 (by omega)
          rw [joinL_succ f m c (by omega)]
          simp only [List.length_append, List.length_cons, List.length_nil, hsz]
          omega
  obtain ⟨r', _, h0, h1⟩ := key k (Nat.le_refl _)
  by_cases hz : k = 0
  · subst hz; simp [joinL_zero]
  · have := h1 (by omega); omega

theorem join_call (g cap n : Nat) (f : Nat → ByteArray) (c : UInt8) (hn : n ≤ 1048576) (w : World) (hrow : RowAt w g cap n f) (hl : (joinL f n c).length ≤ 4000) :
    Calls Tryd.prog 33 #[.slice (some ⟨g, 0, none⟩) n cap, .string ⟨#[c]⟩] w fun e w' => e = .returned (.string ⟨(joinL f n c).toArray⟩) ∧ Below w.heap.size w w' := by
  have hc : n ≤ cap := by obtain ⟨cur, _, h, _⟩ := hrow; exact h
  have h := Tryd.strings_Join g 0 cap ((List.range n).map f) ⟨#[c]⟩ w (fun j x hj => by
      have hjn : j < n := by
        have := (List.getElem?_eq_some_iff.1 hj).1
        simpa using this
      have hx : f j = x := by
        rw [List.getElem?_map, List.getElem?_range hjn] at hj
        simpa using hj
      rw [← hx, Nat.zero_add]
      exact hrow.cell j hjn) hrow.lt (by simp; omega) (by simpa using hc) (by
      have e : Lib.join (((List.range n).map f).map (·.data.toList)) (⟨#[c]⟩ : ByteArray).data.toList = joinL f n c := by
        unfold joinL; rw [List.map_map]; rfl
      rw [e]; omega)
  have e : Lib.join (((List.range n).map f).map (·.data.toList)) (⟨#[c]⟩ : ByteArray).data.toList = joinL f n c := by
    unfold joinL; rw [List.map_map]; rfl
  rw [e] at h
  simpa using h

set_option maxRecDepth 100000 in
set_option maxHeartbeats 400000 in
theorem implJoin_rows (g cap n : Nat) (f : Nat → ByteArray) (c : UInt8) (hn : n ≤ 1048576) (hf : ∀ j, j < n → (f j).size ≤ 1048576) (w : World) (hrow : RowAt w g cap n f) :
    Calls Tryd.prog 20 #[.slice (some ⟨g, 0, none⟩) n cap, .string ⟨#[c]⟩] w fun e w' => e = .returned (.tuple #[.string (joinAns f n c).1, .bool (joinAns f n c).2]) ∧ Below w.heap.size w w' := by
  have hc0 : (⟨#[c]⟩ : ByteArray)[0]'(by show 0 < 1; decide) = c := rfl
  have HR := Lib.hid hrow
  have HF := Lib.hid hf
  clear hrow hf
  by_cases hb : ((roomAfter c ((List.range n).map f) 4001).isSome && decide (0 < n)) = true
  · have HB := Lib.hid hb
    have HA : Hid (joinAns f n c = (⟨(joinL f n c).toArray⟩, true)) := Lib.hid (by unfold joinAns; rw [if_pos hb])
    have HL : Hid ((joinL f n c).length ≤ 4000) := Lib.hid (by
      rw [Bool.and_eq_true] at hb
      obtain ⟨r, hr⟩ := Option.isSome_iff_exists.1 hb.1
      exact joinL_len f c n r hr)
    clear hb
    go_enter Tryd.func20, Tryd.ntmps20
    go_wp2_with (first | (go_at_call 32; refine (canJoin_is g cap n f c hn HF.out _ HR.out true HB.out).mono ?_; rintro e w1 ⟨rfl, hb1⟩) | (go_at_call 33; refine (join_call g cap n f c hn _ (HR.out.block (hb1.block g HR.out.lt)) HL.out).mono ?_; rintro e w2 ⟨rfl, hb2⟩))
    go_ret2
    exact ⟨ret_strb HA.out, hb1.trans (hb2.mono hb1.size)⟩
  · have hb' : ((roomAfter c ((List.range n).map f) 4001).isSome && decide (0 < n)) = false := by simpa using hb
    have HB := Lib.hid hb'
    have HA : Hid (joinAns f n c = (⟨#[]⟩, false)) := Lib.hid (by unfold joinAns; rw [if_neg hb])
    clear hb hb'
    go_enter Tryd.func20, Tryd.ntmps20
    go_wp2_with (go_at_call 32; refine (canJoin_is g cap n f c hn HF.out _ HR.out false HB.out).mono ?_; rintro e w1 ⟨rfl, hb1⟩)
    go_ret2
    exact ⟨ret_strb HA.out, hb1⟩

end Go.Proofs.YthpiahellpnccaaDoor
