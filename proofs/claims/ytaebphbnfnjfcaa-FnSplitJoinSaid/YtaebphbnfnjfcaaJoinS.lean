/-
  spec.l1Stands and spec.JoinStrings: what they return. No statement of the seat by itself.
-/
import Derived.Test.YtaebphbnfnjfcaaCanJoin
import Derived.Lib.Join
import Derived.Deep.QuietTactic
import Derived.BigQuiet
namespace Go.Proofs.Ytaebphbnfnjfcaa
open Go.RowKit

set_option maxHeartbeats 400000 in
theorem stands_any (s : ByteArray) (c : UInt8) (hs : s.size ≤ 1048576) (w : World) :
    Calls Try.prog 32 #[.string s, .int .u8 (c.toNat : Int)] w fun e w' => e = .returned (.bool (sepIn s c)) ∧ w' = w := by
  go_enter Try.func32, Try.ntmps32
  go_wp2
  go_loop [5] (fun i => ∃ k : Nat, k ≤ s.size ∧ i = .int .i64 k ∧ Hid (∀ (j : Nat) (hj : j < s.size), j < k → ¬ s[j] = c)) (fun i => s.size - (intOf i).toNat)
  case atStart => exact ⟨0, Nat.zero_le _, rfl, Lib.hid fun j hj h => by omega⟩
  case round =>
    obtain ⟨k, hk, rfl, HN⟩ := hrel
    by_cases hlt : k < s.size
    · by_cases hc : s[k] = c
      · have hne : ((s[k].toNat : Int) == (c.toNat : Int)) = true := by rw [hc]; simp
        have HS := Lib.hid ((sepIn_iff s c).2 ⟨k, hlt, hc⟩)
        clear hc
        go_wp2
        go_ret
        exact ⟨by rw [HS.out]; rfl, rfl⟩
      · have hne : ((s[k].toNat : Int) == (c.toNat : Int)) = false := by
          rw [beq_eq_false_iff_ne]; intro e; exact hc (UInt8.toNat_inj.1 (by omega))
        have HN2 : Hid (∀ (j : Nat) (hj : j < s.size), j < k + 1 → ¬ s[j] = c) := Lib.hid fun j hj h e => by
          by_cases hjk : j = k
          · subst hjk; exact hc e
          · exact HN.out j hj (by omega) e
        clear hc
        go_wp2
        go_round
        case rel => exact ⟨k + 1, by omega, by go_num, HN2⟩
        case measure => simp [intOf]; omega
    · have HS : Hid (sepIn s c = false) := Lib.hid (by
        rw [← Bool.not_eq_true, sepIn_iff]
        rintro ⟨j, hj, e⟩
        exact HN.out j hj (by omega) e)
      go_wp2
      go_ret
      exact ⟨by rw [HS.out]; rfl, rfl⟩

theorem stands_is (s : ByteArray) (c : UInt8) (b : Bool) (h : sepIn s c = b) (hs : s.size ≤ 1048576) (w : World) :
    Calls Try.prog 32 #[.string s, .int .u8 (c.toNat : Int)] w fun e w' => e = .returned (.bool b) ∧ w' = w := by
  subst h; exact stands_any s c hs w

/-- The first k texts joined. -/
def joinL (f : Nat → ByteArray) (k : Nat) (c : UInt8) : List UInt8 := Lib.join ((List.range k).map fun j => (f j).data.toList) [c]
theorem joinL_zero (f : Nat → ByteArray) (c : UInt8) : joinL f 0 c = [] := rfl
theorem joinL_one (f : Nat → ByteArray) (c : UInt8) : joinL f 1 c = (f 0).data.toList := by
  unfold joinL
  exact Lib.join_one _ _
theorem joinL_succ (f : Nat → ByteArray) (k : Nat) (c : UInt8) (h : 0 < k) : joinL f (k + 1) c = joinL f k c ++ [c] ++ (f k).data.toList := by
  unfold joinL
  rw [List.range_succ, List.map_append, List.map_singleton]
  obtain ⟨x, r, e⟩ : ∃ x r, (List.range k).map (fun j => (f j).data.toList) = x :: r := by
    cases hh : (List.range k).map (fun j => (f j).data.toList) with
    | nil =>
      have := congrArg List.length hh
      simp at this
      omega
    | cons x r => exact ⟨x, r, rfl⟩
  rw [e, List.cons_append, Lib.join_cons, Lib.join_cons]
  unfold Lib.joinTail
  simp

/-- What both functions answer. -/
def joinAns (f : Nat → ByteArray) (n : Nat) (c : UInt8) : ByteArray × Bool := if (roomAfter c ((List.range n).map f) 4001).isSome && decide (0 < n) then (⟨(joinL f n c).toArray⟩, true) else (⟨#[]⟩, false)
theorem joinAns_none (f : Nat → ByteArray) (n : Nat) (c : UInt8) (h : roomAfter c ((List.range n).map f) 4001 = none) : joinAns f n c = (⟨#[]⟩, false) := by
  unfold joinAns; rw [h]; rfl
theorem joinAns_some (f : Nat → ByteArray) (n : Nat) (c : UInt8) (r : Nat) (h : roomAfter c ((List.range n).map f) 4001 = some r) (hn : 0 < n) : joinAns f n c = (⟨(joinL f n c).toArray⟩, true) := by
  unfold joinAns; rw [h]; simp [hn]

/-- The room and the text that is joined so far. -/
def JoinRel (f : Nat → ByteArray) (c : UInt8) (k : Nat) (l : List UInt8) : Prop := ∃ r, roomAfter c ((List.range k).map f) 4001 = some r ∧ l = joinL f k c ∧ (k = 0 → r = 4001) ∧ (0 < k → r + l.length = 4000)

theorem room_cut (f : Nat → ByteArray) (c : UInt8) (k n : Nat) (h : k < n) (h1 : roomAfter c ((List.range (k + 1)).map f) 4001 = none) : roomAfter c ((List.range n).map f) 4001 = none := by
  have e : List.range n = List.range (k + 1) ++ (List.range (n - (k + 1))).map (k + 1 + ·) := by
    rw [← List.range_add]; congr 1; omega
  rw [e, List.map_append]
  exact roomAfter_none _ _ _ _ h1

theorem joinRel_sep {f : Nat → ByteArray} {c : UInt8} {k n : Nat} {l : List UInt8} (h : JoinRel f c k l) (hk : k < n) (hs : sepIn (f k) c = true) : joinAns f n c = (⟨#[]⟩, false) := by
  obtain ⟨r, hr, -⟩ := h
  apply joinAns_none
  apply room_cut f c k n hk
  rw [List.range_succ, List.map_append, List.map_singleton, roomAfter_snoc, hr]
  simp [roomAfter, hs]
theorem joinRel_long {f : Nat → ByteArray} {c : UInt8} {k n : Nat} {l : List UInt8} (h : JoinRel f c k l) (hk : k < n) (hl : 4000 < l.length + (if k = 0 then 0 else 1) + (f k).size) : joinAns f n c = (⟨#[]⟩, false) := by
  obtain ⟨r, hr, he, h0, h1⟩ := h
  apply joinAns_none
  apply room_cut f c k n hk
  rw [List.range_succ, List.map_append, List.map_singleton, roomAfter_snoc, hr]
  simp only [Option.bind_some, roomAfter]
  rw [if_pos]
  have : ¬ (f k).size < r := by
    by_cases hz : k = 0
    · have := h0 hz; subst hz; rw [if_pos rfl] at hl; rw [he, joinL_zero] at hl; simp at hl; omega
    · have := h1 (by omega); rw [if_neg hz] at hl; omega
  simp [this]
theorem joinRel_step {f : Nat → ByteArray} {c : UInt8} {k : Nat} {l l' : List UInt8} (h : JoinRel f c k l) (hs : sepIn (f k) c = false) (hl : l.length + (if k = 0 then 0 else 1) + (f k).size ≤ 4000) (hl' : l' = l ++ (if k = 0 then [] else [c]) ++ (f k).data.toList) : JoinRel f c (k + 1) l' := by
  obtain ⟨r, hr, he, h0, h1⟩ := h
  have hsz : (f k).data.toList.length = (f k).size := by simp
  refine ⟨r - ((f k).size + 1), ?_, ?_, by omega, ?_⟩
  · rw [List.range_succ, List.map_append, List.map_singleton, roomAfter_snoc, hr]
    simp only [Option.bind_some, roomAfter]
    rw [if_neg]
    have : (f k).size < r := by
      by_cases hz : k = 0
      · have := h0 hz; subst hz; rw [if_pos rfl] at hl; omega
      · have := h1 (by omega); rw [if_neg hz] at hl; omega
    simp [this, hs]
  · by_cases hz : k = 0
    · subst hz; rw [hl', he, joinL_zero, joinL_one]; simp
    · rw [hl', he, joinL_succ f k c (by omega), if_neg hz]
  · intro _
    rw [hl']
    by_cases hz : k = 0
    · have := h0 hz; subst hz; rw [he, joinL_zero]; rw [if_pos rfl] at hl ⊢; simp; rw [he, joinL_zero] at hl; simp at hl; omega
    · have := h1 (by omega); rw [if_neg hz] at hl ⊢; simp; omega

theorem draw_more {w wr : World} (h : ∃ q, wr = w.drewN q) (n : Nat) : ∃ q, wr.drewN n = w.drewN q := by
  obtain ⟨q, rfl⟩ := h
  exact ⟨q + n, by rw [World.drewN_drewN]⟩
theorem ret_strb {a : ByteArray} {b : Bool} {x : ByteArray × Bool} (h : x = (a, b)) : Ending.returned (.tuple #[.string a, .bool b]) = .returned (.tuple #[.string x.1, .bool x.2]) := by rw [h]

set_option maxRecDepth 100000 in
set_option maxHeartbeats 1000000 in
theorem specJoin_rows (g cap n : Nat) (f : Nat → ByteArray) (c : UInt8) (hn : n ≤ 1048576) (h0 : 0 < n) (hf : ∀ j, j < n → (f j).size ≤ 1048576) (w : World) (hrow : RowAt w g cap n f) :
    Calls Try.prog 13 #[.slice (some ⟨g, 0, none⟩) n cap, .string ⟨#[c]⟩] w fun e w' => e = .returned (.tuple #[.string (joinAns f n c).1, .bool (joinAns f n c).2]) ∧ ∃ k, w' = w.drewN k := by
  have hc0 : (⟨#[c]⟩ : ByteArray)[0]'(by show 0 < 1; decide) = c := rfl
  have hn0 : ((n : Int) == 0) = false := by rw [beq_eq_false_iff_ne]; omega
  have HR := Lib.hid hrow
  have HF := Lib.hid hf
  clear hrow hf
  go_enter Try.func13, Try.ntmps13
  go_wp2_with fail
  go_loopw [6, 7] (fun o i wr => ∃ (k : Nat) (l : List UInt8), k ≤ n ∧ i = .int .i64 k ∧ o = .string ⟨l.toArray⟩ ∧ Hid (JoinRel f c k l) ∧ l.length ≤ 4000 ∧ Hid (∃ q, wr = w.drewN q)) (fun _ i _ => n - (intOf i).toNat)
  case atStart => exact ⟨0, [], Nat.zero_le _, rfl, rfl, Lib.hid ⟨4001, rfl, rfl, fun _ => rfl, fun h => by omega⟩, by simp, Lib.hid ⟨0, rfl⟩⟩
  case round =>
    obtain ⟨k, l, hk, rfl, rfl, HJ, hl, HQ⟩ := hrel
    by_cases hlt : k < n
    · have hcell : wr.cell? ⟨g, k, none⟩ = some (.string (f k)) := by
        obtain ⟨q, rfl⟩ := HQ.out
        exact HR.out.cell k hlt
      have hsz := HF.out k hlt
      by_cases hs0 : sepIn (f k) c = true
      · have HA := Lib.hid (joinRel_sep HJ.out hlt hs0)
        have HS := Lib.hid hs0
        clear hs0
        go_wp2_with fail
        go_quiet ((go_at_call 32; exact Calls.quiet_of_same (stands_is _ _ true HS.out hsz _)))
        go_wp2_with fail
        go_ret2
        exact ⟨ret_strb HA.out, draw_more HQ.out nq⟩
      · have hs1 : sepIn (f k) c = false := by simpa using hs0
        have HS := Lib.hid hs1
        clear hs0 hs1
        by_cases hz : k = 0
        · have hl0 : l = [] := by
            obtain ⟨r, hr, hlj, -, -⟩ := HJ.out
            rw [hlj, hz]; rfl
          by_cases hlong : 4000 < (f k).size
          · have HA := Lib.hid (joinRel_long HJ.out hlt (by rw [if_pos hz]; omega))
            subst hl0
            clear hl
            have hp : ¬ 0 < k := by omega
            clear hz
            go_wp2_with fail
            go_quiet ((go_at_call 32; exact Calls.quiet_of_same (stands_is _ _ false HS.out hsz _)))
            go_wp2_with fail
            go_ret2
            exact ⟨ret_strb HA.out, draw_more HQ.out nq⟩
          · have HJ2 := Lib.hid (joinRel_step (l' := (f k).data.toList) HJ.out HS.out (by rw [if_pos hz, hl0]; simp; omega) (by rw [if_pos hz, hl0]; simp))
            subst hl0
            clear hl
            have hp : ¬ 0 < k := by omega
            clear hz
            go_wp2_with fail
            go_quiet ((go_at_call 32; exact Calls.quiet_of_same (stands_is _ _ false HS.out hsz _)))
            go_wp2_with fail
            refine ⟨⟨k + 1, (f k).data.toList, by omega, by go_num, congrArg Value.string (ByteArray.ext (by simp)), HJ2, by simp; omega, Lib.hid (draw_more HQ.out nq)⟩, by simp [intOf]; omega⟩
        · have hp : 0 < k := by omega
          by_cases hlong : 4000 < l.length + 1 + (f k).size
          · have HA := Lib.hid (joinRel_long HJ.out hlt (by rw [if_neg hz]; omega))
            clear hz
            go_wp2_with fail
            go_quiet ((go_at_call 32; exact Calls.quiet_of_same (stands_is _ _ false HS.out hsz _)))
            go_wp2_with fail
            go_ret2
            exact ⟨ret_strb HA.out, draw_more HQ.out nq⟩
          · have HJ2 := Lib.hid (joinRel_step (l' := l ++ [c] ++ (f k).data.toList) HJ.out HS.out (by rw [if_neg hz]; omega) (by rw [if_neg hz]))
            clear hz
            go_wp2_with fail
            go_quiet ((go_at_call 32; exact Calls.quiet_of_same (stands_is _ _ false HS.out hsz _)))
            go_wp2_with fail
            refine ⟨⟨k + 1, l ++ [c] ++ (f k).data.toList, by omega, by go_num, congrArg Value.string (ByteArray.ext (by simp)), HJ2, by simp; omega, Lib.hid (draw_more HQ.out nq)⟩, by simp [intOf]; omega⟩
    · obtain rfl : k = n := by omega
      obtain ⟨r, hr, hlj, -, -⟩ := HJ.out
      have HA := Lib.hid (joinAns_some f k c r hr h0)
      have HL := Lib.hid hlj
      clear hr hlj
      go_wp2_with fail
      go_ret2
      exact ⟨by rw [HL.out]; exact ret_strb HA.out, HQ.out⟩

set_option maxHeartbeats 400000 in
theorem specJoin_empty (a : Option Addr) (cap : Nat) (c : UInt8) (w : World) :
    Calls Try.prog 13 #[.slice a 0 cap, .string ⟨#[c]⟩] w fun e w' => e = .returned (.tuple #[.string ⟨#[]⟩, .bool false]) ∧ ∃ k, w' = w.drewN k := by
  go_enter Try.func13, Try.ntmps13
  go_wp2_with fail
  go_ret2
  exact ⟨rfl, 0, rfl⟩

set_option maxHeartbeats 400000 in
theorem specJoin_sep (a : Option Addr) (n cap : Nat) (sep : ByteArray) (hs : sep.size ≠ 1) (w : World) :
    Calls Try.prog 13 #[.slice a n cap, .string sep] w fun e w' => e = .returned (.tuple #[.string ⟨#[]⟩, .bool false]) ∧ ∃ k, w' = w.drewN k := by
  have hb2 : ((sep.size : Int) != 1) = true := by rw [bne_iff_ne]; omega
  go_enter Try.func13, Try.ntmps13
  go_wp2_with fail
  go_ret2
  exact ⟨rfl, 0, rfl⟩
end Go.Proofs.Ytaebphbnfnjfcaa
