/-
  What the two CountRelocations return. No statement of the seat by itself.
-/
import Derived.Test.YtmkejgbbgknalaaStepsM
import Derived.Test.YtmkejgbbgknalaaRet
namespace Go.Proofs.Ytmkejgbbgknalaa
open Go.RowKit

/-- The number of relocations of a list of steps. -/
def relN (S : List (Int × Int)) : Nat := S.countP fun s => decide (s.2 ≠ -1)
theorem relN_le (S : List (Int × Int)) : relN S ≤ S.length := List.countP_le_length
theorem relN_take {S : List (Int × Int)} {k : Nat} {s : Int × Int} (h : S[k]? = some s) : relN (S.take (k + 1)) = relN (S.take k) + if s.2 = -1 then 0 else 1 := by
  unfold relN
  rw [List.take_add_one, h, List.countP_append]
  by_cases e : s.2 = -1 <;> simp [e]
theorem relN_take_le (S : List (Int × Int)) (k : Nat) : relN (S.take k) ≤ k := Nat.le_trans (relN_le _) (by simp; omega)

set_option maxRecDepth 100000 in
set_option maxHeartbeats 2000000 in
theorem specCount_any (v : Value) (S : List (Int × Int)) (hn : S.length ≤ 1048576) (w : World) (h : SL w v S) :
    Calls Try.prog 36 #[v] w (RetP w (.int .i64 (relN S : Int))) := by
  obtain ⟨a, c, rfl, hc⟩ := h
  obtain ⟨n, hl⟩ : ∃ n, S.length = n := ⟨_, rfl⟩
  have HN := Lib.hid hl
  rw [hl] at hn ⊢
  have H := Lib.hid hc
  have HE := Lib.hid (show relN (S.take n) = relN S by rw [← hl, List.take_length])
  clear hc hl
  go_enter Try.func36, Try.ntmps36
  go_wp2
  go_loopw [3, 4] (fun m i wr => ∃ k t : Nat, k ≤ n ∧ i = .int .i64 k ∧ t ≤ k ∧ Hid (relN (S.take k) = t) ∧ m = .int .i64 (t : Int) ∧ Hid (Below w.heap.size w wr)) (fun _ i _ => n - (intOf i).toNat)
  case atStart => exact ⟨0, 0, Nat.zero_le _, rfl, Nat.le_refl _, Lib.hid (by simp [relN]), rfl, Lib.hid (Below.refl _ _)⟩
  case round =>
    obtain ⟨k, t, hk, rfl, ht, HT, rfl, HB⟩ := hrel
    by_cases hlt : k < n
    · obtain ⟨g, off, rfl, hg, hcc⟩ := H.out (by have := HN.out; omega)
      obtain ⟨s, hs⟩ := get_at HN.out hlt
      obtain ⟨x, y⟩ := s
      have KS := Lib.hid (relN_take hs)
      have a1 : wr.cell? ⟨g, off + k * 2 + 1, none⟩ = some (.int .i64 y) := (HB.out.cell (p := ⟨g, off + k * 2 + 1, none⟩) hg).trans (hcc k _ hs).2
      have hki : (k : Int) < (n : Int) := by omega
      clear hcc hs
      by_cases e : y = -1
      · have KS' := Lib.hid (show relN (S.take (k + 1)) = t by rw [KS.out, if_pos e, HT.out, Nat.add_zero])
        subst e
        go_wp2_with fail
        refine ⟨⟨k + 1, t, by omega, by go_num, by omega, KS', rfl, HB⟩, by simp [intOf]; omega⟩
      · have KS' := Lib.hid (show relN (S.take (k + 1)) = t + 1 by rw [KS.out, if_neg e, HT.out])
        go_wp2_with fail
        refine ⟨⟨k + 1, t + 1, by omega, by go_num, by omega, KS', by go_num, HB⟩, by simp [intOf]; omega⟩
    · obtain rfl : k = n := by omega
      go_wp2_with fail
      go_ret
      refine ⟨ret_i ?_, HB.out⟩
      rw [← HE.out, HT.out]

set_option maxRecDepth 100000 in
set_option maxHeartbeats 2000000 in
theorem implCount_any (v : Value) (S : List (Int × Int)) (hn : S.length ≤ 1048576) (w : World) (h : SL w v S) :
    Calls Try.prog 37 #[v] w (RetP w (.int .i64 (relN S : Int))) := by
  obtain ⟨a, c, rfl, hc⟩ := h
  obtain ⟨n, hl⟩ : ∃ n, S.length = n := ⟨_, rfl⟩
  have HN := Lib.hid hl
  rw [hl] at hn ⊢
  have H := Lib.hid hc
  have HE := Lib.hid (show relN (S.take n) = relN S by rw [← hl, List.take_length])
  clear hc hl
  go_enter Try.func37, Try.ntmps37
  go_wp2
  go_loopw [3, 8] (fun m i wr => ∃ k t : Nat, k ≤ n ∧ i = .int .i64 k ∧ t ≤ k ∧ Hid (relN (S.take k) = t) ∧ m = .int .i64 (t : Int) ∧ Hid (Below w.heap.size w wr)) (fun _ i _ => n - (intOf i).toNat)
  case atStart => exact ⟨0, 0, Nat.zero_le _, rfl, Nat.le_refl _, Lib.hid (by simp [relN]), rfl, Lib.hid (Below.refl _ _)⟩
  case round =>
    obtain ⟨k, t, hk, rfl, ht, HT, rfl, HB⟩ := hrel
    by_cases hlt : k < n
    · obtain ⟨g, off, rfl, hg, hcc⟩ := H.out (by have := HN.out; omega)
      obtain ⟨s, hs⟩ := get_at HN.out hlt
      obtain ⟨x, y⟩ := s
      have KS := Lib.hid (relN_take hs)
      have a0 : wr.cell? ⟨g, off + k * 2, none⟩ = some (.int .i64 x) := (HB.out.cell (p := ⟨g, off + k * 2, none⟩) hg).trans (hcc k _ hs).1
      have a1 : wr.cell? ⟨g, off + k * 2 + 1, none⟩ = some (.int .i64 y) := (HB.out.cell (p := ⟨g, off + k * 2 + 1, none⟩) hg).trans (hcc k _ hs).2
      have hki : (k : Int) < (n : Int) := by omega
      clear hcc hs
      by_cases e : y = -1
      · have KS' := Lib.hid (show relN (S.take (k + 1)) = t by rw [KS.out, if_pos e, HT.out, Nat.add_zero])
        subst e
        have HB' : Hid (Below w.heap.size w (wr.alloc (.cells #[.int .i64 x, .int .i64 (-1)] 80))) := Lib.hid (HB.out.alloc HB.out.size _)
        go_wp2_with fail
        refine ⟨⟨k + 1, t, by omega, by go_num, by omega, KS', rfl, HB'⟩, by simp [intOf]; omega⟩
      · have KS' := Lib.hid (show relN (S.take (k + 1)) = t + 1 by rw [KS.out, if_neg e, HT.out])
        have HB' : Hid (Below w.heap.size w (wr.alloc (.cells #[.int .i64 x, .int .i64 y] 80))) := Lib.hid (HB.out.alloc HB.out.size _)
        go_wp2_with fail
        refine ⟨⟨k + 1, t + 1, by omega, by go_num, by omega, KS', by go_num, HB'⟩, by simp [intOf]; omega⟩
    · obtain rfl : k = n := by omega
      go_wp2_with fail
      go_ret
      refine ⟨ret_i ?_, HB.out⟩
      rw [← HE.out, HT.out]
end Go.Proofs.Ytmkejgbbgknalaa
