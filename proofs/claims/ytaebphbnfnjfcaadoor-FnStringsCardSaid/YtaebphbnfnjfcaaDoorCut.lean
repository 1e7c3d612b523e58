/-
  The text in front of the first checksum mark: what strings.Cut returns first, and the first piece of a split text. No statement of the seat by itself.
-/
import Derived.Test.YtaebphbnfnjfcaaDoorSeal
import Derived.Test.YtaebphbnfnjfcaaDoorSplitS
import Derived.Test.YtaebphbnfnjfcaaDoorIdx
import Derived.Deep.QuietTactic
import Derived.BigQuiet
namespace Go.Proofs.YtaebphbnfnjfcaaDoor
open Go.RowKit

theorem indexByte_none (c : UInt8) : ∀ l : List UInt8, (∀ b ∈ l, ¬ b = c) → Lib.indexByte l c = -1
  | [], _ => rfl
  | b :: l, h => by
    have hb : (b == c) = false := by simpa using h b (by simp)
    have ih := indexByte_none c l fun x hx => h x (by simp [hx])
    rw [Lib.indexByte, ih]
    simp [hb]
theorem indexByte_first (c : UInt8) : ∀ (l : List UInt8) (i : Nat), l[i]? = some c → (∀ j, j < i → ¬ l[j]? = some c) → Lib.indexByte l c = (i : Int)
  | [], i, h, _ => by simp at h
  | b :: l, 0, h, _ => by
    have hb : b = c := by simpa using h
    rw [Lib.indexByte, hb]
    simp
  | b :: l, i + 1, h, hm => by
    have hb : (b == c) = false := by
      rw [beq_eq_false_iff_ne]
      intro e
      exact hm 0 (by omega) (by simp [e])
    have ih := indexByte_first c l i (by simpa using h) (fun j hj e => hm (j + 1) (by omega) (by simpa using e))
    rw [Lib.indexByte, ih]
    have hne : ((i : Int) == -1) = false := by rw [beq_eq_false_iff_ne]; omega
    simp [hb, hne]

/-- The text in front of the first mark, or the whole text. -/
def headB (s : ByteArray) : ByteArray := (pieces s 35).headD ⟨#[]⟩
theorem head_none (s : ByteArray) (h : ¬ HasSep s 35) : headB s = s := by
  unfold headB; rw [pieces_none s 35 h]; rfl
theorem head_some (s : ByteArray) (i : Nat) (hi : i < s.size) (hc : s[i] = 35) (hmin : ∀ (j : Nat) (hj : j < s.size), j < i → ¬ s[j] = 35) : headB s = s.extract 0 i := by
  have e := pst_none s 35 i hmin
  have e1 := pst_hit s 35 i hi hc
  rw [e] at e1
  have hp := pst_prefix s 35 (i + 1) (by omega)
  rw [e1] at hp
  obtain ⟨t, ht⟩ := hp
  unfold headB
  rw [← ht]
  rfl

/-- Where the first mark stands: nowhere, or at i. -/
theorem mark_cases (s : ByteArray) : (Lib.indexByte s.data.toList 35 = -1 ∧ headB s = s ∧ sepIn s 35 = false) ∨ ∃ i, i < s.size ∧ Lib.indexByte s.data.toList 35 = (i : Int) ∧ headB s = s.extract 0 i ∧ sepIn (s.extract 0 i) 35 = false := by
  by_cases h : HasSep s 35
  · obtain ⟨i0, h0, hc0⟩ := h
    obtain ⟨i, hi, hc, hmin⟩ := first_sep s 35 (i0 + 1) ⟨i0, h0, by omega, hc0⟩
    right
    refine ⟨i, hi, ?_, head_some s i hi hc hmin, ?_⟩
    · apply indexByte_first
      · rw [List.getElem?_eq_getElem (by simpa using hi)]
        exact congrArg some hc
      · intro j hj e
        have hjs : j < s.size := by omega
        rw [List.getElem?_eq_getElem (by simpa using hjs)] at e
        exact hmin j hjs hj (Option.some.inj e)
    · rw [← Bool.not_eq_true, sepIn_iff]
      rintro ⟨j, hj, e⟩
      rw [ByteArray.size_extract] at hj
      have hj2 : j < i := by omega
      rw [ByteArray.getElem_extract] at e
      refine hmin j (by omega) hj2 ?_
      simpa using e
  · left
    have hs : sepIn s 35 = false := by rw [← Bool.not_eq_true, sepIn_iff]; exact h
    refine ⟨?_, head_none s h, hs⟩
    apply indexByte_none
    intro b hb e
    apply h
    have : sepIn s 35 = true := by unfold sepIn; rw [List.contains_iff_mem]; exact e ▸ hb
    exact (sepIn_iff s 35).1 this

theorem head_sep (s : ByteArray) : sepIn (headB s) 35 = false := by
  rcases mark_cases s with ⟨_, h, hs⟩ | ⟨i, _, _, h, hs⟩ <;> rw [h] <;> exact hs
theorem head_size (s : ByteArray) : (headB s).size ≤ s.size := by
  rcases mark_cases s with ⟨_, h, _⟩ | ⟨i, hi, _, h, _⟩
  · rw [h]; exact Nat.le_refl _
  · rw [h, ByteArray.size_extract]; omega

set_option maxRecDepth 100000 in
set_option maxHeartbeats 1000000 in
theorem index_any (s : ByteArray) (w : World) :
    Calls Tryd.prog 55 #[.string s, .string ⟨#[35]⟩] w fun e w' => e = .returned (.int .i64 (Lib.indexByte s.data.toList 35)) ∧ w' = w := by
  have hc0 : (⟨#[35]⟩ : ByteArray)[0]'(by show 0 < 1; decide) = 35 := rfl
  by_cases hs : s = ⟨#[35]⟩
  · subst hs
    go_enter Tryd.func55, Tryd.ntmps55
    go_wp2_with fail
    go_ret
    exact ⟨rfl, rfl⟩
  · have hne : ((⟨#[35]⟩ : ByteArray).toList == s.toList) = false ∧ ([(35 : UInt8)] == s.toList) = false := by
      rw [ByteArray.toList_eq, ByteArray.toList_eq]
      have : ¬ ([35] : List UInt8) = s.data.toList := by
        intro e
        apply hs
        apply ByteArray.ext
        apply Array.toList_inj.1
        rw [← e]
      simp [this]
    obtain ⟨n1, n2⟩ := hne
    clear hs
    go_enter Tryd.func55, Tryd.ntmps55
    go_wp2_with (go_at_call 66; refine (Tryd.stringslite_IndexByte s _ _).mono ?_; rintro e w' ⟨rfl, rfl⟩)
    go_ret
    exact ⟨rfl, rfl⟩

/-- What strings.Cut answers first. -/
def CutPost (w : World) (t : ByteArray) (e : Ending) (w' : World) : Prop := (∃ (x : ByteArray) (b : Bool), e = .returned (.tuple #[.string t, .string x, .bool b])) ∧ ∃ k, w' = w.drewN k

set_option maxRecDepth 100000 in
set_option maxHeartbeats 1000000 in
theorem cutIn_any (s : ByteArray) (hs : s.size ≤ 1048576) (w : World) : Calls Tryd.prog 44 #[.string s, .string ⟨#[35]⟩] w (CutPost w (headB s)) := by
  rcases mark_cases s with ⟨h1, h2, _⟩ | ⟨i, hi, h1, h2, _⟩
  · rw [h2]
    have H1 : Hid (∀ w, Calls Tryd.prog 55 #[.string s, .string ⟨#[35]⟩] w fun e w' => e = .returned (.int .i64 (-1)) ∧ w' = w) := Lib.hid fun w => by have := index_any s w; rwa [h1] at this
    clear h1 h2
    go_enter Tryd.func44, Tryd.ntmps44
    go_wp2_with (go_at_call 55; refine (H1.out _).mono ?_; rintro e w' ⟨rfl, rfl⟩)
    go_ret3
    exact ⟨⟨_, _, rfl⟩, 0, rfl⟩
  · rw [h2]
    have H1 : Hid (∀ w, Calls Tryd.prog 55 #[.string s, .string ⟨#[35]⟩] w fun e w' => e = .returned (.int .i64 (i : Int)) ∧ w' = w) := Lib.hid fun w => by have := index_any s w; rwa [h1] at this
    clear h1 h2
    have hw1 : wrap64 ((i : Int) + 1) = (i : Int) + 1 := IntWalk.wrap64_in _ (by omega)
    have hw2 : IntKind.i64.wrap ((i : Int) + 1) = (i : Int) + 1 := IntWalk.i64_in _ (by omega)
    have hle : (i : Int) + 1 ≤ (s.size : Int) := by omega
    have hle2 : (i : Int) ≤ (s.size : Int) := by omega
    have hn1 : ((i : Int) + 1).toNat = i + 1 := by omega
    have h01 : (0 : Int) ≤ (i : Int) + 1 := by omega
    go_enter Tryd.func44, Tryd.ntmps44
    go_wp2_with (go_at_call 55; refine (H1.out _).mono ?_; rintro e w' ⟨rfl, rfl⟩)
    go_quiet (fail)
    go_wp2_with fail
    go_ret3
    exact ⟨⟨_, _, rfl⟩, _, rfl⟩

set_option maxHeartbeats 400000 in
theorem cut_any (s : ByteArray) (hs : s.size ≤ 1048576) (w : World) : Calls Tryd.prog 35 #[.string s, .string ⟨#[35]⟩] w (CutPost w (headB s)) := by
  go_enter Tryd.func35, Tryd.ntmps35
  go_wp2_with (go_at_call 44; refine (cutIn_any s hs _).mono ?_; rintro e w' ⟨⟨x, b, rfl⟩, k, rfl⟩)
  go_ret3
  exact ⟨⟨_, _, rfl⟩, _, rfl⟩
end Go.Proofs.YtaebphbnfnjfcaaDoor
