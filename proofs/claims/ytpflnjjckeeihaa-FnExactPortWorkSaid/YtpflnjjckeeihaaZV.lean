/-
  What the two IsValidStowage return. No statement of the seat by itself.
-/
import Derived.Test.YtpflnjjckeeihaaZSto
import Derived.Test.YtpflnjjckeeihaaZNum
import Derived.Deep.RegionHeldLaw
namespace Go.Proofs.Ytpflnjjckeeihaa
open Go.RowKit

set_option maxHeartbeats 4000000 in
theorem l10Good_any (v : Value) (r h : Int) (P : List Int) (hn : P.length ≤ 1048576) (w : World) (hv : StR w v r h P) :
    Calls Try.prog 51 #[v] w (BoolP w (goodZ r h P)) := by
  obtain ⟨v0, rfl, hv⟩ := hv
  have BA := Box3.new w r h v0 26
  have B0 := Lib.hid (below_one w (.cells #[.int .i64 r, .int .i64 h, v0] 26))
  obtain ⟨a, cap, rfl, hc⟩ := hv
  obtain ⟨n, hl⟩ : ∃ n, P.length = n := ⟨_, rfl⟩
  have HN := Lib.hid hl
  have HC := Lib.hid hc
  rw [hl] at hn BA B0 ⊢
  obtain ⟨-, c0, c1, c2⟩ := BA
  clear hc hl
  by_cases hr : 1 ≤ r ∧ r ≤ 5
  case neg =>
    have HI := Lib.hid (fun W => l1In_no r 1 5 W (by omega))
    have HF : Hid (goodZ r h P = false) := Lib.hid (goodZ_not fun g => hr ⟨g.1, g.2.1⟩)
    clear hr
    go_enter Try.func51, Try.ntmps51
    go_wp2_with fail
    refine (HI.out _).mono ?_
    rintro e w1 ⟨rfl, rfl⟩
    go_wp2_with fail
    go_ret
    exact ⟨by rw [HF.out]; rfl, B0.out⟩
  have HR := Lib.hid (fun W => l1In_yes r 1 5 W hr.1 hr.2)
  by_cases hh : 1 ≤ h ∧ h ≤ 4
  case neg =>
    have HI := Lib.hid (fun W => l1In_no h 1 4 W (by omega))
    have HF : Hid (goodZ r h P = false) := Lib.hid (goodZ_not fun g => hh ⟨g.2.2.1, g.2.2.2.1⟩)
    clear hr hh
    go_enter Try.func51, Try.ntmps51
    go_wp2_with fail
    refine (HR.out _).mono ?_
    rintro e w1 ⟨rfl, rfl⟩
    go_wp2_with fail
    refine (HI.out _).mono ?_
    rintro e w1 ⟨rfl, rfl⟩
    go_wp2_with fail
    go_ret
    exact ⟨by rw [HF.out]; rfl, B0.out⟩
  have HH := Lib.hid (fun W => l1In_yes h 1 4 W hh.1 hh.2)
  obtain ⟨q1, q2⟩ : 1 ≤ r * h ∧ r * h ≤ 20 := by
    obtain ⟨a1, a2⟩ := hr
    obtain ⟨b1, b2⟩ := hh
    rcases (by omega : r = 1 ∨ r = 2 ∨ r = 3 ∨ r = 4 ∨ r = 5) with e | e | e | e | e <;> subst e <;> omega
  have HRH := Lib.hid (And.intro hr hh)
  by_cases h7 : n ≤ 7 ∧ (n : Int) ≤ r * h
  case neg =>
    have HF : Hid (goodZ r h P = false) := Lib.hid (goodZ_not fun g => h7 ⟨by have := g.2.2.2.2.1; rw [HN.out] at this; exact this, by have := g.2.2.2.2.2.1; rw [HN.out] at this; exact this⟩)
    have hk : r * h < (n : Int) ∨ 7 < n := by omega
    by_cases h77 : n ≤ 7
    case' pos =>
      have hd7 : ¬ (7 : Int) < (n : Int) := by omega
      have hdt : r * h < (n : Int) := by omega
    case' neg =>
      have hd7 : (7 : Int) < (n : Int) := by omega
    all_goals
      clear hr hh h7 h77 hk
      go_enter Try.func51, Try.ntmps51
      go_wp2_with fail
      refine (HR.out _).mono ?_
      rintro e w1 ⟨rfl, rfl⟩
      go_wp2_with fail
      refine (HH.out _).mono ?_
      rintro e w1 ⟨rfl, rfl⟩
      go_wp2_with fail
      go_ret
      exact ⟨by rw [HF.out]; rfl, B0.out⟩
  obtain ⟨h71, h72⟩ := h7
  have hd7 : ¬ (7 : Int) < (n : Int) := by omega
  have hdt : ¬ r * h < (n : Int) := by omega
  have HQ := Lib.hid (And.intro h71 h72)
  clear h71 h72
  go_enter Try.func51, Try.ntmps51
  go_wp2_with fail
  refine (HR.out _).mono ?_
  rintro e w1 ⟨rfl, rfl⟩
  go_wp2_with fail
  refine (HH.out _).mono ?_
  rintro e w1 ⟨rfl, rfl⟩
  go_wp2_with fail
  go_loopw [3] (fun i wr => ∃ k : Nat, k ≤ n ∧ i = .int .i64 k ∧ Hid (wr = w.alloc (.cells #[.int .i64 r, .int .i64 h, .slice a n cap] 26)) ∧ Hid (∀ (j : Nat) (y : Int), j < k → P[j]? = some y → 1 ≤ y ∧ y ≤ 9)) (fun i _ => n - (intOf i).toNat)
  case atStart => exact ⟨0, Nat.zero_le _, rfl, Lib.hid rfl, Lib.hid fun j y hj => by omega⟩
  case round =>
    obtain ⟨k, hk, rfl, HW, HK⟩ := hrel
    have hw := HW.out
    subst hw
    by_cases hlt : k < n
    · obtain ⟨g, off, rfl, hg, hcc⟩ := HC.out (by have := HN.out; omega)
      obtain ⟨y, hy⟩ := get_at HN.out hlt
      have o1 := (B0.out.cell (p := ⟨g, off + k, none⟩) hg).trans (hcc k y hy)
      clear hcc
      by_cases hr9 : 1 ≤ y ∧ y ≤ 9
      · have HY := Lib.hid (fun W => l1In_yes y 1 9 W hr9.1 hr9.2)
        have HK2 : Hid (∀ (j : Nat) (z : Int), j < k + 1 → P[j]? = some z → 1 ≤ z ∧ z ≤ 9) := Lib.hid fun j z hj hz => by
          by_cases e : j = k
          · subst e; rw [hy] at hz; cases hz; exact hr9
          · exact HK.out j z (by omega) hz
        clear hr9 hy
        go_wp2_with fail
        refine (HY.out _).mono ?_
        rintro e w1 ⟨rfl, rfl⟩
        go_wp2_with fail
        exact ⟨⟨k + 1, by omega, by go_num, Lib.hid trivial, HK2⟩, by simp [intOf]; omega⟩
      · have HY := Lib.hid (fun W => l1In_no y 1 9 W (by omega))
        have HF : Hid (goodZ r h P = false) := Lib.hid (goodZ_at hy hr9)
        clear hr9 hy
        go_wp2_with fail
        refine (HY.out _).mono ?_
        rintro e w1 ⟨rfl, rfl⟩
        go_wp2_with fail
        go_ret
        exact ⟨by rw [HF.out]; rfl, B0.out⟩
    · obtain rfl : k = n := by omega
      have HF : Hid (goodZ r h P = true) := Lib.hid (goodZ_iff.2 ⟨HRH.out.1.1, HRH.out.1.2, HRH.out.2.1, HRH.out.2.2, by rw [HN.out]; exact HQ.out.1, by rw [HN.out]; exact HQ.out.2, fun x hx => by
        obtain ⟨j, hj⟩ := List.getElem?_of_mem hx
        exact HK.out j x (by have := lt_of_get hj; have := HN.out; omega) hj⟩)
      go_wp2_with fail
      go_ret
      exact ⟨by rw [HF.out]; rfl, B0.out⟩
theorem goodZ_spec (v : Value) (r h : Int) (P : List Int) (hn : P.length ≤ 1048576) (w : World) (hv : StR w v r h P) : Calls Try.prog 51 #[v] w (BoolP w (goodZ r h P)) := l10Good_any v r h P hn w hv

set_option maxHeartbeats 1000000 in
theorem specValidZ_any (v : Value) (r h : Int) (P : List Int) (hn : P.length ≤ 1048576) (w : World) (hv : StR w v r h P) : Calls Try.prog 32 #[v] w (BoolP w (goodZ r h P)) := by
  obtain ⟨v0, rfl, hv⟩ := hv
  have B0 := Lib.hid (below_one w (.cells #[.int .i64 r, .int .i64 h, v0] 26))
  have HZ := Lib.hid (goodZ_spec (.agg #[.int .i64 r, .int .i64 h, v0]) r h P hn _ ⟨v0, rfl, hv.below B0.out⟩)
  clear hv
  go_enter Try.func32, Try.ntmps32
  go_wp2_with fail
  refine HZ.out.mono ?_
  rintro e w1 ⟨rfl, hb⟩
  have B1 := Lib.hid (B0.out.trans (hb.mono B0.out.size))
  clear hb
  go_wp2_with fail
  go_ret
  exact ⟨rfl, B1.out⟩

set_option maxHeartbeats 1000000 in
theorem isPort_any (x : Int) (w : World) : Calls Try.prog 54 #[.int .i64 x] w fun e w' => e = .returned (.bool (decide (1 ≤ x ∧ x ≤ 9))) ∧ Below w.heap.size w w' := by
  by_cases h1 : 1 ≤ x
  · by_cases h2 : x ≤ 9
    · rw [show decide (1 ≤ x ∧ x ≤ 9) = true by simp; omega]
      go_enter Try.func54, Try.ntmps54
      go_wp2
      go_ret
      exact ⟨by simp, Below.refl _ _⟩
    · rw [show decide (1 ≤ x ∧ x ≤ 9) = false by simp; omega]
      have h3 : decide (x ≤ 9) = false := by simp; omega
      clear h2
      go_enter Try.func54, Try.ntmps54
      go_wp2
      go_ret
      exact ⟨by simp, Below.refl _ _⟩
  · rw [show decide (1 ≤ x ∧ x ≤ 9) = false by simp; omega]
    have h2 : decide (1 ≤ x) = false := by simp; omega
    clear h1
    go_enter Try.func54, Try.ntmps54
    go_wp2
    go_ret
    exact ⟨by simp, Below.refl _ _⟩
theorem enters_isPort : Enters Try.prog 54 := enters_of Try.func54 (by kernel_rfl) rfl
/-- Whether the port of a place is one. -/
def ptB (P : List Int) (i : Nat) : Bool := decide (1 ≤ P.getD i 0 ∧ P.getD i 0 ≤ 9)

set_option maxRecDepth 100000 in
set_option maxHeartbeats 4000000 in
theorem implValidZ_any (v : Value) (r h : Int) (P : List Int) (hn : P.length ≤ 1048576) (w : World) (hv : StR w v r h P) : Calls Try.prog 18 #[v] w (BoolP w (goodZ r h P)) := by
  obtain ⟨v0, rfl, hv⟩ := hv
  have BA := Box3.new w r h v0 26
  have B0 := Lib.hid (below_one w (.cells #[.int .i64 r, .int .i64 h, v0] 26))
  have HI := Lib.hid (hv.below B0.out)
  obtain ⟨a, cap, rfl, hc⟩ := hv
  obtain ⟨n, hl⟩ : ∃ n, P.length = n := ⟨_, rfl⟩
  have HN := Lib.hid hl
  rw [hl] at hn BA B0 HI ⊢
  obtain ⟨-, c0, c1, c2⟩ := BA
  clear hc hl
  by_cases hr : 1 ≤ r ∧ r ≤ 5 ∧ 1 ≤ h ∧ h ≤ 4
  case neg =>
    have HF : Hid (goodZ r h P = false) := Lib.hid (goodZ_not fun g => hr ⟨g.1, g.2.1, g.2.2.1, g.2.2.2.1⟩)
    by_cases r1 : r < 1
    case' neg =>
      by_cases r2 : 5 < r
      case' neg =>
        by_cases r3 : h < 1
        case' neg =>
          have r4 : 4 < h := by omega
    all_goals
      clear hr
      go_enter Try.func18, Try.ntmps18
      go_wp2_with fail
      go_ret
      exact ⟨by rw [HF.out]; rfl, B0.out⟩
  obtain ⟨hr1, hr2, hh1, hh2⟩ := hr
  obtain ⟨q1, q2⟩ : 1 ≤ r * h ∧ r * h ≤ 20 := by
    rcases (by omega : r = 1 ∨ r = 2 ∨ r = 3 ∨ r = 4 ∨ r = 5) with e | e | e | e | e <;> subst e <;> omega
  have d1 : ¬ r < 1 := by omega
  have d2 : ¬ 5 < r := by omega
  have d3 : ¬ h < 1 := by omega
  have d4 : ¬ 4 < h := by omega
  have HRH := Lib.hid (And.intro (And.intro hr1 hr2) (And.intro hh1 hh2))
  clear hr1 hr2 hh1 hh2
  by_cases h7 : n ≤ 7 ∧ (n : Int) ≤ r * h
  case neg =>
    have HF : Hid (goodZ r h P = false) := Lib.hid (goodZ_not fun g => h7 ⟨by have := g.2.2.2.2.1; rw [HN.out] at this; exact this, by have := g.2.2.2.2.2.1; rw [HN.out] at this; exact this⟩)
    by_cases hm7 : r * h < 7
    case' pos => have hm : r * h < (n : Int) := by omega
    case' neg => have hm : (7 : Int) < (n : Int) := by omega
    all_goals
      clear h7
      go_enter Try.func18, Try.ntmps18
      go_wp2_with fail
      go_ret
      exact ⟨by rw [HF.out]; rfl, B0.out⟩
  have HQ := Lib.hid h7
  clear h7
  have HNW := Lib.hid (areAll_any 54 #[] enters_isPort (.slice a n cap) P (ptB P) (by rw [HN.out]; exact hn) _ HI.out (fun i x W hx hb => by
    have e : P.getD i 0 = x := by simp [List.getD, hx]
    unfold ptB
    rw [e]
    exact isPort_any x W))
  have HG : Hid (goodZ r h P = decide ((numsW (ptB P) n).length = n)) := Lib.hid (by
    refine Bool.eq_iff_iff.2 ?_
    rw [goodZ_iff, decide_eq_true_iff, numsW_all]
    constructor
    · intro g i hi
      have := g.2.2.2.2.2.2 (P.getD i 0) (by rw [List.getD, List.getElem?_eq_getElem (by rw [HN.out]; exact hi)]; exact List.getElem_mem _)
      simpa [ptB] using this
    · intro g
      refine ⟨HRH.out.1.1, HRH.out.1.2, HRH.out.2.1, HRH.out.2.2, by rw [HN.out]; exact HQ.out.1, by rw [HN.out]; exact HQ.out.2, fun x hx => ?_⟩
      obtain ⟨j, hj⟩ := List.getElem?_of_mem hx
      have := g j (by have := lt_of_get hj; have := HN.out; omega)
      have e : P.getD j 0 = x := by simp [List.getD, hj]
      unfold ptB at this
      rw [e] at this
      exact of_decide_eq_true this)
  rw [HN.out] at HNW
  have hml := numsW_len (ptB P) n
  obtain ⟨m, hmm⟩ : ∃ m, (numsW (ptB P) n).length = m := ⟨_, rfl⟩
  rw [hmm] at HNW HG hml
  clear hmm
  have h71 := HQ.out.1
  have h72 := HQ.out.2
  by_cases hm7 : r * h < 7
  case' pos => have hm : ¬ r * h < (n : Int) := by omega
  case' neg => have hm : ¬ (7 : Int) < (n : Int) := by omega
  all_goals
    clear h71 h72
    go_enter Try.func18, Try.ntmps18
    go_wp2_with fail
    refine HNW.out.mono ?_
    rintro e w1 ⟨rfl, hb⟩
    have B1 := Lib.hid (B0.out.trans (hb.mono B0.out.size))
    clear hb
    go_wp2_with fail
    go_ret
    exact ⟨by rw [HG.out]; first | done | rfl, B1.out⟩
end Go.Proofs.Ytpflnjjckeeihaa
