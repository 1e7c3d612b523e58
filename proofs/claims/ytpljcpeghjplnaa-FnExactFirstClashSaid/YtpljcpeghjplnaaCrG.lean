/-
  Whether work and numbers of cranes are valid, in the program and in the reference. No statement of the seat by itself.
-/
import Derived.Test.YtpljcpeghjplnaaCrM
import Derived.Test.YtpljcpeghjplnaaZNum
import Derived.Test.YtpljcpeghjplnaaRet
namespace Go.Proofs.Ytpljcpeghjplnaa
open Go.RowKit

theorem isWk_any (n : Int) (w : World) : Calls Try.prog 136 #[.int .i64 n] w fun e w' => e = .returned (.bool (okWk n)) ∧ Below w.heap.size w w' := by
  by_cases h1 : 0 ≤ n
  · by_cases h2 : n ≤ 300
    · rw [show okWk n = true by simp [okWk]; omega]
      go_enter Try.func136, Try.ntmps136
      go_wp2
      go_ret
      exact ⟨by simp, Below.refl _ _⟩
    · rw [show okWk n = false by simp [okWk]; omega]
      have h3 : decide (n ≤ 300) = false := by simp; omega
      clear h2
      go_enter Try.func136, Try.ntmps136
      go_wp2
      go_ret
      exact ⟨by simp, Below.refl _ _⟩
  · rw [show okWk n = false by simp [okWk]; omega]
    have h2 : decide (0 ≤ n) = false := by simp; omega
    clear h1
    go_enter Try.func136, Try.ntmps136
    go_wp2
    go_ret
    exact ⟨by simp, Below.refl _ _⟩

theorem enters_isWk : Enters Try.prog 136 := enters_of Try.func136 (by kernel_rfl) rfl
theorem areCr_any (n : Int) (w : World) : Calls Try.prog 105 #[.int .i64 n] w fun e w' => e = .returned (.bool (crB n)) ∧ Below w.heap.size w w' := by
  by_cases h1 : 1 ≤ n
  · by_cases h2 : n ≤ 3
    · rw [show crB n = true by simp [crB]; omega]
      go_enter Try.func105, Try.ntmps105
      go_wp2
      go_ret
      exact ⟨by simp, Below.refl _ _⟩
    · rw [show crB n = false by simp [crB]; omega]
      have h3 : decide (n ≤ 3) = false := by simp; omega
      clear h2
      go_enter Try.func105, Try.ntmps105
      go_wp2
      go_ret
      exact ⟨by simp, Below.refl _ _⟩
  · rw [show crB n = false by simp [crB]; omega]
    have h2 : decide (1 ≤ n) = false := by simp; omega
    clear h1
    go_enter Try.func105, Try.ntmps105
    go_wp2
    go_ret
    exact ⟨by simp, Below.refl _ _⟩


set_option maxRecDepth 100000 in
set_option maxHeartbeats 2000000 in
theorem isWork_any (v : Value) (l : List Int) (hn : l.length ≤ 1048576) (w : World) (h : IL w v l) :
    Calls Try.prog 104 #[v] w (BoolP w (wkB l)) := by
  by_cases h1 : 1 ≤ l.length
  case neg =>
    have hw : wkB l = false := wkB_not fun g => h1 g.1.1
    rw [hw]
    obtain ⟨a, c, rfl⟩ := h.form
    have hd : decide (1 ≤ (l.length : Int)) = false := by simp; omega
    clear h hw
    generalize l.length = n at *
    go_enter Try.func104, Try.ntmps104
    go_wp2_with fail
    go_ret
    exact ⟨rfl, Below.refl _ _⟩
  by_cases h2 : l.length ≤ 10
  case neg =>
    have hw : wkB l = false := wkB_not fun g => h2 g.1.2
    rw [hw]
    obtain ⟨a, c, rfl⟩ := h.form
    have hd : decide (1 ≤ (l.length : Int)) = true := by simp; omega
    have hd2 : decide ((l.length : Int) ≤ 10) = false := by simp; omega
    clear h hw
    generalize l.length = n at *
    go_enter Try.func104, Try.ntmps104
    go_wp2_with fail
    go_ret
    exact ⟨rfl, Below.refl _ _⟩
  have H := Lib.hid (areAll_any _ #[] enters_isWk v l (kAt l) (by omega) w h fun i x W hx _ => by rw [kAt_get hx]; exact isWk_any x W)
  rw [wkB_nums ⟨h1, h2⟩]
  obtain ⟨a, c, rfl⟩ := h.form
  have hd : decide (1 ≤ (l.length : Int)) = true := by simp; omega
  have hd2 : decide ((l.length : Int) ≤ 10) = true := by simp; omega
  clear h
  generalize numsW (kAt l) l.length = S at *
  generalize l.length = n at *
  go_enter Try.func104, Try.ntmps104
  go_wp2_with fail
  refine H.out.mono ?_
  rintro e w1 ⟨rfl, hb⟩
  have HB := Lib.hid hb
  clear hb
  go_wp2_with fail
  go_ret
  exact ⟨rfl, HB.out⟩

set_option maxRecDepth 100000 in
set_option maxHeartbeats 2000000 in
theorem l13Work_any (v : Value) (l : List Int) (hn : l.length ≤ 1048576) (w : World) (h : IL w v l) :
    Calls Try.prog 112 #[v] w (BoolP w (wkB l)) := by
  obtain ⟨a, cap, rfl, hc⟩ := h
  obtain ⟨n, hl⟩ : ∃ n, l.length = n := ⟨_, rfl⟩
  have HN := Lib.hid hl
  have HC := Lib.hid hc
  rw [hl] at hn ⊢
  clear hc hl
  go_enter Try.func112, Try.ntmps112
  go_wp2_with fail
  go_loop [3] (fun i => ∃ k : Nat, k ≤ n ∧ i = .int .i64 k ∧ Hid (∀ (j : Nat) (y : Int), j < k → l[j]? = some y → 0 ≤ y ∧ y ≤ 300)) (fun i => n - (intOf i).toNat)
  case atStart => exact ⟨0, Nat.zero_le _, rfl, Lib.hid fun j y hj => by omega⟩
  case round =>
    obtain ⟨k, hk, rfl, HK⟩ := hrel
    by_cases hlt : k < n
    · obtain ⟨g, off, rfl, hg, hcc⟩ := HC.out (by have := HN.out; omega)
      obtain ⟨y, hy⟩ := get_at HN.out hlt
      have o1 := hcc k y hy
      clear hcc
      by_cases hr : 0 ≤ y ∧ y ≤ 300
      · have HY := Lib.hid (fun W => l1In_yes y 0 300 W hr.1 hr.2)
        have HK2 : Hid (∀ (j : Nat) (z : Int), j < k + 1 → l[j]? = some z → 0 ≤ z ∧ z ≤ 300) := Lib.hid fun j z hj hz => by
          by_cases e : j = k
          · subst e; rw [hy] at hz; cases hz; exact hr
          · exact HK.out j z (by omega) hz
        clear hr hy
        go_wp2_with fail
        refine (HY.out _).mono ?_
        rintro e w1 ⟨rfl, rfl⟩
        go_wp2_with fail
        go_round
        case rel => exact ⟨k + 1, by omega, by go_num, HK2⟩
        case measure => simp [intOf]; omega
      · have HY := Lib.hid (fun W => l1In_no y 0 300 W (by omega))
        have HF : Hid (wkB l = false) := Lib.hid (wkB_at hy hr)
        clear hr hy
        go_wp2_with fail
        refine (HY.out _).mono ?_
        rintro e w1 ⟨rfl, rfl⟩
        go_wp2_with fail
        go_ret
        exact ⟨by rw [HF.out]; rfl, Below.refl _ _⟩
    · obtain rfl : k = n := by omega
      have HM : Hid (∀ x ∈ l, 0 ≤ x ∧ x ≤ 300) := Lib.hid fun x hx => by
        obtain ⟨j, hj⟩ := List.getElem?_of_mem hx
        exact HK.out j x (by have := lt_of_get hj; have := HN.out; omega) hj
      by_cases hr : (1 : Int) ≤ (k : Int) ∧ (k : Int) ≤ 10
      · have HY := Lib.hid (fun W => l1In_yes k 1 10 W hr.1 hr.2)
        have HF : Hid (wkB l = true) := Lib.hid (wkB_iff.2 ⟨by rw [HN.out]; omega, HM.out⟩)
        clear hr
        go_wp2_with fail
        refine (HY.out _).mono ?_
        rintro e w1 ⟨rfl, rfl⟩
        go_wp2_with fail
        go_ret
        exact ⟨by rw [HF.out]; rfl, Below.refl _ _⟩
      · have HY := Lib.hid (fun W => l1In_no k 1 10 W (by omega))
        have HF : Hid (wkB l = false) := Lib.hid (wkB_not fun g => hr (by have := g.1; rw [HN.out] at this; omega))
        clear hr
        go_wp2_with fail
        refine (HY.out _).mono ?_
        rintro e w1 ⟨rfl, rfl⟩
        go_wp2_with fail
        go_ret
        exact ⟨by rw [HF.out]; rfl, Below.refl _ _⟩

set_option maxHeartbeats 2000000 in
theorem l13Asked_any (v : Value) (l : List Int) (c : Int) (hn : l.length ≤ 1048576) (w : World) (h : IL w v l) :
    Calls Try.prog 102 #[v, .int .i64 c] w (BoolP w (askC l c)) := by
  have H := Lib.hid (l13Work_any v l hn w h)
  clear h
  unfold askC
  cases hw : wkB l with
  | false =>
    rw [hw] at H
    clear hw
    go_enter Try.func102, Try.ntmps102
    go_wp2_with fail
    refine H.out.mono ?_
    rintro e w1 ⟨rfl, hb⟩
    have HB := Lib.hid hb
    clear hb
    go_wp2_with fail
    go_ret
    exact ⟨rfl, HB.out⟩
  | true =>
    rw [hw] at H
    clear hw
    by_cases hr : 1 ≤ c ∧ c ≤ 3
    case' pos =>
      have HY := Lib.hid (fun W => l1In_yes c 1 3 W hr.1 hr.2)
      rw [crB_iff.2 hr]
    case' neg =>
      have HY := Lib.hid (fun W => l1In_no c 1 3 W (by omega))
      rw [crB_not hr]
    all_goals
      clear hr
      go_enter Try.func102, Try.ntmps102
      go_wp2_with fail
      refine H.out.mono ?_
      rintro e w1 ⟨rfl, hb⟩
      have HB := Lib.hid hb
      clear hb
      go_wp2_with fail
      refine (HY.out _).mono ?_
      rintro e w1 ⟨rfl, rfl⟩
      go_wp2_with fail
      go_ret
      exact ⟨rfl, HB.out⟩
end Go.Proofs.Ytpljcpeghjplnaa
