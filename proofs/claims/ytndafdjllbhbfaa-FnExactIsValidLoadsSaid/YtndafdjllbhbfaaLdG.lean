/-
  What the two IsValidLoads return. No statement of the seat by itself.
-/
import Derived.Test.YtndafdjllbhbfaaLdM
import Derived.Test.YtndafdjllbhbfaaZNum
import Derived.Test.YtndafdjllbhbfaaGood
import Derived.Test.YtndafdjllbhbfaaRet
namespace Go.Proofs.Ytndafdjllbhbfaa
open Go.RowKit

theorem okLd_no {p q r : Int} (h : ¬ ((1 ≤ p ∧ p ≤ 32000) ∧ (-200 ≤ q ∧ q ≤ 200) ∧ (0 ≤ r ∧ r ≤ 400))) : okLd (p, q, r) = false := by
  cases e : okLd (p, q, r) with
  | false => rfl
  | true => exact absurd (okLd_iff.1 e) h

set_option maxRecDepth 100000 in
set_option maxHeartbeats 4000000 in
theorem l11Good_any (v : Value) (S : List (Int × Int × Int)) (hn : S.length ≤ 1048576) (w : World) (h : LdL w v S) :
    Calls Try.prog 54 #[v] w (BoolP w (goodLd S)) := by
  obtain ⟨a, c, rfl, hc⟩ := h
  obtain ⟨n, hl⟩ : ∃ n, S.length = n := ⟨_, rfl⟩
  have HN := Lib.hid hl
  rw [hl] at hn ⊢
  have H := Lib.hid hc
  clear hc hl
  go_enter Try.func54, Try.ntmps54
  go_wp2_with fail
  go_loopw [3] (fun i wr => ∃ k : Nat, k ≤ n ∧ i = .int .i64 k ∧ wr = w ∧ Hid (∀ c ∈ S.take k, okLd c = true)) (fun i _ => n - (intOf i).toNat)
  case atStart => exact ⟨0, Nat.zero_le _, rfl, rfl, Lib.hid (by simp)⟩
  case round =>
    obtain ⟨k, hk, rfl, rfl, HK⟩ := hrel
    by_cases hlt : k < n
    · obtain ⟨g, off, rfl, hg, hcc⟩ := H.out (by have := HN.out; omega)
      obtain ⟨s, hs⟩ := get_at HN.out hlt
      obtain ⟨p, q, r⟩ := s
      obtain ⟨a0, a1, a2⟩ := hcc k _ hs
      have HS := Lib.hid hs
      clear hcc hs hg
      simp only at a0 a1 a2
      by_cases hp : 1 ≤ p ∧ p ≤ 32000
      · have HP := Lib.hid (fun W => l1In_yes p 1 32000 W hp.1 hp.2)
        by_cases hq : -200 ≤ q ∧ q ≤ 200
        · have HQ := Lib.hid (fun W => l1In_yes q (-200) 200 W hq.1 hq.2)
          by_cases hr : 0 ≤ r ∧ r ≤ 400
          · have HR := Lib.hid (fun W => l1In_yes r 0 400 W hr.1 hr.2)
            have HK2 : Hid (∀ c ∈ S.take (k + 1), okLd c = true) := Lib.hid fun c hc => by
              rw [List.take_add_one, HS.out] at hc
              rcases List.mem_append.1 hc with h | h
              · exact HK.out c h
              · simp at h; subst h; exact okLd_iff.2 ⟨hp, hq, hr⟩
            clear hp hq hr
            go_wp2_with fail
            refine (HP.out _).mono ?_
            rintro e w1 ⟨rfl, rfl⟩
            go_wp2_with fail
            refine (HQ.out _).mono ?_
            rintro e w1 ⟨rfl, rfl⟩
            go_wp2_with fail
            refine (HR.out _).mono ?_
            rintro e w1 ⟨rfl, rfl⟩
            go_wp2_with fail
            exact ⟨⟨k + 1, by omega, by go_num, (by first | trivial | rfl), HK2⟩, by simp [intOf]; omega⟩
          · have HR := Lib.hid (fun W => l1In_no r 0 400 W (by omega))
            have HF : Hid (goodLd S = false) := Lib.hid (goodLd_at HS.out (okLd_no fun h => hr h.2.2))
            clear hp hq hr
            go_wp2_with fail
            refine (HP.out _).mono ?_
            rintro e w1 ⟨rfl, rfl⟩
            go_wp2_with fail
            refine (HQ.out _).mono ?_
            rintro e w1 ⟨rfl, rfl⟩
            go_wp2_with fail
            refine (HR.out _).mono ?_
            rintro e w1 ⟨rfl, rfl⟩
            go_wp2_with fail
            go_ret
            exact ⟨by rw [HF.out]; rfl, Below.refl _ _⟩
        · have HQ := Lib.hid (fun W => l1In_no q (-200) 200 W (by omega))
          have HF : Hid (goodLd S = false) := Lib.hid (goodLd_at HS.out (okLd_no fun h => hq h.2.1))
          clear hp hq
          go_wp2_with fail
          refine (HP.out _).mono ?_
          rintro e w1 ⟨rfl, rfl⟩
          go_wp2_with fail
          refine (HQ.out _).mono ?_
          rintro e w1 ⟨rfl, rfl⟩
          go_wp2_with fail
          go_ret
          exact ⟨by rw [HF.out]; rfl, Below.refl _ _⟩
      · have HP := Lib.hid (fun W => l1In_no p 1 32000 W (by omega))
        have HF : Hid (goodLd S = false) := Lib.hid (goodLd_at HS.out (okLd_no fun h => hp h.1))
        clear hp
        go_wp2_with fail
        refine (HP.out _).mono ?_
        rintro e w1 ⟨rfl, rfl⟩
        go_wp2_with fail
        go_ret
        exact ⟨by rw [HF.out]; rfl, Below.refl _ _⟩
    · obtain rfl : k = n := by omega
      have HA : Hid (∀ c ∈ S, okLd c = true) := Lib.hid (by have := HK.out; rwa [List.take_of_length_le (by have := HN.out; omega)] at this)
      by_cases h20 : k ≤ 20
      · have HF : Hid (goodLd S = true) := Lib.hid (goodLd_iff.2 ⟨by rw [HN.out]; exact h20, HA.out⟩)
        have h3 : decide ((k : Int) ≤ 20) = true := by simp; omega
        clear h20
        go_wp2_with fail
        go_ret
        exact ⟨by rw [HF.out]; first | rfl | simp_all, Below.refl _ _⟩
      · have HF : Hid (goodLd S = false) := Lib.hid (goodLd_not fun g => h20 (by rw [← HN.out]; exact g.1))
        have h3 : decide ((k : Int) ≤ 20) = false := by simp; omega
        clear h20
        go_wp2_with fail
        go_ret
        exact ⟨by rw [HF.out]; first | rfl | simp_all, Below.refl _ _⟩

set_option maxHeartbeats 1000000 in
theorem specValidLd_any (v : Value) (S : List (Int × Int × Int)) (hn : S.length ≤ 1048576) (w : World) (h : LdL w v S) :
    Calls Try.prog 41 #[v] w (BoolP w (goodLd S)) := by
  have HG := Lib.hid (l11Good_any v S hn w h)
  clear h
  go_enter Try.func41, Try.ntmps41
  go_wp2_with fail
  refine HG.out.mono ?_
  rintro e w1 ⟨rfl, hb⟩
  have HB := Lib.hid hb
  clear hb
  go_wp2_with fail
  go_ret
  exact ⟨rfl, HB.out⟩

theorem isWeight_any (n : Int) (w : World) : Calls Try.prog 80 #[.int .i64 n] w fun e w' => e = .returned (.bool (decide (1 ≤ n ∧ n ≤ 32000))) ∧ w = w' := by
  by_cases h1 : 1 ≤ n
  · by_cases h2 : n ≤ 32000
    · rw [show decide (1 ≤ n ∧ n ≤ 32000) = true by simp; omega]
      go_enter Try.func80, Try.ntmps80
      go_wp2
      go_ret
      exact ⟨by simp, rfl⟩
    · rw [show decide (1 ≤ n ∧ n ≤ 32000) = false by simp; omega]
      have h3 : decide (n ≤ 32000) = false := by simp; omega
      clear h2
      go_enter Try.func80, Try.ntmps80
      go_wp2
      go_ret
      exact ⟨by simp, rfl⟩
  · rw [show decide (1 ≤ n ∧ n ≤ 32000) = false by simp; omega]
    have h2 : decide (1 ≤ n) = false := by simp; omega
    clear h1
    go_enter Try.func80, Try.ntmps80
    go_wp2
    go_ret
    exact ⟨by simp, rfl⟩
theorem isHeight_any (n : Int) (w : World) : Calls Try.prog 62 #[.int .i64 n] w fun e w' => e = .returned (.bool (decide (0 ≤ n ∧ n ≤ 400))) ∧ w = w' := by
  by_cases h1 : 0 ≤ n
  · by_cases h2 : n ≤ 400
    · rw [show decide (0 ≤ n ∧ n ≤ 400) = true by simp; omega]
      go_enter Try.func62, Try.ntmps62
      go_wp2
      go_ret
      exact ⟨by simp, rfl⟩
    · rw [show decide (0 ≤ n ∧ n ≤ 400) = false by simp; omega]
      have h3 : decide (n ≤ 400) = false := by simp; omega
      clear h2
      go_enter Try.func62, Try.ntmps62
      go_wp2
      go_ret
      exact ⟨by simp, rfl⟩
  · rw [show decide (0 ≤ n ∧ n ≤ 400) = false by simp; omega]
    have h2 : decide (0 ≤ n) = false := by simp; omega
    clear h1
    go_enter Try.func62, Try.ntmps62
    go_wp2
    go_ret
    exact ⟨by simp, rfl⟩

set_option maxHeartbeats 4000000 in
theorem isValid_any (p q r : Int) (w : World) : Calls Try.prog 58 #[.agg #[.int .i64 p, .int .i64 q, .int .i64 r]] w fun e w' => e = .returned (.bool (okLd (p, q, r))) ∧ Below w.heap.size w w' := by
  have B0 := Lib.hid (below_one w (.cells #[.int .i64 p, .int .i64 q, .int .i64 r] 50))
  by_cases hp : 1 ≤ p ∧ p ≤ 32000
  · have HP : Hid (∀ W : World, Calls Try.prog 80 #[.int .i64 p] W fun e w' => e = .returned (.bool true) ∧ W = w') := Lib.hid fun W => by rw [← decide_eq_true hp]; exact isWeight_any p W
    by_cases q1 : -200 ≤ q
    · by_cases q2 : q ≤ 200
      · by_cases hr : 0 ≤ r ∧ r ≤ 400
        · have HR : Hid (∀ W : World, Calls Try.prog 62 #[.int .i64 r] W fun e w' => e = .returned (.bool true) ∧ W = w') := Lib.hid fun W => by rw [← decide_eq_true hr]; exact isHeight_any r W
          rw [okLd_iff.2 ⟨hp, ⟨q1, q2⟩, hr⟩]
          clear hp hr
          go_enter Try.func58, Try.ntmps58
          go_wp2_with fail
          refine (HP.out _).mono ?_
          rintro e w1 ⟨rfl, rfl⟩
          go_wp2_with fail
          refine (HR.out _).mono ?_
          rintro e w1 ⟨rfl, rfl⟩
          go_wp2_with fail
          go_ret
          exact ⟨rfl, B0.out⟩
        · have HR : Hid (∀ W : World, Calls Try.prog 62 #[.int .i64 r] W fun e w' => e = .returned (.bool false) ∧ W = w') := Lib.hid fun W => by rw [← decide_eq_false hr]; exact isHeight_any r W
          rw [okLd_no fun h => hr h.2.2]
          clear hp hr
          go_enter Try.func58, Try.ntmps58
          go_wp2_with fail
          refine (HP.out _).mono ?_
          rintro e w1 ⟨rfl, rfl⟩
          go_wp2_with fail
          refine (HR.out _).mono ?_
          rintro e w1 ⟨rfl, rfl⟩
          go_wp2_with fail
          go_ret
          exact ⟨rfl, B0.out⟩
      · rw [okLd_no fun h => q2 h.2.1.2]
        have h3 : decide (q ≤ 200) = false := by simp; omega
        clear hp q2
        go_enter Try.func58, Try.ntmps58
        go_wp2_with fail
        refine (HP.out _).mono ?_
        rintro e w1 ⟨rfl, rfl⟩
        go_wp2_with fail
        go_ret
        exact ⟨by simp, B0.out⟩
    · rw [okLd_no fun h => q1 h.2.1.1]
      have h3 : decide (-200 ≤ q) = false := by simp; omega
      clear hp q1
      go_enter Try.func58, Try.ntmps58
      go_wp2_with fail
      refine (HP.out _).mono ?_
      rintro e w1 ⟨rfl, rfl⟩
      go_wp2_with fail
      go_ret
      exact ⟨by simp, B0.out⟩
  · have HP : Hid (∀ W : World, Calls Try.prog 80 #[.int .i64 p] W fun e w' => e = .returned (.bool false) ∧ W = w') := Lib.hid fun W => by rw [← decide_eq_false hp]; exact isWeight_any p W
    rw [okLd_no fun h => hp h.1]
    clear hp
    go_enter Try.func58, Try.ntmps58
    go_wp2_with fail
    refine (HP.out _).mono ?_
    rintro e w1 ⟨rfl, rfl⟩
    go_wp2_with fail
    go_ret
    exact ⟨rfl, B0.out⟩
theorem enters_isValid : Enters Try.prog 58 := enters_of Try.func58 (by kernel_rfl) rfl

set_option maxRecDepth 100000 in
set_option maxHeartbeats 4000000 in
theorem numsLd_any (F : Nat) (caps : Array Value) (hE : Enters Try.prog F) (v : Value) (l : List (Int × Int × Int)) (p : Nat → Bool) (hl : l.length ≤ 1048576) (w : World) (h : LdL w v l)
    (hF : ∀ (i : Nat) (x y z : Int) (W : World), l[i]? = some (x, y, z) → Below w.heap.size w W → Calls Try.prog F (#[.agg #[.int .i64 x, .int .i64 y, .int .i64 z]] ++ caps) W fun e w' => e = .returned (.bool (p i)) ∧ Below W.heap.size W w') :
    Calls Try.prog 79 #[v, .func (.func F) #[] caps] w (NewI w (numsW p l.length)) := by
  obtain ⟨f3, hi3, hz0, hz1, hz2⟩ := info_is info3
  obtain ⟨n, hn⟩ : ∃ n, l.length = n := ⟨_, rfl⟩
  have HN := Lib.hid hn
  have HF := Lib.hid hF
  obtain ⟨a, c, rfl, hc⟩ := h
  have HC := Lib.hid hc
  rw [hn] at hl ⊢
  clear hc hn hF
  have R0 := Lib.hid (numS_start w)
  go_enter Try.func79, Try.ntmps79
  go_wp2_with fail
  go_loopw [5, 11] (fun s i wr => ∃ k : Nat, k ≤ n ∧ i = .int .i64 k ∧ Hid (NumS w wr s (numsW p k))) (fun _ i _ => n - (intOf i).toNat)
  case atStart => exact ⟨0, Nat.zero_le _, rfl, R0⟩
  case round =>
    obtain ⟨k, hk, rfl, HR⟩ := hrel
    by_cases hlt : k < n
    · obtain ⟨g, off, rfl, hg, hcc⟩ := HC.out (by have := HN.out; omega)
      obtain ⟨s, hs⟩ := get_at HN.out hlt
      obtain ⟨x, y, z⟩ := s
      have o0 : wr.cell? ⟨g, off + k * 3, none⟩ = some (.int .i64 x) := (HR.out.2.1.cell (p := ⟨g, off + k * 3, none⟩) hg).trans (hcc k _ hs).1
      have o1 : wr.cell? ⟨g, off + k * 3 + 1, none⟩ = some (.int .i64 y) := (HR.out.2.1.cell (p := ⟨g, off + k * 3 + 1, none⟩) hg).trans (hcc k _ hs).2.1
      have o2 : wr.cell? ⟨g, off + k * 3 + 2, none⟩ = some (.int .i64 z) := (HR.out.2.1.cell (p := ⟨g, off + k * 3 + 2, none⟩) hg).trans (hcc k _ hs).2.2
      have R0' := HR.out.below (below_one wr (.cells #[.int .i64 x, .int .i64 y, .int .i64 z] 50))
      have HE := Lib.hid (HF.out k x y z _ hs R0'.2.1)
      have HR2 := Lib.hid R0'
      have hbl := numsW_len p k
      clear hcc hs R0'
      go_wp2_with fail
      rw [hE, Oper.upon_enter]
      refine HE.out.mono ?_
      rintro e w1 ⟨rfl, hb⟩
      have R1 := Lib.hid (HR2.out.below hb)
      have hz1 : wr.heap.size < w1.heap.size := by have := hb.size; simp at this; omega
      clear hb o0 o1 o2
      cases hp : p k with
      | true =>
        have HT := Lib.hid (numsW_yes hp)
        have hrow := R1.out.1
        have hz := R1.out.2.1.size
        generalize numsW p k = S at *
        clear hp
        go_wp2_with (at_builtin; refine wpList_append_own _ rfl _ _ 45 rfl w.heap.size 3 f3 (.int .i64 0) 1 8 Try.underlying45 hi3 hz0 ‹_› hz2 rfl (by decide) _ _ _ rfl (hrow.alloc _) ⟨w1.heap.size, 0, none⟩ 1 1 [.int .i64 ((k : Int) + 1)] rfl rfl (cell_one_new _ _ _) (by simp [Value.oneCell']) (by unfold maxLen; omega) (by omega) (by simp; omega) ?_; intro v' w4 hown' hgrow hnil)
        have HN4 : Hid (NumS w w4 v' (numsW p (k + 1))) := Lib.hid (by rw [HT.out]; exact R1.out.push hown' hgrow (fun e => by have := (hnil.1 e).2; omega))
        clear hown' hgrow hnil hrow
        exact ⟨⟨k + 1, by omega, by go_num, HN4⟩, by simp [intOf]; omega⟩
      | false =>
        have HT := Lib.hid (numsW_no hp)
        clear hp
        go_wp2_with fail
        exact ⟨⟨k + 1, by omega, by go_num, Lib.hid (by rw [HT.out]; exact R1.out)⟩, by simp [intOf]; omega⟩
    · obtain rfl : k = n := by omega
      go_wp2_with fail
      go_ret
      exact HR.out.done

set_option maxRecDepth 100000 in
set_option maxHeartbeats 2000000 in
theorem areAllLd_any (F : Nat) (caps : Array Value) (hE : Enters Try.prog F) (v : Value) (l : List (Int × Int × Int)) (p : Nat → Bool) (hl : l.length ≤ 1048576) (w : World) (h : LdL w v l)
    (hF : ∀ (i : Nat) (x y z : Int) (W : World), l[i]? = some (x, y, z) → Below w.heap.size w W → Calls Try.prog F (#[.agg #[.int .i64 x, .int .i64 y, .int .i64 z]] ++ caps) W fun e w' => e = .returned (.bool (p i)) ∧ Below W.heap.size W w') :
    Calls Try.prog 57 #[v, .func (.func F) #[] caps] w (BoolP w (decide ((numsW p l.length).length = l.length))) := by
  have H := Lib.hid (numsLd_any F caps hE v l p hl w h hF)
  obtain ⟨a, c, rfl⟩ := h.form
  clear h hF
  unfold NewI at H
  generalize numsW p l.length = S at *
  generalize l.length = n at *
  go_enter Try.func57, Try.ntmps57
  go_wp2_with fail
  refine H.out.mono ?_
  rintro e w1 ⟨a1, c1, rfl, ho, hb⟩
  have HB := Lib.hid hb
  clear ho hb
  go_wp2_with fail
  go_ret
  exact ⟨by rw [all_beq]; rfl, HB.out⟩

set_option maxHeartbeats 2000000 in
theorem implValidLd_any (v : Value) (S : List (Int × Int × Int)) (hn : S.length ≤ 1048576) (w : World) (h : LdL w v S) :
    Calls Try.prog 20 #[v] w (BoolP w (goodLd S)) := by
  have HV := Lib.hid (areAllLd_any _ #[] enters_isValid v S (okAt S) hn w h fun i x y z W hx _ => by rw [okAt_get hx]; exact isValid_any x y z W)
  obtain ⟨a, c, rfl⟩ := h.form
  clear h
  obtain ⟨n, hl⟩ : ∃ n, S.length = n := ⟨_, rfl⟩
  have HN := Lib.hid hl
  rw [hl] at hn HV ⊢
  clear hl
  by_cases h20 : n ≤ 20
  · have h3 : decide ((n : Int) ≤ 20) = true := by simp; omega
    have HG := Lib.hid (goodLd_nums (S := S) (by rw [HN.out]; exact h20))
    clear h20
    go_enter Try.func20, Try.ntmps20
    go_wp2_with fail
    refine HV.out.mono ?_
    rintro e w1 ⟨rfl, hb⟩
    have HB := Lib.hid hb
    clear hb
    go_wp2_with fail
    go_ret
    exact ⟨by rw [HG.out, HN.out]; first | done | rfl, HB.out⟩
  · have h3 : decide ((n : Int) ≤ 20) = false := by simp; omega
    have HF : Hid (goodLd S = false) := Lib.hid (goodLd_not fun g => h20 (by rw [← HN.out]; exact g.1))
    clear h20
    go_enter Try.func20, Try.ntmps20
    go_wp2_with fail
    go_ret
    exact ⟨by rw [HF.out]; simp, Below.refl _ _⟩
end Go.Proofs.Ytndafdjllbhbfaa
