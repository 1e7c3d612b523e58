/-
  What impl.lowestOther returns. No statement of the seat by itself.
-/
import Derived.Test.YtmkejgbbgknalaaSimM
namespace Go.Proofs.Ytmkejgbbgknalaa
open Go.RowKit

def lowV : Option Nat → Int
  | none => -1
  | some j => (j : Int)

set_option maxRecDepth 100000 in
set_option maxHeartbeats 4000000 in
theorem lowest_any (v : Value) (Y : List (List Int)) (f : Nat) (hg : goodY Y = true) (w : World) (h : YdR w v Y) :
    Calls Try.prog 79 #[v, .int .i64 (f : Int)] w (RetP w (.int .i64 (lowV (lowF Y f Y.length)))) := by
  obtain ⟨v0, rfl, a, cap, rfl, hc⟩ := h
  have hr4 := (goodY_iff.1 hg).2.2.1
  have hsm := good_small hg
  obtain ⟨n, hn⟩ : ∃ n, Y.length = n := ⟨_, rfl⟩
  have HN := Lib.hid hn
  have HC := Lib.hid hc
  have HR4 := Lib.hid hr4
  have hn6 : n ≤ 6 := by omega
  rw [hn]
  have BA := Lib.hid (Box1.new w (.slice a n cap) 28)
  have B0 := Lib.hid (below_one w (.cells #[.slice a n cap] 28))
  have c0 := BA.out.2
  clear hc hr4 hsm hn hg
  go_enter Try.func79, Try.ntmps79
  go_wp2_with fail
  generalize w.alloc (.cells #[.slice a n cap] 28) = W at *
  go_loop [5, 6, 7, 11] (fun lo _ _ i => ∃ k : Nat, k ≤ n ∧ i = .int .i64 k ∧ lo = .int .i64 (lowV (lowF Y f k))) (fun _ _ _ i => n - (intOf i).toNat)
  case atStart => exact ⟨0, Nat.zero_le _, rfl, rfl⟩
  case round =>
    obtain ⟨k, hk, rfl, rfl⟩ := hrel
    by_cases hlt : k < n
    · obtain ⟨l, hl⟩ := get_at HN.out hlt
      obtain ⟨g, off, rfl, hg0, hcc⟩ := HC.out (by have := HN.out; omega)
      obtain ⟨u, hu', hil⟩ := hcc k l hl
      have hu := (B0.out.cell (p := ⟨g, off + k, none⟩) hg0).trans hu'
      obtain ⟨a2, c2, rfl⟩ := hil.form
      have hm4 : l.length ≤ 4 := HR4.out l (List.mem_of_getElem? hl)
      have HL := Lib.hid (getD_of hl)
      obtain ⟨m, hm⟩ : ∃ m, l.length = m := ⟨_, rfl⟩
      have HM := Lib.hid hm
      rw [hm] at hu hm4
      have hkI : (k : Int) < (n : Int) := by omega
      have HStep : Hid (lowF Y f (k + 1) = if k ≠ f ∧ (∀ j, lowF Y f k = some j → (Y.getD k []).length < (Y.getD j []).length) then some k else lowF Y f k) := Lib.hid rfl
      by_cases hkf : k = f
      · have hkb : ((k : Int) != (f : Int)) = false := by simp [hkf]
        have hkb2 : ((k : Int) == (f : Int)) = true := by simp [hkf]
        have HS : Hid (lowF Y f (k + 1) = lowF Y f k) := Lib.hid (by rw [HStep.out, if_neg fun h => h.1 hkf])
        clear hcc hil hl hm hu' hkf
        go_wp2_with fail
        go_round
        case rel => exact ⟨k + 1, by omega, by go_num, by rw [HS.out]⟩
        case measure => simp [intOf]; omega
      · have hkb : ((k : Int) != (f : Int)) = true := by simp; omega
        have hkb2 : ((k : Int) == (f : Int)) = false := by simp; omega
        cases hlo : lowF Y f k with
        | none =>
          have HS : Hid (lowF Y f (k + 1) = some k) := Lib.hid (by rw [HStep.out, if_pos ⟨hkf, fun j hj => by rw [hlo] at hj; cases hj⟩])
          have hv : lowV none = -1 := rfl
          rw [hv]
          clear hcc hil hl hm hu' hkf hv
          go_wp2_with fail
          go_round
          case rel => exact ⟨k + 1, by omega, by go_num, by rw [HS.out]; rfl⟩
          case measure => simp [intOf]; omega
        | some j =>
          have hj := lowF_lt hlo
          obtain ⟨lj, hlj⟩ := get_at HN.out (show j < n by omega)
          obtain ⟨uj, huj', hilj⟩ := hcc j lj hlj
          have huj := (B0.out.cell (p := ⟨g, off + j, none⟩) hg0).trans huj'
          obtain ⟨a3, c3, rfl⟩ := hilj.form
          have hmj4 : lj.length ≤ 4 := HR4.out lj (List.mem_of_getElem? hlj)
          obtain ⟨mj, hmj⟩ : ∃ mj, lj.length = mj := ⟨_, rfl⟩
          rw [hmj] at huj hmj4
          have hjI : (j : Int) < (n : Int) := by omega
          have hj0 : ¬ (j : Int) < 0 := by omega
          have hv : lowV (some j) = (j : Int) := rfl
          rw [hv]
          have hcond : (∀ q, lowF Y f k = some q → (Y.getD k []).length < (Y.getD q []).length) ↔ m < mj := by
            rw [hlo]
            constructor
            · intro h
              have := h j rfl
              rw [HL.out, getD_of hlj, hm, hmj] at this
              exact this
            · intro h q hq
              cases hq
              rw [HL.out, getD_of hlj, hm, hmj]
              exact h
          by_cases hlt2 : m < mj
          · have HS : Hid (lowF Y f (k + 1) = some k) := Lib.hid (by rw [HStep.out, if_pos ⟨hkf, hcond.2 hlt2⟩])
            have hltI : (m : Int) < (mj : Int) := by omega
            clear hcc hil hl hm hu' hkf hv hcond hilj hlj hmj huj' hj
            go_wp2_with fail
            go_round
            case rel => exact ⟨k + 1, by omega, by go_num, by rw [HS.out]; rfl⟩
            case measure => simp [intOf]; omega
          · have HS : Hid (lowF Y f (k + 1) = some j) := Lib.hid (by rw [HStep.out, if_neg fun h => hlt2 (hcond.1 h.2), hlo])
            have hltI : ¬ (m : Int) < (mj : Int) := by omega
            clear hcc hil hl hm hu' hkf hv hcond hilj hlj hmj huj' hj
            go_wp2_with fail
            go_round
            case rel => exact ⟨k + 1, by omega, by go_num, by rw [HS.out]; rfl⟩
            case measure => simp [intOf]; omega
    · obtain rfl : k = n := by omega
      go_wp2_with fail
      go_ret
      exact ⟨rfl, B0.out⟩
end Go.Proofs.Ytmkejgbbgknalaa
