/-
  What spec.YardFindings and spec.KeepsYardRules answer. No statement of the seat by itself.
-/
import Derived.Test.YtonploneihnekaaFndF
namespace Go.Proofs.Ytonploneihnekaa
open Go.RowKit

theorem yard_form {w : World} {v : Value} {Y : List (List Int)} (h : YdR w v Y) : ∃ a c, v = .agg #[.slice a Y.length c] := by
  obtain ⟨v0, rfl, a, c, rfl, _⟩ := h
  exact ⟨a, c, rfl⟩

set_option maxRecDepth 100000 in
set_option maxHeartbeats 4000000 in
theorem specFnd_any (v : Value) (Y : List (List Int)) (g n : Nat) (f : Nat → C.Cont) (p : Int) (h1 : Y.length ≤ 1048576) (h2 : tot Y ≤ 1048576) (hn : n ≤ 1048576) (hid : ∀ j, j < n → (f j).id.size ≤ 1048576) (w : World) (h : YdR w v Y) (hc : C.CAt w g 0 n f) :
    Calls Try.prog 11 #[v, .slice (some ⟨g, 0, none⟩) n n, .int .i64 p] w (SeenF w (finR n f Y p) (askF n f Y p)) := by
  obtain ⟨v0, rfl, hv⟩ := h
  have HA : Hid (∀ W, Below w.heap.size w W → Calls Try.prog 40 #[.agg #[v0], .slice (some ⟨g, 0, none⟩) n n, .int .i64 p] W (BoolP W (askF n f Y p))) := Lib.hid fun W hb => l7Asked_any _ Y g n f p h1 h2 hn hid W ⟨_, rfl, hv.below hb⟩ (hc.below hb)
  have HF : Hid (askF n f Y p = true → ∀ W, Below w.heap.size w W → Calls Try.prog 41 #[.agg #[v0], .slice (some ⟨g, 0, none⟩) n n, .int .i64 p] W (AtP W (finY f p Y))) := Lib.hid fun ha W hb => l7Find_any _ Y g n f p (askF_iff.1 ha).1 h1 h2 hn W ⟨_, rfl, hv.below hb⟩ (hc.below hb)
  have HY : Hid (askF n f Y p = true → finR n f Y p = finY f p Y) := Lib.hid finR_yes
  have HN : Hid (askF n f Y p = false → finR n f Y p = []) := Lib.hid finR_no
  have BA := Lib.hid (Box1.new w v0 31)
  have B0 := Lib.hid (below_one w (.cells #[v0] 31))
  clear hv hc hid h1 h2
  generalize askF n f Y p = q at *
  generalize finR n f Y p = R at *
  generalize finY f p Y = S at *
  go_enter Try.func11, Try.ntmps11
  go_wp2_with fail
  generalize w.alloc (.cells #[v0] 31) = w0 at *
  refine (HA.out _ B0.out).mono ?_
  rintro e w1 ⟨rfl, hb⟩
  have c0 := (BA.out.below hb).2
  have B1 := Lib.hid (B0.out.trans (hb.mono B0.out.size))
  clear hb
  cases q with
  | false =>
    have HS : Hid (SeenF w R false (.returned (.tuple #[.slice (some ⟨w1.heap.size, 0, none⟩) 0 0, .bool false])) (w1.alloc (.cells #[] 70))) := Lib.hid (by
      rw [HN.out rfl]
      exact ⟨_, 0, rfl, FL.nil _ _ _, B1.out.alloc B1.out.size _⟩)
    go_wp2_with fail
    go_ret2
    exact HS.out
  | true =>
    have HF2 := Lib.hid (HF.out rfl)
    have hRS := HY.out rfl
    subst hRS
    clear HF HY HN
    go_wp2_with fail
    refine (HF2.out _ B1.out).mono ?_
    rintro e w2 ⟨g3, c3, rfl, hfl, -, hb⟩
    have HS : Hid (SeenF w R true (.returned (.tuple #[.slice (some ⟨g3, 0, none⟩) R.length c3, .bool true])) w2) := Lib.hid ⟨_, c3, rfl, hfl, B1.out.trans (hb.mono B1.out.size)⟩
    clear hb hfl
    go_wp2_with fail
    go_ret2
    exact HS.out

set_option maxRecDepth 100000 in
set_option maxHeartbeats 4000000 in
theorem specKeep_any (v : Value) (Y : List (List Int)) (g n : Nat) (f : Nat → C.Cont) (p : Int) (h1 : Y.length ≤ 1048576) (h2 : tot Y ≤ 1048576) (hn : n ≤ 1048576) (hid : ∀ j, j < n → (f j).id.size ≤ 1048576) (w : World) (h : YdR w v Y) (hc : C.CAt w g 0 n f) :
    Calls Try.prog 22 #[v, .slice (some ⟨g, 0, none⟩) n n, .int .i64 p] w (RetP w (.tuple #[.bool (askF n f Y p && decide (((finR n f Y p).length : Int) = 0)), .bool (askF n f Y p)])) := by
  obtain ⟨v0, rfl, hv⟩ := h
  have HA : Hid (∀ W, Below w.heap.size w W → Calls Try.prog 40 #[.agg #[v0], .slice (some ⟨g, 0, none⟩) n n, .int .i64 p] W (BoolP W (askF n f Y p))) := Lib.hid fun W hb => l7Asked_any _ Y g n f p h1 h2 hn hid W ⟨_, rfl, hv.below hb⟩ (hc.below hb)
  have HF : Hid (askF n f Y p = true → ∀ W, Below w.heap.size w W → Calls Try.prog 41 #[.agg #[v0], .slice (some ⟨g, 0, none⟩) n n, .int .i64 p] W (AtP W (finY f p Y))) := Lib.hid fun ha W hb => l7Find_any _ Y g n f p (askF_iff.1 ha).1 h1 h2 hn W ⟨_, rfl, hv.below hb⟩ (hc.below hb)
  have HY : Hid (askF n f Y p = true → finR n f Y p = finY f p Y) := Lib.hid finR_yes
  have BA := Lib.hid (Box1.new w v0 31)
  have B0 := Lib.hid (below_one w (.cells #[v0] 31))
  clear hv hc hid h1 h2
  generalize askF n f Y p = q at *
  generalize finR n f Y p = R at *
  generalize finY f p Y = S at *
  obtain ⟨kb, hkb⟩ : ∃ kb, (q && decide ((R.length : Int) = 0)) = kb := ⟨_, rfl⟩
  have HK := Lib.hid hkb
  rw [hkb]
  clear hkb
  go_enter Try.func22, Try.ntmps22
  go_wp2_with fail
  generalize w.alloc (.cells #[v0] 31) = w0 at *
  refine (HA.out _ B0.out).mono ?_
  rintro e w1 ⟨rfl, hb⟩
  have c0 := (BA.out.below hb).2
  have B1 := Lib.hid (B0.out.trans (hb.mono B0.out.size))
  clear hb
  cases q with
  | false =>
    obtain rfl : false = kb := HK.out
    go_wp2_with fail
    go_ret2
    exact ⟨rfl, B1.out⟩
  | true =>
    have HF2 := Lib.hid (HF.out rfl)
    have hRS := HY.out rfl
    subst hRS
    clear HF HY
    go_wp2_with fail
    refine (HF2.out _ B1.out).mono ?_
    rintro e w2 ⟨g3, c3, rfl, hfl, -, hb⟩
    have B2 := Lib.hid (B1.out.trans (hb.mono B1.out.size))
    obtain ⟨m, hm⟩ : ∃ m, R.length = m := ⟨_, rfl⟩
    rw [hm] at HK ⊢
    clear hb hfl hm
    by_cases h0 : m = 0
    · subst h0
      obtain rfl : true = kb := by rw [← HK.out]; rfl
      go_wp2_with fail
      go_ret2
      exact ⟨rfl, B2.out⟩
    · obtain rfl : false = kb := by rw [← HK.out]; simp [h0]
      have hd : ((m : Int) == 0) = false := by simp [h0]
      clear h0
      go_wp2_with fail
      go_ret2
      exact ⟨rfl, B2.out⟩
end Go.Proofs.Ytonploneihnekaa
