/-
  What impl.KeepsYardRules answers. No statement of the seat by itself.
-/
import Derived.Test.YtonploneihnekaaFndI
import Derived.Test.YtonploneihnekaaFndG
namespace Go.Proofs.Ytonploneihnekaa
open Go.RowKit

set_option maxRecDepth 100000 in
set_option maxHeartbeats 4000000 in
theorem implKeep_any (v : Value) (Y : List (List Int)) (g n : Nat) (f : Nat → C.Cont) (p : Int) (h1 : Y.length ≤ 1048576) (h2 : tot Y ≤ 1048576) (hn : n ≤ 1048576) (hid : ∀ j, j < n → (f j).id.size ≤ 1048576) (w : World) (h : YdR w v Y) (hc : C.CAt w g 0 n f) :
    Calls Try.prog 23 #[v, .slice (some ⟨g, 0, none⟩) n n, .int .i64 p] w (RetP w (.tuple #[.bool (askF n f Y p && decide (((finR n f Y p).length : Int) = 0)), .bool (askF n f Y p)])) := by
  obtain ⟨v0, rfl, hv⟩ := h
  have HA : Hid (∀ W, Below w.heap.size w W → Calls Try.prog 14 #[.agg #[v0], .slice (some ⟨g, 0, none⟩) n n, .int .i64 p] W (RetF W (finR n f Y p) (askF n f Y p))) := Lib.hid fun W hb => implFnd_any _ Y g n f p h1 h2 hn hid W ⟨_, rfl, hv.below hb⟩ (hc.below hb)
  have BA := Lib.hid (Box1.new w v0 31)
  have B0 := Lib.hid (below_one w (.cells #[v0] 31))
  clear hv hc hid h1 h2
  generalize askF n f Y p = q at *
  generalize finR n f Y p = R at *
  go_enter Try.func23, Try.ntmps23
  go_wp2_with fail
  generalize w.alloc (.cells #[v0] 31) = w0 at *
  refine (HA.out _ B0.out).mono ?_
  rintro e w1 ⟨a3, c3, rfl, -, hb⟩
  have B1 := Lib.hid (B0.out.trans (hb.mono B0.out.size))
  clear hb HA BA
  generalize R.length = m at *
  cases q with
  | false =>
    go_wp2_with fail
    go_ret2
    exact ⟨rfl, B1.out⟩
  | true =>
    by_cases h0 : m = 0
    · subst h0
      go_wp2_with fail
      go_ret2
      exact ⟨rfl, B1.out⟩
    · have hd : ((m : Int) == 0) = false := by simp [h0]
      have HK := Lib.hid (show (true && decide ((m : Int) = 0)) = false by simp [h0])
      clear h0
      go_wp2_with fail
      go_ret2
      exact ⟨by rw [HK.out]; rfl, B1.out⟩
end Go.Proofs.Ytonploneihnekaa
