/-
  What spec.BestPlacement returns. No statement of the seat by itself.
-/
import Derived.Test.YtfbeoficgkkamaaBstS
import Derived.Test.YtfbeoficgkkamaaClone
namespace Go.Proofs.Ytfbeoficgkkamaa
open Go.RowKit

theorem bp_none {Y : List (List Int)} {O : List Int} (h : bpO Y O = none) : bpR Y O = [] ∧ bpX Y O = 0 ∧ bpB Y O = false := by simp [bpR, bpX, bpB, h, bstP]
theorem bp_some {Y : List (List Int)} {O p : List Int} {c : Nat} (h : bpO Y O = some (p, c)) : bpR Y O = p ∧ bpX Y O = (c : Int) ∧ bpB Y O = true := by simp [bpR, bpX, bpB, h, bstP]
theorem bp_ask {Y : List (List Int)} {O : List Int} (h : askP Y O = false) : bpO Y O = none := by simp [bpO, h]
theorem bp_is {Y : List (List Int)} {O : List Int} (h : askP Y O = true) : bpO Y O = bst 4 O Y := by simp [bpO, h]

set_option maxRecDepth 100000 in
set_option maxHeartbeats 8000000 in
theorem specBp_any (v vo : Value) (Y : List (List Int)) (O : List Int) (h1 : Y.length ≤ 1048576) (h2 : tot Y ≤ 1048576) (h3 : O.length ≤ 1048576) (w : World) (h : YdR w v Y) (ho : OwnI w vo O) :
    Calls Try.prog 51 #[v, vo] w (SeenLX w (bpR Y O) (bpX Y O) (bpB Y O)) := by
  obtain ⟨v0, rfl, hv⟩ := h
  obtain ⟨a, c, rfl, hc⟩ := ho.form
  have BA := Lib.hid (Box1.new w v0 67)
  have B0 := Lib.hid (below_one w (.cells #[v0] 67))
  have c0 := BA.out.2
  have HG := Lib.hid (l8Asked_any (.agg #[v0]) (.slice a O.length c) Y O h1 h2 h3 _ ⟨v0, rfl, hv.below B0.out⟩ (ho.below B0.out))
  have HV := Lib.hid hv
  have HO := Lib.hid ho.read
  clear hv ho
  cases ha : askP Y O with
  | false =>
    have HQ := Lib.hid (bp_none (bp_ask ha))
    rw [ha] at HG
    clear ha
    go_enter Try.func51, Try.ntmps51
    go_wp2_with fail
    refine HG.out.mono ?_
    rintro e w1 ⟨rfl, hb⟩
    have B1 := Lib.hid (B0.out.trans (hb.mono B0.out.size))
    clear hb c0
    go_wp2_with fail
    go_ret3
    rw [HQ.out.1, HQ.out.2.1, HQ.out.2.2]
    exact ⟨_, _, rfl, IL.nil _ _ _, B1.out.alloc B1.out.size _⟩
  | true =>
    have h5 := (askP_iff.1 ha).2.1
    have HBs : Hid (∀ W u, Below w.heap.size w W → IL W u [] → Calls Try.prog 85 #[.agg #[v0], .slice a O.length c, u] W (BstA W [] (bst 4 O Y))) := Lib.hid fun W u hb hu => l8Best_any O (.agg #[v0]) _ u Y O [] ha rfl h5 (Nat.zero_le _) W ⟨v0, rfl, HV.out.below hb⟩ (HO.out.below hb) hu
    have HX := Lib.hid (bp_is ha)
    rw [ha] at HG
    clear ha h5
    go_enter Try.func51, Try.ntmps51
    go_wp2_with fail
    refine HG.out.mono ?_
    rintro e w1 ⟨rfl, hb⟩
    have B1 := Lib.hid (B0.out.trans (hb.mono B0.out.size))
    have A1 := Lib.hid (BA.out.below hb)
    have c1 := A1.out.2
    have c1b := fun o => (World.cell?_alloc_lt w1 o ⟨w.heap.size, 0, none⟩ A1.out.1).trans c1
    have B2 := Lib.hid (B1.out.alloc B1.out.size (.cells #[] 3))
    clear hb c0
    go_wp2_with fail
    refine (HBs.out _ _ B2.out (IL.nil _ _ _)).mono ?_
    rintro e w2 ⟨u, rfl, hu, hb⟩
    have B3 := Lib.hid (B2.out.trans (hb.mono B2.out.size))
    have HU := Lib.hid hu
    clear hb hu c1 c1b
    cases hr : bst 4 O Y with
    | none =>
      have HQ := Lib.hid (bp_none (HX.out.trans hr))
      rw [show bstC none = -1 from rfl]
      have hneg : ((-1 : Int) < 0) := by decide
      clear hr
      go_wp2_with fail
      go_ret3
      rw [HQ.out.1, HQ.out.2.1, HQ.out.2.2]
      exact ⟨_, _, rfl, IL.nil _ _ _, B3.out.alloc B3.out.size _⟩
    | some pc =>
      obtain ⟨p, n⟩ := pc
      have HQ := Lib.hid (bp_some (HX.out.trans hr))
      rw [hr] at HU
      rw [show bstC (some (p, n)) = (n : Int) from rfl]
      have hneg : ¬ ((n : Int) < 0) := by omega
      have HU2 : Hid (IL w2 u p) := Lib.hid (by have := HU.out; simpa [bstP] using this)
      obtain ⟨a9, c9, rfl⟩ := HU2.out.form
      clear hr
      go_wp2_with fail
      go_ret3
      rw [HQ.out.1, HQ.out.2.1, HQ.out.2.2]
      exact ⟨_, _, rfl, HU2.out, B3.out⟩
end Go.Proofs.Ytfbeoficgkkamaa
