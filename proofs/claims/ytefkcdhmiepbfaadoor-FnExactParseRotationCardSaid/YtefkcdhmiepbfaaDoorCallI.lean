/-
  What impl.parseCall returns: the two numbers around the first colon, or none. No statement of the seat by itself.
-/
import Derived.Test.YtefkcdhmiepbfaaDoorCut
import Derived.Test.YtefkcdhmiepbfaaDoorParseI
namespace Go.Proofs.YtefkcdhmiepbfaaDoor
open Go.RowKit

theorem var_below {P : Program} {w w' : World} {name : String} {cs : Array Value} (h : w.var? P name = some cs) (hb : Below w.heap.size w w') : w'.var? P name = some cs := by
  unfold World.var? at *
  cases hg : P.globalNamed name with
  | none => simp [hg] at h
  | some g =>
    rw [hg] at h
    simp only [Option.bind_some] at h ⊢
    have hlt : g < w.heap.size := by
      by_cases hh : g < w.heap.size
      · exact hh
      · rw [Array.getElem?_eq_none (by omega)] at h
        cases h
    rw [hb.block g hlt]
    exact h
/-- The tables and the errors of the library read as the row lists them. -/
def Tabs (w : World) : Prop := Lib.TabIs Tryd.prog w "internal/strconv.uint64pow10" .u64 Lib.pow10Tab ∧ ErrVars w
theorem Tabs.below {w w' : World} (h : Tabs w) (hb : Below w.heap.size w w') : Tabs w' := by
  obtain ⟨h1, ⟨t1, p1, e1⟩, ⟨t2, p2, e2⟩⟩ := h
  exact ⟨Lib.tabBelow_of_tabIs h1 _ hb, ⟨t1, p1, var_below e1 hb⟩, ⟨t2, p2, var_below e2 hb⟩⟩
theorem below_drewQ (w : World) (n : Nat) : Below w.heap.size w (w.drewN n) := ⟨rfl, rfl, rfl, Nat.le_refl _, fun _ _ => rfl⟩

/-- Two numbers, or none. -/
def twoR (a b : Int × Bool) : Int × Int × Bool := if a.2 && b.2 then (a.1, b.1, true) else (0, 0, false)
def CallP (w : World) (x : Int × Int × Bool) (e : Ending) (w' : World) : Prop := e = .returned (.tuple #[.int .i64 x.1, .int .i64 x.2.1, .bool x.2.2]) ∧ Below w.heap.size w w'

set_option maxRecDepth 100000 in
set_option maxHeartbeats 1000000 in
theorem call_walk (s l r : ByteArray) (b : Bool) (hl : l.size ≤ 1048576) (hr : r.size ≤ 1048576) (w : World) (hT : Tabs w)
    (hc : ∀ w, Calls Tryd.prog 57 #[.string s, .string ⟨#[58]⟩] w fun e w' => e = .returned (.tuple #[.string l, .string r, .bool b]) ∧ ∃ k, w' = w.drewN k) :
    Calls Tryd.prog 33 #[.string s] w (CallP w (twoR (readL l.data.toList) (readL r.data.toList))) := by
  have HT := Lib.hid hT
  have HC := Lib.hid hc
  clear hT hc
  obtain ⟨x, hx⟩ : ∃ x, x = readL l.data.toList := ⟨_, rfl⟩
  obtain ⟨y, hy⟩ : ∃ y, y = readL r.data.toList := ⟨_, rfl⟩
  have HL : Hid (∀ w, Tabs w → Calls Tryd.prog 46 #[.string l] w (PairBelow w x)) := Lib.hid fun w h => by rw [hx]; exact implParse_any l hl w h.1 h.2
  have HR : Hid (∀ w, Tabs w → Calls Tryd.prog 46 #[.string r] w (PairBelow w y)) := Lib.hid fun w h => by rw [hy]; exact implParse_any r hr w h.1 h.2
  rw [← hx, ← hy]
  clear hx hy
  obtain ⟨x1, x2⟩ := x
  obtain ⟨y1, y2⟩ := y
  go_enter Tryd.func33, Tryd.ntmps33
  go_wp2_with fail
  refine (HC.out _).mono ?_
  rintro e w1 ⟨rfl, k, rfl⟩
  have T1 := Lib.hid (HT.out.below (below_drewQ w k))
  go_wp2_with fail
  refine (HL.out _ T1.out).mono ?_
  rintro e w2 ⟨rfl, hb2⟩
  have T2 := Lib.hid (T1.out.below hb2)
  have B2 := Lib.hid ((below_drewQ w k).trans (hb2.mono (below_drewQ w k).size))
  clear hb2
  go_wp2_with fail
  refine (HR.out _ T2.out).mono ?_
  rintro e w3 ⟨rfl, hb3⟩
  have B3 := Lib.hid (B2.out.trans (hb3.mono B2.out.size))
  clear hb3
  cases x2 <;> cases y2
  all_goals
    go_wp2_with fail
    go_ret3
    exact ⟨rfl, B3.out⟩
end Go.Proofs.YtefkcdhmiepbfaaDoor
