/-
  What impl.indexOfId and impl.IsValidContainers return. No statement of the seat by itself.
-/
import Derived.Test.YtpmaaflpknjbmaaCListS
import Derived.Test.YtpmaaflpknjbmaaCLaidIdx
import Derived.Deep.RegionHeld3
namespace Go.Proofs.Ytpmaaflpknjbmaa.C
open Go.RowKit

instance : Inhabited Cont := ⟨⟨⟨#[]⟩, 0, 0, 0, 0⟩⟩
/-- A container's five cells. -/
def encC (c : Cont) : List Value := [.string c.id, .int .i64 c.size, .int .i64 c.weight, .int .i64 c.cargo, .int .i64 c.port]

/-- The closure of indexOfId, in whatever later world. -/
theorem pred_any (id : ByteArray) (B : Nat) (w : World) (hB : B < w.heap.size) (hcell : w.cell? ⟨B, 0, none⟩ = some (.string id)) :
    PredBelow Try.prog 55 #[.pointer (some ⟨B, 0, none⟩)] (fun x => .agg (encC x).toArray) (fun x => decide (x.id = id)) w := fun W x hb => by
  have hc : W.cell? ⟨B, 0, none⟩ = some (.string id) := (hb.cell (p := ⟨B, 0, none⟩) hB).trans hcell
  have hBW : B < W.heap.size := Nat.lt_of_lt_of_le hB hb.size
  have hne : B ≠ W.heap.size := by omega
  obtain ⟨xi, sz, wt, cg, pt⟩ := x
  show Calls Try.prog 55 #[.agg #[.string xi, .int .i64 sz, .int .i64 wt, .int .i64 cg, .int .i64 pt], .pointer (some ⟨B, 0, none⟩)] W _
  have HQ := Lib.hid (str_eqB xi id)
  have HB := Lib.hid hb
  clear hb hcell hB
  go_enter Try.func55, Try.ntmps55
  go_wp2_with fail
  go_ret
  exact ⟨by rw [← HQ.out]; rfl, HB.out.alloc HB.out.size _⟩

/-- The list's elements as a list. -/
def rowL (f : Nat → Cont) (n : Nat) : List Cont := (List.range n).map f
theorem rowL_len (f : Nat → Cont) (n : Nat) : (rowL f n).length = n := by simp [rowL]
theorem rowL_at (f : Nat → Cont) (n j : Nat) (h : j < n) : (rowL f n)[j]! = f j := by
  rw [getElem!_pos _ j (by rw [rowL_len]; exact h)]
  simp [rowL]
theorem idx_find (f : Nat → Cont) (n : Nat) (id : ByteArray) : Lib.idxBy (fun _ (y : Cont) => decide (y.id = id)) ((rowL f n).take n) default = findU f id n := by
  rcases findU_cases f id n with h | ⟨k, hk, he, hm⟩
  · rw [findU_miss f id n h, Lib.idxBy_miss (fun _ (y : Cont) => decide (y.id = id)) (rowL f n) n default (fun j hj => by
      show decide (_ = id) = false
      rw [rowL_at f n j hj]
      simpa using h j hj)]
  · rw [findU_hit f id k he hm n hk, Lib.idxBy_hit (fun _ (y : Cont) => decide (y.id = id)) (rowL f n) n k default hk (by rw [rowL_len]; exact Nat.le_refl _) (by
      show decide (_ = id) = true
      rw [rowL_at f n k hk]
      simpa using he) (fun j hj => by
      show decide (_ = id) = false
      rw [rowL_at f n j (by omega)]
      simpa using hm j hj)]

set_option maxHeartbeats 1000000 in
theorem indexOf_any (g n c : Nat) (f : Nat → Cont) (id : ByteArray) (hn : n ≤ 1048576) (w : World) (h : CAt w g 0 n f) :
    Calls Try.prog 44 #[.slice (some ⟨g, 0, none⟩) n c, .string id] w fun e w' => e = .returned (.int .i64 (findU f id n)) ∧ Below w.heap.size w w' := by
  have eg : ∀ args w, (callFunc 55 args).run Try.prog w = .ok (.enter 55 args) w := enters_of Try.func55 (by kernel_rfl) rfl
  have hA := h.below ((Below.refl _ w).alloc (Nat.le_refl _) (.cells #[.string id] 9))
  have hcon := AnyQ.slices_IndexFunc Try.laysIdx 5 Try.isAgg49 Try.sizeOf49 encC (fun _ => rfl) (fun x => decide (x.id = id)) 55 #[.pointer (some ⟨w.heap.size, 0, none⟩)] eg g 0 n c (rowL f n) (w.alloc (.cells #[.string id] 9))
    (pred_any id w.heap.size _ (by simp) (by simp)) (by rw [rowL_len]; exact Nat.le_refl _) (by omega) hA.1 (fun j hj i v hi => by
      rw [rowL_len] at hj
      rw [rowL_at f n j hj] at hi
      obtain ⟨a0, a1, a2, a3, a4⟩ := hA.2 j hj
      generalize f j = y at *
      match i, hi with
      | 0, hi => simp [encC] at hi; rw [← hi]; exact a0
      | 1, hi => simp [encC] at hi; rw [← hi]; exact a1
      | 2, hi => simp [encC] at hi; rw [← hi]; exact a2
      | 3, hi => simp [encC] at hi; rw [← hi]; exact a3
      | 4, hi => simp [encC] at hi; rw [← hi]; exact a4
      | i + 5, hi => simp [encC] at hi)
  rw [idx_find] at hcon
  change Calls Try.prog 54 _ _ _ at hcon
  have HC := Lib.hid hcon
  clear h hA hcon eg
  generalize findU f id n = r at *
  go_enter Try.func44, Try.ntmps44
  go_wp2_with fail
  refine HC.out.mono ?_
  rintro e w1 ⟨rfl, hb⟩
  have B1 : Hid (Below w.heap.size w w1) := Lib.hid (((Below.refl _ w).alloc (Nat.le_refl _) _).trans (hb.mono (by simp)))
  clear hb
  go_wp2_with fail
  go_ret
  exact ⟨rfl, B1.out⟩
end Go.Proofs.Ytpmaaflpknjbmaa.C
