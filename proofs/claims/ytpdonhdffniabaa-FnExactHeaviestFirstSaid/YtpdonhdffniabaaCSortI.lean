/-
  What impl.HeaviestFirst returns. No statement of the seat by itself.
-/
import Derived.Test.YtpdonhdffniabaaCFor
import Derived.Test.YtpdonhdffniabaaCOrder
import Derived.Test.YtpdonhdffniabaaCLaidSort
namespace Go.Proofs.Ytpdonhdffniabaa.C
open Go.RowKit Go.Sort

theorem lessI_any (a b : ByteArray) (w : World) : Calls Try.prog 59 #[.string a, .string b] w fun e w' => e = .returned (.bool (Op.bytesLess a.toList b.toList)) ∧ w = w' := by
  go_enter Try.func59, Try.ntmps59
  go_wp2_with fail
  go_ret
  exact ⟨rfl, rfl⟩
theorem lessI_is (a b : ByteArray) (p : Bool) (h : Op.bytesLess a.toList b.toList = p) (w : World) : Calls Try.prog 59 #[.string a, .string b] w fun e w' => e = .returned (.bool p) ∧ w = w' := by
  subst h; exact lessI_any a b w

/-- A number was answered; draws and new blocks alone. -/
def GrowI (w : World) (r : Int) (e : Ending) (w' : World) : Prop := e = .returned (.int .i64 r) ∧ ∃ q os, w' = grow (w.drewN q) os
theorem two_allocs (w : World) (o1 o2 : Obj) : ∃ q os, (w.alloc o1).alloc o2 = grow (w.drewN q) os := ⟨0, #[o1] ++ #[o2], by rw [alloc_eq_grow, alloc_eq_grow, grow_grow]; rfl⟩

set_option maxHeartbeats 1000000 in
theorem compare_any (a b : Cont) (ha : 1 ≤ a.weight ∧ a.weight ≤ 32000) (hb : 1 ≤ b.weight ∧ b.weight ≤ 32000) (w : World) :
    Calls Try.prog 52 #[.agg (contV a), .agg (contV b)] w (GrowI w (cmpH a b)) := by
  have HR : Hid (cmpH a b = if a.weight ≠ b.weight then b.weight - a.weight else if Op.bytesLess a.id.toList b.id.toList = true then -1 else if Op.bytesLess b.id.toList a.id.toList = true then 1 else 0) := Lib.hid rfl
  generalize cmpH a b = r at *
  obtain ⟨i1, s1, t1, c1, p1⟩ := a
  obtain ⟨i2, s2, t2, c2, p2⟩ := b
  simp only [contV] at *
  obtain ⟨x, hx⟩ : ∃ x, Op.bytesLess i1.toList i2.toList = x := ⟨_, rfl⟩
  obtain ⟨y, hy⟩ : ∃ y, Op.bytesLess i2.toList i1.toList = y := ⟨_, rfl⟩
  have KX := Lib.hid hx
  have KY := Lib.hid hy
  clear hx hy
  by_cases e : t1 = t2
  · have hne : (t1 != t2) = false := by simp [e]
    have HR2 : Hid (r = if x = true then -1 else if y = true then 1 else 0) := Lib.hid (by rw [HR.out, if_neg (by simp [e]), KX.out, KY.out])
    clear HR
    clear e
    cases x
    · cases y
      · have HV : Hid (r = 0) := Lib.hid (by rw [HR2.out]; rfl)
        go_enter Try.func52, Try.ntmps52
        go_wp2_with (first | (go_at_call 59; with_reducible refine (lessI_is i1 i2 _ KX.out _).mono ?_; rintro e w' ⟨rfl, rfl⟩) | (go_at_call 59; with_reducible refine (lessI_is i2 i1 _ KY.out _).mono ?_; rintro e w' ⟨rfl, rfl⟩))
        go_ret
        exact ⟨by rw [HV.out]; rfl, two_allocs _ _ _⟩
      · have HV : Hid (r = 1) := Lib.hid (by rw [HR2.out]; rfl)
        go_enter Try.func52, Try.ntmps52
        go_wp2_with (first | (go_at_call 59; with_reducible refine (lessI_is i1 i2 _ KX.out _).mono ?_; rintro e w' ⟨rfl, rfl⟩) | (go_at_call 59; with_reducible refine (lessI_is i2 i1 _ KY.out _).mono ?_; rintro e w' ⟨rfl, rfl⟩))
        go_ret
        exact ⟨by rw [HV.out]; rfl, two_allocs _ _ _⟩
    · have HV : Hid (r = -1) := Lib.hid (by rw [HR2.out]; rfl)
      go_enter Try.func52, Try.ntmps52
      go_wp2_with (first | (go_at_call 59; with_reducible refine (lessI_is i1 i2 _ KX.out _).mono ?_; rintro e w' ⟨rfl, rfl⟩) | (go_at_call 59; with_reducible refine (lessI_is i2 i1 _ KY.out _).mono ?_; rintro e w' ⟨rfl, rfl⟩))
      go_ret
      exact ⟨by rw [HV.out]; rfl, two_allocs _ _ _⟩
  · have hne : (t1 != t2) = true := by simp [e]
    have HV : Hid (r = t2 - t1) := Lib.hid (by rw [HR.out, if_pos e])
    clear HR e
    go_enter Try.func52, Try.ntmps52
    go_wp2_with fail
    go_ret
    exact ⟨by rw [HV.out]; rfl, two_allocs _ _ _⟩

set_option maxRecDepth 100000 in
set_option maxHeartbeats 1000000 in
/-- The closure of HeaviestFirst, in a world that holds the list and its box. -/
theorem closure_any (g n c B i k : Nat) (f : Nat → Cont) (hw : ∀ j, j < n → 1 ≤ (f j).weight ∧ (f j).weight ≤ 32000) (hi : i < n) (hk : k < n) (W : World) (hB : W.cell? ⟨B, 0, none⟩ = some (.slice (some ⟨g, 0, none⟩) n c)) (h : ∀ j, j < n → CCells W g (0 + j * 5) (f j)) :
    Calls Try.prog 51 #[.int .i64 (i : Int), .int .i64 (k : Int), .pointer (some ⟨B, 0, none⟩)] W (GrowI W (cmpH (f i) (f k))) := by
  obtain ⟨a0, a1, a2, a3, a4⟩ := h i hi
  obtain ⟨b0, b1, b2, b3, b4⟩ := h k hk
  rw [Nat.zero_add] at *
  have HC := Lib.hid (fun W => compare_any (f i) (f k) (hw i hi) (hw k hk) W)
  clear h hw
  generalize cmpH (f i) (f k) = r at *
  generalize f i = x at *
  generalize f k = y at *
  obtain ⟨i1, s1, t1, c1, p1⟩ := x
  obtain ⟨i2, s2, t2, c2, p2⟩ := y
  simp only [contV] at *
  have hii : (i : Int) < (n : Int) := by omega
  have hkk : (k : Int) < (n : Int) := by omega
  go_enter Try.func51, Try.ntmps51
  go_wp2_with fail
  go_still_tail 8, (by kernel_rfl)
  change wpList _ _ _ _ _ W.drew
  have HD : Hid (W.drew = W.drewN 1) := Lib.hid rfl
  generalize W.drew = W2 at *
  go_wp2_with fail
  refine (HC.out _).mono ?_
  rintro e w3 ⟨rfl, q, os, hw3⟩
  have KW := Lib.hid hw3
  clear hw3
  go_wp2_with fail
  go_ret
  exact ⟨rfl, 1 + q, os, by rw [KW.out, HD.out, World.drewN_drewN]⟩

section
variable {α : Type} [Inhabited α] {enc : α → Value} {w : World} {g m : Nat} {os : Array Obj}
theorem sorted_grown (d : Array α) : w.grownBy (sortWorld enc w g 0 m d os) (some g) := by
  refine ⟨rfl, rfl, rfl, by simp [sortWorld], fun k hk hne => ?_⟩
  have hgk : g ≠ k := fun e => hne (by rw [e])
  unfold sortWorld
  rw [heap_grow_old _ _ (by simpa using hk)]
  simp [putRow, mapBlock, Sort.ahead, Array.getElem?_modify, hgk]
theorem sorted_row {base cap : Nat} {e : TypeId} {cur : Array Value} (d : Array α) (hbase : base ≤ g) (hb : w.heap[g]? = some (.cells cur e (0, 0))) (h1 : d.size ≤ cap) (h2 : cap ≤ maxLen) (h3 : cur.size = cap * 1) :
    (sortWorld enc w g 0 m d os).ownsRow base e 1 (.slice (some ⟨g, 0, none⟩) d.size cap) d.size (d.toList.map enc) := by
  have hg : g < w.heap.size := (Array.getElem?_eq_some_iff.1 hb).1
  refine ⟨by simp, .inr ⟨g, cap, putCells enc 0 d cur, rfl, hbase, ?_, h1, h2, by simp [putCells, h3], ?_⟩⟩
  · unfold sortWorld
    rw [heap_grow_old _ _ (by simpa using hg)]
    simp [putRow, mapBlock, Sort.ahead, Array.getElem?_modify, hb, onCells]
  · apply List.ext_getElem?
    intro j
    by_cases hj : j < d.size
    · rw [List.getElem?_take_of_lt (by omega), Array.getElem?_toList]
      simp [putCells, hj, show j < cur.size by omega]
    · rw [List.getElem?_take_eq_none (by omega), List.getElem?_eq_none (by simp; omega)]
end

/-- An index as a value. -/
def encF {n : Nat} (x : Fin (n + 1)) : Value := .int .i64 (x.val : Int)
/-- All indices. -/
def allF (n : Nat) : Array (Fin (n + 1)) := Array.ofFn fun i => i
theorem allF_size (n : Nat) : (allF n).size = n + 1 := by simp [allF]
theorem allF_at (n j : Nat) (h : j < n + 1) : (allF n)[j]! = ⟨j, h⟩ := by
  rw [getElem!_pos _ j (by rw [allF_size]; exact h)]
  simp [allF]
theorem allF_vals (n : Nat) : (allF n).toList.map (·.val) = List.range (n + 1) := by
  apply List.ext_getElem
  · simp [allF]
  · intro i h1 h2
    rw [List.getElem_map, Array.getElem_toList, List.getElem_range]
    simp only [allF, Array.getElem_ofFn]
def cfF (f : Nat → Cont) {n : Nat} (x y : Fin (n + 1)) : Int := cmpH (f x.val) (f y.val)
theorem ltF (f : Nat → Cont) {n : Nat} (x y : Fin (n + 1)) : ltOf (cfF f) x y = befB (f x.val) (f y.val) := cmpH_lt _ _
theorem swoF (f : Nat → Cont) (n : Nat) : SWO (ltOf (cfF f (n := n))) where
  irrefl x := by rw [ltF]; exact bef_swo.irrefl _
  trans x y z h1 h2 := by rw [ltF] at *; exact bef_swo.trans _ _ _ h1 h2
  ntrans x y z h1 h2 := by rw [ltF] at *; exact bef_swo.ntrans _ _ _ h1 h2
theorem sorted_ok (f : Nat → Cont) (n : Nat) (d' : Array (Fin (n + 1))) (hp : PermIn 0 (n + 1) (allF n) d') (hs : SortedIn (ltOf (cfF f)) 0 (n + 1) d') : d'.size = n + 1 ∧ OrdOK f (n + 1) (d'.toList.map (·.val)) := by
  obtain ⟨h1, _, h3⟩ := hp
  have hz : d'.size = n + 1 := by rw [h1, allF_size]
  refine ⟨hz, ?_, ?_⟩
  · have e1 : d'.extract 0 d'.size = d' := by simp
    have e2 : (allF n).extract 0 (allF n).size = allF n := by simp
    rw [hz] at e1
    rw [allF_size] at e2
    rw [e1, e2] at h3
    have := h3.map (fun x : Fin (n + 1) => x.val)
    rw [allF_vals] at this
    exact this
  · rw [List.pairwise_map, List.pairwise_iff_getElem]
    intro i j hi hj hij
    have hi' : i < d'.size := by simpa using hi
    have hj' : j < d'.size := by simpa using hj
    have := hs i j (Nat.zero_le _) hij (by omega)
    rw [getElem!_pos _ i hi', getElem!_pos _ j hj', ltF] at this
    simpa using this

/-- The list of indices as values. -/
def ordV (l : List Nat) : List Value := l.map fun (x : Nat) => Value.int .i64 (x : Int)
/-- A list of ints of the call's own was answered, and nothing older turned. -/
def OrdPost (w : World) (l : List Nat) (ok : Bool) (e : Ending) (W' : World) : Prop := ∃ v, e = .returned (.tuple #[v, .bool ok]) ∧ W'.ownsRow w.heap.size 3 1 v l.length (ordV l) ∧ Below w.heap.size w W'

/-- slices.SortFunc at the row of all indices. -/
theorem sort_call (gl n c B g2 cap : Nat) (f : Nat → Cont) (cur : Array Value) (hL : listB (n + 1) f = true) (W : World) (hBl : B < W.heap.size) (hB : W.cell? ⟨B, 0, none⟩ = some (.slice (some ⟨gl, 0, none⟩) (n + 1) c)) (hC : CAt W gl 0 (n + 1) f)
    (hne : gl ≠ g2) (hne2 : B ≠ g2) (hb : W.heap[g2]? = some (.cells cur 3 (0, 0))) (h1 : n + 1 ≤ cap) (h2 : cap ≤ maxLen) (h3 : cur.size = cap * 1) (ht : cur.toList.take ((n + 1) * 1) = ordV (List.range (n + 1))) (base : Nat) (hbase : base ≤ g2) :
    Calls Try.prog 50 #[.slice (some ⟨g2, 0, none⟩) (n + 1) cap, .func (.func 51) #[] #[.pointer (some ⟨B, 0, none⟩)]] W fun e w' => e = .returned (.tuple #[]) ∧ w'.ownsRow base 3 1 (.slice (some ⟨g2, 0, none⟩) (n + 1) cap) (n + 1) (ordV (ordL f (n + 1))) ∧ W.grownBy w' (some g2) := by
  have h12 := ((listB_iff (n + 1) f).1 hL).1
  have eg : ∀ args w, (callFunc 51 args).run Try.prog w = .ok (.enter 51 args) w := enters_of Try.func51 (by kernel_rfl) rfl
  have hcell : ∀ j, j < n + 1 → W.cell? ⟨g2, 0 + j, none⟩ = some (.int .i64 (j : Int)) ∧ W.frozen? ⟨g2, 0 + j, none⟩ = false := fun j hj => by
    refine ⟨?_, by simp [World.frozen?, hb]⟩
    have e1 : (cur.toList.take ((n + 1) * 1))[j]? = (ordV (List.range (n + 1)))[j]? := by rw [ht]
    rw [List.getElem?_take_of_lt (by omega)] at e1
    simp only [World.cell?, hb, Nat.zero_add]
    rw [← Array.getElem?_toList, e1]
    simp [ordV, hj]
  have hH : Holds (encF (n := n)) W g2 0 (allF n) := fun j hj => by
    rw [allF_size] at hj
    rw [allF_at n j hj]
    exact hcell j hj
  have hcmp : CmpLays1 Try.prog 51 #[.pointer (some ⟨B, 0, none⟩)] (encF (n := n)) (cfF f) g2 0 (allF n).size W := fun m os dk hdk x y => by
    have hg : W.grownBy (sortWorld (encF (n := n)) W g2 0 m dk os) (some g2) := sorted_grown dk
    exact closure_any gl (n + 1) c B x.val y.val f (fun j hj => ((goodB_iff _).1 (listB_good hL j hj)).2.2.1) x.isLt y.isLt _
      ((World.cell?_of_block (hg.block B hBl (by simpa using hne2))).trans hB)
      (fun j hj => by
        obtain ⟨a0, a1, a2, a3, a4⟩ := hC.2 j hj
        have hk := hg.block gl hC.1 (by simpa using hne)
        exact ⟨(World.cell?_of_block hk).trans a0, (World.cell?_of_block hk).trans a1, (World.cell?_of_block hk).trans a2, (World.cell?_of_block hk).trans a3, (World.cell?_of_block hk).trans a4⟩)
  have hS := Any.slices_SortFunc Try.laysSort (encF (n := n)) (fun _ => rfl) (cfF f) (swoF f n) 51 #[.pointer (some ⟨B, 0, none⟩)] g2 0 cap (allF n) W eg hcmp hH (Array.getElem?_eq_some_iff.1 hb).1 (by rw [allF_size]; omega)
  change Calls Try.prog 50 _ _ _ at hS
  rw [allF_size] at hS
  refine hS.mono ?_
  rintro e w' ⟨he, d', nn, os, hp, hs, rfl⟩
  obtain ⟨hz, hok⟩ := sorted_ok f n d' hp hs
  have hu := ord_unique f (n + 1) hL _ hok
  have hr := sorted_row (enc := encF (n := n)) (m := nn) (os := os) d' hbase hb (by omega) h2 h3
  have hv : d'.toList.map (encF (n := n)) = ordV (ordL f (n + 1)) := by
    rw [← hu]; simp [ordV, encF, Function.comp_def]
  rw [hz, hv] at hr
  exact ⟨he, hr, sorted_grown d'⟩
end Go.Proofs.Ytpdonhdffniabaa.C
