/-
  What the two PortsAhead return. No statement of the seat by itself.
-/
import Derived.Test.YthpiahellpnccaaNext
import Derived.Deep.Onto
namespace Go.Proofs.Ythpiahellpnccaa
open Go.RowKit

theorem grown_of_below {w w' : World} (h : Below w.heap.size w w') (row : Option Nat) : w.grownBy w' row := ⟨h.os, h.tape, h.output, h.size, fun k hk _ => h.block k hk⟩
theorem row_base {W : World} {base e size k : Nat} {v : Value} {xs : List Value} (h : W.ownsRow base e size v k xs) : ∀ j, v.ownBlock = some j → base ≤ j := by
  intro j hj
  rcases h.2 with ⟨rfl, _⟩ | ⟨g, cap, cur, rfl, hg, _⟩
  · simp [Value.ownBlock] at hj
  · have : g = j := by simpa [Value.ownBlock] using hj
    omega
theorem row_lt {W : World} {base e size k : Nat} {v : Value} {xs : List Value} (h : W.ownsRow base e size v k xs) : ∀ j, v.ownBlock = some j → j < W.heap.size := by
  intro j hj
  rcases h.2 with ⟨rfl, _⟩ | ⟨g, cap, cur, rfl, hg, hb, _⟩
  · simp [Value.ownBlock] at hj
  · have : g = j := by simpa [Value.ownBlock] using hj
    subst this
    exact (Array.getElem?_eq_some_iff.1 hb).1
theorem own_empty (w : World) (o : Obj) (e : TypeId) (h : o = .cells #[] e (0, 0)) : (w.alloc o).ownsRow w.heap.size e 1 (.slice (some ⟨w.heap.size, 0, none⟩) 0 0) 0 [] := by
  subst h
  exact ⟨rfl, .inr ⟨_, 0, #[], rfl, Nat.le_refl _, heap_alloc_new w _, Nat.le_refl _, Nat.zero_le _, rfl, rfl⟩⟩
theorem row_below {W W' : World} {base e size k : Nat} {v : Value} {xs : List Value} (h : W.ownsRow base e size v k xs) (hb : Below W.heap.size W W') : W'.ownsRow base e size v k xs :=
  h.kept (grown_of_below hb none) (by cases hv : v.ownBlock <;> simp)

/-- The different ports of the first s calls from call i on. -/
def aheadL (n : Nat) (p : Nat → Int) (i : Nat) : Nat → List Int
  | 0 => []
  | s + 1 => if p ((i + s) % n) ∈ aheadL n p i s then aheadL n p i s else aheadL n p i s ++ [p ((i + s) % n)]
theorem aheadL_in {n : Nat} {p : Nat → Int} {i s : Nat} (h : p ((i + s) % n) ∈ aheadL n p i s) : aheadL n p i (s + 1) = aheadL n p i s := by rw [aheadL, if_pos h]
theorem aheadL_out {n : Nat} {p : Nat → Int} {i s : Nat} (h : ¬ p ((i + s) % n) ∈ aheadL n p i s) : aheadL n p i (s + 1) = aheadL n p i s ++ [p ((i + s) % n)] := by rw [aheadL, if_neg h]
theorem aheadL_len (n : Nat) (p : Nat → Int) (i : Nat) : ∀ s, (aheadL n p i s).length ≤ s
  | 0 => by simp [aheadL]
  | s + 1 => by
    have := aheadL_len n p i s
    rw [aheadL]
    split
    · omega
    · simp; omega
/-- A list of ints as values. -/
def intV (l : List Int) : List Value := l.map fun x => Value.int .i64 x
/-- A list of ints of the call's own was answered, and nothing older turned. -/
def RowP (w : World) (l : List Int) (ok : Bool) (e : Ending) (W' : World) : Prop := ∃ v, e = .returned (.tuple #[v, .bool ok]) ∧ W'.ownsRow w.heap.size 3 1 v l.length (intV l) ∧ Below w.heap.size w W'
def aheadA (n m : Nat) (p d : Nat → Int) (i : Int) : List Int := if askB n m p d i = true then aheadL n p i.toNat n else []
theorem aheadA_no {n m : Nat} {p d : Nat → Int} {i : Int} (h : askB n m p d i = false) : aheadA n m p d i = [] := by simp [aheadA, h]
theorem aheadA_yes {n m : Nat} {p d : Nat → Int} {i : Int} (h : askB n m p d i = true) : aheadA n m p d i = aheadL n p i.toNat n := by simp [aheadA, h]

/-- Whether a number stands in a list. -/
def hasB (l : List Int) (x : Int) : Bool := decide (x ∈ l)
set_option maxHeartbeats 1000000 in
theorem l1Has_any (v : Value) (l : List Int) (x : Int) (base : Nat) (hl : l.length ≤ 1000) (w : World) (h : w.ownsRow base 3 1 v l.length (intV l)) :
    Calls Try.prog 52 #[v, .int .i64 x] w fun e w' => e = .returned (.bool (hasB l x)) ∧ w = w' := by
  rcases h.2 with ⟨rfl, hn⟩ | ⟨g, cap, cur, rfl, hg, hb, hnc, hcm, hsz, hx⟩
  · have hn' : l = [] := List.length_eq_zero_iff.1 hn
    subst hn'
    clear h
    go_enter Try.func52, Try.ntmps52
    go_wp2_with fail
    go_loop [5] (fun i => i = .int .i64 0) (fun _ => 0)
    case atStart => rfl
    case round =>
      obtain rfl := hrel
      go_wp2_with fail
      go_ret
      exact ⟨rfl, rfl⟩
  · have HC : Hid (∀ (j : Nat) (hj : j < l.length), w.cell? ⟨g, j, none⟩ = some (.int .i64 l[j])) := Lib.hid fun j hj => by
      have e : (cur.toList.take (l.length * 1))[j]? = (intV l)[j]? := by rw [hx]
      rw [List.getElem?_take_of_lt (by omega)] at e
      simp only [World.cell?, hb]
      rw [← Array.getElem?_toList, e]
      simp [intV, hj]
    clear h hb hsz hx hcm
    obtain ⟨N, hN⟩ : ∃ N, l.length = N := ⟨_, rfl⟩
    have HN := Lib.hid hN
    rw [hN] at hl hnc ⊢
    clear hN
    go_enter Try.func52, Try.ntmps52
    go_wp2_with fail
    go_loop [5] (fun i => ∃ k : Nat, k ≤ N ∧ i = .int .i64 k ∧ Hid (∀ j (hj : j < l.length), j < k → l[j] ≠ x)) (fun i => N - (intOf i).toNat)
    case atStart => exact ⟨0, Nat.zero_le _, rfl, Lib.hid fun j hj h0 => by omega⟩
    case round =>
      obtain ⟨k, hk, rfl, HK⟩ := hrel
      by_cases hlt : k < N
      · have hkl : k < l.length := by rw [HN.out]; exact hlt
        have a1 := HC.out k hkl
        by_cases hy : l[k] = x
        · have HX : Hid (hasB l x = true) := Lib.hid (by unfold hasB; rw [decide_eq_true_eq, ← hy]; exact List.getElem_mem _)
          have hyb : (l[k] == x) = true := by simpa using hy
          clear hy
          generalize l[k] = y at *
          go_wp2_with fail
          go_ret
          exact ⟨by rw [HX.out]; rfl, rfl⟩
        · have HK2 : Hid (∀ j (hj : j < l.length), j < k + 1 → l[j] ≠ x) := Lib.hid fun j hj h0 => by
            by_cases e : j = k
            · subst e; exact hy
            · exact HK.out j hj (by omega)
          have hyb : (l[k] == x) = false := by simpa using hy
          clear hy
          generalize l[k] = y at *
          go_wp2_with fail
          go_round
          case rel => exact ⟨k + 1, by omega, by go_num, HK2⟩
          case measure => simp [intOf]; omega
      · have HX : Hid (hasB l x = false) := Lib.hid (by
          unfold hasB
          rw [decide_eq_false_iff_not]
          intro hm
          obtain ⟨j, hj, hjx⟩ := List.mem_iff_getElem.1 hm
          exact HK.out j hj (by have := HN.out; omega) hjx)
        go_wp2_with fail
        go_ret
        exact ⟨by rw [HX.out]; rfl, rfl⟩

set_option maxRecDepth 100000 in
set_option maxHeartbeats 2000000 in
theorem specAhead_no (v : Value) (n m : Nat) (p d : Nat → Int) (i : Int) (hn : n ≤ maxLen) (hm : m ≤ maxLen) (w : World) (h : ArgR w v n m p d) (hi : askB n m p d i = false) :
    Calls Try.prog 24 #[v, .int .i64 i] w (RowP w [] false) := by
  have HV := Lib.hid h
  obtain ⟨v1, v2, rfl, -, -⟩ := h
  have HR := Lib.hid hi
  clear hi
  have R0 := Lib.hid (own_empty (w.alloc (.cells #[v1, v2] 26)) (.cells #[] 3) 3 rfl)
  have B0 := Lib.hid (((Below.refl _ w).alloc (Nat.le_refl _) (.cells #[v1, v2] 26)).alloc (by simp) (.cells #[] 3))
  go_enter Try.func24, Try.ntmps24
  go_wp2_with fail
  refine (specAsked_any _ n m p d i hn hm _ (HV.out.below B0.out)).mono ?_
  rw [HR.out]
  rintro e w1 ⟨rfl, hb⟩
  have R1 := Lib.hid (row_below R0.out hb)
  have B1 : Hid (Below w.heap.size w w1) := Lib.hid (B0.out.trans (hb.mono B0.out.size))
  clear hb
  go_wp2_with fail
  go_ret2
  exact ⟨_, rfl, by have := R1.out.mono (base' := w.heap.size) (by simp); simpa [intV] using this, B1.out⟩

set_option maxRecDepth 100000 in
set_option maxHeartbeats 2000000 in
theorem implAhead_no (v : Value) (n m : Nat) (p d : Nat → Int) (i : Int) (hn : n ≤ maxLen) (hm : m ≤ maxLen) (w : World) (h : ArgR w v n m p d) (hi : askB n m p d i = false) :
    Calls Try.prog 23 #[v, .int .i64 i] w (RowP w [] false) := by
  have HV := Lib.hid h
  obtain ⟨v1, v2, rfl, -, -⟩ := h
  have HR := Lib.hid hi
  clear hi
  have R0 := Lib.hid (own_empty (w.alloc (.cells #[v1, v2] 26)) (.cells #[] 3) 3 rfl)
  have B0 := Lib.hid (((Below.refl _ w).alloc (Nat.le_refl _) (.cells #[v1, v2] 26)).alloc (by simp) (.cells #[] 3))
  go_enter Try.func23, Try.ntmps23
  go_wp2_with fail
  refine (implAsked_any _ n m p d i hn hm _ (HV.out.below B0.out)).mono ?_
  rw [HR.out]
  rintro e w1 ⟨rfl, hb⟩
  have R1 := Lib.hid (row_below R0.out hb)
  have B1 : Hid (Below w.heap.size w w1) := Lib.hid (B0.out.trans (hb.mono B0.out.size))
  clear hb
  go_wp2_with fail
  go_ret2
  exact ⟨_, rfl, by have := R1.out.mono (base' := w.heap.size) (by simp); simpa [intV] using this, B1.out⟩

theorem ahead_start (w : World) (v1 v2 : Value) : ((w.alloc (.cells #[v1, v2] 26)).alloc (.cells #[] 3)).cell? ⟨w.heap.size, 0, none⟩ = some v1 ∧ ((w.alloc (.cells #[v1, v2] 26)).alloc (.cells #[] 3)).cell? ⟨w.heap.size, 1, none⟩ = some v2 := by
  refine ⟨?_, ?_⟩
  all_goals
    rw [World.cell?_alloc_lt _ _ _ (by simp)]; simp
theorem info3 : (Try.prog.info? 3).map (fun i => (i.zero, i.size, i.bytes)) = some (some (.int .i64 0), 1, 8) := by kernel_rfl
/-- While the ports are collected. -/
def Coll (w wr : World) (v1 v2 o : Value) (l : List Int) : Prop := wr.ownsRow (w.heap.size + 1) 3 1 o l.length (intV l) ∧ wr.cell? ⟨w.heap.size, 0, none⟩ = some v1 ∧ wr.cell? ⟨w.heap.size, 1, none⟩ = some v2 ∧ Below w.heap.size w wr ∧ w.heap.size + 1 ≤ wr.heap.size ∧ o ≠ .slice none 0 0
theorem Coll.drewN {w wr : World} {v1 v2 o : Value} {l : List Int} (h : Coll w wr v1 v2 o l) (q : Nat) : Coll w (wr.drewN q) v1 v2 o l := by
  obtain ⟨h1, h2, h3, h4, h5, h6⟩ := h
  exact ⟨row_below h1 (below_drewN (Below.refl _ _) q), h2, h3, below_drewN h4 q, h5, h6⟩
theorem tmod_two (i j n : Nat) : ((i : Int) + (j : Int)).tmod (n : Int) = ((i + j) % n : Nat) := by
  rw [Int.tmod_eq_emod_of_nonneg (by omega)]; exact mod_two i j n

set_option maxRecDepth 100000 in
set_option maxHeartbeats 4000000 in
theorem specAhead_yes (v : Value) (n m : Nat) (p d : Nat → Int) (i : Int) (hn : n ≤ maxLen) (hm : m ≤ maxLen) (w : World) (h : ArgR w v n m p d) (hi : askB n m p d i = true) :
    Calls Try.prog 24 #[v, .int .i64 i] w (RowP w (aheadL n p i.toNat n) true) := by
  obtain ⟨f3, hi3, hz0, hz1, hz2⟩ := info_is info3
  have HV := Lib.hid h
  obtain ⟨hr, i0, i1⟩ := askB_iff.1 hi
  have hG := good_of hr
  obtain ⟨v1, v2, rfl, h1, h2⟩ := h
  have e0 := hG.same
  subst e0
  obtain ⟨g1, o1, c1, rfl, i1'⟩ := h1.rows (by have := hG.pos; omega)
  have h0 := hG.pos
  have h12 := hG.top
  have I1 := Lib.hid i1'
  have HR := Lib.hid hi
  have ei : i = ((i.toNat : Nat) : Int) := by omega
  have hit : i.toNat < m := by omega
  have R0 := Lib.hid (own_empty (w.alloc (.cells #[.slice (some ⟨g1, o1, none⟩) m c1, v2] 26)) (.cells #[] 3) 3 rfl)
  have B0 := Lib.hid (((Below.refl _ w).alloc (Nat.le_refl _) (.cells #[.slice (some ⟨g1, o1, none⟩) m c1, v2] 26)).alloc (by simp) (.cells #[] 3))
  have E0 := Lib.hid (ahead_start w (.slice (some ⟨g1, o1, none⟩) m c1) v2)
  clear hr hG h1 h2 i1' hi
  generalize i.toNat = a at *
  subst ei
  go_enter Try.func24, Try.ntmps24
  go_wp2_with fail
  refine (specAsked_any _ m m p d a hn hm _ (HV.out.below B0.out)).mono ?_
  rw [HR.out]
  rintro e w1 ⟨rfl, hb⟩
  have C1 : Hid (Coll w w1 (.slice (some ⟨g1, o1, none⟩) m c1) v2 (.slice (some ⟨w.heap.size + 1, 0, none⟩) 0 0) (aheadL m p a 0)) := Lib.hid ⟨by
      have := row_below R0.out hb
      simpa [intV, aheadL] using this, (hb.cell (p := ⟨w.heap.size, 0, none⟩) (by simp; omega)).trans E0.out.1, (hb.cell (p := ⟨w.heap.size, 1, none⟩) (by simp; omega)).trans E0.out.2, B0.out.trans (hb.mono B0.out.size), by have := hb.size; simp at this; omega, by simp⟩
  clear hb
  go_wp2_with fail
  go_loopw [6, 7] (fun o s wr => ∃ k : Nat, k ≤ m ∧ s = .int .i64 k ∧ Hid (Coll w wr (.slice (some ⟨g1, o1, none⟩) m c1) v2 o (aheadL m p a k))) (fun _ s _ => m - (intOf s).toNat)
  case atStart => exact ⟨0, Nat.zero_le _, rfl, C1⟩
  case round =>
    obtain ⟨k, hk, rfl, HC⟩ := hrel
    have s0 := HC.out.2.1
    have s1 := HC.out.2.2.1
    by_cases hlt : k < m
    · have ht : (a + k) % m < m := Nat.mod_lt _ (by omega)
      have a1 := (I1.out.below HC.out.2.2.2.1).2 _ ht
      have HM := Lib.hid (tmod_two a k m)
      have hln := aheadL_len m p a k
      by_cases hin : p ((a + k) % m) ∈ aheadL m p a k
      · have HL := Lib.hid (aheadL_in hin)
        have HB : Hid (hasB (aheadL m p a k) (p ((a + k) % m)) = true) := Lib.hid (by simp [hasB, hin])
        clear hin
        generalize aheadL m p a k = L at *
        generalize (a + k) % m = t at *
        generalize p t = x at *
        have hti : (t : Int) < (m : Int) := by omega
        go_wp2_with fail
        have hw1 : IntKind.i64.wrap ((a : Int) + (k : Int)) = (a : Int) + (k : Int) := IntWalk.i64_in _ (by omega)
        have hm1 := HM.out
        go_quiet (fail)
        clear hm1 hw1
        have HC2 := Lib.hid (HC.out.drewN nq)
        go_wp2_with fail
        refine (l1Has_any _ L x _ (by omega) _ HC2.out.1).mono ?_
        rw [HB.out]
        rintro e w2 ⟨rfl, rfl⟩
        go_wp2_with fail
        exact ⟨⟨k + 1, by omega, by go_num, by rw [HL.out]; exact HC2⟩, by simp [intOf]; omega⟩
      · have HL := Lib.hid (aheadL_out hin)
        have HB : Hid (hasB (aheadL m p a k) (p ((a + k) % m)) = false) := Lib.hid (by simp [hasB, hin])
        clear hin
        generalize aheadL m p a k = L at *
        generalize (a + k) % m = t at *
        generalize p t = x at *
        have hti : (t : Int) < (m : Int) := by omega
        go_wp2_with fail
        have hw1 : IntKind.i64.wrap ((a : Int) + (k : Int)) = (a : Int) + (k : Int) := IntWalk.i64_in _ (by omega)
        have hm1 := HM.out
        go_quiet (fail)
        clear hm1 hw1
        have HC2 := Lib.hid (HC.out.drewN nq)
        generalize wr.drewN nq = w2 at *
        go_wp2_with fail
        refine (l1Has_any _ L x _ (by omega) _ HC2.out.1).mono ?_
        rw [HB.out]
        rintro e w3 ⟨rfl, rfl⟩
        obtain ⟨hrow, hc0, hc1, hB, hz, hne⟩ := HC2.out
        have KC0 := Lib.hid hc0
        have KC1 := Lib.hid hc1
        clear hc0 hc1 hne s0 s1 a1
        go_wp2_with (at_builtin; refine wpList_append_own _ rfl _ _ 24 rfl (w.heap.size + 1) 3 f3 (.int .i64 0) 1 8 Try.underlying24 hi3 hz0 hz1 hz2 rfl (by decide) _ _ _ rfl (hrow.alloc _) ⟨w2.heap.size, 0, none⟩ 1 1 [.int .i64 x] rfl rfl (cell_one_new _ _ _) (by simp [Value.oneCell']) (by unfold maxLen; omega) (by omega) (by simp; omega) ?_; intro v' w4 hown' hgrow hnil)
        have hB4 : Below w.heap.size w w4 := (hB.alloc hB.size _).grown hgrow (by simp; omega) (fun j e => by have := row_base hrow j e; omega)
        have old : ∀ q x, w2.cell? ⟨w.heap.size, q, none⟩ = some x → w4.cell? ⟨w.heap.size, q, none⟩ = some x := fun q x hx => by
          rw [World.cell?_of_block (hgrow.block w.heap.size (by simp; omega) (fun e => by have := row_base hrow _ e.symm; omega)), World.cell?_alloc_lt _ _ _ (by simp; omega)]
          exact hx
        have hz4 : w.heap.size + 1 ≤ w4.heap.size := by have := hgrow.size; simp at this; omega
        have HN : Hid (Coll w w4 (.slice (some ⟨g1, o1, none⟩) m c1) v2 v' (L ++ [x])) := Lib.hid ⟨by simpa [intV] using hown', old _ _ KC0.out, old _ _ KC1.out, hB4, hz4, fun e => by have := (hnil.1 e).2; omega⟩
        clear hown' hgrow hnil hB4 old hz4 hrow hB hz
        exact ⟨⟨k + 1, by omega, by go_num, by rw [HL.out]; exact HN⟩, by simp [intOf]; omega⟩
    · obtain rfl : k = m := by omega
      go_wp2_with fail
      go_ret2
      exact ⟨_, rfl, HC.out.1.mono (by omega), HC.out.2.2.2.1⟩
end Go.Proofs.Ythpiahellpnccaa
