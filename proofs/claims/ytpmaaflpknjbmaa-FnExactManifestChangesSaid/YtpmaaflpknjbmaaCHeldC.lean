/-
  The laws' helper heldContainerS, and two slices of containers that a call fills side by side. No statement of the seat by itself.
-/
import Derived.Test.YtpmaaflpknjbmaaCResC
import Derived.Test.YtpmaaflpknjbmaaCFor
import Derived.Maps.AppendAt
import Derived.Deep.RegionHeld3
namespace Go.Proofs.Ytpmaaflpknjbmaa.C
open Go.RowKit

/-- Container k of block g bears the marks from a on. -/
def Five (w : World) (g o : Nat) (s : ByteArray) (a : Int) : Prop := w.cell? ⟨g, o, none⟩ = some (.string s) ∧ w.cell? ⟨g, o + 1, none⟩ = some (.int .i64 (a + 1)) ∧ w.cell? ⟨g, o + 2, none⟩ = some (.int .i64 (a + 2)) ∧ w.cell? ⟨g, o + 3, none⟩ = some (.int .i64 (a + 3)) ∧ w.cell? ⟨g, o + 4, none⟩ = some (.int .i64 (a + 4))

set_option maxRecDepth 100000 in
set_option maxHeartbeats 4000000 in
theorem heldC_rows (g c n k0 : Nat) (hn : n ≤ 1048576) (hk0 : 1 ≤ k0) (hk1 : k0 ≤ 10000000) (w : World) (h : CAt w g 0 n (mkC k0)) :
    Calls Try.prog 23 #[.slice (some ⟨g, 0, none⟩) n c, .int .i64 k0] w fun e w' => e = .returned (.int .i64 ((k0 : Int) + 5 * (n : Int))) ∧ Below w.heap.size w w' := by
  have H := Lib.hid h
  have hg := h.1
  clear h
  go_enter Try.func23, Try.ntmps23
  go_wp2_with fail
  go_loopw [1, 5] (fun m i wr => ∃ k : Nat, k ≤ n ∧ i = .int .i64 k ∧ m = .int .i64 ((k0 : Int) + 5 * (k : Int)) ∧ Hid (Below w.heap.size w wr)) (fun _ i _ => n - (intOf i).toNat)
  case atStart => exact ⟨0, Nat.zero_le _, rfl, val_i (by omega), Lib.hid (Below.refl _ _)⟩
  case round =>
    obtain ⟨k, hk, rfl, rfl, HB⟩ := hrel
    by_cases hlt : k < n
    · obtain ⟨a0, a1, a2, a3, a4⟩ := (H.out.below HB.out).2 k hlt
      rw [Nat.zero_add] at *
      obtain ⟨a, ha⟩ : ∃ a : Int, a = (k0 : Int) + 5 * (k : Int) := ⟨_, rfl⟩
      have KA := Lib.hid ha
      have hA1 : 1 ≤ a := by omega
      have hA2 : a ≤ 99999990 := by omega
      have hgr : g < wr.heap.size := Nat.lt_of_lt_of_le hg HB.out.size
      have e0 : ((k0 + 5 * k : Nat) : Int) = a := by omega
      have e1 : k0 + 5 * k = a.toNat := by omega
      simp only [mkC] at a0 a1 a2 a3 a4
      rw [e1] at a0
      rw [e0] at a1 a2 a3 a4
      rw [← ha]
      clear ha e0 e1
      have HM : Hid (∀ W, W.cell? ⟨g, k * 5, none⟩ = some (.string (mt a.toNat)) → g < W.heap.size → Calls Try.prog 34 #[.int .i64 a] W fun e w' => e = .returned (.string (mt a.toNat)) ∧ Below W.heap.size W w' ∧ w'.cell? ⟨g, k * 5, none⟩ = some (.string (mt a.toNat)) ∧ g < w'.heap.size) := Lib.hid fun W hcW hgW =>
        (markText_int a (by omega) (by omega) W).mono fun e w' ⟨he, hb⟩ => ⟨he, hb, (hb.cell (p := ⟨g, k * 5, none⟩) hgW).trans hcW, Nat.lt_of_lt_of_le hgW hb.size⟩
      have HL : Hid (∀ w1, Below wr.heap.size wr w1 → w1.cell? ⟨g, k * 5 + 1, none⟩ = some (.int .i64 (a + 1)) ∧ w1.cell? ⟨g, k * 5 + 2, none⟩ = some (.int .i64 (a + 2)) ∧ w1.cell? ⟨g, k * 5 + 3, none⟩ = some (.int .i64 (a + 3)) ∧ w1.cell? ⟨g, k * 5 + 4, none⟩ = some (.int .i64 (a + 4))) := Lib.hid fun w1 hb =>
        ⟨(hb.cell (p := ⟨g, _, none⟩) hgr).trans a1, (hb.cell (p := ⟨g, _, none⟩) hgr).trans a2, (hb.cell (p := ⟨g, _, none⟩) hgr).trans a3, (hb.cell (p := ⟨g, _, none⟩) hgr).trans a4⟩
      clear a1 a2 a3 a4
      go_wp2_with fail
      go_region_held3 (fun w' => w'.cell? ⟨g, k * 5, none⟩ = some (.string (mt a.toNat)) ∧ g < w'.heap.size) (go_keep) (first | (go_at_call 34; refine (HM.out _ (by simp [*]) (by simp [*])).mono ?_; rintro e w' ⟨rfl, hB1, hc1, hg1⟩))
      have hw : Below wr.heap.size wr w' := below_drew1 (Below.refl _ wr) |>.trans hB1
      obtain ⟨b1, b2, b3, b4⟩ := HL.out _ hw
      have B1 : Hid (Below w.heap.size w w') := Lib.hid (HB.out.trans (hw.mono HB.out.size))
      clear hw hB1 hc1
      go_wp2_with fail
      refine ⟨⟨k + 1, by omega, by go_num, val_i (by have := KA.out; omega), B1⟩, by simp [intOf]; omega⟩
    · obtain rfl : k = n := by omega
      go_wp2_with fail
      go_ret
      exact ⟨rfl, HB.out⟩
set_option maxHeartbeats 400000 in
theorem heldC_empty (a : Option Addr) (c : Nat) (k0 : Int) (w : World) :
    Calls Try.prog 23 #[.slice a 0 c, .int .i64 k0] w fun e w' => e = .returned (.int .i64 k0) ∧ w = w' := by
  go_enter Try.func23, Try.ntmps23
  go_wp2
  go_loop [1, 5] (fun m i => i = .int .i64 0 ∧ m = .int .i64 k0) (fun _ _ => 0)
  case atStart => exact ⟨rfl, rfl⟩
  case round =>
    obtain ⟨rfl, rfl⟩ := hrel
    go_wp2
    go_ret
    exact ⟨rfl, rfl⟩
theorem heldV_any (v : Value) (n k0 : Nat) (hn : n ≤ 1048576) (hk0 : 1 ≤ k0) (hk1 : k0 ≤ 10000000) (w : World) (h : CV w v n (mkC k0)) :
    Calls Try.prog 23 #[v, .int .i64 k0] w fun e w' => e = .returned (.int .i64 ((k0 : Int) + 5 * (n : Int))) ∧ Below w.heap.size w w' := by
  by_cases h0 : n = 0
  · subst h0
    obtain ⟨a, c, rfl⟩ := h.length
    refine (heldC_empty a c k0 w).mono fun e w' ⟨he, hw⟩ => ?_
    subst hw
    exact ⟨by rw [he]; simp, Below.refl _ _⟩
  · obtain ⟨g, cap, rfl, _⟩ := h.lt (by omega)
    exact heldC_rows g cap n k0 hn hk0 hk1 w (h.at (by omega))

/-- Two slices of the call's own, apart from each other. -/
def Two (w wr : World) (v1 v2 : Value) (l1 l2 : List Cont) : Prop := CRow wr w.heap.size v1 l1 ∧ CRow wr w.heap.size v2 l2 ∧ (∀ j, v1.ownBlock = some j → v2.ownBlock ≠ some j) ∧ Below w.heap.size w wr
theorem Two.swap {w wr : World} {v1 v2 : Value} {l1 l2 : List Cont} (h : Two w wr v1 v2 l1 l2) : Two w wr v2 v1 l2 l1 := ⟨h.2.1, h.1, fun j a b => h.2.2.1 j b a, h.2.2.2⟩
theorem Two.below {w wr W : World} {v1 v2 : Value} {l1 l2 : List Cont} (h : Two w wr v1 v2 l1 l2) (hb : Below wr.heap.size wr W) : Two w W v1 v2 l1 l2 :=
  ⟨row_below h.1 hb, row_below h.2.1 hb, h.2.2.1, h.2.2.2.trans (hb.mono h.2.2.2.size)⟩
theorem two_left {w wr w3 : World} {v1 v2 v1' : Value} {l1 l2 : List Cont} {c : Cont} (h : Two w wr v1 v2 l1 l2)
    (hown : w3.ownsRow w.heap.size 49 5 v1' (l1.length + 1) (flatC l1 ++ encC c)) (hg : wr.grownBy w3 v1.ownBlock) (hat : v1'.ownBlock = v1.ownBlock ∨ v1'.ownBlock = some wr.heap.size) : Two w w3 v1' v2 (l1 ++ [c]) l2 := by
  obtain ⟨r1, r2, ap, B⟩ := h
  refine ⟨?_, r2.kept hg ?_, ?_, B.grown hg B.size (row_base r1)⟩
  · unfold CRow; rw [flatC_snoc]; simpa using hown
  · cases hv : v2.ownBlock with
    | none => exact .inl rfl
    | some j => exact .inr fun e => ap j e.symm hv
  · intro j h1 h2
    rcases hat with e | e
    · exact ap j (e ▸ h1) h2
    · rw [e] at h1
      have := row_lt r2 j h2
      cases h1
      omega
theorem crow_empty (w : World) (o : Obj) (h : o = .cells #[] 49 (0, 0)) : CRow (w.alloc o) w.heap.size (.slice (some ⟨w.heap.size, 0, none⟩) 0 0) [] := by
  subst h
  exact ⟨rfl, .inr ⟨_, 0, #[], rfl, Nat.le_refl _, heap_alloc_new w _, Nat.le_refl _, Nat.zero_le _, rfl, rfl⟩⟩
theorem two_empty (w : World) : Two w ((w.alloc (.cells #[] 49)).alloc (.cells #[] 49)) (.slice (some ⟨w.heap.size, 0, none⟩) 0 0) (.slice (some ⟨w.heap.size + 1, 0, none⟩) 0 0) [] [] := by
  have h2 := crow_empty (w.alloc (.cells #[] 49)) (.cells #[] 49) rfl
  rw [World.size_alloc] at h2
  refine ⟨(crow_empty w _ rfl).alloc _, h2.mono (by omega), fun j a b => ?_, ((Below.refl _ w).alloc (Nat.le_refl _) _).alloc (by simp) _⟩
  simp [Value.ownBlock] at a b
  omega
theorem cell_arr_new (w : World) (cs : Array Value) (t : TypeId) : ∀ j u, cs.toList[j]? = some u → (w.alloc (.cells cs t)).cell? ((⟨w.heap.size, 0, none⟩ : Addr).add j) = some u := by
  intro j u hj
  rw [Array.getElem?_toList] at hj
  have e : (⟨w.heap.size, 0, none⟩ : Addr).add j = ⟨w.heap.size, j, none⟩ := by
    by_cases h : j = 0
    · subst h; rfl
    · simp [Addr.add, h]
  rw [e]
  simp only [World.cell?, heap_alloc_new]
  simpa using hj
theorem enc_one (c : Cont) : ∀ u ∈ encC c, u.oneCell' = true := by
  intro u hu
  simp [encC] at hu
  rcases hu with rfl | rfl | rfl | rfl | rfl <;> rfl
end Go.Proofs.Ytpmaaflpknjbmaa.C
