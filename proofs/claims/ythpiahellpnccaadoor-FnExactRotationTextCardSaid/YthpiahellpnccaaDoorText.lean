/-
  The text of a rotation, and what spec.RotationText returns. No statement of the seat by itself.
-/
import Derived.Test.YthpiahellpnccaaDoorGood
import Derived.Test.YthpiahellpnccaaDoorNum
namespace Go.Proofs.YthpiahellpnccaaDoor
open Go.RowKit

/-- The numeral of a number, kept closed. -/
def numT (x : Int) : List UInt8 := Lib.itoa x
theorem numT_len {x : Int} (h1 : 0 ≤ x) (h2 : x ≤ 40) : (numT x).length ≤ 2 := by
  obtain ⟨m, rfl⟩ : ∃ m : Nat, x = (m : Int) := ⟨x.toNat, by omega⟩
  unfold numT
  rw [itoa_nat]
  exact decDigits_len 1 m (by omega)
theorem num_is (x : Int) (w : World) (h : inB 0 40 x = true) : Calls Tryd.prog 16 #[.int .i64 x] w fun e w' => e = .returned (.string ⟨(numT x).toArray⟩) ∧ ∃ k, w' = w.drewN k := by
  have : 0 ≤ x ∧ x ≤ 40 := by unfold inB at h; simpa using h
  exact l1Num_any x w (by omega) (by omega)

/-- The text of call j. -/
def callT (p d : Nat → Int) (j : Nat) : List UInt8 := numT (p j) ++ [58] ++ numT (d j)
/-- The first k calls, a blank between two. -/
def txtL (p d : Nat → Int) : Nat → List UInt8
  | 0 => []
  | k + 1 => (if k = 0 then [] else txtL p d k ++ [32]) ++ callT p d k
theorem txtL_one (p d : Nat → Int) : txtL p d 1 = callT p d 0 := by simp [txtL]
theorem txtL_succ (p d : Nat → Int) (k : Nat) (h : 0 < k) : txtL p d (k + 1) = txtL p d k ++ [32] ++ callT p d k := by
  conv => lhs; unfold txtL
  rw [if_neg (by omega)]
theorem callT_len {n m : Nat} {p d : Nat → Int} (h : Good n m p d) (j : Nat) (hj : j < n) : (callT p d j).length ≤ 5 := by
  have h1 := h.port j hj
  have h2 := h.days j hj
  have k1 := numT_len (x := p j) (by omega) (by omega)
  have k2 := numT_len (x := d j) (by omega) (by omega)
  simp only [callT, List.length_append, List.length_cons, List.length_nil]
  omega
theorem txtL_len {n m : Nat} {p d : Nat → Int} (h : Good n m p d) : ∀ k, k ≤ n → (txtL p d k).length ≤ 6 * k
  | 0, _ => by simp [txtL]
  | k + 1, hk => by
    have ih := txtL_len h k (by omega)
    have hc := callT_len h k (by omega)
    by_cases hz : k = 0
    · subst hz; rw [txtL_one]; omega
    · rw [txtL_succ p d k (by omega)]
      simp only [List.length_append, List.length_cons, List.length_nil]
      omega

/-- What both functions answer. -/
def TextP (w : World) (n m : Nat) (p d : Nat → Int) (e : Ending) (w' : World) : Prop :=
  e = .returned (.tuple #[.string (if rotB n m p d then ⟨(txtL p d n).toArray⟩ else ⟨#[]⟩), .bool (rotB n m p d)]) ∧ Below w.heap.size w w'
theorem textP_no {w w' : World} {n m : Nat} {p d : Nat → Int} (h : rotB n m p d = false) (hb : Below w.heap.size w w') : TextP w n m p d (.returned (.tuple #[.string ⟨#[]⟩, .bool false])) w' := by
  unfold TextP; rw [h]; exact ⟨rfl, hb⟩
theorem textP_yes {w w' : World} {n m : Nat} {p d : Nat → Int} {s : ByteArray} (h : rotB n m p d = true) (hs : s = ⟨(txtL p d n).toArray⟩) (hb : Below w.heap.size w w') : TextP w n m p d (.returned (.tuple #[.string s, .bool true])) w' := by
  subst hs; unfold TextP; rw [h]; exact ⟨rfl, hb⟩

theorem ba_app (a b : List UInt8) : (⟨a.toArray⟩ : ByteArray) ++ ⟨b.toArray⟩ = ⟨(a ++ b).toArray⟩ := by
  apply ByteArray.ext
  simp
theorem ba_call (l a b : List UInt8) (s t : ByteArray) (hs : s = ⟨#[58]⟩) (ht : t = ⟨l.toArray⟩) : t ++ ⟨a.toArray⟩ ++ s ++ ⟨b.toArray⟩ = ⟨(l ++ (a ++ [58] ++ b)).toArray⟩ := by
  subst hs ht
  have e : (⟨#[58]⟩ : ByteArray) = ⟨([58] : List UInt8).toArray⟩ := rfl
  rw [e, ba_app, ba_app, ba_app]
  simp

set_option maxRecDepth 100000 in
set_option maxHeartbeats 4000000 in
theorem specText_yes (v : Value) (n m : Nat) (p d : Nat → Int) (hn : n ≤ maxLen) (hm : m ≤ maxLen) (w : World) (h : ArgR w v n m p d) (hr : rotB n m p d = true) :
    Calls Tryd.prog 6 #[v] w (TextP w n m p d) := by
  have HV := Lib.hid h
  have HR := Lib.hid hr
  have hG := good_of hr
  obtain ⟨v1, v2, rfl, h1, h2⟩ := h
  have e0 := hG.same
  subst e0
  have h0 := hG.pos
  have h12 := hG.top
  obtain ⟨g1, o1, c1, rfl, i1⟩ := h1.rows (by omega)
  obtain ⟨g2, o2, c2, rfl, i2⟩ := h2.rows (by omega)
  have HG := Lib.hid hG
  have J1 := Lib.hid i1
  have J2 := Lib.hid i2
  clear hr hG h1 h2 i1 i2
  go_enter Tryd.func6, Tryd.ntmps6
  go_wp2_with fail
  have B := Lib.hid (below_one w (.cells #[.slice (some ⟨g1, o1, none⟩) m c1, .slice (some ⟨g2, o2, none⟩) m c2] 28))
  have r0 : (w.alloc (.cells #[.slice (some ⟨g1, o1, none⟩) m c1, .slice (some ⟨g2, o2, none⟩) m c2] 28)).cell? ⟨w.heap.size, 0, none⟩ = some (.slice (some ⟨g1, o1, none⟩) m c1) := by simp
  have r1 : (w.alloc (.cells #[.slice (some ⟨g1, o1, none⟩) m c1, .slice (some ⟨g2, o2, none⟩) m c2] 28)).cell? ⟨w.heap.size, 1, none⟩ = some (.slice (some ⟨g2, o2, none⟩) m c2) := by simp
  have I1 := Lib.hid (J1.out.below B.out)
  have I2 := Lib.hid (J2.out.below B.out)
  have V2 := Lib.hid (HV.out.below B.out)
  have hW : w.heap.size < (w.alloc (.cells #[.slice (some ⟨g1, o1, none⟩) m c1, .slice (some ⟨g2, o2, none⟩) m c2] 28)).heap.size := by simp
  clear J1 J2
  generalize (w.alloc (.cells #[.slice (some ⟨g1, o1, none⟩) m c1, .slice (some ⟨g2, o2, none⟩) m c2] 28)) = W at *
  refine (specGood_any _ m m p d hn hm _ V2.out).mono ?_
  rw [HR.out]
  rintro e w1 ⟨rfl, hb⟩
  have HB0 := Lib.hid hb
  clear hb
  go_wp2_with fail
  go_loopw [4, 5] (fun s i wr => ∃ k : Nat, k ≤ m ∧ i = .int .i64 k ∧ s = .string ⟨(txtL p d k).toArray⟩ ∧ Hid (Below W.heap.size W wr)) (fun _ i _ => m - (intOf i).toNat)
  case atStart => exact ⟨0, Nat.zero_le _, rfl, rfl, HB0⟩
  case round =>
    obtain ⟨k, hk, rfl, rfl, HB⟩ := hrel
    have s0 := (HB.out.cell (p := ⟨w.heap.size, 0, none⟩) hW).trans r0
    have s1 := (HB.out.cell (p := ⟨w.heap.size, 1, none⟩) hW).trans r1
    clear r0 r1
    by_cases hlt : k < m
    · have a1 := (I1.out.below HB.out).2 k hlt
      have a2 := (I2.out.below HB.out).2 k hlt
      have hki : (k : Int) < (m : Int) := by omega
      have q1 := HG.out.port k hlt
      have q2 := HG.out.days k hlt
      have P1 : inB 0 40 (p k) = true := inB_yes (by omega) (by omega)
      have P2 : inB 0 40 (d k) = true := inB_yes (by omega) (by omega)
      have n1 := numT_len (x := p k) (by omega) (by omega)
      have n2 := numT_len (x := d k) (by omega) (by omega)
      have n3 := txtL_len HG.out k hk
      have hl1 : (numT (p k)).length ≤ 100 := by omega
      have hl2 : (numT (d k)).length ≤ 100 := by omega
      have hl3 : (txtL p d k).length ≤ 100 := by omega
      clear q1 q2 n1 n2 n3
      by_cases hz : k = 0
      · have HE : Hid (∀ t : ByteArray, t = ⟨#[58]⟩ → ∀ s : ByteArray, s = ⟨(txtL p d k).toArray⟩ → s ++ ⟨(numT (p k)).toArray⟩ ++ t ++ ⟨(numT (d k)).toArray⟩ = ⟨(txtL p d (k + 1)).toArray⟩) := Lib.hid (by
          intro t ht s hs
          rw [ba_call (txtL p d k) _ _ t s ht hs]
          subst hz; rw [txtL_one]; simp [txtL, callT])
        have hzi : decide ((0 : Int) < (k : Int)) = false := by simp; omega
        have hzj : decide (0 < k) = false := by simp; omega
        clear hz
        generalize txtL p d k = l at *
        generalize p k = x at *
        generalize d k = y at *
        go_wp2_with fail
        go_quiet ((go_at_call 16; exact Calls.quiet_of (num_is _ _ (by assumption))))
        go_wp2_with fail
        exact ⟨⟨k + 1, by omega, by go_num, congrArg Value.string (HE.out _ (by decide) _ rfl), Lib.hid (below_drewN HB.out _)⟩, by simp [intOf]; omega⟩
      · have HE : Hid (∀ t : ByteArray, t = ⟨#[58]⟩ → ∀ u : ByteArray, u = ⟨#[32]⟩ → ∀ s : ByteArray, s = ⟨(txtL p d k).toArray⟩ → s ++ u ++ ⟨(numT (p k)).toArray⟩ ++ t ++ ⟨(numT (d k)).toArray⟩ = ⟨(txtL p d (k + 1)).toArray⟩) := Lib.hid (by
          intro t ht u hu s hs
          subst hu hs
          have e : (⟨#[32]⟩ : ByteArray) = ⟨([32] : List UInt8).toArray⟩ := rfl
          rw [ba_call (txtL p d k ++ [32]) _ _ t _ ht (by rw [e, ba_app]), txtL_succ p d k (by omega)]
          rfl)
        have hzi : decide ((0 : Int) < (k : Int)) = true := by simp; omega
        have hzj : decide (0 < k) = true := by simp; omega
        clear hz
        generalize txtL p d k = l at *
        generalize p k = x at *
        generalize d k = y at *
        go_wp2_with fail
        go_quiet ((go_at_call 16; exact Calls.quiet_of (num_is _ _ (by assumption))))
        go_wp2_with fail
        exact ⟨⟨k + 1, by omega, by go_num, congrArg Value.string (HE.out _ (by decide) _ (by decide) _ rfl), Lib.hid (below_drewN HB.out _)⟩, by simp [intOf]; omega⟩
    · obtain rfl : k = m := by omega
      go_wp2_with fail
      go_ret2
      exact textP_yes HR.out rfl (B.out.trans (HB.out.mono B.out.size))
end Go.Proofs.YthpiahellpnccaaDoor
