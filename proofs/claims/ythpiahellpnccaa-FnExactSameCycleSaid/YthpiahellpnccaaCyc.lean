/-
  What the two SameCycle return. No statement of the seat by itself.
-/
import Derived.Test.YthpiahellpnccaaSame
import Derived.Test.YthpiahellpnccaaMark2
namespace Go.Proofs.Ythpiahellpnccaa
open Go.RowKit

/-- Two answers of yes or no, and nothing older turned. -/
def BothP (w : World) (x b : Bool) (e : Ending) (w' : World) : Prop := e = .returned (.tuple #[.bool x, .bool b]) ∧ Below w.heap.size w w'
/-- Whether a rotation turned by k calls has the same lists as another one. -/
def matchB (n : Nat) (p d : Nat → Int) (n' m' : Nat) (p' d' : Nat → Int) (k : Nat) : Bool := eqR (turnL p n k).length (turnL d n k).length (fun j => (turnL p n k).getD j 0) (fun j => (turnL d n k).getD j 0) n' m' p' d'
def anyB (n : Nat) (p d : Nat → Int) (n' m' : Nat) (p' d' : Nat → Int) : Nat → Bool
  | 0 => false
  | k + 1 => anyB n p d n' m' p' d' k || matchB n p d n' m' p' d' k
theorem any_true {n : Nat} {p d : Nat → Int} {n' m' : Nat} {p' d' : Nat → Int} {s : Nat} (k : Nat) (hk : k < s) (h : matchB n p d n' m' p' d' k = true) : anyB n p d n' m' p' d' s = true := by
  induction s with
  | zero => omega
  | succ s ih =>
    rw [anyB]
    by_cases e : k = s
    · subst e; rw [h]; simp
    · rw [ih (by omega)]; rfl
def sameV (n m : Nat) (p d : Nat → Int) (n' m' : Nat) (p' d' : Nat → Int) : Bool := rotB n m p d && (rotB n' m' p' d' && anyB n p d n' m' p' d' n)
theorem two_box (w : World) (v1 v2 y1 y2 : Value) : Box ((w.alloc (.cells #[v1, v2] 26)).alloc (.cells #[y1, y2] 26)) w.heap.size v1 v2 ∧ Box ((w.alloc (.cells #[v1, v2] 26)).alloc (.cells #[y1, y2] 26)) (w.heap.size + 1) y1 y2 := by
  have h := Box.new (w.alloc (.cells #[v1, v2] 26)) y1 y2 26
  rw [show (w.alloc (.cells #[v1, v2] 26)).heap.size = w.heap.size + 1 by simp] at h
  exact ⟨(Box.new w v1 v2 26).below (below_one _ _), h⟩

set_option maxRecDepth 100000 in
set_option maxHeartbeats 2000000 in
theorem specSame_bad1 (v v' : Value) (n m n' m' : Nat) (p d p' d' : Nat → Int) (hn : n ≤ maxLen) (hm : m ≤ maxLen) (w : World) (h : ArgR w v n m p d) (h' : ArgR w v' n' m' p' d') (hr : rotB n m p d = false) :
    Calls Try.prog 40 #[v, v'] w (BothP w false false) := by
  have HV := Lib.hid h
  obtain ⟨v1, v2, rfl, -, -⟩ := h
  obtain ⟨y1, y2, rfl, -, -⟩ := h'
  have HR := Lib.hid hr
  have HB : Hid (Below w.heap.size w ((w.alloc (.cells #[v1, v2] 26)).alloc (.cells #[y1, y2] 26))) := Lib.hid (((Below.refl _ _).alloc (Nat.le_refl _) _).alloc (by simp) _)
  clear hr
  go_enter Try.func40, Try.ntmps40
  go_wp2_with fail
  refine (specGood_any _ n m p d hn hm _ (HV.out.below HB.out)).mono ?_
  rw [HR.out]
  rintro e w1 ⟨rfl, hb⟩
  have B := Lib.hid (HB.out.trans (hb.mono HB.out.size))
  clear hb
  go_wp2_with fail
  go_ret2
  exact ⟨rfl, B.out⟩
set_option maxRecDepth 100000 in
set_option maxHeartbeats 2000000 in
theorem specSame_bad2 (v v' : Value) (n m n' m' : Nat) (p d p' d' : Nat → Int) (hn : n ≤ maxLen) (hm : m ≤ maxLen) (hn' : n' ≤ maxLen) (hm' : m' ≤ maxLen) (w : World) (h : ArgR w v n m p d) (h' : ArgR w v' n' m' p' d') (hr : rotB n m p d = true) (hr' : rotB n' m' p' d' = false) :
    Calls Try.prog 40 #[v, v'] w (BothP w false false) := by
  have HV := Lib.hid h
  have HW := Lib.hid h'
  obtain ⟨v1, v2, rfl, -, -⟩ := h
  obtain ⟨y1, y2, rfl, -, -⟩ := h'
  have HR := Lib.hid hr
  have HR' := Lib.hid hr'
  have HB : Hid (Below w.heap.size w ((w.alloc (.cells #[v1, v2] 26)).alloc (.cells #[y1, y2] 26))) := Lib.hid (((Below.refl _ _).alloc (Nat.le_refl _) _).alloc (by simp) _)
  have E0 := Lib.hid (two_box w v1 v2 y1 y2)
  clear hr hr'
  go_enter Try.func40, Try.ntmps40
  go_wp2_with fail
  refine (specGood_any _ n m p d hn hm _ (HV.out.below HB.out)).mono ?_
  rw [HR.out]
  rintro e w1 ⟨rfl, hb⟩
  obtain ⟨-, b0, b1⟩ := E0.out.2.below hb
  have B := Lib.hid (HB.out.trans (hb.mono HB.out.size))
  clear hb
  go_wp2_with fail
  refine (specGood_any _ n' m' p' d' hn' hm' _ (HW.out.below B.out)).mono ?_
  rw [HR'.out]
  rintro e w2 ⟨rfl, hb2⟩
  have B2 := Lib.hid (B.out.trans (hb2.mono B.out.size))
  clear hb2
  go_wp2_with fail
  go_ret2
  exact ⟨rfl, B2.out⟩

set_option maxRecDepth 100000 in
set_option maxHeartbeats 2000000 in
theorem implSame_bad1 (v v' : Value) (n m n' m' : Nat) (p d p' d' : Nat → Int) (hn : n ≤ maxLen) (hm : m ≤ maxLen) (w : World) (h : ArgR w v n m p d) (h' : ArgR w v' n' m' p' d') (hr : rotB n m p d = false) :
    Calls Try.prog 41 #[v, v'] w (BothP w false false) := by
  have HV := Lib.hid h
  obtain ⟨v1, v2, rfl, -, -⟩ := h
  obtain ⟨y1, y2, rfl, -, -⟩ := h'
  have HR := Lib.hid hr
  have HB : Hid (Below w.heap.size w ((w.alloc (.cells #[v1, v2] 26)).alloc (.cells #[y1, y2] 26))) := Lib.hid (((Below.refl _ _).alloc (Nat.le_refl _) _).alloc (by simp) _)
  clear hr
  go_enter Try.func41, Try.ntmps41
  go_wp2_with fail
  refine (implGood_any _ n m p d hn hm _ (HV.out.below HB.out)).mono ?_
  rw [HR.out]
  rintro e w1 ⟨rfl, hb⟩
  have B := Lib.hid (HB.out.trans (hb.mono HB.out.size))
  clear hb
  go_wp2_with fail
  go_ret2
  exact ⟨rfl, B.out⟩
set_option maxRecDepth 100000 in
set_option maxHeartbeats 2000000 in
theorem implSame_bad2 (v v' : Value) (n m n' m' : Nat) (p d p' d' : Nat → Int) (hn : n ≤ maxLen) (hm : m ≤ maxLen) (hn' : n' ≤ maxLen) (hm' : m' ≤ maxLen) (w : World) (h : ArgR w v n m p d) (h' : ArgR w v' n' m' p' d') (hr : rotB n m p d = true) (hr' : rotB n' m' p' d' = false) :
    Calls Try.prog 41 #[v, v'] w (BothP w false false) := by
  have HV := Lib.hid h
  have HW := Lib.hid h'
  obtain ⟨v1, v2, rfl, -, -⟩ := h
  obtain ⟨y1, y2, rfl, -, -⟩ := h'
  have HR := Lib.hid hr
  have HR' := Lib.hid hr'
  have HB : Hid (Below w.heap.size w ((w.alloc (.cells #[v1, v2] 26)).alloc (.cells #[y1, y2] 26))) := Lib.hid (((Below.refl _ _).alloc (Nat.le_refl _) _).alloc (by simp) _)
  have E0 := Lib.hid (two_box w v1 v2 y1 y2)
  clear hr hr'
  go_enter Try.func41, Try.ntmps41
  go_wp2_with fail
  refine (implGood_any _ n m p d hn hm _ (HV.out.below HB.out)).mono ?_
  rw [HR.out]
  rintro e w1 ⟨rfl, hb⟩
  obtain ⟨-, b0, b1⟩ := E0.out.2.below hb
  have B := Lib.hid (HB.out.trans (hb.mono HB.out.size))
  clear hb
  go_wp2_with fail
  refine (implGood_any _ n' m' p' d' hn' hm' _ (HW.out.below B.out)).mono ?_
  rw [HR'.out]
  rintro e w2 ⟨rfl, hb2⟩
  have B2 := Lib.hid (B.out.trans (hb2.mono B.out.size))
  clear hb2
  go_wp2_with fail
  go_ret2
  exact ⟨rfl, B2.out⟩

set_option maxRecDepth 100000 in
set_option maxHeartbeats 4000000 in
theorem specSame_yes (g1 g2 n n' m' : Nat) (v' : Value) (p d p' d' : Nat → Int) (hn' : n' ≤ maxLen) (hm' : m' ≤ maxLen) (w : World) (h1 : IAt w g1 0 n p) (h2 : IAt w g2 0 n d) (h' : ArgR w v' n' m' p' d') (hr : rotB n n p d = true) (hr' : rotB n' m' p' d' = true) :
    Calls Try.prog 40 #[.agg #[.slice (some ⟨g1, 0, none⟩) n n, .slice (some ⟨g2, 0, none⟩) n n], v'] w (BothP w (anyB n p d n' m' p' d' n) true) := by
  have hG := good_of hr
  have h12 := hG.top
  have hnm : n ≤ maxLen := by unfold maxLen; omega
  have HV : Hid (ArgR w (.agg #[.slice (some ⟨g1, 0, none⟩) n n, .slice (some ⟨g2, 0, none⟩) n n]) n n p d) := Lib.hid ⟨_, _, rfl, .inr ⟨_, _, _, rfl, h1⟩, .inr ⟨_, _, _, rfl, h2⟩⟩
  have HW := Lib.hid h'
  obtain ⟨y1, y2, rfl, -, -⟩ := h'
  have I1 := Lib.hid h1
  have I2 := Lib.hid h2
  have HR := Lib.hid hr
  have HR' := Lib.hid hr'
  have HB : Hid (Below w.heap.size w ((w.alloc (.cells #[.slice (some ⟨g1, 0, none⟩) n n, .slice (some ⟨g2, 0, none⟩) n n] 26)).alloc (.cells #[y1, y2] 26))) := Lib.hid (((Below.refl _ _).alloc (Nat.le_refl _) _).alloc (by simp) _)
  have E0 := Lib.hid (two_box w (.slice (some ⟨g1, 0, none⟩) n n) (.slice (some ⟨g2, 0, none⟩) n n) y1 y2)
  clear hr hr' hG h1 h2
  go_enter Try.func40, Try.ntmps40
  go_wp2_with fail
  refine (specGood_any _ n n p d hnm hnm _ (HV.out.below HB.out)).mono ?_
  rw [HR.out]
  rintro e w1 ⟨rfl, hb⟩
  have XA := Lib.hid (E0.out.1.below hb)
  have XB := Lib.hid (E0.out.2.below hb)
  have B := Lib.hid (HB.out.trans (hb.mono HB.out.size))
  clear hb
  obtain ⟨-, b0, b1⟩ := XB.out
  go_wp2_with fail
  refine (specGood_any _ n' m' p' d' hn' hm' _ (HW.out.below B.out)).mono ?_
  rw [HR'.out]
  rintro e w2 ⟨rfl, hb2⟩
  have YA := Lib.hid (XA.out.below hb2)
  have YB := Lib.hid (XB.out.below hb2)
  have B2 := Lib.hid (B.out.trans (hb2.mono B.out.size))
  clear hb2 b0 b1
  obtain ⟨-, a0, a1⟩ := YA.out
  go_wp2_with fail
  clear a0 a1
  go_loopw [6] (fun i wr => ∃ k : Nat, k ≤ n ∧ i = .int .i64 k ∧ Hid (Below w2.heap.size w2 wr) ∧ Hid (anyB n p d n' m' p' d' k = false)) (fun i _ => n - (intOf i).toNat)
  case atStart => exact ⟨0, Nat.zero_le _, rfl, Lib.hid (Below.refl _ _), Lib.hid rfl⟩
  case round =>
    obtain ⟨k, hk, rfl, HL, HK⟩ := hrel
    have ZA := Lib.hid (YA.out.below HL.out)
    have ZB := Lib.hid (YB.out.below HL.out)
    have BW : Hid (Below w.heap.size w wr) := Lib.hid (B2.out.trans (HL.out.mono B2.out.size))
    obtain ⟨-, a0, a1⟩ := ZA.out
    by_cases hlt : k < n
    · have HT := Lib.hid (turnL_len p n k (by omega))
      have HU := Lib.hid (turnL_len d n k (by omega))
      have HM : Hid (anyB n p d n' m' p' d' (k + 1) = (anyB n p d n' m' p' d' k || matchB n p d n' m' p' d' k)) := Lib.hid rfl
      have HX : Hid (matchB n p d n' m' p' d' k = true → anyB n p d n' m' p' d' n = true) := Lib.hid (any_true k hlt)
      go_wp2_with fail
      refine (l3Turn_rows g1 0 n g2 0 n n p d k hlt h12 (Nat.le_refl _) (Nat.le_refl _) _ (I1.out.below BW.out) (I2.out.below BW.out)).mono ?_
      rintro e w3 ⟨u1, u2, rfl, ho1, ho2, -, hb3⟩
      have U1 := Lib.hid (arg_of_owns ho1)
      have U2 := Lib.hid (arg_of_owns ho2)
      obtain ⟨x1, z1, rfl⟩ := own_form ho1
      obtain ⟨x2, z2, rfl⟩ := own_form ho2
      have hb4 := below_one w3 (.cells #[.slice x1 (turnL p n k).length z1, .slice x2 (turnL d n k).length z2] 26)
      have CT := Lib.hid (Box.new w3 (.slice x1 (turnL p n k).length z1) (.slice x2 (turnL d n k).length z2) 26)
      have CB := Lib.hid ((ZB.out.below hb3).below hb4)
      have V1 := Lib.hid (U1.out.below hb4)
      have V2 := Lib.hid (U2.out.below hb4)
      have B3 := Lib.hid (HL.out.trans (hb3.mono HL.out.size))
      have B4 := Lib.hid (B3.out.trans (hb4.mono B3.out.size))
      have BV : Hid (Below w.heap.size w (w3.alloc (.cells #[.slice x1 (turnL p n k).length z1, .slice x2 (turnL d n k).length z2] 26))) := Lib.hid (B2.out.trans (B4.out.mono B2.out.size))
      have HW4 := Lib.hid (HW.out.below BV.out)
      clear hb3 hb4 ho1 ho2 a0 a1 U1 U2
      obtain ⟨-, t0, t1⟩ := CT.out
      obtain ⟨-, b0, b1⟩ := CB.out
      obtain ⟨q1, q2, hq, Y1, Y2⟩ := HW4.out
      injection hq with hq
      have hq1 : y1 = q1 := by injection hq with hq; injection hq
      have hq2 : y2 = q2 := by injection hq with hq; injection hq with _ hq; injection hq
      subst hq1 hq2
      have J1 := Lib.hid Y1
      have J2 := Lib.hid Y2
      clear Y1 Y2 hq
      go_wp2_with fail
      generalize w3.alloc (.cells #[.slice x1 (turnL p n k).length z1, .slice x2 (turnL d n k).length z2] 26) = w4 at *
      cases hE : eqB (turnL p n k).length (fun j => (turnL p n k).getD j 0) n' p' with
      | false =>
        have HN : Hid (matchB n p d n' m' p' d' k = false) := Lib.hid (by unfold matchB eqR; rw [hE]; rfl)
        have HE := Lib.hid hE
        clear hE
        refine (l1Same_any _ y1 _ n' _ p' (by rw [HT.out]; exact hnm) hn' _ V1.out J1.out).mono ?_
        rw [HE.out]
        rintro e w5 ⟨rfl, hb5⟩
        have B5 := Lib.hid (B4.out.trans (hb5.mono B4.out.size))
        clear hb5
        go_wp2_with fail
        exact ⟨⟨k + 1, by omega, by go_num, B5, Lib.hid (by rw [HM.out, HK.out, HN.out]; rfl)⟩, by simp [intOf]; omega⟩
      | true =>
        have HN : Hid (matchB n p d n' m' p' d' k = eqB (turnL d n k).length (fun j => (turnL d n k).getD j 0) m' d') := Lib.hid (by unfold matchB eqR; rw [hE]; exact Bool.true_and _)
        have HE := Lib.hid hE
        clear hE
        refine (l1Same_any _ y1 _ n' _ p' (by rw [HT.out]; exact hnm) hn' _ V1.out J1.out).mono ?_
        rw [HE.out]
        rintro e w5 ⟨rfl, hb5⟩
        have B5 := Lib.hid (B4.out.trans (hb5.mono B4.out.size))
        obtain ⟨-, t0', t1'⟩ := CT.out.below hb5
        obtain ⟨-, b0', b1'⟩ := CB.out.below hb5
        have V25 := Lib.hid (V2.out.below hb5)
        have J25 := Lib.hid (J2.out.below hb5)
        clear hb5 t0 t1 b0 b1
        go_wp2_with fail
        cases hF : eqB (turnL d n k).length (fun j => (turnL d n k).getD j 0) m' d' with
        | false =>
          have HF := Lib.hid hF
          rw [hF] at HN
          clear hF
          refine (l1Same_any _ y2 _ m' _ d' (by rw [HU.out]; exact hnm) hm' _ V25.out J25.out).mono ?_
          rw [HF.out]
          rintro e w6 ⟨rfl, hb6⟩
          have B6 := Lib.hid (B5.out.trans (hb6.mono B5.out.size))
          clear hb6
          go_wp2_with fail
          exact ⟨⟨k + 1, by omega, by go_num, B6, Lib.hid (by rw [HM.out, HK.out, HN.out]; rfl)⟩, by simp [intOf]; omega⟩
        | true =>
          have HF := Lib.hid hF
          rw [hF] at HN
          clear hF
          refine (l1Same_any _ y2 _ m' _ d' (by rw [HU.out]; exact hnm) hm' _ V25.out J25.out).mono ?_
          rw [HF.out]
          rintro e w6 ⟨rfl, hb6⟩
          have B6 := Lib.hid (B2.out.trans ((B5.out.trans (hb6.mono B5.out.size)).mono B2.out.size))
          clear hb6
          go_wp2_with fail
          go_ret2
          exact ⟨by rw [HX.out HN.out]; rfl, B6.out⟩
    · obtain rfl : k = n := by omega
      go_wp2_with fail
      go_ret2
      exact ⟨by rw [HK.out]; rfl, BW.out⟩

set_option maxRecDepth 100000 in
set_option maxHeartbeats 4000000 in
theorem implSame_yes (g1 g2 n n' m' : Nat) (v' : Value) (p d p' d' : Nat → Int) (hn' : n' ≤ maxLen) (hm' : m' ≤ maxLen) (w : World) (h1 : IAt w g1 0 n p) (h2 : IAt w g2 0 n d) (h' : ArgR w v' n' m' p' d') (hr : rotB n n p d = true) (hr' : rotB n' m' p' d' = true) :
    Calls Try.prog 41 #[.agg #[.slice (some ⟨g1, 0, none⟩) n n, .slice (some ⟨g2, 0, none⟩) n n], v'] w (BothP w (anyB n p d n' m' p' d' n) true) := by
  have hG := good_of hr
  have h12 := hG.top
  have hnm : n ≤ maxLen := by unfold maxLen; omega
  have HV : Hid (ArgR w (.agg #[.slice (some ⟨g1, 0, none⟩) n n, .slice (some ⟨g2, 0, none⟩) n n]) n n p d) := Lib.hid ⟨_, _, rfl, .inr ⟨_, _, _, rfl, h1⟩, .inr ⟨_, _, _, rfl, h2⟩⟩
  have HW := Lib.hid h'
  obtain ⟨y1, y2, rfl, -, -⟩ := h'
  have I1 := Lib.hid h1
  have I2 := Lib.hid h2
  have HR := Lib.hid hr
  have HR' := Lib.hid hr'
  have HB : Hid (Below w.heap.size w ((w.alloc (.cells #[.slice (some ⟨g1, 0, none⟩) n n, .slice (some ⟨g2, 0, none⟩) n n] 26)).alloc (.cells #[y1, y2] 26))) := Lib.hid (((Below.refl _ _).alloc (Nat.le_refl _) _).alloc (by simp) _)
  have E0 := Lib.hid (two_box w (.slice (some ⟨g1, 0, none⟩) n n) (.slice (some ⟨g2, 0, none⟩) n n) y1 y2)
  clear hr hr' hG h1 h2
  go_enter Try.func41, Try.ntmps41
  go_wp2_with fail
  refine (implGood_any _ n n p d hnm hnm _ (HV.out.below HB.out)).mono ?_
  rw [HR.out]
  rintro e w1 ⟨rfl, hb⟩
  have XA := Lib.hid (E0.out.1.below hb)
  have XB := Lib.hid (E0.out.2.below hb)
  have B := Lib.hid (HB.out.trans (hb.mono HB.out.size))
  clear hb
  obtain ⟨-, b0, b1⟩ := XB.out
  go_wp2_with fail
  refine (implGood_any _ n' m' p' d' hn' hm' _ (HW.out.below B.out)).mono ?_
  rw [HR'.out]
  rintro e w2 ⟨rfl, hb2⟩
  have YA := Lib.hid (XA.out.below hb2)
  have YB := Lib.hid (XB.out.below hb2)
  have B2 := Lib.hid (B.out.trans (hb2.mono B.out.size))
  clear hb2 b0 b1
  obtain ⟨-, a0, a1⟩ := YA.out
  go_wp2_with fail
  clear a0 a1
  go_loopw [20] (fun i wr => ∃ k : Nat, k ≤ n ∧ i = .int .i64 k ∧ Hid (Below w2.heap.size w2 wr) ∧ Hid (anyB n p d n' m' p' d' k = false)) (fun i _ => n - (intOf i).toNat)
  case atStart => exact ⟨0, Nat.zero_le _, rfl, Lib.hid (Below.refl _ _), Lib.hid rfl⟩
  case round =>
    obtain ⟨k, hk, rfl, HL, HK⟩ := hrel
    have ZA := Lib.hid (YA.out.below HL.out)
    have ZB := Lib.hid (YB.out.below HL.out)
    have BW : Hid (Below w.heap.size w wr) := Lib.hid (B2.out.trans (HL.out.mono B2.out.size))
    obtain ⟨-, a0, a1⟩ := ZA.out
    by_cases hlt : k < n
    · have HT := Lib.hid (turnL_len p n k (by omega))
      have HU := Lib.hid (turnL_len d n k (by omega))
      have HM : Hid (anyB n p d n' m' p' d' (k + 1) = (anyB n p d n' m' p' d' k || matchB n p d n' m' p' d' k)) := Lib.hid rfl
      have HX : Hid (matchB n p d n' m' p' d' k = true → anyB n p d n' m' p' d' n = true) := Lib.hid (any_true k hlt)
      have HQ : Hid (askB n n p d (k : Int) = true) := Lib.hid (askB_in HR.out (by omega) (by omega))
      have HC := Lib.hid (implTurn_yes g1 g2 n n p d (k : Int) wr (I1.out.below BW.out) (I2.out.below BW.out) HQ.out)
      simp only [Int.toNat_natCast] at HC
      go_wp2_with fail
      refine HC.out.mono ?_
      rintro e w3 ⟨u1, u2, rfl, ho1, ho2, -, hb3⟩
      have U1 := Lib.hid (arg_of_owns ho1)
      have U2 := Lib.hid (arg_of_owns ho2)
      obtain ⟨x1, z1, rfl⟩ := own_form ho1
      obtain ⟨x2, z2, rfl⟩ := own_form ho2
      have hb4 := below_one w3 (.cells #[.slice x1 (turnL p n k).length z1, .slice x2 (turnL d n k).length z2] 26)
      have CT := Lib.hid (Box.new w3 (.slice x1 (turnL p n k).length z1) (.slice x2 (turnL d n k).length z2) 26)
      have CB := Lib.hid ((ZB.out.below hb3).below hb4)
      have V1 := Lib.hid (U1.out.below hb4)
      have V2 := Lib.hid (U2.out.below hb4)
      have B3 := Lib.hid (HL.out.trans (hb3.mono HL.out.size))
      have B4 := Lib.hid (B3.out.trans (hb4.mono B3.out.size))
      have BV : Hid (Below w.heap.size w (w3.alloc (.cells #[.slice x1 (turnL p n k).length z1, .slice x2 (turnL d n k).length z2] 26))) := Lib.hid (B2.out.trans (B4.out.mono B2.out.size))
      have HW4 := Lib.hid (HW.out.below BV.out)
      clear hb3 hb4 ho1 ho2 a0 a1 U1 U2 HC
      obtain ⟨-, t0, t1⟩ := CT.out
      obtain ⟨-, b0, b1⟩ := CB.out
      go_wp2_with fail
      generalize w3.alloc (.cells #[.slice x1 (turnL p n k).length z1, .slice x2 (turnL d n k).length z2] 26) = w4 at *
      refine (sameCalls_any _ _ (turnL p n k).length (turnL d n k).length n' m' _ _ p' d' (by rw [HT.out]; exact hnm) (by rw [HU.out]; exact hnm) hn' hm' _ ⟨_, _, rfl, V1.out, V2.out⟩ HW4.out).mono ?_
      change ∀ e w', BoolP w4 (matchB n p d n' m' p' d' k) e w' → _
      cases hE : matchB n p d n' m' p' d' k with
      | false =>
        have HN := Lib.hid hE
        clear hE
        rintro e w5 ⟨rfl, hb5⟩
        have B5 := Lib.hid (B4.out.trans (hb5.mono B4.out.size))
        clear hb5
        go_wp2_with fail
        exact ⟨⟨k + 1, by omega, by go_num, B5, Lib.hid (by rw [HM.out, HK.out, HN.out]; rfl)⟩, by simp [intOf]; omega⟩
      | true =>
        have HN := Lib.hid hE
        clear hE
        rintro e w5 ⟨rfl, hb5⟩
        have B5 := Lib.hid (B2.out.trans ((B4.out.trans (hb5.mono B4.out.size)).mono B2.out.size))
        clear hb5
        go_wp2_with fail
        go_ret2
        exact ⟨by rw [HX.out HN.out]; rfl, B5.out⟩
    · obtain rfl : k = n := by omega
      go_wp2_with fail
      go_ret2
      exact ⟨by rw [HK.out]; rfl, BW.out⟩

theorem specSame_any (g1 g2 n m n' m' : Nat) (v' : Value) (p d p' d' : Nat → Int) (hn : n ≤ maxLen) (hm : m ≤ maxLen) (hn' : n' ≤ maxLen) (hm' : m' ≤ maxLen) (w : World) (h1 : IAt w g1 0 n p) (h2 : IAt w g2 0 m d) (h' : ArgR w v' n' m' p' d') :
    Calls Try.prog 40 #[.agg #[.slice (some ⟨g1, 0, none⟩) n n, .slice (some ⟨g2, 0, none⟩) m m], v'] w (BothP w (sameV n m p d n' m' p' d') (rotB n m p d && rotB n' m' p' d')) := by
  have hv : ArgR w (.agg #[.slice (some ⟨g1, 0, none⟩) n n, .slice (some ⟨g2, 0, none⟩) m m]) n m p d := ⟨_, _, rfl, .inr ⟨_, _, _, rfl, h1⟩, .inr ⟨_, _, _, rfl, h2⟩⟩
  cases hr : rotB n m p d with
  | false =>
    have e : sameV n m p d n' m' p' d' = false := by simp [sameV, hr]
    rw [e]; exact specSame_bad1 _ v' n m n' m' p d p' d' hn hm w hv h' hr
  | true =>
    cases hr' : rotB n' m' p' d' with
    | false =>
      have e : sameV n m p d n' m' p' d' = false := by simp [sameV, hr']
      rw [e]; exact specSame_bad2 _ v' n m n' m' p d p' d' hn hm hn' hm' w hv h' hr hr'
    | true =>
      have e : sameV n m p d n' m' p' d' = anyB n p d n' m' p' d' n := by simp [sameV, hr, hr']
      have e0 := (good_of hr).same
      rw [e]
      subst e0
      exact specSame_yes g1 g2 m n' m' v' p d p' d' hn' hm' w h1 h2 h' hr hr'

theorem implSame_any (g1 g2 n m n' m' : Nat) (v' : Value) (p d p' d' : Nat → Int) (hn : n ≤ maxLen) (hm : m ≤ maxLen) (hn' : n' ≤ maxLen) (hm' : m' ≤ maxLen) (w : World) (h1 : IAt w g1 0 n p) (h2 : IAt w g2 0 m d) (h' : ArgR w v' n' m' p' d') :
    Calls Try.prog 41 #[.agg #[.slice (some ⟨g1, 0, none⟩) n n, .slice (some ⟨g2, 0, none⟩) m m], v'] w (BothP w (sameV n m p d n' m' p' d') (rotB n m p d && rotB n' m' p' d')) := by
  have hv : ArgR w (.agg #[.slice (some ⟨g1, 0, none⟩) n n, .slice (some ⟨g2, 0, none⟩) m m]) n m p d := ⟨_, _, rfl, .inr ⟨_, _, _, rfl, h1⟩, .inr ⟨_, _, _, rfl, h2⟩⟩
  cases hr : rotB n m p d with
  | false =>
    have e : sameV n m p d n' m' p' d' = false := by simp [sameV, hr]
    rw [e]; exact implSame_bad1 _ v' n m n' m' p d p' d' hn hm w hv h' hr
  | true =>
    cases hr' : rotB n' m' p' d' with
    | false =>
      have e : sameV n m p d n' m' p' d' = false := by simp [sameV, hr']
      rw [e]; exact implSame_bad2 _ v' n m n' m' p d p' d' hn hm hn' hm' w hv h' hr hr'
    | true =>
      have e : sameV n m p d n' m' p' d' = anyB n p d n' m' p' d' n := by simp [sameV, hr, hr']
      have e0 := (good_of hr).same
      rw [e]
      subst e0
      exact implSame_yes g1 g2 m n' m' v' p d p' d' hn' hm' w h1 h2 h' hr hr'
end Go.Proofs.Ythpiahellpnccaa
