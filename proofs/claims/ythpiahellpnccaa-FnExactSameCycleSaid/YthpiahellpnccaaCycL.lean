/-
  Proved here: the law FnExactSameCycle returns true at every two rotations, and both read afterwards as they read before. There are no conditions.
-/
import Derived.Test.YthpiahellpnccaaRows
import Derived.Test.YthpiahellpnccaaOpen
import Derived.Test.YthpiahellpnccaaKeep
import Derived.Test.YthpiahellpnccaaCyc
import Derived.WalkKit
import Derived.ProofKit
import Derived.OpenShut
namespace Go.Proofs.Ythpiahellpnccaa
open Go.Joins Go.Deep Go.ChangeShapes Go.WideShapes Go.ChangeAt Go.RowKit
theorem row_at {W : World} {g c n : Nat} {f : Nat → Int} (h : RowI W g c n f) : IAt W g 0 n f := ⟨h.lt, fun j hj => by rw [Nat.zero_add]; exact h.cell j hj⟩
/-- What stays while the two rotations are copied. -/
def Keep2 (w : World) (A B : Nat) (v1 v2 y1 y2 : Value) (n m : Nat) (p d : Nat → Int) (n' m' : Nat) (p' d' : Nat → Int) (W : World) : Prop := Below w.heap.size w W ∧ ArgR w (.agg #[v1, v2]) n m p d ∧ ArgR w (.agg #[y1, y2]) n' m' p' d' ∧ Box W A v1 v2 ∧ Box W B y1 y2
theorem Keep2.below {w W W' : World} {A B : Nat} {v1 v2 y1 y2 : Value} {n m : Nat} {p d : Nat → Int} {n' m' : Nat} {p' d' : Nat → Int} (h : Keep2 w A B v1 v2 y1 y2 n m p d n' m' p' d' W) (hb : Below W.heap.size W W') : Keep2 w A B v1 v2 y1 y2 n m p d n' m' p' d' W' :=
  ⟨h.1.trans (hb.mono h.1.size), h.2.1, h.2.2.1, h.2.2.2.1.below hb, h.2.2.2.2.below hb⟩
theorem Keep2.to1 {w W : World} {A B : Nat} {v1 v2 y1 y2 : Value} {n m : Nat} {p d : Nat → Int} {n' m' : Nat} {p' d' : Nat → Int} (hn : n ≤ 1048576) (hm : m ≤ 1048576) (h : Keep2 w A B v1 v2 y1 y2 n m p d n' m' p' d' W) :
    Calls Try.prog 29 #[.agg #[v1, v2]] W fun e w' => ∃ g1 g2, e = .returned (.agg #[.slice (some ⟨g1, 0, none⟩) n n, .slice (some ⟨g2, 0, none⟩) m m]) ∧ RowI w' g1 n n p ∧ RowI w' g2 m m d ∧ (w'.cell? ⟨A, 0, none⟩ = some v1 ∧ w'.cell? ⟨A, 1, none⟩ = some v2 ∧ w'.cell? ⟨B, 0, none⟩ = some y1 ∧ w'.cell? ⟨B, 1, none⟩ = some y2) ∧ Keep2 w A B v1 v2 y1 y2 n m p d n' m' p' d' w' ∧ Below W.heap.size W w' := by
  refine (toR_any _ n m p d hn hm W (h.2.1.below h.1)).mono ?_
  rintro e w' ⟨g1, g2, rfl, -, -, hr1, hr2, hb⟩
  have hk := h.below hb
  exact ⟨g1, g2, rfl, hr1, hr2, ⟨hk.2.2.2.1.2.1, hk.2.2.2.1.2.2, hk.2.2.2.2.2.1, hk.2.2.2.2.2.2⟩, hk, hb⟩
theorem Keep2.to2 {w W : World} {A B : Nat} {v1 v2 y1 y2 : Value} {n m : Nat} {p d : Nat → Int} {n' m' : Nat} {p' d' : Nat → Int} (hn : n' ≤ 1048576) (hm : m' ≤ 1048576) (h : Keep2 w A B v1 v2 y1 y2 n m p d n' m' p' d' W) :
    Calls Try.prog 29 #[.agg #[y1, y2]] W fun e w' => ∃ g1 g2, e = .returned (.agg #[.slice (some ⟨g1, 0, none⟩) n' n', .slice (some ⟨g2, 0, none⟩) m' m']) ∧ RowI w' g1 n' n' p' ∧ RowI w' g2 m' m' d' ∧ (w'.cell? ⟨A, 0, none⟩ = some v1 ∧ w'.cell? ⟨A, 1, none⟩ = some v2 ∧ w'.cell? ⟨B, 0, none⟩ = some y1 ∧ w'.cell? ⟨B, 1, none⟩ = some y2) ∧ Keep2 w A B v1 v2 y1 y2 n m p d n' m' p' d' w' ∧ Below W.heap.size W w' := by
  refine (toR_any _ n' m' p' d' hn hm W (h.2.2.1.below h.1)).mono ?_
  rintro e w' ⟨g1, g2, rfl, -, -, hr1, hr2, hb⟩
  have hk := h.below hb
  exact ⟨g1, g2, rfl, hr1, hr2, ⟨hk.2.2.2.1.2.1, hk.2.2.2.1.2.2, hk.2.2.2.2.2.1, hk.2.2.2.2.2.2⟩, hk, hb⟩
theorem box_cells {W : World} {A B : Nat} {v1 v2 y1 y2 : Value} (h1 : Box W A v1 v2) (h2 : Box W B y1 y2) : W.cell? ⟨A, 0, none⟩ = some v1 ∧ W.cell? ⟨A, 1, none⟩ = some v2 ∧ W.cell? ⟨B, 0, none⟩ = some y1 ∧ W.cell? ⟨B, 1, none⟩ = some y2 := ⟨h1.2.1, h1.2.2, h2.2.1, h2.2.2⟩
theorem two_box38 (w : World) (v1 v2 y1 y2 : Value) : Box ((w.alloc (.cells #[v1, v2] 38)).alloc (.cells #[y1, y2] 38)) w.heap.size v1 v2 ∧ Box ((w.alloc (.cells #[v1, v2] 38)).alloc (.cells #[y1, y2] 38)) (w.heap.size + 1) y1 y2 := by
  have h := Box.new (w.alloc (.cells #[v1, v2] 38)) y1 y2 38
  rw [show (w.alloc (.cells #[v1, v2] 38)).heap.size = w.heap.size + 1 by simp] at h
  exact ⟨(Box.new w v1 v2 38).below (below_one _ _), h⟩

set_option maxRecDepth 100000 in
set_option maxHeartbeats 8000000 in
theorem cyc_body (v v' : Value) (n m n' m' : Nat) (p d p' d' : Nat → Int) (hn : n ≤ maxLen) (hm : m ≤ maxLen) (hn' : n' ≤ maxLen) (hm' : m' ≤ maxLen) (w : World) (hv : ArgR w v n m p d) (hv' : ArgR w v' n' m' p' d') :
    Calls Try.prog 11 #[v, v'] w fun e w' => e = .returned (.bool true) ∧ Below w.heap.size w w' := by
  have HV := Lib.hid hv
  have HW := Lib.hid hv'
  obtain ⟨v1, v2, rfl, -, -⟩ := hv
  obtain ⟨y1, y2, rfl, -, -⟩ := hv'
  go_enter Try.func11, Try.ntmps11
  go_wp2_with fail
  have HB0 : Hid (Below w.heap.size w ((w.alloc (.cells #[v1, v2] 38)).alloc (.cells #[y1, y2] 38))) := Lib.hid (((Below.refl _ _).alloc (Nat.le_refl _) _).alloc (by simp) _)
  have E0 := Lib.hid (two_box38 w v1 v2 y1 y2)
  generalize (w.alloc (.cells #[v1, v2] 38)).alloc (.cells #[y1, y2] 38) = w0 at *
  refine (szR_any _ n m 1048576 p d hn hm (by decide) _ (HV.out.below HB0.out)).mono ?_
  rintro e w1 ⟨hb1, rfl | ⟨r, rfl, hr, hn2, hm2⟩⟩
  · have B1 : Hid (Below w.heap.size w w1) := Lib.hid (HB0.out.trans (hb1.mono HB0.out.size))
    clear hb1
    go_wp2_with fail
    go_ret
    exact ⟨rfl, B1.out⟩
  · have B1 : Hid (Below w.heap.size w w1) := Lib.hid (HB0.out.trans (hb1.mono HB0.out.size))
    have XA := Lib.hid (E0.out.1.below hb1)
    have XB := Lib.hid (E0.out.2.below hb1)
    clear hb1
    obtain ⟨-, b0, b1⟩ := XB.out
    go_wp2_with fail
    refine (szR_any _ n' m' r p' d' hn' hm' hr _ (HW.out.below B1.out)).mono ?_
    rintro e w2 ⟨hb2, rfl | ⟨r2, rfl, hr2, hn3, hm3⟩⟩
    · have B2 : Hid (Below w.heap.size w w2) := Lib.hid (B1.out.trans (hb2.mono B1.out.size))
      clear hb2 b0 b1
      go_wp2_with fail
      go_ret
      exact ⟨rfl, B2.out⟩
    · have B2 : Hid (Below w.heap.size w w2) := Lib.hid (B1.out.trans (hb2.mono B1.out.size))
      have YA := Lib.hid (XA.out.below hb2)
      have YB := Lib.hid (XB.out.below hb2)
      have KK : Hid (Keep2 w2 w.heap.size (w.heap.size + 1) v1 v2 y1 y2 n m p d n' m' p' d' w2) := Lib.hid ⟨Below.refl _ _, HV.out.below B2.out, HW.out.below B2.out, YA.out, YB.out⟩
      clear hb2 b0 b1
      obtain ⟨-, a0, a1⟩ := YA.out
      obtain ⟨-, b0, b1⟩ := YB.out
      go_wp2_with fail
      have KD : Keep2 w2 w.heap.size (w.heap.size + 1) v1 v2 y1 y2 n m p d n' m' p' d' w2.drew := KK.out.below ⟨rfl, rfl, rfl, Nat.le_refl _, fun _ _ => rfl⟩
      go_region_held3 (fun W => (W.cell? ⟨w.heap.size, 0, none⟩ = some v1 ∧ W.cell? ⟨w.heap.size, 1, none⟩ = some v2 ∧ W.cell? ⟨w.heap.size + 1, 0, none⟩ = some y1 ∧ W.cell? ⟨w.heap.size + 1, 1, none⟩ = some y2) ∧ Keep2 w2 w.heap.size (w.heap.size + 1) v1 v2 y1 y2 n m p d n' m' p' d' W) (first | (exact ⟨by assumption, by assumption⟩) | go_keep) (first | (go_at_call 29; (with_reducible refine (Keep2.to1 hn2 hm2 (by assumption)).mono ?_); rintro e wA ⟨g1, g2, rfl, R1, R2, cA, hKA, hbA⟩) | (go_at_call 29; (with_reducible refine (Keep2.to2 hn3 hm3 (by assumption)).mono ?_); rintro e wB ⟨g3, g4, rfl, R3, R4, cB, hKB, hbB⟩) | (go_at_call 40; refine (specSame_any g1 g2 n m n' m' _ p d p' d' hn hm hn' hm' _ (row_at (R1.below hbB)) (row_at (R2.below hbB)) ⟨_, _, rfl, R3.arg, R4.arg⟩).mono ?_; rintro e wC ⟨rfl, hbC⟩; have hKC := hKB.below hbC; have cC := box_cells hKC.2.2.2.1 hKC.2.2.2.2) | fail)
      rename World => wc
      have C3 := Lib.hid hKC.2.2.2.1
      have D3 := Lib.hid hKC.2.2.2.2
      have B3 : Hid (Below w.heap.size w wc) := Lib.hid (B2.out.trans (hKC.1.mono B2.out.size))
      have HI := Lib.hid (fun k1 k2 u W h1 h2 h3 => implSame_any k1 k2 n m n' m' u p d p' d' hn hm hn' hm' W h1 h2 h3)
      generalize sameV n m p d n' m' p' d' = x at *
      generalize (rotB n m p d && rotB n' m' p' d') = b at *
      clear hKC cC hKB cB hKA cA hbA hbB hbC R1 R2 R3 R4 KD a0 a1 b0 b1
      obtain ⟨-, a0, a1⟩ := C3.out
      go_wp2_with fail
      refine (toR_any _ n m p d hn2 hm2 _ (HV.out.below B3.out)).mono ?_
      rintro e w4 ⟨k1, k2, rfl, -, -, hr1, hr2, hb4⟩
      have hb5 := below_one w4 (.cells #[.slice (some ⟨k1, 0, none⟩) n n, .slice (some ⟨k2, 0, none⟩) m m] 26)
      have X5 := Lib.hid (Box.new w4 (.slice (some ⟨k1, 0, none⟩) n n) (.slice (some ⟨k2, 0, none⟩) m m) 26)
      have P5 := Lib.hid (hr1.below hb5)
      have Q5 := Lib.hid (hr2.below hb5)
      have C5 := Lib.hid ((C3.out.below hb4).below hb5)
      have D5 := Lib.hid ((D3.out.below hb4).below hb5)
      have B4 : Hid (Below w.heap.size w w4) := Lib.hid (B3.out.trans (hb4.mono B3.out.size))
      have B5 := Lib.hid (B4.out.trans (hb5.mono B4.out.size))
      clear hb4 hb5 hr1 hr2 a0 a1
      obtain ⟨-, b0, b1⟩ := D5.out
      go_wp2_with fail
      generalize w4.alloc (.cells #[.slice (some ⟨k1, 0, none⟩) n n, .slice (some ⟨k2, 0, none⟩) m m] 26) = w5 at *
      refine (toR_any _ n' m' p' d' hn3 hm3 _ (HW.out.below B5.out)).mono ?_
      rintro e w6 ⟨k3, k4, rfl, -, -, hr1, hr2, hb6⟩
      have hb7 := below_one w6 (.cells #[.slice (some ⟨k3, 0, none⟩) n' n', .slice (some ⟨k4, 0, none⟩) m' m'] 26)
      have Y7 := Lib.hid (Box.new w6 (.slice (some ⟨k3, 0, none⟩) n' n') (.slice (some ⟨k4, 0, none⟩) m' m') 26)
      have R7 := Lib.hid (hr1.below hb7)
      have T7 := Lib.hid (hr2.below hb7)
      have X7 := Lib.hid ((X5.out.below hb6).below hb7)
      have P7 := Lib.hid ((P5.out.below hb6).below hb7)
      have Q7 := Lib.hid ((Q5.out.below hb6).below hb7)
      have C7 := Lib.hid ((C5.out.below hb6).below hb7)
      have D7 := Lib.hid ((D5.out.below hb6).below hb7)
      have B6 : Hid (Below w.heap.size w w6) := Lib.hid (B5.out.trans (hb6.mono B5.out.size))
      have B7 := Lib.hid (B6.out.trans (hb7.mono B6.out.size))
      clear hb6 hb7 hr1 hr2 b0 b1
      obtain ⟨-, a0, a1⟩ := X7.out
      obtain ⟨-, b0, b1⟩ := Y7.out
      go_wp2_with fail
      generalize w6.alloc (.cells #[.slice (some ⟨k3, 0, none⟩) n' n', .slice (some ⟨k4, 0, none⟩) m' m'] 26) = w7 at *
      refine (HI.out k1 k2 _ _ (row_at P7.out) (row_at Q7.out) ⟨_, _, rfl, R7.out.arg, T7.out.arg⟩).mono ?_
      rintro e w8 ⟨rfl, hb8⟩
      have X8 := Lib.hid (X7.out.below hb8)
      have Y8 := Lib.hid (Y7.out.below hb8)
      have C8 := Lib.hid (C7.out.below hb8)
      have D8 := Lib.hid (D7.out.below hb8)
      have P8 := Lib.hid (P7.out.below hb8)
      have Q8 := Lib.hid (Q7.out.below hb8)
      have R8 := Lib.hid (R7.out.below hb8)
      have T8 := Lib.hid (T7.out.below hb8)
      have B8 : Hid (Below w.heap.size w w8) := Lib.hid (B7.out.trans (hb8.mono B7.out.size))
      clear hb8 a0 a1 b0 b1 X7 Y7 C7 D7 P7 Q7 R7 T7
      have K8 : Hid (KeepR w8 w.heap.size w4.heap.size v1 v2 (.slice (some ⟨k1, 0, none⟩) n n) (.slice (some ⟨k2, 0, none⟩) m m) n m p d w8) := Lib.hid ⟨Below.refl _ _, HV.out.below B8.out, ⟨_, _, rfl, P8.out.arg, Q8.out.arg⟩, C8.out.1, X8.out.1, C8.out.2.1, C8.out.2.2, X8.out.2.1, X8.out.2.2⟩
      obtain ⟨-, a0, a1⟩ := C8.out
      obtain ⟨-, b0, b1⟩ := X8.out
      go_wp2_with fail
      have KE := K8.out.drew
      go_region_held3 (fun W => (W.cell? ⟨w.heap.size, 0, none⟩ = some v1 ∧ W.cell? ⟨w.heap.size, 1, none⟩ = some v2 ∧ W.cell? ⟨w4.heap.size, 0, none⟩ = some (.slice (some ⟨k1, 0, none⟩) n n) ∧ W.cell? ⟨w4.heap.size, 1, none⟩ = some (.slice (some ⟨k2, 0, none⟩) m m)) ∧ KeepR w8 (w.heap.size) (w4.heap.size) v1 v2 (.slice (some ⟨k1, 0, none⟩) n n) (.slice (some ⟨k2, 0, none⟩) m m) n m p d W) (go_keep) (first | (go_at_call 29; refine (KeepR.to hn2 hm2 (by assumption)).mono ?_; rintro e w' ⟨u, rfl, hu, f0, f1, f2, f3, hK⟩) | (go_at_call 31; refine (KeepR.eq hn2 hm2 (by assumption) (by assumption)).mono ?_; rintro e w' ⟨rfl, f0, f1, f2, f3, hK⟩))
      have hb9 := hK.1
      rename World => w9
      have Y9 := Lib.hid (Y8.out.below hb9)
      have D9 := Lib.hid (D8.out.below hb9)
      have R9 := Lib.hid (R8.out.below hb9)
      have T9 := Lib.hid (T8.out.below hb9)
      have B9 : Hid (Below w.heap.size w w9) := Lib.hid (B8.out.trans (hb9.mono B8.out.size))
      clear hK hu f0 f1 f2 f3 hb9 KE a0 a1 b0 b1
      have K9 : Hid (KeepR w9 (w.heap.size + 1) w6.heap.size y1 y2 (.slice (some ⟨k3, 0, none⟩) n' n') (.slice (some ⟨k4, 0, none⟩) m' m') n' m' p' d' w9) := Lib.hid ⟨Below.refl _ _, HW.out.below B9.out, ⟨_, _, rfl, R9.out.arg, T9.out.arg⟩, D9.out.1, Y9.out.1, D9.out.2.1, D9.out.2.2, Y9.out.2.1, Y9.out.2.2⟩
      obtain ⟨-, a0, a1⟩ := D9.out
      obtain ⟨-, b0, b1⟩ := Y9.out
      go_wp2_with fail
      have KE := K9.out.drew
      go_region_held3 (fun W => (W.cell? ⟨w.heap.size + 1, 0, none⟩ = some y1 ∧ W.cell? ⟨w.heap.size + 1, 1, none⟩ = some y2 ∧ W.cell? ⟨w6.heap.size, 0, none⟩ = some (.slice (some ⟨k3, 0, none⟩) n' n') ∧ W.cell? ⟨w6.heap.size, 1, none⟩ = some (.slice (some ⟨k4, 0, none⟩) m' m')) ∧ KeepR w9 (w.heap.size + 1) (w6.heap.size) y1 y2 (.slice (some ⟨k3, 0, none⟩) n' n') (.slice (some ⟨k4, 0, none⟩) m' m') n' m' p' d' W) (go_keep) (first | (go_at_call 29; refine (KeepR.to hn3 hm3 (by assumption)).mono ?_; rintro e w' ⟨u, rfl, hu, f0, f1, f2, f3, hK⟩) | (go_at_call 31; refine (KeepR.eq hn3 hm3 (by assumption) (by assumption)).mono ?_; rintro e w' ⟨rfl, f0, f1, f2, f3, hK⟩))
      have BF := Lib.hid (B9.out.trans (hK.1.mono B9.out.size))
      clear hK hu f0 f1 f2 f3 KE a0 a1 b0 b1
      go_wp2_with fail
      go_ret
      exact ⟨rfl, BF.out⟩


set_option maxRecDepth 100000 in
theorem cyc_lifted (os : Os) (started : os.Started) (H : Type) (enc : TypeId × Value → H) :
    ReturnsInHanded {} Try.checked os 11 .any (Rows.fnExactSameCycleSpec.pre6 enc Try.prog Try.f11 Rows.fnExactSameCycleRow.domain false) (Rows.fnExactSameCycleSpec.post enc Try.prog Try.f11 false true false false) := by
  refine returnsInHanded_of_change (C := Try.checked) rot_own started (by kernel_rfl) Try.func11
    (ChangeSpec.witness6 (enc := enc) (C := Try.checked) false ⟨#[], #[.agg #[.slice none 0 0, .slice none 0 0], .agg #[.slice none 0 0, .slice none 0 0]], []⟩ 8 (by kernel_rfl) (by kernel_rfl) (by kernel_rfl) (by kernel_rfl)) ?_
  intro W base args ds gs before hval0 hW hcnd0 _
  have hval : ∀ (j : Nat) t v, Try.f11.params[j]? = some t → args[j]? = some v → Value.okWide Try.prog W .any base t v := hval0
  have hW' := hW
  obtain ⟨p, q, hA0, hV, rfl, hfz, _⟩ := hW
  have hA : DataW.TrodAll enc Try.prog W 0 (fun _ => true) true Try.f11.params.toList args.toList ds p := hA0
  rw [Try.params11] at hA hval
  obtain ⟨v0, v1, d0, d1, p0, p1, rfl, rfl, rfl, h0, h1⟩ := trodAll_two hA
  obtain ⟨rfl, rfl⟩ := trodVars_none hV
  clear hA0 hval0 hcnd0
  simp only [List.append_nil] at hW'
  have hlt : ∀ x ∈ p0 ++ p1, x.block < W.heap.size := fun x hx => by simpa using hW'.lt x (by simpa using hx)
  have hlt0 : ∀ x ∈ p0, x.block < W.heap.size := fun x hx => hlt x (List.mem_append_left _ hx)
  have hlt1 : ∀ x ∈ p1, x.block < W.heap.size := fun x hx => hlt x (List.mem_append_right _ hx)
  obtain ⟨n, m, a, b, hn, hm, hv⟩ := open_rot (hval 0 38 v0 rfl rfl) h0 hlt0
  obtain ⟨n', m', a', b', hn', hm', hv'⟩ := open_rot (hval 1 38 v1 rfl rfl) h1 hlt1
  refine (cyc_body v0 v1 n m n' m' a b a' b' hn hm hn' hm' W hv hv').mono fun e W' ⟨he, hB⟩ => ?_
  subst he
  refine ⟨_, rfl, _, _, _, [], p0 ++ p1, [], hW', ?_, ?_, rfl, hB.frame _, fun h => by cases h⟩
  · exact trodAll_mk1 (shut_bool Try.underlying4 true)
  · exact trodAll_mk2 (Below.trod rot_laidOut (by kernel_rfl) (of_decide_eq_true (by kernel_rfl)) h0 hB hlt0) (Below.trod rot_laidOut (by kernel_rfl) (of_decide_eq_true (by kernel_rfl)) h1 hB hlt1)

theorem FnExactSameCycle_holds : Rows.FnExactSameCycleSaid :=
  OpenClaim.holds_of_wide 11 Try.f11 rfl rfl rfl rfl rfl rfl rfl ⟨rfl, rfl, rfl, rfl, rfl⟩ rfl rfl rfl rfl rfl (by kernel_rfl) Try.func11 (by kernel_rfl)
    (of_decide_eq_true (by kernel_rfl)) (by unfold Func.isWrapper; first | (rw [if_pos (by decide +kernel)]; kernel_rfl) | (rw [if_neg (by decide +kernel)]; exact ⟨rfl, rfl⟩))
    (fun os started H enc _ => cyc_lifted os started H enc)
#print axioms FnExactSameCycle_holds
end Go.Proofs.Ythpiahellpnccaa
