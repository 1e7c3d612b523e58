/-
  Proved here: the law FnExactPortsAhead returns true at every rotation and every int, and the rotation reads afterwards as it read before. There are no conditions.
-/
import Derived.Test.YthpiahellpnccaaRows
import Derived.Test.YthpiahellpnccaaOpen
import Derived.Test.YthpiahellpnccaaKeep
import Derived.Test.YthpiahellpnccaaInts
import Derived.WalkKit
import Derived.ProofKit
import Derived.OpenShut
namespace Go.Proofs.Ythpiahellpnccaa
open Go.Joins Go.Deep Go.ChangeShapes Go.WideShapes Go.ChangeAt Go.RowKit
set_option maxRecDepth 100000 in
set_option maxHeartbeats 2000000 in
theorem ahead_body (v : Value) (n m : Nat) (p d : Nat → Int) (l : List Int) (b : Bool) (hl : l.length ≤ 12) (i : Int) (hn : n ≤ maxLen) (hm : m ≤ maxLen) (w : World) (hv : ArgR w v n m p d)
    (hs : ∀ u W, ArgR W u n m p d → Calls Try.prog 24 #[u, .int .i64 i] W (RowP W l b))
    (hi : ∀ u W, ArgR W u n m p d → Calls Try.prog 23 #[u, .int .i64 i] W (RowP W l b)) :
    Calls Try.prog 9 #[v, .int .i64 i] w fun e w' => e = .returned (.bool true) ∧ Below w.heap.size w w' := by
  have HV := Lib.hid hv
  have HS := Lib.hid hs
  have HI := Lib.hid hi
  obtain ⟨v1, v2, rfl, -, -⟩ := hv
  clear hs hi
  go_enter Try.func9, Try.ntmps9
  go_wp2_with fail
  have c0 : (w.alloc (.cells #[v1, v2] 38)).cell? ⟨w.heap.size, 0, none⟩ = some v1 := by simp
  have c1 : (w.alloc (.cells #[v1, v2] 38)).cell? ⟨w.heap.size, 1, none⟩ = some v2 := by simp
  have hz : w.heap.size < (w.alloc (.cells #[v1, v2] 38)).heap.size := by simp
  have B0 := Lib.hid (below_one w (.cells #[v1, v2] 38))
  generalize w.alloc (.cells #[v1, v2] 38) = w0 at *
  refine (szR_any _ n m 1048576 p d hn hm (by decide) _ (HV.out.below B0.out)).mono ?_
  rintro e w1 ⟨hb1, rfl | ⟨r, rfl, hr, hn2, hm2⟩⟩
  · have B1 : Hid (Below w.heap.size w w1) := Lib.hid (B0.out.trans (hb1.mono B0.out.size))
    clear hb1
    go_wp2_with fail
    go_ret
    exact ⟨rfl, B1.out⟩
  · have B1 : Hid (Below w.heap.size w w1) := Lib.hid (B0.out.trans (hb1.mono B0.out.size))
    have d0 := (hb1.cell (p := ⟨w.heap.size, 0, none⟩) hz).trans c0
    have d1 := (hb1.cell (p := ⟨w.heap.size, 1, none⟩) hz).trans c1
    have hz1 := Nat.lt_of_lt_of_le hz hb1.size
    clear hb1 c0 c1 hz
    go_wp2_with fail
    refine (toR_any _ n m p d hn2 hm2 _ (HV.out.below B1.out)).mono ?_
    rintro e w2 ⟨g1, g2, rfl, -, -, hr1, hr2, hb2⟩
    have A2 : Hid (ArgR w2 _ n m p d) := Lib.hid ⟨_, _, rfl, hr1.arg, hr2.arg⟩
    have B2 : Hid (Below w.heap.size w w2) := Lib.hid (B1.out.trans (hb2.mono B1.out.size))
    have c0 := (hb2.cell (p := ⟨w.heap.size, 0, none⟩) hz1).trans d0
    have c1 := (hb2.cell (p := ⟨w.heap.size, 1, none⟩) hz1).trans d1
    have hz := Nat.lt_of_lt_of_le hz1 hb2.size
    clear hb2 d0 d1 hz1 hr1 hr2
    go_wp2_with fail
    refine (HS.out _ _ A2.out).mono ?_
    rintro e w3 ⟨u1, rfl, ho3, hb3⟩
    have R3 := Lib.hid (rowN_of_owns ho3)
    have L3 := Lib.hid (row_lt ho3)
    have B3 : Hid (Below w.heap.size w w3) := Lib.hid (B2.out.trans (hb3.mono B2.out.size))
    have d0 := (hb3.cell (p := ⟨w.heap.size, 0, none⟩) hz).trans c0
    have d1 := (hb3.cell (p := ⟨w.heap.size, 1, none⟩) hz).trans c1
    have hz1 := Nat.lt_of_lt_of_le hz hb3.size
    clear hb3 ho3 c0 c1 hz A2
    go_wp2_with fail
    refine (toR_any _ n m p d hn2 hm2 _ (HV.out.below B3.out)).mono ?_
    rintro e w4 ⟨k1, k2, rfl, hk1, hk2, hr1, hr2, hb4⟩
    have A4 : Hid (ArgR w4 (.agg #[.slice (some ⟨k1, 0, none⟩) n n, .slice (some ⟨k2, 0, none⟩) m m]) n m p d) := Lib.hid ⟨_, _, rfl, hr1.arg, hr2.arg⟩
    have P4 := Lib.hid hr1
    have D4 := Lib.hid hr2
    have R4 := Lib.hid (R3.out.below hb4)
    have Q1 := Lib.hid hk1
    have Q2 := Lib.hid hk2
    have Q3 := Lib.hid hr2.lt
    have B4 : Hid (Below w.heap.size w w4) := Lib.hid (B3.out.trans (hb4.mono B3.out.size))
    have c0 := (hb4.cell (p := ⟨w.heap.size, 0, none⟩) hz1).trans d0
    have c1 := (hb4.cell (p := ⟨w.heap.size, 1, none⟩) hz1).trans d1
    have hz := Nat.lt_of_lt_of_le hz1 hb4.size
    have HZ := Lib.hid hz1
    clear hb4 d0 d1 hz1 hr1 hr2 hk1 hk2
    go_wp2_with fail
    have c2 : (w4.alloc (.cells #[.slice (some ⟨k1, 0, none⟩) n n, .slice (some ⟨k2, 0, none⟩) m m] 26)).cell? ⟨w4.heap.size, 0, none⟩ = some (.slice (some ⟨k1, 0, none⟩) n n) := by simp
    have c3 : (w4.alloc (.cells #[.slice (some ⟨k1, 0, none⟩) n n, .slice (some ⟨k2, 0, none⟩) m m] 26)).cell? ⟨w4.heap.size, 1, none⟩ = some (.slice (some ⟨k2, 0, none⟩) m m) := by simp
    have hb5 := below_one w4 (.cells #[.slice (some ⟨k1, 0, none⟩) n n, .slice (some ⟨k2, 0, none⟩) m m] 26)
    have d0 := (hb5.cell (p := ⟨w.heap.size, 0, none⟩) hz).trans c0
    have d1 := (hb5.cell (p := ⟨w.heap.size, 1, none⟩) hz).trans c1
    have hz1 := Nat.lt_of_lt_of_le hz hb5.size
    have hy1 : w4.heap.size < (w4.alloc (.cells #[.slice (some ⟨k1, 0, none⟩) n n, .slice (some ⟨k2, 0, none⟩) m m] 26)).heap.size := by simp
    have A5 := Lib.hid (A4.out.below hb5)
    have P5 := Lib.hid (P4.out.below hb5)
    have D5 := Lib.hid (D4.out.below hb5)
    have R5 := Lib.hid (R4.out.below hb5)
    have B5 := Lib.hid (B4.out.trans (hb5.mono B4.out.size))
    clear hb5 c0 c1 hz A4 B4 P4 D4 R4
    generalize w4.alloc (.cells #[.slice (some ⟨k1, 0, none⟩) n n, .slice (some ⟨k2, 0, none⟩) m m] 26) = w5 at *
    refine (HI.out _ _ A5.out).mono ?_
    rintro e w6 ⟨u2, rfl, ho6, hb6⟩
    have A6 := Lib.hid (A5.out.below hb6)
    have P6 := Lib.hid (P5.out.below hb6)
    have D6 := Lib.hid (D5.out.below hb6)
    have R6 := Lib.hid (R5.out.below hb6)
    have S6 := Lib.hid (rowN_of_owns ho6)
    have L6 := Lib.hid (row_base ho6)
    have B6 : Hid (Below w.heap.size w w6) := Lib.hid (B5.out.trans (hb6.mono B5.out.size))
    have c0 := (hb6.cell (p := ⟨w.heap.size, 0, none⟩) hz1).trans d0
    have c1 := (hb6.cell (p := ⟨w.heap.size, 1, none⟩) hz1).trans d1
    have e2 := (hb6.cell (p := ⟨w4.heap.size, 0, none⟩) hy1).trans c2
    have e3 := (hb6.cell (p := ⟨w4.heap.size, 1, none⟩) hy1).trans c3
    have hz := Nat.lt_of_lt_of_le hz1 hb6.size
    have hy := Nat.lt_of_lt_of_le hy1 hb6.size
    have HY := Lib.hid hy1
    clear hb6 ho6 d0 d1 hz1 hy1 c2 c3 A5 B5 P5 D5 R5
    go_wp2_with fail
    refine (eqI_any u2 u1 l.length _ (by omega) _ S6.out.arg R6.out.arg).mono ?_
    rintro e w7 ⟨rfl, hb7⟩
    have P7 := Lib.hid (P6.out.below hb7)
    have D7 := Lib.hid (D6.out.below hb7)
    have R7 := Lib.hid (R6.out.below hb7)
    have S7 := Lib.hid (S6.out.below hb7)
    have B7 : Hid (Below w.heap.size w w7) := Lib.hid (B6.out.trans (hb7.mono B6.out.size))
    have d0 := (hb7.cell (p := ⟨w.heap.size, 0, none⟩) hz).trans c0
    have d1 := (hb7.cell (p := ⟨w.heap.size, 1, none⟩) hz).trans c1
    have y2 := (hb7.cell (p := ⟨w4.heap.size, 0, none⟩) hy).trans e2
    have y3 := (hb7.cell (p := ⟨w4.heap.size, 1, none⟩) hy).trans e3
    have K7 : Hid (KeepR w7 w.heap.size w4.heap.size v1 v2 (.slice (some ⟨k1, 0, none⟩) n n) (.slice (some ⟨k2, 0, none⟩) m m) n m p d w7) := Lib.hid ⟨Below.refl _ _, HV.out.below B7.out, A6.out.below hb7, Nat.lt_of_lt_of_le hz hb7.size, Nat.lt_of_lt_of_le hy hb7.size, d0, d1, y2, y3⟩
    clear hb7 c0 c1 hz hy e2 e3 A6 B6 P6 D6 R6 S6
    go_wp2_with fail
    have K8 := K7.out.drew
    go_region_held3 (fun W => (W.cell? ⟨w.heap.size, 0, none⟩ = some v1 ∧ W.cell? ⟨w.heap.size, 1, none⟩ = some v2 ∧ W.cell? ⟨w4.heap.size, 0, none⟩ = some (.slice (some ⟨k1, 0, none⟩) n n) ∧ W.cell? ⟨w4.heap.size, 1, none⟩ = some (.slice (some ⟨k2, 0, none⟩) m m)) ∧ KeepR w7 w.heap.size w4.heap.size v1 v2 (.slice (some ⟨k1, 0, none⟩) n n) (.slice (some ⟨k2, 0, none⟩) m m) n m p d W) (go_keep) (first | (go_at_call 29; refine (KeepR.to hn2 hm2 (by assumption)).mono ?_; rintro e w' ⟨u, rfl, hu, x0, x1, x2, x3, hK⟩) | (go_at_call 31; refine (KeepR.eq hn2 hm2 (by assumption) (by assumption)).mono ?_; rintro e w' ⟨rfl, x0, x1, x2, x3, hK⟩))
    have KF := Lib.hid hK
    have hb8 := hK.1
    have P8 := Lib.hid (P7.out.below hb8)
    have D8 := Lib.hid (D7.out.below hb8)
    have R8 := Lib.hid (R7.out.below hb8)
    have S8 := Lib.hid (S7.out.below hb8)
    have B8 : Hid (Below w.heap.size w w') := Lib.hid (B7.out.trans (hb8.mono B7.out.size))
    have hz8 := hK.2.2.2.1
    clear hK hu hb8 d0 d1 y2 y3 K8 B7 P7 D7 R7 S7
    rename World => wf
    have HX0 := Lib.hid x0
    have HX1 := Lib.hid x1
    have HZ8 := Lib.hid hz8
    clear hz8
    go_wp2_with fail
    have hne : k1 ≠ k2 := by have := Q2.out; omega
    refine (markR_any k1 k2 n m p d hn2 hm2 hne _ P8.out D8.out).mono ?_
    rintro e w9 ⟨rfl, wm, hg9, hg9'⟩
    have neU1 : ∀ j, u1.ownBlock = some j → j ≠ k1 ∧ j ≠ k2 := fun j e => by have := L3.out j e; have := Q1.out; have := Q2.out; omega
    have neU2 : ∀ j, u2.ownBlock = some j → j ≠ k1 ∧ j ≠ k2 := fun j e => by have := L6.out j e; have := Q2.out; have := Q3.out; have := HY.out; omega
    have R9 := Lib.hid ((R8.out.kept hg9 (fun j e e2 => (neU1 j e).1 (by injection e2))).kept hg9' (fun j e e2 => (neU1 j e).2 (by injection e2)))
    have S9 := Lib.hid ((S8.out.kept hg9 (fun j e e2 => (neU2 j e).1 (by injection e2))).kept hg9' (fun j e e2 => (neU2 j e).2 (by injection e2)))
    have B9 : Hid (Below w.heap.size w w9) := Lib.hid ((B8.out.grown hg9 B8.out.size (fun k e => by injection e with e; have := Q1.out; have := HZ.out; omega)).grown hg9' (Nat.le_trans B8.out.size hg9.size) (fun k e => by injection e with e; have := Q2.out; have := Q1.out; have := HZ.out; omega))
    have cell9 : ∀ q x, wf.cell? ⟨w.heap.size, q, none⟩ = some x → w9.cell? ⟨w.heap.size, q, none⟩ = some x := fun q x hx => by
      rw [World.cell?_of_block (hg9'.block _ (Nat.lt_of_lt_of_le HZ8.out hg9.size) (by have := Q1.out; have := Q2.out; have := HZ.out; simp; omega)), World.cell?_of_block (hg9.block _ HZ8.out (by have := Q1.out; have := HZ.out; simp; omega))]
      exact hx
    have C0 := Lib.hid (cell9 _ _ HX0.out)
    have C1 := Lib.hid (cell9 _ _ HX1.out)
    have Z9 := Lib.hid (Nat.lt_of_lt_of_le (Nat.lt_of_lt_of_le HZ8.out hg9.size) hg9'.size)
    clear hg9 hg9' cell9 x0 x1 x2 x3 neU1 neU2 hne
    go_wp2_with fail
    refine (eqI_any u2 u1 l.length _ (by omega) _ S9.out.arg R9.out.arg).mono ?_
    rintro e w10 ⟨rfl, hb10⟩
    have R10 := Lib.hid (R9.out.below hb10)
    have S10 := Lib.hid (S9.out.below hb10)
    have B10 : Hid (Below w.heap.size w w10) := Lib.hid (B9.out.trans (hb10.mono B9.out.size))
    have E0 := Lib.hid ((hb10.cell (p := ⟨w.heap.size, 0, none⟩) Z9.out).trans C0.out)
    have E1 := Lib.hid ((hb10.cell (p := ⟨w.heap.size, 1, none⟩) Z9.out).trans C1.out)
    have Z10 := Lib.hid (Nat.lt_of_lt_of_le Z9.out hb10.size)
    clear hb10
    have LL := Lib.hid hl
    have MK := Lib.hid (markN_one u2 l.length 1 _ (by omega) (by decide) (by decide) _ S10.out)
    have HK := Lib.hid (fun W h => heldN_one u2 l.length 1 (by omega) (by decide) (by decide) W h)
    have NE2 : Hid (∀ j, u1.ownBlock = some j → some j ≠ u2.ownBlock) := Lib.hid fun j e e2 => by
      have := L3.out j e; have := L6.out j e2.symm; have := Q1.out; have := Q2.out; have := Q3.out; have := HY.out; omega
    have NA2 : Hid (some w.heap.size ≠ u2.ownBlock) := Lib.hid fun e2 => by
      have := L6.out _ e2.symm; have := Q1.out; have := Q2.out; have := Q3.out; have := HY.out; have := HZ.out; omega
    simp only [Int.cast_ofNat_Int] at MK HK
    go_wp2_with fail
    refine MK.out.mono ?_
    rintro e w11 ⟨rfl, hm11, hg11⟩
    have M11 := Lib.hid hm11
    have R11 := Lib.hid (R10.out.kept hg11 NE2.out)
    have B11 : Hid (Below w.heap.size w w11) := Lib.hid (B10.out.grown hg11 B10.out.size (fun k e => by have := L6.out k e; have := Q1.out; have := Q2.out; have := Q3.out; have := HY.out; have := HZ.out; omega))
    have F0 := Lib.hid ((World.cell?_of_block (a := ⟨w.heap.size, 0, none⟩) (hg11.block _ Z10.out NA2.out)).trans E0.out)
    have F1 := Lib.hid ((World.cell?_of_block (a := ⟨w.heap.size, 1, none⟩) (hg11.block _ Z10.out NA2.out)).trans E1.out)
    have Z11 := Lib.hid (Nat.lt_of_lt_of_le Z10.out hg11.size)
    clear hm11 hg11
    go_wp2_with fail
    refine (HK.out _ M11.out).mono ?_
    rintro e w12 ⟨rfl, hb12⟩
    have M12 := Lib.hid (M11.out.below hb12)
    have R12 := Lib.hid (R11.out.below hb12)
    have B12 : Hid (Below w.heap.size w w12) := Lib.hid (B11.out.trans (hb12.mono B11.out.size))
    have c0 := (hb12.cell (p := ⟨w.heap.size, 0, none⟩) Z11.out).trans F0.out
    have c1 := (hb12.cell (p := ⟨w.heap.size, 1, none⟩) Z11.out).trans F1.out
    clear hb12
    go_wp2_with fail
    refine (toR_any _ n m p d hn2 hm2 _ (HV.out.below B12.out)).mono ?_
    rintro e w13 ⟨h1, h2, rfl, -, -, hr1, hr2, hb13⟩
    have A13 : Hid (ArgR w13 (.agg #[.slice (some ⟨h1, 0, none⟩) n n, .slice (some ⟨h2, 0, none⟩) m m]) n m p d) := Lib.hid ⟨_, _, rfl, hr1.arg, hr2.arg⟩
    have M13 := Lib.hid (M12.out.below hb13)
    have R13 := Lib.hid (R12.out.below hb13)
    have B13 : Hid (Below w.heap.size w w13) := Lib.hid (B12.out.trans (hb13.mono B12.out.size))
    clear hb13 hr1 hr2 c0 c1
    go_wp2_with fail
    refine (HI.out _ _ A13.out).mono ?_
    rintro e w14 ⟨u3, rfl, ho14, hb14⟩
    have S14 := Lib.hid (rowN_of_owns ho14)
    have M14 := Lib.hid (M13.out.below hb14)
    have R14 := Lib.hid (R13.out.below hb14)
    have B14 : Hid (Below w.heap.size w w14) := Lib.hid (B13.out.trans (hb14.mono B13.out.size))
    clear hb14 ho14
    go_wp2_with fail
    refine (eqI_any u3 u1 l.length _ (by omega) _ S14.out.arg R14.out.arg).mono ?_
    rintro e w15 ⟨rfl, hb15⟩
    have M15 := Lib.hid (M14.out.below hb15)
    have B15 : Hid (Below w.heap.size w w15) := Lib.hid (B14.out.trans (hb15.mono B14.out.size))
    clear hb15
    go_wp2_with fail
    refine (HK.out _ M15.out).mono ?_
    rintro e w16 ⟨rfl, hb16⟩
    have B16 : Hid (Below w.heap.size w w16) := Lib.hid (B15.out.trans (hb16.mono B15.out.size))
    clear hb16
    go_wp2_with fail
    go_ret
    exact ⟨rfl, B16.out⟩


set_option maxRecDepth 100000 in
theorem ahead_lifted (os : Os) (started : os.Started) (H : Type) (enc : TypeId × Value → H) :
    ReturnsInHanded {} Try.checked os 9 .any (Rows.fnExactPortsAheadSpec.pre6 enc Try.prog Try.f9 Rows.fnExactPortsAheadRow.domain false) (Rows.fnExactPortsAheadSpec.post enc Try.prog Try.f9 false true false false) := by
  refine returnsInHanded_of_change (C := Try.checked) rot_own started (by kernel_rfl) Try.func9
    (ChangeSpec.witness6 (enc := enc) (C := Try.checked) false ⟨#[], #[.agg #[.slice none 0 0, .slice none 0 0], .int .i64 0], []⟩ 8 (by kernel_rfl) (by kernel_rfl) (by kernel_rfl) (by kernel_rfl)) ?_
  intro W base args ds gs before hval0 hW hcnd0 _
  have hval : ∀ (j : Nat) t v, Try.f9.params[j]? = some t → args[j]? = some v → Value.okWide Try.prog W .any base t v := hval0
  have hW' := hW
  obtain ⟨p, q, hA0, hV, rfl, hfz, _⟩ := hW
  have hA : DataW.TrodAll enc Try.prog W 0 (fun _ => true) true Try.f9.params.toList args.toList ds p := hA0
  rw [Try.params9] at hA hval
  obtain ⟨v0, v1, d0, d1, p0, p1, rfl, rfl, rfl, h0, h1⟩ := trodAll_two hA
  obtain ⟨rfl, rfl⟩ := trodVars_none hV
  obtain ⟨x1, rfl, rfl, rfl, w1⟩ := open_int Try.underlying3 (hval 1 3 v1 rfl rfl) h1
  clear hA0 hval0 hcnd0
  simp only [List.append_nil] at hW'
  have hlt : ∀ x ∈ p0, x.block < W.heap.size := fun x hx => by simpa using hW'.lt x (by simpa using hx)
  obtain ⟨n, m, a, b, hn, hm, hv⟩ := open_rot (hval 0 38 v0 rfl rfl) h0 hlt
  refine (ahead_body v0 n m a b _ _ (aheadA_len n m a b x1) x1 hn hm W hv (fun u W h => specAhead_any u n m a b x1 hn hm W h) (fun u W h => implAhead_any u n m a b x1 hn hm W h)).mono fun e W' ⟨he, hB⟩ => ?_
  subst he
  refine ⟨_, rfl, _, _, _, [], p0, [], hW', ?_, ?_, rfl, hB.frame _, fun h => by cases h⟩
  · exact trodAll_mk1 (shut_bool Try.underlying4 true)
  · have h2 := trodAll_mk2 (Below.trod rot_laidOut (by kernel_rfl) (of_decide_eq_true (by kernel_rfl)) h0 hB hlt) (shut_int Try.underlying3 w1)
    rw [List.append_nil] at h2
    exact h2

theorem FnExactPortsAhead_holds : Rows.FnExactPortsAheadSaid :=
  OpenClaim.holds_of_wide 9 Try.f9 rfl rfl rfl rfl rfl rfl rfl ⟨rfl, rfl, rfl, rfl, rfl⟩ rfl rfl rfl rfl rfl (by kernel_rfl) Try.func9 (by kernel_rfl)
    (of_decide_eq_true (by kernel_rfl)) (by unfold Func.isWrapper; first | (rw [if_pos (by decide +kernel)]; kernel_rfl) | (rw [if_neg (by decide +kernel)]; exact ⟨rfl, rfl⟩))
    (fun os started H enc _ => ahead_lifted os started H enc)
#print axioms FnExactPortsAhead_holds
end Go.Proofs.Ythpiahellpnccaa
