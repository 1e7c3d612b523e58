/-
  Proved here: the law FnStacks returns true at every list of bytes, and the list reads afterwards as it read before. There are no conditions.
-/
import Derived.Test.YtdnbkfpcmjijlaaRows
import Derived.Test.YtdnbkfpcmjijlaaDPut
import Derived.Test.YtdnbkfpcmjijlaaStkM
import Derived.Test.YtdnbkfpcmjijlaaPutI
import Derived.Test.YtdnbkfpcmjijlaaPutS
import Derived.Test.YtdnbkfpcmjijlaaTakeI
import Derived.Test.YtdnbkfpcmjijlaaGoodI
import Derived.Test.YtdnbkfpcmjijlaaBlockI
import Derived.Test.YtdnbkfpcmjijlaaVEq
import Derived.Deep.RegionHeld3
import Derived.WalkKit
import Derived.ProofKit
import Derived.OpenShut
import Derived.SizedLaws
namespace Go.Proofs.Ytdnbkfpcmjijlaa
open Go.ChangeShapes Go.WideShapes Go.ChangeAt Go.RowKit

theorem vBig_any (a : Option Addr) (len cap : Nat) (w : World) (hl : len ≤ maxLen) (b : Bool) (hb : decide (65536 < len) = b) : Calls Try.prog 14 #[.slice a len cap] w fun e w' => e = .returned (.bool b) ∧ w = w' := by
  unfold maxLen at hl
  subst hb
  by_cases h : 65536 < len
  · go_enter Try.func14, Try.ntmps14
    go_wp2_with fail
    go_ret
    exact ⟨by rw [show decide (65536 < len) = decide ((65536 : Int) < (len : Int)) from decide_eq_decide.2 (by omega)]; first | rfl | simp, rfl⟩
  · go_enter Try.func14, Try.ntmps14
    go_wp2_with fail
    go_ret
    exact ⟨by rw [show decide (65536 < len) = decide ((65536 : Int) < (len : Int)) from decide_eq_decide.2 (by omega)]; first | rfl | simp, rfl⟩

theorem tot5 {Y : List (List Int)} (h7 : Y.length ≤ 7) (h5 : D.rows5 Y) : tot Y ≤ 35 := by have := tot_bound 5 Y h5; omega

set_option maxRecDepth 100000 in
set_option maxHeartbeats 2000000 in
theorem st_big (a : Option Addr) (len cap : Nat) (w : World) (h : 65536 < len) (hl : len ≤ maxLen) :
    Calls Try.prog 3 #[.slice a len cap] w fun e w' => e = .returned (.bool true) ∧ w' = w := by
  go_enter Try.func3, Try.ntmps3
  go_wp2_with fail
  refine (vBig_any a len cap _ hl true (by simpa using h)).mono ?_
  rintro e w1 ⟨rfl, rfl⟩
  go_wp2_with fail
  go_ret
  exact ⟨rfl, rfl⟩

/-- The drawn yard and the yard with a number more lie in their boxes. -/
def StS (w : World) (b1 b2 : Nat) (u1 u2 : Value) (Y M : List (List Int)) (B hi : Nat) (W : World) : Prop :=
  Below w.heap.size w W ∧ Box1 W b1 u1 ∧ Box1 W b2 u2 ∧ YL W u1 Y ∧ OwnY W B hi u2 M
theorem StS.below {w W W' : World} {b1 b2 B hi : Nat} {u1 u2 : Value} {Y M : List (List Int)} (h : StS w b1 b2 u1 u2 Y M B hi W) (hb : Below W.heap.size W W') : StS w b1 b2 u1 u2 Y M B hi W' :=
  ⟨h.1.trans (hb.mono h.1.size), h.2.1.below hb, h.2.2.1.below hb, h.2.2.2.1.below hb, h.2.2.2.2.below hb⟩
theorem StS.y {w W : World} {b1 b2 B hi : Nat} {u1 u2 : Value} {Y M : List (List Int)} (h : StS w b1 b2 u1 u2 Y M B hi W) : YdR W (.agg #[u1]) Y := ⟨_, rfl, h.2.2.2.1⟩
theorem StS.m {w W : World} {b1 b2 B hi : Nat} {u1 u2 : Value} {Y M : List (List Int)} (h : StS w b1 b2 u1 u2 Y M B hi W) : YdR W (.agg #[u2]) M := ⟨_, rfl, h.2.2.2.2.yl⟩
theorem StS.o {w W : World} {b1 b2 B hi : Nat} {u1 u2 : Value} {Y M : List (List Int)} (h : StS w b1 b2 u1 u2 Y M B hi W) : YdO W B hi (.agg #[u2]) M := ⟨_, rfl, h.2.2.2.2⟩
set_option maxRecDepth 100000 in
set_option maxHeartbeats 8000000 in
theorem st_small (a : Option Addr) (len cap : Nat) (w : World) (h : D.CodeArg w a len) :
    Calls Try.prog 3 #[.slice a len cap] w fun e w' => e = .returned (.bool true) ∧ Below w.heap.size w w' := by
  have HD := Lib.hid (D.drawPut_any a len cap w h)
  have HV := Lib.hid (vBig_any a len cap w (by have := h.1; unfold maxLen; omega) false (by simpa using h.1))
  clear h
  go_enter Try.func3, Try.ntmps3
  go_wp2_with fail
  refine HV.out.mono ?_
  rintro e w1 ⟨rfl, rfl⟩
  go_wp2_with fail
  refine HD.out.mono ?_
  rintro e w1 ⟨a1, c1, Y, s, x, rfl, hy7, hy5, ho, hb⟩
  have hyt : tot Y ≤ 1048576 := by have := tot5 hy7 hy5; omega
  have hyn : Y.length ≤ 1048576 := by omega
  obtain ⟨hMn, hMt⟩ := putR_small Y s x
  have HF := Lib.hid (fun h => put_facts (Y := Y) (s := s) (x := x) h)
  have HZ : Hid (okP Y s x = false → (putR Y s x).length = 0) := Lib.hid fun h => by rw [putR_no h]; rfl
  have P1 := Lib.hid (fun v W (h : YdR W v Y) => implPut_any v Y s x hyn hyt W h)
  have P2 := Lib.hid (fun v W (h : YdR W v Y) => specPut_any v Y s x hyn hyt W h)
  have P3 := Lib.hid (fun v1 v2 W (h1 : YdR W v1 (putR Y s x)) (h2 : YdR W v2 (putR Y s x)) => vYard_any v1 v2 (putR Y s x) (putR Y s x) hMn hMn hMt hMt W h1 h2)
  have P4 := Lib.hid (fun v W (h : YdR W v Y) => implValid_any v Y (small_len hyn) (small_rows hyt) W h)
  have P5 := Lib.hid (fun v W (h : YdR W v Y) => specValid_any v Y hyn hyt W h)
  have P6 := Lib.hid (fun v W (h : YdR W v (putR Y s x)) => implTop_any v (putR Y s x) s hMn hMt W h)
  have P7 := Lib.hid (fun v W (h : YdR W v (putR Y s x)) => implPlace_any v (putR Y s x) x hMn hMt W h)
  have P8 := Lib.hid (fun v W (h : YdR W v (putR Y s x)) => implTake_any v (putR Y s x) x hMn hMt W h)
  have P9 := Lib.hid (fun v B hi W (h : YdO W B hi v (putR Y s x)) => implBlockers_any v (putR Y s x) x B hi hMn hMt W h)
  have PA := Lib.hid (fun v W (h : YdR W v Y) => implFree_any v Y hyn hyt W h)
  have PB := Lib.hid (fun v W (h : YdR W v (putR Y s x)) => implFree_any v (putR Y s x) hMn hMt W h)
  have PC := Lib.hid (fun v W (h : YdR W v (putR Y s x)) => implHeights_any v (putR Y s x) hMn hMt W h)
  have PD := Lib.hid (fun v1 v2 W (h1 : YdR W v1 Y) (h2 : YdR W v2 Y) => vYard_any v1 v2 Y Y hyn hyn hyt hyt W h1 h2)
  have HY := Lib.hid (show YdR w1 (.agg #[.slice a1 Y.length c1]) Y from ⟨_, rfl, ho.yl⟩)
  have HB := Lib.hid hb
  rw [show decide (putR Y s x = putR Y s x) = true by simp] at P3
  rw [show decide (Y = Y) = true by simp] at PD
  generalize okP Y s x = ok at *
  generalize putR Y s x = M at *
  generalize hky : Y.length = ky at *
  generalize hkm : M.length = km at *
  have HKY := Lib.hid hky
  have HKM := Lib.hid hkm
  clear hy7 hy5 ho hb hyt hMt hky hkm
  have KY := Lib.hid (Box1.new w1 (.slice a1 ky c1) 26)
  have hb2 := below_one w1 (.cells #[.slice a1 ky c1] 26)
  have HY := Lib.hid (HY.out.below hb2)
  have HB := Lib.hid (HB.out.trans (hb2.mono HB.out.size))
  clear hb2
  go_wp2_with fail
  generalize w1.alloc (.cells #[.slice a1 ky c1] 26) = w2 at *
  refine (P1.out _ _ HY.out).mono ?_
  rintro e w3 ⟨a2, c2, rfl, ho3, hb3⟩
  rw [HKM.out] at ho3 ⊢
  have hb4 := below_one w3 (.cells #[.slice a2 km c2] 26)
  have hb34 := hb3.trans (hb4.mono hb3.size)
  obtain ⟨v0, hv0, hyl⟩ := HY.out
  cases hv0
  have SS := Lib.hid (show StS w w1.heap.size w3.heap.size (.slice a1 ky c1) (.slice a2 km c2) Y M w2.heap.size w3.heap.size (w3.alloc (.cells #[.slice a2 km c2] 26)) from
    ⟨HB.out.trans (hb34.mono HB.out.size), KY.out.below hb34, Box1.new _ _ _, hyl.below hb34, ho3.below hb4⟩)
  have cY := SS.out.2.1.2
  clear ho3 hb3 hb4 hb34 hyl HB KY
  go_wp2_with fail
  generalize w3.alloc (.cells #[.slice a2 km c2] 26) = w4 at *
  generalize w1.heap.size = b1 at *
  generalize w3.heap.size = b2 at *
  generalize w2.heap.size = B at *
  refine (P2.out _ _ SS.out.y).mono ?_
  rintro e w5 ⟨a3, c3, rfl, ho5, hb5⟩
  rw [HKM.out] at ho5 ⊢
  have hb6 := below_one w5 (.cells #[.slice a3 km c3] 26)
  have S6 := Lib.hid ((SS.out.below hb5).below hb6)
  have KW := Lib.hid (Box1.new w5 (.slice a3 km c3) 26)
  have HW := Lib.hid (ho5.below hb6).yl
  clear cY ho5 hb5 hb6 SS
  generalize goodY Y = q at P4 P5
  have hqq : (q != q) = false := by simp
  cases ok with
  | false =>
    have hk0 := HZ.out rfl
    subst hk0
    go_wp2_with fail
    generalize w5.alloc (.cells #[.slice a3 0 c3] 26) = w6 at *
    generalize w5.heap.size = b3 at *
    have SD := Lib.hid (S6.out.below (Below.refl w6.heap.size w6).drew)
    have KD := Lib.hid (KW.out.below (Below.refl w6.heap.size w6).drew)
    have HD2 := Lib.hid (HW.out.below (Below.refl w6.heap.size w6).drew)
    clear S6 KW HW
    go_region_held3 (fun W => W.cell? ⟨b1, 0, none⟩ = some (.slice a1 ky c1) ∧ W.cell? ⟨b2, 0, none⟩ = some (.slice a2 0 c2) ∧ W.cell? ⟨b3, 0, none⟩ = some (.slice a3 0 c3)) (first | exact ⟨S9.out.2.1.2, S9.out.2.2.1.2, K9.out.2⟩ | exact ⟨S8.out.2.1.2, S8.out.2.2.1.2, K8.out.2⟩ | exact ⟨S7.out.2.1.2, S7.out.2.2.1.2, K7.out.2⟩ | exact ⟨SD.out.2.1.2, SD.out.2.2.1.2, KD.out.2⟩) (first | (go_at_call 18; refine (P3.out _ _ _ SD.out.m ⟨_, rfl, HD2.out⟩).mono ?_; rintro e w7 ⟨rfl, hb⟩; have S7 := Lib.hid (SD.out.below hb); have K7 := Lib.hid (KD.out.below hb); clear hb) | (go_at_call 19; refine (P4.out _ _ S7.out.y).mono ?_; rintro e w8 ⟨rfl, hb⟩; have S8 := Lib.hid (S7.out.below hb); have K8 := Lib.hid (K7.out.below hb); clear hb) | (go_at_call 20; refine (P5.out _ _ S8.out.y).mono ?_; rintro e w9 ⟨rfl, hb⟩; have S9 := Lib.hid (S8.out.below hb); have K9 := Lib.hid (K8.out.below hb); clear hb))
    clear K9 K8 S8 K7 S7 KD SD HD2
    have cM := S9.out.2.2.1.2
    go_wp2_with fail
    go_ret
    exact ⟨rfl, S9.out.1⟩
  | true =>
    obtain ⟨i, m, pf⟩ := HF.out rfl
    have hs := pf.si
    have hbl : blR M x = [] ∧ plB M x = true := by
      obtain ⟨l, hl, hm⟩ := pf.row
      obtain ⟨e1, e2⟩ := blR_some pf.pl hl
      exact ⟨by rw [e1, List.drop_of_length_le (by omega)]; rfl, e2⟩
    have hfr : -100 ≤ freeR Y ∧ freeR Y ≤ 100 := by
      have := good_small pf.goodY
      simp only [freeR, pf.goodY, if_true]
      omega
    have hm4 : m ≤ 3 := by
      obtain ⟨l, hl, e⟩ := pf.row
      have := (goodY_iff.1 pf.good).2.2.1 l (List.mem_of_getElem? hl)
      omega
    have hik := pf.lt
    have HAt := Lib.hid pf.hAt
    have HHl := Lib.hid (pf.hLen.trans HKY.out)
    rw [HKY.out] at hik
    rw [pf.top, pf.okS] at P6
    rw [plV_some pf.pl] at P7
    rw [pf.take, pf.okT] at P8
    rw [hbl.1, hbl.2] at P9
    rw [pf.goodY] at PA
    rw [pf.good, pf.free] at PB
    rw [pf.good] at PC
    clear pf hbl HF HZ
    subst hs
    generalize freeR Y = fy at *
    generalize heightR M = hts at *
    have hw1 : IntKind.i64.wrap (fy - 1) = fy - 1 := IntWalk.i64_in _ (by omega)
    have hw2 : IntKind.i64.wrap ((m : Int) + 1) = (m : Int) + 1 := IntWalk.i64_in _ (by omega)
    have hiK : (i : Int) < (ky : Int) := by omega
    have hi0 : (0 : Int) ≤ (i : Int) := by omega
    go_wp2_with fail
    generalize w5.alloc (.cells #[.slice a3 km c3] 26) = w6 at *
    generalize w5.heap.size = b3 at *
    have SD := Lib.hid (S6.out.below (Below.refl w6.heap.size w6).drew)
    have KD := Lib.hid (KW.out.below (Below.refl w6.heap.size w6).drew)
    have HD2 := Lib.hid (HW.out.below (Below.refl w6.heap.size w6).drew)
    clear S6 KW HW
    go_region_held3 (fun W => W.cell? ⟨b1, 0, none⟩ = some (.slice a1 ky c1) ∧ W.cell? ⟨b2, 0, none⟩ = some (.slice a2 km c2) ∧ W.cell? ⟨b3, 0, none⟩ = some (.slice a3 km c3)) (first | exact ⟨S9.out.2.1.2, S9.out.2.2.1.2, K9.out.2⟩ | exact ⟨S8.out.2.1.2, S8.out.2.2.1.2, K8.out.2⟩ | exact ⟨S7.out.2.1.2, S7.out.2.2.1.2, K7.out.2⟩ | exact ⟨SD.out.2.1.2, SD.out.2.2.1.2, KD.out.2⟩) (first | (go_at_call 18; refine (P3.out _ _ _ SD.out.m ⟨_, rfl, HD2.out⟩).mono ?_; rintro e w7 ⟨rfl, hb⟩; have S7 := Lib.hid (SD.out.below hb); have K7 := Lib.hid (KD.out.below hb); clear hb) | (go_at_call 19; refine (P4.out _ _ S7.out.y).mono ?_; rintro e w8 ⟨rfl, hb⟩; have S8 := Lib.hid (S7.out.below hb); have K8 := Lib.hid (K7.out.below hb); clear hb) | (go_at_call 20; refine (P5.out _ _ S8.out.y).mono ?_; rintro e w9 ⟨rfl, hb⟩; have S9 := Lib.hid (S8.out.below hb); have K9 := Lib.hid (K8.out.below hb); clear hb))
    clear K9 K8 S8 K7 S7 KD SD HD2
    have cM := S9.out.2.2.1.2
    go_wp2_with fail
    refine (P6.out _ _ S9.out.m).mono ?_
    rintro e u1 ⟨rfl, hb⟩
    have T1 := Lib.hid (S9.out.below hb)
    clear hb cM S9
    have cM := T1.out.2.2.1.2
    go_wp2_with fail
    refine (P7.out _ _ T1.out.m).mono ?_
    rintro e u2 ⟨rfl, hb⟩
    have T2 := Lib.hid (T1.out.below hb)
    clear hb cM T1
    have cM := T2.out.2.2.1.2
    go_wp2_with fail
    refine (P8.out _ _ T2.out.m).mono ?_
    rintro e u3 ⟨a4, c4, rfl, ho, hb⟩
    rw [HKY.out] at ho ⊢
    have hb4 := below_one u3 (.cells #[.slice a4 ky c4] 26)
    have T3 := Lib.hid ((T2.out.below hb).below hb4)
    have KB := Lib.hid (Box1.new u3 (.slice a4 ky c4) 26)
    have HBk := Lib.hid (ho.below hb4).yl
    clear ho hb hb4 cM T2
    have cM := T3.out.2.2.1.2
    go_wp2_with fail
    generalize u3.alloc (.cells #[.slice a4 ky c4] 26) = u4 at *
    generalize u3.heap.size = b4 at *
    refine (P9.out _ _ _ _ T3.out.o).mono ?_
    rintro e u5 ⟨a5, c5, rfl, -, hb⟩
    rw [show ([] : List Int).length = 0 from rfl]
    have T5 := Lib.hid (T3.out.below hb)
    have KB := Lib.hid (KB.out.below hb)
    have HBk := Lib.hid (HBk.out.below hb)
    clear hb cM T3
    have cY := T5.out.2.1.2
    go_wp2_with fail
    refine (PA.out _ _ T5.out.y).mono ?_
    rintro e u6 ⟨rfl, hb⟩
    have T6 := Lib.hid (T5.out.below hb)
    have KB := Lib.hid (KB.out.below hb)
    have HBk := Lib.hid (HBk.out.below hb)
    clear hb cY T5
    have cM := T6.out.2.2.1.2
    go_wp2_with fail
    refine (PB.out _ _ T6.out.m).mono ?_
    rintro e u7 ⟨rfl, hb⟩
    have T7 := Lib.hid (T6.out.below hb)
    have KB := Lib.hid (KB.out.below hb)
    have HBk := Lib.hid (HBk.out.below hb)
    clear hb cM T6
    have cM := T7.out.2.2.1.2
    go_wp2_with fail
    refine (PC.out _ _ T7.out.m).mono ?_
    rintro e u8 ⟨a8, c8, rfl, hlo, hb⟩
    obtain ⟨ra, rc, e1, hrr⟩ := hlo.read
    rw [HHl.out] at e1 hrr ⊢
    cases e1
    obtain ⟨g9, o9, rfl, hg9, hcc⟩ := hrr (by omega)
    have HcH := Lib.hid (hcc i _ HAt.out)
    have HG9 := Lib.hid hg9
    have T8 := Lib.hid (T7.out.below hb)
    have KB := Lib.hid (KB.out.below hb)
    have HBk := Lib.hid (HBk.out.below hb)
    clear hb cM T7 hlo hrr hcc hg9
    have cY := T8.out.2.1.2
    have cB := KB.out.2
    go_wp2_with fail
    refine (PD.out _ _ _ ⟨_, rfl, HBk.out⟩ T8.out.y).mono ?_
    rintro e u9 ⟨rfl, hb⟩
    have T9 := Lib.hid (T8.out.below hb)
    have cH := (hb.cell (p := ⟨g9, o9 + i, none⟩) HG9.out).trans HcH.out
    clear hb cY cB T8
    go_wp2_with fail
    go_ret
    exact ⟨rfl, T9.out.1⟩

theorem st_walk (a : Option Addr) (len cap : Nat) (w : World) (hl : len ≤ maxLen) (hc : ∀ j, j < len → ∃ (cb off : Nat) (x : UInt8), a = some ⟨cb, off, none⟩ ∧ cb < w.heap.size ∧ w.cell? ⟨cb, off + j, none⟩ = some (.int .u8 (x.toNat : Int))) :
    Calls Try.prog 3 #[.slice a len cap] w fun e w' => e = .returned (.bool true) ∧ Below w.heap.size w w' := by
  by_cases h : 65536 < len
  · refine (st_big a len cap w h hl).mono ?_
    rintro e w' ⟨he, rfl⟩
    exact ⟨he, Below.refl _ _⟩
  · exact st_small a len cap w ⟨by omega, hc⟩

theorem st_own : ownKnob Try.prog.godebug = none := by kernel_rfl
theorem st_laidOut : laidOutB Try.prog = true := by kernel_rfl
theorem byte_of {z : Int} (h : (Lit.int .u8 z).wf = true) : ∃ x : UInt8, (x.toNat : Int) = z := by
  have h1 : 0 ≤ z ∧ z < 256 := by
    simp only [Lit.wf, Bool.and_eq_true, decide_eq_true_eq] at h
    have e1 : IntKind.u8.min = 0 := rfl
    have e2 : IntKind.u8.max = 255 := rfl
    omega
  refine ⟨UInt8.ofNat z.toNat, ?_⟩
  rw [UInt8.toNat_ofNat']
  omega

set_option maxRecDepth 100000 in
theorem st_lifted (os : Os) (started : os.Started) (H : Type) (enc : TypeId × Value → H) :
    ReturnsInHanded {} Try.checked os 3 .any (Rows.fnStacksSpec.pre6 enc Try.prog Try.f3 Rows.fnStacksRow.domain false) (Rows.fnStacksSpec.post enc Try.prog Try.f3 false true false false) := by
  refine returnsInHanded_of_change (C := Try.checked) st_own started (by kernel_rfl) Try.func3
    (ChangeSpec.witness6 (enc := enc) (C := Try.checked) false ⟨#[], #[.slice none 0 0], []⟩ 8 (by kernel_rfl) (by kernel_rfl) (by kernel_rfl) (by kernel_rfl)) ?_
  intro W base args ds gs before hval0 hW hcnd0 _
  have hval : ∀ (j : Nat) t v, Try.f3.params[j]? = some t → args[j]? = some v → Value.okWide Try.prog W .any base t v := hval0
  have hW' := hW
  obtain ⟨p, q, hA0, hV, rfl, hfz, _⟩ := hW
  have hA : DataW.TrodAll enc Try.prog W 0 (fun _ => true) true Try.f3.params.toList args.toList ds p := hA0
  rw [Try.params3] at hA hval
  obtain ⟨v0, d0, rfl, rfl, h0⟩ := trodAll_one hA
  obtain ⟨rfl, rfl⟩ := trodVars_none hV
  obtain ⟨a0, len, cap, rfl⟩ := okWide_slice Try.underlying22 (hval 0 22 v0 rfl rfl)
  have h0k := h0
  obtain ⟨fuel, hf⟩ := h0
  clear hA0 hval0 hcnd0
  simp only [List.append_nil] at hW'
  have hlt : ∀ x ∈ p, x.block < W.heap.size := fun x hx => by simpa using hW'.lt x (by simpa using hx)
  have key : len ≤ maxLen ∧ ∀ j, j < len → ∃ (cb off : Nat) (x : UInt8), a0 = some ⟨cb, off, none⟩ ∧ cb < W.heap.size ∧ W.cell? ⟨cb, off + j, none⟩ = some (.int .u8 (x.toNat : Int)) := by
    rcases open_ints Try.underlying22 Try.underlying5 (by kernel_rfl) hf with ⟨hcs, hx⟩ | ⟨a, len', cap', zs, hcs, _, hl, hm, hz, hx, hcell, hws⟩
    · simp [Value.cells] at hcs
      obtain ⟨rfl, rfl, rfl⟩ := hcs
      exact ⟨Nat.zero_le _, fun j hj => by omega⟩
    · simp [Value.cells] at hcs
      obtain ⟨rfl, rfl, rfl⟩ := hcs
      simp only [Prod.mk.injEq] at hx
      obtain ⟨-, hp⟩ := hx
      simp only [if_true] at hz
      refine ⟨by omega, fun j hj => ?_⟩
      have hjz : j < zs.length := by omega
      obtain ⟨b, off, spot⟩ := a
      have hspot : spot = none := by simpa [Addr.add] using World.cell?_spot (hcell 0 (by omega))
      subst hspot
      have hbW : b < W.heap.size := hlt (.cell b off) (by rw [hp]; exact MemPlace.mem_row.2 ⟨0, by omega, by simp⟩)
      obtain ⟨x, hx⟩ := byte_of (hws zs[j] (List.getElem_mem hjz))
      refine ⟨b, off, x, rfl, hbW, ?_⟩
      rw [← add_plain, hcell j hjz, hx]
      simp [hjz]
  obtain ⟨hn, hv⟩ := key
  refine (st_walk a0 len cap W hn hv).mono fun e W' ⟨he, hB⟩ => ?_
  subst he
  refine ⟨_, rfl, _, _, _, [], p, [], hW', ?_, ?_, rfl, hB.frame _, fun h => by cases h⟩
  · exact trodAll_mk1 (shut_bool Try.underlying4 true)
  · exact trodAll_mk1 (Below.trod st_laidOut (by kernel_rfl) (of_decide_eq_true (by kernel_rfl)) h0k hB hlt)

theorem FnStacks_holds : Rows.FnStacksSaid :=
  OpenClaim.holds_of_wide 3 Try.f3 rfl rfl rfl rfl rfl rfl rfl ⟨rfl, rfl, rfl, rfl, rfl⟩ rfl rfl rfl rfl rfl (by kernel_rfl) Try.func3 (by kernel_rfl)
    (of_decide_eq_true (by kernel_rfl)) (by unfold Func.isWrapper; first | (rw [if_pos (by decide +kernel)]; kernel_rfl) | (rw [if_neg (by decide +kernel)]; exact ⟨rfl, rfl⟩))
    (fun os started H enc _ => st_lifted os started H enc)
#print axioms FnStacks_holds
end Go.Proofs.Ytdnbkfpcmjijlaa
