/-
  Proved here: the law FnBadlyPlaced returns true at every list of bytes, and the list reads afterwards as it read before. There are no conditions.
-/
import Derived.Test.YthokmklnldoinaaRows
import Derived.Test.YthokmklnldoinaaDBad
import Derived.Test.YthokmklnldoinaaBadM2
import Derived.Test.YthokmklnldoinaaWstI
import Derived.Test.YthokmklnldoinaaSrtI
import Derived.Test.YthokmklnldoinaaBadS
import Derived.Test.YthokmklnldoinaaChoJ
import Derived.Test.YthokmklnldoinaaEarI
import Derived.Test.YthokmklnldoinaaVEq
import Derived.Deep.RegionHeld3
import Derived.WalkKit
import Derived.ProofKit
import Derived.OpenShut
import Derived.SizedLaws
namespace Go.Proofs.Ythokmklnldoinaa
open Go.ChangeShapes Go.WideShapes Go.ChangeAt Go.RowKit

theorem vBig_any (a : Option Addr) (len cap : Nat) (w : World) (hl : len ≤ maxLen) (b : Bool) (hb : decide (65536 < len) = b) : Calls Try.prog 11 #[.slice a len cap] w fun e w' => e = .returned (.bool b) ∧ w = w' := by
  unfold maxLen at hl
  subst hb
  by_cases h : 65536 < len
  · go_enter Try.func11, Try.ntmps11
    go_wp2_with fail
    go_ret
    exact ⟨by rw [show decide (65536 < len) = decide ((65536 : Int) < (len : Int)) from decide_eq_decide.2 (by omega)]; first | rfl | simp, rfl⟩
  · go_enter Try.func11, Try.ntmps11
    go_wp2_with fail
    go_ret
    exact ⟨by rw [show decide (65536 < len) = decide ((65536 : Int) < (len : Int)) from decide_eq_decide.2 (by omega)]; first | rfl | simp, rfl⟩
theorem tot5 {Y : List (List Int)} (h7 : Y.length ≤ 7) (h5 : D.rows5 Y) : tot Y ≤ 35 := by have := tot_bound 5 Y h5; omega

set_option maxRecDepth 100000 in
set_option maxHeartbeats 2000000 in
theorem st_big (a : Option Addr) (len cap : Nat) (w : World) (h : 65536 < len) (hl : len ≤ maxLen) :
    Calls Try.prog 3 #[.slice a len cap] w fun e w' => e = .returned (.bool true) ∧ w' = w := by
  go_enter Try.func3, Try.ntmps3
  go_wp2_with fail
  refine (vBig_any a len cap _ hl true (by simpa using h)).mono ?_
  rintro e w1 ⟨rfl, rfl⟩
  go_wp2_with fail
  go_ret
  exact ⟨rfl, rfl⟩

/-- The drawn yard in its box; the lists that were answered. -/
structure BdS (w W : World) (b1 : Nat) (u1 : Value) (Y : List (List Int)) (B hi : Nat) (vl vs : Value) (Lb Ls : List Int) : Prop where
  bl : Below w.heap.size w W
  bx : Box1 W b1 u1
  y : OwnY W B hi u1 Y
  l : IL W vl Lb
  s : IL W vs Ls
theorem BdS.below {w W W' : World} {b1 B hi : Nat} {u1 vl vs : Value} {Y : List (List Int)} {Lb Ls : List Int} (h : BdS w W b1 u1 Y B hi vl vs Lb Ls) (hb : Below W.heap.size W W') : BdS w W' b1 u1 Y B hi vl vs Lb Ls :=
  ⟨h.bl.trans (hb.mono h.bl.size), h.bx.below hb, h.y.below hb, h.l.below hb, h.s.below hb⟩
theorem BdS.o {w W : World} {b1 B hi : Nat} {u1 vl vs : Value} {Y : List (List Int)} {Lb Ls : List Int} (h : BdS w W b1 u1 Y B hi vl vs Lb Ls) : YdO W B hi (.agg #[u1]) Y := ⟨_, rfl, h.y⟩
theorem BdS.r {w W : World} {b1 B hi : Nat} {u1 vl vs : Value} {Y : List (List Int)} {Lb Ls : List Int} (h : BdS w W b1 u1 Y B hi vl vs Lb Ls) : YdR W (.agg #[u1]) Y := ⟨_, rfl, h.y.yl⟩

set_option maxRecDepth 100000 in
set_option maxHeartbeats 16000000 in
theorem st_small (a : Option Addr) (len cap : Nat) (w : World) (h : D.CodeArg w a len) :
    Calls Try.prog 3 #[.slice a len cap] w fun e w' => e = .returned (.bool true) ∧ Below w.heap.size w w' := by
  have HD := Lib.hid (D.drawBad_any a len cap w h)
  have HC := Lib.hid (fun W hb => D.drawCho_any a len cap W (h.below hb))
  have HV := Lib.hid (vBig_any a len cap w (by have := h.1; unfold maxLen; omega) false (by simpa using h.1))
  clear h
  go_enter Try.func3, Try.ntmps3
  go_wp2_with fail
  refine HV.out.mono ?_
  rintro e w1 ⟨rfl, rfl⟩
  go_wp2_with fail
  refine HD.out.mono ?_
  rintro e w1 ⟨a1, c1, Y, rfl, hy7, hy5, ho, hb⟩
  have hyt : tot Y ≤ 1048576 := by have := tot5 hy7 hy5; omega
  have hyn : Y.length ≤ 1048576 := by omega
  have hLn := badR_len Y
  have hSn := srtR_len Y
  have P1 := Lib.hid (fun v B hi W (h : YdO W B hi v Y) => implBad_any v Y B hi hyn hyt W h)
  have P2 := Lib.hid (fun v W (h : YdR W v Y) => specBad_any v Y hyn hyt W h)
  have P3 := Lib.hid (fun v1 v2 W (h1 : IL W v1 (badR Y)) (h2 : IL W v2 (badR Y)) => vInts_any v1 v2 (badR Y) (badR Y) hLn hLn W h1 h2)
  have P4 := Lib.hid (fun v B hi W (h : YdO W B hi v Y) => implSrt_any v Y B hi hyn hyt W h)
  have P5 := Lib.hid (fun v B hi W (h : YdO W B hi v Y) => implWst_any v Y B hi hyn hyt W h)
  have P6 := Lib.hid (fun v W (h : YdR W v Y) => specWst_any v Y hyn hyt W h)
  have P7 := Lib.hid (fun v x W (h : IL W v (badR Y)) => vHas_any v (badR Y) x hLn W h)
  have P8 := Lib.hid (fun v x W (h : YdR W v Y) => implPlace_any v Y x hyn hyt W h)
  have P9 := Lib.hid (fun v x W (h : IL W v (srtR Y)) => vHas_any v (srtR Y) x hSn W h)
  have HBad : Hid (∀ x ∈ badR Y, ∃ i k : Nat, plV Y x = .tuple #[.int .i64 (i : Int), .int .i64 (k : Int), .bool true] ∧ hasB (srtR Y) (i : Int) = false) := Lib.hid fun x hx => by
    obtain ⟨hg, i, k, hp, hs⟩ := bad_place hx
    exact ⟨i, k, plV_some (by rw [plO_good hg]; exact hp), by simp [hasB, hs]⟩
  have HW := Lib.hid (wst_any (Y := Y))
  have HM : Hid (0 < (wstR Y).2 → hasB (badR Y) (wstR Y).1 = true) := Lib.hid fun h => by simp [hasB, wstR_pos h]
  rw [show decide (badR Y = badR Y) = true by simp] at P3
  generalize wstR Y = ws at *
  obtain ⟨wx, wn⟩ := ws
  simp only at P5 P6 HW HM
  generalize badR Y = Lb at *
  generalize srtR Y = Ls at *
  generalize goodY Y = q at *
  generalize hky : Y.length = ky at *
  generalize hnl : Lb.length = nl at *
  have HNL := Lib.hid hnl
  generalize hns : Ls.length = ns at *
  have HNS := Lib.hid hns
  have HKY := Lib.hid hky
  have HY := Lib.hid ho
  have HB := Lib.hid hb
  have hqq : (q != q) = false := by simp
  have hxx : (wx != wx) = false := by simp
  have hnn : ((wn : Int) != (wn : Int)) = false := by simp
  clear hy7 hy5 ho hb hyt hky hnl hns
  have KY := Lib.hid (Box1.new w1 (.slice a1 ky c1) 26)
  have hb2 := below_one w1 (.cells #[.slice a1 ky c1] 26)
  have HY := Lib.hid (HY.out.below hb2)
  have HB := Lib.hid (HB.out.trans (hb2.mono HB.out.size))
  clear hb2
  have c0 := KY.out.2
  go_wp2_with fail
  generalize w1.alloc (.cells #[.slice a1 ky c1] 26) = w2 at *
  generalize w1.heap.size = b1 at *
  refine (P1.out _ _ _ _ ⟨_, rfl, HY.out⟩).mono ?_
  rintro e w3 ⟨a3, c3, rfl, ho3, hb⟩
  rw [HNL.out] at ho3 ⊢
  have HL := Lib.hid ho3.read
  have KY := Lib.hid (KY.out.below hb)
  have HY := Lib.hid (HY.out.below hb)
  have HB := Lib.hid (HB.out.trans (hb.mono HB.out.size))
  clear hb ho3 c0
  have c0 := KY.out.2
  go_wp2_with fail
  refine (P2.out _ _ ⟨_, rfl, HY.out.yl⟩).mono ?_
  rintro e w4 ⟨a4, c4, rfl, ho4, hb⟩
  rw [HNL.out] at ho4 ⊢
  have HL4 := Lib.hid ho4.read
  have HL := Lib.hid (HL.out.below hb)
  have KY := Lib.hid (KY.out.below hb)
  have HY := Lib.hid (HY.out.below hb)
  have HB := Lib.hid (HB.out.trans (hb.mono HB.out.size))
  clear hb ho4 c0
  go_wp2_with fail
  refine (P3.out _ _ _ HL.out HL4.out).mono ?_
  rintro e w5 ⟨rfl, hb⟩
  have HL := Lib.hid (HL.out.below hb)
  have KY := Lib.hid (KY.out.below hb)
  have HY := Lib.hid (HY.out.below hb)
  have HB := Lib.hid (HB.out.trans (hb.mono HB.out.size))
  clear hb HL4
  have c0 := KY.out.2
  go_wp2_with fail
  refine (P4.out _ _ _ _ ⟨_, rfl, HY.out⟩).mono ?_
  rintro e w6 ⟨a6, c6, rfl, ho6, hb⟩
  rw [HNS.out] at ho6 ⊢
  have SS : Hid (BdS w w6 b1 (.slice a1 ky c1) Y _ _ (.slice a3 nl c3) (.slice a6 ns c6) Lb Ls) := Lib.hid ⟨HB.out.trans (hb.mono HB.out.size), KY.out.below hb, HY.out.below hb, HL.out.below hb, ho6.read⟩
  clear hb ho6 c0 HL KY HY HB
  have c0 := SS.out.bx.2
  go_wp2_with fail
  refine (P5.out _ _ _ _ SS.out.o).mono ?_
  rintro e w7 ⟨rfl, hb⟩
  have SS := Lib.hid (SS.out.below hb)
  clear hb c0
  have c0 := SS.out.bx.2
  go_wp2_with fail
  refine (P6.out _ _ SS.out.r).mono ?_
  rintro e w8 ⟨rfl, hb⟩
  have SS := Lib.hid (SS.out.below hb)
  clear hb c0
  have hdd : (decide (0 < wn) != decide (0 < wn)) = false := by simp
  by_cases hd : 0 < wn
  · have hw := HW.out
    rw [decide_eq_true hd] at hw hdd ⊢
    have hnlp : 0 < nl := by simpa using hw.symm
    have hnlI : (0 : Int) < (nl : Int) := by omega
    have H7 := Lib.hid (fun v W h => P7.out v wx W h)
    rw [HM.out hd] at H7
    clear hw
    go_wp2_with fail
    refine (H7.out _ _ SS.out.l).mono ?_
    rintro e w9 ⟨rfl, rfl⟩
    go_wp2_with fail
    go_loopw [16] (fun i wr => ∃ k : Nat, k ≤ nl ∧ i = .int .i64 k ∧ Hid (BdS w wr b1 (.slice a1 ky c1) Y _ _ (.slice a3 nl c3) (.slice a6 ns c6) Lb Ls)) (fun i _ => nl - (intOf i).toNat)
    case atStart => exact ⟨0, Nat.zero_le _, rfl, SS⟩
    case round =>
      clear SS
      obtain ⟨k, hk, rfl, SS⟩ := hrel
      rename World => wr
      have c0 := SS.out.bx.2
      by_cases hlt : k < nl
      · obtain ⟨a9, c9, e9, hcc⟩ := SS.out.l
        obtain ⟨gl, offl, e2, hgl, hcl⟩ := hcc (by have := HNL.out; omega)
        injection e9 with e1 e4 e5
        subst e2
        subst e1
        clear e4 e5
        obtain ⟨x, hx⟩ := get_at HNL.out hlt
        have o1 : wr.cell? ⟨gl, offl + k, none⟩ = some (.int .i64 x) := hcl k x hx
        obtain ⟨i, kk, hpl, hsi⟩ := HBad.out x (List.mem_of_getElem? hx)
        have HGL := Lib.hid hgl
        have HP := Lib.hid (fun v W h => P8.out v x W h)
        rw [hpl] at HP
        have H9 := Lib.hid (fun v W h => P9.out v (i : Int) W h)
        rw [hsi] at H9
        have SD := Lib.hid (SS.out.below (Below.refl wr.heap.size wr).drew)
        clear hcc hcl hx hpl hsi hgl
        go_wp2_with fail
        go_region_held3 (fun W => W.cell? ⟨b1, 0, none⟩ = some (.slice a1 ky c1) ∧ W.cell? ⟨gl, offl + k, none⟩ = some (.int .i64 x)) (go_keep) (first | (go_at_call 20; refine (HP.out _ _ SD.out.r).mono ?_; rintro e w' ⟨rfl, hb⟩; have x0 := (hb.cell (p := ⟨b1, 0, none⟩) SD.out.bx.1).trans c0; have x1 := (hb.cell (p := ⟨gl, offl + k, none⟩) HGL.out).trans o1; have S2 := Lib.hid (SD.out.below hb); clear hb))
        clear x0 x1 c0 o1 SD SS
        go_wp2_with fail
        refine (H9.out _ _ S2.out.s).mono ?_
        rintro e w9 ⟨rfl, rfl⟩
        go_wp2_with fail
        exact ⟨⟨k + 1, by omega, by go_num, S2⟩, by simp [intOf]; omega⟩
      · obtain rfl : k = nl := by omega
        clear c0
        go_wp2_with fail
        refine (HC.out _ SS.out.bl).mono ?_
        rintro e w10 ⟨az, cz, Z, x, rfl, hz7, hz5, hoz, hb⟩
        have hzt : tot Z ≤ 1048576 := by have := tot5 hz7 hz5; omega
        have hzn : Z.length ≤ 1048576 := by omega
        have R1 := Lib.hid (fun v W (h : YdR W v Z) => implCho_any v Z x hzn hzt W h)
        have R2 := Lib.hid (fun v W (h : YdR W v Z) => specCho_any v Z x hzn hzt W h)
        have R3 := Lib.hid (fun v s W (h : YdR W v Z) => implEar_any v Z s hzn hzt W h)
        have HCE := Lib.hid (fun h => cho_ear (Z := Z) (x := x) h)
        have BL := Lib.hid (SS.out.bl.trans (hb.mono SS.out.bl.size))
        have HZ := Lib.hid hoz.yl
        generalize hkz : Z.length = kz at *
        have KZ := Lib.hid (Box1.new w10 (.slice az kz cz) 26)
        have hb2 := below_one w10 (.cells #[.slice az kz cz] 26)
        have HZ := Lib.hid (HZ.out.below hb2)
        have BL := Lib.hid (BL.out.trans (hb2.mono BL.out.size))
        clear hz7 hz5 hoz hb hzt hkz hb2
        have c1 := KZ.out.2
        go_wp2_with fail
        generalize w10.alloc (.cells #[.slice az kz cz] 26) = w11 at *
        generalize w10.heap.size = bz at *
        refine (R1.out _ _ ⟨_, rfl, HZ.out⟩).mono ?_
        rintro e w12 ⟨rfl, hb⟩
        have KZ := Lib.hid (KZ.out.below hb)
        have HZ := Lib.hid (HZ.out.below hb)
        have BL := Lib.hid (BL.out.trans (hb.mono BL.out.size))
        clear hb c1
        have c1 := KZ.out.2
        go_wp2_with fail
        refine (R2.out _ _ ⟨_, rfl, HZ.out⟩).mono ?_
        rintro e w13 ⟨rfl, hb⟩
        have KZ := Lib.hid (KZ.out.below hb)
        have HZ := Lib.hid (HZ.out.below hb)
        have BL := Lib.hid (BL.out.trans (hb.mono BL.out.size))
        clear hb c1
        have c1 := KZ.out.2
        have hrr : (choR Z x != choR Z x) = false := by simp
        cases hcb : choB Z x with
        | false =>
          generalize choR Z x = r at *
          go_wp2_with fail
          go_ret
          exact ⟨rfl, BL.out⟩
        | true =>
          obtain ⟨i, hci, hok, he1, he2⟩ := HCE.out hcb
          rw [hci] at hrr ⊢
          have H3 := Lib.hid (fun v W h => R3.out v (i : Int) W h)
          rw [hok] at H3
          generalize earR Z (i : Int) = er at *
          have hl1 : ¬ er < 1 := by omega
          have hl2 : ¬ 100 < er := by omega
          clear hci hok
          go_wp2_with fail
          refine (H3.out _ _ ⟨_, rfl, HZ.out⟩).mono ?_
          rintro e w14 ⟨rfl, hb⟩
          have BL := Lib.hid (BL.out.trans (hb.mono BL.out.size))
          clear hb c1
          go_wp2_with fail
          go_ret
          exact ⟨rfl, BL.out⟩
  · have hw := HW.out
    rw [decide_eq_false hd] at hw hdd ⊢
    have hnlp : ¬ 0 < nl := by simpa using hw.symm
    have hnlI : ¬ (0 : Int) < (nl : Int) := by omega
    clear hw
    go_wp2_with fail
    go_loopw [16] (fun i wr => ∃ k : Nat, k ≤ nl ∧ i = .int .i64 k ∧ Hid (BdS w wr b1 (.slice a1 ky c1) Y _ _ (.slice a3 nl c3) (.slice a6 ns c6) Lb Ls)) (fun i _ => nl - (intOf i).toNat)
    case atStart => exact ⟨0, Nat.zero_le _, rfl, SS⟩
    case round =>
      clear SS
      obtain ⟨k, hk, rfl, SS⟩ := hrel
      rename World => wr
      have c0 := SS.out.bx.2
      by_cases hlt : k < nl
      · obtain ⟨a9, c9, e9, hcc⟩ := SS.out.l
        obtain ⟨gl, offl, e2, hgl, hcl⟩ := hcc (by have := HNL.out; omega)
        injection e9 with e1 e4 e5
        subst e2
        subst e1
        clear e4 e5
        obtain ⟨x, hx⟩ := get_at HNL.out hlt
        have o1 : wr.cell? ⟨gl, offl + k, none⟩ = some (.int .i64 x) := hcl k x hx
        obtain ⟨i, kk, hpl, hsi⟩ := HBad.out x (List.mem_of_getElem? hx)
        have HGL := Lib.hid hgl
        have HP := Lib.hid (fun v W h => P8.out v x W h)
        rw [hpl] at HP
        have H9 := Lib.hid (fun v W h => P9.out v (i : Int) W h)
        rw [hsi] at H9
        have SD := Lib.hid (SS.out.below (Below.refl wr.heap.size wr).drew)
        clear hcc hcl hx hpl hsi hgl
        go_wp2_with fail
        go_region_held3 (fun W => W.cell? ⟨b1, 0, none⟩ = some (.slice a1 ky c1) ∧ W.cell? ⟨gl, offl + k, none⟩ = some (.int .i64 x)) (go_keep) (first | (go_at_call 20; refine (HP.out _ _ SD.out.r).mono ?_; rintro e w' ⟨rfl, hb⟩; have x0 := (hb.cell (p := ⟨b1, 0, none⟩) SD.out.bx.1).trans c0; have x1 := (hb.cell (p := ⟨gl, offl + k, none⟩) HGL.out).trans o1; have S2 := Lib.hid (SD.out.below hb); clear hb))
        clear x0 x1 c0 o1 SD SS
        go_wp2_with fail
        refine (H9.out _ _ S2.out.s).mono ?_
        rintro e w9 ⟨rfl, rfl⟩
        go_wp2_with fail
        exact ⟨⟨k + 1, by omega, by go_num, S2⟩, by simp [intOf]; omega⟩
      · obtain rfl : k = nl := by omega
        clear c0
        go_wp2_with fail
        refine (HC.out _ SS.out.bl).mono ?_
        rintro e w10 ⟨az, cz, Z, x, rfl, hz7, hz5, hoz, hb⟩
        have hzt : tot Z ≤ 1048576 := by have := tot5 hz7 hz5; omega
        have hzn : Z.length ≤ 1048576 := by omega
        have R1 := Lib.hid (fun v W (h : YdR W v Z) => implCho_any v Z x hzn hzt W h)
        have R2 := Lib.hid (fun v W (h : YdR W v Z) => specCho_any v Z x hzn hzt W h)
        have R3 := Lib.hid (fun v s W (h : YdR W v Z) => implEar_any v Z s hzn hzt W h)
        have HCE := Lib.hid (fun h => cho_ear (Z := Z) (x := x) h)
        have BL := Lib.hid (SS.out.bl.trans (hb.mono SS.out.bl.size))
        have HZ := Lib.hid hoz.yl
        generalize hkz : Z.length = kz at *
        have KZ := Lib.hid (Box1.new w10 (.slice az kz cz) 26)
        have hb2 := below_one w10 (.cells #[.slice az kz cz] 26)
        have HZ := Lib.hid (HZ.out.below hb2)
        have BL := Lib.hid (BL.out.trans (hb2.mono BL.out.size))
        clear hz7 hz5 hoz hb hzt hkz hb2
        have c1 := KZ.out.2
        go_wp2_with fail
        generalize w10.alloc (.cells #[.slice az kz cz] 26) = w11 at *
        generalize w10.heap.size = bz at *
        refine (R1.out _ _ ⟨_, rfl, HZ.out⟩).mono ?_
        rintro e w12 ⟨rfl, hb⟩
        have KZ := Lib.hid (KZ.out.below hb)
        have HZ := Lib.hid (HZ.out.below hb)
        have BL := Lib.hid (BL.out.trans (hb.mono BL.out.size))
        clear hb c1
        have c1 := KZ.out.2
        go_wp2_with fail
        refine (R2.out _ _ ⟨_, rfl, HZ.out⟩).mono ?_
        rintro e w13 ⟨rfl, hb⟩
        have KZ := Lib.hid (KZ.out.below hb)
        have HZ := Lib.hid (HZ.out.below hb)
        have BL := Lib.hid (BL.out.trans (hb.mono BL.out.size))
        clear hb c1
        have c1 := KZ.out.2
        have hrr : (choR Z x != choR Z x) = false := by simp
        cases hcb : choB Z x with
        | false =>
          generalize choR Z x = r at *
          go_wp2_with fail
          go_ret
          exact ⟨rfl, BL.out⟩
        | true =>
          obtain ⟨i, hci, hok, he1, he2⟩ := HCE.out hcb
          rw [hci] at hrr ⊢
          have H3 := Lib.hid (fun v W h => R3.out v (i : Int) W h)
          rw [hok] at H3
          generalize earR Z (i : Int) = er at *
          have hl1 : ¬ er < 1 := by omega
          have hl2 : ¬ 100 < er := by omega
          clear hci hok
          go_wp2_with fail
          refine (H3.out _ _ ⟨_, rfl, HZ.out⟩).mono ?_
          rintro e w14 ⟨rfl, hb⟩
          have BL := Lib.hid (BL.out.trans (hb.mono BL.out.size))
          clear hb c1
          go_wp2_with fail
          go_ret
          exact ⟨rfl, BL.out⟩

theorem st_walk (a : Option Addr) (len cap : Nat) (w : World) (hl : len ≤ maxLen) (hc : ∀ j, j < len → ∃ (cb off : Nat) (x : UInt8), a = some ⟨cb, off, none⟩ ∧ cb < w.heap.size ∧ w.cell? ⟨cb, off + j, none⟩ = some (.int .u8 (x.toNat : Int))) :
    Calls Try.prog 3 #[.slice a len cap] w fun e w' => e = .returned (.bool true) ∧ Below w.heap.size w w' := by
  by_cases h : 65536 < len
  · refine (st_big a len cap w h hl).mono ?_
    rintro e w' ⟨he, rfl⟩
    exact ⟨he, Below.refl _ _⟩
  · exact st_small a len cap w ⟨by omega, hc⟩

theorem st_own : ownKnob Try.prog.godebug = none := by kernel_rfl
theorem st_laidOut : laidOutB Try.prog = true := by kernel_rfl
theorem byte_of {z : Int} (h : (Lit.int .u8 z).wf = true) : ∃ x : UInt8, (x.toNat : Int) = z := by
  have h1 : 0 ≤ z ∧ z < 256 := by
    simp only [Lit.wf, Bool.and_eq_true, decide_eq_true_eq] at h
    have e1 : IntKind.u8.min = 0 := rfl
    have e2 : IntKind.u8.max = 255 := rfl
    omega
  refine ⟨UInt8.ofNat z.toNat, ?_⟩
  rw [UInt8.toNat_ofNat']
  omega

set_option maxRecDepth 100000 in
theorem st_lifted (os : Os) (started : os.Started) (H : Type) (enc : TypeId × Value → H) :
    ReturnsInHanded {} Try.checked os 3 .any (Rows.fnBadlyPlacedSpec.pre6 enc Try.prog Try.f3 Rows.fnBadlyPlacedRow.domain false) (Rows.fnBadlyPlacedSpec.post enc Try.prog Try.f3 false true false false) := by
  refine returnsInHanded_of_change (C := Try.checked) st_own started (by kernel_rfl) Try.func3
    (ChangeSpec.witness6 (enc := enc) (C := Try.checked) false ⟨#[], #[.slice none 0 0], []⟩ 8 (by kernel_rfl) (by kernel_rfl) (by kernel_rfl) (by kernel_rfl)) ?_
  intro W base args ds gs before hval0 hW hcnd0 _
  have hval : ∀ (j : Nat) t v, Try.f3.params[j]? = some t → args[j]? = some v → Value.okWide Try.prog W .any base t v := hval0
  have hW' := hW
  obtain ⟨p, q, hA0, hV, rfl, hfz, _⟩ := hW
  have hA : DataW.TrodAll enc Try.prog W 0 (fun _ => true) true Try.f3.params.toList args.toList ds p := hA0
  rw [Try.params3] at hA hval
  obtain ⟨v0, d0, rfl, rfl, h0⟩ := trodAll_one hA
  obtain ⟨rfl, rfl⟩ := trodVars_none hV
  obtain ⟨a0, len, cap, rfl⟩ := okWide_slice Try.underlying22 (hval 0 22 v0 rfl rfl)
  have h0k := h0
  obtain ⟨fuel, hf⟩ := h0
  clear hA0 hval0 hcnd0
  simp only [List.append_nil] at hW'
  have hlt : ∀ x ∈ p, x.block < W.heap.size := fun x hx => by simpa using hW'.lt x (by simpa using hx)
  have key : len ≤ maxLen ∧ ∀ j, j < len → ∃ (cb off : Nat) (x : UInt8), a0 = some ⟨cb, off, none⟩ ∧ cb < W.heap.size ∧ W.cell? ⟨cb, off + j, none⟩ = some (.int .u8 (x.toNat : Int)) := by
    rcases open_ints Try.underlying22 Try.underlying5 (by kernel_rfl) hf with ⟨hcs, hx⟩ | ⟨a, len', cap', zs, hcs, _, hl, hm, hz, hx, hcell, hws⟩
    · simp [Value.cells] at hcs
      obtain ⟨rfl, rfl, rfl⟩ := hcs
      exact ⟨Nat.zero_le _, fun j hj => by omega⟩
    · simp [Value.cells] at hcs
      obtain ⟨rfl, rfl, rfl⟩ := hcs
      simp only [Prod.mk.injEq] at hx
      obtain ⟨-, hp⟩ := hx
      simp only [if_true] at hz
      refine ⟨by omega, fun j hj => ?_⟩
      have hjz : j < zs.length := by omega
      obtain ⟨b, off, spot⟩ := a
      have hspot : spot = none := by simpa [Addr.add] using World.cell?_spot (hcell 0 (by omega))
      subst hspot
      have hbW : b < W.heap.size := hlt (.cell b off) (by rw [hp]; exact MemPlace.mem_row.2 ⟨0, by omega, by simp⟩)
      obtain ⟨x, hx⟩ := byte_of (hws zs[j] (List.getElem_mem hjz))
      refine ⟨b, off, x, rfl, hbW, ?_⟩
      rw [← add_plain, hcell j hjz, hx]
      simp [hjz]
  obtain ⟨hn, hv⟩ := key
  refine (st_walk a0 len cap W hn hv).mono fun e W' ⟨he, hB⟩ => ?_
  subst he
  refine ⟨_, rfl, _, _, _, [], p, [], hW', ?_, ?_, rfl, hB.frame _, fun h => by cases h⟩
  · exact trodAll_mk1 (shut_bool Try.underlying4 true)
  · exact trodAll_mk1 (Below.trod st_laidOut (by kernel_rfl) (of_decide_eq_true (by kernel_rfl)) h0k hB hlt)

theorem FnBadlyPlaced_holds : Rows.FnBadlyPlacedSaid :=
  OpenClaim.holds_of_wide 3 Try.f3 rfl rfl rfl rfl rfl rfl rfl ⟨rfl, rfl, rfl, rfl, rfl⟩ rfl rfl rfl rfl rfl (by kernel_rfl) Try.func3 (by kernel_rfl)
    (of_decide_eq_true (by kernel_rfl)) (by unfold Func.isWrapper; first | (rw [if_pos (by decide +kernel)]; kernel_rfl) | (rw [if_neg (by decide +kernel)]; exact ⟨rfl, rfl⟩))
    (fun os started H enc _ => st_lifted os started H enc)

#print axioms FnBadlyPlaced_holds
end Go.Proofs.Ythokmklnldoinaa
