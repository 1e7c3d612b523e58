/-
  Texts of bays: what impl.slotText and impl.BayText return. No statement of the seat by itself.
-/
import Derived.Test.YtfbeoficgkkamaaDoorHDTxt
import Derived.Test.YtfbeoficgkkamaaDoorEItoa
import Derived.Test.YtfbeoficgkkamaaDoorEBld
namespace Go.Proofs.YtfbeoficgkkamaaDoor
open Go.RowKit

/-- A builder of the call's own that holds these bytes. -/
def IsBl (bb : Nat) (l : List UInt8) (w : World) : Prop := Lib.IsBuilder 69 5 bb bb (Lib.byteCells l) w
theorem IsBl.lt {bb : Nat} {l : List UInt8} {w : World} (h : IsBl bb l w) : bb < w.heap.size := by
  rcases h with h | h
  · exact h.lt
  · exact h.lt
theorem IsBl.drewN {bb : Nat} {l : List UInt8} {w : World} (h : IsBl bb l w) : ∀ n, IsBl bb l (w.drewN n)
  | 0 => h
  | n + 1 => by
    have := IsBl.drewN (w := w.drew) (by rcases h with h | h; exact .inl h.drew; exact .inr h.drew) n
    exact this
theorem IsBl.fresh (w : World) : IsBl w.heap.size [] (w.alloc (.cells #[.pointer none, .slice none 0 0] 69)) := Lib.fresh_isBuilder _ _ w
theorem wr_any (bb : Nat) (l m : List UInt8) (w : World) (h : IsBl bb l w) (hl : l.length + m.length ≤ 1000) :
    Calls Tryd.prog 41 #[.pointer (some ⟨bb, 0, none⟩), .string (bs m)] w fun e w' => e = .returned (.tuple #[.int .i64 (m.length : Int), .nilIface]) ∧ IsBl bb (l ++ m) w' ∧ Below bb w w' := by
  refine (Tryd.builder_write bb bb (Lib.byteCells l) (bs m) w h (by rw [Lib.byteCells_length, bs_size]; omega) (Nat.le_of_lt h.lt)).mono ?_
  rintro e w' ⟨rfl, h1, h2⟩
  refine ⟨by rw [bs_size], .inr ?_, h2⟩
  have e : Lib.byteCells (l ++ m) = Lib.byteCells l ++ Lib.strCells (bs m) := by simp [Lib.byteCells, Lib.strCells, bs]
  rw [e]
  exact h1
theorem dec_small (x : Nat) (h : x < 10) : [UInt8.ofNat (48 + x / 10), UInt8.ofNat (48 + x % 10)] = 48 :: Lib.decDigits x := by
  rw [Lib.decDigits, dif_pos h, Nat.div_eq_of_lt h, Nat.mod_eq_of_lt h]
  rfl
theorem dec_big (x : Nat) (h : ¬ x < 10) (h2 : x < 100) : [UInt8.ofNat (48 + x / 10), UInt8.ofNat (48 + x % 10)] = Lib.decDigits x := by
  rw [Lib.decDigits, dif_neg h, Lib.decDigits, dif_pos (by omega)]
  rfl

set_option maxRecDepth 100000 in
set_option maxHeartbeats 2000000 in
theorem slotTxt_any (v : Value) (l : List Int) (r : Nat) (hs : ∀ x ∈ l, 1 ≤ x ∧ x ≤ 99) (w : World) (h : IL w v l) (hr : r ≤ 4) (h4 : l.length ≤ 4) :
    Calls Tryd.prog 42 #[v, .int .i64 (r : Int)] w fun e w' => e = .returned (.string (bs (cellT l r))) ∧ w' = w := by
  obtain ⟨a, c, rfl⟩ := h.form
  obtain ⟨m, hm⟩ : ∃ m, l.length = m := ⟨_, rfl⟩
  have HM := Lib.hid hm
  by_cases hrm : r < m
  · obtain ⟨x, hx⟩ := get_at (k := r) hm hrm
    have hxr := hs x (List.mem_of_getElem? hx)
    obtain ⟨xn, rfl⟩ : ∃ xn : Nat, x = (xn : Int) := ⟨x.toNat, by omega⟩
    obtain ⟨g, off, rfl, hxc⟩ : ∃ g off, a = some ⟨g, off, none⟩ ∧ w.cell? ⟨g, off + r, none⟩ = some (.int .i64 (xn : Int)) := by
      obtain ⟨aa, cc, e, hh4⟩ := h
      injection e with e1 e2 e3
      obtain ⟨g4, off4, e4, hl4, hc4⟩ := hh4 (by omega)
      exact ⟨g4, off4, e1.trans e4, hc4 r _ hx⟩
    have hge : ¬ (m : Int) ≤ (r : Int) := by omega
    have h99 : xn < 100 := by omega
    have HCt := Lib.hid (cellT_some hx)
    have HI := Lib.hid (fun W => Tryd.strconv_Itoa_small xn h99 W)
    have hmr : m = l.length := hm.symm
    by_cases h10 : xn < 10
    · have HE : Hid (bs [48] ++ (⟨(Lib.decDigits xn).toArray⟩ : ByteArray) = bs (cellT l r)) := Lib.hid (by
        rw [HCt.out, dec_small xn h10]
        exact bs_app [48] (Lib.decDigits xn))
      obtain ⟨d, hd⟩ : ∃ d : ByteArray, (⟨(Lib.decDigits xn).toArray⟩ : ByteArray) = d := ⟨_, rfl⟩
      have hsz : d.size = 1 := by rw [← hd, Lib.decDigits, dif_pos h10]; rfl
      rw [hd] at HE HI
      have hlt : (d.size : Int) < 2 := by omega
      rw [show l.length = m from hm]
      clear hd h10 hx hxr h hs h4 hm hmr
      go_enter Tryd.func42, Tryd.ntmps42
      go_wp2_with fail
      refine (HI.out _).mono ?_
      rintro e w1 ⟨rfl, rfl⟩
      go_wp2_with fail
      go_ret
      exact ⟨congrArg _ (congrArg _ HE.out), rfl⟩
    · have HE : Hid ((⟨(Lib.decDigits xn).toArray⟩ : ByteArray) = bs (cellT l r)) := Lib.hid (by
        rw [HCt.out, dec_big xn h10 h99]
        rfl)
      obtain ⟨d, hd⟩ : ∃ d : ByteArray, (⟨(Lib.decDigits xn).toArray⟩ : ByteArray) = d := ⟨_, rfl⟩
      have hsz : d.size = 2 := by rw [← hd, ← dec_big xn h10 h99]; rfl
      rw [hd] at HE HI
      have hlt : ¬ (d.size : Int) < 2 := by omega
      rw [show l.length = m from hm]
      clear hd h10 hx hxr h hs h4 hm hmr
      go_enter Tryd.func42, Tryd.ntmps42
      go_wp2_with fail
      refine (HI.out _).mono ?_
      rintro e w1 ⟨rfl, rfl⟩
      go_wp2_with fail
      go_ret
      exact ⟨congrArg _ (congrArg _ HE.out), rfl⟩
  · have hge : (m : Int) ≤ (r : Int) := by omega
    have HE : Hid (bs [46, 46] = bs (cellT l r)) := Lib.hid (by rw [cellT_none (by omega)])
    rw [show l.length = m from hm]
    clear h hs h4 hm
    go_enter Tryd.func42, Tryd.ntmps42
    go_wp2_with fail
    go_ret
    exact ⟨congrArg _ (congrArg _ HE.out), rfl⟩

set_option maxRecDepth 100000 in
set_option maxHeartbeats 8000000 in
theorem implBt_any (v : Value) (hh : Int) (Y : List (List Int)) (h1 : Y.length ≤ 1048576) (h2 : tot Y ≤ 1048576) (w : World) (h : BdR w v hh Y) :
    Calls Tryd.prog 19 #[v] w (RetP w (.tuple #[.string (btx hh Y), .bool (goodB hh Y)])) := by
  obtain ⟨v0, rfl, hv⟩ := h
  have BA := Lib.hid (Box2.new w hh v0 24)
  have B0 := Lib.hid (below_one w (.cells #[.int .i64 hh, v0] 24))
  have c0 := BA.out.2.1
  have c0b := BA.out.2.2
  have HG := Lib.hid (goodB_impl (.agg #[.int .i64 hh, v0]) hh Y h1 h2 _ ⟨v0, rfl, hv.below B0.out⟩)
  have HV := Lib.hid hv
  clear hv h1 h2
  cases hg : goodB hh Y with
  | false =>
    have HX : Hid (btx hh Y = bs []) := Lib.hid (by simp [btx, hg])
    rw [hg] at HG
    clear hg
    go_enter Tryd.func19, Tryd.ntmps19
    go_wp2_with fail
    refine HG.out.mono ?_
    rintro e w1 ⟨rfl, hb⟩
    have B1 := Lib.hid (B0.out.trans (hb.mono B0.out.size))
    clear hb c0 c0b
    go_wp2_with fail
    go_ret2
    exact ⟨by rw [HX.out]; rfl, B1.out⟩
  | true =>
    obtain ⟨H, rfl⟩ : ∃ H : Nat, hh = (H : Int) := ⟨hh.toNat, by have := (goodB_iff.1 hg).1; omega⟩
    have HX : Hid (btx (H : Int) Y = bs (textT Y H H)) := Lib.hid (by simp [btx, hg])
    obtain ⟨n, hn⟩ : ∃ n, Y.length = n := ⟨_, rfl⟩
    obtain ⟨g1, g5, g4, gS⟩ := goodB_rows hg
    have hH1 : 1 ≤ H := by have := (goodB_iff.1 hg).1; omega
    have hH4 : H ≤ 4 := by have := (goodB_iff.1 hg).1; omega
    rw [hg] at HG
    obtain ⟨a, cap, rfl, hc⟩ := HV.out
    have HN := Lib.hid hn
    have HC := Lib.hid hc
    have HR4 := Lib.hid g4
    have HSn := Lib.hid gS.1
    rw [hn] at BA B0 HG c0 c0b g1 g5
    rw [hn]
    clear hc hg g4 gS hn
    go_enter Tryd.func19, Tryd.ntmps19
    go_wp2_with fail
    refine HG.out.mono ?_
    rintro e w1 ⟨rfl, hb⟩
    have B1 := Lib.hid (B0.out.trans (hb.mono B0.out.size))
    have A1 := BA.out.below hb
    have c1 := A1.2.1
    have c1b := A1.2.2
    clear hb c0 c0b
    have hca := (World.cell?_alloc_lt (w := w1) (o := .cells #[.pointer none, .slice none 0 0] 69) (a := ⟨w.heap.size, 0, none⟩) A1.1).trans c1
    have HB0 := Lib.hid (IsBl.fresh w1)
    have HBW := Lib.hid (below_one w1 (.cells #[.pointer none, .slice none 0 0] 69))
    obtain ⟨bb, hbb⟩ : ∃ bb, w1.heap.size = bb := ⟨_, rfl⟩
    rw [hbb] at HB0 HBW
    have BB := Lib.hid (show w.heap.size ≤ bb by rw [← hbb]; exact B1.out.size)
    have B2 := Lib.hid (B1.out.trans (HBW.out.mono BB.out))
    have HL := Lib.hid (show w.heap.size < bb by rw [← hbb]; exact A1.1)
    have HC1 := Lib.hid c1b
    clear c1b
    go_wp2_with fail
    generalize w1.alloc (.cells #[.pointer none, .slice none 0 0] 69) = w2 at *
    clear hca c1 hbb A1
    go_loopw [5] (fun k wr => ∃ (j q : Nat), j + q = H ∧ k = .int .i64 ((q : Int) - 1) ∧ Hid (IsBl bb (textT Y H j) wr) ∧ Hid (Below bb w2 wr)) (fun k _ => (intOf k + 1).toNat)
    case atStart => exact ⟨0, H, by omega, by first | rfl | exact val_i (by omega), HB0, Lib.hid (Below.refl _ _)⟩
    case round =>
      obtain ⟨j, q, hjq, rfl, HB, HW⟩ := hrel
      rename World => wo
      match q, hjq with
      | r + 1, hjq =>
        have hr : ((r + 1 : Nat) : Int) - 1 = (r : Int) := by omega
        rw [hr]
        have hr0 : (0 : Int) ≤ (r : Int) := by omega
        have hr1 : Hid (((r + 1 : Nat) : Int) - 1 = (r : Int)) := Lib.hid hr
        clear hr
        have hcA := ((HBW.out.trans HW.out).cell (p := ⟨w.heap.size, 1, none⟩) HL.out).trans HC1.out
        go_wp2_with fail
        clear hcA
        go_loopw [21] (fun ii wr => ∃ (i : Nat), i ≤ n ∧ ii = .int .i64 i ∧ Hid (IsBl bb (textT Y H j ++ lineT Y r i) wr) ∧ Hid (Below bb w2 wr)) (fun ii _ => n - (intOf ii).toNat)
        case atStart => exact ⟨0, Nat.zero_le _, rfl, Lib.hid (by simpa [lineT] using HB.out), HW⟩
        case round =>
          obtain ⟨i, hi, rfl, HB2, HW2⟩ := hrel
          rename World => wi
          have HP := Lib.hid (part_len (Y := Y) (by have := HN.out; omega) H j r i (by omega) (by omega))
          by_cases hin : i < n
          · obtain ⟨l, hl⟩ := get_at HN.out hin
            obtain ⟨g, off, rfl, hg0, hcc⟩ := HC.out (by have := HN.out; omega)
            obtain ⟨u, hu', hil⟩ := hcc i l hl
            have hbW := B2.out.trans (HW2.out.mono BB.out)
            have hu := (hbW.cell (p := ⟨g, off + i, none⟩) hg0).trans hu'
            have HLd := Lib.hid (getD_of hl)
            have HIL := Lib.hid (fun W (hb : Below w.heap.size w W) => hil.below hb)
            have HWW := Lib.hid hbW
            have H4l := Lib.hid (HR4.out l (List.mem_of_getElem? hl))
            have HFl := Lib.hid (fun (x : Int) (hx : x ∈ l) => HSn.out x (List.mem_flatten.2 ⟨l, List.mem_of_getElem? hl, hx⟩))
            have HLT : Hid (lineT Y r (i + 1) = lineT Y r i ++ (if 0 < i then [32] else []) ++ cellT l r) := Lib.hid (by simp only [lineT]; rw [HLd.out])
            have hinI : (i : Int) < (n : Int) := by omega
            have hcl := cellT_len l r
            clear hl hcc hil hu' hbW
            by_cases hi0 : 0 < i
            · have hi0I : (0 : Int) < (i : Int) := by omega
              rw [if_pos hi0] at HLT
              have HW1 := Lib.hid (wr_any bb _ [32] wi HB2.out (by have := HP.out; simp only [List.length_singleton]; omega))
              go_wp2_with fail
              refine HW1.out.mono ?_
              rintro e wj ⟨rfl, hb1, hb2⟩
              have HBj := Lib.hid hb1
              have HWj := Lib.hid (HW2.out.trans hb2)
              have HILj := Lib.hid (HIL.out _ (B2.out.trans (HWj.out.mono BB.out)))
              clear hb1 hb2 hu
              go_wp2_with fail
              refine (slotTxt_any _ l r HFl.out _ HILj.out (by omega) H4l.out).mono ?_
              rintro e wk ⟨rfl, rfl⟩
              have HW3 := Lib.hid (wr_any bb _ (cellT l r) wk HBj.out (by have := HP.out; simp only [List.length_append, List.length_singleton] at this ⊢; omega))
              go_wp2_with fail
              refine HW3.out.mono ?_
              rintro e wl ⟨rfl, hb1, hb2⟩
              have HBl : Hid (IsBl bb (textT Y H j ++ lineT Y r (i + 1)) wl) := Lib.hid (by
                rw [HLT.out, ← List.append_assoc, ← List.append_assoc]
                exact hb1)
              have HWl := Lib.hid (HWj.out.trans hb2)
              clear hb1 hb2
              go_wp2_with fail
              exact ⟨⟨i + 1, by omega, by go_num, HBl, HWl⟩, by simp [intOf]; omega⟩
            · have hi0I : ¬ (0 : Int) < (i : Int) := by omega
              rw [if_neg hi0] at HLT
              have HILj := Lib.hid (HIL.out _ HWW.out)
              go_wp2_with fail
              refine (slotTxt_any _ l r HFl.out _ HILj.out (by omega) H4l.out).mono ?_
              rintro e wk ⟨rfl, rfl⟩
              have HW3 := Lib.hid (wr_any bb _ (cellT l r) wk HB2.out (by have := HP.out; omega))
              clear hu
              go_wp2_with fail
              refine HW3.out.mono ?_
              rintro e wl ⟨rfl, hb1, hb2⟩
              have HBl : Hid (IsBl bb (textT Y H j ++ lineT Y r (i + 1)) wl) := Lib.hid (by
                rw [HLT.out, List.append_nil, ← List.append_assoc]
                exact hb1)
              have HWl := Lib.hid (HW2.out.trans hb2)
              clear hb1 hb2
              go_wp2_with fail
              exact ⟨⟨i + 1, by omega, by go_num, HBl, HWl⟩, by simp [intOf]; omega⟩
          · obtain rfl : i = n := by omega
            have hinI : ¬ (i : Int) < (i : Int) := by omega
            have HW1 := Lib.hid (wr_any bb _ [10] wi HB2.out (by have := HP.out; simp only [List.length_singleton]; omega))
            go_wp2_with fail
            refine HW1.out.mono ?_
            rintro e wj ⟨rfl, hb1, hb2⟩
            have HBj : Hid (IsBl bb (textT Y H (j + 1)) wj) := Lib.hid (by
              simp only [textT]
              rw [HN.out, show H - 1 - j = r by omega]
              exact hb1)
            have HWj := Lib.hid (HW2.out.trans hb2)
            clear hb1 hb2
            go_wp2_with fail
            exact ⟨⟨j + 1, r, by omega, rfl, HBj, HWj⟩, by simp [intOf]⟩
      | 0, hjq =>
        obtain rfl : j = H := by omega
        have HS := Lib.hid (Tryd.builder_string bb bb (textT Y j j) wo HB.out (Nat.le_of_lt HB.out.lt))
        go_wp2_with fail
        refine HS.out.mono ?_
        rintro e wz ⟨rfl, hb⟩
        have BZ := Lib.hid (B2.out.trans ((HW.out.trans hb).mono BB.out))
        clear hb
        go_wp2_with fail
        go_ret2
        exact ⟨by rw [HX.out]; rfl, BZ.out⟩
end Go.Proofs.YtfbeoficgkkamaaDoor
