/-
  The ships of a plan in the program: mooringOf. No statement of the seat by itself.
-/
import Derived.Test.YtpljcpeghjplnaaQMl
import Derived.Test.YtpljcpeghjplnaaQG
namespace Go.Proofs.Ytpljcpeghjplnaa
open Go.RowKit

def mfQ (q : Int) (S : List Shp) (P : List Brt) : Int := if askQ q S P = true then q else 0
def mfM (q : Int) (S : List Shp) (P : List Brt) : List Sty := if askQ q S P = true then stsQ S P P.length else []
theorem mf_no {q : Int} {S : List Shp} {P : List Brt} (h : askQ q S P = false) : mfQ q S P = 0 ∧ mfM q S P = [] := by simp [mfQ, mfM, h]
theorem mf_yes {q : Int} {S : List Shp} {P : List Brt} (h : askQ q S P = true) : mfQ q S P = q ∧ mfM q S P = stsQ S P P.length := by simp [mfQ, mfM, h]
/-- What mooringOf answers. -/
def MfP (q : Int) (S : List Shp) (P : List Brt) (w : World) (e : Ending) (w' : World) : Prop := ∃ xs, RepX (mfQ q S P) (mfM q S P) xs ∧ e = .returned (.tuple #[moV xs, .bool (askQ q S P)]) ∧ Below w.heap.size w w'
theorem moor_no (b off : Nat) (q : Int) (M : List Sty) (x : Sty) (hq : isQ q = true) (hx : okShp x.2.1 = true) (hM : ∀ s ∈ M, okSty s) (w : World) (h : MoC w b off q M) (hc : canB q M x.2.1 x.2.2 = false) :
    Calls Try.prog 123 #[.pointer (some ⟨b, off, none⟩), stV x] w (BoolP w false) := by
  cases hf : fitB q x.2.1 x.2.2 with
  | false => exact moor_out b off q M x hq hx w h hf
  | true =>
    rw [canB, hf, Bool.true_and] at hc
    exact moor_search b off q M x hq hx hM w h hf hc
theorem MoF.cell {w w' : World} {b off : Nat} (h : MoF w w' b off) {a : Addr} (hb : a.block ≠ b) (ha : a.block < w.heap.size) : w'.cell? a = w.cell? a :=
  World.cell?_of_block (h.1.block a.block ha (by omega))
theorem MoF.there {w w' : World} {b off g o n : Nat} (h : MoF w w' b off) (hb : g ≠ b) (k : w.there g o n) : w'.there g o n := fun j hj => by
  obtain ⟨k1, k2⟩ := k j hj
  obtain ⟨u, hu⟩ := Option.isSome_iff_exists.1 k1
  have hg : g < w.heap.size := World.block_lt_of_cell? w ⟨g, o + j, none⟩ hu
  have hbk := h.1.block g hg (by omega)
  exact ⟨by rw [World.cell?_of_block (w := w) (a := ⟨g, o + j, none⟩) hbk, hu]; rfl, by rw [World.frozen?_of_block (w := w) (a := ⟨g, o + j, none⟩) hbk]; exact k2⟩
theorem there_below {w w' : World} {g o n : Nat} (h : Below w.heap.size w w') (k : w.there g o n) : w'.there g o n := fun j hj => by
  obtain ⟨k1, k2⟩ := k j hj
  obtain ⟨u, hu⟩ := Option.isSome_iff_exists.1 k1
  have hg : g < w.heap.size := World.block_lt_of_cell? w ⟨g, o + j, none⟩ hu
  exact ⟨by rw [h.cell (p := ⟨g, o + j, none⟩) hg, hu]; rfl, by rw [h.frozen (p := ⟨g, o + j, none⟩) hg]; exact k2⟩
theorem MoF.belowN {w0 w w' : World} {b off B : Nat} (h : MoF w w' b off) (hb : Below B w0 w) (hB : B ≤ b) (hs : B ≤ w.heap.size) : Below B w0 w' :=
  hb.trans ⟨h.1.os, h.1.tape, h.1.output, h.1.size, fun k hk => h.1.block k (by omega) (.inl (by omega))⟩

/-- What stays while a ship of the list is moored. -/
def KeepF (sb g2 o2 bm : Nat) (l a h c p t : Int) (W : World) : Prop :=
  W.cell? ⟨sb, 0, none⟩ = some (.int .i64 l) ∧ W.cell? ⟨sb, 1, none⟩ = some (.int .i64 a) ∧ W.cell? ⟨sb, 2, none⟩ = some (.int .i64 h) ∧ W.cell? ⟨sb, 3, none⟩ = some (.int .i64 c) ∧ W.cell? ⟨g2, o2, none⟩ = some (.int .i64 p) ∧ W.cell? ⟨g2, o2 + 1, none⟩ = some (.int .i64 t) ∧ sb ≠ bm ∧ g2 ≠ bm
theorem KeepF.below {sb g2 o2 bm : Nat} {l a h c p t : Int} {W W' : World} (k : KeepF sb g2 o2 bm l a h c p t W) (hb : Below W.heap.size W W') : KeepF sb g2 o2 bm l a h c p t W' := by
  obtain ⟨k0, k1, k2, k3, k4, k5, k6, k7⟩ := k
  have s := World.block_lt_of_cell? W _ k0
  have g := World.block_lt_of_cell? W _ k4
  exact ⟨(hb.cell (p := ⟨sb, 0, none⟩) s).trans k0, (hb.cell (p := ⟨sb, 1, none⟩) s).trans k1, (hb.cell (p := ⟨sb, 2, none⟩) s).trans k2, (hb.cell (p := ⟨sb, 3, none⟩) s).trans k3, (hb.cell (p := ⟨g2, o2, none⟩) g).trans k4, (hb.cell (p := ⟨g2, o2 + 1, none⟩) g).trans k5, k6, k7⟩
theorem KeepF.drew {sb g2 o2 bm : Nat} {l a h c p t : Int} {W : World} (k : KeepF sb g2 o2 bm l a h c p t W) : KeepF sb g2 o2 bm l a h c p t W.drew := k.below (Below.refl _ _).drew
theorem KeepF.moored {sb g2 o2 bm off : Nat} {l a h c p t : Int} {W W' : World} (k : KeepF sb g2 o2 bm l a h c p t W) (hf : MoF W W' bm off) : KeepF sb g2 o2 bm l a h c p t W' := by
  obtain ⟨k0, k1, k2, k3, k4, k5, k6, k7⟩ := k
  have s := World.block_lt_of_cell? W _ k0
  have g := World.block_lt_of_cell? W _ k4
  exact ⟨(hf.cell (a := ⟨sb, 0, none⟩) k6 s).trans k0, (hf.cell (a := ⟨sb, 1, none⟩) k6 s).trans k1, (hf.cell (a := ⟨sb, 2, none⟩) k6 s).trans k2, (hf.cell (a := ⟨sb, 3, none⟩) k6 s).trans k3, (hf.cell (a := ⟨g2, o2, none⟩) k7 g).trans k4, (hf.cell (a := ⟨g2, o2 + 1, none⟩) k7 g).trans k5, k6, k7⟩

set_option maxRecDepth 100000 in
set_option maxHeartbeats 8000000 in
theorem mooringOf_any (q : Int) (v vp : Value) (S : List Shp) (P : List Brt) (hs : S.length ≤ 1048576) (hn : P.length ≤ 1048576) (w : World) (hv : QsL w v S) (hvp : QbL w vp P) :
    Calls Try.prog 78 #[.int .i64 q, v, vp] w (MfP q S P w) := by
  have HQ := Lib.hid (fun W => isQuay_any q W)
  have HSh := Lib.hid (fun W (hW : Below w.heap.size w W) => areShips_any v S hs W (hv.below hW))
  cases hq : isQ q with
  | false =>
    have HA : Hid (askQ q S P = false) := Lib.hid (by rw [askQ, hq]; rfl)
    have HNo := Lib.hid (mf_no HA.out)
    rw [hq] at HQ
    obtain ⟨a0, c0, rfl⟩ := hv.form
    obtain ⟨a1, c1, rfl⟩ := hvp.form
    clear hv hvp hq HSh
    generalize S.length = m at *
    generalize P.length = n at *
    go_enter Try.func78, Try.ntmps78
    go_wp2_with (refine wpList_newM rfl rfl ?_; intro W1 hN1; have N1 := Lib.hid hN1; clear hN1)
    refine (HQ.out _).mono ?_
    rintro e w1 ⟨rfl, rfl⟩
    go_wp2_with (first | (refine wpList_bld0 rfl rfl ?_) | (refine wpList_putM rfl _ _ rfl w.heap.size rfl zM rfl (by simp [zM]) N1.out.there ?_; intro W9 hP9; have P9 := Lib.hid hP9; clear hP9) | (refine bodyPost_ret (v := .tuple #[moV zM, .bool false]) (results_getM rfl rfl zM (by simp [zM]) P9.out.1 rfl) rfl ⟨zM, by rw [HNo.out.1, HNo.out.2]; exact RepX.zero, by rw [HA.out], Below.span N1.out.2.2.1 P9.out.2.2 (Nat.le_of_lt N1.out.2.2.2)⟩))
  | true =>
  rw [hq] at HQ
  cases hg : goodQ S with
  | false =>
    have HA : Hid (askQ q S P = false) := Lib.hid (by rw [askQ, hg]; simp)
    have HNo := Lib.hid (mf_no HA.out)
    rw [hg] at HSh
    obtain ⟨a0, c0, rfl⟩ := hv.form
    obtain ⟨a1, c1, rfl⟩ := hvp.form
    clear hv hvp hq hg
    generalize S.length = m at *
    generalize P.length = n at *
    go_enter Try.func78, Try.ntmps78
    go_wp2_with (refine wpList_newM rfl rfl ?_; intro W1 hN1; have N1 := Lib.hid hN1; clear hN1)
    refine (HQ.out _).mono ?_
    rintro e w1 ⟨rfl, rfl⟩
    go_wp2_with fail
    refine (HSh.out _ N1.out.2.2.1).mono ?_
    rintro e w2 ⟨rfl, hb⟩
    have HB := Lib.hid hb
    clear hb
    go_wp2_with (first | (refine wpList_bld0 rfl rfl ?_) | (refine wpList_putM rfl _ _ rfl w.heap.size rfl zM rfl (by simp [zM]) (there_below HB.out N1.out.there) ?_; intro W9 hP9; have P9 := Lib.hid hP9; clear hP9) | (refine bodyPost_ret (v := .tuple #[moV zM, .bool false]) (results_getM rfl rfl zM (by simp [zM]) P9.out.1 rfl) rfl ⟨zM, by rw [HNo.out.1, HNo.out.2]; exact RepX.zero, by rw [HA.out], Below.span (N1.out.2.2.1.trans (HB.out.mono N1.out.2.2.1.size)) P9.out.2.2 (Nat.le_trans (Nat.le_of_lt N1.out.2.2.2) HB.out.size)⟩))
  | true =>
  rw [hg] at HSh
  by_cases hmn : P.length = S.length
  case neg =>
    have HA : Hid (askQ q S P = false) := Lib.hid (by rw [askQ, decide_eq_false hmn]; simp)
    have HNo := Lib.hid (mf_no HA.out)
    obtain ⟨a0, c0, rfl⟩ := hv.form
    obtain ⟨a1, c1, rfl⟩ := hvp.form
    clear hv hvp hq hg
    generalize S.length = m at *
    generalize P.length = n at *
    have hne : (n : Int) ≠ (m : Int) := by omega
    have hd : decide ((n : Int) = (m : Int)) = false := by simp; omega
    have hd2 : decide (n = m) = false := by simp; omega
    go_enter Try.func78, Try.ntmps78
    go_wp2_with (refine wpList_newM rfl rfl ?_; intro W1 hN1; have N1 := Lib.hid hN1; clear hN1)
    refine (HQ.out _).mono ?_
    rintro e w1 ⟨rfl, rfl⟩
    go_wp2_with fail
    refine (HSh.out _ N1.out.2.2.1).mono ?_
    rintro e w2 ⟨rfl, hb⟩
    have HB := Lib.hid hb
    clear hb
    go_wp2_with (first | (refine wpList_bld0 rfl rfl ?_) | (refine wpList_putM rfl _ _ rfl w.heap.size rfl zM rfl (by simp [zM]) (there_below HB.out N1.out.there) ?_; intro W9 hP9; have P9 := Lib.hid hP9; clear hP9) | (refine bodyPost_ret (v := .tuple #[moV zM, .bool false]) (results_getM rfl rfl zM (by simp [zM]) P9.out.1 rfl) rfl ⟨zM, by rw [HNo.out.1, HNo.out.2]; exact RepX.zero, by rw [HA.out], Below.span (N1.out.2.2.1.trans (HB.out.mono N1.out.2.2.1.size)) P9.out.2.2 (Nat.le_trans (Nat.le_of_lt N1.out.2.2.2) HB.out.size)⟩))
  have HGd := Lib.hid hg
  have HQt := Lib.hid hq
  have hm5 := goodQ_len hg
  have HMn := Lib.hid hmn
  obtain ⟨a0, c0, rfl, hc0⟩ := hv
  obtain ⟨a1, c1, rfl, hc1⟩ := hvp
  obtain ⟨n, hl⟩ : ∃ n, P.length = n := ⟨_, rfl⟩
  have hm : S.length = n := by omega
  have HM := Lib.hid hm
  have HN := Lib.hid hl
  have HC0 := Lib.hid hc0
  have HC1 := Lib.hid hc1
  rw [hl] at hn ⊢
  rw [hm] at hm5 HSh ⊢
  have HYes : Hid (upQ q S P n = true → askQ q S P = true) := Lib.hid fun h => by rw [askQ, hq, hg, decide_eq_true hmn, hl, h]; rfl
  have HFal : Hid (∀ k x b, S[k]? = some x → P[k]? = some b → canB q (stsQ S P k) x b = false → askQ q S P = false) := Lib.hid fun k x b hx hb h => by
    have hk : k < P.length := (List.getElem?_eq_some_iff.1 hb).1
    rw [askQ, upQ_no hk (by rw [stepQ_get hx hb]; exact h), Bool.and_false]
  clear hc0 hc1 hl hm hq hg hmn
  go_enter Try.func78, Try.ntmps78
  go_wp2_with (refine wpList_newM rfl rfl ?_; intro W1 hN1; have N1 := Lib.hid hN1; clear hN1)
  refine (HQ.out _).mono ?_
  rintro e w1 ⟨rfl, rfl⟩
  go_wp2_with fail
  refine (HSh.out _ N1.out.2.2.1).mono ?_
  rintro e w2 ⟨rfl, hb⟩
  have HB2 := Lib.hid (N1.out.2.2.1.trans (hb.mono N1.out.2.2.1.size))
  have HT2 := Lib.hid (there_below hb N1.out.there)
  have HS2 := Lib.hid (Nat.lt_of_lt_of_le N1.out.2.2.2 hb.size)
  clear hb N1
  rename World => w2
  go_wp2_with (first | (refine wpList_bldq rfl _ rfl q rfl ?_) | (refine wpList_newM rfl rfl ?_; intro W3 hN3; have N3 := Lib.hid hN3; clear hN3) | (refine wpList_putM rfl _ _ rfl w2.heap.size rfl (q :: List.replicate 36 0) rfl rfl N3.out.there ?_; intro W4 hP4; have P4 := Lib.hid hP4; clear hP4))
  have HMo := Lib.hid (N3.out.put P4.out (RepX.start q))
  have HB4 : Hid (Below w.heap.size w W4) := Lib.hid (HB2.out.trans (HMo.out.2.1.mono HB2.out.size))
  have HT4 : Hid (W4.there w.heap.size 0 37) := Lib.hid (there_below HMo.out.2.1 HT2.out)
  have HM4 : Hid (MoC W4 w2.heap.size 0 q (stsQ S P 0)) := Lib.hid HMo.out.1
  obtain ⟨bm, hbm⟩ : ∃ bm, w2.heap.size = bm := ⟨_, rfl⟩
  have HBm : Hid (w.heap.size < bm) := Lib.hid (by rw [← hbm]; exact HS2.out)
  rw [hbm] at HM4 ⊢
  clear N3 P4 HMo HB2 HT2 HS2 hbm
  go_loopw [31] (fun i wr => ∃ k : Nat, k ≤ n ∧ i = .int .i64 k ∧ Hid (MoC wr bm 0 q (stsQ S P k)) ∧ Hid (Below w.heap.size w wr) ∧ Hid (wr.there w.heap.size 0 37) ∧ Hid (upQ q S P k = true)) (fun i _ => n - (intOf i).toNat)
  case atStart => exact ⟨0, Nat.zero_le _, rfl, HM4, HB4, HT4, Lib.hid (upQ_zero _ _ _)⟩
  case round =>
    obtain ⟨k, hk, rfl, HMk, HB, HT, HU⟩ := hrel
    by_cases hlt : k < n
    case neg =>
      obtain rfl : k = n := by omega
      have HA := Lib.hid (HYes.out HU.out)
      obtain ⟨xs, hxs, hrg⟩ := HMk.out.val
      have HX := Lib.hid hxs
      have HR := Lib.hid hrg
      clear hxs hrg
      go_wp2_with (first | (refine wpList_getM rfl _ rfl bm rfl xs HX.out.1 HR.out ?_) | (refine wpList_putM rfl _ _ rfl w.heap.size rfl xs rfl HX.out.1 HT.out ?_; intro W9 hP9; have P9 := Lib.hid hP9; clear hP9) | (refine bodyPost_ret (v := .tuple #[moV xs, .bool true]) (results_getM rfl rfl xs HX.out.1 P9.out.1 rfl) rfl ⟨xs, by rw [(mf_yes HA.out).1, (mf_yes HA.out).2, HN.out]; exact HX.out, by rw [HA.out], Below.span HB.out P9.out.2.2 HB.out.size⟩))
    obtain ⟨g, off, rfl, hg, hcc⟩ := HC0.out (by have := HM.out; omega)
    obtain ⟨g2, off2, rfl, hg2, hcc2⟩ := HC1.out (by have := HN.out; omega)
    obtain ⟨x, hx⟩ := get_at HM.out hlt
    obtain ⟨b, hb⟩ := get_at HN.out hlt
    have HX := Lib.hid hx
    have HBb := Lib.hid hb
    have HOs := Lib.hid (show okShp x = true from (goodQ_iff.1 HGd.out).2 x (List.mem_of_getElem? hx))
    obtain ⟨l, a, h, c⟩ := x
    obtain ⟨p, t⟩ := b
    have a0 := (HB.out.cell (p := ⟨g, off + k * 4, none⟩) hg).trans (hcc k _ hx).1
    have a1 := (HB.out.cell (p := ⟨g, off + k * 4 + 1, none⟩) hg).trans (hcc k _ hx).2.1
    have a2 := (HB.out.cell (p := ⟨g, off + k * 4 + 2, none⟩) hg).trans (hcc k _ hx).2.2.1
    have a3 := (HB.out.cell (p := ⟨g, off + k * 4 + 3, none⟩) hg).trans (hcc k _ hx).2.2.2
    have b0 := (HB.out.cell (p := ⟨g2, off2 + k * 2, none⟩) hg2).trans (hcc2 k _ hb).1
    have b1 := (HB.out.cell (p := ⟨g2, off2 + k * 2 + 1, none⟩) hg2).trans (hcc2 k _ hb).2
    have HG2 := Lib.hid (Nat.lt_of_lt_of_le hg2 HB.out.size)
    have HG2w := Lib.hid hg2
    clear hcc hcc2 hg hg2 hx hb
    simp only at a0 a1 a2 a3 b0 b1
    have HBa := Lib.hid (below_one wr (.cells #[.int .i64 l, .int .i64 a, .int .i64 h, .int .i64 c] 41))
    have hka := last_alloc wr (.cells #[.int .i64 l, .int .i64 a, .int .i64 h, .int .i64 c] 41)
    have HW5 : Hid (KeepF wr.heap.size g2 (off2 + k * 2) bm l a h c p t (wr.alloc (.cells #[.int .i64 l, .int .i64 a, .int .i64 h, .int .i64 c] 41))) := Lib.hid
      ⟨cell_of hka (i := 0) rfl, cell_of hka (i := 1) rfl, cell_of hka (i := 2) rfl, cell_of hka (i := 3) rfl, (HBa.out.cell (p := ⟨g2, off2 + k * 2, none⟩) HG2.out).trans b0, (HBa.out.cell (p := ⟨g2, off2 + k * 2 + 1, none⟩) HG2.out).trans b1, by have := HMk.out.block; omega, by have := HBm.out; have := HG2w.out; omega⟩
    have HM5 := Lib.hid (HMk.out.below HBa.out)
    have HB5 := Lib.hid (HB.out.trans (HBa.out.mono HB.out.size))
    have HT5 := Lib.hid (there_below HBa.out HT.out)
    clear hka b0 b1
    cases hcb : canB q (stsQ S P k) (l, a, h, c) (p, t) with
    | false =>
      have HA := Lib.hid (HFal.out k _ _ HX.out HBb.out hcb)
      have HNo := Lib.hid (mf_no HA.out)
      have HCm := Lib.hid (fun W (hW : MoC W bm 0 q (stsQ S P k)) => moor_no bm 0 q (stsQ S P k) ((k : Int), (l, a, h, c), (p, t)) HQt.out HOs.out (stsQ_ok HQt.out HGd.out (by rw [HM.out]; exact hk) HU.out) W hW hcb)
      clear hcb
      go_wp2_with fail
      clear a0 a1 a2 a3 HBa HMk HB HT HC0 HC1 HG2 HG2w
      generalize wr.alloc (.cells #[.int .i64 l, .int .i64 a, .int .i64 h, .int .i64 c] 41) = W5 at *
      generalize wr.heap.size = sb at *
      have hkd := HW5.out.drew
      refine wp_region_held_drew (S := fun W' => KeepF sb g2 (off2 + k * 2) bm l a h c p t W') (by kernel_rfl) ?_ (fun hHeld => ?_)
      · exact hkd
      refine (wpAnyH_take (i := 0) (v := ?_) rfl (by kernel_rfl) (by kernel_rfl) (by kernel_rfl) (fun _ _ _ h => h) (Or.inl ⟨by rfl, ?_⟩) (by assumption) ?_)
      rotate_left 1
      · (intro w hSw; (try dsimp only at hSw); obtain ⟨s0, s1, s2, s3, s4, s5, -, -⟩ := hSw; (go_simp) <;> with_reducible rfl)
      try simp only [List.getElem_toArray, List.getElem_cons_zero, Act.put, List.setIfInBounds_toArray, List.set_cons_zero, List.set_cons_succ]
      refine (wpAnyH_take (i := 1) (v := ?_) rfl (by kernel_rfl) (by kernel_rfl) (by kernel_rfl) (fun _ _ _ h => h) (Or.inl ⟨by rfl, ?_⟩) (by assumption) ?_)
      rotate_left 1
      · (intro w hSw; (try dsimp only at hSw); obtain ⟨s0, s1, s2, s3, s4, s5, -, -⟩ := hSw; (go_simp) <;> with_reducible rfl)
      try simp only [List.getElem_toArray, List.getElem_cons_zero, List.getElem_cons_succ, Act.put, List.setIfInBounds_toArray, List.set_cons_zero, List.set_cons_succ]
      refine (wpAnyH_take (i := 2) (v := ?_) rfl (by kernel_rfl) (by kernel_rfl) (by kernel_rfl) (fun _ _ _ h => h) (Or.inl ⟨by rfl, ?_⟩) (by assumption) ?_)
      rotate_left 1
      · (intro w hSw; (try dsimp only at hSw); obtain ⟨s0, s1, s2, s3, s4, s5, -, -⟩ := hSw; (go_simp) <;> with_reducible rfl)
      try simp only [List.getElem_toArray, List.getElem_cons_zero, List.getElem_cons_succ, Act.put, List.setIfInBounds_toArray, List.set_cons_zero, List.set_cons_succ]
      refine (wpAnyH_take (i := 3) (v := ?_) rfl (by kernel_rfl) (by kernel_rfl) (by kernel_rfl) (fun _ _ _ h => h) (Or.inl ⟨by rfl, ?_⟩) (by assumption) ?_)
      rotate_left 1
      · (intro w hSw; (try dsimp only at hSw); obtain ⟨s0, s1, s2, s3, s4, s5, -, -⟩ := hSw; (go_simp) <;> with_reducible rfl)
      try simp only [List.getElem_toArray, List.getElem_cons_zero, List.getElem_cons_succ, Act.put, List.setIfInBounds_toArray, List.set_cons_zero, List.set_cons_succ]
      refine (wpAnyH_take (i := 4) (v := ?_) rfl (by kernel_rfl) (by kernel_rfl) (by kernel_rfl) (fun _ _ _ h => h) (Or.inl ⟨by rfl, ?_⟩) (by assumption) ?_)
      rotate_left 1
      · (intro w hSw; (try dsimp only at hSw); obtain ⟨s0, s1, s2, s3, s4, s5, -, -⟩ := hSw; (go_simp) <;> with_reducible rfl)
      try simp only [List.getElem_toArray, List.getElem_cons_zero, List.getElem_cons_succ, Act.put, List.setIfInBounds_toArray, List.set_cons_zero, List.set_cons_succ]
      refine (wpAnyH_take (i := 5) (v := ?_) rfl (by kernel_rfl) (by kernel_rfl) (by kernel_rfl) (fun _ _ _ h => h) (Or.inl ⟨by rfl, ?_⟩) (by assumption) ?_)
      rotate_left 1
      · (intro w hSw; (try dsimp only at hSw); obtain ⟨s0, s1, s2, s3, s4, s5, -, -⟩ := hSw; (go_simp) <;> with_reducible rfl)
      try simp only [List.getElem_toArray, List.getElem_cons_zero, List.getElem_cons_succ, Act.put, List.setIfInBounds_toArray, List.set_cons_zero, List.set_cons_succ]
      refine (wpAnyH_take (i := 6) (v := ?_) rfl (by kernel_rfl) (by kernel_rfl) (by kernel_rfl) (fun _ _ _ h => h) (Or.inl ⟨by rfl, ?_⟩) (by assumption) ?_)
      rotate_left 1
      · (intro w hSw; (try dsimp only at hSw); obtain ⟨s0, s1, s2, s3, s4, s5, -, -⟩ := hSw; (go_simp) <;> with_reducible rfl)
      try simp only [List.getElem_toArray, List.getElem_cons_zero, List.getElem_cons_succ, Act.put, List.setIfInBounds_toArray, List.set_cons_zero, List.set_cons_succ]
      refine wpAnyH_ready (rs := [7]) (by kernel_rfl) (by simp) ?_
      refine AllReadyH.cons rfl (fun K hK => ?_) ?_
      · go_simp
        go_at_call 123
        refine (HCm.out _ HM5.out.dr).mono ?_
        rintro e w6 ⟨rfl, hb6⟩
        refine hK.out _ _ ?_ (fun hNew => ?_)
        · (try dsimp only); exact KeepF.below hHeld hb6
        clear hK K hHeld
        have hHeld := hNew
        clear hNew
        try simp only [List.getElem_toArray, List.getElem_cons_zero, List.getElem_cons_succ, Act.put, List.setIfInBounds_toArray, List.set_cons_zero, List.set_cons_succ]
        refine (wpAnyH_take (i := 8) (v := ?_) rfl (by kernel_rfl) (by kernel_rfl) (by kernel_rfl) (fun _ _ _ h => h) (Or.inl ⟨by rfl, ?_⟩) (by assumption) ?_)
        rotate_left 1
        · (intro w hSw; (try dsimp only at hSw); obtain ⟨s0, s1, s2, s3, s4, s5, -, -⟩ := hSw; (go_simp) <;> with_reducible rfl)
        try simp only [List.getElem_toArray, List.getElem_cons_zero, List.getElem_cons_succ, Act.put, List.setIfInBounds_toArray, List.set_cons_zero, List.set_cons_succ]
        refine wpAnyH_done (by kernel_rfl) ?_ _
        have HB6 := Lib.hid (HB5.out.trans ((below_drew_left hb6).mono HB5.out.size))
        have HT6 := Lib.hid (there_below (below_drew_left hb6) HT5.out)
        clear hHeld hb6
        go_wp2_with (first | (refine wpList_bld0 rfl rfl ?_) | (refine wpList_putM rfl _ _ rfl w.heap.size rfl zM rfl (by simp [zM]) HT6.out ?_; intro W9 hP9; have P9 := Lib.hid hP9; clear hP9) | (refine bodyPost_ret (v := .tuple #[moV zM, .bool false]) (results_getM rfl rfl zM (by simp [zM]) P9.out.1 rfl) rfl ⟨zM, by rw [HNo.out.1, HNo.out.2]; exact RepX.zero, by rw [HA.out], Below.span HB6.out P9.out.2.2 HB6.out.size⟩))
      exact AllReadyH.nil
    | true =>
      have HCm := Lib.hid (fun W (hW : MoC W bm 0 q (stsQ S P k)) => moor_yes bm 0 q (stsQ S P k) ((k : Int), (l, a, h, c), (p, t)) HQt.out HOs.out (stsQ_ok HQt.out HGd.out (by rw [HM.out]; exact hk) HU.out) W hW (by simp only [canB, Bool.and_eq_true] at hcb; exact hcb.1) (by simp only [canB, Bool.and_eq_true] at hcb; exact hcb.2) (by rw [stsQ_len]; omega))
      have HU2 : Hid (upQ q S P (k + 1) = true) := Lib.hid (by rw [upQ_succ, HU.out, stepQ_get HX.out HBb.out, hcb]; rfl)
      have HSt := Lib.hid (stsQ_succ HX.out HBb.out)
      clear hcb
      go_wp2_with fail
      clear a0 a1 a2 a3 HBa HMk HB HT HC0 HC1 HG2 HG2w
      generalize wr.alloc (.cells #[.int .i64 l, .int .i64 a, .int .i64 h, .int .i64 c] 41) = W5 at *
      generalize wr.heap.size = sb at *
      have hkd := HW5.out.drew
      refine wp_region_held_drew (S := fun W' => KeepF sb g2 (off2 + k * 2) bm l a h c p t W') (by kernel_rfl) ?_ (fun hHeld => ?_)
      · exact hkd
      refine (wpAnyH_take (i := 0) (v := ?_) rfl (by kernel_rfl) (by kernel_rfl) (by kernel_rfl) (fun _ _ _ h => h) (Or.inl ⟨by rfl, ?_⟩) (by assumption) ?_)
      rotate_left 1
      · (intro w hSw; (try dsimp only at hSw); obtain ⟨s0, s1, s2, s3, s4, s5, -, -⟩ := hSw; (go_simp) <;> with_reducible rfl)
      try simp only [List.getElem_toArray, List.getElem_cons_zero, Act.put, List.setIfInBounds_toArray, List.set_cons_zero, List.set_cons_succ]
      refine (wpAnyH_take (i := 1) (v := ?_) rfl (by kernel_rfl) (by kernel_rfl) (by kernel_rfl) (fun _ _ _ h => h) (Or.inl ⟨by rfl, ?_⟩) (by assumption) ?_)
      rotate_left 1
      · (intro w hSw; (try dsimp only at hSw); obtain ⟨s0, s1, s2, s3, s4, s5, -, -⟩ := hSw; (go_simp) <;> with_reducible rfl)
      try simp only [List.getElem_toArray, List.getElem_cons_zero, List.getElem_cons_succ, Act.put, List.setIfInBounds_toArray, List.set_cons_zero, List.set_cons_succ]
      refine (wpAnyH_take (i := 2) (v := ?_) rfl (by kernel_rfl) (by kernel_rfl) (by kernel_rfl) (fun _ _ _ h => h) (Or.inl ⟨by rfl, ?_⟩) (by assumption) ?_)
      rotate_left 1
      · (intro w hSw; (try dsimp only at hSw); obtain ⟨s0, s1, s2, s3, s4, s5, -, -⟩ := hSw; (go_simp) <;> with_reducible rfl)
      try simp only [List.getElem_toArray, List.getElem_cons_zero, List.getElem_cons_succ, Act.put, List.setIfInBounds_toArray, List.set_cons_zero, List.set_cons_succ]
      refine (wpAnyH_take (i := 3) (v := ?_) rfl (by kernel_rfl) (by kernel_rfl) (by kernel_rfl) (fun _ _ _ h => h) (Or.inl ⟨by rfl, ?_⟩) (by assumption) ?_)
      rotate_left 1
      · (intro w hSw; (try dsimp only at hSw); obtain ⟨s0, s1, s2, s3, s4, s5, -, -⟩ := hSw; (go_simp) <;> with_reducible rfl)
      try simp only [List.getElem_toArray, List.getElem_cons_zero, List.getElem_cons_succ, Act.put, List.setIfInBounds_toArray, List.set_cons_zero, List.set_cons_succ]
      refine (wpAnyH_take (i := 4) (v := ?_) rfl (by kernel_rfl) (by kernel_rfl) (by kernel_rfl) (fun _ _ _ h => h) (Or.inl ⟨by rfl, ?_⟩) (by assumption) ?_)
      rotate_left 1
      · (intro w hSw; (try dsimp only at hSw); obtain ⟨s0, s1, s2, s3, s4, s5, -, -⟩ := hSw; (go_simp) <;> with_reducible rfl)
      try simp only [List.getElem_toArray, List.getElem_cons_zero, List.getElem_cons_succ, Act.put, List.setIfInBounds_toArray, List.set_cons_zero, List.set_cons_succ]
      refine (wpAnyH_take (i := 5) (v := ?_) rfl (by kernel_rfl) (by kernel_rfl) (by kernel_rfl) (fun _ _ _ h => h) (Or.inl ⟨by rfl, ?_⟩) (by assumption) ?_)
      rotate_left 1
      · (intro w hSw; (try dsimp only at hSw); obtain ⟨s0, s1, s2, s3, s4, s5, -, -⟩ := hSw; (go_simp) <;> with_reducible rfl)
      try simp only [List.getElem_toArray, List.getElem_cons_zero, List.getElem_cons_succ, Act.put, List.setIfInBounds_toArray, List.set_cons_zero, List.set_cons_succ]
      refine (wpAnyH_take (i := 6) (v := ?_) rfl (by kernel_rfl) (by kernel_rfl) (by kernel_rfl) (fun _ _ _ h => h) (Or.inl ⟨by rfl, ?_⟩) (by assumption) ?_)
      rotate_left 1
      · (intro w hSw; (try dsimp only at hSw); obtain ⟨s0, s1, s2, s3, s4, s5, -, -⟩ := hSw; (go_simp) <;> with_reducible rfl)
      try simp only [List.getElem_toArray, List.getElem_cons_zero, List.getElem_cons_succ, Act.put, List.setIfInBounds_toArray, List.set_cons_zero, List.set_cons_succ]
      refine wpAnyH_ready (rs := [7]) (by kernel_rfl) (by simp) ?_
      refine AllReadyH.cons rfl (fun K hK => ?_) ?_
      · go_simp
        go_at_call 123
        refine (HCm.out _ HM5.out.dr).mono ?_
        rintro e w6 ⟨rfl, hm6, hf6⟩
        refine hK.out _ _ ?_ (fun hNew => ?_)
        · (try dsimp only); exact KeepF.moored hHeld hf6
        clear hK K hHeld
        have hHeld := hNew
        clear hNew
        try simp only [List.getElem_toArray, List.getElem_cons_zero, List.getElem_cons_succ, Act.put, List.setIfInBounds_toArray, List.set_cons_zero, List.set_cons_succ]
        refine (wpAnyH_take (i := 8) (v := ?_) rfl (by kernel_rfl) (by kernel_rfl) (by kernel_rfl) (fun _ _ _ h => h) (Or.inl ⟨by rfl, ?_⟩) (by assumption) ?_)
        rotate_left 1
        · (intro w hSw; (try dsimp only at hSw); obtain ⟨s0, s1, s2, s3, s4, s5, -, -⟩ := hSw; (go_simp) <;> with_reducible rfl)
        try simp only [List.getElem_toArray, List.getElem_cons_zero, List.getElem_cons_succ, Act.put, List.setIfInBounds_toArray, List.set_cons_zero, List.set_cons_succ]
        refine wpAnyH_done (by kernel_rfl) ?_ _
        have HB6 : Hid (Below w.heap.size w w6) := Lib.hid (MoF.belowN hf6 HB5.out.drew (Nat.le_of_lt HBm.out) HB5.out.size)
        have HT6 : Hid (w6.there w.heap.size 0 37) := Lib.hid (MoF.there hf6 (Nat.ne_of_lt HBm.out) HT5.out)
        have HM6 : Hid (MoC w6 bm 0 q (stsQ S P (k + 1))) := Lib.hid (by rw [HSt.out]; exact hm6)
        clear hHeld hm6 hf6
        go_wp2_with fail
        exact ⟨⟨k + 1, by omega, by go_num, HM6, HB6, HT6, HU2⟩, by simp [intOf]; omega⟩
      exact AllReadyH.nil
end Go.Proofs.Ytpljcpeghjplnaa
