/-
  The draws of FnStrings: a number, and two texts. No statement of the seat by itself.
-/
import Derived.Test.YtaebphbnfnjfcaaDoorDraws
import Derived.Test.YtaebphbnfnjfcaaDoorNum
namespace Go.Proofs.YtaebphbnfnjfcaaDoor
open Go.RowKit

/-- A list of n numbers in block g, each within bounds. -/
def NumsOK (W : World) (g n : Nat) (m : Nat) : Prop := g < W.heap.size ∧ ∀ j, j < n → ∃ z : Int, W.cell? ⟨g, j, none⟩ = some (.int .i64 z) ∧ -(m : Int) ≤ z ∧ z ≤ m
/-- One of the numbers of a list was drawn. -/
def AmongPost (W : World) (b : Nat) (v : Value) (N m : Nat) (e : Ending) (W' : World) : Prop := ∃ z : Int, e = .returned (.int .i64 z) ∧ -(m : Int) ≤ z ∧ z ≤ m ∧ Cur W' b v N ∧ W.grownBy W' (some b)

set_option maxHeartbeats 400000 in
theorem among_any (b N g n cap m : Nat) (v : Value) (hN : N ≤ 700000) (hn0 : 0 < n) (hn : n ≤ 100) (w : World) (h : Cur w b v N) (hg : g ≠ b) (hL : NumsOK w g n m) :
    Calls Tryd.prog 21 #[.pointer (some ⟨b, 0, none⟩), .slice (some ⟨g, 0, none⟩) n cap] w (AmongPost w b v (N + 4) m) := by
  have H := Lib.hid h
  have HL := Lib.hid hL
  clear h hL
  go_enter Tryd.func21, Tryd.ntmps21
  go_wp2_with fail
  refine (pick_any b N n v (by omega) hn0 (by omega) _ H.out).mono ?_
  rintro e w1 ⟨x, rfl, hx, hc1, hg1⟩
  obtain ⟨z, hs, hm1, hm2⟩ := HL.out.2 x hx
  have hc : w1.cell? ⟨g, x, none⟩ = some (.int .i64 z) := by
    rw [World.cell?_of_block (hg1.block g HL.out.1 (by simpa using hg))]
    exact hs
  have H1 := Lib.hid hc1
  have G1 := Lib.hid hg1
  clear hc1 hg1 hs
  go_wp2_with fail
  go_ret
  exact ⟨z, rfl, hm1, hm2, H1.out, G1.out⟩

theorem numsOK_new (W : World) (o : Obj) (xs : List Int) (m : Nat) (ho : o = .cells (xs.map (Value.int .i64)).toArray 3 (0, 0)) (hm : ∀ x ∈ xs, -(m : Int) ≤ x ∧ x ≤ m) : NumsOK (W.alloc o) W.heap.size xs.length m := by
  subst ho
  refine ⟨by simp, fun j hj => ⟨xs[j], ?_, (hm _ (List.getElem_mem _)).1, (hm _ (List.getElem_mem _)).2⟩⟩
  have := World.alloc_heap_new W (.cells (xs.map (Value.int .i64)).toArray 3 (0, 0))
  unfold World.cell?
  simp only [this]
  simp [hj]

/-- A number was drawn. -/
def NumPost (w : World) (e : Ending) (w' : World) : Prop := ∃ z : Int, e = .returned (.int .i64 z) ∧ -1000000 ≤ z ∧ z ≤ 1000000 ∧ Below w.heap.size w w'

set_option maxRecDepth 100000 in
set_option maxHeartbeats 1000000 in
theorem drawFormat_any (a : Option Addr) (len cap : Nat) (w : World) (h : CodeArg w a len) : Calls Tryd.prog 9 #[.slice a len cap] w (NumPost w) := by
  have H := Lib.hid (cur_new w a len cap h)
  clear h
  go_enter Tryd.func9, Tryd.ntmps9
  go_wp2_with fail
  refine (pick_any w.heap.size 0 1000 _ (by decide) (by decide) (by decide) _ H.out).mono ?_
  rintro e w1 ⟨x, rfl, hx, hc1, hg1⟩
  have H1 := Lib.hid hc1
  have G1 := Lib.hid hg1
  have hb1 := hc1.lt
  clear hc1 hg1
  go_wp2_with fail
  refine (among_any w.heap.size 4 w1.heap.size 9 9 1000000 _ (by decide) (by decide) (by decide) _ (H1.out.alloc _) (by omega) (numsOK_new w1 _ [0, 1, -1, 10, 999999, -999999, 1000000, -1000000, (x : Int) - 500] 1000000 rfl (by simp; omega))).mono ?_
  rintro e w2 ⟨z, rfl, h1, h2, hc2, hg2⟩
  have B2 : Hid (Below w.heap.size w w2) := Lib.hid (cur_below w _ (Lib.grownBy_trans G1.out (Lib.grownBy_trans (World.grownBy_alloc w1 _ (some w.heap.size)) hg2)))
  clear hc2 hg2
  go_wp2_with fail
  go_ret
  exact ⟨z, rfl, h1, h2, B2.out⟩

theorem num_size (n : Int) (h1 : -999999 ≤ n) (h2 : n ≤ 999999) : (⟨(Lib.itoa n).toArray⟩ : ByteArray).size ≤ 20 := by
  show (Lib.itoa n).toArray.size ≤ 20
  by_cases h : n < 0
  · obtain ⟨m, hm⟩ : ∃ m : Nat, n = -(m : Int) := ⟨n.natAbs, by omega⟩
    subst hm
    rw [itoa_neg m (by omega)]
    have := decDigits_len 5 m (by omega)
    simp; omega
  · obtain ⟨m, hm⟩ : ∃ m : Nat, n = (m : Int) := ⟨n.toNat, by omega⟩
    subst hm
    rw [itoa_nat]
    have := decDigits_len 5 m (by omega)
    simp; omega

/-- A text was drawn. -/
def TextPost (w : World) (m : Nat) (e : Ending) (w' : World) : Prop := ∃ s : ByteArray, e = .returned (.string s) ∧ s.size ≤ m ∧ Below w.heap.size w w'

def eleven : List ByteArray := [⟨#[]⟩, ⟨#[45]⟩, ⟨#[45, 48]⟩, ⟨#[48, 48]⟩, ⟨#[48, 49]⟩, ⟨#[45, 45, 49]⟩, ⟨#[49, 120]⟩, ⟨#[57, 57, 57, 57, 57, 57]⟩, ⟨#[49, 48, 48, 48, 48, 48, 48]⟩, ⟨#[45, 57, 57, 57, 57, 57, 57]⟩, ⟨#[49, 56, 52, 52, 54, 55, 52, 52, 48, 55, 51, 55, 48, 57, 53, 53, 49, 54, 49, 55]⟩]

set_option maxRecDepth 100000 in
set_option maxHeartbeats 1000000 in
theorem drawParse_any (a : Option Addr) (len cap : Nat) (w : World) (h : CodeArg w a len) : Calls Tryd.prog 12 #[.slice a len cap] w (TextPost w 20) := by
  have H := Lib.hid (cur_new w a len cap h)
  clear h
  go_enter Tryd.func12, Tryd.ntmps12
  go_wp2_with fail
  refine (one_any w.heap.size 0 2 _ (by omega) (by decide) (by decide) _ H.out).mono ?_
  rintro e w1 ⟨y, rfl, hc1, hg1⟩
  have H1 := Lib.hid hc1
  have G1 := Lib.hid hg1
  have hb1 := hc1.lt
  clear hc1 hg1
  cases y
  · go_wp2_with fail
    refine (pick_any w.heap.size 4 2000 _ (by decide) (by decide) (by decide) _ H1.out).mono ?_
    rintro e w2 ⟨x, rfl, hx, hc2, hg2⟩
    have B2 : Hid (Below w.heap.size w w2) := Lib.hid (cur_below w _ (Lib.grownBy_trans G1.out hg2))
    clear hc2 hg2
    go_wp2_with fail
    refine (l1Num_any _ _ (by omega) (by omega)).mono ?_
    rintro e w3 ⟨rfl, q, rfl⟩
    go_wp2_with fail
    go_ret
    refine ⟨_, rfl, ?_, below_drewN B2.out _⟩
    exact num_size _ (by omega) (by omega)
  · go_wp2_with fail
    refine (of_any w.heap.size 4 w1.heap.size 11 11 20 _ (by decide) (by decide) (by decide) _ (H1.out.alloc _) (by omega) (listOK_new w1 _ eleven 20 rfl (by decide))).mono ?_
    rintro e w2 h2
    obtain ⟨t, rfl, hm2, hc2, hg2⟩ := h2.of_alloc
    have B2 : Hid (Below w.heap.size w w2) := Lib.hid (cur_below w _ (Lib.grownBy_trans G1.out hg2))
    clear hc2 hg2 h2
    go_wp2_with fail
    go_ret
    exact ⟨t, rfl, hm2, B2.out⟩

set_option maxRecDepth 100000 in
set_option maxHeartbeats 1000000 in
theorem drawAppend_any (a : Option Addr) (len cap : Nat) (w : World) (h : CodeArg w a len) : Calls Tryd.prog 15 #[.slice a len cap] w (TextPost w 4000) := by
  have H := Lib.hid (cur_new w a len cap h)
  clear h
  go_enter Tryd.func15, Tryd.ntmps15
  go_wp2_with fail
  refine (one_any w.heap.size 0 20 _ (by omega) (by decide) (by decide) _ H.out).mono ?_
  rintro e w1 ⟨y, rfl, hc1, hg1⟩
  have H1 := Lib.hid hc1
  have G1 := Lib.hid hg1
  have hb1 := hc1.lt
  clear hc1 hg1
  cases y
  · go_wp2_with fail
    refine (any1_any w.heap.size 4 _ (by decide) _ H1.out).mono ?_
    rintro e w2 ⟨t, rfl, hm2, hc2, hg2⟩
    have B2 : Hid (Below w.heap.size w w2) := Lib.hid (cur_below w _ (Lib.grownBy_trans G1.out hg2))
    clear hc2 hg2
    go_wp2_with fail
    go_ret
    exact ⟨t, rfl, by omega, B2.out⟩
  · go_wp2_with fail
    refine (pick_any w.heap.size 4 10 _ (by decide) (by decide) (by decide) _ H1.out).mono ?_
    rintro e w3 ⟨x, rfl, hx, hc3, hg3⟩
    have B3 : Hid (Below w.heap.size w w3) := Lib.hid (cur_below w _ (Lib.grownBy_trans G1.out hg3))
    clear hc3 hg3
    obtain ⟨i5, hi5, hy0, hy1, hy2⟩ := info_parts infoByte
    have hadd : ((3990 + x : Nat) : Int) = 3990 + (x : Int) := by omega
    have HAdd := Lib.hid hadd
    clear hadd
    go_wp2_with (at_make; refine wpList_make_full _ rfl _ _ 22 rfl w3.heap.size 5 i5 (.int .u8 0) 1 Tryd.underlying22 hi5 hy0 hy1 .i64 .i64 _ _ (3990 + x) rfl rfl HAdd.out.symm HAdd.out.symm (by rw [hy2]; omega) (by unfold maxLen; omega) (Nat.le_refl _) ?_; intro w4 hown4 hgrow4; have hcv := made_string hown4; refine Hid.out ?_)
    refine Lib.hid ?_
    have B4 : Hid (Below w.heap.size w w4) := Lib.hid (B3.out.grown hgrow4 B3.out.size (by simp))
    clear hown4 hgrow4
    go_wp2_with fail
    go_ret
    exact ⟨_, rfl, by rw [zeros_size]; omega, B4.out⟩
end Go.Proofs.YtaebphbnfnjfcaaDoor
