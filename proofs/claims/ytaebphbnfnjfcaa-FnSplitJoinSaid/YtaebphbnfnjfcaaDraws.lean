/-
  The drawn texts of chapter 1: what any1 and the Draw functions return, as far as their sizes go. No statement of the seat by itself.
-/
import Derived.Test.YtaebphbnfnjfcaaCur
import Derived.Test.YtaebphbnfnjfcaaMarks
import Derived.Test.YtaebphbnfnjfcaaSplitS
namespace Go.Proofs.Ytaebphbnfnjfcaa
open Go.RowKit

/-- A list of n texts in block g, each of at most m bytes. -/
def ListOK (W : World) (g n m : Nat) : Prop := g < W.heap.size ∧ ∀ j, j < n → ∃ s : ByteArray, W.cell? ⟨g, j, none⟩ = some (.string s) ∧ s.size ≤ m
/-- One of the texts of a list was drawn. -/
def OfPost (W : World) (b : Nat) (v : Value) (N m : Nat) (e : Ending) (W' : World) : Prop := ∃ s : ByteArray, e = .returned (.string s) ∧ s.size ≤ m ∧ Cur W' b v N ∧ W.grownBy W' (some b)

set_option maxHeartbeats 400000 in
theorem of_any (b N g n cap m : Nat) (v : Value) (hN : N ≤ 700000) (hn0 : 0 < n) (hn : n ≤ 100) (w : World) (h : Cur w b v N) (hg : g ≠ b) (hL : ListOK w g n m) :
    Calls Try.prog 26 #[.pointer (some ⟨b, 0, none⟩), .slice (some ⟨g, 0, none⟩) n cap] w (OfPost w b v (N + 4) m) := by
  have H := Lib.hid h
  have HL := Lib.hid hL
  clear h hL
  go_enter Try.func26, Try.ntmps26
  go_wp2_with fail
  refine (pick_any b N n v (by omega) hn0 (by omega) _ H.out).mono ?_
  rintro e w1 ⟨x, rfl, hx, hc1, hg1⟩
  obtain ⟨s, hs, hm⟩ := HL.out.2 x hx
  have hc : w1.cell? ⟨g, x, none⟩ = some (.string s) := by
    rw [World.cell?_of_block (hg1.block g HL.out.1 (by simpa using hg))]
    exact hs
  have H1 := Lib.hid hc1
  have G1 := Lib.hid hg1
  clear hc1 hg1 hs
  go_wp2_with fail
  go_ret
  exact ⟨s, rfl, hm, H1.out, G1.out⟩

theorem listOK_new (W : World) (o : Obj) (xs : List ByteArray) (m : Nat) (ho : o = .cells (xs.map Value.string).toArray 9 (0, 0)) (hm : ∀ x ∈ xs, x.size ≤ m) : ListOK (W.alloc o) W.heap.size xs.length m := by
  subst ho
  refine ⟨by simp, fun j hj => ⟨xs[j], ?_, hm _ (List.getElem_mem _)⟩⟩
  have := World.alloc_heap_new W (.cells (xs.map Value.string).toArray 9 (0, 0))
  unfold World.cell?
  simp only [this]
  simp [hj]

/-- The nine texts of any1. -/
def nine : List ByteArray := [⟨#[]⟩, ⟨#[97]⟩, ⟨#[97, 44, 98]⟩, ⟨#[115, 111, 109, 101, 32, 119, 111, 114, 100, 115]⟩, ⟨#[120, 35, 121]⟩, ⟨#[45, 49, 50]⟩, ⟨#[0, 255]⟩, ⟨#[44, 44]⟩, ⟨#[48]⟩]

theorem OfPost.of_alloc {W : World} {o : Obj} {b : Nat} {v : Value} {N m : Nat} {e : Ending} {W' : World} (h : OfPost (W.alloc o) b v N m e W') : OfPost W b v N m e W' := by
  obtain ⟨s, he, hm, hc, hg⟩ := h
  exact ⟨s, he, hm, hc, Lib.grownBy_trans (World.grownBy_alloc W o (some b)) hg⟩
theorem Cur.alloc {W : World} {b : Nat} {v : Value} {N : Nat} (h : Cur W b v N) (o : Obj) : Cur (W.alloc o) b v N := h.below ((Below.refl _ _).alloc (Nat.le_refl _) _)

set_option maxRecDepth 100000 in
set_option maxHeartbeats 1000000 in
theorem any1_any (b N : Nat) (v : Value) (hN : N ≤ 600000) (w : World) (h : Cur w b v N) :
    Calls Try.prog 25 #[.pointer (some ⟨b, 0, none⟩)] w (OfPost w b v (N + 4) 10) := by
  have hb := h.lt
  have H := Lib.hid h
  clear h
  go_enter Try.func25, Try.ntmps25
  go_wp2_with fail
  refine (of_any b N w.heap.size 9 9 10 v (by omega) (by decide) (by decide) _ (H.out.alloc _) (by omega) (listOK_new w _ nine 10 rfl (by decide))).mono ?_
  rintro e w1 h1
  obtain ⟨s, rfl, hm, hc1, hg1⟩ := h1.of_alloc
  have H1 := Lib.hid hc1
  have G1 := Lib.hid hg1
  clear hc1 hg1 h1
  go_wp2_with fail
  go_ret
  exact ⟨s, rfl, hm, H1.out, G1.out⟩

/-- The code that came in: len bytes that can be read. -/
def CodeArg (w : World) (a : Option Addr) (len : Nat) : Prop := len ≤ 65536 ∧ ∀ j, j < len → ∃ (cb off : Nat) (x : UInt8), a = some ⟨cb, off, none⟩ ∧ cb < w.heap.size ∧ w.cell? ⟨cb, off + j, none⟩ = some (.int .u8 (x.toNat : Int))
theorem CodeArg.below {w w' : World} {a : Option Addr} {len : Nat} (h : CodeArg w a len) (hb : Below w.heap.size w w') : CodeArg w' a len := ⟨h.1, fun j hj => by
  obtain ⟨cb, off, x, e, hlt, hc⟩ := h.2 j hj
  exact ⟨cb, off, x, e, Nat.lt_of_lt_of_le hlt hb.size, (hb.cell (p := ⟨cb, off + j, none⟩) hlt).trans hc⟩⟩
theorem cur_new (w : World) (a : Option Addr) (len cap : Nat) (h : CodeArg w a len) : Cur (w.alloc (.cells #[.slice a len cap, .int .i64 0, .int .u64 0] 44)) w.heap.size (.slice a len cap) 0 := by
  have hb : Below w.heap.size w (w.alloc (.cells #[.slice a len cap, .int .i64 0, .int .u64 0] 44)) := (Below.refl _ _).alloc (Nat.le_refl _) _
  refine ⟨a, len, cap, 0, 0, rfl, h.1, World.alloc_heap_new w _, Nat.le_refl _, fun j hj => ?_⟩
  obtain ⟨cb, off, x, e, hlt, hc⟩ := h.2 j hj
  exact ⟨cb, off, x, e, hlt, (hb.cell (p := ⟨cb, off + j, none⟩) hlt).trans hc⟩
theorem cur_below (w : World) (o : Obj) {w' : World} (hg : (w.alloc o).grownBy w' (some w.heap.size)) : Below w.heap.size w w' :=
  ((Below.refl _ w).alloc (Nat.le_refl _) o).grown hg (by simp) (fun k e => by cases e; exact Nat.le_refl _)

/-- Two texts were drawn. -/
def TwoPost (w : World) (m1 m2 : Nat) (e : Ending) (w' : World) : Prop := ∃ s t : ByteArray, e = .returned (.tuple #[.string s, .string t]) ∧ s.size ≤ m1 ∧ t.size ≤ m2 ∧ Below w.heap.size w w'

def five : List ByteArray := [⟨#[44]⟩, ⟨#[44]⟩, ⟨#[32]⟩, ⟨#[]⟩, ⟨#[44, 44]⟩]

set_option maxRecDepth 100000 in
set_option maxHeartbeats 1000000 in
theorem drawSplit_any (a : Option Addr) (len cap : Nat) (w : World) (h : CodeArg w a len) : Calls Try.prog 9 #[.slice a len cap] w (TwoPost w 10 2) := by
  have H := Lib.hid (cur_new w a len cap h)
  clear h
  go_enter Try.func9, Try.ntmps9
  go_wp2_with fail
  refine (any1_any w.heap.size 0 _ (by decide) _ H.out).mono ?_
  rintro e w1 ⟨s, rfl, hm, hc1, hg1⟩
  have H1 := Lib.hid hc1
  have G1 := Lib.hid hg1
  have hb1 := hc1.lt
  clear hc1 hg1
  go_wp2_with fail
  refine (of_any w.heap.size 4 w1.heap.size 5 5 2 _ (by decide) (by decide) (by decide) _ (H1.out.alloc _) (by omega) (listOK_new w1 _ five 2 rfl (by decide))).mono ?_
  rintro e w2 h2
  obtain ⟨t, rfl, hm2, hc2, hg2⟩ := h2.of_alloc
  have B2 : Hid (Below w.heap.size w w2) := Lib.hid (cur_below w _ (Lib.grownBy_trans G1.out hg2))
  clear hc2 hg2 h2
  go_wp2_with fail
  go_ret2
  exact ⟨s, t, rfl, hm, hm2, B2.out⟩

set_option maxRecDepth 100000 in
set_option maxHeartbeats 1000000 in
theorem drawLess_any (a : Option Addr) (len cap : Nat) (w : World) (h : CodeArg w a len) : Calls Try.prog 14 #[.slice a len cap] w (TwoPost w 10 10) := by
  have H := Lib.hid (cur_new w a len cap h)
  clear h
  go_enter Try.func14, Try.ntmps14
  go_wp2_with fail
  refine (any1_any w.heap.size 0 _ (by decide) _ H.out).mono ?_
  rintro e w1 ⟨s, rfl, hm, hc1, hg1⟩
  have H1 := Lib.hid hc1
  have G1 := Lib.hid hg1
  clear hc1 hg1
  go_wp2_with fail
  refine (any1_any w.heap.size 4 _ (by decide) _ H1.out).mono ?_
  rintro e w2 ⟨t, rfl, hm2, hc2, hg2⟩
  have B2 : Hid (Below w.heap.size w w2) := Lib.hid (cur_below w _ (Lib.grownBy_trans G1.out hg2))
  clear hc2 hg2
  go_wp2_with fail
  go_ret2
  exact ⟨s, t, rfl, hm, hm2, B2.out⟩

/-- A yes or no was drawn. -/
def OnePost (W : World) (b : Nat) (v : Value) (N : Nat) (e : Ending) (W' : World) : Prop := ∃ y : Bool, e = .returned (.bool y) ∧ Cur W' b v N ∧ W.grownBy W' (some b)
set_option maxHeartbeats 400000 in
theorem one_any (b N n : Nat) (v : Value) (hN : N ≤ 700000) (hn0 : 0 < n) (hn : n ≤ 65536) (w : World) (h : Cur w b v N) : Calls Try.prog 29 #[.pointer (some ⟨b, 0, none⟩), .int .i64 (n : Int)] w (OnePost w b v (N + 4)) := by
  have H := Lib.hid h
  clear h
  go_enter Try.func29, Try.ntmps29
  go_wp2_with fail
  refine (pick_any b N n v (by omega) hn0 hn _ H.out).mono ?_
  rintro e w1 ⟨x, rfl, hx, hc1, hg1⟩
  have H1 := Lib.hid hc1
  have G1 := Lib.hid hg1
  clear hc1 hg1
  go_wp2_with fail
  go_ret
  exact ⟨_, rfl, H1.out, G1.out⟩


/-- A row with an element is not nil. -/
theorem owns_ne {W : World} {base e size n : Nat} {v : Value} {xs : List Value} (h : W.ownsRow base e size v n xs) (hn : 0 < n) : v ≠ .slice none 0 0 := by
  rcases h.2 with ⟨_, h0⟩ | ⟨g, cap, cur, rfl, _⟩
  · omega
  · simp

/-- A list of texts and a mark were drawn. -/
def ListPost (w : World) (e : Ending) (w' : World) : Prop := ∃ (v : Value) (xs : List ByteArray) (t : ByteArray), e = .returned (.tuple #[v, .string t]) ∧ w'.ownsRow w.heap.size 9 1 v xs.length (xs.map Value.string) ∧ xs.length ≤ 5 ∧ (∀ x ∈ xs, x.size ≤ 4009) ∧ t.size ≤ 2 ∧ Below w.heap.size w w' ∧ v ≠ .slice none 0 0

def fiveJ : List ByteArray := [⟨#[44]⟩, ⟨#[59]⟩, ⟨#[59]⟩, ⟨#[]⟩, ⟨#[97, 98]⟩]

/-- m zero bytes. -/
def zeros (m : Nat) : List UInt8 := List.replicate m 0
theorem zeros_len (m : Nat) : (zeros m).length = m := by simp [zeros]
theorem zeros_size (m : Nat) : (⟨(zeros m).toArray⟩ : ByteArray).size = m := by show (zeros m).toArray.size = m; simp [zeros]
theorem infoByte : (Try.prog.info? 5).map (fun i => (i.zero, i.size, i.bytes)) = some (some (.int .u8 0), 1, 1) := by kernel_rfl
theorem made_string {w' : World} {base g m : Nat} (h : w'.ownsRow base 5 1 (.slice (some ⟨g, 0, none⟩) m m) m (madeCells (Value.int .u8 0).cells (m * 1)).toList) :
    (convert 22 9 (.slice (some ⟨g, 0, none⟩) m m)).run Try.prog w' = .ok (.string ⟨(zeros m).toArray⟩) w' := by
  have hcells : ∀ j, j < m → w'.cell? ⟨g, j, none⟩ = some (.int .u8 0) := by
    intro j hj
    rcases h.2 with ⟨h0, _⟩ | ⟨g', cap, cur, hv, hgb, hb, hnc, hcm, hsz, hx⟩
    · cases h0
    · have e1 : g' = g := by
        simp only [Value.slice.injEq, Option.some.injEq, Addr.mk.injEq] at hv
        exact hv.1.1.symm
      subst e1
      have e2 : (cur.toList.take (m * 1))[j]? = (madeCells (Value.int .u8 0).cells (m * 1)).toList[j]? := by rw [hx]
      rw [List.getElem?_take_of_lt (by omega)] at e2
      simp only [World.cell?, hb]
      rw [← Array.getElem?_toList, e2]
      simp [madeCells, hj, Value.cells, Nat.mod_one]
  have h1 := run_convert_bytes_back (P := Try.prog) w' 22 9 5 ⟨g, 0, none⟩ m (zeros m) Try.underlying22 Try.underlying5 Try.underlying9 (fun j hj => by
    rw [zeros_len] at hj
    have e : ((zeros m)[j]'(by rw [zeros_len]; exact hj)) = 0 := by simp [zeros]
    rw [e]
    by_cases h0 : j = 0
    · subst h0; simpa [Addr.add] using hcells 0 hj
    · simpa [Addr.add, h0] using hcells j hj)
  rw [zeros_len] at h1
  exact h1

/-- While the list is drawn. -/
def ListRel (w wr : World) (v : Value) (k : Nat) (o : Value) : Prop := ∃ xs : List ByteArray, xs.length = k ∧ (∀ x ∈ xs, x.size ≤ 4009) ∧ wr.ownsRow (w.heap.size + 1) 9 1 o xs.length (xs.map Value.string) ∧ Cur wr w.heap.size v (4 + 4 * k) ∧ Below w.heap.size w wr ∧ w.heap.size + 1 ≤ wr.heap.size ∧ o ≠ .slice none 0 0

set_option maxRecDepth 100000 in
set_option maxHeartbeats 2000000 in
theorem drawJoin_any (a : Option Addr) (len cap : Nat) (w : World) (h : CodeArg w a len) : Calls Try.prog 11 #[.slice a len cap] w (ListPost w) := by
  obtain ⟨i0, hi, hz0, hz1, hz2⟩ := info_parts info9
  have H := Lib.hid (cur_new w a len cap h)
  clear h
  go_enter Try.func11, Try.ntmps11
  go_wp2_with fail
  refine (pick_any w.heap.size 0 4 (.slice a len cap) (by decide) (by decide) (by decide) _ (H.out.alloc _)).mono ?_
  rintro e w1 ⟨n, rfl, hn, hc1, hg1⟩
  have R0 : Hid (ListRel w w1 (.slice a len cap) 0 (.slice (some ⟨w.heap.size + 1, 0, none⟩) 0 0)) := by
    have hsz : (w.alloc (.cells #[.slice a len cap, .int .i64 0, .int .u64 0] 44)).heap.size = w.heap.size + 1 := by simp
    have h0 := own_empty (w.alloc (.cells #[.slice a len cap, .int .i64 0, .int .u64 0] 44)) (.cells #[] 9 (0, 0)) rfl
    rw [hsz] at h0
    have hz : w.heap.size + 1 ≤ w1.heap.size := by have := hg1.size; simp at this; omega
    exact Lib.hid ⟨[], rfl, by simp, h0.kept hg1 (.inr (by simp [Value.ownBlock])), hc1, (((Below.refl _ w).alloc (Nat.le_refl _) _).alloc (by simp) _).grown hg1 (by simp; omega) (fun k e => by cases e; exact Nat.le_refl _), hz, by simp⟩
  clear hc1 hg1
  go_wp2_with fail
  go_loopw [5, 7] (fun o i wr => ∃ k : Nat, k ≤ n ∧ i = .int .i64 k ∧ Hid (ListRel w wr (.slice a len cap) k o)) (fun _ i _ => n - (intOf i).toNat)
  case atStart => exact ⟨0, Nat.zero_le _, rfl, R0⟩
  case round =>
    obtain ⟨k, hk, rfl, HR⟩ := hrel
    by_cases hlt : k < n
    · obtain ⟨xs, hxl, hxs, hrow, hcur, hB, hz, -⟩ := HR.out
      have HX := Lib.hid hxs
      have HXL := Lib.hid hxl
      have hxle : xs.length ≤ 3 := by omega
      clear hxs hxl
      go_wp2_with fail
      refine (any1_any w.heap.size (4 + 4 * k) _ (by omega) _ hcur).mono ?_
      rintro e w2 ⟨s, rfl, hm, hc2, hg2⟩
      have hrow2 := hrow.kept hg2 (.inr (row_apart hrow (by omega)).symm)
      have hB2 : Below w.heap.size w w2 := hB.grown hg2 (by omega) (fun k e => by cases e; exact Nat.le_refl _)
      have hz2' : w.heap.size + 1 ≤ w2.heap.size := Nat.le_trans hz hg2.size
      have HC2 := Lib.hid hc2
      clear hrow hcur hB hz hc2 hg2
      go_wp2_with (at_builtin; refine wpList_append_own _ rfl _ _ 26 rfl (w.heap.size + 1) 9 i0 (.string ⟨#[]⟩) 1 16 Try.underlying26 hi hz0 hz1 hz2 rfl (by decide) _ _ _ rfl (hrow2.alloc _) ⟨w2.heap.size, 0, none⟩ 1 1 [.string s] rfl rfl (cell_one_new _ _ _) (by simp [Value.oneCell']) (by unfold maxLen; omega) (by omega) (by simp; omega) ?_; intro v' w3 hown' hgrow _)
      have hB3 : Below w.heap.size w w3 := (hB2.alloc hB2.size _).grown hgrow (by simp; omega) (fun j e => by have := row_base hrow2 j e; omega)
      have hC3 : Cur w3 w.heap.size (.slice a len cap) (4 + 4 * (k + 1)) := ((HC2.out.alloc _).kept hgrow (fun j e => by have := row_base hrow2 j e; omega)).more (by omega)
      have hz3 : w.heap.size + 1 ≤ w3.heap.size := by have := hgrow.size; simp at this; omega
      have HN : Hid (ListRel w w3 (.slice a len cap) (k + 1) v') := Lib.hid ⟨xs ++ [s], by simp [HXL.out], fun x hx => by
        rcases List.mem_append.1 hx with h | h
        · exact HX.out x h
        · rw [List.mem_singleton.1 h]; omega, by simpa using hown', hC3, hB3, hz3, owns_ne hown' (by first | omega | simp)⟩
      refine ⟨⟨k + 1, by omega, by go_num, HN⟩, by simp [intOf]; omega⟩
    · obtain rfl : k = n := by omega
      obtain ⟨xs, hxl, hxs, hrow, hcur, hB, hz, hne⟩ := HR.out
      have HX := Lib.hid hxs
      have hxle : xs.length ≤ 3 := by omega
      clear hxs hxl
      go_wp2_with fail
      refine (one_any w.heap.size (4 + 4 * k) 20 _ (by omega) (by decide) (by decide) _ hcur).mono ?_
      rintro e w2 ⟨y, rfl, hc2, hg2⟩
      have hrow2 := hrow.kept hg2 (.inr (row_apart hrow (by omega)).symm)
      have hB2 : Below w.heap.size w w2 := hB.grown hg2 (by omega) (fun k e => by cases e; exact Nat.le_refl _)
      have hz2' : w.heap.size + 1 ≤ w2.heap.size := Nat.le_trans hz hg2.size
      have HC2 := Lib.hid hc2
      clear hrow hcur hB hz hc2 hg2
      cases y
      · go_wp2_with fail
        refine (of_any w.heap.size (4 + 4 * k + 4) w2.heap.size 5 5 2 _ (by omega) (by decide) (by decide) _ (HC2.out.alloc _) (by omega) (listOK_new w2 _ fiveJ 2 rfl (by decide))).mono ?_
        rintro e w3 h3
        obtain ⟨t, rfl, hm, hc3, hg3⟩ := h3.of_alloc
        have hrow3 := hrow2.kept hg3 (.inr (row_apart hrow2 (by omega)).symm)
        have B3 : Hid (Below w.heap.size w w3) := Lib.hid (hB2.grown hg3 (by omega) (fun k e => by cases e; exact Nat.le_refl _))
        have R3 := Lib.hid hrow3
        clear hc3 hg3 h3 hrow3 hrow2 hB2
        go_wp2_with fail
        go_ret2
        exact ⟨_, xs, t, rfl, R3.out.mono (by omega), by omega, HX.out, hm, B3.out, hne⟩
      · go_wp2_with fail
        refine (pick_any w.heap.size (4 + 4 * k + 4) 20 _ (by omega) (by decide) (by decide) _ HC2.out).mono ?_
        rintro e w3 ⟨x, rfl, hx, hc3, hg3⟩
        have hrow3 := hrow2.kept hg3 (.inr (row_apart hrow2 (by omega)).symm)
        have hB3 : Below w.heap.size w w3 := hB2.grown hg3 (by omega) (fun k e => by cases e; exact Nat.le_refl _)
        have hz3 : w.heap.size + 1 ≤ w3.heap.size := Nat.le_trans hz2' hg3.size
        have HC3 := Lib.hid hc3
        clear hrow2 hB2 hz2' hc3 hg3
        obtain ⟨i5, hi5, hy0, hy1, hy2⟩ := info_parts infoByte
        have hadd : ((3990 + x : Nat) : Int) = 3990 + (x : Int) := by omega
        have HAdd := Lib.hid hadd
        clear hadd
        go_wp2_with (at_make; refine wpList_make_full _ rfl _ _ 22 rfl w3.heap.size 5 i5 (.int .u8 0) 1 Try.underlying22 hi5 hy0 hy1 .i64 .i64 _ _ (3990 + x) rfl rfl HAdd.out.symm HAdd.out.symm (by rw [hy2]; omega) (by unfold maxLen; omega) (Nat.le_refl _) ?_; intro w4 hown4 hgrow4; have hcv := made_string hown4; refine Hid.out ?_)
        refine Lib.hid ?_
        have hrow4 := hrow3.kept hgrow4 (Classical.em _)
        have hB4 : Below w.heap.size w w4 := hB3.grown hgrow4 (by omega) (by simp)
        have hz4 : w.heap.size + 1 ≤ w4.heap.size := Nat.le_trans hz3 hgrow4.size
        have HC4 : Hid (Cur w4 w.heap.size (.slice a len cap) (4 + 4 * k + 8)) := Lib.hid (HC3.out.kept hgrow4 (by simp))
        clear hown4 hgrow4 hrow3 hB3 hz3
        go_wp2_with (at_builtin; refine wpList_append_own _ rfl _ _ 26 rfl (w.heap.size + 1) 9 i0 (.string ⟨#[]⟩) 1 16 Try.underlying26 hi hz0 hz1 hz2 rfl (by decide) _ _ _ rfl (hrow4.alloc _) ⟨w4.heap.size, 0, none⟩ 1 1 [.string ⟨(zeros (3990 + x)).toArray⟩] rfl rfl (cell_one_new _ _ _) (by simp [Value.oneCell']) (by unfold maxLen; omega) (by omega) (by simp; omega) ?_; intro v' w5 hown5 hgrow5 _; refine Hid.out ?_)
        refine Lib.hid ?_
        have hB5 : Below w.heap.size w w5 := (hB4.alloc hB4.size _).grown hgrow5 (by simp; omega) (fun j e => by have := row_base hrow4 j e; omega)
        have HC5 : Hid (Cur w5 w.heap.size (.slice a len cap) (4 + 4 * k + 8)) := Lib.hid ((HC4.out.alloc _).kept hgrow5 (fun j e => by have := row_base hrow4 j e; omega))
        have hz5 : w.heap.size + 1 ≤ w5.heap.size := by have := hgrow5.size; simp at this; omega
        clear hcv hgrow5 hrow4 hB4 hz4
        go_wp2_with fail
        refine (of_any w.heap.size (4 + 4 * k + 8) w5.heap.size 5 5 2 _ (by omega) (by decide) (by decide) _ (HC5.out.alloc _) (by omega) (listOK_new w5 _ fiveJ 2 rfl (by decide))).mono ?_
        rintro e w6 h6
        obtain ⟨t, rfl, hm, hc6, hg6⟩ := h6.of_alloc
        have hrow6 := hown5.kept hg6 (.inr (row_apart hown5 (by omega)).symm)
        have B6 : Hid (Below w.heap.size w w6) := Lib.hid (hB5.grown hg6 (by omega) (fun k e => by cases e; exact Nat.le_refl _))
        have R6 := Lib.hid hrow6
        clear hc6 hg6 h6 hrow6 hown5 hB5
        go_wp2_with fail
        go_ret2
        exact ⟨_, xs ++ [⟨(zeros (3990 + x)).toArray⟩], t, rfl, by simpa using R6.out.mono (base' := w.heap.size) (by omega), by simp; omega, fun z hz => by
          rcases List.mem_append.1 hz with h | h
          · exact HX.out z h
          · rw [List.mem_singleton.1 h, zeros_size]; omega, hm, B6.out, owns_ne R6.out (by first | omega | simp)⟩
end Go.Proofs.Ytaebphbnfnjfcaa
