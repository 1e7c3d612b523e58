/-
  The drawn texts of chapter 1: what any1 and the Draw functions return, as far as their sizes go. No statement of the seat by itself.
-/
import Derived.Test.YtaebphbnfnjfcaaDoorCur
import Derived.Test.YtaebphbnfnjfcaaDoorSplitS
import Derived.Test.YtaebphbnfnjfcaaDoorSeal
namespace Go.Proofs.YtaebphbnfnjfcaaDoor
open Go.RowKit

/-- A list of n texts in block g, each of at most m bytes. -/
def ListOK (W : World) (g n m : Nat) : Prop := g < W.heap.size ∧ ∀ j, j < n → ∃ s : ByteArray, W.cell? ⟨g, j, none⟩ = some (.string s) ∧ s.size ≤ m
/-- One of the texts of a list was drawn. -/
def OfPost (W : World) (b : Nat) (v : Value) (N m : Nat) (e : Ending) (W' : World) : Prop := ∃ s : ByteArray, e = .returned (.string s) ∧ s.size ≤ m ∧ Cur W' b v N ∧ W.grownBy W' (some b)

set_option maxHeartbeats 400000 in
theorem of_any (b N g n cap m : Nat) (v : Value) (hN : N ≤ 700000) (hn0 : 0 < n) (hn : n ≤ 100) (w : World) (h : Cur w b v N) (hg : g ≠ b) (hL : ListOK w g n m) :
    Calls Tryd.prog 27 #[.pointer (some ⟨b, 0, none⟩), .slice (some ⟨g, 0, none⟩) n cap] w (OfPost w b v (N + 4) m) := by
  have H := Lib.hid h
  have HL := Lib.hid hL
  clear h hL
  go_enter Tryd.func27, Tryd.ntmps27
  go_wp2_with fail
  refine (pick_any b N n v (by omega) hn0 (by omega) _ H.out).mono ?_
  rintro e w1 ⟨x, rfl, hx, hc1, hg1⟩
  obtain ⟨s, hs, hm⟩ := HL.out.2 x hx
  have hc : w1.cell? ⟨g, x, none⟩ = some (.string s) := by
    rw [World.cell?_of_block (hg1.block g HL.out.1 (by simpa using hg))]
    exact hs
  have H1 := Lib.hid hc1
  have G1 := Lib.hid hg1
  clear hc1 hg1 hs
  go_wp2_with fail
  go_ret
  exact ⟨s, rfl, hm, H1.out, G1.out⟩

theorem listOK_new (W : World) (o : Obj) (xs : List ByteArray) (m : Nat) (ho : o = .cells (xs.map Value.string).toArray 9 (0, 0)) (hm : ∀ x ∈ xs, x.size ≤ m) : ListOK (W.alloc o) W.heap.size xs.length m := by
  subst ho
  refine ⟨by simp, fun j hj => ⟨xs[j], ?_, hm _ (List.getElem_mem _)⟩⟩
  have := World.alloc_heap_new W (.cells (xs.map Value.string).toArray 9 (0, 0))
  unfold World.cell?
  simp only [this]
  simp [hj]

/-- The nine texts of any1. -/
def nine : List ByteArray := [⟨#[]⟩, ⟨#[97]⟩, ⟨#[97, 44, 98]⟩, ⟨#[115, 111, 109, 101, 32, 119, 111, 114, 100, 115]⟩, ⟨#[120, 35, 121]⟩, ⟨#[45, 49, 50]⟩, ⟨#[0, 255]⟩, ⟨#[44, 44]⟩, ⟨#[48]⟩]

theorem OfPost.of_alloc {W : World} {o : Obj} {b : Nat} {v : Value} {N m : Nat} {e : Ending} {W' : World} (h : OfPost (W.alloc o) b v N m e W') : OfPost W b v N m e W' := by
  obtain ⟨s, he, hm, hc, hg⟩ := h
  exact ⟨s, he, hm, hc, Lib.grownBy_trans (World.grownBy_alloc W o (some b)) hg⟩
theorem Cur.alloc {W : World} {b : Nat} {v : Value} {N : Nat} (h : Cur W b v N) (o : Obj) : Cur (W.alloc o) b v N := h.below ((Below.refl _ _).alloc (Nat.le_refl _) _)

set_option maxRecDepth 100000 in
set_option maxHeartbeats 1000000 in
theorem any1_any (b N : Nat) (v : Value) (hN : N ≤ 600000) (w : World) (h : Cur w b v N) :
    Calls Tryd.prog 30 #[.pointer (some ⟨b, 0, none⟩)] w (OfPost w b v (N + 4) 10) := by
  have hb := h.lt
  have H := Lib.hid h
  clear h
  go_enter Tryd.func30, Tryd.ntmps30
  go_wp2_with fail
  refine (of_any b N w.heap.size 9 9 10 v (by omega) (by decide) (by decide) _ (H.out.alloc _) (by omega) (listOK_new w _ nine 10 rfl (by decide))).mono ?_
  rintro e w1 h1
  obtain ⟨s, rfl, hm, hc1, hg1⟩ := h1.of_alloc
  have H1 := Lib.hid hc1
  have G1 := Lib.hid hg1
  clear hc1 hg1 h1
  go_wp2_with fail
  go_ret
  exact ⟨s, rfl, hm, H1.out, G1.out⟩

/-- The code that came in: len bytes that can be read. -/
def CodeArg (w : World) (a : Option Addr) (len : Nat) : Prop := len ≤ 65536 ∧ ∀ j, j < len → ∃ (cb off : Nat) (x : UInt8), a = some ⟨cb, off, none⟩ ∧ cb < w.heap.size ∧ w.cell? ⟨cb, off + j, none⟩ = some (.int .u8 (x.toNat : Int))
theorem CodeArg.below {w w' : World} {a : Option Addr} {len : Nat} (h : CodeArg w a len) (hb : Below w.heap.size w w') : CodeArg w' a len := ⟨h.1, fun j hj => by
  obtain ⟨cb, off, x, e, hlt, hc⟩ := h.2 j hj
  exact ⟨cb, off, x, e, Nat.lt_of_lt_of_le hlt hb.size, (hb.cell (p := ⟨cb, off + j, none⟩) hlt).trans hc⟩⟩
theorem cur_new (w : World) (a : Option Addr) (len cap : Nat) (h : CodeArg w a len) : Cur (w.alloc (.cells #[.slice a len cap, .int .i64 0, .int .u64 0] 37)) w.heap.size (.slice a len cap) 0 := by
  have hb : Below w.heap.size w (w.alloc (.cells #[.slice a len cap, .int .i64 0, .int .u64 0] 37)) := (Below.refl _ _).alloc (Nat.le_refl _) _
  refine ⟨a, len, cap, 0, 0, rfl, h.1, World.alloc_heap_new w _, Nat.le_refl _, fun j hj => ?_⟩
  obtain ⟨cb, off, x, e, hlt, hc⟩ := h.2 j hj
  exact ⟨cb, off, x, e, hlt, (hb.cell (p := ⟨cb, off + j, none⟩) hlt).trans hc⟩
theorem cur_below (w : World) (o : Obj) {w' : World} (hg : (w.alloc o).grownBy w' (some w.heap.size)) : Below w.heap.size w w' :=
  ((Below.refl _ w).alloc (Nat.le_refl _) o).grown hg (by simp) (fun k e => by cases e; exact Nat.le_refl _)

/-- A yes or no was drawn. -/
def OnePost (W : World) (b : Nat) (v : Value) (N : Nat) (e : Ending) (W' : World) : Prop := ∃ y : Bool, e = .returned (.bool y) ∧ Cur W' b v N ∧ W.grownBy W' (some b)
set_option maxHeartbeats 400000 in
theorem one_any (b N n : Nat) (v : Value) (hN : N ≤ 700000) (hn0 : 0 < n) (hn : n ≤ 65536) (w : World) (h : Cur w b v N) : Calls Tryd.prog 26 #[.pointer (some ⟨b, 0, none⟩), .int .i64 (n : Int)] w (OnePost w b v (N + 4)) := by
  have H := Lib.hid h
  clear h
  go_enter Tryd.func26, Tryd.ntmps26
  go_wp2_with fail
  refine (pick_any b N n v (by omega) hn0 hn _ H.out).mono ?_
  rintro e w1 ⟨x, rfl, hx, hc1, hg1⟩
  have H1 := Lib.hid hc1
  have G1 := Lib.hid hg1
  clear hc1 hg1
  go_wp2_with fail
  go_ret
  exact ⟨_, rfl, H1.out, G1.out⟩


/-- m zero bytes. -/
def zeros (m : Nat) : List UInt8 := List.replicate m 0
theorem zeros_len (m : Nat) : (zeros m).length = m := by simp [zeros]
theorem zeros_size (m : Nat) : (⟨(zeros m).toArray⟩ : ByteArray).size = m := by show (zeros m).toArray.size = m; simp [zeros]
theorem infoByte : (Tryd.prog.info? 5).map (fun i => (i.zero, i.size, i.bytes)) = some (some (.int .u8 0), 1, 1) := by kernel_rfl
theorem made_string {w' : World} {base g m : Nat} (h : w'.ownsRow base 5 1 (.slice (some ⟨g, 0, none⟩) m m) m (madeCells (Value.int .u8 0).cells (m * 1)).toList) :
    (convert 22 9 (.slice (some ⟨g, 0, none⟩) m m)).run Tryd.prog w' = .ok (.string ⟨(zeros m).toArray⟩) w' := by
  have hcells : ∀ j, j < m → w'.cell? ⟨g, j, none⟩ = some (.int .u8 0) := by
    intro j hj
    rcases h.2 with ⟨h0, _⟩ | ⟨g', cap, cur, hv, hgb, hb, hnc, hcm, hsz, hx⟩
    · cases h0
    · have e1 : g' = g := by
        simp only [Value.slice.injEq, Option.some.injEq, Addr.mk.injEq] at hv
        exact hv.1.1.symm
      subst e1
      have e2 : (cur.toList.take (m * 1))[j]? = (madeCells (Value.int .u8 0).cells (m * 1)).toList[j]? := by rw [hx]
      rw [List.getElem?_take_of_lt (by omega)] at e2
      simp only [World.cell?, hb]
      rw [← Array.getElem?_toList, e2]
      simp [madeCells, hj, Value.cells, Nat.mod_one]
  have h1 := run_convert_bytes_back (P := Tryd.prog) w' 22 9 5 ⟨g, 0, none⟩ m (zeros m) Tryd.underlying22 Tryd.underlying5 Tryd.underlying9 (fun j hj => by
    rw [zeros_len] at hj
    have e : ((zeros m)[j]'(by rw [zeros_len]; exact hj)) = 0 := by simp [zeros]
    rw [e]
    by_cases h0 : j = 0
    · subst h0; simpa [Addr.add] using hcells 0 hj
    · simpa [Addr.add, h0] using hcells j hj)
  rw [zeros_len] at h1
  exact h1

end Go.Proofs.YtaebphbnfnjfcaaDoor
