/-
  The drawn texts of chapter 2: what l1Cur's of, among, one, id, spoilt, anyId and the Draw functions return, as far as the law leans on it. No statement of the seat by itself.
-/
import Derived.Test.YtpckcaejmkhdnaaDoorCur
import Derived.Test.YtpckcaejmkhdnaaDoorNextT
namespace Go.Proofs.YtpckcaejmkhdnaaDoor
open Go.RowKit

theorem grown_of_below {a w : World} (h : Below a.heap.size a w) (row : Option Nat) : a.grownBy w row := ⟨h.os, h.tape, h.output, h.size, fun i hi _ => h.block i hi⟩
theorem Cur.alloc {W : World} {b : Nat} {v : Value} {N : Nat} (h : Cur W b v N) (o : Obj) : Cur (W.alloc o) b v N := h.below ((Below.refl _ _).alloc (Nat.le_refl _) _)

/-- A list of n texts in block g, each of a kind. -/
def ListP (W : World) (g n : Nat) (P : ByteArray → Prop) : Prop := g < W.heap.size ∧ ∀ j, j < n → ∃ s : ByteArray, W.cell? ⟨g, j, none⟩ = some (.string s) ∧ P s
/-- A text of a kind was drawn. -/
def TextP (W : World) (b : Nat) (v : Value) (N : Nat) (P : ByteArray → Prop) (e : Ending) (W' : World) : Prop := ∃ s : ByteArray, e = .returned (.string s) ∧ P s ∧ Cur W' b v N ∧ W.grownBy W' (some b)

set_option maxHeartbeats 400000 in
theorem of_any (b N g n cap : Nat) (P : ByteArray → Prop) (v : Value) (hN : N ≤ 700000) (hn0 : 0 < n) (hn : n ≤ 100) (w : World) (h : Cur w b v N) (hg : g ≠ b) (hL : ListP w g n P) :
    Calls Tryd.prog 26 #[.pointer (some ⟨b, 0, none⟩), .slice (some ⟨g, 0, none⟩) n cap] w (TextP w b v (N + 4) P) := by
  have H := Lib.hid h
  have HL := Lib.hid hL
  clear h hL
  go_enter Tryd.func26, Tryd.ntmps26
  go_wp2_with fail
  refine (pick_any b N n v (by omega) hn0 (by omega) _ H.out).mono ?_
  rintro e w1 ⟨x, rfl, hx, hc1, hg1⟩
  obtain ⟨s, hs, hm⟩ := HL.out.2 x hx
  have hc : w1.cell? ⟨g, x, none⟩ = some (.string s) := by
    rw [World.cell?_of_block (hg1.block g HL.out.1 (by simpa using hg))]
    exact hs
  have H1 := Lib.hid hc1
  have G1 := Lib.hid hg1
  have M := Lib.hid hm
  clear hc1 hg1 hs hm
  go_wp2_with fail
  go_ret
  exact ⟨s, rfl, M.out, H1.out, G1.out⟩
theorem listP_new (W : World) (o : Obj) (xs : List ByteArray) (P : ByteArray → Prop) (ho : o = .cells (xs.map Value.string).toArray 9 (0, 0)) (hm : ∀ x ∈ xs, P x) : ListP (W.alloc o) W.heap.size xs.length P := by
  subst ho
  refine ⟨by simp, fun j hj => ⟨xs[j], ?_, hm _ (List.getElem_mem _)⟩⟩
  have := heap_alloc_new W (.cells (xs.map Value.string).toArray 9 (0, 0))
  unfold World.cell?
  simp only [this]
  simp [hj]

/-- A list of n numbers in block g. -/
def ListI (W : World) (g n : Nat) (P : Int → Prop) : Prop := g < W.heap.size ∧ ∀ j, j < n → ∃ x : Int, W.cell? ⟨g, j, none⟩ = some (.int .i64 x) ∧ P x
def NumP (W : World) (b : Nat) (v : Value) (N : Nat) (P : Int → Prop) (e : Ending) (W' : World) : Prop := ∃ x : Int, e = .returned (.int .i64 x) ∧ P x ∧ Cur W' b v N ∧ W.grownBy W' (some b)
set_option maxHeartbeats 400000 in
theorem among_any (b N g n cap : Nat) (P : Int → Prop) (v : Value) (hN : N ≤ 700000) (hn0 : 0 < n) (hn : n ≤ 100) (w : World) (h : Cur w b v N) (hg : g ≠ b) (hL : ListI w g n P) :
    Calls Tryd.prog 28 #[.pointer (some ⟨b, 0, none⟩), .slice (some ⟨g, 0, none⟩) n cap] w (NumP w b v (N + 4) P) := by
  have H := Lib.hid h
  have HL := Lib.hid hL
  clear h hL
  go_enter Tryd.func28, Tryd.ntmps28
  go_wp2_with fail
  refine (pick_any b N n v (by omega) hn0 (by omega) _ H.out).mono ?_
  rintro e w1 ⟨x, rfl, hx, hc1, hg1⟩
  obtain ⟨s, hs, hm⟩ := HL.out.2 x hx
  have hc : w1.cell? ⟨g, x, none⟩ = some (.int .i64 s) := by
    rw [World.cell?_of_block (hg1.block g HL.out.1 (by simpa using hg))]
    exact hs
  have H1 := Lib.hid hc1
  have G1 := Lib.hid hg1
  have M := Lib.hid hm
  clear hc1 hg1 hs hm
  go_wp2_with fail
  go_ret
  exact ⟨s, rfl, M.out, H1.out, G1.out⟩
theorem listI_new (W : World) (o : Obj) (xs : List Int) (P : Int → Prop) (ho : o = .cells (xs.map (Value.int .i64)).toArray 3 (0, 0)) (hm : ∀ x ∈ xs, P x) : ListI (W.alloc o) W.heap.size xs.length P := by
  subst ho
  refine ⟨by simp, fun j hj => ⟨xs[j], ?_, hm _ (List.getElem_mem _)⟩⟩
  have := heap_alloc_new W (.cells (xs.map (Value.int .i64)).toArray 3 (0, 0))
  unfold World.cell?
  simp only [this]
  simp [hj]

/-- A yes or no was drawn. -/
def OnePost (W : World) (b : Nat) (v : Value) (N : Nat) (e : Ending) (W' : World) : Prop := ∃ y : Bool, e = .returned (.bool y) ∧ Cur W' b v N ∧ W.grownBy W' (some b)
set_option maxHeartbeats 400000 in
theorem one_any (b N n : Nat) (v : Value) (hN : N ≤ 700000) (hn0 : 0 < n) (hn : n ≤ 65536) (w : World) (h : Cur w b v N) : Calls Tryd.prog 15 #[.pointer (some ⟨b, 0, none⟩), .int .i64 (n : Int)] w (OnePost w b v (N + 4)) := by
  have H := Lib.hid h
  clear h
  go_enter Tryd.func15, Tryd.ntmps15
  go_wp2_with fail
  refine (pick_any b N n v (by omega) hn0 hn _ H.out).mono ?_
  rintro e w1 ⟨x, rfl, hx, hc1, hg1⟩
  have H1 := Lib.hid hc1
  have G1 := Lib.hid hg1
  clear hc1 hg1
  go_wp2_with fail
  go_ret
  exact ⟨_, rfl, H1.out, G1.out⟩

/-- The letters of the drawn identifiers. -/
def fourL : List ByteArray := [⟨#[65, 66, 67]⟩, ⟨#[88, 89, 90]⟩, ⟨#[83, 69, 65]⟩, ⟨#[90, 90, 90]⟩]
theorem fourL_upper : ∀ x ∈ fourL, Upper3 x := by
  intro x hx
  simp only [fourL, List.mem_cons, List.not_mem_nil, or_false] at hx
  rcases hx with rfl | rfl | rfl | rfl
  all_goals
    refine ⟨rfl, fun k hk => ?_⟩
    match k, hk with
    | 0, _ => rfl
    | 1, _ => rfl
    | 2, _ => rfl
theorem size8 (L : ByteArray) (m : Nat) (h : Upper3 L) : (numS L m ++ letterS (numS L m)).size = 8 := by
  rw [ByteArray.size_append, ((sevenB_iff _).1 (seven_numS L m h)).1]; rfl

set_option maxRecDepth 100000 in
set_option maxHeartbeats 1000000 in
theorem id_any (b N : Nat) (v : Value) (hN : N ≤ 600000) (w : World) (h : Cur w b v N) : Calls Tryd.prog 14 #[.pointer (some ⟨b, 0, none⟩)] w (TextP w b v (N + 12) (fun s => s.size = 8)) := by
  have hb := h.lt
  have H := Lib.hid h
  clear h
  go_enter Tryd.func14, Tryd.ntmps14
  go_wp2_with fail
  refine (of_any b N w.heap.size 4 4 Upper3 v (by omega) (by decide) (by decide) _ (H.out.alloc _) (by omega) (listP_new w _ fourL Upper3 rfl fourL_upper)).mono ?_
  rintro e w1 ⟨L, rfl, hL, hc1, hg1⟩
  have KL := Lib.hid hL
  have H1 := Lib.hid hc1
  have G1 : Hid (w.grownBy w1 (some b)) := Lib.hid (Lib.grownBy_trans (World.grownBy_alloc w _ (some b)) hg1)
  clear hL hc1 hg1
  go_wp2_with fail
  refine (pick_any b (N + 4) 200 v (by omega) (by decide) (by decide) _ H1.out).mono ?_
  rintro e w2 ⟨x, rfl, hx, hc2, hg2⟩
  have H2 := Lib.hid hc2
  have hb2 := hc2.lt
  have G2 : Hid (w.grownBy w2 (some b)) := Lib.hid (Lib.grownBy_trans G1.out hg2)
  clear hc2 hg2
  go_wp2_with fail
  refine (among_any b (N + 8) w2.heap.size 3 3 (fun y => 1 ≤ y ∧ y ≤ 50) v (by omega) (by decide) (by decide) _ (H2.out.alloc _) (by omega) (listI_new w2 _ [1, 7, 50] _ rfl (by decide))).mono ?_
  rintro e w3 ⟨y, rfl, hy, hc3, hg3⟩
  obtain ⟨hy1, hy2⟩ := hy
  have H3 := Lib.hid hc3
  have G3 : Hid (w.grownBy w3 (some b)) := Lib.hid (Lib.grownBy_trans G2.out (Lib.grownBy_trans (World.grownBy_alloc w2 _ (some b)) hg3))
  clear hc3 hg3
  have hm0 : 0 ≤ (x : Int) * y := Int.mul_nonneg (by omega) (by omega)
  have hm1 : (x : Int) * y ≤ 199 * 50 := Int.mul_le_mul (by omega) hy2 (by omega) (by omega)
  obtain ⟨m, hm⟩ : ∃ m : Nat, (x : Int) * y = (m : Int) := ⟨((x : Int) * y).toNat, by omega⟩
  have hmb : m ≤ 9999 := by omega
  go_wp2_with fail
  refine (l2Number_any L m _ KL.out hmb).mono ?_
  rintro e w4 ⟨rfl, hb4⟩
  have H4 : Hid (Cur w4 b v (N + 12)) := Lib.hid (H3.out.below hb4)
  have G4 : Hid (w.grownBy w4 (some b)) := Lib.hid (Lib.grownBy_trans G3.out (grown_of_below hb4 _))
  clear hb4
  go_wp2_with fail
  go_ret
  exact ⟨_, rfl, size8 L m KL.out, H4.out, G4.out⟩
end Go.Proofs.YtpckcaejmkhdnaaDoor
