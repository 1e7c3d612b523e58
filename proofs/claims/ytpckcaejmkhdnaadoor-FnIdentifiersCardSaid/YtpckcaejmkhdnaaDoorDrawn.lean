/-
  The drawn identifiers of chapter 2: what spoilt, anyId and the Draw functions return, as far as their sizes go. No statement of the seat by itself.
-/
import Derived.Test.YtpckcaejmkhdnaaDoorDraws
namespace Go.Proofs.YtpckcaejmkhdnaaDoor
open Go.RowKit

theorem grown_drewN {a w : World} {r : Option Nat} (h : a.grownBy w r) (n : Nat) : a.grownBy (w.drewN n) r := ⟨h.os, h.tape, h.output, h.size, h.block⟩

set_option maxRecDepth 100000 in
set_option maxHeartbeats 2000000 in
theorem spoilt_any (b N : Nat) (v : Value) (t u : ByteArray) (hN : N ≤ 600000) (ht1 : 1 ≤ t.size) (ht8 : t.size ≤ 8) (hu1 : 1 ≤ u.size) (hu4 : u.size ≤ 4) (w : World) (h : Cur w b v N) :
    Calls Tryd.prog 16 #[.pointer (some ⟨b, 0, none⟩), .string t, .string u] w (TextP w b v (N + 12) (fun s => s.size ≤ 9)) := by
  have H := Lib.hid h
  clear h
  have hne : t.toList ≠ [] := by
    intro e
    have := congrArg List.length e
    rw [ByteArray.toList_eq, Array.length_toList] at this
    have h0 : t.data.size = 0 := this
    have h1 : t.size = t.data.size := rfl
    omega
  have hne2 : (t.toList == []) = false := by simpa using hne
  go_enter Tryd.func16, Tryd.ntmps16
  go_wp2_with fail
  refine (pick_any b N t.size v (by omega) (by omega) (by omega) _ H.out).mono ?_
  rintro e w1 ⟨i, rfl, hi, hc1, hg1⟩
  have H1 := Lib.hid hc1
  have G1 := Lib.hid hg1
  clear hc1 hg1
  go_wp2_with fail
  refine (pick_any b (N + 4) u.size v (by omega) (by omega) (by omega) _ H1.out).mono ?_
  rintro e w2 ⟨j, rfl, hj, hc2, hg2⟩
  have H2 := Lib.hid hc2
  have G2 : Hid (w.grownBy w2 (some b)) := Lib.hid (Lib.grownBy_trans G1.out hg2)
  clear hc2 hg2
  have hji : (j : Int) ≤ (u.size : Int) := by omega
  have hx : (u.extract j u.size).size = u.size - j := by rw [ByteArray.size_extract]; omega
  have hx1 : 1 ≤ (u.extract j u.size).size := by omega
  clear hx
  go_wp2_with fail
  refine (pick_any b (N + 8) 3 v (by omega) (by decide) (by decide) _ H2.out).mono ?_
  rintro e w3 ⟨k, rfl, hk, hc3, hg3⟩
  have H3 := Lib.hid hc3
  have G3 : Hid (w.grownBy w3 (some b)) := Lib.hid (Lib.grownBy_trans G2.out hg3)
  clear hc3 hg3
  have hXs : ((u.extract j u.size).extract 0 1).size ≤ 1 := by rw [ByteArray.size_extract]; omega
  generalize (u.extract j u.size).extract 0 1 = X at *
  have hii : (i : Int) ≤ (t.size : Int) := by omega
  have hi1 : (i : Int) + 1 ≤ (t.size : Int) := by omega
  have hw1 : IntKind.i64.wrap ((i : Int) + 1) = (i : Int) + 1 := IntWalk.i64_in _ (by omega)
  have hn1 : ((i : Int) + 1).toNat = i + 1 := by omega
  have za : (t.extract 0 i).size = i := by rw [ByteArray.size_extract]; omega
  have zb : (t.extract i t.size).size = t.size - i := by rw [ByteArray.size_extract]; omega
  have zc : (t.extract (i + 1) t.size).size = t.size - (i + 1) := by rw [ByteArray.size_extract]; omega
  have ZA := Lib.hid za
  have ZB := Lib.hid zb
  have ZC := Lib.hid zc
  have la : (t.extract 0 i).size ≤ 8 := by omega
  have lb : (t.extract i t.size).size ≤ 8 := by omega
  have lc : (t.extract (i + 1) t.size).size ≤ 8 := by omega
  clear za zb zc
  rcases (show k = 0 ∨ k = 1 ∨ k = 2 by omega) with rfl | rfl | rfl
  · have S := Lib.hid (show (t.extract 0 i ++ X ++ t.extract i t.size).size ≤ 9 by rw [ByteArray.size_append, ByteArray.size_append, ZA.out, ZB.out]; omega)
    go_wp2_with fail
    go_quiet (fail)
    go_wp2_with fail
    go_ret
    exact ⟨_, rfl, S.out, H3.out, grown_drewN G3.out nq⟩
  · have S := Lib.hid (show (t.extract 0 i ++ X ++ t.extract (i + 1) t.size).size ≤ 9 by rw [ByteArray.size_append, ByteArray.size_append, ZA.out, ZC.out]; omega)
    go_wp2_with fail
    go_quiet (fail)
    go_wp2_with fail
    go_ret
    exact ⟨_, rfl, S.out, H3.out, grown_drewN G3.out nq⟩
  · have S := Lib.hid (show (t.extract 0 i ++ t.extract (i + 1) t.size).size ≤ 9 by rw [ByteArray.size_append, ZA.out, ZC.out]; omega)
    go_wp2_with fail
    go_quiet (fail)
    go_wp2_with fail
    go_ret
    exact ⟨_, rfl, S.out, H3.out, grown_drewN G3.out nq⟩

set_option maxRecDepth 100000 in
set_option maxHeartbeats 1000000 in
theorem anyId_any (b N : Nat) (v : Value) (hN : N ≤ 500000) (w : World) (h : Cur w b v N) :
    Calls Tryd.prog 31 #[.pointer (some ⟨b, 0, none⟩)] w (TextP w b v (N + 40) (fun s => s.size ≤ 9)) := by
  have H := Lib.hid h
  clear h
  go_enter Tryd.func31, Tryd.ntmps31
  go_wp2_with fail
  refine (id_any b N v (by omega) _ H.out).mono ?_
  rintro e w1 ⟨s, rfl, hs, hc1, hg1⟩
  have hs8 : s.size ≤ 8 := by omega
  have hs1 : 1 ≤ s.size := by omega
  have H1 := Lib.hid hc1
  have G1 := Lib.hid hg1
  clear hs hc1 hg1
  go_wp2_with fail
  refine (one_any b (N + 12) 8 v (by omega) (by decide) (by decide) _ H1.out).mono ?_
  rintro e w2 ⟨y, rfl, hc2, hg2⟩
  have H2 := Lib.hid hc2
  have G2 : Hid (w.grownBy w2 (some b)) := Lib.hid (Lib.grownBy_trans G1.out hg2)
  clear hc2 hg2
  have Q := Lib.hid (fun W h => l2Number_any ⟨#[81, 81, 81]⟩ 9999 W h (Nat.le_refl _))
  have U : Hid (Upper3 ⟨#[81, 81, 81]⟩) := Lib.hid ⟨rfl, fun k hk => by
    match k, hk with
    | 0, _ => rfl
    | 1, _ => rfl
    | 2, _ => rfl⟩
  have S8 := Lib.hid (size8 ⟨#[81, 81, 81]⟩ 9999 U.out)
  cases y
  · go_wp2_with fail
    refine (one_any b (N + 16) 24 v (by omega) (by decide) (by decide) _ H2.out).mono ?_
    rintro e w3 ⟨z, rfl, hc3, hg3⟩
    have H3 := Lib.hid hc3
    have G3 : Hid (w.grownBy w3 (some b)) := Lib.hid (Lib.grownBy_trans G2.out hg3)
    clear hc3 hg3
    cases z
    · go_wp2_with fail
      go_ret
      exact ⟨s, rfl, by omega, H3.out.more (by omega), G3.out⟩
    · go_wp2_with fail
      refine (Q.out _ U.out).mono ?_
      rintro e w4 ⟨rfl, hb4⟩
      have H4 := Lib.hid (H3.out.below hb4)
      have G4 : Hid (w.grownBy w4 (some b)) := Lib.hid (Lib.grownBy_trans G3.out (grown_of_below hb4 _))
      clear hb4
      go_wp2_with fail
      go_ret
      exact ⟨_, rfl, Nat.le_trans (Nat.le_of_eq S8.out) (by decide), H4.out.more (by omega), G4.out⟩
  · go_wp2_with fail
    refine (spoilt_any b (N + 16) v s ⟨#[65, 48, 66, 49]⟩ (by omega) hs1 hs8 (by decide) (by decide) _ H2.out).mono ?_
    rintro e w3 ⟨s3, rfl, hs3, hc3, hg3⟩
    have H3 := Lib.hid hc3
    have G3 : Hid (w.grownBy w3 (some b)) := Lib.hid (Lib.grownBy_trans G2.out hg3)
    clear hc3 hg3
    go_wp2_with fail
    refine (one_any b (N + 28) 24 v (by omega) (by decide) (by decide) _ H3.out).mono ?_
    rintro e w4 ⟨z, rfl, hc4, hg4⟩
    have H4 := Lib.hid hc4
    have G4 : Hid (w.grownBy w4 (some b)) := Lib.hid (Lib.grownBy_trans G3.out hg4)
    clear hc4 hg4
    cases z
    · go_wp2_with fail
      go_ret
      exact ⟨s3, rfl, hs3, H4.out.more (by omega), G4.out⟩
    · go_wp2_with fail
      refine (Q.out _ U.out).mono ?_
      rintro e w5 ⟨rfl, hb5⟩
      have H5 := Lib.hid (H4.out.below hb5)
      have G5 : Hid (w.grownBy w5 (some b)) := Lib.hid (Lib.grownBy_trans G4.out (grown_of_below hb5 _))
      clear hb5
      go_wp2_with fail
      go_ret
      exact ⟨_, rfl, Nat.le_trans (Nat.le_of_eq S8.out) (by decide), H5.out.more (by omega), G5.out⟩

/-- The code that came in: len bytes that can be read. -/
def CodeArg (w : World) (a : Option Addr) (len : Nat) : Prop := len ≤ 65536 ∧ ∀ j, j < len → ∃ (cb off : Nat) (x : UInt8), a = some ⟨cb, off, none⟩ ∧ cb < w.heap.size ∧ w.cell? ⟨cb, off + j, none⟩ = some (.int .u8 (x.toNat : Int))
theorem CodeArg.below {w w' : World} {a : Option Addr} {len : Nat} (h : CodeArg w a len) (hb : Below w.heap.size w w') : CodeArg w' a len := ⟨h.1, fun j hj => by
  obtain ⟨cb, off, x, e, hlt, hc⟩ := h.2 j hj
  exact ⟨cb, off, x, e, Nat.lt_of_lt_of_le hlt hb.size, (hb.cell (p := ⟨cb, off + j, none⟩) hlt).trans hc⟩⟩
theorem cur_new (w : World) (a : Option Addr) (len cap : Nat) (h : CodeArg w a len) : Cur (w.alloc (.cells #[.slice a len cap, .int .i64 0, .int .u64 0] 31)) w.heap.size (.slice a len cap) 0 := by
  have hb : Below w.heap.size w (w.alloc (.cells #[.slice a len cap, .int .i64 0, .int .u64 0] 31)) := (Below.refl _ _).alloc (Nat.le_refl _) _
  refine ⟨a, len, cap, 0, 0, rfl, h.1, heap_alloc_new w _, Nat.le_refl _, fun j hj => ?_⟩
  obtain ⟨cb, off, x, e, hlt, hc⟩ := h.2 j hj
  exact ⟨cb, off, x, e, hlt, (hb.cell (p := ⟨cb, off + j, none⟩) hlt).trans hc⟩
theorem cur_below (w : World) (o : Obj) {w' : World} (hg : (w.alloc o).grownBy w' (some w.heap.size)) : Below w.heap.size w w' :=
  ((Below.refl _ w).alloc (Nat.le_refl _) o).grown hg (by simp) (fun k e => by cases e; exact Nat.le_refl _)
/-- A text was drawn. -/
def DrawnText (w : World) (m : Nat) (e : Ending) (w' : World) : Prop := ∃ s : ByteArray, e = .returned (.string s) ∧ s.size ≤ m ∧ Below w.heap.size w w'

set_option maxRecDepth 100000 in
set_option maxHeartbeats 1000000 in
theorem drawLetter_any (a : Option Addr) (len cap : Nat) (w : World) (h : CodeArg w a len) : Calls Tryd.prog 6 #[.slice a len cap] w (DrawnText w 9) := by
  have H := Lib.hid (cur_new w a len cap h)
  clear h
  go_enter Tryd.func6, Tryd.ntmps6
  go_wp2_with fail
  refine (id_any w.heap.size 0 _ (by decide) _ H.out).mono ?_
  rintro e w1 ⟨s, rfl, hs, hc1, hg1⟩
  have H1 := Lib.hid hc1
  have G1 := Lib.hid hg1
  have h7i : (7 : Int) ≤ (s.size : Int) := by omega
  have hz : (s.extract 0 7).size = 7 := by rw [ByteArray.size_extract]; omega
  have hz1 : 1 ≤ (s.extract 0 7).size := by omega
  have hz8 : (s.extract 0 7).size ≤ 8 := by omega
  clear hc1 hg1 hs hz
  go_wp2_with fail
  refine (one_any w.heap.size 12 5 _ (by decide) (by decide) (by decide) _ H1.out).mono ?_
  rintro e w2 ⟨y, rfl, hc2, hg2⟩
  have H2 := Lib.hid hc2
  have G2 : Hid (((w.alloc (.cells #[.slice a len cap, .int .i64 0, .int .u64 0] 31))).grownBy w2 (some w.heap.size)) := Lib.hid (Lib.grownBy_trans G1.out hg2)
  clear hc2 hg2
  generalize s.extract 0 7 = t at *
  cases y
  · go_wp2_with fail
    go_ret
    exact ⟨t, rfl, by omega, cur_below w _ G2.out⟩
  · go_wp2_with fail
    refine (spoilt_any w.heap.size 16 _ t ⟨#[97, 48, 90]⟩ (by decide) hz1 hz8 (by decide) (by decide) _ H2.out).mono ?_
    rintro e w3 ⟨s3, rfl, hs3, hc3, hg3⟩
    have G3 := Lib.hid (cur_below w _ (Lib.grownBy_trans G2.out hg3))
    clear hc3 hg3
    go_wp2_with fail
    go_ret
    exact ⟨s3, rfl, hs3, G3.out⟩
set_option maxHeartbeats 400000 in
theorem drawValid_any (a : Option Addr) (len cap : Nat) (w : World) (h : CodeArg w a len) : Calls Tryd.prog 22 #[.slice a len cap] w (DrawnText w 9) := by
  have H := Lib.hid (cur_new w a len cap h)
  clear h
  go_enter Tryd.func22, Tryd.ntmps22
  go_wp2_with fail
  refine (anyId_any w.heap.size 0 _ (by decide) _ H.out).mono ?_
  rintro e w1 ⟨s, rfl, hs, hc1, hg1⟩
  have G1 := Lib.hid (cur_below w _ hg1)
  clear hc1 hg1
  go_wp2_with fail
  go_ret
  exact ⟨s, rfl, hs, G1.out⟩
theorem drawNext_any (a : Option Addr) (len cap : Nat) (w : World) (h : CodeArg w a len) : Calls Tryd.prog 10 #[.slice a len cap] w (DrawnText w 9) := by
  have H := Lib.hid (drawValid_any a len cap w h)
  clear h
  go_enter Tryd.func10, Tryd.ntmps10
  go_wp2_with fail
  refine H.out.mono ?_
  rintro e w1 ⟨s, rfl, hs, hb⟩
  have B := Lib.hid hb
  clear hb
  go_wp2_with fail
  go_ret
  exact ⟨s, rfl, hs, B.out⟩
end Go.Proofs.YtpckcaejmkhdnaaDoor
