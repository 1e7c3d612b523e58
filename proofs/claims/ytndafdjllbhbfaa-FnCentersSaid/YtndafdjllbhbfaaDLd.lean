/-
  The drawn loads, ship's weights and heights. No statement of the seat by itself.
-/
import Derived.Test.YtndafdjllbhbfaaLdI
import Derived.Test.YtndafdjllbhbfaaDDraws
import Derived.Maps.AppendAt
namespace Go.Proofs.Ytndafdjllbhbfaa.D
open Go.RowKit

theorem grown_set {w wr : World} {r : Option Nat} (h : w.grownBy wr r) (q i : Nat) (u : Value) (hq : w.heap.size ≤ q) : w.grownBy (wr.setCell ⟨q, i, none⟩ u) r := by
  have hB := (Below.refl w.heap.size wr).setCell (p := ⟨q, i, none⟩) hq u
  exact ⟨h.os, h.tape, h.output, by simpa using h.size, fun k hk hne => (hB.block k hk).trans (h.block k hk hne)⟩
/-- While loads are drawn: the draws' state in block b, the list. -/
def LdS (w : World) (b : Nat) (v : Value) (wr : World) (N : Nat) (sv : Value) (T : List (Int × Int × Int)) : Prop := Cur wr b v N ∧ w.grownBy wr (some b) ∧ wr.ownsRow w.heap.size 50 3 sv T.length (flatLd T) ∧ b < w.heap.size
theorem LdS.off {w wr : World} {b N : Nat} {v sv : Value} {T : List (Int × Int × Int)} (h : LdS w b v wr N sv T) : ∀ r, sv.ownBlock = some r → w.heap.size ≤ r := fun r e => row_base h.2.2.1 r e
theorem LdS.drawn {w wr w1 : World} {b N M : Nat} {v sv : Value} {T : List (Int × Int × Int)} (h : LdS w b v wr N sv T) (hc : Cur w1 b v M) (hg : wr.grownBy w1 (some b)) : LdS w b v w1 M sv T :=
  ⟨hc, Lib.grownBy_trans h.2.1 hg, h.2.2.1.kept hg (by
    cases hv : sv.ownBlock with
    | none => exact .inl rfl
    | some j => exact .inr fun e => by have := h.off j hv; have := h.2.2.2; cases e; omega), h.2.2.2⟩
theorem LdS.alloc {w wr : World} {b N : Nat} {v sv : Value} {T : List (Int × Int × Int)} (h : LdS w b v wr N sv T) (o : Obj) : LdS w b v (wr.alloc o) N sv T :=
  ⟨h.1.alloc o, Lib.grownBy_trans h.2.1 (World.grownBy_alloc _ _ _), h.2.2.1.alloc o, h.2.2.2⟩
theorem LdS.push {w wr w4 : World} {b N : Nat} {v sv v' : Value} {T : List (Int × Int × Int)} {x y z : Int} {o : Obj} (h : LdS w b v wr N sv T) (ho : w4.ownsRow w.heap.size 50 3 v' (T.length + 1) (flatLd T ++ [.int .i64 x, .int .i64 y, .int .i64 z])) (hg : (wr.alloc o).grownBy w4 sv.ownBlock) : LdS w b v w4 N v' (T ++ [(x, y, z)]) := by
  have ha := h.alloc o
  refine ⟨ha.1.kept hg (fun r e => by have := h.off r e; have := h.2.2.2; omega), ?_, by rw [List.length_append, List.length_singleton, flatLd_app]; exact ho, h.2.2.2⟩
  have a := ha.2.1
  exact ⟨hg.os.trans a.os, hg.tape.trans a.tape, hg.output.trans a.output, Nat.le_trans a.size hg.size, fun k hk hne => (hg.block k (by have := a.size; omega) (fun e => by have := h.off k e.symm; omega)).trans (a.block k hk hne)⟩
theorem LdS.setq {w wr : World} {b N q : Nat} {v sv : Value} {T : List (Int × Int × Int)} (h : LdS w b v wr N sv T) (i : Nat) (u : Value) (hq : w.heap.size ≤ q) (hn : sv.ownBlock ≠ some q) : LdS w b v (wr.setCell ⟨q, i, none⟩ u) N sv T :=
  ⟨h.1.kept (Lib.grownBy_setCell wr q i u) (fun r e => by cases e; have := h.2.2.2; omega), grown_set h.2.1 q i u hq, h.2.2.1.kept (Lib.grownBy_setCell wr q i u) (.inr hn), h.2.2.2⟩
theorem LdS.len {w wr : World} {b N n g cap : Nat} {v : Value} {T : List (Int × Int × Int)} (h : LdS w b v wr N (.slice (some ⟨g, 0, none⟩) n cap) T) : n = T.length := by
  obtain ⟨a, c, e⟩ := own_form h.2.2.1
  injection e
theorem LdS.store {w wr : World} {b N n g cap k : Nat} {v : Value} {T : List (Int × Int × Int)} {x y z : Int} (h : LdS w b v wr N (.slice (some ⟨g, 0, none⟩) n cap) T) (hk : k < T.length) :
    LdS w b v (((wr.setCell ⟨g, k * 3, none⟩ (.int .i64 x)).setCell ⟨g, k * 3 + 1, none⟩ (.int .i64 y)).setCell ⟨g, k * 3 + 2, none⟩ (.int .i64 z)) N (.slice (some ⟨g, 0, none⟩) n cap) (T.set k (x, y, z)) := by
  have hn := h.len
  subst hn
  have hb : w.heap.size ≤ g := h.off g rfl
  have hbg : b < g := by have := h.2.2.2; omega
  have s0 := (h.2.2.1.stored (k * 3) (.int .i64 x)).1
  have s1 := (s0.stored (k * 3 + 1) (.int .i64 y)).1
  have s2 := (s1.stored (k * 3 + 2) (.int .i64 z)).1
  have hl : (flatLd T).length = T.length * 3 := flatLd_len T
  have e : (((flatLd T).set (k * 3) (.int .i64 x)).set (k * 3 + 1) (.int .i64 y)).set (k * 3 + 2) (.int .i64 z) = flatLd (T.set k (x, y, z)) := flatLd_ext (by simp [hl]) fun j s hs => by
    by_cases e : j = k
    · subst e
      rw [List.getElem?_set_self hk] at hs
      cases hs
      refine ⟨?_, ?_, ?_⟩
      · rw [List.getElem?_set_ne (by omega), List.getElem?_set_ne (by omega), List.getElem?_set_self (by omega)]
      · rw [List.getElem?_set_ne (by omega), List.getElem?_set_self (by rw [List.length_set]; omega)]
      · rw [List.getElem?_set_self (by rw [List.length_set, List.length_set]; omega)]
    · rw [List.getElem?_set_ne (by omega)] at hs
      have h0 := flatLd_at _ _ _ hs
      rw [List.getElem?_set_ne (by omega), List.getElem?_set_ne (by omega), List.getElem?_set_ne (by omega), List.getElem?_set_ne (by omega), List.getElem?_set_ne (by omega), List.getElem?_set_ne (by omega), List.getElem?_set_ne (by omega), List.getElem?_set_ne (by omega), List.getElem?_set_ne (by omega)]
      exact h0
  rw [e] at s2
  have kc : ∀ {W : World} (i : Nat) (u : Value), Cur W b v N → Cur (W.setCell ⟨g, i, none⟩ u) b v N := fun i u hc => hc.kept (Lib.grownBy_setCell _ g i u) (fun r e => by cases e; exact hbg)
  exact ⟨kc _ _ (kc _ _ (kc _ _ h.1)), grown_set (grown_set (grown_set h.2.1 g _ _ hb) g _ _ hb) g _ _ hb, by rw [List.length_set]; exact s2, h.2.2.2⟩
/-- A box of one load. -/
def LdX (W : World) (q : Nat) (x y z : Int) : Prop := W.heap[q]? = some (.cells #[.int .i64 x, .int .i64 y, .int .i64 z] 50 (0, 0))
theorem LdX.lt {W : World} {q : Nat} {x y z : Int} (h : LdX W q x y z) : q < W.heap.size := (Array.getElem?_eq_some_iff.1 h).1
theorem LdX.grown {W W' : World} {q : Nat} {x y z : Int} {r : Option Nat} (h : LdX W q x y z) (hg : W.grownBy W' r) (hr : some q ≠ r) : LdX W' q x y z := (hg.block q h.lt hr).trans h
theorem LdX.alloc {W : World} {q : Nat} {x y z : Int} (h : LdX W q x y z) (o : Obj) : LdX (W.alloc o) q x y z := (heap_alloc_old W o q h.lt).trans h
theorem LdX.set0 {W : World} {q : Nat} {x y z : Int} (h : LdX W q x y z) (u : Int) : LdX (W.setCell ⟨q, 0, none⟩ (.int .i64 u)) q u y z := by
  have := Lib.heap_setCell_same (i := 0) h (.int .i64 u)
  simpa [LdX] using this
theorem LdX.set1 {W : World} {q : Nat} {x y z : Int} (h : LdX W q x y z) (u : Int) : LdX (W.setCell ⟨q, 1, none⟩ (.int .i64 u)) q x u z := by
  have := Lib.heap_setCell_same (i := 1) h (.int .i64 u)
  simpa [LdX] using this
theorem LdX.set2 {W : World} {q : Nat} {x y z : Int} (h : LdX W q x y z) (u : Int) : LdX (W.setCell ⟨q, 2, none⟩ (.int .i64 u)) q x y u := by
  have := Lib.heap_setCell_same (i := 2) h (.int .i64 u)
  simpa [LdX] using this
theorem LdX.c0 {W : World} {q : Nat} {x y z : Int} (h : LdX W q x y z) : W.cell? ⟨q, 0, none⟩ = some (.int .i64 x) := cell_of h rfl
theorem LdX.c1 {W : World} {q : Nat} {x y z : Int} (h : LdX W q x y z) : W.cell? ⟨q, 1, none⟩ = some (.int .i64 y) := cell_of h rfl
theorem LdX.c2 {W : World} {q : Nat} {x y z : Int} (h : LdX W q x y z) : W.cell? ⟨q, 2, none⟩ = some (.int .i64 z) := cell_of h rfl
theorem LdX.fr {W : World} {q : Nat} {x y z : Int} (h : LdX W q x y z) (i : Nat) : W.frozen? ⟨q, i, none⟩ = false := free_of h
theorem LdX.new (W : World) (x y z : Int) : LdX (W.alloc (.cells #[.int .i64 x, .int .i64 y, .int .i64 z] 50)) W.heap.size x y z := heap_alloc_new W _
/-- Loads were drawn. -/
def LoadsP (w : World) (b : Nat) (v : Value) (M : Nat) (e : Ending) (w' : World) : Prop := ∃ (T : List (Int × Int × Int)) (a : Option Addr) (c : Nat), e = .returned (.slice a T.length c) ∧ T.length ≤ 30 ∧ LdS w b v w' M (.slice a T.length c) T
theorem LdS.done {w wr : World} {b N M : Nat} {v sv : Value} {T : List (Int × Int × Int)} (h : LdS w b v wr N sv T) (hT : T.length ≤ 30) (hM : N ≤ M) : LoadsP w b v M (.returned sv) wr := by
  obtain ⟨a, c, rfl⟩ := own_form h.2.2.1
  exact ⟨T, a, c, rfl, hT, h.1.more hM, h.2⟩
def lenV : Value → Nat
  | .slice _ n _ => n
  | _ => 0

set_option maxRecDepth 100000 in
set_option maxHeartbeats 16000000 in
theorem loads_any (b N : Nat) (v : Value) (hN : N ≤ 100000) (w : World) (h : Cur w b v N) :
    Calls Try.prog 59 #[.pointer (some ⟨b, 0, none⟩)] w (LoadsP w b v (N + 400)) := by
  obtain ⟨fI, hI1, hI2, hI3, hI4⟩ := info_is infoLd
  have hbw := h.lt
  have R0 : Hid (LdS w b v (w.alloc (.cells #[] 50)) N (.slice (some ⟨w.heap.size, 0, none⟩) 0 0) []) := Lib.hid ⟨h.alloc _, World.grownBy_alloc _ _ _, (grLd_start w).1, hbw⟩
  have HBW := Lib.hid hbw
  have hbn : ¬ w.heap.size = b := by omega
  clear h
  go_enter Try.func59, Try.ntmps59
  go_wp2_with fail
  refine (pick_any b N 6 v (by omega) (by decide) (by decide) _ R0.out.1).mono ?_
  rintro e w1 ⟨x, rfl, hx, hc, hg⟩
  have R1 := Lib.hid (R0.out.drawn hc hg)
  clear hc hg R0
  go_wp2_with fail
  go_loopw [3, 4] (fun s n wr => ∃ (k : Nat) (T : List (Int × Int × Int)), k + T.length ≤ 5 ∧ n = .int .i64 k ∧ Hid (LdS w b v wr (N + 4 + 12 * T.length) s T)) (fun _ n _ => (intOf n).toNat)
  case atStart => exact ⟨x, [], by simp; omega, rfl, R1⟩
  case round =>
    obtain ⟨k, T, hk, rfl, HR⟩ := hrel
    obtain ⟨a0, c0, rfl⟩ := own_form HR.out.2.2.1
    by_cases hk0 : 0 < k
    · have hk0i : (0 : Int) < (k : Int) := by omega
      have HL1 := Lib.hid (listI_new wr (.cells #[.int .i64 1, .int .i64 100, .int .i64 5000, .int .i64 12000, .int .i64 32000] 3) [1, 100, 5000, 12000, 32000] (fun _ => True) rfl (fun _ _ => trivial))
      have HR1 := Lib.hid (HR.out.alloc (.cells #[.int .i64 1, .int .i64 100, .int .i64 5000, .int .i64 12000, .int .i64 32000] 3))
      have hw0 := HR.out.2.1.size
      have hb1 : wr.heap.size ≠ b := by have := HBW.out; omega
      have HN1 := Lib.hid hb1
      go_wp2_with fail
      refine (among_any b (N + 4 + 12 * T.length) wr.heap.size 5 5 (fun _ => True) v (by omega) (by decide) (by decide) _ HR1.out.1 HN1.out HL1.out).mono ?_
      rintro e w2 ⟨y1, rfl, -, hc, hg⟩
      have HR2 := Lib.hid (HR1.out.drawn hc hg)
      have hz2 := hg.size
      clear hc hg
      have HL2 := Lib.hid (listI_new w2 (.cells #[.int .i64 (-200), .int .i64 (-50), .int .i64 (-7), .int .i64 0, .int .i64 3, .int .i64 50, .int .i64 120, .int .i64 200] 3) [-200, -50, -7, 0, 3, 50, 120, 200] (fun _ => True) rfl (fun _ _ => trivial))
      have HR3 := Lib.hid (HR2.out.alloc (.cells #[.int .i64 (-200), .int .i64 (-50), .int .i64 (-7), .int .i64 0, .int .i64 3, .int .i64 50, .int .i64 120, .int .i64 200] 3))
      have HN2 := Lib.hid (show w2.heap.size ≠ b by have := HBW.out; simp at hz2; omega)
      go_wp2_with fail
      refine (among_any b (N + 4 + 12 * T.length + 4) w2.heap.size 8 8 (fun _ => True) v (by omega) (by decide) (by decide) _ HR3.out.1 HN2.out HL2.out).mono ?_
      rintro e w3 ⟨y2, rfl, -, hc, hg⟩
      have HR4 := Lib.hid (HR3.out.drawn hc hg)
      have hz3 := hg.size
      clear hc hg
      have HL3 := Lib.hid (listI_new w3 (.cells #[.int .i64 0, .int .i64 20, .int .i64 45, .int .i64 130, .int .i64 400] 3) [0, 20, 45, 130, 400] (fun _ => True) rfl (fun _ _ => trivial))
      have HR5 := Lib.hid (HR4.out.alloc (.cells #[.int .i64 0, .int .i64 20, .int .i64 45, .int .i64 130, .int .i64 400] 3))
      have HN3 := Lib.hid (show w3.heap.size ≠ b by have := HBW.out; simp at hz2 hz3; omega)
      go_wp2_with fail
      refine (among_any b (N + 4 + 12 * T.length + 4 + 4) w3.heap.size 5 5 (fun _ => True) v (by omega) (by decide) (by decide) _ HR5.out.1 HN3.out HL3.out).mono ?_
      rintro e w4 ⟨y3, rfl, -, hc, hg⟩
      have HR6 := Lib.hid (HR5.out.drawn hc hg)
      clear hc hg hz2 hz3
      have hrow := HR6.out.2.2.1
      have hz := HR6.out.2.1.size
      have hT5 : T.length ≤ 5 := by omega
      go_wp2_with (at_builtin; refine wpList_append_own _ rfl _ _ 24 rfl w.heap.size 50 fI (.agg #[.int .i64 0, .int .i64 0, .int .i64 0]) 3 24 Try.underlying24 hI1 hI2 hI3 hI4 rfl (by decide) _ _ _ rfl (hrow.alloc _) ⟨w4.heap.size, 0, none⟩ 1 1 [.int .i64 y1, .int .i64 y2, .int .i64 y3] rfl rfl (three_newLd _ _ _ _ _) (by simp [Value.oneCell']) (by unfold maxLen; omega) (by omega) (by simp; omega) ?_; intro v' w5 hown' hgrow hnil)
      have HN := Lib.hid (HR6.out.push hown' hgrow)
      clear hown' hgrow hnil hrow
      exact ⟨⟨k - 1, T ++ [(y1, y2, y3)], by simp; omega, val_i (by omega), by rw [List.length_append, List.length_singleton]; exact Lib.hid ⟨HN.out.1.more (by omega), HN.out.2⟩⟩, by simp [intOf]; omega⟩
    · obtain rfl : k = 0 := by omega
      by_cases hT0 : T = []
      · subst hT0
        have HD := Lib.hid (HR.out.done (M := N + 400) (by simp) (by simp))
        go_wp2_with fail
        go_ret
        exact HD.out
      have hTl : 0 < T.length := List.length_pos_iff.2 hT0
      have hT5 : T.length ≤ 5 := by omega
      have hTi : ((T.length : Int) == 0) = false := by simp; exact hT0
      obtain ⟨n, hn⟩ : ∃ n, T.length = n := ⟨_, rfl⟩
      have HN := Lib.hid hn
      rw [hn] at hTl hT5 hTi HR ⊢
      clear hn hT0 hk
      go_wp2_with fail
      refine (pick_any b (N + 4 + 12 * n) n v (by omega) hTl (by omega) _ HR.out.1).mono ?_
      rintro e w2 ⟨k, rfl, hk, hc, hg⟩
      have HR2 := Lib.hid (HR.out.drawn hc hg)
      clear hc hg HR
      obtain ⟨s, hs⟩ := get_at HN.out hk
      obtain ⟨p, q, r⟩ := s
      have hfl := flatLd_at _ _ _ hs
      have hrw := HR2.out.2.2.1
      have hrw0 := hrw
      rw [HN.out] at hrw
      obtain ⟨g, cap', hv⟩ : ∃ g cap, Value.slice a0 n c0 = .slice (some ⟨g, 0, none⟩) n cap := by
        rcases hrw.2 with ⟨_, hz⟩ | ⟨g, cap, cur, hv, _⟩
        · omega
        · exact ⟨g, cap, hv⟩
      injection hv with e1 e2 e3
      subst e1 e3
      have o0 : w2.cell? ⟨g, k * 3, none⟩ = some (.int .i64 p) := (hrw.cellAt (k * 3) (show k * 3 < n * 3 by omega)).trans hfl.1
      have o1 : w2.cell? ⟨g, k * 3 + 1, none⟩ = some (.int .i64 q) := (hrw.cellAt (k * 3 + 1) (show k * 3 + 1 < n * 3 by omega)).trans hfl.2.1
      have o2 : w2.cell? ⟨g, k * 3 + 2, none⟩ = some (.int .i64 r) := (hrw.cellAt (k * 3 + 2) (show k * 3 + 2 < n * 3 by omega)).trans hfl.2.2
      have hki : (k : Int) < (n : Int) := by omega
      have hgl := row_lt hrw g rfl
      have hwg := HR2.out.2.1.size
      have HR3 := Lib.hid (HR2.out.alloc (.cells #[.int .i64 p, .int .i64 q, .int .i64 r] 50))
      have HX := Lib.hid (LdX.new w2 p q r)
      obtain ⟨Q, hQ⟩ : ∃ Q, w2.heap.size = Q := ⟨_, rfl⟩
      have hgQ : ¬ g = Q := by omega
      have hQw : w.heap.size ≤ Q := by omega
      have hQb : ¬ Q = b := by have := HBW.out; omega
      clear hs hfl hrw hrw0 hwg hgl
      go_wp2_with fail
      rw [hQ] at HX
      generalize w2.alloc (.cells #[.int .i64 p, .int .i64 q, .int .i64 r] 50) = w3 at *
      clear o0 o1 o2 hQ
      refine (pick_any b (N + 4 + 12 * n + 4) 40 v (by omega) (by decide) (by decide) _ HR3.out.1).mono ?_
      rintro e w4 ⟨y, rfl, hy, hc, hg⟩
      have HR4 := Lib.hid (HR3.out.drawn hc hg)
      have HX4 := Lib.hid (HX.out.grown hg (by simp; exact hQb))
      clear hc hg HX HR3
      have KE := Lib.hid (fun (W : World) (M n' cap2 g2 : Nat) (T' : List (Int × Int × Int)) (x y z : Int) (hS : LdS w b v W M (.slice (some ⟨g2, 0, none⟩) n' cap2) T') (hkT : k < T'.length) (hT' : T'.length ≤ 30) (hM : M ≤ N + 400) => (hS.store (x := x) (y := y) (z := z) hkT).done (M := N + 400) (by rw [List.length_set]; exact hT') hM)
      by_cases h0 : y = 0
      · subst h0
        have HL1 := Lib.hid (listI_new w4 (.cells #[.int .i64 0, .int .i64 32001] 3) [0, 32001] (fun _ => True) rfl (fun _ _ => trivial))
        have HR5 := Lib.hid (HR4.out.alloc (.cells #[.int .i64 0, .int .i64 32001] 3))
        have HX5 := Lib.hid (HX4.out.alloc (.cells #[.int .i64 0, .int .i64 32001] 3))
        have HN1 := Lib.hid (show w4.heap.size ≠ b by have := HBW.out; have := HR4.out.2.1.size; omega)
        go_wp2_with fail
        refine (among_any b (N + 4 + 12 * n + 4 + 4) w4.heap.size 2 2 (fun _ => True) v (by omega) (by decide) (by decide) _ HR5.out.1 HN1.out HL1.out).mono ?_
        rintro e w5 ⟨u, rfl, -, hc, hg⟩
        have HR6 := Lib.hid (HR5.out.drawn hc hg)
        have HX6 := Lib.hid (HX5.out.grown hg (by simp; exact hQb))
        have x0 := HX6.out.c0
        have f0 := HX6.out.fr 0
        have HR7 := Lib.hid (HR6.out.setq (q := Q) 0 (.int .i64 u) hQw (by simp [Value.ownBlock]; exact hgQ))
        have HX7 := Lib.hid (HX6.out.set0 u)
        clear hc hg
        have y0 := HX7.out.c0
        have y1 := HX7.out.c1
        have y2 := HX7.out.c2
        generalize hW : w5.setCell ⟨Q, 0, none⟩ (.int .i64 u) = w6 at *
        have hrw := HR7.out.2.2.1
        rw [HN.out] at hrw
        obtain ⟨⟨t0, z0⟩, g0⟩ := ownLd_cell hrw (i := k * 3) (by omega)
        obtain ⟨⟨t1, z1⟩, g1⟩ := ownLd_cell hrw (i := k * 3 + 1) (by omega)
        obtain ⟨⟨t2, z2⟩, g2⟩ := ownLd_cell hrw (i := k * 3 + 2) (by omega)
        clear hrw
        go_wp2_with fail
        go_ret
        exact KE.out _ _ _ _ _ _ _ _ _ HR7.out (by rw [HN.out]; exact hk) (by rw [HN.out]; omega) (by omega)
      by_cases h1 : y = 1
      · subst h1
        have HL1 := Lib.hid (listI_new w4 (.cells #[.int .i64 (-201), .int .i64 201] 3) [-201, 201] (fun _ => True) rfl (fun _ _ => trivial))
        have HR5 := Lib.hid (HR4.out.alloc (.cells #[.int .i64 (-201), .int .i64 201] 3))
        have HX5 := Lib.hid (HX4.out.alloc (.cells #[.int .i64 (-201), .int .i64 201] 3))
        have HN1 := Lib.hid (show w4.heap.size ≠ b by have := HBW.out; have := HR4.out.2.1.size; omega)
        go_wp2_with fail
        refine (among_any b (N + 4 + 12 * n + 4 + 4) w4.heap.size 2 2 (fun _ => True) v (by omega) (by decide) (by decide) _ HR5.out.1 HN1.out HL1.out).mono ?_
        rintro e w5 ⟨u, rfl, -, hc, hg⟩
        have HR6 := Lib.hid (HR5.out.drawn hc hg)
        have HX6 := Lib.hid (HX5.out.grown hg (by simp; exact hQb))
        have x1 := HX6.out.c1
        have f1 := HX6.out.fr 1
        have HR7 := Lib.hid (HR6.out.setq (q := Q) 1 (.int .i64 u) hQw (by simp [Value.ownBlock]; exact hgQ))
        have HX7 := Lib.hid (HX6.out.set1 u)
        clear hc hg
        have y0 := HX7.out.c0
        have y1 := HX7.out.c1
        have y2 := HX7.out.c2
        generalize hW : w5.setCell ⟨Q, 1, none⟩ (.int .i64 u) = w6 at *
        have hrw := HR7.out.2.2.1
        rw [HN.out] at hrw
        obtain ⟨⟨t0, z0⟩, g0⟩ := ownLd_cell hrw (i := k * 3) (by omega)
        obtain ⟨⟨t1, z1⟩, g1⟩ := ownLd_cell hrw (i := k * 3 + 1) (by omega)
        obtain ⟨⟨t2, z2⟩, g2⟩ := ownLd_cell hrw (i := k * 3 + 2) (by omega)
        clear hrw
        go_wp2_with fail
        go_ret
        exact KE.out _ _ _ _ _ _ _ _ _ HR7.out (by rw [HN.out]; exact hk) (by rw [HN.out]; omega) (by omega)
      by_cases h2 : y = 2
      · subst h2
        have HL1 := Lib.hid (listI_new w4 (.cells #[.int .i64 (-1), .int .i64 401] 3) [-1, 401] (fun _ => True) rfl (fun _ _ => trivial))
        have HR5 := Lib.hid (HR4.out.alloc (.cells #[.int .i64 (-1), .int .i64 401] 3))
        have HX5 := Lib.hid (HX4.out.alloc (.cells #[.int .i64 (-1), .int .i64 401] 3))
        have HN1 := Lib.hid (show w4.heap.size ≠ b by have := HBW.out; have := HR4.out.2.1.size; omega)
        go_wp2_with fail
        refine (among_any b (N + 4 + 12 * n + 4 + 4) w4.heap.size 2 2 (fun _ => True) v (by omega) (by decide) (by decide) _ HR5.out.1 HN1.out HL1.out).mono ?_
        rintro e w5 ⟨u, rfl, -, hc, hg⟩
        have HR6 := Lib.hid (HR5.out.drawn hc hg)
        have HX6 := Lib.hid (HX5.out.grown hg (by simp; exact hQb))
        have x2 := HX6.out.c2
        have f2 := HX6.out.fr 2
        have HR7 := Lib.hid (HR6.out.setq (q := Q) 2 (.int .i64 u) hQw (by simp [Value.ownBlock]; exact hgQ))
        have HX7 := Lib.hid (HX6.out.set2 u)
        clear hc hg
        have y0 := HX7.out.c0
        have y1 := HX7.out.c1
        have y2 := HX7.out.c2
        generalize hW : w5.setCell ⟨Q, 2, none⟩ (.int .i64 u) = w6 at *
        have hrw := HR7.out.2.2.1
        rw [HN.out] at hrw
        obtain ⟨⟨t0, z0⟩, g0⟩ := ownLd_cell hrw (i := k * 3) (by omega)
        obtain ⟨⟨t1, z1⟩, g1⟩ := ownLd_cell hrw (i := k * 3 + 1) (by omega)
        obtain ⟨⟨t2, z2⟩, g2⟩ := ownLd_cell hrw (i := k * 3 + 2) (by omega)
        clear hrw
        go_wp2_with fail
        go_ret
        exact KE.out _ _ _ _ _ _ _ _ _ HR7.out (by rw [HN.out]; exact hk) (by rw [HN.out]; omega) (by omega)
      by_cases h3 : y = 3
      · subst h3
        have R9 := Lib.hid (show LdS w b v w4 (N + 4 + 12 * n + 4 + 4 + 4 * 0) (.slice (some ⟨g, 0, none⟩) n c0) T from HR4.out)
        go_wp2_with fail
        go_loopw [3] (fun s wr => ∃ (j m' cap2 g2 : Nat) (T' : List (Int × Int × Int)), s = .slice (some ⟨g2, 0, none⟩) m' cap2 ∧ Hid (m' = n + j) ∧ n ≤ m' ∧ j ≤ 21 ∧ m' ≤ 21 ∧ g2 ≠ Q ∧ Hid (T'.length = m') ∧ Hid (LdS w b v wr (N + 4 + 12 * n + 4 + 4 + 4 * j) s T') ∧ Hid (LdX wr Q p q r)) (fun s _ => 22 - lenV s)
        case atStart => exact ⟨0, n, c0, g, T, rfl, Lib.hid rfl, Nat.le_refl _, by omega, by omega, hgQ, HN, R9, HX4⟩
        case round =>
          obtain ⟨j, m', cap2, g2, T', rfl, hm, hnm, hj21, hm2, hgq, HT, HS, HB⟩ := hrel
          go_wp2_with fail
          refine (pick_any b (N + 4 + 12 * n + 4 + 4 + 4 * j) 2 v (by omega) (by decide) (by decide) _ HS.out.1).mono ?_
          rintro e w5 ⟨d, rfl, hd, hc, hg⟩
          have HS2 := Lib.hid (HS.out.drawn hc hg)
          have HB2 := Lib.hid (HB.out.grown hg (by simp; exact hQb))
          clear hc hg
          by_cases hlt : m' < 20 + d
          · have hlti : (m' : Int) < 20 + (d : Int) := by omega
            have hrow := HS2.out.2.2.1
            rw [HT.out] at hrow
            have hz := HS2.out.2.1.size
            have hQl := HB2.out.lt
            go_wp2_with (at_builtin; refine wpList_append_own_at _ rfl _ _ 24 rfl w.heap.size 50 fI (.agg #[.int .i64 0, .int .i64 0, .int .i64 0]) 3 24 Try.underlying24 hI1 hI2 hI3 hI4 rfl (by decide) _ _ _ rfl (hrow.alloc _) ⟨w5.heap.size, 0, none⟩ 1 1 [.int .i64 10, .int .i64 (m' : Int), .int .i64 0] rfl rfl (three_newLd _ _ _ _ _) (by simp [Value.oneCell']) (by unfold maxLen; omega) (by omega) (by simp; omega) ?_; intro v' w6 hown' hgrow hnil hat)
            have hS3 : LdS w b v w6 (N + 4 + 12 * n + 4 + 4 + 4 * j + 4) v' (T' ++ [(10, (m' : Int), 0)]) := HS2.out.push (by rw [HT.out]; exact hown') hgrow
            have hg9 : (w5.alloc _).grownBy w6 (some g2) := hgrow
            have hB3 := (HB2.out.alloc _).grown hg9 (fun e => by injection e with e; exact hgq e.symm)
            obtain ⟨g3, c3, rfl⟩ : ∃ g3 c3, v' = .slice (some ⟨g3, 0, none⟩) (m' + 1) c3 := by
              rcases hown'.2 with ⟨_, hz⟩ | ⟨g, cap, cur, hv, _⟩
              · omega
              · exact ⟨g, cap, hv⟩
            have hgq3 : g3 ≠ Q := by
              rcases hat with h | h
              · have h' : some g3 = some g2 := h
                injection h' with h'
                rw [h']; exact hgq
              · have h' : some g3 = some _ := h
                injection h' with h'
                intro e
                rw [e] at h'
                have h9 : w5.heap.size ≤ Q := by rw [h']; exact (below_one w5 _).size
                omega
            have S3 := Lib.hid hS3
            have B3 := Lib.hid hB3
            clear hown' hgrow hnil hat hrow hS3 hB3 hg9
            exact ⟨⟨j + 1, m' + 1, c3, g3, T' ++ [(10, (m' : Int), 0)], rfl, Lib.hid (by have := hm.out; omega), by omega, by have := hm.out; omega, by omega, hgq3, Lib.hid (by rw [List.length_append, HT.out]; rfl), S3, B3⟩, by simp [lenV]; omega⟩
          · have hlti : ¬ (m' : Int) < 20 + (d : Int) := by omega
            have hkm : k < m' := by omega
            have hkmi : (k : Int) < (m' : Int) := by omega
            have y0 := HB2.out.c0
            have y1 := HB2.out.c1
            have y2 := HB2.out.c2
            have hrw := HS2.out.2.2.1
            rw [HT.out] at hrw
            obtain ⟨⟨t0, z0⟩, f0⟩ := ownLd_cell hrw (i := k * 3) (by omega)
            obtain ⟨⟨t1, z1⟩, f1⟩ := ownLd_cell hrw (i := k * 3 + 1) (by omega)
            obtain ⟨⟨t2, z2⟩, f2⟩ := ownLd_cell hrw (i := k * 3 + 2) (by omega)
            clear hrw
            go_wp2_with fail
            go_ret
            exact KE.out _ _ _ _ _ _ _ _ _ HS2.out (by rw [HT.out]; exact hkm) (by rw [HT.out]; omega) (by omega)
      have h0i : ((y : Int) == 0) = false := by simp; exact h0
      have h1i : ((y : Int) == 1) = false := by simp; omega
      have h2i : ((y : Int) == 2) = false := by simp; omega
      have h3i : ((y : Int) == 3) = false := by simp; omega
      have y0 := HX4.out.c0
      have y1 := HX4.out.c1
      have y2 := HX4.out.c2
      have hrw := HR4.out.2.2.1
      rw [HN.out] at hrw
      obtain ⟨⟨t0, z0⟩, f0⟩ := ownLd_cell hrw (i := k * 3) (by omega)
      obtain ⟨⟨t1, z1⟩, f1⟩ := ownLd_cell hrw (i := k * 3 + 1) (by omega)
      obtain ⟨⟨t2, z2⟩, f2⟩ := ownLd_cell hrw (i := k * 3 + 2) (by omega)
      clear hrw
      go_wp2_with fail
      go_ret
      exact KE.out _ _ _ _ _ _ _ _ _ HR4.out (by rw [HN.out]; exact hk) (by rw [HN.out]; omega) (by omega)
end Go.Proofs.Ytndafdjllbhbfaa.D
