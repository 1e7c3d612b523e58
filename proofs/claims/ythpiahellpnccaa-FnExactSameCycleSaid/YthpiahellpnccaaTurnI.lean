/-
  What impl.TurnRotation returns. No statement of the seat by itself.
-/
import Derived.Test.YthpiahellpnccaaConcat
namespace Go.Proofs.Ythpiahellpnccaa
open Go.RowKit

theorem bsA1 (W : World) (x y : Value) (T : TypeId) : (W.alloc (.cells #[x, y] T)).cell? ⟨W.heap.size, 0, none⟩ = some x := cell_of (heap_alloc_new W _) rfl
theorem bsB1 (W : World) (x y : Value) (T : TypeId) : (W.alloc (.cells #[x, y] T)).cell? ⟨W.heap.size, 1, none⟩ = some y := cell_of (heap_alloc_new W _) rfl
theorem bsA2 (W : World) (o : Obj) (x y : Value) (T : TypeId) : ((W.alloc o).alloc (.cells #[x, y] T)).cell? ⟨W.heap.size + 1, 0, none⟩ = some x := cell_of (heap_alloc2_new W o _) rfl
theorem bsB2 (W : World) (o : Obj) (x y : Value) (T : TypeId) : ((W.alloc o).alloc (.cells #[x, y] T)).cell? ⟨W.heap.size + 1, 1, none⟩ = some y := cell_of (heap_alloc2_new W o _) rfl
theorem bsA3 (W : World) (o : Obj) (x y : Value) (T : TypeId) : ((W.alloc (.cells #[x, y] T)).alloc o).cell? ⟨W.heap.size, 0, none⟩ = some x := cell_of (heap_alloc2_old W _ o) rfl
theorem bsB3 (W : World) (o : Obj) (x y : Value) (T : TypeId) : ((W.alloc (.cells #[x, y] T)).alloc o).cell? ⟨W.heap.size, 1, none⟩ = some y := cell_of (heap_alloc2_old W _ o) rfl

set_option maxRecDepth 100000 in
set_option maxHeartbeats 2000000 in
theorem implTurn_no (v : Value) (n m : Nat) (p d : Nat → Int) (i : Int) (hn : n ≤ maxLen) (hm : m ≤ maxLen) (w : World) (h : ArgR w v n m p d) (hi : askB n m p d i = false) :
    Calls Try.prog 38 #[v, .int .i64 i] w (TurnQ w [] [] false) := by
  have HV := Lib.hid h
  obtain ⟨v1, v2, rfl, -, -⟩ := h
  have HR := Lib.hid hi
  have HB := Lib.hid (((Below.refl _ w).alloc (Nat.le_refl _) (.cells #[v1, v2] 26)).alloc (by simp) (.cells #[.slice none 0 0, .slice none 0 0] 26))
  have q2 := heap_alloc_new (w.alloc (.cells #[v1, v2] 26)) (.cells #[.slice none 0 0, .slice none 0 0] 26)
  rw [show (w.alloc (.cells #[v1, v2] 26)).heap.size = w.heap.size + 1 by simp] at q2
  have Q2 := Lib.hid q2
  clear hi q2
  go_enter Try.func38, Try.ntmps38
  go_wp2_with fail
  refine (implAsked_any _ n m p d i hn hm _ (HV.out.below HB.out)).mono ?_
  rw [HR.out]
  rintro e w1 ⟨rfl, hb⟩
  obtain ⟨z0, z1, z2⟩ := res_cells Q2.out hb
  have B1 : Hid (Below w.heap.size w w1) := Lib.hid (HB.out.trans (hb.mono HB.out.size))
  have hz := HB.out.size
  clear hb
  have e5 := World.cell?_setCell_same _ _ (.slice none 0 0) z0
  have z1' : (w1.setCell ⟨w.heap.size + 1, 0, none⟩ (.slice none 0 0)).cell? ⟨w.heap.size + 1, 1, none⟩ = some (.slice none 0 0) := by rw [World.cell?_setCell_other _ _ _ _ (by simp)]; exact z1
  have e6 := World.cell?_setCell_same _ _ (.slice none 0 0) z1'
  go_wp2_with fail
  exact bodyPost_ret (v := .tuple #[.agg #[.slice none 0 0, .slice none 0 0], .bool false]) (by simp [results, Try.results38, go_sem, e5, e6]) rfl ⟨_, _, rfl, World.ownsRow_nil _ _ _ _, World.ownsRow_nil _ _ _ _, (by intro j hj; simp [Value.ownBlock] at hj), (B1.out.setCell (p := ⟨w.heap.size + 1, 0, none⟩) (by show w.heap.size ≤ w.heap.size + 1; omega) _).setCell (p := ⟨w.heap.size + 1, 1, none⟩) (by show w.heap.size ≤ w.heap.size + 1; omega) _⟩

set_option maxRecDepth 100000 in
set_option maxHeartbeats 8000000 in
theorem implTurn_yes (g1 g2 n m : Nat) (p d : Nat → Int) (i : Int) (w : World) (h1 : IAt w g1 0 n p) (h2 : IAt w g2 0 m d) (hi : askB n m p d i = true) :
    Calls Try.prog 38 #[.agg #[.slice (some ⟨g1, 0, none⟩) n n, .slice (some ⟨g2, 0, none⟩) m m], .int .i64 i] w (TurnQ w (turnL p n i.toNat) (turnL d n i.toNat) true) := by
  obtain ⟨hr, i0, i1⟩ := askB_iff.1 hi
  have hG := good_of hr
  have e0 := hG.same
  subst e0
  have h0 := hG.pos
  have h12 := hG.top
  have hmm : m ≤ maxLen := by unfold maxLen; omega
  have HV : Hid (ArgR w (.agg #[.slice (some ⟨g1, 0, none⟩) m m, .slice (some ⟨g2, 0, none⟩) m m]) m m p d) := Lib.hid ⟨_, _, rfl, .inr ⟨_, _, _, rfl, h1⟩, .inr ⟨_, _, _, rfl, h2⟩⟩
  have I1 := Lib.hid h1
  have I2 := Lib.hid h2
  have HR := Lib.hid hi
  have ei : i = ((i.toNat : Nat) : Int) := by omega
  have hit : i.toNat < m := by omega
  have HB := Lib.hid (((Below.refl _ w).alloc (Nat.le_refl _) (.cells #[.slice (some ⟨g1, 0, none⟩) m m, .slice (some ⟨g2, 0, none⟩) m m] 26)).alloc (by simp) (.cells #[.slice none 0 0, .slice none 0 0] 26))
  have q2 := heap_alloc_new (w.alloc (.cells #[.slice (some ⟨g1, 0, none⟩) m m, .slice (some ⟨g2, 0, none⟩) m m] 26)) (.cells #[.slice none 0 0, .slice none 0 0] 26)
  rw [show (w.alloc (.cells #[.slice (some ⟨g1, 0, none⟩) m m, .slice (some ⟨g2, 0, none⟩) m m] 26)).heap.size = w.heap.size + 1 by simp] at q2
  have q1 : ((w.alloc (.cells #[.slice (some ⟨g1, 0, none⟩) m m, .slice (some ⟨g2, 0, none⟩) m m] 26)).alloc (.cells #[.slice none 0 0, .slice none 0 0] 26)).heap[w.heap.size]? = some (.cells #[.slice (some ⟨g1, 0, none⟩) m m, .slice (some ⟨g2, 0, none⟩) m m] 26) := by
    rw [heap_alloc_old _ _ _ (by simp)]; exact heap_alloc_new w _
  have Q1 := Lib.hid q1
  have Q2 := Lib.hid q2
  have HZ : Hid (((w.alloc (.cells #[.slice (some ⟨g1, 0, none⟩) m m, .slice (some ⟨g2, 0, none⟩) m m] 26)).alloc (.cells #[.slice none 0 0, .slice none 0 0] 26)).heap.size = w.heap.size + 2) := Lib.hid (by simp)
  clear hi q1 q2 hr hG h1 h2
  generalize i.toNat = a at *
  subst ei
  go_enter Try.func38, Try.ntmps38
  go_wp2_with fail
  refine (implAsked_any _ m m p d a hmm hmm _ (HV.out.below HB.out)).mono ?_
  rw [HR.out]
  rintro e w1 ⟨rfl, hb⟩
  have j1 := (hb.block _ (by have := HZ.out; omega)).trans Q1.out
  have J2 := Lib.hid ((hb.block _ (by have := HZ.out; omega)).trans Q2.out)
  have c0 : w1.cell? ⟨w.heap.size, 0, none⟩ = some (.slice (some ⟨g1, 0, none⟩) m m) := cell_of j1 rfl
  have c1 : w1.cell? ⟨w.heap.size, 1, none⟩ = some (.slice (some ⟨g2, 0, none⟩) m m) := cell_of j1 rfl
  have B1 : Hid (Below w.heap.size w w1) := Lib.hid (HB.out.trans (hb.mono HB.out.size))
  have Z1 : Hid (w.heap.size + 2 ≤ w1.heap.size) := Lib.hid (by have := hb.size; have := HZ.out; omega)
  obtain ⟨wb, HS1, HH⟩ : ∃ wb, Hid (wb.heap.size = w.heap.size + 1) ∧ Hid (Hold wb w.heap.size (.slice (some ⟨g1, 0, none⟩) m m) (.slice (some ⟨g2, 0, none⟩) m m) w1) := ⟨w.alloc (.cells #[.slice (some ⟨g1, 0, none⟩) m m, .slice (some ⟨g2, 0, none⟩) m m] 26), Lib.hid (by simp), Lib.hid ⟨((Below.refl _ _).alloc (Nat.le_refl _) _).trans (hb.mono (by simp)), by simp, by simp, by simp⟩⟩
  clear hb j1
  clear c0 c1
  have K1 := Lib.hid (I1.out.below B1.out)
  have K2 := Lib.hid (I2.out.below B1.out)
  have HNN : Hid (m - a + a = m) := Lib.hid (by omega)
  have LP : Hid ((intV (segL p a (m - a))).length = m - a) := Lib.hid (by rw [intV_len, segL_len])
  have LQ : Hid ((intV (segL p 0 a)).length = a) := Lib.hid (by rw [intV_len, segL_len])
  have LD : Hid ((intV (segL d a (m - a))).length = m - a) := Lib.hid (by rw [intV_len, segL_len])
  have LE : Hid ((intV (segL d 0 a)).length = a) := Lib.hid (by rw [intV_len, segL_len])
  have SP : Hid (∀ W, Below w1.heap.size w1 W → ∀ j u, (intV (segL p a (m - a)))[j]? = some u → W.cell? ((⟨g1, a, none⟩ : Addr).add j) = some u) := Lib.hid fun W hb => by have h := seg_src (a := a) (k := m - a) K1.out hb (by omega); rw [Nat.zero_add] at h; exact h
  have SQ : Hid (∀ W, Below w1.heap.size w1 W → ∀ j u, (intV (segL p 0 a))[j]? = some u → W.cell? ((⟨g1, 0, none⟩ : Addr).add j) = some u) := Lib.hid fun W hb => seg_src (a := 0) K1.out hb (by omega)
  have SD : Hid (∀ W, Below w1.heap.size w1 W → ∀ j u, (intV (segL d a (m - a)))[j]? = some u → W.cell? ((⟨g2, a, none⟩ : Addr).add j) = some u) := Lib.hid fun W hb => by have h := seg_src (a := a) (k := m - a) K2.out hb (by omega); rw [Nat.zero_add] at h; exact h
  have SE : Hid (∀ W, Below w1.heap.size w1 W → ∀ j u, (intV (segL d 0 a))[j]? = some u → W.cell? ((⟨g2, 0, none⟩ : Addr).add j) = some u) := Lib.hid fun W hb => seg_src (a := 0) K2.out hb (by omega)
  have O1 := Lib.hid (seg_one p a (m - a))
  have O2 := Lib.hid (seg_one p 0 a)
  have O3 := Lib.hid (seg_one d a (m - a))
  have O4 := Lib.hid (seg_one d 0 a)
  have HX1 : Hid (intV (segL p a (m - a)) ++ intV (segL p 0 a) = intV (turnL p m a)) := Lib.hid (by simp [intV, turnL])
  have HX2 : Hid (intV (segL d a (m - a)) ++ intV (segL d 0 a) = intV (turnL d m a)) := Lib.hid (by simp [intV, turnL])
  generalize intV (segL p a (m - a)) = XP at *
  generalize intV (segL p 0 a) = XQ at *
  generalize intV (segL d a (m - a)) = XD at *
  generalize intV (segL d 0 a) = XE at *
  have k1 : (a : Int) ≤ (m : Int) := by omega
  have k6 : ¬ m = a := by omega
  have H0 := HH
  have K0 := H0.out.drew
  have Q2 := J2
  clear J2
  go_wp2_with fail
  go_region_held3 (fun W => (W.cell? ⟨w.heap.size, 0, none⟩ = some (.slice (some ⟨g1, 0, none⟩) m m) ∧ W.cell? ⟨w.heap.size, 1, none⟩ = some (.slice (some ⟨g2, 0, none⟩) m m)) ∧ Hold wb w.heap.size (.slice (some ⟨g1, 0, none⟩) m m) (.slice (some ⟨g2, 0, none⟩) m m) W) (first | exact Hold.s (by assumption) | exact Hold.s (Hold.set (Hold.set (by assumption) HS1.out _ _) HS1.out _ _) | exact Hold.s (Hold.to H0.out (by (go_grown; done)))) (first | (go_at_call 58; refine (concat_two _ g1 a (m - a) _ g1 0 a _ XP XQ LP.out LQ.out (by omega) (by omega) _ (by first | (simp; done) | (simp; omega) | exact Nat.lt_of_lt_of_le (by first | (simp; done) | (simp; omega)) hb20.size) (by first | exact bsA1 _ _ _ _ | exact bsA2 _ _ _ _ _ | exact bsA3 _ _ _ _ _ | exact (hb20.cell (p := ⟨_, 0, none⟩) (by simp; omega)).trans (bsA2 _ _ _ _ _) | exact (hb20.cell (p := ⟨_, 0, none⟩) (by simp)).trans (bsA2 _ _ _ _ _) | exact (hb20.cell (p := ⟨_, 0, none⟩) (by simp; omega)).trans (bsA3 _ _ _ _ _)) (by first | exact bsB1 _ _ _ _ | exact bsB2 _ _ _ _ _ | exact bsB3 _ _ _ _ _ | exact (hb20.cell (p := ⟨_, 1, none⟩) (by simp; omega)).trans (bsB2 _ _ _ _ _) | exact (hb20.cell (p := ⟨_, 1, none⟩) (by simp)).trans (bsB2 _ _ _ _ _) | exact (hb20.cell (p := ⟨_, 1, none⟩) (by simp; omega)).trans (bsB3 _ _ _ _ _)) (fun W hb => SP.out W (below_step (W0 := w1) (by (go_grown; done)) hb)) (fun W hb => SQ.out W (below_step (W0 := w1) (by (go_grown; done)) hb)) O1.out O2.out).mono ?_; rintro e w20 ⟨u20, rfl, ho20, hb20⟩; rw [HNN.out] at ho20; have BW20 := below_step (W0 := w1) (by (go_grown; done)) hb20; have hH20 := Hold.to H0.out BW20; have hz20 := BW20.size; have ro20 := first_row (W0 := w1) (by (go_grown; done)) ho20; clear ho20; obtain ⟨a20, c20, rfl⟩ := own_form ro20) | (go_at_call 58; refine (concat_two _ g2 a (m - a) _ g2 0 a _ XD XE LD.out LE.out (by omega) (by omega) _ (by first | (simp; done) | (simp; omega) | exact Nat.lt_of_lt_of_le (by first | (simp; done) | (simp; omega)) hb20.size) (by first | exact bsA1 _ _ _ _ | exact bsA2 _ _ _ _ _ | exact bsA3 _ _ _ _ _ | exact (hb20.cell (p := ⟨_, 0, none⟩) (by simp; omega)).trans (bsA2 _ _ _ _ _) | exact (hb20.cell (p := ⟨_, 0, none⟩) (by simp)).trans (bsA2 _ _ _ _ _) | exact (hb20.cell (p := ⟨_, 0, none⟩) (by simp; omega)).trans (bsA3 _ _ _ _ _)) (by first | exact bsB1 _ _ _ _ | exact bsB2 _ _ _ _ _ | exact bsB3 _ _ _ _ _ | exact (hb20.cell (p := ⟨_, 1, none⟩) (by simp; omega)).trans (bsB2 _ _ _ _ _) | exact (hb20.cell (p := ⟨_, 1, none⟩) (by simp)).trans (bsB2 _ _ _ _ _) | exact (hb20.cell (p := ⟨_, 1, none⟩) (by simp; omega)).trans (bsB3 _ _ _ _ _)) (fun W hb => SD.out W (below_step (W0 := w1) (by (go_grown; done)) hb)) (fun W hb => SE.out W (below_step (W0 := w1) (by (go_grown; done)) hb)) O3.out O4.out).mono ?_; rintro e w30 ⟨u30, rfl, ho30, hb30⟩; rw [HNN.out] at ho30; have BW30 := below_step (W0 := w1) (by (go_grown; done)) hb30; have hH30 := Hold.to H0.out BW30; have hz30 := BW30.size; obtain ⟨b30, ro30, ru30, hlt30, hBb, hbs⟩ := sep_step ho30 (by first | exact ro20 | exact ro20.alloc _) hb30 (show Below w1.heap.size w1 _ from by (go_grown; done)).size; have ne30 := sep_ne ru30 (by omega) ro30 hlt30; obtain ⟨z0, z1, z2⟩ := res_cells Q2.out BW30; clear ho30; obtain ⟨a30, c30, rfl⟩ := own_form ro30) | fail)
  all_goals
    have HF := Lib.hid (store_done B1.out Z1.out ru30 (ro30.mono hBb) (fun j e e2 => ne30 (e.trans e2.symm)) BW30 (.slice a20 m c20) (.slice a30 m c30))
    rw [HX1.out, HX2.out] at HF
    have HL1 := Lib.hid (turnL_len p m a (by omega))
    have HL2 := Lib.hid (turnL_len d m a (by omega))
    have e5 := World.cell?_setCell_same _ _ (.slice a20 m c20) z0
    have z1' : (w30.setCell ⟨w.heap.size + 1, 0, none⟩ (.slice a20 m c20)).cell? ⟨w.heap.size + 1, 1, none⟩ = some (.slice none 0 0) := by rw [World.cell?_setCell_other _ _ _ _ (by simp)]; exact z1
    have e6 := World.cell?_setCell_same _ _ (.slice a30 m c30) z1'
    clear ru30 ro30 ne30 BW30
    go_wp2_with fail
    exact bodyPost_ret (v := .tuple #[.agg #[.slice a20 m c20, .slice a30 m c30], .bool true]) (by simp [results, Try.results38, go_sem, e5, e6]) rfl ⟨_, _, rfl, by rw [HL1.out]; exact HF.out.1, by rw [HL2.out]; exact HF.out.2.1, HF.out.2.2.1, HF.out.2.2.2⟩

theorem specTurn_any (g1 g2 n m : Nat) (p d : Nat → Int) (i : Int) (hn : n ≤ maxLen) (hm : m ≤ maxLen) (w : World) (h1 : IAt w g1 0 n p) (h2 : IAt w g2 0 m d) :
    Calls Try.prog 37 #[.agg #[.slice (some ⟨g1, 0, none⟩) n n, .slice (some ⟨g2, 0, none⟩) m m], .int .i64 i] w (TurnQ w (turnA n m p d p i) (turnA n m p d d i) (askB n m p d i)) := by
  cases hi : askB n m p d i with
  | false => rw [turnA_no hi, turnA_no hi]; exact specTurn_no _ n m p d i hn hm w ⟨_, _, rfl, .inr ⟨_, _, _, rfl, h1⟩, .inr ⟨_, _, _, rfl, h2⟩⟩ hi
  | true =>
    have e := (good_of (askB_iff.1 hi).1).same
    rw [turnA_yes hi, turnA_yes hi]
    have h := specTurn_yes g1 g2 n m p d i w h1 h2 hi
    subst e; exact h
theorem implTurn_any (g1 g2 n m : Nat) (p d : Nat → Int) (i : Int) (hn : n ≤ maxLen) (hm : m ≤ maxLen) (w : World) (h1 : IAt w g1 0 n p) (h2 : IAt w g2 0 m d) :
    Calls Try.prog 38 #[.agg #[.slice (some ⟨g1, 0, none⟩) n n, .slice (some ⟨g2, 0, none⟩) m m], .int .i64 i] w (TurnQ w (turnA n m p d p i) (turnA n m p d d i) (askB n m p d i)) := by
  cases hi : askB n m p d i with
  | false => rw [turnA_no hi, turnA_no hi]; exact implTurn_no _ n m p d i hn hm w ⟨_, _, rfl, .inr ⟨_, _, _, rfl, h1⟩, .inr ⟨_, _, _, rfl, h2⟩⟩ hi
  | true =>
    have e := (good_of (askB_iff.1 hi).1).same
    rw [turnA_yes hi, turnA_yes hi]
    have h := implTurn_yes g1 g2 n m p d i w h1 h2 hi
    subst e; exact h
end Go.Proofs.Ythpiahellpnccaa
