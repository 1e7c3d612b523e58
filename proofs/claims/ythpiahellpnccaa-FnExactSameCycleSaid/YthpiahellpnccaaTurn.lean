/-
  What spec.l3Turn returns. No statement of the seat by itself.
-/
import Derived.Test.YthpiahellpnccaaAhead
import Derived.Deep.RegionLaw
import Derived.Deep.RegionHeld3
import Derived.Handy
namespace Go.Proofs.Ythpiahellpnccaa
open Go.RowKit

/-- k ints of f from place a on. -/
def segL (f : Nat → Int) (a k : Nat) : List Int := (List.range k).map fun j => f (a + j)
theorem segL_len (f : Nat → Int) (a k : Nat) : (segL f a k).length = k := by simp [segL]
/-- The ints of a list of n, from place i on and then from the head. -/
def turnL (f : Nat → Int) (n i : Nat) : List Int := segL f i (n - i) ++ segL f 0 i
theorem turnL_len (f : Nat → Int) (n i : Nat) (h : i ≤ n) : (turnL f n i).length = n := by simp [turnL, segL_len]; omega
theorem turnL_at (f : Nat → Int) (n i j : Nat) (hi : i < n) (hj : j < n) : (turnL f n i)[j]? = some (f ((i + j) % n)) := by
  unfold turnL
  by_cases h : j < n - i
  · rw [List.getElem?_append_left (by rw [segL_len]; exact h)]
    rw [Nat.mod_eq_of_lt (by omega)]
    simp [segL, h]
  · rw [List.getElem?_append_right (by rw [segL_len]; omega), segL_len]
    have e : (i + j) % n = j - (n - i) := by
      rw [Nat.mod_eq_sub_mod (by omega), Nat.mod_eq_of_lt (by omega)]; omega
    rw [e]
    have : j - (n - i) < i := by omega
    simp [segL, this]
theorem seg_one (f : Nat → Int) (a k : Nat) : ∀ u ∈ intV (segL f a k), u.oneCell' = true := fun u hu => by
  obtain ⟨x, _, rfl⟩ := List.mem_map.1 hu
  rfl
theorem intV_len (l : List Int) : (intV l).length = l.length := by simp [intV]
theorem addr_add (b o j : Nat) : (⟨b, o, none⟩ : Addr).add j = ⟨b, o + j, none⟩ := by
  unfold Addr.add
  by_cases h : j = 0 <;> simp [h]
/-- The cells from which a part of a list is read. -/
theorem seg_src {W0 W : World} {g o n a k : Nat} {f : Nat → Int} (h : IAt W0 g o n f) (hb : Below W0.heap.size W0 W) (hk : a + k ≤ n) :
    ∀ j u, (intV (segL f a k))[j]? = some u → W.cell? ((⟨g, o + a, none⟩ : Addr).add j) = some u := fun j u hu => by
  have hj : j < k := by
    have := (List.getElem?_eq_some_iff.1 hu).1
    simpa [intV, segL] using this
  rw [addr_add, Nat.add_assoc, hb.cell (p := ⟨g, o + (a + j), none⟩) h.1, h.2 (a + j) (by omega)]
  have e : (intV (segL f a k))[j]? = some (.int .i64 (f (a + j))) := by simp [intV, segL, hj]
  rw [← hu, e]

/-- append onto an empty list literal: a block of its own. -/
theorem step_first {ops : Array Oper} {o : Oper} {a : Act} {w : World} {K : Act → World → Prop} {Q : Exit → Act → World → Prop} {E : Prop} (hgd : o.guard = none) (s x : Operand)
    (ho : o.op = .call { callee := .builtin .append, args := #[s, x], argTypes := #[24, 24] }) (b : Nat) (hs : a.eval s = .slice (some ⟨b, 0, none⟩) 0 0)
    (ad : Addr) (m c : Nat) (news : List Value) (hx : a.eval x = .slice (some ad) m c) (hl : news.length = m) (hnews : ∀ j u, news[j]? = some u → w.cell? (ad.add j) = some u) (h0 : 0 < m) (hm : m ≤ 1000)
    (h : ∀ v' w', w'.ownsRow w.heap.size 3 1 v' m news → Below w.heap.size w w' → K (a.put o.dst v') w') :
    if Region.wanted o (yielded ops a.tmps) = true then Oper.wp Try.prog o a w K Q else E := by
  have hw : Region.wanted o (yielded ops a.tmps) = true := by simp [Region.wanted, hgd]
  obtain ⟨i0, hi, hz0, hz1, hz2⟩ := info_is info3
  rw [if_pos hw]
  have hr := run_append_grow (P := Try.prog) w 24 o.type 3 i0 (.int .i64 0) Try.underlying24 hi hz0 ⟨b, 0, none⟩ 0 0 [] (by simp) (fun j v hv => by simp at hv) ad m c news (by rw [hz1]; omega) hnews (by omega) (by omega) (growslice_fits (by omega) (by rw [hz2]; omega))
  simp only [Nat.zero_add, Array.empty_append] at hr
  have hge := grownCap_ge w m 0 3
  have hcm : grownCap w m 0 3 ≤ maxLen := grownCap_le_maxLen w m 0 3 (by unfold maxLen; omega)
  have hown : (w.drew.alloc (.cells (news.toArray ++ Builtin.zeroCells (Value.int .i64 0).cells (grownCap w m 0 3 - m)) 3)).ownsRow w.heap.size 3 1 (.slice (some ⟨w.heap.size, 0, none⟩) m (grownCap w m 0 3)) m news := by
    refine ⟨by omega, .inr ⟨w.heap.size, _, _, rfl, Nat.le_refl _, heap_alloc_new w.drew _, hge, hcm, ?_, ?_⟩⟩
    · simp only [Array.size_append, List.size_toArray, size_zeroCells]
      simp [Value.cells]; omega
    · simp only [Array.toList_append]
      rw [show m * 1 = news.length by omega]
      exact List.take_left
  have hb : Below w.heap.size w (w.drew.alloc (.cells (news.toArray ++ Builtin.zeroCells (Value.int .i64 0).cells (grownCap w m 0 3 - m)) 3)) := (below_drewN (Below.refl _ w) 1).alloc (Nat.le_refl _) _
  unfold Oper.wp execOp
  simp only [ho, resolve, invoke, builtin, Sem.run_bind, Sem.run_pure, Result.andThen_ok, List.map_toArray, List.map_cons, List.map_nil, hs, hx, hr]
  exact h _ _ hown hb
/-- append of ints onto a row of the call's own, inside a region that draws its order. -/
theorem step_int {ops : Array Oper} {o : Oper} {a : Act} {w : World} {K : Act → World → Prop} {Q : Exit → Act → World → Prop} {E : Prop} (hgd : o.guard = none) (s x : Operand)
    (ho : o.op = .call { callee := .builtin .append, args := #[s, x], argTypes := #[24, 24] }) (base : Nat) (v : Value) (n : Nat) (xs : List Value) (hs : a.eval s = v) (hown : w.ownsRow base 3 1 v n xs)
    (ad : Addr) (m c : Nat) (news : List Value) (hx : a.eval x = .slice (some ad) m c) (hl : news.length = m) (hnews : ∀ j u, news[j]? = some u → w.cell? (ad.add j) = some u) (h1 : ∀ u ∈ news, u.oneCell' = true)
    (hb : n + m ≤ 1000) (hbase : base ≤ w.heap.size)
    (h : ∀ v' w', w'.ownsRow base 3 1 v' (n + m) (xs ++ news) → w.grownBy w' v.ownBlock → K (a.put o.dst v') w') :
    if Region.wanted o (yielded ops a.tmps) = true then Oper.wp Try.prog o a w K Q else E := by
  have hw : Region.wanted o (yielded ops a.tmps) = true := by simp [Region.wanted, hgd]
  obtain ⟨i0, hi, hz0, hz1, hz2⟩ := info_is info3
  rw [if_pos hw]
  exact wp_append_own w s x 24 ho base 3 i0 (.int .i64 0) 1 8 Try.underlying24 hi hz0 hz1 hz2 rfl (by decide) v n xs hs hown ad m c news hx (by omega) hnews h1 (by unfold maxLen; omega) (by omega) hbase (fun v' w' ho hg _ => h v' w' ho hg)

/-- A rotation of lists of the call's own was answered, and nothing older turned. -/
def TurnP (w : World) (l1 l2 : List Int) (e : Ending) (w' : World) : Prop := ∃ u1 u2, e = .returned (.agg #[u1, u2]) ∧ w'.ownsRow w.heap.size 3 1 u1 l1.length (intV l1) ∧ w'.ownsRow w.heap.size 3 1 u2 l2.length (intV l2) ∧ (∀ j, u1.ownBlock = some j → u2.ownBlock ≠ some j) ∧ Below w.heap.size w w'

/-- A world in which all that lay in W0 lies unturned, and the box of the call's rotation reads as it did. -/
def Hold (W0 : World) (A : Nat) (v1 v2 : Value) (W : World) : Prop := Below W0.heap.size W0 W ∧ A < W0.heap.size ∧ W0.cell? ⟨A, 0, none⟩ = some v1 ∧ W0.cell? ⟨A, 1, none⟩ = some v2
theorem Hold.s {W0 W : World} {A : Nat} {v1 v2 : Value} (h : Hold W0 A v1 v2 W) : (W.cell? ⟨A, 0, none⟩ = some v1 ∧ W.cell? ⟨A, 1, none⟩ = some v2) ∧ Hold W0 A v1 v2 W :=
  ⟨⟨(h.1.cell (p := ⟨A, 0, none⟩) h.2.1).trans h.2.2.1, (h.1.cell (p := ⟨A, 1, none⟩) h.2.1).trans h.2.2.2⟩, h⟩
theorem Hold.alloc {W0 W : World} {A : Nat} {v1 v2 : Value} (h : Hold W0 A v1 v2 W) (o : Obj) : Hold W0 A v1 v2 (W.alloc o) := ⟨h.1.alloc h.1.size _, h.2⟩
theorem Hold.drew {W0 W : World} {A : Nat} {v1 v2 : Value} (h : Hold W0 A v1 v2 W) : Hold W0 A v1 v2 W.drew := ⟨⟨h.1.os, h.1.tape, h.1.output, h.1.size, h.1.block⟩, h.2⟩
theorem Hold.to {W0 W W' : World} {A : Nat} {v1 v2 : Value} (h : Hold W0 A v1 v2 W) (hb : Below W.heap.size W W') : Hold W0 A v1 v2 W' := ⟨h.1.trans (hb.mono h.1.size), h.2⟩
theorem Hold.grown {W0 W W' : World} {A base : Nat} {v1 v2 v : Value} {k : Nat} {xs : List Value} (h : Hold W0 A v1 v2 W) (hr : W.ownsRow base 3 1 v k xs) (hg : W.grownBy W' v.ownBlock) (hb : W0.heap.size ≤ base) : Hold W0 A v1 v2 W' :=
  ⟨h.1.grown hg h.1.size (fun j e => Nat.le_trans hb (row_base hr j e)), h.2⟩

theorem Hold.set {w W1 W : World} {A : Nat} {v1 v2 : Value} (h : Hold W1 A v1 v2 W) (hs : W1.heap.size = w.heap.size + 1) (i : Nat) (u : Value) : Hold W1 A v1 v2 (W.setCell ⟨w.heap.size + 1, i, none⟩ u) :=
  ⟨h.1.setCell (p := ⟨w.heap.size + 1, i, none⟩) (by show W1.heap.size ≤ w.heap.size + 1; omega) u, h.2⟩
theorem own_form {W : World} {b k : Nat} {v : Value} {xs : List Value} (h : W.ownsRow b 3 1 v k xs) : ∃ a c, v = .slice a k c := by
  rcases h.2 with ⟨rfl, rfl⟩ | ⟨g, cap, cur, rfl, _⟩
  · exact ⟨_, _, rfl⟩
  · exact ⟨_, _, rfl⟩
theorem below_step {W0 X W : World} (h : Below W0.heap.size W0 X) (hb : Below X.heap.size X W) : Below W0.heap.size W0 W := h.trans (hb.mono h.size)
theorem first_row {W0 X W : World} {v : Value} {k : Nat} {xs : List Value} (h : Below W0.heap.size W0 X) (ho : W.ownsRow X.heap.size 3 1 v k xs) : W.ownsRow W0.heap.size 3 1 v k xs := ho.mono h.size
theorem grown_step {W0 X W : World} {v : Value} {k : Nat} {xs : List Value} (h : Below W0.heap.size W0 X) (hr : X.ownsRow W0.heap.size 3 1 v k xs) (hg : X.grownBy W v.ownBlock) : Below W0.heap.size W0 W := h.grown hg h.size (row_base hr)
theorem sep_step {X W : World} {u1 u2 : Value} {B k m : Nat} {xs news : List Value} (ho : W.ownsRow X.heap.size 3 1 u2 m news) (h1 : X.ownsRow B 3 1 u1 k xs) (hb : Below X.heap.size X W) (hB : B ≤ X.heap.size) :
    ∃ b, W.ownsRow b 3 1 u2 m news ∧ W.ownsRow B 3 1 u1 k xs ∧ (∀ j, u1.ownBlock = some j → j < b) ∧ B ≤ b ∧ b ≤ W.heap.size :=
  ⟨X.heap.size, ho, row_below h1 hb, row_lt h1, hB, hb.size⟩
theorem sep_ne {W : World} {u1 u2 : Value} {b m k : Nat} {xs news : List Value} {B : Nat} (h1 : W.ownsRow B 3 1 u1 k xs) (h0 : 0 < k) (ho : W.ownsRow b 3 1 u2 m news) (hlt : ∀ j, u1.ownBlock = some j → j < b) : u1.ownBlock ≠ u2.ownBlock := by
  intro e
  rcases h1.2 with ⟨_, hz⟩ | ⟨g, cap, cur, rfl, _⟩
  · omega
  · have h2 := hlt g rfl
    have h3 := row_base ho g e.symm
    omega
theorem turn_done {w w1 W0 w21 : World} {u1 u2 : Value} {b k m : Nat} {xs ys : List Value} (hB1 : Below w.heap.size w w1) (hB2 : Below w1.heap.size w1 W0) (_hs1 : w1.heap.size = w.heap.size + 1) (hs2 : W0.heap.size = w.heap.size + 2)
    (r1 : w21.ownsRow W0.heap.size 3 1 u1 k xs) (r2 : w21.ownsRow b 3 1 u2 m ys) (hb : W0.heap.size ≤ b) (hne : u1.ownBlock ≠ u2.ownBlock) (hB : Below W0.heap.size W0 w21) (a1 a2 : Value) :
    let W := (w21.setCell ⟨w.heap.size + 1, 0, none⟩ a1).setCell ⟨w.heap.size + 1, 1, none⟩ a2
    W.ownsRow w.heap.size 3 1 u1 k xs ∧ W.ownsRow w.heap.size 3 1 u2 m ys ∧ (∀ j, u1.ownBlock = some j → u2.ownBlock ≠ some j) ∧ Below w.heap.size w W := by
  have g0 : w21.grownBy w21 (some (w.heap.size + 1)) := ⟨rfl, rfl, rfl, Nat.le_refl _, fun _ _ _ => rfl⟩
  have g := Lib.grownBy_setB (Lib.grownBy_setB g0 0 a1) 1 a2
  have n1 : u1.ownBlock ≠ some (w.heap.size + 1) := fun e => by have := row_base r1 _ e; omega
  have n2 : u2.ownBlock ≠ some (w.heap.size + 1) := fun e => by have := row_base r2 _ e; omega
  refine ⟨(r1.kept g (.inr n1)).mono (by omega), (r2.kept g (.inr n2)).mono (by omega), fun j e e2 => hne (e.trans e2.symm), ?_⟩
  have hB3 : Below w.heap.size w w21 := (hB1.trans (hB2.mono hB1.size)).trans (hB.mono (by omega))
  exact (hB3.setCell (p := ⟨w.heap.size + 1, 0, none⟩) (by show w.heap.size ≤ w.heap.size + 1; omega) _).setCell (p := ⟨w.heap.size + 1, 1, none⟩) (by show w.heap.size ≤ w.heap.size + 1; omega) _
theorem res_cells {W0 W : World} {R : Nat} (h : W0.heap[R]? = some (.cells #[.slice none 0 0, .slice none 0 0] 26 (0, 0))) (hb : Below W0.heap.size W0 W) : W.cell? ⟨R, 0, none⟩ = some (.slice none 0 0) ∧ W.cell? ⟨R, 1, none⟩ = some (.slice none 0 0) ∧ ∀ i, W.frozen? ⟨R, i, none⟩ = false := by
  have hR := (hb.block R (Array.getElem?_eq_some_iff.1 h).1).trans h
  exact ⟨cell_of hR rfl, cell_of hR rfl, fun i => free_of hR⟩

set_option maxRecDepth 100000 in
set_option maxHeartbeats 4000000 in
theorem l3Turn_rows (g1 o1 c1 g2 o2 c2 n : Nat) (p d : Nat → Int) (i : Nat) (hi : i < n) (h12 : n ≤ 12) (hc1 : n ≤ c1) (hc2 : n ≤ c2) (w : World) (h1 : IAt w g1 o1 n p) (h2 : IAt w g2 o2 n d) :
    Calls Try.prog 57 #[.agg #[.slice (some ⟨g1, o1, none⟩) n c1, .slice (some ⟨g2, o2, none⟩) n c2], .int .i64 (i : Int)] w (TurnP w (turnL p n i) (turnL d n i)) := by
  have H1 := Lib.hid h1
  have H2 := Lib.hid h2
  clear h1 h2
  have k1 : (i : Int) ≤ (n : Int) := by omega
  have k2 : (i : Int) ≤ (c1 : Int) := by omega
  have k3 : (i : Int) ≤ (c2 : Int) := by omega
  have k4 : (n : Int) ≤ (c1 : Int) := by omega
  have k5 : (n : Int) ≤ (c2 : Int) := by omega
  have k6 : ¬ c1 = i := by omega
  have k7 : ¬ c2 = i := by omega
  go_enter Try.func57, Try.ntmps57
  go_wp2_with fail
  have B1 : Hid (Below w.heap.size w (w.alloc (.cells #[.slice (some ⟨g1, o1, none⟩) n c1, .slice (some ⟨g2, o2, none⟩) n c2] 26))) := Lib.hid (below_one w _)
  have hB1 := B1.out
  have r0 : (w.alloc (.cells #[.slice (some ⟨g1, o1, none⟩) n c1, .slice (some ⟨g2, o2, none⟩) n c2] 26)).cell? ⟨w.heap.size, 0, none⟩ = some (.slice (some ⟨g1, o1, none⟩) n c1) := by simp
  have r1 : (w.alloc (.cells #[.slice (some ⟨g1, o1, none⟩) n c1, .slice (some ⟨g2, o2, none⟩) n c2] 26)).cell? ⟨w.heap.size, 1, none⟩ = some (.slice (some ⟨g2, o2, none⟩) n c2) := by simp
  have hs1 : (w.alloc (.cells #[.slice (some ⟨g1, o1, none⟩) n c1, .slice (some ⟨g2, o2, none⟩) n c2] 26)).heap.size = w.heap.size + 1 := by simp
  generalize w.alloc (.cells #[.slice (some ⟨g1, o1, none⟩) n c1, .slice (some ⟨g2, o2, none⟩) n c2] 26) = w1 at *
  have hb2 := below_one w1 (.cells #[.slice none 0 0, .slice none 0 0] 26)
  have q2 := heap_alloc_new w1 (.cells #[.slice none 0 0, .slice none 0 0] 26)
  have hs2 : (w1.alloc (.cells #[.slice none 0 0, .slice none 0 0] 26)).heap.size = w.heap.size + 2 := by simp [hs1]
  have H0 : Hid (Hold w1 w.heap.size (.slice (some ⟨g1, o1, none⟩) n c1) (.slice (some ⟨g2, o2, none⟩) n c2) (w1.alloc (.cells #[.slice none 0 0, .slice none 0 0] 26))) := Lib.hid ⟨hb2, by omega, r0, r1⟩
  have I1 := Lib.hid ((H1.out.below hB1).below hb2)
  have I2 := Lib.hid ((H2.out.below hB1).below hb2)
  rw [hs1] at q2
  have Q2 := Lib.hid q2
  have HS1 := Lib.hid hs1
  have HS2 := Lib.hid hs2
  clear r0 r1 hb2 hs1 hs2 q2 hB1
  generalize w1.alloc (.cells #[.slice none 0 0, .slice none 0 0] 26) = W0 at *
  have K0 := H0.out.drew
  have HNN : Hid (n - i + i = n) := Lib.hid (by omega)
  have LP : Hid ((intV (segL p i (n - i))).length = n - i) := Lib.hid (by rw [intV_len, segL_len])
  have LQ : Hid ((intV (segL p 0 i)).length = i) := Lib.hid (by rw [intV_len, segL_len])
  have LD : Hid ((intV (segL d i (n - i))).length = n - i) := Lib.hid (by rw [intV_len, segL_len])
  have LE : Hid ((intV (segL d 0 i)).length = i) := Lib.hid (by rw [intV_len, segL_len])
  have SP : Hid (∀ W, Below W0.heap.size W0 W → ∀ j u, (intV (segL p i (n - i)))[j]? = some u → W.cell? ((⟨g1, o1 + i, none⟩ : Addr).add j) = some u) := Lib.hid fun W hb => seg_src I1.out hb (by omega)
  have SQ : Hid (∀ W, Below W0.heap.size W0 W → ∀ j u, (intV (segL p 0 i))[j]? = some u → W.cell? ((⟨g1, o1, none⟩ : Addr).add j) = some u) := Lib.hid fun W hb => seg_src (a := 0) I1.out hb (by omega)
  have SD : Hid (∀ W, Below W0.heap.size W0 W → ∀ j u, (intV (segL d i (n - i)))[j]? = some u → W.cell? ((⟨g2, o2 + i, none⟩ : Addr).add j) = some u) := Lib.hid fun W hb => seg_src I2.out hb (by omega)
  have SE : Hid (∀ W, Below W0.heap.size W0 W → ∀ j u, (intV (segL d 0 i))[j]? = some u → W.cell? ((⟨g2, o2, none⟩ : Addr).add j) = some u) := Lib.hid fun W hb => seg_src (a := 0) I2.out hb (by omega)
  have O1 := Lib.hid (seg_one p i (n - i))
  have O2 := Lib.hid (seg_one p 0 i)
  have O3 := Lib.hid (seg_one d i (n - i))
  have O4 := Lib.hid (seg_one d 0 i)
  have HX1 : Hid (intV (segL p i (n - i)) ++ intV (segL p 0 i) = intV (turnL p n i)) := Lib.hid (by simp [intV, turnL])
  have HX2 : Hid (intV (segL d i (n - i)) ++ intV (segL d 0 i) = intV (turnL d n i)) := Lib.hid (by simp [intV, turnL])
  generalize intV (segL p i (n - i)) = XP at *
  generalize intV (segL p 0 i) = XQ at *
  generalize intV (segL d i (n - i)) = XD at *
  generalize intV (segL d 0 i) = XE at *
  go_region_held3 (fun W => (W.cell? ⟨w.heap.size, 0, none⟩ = some (.slice (some ⟨g1, o1, none⟩) n c1) ∧ W.cell? ⟨w.heap.size, 1, none⟩ = some (.slice (some ⟨g2, o2, none⟩) n c2)) ∧ Hold w1 w.heap.size (.slice (some ⟨g1, o1, none⟩) n c1) (.slice (some ⟨g2, o2, none⟩) n c2) W) (first | exact Hold.s (by assumption) | exact Hold.s (Hold.set (Hold.set (by assumption) HS1.out _ _) HS1.out _ _) | exact Hold.s (Hold.to H0.out (by (go_grown; done)))) (first | (refine step_first (by rfl) _ _ (by rfl) _ (by rfl) ⟨g1, o1 + i, none⟩ (n - i) _ XP (by rfl) LP.out (SP.out _ (by go_grown)) (by omega) (by omega) ?_; intro u5 w5 ho5 hb5; have BW5 := below_step (W0 := W0) (by go_grown) hb5; have hH5 := Hold.to H0.out BW5; have hz5 := BW5.size; have ro5 := first_row (W0 := W0) (by go_grown) ho5; clear ho5 hb5) | (refine step_int (by rfl) _ _ (by rfl) W0.heap.size u5 (n - i) XP (by rfl) (by first | exact ro5 | exact ro5.alloc _) ⟨g1, o1, none⟩ i _ XQ (by rfl) LQ.out (SQ.out _ (by go_grown)) O2.out (by omega) (show Below W0.heap.size W0 _ from by go_grown).size ?_; intro u10 w10 ho10 hg10; rw [HNN.out] at ho10; have BW10 := grown_step (W0 := W0) (by go_grown) (by first | exact ro5 | exact ro5.alloc _) hg10; have hH10 := Hold.to H0.out BW10; have hz10 := BW10.size; clear hg10; obtain ⟨a10, c10, rfl⟩ := own_form ho10) | (refine step_first (by rfl) _ _ (by rfl) _ (by rfl) ⟨g2, o2 + i, none⟩ (n - i) _ XD (by rfl) LD.out (SD.out _ (by go_grown)) (by omega) (by omega) ?_; intro u16 w16 ho16 hb16; have BW16 := below_step (W0 := W0) (by go_grown) hb16; have hH16 := Hold.to H0.out BW16; have hz16 := BW16.size; obtain ⟨b16, ro16, ru16, hlt16, hBb, hbs⟩ := sep_step ho16 (by first | exact ho10 | exact ho10.alloc _) hb16 (show Below W0.heap.size W0 _ from by go_grown).size; clear ho16 hb16) | (refine step_int (by rfl) _ _ (by rfl) b16 u16 (n - i) XD (by rfl) ro16 ⟨g2, o2, none⟩ i _ XE (by rfl) LE.out (SE.out _ (by go_grown)) O4.out (by omega) hbs ?_; intro u21 w21 ho21 hg21; rw [HNN.out] at ho21; have BW21 := BW16.grown hg21 BW16.size (fun j e => Nat.le_trans hBb (row_base ro16 j e)); have hH21 := Hold.to H0.out BW21; have ru21 := ru16.kept hg21 (.inr (sep_ne ru16 (by omega) ro16 hlt16)); have ne21 := sep_ne ru21 (by omega) ho21 hlt16; obtain ⟨z0, z1, z2⟩ := res_cells Q2.out BW21; clear hg21; obtain ⟨a21, c21, rfl⟩ := own_form ho21) | fail)
  all_goals
    have HF := Lib.hid (turn_done B1.out H0.out.1 HS1.out HS2.out ru21 ho21 hBb ne21 BW21 (.slice a10 n c10) (.slice a21 n c21))
    rw [HX1.out, HX2.out] at HF
    have HL1 := Lib.hid (turnL_len p n i (by omega))
    have HL2 := Lib.hid (turnL_len d n i (by omega))
    have e5 := World.cell?_setCell_same _ _ (.slice a10 n c10) z0
    have z1' : (w21.setCell ⟨w.heap.size + 1, 0, none⟩ (.slice a10 n c10)).cell? ⟨w.heap.size + 1, 1, none⟩ = some (.slice none 0 0) := by rw [World.cell?_setCell_other _ _ _ _ (by simp)]; exact z1
    have e6 := World.cell?_setCell_same _ _ (.slice a21 n c21) z1'
    clear ru21 ho21 ne21 BW21
    go_wp2_with fail
    exact bodyPost_ret (v := .agg #[.slice a10 n c10, .slice a21 n c21]) (by simp [results, Try.results57, go_sem, e5, e6]) rfl ⟨_, _, rfl, by rw [HL1.out]; exact HF.out.1, by rw [HL2.out]; exact HF.out.2.1, HF.out.2.2.1, HF.out.2.2.2⟩
end Go.Proofs.Ythpiahellpnccaa
