/-
  Lists of findings in memory, and the laws' own helpers on them: eqYardFindingS, markYardFindingS, heldYardFindingS. No statement of the seat by itself.
-/
import Derived.Test.YtonploneihnekaaKeep
import Derived.Test.YtonploneihnekaaRet
namespace Go.Proofs.Ytonploneihnekaa
open Go.RowKit

/-- A finding: rule, stack, tier. -/
abbrev Fnd := Int × Int × Int
/-- The cells of a list of findings. -/
def flatF : List Fnd → List Value
  | [] => []
  | c :: l => .int .i64 c.1 :: .int .i64 c.2.1 :: .int .i64 c.2.2 :: flatF l
theorem flatF_len : ∀ l : List Fnd, (flatF l).length = l.length * 3
  | [] => rfl
  | c :: l => by
    rw [flatF, List.length_cons, List.length_cons, List.length_cons, flatF_len l, List.length_cons]
    omega
theorem flatF_app : ∀ (l m : List Fnd), flatF (l ++ m) = flatF l ++ flatF m
  | [], m => rfl
  | d :: l, m => by rw [List.cons_append, flatF, flatF, flatF_app l m, List.cons_append, List.cons_append, List.cons_append]
theorem flatF_at : ∀ (l : List Fnd) (j : Nat) (s : Fnd), l[j]? = some s → (flatF l)[j * 3]? = some (.int .i64 s.1) ∧ (flatF l)[j * 3 + 1]? = some (.int .i64 s.2.1) ∧ (flatF l)[j * 3 + 2]? = some (.int .i64 s.2.2)
  | [], j, s, h => by simp at h
  | c :: l, 0, s, h => by
    simp at h
    subst h
    exact ⟨rfl, rfl, rfl⟩
  | c :: l, j + 1, s, h => by
    have ih := flatF_at l j s (by simpa using h)
    rw [flatF, show (j + 1) * 3 = j * 3 + 1 + 1 + 1 by omega]
    simp only [List.getElem?_cons_succ]
    exact ih
theorem flatF_ext {l : List Fnd} {xs : List Value} (hx : xs.length = l.length * 3) (h : ∀ j s, l[j]? = some s → xs[j * 3]? = some (.int .i64 s.1) ∧ xs[j * 3 + 1]? = some (.int .i64 s.2.1) ∧ xs[j * 3 + 2]? = some (.int .i64 s.2.2)) : xs = flatF l := by
  refine List.ext_getElem? fun i => ?_
  rcases Nat.lt_or_ge i (l.length * 3) with hi | hi
  · obtain ⟨s, hs⟩ : ∃ s, l[i / 3]? = some s := get_at rfl (by omega)
    have h1 := h _ _ hs
    have h2 := flatF_at _ _ _ hs
    rcases (show i % 3 = 0 ∨ i % 3 = 1 ∨ i % 3 = 2 by omega) with e | e | e
    · rw [show i = i / 3 * 3 by omega, h1.1, h2.1]
    · rw [show i = i / 3 * 3 + 1 by omega, h1.2.1, h2.2.1]
    · rw [show i = i / 3 * 3 + 2 by omega, h1.2.2, h2.2.2]
  · rw [List.getElem?_eq_none (by omega), List.getElem?_eq_none (by rw [flatF_len]; omega)]
/-- The three cells of a finding. -/
def FCells (w : World) (g o : Nat) (c : Fnd) : Prop := w.cell? ⟨g, o, none⟩ = some (.int .i64 c.1) ∧ w.cell? ⟨g, o + 1, none⟩ = some (.int .i64 c.2.1) ∧ w.cell? ⟨g, o + 2, none⟩ = some (.int .i64 c.2.2)
/-- A slice that reads as a list of findings. -/
def FL (w : World) (v : Value) (S : List Fnd) : Prop := ∃ a c, v = .slice a S.length c ∧ (0 < S.length → ∃ g off, a = some ⟨g, off, none⟩ ∧ g < w.heap.size ∧ ∀ j s, S[j]? = some s → FCells w g (off + j * 3) s)
theorem FL.below {w w' : World} {v : Value} {S : List Fnd} (h : FL w v S) (hb : Below w.heap.size w w') : FL w' v S := by
  obtain ⟨a, c, rfl, h⟩ := h
  refine ⟨a, c, rfl, fun h0 => ?_⟩
  obtain ⟨g, off, rfl, hg, hc⟩ := h h0
  exact ⟨g, off, rfl, Nat.lt_of_lt_of_le hg hb.size, fun j s hs => ⟨(hb.cell (p := ⟨g, _, none⟩) hg).trans (hc j s hs).1, (hb.cell (p := ⟨g, _, none⟩) hg).trans (hc j s hs).2.1, (hb.cell (p := ⟨g, _, none⟩) hg).trans (hc j s hs).2.2⟩⟩
theorem FL.form {w : World} {v : Value} {S : List Fnd} (h : FL w v S) : ∃ a c, v = .slice a S.length c := by
  obtain ⟨a, c, rfl, h⟩ := h
  exact ⟨_, _, rfl⟩
theorem FL.nil (w : World) (a : Option Addr) (c : Nat) : FL w (.slice a 0 c) [] := ⟨a, c, rfl, fun h => by simp at h⟩
theorem fl_of_owns {W : World} {base n : Nat} {v : Value} {S : List Fnd} (h : W.ownsRow base 70 3 v n (flatF S)) : FL W v S := by
  have hn : n = S.length := by have := h.1; rw [flatF_len] at this; omega
  subst hn
  obtain ⟨a, c, rfl⟩ := own_form h
  refine ⟨a, c, rfl, fun h0 => ?_⟩
  rcases h.2 with ⟨_, hz⟩ | ⟨g, cap, cur, hv, hg, hb, _⟩
  · omega
  · injection hv with e1 e2 e3
    subst e1 e3
    refine ⟨g, 0, rfl, (Array.getElem?_eq_some_iff.1 hb).1, fun j s hs => ?_⟩
    have hj := lt_of_get hs
    have hp := flatF_at _ _ _ hs
    rw [Nat.zero_add]
    exact ⟨(h.cellAt (j * 3) (by omega)).trans hp.1, (h.cellAt (j * 3 + 1) (by omega)).trans hp.2.1, (h.cellAt (j * 3 + 2) (by omega)).trans hp.2.2⟩
/-- A list of findings of the call's own, in blocks from B to hi. -/
def FO (w : World) (B hi : Nat) (v : Value) (S : List Fnd) : Prop := hi ≤ w.heap.size ∧ w.ownsRow B 70 3 v S.length (flatF S) ∧ ∀ b, v.ownBlock = some b → b < hi
theorem FO.read {w : World} {B hi : Nat} {v : Value} {S : List Fnd} (h : FO w B hi v S) : FL w v S := fl_of_owns h.2.1
theorem FO.span {w w' : World} {B hi lo' hi' : Nat} {v : Value} {S : List Fnd} (h : FO w B hi v S) (hs : Span lo' hi' w w') (ho : hi ≤ lo' ∨ hi' ≤ B) : FO w' B hi v S :=
  ⟨Nat.le_trans h.1 hs.size, own_span h.2.1 hs fun b hb => by have := h.2.2 b hb; have := row_base h.2.1 b hb; omega, h.2.2⟩
theorem FO.below {w w' : World} {B hi : Nat} {v : Value} {S : List Fnd} (h : FO w B hi v S) (hb : Below w.heap.size w w') : FO w' B hi v S :=
  h.span (Span.of_below (lo := w.heap.size) (hi := w.heap.size) hb) (.inl h.1)
theorem FO.none (w : World) (B hi : Nat) (hh : hi ≤ w.heap.size) : FO w B hi (.slice none 0 0) [] := ⟨hh, ⟨rfl, .inl ⟨rfl, rfl⟩⟩, fun b hb => by cases hb⟩
theorem fo_of_own {w W : World} {B : Nat} {v : Value} {l : List Fnd} (h : W.ownsRow B 70 3 v l.length (flatF l)) (hB : w.heap.size ≤ B) : FO W w.heap.size W.heap.size v l :=
  ⟨Nat.le_refl _, h.mono hB, fun b hb => row_lt h b hb⟩
theorem infoF : (Try.prog.info? 70).map (fun i => (i.zero, i.size, i.bytes)) = some (some (.agg #[.int .i64 0, .int .i64 0, .int .i64 0]), 3, 24) := by kernel_rfl
theorem ownF_cell {w : World} {B g n cap i : Nat} {xs : List Value} (h : w.ownsRow B 70 3 (.slice (some ⟨g, 0, none⟩) n cap) n xs) (hi : i < n * 3) : (∃ x, w.cell? ⟨g, i, none⟩ = some x) ∧ w.frozen? ⟨g, i, none⟩ = false := by
  refine ⟨?_, h.frozenAt i⟩
  have hl := h.1
  rw [h.cellAt i hi]
  exact get_at rfl (by omega)
/-- A list of findings of the call's own and whether it worked. -/
def RetF (w : World) (R : List Fnd) (ok : Bool) (e : Ending) (w' : World) : Prop := ∃ a c, e = .returned (.tuple #[.slice a R.length c, .bool ok]) ∧ FO w' w.heap.size w'.heap.size (.slice a R.length c) R ∧ Below w.heap.size w w'
/-- A list of findings that reads so and whether it worked. -/
def SeenF (w : World) (R : List Fnd) (ok : Bool) (e : Ending) (w' : World) : Prop := ∃ a c, e = .returned (.tuple #[.slice a R.length c, .bool ok]) ∧ FL w' (.slice a R.length c) R ∧ Below w.heap.size w w'
theorem RetF.seen {w : World} {R : List Fnd} {ok : Bool} {e : Ending} {w' : World} (h : RetF w R ok e w') : SeenF w R ok e w' := by
  obtain ⟨a, c, he, ho, hb⟩ := h
  exact ⟨a, c, he, ho.read, hb⟩
/-- A list of findings of the call's own was answered. -/
def NewF (w : World) (R : List Fnd) (e : Ending) (w' : World) : Prop := ∃ a c, e = .returned (.slice a R.length c) ∧ w'.ownsRow w.heap.size 70 3 (.slice a R.length c) R.length (flatF R) ∧ Below w.heap.size w w'

set_option maxRecDepth 100000 in
set_option maxHeartbeats 1000000 in
theorem eqFnd_any (a b c : Int) (w : World) : Calls Try.prog 46 #[.agg #[.int .i64 a, .int .i64 b, .int .i64 c], .agg #[.int .i64 a, .int .i64 b, .int .i64 c]] w fun e w' => e = .returned (.bool true) ∧ Below w.heap.size w w' := by
  have B0 := Lib.hid (((Below.refl _ w).alloc (Nat.le_refl _) (.cells #[.int .i64 a, .int .i64 b, .int .i64 c] 70)).alloc (by simp) (.cells #[.int .i64 a, .int .i64 b, .int .i64 c] 70))
  have c0 : ((w.alloc (.cells #[.int .i64 a, .int .i64 b, .int .i64 c] 70)).alloc (.cells #[.int .i64 a, .int .i64 b, .int .i64 c] 70)).cell? ⟨w.heap.size, 0, none⟩ = some (.int .i64 a) := by simp
  have c1 : ((w.alloc (.cells #[.int .i64 a, .int .i64 b, .int .i64 c] 70)).alloc (.cells #[.int .i64 a, .int .i64 b, .int .i64 c] 70)).cell? ⟨w.heap.size, 1, none⟩ = some (.int .i64 b) := by simp
  have c2 : ((w.alloc (.cells #[.int .i64 a, .int .i64 b, .int .i64 c] 70)).alloc (.cells #[.int .i64 a, .int .i64 b, .int .i64 c] 70)).cell? ⟨w.heap.size, 2, none⟩ = some (.int .i64 c) := by simp
  have d0 : ((w.alloc (.cells #[.int .i64 a, .int .i64 b, .int .i64 c] 70)).alloc (.cells #[.int .i64 a, .int .i64 b, .int .i64 c] 70)).cell? ⟨w.heap.size + 1, 0, none⟩ = some (.int .i64 a) := by simp
  have d1 : ((w.alloc (.cells #[.int .i64 a, .int .i64 b, .int .i64 c] 70)).alloc (.cells #[.int .i64 a, .int .i64 b, .int .i64 c] 70)).cell? ⟨w.heap.size + 1, 1, none⟩ = some (.int .i64 b) := by simp
  have d2 : ((w.alloc (.cells #[.int .i64 a, .int .i64 b, .int .i64 c] 70)).alloc (.cells #[.int .i64 a, .int .i64 b, .int .i64 c] 70)).cell? ⟨w.heap.size + 1, 2, none⟩ = some (.int .i64 c) := by simp
  go_enter Try.func46, Try.ntmps46
  go_wp2_with fail
  generalize (w.alloc (.cells #[.int .i64 a, .int .i64 b, .int .i64 c] 70)).alloc (.cells #[.int .i64 a, .int .i64 b, .int .i64 c] 70) = W at *
  go_ret
  exact ⟨rfl, B0.out⟩

set_option maxRecDepth 100000 in
set_option maxHeartbeats 1000000 in
theorem eqF_any (v1 v2 : Value) (S : List Fnd) (hn : S.length ≤ 1048576) (w : World) (h1 : FL w v1 S) (h2 : FL w v2 S) :
    Calls Try.prog 15 #[v1, v2] w fun e w' => e = .returned (.bool true) ∧ Below w.heap.size w w' := by
  obtain ⟨a1, c1, rfl, h1⟩ := h1
  obtain ⟨a2, c2, rfl, h2⟩ := h2
  obtain ⟨n, hl⟩ : ∃ n, S.length = n := ⟨_, rfl⟩
  have HN := Lib.hid hl
  rw [hl] at hn ⊢
  have H1 := Lib.hid h1
  have H2 := Lib.hid h2
  clear h1 h2 hl
  go_enter Try.func15, Try.ntmps15
  go_wp2
  go_loopw [5] (fun i wr => ∃ k : Nat, k ≤ n ∧ i = .int .i64 k ∧ Hid (Below w.heap.size w wr)) (fun i _ => n - (intOf i).toNat)
  case atStart => exact ⟨0, Nat.zero_le _, rfl, Lib.hid (Below.refl _ _)⟩
  case round =>
    obtain ⟨k, hk, rfl, HB⟩ := hrel
    by_cases hlt : k < n
    · obtain ⟨g1, o1, rfl, hg1, hc1⟩ := H1.out (by have := HN.out; omega)
      obtain ⟨g2, o2, rfl, hg2, hc2⟩ := H2.out (by have := HN.out; omega)
      obtain ⟨s, hs⟩ := get_at HN.out hlt
      obtain ⟨x, y, z⟩ := s
      have a0 : wr.cell? ⟨g1, o1 + k * 3, none⟩ = some (.int .i64 x) := (HB.out.cell (p := ⟨g1, o1 + k * 3, none⟩) hg1).trans (hc1 k _ hs).1
      have a1 : wr.cell? ⟨g1, o1 + k * 3 + 1, none⟩ = some (.int .i64 y) := (HB.out.cell (p := ⟨g1, o1 + k * 3 + 1, none⟩) hg1).trans (hc1 k _ hs).2.1
      have a2 : wr.cell? ⟨g1, o1 + k * 3 + 2, none⟩ = some (.int .i64 z) := (HB.out.cell (p := ⟨g1, o1 + k * 3 + 2, none⟩) hg1).trans (hc1 k _ hs).2.2
      have b0 : wr.cell? ⟨g2, o2 + k * 3, none⟩ = some (.int .i64 x) := (HB.out.cell (p := ⟨g2, o2 + k * 3, none⟩) hg2).trans (hc2 k _ hs).1
      have b1 : wr.cell? ⟨g2, o2 + k * 3 + 1, none⟩ = some (.int .i64 y) := (HB.out.cell (p := ⟨g2, o2 + k * 3 + 1, none⟩) hg2).trans (hc2 k _ hs).2.1
      have b2 : wr.cell? ⟨g2, o2 + k * 3 + 2, none⟩ = some (.int .i64 z) := (HB.out.cell (p := ⟨g2, o2 + k * 3 + 2, none⟩) hg2).trans (hc2 k _ hs).2.2
      have HZ := Lib.hid (fun W => eqFnd_any x y z W)
      have hki : (k : Int) < (n : Int) := by omega
      clear hc1 hc2 hs
      go_wp2_with fail
      go_still_tail 8, (by kernel_rfl)
      change wpList _ _ _ _ _ wr.drew
      have hbd : Below w.heap.size w wr.drew := below_drewN HB.out 1
      have BD := Lib.hid hbd
      clear hbd
      generalize wr.drew = w2 at *
      go_wp2_with fail
      refine (HZ.out _).mono ?_
      rintro e w3 ⟨rfl, hb3⟩
      have B3 : Hid (Below w.heap.size w w3) := Lib.hid (BD.out.trans (hb3.mono BD.out.size))
      clear hb3
      go_wp2_with fail
      refine ⟨⟨k + 1, by omega, by go_num, B3⟩, by simp [intOf]; omega⟩
    · obtain rfl : k = n := by omega
      go_wp2_with fail
      go_ret
      exact ⟨rfl, HB.out⟩

/-- What is written into the findings: k0, k0 + 1 and so on. -/
def runF (k0 : Int) (n : Nat) : List Fnd := (List.range n).map fun (j : Nat) => (k0 + 3 * (j : Int), k0 + 3 * (j : Int) + 1, k0 + 3 * (j : Int) + 2)
theorem runF_len (k0 : Int) (n : Nat) : (runF k0 n).length = n := by simp [runF]
theorem runF_get {k0 : Int} {n j : Nat} (h : j < n) : (runF k0 n)[j]? = some (k0 + 3 * (j : Int), k0 + 3 * (j : Int) + 1, k0 + 3 * (j : Int) + 2) := by simp [runF, h]
/-- While the marks are written: the first t cells are there. -/
def MarkF (w wr : World) (B : Nat) (v : Value) (n t : Nat) (k0 : Int) : Prop := ∃ xs, wr.ownsRow B 70 3 v n xs ∧ (∀ i, i < t → xs[i]? = some (.int .i64 (k0 + (i : Int)))) ∧ w.grownBy wr v.ownBlock
theorem markF_step {w wr : World} {B g n cap t : Nat} {k0 : Int} (h : MarkF w wr B (.slice (some ⟨g, 0, none⟩) n cap) n t k0) (ht : t < n * 3) : MarkF w (wr.setCell ⟨g, t, none⟩ (.int .i64 (k0 + (t : Int)))) B (.slice (some ⟨g, 0, none⟩) n cap) n (t + 1) k0 := by
  obtain ⟨xs, h1, h2, h3⟩ := h
  obtain ⟨hs, hg⟩ := h1.stored t (.int .i64 (k0 + (t : Int)))
  have hl := h1.1
  refine ⟨_, hs, fun i hi => ?_, Lib.grownBy_trans h3 hg⟩
  by_cases e : i = t
  · subst e; rw [List.getElem?_set_self (by omega)]
  · rw [List.getElem?_set_ne (by omega)]; exact h2 i (by omega)
theorem markF_done {w wr : World} {B n : Nat} {v : Value} {k0 : Int} (h : MarkF w wr B v n (n * 3) k0) : wr.ownsRow B 70 3 v n (flatF (runF k0 n)) ∧ w.grownBy wr v.ownBlock := by
  obtain ⟨xs, h1, h2, h3⟩ := h
  have e : xs = flatF (runF k0 n) := flatF_ext (by rw [runF_len]; exact h1.1) fun j s hs => by
    have hj := lt_of_get hs
    rw [runF_len] at hj
    rw [runF_get hj] at hs
    cases hs
    rw [h2 _ (by omega), h2 _ (by omega), h2 _ (by omega)]
    refine ⟨congrArg some (val_i (by simp; omega)), congrArg some (val_i (by simp; omega)), congrArg some (val_i (by simp; omega))⟩
  subst e
  exact ⟨h1, h3⟩

set_option maxRecDepth 100000 in
set_option maxHeartbeats 2000000 in
theorem markF_any (v : Value) (S : List Fnd) (k0 : Int) (B hi : Nat) (hn : S.length ≤ 1048576) (hk0 : 0 ≤ k0) (hk1 : k0 ≤ 10000000) (w : World) (h : FO w B hi v S) :
    Calls Try.prog 20 #[v, .int .i64 k0] w fun e w' => e = .returned (.int .i64 (k0 + 3 * (S.length : Int))) ∧ FO w' B hi v (runF k0 S.length) ∧ Span B hi w w' := by
  obtain ⟨hh, ho, hb⟩ := h
  obtain ⟨n, hl⟩ : ∃ n, S.length = n := ⟨_, rfl⟩
  rw [hl] at hn ho ⊢
  have R0 : Hid (MarkF w w B v n 0 k0) := Lib.hid ⟨_, ho, fun i hi => by omega, ⟨rfl, rfl, rfl, Nat.le_refl _, fun _ _ _ => rfl⟩⟩
  have HF := Lib.hid (show 0 < n → ∃ g cap, v = .slice (some ⟨g, 0, none⟩) n cap from fun h0 => by
    rcases ho.2 with ⟨_, hz⟩ | ⟨g, cap, cur, hv, _⟩
    · omega
    · exact ⟨g, cap, hv⟩)
  have HX := Lib.hid (show ∀ wr, MarkF w wr B v n (n * 3) k0 → FO wr B hi v (runF k0 n) ∧ Span B hi w wr from fun wr hm => by
    obtain ⟨h1, h2⟩ := markF_done hm
    refine ⟨⟨Nat.le_trans hh h2.size, by rw [runF_len]; exact h1, hb⟩, Span.of_grown h2 fun k hk => ⟨row_base ho k hk, hb k hk⟩⟩)
  obtain ⟨a, cap, rfl⟩ := own_form ho
  clear ho hl hb
  go_enter Try.func20, Try.ntmps20
  go_wp2
  go_loopw [1, 5] (fun m i wr => ∃ k : Nat, k ≤ n ∧ i = .int .i64 k ∧ m = .int .i64 (k0 + 3 * (k : Int)) ∧ Hid (MarkF w wr B (.slice a n cap) n (k * 3) k0)) (fun _ i _ => n - (intOf i).toNat)
  case atStart => exact ⟨0, Nat.zero_le _, rfl, by simp, R0⟩
  case round =>
    obtain ⟨k, hk, rfl, rfl, HR⟩ := hrel
    by_cases hlt : k < n
    · obtain ⟨g, cap', e⟩ := HF.out (by omega)
      injection e with e1 e2 e3
      subst e1 e3
      have K1 := markF_step HR.out (by omega)
      have K2 := markF_step K1 (by omega)
      have K3 := markF_step K2 (by omega)
      rw [show k0 + ((k * 3 + 1 + 1 : Nat) : Int) = k0 + 3 * (k : Int) + 2 by simp; omega, show k0 + ((k * 3 + 1 : Nat) : Int) = k0 + 3 * (k : Int) + 1 by simp; omega, show k0 + ((k * 3 : Nat) : Int) = k0 + 3 * (k : Int) by simp; omega, show k * 3 + 1 + 1 + 1 = (k + 1) * 3 by omega, show k * 3 + 1 + 1 = k * 3 + 2 by omega] at K3
      have KT := Lib.hid K3
      have HO : ∃ xs, wr.ownsRow B 70 3 (.slice (some ⟨g, 0, none⟩) n cap) n xs := by obtain ⟨xs, h, _⟩ := HR.out; exact ⟨xs, h⟩
      obtain ⟨xs1, hx1⟩ := HO
      obtain ⟨⟨x0, y0⟩, z0⟩ := ownF_cell hx1 (i := k * 3) (by omega)
      obtain ⟨⟨x1, y1⟩, z1⟩ := ownF_cell hx1 (i := k * 3 + 1) (by omega)
      obtain ⟨⟨x2, y2⟩, z2⟩ := ownF_cell hx1 (i := k * 3 + 2) (by omega)
      clear hx1 K1 K2 K3 R0
      obtain ⟨q, hq⟩ : ∃ q : Int, q = k0 + 3 * (k : Int) := ⟨_, rfl⟩
      have hq0 : 0 ≤ q := by omega
      have hq1 : q ≤ 90000000 := by omega
      rw [← hq] at KT ⊢
      have HQ := Lib.hid hq
      clear hq
      go_wp2_with fail
      refine ⟨⟨k + 1, by omega, by go_num, val_i (by have := HQ.out; omega), by simpa only [Int.add_assoc, Int.reduceAdd] using KT⟩, by simp [intOf]; omega⟩
    · obtain rfl : k = n := by omega
      have HY := Lib.hid (HX.out _ HR.out)
      go_wp2
      go_ret
      exact ⟨rfl, HY.out.1, HY.out.2⟩

set_option maxRecDepth 100000 in
set_option maxHeartbeats 2000000 in
theorem heldF_any (v : Value) (n : Nat) (k0 : Int) (hn : n ≤ 1048576) (hk0 : 0 ≤ k0) (hk1 : k0 ≤ 10000000) (w : World) (h : FL w v (runF k0 n)) :
    Calls Try.prog 21 #[v, .int .i64 k0] w fun e w' => e = .returned (.int .i64 (k0 + 3 * (n : Int))) ∧ Below w.heap.size w w' := by
  obtain ⟨a, c, rfl, hc⟩ := h
  rw [runF_len] at hc ⊢
  have H := Lib.hid hc
  clear hc
  go_enter Try.func21, Try.ntmps21
  go_wp2
  go_loopw [1, 5] (fun m i wr => ∃ k q : Nat, k ≤ n ∧ i = .int .i64 k ∧ m = .int .i64 (k0 + 3 * (k : Int)) ∧ wr = w.drewN q) (fun _ i _ => n - (intOf i).toNat)
  case atStart => exact ⟨0, 0, Nat.zero_le _, rfl, by simp, rfl⟩
  case round =>
    obtain ⟨k, q, hk, rfl, rfl, rfl⟩ := hrel
    by_cases hlt : k < n
    · obtain ⟨g, off, rfl, hg, hcc⟩ := H.out (by omega)
      obtain ⟨hp, hq, hr⟩ := hcc k _ (runF_get hlt)
      obtain ⟨z, hz⟩ : ∃ z : Int, z = k0 + 3 * (k : Int) := ⟨_, rfl⟩
      have hz0 : 0 ≤ z := by omega
      have hz1 : z ≤ 90000000 := by omega
      simp only at hp hq hr
      rw [← hz] at hp hq hr ⊢
      have HZ := Lib.hid hz
      clear hz hcc
      go_wp2_with (first | (go_quiet (fail)) | fail)
      first
        | refine ⟨⟨k + 1, q, by omega, by go_num, val_i (by have := HZ.out; omega), rfl⟩, by simp [intOf]; omega⟩
        | refine ⟨⟨k + 1, _, by omega, by go_num, val_i (by have := HZ.out; omega), rfl⟩, by simp [intOf]; omega⟩
    · obtain rfl : k = n := by omega
      go_wp2
      go_ret
      exact ⟨rfl, below_drewN (Below.refl _ _) _⟩
end Go.Proofs.Ytonploneihnekaa
