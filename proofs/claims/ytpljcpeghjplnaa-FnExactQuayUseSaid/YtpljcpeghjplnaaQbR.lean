/-
  Lists of structs Berth in memory, and the laws' own helpers on them. No statement of the seat by itself.
-/
import Derived.Test.YtpljcpeghjplnaaKeep
namespace Go.Proofs.Ytpljcpeghjplnaa
open Go.RowKit

/-- The cells of a list of such structs. -/
def flatQb : List (Int × Int) → List Value
  | [] => []
  | c :: l => .int .i64 c.1 :: .int .i64 c.2 :: flatQb l
theorem flatQb_len : ∀ l : List (Int × Int), (flatQb l).length = l.length * 2
  | [] => rfl
  | c :: l => by
    rw [flatQb, List.length_cons, List.length_cons, flatQb_len l, List.length_cons]
    omega
theorem flatQb_app : ∀ (l m : List (Int × Int)), flatQb (l ++ m) = flatQb l ++ flatQb m
  | [], m => rfl
  | d :: l, m => by rw [List.cons_append, flatQb, flatQb, flatQb_app l m, List.cons_append, List.cons_append]
theorem flatQb_at : ∀ (l : List (Int × Int)) (j : Nat) (s : (Int × Int)), l[j]? = some s → (flatQb l)[j * 2]? = some (.int .i64 s.1) ∧ (flatQb l)[j * 2 + 1]? = some (.int .i64 s.2)
  | [], j, s, h => by simp at h
  | c :: l, 0, s, h => by
    simp at h
    subst h
    exact ⟨rfl, rfl⟩
  | c :: l, j + 1, s, h => by
    have ih := flatQb_at l j s (by simpa using h)
    rw [flatQb, show (j + 1) * 2 = j * 2 + 1 + 1 by omega, List.getElem?_cons_succ, List.getElem?_cons_succ, List.getElem?_cons_succ, List.getElem?_cons_succ]
    exact ih
theorem flatQb_ext {l : List (Int × Int)} {xs : List Value} (hx : xs.length = l.length * 2) (h : ∀ j s, l[j]? = some s → xs[j * 2]? = some (.int .i64 s.1) ∧ xs[j * 2 + 1]? = some (.int .i64 s.2)) : xs = flatQb l := by
  refine List.ext_getElem? fun i => ?_
  rcases Nat.lt_or_ge i (l.length * 2) with hi | hi
  · obtain ⟨s, hs⟩ : ∃ s, l[i / 2]? = some s := get_at rfl (by omega)
    have h1 := h _ _ hs
    have h2 := flatQb_at _ _ _ hs
    rcases (by omega : i % 2 = 0 ∨ i % 2 = 1) with e | e
    · rw [show i = i / 2 * 2 by omega, h1.1, h2.1]
    · rw [show i = i / 2 * 2 + 1 by omega, h1.2, h2.2]
  · rw [List.getElem?_eq_none (by omega), List.getElem?_eq_none (by rw [flatQb_len]; omega)]
/-- The cells of one struct. -/
def QbC (w : World) (g o : Nat) (c : (Int × Int)) : Prop := w.cell? ⟨g, o, none⟩ = some (.int .i64 c.1) ∧ w.cell? ⟨g, o + 1, none⟩ = some (.int .i64 c.2)
/-- A slice that reads as a list of structs. -/
def QbL (w : World) (v : Value) (S : List (Int × Int)) : Prop := ∃ a c, v = .slice a S.length c ∧ (0 < S.length → ∃ g off, a = some ⟨g, off, none⟩ ∧ g < w.heap.size ∧ ∀ j s, S[j]? = some s → QbC w g (off + j * 2) s)
theorem QbL.below {w w' : World} {v : Value} {S : List (Int × Int)} (h : QbL w v S) (hb : Below w.heap.size w w') : QbL w' v S := by
  obtain ⟨a, c, rfl, h⟩ := h
  refine ⟨a, c, rfl, fun h0 => ?_⟩
  obtain ⟨g, off, rfl, hg, hc⟩ := h h0
  exact ⟨g, off, rfl, Nat.lt_of_lt_of_le hg hb.size, fun j s hs => ⟨(hb.cell (p := ⟨g, _, none⟩) hg).trans (hc j s hs).1, (hb.cell (p := ⟨g, _, none⟩) hg).trans (hc j s hs).2⟩⟩
theorem QbL.form {w : World} {v : Value} {S : List (Int × Int)} (h : QbL w v S) : ∃ a c, v = .slice a S.length c := by
  obtain ⟨a, c, rfl, h⟩ := h
  exact ⟨_, _, rfl⟩
theorem QbL.nil (w : World) (a : Option Addr) (c : Nat) : QbL w (.slice a 0 c) [] := ⟨a, c, rfl, fun h => by simp at h⟩
theorem QbL.of_owns {W : World} {base n : Nat} {v : Value} {S : List (Int × Int)} (h : W.ownsRow base 46 2 v n (flatQb S)) : QbL W v S := by
  have hn : n = S.length := by have := h.1; rw [flatQb_len] at this; omega
  subst hn
  obtain ⟨a, c, rfl⟩ := own_form h
  refine ⟨a, c, rfl, fun h0 => ?_⟩
  rcases h.2 with ⟨_, hz⟩ | ⟨g, cap, cur, hv, hg, hb, _⟩
  · omega
  · injection hv with e1 e2 e3
    subst e1 e3
    refine ⟨g, 0, rfl, (Array.getElem?_eq_some_iff.1 hb).1, fun j s hs => ?_⟩
    have hj := lt_of_get hs
    have hp := flatQb_at _ _ _ hs
    rw [Nat.zero_add]
    exact ⟨(h.cellAt (j * 2) (by omega)).trans hp.1, (h.cellAt (j * 2 + 1) (by omega)).trans hp.2⟩
/-- A list of structs of the call's own, in blocks from B to hi. -/
def QbO (w : World) (B hi : Nat) (v : Value) (S : List (Int × Int)) : Prop := hi ≤ w.heap.size ∧ w.ownsRow B 46 2 v S.length (flatQb S) ∧ ∀ b, v.ownBlock = some b → b < hi
theorem QbO.read {w : World} {B hi : Nat} {v : Value} {S : List (Int × Int)} (h : QbO w B hi v S) : QbL w v S := QbL.of_owns h.2.1
theorem QbO.span {w w' : World} {B hi lo' hi' : Nat} {v : Value} {S : List (Int × Int)} (h : QbO w B hi v S) (hs : Span lo' hi' w w') (ho : hi ≤ lo' ∨ hi' ≤ B) : QbO w' B hi v S :=
  ⟨Nat.le_trans h.1 hs.size, own_span h.2.1 hs fun b hb => by have := h.2.2 b hb; have := row_base h.2.1 b hb; omega, h.2.2⟩
theorem QbO.below {w w' : World} {B hi : Nat} {v : Value} {S : List (Int × Int)} (h : QbO w B hi v S) (hb : Below w.heap.size w w') : QbO w' B hi v S :=
  h.span (Span.of_below (lo := w.heap.size) (hi := w.heap.size) hb) (.inl h.1)
theorem QbO.none (w : World) (B hi : Nat) (hh : hi ≤ w.heap.size) : QbO w B hi (.slice none 0 0) [] := ⟨hh, ⟨rfl, .inl ⟨rfl, rfl⟩⟩, fun b hb => by cases hb⟩
theorem QbO.of_own {w W : World} {B : Nat} {v : Value} {l : List (Int × Int)} (h : W.ownsRow B 46 2 v l.length (flatQb l)) (hB : w.heap.size ≤ B) : QbO W w.heap.size W.heap.size v l :=
  ⟨Nat.le_refl _, h.mono hB, fun b hb => row_lt h b hb⟩

theorem szQb_any (a : Option Addr) (n cap L : Nat) (hn : n ≤ maxLen) (hL : L ≤ 1048576) (w : World) :
    Calls Try.prog 35 #[.slice a n cap, .int .i64 (L : Int)] w fun e w' => e = .returned (.int .i64 (if n ≤ L then ((L - n : Nat) : Int) else -1)) ∧ w = w' := by
  unfold maxLen at hn
  by_cases h : n ≤ L
  · rw [if_pos h]
    go_enter Try.func35, Try.ntmps35
    go_wp2
    go_ret
    exact ⟨ret_i (by omega), rfl⟩
  · rw [if_neg h]
    go_enter Try.func35, Try.ntmps35
    go_wp2
    go_ret
    exact ⟨rfl, rfl⟩

theorem infoQb : (Try.prog.info? 46).map (fun i => (i.zero, i.size, i.bytes)) = some (some (.agg #[.int .i64 0, .int .i64 0]), 2, 16) := by kernel_rfl
/-- make([]impl.Berth, n). -/
theorem makeQb (n : Nat) (hn : n ≤ 1048576) (W : World) : ∃ W' xs, (Instr.makeSlice 28 (.int .i64 (n : Int)) (.int .i64 (n : Int))).run Try.prog W = .ok (.slice (some ⟨W.heap.size, 0, none⟩) n n) W' ∧
    W'.ownsRow W.heap.size 46 2 (.slice (some ⟨W.heap.size, 0, none⟩) n n) n xs ∧ Below W.heap.size W W' := by
  obtain ⟨i, hi, hz, hs, hb⟩ := info_is infoQb
  obtain ⟨W', h1, h2, h3⟩ := run_make_full (P := Try.prog) W W.heap.size 28 46 i _ 2 Try.underlying28 hi hz hs .i64 .i64 n (by rw [hb]; omega) (by unfold maxLen; omega) (Nat.le_refl _)
  exact ⟨W', _, h1, h2, below_of_none h3⟩

/-- While a copy is made: the first k structs are there. -/
def CopyQb (w wr : World) (v : Value) (n k : Nat) (S : List (Int × Int)) : Prop := ∃ xs, wr.ownsRow w.heap.size 46 2 v n xs ∧ (∀ j s, j < k → S[j]? = some s → xs[j * 2]? = some (.int .i64 s.1) ∧ xs[j * 2 + 1]? = some (.int .i64 s.2)) ∧ Below w.heap.size w wr

theorem copyQb_step {w wr : World} {g n cap k : Nat} {S : List (Int × Int)} {x y : Int} (h : CopyQb w wr (.slice (some ⟨g, 0, none⟩) n cap) n k S) (hk : k < n) (hx : S[k]? = some (x, y)) :
    CopyQb w ((wr.setCell ⟨g, k * 2, none⟩ (.int .i64 x)).setCell ⟨g, k * 2 + 1, none⟩ (.int .i64 y)) (.slice (some ⟨g, 0, none⟩) n cap) n (k + 1) S := by
  obtain ⟨xs, h1, h2, h3⟩ := h
  have s0 := (h1.stored (k * 2) (.int .i64 x)).1
  have s1 := (s0.stored (k * 2 + 1) (.int .i64 y)).1
  have hl := h1.1
  refine ⟨_, s1, fun j s hj hs => ?_, ((h3.setCell (p := ⟨g, k * 2, none⟩) (row_base h1 g rfl) _).setCell (p := ⟨g, k * 2 + 1, none⟩) (row_base h1 g rfl) _)⟩
  by_cases e : j = k
  · subst e
    rw [hx] at hs
    cases hs
    refine ⟨?_, ?_⟩
    · rw [List.getElem?_set_ne (by omega), List.getElem?_set_self (by omega)]
    · rw [List.getElem?_set_self (by rw [List.length_set]; omega)]
  · have h0 := h2 j s (by omega) hs
    rw [List.getElem?_set_ne (by omega), List.getElem?_set_ne (by omega), List.getElem?_set_ne (by omega), List.getElem?_set_ne (by omega)]
    exact h0
theorem CopyQb.below {w wr w1 : World} {v : Value} {n k : Nat} {S : List (Int × Int)} (h : CopyQb w wr v n k S) (hb : Below wr.heap.size wr w1) : CopyQb w w1 v n k S := by
  obtain ⟨xs, h1, h2, h3⟩ := h
  exact ⟨xs, row_below h1 hb, h2, h3.trans (hb.mono h3.size)⟩
theorem ownQb_cell {w : World} {B g n cap i : Nat} {xs : List Value} (h : w.ownsRow B 46 2 (.slice (some ⟨g, 0, none⟩) n cap) n xs) (hi : i < n * 2) : (∃ x, w.cell? ⟨g, i, none⟩ = some x) ∧ w.frozen? ⟨g, i, none⟩ = false := by
  refine ⟨?_, h.frozenAt i⟩
  have hl := h.1
  rw [h.cellAt i hi]
  exact get_at rfl (by omega)
/-- A list of structs of the call's own was answered, and nothing older turned. -/
def NewQb (w : World) (S : List (Int × Int)) (e : Ending) (w' : World) : Prop := ∃ a c, e = .returned (.slice a S.length c) ∧ w'.ownsRow w.heap.size 46 2 (.slice a S.length c) S.length (flatQb S) ∧ Below w.heap.size w w'
theorem NewQb.read {w w' : World} {S : List (Int × Int)} {e : Ending} (h : NewQb w S e w') : ∃ v, e = .returned v ∧ QbL w' v S ∧ Below w.heap.size w w' := by
  obtain ⟨a, c, rfl, ho, hb⟩ := h
  exact ⟨_, rfl, QbL.of_owns ho, hb⟩
theorem copyQb_done {w wr : World} {g n cap : Nat} {S : List (Int × Int)} (h : CopyQb w wr (.slice (some ⟨g, 0, none⟩) n cap) n n S) (hn : S.length = n) : NewQb w S (.returned (.slice (some ⟨g, 0, none⟩) n cap)) wr := by
  obtain ⟨xs, h1, h2, h3⟩ := h
  subst hn
  have e := flatQb_ext h1.1 fun j s hs => h2 j s (lt_of_get hs) hs
  subst e
  exact ⟨_, _, rfl, h1, h3⟩

set_option maxRecDepth 100000 in
set_option maxHeartbeats 1000000 in
theorem toQb1_any (x y : Int) (w : World) : Calls Try.prog 92 #[.agg #[.int .i64 x, .int .i64 y]] w fun e w' => e = .returned (.agg #[.int .i64 x, .int .i64 y]) ∧ Below w.heap.size w w' := by
  go_enter Try.func92, Try.ntmps92
  go_wp2_with fail
  refine bodyPost_ret (v := .agg #[.int .i64 x, .int .i64 y]) ?_ rfl ⟨rfl, (three_alloc w _ _ _).2.2.2.2⟩
  obtain ⟨hk0, hk1, hk2, hs, hB0⟩ := three_alloc w (.cells #[.int .i64 x, .int .i64 y] 125) (.cells #[.int .i64 x, .int .i64 y] 46) (.cells #[.int .i64 x, .int .i64 y] 46)
  have e0 := cell_of hk1 (i := 0) rfl
  have e1 := cell_of hk1 (i := 1) rfl
  clear hk0 hk1 hk2 hs hB0
  generalize ((w.alloc (.cells #[.int .i64 x, .int .i64 y] 125)).alloc (.cells #[.int .i64 x, .int .i64 y] 46)).alloc (.cells #[.int .i64 x, .int .i64 y] 46) = W at *
  simp [results, Try.results92, go_sem, e0, e1]

set_option maxRecDepth 100000 in
set_option maxHeartbeats 4000000 in
theorem toQb_any (v : Value) (S : List (Int × Int)) (hn : S.length ≤ 1048576) (w : World) (h : QbL w v S) :
    Calls Try.prog 38 #[v] w (NewQb w S) := by
  obtain ⟨a, cap, rfl, hc⟩ := h
  obtain ⟨n, hl⟩ : ∃ n, S.length = n := ⟨_, rfl⟩
  have HN := Lib.hid hl
  rw [hl] at hn ⊢
  obtain ⟨W', xs, hmk, hown, hbl⟩ := makeQb n hn w
  have HC := Lib.hid hc
  have R0 : Hid (CopyQb w W' (.slice (some ⟨w.heap.size, 0, none⟩) n n) n 0 S) := Lib.hid ⟨xs, hown, fun j s hj => by omega, hbl⟩
  clear hc hown hbl hl
  go_enter Try.func38, Try.ntmps38
  go_wp2_with fail
  clear hmk
  go_loopw [4] (fun i wr => ∃ k : Nat, k ≤ n ∧ i = .int .i64 k ∧ Hid (CopyQb w wr (.slice (some ⟨w.heap.size, 0, none⟩) n n) n k S)) (fun i _ => n - (intOf i).toNat)
  case atStart => exact ⟨0, Nat.zero_le _, rfl, R0⟩
  case round =>
    obtain ⟨k, hk, rfl, HR⟩ := hrel
    by_cases hlt : k < n
    · obtain ⟨g, off, rfl, hg, hcc⟩ := HC.out (by have := HN.out; omega)
      obtain ⟨s, hs⟩ := get_at HN.out hlt
      obtain ⟨x, y⟩ := s
      obtain ⟨hp0, hp1⟩ := hcc k _ hs
      have HB : Below w.heap.size w wr := by obtain ⟨_, _, _, hb⟩ := HR.out; exact hb
      have h0 : wr.cell? ⟨g, off + k * 2, none⟩ = some (.int .i64 x) := (HB.cell (p := ⟨g, off + k * 2, none⟩) hg).trans hp0
      have h1 : wr.cell? ⟨g, off + k * 2 + 1, none⟩ = some (.int .i64 y) := (HB.cell (p := ⟨g, off + k * 2 + 1, none⟩) hg).trans hp1
      have HS := Lib.hid hs
      have HZ := Lib.hid (fun W => toQb1_any x y W)
      clear hcc hs hp0 hp1 HB
      go_wp2_with fail
      refine (HZ.out _).mono ?_
      rintro e w1 ⟨rfl, hb1⟩
      have HR1 := Lib.hid (HR.out.below hb1)
      have KT := Lib.hid (copyQb_step HR1.out hlt HS.out)
      clear hb1 h0 h1
      have HO : ∃ xs, w1.ownsRow w.heap.size 46 2 (.slice (some ⟨w.heap.size, 0, none⟩) n n) n xs := by obtain ⟨xs, h, _⟩ := HR1.out; exact ⟨xs, h⟩
      obtain ⟨xs1, hx1⟩ := HO
      obtain ⟨⟨x0, y0⟩, z0⟩ := ownQb_cell hx1 (i := k * 2) (by omega)
      obtain ⟨⟨x1, y1⟩, z1⟩ := ownQb_cell hx1 (i := k * 2 + 1) (by omega)
      clear hx1
      go_wp2_with fail
      refine ⟨⟨k + 1, by omega, by go_num, KT⟩, by simp [intOf]; omega⟩
    · obtain rfl : k = n := by omega
      have HX := Lib.hid (copyQb_done HR.out HN.out)
      go_wp2_with fail
      go_ret
      exact HX.out

set_option maxRecDepth 100000 in
set_option maxHeartbeats 1000000 in
theorem eqQb1_any (x y : Int) (w : World) : Calls Try.prog 42 #[.agg #[.int .i64 x, .int .i64 y], .agg #[.int .i64 x, .int .i64 y]] w fun e w' => e = .returned (.bool true) ∧ Below w.heap.size w w' := by
  have B0 := Lib.hid (((Below.refl _ w).alloc (Nat.le_refl _) (.cells #[.int .i64 x, .int .i64 y] 46)).alloc (by simp) (.cells #[.int .i64 x, .int .i64 y] 46))
  have c0 : ((w.alloc (.cells #[.int .i64 x, .int .i64 y] 46)).alloc (.cells #[.int .i64 x, .int .i64 y] 46)).cell? ⟨w.heap.size, 0, none⟩ = some (.int .i64 x) := by simp
  have c1 : ((w.alloc (.cells #[.int .i64 x, .int .i64 y] 46)).alloc (.cells #[.int .i64 x, .int .i64 y] 46)).cell? ⟨w.heap.size, 1, none⟩ = some (.int .i64 y) := by simp
  have c2 : ((w.alloc (.cells #[.int .i64 x, .int .i64 y] 46)).alloc (.cells #[.int .i64 x, .int .i64 y] 46)).cell? ⟨w.heap.size + 1, 0, none⟩ = some (.int .i64 x) := by simp
  have c3 : ((w.alloc (.cells #[.int .i64 x, .int .i64 y] 46)).alloc (.cells #[.int .i64 x, .int .i64 y] 46)).cell? ⟨w.heap.size + 1, 1, none⟩ = some (.int .i64 y) := by simp
  go_enter Try.func42, Try.ntmps42
  go_wp2_with fail
  generalize (w.alloc (.cells #[.int .i64 x, .int .i64 y] 46)).alloc (.cells #[.int .i64 x, .int .i64 y] 46) = W at *
  go_ret
  exact ⟨rfl, B0.out⟩

set_option maxRecDepth 100000 in
set_option maxHeartbeats 4000000 in
theorem eqQb_any (v1 v2 : Value) (S : List (Int × Int)) (hn : S.length ≤ 1048576) (w : World) (h1 : QbL w v1 S) (h2 : QbL w v2 S) :
    Calls Try.prog 40 #[v1, v2] w fun e w' => e = .returned (.bool true) ∧ Below w.heap.size w w' := by
  obtain ⟨a1, c1, rfl, h1⟩ := h1
  obtain ⟨a2, c2, rfl, h2⟩ := h2
  obtain ⟨n, hl⟩ : ∃ n, S.length = n := ⟨_, rfl⟩
  have HN := Lib.hid hl
  rw [hl] at hn ⊢
  have H1 := Lib.hid h1
  have H2 := Lib.hid h2
  clear h1 h2 hl
  go_enter Try.func40, Try.ntmps40
  go_wp2
  go_loopw [5] (fun i wr => ∃ k : Nat, k ≤ n ∧ i = .int .i64 k ∧ Hid (Below w.heap.size w wr)) (fun i _ => n - (intOf i).toNat)
  case atStart => exact ⟨0, Nat.zero_le _, rfl, Lib.hid (Below.refl _ _)⟩
  case round =>
    obtain ⟨k, hk, rfl, HB⟩ := hrel
    by_cases hlt : k < n
    · obtain ⟨g1, o1, rfl, hg1, hc1⟩ := H1.out (by have := HN.out; omega)
      obtain ⟨g2, o2, rfl, hg2, hc2⟩ := H2.out (by have := HN.out; omega)
      obtain ⟨s, hs⟩ := get_at HN.out hlt
      obtain ⟨x, y⟩ := s
      have a0 : wr.cell? ⟨g1, o1 + k * 2, none⟩ = some (.int .i64 x) := (HB.out.cell (p := ⟨g1, o1 + k * 2, none⟩) hg1).trans (hc1 k _ hs).1
      have a1 : wr.cell? ⟨g1, o1 + k * 2 + 1, none⟩ = some (.int .i64 y) := (HB.out.cell (p := ⟨g1, o1 + k * 2 + 1, none⟩) hg1).trans (hc1 k _ hs).2
      have b0 : wr.cell? ⟨g2, o2 + k * 2, none⟩ = some (.int .i64 x) := (HB.out.cell (p := ⟨g2, o2 + k * 2, none⟩) hg2).trans (hc2 k _ hs).1
      have b1 : wr.cell? ⟨g2, o2 + k * 2 + 1, none⟩ = some (.int .i64 y) := (HB.out.cell (p := ⟨g2, o2 + k * 2 + 1, none⟩) hg2).trans (hc2 k _ hs).2
      have HZ := Lib.hid (fun W => eqQb1_any x y W)
      have hki : (k : Int) < (n : Int) := by omega
      clear hc1 hc2 hs
      go_wp2_with fail
      go_still_tail 8, (by kernel_rfl)
      change wpList _ _ _ _ _ wr.drew
      have hbd : Below w.heap.size w wr.drew := below_drewN HB.out 1
      have BD := Lib.hid hbd
      clear hbd
      generalize wr.drew = w2 at *
      go_wp2_with fail
      refine (HZ.out _).mono ?_
      rintro e w3 ⟨rfl, hb3⟩
      have B3 : Hid (Below w.heap.size w w3) := Lib.hid (BD.out.trans (hb3.mono BD.out.size))
      clear hb3
      go_wp2_with fail
      refine ⟨⟨k + 1, by omega, by go_num, B3⟩, by simp [intOf]; omega⟩
    · obtain rfl : k = n := by omega
      go_wp2_with fail
      go_ret
      exact ⟨rfl, HB.out⟩

/-- What is written into the structs: k0, k0 + 1 and so on. -/
def runQb (k0 : Int) (n : Nat) : List (Int × Int) := (List.range n).map fun (j : Nat) => (k0 + 2 * (j : Int), k0 + 2 * (j : Int) + 1)
theorem runQb_len (k0 : Int) (n : Nat) : (runQb k0 n).length = n := by simp [runQb]
theorem runQb_get {k0 : Int} {n j : Nat} (h : j < n) : (runQb k0 n)[j]? = some (k0 + 2 * (j : Int), k0 + 2 * (j : Int) + 1) := by simp [runQb, h]
/-- While the marks are written: the first t cells are there. -/
def MarkQb (w wr : World) (B : Nat) (v : Value) (n t : Nat) (k0 : Int) : Prop := ∃ xs, wr.ownsRow B 46 2 v n xs ∧ (∀ i, i < t → xs[i]? = some (.int .i64 (k0 + (i : Int)))) ∧ w.grownBy wr v.ownBlock
theorem markQb_step {w wr : World} {B g n cap t : Nat} {k0 : Int} (h : MarkQb w wr B (.slice (some ⟨g, 0, none⟩) n cap) n t k0) (ht : t < n * 2) : MarkQb w (wr.setCell ⟨g, t, none⟩ (.int .i64 (k0 + (t : Int)))) B (.slice (some ⟨g, 0, none⟩) n cap) n (t + 1) k0 := by
  obtain ⟨xs, h1, h2, h3⟩ := h
  obtain ⟨hs, hg⟩ := h1.stored t (.int .i64 (k0 + (t : Int)))
  have hl := h1.1
  refine ⟨_, hs, fun i hi => ?_, Lib.grownBy_trans h3 hg⟩
  by_cases e : i = t
  · subst e; rw [List.getElem?_set_self (by omega)]
  · rw [List.getElem?_set_ne (by omega)]; exact h2 i (by omega)
theorem markQb_done {w wr : World} {B n : Nat} {v : Value} {k0 : Int} (h : MarkQb w wr B v n (n * 2) k0) : wr.ownsRow B 46 2 v n (flatQb (runQb k0 n)) ∧ w.grownBy wr v.ownBlock := by
  obtain ⟨xs, h1, h2, h3⟩ := h
  have e : xs = flatQb (runQb k0 n) := flatQb_ext (by rw [runQb_len]; exact h1.1) fun j s hs => by
    have hj := lt_of_get hs
    rw [runQb_len] at hj
    rw [runQb_get hj] at hs
    cases hs
    rw [h2 _ (by omega), h2 _ (by omega)]
    refine ⟨congrArg some (val_i (by simp; omega)), congrArg some (val_i (by simp; omega))⟩
  subst e
  exact ⟨h1, h3⟩

set_option maxRecDepth 100000 in
set_option maxHeartbeats 4000000 in
theorem markQb_any (v : Value) (S : List (Int × Int)) (k0 : Int) (B hi : Nat) (hn : S.length ≤ 1048576) (hk0 : 0 ≤ k0) (hk1 : k0 ≤ 10000000) (w : World) (h : QbO w B hi v S) :
    Calls Try.prog 47 #[v, .int .i64 k0] w fun e w' => e = .returned (.int .i64 (k0 + 2 * (S.length : Int))) ∧ QbO w' B hi v (runQb k0 S.length) ∧ Span B hi w w' := by
  obtain ⟨hh, ho, hb⟩ := h
  obtain ⟨n, hl⟩ : ∃ n, S.length = n := ⟨_, rfl⟩
  rw [hl] at hn ho ⊢
  have R0 : Hid (MarkQb w w B v n 0 k0) := Lib.hid ⟨_, ho, fun i hi => by omega, ⟨rfl, rfl, rfl, Nat.le_refl _, fun _ _ _ => rfl⟩⟩
  have HF := Lib.hid (show 0 < n → ∃ g cap, v = .slice (some ⟨g, 0, none⟩) n cap from fun h0 => by
    rcases ho.2 with ⟨_, hz⟩ | ⟨g, cap, cur, hv, _⟩
    · omega
    · exact ⟨g, cap, hv⟩)
  have HX := Lib.hid (show ∀ wr, MarkQb w wr B v n (n * 2) k0 → QbO wr B hi v (runQb k0 n) ∧ Span B hi w wr from fun wr hm => by
    obtain ⟨h1, h2⟩ := markQb_done hm
    refine ⟨⟨Nat.le_trans hh h2.size, by rw [runQb_len]; exact h1, hb⟩, Span.of_grown h2 fun k hk => ⟨row_base ho k hk, hb k hk⟩⟩)
  obtain ⟨a, cap, rfl⟩ := own_form ho
  clear ho hl hb
  go_enter Try.func47, Try.ntmps47
  go_wp2
  go_loopw [1, 5] (fun m i wr => ∃ k : Nat, k ≤ n ∧ i = .int .i64 k ∧ m = .int .i64 (k0 + 2 * (k : Int)) ∧ Hid (MarkQb w wr B (.slice a n cap) n (k * 2) k0)) (fun _ i _ => n - (intOf i).toNat)
  case atStart => exact ⟨0, Nat.zero_le _, rfl, by simp, R0⟩
  case round =>
    obtain ⟨k, hk, rfl, rfl, HR⟩ := hrel
    by_cases hlt : k < n
    · obtain ⟨g, cap', e⟩ := HF.out (by omega)
      injection e with e1 e2 e3
      subst e1 e3
      have K1 := markQb_step (t := k * 2) HR.out (by omega)
      have K2 := markQb_step (t := k * 2 + 1) K1 (by omega)
      rw [show k0 + ((k * 2 + 1 : Nat) : Int) = k0 + 2 * (k : Int) + 1 by simp; omega, show k0 + ((k * 2 : Nat) : Int) = k0 + 2 * (k : Int) by simp; omega] at K2
      have KT := Lib.hid K2
      have HO : ∃ xs, wr.ownsRow B 46 2 (.slice (some ⟨g, 0, none⟩) n cap) n xs := by obtain ⟨xs, h, _⟩ := HR.out; exact ⟨xs, h⟩
      obtain ⟨xs1, hx1⟩ := HO
      obtain ⟨⟨x0, y0⟩, z0⟩ := ownQb_cell hx1 (i := k * 2) (by omega)
      obtain ⟨⟨x1, y1⟩, z1⟩ := ownQb_cell hx1 (i := k * 2 + 1) (by omega)
      clear hx1 K1 K2 R0
      obtain ⟨q, hq⟩ : ∃ q : Int, q = k0 + 2 * (k : Int) := ⟨_, rfl⟩
      have hq0 : 0 ≤ q := by omega
      have hq1 : q ≤ 90000000 := by omega
      rw [← hq] at KT ⊢
      have HQ := Lib.hid hq
      clear hq
      go_wp2_with fail
      refine ⟨⟨k + 1, by omega, by go_num, val_i (by have := HQ.out; omega), by rw [show (k + 1) * 2 = k * 2 + 1 + 1 by omega]; exact KT⟩, by simp [intOf]; omega⟩
    · obtain rfl : k = n := by omega
      have HY := Lib.hid (HX.out _ HR.out)
      go_wp2
      go_ret
      exact ⟨rfl, HY.out.1, HY.out.2⟩

set_option maxRecDepth 100000 in
set_option maxHeartbeats 4000000 in
theorem heldQb_any (v : Value) (n : Nat) (k0 : Int) (hn : n ≤ 1048576) (hk0 : 0 ≤ k0) (hk1 : k0 ≤ 10000000) (w : World) (h : QbL w v (runQb k0 n)) :
    Calls Try.prog 48 #[v, .int .i64 k0] w fun e w' => e = .returned (.int .i64 (k0 + 2 * (n : Int))) ∧ Below w.heap.size w w' := by
  obtain ⟨a, c, rfl, hc⟩ := h
  rw [runQb_len] at hc ⊢
  have H := Lib.hid hc
  clear hc
  go_enter Try.func48, Try.ntmps48
  go_wp2
  go_loopw [1, 5] (fun m i wr => ∃ k q : Nat, k ≤ n ∧ i = .int .i64 k ∧ m = .int .i64 (k0 + 2 * (k : Int)) ∧ wr = w.drewN q) (fun _ i _ => n - (intOf i).toNat)
  case atStart => exact ⟨0, 0, Nat.zero_le _, rfl, by simp, rfl⟩
  case round =>
    obtain ⟨k, q, hk, rfl, rfl, rfl⟩ := hrel
    by_cases hlt : k < n
    · obtain ⟨g, off, rfl, hg, hcc⟩ := H.out (by omega)
      obtain ⟨hp0, hp1⟩ := hcc k _ (runQb_get hlt)
      obtain ⟨z, hz⟩ : ∃ z : Int, z = k0 + 2 * (k : Int) := ⟨_, rfl⟩
      have hz0 : 0 ≤ z := by omega
      have hz1 : z ≤ 90000000 := by omega
      simp only at hp0 hp1
      rw [← hz] at hp0 hp1 ⊢
      have HZ := Lib.hid hz
      clear hz hcc
      go_wp2_with (first | (go_quiet (fail)) | fail)
      first
        | refine ⟨⟨k + 1, q, by omega, by go_num, val_i (by have := HZ.out; omega), rfl⟩, by simp [intOf]; omega⟩
        | refine ⟨⟨k + 1, _, by omega, by go_num, val_i (by have := HZ.out; omega), rfl⟩, by simp [intOf]; omega⟩
    · obtain rfl : k = n := by omega
      go_wp2
      go_ret
      exact ⟨rfl, below_drewN (Below.refl _ _) _⟩
end Go.Proofs.Ytpljcpeghjplnaa
