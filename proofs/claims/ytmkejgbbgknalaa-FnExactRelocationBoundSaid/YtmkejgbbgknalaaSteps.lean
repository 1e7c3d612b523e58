/-
  Lists of steps in memory, and the laws' own helpers on them: szStepS, toStepS, eqStepS, markStepS, heldStepS. No statement of the seat by itself.
-/
import Derived.Test.YtmkejgbbgknalaaKeep
namespace Go.Proofs.Ytmkejgbbgknalaa
open Go.RowKit

/-- The cells of a list of steps. -/
def flatS : List (Int × Int) → List Value
  | [] => []
  | c :: l => .int .i64 c.1 :: .int .i64 c.2 :: flatS l
theorem flatS_len : ∀ l : List (Int × Int), (flatS l).length = l.length * 2
  | [] => rfl
  | c :: l => by
    rw [flatS, List.length_cons, List.length_cons, flatS_len l, List.length_cons]
    omega
theorem flatS_app : ∀ (l m : List (Int × Int)), flatS (l ++ m) = flatS l ++ flatS m
  | [], m => rfl
  | d :: l, m => by rw [List.cons_append, flatS, flatS, flatS_app l m, List.cons_append, List.cons_append]
theorem flatS_at : ∀ (l : List (Int × Int)) (j : Nat) (s : Int × Int), l[j]? = some s → (flatS l)[j * 2]? = some (.int .i64 s.1) ∧ (flatS l)[j * 2 + 1]? = some (.int .i64 s.2)
  | [], j, s, h => by simp at h
  | c :: l, 0, s, h => by
    simp at h
    subst h
    exact ⟨rfl, rfl⟩
  | c :: l, j + 1, s, h => by
    have ih := flatS_at l j s (by simpa using h)
    rw [flatS, show (j + 1) * 2 = j * 2 + 1 + 1 by omega, List.getElem?_cons_succ, List.getElem?_cons_succ, List.getElem?_cons_succ, List.getElem?_cons_succ]
    exact ih
theorem flatS_ext {l : List (Int × Int)} {xs : List Value} (hx : xs.length = l.length * 2) (h : ∀ j s, l[j]? = some s → xs[j * 2]? = some (.int .i64 s.1) ∧ xs[j * 2 + 1]? = some (.int .i64 s.2)) : xs = flatS l := by
  refine List.ext_getElem? fun i => ?_
  rcases Nat.lt_or_ge i (l.length * 2) with hi | hi
  · obtain ⟨s, hs⟩ : ∃ s, l[i / 2]? = some s := get_at rfl (by omega)
    have h1 := h _ _ hs
    have h2 := flatS_at _ _ _ hs
    rcases Nat.mod_two_eq_zero_or_one i with e | e
    · rw [show i = i / 2 * 2 by omega, h1.1, h2.1]
    · rw [show i = i / 2 * 2 + 1 by omega, h1.2, h2.2]
  · rw [List.getElem?_eq_none (by omega), List.getElem?_eq_none (by rw [flatS_len]; omega)]
/-- The two cells of a step. -/
def SCells (w : World) (g o : Nat) (c : Int × Int) : Prop := w.cell? ⟨g, o, none⟩ = some (.int .i64 c.1) ∧ w.cell? ⟨g, o + 1, none⟩ = some (.int .i64 c.2)
/-- A slice that reads as a list of steps. -/
def SL (w : World) (v : Value) (S : List (Int × Int)) : Prop := ∃ a c, v = .slice a S.length c ∧ (0 < S.length → ∃ g off, a = some ⟨g, off, none⟩ ∧ g < w.heap.size ∧ ∀ j s, S[j]? = some s → SCells w g (off + j * 2) s)
theorem SL.below {w w' : World} {v : Value} {S : List (Int × Int)} (h : SL w v S) (hb : Below w.heap.size w w') : SL w' v S := by
  obtain ⟨a, c, rfl, h⟩ := h
  refine ⟨a, c, rfl, fun h0 => ?_⟩
  obtain ⟨g, off, rfl, hg, hc⟩ := h h0
  exact ⟨g, off, rfl, Nat.lt_of_lt_of_le hg hb.size, fun j s hs => ⟨(hb.cell (p := ⟨g, _, none⟩) hg).trans (hc j s hs).1, (hb.cell (p := ⟨g, _, none⟩) hg).trans (hc j s hs).2⟩⟩
theorem SL.form {w : World} {v : Value} {S : List (Int × Int)} (h : SL w v S) : ∃ a c, v = .slice a S.length c := by
  obtain ⟨a, c, rfl, h⟩ := h
  exact ⟨_, _, rfl⟩
theorem SL.nil (w : World) (a : Option Addr) (c : Nat) : SL w (.slice a 0 c) [] := ⟨a, c, rfl, fun h => by simp at h⟩
theorem sl_of_owns {W : World} {base n : Nat} {v : Value} {S : List (Int × Int)} (h : W.ownsRow base 80 2 v n (flatS S)) : SL W v S := by
  have hn : n = S.length := by have := h.1; rw [flatS_len] at this; omega
  subst hn
  obtain ⟨a, c, rfl⟩ := own_form h
  refine ⟨a, c, rfl, fun h0 => ?_⟩
  rcases h.2 with ⟨_, hz⟩ | ⟨g, cap, cur, hv, hg, hb, _⟩
  · omega
  · injection hv with e1 e2 e3
    subst e1 e3
    refine ⟨g, 0, rfl, (Array.getElem?_eq_some_iff.1 hb).1, fun j s hs => ?_⟩
    have hj := lt_of_get hs
    have hp := flatS_at _ _ _ hs
    rw [Nat.zero_add]
    exact ⟨(h.cellAt (j * 2) (by omega)).trans hp.1, (h.cellAt (j * 2 + 1) (by omega)).trans hp.2⟩
/-- A list of steps of the call's own, in blocks from B to hi. -/
def SO (w : World) (B hi : Nat) (v : Value) (S : List (Int × Int)) : Prop := hi ≤ w.heap.size ∧ w.ownsRow B 80 2 v S.length (flatS S) ∧ ∀ b, v.ownBlock = some b → b < hi
theorem SO.read {w : World} {B hi : Nat} {v : Value} {S : List (Int × Int)} (h : SO w B hi v S) : SL w v S := sl_of_owns h.2.1
theorem SO.span {w w' : World} {B hi lo' hi' : Nat} {v : Value} {S : List (Int × Int)} (h : SO w B hi v S) (hs : Span lo' hi' w w') (ho : hi ≤ lo' ∨ hi' ≤ B) : SO w' B hi v S :=
  ⟨Nat.le_trans h.1 hs.size, own_span h.2.1 hs fun b hb => by have := h.2.2 b hb; have := row_base h.2.1 b hb; omega, h.2.2⟩
theorem SO.below {w w' : World} {B hi : Nat} {v : Value} {S : List (Int × Int)} (h : SO w B hi v S) (hb : Below w.heap.size w w') : SO w' B hi v S :=
  h.span (Span.of_below (lo := w.heap.size) (hi := w.heap.size) hb) (.inl h.1)
theorem SO.none (w : World) (B hi : Nat) (hh : hi ≤ w.heap.size) : SO w B hi (.slice none 0 0) [] := ⟨hh, ⟨rfl, .inl ⟨rfl, rfl⟩⟩, fun b hb => by cases hb⟩

theorem szS_any (a : Option Addr) (n cap L : Nat) (hn : n ≤ maxLen) (hL : L ≤ 1048576) (w : World) :
    Calls Try.prog 15 #[.slice a n cap, .int .i64 (L : Int)] w fun e w' => e = .returned (.int .i64 (if n ≤ L then ((L - n : Nat) : Int) else -1)) ∧ w = w' := by
  unfold maxLen at hn
  by_cases h : n ≤ L
  · rw [if_pos h]
    go_enter Try.func15, Try.ntmps15
    go_wp2
    go_ret
    exact ⟨ret_i (by omega), rfl⟩
  · rw [if_neg h]
    go_enter Try.func15, Try.ntmps15
    go_wp2
    go_ret
    exact ⟨rfl, rfl⟩

theorem infoS : (Try.prog.info? 80).map (fun i => (i.zero, i.size, i.bytes)) = some (some (.agg #[.int .i64 0, .int .i64 0]), 2, 16) := by kernel_rfl
/-- make([]impl.Step, n). -/
theorem make_steps (n : Nat) (hn : n ≤ 1048576) (W : World) : ∃ W' xs, (Instr.makeSlice 33 (.int .i64 (n : Int)) (.int .i64 (n : Int))).run Try.prog W = .ok (.slice (some ⟨W.heap.size, 0, none⟩) n n) W' ∧
    W'.ownsRow W.heap.size 80 2 (.slice (some ⟨W.heap.size, 0, none⟩) n n) n xs ∧ Below W.heap.size W W' := by
  obtain ⟨i, hi, hz, hs, hb⟩ := info_is infoS
  obtain ⟨W', h1, h2, h3⟩ := run_make_full (P := Try.prog) W W.heap.size 33 80 i _ 2 Try.underlying33 hi hz hs .i64 .i64 n (by rw [hb]; omega) (by unfold maxLen; omega) (Nat.le_refl _)
  exact ⟨W', _, h1, h2, below_of_none h3⟩

/-- While a copy is made: the first k steps are there. -/
def CopyS (w wr : World) (v : Value) (n k : Nat) (S : List (Int × Int)) : Prop := ∃ xs, wr.ownsRow w.heap.size 80 2 v n xs ∧ (∀ j s, j < k → S[j]? = some s → xs[j * 2]? = some (.int .i64 s.1) ∧ xs[j * 2 + 1]? = some (.int .i64 s.2)) ∧ Below w.heap.size w wr
theorem copyS_step {w wr : World} {g n cap k : Nat} {S : List (Int × Int)} {a b : Int} (h : CopyS w wr (.slice (some ⟨g, 0, none⟩) n cap) n k S) (hk : k < n) (hx : S[k]? = some (a, b)) :
    CopyS w ((wr.setCell ⟨g, k * 2, none⟩ (.int .i64 a)).setCell ⟨g, k * 2 + 1, none⟩ (.int .i64 b)) (.slice (some ⟨g, 0, none⟩) n cap) n (k + 1) S := by
  obtain ⟨xs, h1, h2, h3⟩ := h
  have s1 := (h1.stored (k * 2) (.int .i64 a)).1
  have s2 := (s1.stored (k * 2 + 1) (.int .i64 b)).1
  have hl := h1.1
  refine ⟨_, s2, fun j s hj hs => ?_, (h3.setCell (p := ⟨g, k * 2, none⟩) (row_base h1 g rfl) _).setCell (p := ⟨g, k * 2 + 1, none⟩) (row_base h1 g rfl) _⟩
  by_cases e : j = k
  · subst e
    rw [hx] at hs
    cases hs
    refine ⟨?_, ?_⟩
    · rw [List.getElem?_set_ne (by omega), List.getElem?_set_self (by omega)]
    · rw [List.getElem?_set_self (by rw [List.length_set]; omega)]
  · have h0 := h2 j s (by omega) hs
    rw [List.getElem?_set_ne (by omega), List.getElem?_set_ne (by omega), List.getElem?_set_ne (by omega), List.getElem?_set_ne (by omega)]
    exact h0
theorem CopyS.below {w wr w1 : World} {v : Value} {n k : Nat} {S : List (Int × Int)} (h : CopyS w wr v n k S) (hb : Below wr.heap.size wr w1) : CopyS w w1 v n k S := by
  obtain ⟨xs, h1, h2, h3⟩ := h
  exact ⟨xs, row_below h1 hb, h2, h3.trans (hb.mono h3.size)⟩
theorem ownS_cell {w : World} {B g n cap i : Nat} {xs : List Value} (h : w.ownsRow B 80 2 (.slice (some ⟨g, 0, none⟩) n cap) n xs) (hi : i < n * 2) : (∃ x, w.cell? ⟨g, i, none⟩ = some x) ∧ w.frozen? ⟨g, i, none⟩ = false := by
  refine ⟨?_, h.frozenAt i⟩
  have hl := h.1
  rw [h.cellAt i hi]
  exact get_at rfl (by omega)
/-- A list of steps of the call's own was answered, and nothing older turned. -/
def NewS (w : World) (S : List (Int × Int)) (e : Ending) (w' : World) : Prop := ∃ a c, e = .returned (.slice a S.length c) ∧ w'.ownsRow w.heap.size 80 2 (.slice a S.length c) S.length (flatS S) ∧ Below w.heap.size w w'
theorem copyS_done {w wr : World} {g n cap : Nat} {S : List (Int × Int)} (h : CopyS w wr (.slice (some ⟨g, 0, none⟩) n cap) n n S) (hn : S.length = n) : NewS w S (.returned (.slice (some ⟨g, 0, none⟩) n cap)) wr := by
  obtain ⟨xs, h1, h2, h3⟩ := h
  subst hn
  have e := flatS_ext h1.1 fun j s hs => h2 j s (lt_of_get hs) hs
  subst e
  exact ⟨_, _, rfl, h1, h3⟩

set_option maxRecDepth 100000 in
set_option maxHeartbeats 1000000 in
theorem toStep_any (a b : Int) (w : World) : Calls Try.prog 65 #[.agg #[.int .i64 a, .int .i64 b]] w fun e w' => e = .returned (.agg #[.int .i64 a, .int .i64 b]) ∧ Below w.heap.size w w' := by
  go_enter Try.func65, Try.ntmps65
  go_wp2_with fail
  refine bodyPost_ret (v := .agg #[.int .i64 a, .int .i64 b]) ?_ rfl ⟨rfl, (three_alloc w _ _ _).2.2.2.2⟩
  obtain ⟨hk0, hk1, hk2, hs, hB0⟩ := three_alloc w (.cells #[.int .i64 a, .int .i64 b] 82) (.cells #[.int .i64 a, .int .i64 b] 80) (.cells #[.int .i64 a, .int .i64 b] 80)
  have e0 := cell_of hk1 (i := 0) rfl
  have e1 := cell_of hk1 (i := 1) rfl
  clear hk0 hk1 hk2 hs hB0
  generalize ((w.alloc (.cells #[.int .i64 a, .int .i64 b] 82)).alloc (.cells #[.int .i64 a, .int .i64 b] 80)).alloc (.cells #[.int .i64 a, .int .i64 b] 80) = W at *
  simp [results, Try.results65, go_sem, e0, e1]

set_option maxRecDepth 100000 in
set_option maxHeartbeats 2000000 in
theorem toS_any (v : Value) (S : List (Int × Int)) (hn : S.length ≤ 1048576) (w : World) (h : SL w v S) :
    Calls Try.prog 18 #[v] w (NewS w S) := by
  obtain ⟨a, cap, rfl, hc⟩ := h
  obtain ⟨n, hl⟩ : ∃ n, S.length = n := ⟨_, rfl⟩
  have HN := Lib.hid hl
  rw [hl] at hn ⊢
  obtain ⟨W', xs, hmk, hown, hbl⟩ := make_steps n hn w
  have HC := Lib.hid hc
  have R0 : Hid (CopyS w W' (.slice (some ⟨w.heap.size, 0, none⟩) n n) n 0 S) := Lib.hid ⟨xs, hown, fun j s hj => by omega, hbl⟩
  clear hc hown hbl hl
  go_enter Try.func18, Try.ntmps18
  go_wp2_with fail
  clear hmk
  go_loopw [4] (fun i wr => ∃ k : Nat, k ≤ n ∧ i = .int .i64 k ∧ Hid (CopyS w wr (.slice (some ⟨w.heap.size, 0, none⟩) n n) n k S)) (fun i _ => n - (intOf i).toNat)
  case atStart => exact ⟨0, Nat.zero_le _, rfl, R0⟩
  case round =>
    obtain ⟨k, hk, rfl, HR⟩ := hrel
    by_cases hlt : k < n
    · obtain ⟨g, off, rfl, hg, hcc⟩ := HC.out (by have := HN.out; omega)
      obtain ⟨s, hs⟩ := get_at HN.out hlt
      obtain ⟨p, q⟩ := s
      obtain ⟨hp0, hq0⟩ := hcc k _ hs
      have HB : Below w.heap.size w wr := by obtain ⟨_, _, _, hb⟩ := HR.out; exact hb
      have h0 : wr.cell? ⟨g, off + k * 2, none⟩ = some (.int .i64 p) := (HB.cell (p := ⟨g, off + k * 2, none⟩) hg).trans hp0
      have h1 : wr.cell? ⟨g, off + k * 2 + 1, none⟩ = some (.int .i64 q) := (HB.cell (p := ⟨g, off + k * 2 + 1, none⟩) hg).trans hq0
      have HS := Lib.hid hs
      have HZ := Lib.hid (fun W => toStep_any p q W)
      clear hcc hs hp0 hq0 HB
      go_wp2_with fail
      refine (HZ.out _).mono ?_
      rintro e w1 ⟨rfl, hb1⟩
      have HR1 := Lib.hid (HR.out.below hb1)
      have KT := Lib.hid (copyS_step HR1.out hlt HS.out)
      clear hb1 h0 h1
      have HO : ∃ xs, w1.ownsRow w.heap.size 80 2 (.slice (some ⟨w.heap.size, 0, none⟩) n n) n xs := by obtain ⟨xs, h, _⟩ := HR1.out; exact ⟨xs, h⟩
      obtain ⟨xs1, hx1⟩ := HO
      obtain ⟨⟨x0, y0⟩, z0⟩ := ownS_cell hx1 (i := k * 2) (by omega)
      obtain ⟨⟨x1, y1⟩, z1⟩ := ownS_cell hx1 (i := k * 2 + 1) (by omega)
      clear hx1
      go_wp2_with fail
      refine ⟨⟨k + 1, by omega, by go_num, KT⟩, by simp [intOf]; omega⟩
    · obtain rfl : k = n := by omega
      have HX := Lib.hid (copyS_done HR.out HN.out)
      go_wp2_with fail
      go_ret
      exact HX.out
end Go.Proofs.Ytmkejgbbgknalaa
