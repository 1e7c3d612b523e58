/-
  What the specification draws for the chapter on stability: lists of loads and numbers. No statement of the seat by itself.
-/
import Derived.Test.YtndafdjllbhbfaaDLd
namespace Go.Proofs.Ytndafdjllbhbfaa.D
open Go.RowKit

/-- The code that came in: len bytes that can be read. -/
def CodeA (w : World) (a : Option Addr) (len : Nat) : Prop := len ≤ 65536 ∧ ∀ j, j < len → ∃ (cb off : Nat) (x : UInt8), a = some ⟨cb, off, none⟩ ∧ cb < w.heap.size ∧ w.cell? ⟨cb, off + j, none⟩ = some (.int .u8 (x.toNat : Int))
theorem CodeA.below {w w' : World} {a : Option Addr} {len : Nat} (h : CodeA w a len) (hb : Below w.heap.size w w') : CodeA w' a len := ⟨h.1, fun j hj => by
  obtain ⟨cb, off, x, e, hlt, hc⟩ := h.2 j hj
  exact ⟨cb, off, x, e, Nat.lt_of_lt_of_le hlt hb.size, (hb.cell (p := ⟨cb, off + j, none⟩) hlt).trans hc⟩⟩
theorem curA_new (w : World) (a : Option Addr) (len cap : Nat) (h : CodeA w a len) : Cur (w.alloc (.cells #[.slice a len cap, .int .i64 0, .int .u64 0] 73)) w.heap.size (.slice a len cap) 0 := by
  have hb : Below w.heap.size w (w.alloc (.cells #[.slice a len cap, .int .i64 0, .int .u64 0] 73)) := (Below.refl _ _).alloc (Nat.le_refl _) _
  refine ⟨a, len, cap, 0, 0, rfl, h.1, heap_alloc_new w _, Nat.le_refl _, fun j hj => ?_⟩
  obtain ⟨cb, off, x, e, hlt, hc⟩ := h.2 j hj
  exact ⟨cb, off, x, e, hlt, (hb.cell (p := ⟨cb, off + j, none⟩) hlt).trans hc⟩
theorem ListI.less {W : World} {g n m : Nat} {P : Int → Prop} (h : ListI W g n P) (hm : m ≤ n) : ListI W g m P := ⟨h.1, fun j hj => h.2 j (by omega)⟩
theorem ListI.grown {W W' : World} {g n b : Nat} {P : Int → Prop} (h : ListI W g n P) (hg : W.grownBy W' (some b)) (hb : g ≠ b) : ListI W' g n P :=
  ⟨Nat.lt_of_lt_of_le h.1 hg.size, fun j hj => by
    obtain ⟨x, hx, hp⟩ := h.2 j hj
    exact ⟨x, by rw [World.cell?_of_block (hg.block g h.1 (by simpa using hb))]; exact hx, hp⟩⟩
/-- A number was drawn. -/
def NumD (w : World) (b : Nat) (v : Value) (M : Nat) : Ending → World → Prop := NumP w b v M (fun _ => True)

set_option maxRecDepth 100000 in
set_option maxHeartbeats 4000000 in
theorem shipWeight_any (b N : Nat) (v : Value) (hN : N ≤ 600000) (w : World) (h : Cur w b v N) :
    Calls Try.prog 60 #[.pointer (some ⟨b, 0, none⟩)] w (NumD w b v (N + 8)) := by
  have hbw := h.lt
  have HL := Lib.hid (listI_new w (.cells #[.int .i64 1, .int .i64 1000, .int .i64 100000, .int .i64 10000000, .int .i64 0, .int .i64 10000001] 3) [1, 1000, 100000, 10000000, 0, 10000001] (fun _ => True) rfl (fun _ _ => trivial))
  have HC := Lib.hid (h.alloc (.cells #[.int .i64 1, .int .i64 1000, .int .i64 100000, .int .i64 10000000, .int .i64 0, .int .i64 10000001] 3))
  have HG := Lib.hid (World.grownBy_alloc w (.cells #[.int .i64 1, .int .i64 1000, .int .i64 100000, .int .i64 10000000, .int .i64 0, .int .i64 10000001] 3) (some b))
  have hn : w.heap.size ≠ b := by omega
  clear h
  go_enter Try.func60, Try.ntmps60
  go_wp2_with fail
  refine (pick_any b N 24 v (by omega) (by decide) (by decide) _ HC.out).mono ?_
  rintro e w1 ⟨x, rfl, hx, hc, hg⟩
  have HL1 := Lib.hid (HL.out.grown hg hn)
  have HC1 := Lib.hid hc
  have HG1 := Lib.hid (Lib.grownBy_trans HG.out hg)
  clear hc hg HL HC HG
  rcases (by omega : x / 11 = 0 ∨ x / 11 = 1 ∨ x / 11 = 2) with e | e | e
  case' inl => obtain ⟨m, hm⟩ : ∃ m : Nat, m = 4 := ⟨_, rfl⟩
  case' inr.inl => obtain ⟨m, hm⟩ : ∃ m : Nat, m = 5 := ⟨_, rfl⟩
  case' inr.inr => obtain ⟨m, hm⟩ : ∃ m : Nat, m = 6 := ⟨_, rfl⟩
  all_goals
    have f1 : (x : Int).tdiv 11 = ((x / 11 : Nat) : Int) := rfl
    have f2 : (x : Int) / 11 = ((x / 11 : Nat) : Int) := by omega
    rw [e] at f1 f2
    have HM := Lib.hid (among_any b (N + 4) w.heap.size m 6 (fun _ => True) v (by omega) (by omega) (by omega) w1 HC1.out hn (HL1.out.less (by subst hm; decide)))
    subst hm
    clear e
    go_wp2_with fail
    refine HM.out.mono ?_
    rintro e w2 ⟨s, rfl, -, hc, hg⟩
    have HG2 := Lib.hid (Lib.grownBy_trans HG1.out hg)
    have HC2 := Lib.hid hc
    clear hc hg
    go_wp2_with fail
    go_ret
    exact ⟨s, rfl, trivial, HC2.out, HG2.out⟩

set_option maxRecDepth 100000 in
set_option maxHeartbeats 4000000 in
theorem decimeters_any (b N : Nat) (v : Value) (hN : N ≤ 600000) (w : World) (h : Cur w b v N) :
    Calls Try.prog 61 #[.pointer (some ⟨b, 0, none⟩)] w (NumD w b v (N + 8)) := by
  have hbw := h.lt
  have HL := Lib.hid (listI_new w (.cells #[.int .i64 0, .int .i64 60, .int .i64 90, .int .i64 120, .int .i64 400, .int .i64 (-1), .int .i64 401] 3) [0, 60, 90, 120, 400, -1, 401] (fun _ => True) rfl (fun _ _ => trivial))
  have HC := Lib.hid (h.alloc (.cells #[.int .i64 0, .int .i64 60, .int .i64 90, .int .i64 120, .int .i64 400, .int .i64 (-1), .int .i64 401] 3))
  have HG := Lib.hid (World.grownBy_alloc w (.cells #[.int .i64 0, .int .i64 60, .int .i64 90, .int .i64 120, .int .i64 400, .int .i64 (-1), .int .i64 401] 3) (some b))
  have hn : w.heap.size ≠ b := by omega
  clear h
  go_enter Try.func61, Try.ntmps61
  go_wp2_with fail
  refine (pick_any b N 24 v (by omega) (by decide) (by decide) _ HC.out).mono ?_
  rintro e w1 ⟨x, rfl, hx, hc, hg⟩
  have HL1 := Lib.hid (HL.out.grown hg hn)
  have HC1 := Lib.hid hc
  have HG1 := Lib.hid (Lib.grownBy_trans HG.out hg)
  clear hc hg HL HC HG
  rcases (by omega : x / 11 = 0 ∨ x / 11 = 1 ∨ x / 11 = 2) with e | e | e
  case' inl => obtain ⟨m, hm⟩ : ∃ m : Nat, m = 5 := ⟨_, rfl⟩
  case' inr.inl => obtain ⟨m, hm⟩ : ∃ m : Nat, m = 6 := ⟨_, rfl⟩
  case' inr.inr => obtain ⟨m, hm⟩ : ∃ m : Nat, m = 7 := ⟨_, rfl⟩
  all_goals
    have f1 : (x : Int).tdiv 11 = ((x / 11 : Nat) : Int) := rfl
    have f2 : (x : Int) / 11 = ((x / 11 : Nat) : Int) := by omega
    rw [e] at f1 f2
    have HM := Lib.hid (among_any b (N + 4) w.heap.size m 7 (fun _ => True) v (by omega) (by omega) (by omega) w1 HC1.out hn (HL1.out.less (by subst hm; decide)))
    subst hm
    clear e
    go_wp2_with fail
    refine HM.out.mono ?_
    rintro e w2 ⟨s, rfl, -, hc, hg⟩
    have HG2 := Lib.hid (Lib.grownBy_trans HG1.out hg)
    have HC2 := Lib.hid hc
    clear hc hg
    go_wp2_with fail
    go_ret
    exact ⟨s, rfl, trivial, HC2.out, HG2.out⟩

/-- While the arguments are drawn: the draws' state is the first new block, the list. -/
def DrL (w : World) (v : Value) (W : World) (M : Nat) (sv : Value) (T : List (Int × Int × Int)) : Prop := Cur W w.heap.size v M ∧ Below w.heap.size w W ∧ LdL W sv T ∧ ∃ b2, w.heap.size < b2 ∧ W.ownsRow b2 50 3 sv T.length (flatLd T)
theorem DrL.start {w W : World} {M : Nat} {v v0 c1 c2 : Value} {sv : Value} {T : List (Int × Int × Int)} (h : LdS (w.alloc (.cells #[v0, c1, c2] 73)) w.heap.size v W M sv T) : DrL w v W M sv T := by
  have hb := below_one w (.cells #[v0, c1, c2] 73)
  exact ⟨h.1, hb.grown h.2.1 hb.size (fun k e => by cases e; omega), LdL.of_owns h.2.2.1, _, by simp, h.2.2.1⟩
theorem DrL.drawn {w W W' : World} {M M' : Nat} {v sv : Value} {T : List (Int × Int × Int)} (h : DrL w v W M sv T) (hc : Cur W' w.heap.size v M') (hg : W.grownBy W' (some w.heap.size)) : DrL w v W' M' sv T := by
  obtain ⟨h1, h2, h3, b2, hb2, h4⟩ := h
  have h5 := h4.kept hg (by
    cases hv : sv.ownBlock with
    | none => exact .inl rfl
    | some j => exact .inr fun e => by have := row_base h4 j hv; cases e; omega)
  exact ⟨hc, h2.grown hg h2.size (fun k e => by cases e; omega), LdL.of_owns h5, b2, hb2, h5⟩
theorem DrL.alloc {w W : World} {M : Nat} {v sv : Value} {T : List (Int × Int × Int)} (h : DrL w v W M sv T) (o : Obj) : DrL w v (W.alloc o) M sv T := by
  obtain ⟨h1, h2, h3, b2, hb2, h4⟩ := h
  exact ⟨h1.alloc o, h2.alloc h2.size _, h3.below (below_one W o), b2, hb2, h4.alloc o⟩

/-- Loads were drawn for a law. -/
def DrawnL (w : World) (e : Ending) (w' : World) : Prop := ∃ (T : List (Int × Int × Int)) (a : Option Addr) (c : Nat), e = .returned (.slice a T.length c) ∧ T.length ≤ 30 ∧ LdL w' (.slice a T.length c) T ∧ Below w.heap.size w w'
def DrawnL1 (w : World) (e : Ending) (w' : World) : Prop := ∃ (T : List (Int × Int × Int)) (a : Option Addr) (c : Nat) (x : Int), e = .returned (.tuple #[.slice a T.length c, .int .i64 x]) ∧ T.length ≤ 30 ∧ LdL w' (.slice a T.length c) T ∧ Below w.heap.size w w'
def DrawnL2 (w : World) (e : Ending) (w' : World) : Prop := ∃ (T : List (Int × Int × Int)) (a : Option Addr) (c : Nat) (x y : Int), e = .returned (.tuple #[.slice a T.length c, .int .i64 x, .int .i64 y]) ∧ T.length ≤ 30 ∧ LdL w' (.slice a T.length c) T ∧ Below w.heap.size w w'
def DrawnL3 (w : World) (e : Ending) (w' : World) : Prop := ∃ (T : List (Int × Int × Int)) (a : Option Addr) (c : Nat) (x y z : Int), e = .returned (.tuple #[.slice a T.length c, .int .i64 x, .int .i64 y, .int .i64 z]) ∧ T.length ≤ 30 ∧ LdL w' (.slice a T.length c) T ∧ Below w.heap.size w w'

set_option maxHeartbeats 2000000 in
theorem drawVal_any (a : Option Addr) (len cap : Nat) (w : World) (h : CodeA w a len) : Calls Try.prog 52 #[.slice a len cap] w (DrawnL w) := by
  have HC := Lib.hid (curA_new w a len cap h)
  clear h
  go_enter Try.func52, Try.ntmps52
  go_wp2_with fail
  refine (loads_any w.heap.size 0 (.slice a len cap) (by decide) _ HC.out).mono ?_
  rintro e w1 ⟨T, a1, c1, rfl, hT, hS⟩
  have HS := Lib.hid (DrL.start hS)
  clear hS
  go_wp2_with fail
  go_ret
  exact ⟨T, a1, c1, rfl, hT, HS.out.2.2.1, HS.out.2.1⟩
set_option maxHeartbeats 2000000 in
theorem drawAc_any (a : Option Addr) (len cap : Nat) (w : World) (h : CodeA w a len) : Calls Try.prog 16 #[.slice a len cap] w (DrawnL w) := by
  have HC := Lib.hid (drawVal_any a len cap w h)
  clear h
  go_enter Try.func16, Try.ntmps16
  go_wp2_with fail
  refine HC.out.mono ?_
  rintro e w1 ⟨T, a1, c1, rfl, hT, hL, hb⟩
  have HL := Lib.hid hL
  have HB := Lib.hid hb
  clear hL hb
  go_wp2_with fail
  go_ret
  exact ⟨T, a1, c1, rfl, hT, HL.out, HB.out⟩
set_option maxHeartbeats 2000000 in
theorem drawBs_any (a : Option Addr) (len cap : Nat) (w : World) (h : CodeA w a len) : Calls Try.prog 33 #[.slice a len cap] w (DrawnL w) := by
  have HC := Lib.hid (drawVal_any a len cap w h)
  clear h
  go_enter Try.func33, Try.ntmps33
  go_wp2_with fail
  refine HC.out.mono ?_
  rintro e w1 ⟨T, a1, c1, rfl, hT, hL, hb⟩
  have HL := Lib.hid hL
  have HB := Lib.hid hb
  clear hL hb
  go_wp2_with fail
  go_ret
  exact ⟨T, a1, c1, rfl, hT, HL.out, HB.out⟩
set_option maxHeartbeats 2000000 in
theorem drawWa_any (a : Option Addr) (len cap : Nat) (w : World) (h : CodeA w a len) : Calls Try.prog 25 #[.slice a len cap] w (DrawnL1 w) := by
  have HC := Lib.hid (curA_new w a len cap h)
  clear h
  go_enter Try.func25, Try.ntmps25
  go_wp2_with fail
  refine (loads_any w.heap.size 0 (.slice a len cap) (by decide) _ HC.out).mono ?_
  rintro e w1 ⟨T, a1, c1, rfl, hT, hS⟩
  have HS := Lib.hid (DrL.start hS)
  clear hS
  go_wp2_with fail
  refine (decimeters_any w.heap.size _ _ (by decide) _ HS.out.1).mono ?_
  rintro e w2 ⟨x, rfl, -, hc, hg⟩
  have HS2 := Lib.hid (HS.out.drawn hc hg)
  clear hc hg
  go_wp2_with fail
  go_ret2
  exact ⟨T, a1, c1, x, rfl, hT, HS2.out.2.2.1, HS2.out.2.1⟩
set_option maxHeartbeats 4000000 in
theorem drawMa_any (a : Option Addr) (len cap : Nat) (w : World) (h : CodeA w a len) : Calls Try.prog 21 #[.slice a len cap] w (DrawnL3 w) := by
  have HC := Lib.hid (curA_new w a len cap h)
  clear h
  go_enter Try.func21, Try.ntmps21
  go_wp2_with fail
  refine (loads_any w.heap.size 0 (.slice a len cap) (by decide) _ HC.out).mono ?_
  rintro e w1 ⟨T, a1, c1, rfl, hT, hS⟩
  have HS := Lib.hid (DrL.start hS)
  clear hS
  go_wp2_with fail
  refine (shipWeight_any w.heap.size _ _ (by decide) _ HS.out.1).mono ?_
  rintro e w2 ⟨x, rfl, -, hc, hg⟩
  have HS2 := Lib.hid (HS.out.drawn hc hg)
  clear hc hg
  go_wp2_with fail
  refine (decimeters_any w.heap.size _ _ (by decide) _ HS2.out.1).mono ?_
  rintro e w3 ⟨y, rfl, -, hc, hg⟩
  have HS3 := Lib.hid (HS2.out.drawn hc hg)
  clear hc hg
  go_wp2_with fail
  refine (decimeters_any w.heap.size _ _ (by decide) _ HS3.out.1).mono ?_
  rintro e w4 ⟨z, rfl, -, hc, hg⟩
  have HS4 := Lib.hid (HS3.out.drawn hc hg)
  clear hc hg
  go_wp2_with fail
  refine bodyPost_ret (v := .tuple #[.slice a1 T.length c1, .int .i64 x, .int .i64 y, .int .i64 z]) (by simp [results, Try.results21, go_sem]) rfl ?_
  exact ⟨T, a1, c1, x, y, z, rfl, hT, HS4.out.2.2.1, HS4.out.2.1⟩
end Go.Proofs.Ytndafdjllbhbfaa.D
