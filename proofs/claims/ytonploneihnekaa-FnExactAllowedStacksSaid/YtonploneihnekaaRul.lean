/-
  What impl.brokenRules answers. No statement of the seat by itself.
-/
import Derived.Test.YtonploneihnekaaFndK
import Derived.Deep.DeepCutAuto
namespace Go.Proofs.Ytonploneihnekaa
open Go.RowKit

/-- What stands below, as impl holds it. -/
def belV : Option C.Cont → Value
  | none => .iface 67 (.agg #[])
  | some b => .iface 63 (.agg (C.contV b))
/-- A list of ints that reads so was answered. -/
def SeenI (w : World) (R : List Int) (e : Ending) (w' : World) : Prop := ∃ u B, e = .returned u ∧ w'.ownsRow B 3 1 u R.length (intV R) ∧ Below w.heap.size w w'
theorem as_ground (W : World) (v : Value) : (Instr.typeAssert (.iface 67 v) 20 67 true).run Try.prog W = .ok (.tuple #[v, .bool true]) W := by kernel_rfl
theorem as_noground (W : World) (v : Value) : (Instr.typeAssert (.iface 63 v) 20 67 true).run Try.prog W = .ok (.tuple #[.agg #[], .bool false]) W := by kernel_rfl
theorem as_cont (W : World) (v : Value) : (Instr.typeAssert (.iface 63 v) 20 63 true).run Try.prog W = .ok (.tuple #[v, .bool true]) W := by kernel_rfl
/-- While the rules are asked by brokenRules, two containers in boxes. -/
def RulS (w wr : World) (cx cb : Array Value) (v : Value) (L : List Int) : Prop := Below w.heap.size w wr ∧ wr.heap[w.heap.size]? = some (.cells cx 63 (0, 0)) ∧ wr.heap[w.heap.size + 1]? = some (.cells cb 63 (0, 0)) ∧ wr.ownsRow (w.heap.size + 2) 3 1 v L.length (intV L) ∧ L.length ≤ 4
theorem RulS.push {w wr w4 : World} {cx cb : Array Value} {v v' : Value} {L : List Int} {x : Int} (o : Obj) (h : RulS w wr cx cb v L) (hl : L.length ≤ 3) (ho : w4.ownsRow (w.heap.size + 2) 3 1 v' (L.length + 1) (intV L ++ [.int .i64 x])) (hg : (wr.alloc o).grownBy w4 v.ownBlock) : RulS w w4 cx cb v' (L ++ [x]) := by
  obtain ⟨h1, h2, h3, h4, h5⟩ := h
  have hb := below_one wr o
  have h4' := row_below h4 hb
  refine ⟨(h1.trans (hb.mono h1.size)).grown hg (by have := h1.size; simp; omega) (fun j e => by have := row_base h4 j e; omega), blk_grown (blk_alloc h2 o) h4' (by decide) hg, blk_grown (blk_alloc h3 o) h4' (by decide) hg, ?_, by simp; omega⟩
  have e : intV L ++ [.int .i64 x] = intV (L ++ [x]) := by simp [intV]
  rw [e] at ho
  simpa using ho
theorem RulS.done {w wr : World} {cx cb : Array Value} {v : Value} {L : List Int} (h : RulS w wr cx cb v L) : SeenI w L (.returned v) wr := ⟨v, _, rfl, h.2.2.2.1, h.1⟩
theorem RulS.size {w wr : World} {cx cb : Array Value} {v : Value} {L : List Int} (h : RulS w wr cx cb v L) : w.heap.size + 2 ≤ wr.heap.size := (Array.getElem?_eq_some_iff.1 h.2.2.1).1

set_option maxRecDepth 100000 in
set_option maxHeartbeats 8000000 in
theorem rul_some (c b : C.Cont) (pw : Bool) (w : World) :
    Calls Try.prog 45 #[.agg (C.contV c), belV (some b), .bool pw] w (SeenI w (rulL c (some b) pw)) := by
  obtain ⟨f3, hi3, hz0, hz1, hz2⟩ := info_is info3
  obtain ⟨R4, hR4⟩ : ∃ R, rulL c (some b) pw = R := ⟨_, rfl⟩
  have HR : Hid (rulT c (some b) pw 4 = R4) := Lib.hid (by rw [rulT_four]; exact hR4)
  rw [hR4]
  have hb1 := brk_1 c b pw
  have hb2 := brk_2 c b pw
  have hb3 := brk_3 c b pw
  have hb4 := brk_4 c (some b) pw
  have H1 : Hid (rulT c (some b) pw 1 = [] ++ (if b.weight < c.weight then [1] else [])) := Lib.hid (by simp only [rulT, Nat.zero_add, hb1]; split <;> simp_all)
  have H2 : Hid (rulT c (some b) pw 2 = rulT c (some b) pw 1 ++ (if c.size ≠ b.size then [2] else [])) := Lib.hid (by rw [rulT, hb2]; split <;> simp_all)
  have H3 : Hid (rulT c (some b) pw 3 = rulT c (some b) pw 2 ++ (if c.cargo = 3 then [3] else [])) := Lib.hid (by rw [rulT, hb3]; split <;> simp_all)
  have H4 : Hid (R4 = rulT c (some b) pw 3 ++ (if c.cargo = 2 ∧ pw = false then [4] else [])) := Lib.hid (by rw [← HR.out, rulT, hb4]; split <;> simp_all)
  have L1 := rulT_len c (some b) pw 1
  have L2 := rulT_len c (some b) pw 2
  have L3 := rulT_len c (some b) pw 3
  generalize rulT c (some b) pw 1 = R1 at *
  generalize rulT c (some b) pw 2 = R2 at *
  generalize rulT c (some b) pw 3 = R3 at *
  clear hR4 hb1 hb2 hb3 hb4 HR
  obtain ⟨xi, xs, xw, xc, xp⟩ := c
  obtain ⟨yi, ys, yw, yc, yp⟩ := b
  have S0 : Hid (RulS w ((w.alloc (.cells #[.string xi, .int .i64 xs, .int .i64 xw, .int .i64 xc, .int .i64 xp] 63)).alloc (.cells #[.string yi, .int .i64 ys, .int .i64 yw, .int .i64 yc, .int .i64 yp] 63)) #[.string xi, .int .i64 xs, .int .i64 xw, .int .i64 xc, .int .i64 xp] #[.string yi, .int .i64 ys, .int .i64 yw, .int .i64 yc, .int .i64 yp] (.slice none 0 0) []) := Lib.hid (by
    refine ⟨(below_one w _).trans ((below_one _ _).mono (by simp)), blk_alloc (heap_alloc_new w _) _, ?_, ⟨rfl, .inl ⟨rfl, rfl⟩⟩, by simp⟩
    have := heap_alloc_new (w.alloc (.cells #[.string xi, .int .i64 xs, .int .i64 xw, .int .i64 xc, .int .i64 xp] 63)) (.cells #[.string yi, .int .i64 ys, .int .i64 yw, .int .i64 yc, .int .i64 yp] 63)
    rw [show (w.alloc (.cells #[.string xi, .int .i64 xs, .int .i64 xw, .int .i64 xc, .int .i64 xp] 63)).heap.size = w.heap.size + 1 by simp] at this
    exact this)
  have ta1 := fun W => as_noground W (.agg #[.string yi, .int .i64 ys, .int .i64 yw, .int .i64 yc, .int .i64 yp])
  have ta2 := fun W => as_cont W (.agg #[.string yi, .int .i64 ys, .int .i64 yw, .int .i64 yc, .int .i64 yp])
  simp only [C.contV, belV] at *
  go_enter Try.func45, Try.ntmps45
  go_upto_region 7 with fail
  clear ta1 ta2
  generalize (w.alloc (.cells #[.string xi, .int .i64 xs, .int .i64 xw, .int .i64 xc, .int .i64 xp] 63)).alloc (.cells #[.string yi, .int .i64 ys, .int .i64 yw, .int .i64 yc, .int .i64 yp] 63) = w0 at *
  have x2 := cell_of (i := 2) S0.out.2.1 rfl
  have y2 := cell_of (i := 2) S0.out.2.2.1 rfl
  go_upto_if 21 with fail
  go_cut [7] (fun u wx => Hid (RulS w wx #[.string xi, .int .i64 xs, .int .i64 xw, .int .i64 xc, .int .i64 xp] #[.string yi, .int .i64 ys, .int .i64 yw, .int .i64 yc, .int .i64 yp] u R1))
  case first =>
    by_cases hcd : yw < xw
    · have hd : decide (yw < xw) = true := by simp [hcd]
      have HN := H1
      rw [if_pos hcd] at HN
      have hrow : w0.ownsRow (w.heap.size + 2) 3 1 (.slice none 0 0) 0 [] := S0.out.2.2.2.1
      have hsz := S0.out.size
      go_wp2_with (at_builtin; refine wpList_append_own _ rfl _ _ 44 rfl (w.heap.size + 2) 3 f3 (.int .i64 0) 1 8 Try.underlying44 hi3 hz0 hz1 hz2 rfl (by decide) _ _ _ rfl (hrow.alloc _) ⟨w0.heap.size, 0, none⟩ 1 1 [.int .i64 1] rfl rfl (cell_one_new _ _ _) (by simp [Value.oneCell']) (by unfold maxLen; omega) (by omega) (by simp; omega) ?_; intro v' w4 hown' hgrow hnil)
      have HQ : Hid (RulS w w4 #[.string xi, .int .i64 xs, .int .i64 xw, .int .i64 xc, .int .i64 xp] #[.string yi, .int .i64 ys, .int .i64 yw, .int .i64 yc, .int .i64 yp] v' R1) := Lib.hid (by rw [HN.out]; exact S0.out.push _ (by simp) hown' hgrow)
      clear hown' hgrow hnil hrow hsz
      go_meet
      exact HQ
    · have hd : decide (yw < xw) = false := by simp; omega
      have HN : Hid (RulS w w0 #[.string xi, .int .i64 xs, .int .i64 xw, .int .i64 xc, .int .i64 xp] #[.string yi, .int .i64 ys, .int .i64 yw, .int .i64 yc, .int .i64 yp] (.slice none 0 0) R1) := Lib.hid (by rw [H1.out, if_neg hcd, List.append_nil]; exact S0.out)
      have hle : xw ≤ yw := by omega
      clear hcd
      go_wp2_with fail
      go_meet
      exact HN
  case rest =>
    rename World => w1
    have S1 := hcut
    obtain ⟨a1, c1, he1⟩ := own_form S1.out.2.2.2.1
    subst he1
    clear hcut x2 S0 H1 y2
    have x1 := cell_of (i := 1) S1.out.2.1 rfl
    have y1 := cell_of (i := 1) S1.out.2.2.1 rfl
    go_upto_if 29 with fail
    go_cut [7] (fun u wx => Hid (RulS w wx #[.string xi, .int .i64 xs, .int .i64 xw, .int .i64 xc, .int .i64 xp] #[.string yi, .int .i64 ys, .int .i64 yw, .int .i64 yc, .int .i64 yp] u R2))
    case first =>
      by_cases hcd : xs ≠ ys
      · have hd : (xs != ys) = true := by simp [hcd]
        have HN := H2
        rw [if_pos hcd] at HN
        clear hcd
        have hrow := S1.out.2.2.2.1
        have hl4 := S1.out.2.2.2.2
        have hsz := S1.out.size
        go_wp2_with (at_builtin; refine wpList_append_own _ rfl _ _ 44 rfl (w.heap.size + 2) 3 f3 (.int .i64 0) 1 8 Try.underlying44 hi3 hz0 hz1 hz2 rfl (by decide) _ _ _ rfl (hrow.alloc _) ⟨w1.heap.size, 0, none⟩ 1 1 [.int .i64 2] rfl rfl (cell_one_new _ _ _) (by simp [Value.oneCell']) (by unfold maxLen; omega) (by omega) (by simp; omega) ?_; intro v' w4 hown' hgrow hnil)
        have HQ : Hid (RulS w w4 #[.string xi, .int .i64 xs, .int .i64 xw, .int .i64 xc, .int .i64 xp] #[.string yi, .int .i64 ys, .int .i64 yw, .int .i64 yc, .int .i64 yp] v' R2) := Lib.hid (by rw [HN.out]; exact S1.out.push _ (by omega) hown' hgrow)
        clear hown' hgrow hnil hrow hsz hl4
        go_meet
        exact HQ
      · have hd : (xs != ys) = false := by simpa using hcd
        have HN : Hid (RulS w w1 #[.string xi, .int .i64 xs, .int .i64 xw, .int .i64 xc, .int .i64 xp] #[.string yi, .int .i64 ys, .int .i64 yw, .int .i64 yc, .int .i64 yp] (.slice a1 R1.length c1) R2) := Lib.hid (by rw [H2.out, if_neg hcd, List.append_nil]; exact S1.out)
        clear hcd
        go_wp2_with fail
        go_meet
        exact HN
    case rest =>
      rename World => w2
      have S2 := hcut
      obtain ⟨a2, c2, he2⟩ := own_form S2.out.2.2.2.1
      subst he2
      clear hcut x1 S1 H2 y1
      have x3 := cell_of (i := 3) S2.out.2.1 rfl
      by_cases hc3 : xc = 3
      · have hd3 : (xc == 3) = true := by simp [hc3]
        have HN := H3
        rw [if_pos hc3] at HN
        clear hc3
        have hrow := S2.out.2.2.2.1
        have hl4 := S2.out.2.2.2.2
        have hsz := S2.out.size
        go_upto_region 13 with (at_builtin; refine wpList_append_own _ rfl _ _ 44 rfl (w.heap.size + 2) 3 f3 (.int .i64 0) 1 8 Try.underlying44 hi3 hz0 hz1 hz2 rfl (by decide) _ _ _ rfl (hrow.alloc _) ⟨w2.heap.size, 0, none⟩ 1 1 [.int .i64 3] rfl rfl (cell_one_new _ _ _) (by simp [Value.oneCell']) (by unfold maxLen; omega) (by omega) (by simp; omega) ?_; intro v' w4 hown' hgrow hnil)
        have S3 : Hid (RulS w w4 #[.string xi, .int .i64 xs, .int .i64 xw, .int .i64 xc, .int .i64 xp] #[.string yi, .int .i64 ys, .int .i64 yw, .int .i64 yc, .int .i64 yp] v' R3) := Lib.hid (by rw [HN.out]; exact S2.out.push _ (by omega) hown' hgrow)
        clear hown' hgrow hnil hrow hsz hl4 x3 HN S2 hd3
        obtain ⟨a3, c3, rfl⟩ := own_form S3.out.2.2.2.1
        have x3 := cell_of (i := 3) S3.out.2.1 rfl
        by_cases hcd : xc = 2 ∧ pw = false
        · have hd : (xc == 2) = true := by simp [hcd.1]
          have HN := H4
          rw [if_pos hcd] at HN
          obtain ⟨-, rfl⟩ := hcd
          have hrow := S3.out.2.2.2.1
          have hl4 := S3.out.2.2.2.2
          have hsz := S3.out.size
          go_wp2_with (at_builtin; refine wpList_append_own _ rfl _ _ 44 rfl (w.heap.size + 2) 3 f3 (.int .i64 0) 1 8 Try.underlying44 hi3 hz0 hz1 hz2 rfl (by decide) _ _ _ rfl (hrow.alloc _) ⟨w4.heap.size, 0, none⟩ 1 1 [.int .i64 4] rfl rfl (cell_one_new _ _ _) (by simp [Value.oneCell']) (by unfold maxLen; omega) (by omega) (by simp; omega) ?_; intro v' w5 hown' hgrow hnil)
          have HQ : Hid (RulS w w5 #[.string xi, .int .i64 xs, .int .i64 xw, .int .i64 xc, .int .i64 xp] #[.string yi, .int .i64 ys, .int .i64 yw, .int .i64 yc, .int .i64 yp] v' R4) := Lib.hid (by rw [HN.out]; exact S3.out.push _ (by omega) hown' hgrow)
          clear hown' hgrow hnil hrow hsz hl4
          go_wp2_with fail
          go_ret
          exact HQ.out.done
        · have HN : Hid (RulS w w4 #[.string xi, .int .i64 xs, .int .i64 xw, .int .i64 xc, .int .i64 xp] #[.string yi, .int .i64 ys, .int .i64 yw, .int .i64 yc, .int .i64 yp] (.slice a3 R3.length c3) R4) := Lib.hid (by rw [H4.out, if_neg hcd, List.append_nil]; exact S3.out)
          cases pw with
          | true =>
            clear hcd
            by_cases hc2 : xc = 2
            · have hd : (xc == 2) = true := by simpa using hc2
              clear hc2
              go_wp2_with fail
              go_ret
              exact HN.out.done
            · have hd : (xc == 2) = false := by simpa using hc2
              clear hc2
              go_wp2_with fail
              go_ret
              exact HN.out.done
          | false =>
            have hd : (xc == 2) = false := by simpa using hcd
            clear hcd
            go_wp2_with fail
            go_ret
            exact HN.out.done
      · have hd3 : (xc == 3) = false := by simpa using hc3
        have S3 : Hid (RulS w w2 #[.string xi, .int .i64 xs, .int .i64 xw, .int .i64 xc, .int .i64 xp] #[.string yi, .int .i64 ys, .int .i64 yw, .int .i64 yc, .int .i64 yp] (.slice a2 R2.length c2) R3) := Lib.hid (by rw [H3.out, if_neg hc3, List.append_nil]; exact S2.out)
        have e3 : R2.length = R3.length := by have := H3.out; rw [if_neg hc3, List.append_nil] at this; rw [this]
        clear hc3
        go_upto_region 13 with fail
        rw [e3] at S3 ⊢
        clear x3 hd3 S2 H3 e3
        have x3 := cell_of (i := 3) S3.out.2.1 rfl
        by_cases hcd : xc = 2 ∧ pw = false
        · have hd : (xc == 2) = true := by simp [hcd.1]
          have HN := H4
          rw [if_pos hcd] at HN
          obtain ⟨-, rfl⟩ := hcd
          have hrow := S3.out.2.2.2.1
          have hl4 := S3.out.2.2.2.2
          have hsz := S3.out.size
          go_wp2_with (at_builtin; refine wpList_append_own _ rfl _ _ 44 rfl (w.heap.size + 2) 3 f3 (.int .i64 0) 1 8 Try.underlying44 hi3 hz0 hz1 hz2 rfl (by decide) _ _ _ rfl (hrow.alloc _) ⟨w2.heap.size, 0, none⟩ 1 1 [.int .i64 4] rfl rfl (cell_one_new _ _ _) (by simp [Value.oneCell']) (by unfold maxLen; omega) (by omega) (by simp; omega) ?_; intro v' w5 hown' hgrow hnil)
          have HQ : Hid (RulS w w5 #[.string xi, .int .i64 xs, .int .i64 xw, .int .i64 xc, .int .i64 xp] #[.string yi, .int .i64 ys, .int .i64 yw, .int .i64 yc, .int .i64 yp] v' R4) := Lib.hid (by rw [HN.out]; exact S3.out.push _ (by omega) hown' hgrow)
          clear hown' hgrow hnil hrow hsz hl4
          go_wp2_with fail
          go_ret
          exact HQ.out.done
        · have HN : Hid (RulS w w2 #[.string xi, .int .i64 xs, .int .i64 xw, .int .i64 xc, .int .i64 xp] #[.string yi, .int .i64 ys, .int .i64 yw, .int .i64 yc, .int .i64 yp] (.slice a2 R3.length c2) R4) := Lib.hid (by rw [H4.out, if_neg hcd, List.append_nil]; exact S3.out)
          cases pw with
          | true =>
            clear hcd
            by_cases hc2 : xc = 2
            · have hd : (xc == 2) = true := by simpa using hc2
              clear hc2
              go_wp2_with fail
              go_ret
              exact HN.out.done
            · have hd : (xc == 2) = false := by simpa using hc2
              clear hc2
              go_wp2_with fail
              go_ret
              exact HN.out.done
          | false =>
            have hd : (xc == 2) = false := by simpa using hcd
            clear hcd
            go_wp2_with fail
            go_ret
            exact HN.out.done

set_option maxRecDepth 100000 in
set_option maxHeartbeats 8000000 in
theorem rul_none (c : C.Cont) (pw : Bool) (w : World) :
    Calls Try.prog 45 #[.agg (C.contV c), belV none, .bool pw] w (SeenI w (rulL c none pw)) := by
  obtain ⟨f3, hi3, hz0, hz1, hz2⟩ := info_is info3
  have HR : Hid (rulL c none pw = if c.cargo = 2 ∧ pw = false then [4] else []) := Lib.hid rfl
  generalize rulL c none pw = R at *
  obtain ⟨xi, xs, xw, xc, xp⟩ := c
  have ta1 := fun W => as_ground W (.agg #[])
  have hb0 : Below w.heap.size w ((w.alloc (.cells #[.string xi, .int .i64 xs, .int .i64 xw, .int .i64 xc, .int .i64 xp] 63)).alloc (.cells #[] 67)) := (below_one w _).trans ((below_one _ _).mono (by simp))
  have HB := Lib.hid hb0
  have x3 : ((w.alloc (.cells #[.string xi, .int .i64 xs, .int .i64 xw, .int .i64 xc, .int .i64 xp] 63)).alloc (.cells #[] 67)).cell? ⟨w.heap.size, 3, none⟩ = some (.int .i64 xc) := cell_of (blk_alloc (heap_alloc_new w _) _) rfl
  have hsz : w.heap.size + 2 ≤ ((w.alloc (.cells #[.string xi, .int .i64 xs, .int .i64 xw, .int .i64 xc, .int .i64 xp] 63)).alloc (.cells #[] 67)).heap.size := by simp
  clear hb0
  simp only [C.contV, belV] at *
  go_enter Try.func45, Try.ntmps45
  go_upto_region 13 with fail
  clear ta1
  generalize (w.alloc (.cells #[.string xi, .int .i64 xs, .int .i64 xw, .int .i64 xc, .int .i64 xp] 63)).alloc (.cells #[] 67) = w0 at *
  by_cases hcd : xc = 2 ∧ pw = false
  · have hd : (xc == 2) = true := by simp [hcd.1]
    have HN := HR
    rw [if_pos hcd] at HN
    obtain ⟨-, rfl⟩ := hcd
    have hrow : w0.ownsRow (w.heap.size + 2) 3 1 (.slice none 0 0) 0 [] := ⟨rfl, .inl ⟨rfl, rfl⟩⟩
    go_wp2_with (at_builtin; refine wpList_append_own _ rfl _ _ 44 rfl (w.heap.size + 2) 3 f3 (.int .i64 0) 1 8 Try.underlying44 hi3 hz0 hz1 hz2 rfl (by decide) _ _ _ rfl (hrow.alloc _) ⟨w0.heap.size, 0, none⟩ 1 1 [.int .i64 4] rfl rfl (cell_one_new _ _ _) (by simp [Value.oneCell']) (by unfold maxLen; omega) (by omega) (by simp; omega) ?_; intro v' w5 hown' hgrow hnil)
    have hgrow2 : (w0.alloc (.cells #[.int .i64 4] 3)).grownBy w5 (Value.slice none 0 0).ownBlock := hgrow
    have HQ : Hid (SeenI w R (.returned v') w5) := Lib.hid ⟨v', _, rfl, by rw [HN.out]; exact hown', (HB.out.trans ((below_one w0 _).mono HB.out.size)).grown hgrow2 (by have := HB.out.size; simp; omega) (fun j e => by simp [Value.ownBlock] at e)⟩
    clear hown' hgrow hgrow2 hnil hrow hsz
    go_ret
    exact HQ.out
  · have HQ : Hid (SeenI w R (.returned (.slice none 0 0)) w0) := Lib.hid ⟨_, 0, rfl, by rw [HR.out, if_neg hcd]; exact ⟨rfl, .inl ⟨rfl, rfl⟩⟩, HB.out⟩
    cases pw with
    | true =>
      clear hcd
      by_cases hc2 : xc = 2
      · have hd : (xc == 2) = true := by simpa using hc2
        clear hc2
        go_wp2_with fail
        go_ret
        exact HQ.out
      · have hd : (xc == 2) = false := by simpa using hc2
        clear hc2
        go_wp2_with fail
        go_ret
        exact HQ.out
    | false =>
      have hd : (xc == 2) = false := by simpa using hcd
      clear hcd
      go_wp2_with fail
      go_ret
      exact HQ.out
theorem rul_any (c : C.Cont) (b : Option C.Cont) (pw : Bool) (w : World) :
    Calls Try.prog 45 #[.agg (C.contV c), belV b, .bool pw] w (SeenI w (rulL c b pw)) := by
  cases b with
  | none => exact rul_none c pw w
  | some b => exact rul_some c b pw w
end Go.Proofs.Ytonploneihnekaa
