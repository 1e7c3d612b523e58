/-
  What the two BestLoading return. No statement of the seat by itself.
-/
import Derived.Test.YthpiahellpnccaaNext
namespace Go.Proofs.Ythpiahellpnccaa
open Go.RowKit

/-- The days from a call to the next call at a port. -/
def distTo (n : Nat) (p d : Nat → Int) (to : Int) (k : Nat) : Int := match nextC n p k to with
  | some q => wayD n d k q
  | none => 0
theorem distTo_some {n : Nat} {p d : Nat → Int} {to : Int} {k q : Nat} (h : nextC n p k to = some q) : distTo n p d to k = wayD n d k q := by simp [distTo, h]
/-- The best of the first k calls. -/
def bestF (n : Nat) (p d : Nat → Int) (fro to : Int) : Nat → Option Nat
  | 0 => none
  | k + 1 => if p k = fro then (match bestF n p d fro to k with
    | none => some k
    | some b => if distTo n p d to k < distTo n p d to b then some k else some b) else bestF n p d fro to k
theorem bestF_skip {n : Nat} {p d : Nat → Int} {fro to : Int} {k : Nat} (h : ¬ p k = fro) : bestF n p d fro to (k + 1) = bestF n p d fro to k := by rw [bestF, if_neg h]
theorem bestF_first {n : Nat} {p d : Nat → Int} {fro to : Int} {k : Nat} (h : p k = fro) (hb : bestF n p d fro to k = none) : bestF n p d fro to (k + 1) = some k := by rw [bestF, if_pos h, hb]
theorem bestF_less {n : Nat} {p d : Nat → Int} {fro to : Int} {k b : Nat} (h : p k = fro) (hb : bestF n p d fro to k = some b) (hl : distTo n p d to k < distTo n p d to b) : bestF n p d fro to (k + 1) = some k := by rw [bestF, if_pos h, hb]; exact if_pos hl
theorem bestF_more {n : Nat} {p d : Nat → Int} {fro to : Int} {k b : Nat} (h : p k = fro) (hb : bestF n p d fro to k = some b) (hl : ¬ distTo n p d to k < distTo n p d to b) : bestF n p d fro to (k + 1) = some b := by rw [bestF, if_pos h, hb]; exact if_neg hl
theorem bestF_lt {n : Nat} {p d : Nat → Int} {fro to : Int} : ∀ k b, bestF n p d fro to k = some b → b < k
  | 0, b, h => by cases h
  | k + 1, b, h => by
    by_cases hp : p k = fro
    · cases hb : bestF n p d fro to k with
      | none => rw [bestF_first hp hb] at h; cases h; omega
      | some c =>
        by_cases hl : distTo n p d to k < distTo n p d to c
        · rw [bestF_less hp hb hl] at h; cases h; omega
        · rw [bestF_more hp hb hl] at h; cases h
          have := bestF_lt k b hb; omega
    · rw [bestF_skip hp] at h
      have := bestF_lt k b h; omega
/-- The call that BestLoading answers. -/
def bestO (n m : Nat) (p d : Nat → Int) (fro to : Int) : Option Nat := if rotB n m p d = true ∧ fro ≠ to ∧ nextC n p 0 to ≠ none then bestF n p d fro to n else none
def optD (n : Nat) (p d : Nat → Int) (to : Int) : Option Nat → Int
  | some k => distTo n p d to k
  | none => 0
def optZ : Option Nat → Int
  | some k => (k : Int)
  | none => 0
theorem distTo_bd {n m : Nat} {p d : Nat → Int} (h : Good n m p d) (to : Int) (k : Nat) (hk : k < n) : 0 ≤ distTo n p d to k ∧ distTo n p d to k ≤ 480 := by
  have hb := sumD_bd h n (Nat.le_refl _)
  have h12 := h.top
  unfold distTo
  split
  · rename_i q hq
    have := wayD_bd h k q hk (nextC_some hq).1
    omega
  · omega
theorem distTo_in {n : Nat} {p : Nat → Int} {to : Int} {k : Nat} (h : nextC n p 0 to ≠ none) (h0 : 0 < n) (hk : k < n) : ∃ q, nextC n p k to = some q ∧ q < n := by
  cases hc : nextC n p k to with
  | none => exact absurd (nextC_none_any hk h0 hc) h
  | some q => exact ⟨q, rfl, (nextC_some hc).1⟩

theorem below_drew1 {n : Nat} {w w1 : World} (h : Below n w w1) : Below n w w1.drew := ⟨h.os, h.tape, h.output, h.size, h.block⟩
/-- A world in which all that lay in W lies unturned. -/
structure Later (W : World) where
  w : World
  h : Below W.heap.size W w
instance (W : World) : Inhabited (Later W) := ⟨⟨W, Below.refl _ _⟩⟩
/-- A region that draws its order, whose operations read and whose callees may lay blocks of their own: walked once, in the order of the text. -/
theorem wp_region_later {P : Program} {id : Nat} {Q : Exit → Act → World → Prop} {a : Act} {w : World} {l : List Oper} (hm : P.follows .mixedOrders = true) (hB : Region.lexB .any l.toArray = true)
    (h : wpQuiet P l.toArray (fun w' => ∃ p : Later w, w' = p.w) (fun a' => ∀ w', (∃ p : Later w, w' = p.w) → Q .normal a' w') l a) : (Code.region id l.toArray true).wp P Q a w :=
  wp_region_quiet (C := fun w' => ∃ p : Later w, w' = p.w) hm hB ⟨⟨w.drew, below_drew1 (Below.refl _ w)⟩, rfl⟩ (by simpa using h)
theorem calls_later {P : Program} {f : FuncId} {args : Array Value} {W : World} {p : Later W} {v : Value} (h : Calls P f args p.w fun e w' => e = .returned v ∧ Below p.w.heap.size p.w w') : Calls P f args p.w fun e w'' => e = .returned v ∧ ∃ p : Later W, w'' = p.w :=
  h.mono fun _ w' ⟨he, hb⟩ => ⟨he, ⟨w', p.h.trans (hb.mono p.h.size)⟩, rfl⟩
theorem Later.cell {W : World} {b o : Nat} {v : Value} (hb : b < W.heap.size) (hc : W.cell? ⟨b, o, none⟩ = some v) (p : Later W) : p.w.cell? ⟨b, o, none⟩ = some v := (p.h.cell (p := ⟨b, o, none⟩) hb).trans hc

/-- The state of spec.BestLoading's loop: the best call, -1 for none, and its days. -/
def BestS (n : Nat) (p d : Nat → Int) (fro to : Int) (k : Nat) (b l : Value) : Prop := ∃ o, bestF n p d fro to k = o ∧ b = .int .i64 (optI o) ∧ l = .int .i64 (optD n p d to o)

set_option maxRecDepth 100000 in
set_option maxHeartbeats 4000000 in
theorem specBest_rows (g1 o1 c1 g2 o2 c2 n : Nat) (p d : Nat → Int) (fro to : Int) (hr : rotB n n p d = true) (hft : fro ≠ to) (hto : nextC n p 0 to ≠ none) (w : World) (h1 : IAt w g1 o1 n p) (h2 : IAt w g2 o2 n d) :
    Calls Try.prog 19 #[.agg #[.slice (some ⟨g1, o1, none⟩) n c1, .slice (some ⟨g2, o2, none⟩) n c2], .int .i64 fro, .int .i64 to] w (TripP w (optZ (bestF n p d fro to n)) (optD n p d to (bestF n p d fro to n)) (bestF n p d fro to n).isSome) := by
  have hG := good_of hr
  have HV : Hid (ArgR w (.agg #[.slice (some ⟨g1, o1, none⟩) n c1, .slice (some ⟨g2, o2, none⟩) n c2]) n n p d) := Lib.hid ⟨_, _, rfl, .inr ⟨_, _, _, rfl, h1⟩, .inr ⟨_, _, _, rfl, h2⟩⟩
  have h0 := hG.pos
  have h12 := hG.top
  have hnm : n ≤ maxLen := by unfold maxLen; omega
  have HG := Lib.hid hG
  have I1 := Lib.hid h1
  have I2 := Lib.hid h2
  have HR := Lib.hid hr
  have HT := Lib.hid hto
  have hfb : (fro == to) = false := by simpa using hft
  obtain ⟨q0, hq0, hq0n⟩ := distTo_in (k := 0) hto (by omega) (by omega)
  have HQ0 := Lib.hid hq0
  have HP : Hid (∀ o, bestF n p d fro to n = o → optZ (bestF n p d fro to n) = optZ o ∧ optD n p d to (bestF n p d fro to n) = optD n p d to o ∧ (bestF n p d fro to n).isSome = o.isSome) := Lib.hid fun o h => by rw [h]; exact ⟨rfl, rfl, rfl⟩
  generalize optZ (bestF n p d fro to n) = Z at *
  generalize optD n p d to (bestF n p d fro to n) = D at *
  generalize (bestF n p d fro to n).isSome = S at *
  clear hr hG h1 h2 hto hq0 hft
  go_enter Try.func19, Try.ntmps19
  go_wp2_with fail
  refine (specGood_any _ n n p d hnm hnm _ (HV.out.below (below_one w _))).mono ?_
  rw [HR.out]
  rintro e w1 ⟨rfl, hb⟩
  have B := Lib.hid ((below_one w (.cells #[.slice (some ⟨g1, o1, none⟩) n c1, .slice (some ⟨g2, o2, none⟩) n c2] 26)).trans (hb.mono (by simp)))
  have c0 : w1.cell? ⟨w.heap.size, 0, none⟩ = some (.slice (some ⟨g1, o1, none⟩) n c1) := (hb.cell (p := ⟨w.heap.size, 0, none⟩) (by simp)).trans (by simp)
  have c1' : w1.cell? ⟨w.heap.size, 1, none⟩ = some (.slice (some ⟨g2, o2, none⟩) n c2) := (hb.cell (p := ⟨w.heap.size, 1, none⟩) (by simp)).trans (by simp)
  have hz : w.heap.size < w1.heap.size := by have := hb.size; simp at this; omega
  clear hb
  go_wp2_with fail
  refine (l3Next_rows _ g1 o1 c1 n p 0 to h0 h12 (by omega) _ (I1.out.below B.out)).mono ?_
  rw [HQ0.out]
  simp only [optI]
  rintro e w2 ⟨rfl, hb2⟩
  have B2 : Hid (Below w.heap.size w w2) := Lib.hid (B.out.trans (hb2.mono B.out.size))
  have d0 := (hb2.cell (p := ⟨w.heap.size, 0, none⟩) hz).trans c0
  have d1 := (hb2.cell (p := ⟨w.heap.size, 1, none⟩) hz).trans c1'
  have hz2 := Nat.lt_of_lt_of_le hz hb2.size
  have D0 := Lib.hid d0
  have D1 := Lib.hid d1
  clear hb2 c0 c1' hz
  go_wp2_with fail
  go_loopw [9, 10, 11] (fun b l i wr => ∃ k : Nat, k ≤ n ∧ i = .int .i64 k ∧ BestS n p d fro to k b l ∧ Hid (Below w2.heap.size w2 wr)) (fun _ _ i _ => n - (intOf i).toNat)
  case atStart => exact ⟨0, Nat.zero_le _, rfl, ⟨none, rfl, rfl, rfl⟩, Lib.hid (Below.refl _ _)⟩
  case round =>
    obtain ⟨k, hk, rfl, ⟨o, hO, rfl, rfl⟩, HB⟩ := hrel
    have HO := Lib.hid hO
    clear hO
    have s0 := (HB.out.cell (p := ⟨w.heap.size, 0, none⟩) hz2).trans D0.out
    have s1 := (HB.out.cell (p := ⟨w.heap.size, 1, none⟩) hz2).trans D1.out
    have hzr := Nat.lt_of_lt_of_le hz2 HB.out.size
    clear d0 d1
    by_cases hlt : k < n
    · have BW : Hid (Below w.heap.size w wr) := Lib.hid (B2.out.trans (HB.out.mono B2.out.size))
      have a1 := (I1.out.below BW.out).2 k hlt
      by_cases hp : p k = fro
      · have hpb : (p k != fro) = false := by simpa using hp
        obtain ⟨q, hq, hqn⟩ := distTo_in HT.out h0 hlt
        have HD := Lib.hid (distTo_some (d := d) hq)
        have HN : Hid (∀ W : Later wr, Calls Try.prog 51 #[.agg #[.slice (some ⟨g1, o1, none⟩) n c1, .slice (some ⟨g2, o2, none⟩) n c2], .int .i64 (k : Int), .int .i64 to] W.w fun e w' => e = .returned (.int .i64 (q : Int)) ∧ Below W.w.heap.size W.w w') := Lib.hid fun W => by
          have := l3Next_rows (.slice (some ⟨g2, o2, none⟩) n c2) g1 o1 c1 n p k to h0 h12 hlt W.w ((I1.out.below BW.out).below W.h)
          rw [hq] at this
          exact this
        have HY : Hid (∀ W : Later wr, Calls Try.prog 48 #[.agg #[.slice (some ⟨g1, o1, none⟩) n c1, .slice (some ⟨g2, o2, none⟩) n c2], .int .i64 (k : Int), .int .i64 (q : Int)] W.w fun e w' => e = .returned (.int .i64 (distTo n p d to k)) ∧ Below W.w.heap.size W.w w') := Lib.hid fun W => by
          rw [distTo_some hq]
          exact l3Days_rows _ g2 o2 c2 n p d HG.out k q hlt hqn W.w ((I2.out.below BW.out).below W.h)
        have L0 := fun W : Later wr => W.cell hzr s0
        have L1 := fun W : Later wr => W.cell hzr s1
        have bd1 := distTo_bd HG.out to k hlt
        obtain ⟨bd2, bd3⟩ := bd1
        cases o with
        | none =>
          have HF : Hid (BestS n p d fro to (k + 1) (.int .i64 (k : Int)) (.int .i64 (distTo n p d to k))) := Lib.hid ⟨some k, bestF_first hp HO.out, rfl, rfl⟩
          clear hp hq
          generalize p k = x at *
          generalize distTo n p d to k = y at *
          simp only [optI, optD] at *
          go_wp2_with fail
          refine wp_region_later (by kernel_rfl) (by kernel_rfl) ?_
          repeat (go_big_quiet_step ((first | (go_at_call 51; exact calls_later (HN.out _)) | (go_at_call 48; exact calls_later (HY.out _)))))
          refine wpQuiet_nil ?_
          intro w5 hw'
          have h5 : Below wr.heap.size wr w5 := by obtain ⟨p, rfl⟩ := hw'; exact p.h
          have B5 := Lib.hid (HB.out.trans (h5.mono HB.out.size))
          clear hw' h5 L0 L1
          go_wp2_with fail
          exact ⟨⟨k + 1, by omega, by go_num, HF.out, B5⟩, by simp [intOf]; omega⟩
        | some b =>
          have hbk := bestF_lt k b HO.out
          have bd4 := distTo_bd HG.out to b (by omega)
          obtain ⟨bd5, bd6⟩ := bd4
          have hb0 : decide ((b : Int) < 0) = false := by first | (simp; done) | (simp; omega)
          by_cases hl : distTo n p d to k < distTo n p d to b
          · have HF : Hid (BestS n p d fro to (k + 1) (.int .i64 (k : Int)) (.int .i64 (distTo n p d to k))) := Lib.hid ⟨some k, bestF_less hp HO.out hl, rfl, rfl⟩
            simp only [optI, optD] at *
            clear hp hq
            generalize p k = x at *
            generalize distTo n p d to k = y at *
            generalize distTo n p d to b = yb at *
            go_wp2_with fail
            refine wp_region_later (by kernel_rfl) (by kernel_rfl) ?_
            repeat (go_big_quiet_step ((first | (go_at_call 51; exact calls_later (HN.out _)) | (go_at_call 48; exact calls_later (HY.out _)))))
            refine wpQuiet_nil ?_
            intro w5 hw'
            have h5 : Below wr.heap.size wr w5 := by obtain ⟨p, rfl⟩ := hw'; exact p.h
            have B5 := Lib.hid (HB.out.trans (h5.mono HB.out.size))
            clear hw' h5 L0 L1
            go_wp2_with fail
            exact ⟨⟨k + 1, by omega, by go_num, HF.out, B5⟩, by simp [intOf]; omega⟩
          · have HF : Hid (BestS n p d fro to (k + 1) (.int .i64 (b : Int)) (.int .i64 (distTo n p d to b))) := Lib.hid ⟨some b, bestF_more hp HO.out hl, rfl, rfl⟩
            simp only [optI, optD] at *
            have hl2 : decide (distTo n p d to k < distTo n p d to b) = false := by simp; omega
            clear hp hq
            generalize p k = x at *
            generalize distTo n p d to k = y at *
            generalize distTo n p d to b = yb at *
            go_wp2_with fail
            refine wp_region_later (by kernel_rfl) (by kernel_rfl) ?_
            repeat (go_big_quiet_step ((first | (go_at_call 51; exact calls_later (HN.out _)) | (go_at_call 48; exact calls_later (HY.out _)))))
            refine wpQuiet_nil ?_
            intro w5 hw'
            have h5 : Below wr.heap.size wr w5 := by obtain ⟨p, rfl⟩ := hw'; exact p.h
            have B5 := Lib.hid (HB.out.trans (h5.mono HB.out.size))
            clear hw' h5 L0 L1
            go_wp2_with fail
            exact ⟨⟨k + 1, by omega, by go_num, HF.out, B5⟩, by simp [intOf]; omega⟩
      · have hpb : (p k != fro) = true := by simpa using hp
        have HF : Hid (∀ b l, b = .int .i64 (optI o) → l = .int .i64 (optD n p d to o) → BestS n p d fro to (k + 1) b l) := Lib.hid fun b l hb hl => ⟨o, (bestF_skip hp).trans HO.out, hb, hl⟩
        clear hp
        generalize p k = x at *
        generalize optI o = bi at *
        generalize optD n p d to o = li at *
        go_wp2_with fail
        exact ⟨⟨k + 1, by omega, by go_num, HF.out _ _ rfl rfl, HB⟩, by simp [intOf]; omega⟩
    · obtain rfl : k = n := by omega
      have BF : Hid (Below w.heap.size w wr) := Lib.hid (B2.out.trans (HB.out.mono B2.out.size))
      have HX := Lib.hid (HP.out o HO.out)
      cases o with
      | none =>
        simp only [optI, optD]
        go_wp2_with fail
        go_ret3
        exact ⟨by rw [HX.out.1, HX.out.2.1, HX.out.2.2]; rfl, BF.out⟩
      | some b =>
        have hb0 : decide ((b : Int) < 0) = false := by first | (simp; done) | (simp; omega)
        have HXD : Hid (D = distTo k p d to b) := Lib.hid HX.out.2.1
        simp only [optI, optD]
        generalize distTo k p d to b = y at *
        go_wp2_with fail
        go_ret3
        exact ⟨by rw [HX.out.1, HXD.out, HX.out.2.2]; rfl, BF.out⟩
end Go.Proofs.Ythpiahellpnccaa
