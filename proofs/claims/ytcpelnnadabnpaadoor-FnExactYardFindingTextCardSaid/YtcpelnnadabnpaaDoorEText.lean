/-
  The sentence of a finding: spec.YardFindingText and impl.YardFindingText. No statement of the seat by itself.
-/
import Derived.Test.YtcpelnnadabnpaaDoorEGood
import Derived.Deep.DeepCutAuto
namespace Go.Proofs.YtcpelnnadabnpaaDoor
open Go.RowKit

def p1B : ByteArray := ⟨#[84, 104, 101, 32, 99, 111, 110, 116, 97, 105, 110, 101, 114, 32, 105, 110, 32, 115, 116, 97, 99, 107, 32]⟩
def p2B : ByteArray := ⟨#[44, 32, 116, 105, 101, 114, 32]⟩
def p3B : ByteArray := ⟨#[32]⟩
def rsB : Nat → ByteArray
  | 1 => ⟨#[105, 115, 32, 104, 101, 97, 118, 105, 101, 114, 32, 116, 104, 97, 110, 32, 116, 104, 101, 32, 111, 110, 101, 32, 98, 101, 108, 111, 119, 46]⟩
  | 2 => ⟨#[104, 97, 115, 32, 97, 110, 111, 116, 104, 101, 114, 32, 115, 105, 122, 101, 32, 116, 104, 97, 110, 32, 116, 104, 101, 32, 111, 110, 101, 32, 98, 101, 108, 111, 119, 46]⟩
  | 3 => ⟨#[109, 117, 115, 116, 32, 115, 116, 97, 110, 100, 32, 111, 110, 32, 116, 104, 101, 32, 103, 114, 111, 117, 110, 100, 46]⟩
  | 4 => ⟨#[110, 101, 101, 100, 115, 32, 112, 111, 119, 101, 114, 46]⟩
  | _ => ⟨#[]⟩
/-- A numeral. -/
def numE (i : Nat) : List UInt8 := Lib.decDigits i
theorem numE_len {i : Nat} (h : i < 10) : (numE i).length ≤ 1 := decDigits_len 0 i (by omega)
theorem num_e (i : Nat) (w : World) (h : i < 10) : Calls Tryd.prog 12 #[.int .i64 (i : Int)] w fun e w' => e = .returned (.string ⟨(numE i).toArray⟩) ∧ ∃ k, w' = w.drewN k := l1Num_nat 0 i w (by omega) (by omega)
theorem ito_e (i : Nat) (w : World) (h : i < 10) : Calls Tryd.prog 14 #[.int .i64 (i : Int)] w fun e w' => e = .returned (.string ⟨(numE i).toArray⟩) ∧ w' = w := Tryd.strconv_Itoa_small i (by omega) w
/-- The sentence. -/
def bodyB (r i j : Nat) : ByteArray := ((((p1B ++ ⟨(numE i).toArray⟩) ++ p2B) ++ ⟨(numE j).toArray⟩) ++ p3B) ++ rsB r
/-- What YardFindingText answers. -/
def txtF (r s t : Int) : ByteArray := if goodF r s t = true then bodyB r.toNat s.toNat t.toNat else ⟨#[]⟩
theorem txtF_no {r s t : Int} (h : goodF r s t = false) : txtF r s t = ⟨#[]⟩ := by rw [txtF, if_neg (by simp [h])]
theorem txtF_yes {r i j : Nat} (h : goodF (r : Int) (i : Int) (j : Int) = true) : txtF (r : Int) (i : Int) (j : Int) = bodyB r i j := by rw [txtF, if_pos h]; rfl
theorem goodF_nat {r s t : Int} (h : goodF r s t = true) : ∃ a i j : Nat, r = (a : Int) ∧ s = (i : Int) ∧ t = (j : Int) ∧ (a = 1 ∨ a = 2 ∨ a = 3 ∨ a = 4) ∧ i < 6 ∧ j < 4 := by
  simp only [goodF, inE, Bool.and_eq_true, Bool.or_eq_true, decide_eq_true_eq] at h
  exact ⟨r.toNat, s.toNat, t.toNat, by omega, by omega, by omega, by omega, by omega, by omega⟩
/-- A text was answered, and a yes or no. -/
def TxtP (w : World) (x : ByteArray) (ok : Bool) (e : Ending) (w' : World) : Prop := e = .returned (.tuple #[.string x, .bool ok]) ∧ Below w.heap.size w w'
theorem ret_txt {a b : ByteArray} {ok : Bool} (h : a = b) : Ending.returned (.tuple #[.string a, .bool ok]) = .returned (.tuple #[.string b, .bool ok]) := by rw [h]
theorem cell_of {w : World} {b i : Nat} {cur : Array Value} {t : TypeId} {x : Value} (h : w.heap[b]? = some (.cells cur t (0, 0))) (hx : cur[i]? = some x) : w.cell? ⟨b, i, none⟩ = some x := by
  simp [World.cell?, h, hx]
/-- The ends of the sentences in memory. -/
def endsO : Obj := .cells #[.string ⟨#[]⟩, .string ⟨#[105, 115, 32, 104, 101, 97, 118, 105, 101, 114, 32, 116, 104, 97, 110, 32, 116, 104, 101, 32, 111, 110, 101, 32, 98, 101, 108, 111, 119, 46]⟩, .string ⟨#[104, 97, 115, 32, 97, 110, 111, 116, 104, 101, 114, 32, 115, 105, 122, 101, 32, 116, 104, 97, 110, 32, 116, 104, 101, 32, 111, 110, 101, 32, 98, 101, 108, 111, 119, 46]⟩, .string ⟨#[109, 117, 115, 116, 32, 115, 116, 97, 110, 100, 32, 111, 110, 32, 116, 104, 101, 32, 103, 114, 111, 117, 110, 100, 46]⟩, .string ⟨#[110, 101, 101, 100, 115, 32, 112, 111, 119, 101, 114, 46]⟩] 9

set_option maxRecDepth 100000 in
set_option maxHeartbeats 4000000 in
theorem specTxt_any (r s t : Int) (w : World) : Calls Tryd.prog 5 #[.agg #[.int .i64 r, .int .i64 s, .int .i64 t]] w (TxtP w (txtF r s t) (goodF r s t)) := by
  have hb0 := below_one w (.cells #[.int .i64 r, .int .i64 s, .int .i64 t] 26)
  have hk0 := heap_alloc_new w (.cells #[.int .i64 r, .int .i64 s, .int .i64 t] 26)
  have HG := Lib.hid (fun W => l7Good_any r s t W)
  cases hg : goodF r s t with
  | false =>
    rw [hg] at HG
    rw [txtF_no hg]
    have HB := Lib.hid hb0
    clear hg hb0 hk0
    go_enter Tryd.func5, Tryd.ntmps5
    go_wp2_with fail
    refine (HG.out _).mono ?_
    rintro e w1 ⟨rfl, hb⟩
    have B1 := Lib.hid (HB.out.trans (hb.mono HB.out.size))
    clear hb
    go_wp2_with fail
    go_ret2
    exact ⟨rfl, B1.out⟩
  | true =>
    rw [hg] at HG
    obtain ⟨a, i, j, rfl, rfl, rfl, ha, hi, hj⟩ := goodF_nat hg
    rw [txtF_yes hg]
    have hi10 : i < 10 := by omega
    have hj10 : j < 10 := by omega
    have hli := Nat.le_trans (numE_len hi10) (show 1 ≤ 100 by decide)
    have hlj := Nat.le_trans (numE_len hj10) (show 1 ≤ 100 by decide)
    clear hg
    rcases ha with rfl | rfl | rfl | rfl
    all_goals
      have HB := Lib.hid hb0
      have HK := Lib.hid hk0
      clear hb0 hk0
      go_enter Tryd.func5, Tryd.ntmps5
      go_wp2_with fail
      refine (HG.out _).mono ?_
      rintro e w1 ⟨rfl, hb⟩
      have B1 := Lib.hid (HB.out.trans (hb.mono HB.out.size))
      have HK1 := Lib.hid ((hb.block _ (Array.getElem?_eq_some_iff.1 HK.out).1).trans HK.out)
      have B2 : Hid (Below w.heap.size w (w1.alloc endsO)) := Lib.hid (B1.out.trans ((below_one w1 endsO).mono B1.out.size))
      have HK2 : Hid ((w1.alloc endsO).heap[w.heap.size]? = _) := Lib.hid ((((Below.refl _ w1).alloc (Nat.le_refl _) endsO).block _ (Array.getElem?_eq_some_iff.1 HK1.out).1).trans HK1.out)
      have HE2 : Hid ((w1.alloc endsO).heap[w1.heap.size]? = some endsO) := Lib.hid (heap_alloc_new w1 _)
      clear hb HK HK1 HB
      unfold endsO at HE2 HK2 B2
      go_upto_region 4 with fail
      generalize w1.alloc (.cells #[.string ⟨#[]⟩, .string ⟨#[105, 115, 32, 104, 101, 97, 118, 105, 101, 114, 32, 116, 104, 97, 110, 32, 116, 104, 101, 32, 111, 110, 101, 32, 98, 101, 108, 111, 119, 46]⟩, .string ⟨#[104, 97, 115, 32, 97, 110, 111, 116, 104, 101, 114, 32, 115, 105, 122, 101, 32, 116, 104, 97, 110, 32, 116, 104, 101, 32, 111, 110, 101, 32, 98, 101, 108, 111, 119, 46]⟩, .string ⟨#[109, 117, 115, 116, 32, 115, 116, 97, 110, 100, 32, 111, 110, 32, 116, 104, 101, 32, 103, 114, 111, 117, 110, 100, 46]⟩, .string ⟨#[110, 101, 101, 100, 115, 32, 112, 111, 119, 101, 114, 46]⟩] 9) = w2 at *
      have x0 := cell_of (i := 0) HK2.out rfl
      have x1 := cell_of (i := 1) HK2.out rfl
      have x2 := cell_of (i := 2) HK2.out rfl
      have y1 := cell_of (i := 1) HE2.out rfl
      have y2 := cell_of (i := 2) HE2.out rfl
      have y3 := cell_of (i := 3) HE2.out rfl
      have y4 := cell_of (i := 4) HE2.out rfl
      simp only [Int.cast_ofNat_Int] at x0
      go_quiet ((go_at_call 12; exact Calls.quiet_of (num_e _ _ (by assumption))))
      go_wp2_with fail
      go_ret2
      exact ⟨ret_txt rfl, below_drewN B2.out _⟩

theorem reas_any (w : World) : Calls Tryd.prog 15 #[] w fun e w' => e = .returned (.slice (some ⟨w.heap.size, 0, none⟩) 5 5) ∧ w'.heap[w.heap.size]? = some endsO ∧ Below w.heap.size w w' := by
  have HE := Lib.hid (heap_alloc_new w endsO)
  have HB := Lib.hid (below_one w endsO)
  unfold endsO at *
  go_enter Tryd.func15, Tryd.ntmps15
  go_wp2_with fail
  go_ret
  exact ⟨rfl, HE.out, HB.out⟩

theorem body_as (a b c d e f : ByteArray) : (a ++ ((b ++ c) ++ d)) ++ e ++ f = (((a ++ b) ++ c) ++ d) ++ e ++ f := by
  simp only [ByteArray.append_assoc]

set_option maxRecDepth 100000 in
set_option maxHeartbeats 4000000 in
theorem implTxt_any (r s t : Int) (w : World) : Calls Tryd.prog 7 #[.agg #[.int .i64 r, .int .i64 s, .int .i64 t]] w (TxtP w (txtF r s t) (goodF r s t)) := by
  have hb0 := below_one w (.cells #[.int .i64 r, .int .i64 s, .int .i64 t] 26)
  have hk0 := heap_alloc_new w (.cells #[.int .i64 r, .int .i64 s, .int .i64 t] 26)
  have HG := Lib.hid (fun W => isFnd_any r s t W)
  cases hg : goodF r s t with
  | false =>
    rw [hg] at HG
    rw [txtF_no hg]
    have HB := Lib.hid hb0
    clear hg hb0 hk0
    go_enter Tryd.func7, Tryd.ntmps7
    go_wp2_with fail
    refine (HG.out _).mono ?_
    rintro e w1 ⟨rfl, hb⟩
    have B1 := Lib.hid (HB.out.trans (hb.mono HB.out.size))
    clear hb
    go_wp2_with fail
    go_ret2
    exact ⟨rfl, B1.out⟩
  | true =>
    rw [hg] at HG
    obtain ⟨a, i, j, rfl, rfl, rfl, ha, hi, hj⟩ := goodF_nat hg
    rw [txtF_yes hg]
    have hi10 : i < 10 := by omega
    have hj10 : j < 10 := by omega
    have hli := Nat.le_trans (numE_len hi10) (show 1 ≤ 100 by decide)
    have hlj := Nat.le_trans (numE_len hj10) (show 1 ≤ 100 by decide)
    clear hg
    have haI : (a : Int) < 5 := by omega
    have haN : a < 5 := by omega
    have HEa : Hid ((#[.string ⟨#[]⟩, .string ⟨#[105, 115, 32, 104, 101, 97, 118, 105, 101, 114, 32, 116, 104, 97, 110, 32, 116, 104, 101, 32, 111, 110, 101, 32, 98, 101, 108, 111, 119, 46]⟩, .string ⟨#[104, 97, 115, 32, 97, 110, 111, 116, 104, 101, 114, 32, 115, 105, 122, 101, 32, 116, 104, 97, 110, 32, 116, 104, 101, 32, 111, 110, 101, 32, 98, 101, 108, 111, 119, 46]⟩, .string ⟨#[109, 117, 115, 116, 32, 115, 116, 97, 110, 100, 32, 111, 110, 32, 116, 104, 101, 32, 103, 114, 111, 117, 110, 100, 46]⟩, .string ⟨#[110, 101, 101, 100, 115, 32, 112, 111, 119, 101, 114, 46]⟩] : Array Value)[a]? = some (.string (rsB a))) := Lib.hid (by rcases ha with rfl | rfl | rfl | rfl <;> rfl)
    have hrs : (rsB a).size ≤ 100 := by rcases ha with rfl | rfl | rfl | rfl <;> decide
    clear ha
    have HB := Lib.hid hb0
    have HK := Lib.hid hk0
    clear hb0 hk0
    go_enter Tryd.func7, Tryd.ntmps7
    go_wp2_with fail
    refine (HG.out _).mono ?_
    rintro e w1 ⟨rfl, hb⟩
    have B1 := Lib.hid (HB.out.trans (hb.mono HB.out.size))
    have HK1 := Lib.hid ((hb.block _ (Array.getElem?_eq_some_iff.1 HK.out).1).trans HK.out)
    clear hb HK HB
    have x0 := cell_of (i := 0) HK1.out rfl
    have x1 := cell_of (i := 1) HK1.out rfl
    have x2 := cell_of (i := 2) HK1.out rfl
    go_upto_region 3 with fail
    go_quiet ((go_at_call 14; exact Calls.quiet_of_same (ito_e _ _ (by assumption))))
    have B2 := Lib.hid (below_drewN B1.out nq)
    have HK2 : Hid ((w1.drewN nq).heap[w.heap.size]? = _) := Lib.hid HK1.out
    clear x0 x1 x2 HK1 B1
    go_upto_region 4 with fail
    generalize w1.drewN nq = w2 at *
    have HX := Lib.hid (fun W (hb : Below w2.heap.size w2 W) => cell_of (i := 0) ((hb.block _ (Array.getElem?_eq_some_iff.1 HK2.out).1).trans HK2.out) rfl)
    have x0 := HX.out _ (Below.refl _ _)
    go_region_with (go_at_call 15; refine (reas_any _).mono ?_; rintro e w' ⟨rfl, hE, hb⟩; have x0 : w'.cell? ⟨w.heap.size, 0, none⟩ = some (.int .i64 (a : Int)) := HX.out _ ((Below.refl _ w2).drew.trans hb); have y0 : w'.cell? ⟨w2.heap.size, a, none⟩ = some (.string (rsB a)) := cell_of hE HEa.out; have B3 := Lib.hid (B2.out.trans (((Below.refl _ w2).drew.trans hb).mono B2.out.size)); clear hE hb)
    all_goals
      go_wp2_with fail
      go_ret2
      exact ⟨ret_txt (body_as _ _ _ _ _ _), B3.out⟩
end Go.Proofs.YtcpelnnadabnpaaDoor
