/-
  What the two BestSwap return. No statement of the seat by itself.
-/
import Derived.Test.YtndafdjllbhbfaaLdB
namespace Go.Proofs.Ytndafdjllbhbfaa
open Go.RowKit

/-- The moment that is left when two loads change places. -/
def swD (a b : Int × Int × Int) : Int := (a.1 - b.1) * (a.2.1 - b.2.1)
def swM (A : Int) (a b : Int × Int × Int) : Nat := (A - swD a b).natAbs
/-- The best pair so far, with one more pair looked at. -/
def updP (st : Option (Nat × Nat × Nat)) (i k m : Nat) : Option (Nat × Nat × Nat) := match st with
  | none => some (i, k, m)
  | some (p, q, l) => if m < l then some (i, k, m) else some (p, q, l)
theorem updP_some (st : Option (Nat × Nat × Nat)) (i k m : Nat) : updP st i k m ≠ none := by
  unfold updP
  split
  · simp
  · split <;> simp
/-- After j pairs of the load i. -/
def inP (S : List (Int × Int × Int)) (st : Option (Nat × Nat × Nat)) (i : Nat) : Nat → Option (Nat × Nat × Nat)
  | 0 => st
  | j + 1 => updP (inP S st i j) i (i + 1 + j) (swM (sA S) (S.getD i (0, 0, 0)) (S.getD (i + 1 + j) (0, 0, 0)))
/-- After the pairs of the first loads. -/
def outP (S : List (Int × Int × Int)) : Nat → Option (Nat × Nat × Nat)
  | 0 => none
  | i + 1 => inP S (outP S i) i (S.length - (i + 1))
theorem inP_some {S : List (Int × Int × Int)} {st : Option (Nat × Nat × Nat)} {i : Nat} (h : st ≠ none) : ∀ j, inP S st i j ≠ none
  | 0 => h
  | _ + 1 => updP_some _ _ _ _
theorem outP_some {S : List (Int × Int × Int)} (h : 2 ≤ S.length) : ∀ i, outP S (i + 1) ≠ none
  | 0 => by
    unfold outP
    obtain ⟨j, hj⟩ : ∃ j, S.length - (0 + 1) = j + 1 := ⟨S.length - 2, by omega⟩
    rw [hj]
    exact updP_some _ _ _ _
  | i + 1 => by
    unfold outP
    exact inP_some (outP_some h i) _
/-- The pair as a list. -/
def lsP : Option (Nat × Nat × Nat) → List Int
  | none => []
  | some (p, q, _) => [(p : Int), (q : Int)]
def vaP (e : Int) : Option (Nat × Nat × Nat) → Int
  | none => e
  | some (_, _, l) => (l : Int)
theorem lsP_len (st : Option (Nat × Nat × Nat)) : (lsP st).length ≤ 2 := by
  unfold lsP; split <;> simp
/-- The smallest moments are small numbers. -/
def smP (st : Option (Nat × Nat × Nat)) : Prop := ∀ p q l, st = some (p, q, l) → l ≤ 1000000000000
theorem smP_upd {st : Option (Nat × Nat × Nat)} {i k m : Nat} (h : smP st) (hm : m ≤ 1000000000000) : smP (updP st i k m) := by
  intro p q l e
  unfold updP at e
  split at e
  · cases e; exact hm
  · split at e
    · cases e; exact hm
    · cases e; exact h _ _ _ rfl
def bsL (S : List (Int × Int × Int)) : List Int := if goodLd S = true ∧ 2 ≤ S.length then lsP (outP S S.length) else []
def bsI (S : List (Int × Int × Int)) : Int := if goodLd S = true ∧ 2 ≤ S.length then vaP 0 (outP S S.length) else 0
def bsB (S : List (Int × Int × Int)) : Bool := decide (goodLd S = true ∧ 2 ≤ S.length)
theorem bsL_len (S : List (Int × Int × Int)) : (bsL S).length ≤ 2 := by
  unfold bsL; split
  · exact lsP_len _
  · simp
theorem bs_no {S : List (Int × Int × Int)} (h : ¬ (goodLd S = true ∧ 2 ≤ S.length)) : bsL S = [] ∧ bsI S = 0 ∧ bsB S = false := ⟨by unfold bsL; rw [if_neg h], by unfold bsI; rw [if_neg h], decide_eq_false h⟩
theorem bs_yes {S : List (Int × Int × Int)} (h : goodLd S = true ∧ 2 ≤ S.length) : bsL S = lsP (outP S S.length) ∧ bsI S = vaP 0 (outP S S.length) ∧ bsB S = true := ⟨by unfold bsL; rw [if_pos h], by unfold bsI; rw [if_pos h], decide_eq_true h⟩
/-- A list of ints of the call's own, an int and whether it worked. -/
def RetLI (w : World) (L : List Int) (x : Int) (ok : Bool) (e : Ending) (w' : World) : Prop := ∃ a c, e = .returned (.tuple #[.slice a L.length c, .int .i64 x, .bool ok]) ∧ LO w' w.heap.size w'.heap.size (.slice a L.length c) L ∧ Below w.heap.size w w'

/-- While the pairs are looked at: the list of the best one. -/
def PrS (w wr : World) (v : Value) (L : List Int) : Prop := wr.ownsRow w.heap.size 3 1 v L.length (intV L) ∧ Below w.heap.size w wr
theorem PrS.below {w wr w' : World} {v : Value} {L : List Int} (h : PrS w wr v L) (hb : Below wr.heap.size wr w') : PrS w w' v L := ⟨row_below h.1 hb, h.2.trans (hb.mono h.2.size)⟩
theorem prS_start {w wr : World} (h : Below w.heap.size w wr) : PrS w (wr.alloc (.cells #[] 3)) (.slice (some ⟨wr.heap.size, 0, none⟩) 0 0) [] :=
  ⟨(own_empty wr (.cells #[] 3) 3 rfl).mono h.size, h.alloc h.size _⟩
theorem prS_two {w wr : World} (h : Below w.heap.size w wr) (p q : Int) : PrS w (wr.alloc (.cells #[.int .i64 p, .int .i64 q] 3)) (.slice (some ⟨wr.heap.size, 0, none⟩) 2 2) [p, q] :=
  ⟨⟨rfl, .inr ⟨_, 2, #[.int .i64 p, .int .i64 q], rfl, h.size, heap_alloc_new wr _, Nat.le_refl 2, by unfold maxLen; omega, rfl, rfl⟩⟩, h.alloc h.size _⟩
theorem PrS.done {w wr : World} {v : Value} {L : List Int} (h : PrS w wr v L) (x : Int) (ok : Bool) : RetLI w L x ok (.returned (.tuple #[v, .int .i64 x, .bool ok])) wr := by
  obtain ⟨h1, h2⟩ := h
  obtain ⟨a, c, rfl⟩ := own_form h1
  exact ⟨a, c, rfl, ⟨Nat.le_refl _, h1, fun b hb => row_lt h1 b hb⟩, h2⟩
theorem sw_small {a b : Int × Int × Int} (ha : okLd a = true) (hb : okLd b = true) (A : Int) (hA : -128000000 ≤ A ∧ A ≤ 128000000) : (-31999 ≤ a.1 - b.1 ∧ a.1 - b.1 ≤ 31999) ∧ (-400 ≤ a.2.1 - b.2.1 ∧ a.2.1 - b.2.1 ≤ 400) ∧ (-12800000 ≤ swD a b ∧ swD a b ≤ 12800000) ∧ swM A a b ≤ 1000000000000 := by
  obtain ⟨⟨a1, a2⟩, ⟨a3, a4⟩, -⟩ := okLd_iff.1 ha
  obtain ⟨⟨b1, b2⟩, ⟨b3, b4⟩, -⟩ := okLd_iff.1 hb
  have h1 : -31999 ≤ a.1 - b.1 ∧ a.1 - b.1 ≤ 31999 := by omega
  have h2 : -400 ≤ a.2.1 - b.2.1 ∧ a.2.1 - b.2.1 ≤ 400 := by omega
  have h3 : -12800000 ≤ swD a b ∧ swD a b ≤ 12800000 := by
    unfold swD
    rcases Int.le_total 0 (a.1 - b.1) with p | p
    · have := mul_box p (by omega : a.1 - b.1 ≤ 32000) (by omega : -400 ≤ a.2.1 - b.2.1) h2.2
      omega
    · have := mul_box (by omega : 0 ≤ -(a.1 - b.1)) (by omega : -(a.1 - b.1) ≤ 32000) (by omega : -400 ≤ a.2.1 - b.2.1) h2.2
      rw [Int.neg_mul] at this
      omega
  refine ⟨h1, h2, h3, ?_⟩
  unfold swM
  omega
theorem getD_get {S : List (Int × Int × Int)} {k : Nat} {c : Int × Int × Int} (h : S[k]? = some c) : S.getD k (0, 0, 0) = c := by simp [List.getD, h]

set_option maxRecDepth 100000 in
set_option maxHeartbeats 16000000 in
theorem implBs_any (v : Value) (S : List (Int × Int × Int)) (hn : S.length ≤ 1048576) (w : World) (hv : LdL w v S) :
    Calls Try.prog 34 #[v] w (RetLI w (bsL S) (bsI S) (bsB S)) := by
  have R0 := Lib.hid (prS_start (Below.refl w.heap.size w))
  have HM := Lib.hid (implMom_any v S hn _ (hv.below R0.out.2))
  obtain ⟨a, c, rfl, hc⟩ := hv
  have HC := Lib.hid hc
  clear hc
  cases hg : goodLd S with
  | false =>
    rw [mom_no hg] at HM
    obtain ⟨e1, e2, e3⟩ := bs_no (S := S) (by simp [hg])
    rw [e1, e2, e3]
    clear hg e1 e2 e3
    go_enter Try.func34, Try.ntmps34
    go_wp2_with fail
    refine HM.out.mono ?_
    rintro e w1 ⟨rfl, hb⟩
    have R1 := Lib.hid (R0.out.below hb)
    clear hb
    go_wp2_with fail
    go_ret3
    exact R1.out.done 0 false
  | true =>
    have HGD := Lib.hid hg
    rw [mom_yes hg] at HM
    obtain ⟨n, hl⟩ : ∃ n, S.length = n := ⟨_, rfl⟩
    have HN := Lib.hid hl
    have h20 : n ≤ 20 := by rw [← hl]; exact goodLd_len hg
    by_cases h2 : n < 2
    · obtain ⟨e1, e2, e3⟩ := bs_no (S := S) (by omega)
      rw [e1, e2, e3]
      rw [hl] at HM ⊢
      clear hg e1 e2 e3 hl
      go_enter Try.func34, Try.ntmps34
      go_wp2_with fail
      refine HM.out.mono ?_
      rintro e w1 ⟨rfl, hb⟩
      have R1 := Lib.hid (R0.out.below hb)
      clear hb
      go_wp2_with fail
      go_ret3
      exact R1.out.done 0 false
    obtain ⟨e1, e2, e3⟩ := bs_yes (S := S) ⟨hg, by omega⟩
    rw [e1, e2, e3]
    have HA := Lib.hid (sums_all hg).2.1
    have HSm := Lib.hid (fun j => outP_some (S := S) (by omega) j)
    rw [hl] at HM ⊢
    obtain ⟨A, hA⟩ : ∃ A, sA S = A := ⟨_, rfl⟩
    rw [hA] at HM HA
    have HAE := Lib.hid hA
    clear hg e1 e2 e3 hl hA hn
    go_enter Try.func34, Try.ntmps34
    go_wp2_with fail
    refine HM.out.mono ?_
    rintro e w1 ⟨rfl, hb⟩
    have R1 := Lib.hid (R0.out.below hb)
    clear hb
    go_wp2_with fail
    go_loopw [5, 6, 34] (fun b l i wr => ∃ (k : Nat) (x : Int), k ≤ n ∧ i = .int .i64 k ∧ l = .int .i64 x ∧ Hid (x = vaP 0 (outP S k)) ∧ Hid (smP (outP S k)) ∧ Hid (PrS w wr b (lsP (outP S k)))) (fun _ _ i _ => n - (intOf i).toNat)
    case atStart => exact ⟨0, 0, Nat.zero_le _, rfl, rfl, Lib.hid rfl, Lib.hid (fun _ _ _ h => by cases h), R1⟩
    case round =>
      obtain ⟨i, x, hi, rfl, rfl, HX, HZ, HR⟩ := hrel
      by_cases hlt : i < n
      · obtain ⟨g, off, rfl, hgg, hcc⟩ := HC.out (by have := HN.out; omega)
        have HCC := Lib.hid hcc
        obtain ⟨s, hs⟩ := get_at HN.out hlt
        obtain ⟨p, q, r⟩ := s
        have o0 : wr.cell? ⟨g, off + i * 3, none⟩ = some (.int .i64 p) := (HR.out.2.cell (p := ⟨g, off + i * 3, none⟩) hgg).trans (hcc i _ hs).1
        have o1 : wr.cell? ⟨g, off + i * 3 + 1, none⟩ = some (.int .i64 q) := (HR.out.2.cell (p := ⟨g, off + i * 3 + 1, none⟩) hgg).trans (hcc i _ hs).2.1
        have o2 : wr.cell? ⟨g, off + i * 3 + 2, none⟩ = some (.int .i64 r) := (HR.out.2.cell (p := ⟨g, off + i * 3 + 2, none⟩) hgg).trans (hcc i _ hs).2.2
        have HS := Lib.hid hs
        have BX := Lib.hid (below_one wr (.cells #[.int .i64 p, .int .i64 q, .int .i64 r] 50))
        have R2 := Lib.hid (HR.out.below BX.out)
        have b0 := Lib.hid (show (wr.alloc (.cells #[.int .i64 p, .int .i64 q, .int .i64 r] 50)).cell? ⟨wr.heap.size, 0, none⟩ = some (.int .i64 p) by simp)
        have b1 := Lib.hid (show (wr.alloc (.cells #[.int .i64 p, .int .i64 q, .int .i64 r] 50)).cell? ⟨wr.heap.size, 1, none⟩ = some (.int .i64 q) by simp)
        have bz := Lib.hid (show wr.heap.size < (wr.alloc (.cells #[.int .i64 p, .int .i64 q, .int .i64 r] 50)).heap.size by simp)
        clear hcc hs
        go_wp2_with fail
        generalize hW : wr.alloc (.cells #[.int .i64 p, .int .i64 q, .int .i64 r] 50) = w2 at *
        obtain ⟨B, hB⟩ : ∃ B, wr.heap.size = B := ⟨_, rfl⟩
        rw [hB] at b0 b1 bz ⊢
        clear hW o0 o1 o2 BX
        go_loopw [5, 6, 13] (fun b l k wk => ∃ (j : Nat) (x : Int), i + 1 + j ≤ n ∧ k = .int .i64 ((i + 1 + j : Nat) : Int) ∧ l = .int .i64 x ∧ Hid (x = vaP 0 (inP S (outP S i) i j)) ∧ Hid (smP (inP S (outP S i) i j)) ∧ Hid (PrS w wk b (lsP (inP S (outP S i) i j))) ∧ Hid (Below w2.heap.size w2 wk)) (fun _ _ k _ => n - (intOf k).toNat)
        case atStart => exact ⟨0, x, by omega, by go_num, rfl, HX, HZ, R2, Lib.hid (Below.refl _ _)⟩
        case round =>
          obtain ⟨j, y, hj, rfl, rfl, HY, HQ, HP, HB⟩ := hrel
          obtain ⟨k, hk⟩ : ∃ k, i + 1 + j = k := ⟨_, rfl⟩
          rw [hk] at hj ⊢
          have HK := Lib.hid hk
          have hik : i + 1 ≤ k := by omega
          clear hk
          by_cases hkt : k < n
          · obtain ⟨s, hs⟩ := get_at HN.out hkt
            obtain ⟨p2, q2, r2⟩ := s
            have c0 : wr.cell? ⟨g, off + k * 3, none⟩ = some (.int .i64 p2) := (HP.out.2.cell (p := ⟨g, off + k * 3, none⟩) hgg).trans (HCC.out k _ hs).1
            have c1 : wr.cell? ⟨g, off + k * 3 + 1, none⟩ = some (.int .i64 q2) := (HP.out.2.cell (p := ⟨g, off + k * 3 + 1, none⟩) hgg).trans (HCC.out k _ hs).2.1
            have c2 : wr.cell? ⟨g, off + k * 3 + 2, none⟩ = some (.int .i64 r2) := (HP.out.2.cell (p := ⟨g, off + k * 3 + 2, none⟩) hgg).trans (HCC.out k _ hs).2.2
            have hBk : B < wr.heap.size := Nat.lt_of_lt_of_le bz.out HB.out.size
            have hkk : wr.heap.size ≠ B := by omega
            have d0 : (wr.alloc (.cells #[.int .i64 p2, .int .i64 q2, .int .i64 r2] 50)).cell? ⟨B, 0, none⟩ = some (.int .i64 p) := (World.cell?_alloc_lt wr _ ⟨B, 0, none⟩ hBk).trans ((HB.out.cell (p := ⟨B, 0, none⟩) bz.out).trans b0.out)
            have d1 : (wr.alloc (.cells #[.int .i64 p2, .int .i64 q2, .int .i64 r2] 50)).cell? ⟨B, 1, none⟩ = some (.int .i64 q) := (World.cell?_alloc_lt wr _ ⟨B, 1, none⟩ hBk).trans ((HB.out.cell (p := ⟨B, 1, none⟩) bz.out).trans b1.out)
            obtain ⟨⟨m1, m2⟩, ⟨m3, m4⟩, ⟨m5, m6⟩, m7⟩ := sw_small ((goodLd_iff.1 HGD.out).2 _ (List.mem_of_getElem? HS.out)) ((goodLd_iff.1 HGD.out).2 _ (List.mem_of_getElem? hs)) A HA.out
            obtain ⟨A1, A2⟩ := HA.out
            have HI : Hid (inP S (outP S i) i (j + 1) = updP (inP S (outP S i) i j) i k (swM A (p, q, r) (p2, q2, r2))) := Lib.hid (by
              show updP _ i (i + 1 + j) _ = _
              rw [HK.out, HAE.out, getD_get HS.out, getD_get hs])
            have hMM : (swM A (p, q, r) (p2, q2, r2) : Int) = ((A + (p - p2) * (q2 - q)).natAbs : Int) := by
              unfold swM swD
              rw [show A - (p - p2) * (q - q2) = A + (p - p2) * (q2 - q) by rw [show q2 - q = -(q - q2) by omega, Int.mul_neg]; omega]
            have hdd : swD (p, q, r) (p2, q2, r2) = -((p - p2) * (q2 - q)) := by
              show (p - p2) * (q - q2) = _
              rw [show q2 - q = -(q - q2) by omega, Int.mul_neg, Int.neg_neg]
            rw [hdd] at m5 m6
            simp only at m1 m2 m3 m4
            obtain ⟨d, hd⟩ : ∃ d, (p - p2) * (q2 - q) = d := ⟨_, rfl⟩
            rw [hd] at m5 m6 hMM
            have f1 : IntKind.i64.wrap (p - p2) = p - p2 := by rw [IntKind.wrap_i64]; omega
            have f2 : IntKind.i64.wrap (q2 - q) = q2 - q := by rw [IntKind.wrap_i64]; omega
            have f3 : IntKind.i64.wrap ((p - p2) * (q2 - q)) = d := by rw [hd, IntKind.wrap_i64]; omega
            have f4 : IntKind.i64.wrap (A + d) = A + d := by rw [IntKind.wrap_i64]; omega
            have HAb := Lib.hid (fun W => absolute_any (A + d) (by omega) W)
            obtain ⟨m, hm⟩ : ∃ m, swM A (p, q, r) (p2, q2, r2) = m := ⟨_, rfl⟩
            rw [← hMM, hm] at HAb
            rw [hm] at HI m7
            have BX := Lib.hid (below_one wr (.cells #[.int .i64 p2, .int .i64 q2, .int .i64 r2] 50))
            have P2 := Lib.hid (HP.out.below BX.out)
            have B2 := Lib.hid (HB.out.trans (BX.out.mono HB.out.size))
            have hlen := lsP_len (inP S (outP S i) i j)
            have HZ2 := Lib.hid (smP_upd (i := i) (k := k) HQ.out m7)
            clear hs hd hdd hm hMM m1 m2 m3 m4 m5 m6
            go_wp2_with fail
            refine (HAb.out _).mono ?_
            rintro e w9 ⟨rfl, rfl⟩
            generalize hW : wr.alloc (.cells #[.int .i64 p2, .int .i64 q2, .int .i64 r2] 50) = w3 at *
            clear hW c0 c1 c2 d0 d1 BX
            obtain ⟨u, cc, hu⟩ := own_form P2.out.1
            subst hu
            cases hst : inP S (outP S i) i j with
            | none =>
              rw [hst] at HI P2 HY
              rw [show (lsP none).length = 0 from rfl]
              have e1 : Hid (inP S (outP S i) i (j + 1) = some (i, k, m)) := HI
              have P3 := Lib.hid (prS_two P2.out.2 (i : Int) (k : Int))
              have B3 := Lib.hid (B2.out.alloc (B2.out.size) (.cells #[.int .i64 (i : Int), .int .i64 (k : Int)] 3))
              go_wp2_with fail
              exact ⟨⟨j + 1, (m : Int), by have := HK.out; omega, val_i (by have := HK.out; omega), by first | rfl | go_num, Lib.hid (by rw [e1.out]; rfl), by rw [e1.out]; exact Lib.hid (fun _ _ _ h => by cases h; exact m7), by rw [e1.out]; exact P3, B3⟩, by simp [intOf]; omega⟩
            | some t =>
              obtain ⟨p3, q3, l3⟩ := t
              rw [hst] at HI P2 HY HQ
              rw [show (lsP (some (p3, q3, l3))).length = 2 from rfl]
              have hy : y = (l3 : Int) := HY.out
              subst hy
              by_cases hml : m < l3
              · have e1 : Hid (inP S (outP S i) i (j + 1) = some (i, k, m)) := Lib.hid (by rw [HI.out]; unfold updP; simp [hml])
                have P3 := Lib.hid (prS_two P2.out.2 (i : Int) (k : Int))
                have B3 := Lib.hid (B2.out.alloc (B2.out.size) (.cells #[.int .i64 (i : Int), .int .i64 (k : Int)] 3))
                have hml2 : (m : Int) < (l3 : Int) := by omega
                go_wp2_with fail
                exact ⟨⟨j + 1, (m : Int), by have := HK.out; omega, val_i (by have := HK.out; omega), by first | rfl | go_num, Lib.hid (by rw [e1.out]; rfl), by rw [e1.out]; exact Lib.hid (fun _ _ _ h => by cases h; exact m7), by rw [e1.out]; exact P3, B3⟩, by simp [intOf]; omega⟩
              · have e1 : Hid (inP S (outP S i) i (j + 1) = some (p3, q3, l3)) := Lib.hid (by rw [HI.out]; unfold updP; simp [hml])
                have hml2 : ¬ (m : Int) < (l3 : Int) := by omega
                go_wp2_with fail
                exact ⟨⟨j + 1, (l3 : Int), by have := HK.out; omega, val_i (by have := HK.out; omega), by first | rfl | go_num, Lib.hid (by rw [e1.out]; rfl), by rw [e1.out]; exact HQ, by rw [e1.out]; exact P2, B2⟩, by simp [intOf]; omega⟩
          · have hjn : j = n - (i + 1) := by have := HK.out; omega
            have HO : Hid (outP S (i + 1) = inP S (outP S i) i j) := Lib.hid (by show inP S (outP S i) i (S.length - (i + 1)) = _; rw [HN.out, hjn])
            go_wp2_with fail
            exact ⟨⟨i + 1, y, by omega, by go_num, rfl, by rw [HO.out]; exact HY, by rw [HO.out]; exact HQ, by rw [HO.out]; exact HP⟩, by simp [intOf]; omega⟩
      · obtain rfl : i = n := by omega
        have hx := HX.out
        subst hx
        obtain ⟨u, cc, hu⟩ := own_form HR.out.1
        subst hu
        go_wp2_with fail
        go_ret3
        exact HR.out.done _ true

set_option maxRecDepth 100000 in
set_option maxHeartbeats 16000000 in
theorem specBs_any (v : Value) (S : List (Int × Int × Int)) (hn : S.length ≤ 1048576) (w : World) (hv : LdL w v S) :
    Calls Try.prog 35 #[v] w (RetLI w (bsL S) (bsI S) (bsB S)) := by
  have HG := Lib.hid (l11Good_any v S hn w hv)
  have HV := Lib.hid hv
  obtain ⟨a, c, rfl, hc⟩ := hv
  have HC := Lib.hid hc
  clear hc
  cases hg : goodLd S with
  | false =>
    rw [hg] at HG
    obtain ⟨e1, e2, e3⟩ := bs_no (S := S) (by simp [hg])
    rw [e1, e2, e3]
    clear hg e1 e2 e3
    go_enter Try.func35, Try.ntmps35
    go_wp2_with fail
    refine HG.out.mono ?_
    rintro e w1 ⟨rfl, hb⟩
    have R1 := Lib.hid (prS_start hb)
    clear hb
    go_wp2_with fail
    go_ret3
    exact R1.out.done 0 false
  | true =>
    have HGD := Lib.hid hg
    have HM := Lib.hid (fun (u : Value) W (hW : LdL W u S) => l11Moments_any u S hg W hW)
    rw [hg] at HG
    obtain ⟨n, hl⟩ : ∃ n, S.length = n := ⟨_, rfl⟩
    have HN := Lib.hid hl
    have h20 : n ≤ 20 := by rw [← hl]; exact goodLd_len hg
    by_cases h2 : n < 2
    · obtain ⟨e1, e2, e3⟩ := bs_no (S := S) (by omega)
      rw [e1, e2, e3]
      rw [hl] at HG ⊢
      clear hg e1 e2 e3 hl
      go_enter Try.func35, Try.ntmps35
      go_wp2_with fail
      refine HG.out.mono ?_
      rintro e w1 ⟨rfl, hb⟩
      have R1 := Lib.hid (prS_start hb)
      clear hb
      go_wp2_with fail
      go_ret3
      exact R1.out.done 0 false
    obtain ⟨e1, e2, e3⟩ := bs_yes (S := S) ⟨hg, by omega⟩
    rw [e1, e2, e3]
    have HA := Lib.hid (sums_all hg).2.1
    have HSm := Lib.hid (show vaP (-1) (outP S S.length) = vaP 0 (outP S S.length) by
      obtain ⟨j, hj⟩ : ∃ j, S.length = j + 1 := ⟨S.length - 1, by omega⟩
      have := outP_some (S := S) (by omega) j
      rw [← hj] at this
      cases ho : outP S S.length with
      | none => exact absurd ho this
      | some t => rfl)
    rw [hl] at HG HV HSm ⊢
    obtain ⟨A, hA⟩ : ∃ A, sA S = A := ⟨_, rfl⟩
    rw [hA] at HM HA
    have HAE := Lib.hid hA
    clear hg e1 e2 e3 hl hA hn
    go_enter Try.func35, Try.ntmps35
    go_wp2_with fail
    refine HG.out.mono ?_
    rintro e w1 ⟨rfl, hb⟩
    have HB := Lib.hid hb
    clear hb
    go_wp2_with fail
    refine (HM.out _ _ (HV.out.below HB.out)).mono ?_
    rintro e w2 ⟨rfl, hb⟩
    have R1 := Lib.hid (prS_start (HB.out.trans (hb.mono HB.out.size)))
    clear hb
    go_wp2_with fail
    go_loopw [8, 9, 10] (fun b l i wr => ∃ (k : Nat) (x : Int), k ≤ n ∧ i = .int .i64 k ∧ l = .int .i64 x ∧ Hid (x = vaP (-1) (outP S k)) ∧ Hid (smP (outP S k)) ∧ Hid (PrS w wr b (lsP (outP S k)))) (fun _ _ i _ => n - (intOf i).toNat)
    case atStart => exact ⟨0, -1, Nat.zero_le _, rfl, rfl, Lib.hid rfl, Lib.hid (fun _ _ _ h => by cases h), R1⟩
    case round =>
      obtain ⟨i, x, hi, rfl, rfl, HX, HZ, HR⟩ := hrel
      by_cases hlt : i < n
      · obtain ⟨g, off, rfl, hgg, hcc⟩ := HC.out (by have := HN.out; omega)
        have HCC := Lib.hid hcc
        obtain ⟨s, hs⟩ := get_at HN.out hlt
        obtain ⟨p, q, r⟩ := s
        have HS := Lib.hid hs
        clear hcc hs
        go_wp2_with fail
        go_loopw [8, 9, 11] (fun b l k wk => ∃ (j : Nat) (x : Int), i + 1 + j ≤ n ∧ k = .int .i64 ((i + 1 + j : Nat) : Int) ∧ l = .int .i64 x ∧ Hid (x = vaP (-1) (inP S (outP S i) i j)) ∧ Hid (smP (inP S (outP S i) i j)) ∧ Hid (PrS w wk b (lsP (inP S (outP S i) i j)))) (fun _ _ k _ => n - (intOf k).toNat)
        case atStart => exact ⟨0, x, by omega, by go_num, rfl, HX, HZ, HR⟩
        case round =>
          obtain ⟨j, y, hj, rfl, rfl, HY, HQ, HP⟩ := hrel
          obtain ⟨k, hk⟩ : ∃ k, i + 1 + j = k := ⟨_, rfl⟩
          rw [hk] at hj ⊢
          have HK := Lib.hid hk
          have hik : i + 1 ≤ k := by omega
          clear hk
          by_cases hkt : k < n
          · obtain ⟨s, hs⟩ := get_at HN.out hkt
            obtain ⟨p2, q2, r2⟩ := s
            have o0 : wr.cell? ⟨g, off + i * 3, none⟩ = some (.int .i64 p) := (HP.out.2.cell (p := ⟨g, off + i * 3, none⟩) hgg).trans (HCC.out i _ HS.out).1
            have o1 : wr.cell? ⟨g, off + i * 3 + 1, none⟩ = some (.int .i64 q) := (HP.out.2.cell (p := ⟨g, off + i * 3 + 1, none⟩) hgg).trans (HCC.out i _ HS.out).2.1
            have c0 : wr.cell? ⟨g, off + k * 3, none⟩ = some (.int .i64 p2) := (HP.out.2.cell (p := ⟨g, off + k * 3, none⟩) hgg).trans (HCC.out k _ hs).1
            have c1 : wr.cell? ⟨g, off + k * 3 + 1, none⟩ = some (.int .i64 q2) := (HP.out.2.cell (p := ⟨g, off + k * 3 + 1, none⟩) hgg).trans (HCC.out k _ hs).2.1
            obtain ⟨⟨m1, m2⟩, ⟨m3, m4⟩, ⟨m5, m6⟩, m7⟩ := sw_small ((goodLd_iff.1 HGD.out).2 _ (List.mem_of_getElem? HS.out)) ((goodLd_iff.1 HGD.out).2 _ (List.mem_of_getElem? hs)) A HA.out
            obtain ⟨A1, A2⟩ := HA.out
            have HI : Hid (inP S (outP S i) i (j + 1) = updP (inP S (outP S i) i j) i k (swM A (p, q, r) (p2, q2, r2))) := Lib.hid (by
              show updP _ i (i + 1 + j) _ = _
              rw [HK.out, HAE.out, getD_get HS.out, getD_get hs])
            have hMM : (swM A (p, q, r) (p2, q2, r2) : Int) = ((A - (p - p2) * (q - q2)).natAbs : Int) := rfl
            unfold swD at m5 m6
            simp only at m1 m2 m3 m4 m5 m6
            obtain ⟨d, hd⟩ : ∃ d, (p - p2) * (q - q2) = d := ⟨_, rfl⟩
            rw [hd] at m5 m6 hMM
            obtain ⟨d1, hd1⟩ : ∃ d, p - p2 = d := ⟨_, rfl⟩
            obtain ⟨d2, hd2⟩ : ∃ d, q - q2 = d := ⟨_, rfl⟩
            obtain ⟨d3, hd3⟩ : ∃ d3, A - d = d3 := ⟨_, rfl⟩
            have f1 : IntKind.i64.wrap (p - p2) = d1 := by rw [IntKind.wrap_i64]; omega
            have f2 : IntKind.i64.wrap (q - q2) = d2 := by rw [IntKind.wrap_i64]; omega
            have f3 : IntKind.i64.wrap (d1 * d2) = d := by rw [← hd1, ← hd2, hd, IntKind.wrap_i64]; omega
            have f4 : IntKind.i64.wrap (A - d) = d3 := by rw [IntKind.wrap_i64]; omega
            rw [hd3] at hMM
            have HAb := Lib.hid (fun W => l11Abs_any d3 (by omega) W)
            obtain ⟨m, hm⟩ : ∃ m, swM A (p, q, r) (p2, q2, r2) = m := ⟨_, rfl⟩
            rw [← hMM, hm] at HAb
            rw [hm] at HI m7
            have hlen := lsP_len (inP S (outP S i) i j)
            have HZ2 := Lib.hid (smP_upd (i := i) (k := k) HQ.out m7)
            have hki : (k : Int) < (n : Int) := by omega
            have hii : (i : Int) < (n : Int) := by omega
            clear hs hd hd1 hd2 hd3 hm hMM m1 m2 m3 m4 m5 m6
            go_wp2_with fail
            go_quiet ((go_at_call 73; exact Calls.quiet_of_same (flipB (HAb.out _))))
            have P2 := Lib.hid (HP.out.below (below_drewN (Below.refl _ wr) nq))
            generalize hW : wr.drewN nq = w3 at *
            clear hW o0 o1 c0 c1
            obtain ⟨u, cc, hu⟩ := own_form P2.out.1
            subst hu
            cases hst : inP S (outP S i) i j with
            | none =>
              rw [hst] at HI P2 HY
              try rw [show (lsP none).length = 0 from rfl]
              have hy : y = -1 := HY.out
              subst hy
              have e1 : Hid (inP S (outP S i) i (j + 1) = some (i, k, m)) := HI
              have P3 := Lib.hid (prS_two P2.out.2 (i : Int) (k : Int))
              go_wp2_with fail
              exact ⟨⟨j + 1, (m : Int), by have := HK.out; omega, val_i (by have := HK.out; omega), by first | rfl | go_num, Lib.hid (by rw [e1.out]; rfl), by rw [e1.out]; exact Lib.hid (fun _ _ _ h => by cases h; exact m7), by rw [e1.out]; exact P3⟩, by simp [intOf]; omega⟩
            | some t =>
              obtain ⟨p3, q3, l3⟩ := t
              rw [hst] at HI P2 HY HQ
              try rw [show (lsP (some (p3, q3, l3))).length = 2 from rfl]
              have hy : y = (l3 : Int) := HY.out
              subst hy
              have hl0 : ¬ (l3 : Int) < 0 := by omega
              by_cases hml : m < l3
              · have e1 : Hid (inP S (outP S i) i (j + 1) = some (i, k, m)) := Lib.hid (by rw [HI.out]; unfold updP; simp [hml])
                have P3 := Lib.hid (prS_two P2.out.2 (i : Int) (k : Int))
                have hml2 : (m : Int) < (l3 : Int) := by omega
                go_wp2_with fail
                exact ⟨⟨j + 1, (m : Int), by have := HK.out; omega, val_i (by have := HK.out; omega), by first | rfl | go_num, Lib.hid (by rw [e1.out]; rfl), by rw [e1.out]; exact Lib.hid (fun _ _ _ h => by cases h; exact m7), by rw [e1.out]; exact P3⟩, by simp [intOf]; omega⟩
              · have e1 : Hid (inP S (outP S i) i (j + 1) = some (p3, q3, l3)) := Lib.hid (by rw [HI.out]; unfold updP; simp [hml])
                have hml2 : ¬ (m : Int) < (l3 : Int) := by omega
                go_wp2_with fail
                exact ⟨⟨j + 1, (l3 : Int), by have := HK.out; omega, val_i (by have := HK.out; omega), by first | rfl | go_num, Lib.hid (by rw [e1.out]; rfl), by rw [e1.out]; exact HQ, by rw [e1.out]; exact P2⟩, by simp [intOf]; omega⟩
          · have hjn : j = n - (i + 1) := by have := HK.out; omega
            have HO : Hid (outP S (i + 1) = inP S (outP S i) i j) := Lib.hid (by show inP S (outP S i) i (S.length - (i + 1)) = _; rw [HN.out, hjn])
            go_wp2_with fail
            exact ⟨⟨i + 1, y, by omega, by go_num, rfl, by rw [HO.out]; exact HY, by rw [HO.out]; exact HQ, by rw [HO.out]; exact HP⟩, by simp [intOf]; omega⟩
      · obtain rfl : i = n := by omega
        have hx := HX.out.trans HSm.out
        subst hx
        obtain ⟨u, cc, hu⟩ := own_form HR.out.1
        subst hu
        go_wp2_with fail
        go_ret3
        exact HR.out.done _ true
end Go.Proofs.Ytndafdjllbhbfaa
