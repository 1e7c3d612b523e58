/-
  What impl.YardFindings answers. No statement of the seat by itself.
-/
import Derived.Test.YtonploneihnekaaFndF
import Derived.Test.YtonploneihnekaaRul
import Derived.Test.YtonploneihnekaaStand
namespace Go.Proofs.Ytonploneihnekaa
open Go.RowKit

/-- While the rules of a container are told: it lies in box q. -/
def BoxS (w wr : World) (y : Value) (q : Nat) (cx : Array Value) (v : Value) (L : List Fnd) : Prop := FindS w wr y v L ∧ wr.heap[q]? = some (.cells cx 63 (0, 0))
theorem BoxS.below {w wr w' : World} {y v : Value} {q : Nat} {cx : Array Value} {L : List Fnd} (h : BoxS w wr y q cx v L) (hb : Below wr.heap.size wr w') : BoxS w w' y q cx v L := ⟨h.1.below hb, blk_below h.2 hb⟩
theorem BoxS.one {w wr w4 : World} {y v v' : Value} {q : Nat} {cx : Array Value} {L : List Fnd} {a b c : Int} (o : Obj) (h : BoxS w wr y q cx v L) (ho : w4.ownsRow (w.heap.size + 1) 70 3 v' (L.length + 1) (flatF L ++ [.int .i64 a, .int .i64 b, .int .i64 c])) (hg : (wr.alloc o).grownBy w4 v.ownBlock) (hnil : v' = .slice none 0 0 ↔ v = .slice none 0 0 ∧ 1 = 0) : BoxS w w4 y q cx v' (L ++ [(a, b, c)]) :=
  ⟨⟨h.1.1.one o ho hg hnil, blk_grown (blk_alloc h.1.2 o) (row_below h.1.1.2.2.2.1 (below_one wr o)) (by decide) hg⟩, blk_grown (blk_alloc h.2 o) (row_below h.1.1.2.2.2.1 (below_one wr o)) (by decide) hg⟩
/-- A row of ints stays while a list of findings grows. -/
theorem ints_apart {w w' : World} {B B' m t : Nat} {u v : Value} {xs ys : List Value} (h : w.ownsRow B 3 1 u t xs) (hv : w.ownsRow B' 70 3 v m ys) (hg : w.grownBy w' v.ownBlock) : w'.ownsRow B 3 1 u t xs := by
  refine h.kept hg ?_
  cases hu : u.ownBlock with
  | none => exact .inl rfl
  | some b =>
    refine .inr fun e => ?_
    rcases h.2 with ⟨rfl, _⟩ | ⟨g, cap, cur, rfl, _, hb, _⟩
    · simp [Value.ownBlock] at hu
    · have e1 : g = b := by simpa [Value.ownBlock] using hu
      subst e1
      exact row_ne hv hb (by decide) e.symm
theorem pos_natI {x : Int} (h : 1 ≤ x) : ∃ m : Nat, x = (m : Int) + 1 := ⟨x.toNat - 1, by omega⟩
theorem IL.form2 {w : World} {a : Option Addr} {n c : Nat} {l : List Int} (h : IL w (.slice a n c) l) (hp : 0 < l.length) : ∃ g off, a = some ⟨g, off, none⟩ ∧ g < w.heap.size ∧ ∀ j x, l[j]? = some x → w.cell? ⟨g, off + j, none⟩ = some (.int .i64 x) := by
  obtain ⟨a', c', e, h⟩ := h
  injection e with e1 e2 e3
  subst e1
  exact h hp
theorem take_at {α : Type} {R : List α} {j : Nat} {x : α} (h : R[j]? = some x) : R.take (j + 1) = R.take j ++ [x] := by
  rw [List.take_add_one, h]; rfl

/-- A list of findings of the call's own, in a block, and whether it worked. -/
def RetG (w : World) (R : List Fnd) (ok : Bool) (e : Ending) (w' : World) : Prop := ∃ g c, e = .returned (.tuple #[.slice (some ⟨g, 0, none⟩) R.length c, .bool ok]) ∧ FO w' w.heap.size w'.heap.size (.slice (some ⟨g, 0, none⟩) R.length c) R ∧ Below w.heap.size w w'

set_option maxRecDepth 100000 in
set_option maxHeartbeats 8000000 in
theorem implFnd_at (v : Value) (Y : List (List Int)) (g n : Nat) (f : Nat → C.Cont) (p : Int) (h1 : Y.length ≤ 1048576) (h2 : tot Y ≤ 1048576) (hn : n ≤ 1048576) (hid : ∀ j, j < n → (f j).id.size ≤ 1048576) (w : World) (h : YdR w v Y) (hc : C.CAt w g 0 n f) :
    Calls Try.prog 14 #[v, .slice (some ⟨g, 0, none⟩) n n, .int .i64 p] w (RetG w (finR n f Y p) (askF n f Y p)) := by
  obtain ⟨fI, hI1, hI2, hI3, hI4⟩ := info_is infoF
  obtain ⟨v0, rfl, hv⟩ := h
  have hv' := hv
  obtain ⟨a, cap, rfl, hcc⟩ := hv'
  have HA : Hid (∀ W, Below w.heap.size w W → Calls Try.prog 44 #[.agg #[.slice a Y.length cap], .slice (some ⟨g, 0, none⟩) n n] W (BoolP W (stF n f Y))) := Lib.hid fun W hb => stand_any _ Y g n f h1 h2 hn hid W ⟨_, rfl, hv.below hb⟩ (hc.below hb)
  have HQ : Hid (askF n f Y p = (stF n f Y && (decide (0 ≤ p) && decide (p ≤ 6)))) := Lib.hid rfl
  have HCC : Hid (∀ xn, xn < n → ∀ W, Below w.heap.size w W → C.CCells W g (xn * 5) (f xn)) := Lib.hid fun xn hx W hb => by
    have := (hc.below hb).2 xn hx
    rwa [Nat.zero_add] at this
  have HNm := Lib.hid (fun (hst : stF n f Y = true) (i : Nat) l (hl : Y[i]? = some l) => stF_nums hst hl)
  have HL6 := Lib.hid (fun (hst : stF n f Y = true) => (goodY_iff.1 (stF_iff.1 hst).1).2.1)
  have HRow4 := Lib.hid (fun (hst : stF n f Y = true) (i : Nat) l (hl : Y[i]? = some l) => row_four (stF_iff.1 hst).1 hl)
  have HYl := Lib.hid (fun (hst : stF n f Y = true) i hi => yF_len f p Y (stF_iff.1 hst).1 i hi)
  have S0 : Hid (FindS w ((w.alloc (.cells #[.slice a Y.length cap] 31)).alloc (.cells #[] 70)) (.slice a Y.length cap) (.slice (some ⟨w.heap.size + 1, 0, none⟩) 0 0) []) := Lib.hid ⟨GrowF.start _, blk_alloc (heap_alloc_new w _) _⟩
  have HC := Lib.hid hcc
  have HF : Hid (askF n f Y p = true → finR n f Y p = yF f p Y Y.length) := Lib.hid fun h => finR_yes h
  have HF0 : Hid (askF n f Y p = false → finR n f Y p = []) := Lib.hid finR_no
  clear hv hc hid hcc h2
  generalize hm : Y.length = m at *
  have HM := Lib.hid hm
  clear hm
  generalize askF n f Y p = q at *
  generalize finR n f Y p = R at *
  have c0 := cell_of (i := 0) S0.out.2 rfl
  go_enter Try.func14, Try.ntmps14
  go_wp2_with fail
  generalize (w.alloc (.cells #[.slice a m cap] 31)).alloc (.cells #[] 70) = w0 at *
  refine (HA.out _ S0.out.1.1).mono ?_
  rintro e w1 ⟨rfl, hb⟩
  have S1 := Lib.hid (S0.out.below hb)
  clear hb c0
  have c0 := cell_of (i := 0) S1.out.2 rfl
  have hbad : Hid (q = false → RetG w R false (.returned (.tuple #[.slice (some ⟨w.heap.size + 1, 0, none⟩) 0 0, .bool false])) w1) := Lib.hid fun hq => by
    rw [HF0.out hq]
    exact ⟨_, 0, rfl, fo_of_own (l := []) S1.out.1.2.2.2.1 (by omega), S1.out.1.1⟩
  cases hst : stF n f Y with
  | false =>
    rw [hst] at HQ
    have HB := Lib.hid (hbad.out (by rw [HQ.out]; rfl))
    obtain rfl : q = false := by rw [HQ.out]; rfl
    clear hbad
    go_wp2_with fail
    go_ret2
    exact HB.out
  | true =>
  rw [hst] at HQ
  by_cases hp0 : p < 0
  · have hq : q = false := by rw [HQ.out]; simp; omega
    have HB := Lib.hid (hbad.out hq)
    subst hq
    clear hbad
    go_wp2_with fail
    go_ret2
    exact HB.out
  by_cases hp6 : 6 < p
  · have hq : q = false := by rw [HQ.out]; simp; omega
    have HB := Lib.hid (hbad.out hq)
    subst hq
    have hd : decide (p < 0) = false := by simp; omega
    clear hbad hp0
    go_wp2_with fail
    go_ret2
    exact HB.out
  have hq : q = true := by rw [HQ.out]; simp; omega
  have HF1 := Lib.hid (HF.out hq)
  subst hq
  have hd0 : decide (p < 0) = false := by simp; omega
  have hd6 : decide (6 < p) = false := by simp; omega
  have HNm1 := Lib.hid (HNm.out hst)
  have HRow := Lib.hid (HRow4.out hst)
  have HYl1 := Lib.hid (HYl.out hst)
  have hm6 := HL6.out hst
  clear hbad HQ HF HF0 HNm HRow4 HYl HL6 hp0 hp6 hst HA
  go_wp2_with fail
  clear c0 hd0 hd6
  go_loopw [8, 34] (fun u i wr => ∃ k : Nat, k ≤ m ∧ i = .int .i64 k ∧ Hid (FindS w wr (.slice a m cap) u (yF f p Y k))) (fun _ i _ => m - (intOf i).toNat)
  case atStart => exact ⟨0, Nat.zero_le _, rfl, S1⟩
  case round =>
    obtain ⟨i, hi, rfl, HS⟩ := hrel
    rename World => wo
    by_cases hlt : i < m
    · obtain ⟨l, hl⟩ := get_at HM.out hlt
      obtain ⟨g1, o1, rfl, hg1, hc1⟩ := HC.out (by have := HM.out; omega)
      obtain ⟨u, hu', hil⟩ := hc1 i l hl
      have hu := (HS.out.1.1.cell (p := ⟨g1, o1 + i, none⟩) hg1).trans hu'
      have h4 := HRow.out i l hl
      obtain ⟨a2, c2, rfl, hrow⟩ := hil
      have HRw := Lib.hid hrow
      have HLl := Lib.hid hl
      have HNl := Lib.hid (HNm1.out i l hl)
      obtain ⟨r, hr⟩ : ∃ r, l.length = r := ⟨_, rfl⟩
      have HRl := Lib.hid hr
      rw [hr] at hu h4
      clear hc1 hl hrow hr hu'
      have HYi := Lib.hid (HYl1.out i (by omega))
      have hiI : (i : Int) < (m : Int) := by omega
      have T0 : Hid (FindS w wo (.slice (some ⟨g1, o1, none⟩) m cap) u8 (yF f p Y i ++ rowF f p i l 0)) := Lib.hid (by rw [rowF, List.append_nil]; exact HS.out)
      go_wp2_with fail
      go_loopw [8, 11, 43] (fun u b kk wr => ∃ k : Nat, k ≤ r ∧ kk = .int .i64 k ∧ b = belV (belF f l k) ∧ Hid (FindS w wr (.slice (some ⟨g1, o1, none⟩) m cap) u (yF f p Y i ++ rowF f p i l k))) (fun _ _ kk _ => r - (intOf kk).toNat)
      case atStart => exact ⟨0, Nat.zero_le _, rfl, by simp [belF, belV], T0⟩
      case round =>
        clear hu
        obtain ⟨k, hk, rfl, rfl, HS2⟩ := hrel
        rename World => wk
        by_cases hkr : k < r
        · obtain ⟨g2, o2, rfl, hg2, hc2⟩ := HRw.out (by have := HRl.out; omega)
          obtain ⟨x, hx⟩ := get_at HRl.out hkr
          obtain ⟨hx1, hx2⟩ := HNl.out x (List.mem_of_getElem? hx)
          obtain ⟨xn, rfl⟩ := pos_natI hx1
          have hxn : xn < n := by omega
          have hxc := (HS2.out.1.1.cell (p := ⟨g2, o2 + k, none⟩) hg2).trans (hc2 k _ hx)
          obtain ⟨a0, a1, a2, a3, a4⟩ := HCC.out xn hxn wk HS2.out.1.1
          have hkI : (k : Int) < (r : Int) := by omega
          have hxnI : (xn : Int) < (n : Int) := by omega
          have hlen : (yF f p Y i ++ rowF f p i l k).length ≤ 200 := by
            have h1 := HYi.out
            have h2 := rowF_len f p i l k
            rw [List.length_append]; omega
          have hE : Hid (yF f p Y i ++ rowF f p i l (k + 1) = (yF f p Y i ++ rowF f p i l k) ++ (rulL (f xn) (belF f l k) (decide ((i : Int) < p))).map fun r => (r, (i : Int), (k : Int))) := Lib.hid (by
            rw [rowF, List.append_assoc, atF, show boxF f (l.getD k 0) = f xn by simp [boxF, List.getD, hx]])
          have hbel : Hid (belF f l (k + 1) = some (f xn)) := Lib.hid (by simp [belF, boxF, List.getD, hx])
          have hR4 := rulL_len (f xn) (belF f l k) (decide ((i : Int) < p))
          have HZ := Lib.hid (fun W => rul_any (f xn) (belF f l k) (decide ((i : Int) < p)) W)
          generalize yF f p Y i ++ rowF f p i l k = L0 at *
          generalize belF f l k = bo at *
          generalize f xn = cx at *
          generalize hR0 : rulL cx bo (decide ((i : Int) < p)) = R0 at *
          obtain ⟨xi, xs, xw, xc, xp⟩ := cx
          have B0 : Hid (BoxS w (wk.alloc (.cells #[.string xi, .int .i64 xs, .int .i64 xw, .int .i64 xc, .int .i64 xp] 63)) (.slice (some ⟨g1, o1, none⟩) m cap) wk.heap.size #[.string xi, .int .i64 xs, .int .i64 xw, .int .i64 xc, .int .i64 xp] u8 L0) := Lib.hid ⟨HS2.out.below (below_one wk _), heap_alloc_new wk _⟩
          clear hc2 hx hx1 hx2 hR0
          simp only [C.contV] at *
          go_upto_region 12 with fail
          clear hxc a0 a1 a2 a3 a4
          generalize wk.alloc (.cells #[.string xi, .int .i64 xs, .int .i64 xw, .int .i64 xc, .int .i64 xp] 63) = w3 at *
          generalize wk.heap.size = qb at *
          have x0 := cell_of (i := 0) B0.out.2 rfl
          have x1 := cell_of (i := 1) B0.out.2 rfl
          have x2 := cell_of (i := 2) B0.out.2 rfl
          have x3 := cell_of (i := 3) B0.out.2 rfl
          have x4 := cell_of (i := 4) B0.out.2 rfl
          go_wp2_with fail
          refine (HZ.out _).mono ?_
          rintro e w5 ⟨u, Bi, rfl, hil, hb⟩
          obtain ⟨a5, c5, rfl⟩ := own_form hil
          have B5 := Lib.hid (B0.out.below hb)
          have HI5 := Lib.hid hil
          obtain ⟨t, ht⟩ : ∃ t, R0.length = t := ⟨_, rfl⟩
          have HT := Lib.hid ht
          rw [ht] at hR4 HI5 ⊢
          have T5 : Hid (BoxS w w5 (.slice (some ⟨g1, o1, none⟩) m cap) qb #[.string xi, .int .i64 xs, .int .i64 xw, .int .i64 xc, .int .i64 xp] u8 (L0 ++ (R0.take 0).map fun r => (r, (i : Int), (k : Int)))) := Lib.hid (by simpa using B5.out)
          clear hb hil x0 x1 x2 x3 x4 ht B5 B0
          go_wp2_with fail
          go_loopw [8, 60] (fun u jj wr => ∃ j : Nat, j ≤ t ∧ jj = .int .i64 j ∧ Hid (BoxS w wr (.slice (some ⟨g1, o1, none⟩) m cap) qb #[.string xi, .int .i64 xs, .int .i64 xw, .int .i64 xc, .int .i64 xp] u (L0 ++ (R0.take j).map fun r => (r, (i : Int), (k : Int)))) ∧ Hid (wr.ownsRow Bi 3 1 (.slice a5 t c5) t (intV R0))) (fun _ jj _ => t - (intOf jj).toNat)
          case atStart => exact ⟨0, Nat.zero_le _, rfl, T5, HI5⟩
          case round =>
            obtain ⟨j, hj, rfl, HB, HI⟩ := hrel
            by_cases hjt : j < t
            · obtain ⟨ri, hri⟩ := get_at HT.out hjt
              obtain ⟨ga, oa, ea, -, hca⟩ := (il_of_owns HI.out).form2 (by have := HT.out; omega)
              subst ea
              have hrc := hca j ri hri
              have hjI : (j : Int) < (t : Int) := by omega
              have hE2 : Hid (L0 ++ (R0.take (j + 1)).map (fun r => (r, (i : Int), (k : Int))) = (L0 ++ (R0.take j).map fun r => (r, (i : Int), (k : Int))) ++ [(ri, (i : Int), (k : Int))]) := Lib.hid (by rw [take_at hri]; simp)
              have hlen2 : (L0 ++ (R0.take j).map fun r => (r, (i : Int), (k : Int))).length ≤ 300 := by
                rw [List.length_append, List.length_map, List.length_take]; omega
              generalize (L0 ++ (R0.take j).map fun r => (r, (i : Int), (k : Int))) = L1 at *
              obtain ⟨go, co, rfl⟩ := HB.out.1.1.form
              have hrow := HB.out.1.1.2.2.2.1
              have hsz := HB.out.1.1.2.2.1
              clear hca hri
              go_wp2_with (at_builtin; refine wpList_append_own _ rfl _ _ 28 rfl (w.heap.size + 1) 70 fI (.agg #[.int .i64 0, .int .i64 0, .int .i64 0]) 3 24 Try.underlying28 hI1 hI2 hI3 hI4 rfl (by decide) _ _ _ rfl (hrow.alloc _) ⟨wr.heap.size, 0, none⟩ 1 1 [.int .i64 ri, .int .i64 (i : Int), .int .i64 (k : Int)] rfl rfl (three_new _ _ _ _ _) (by simp [Value.oneCell']) (by unfold maxLen; omega) (by omega) (by simp; omega) ?_; intro v' w4 hown' hgrow hnil)
              have HN : Hid (BoxS w w4 (.slice (some ⟨g1, o1, none⟩) m cap) qb #[.string xi, .int .i64 xs, .int .i64 xw, .int .i64 xc, .int .i64 xp] v' (L0 ++ (R0.take (j + 1)).map fun r => (r, (i : Int), (k : Int)))) := Lib.hid (by rw [hE2.out]; exact HB.out.one _ hown' hgrow hnil)
              have HI4 : Hid (w4.ownsRow Bi 3 1 (.slice (some ⟨ga, oa, none⟩) t c5) t (intV R0)) := Lib.hid (ints_apart (row_below HI.out (below_one wr _)) (row_below hrow (below_one wr _)) hgrow)
              clear hown' hgrow hnil hrow hsz
              exact ⟨⟨j + 1, by omega, by go_num, HN, HI4⟩, by simp [intOf]; omega⟩
            · obtain rfl : j = t := by omega
              have x0 := cell_of (i := 0) HB.out.2 rfl
              have x1 := cell_of (i := 1) HB.out.2 rfl
              have x2 := cell_of (i := 2) HB.out.2 rfl
              have x3 := cell_of (i := 3) HB.out.2 rfl
              have x4 := cell_of (i := 4) HB.out.2 rfl
              have HN : Hid (FindS w wr (.slice (some ⟨g1, o1, none⟩) m cap) _ (yF f p Y i ++ rowF f p i l (k + 1))) := Lib.hid (by
                rw [hE.out]
                have := HB.out.1
                rwa [List.take_of_length_le (by have := HT.out; omega)] at this)
              go_wp2_with fail
              exact ⟨⟨k + 1, by omega, by go_num, by rw [hbel.out]; rfl, HN⟩, by simp [intOf]; omega⟩
        · obtain rfl : k = r := by omega
          have HN : Hid (FindS w wk (.slice (some ⟨g1, o1, none⟩) m cap) _ (yF f p Y (i + 1))) := Lib.hid (by
            rw [yF, getD_of HLl.out, HRl.out]; exact HS2.out)
          go_wp2_with fail
          exact ⟨⟨i + 1, by omega, by go_num, HN⟩, by simp [intOf]; omega⟩
    · obtain rfl : i = m := by omega
      have HN : Hid (RetG w R true (.returned (.tuple #[u8, .bool true])) wo) := Lib.hid (by
        have h := HS.out
        obtain ⟨g9, c9, e9⟩ := h.1.form
        rw [HF1.out]
        exact ⟨g9, c9, by rw [e9], by rw [← e9]; exact fo_of_own h.1.2.2.2.1 (by omega), h.1.1⟩)
      go_wp2_with fail
      go_ret2
      exact HN.out
theorem implFnd_any (v : Value) (Y : List (List Int)) (g n : Nat) (f : Nat → C.Cont) (p : Int) (h1 : Y.length ≤ 1048576) (h2 : tot Y ≤ 1048576) (hn : n ≤ 1048576) (hid : ∀ j, j < n → (f j).id.size ≤ 1048576) (w : World) (h : YdR w v Y) (hc : C.CAt w g 0 n f) :
    Calls Try.prog 14 #[v, .slice (some ⟨g, 0, none⟩) n n, .int .i64 p] w (RetF w (finR n f Y p) (askF n f Y p)) :=
  (implFnd_at v Y g n f p h1 h2 hn hid w h hc).mono fun _ _ ⟨_, c, he, ho, hb⟩ => ⟨_, c, he, ho, hb⟩
end Go.Proofs.Ytonploneihnekaa
