/-
  What the two LoadOrder return. No statement of the seat by itself.
-/
import Derived.Test.YtpflnjjckeeihaaZNs
namespace Go.Proofs.Ytpflnjjckeeihaa
open Go.RowKit

/-- The containers of the greatest k ports. -/
def loK (P : List Int) : Nat → List Int
  | 0 => []
  | k + 1 => loK P k ++ numsW (isP P (9 - (k : Int))) P.length
theorem loK_len (P : List Int) : ∀ k, (loK P k).length ≤ k * P.length
  | 0 => by simp [loK]
  | k + 1 => by
    have h1 := loK_len P k
    have h2 := numsW_len (isP P (9 - (k : Int))) P.length
    rw [loK, List.length_append, Nat.succ_mul]
    omega
theorem loK_small {P : List Int} (h : P.length ≤ 7) {k : Nat} (hk : k ≤ 9) : (loK P k).length ≤ 63 := by
  have h1 := loK_len P k
  have h2 : k * P.length ≤ 9 * 7 := Nat.mul_le_mul hk h
  omega
def loR (r h : Int) (P : List Int) : List Int := if goodZ r h P = true then loK P 9 else []
theorem loR_no {r h : Int} {P : List Int} (g : goodZ r h P = false) : loR r h P = [] := by simp [loR, g]
theorem loR_yes {r h : Int} {P : List Int} (g : goodZ r h P = true) : loR r h P = loK P 9 := by simp [loR, g]
theorem loR_len (r h : Int) (P : List Int) : (loR r h P).length ≤ 1048576 := by
  cases g : goodZ r h P with
  | false => rw [loR_no g]; simp
  | true =>
    rw [loR_yes g]
    have := loK_small (goodZ_iff.1 g).2.2.2.2.1 (Nat.le_refl 9)
    omega

/-- While the order grows: the order and the stowage's box. -/
structure OrdZ (w wr : World) (r h : Int) (v0 sv : Value) (S : List Int) : Prop where
  own : wr.ownsRow (w.heap.size + 1) 3 1 sv S.length (intV S)
  box : Box3 wr w.heap.size r h v0
  bl : Below w.heap.size w wr
  hlt : w.heap.size + 1 ≤ wr.heap.size
  nn : sv ≠ .slice none 0 0
section
variable {w wr W w4 : World} {r h : Int} {v0 sv v' : Value} {S : List Int}
theorem OrdZ.below (g : OrdZ w wr r h v0 sv S) (hb : Below wr.heap.size wr W) : OrdZ w W r h v0 sv S :=
  ⟨row_below g.own hb, g.box.below hb, g.bl.trans (hb.mono g.bl.size), Nat.le_trans g.hlt hb.size, g.nn⟩
theorem OrdZ.start (w : World) (r h : Int) (v0 : Value) : OrdZ w ((w.alloc (.cells #[.int .i64 r, .int .i64 h, v0] 26)).alloc (.cells #[] 3)) r h v0 (.slice (some ⟨w.heap.size + 1, 0, none⟩) 0 0) [] := by
  have hb0 := below_one w (.cells #[.int .i64 r, .int .i64 h, v0] 26)
  have hb1 := below_one (w.alloc (.cells #[.int .i64 r, .int .i64 h, v0] 26)) (.cells #[] 3)
  have ho := own_empty (w.alloc (.cells #[.int .i64 r, .int .i64 h, v0] 26)) (.cells #[] 3) 3 rfl
  have hs : (w.alloc (.cells #[.int .i64 r, .int .i64 h, v0] 26)).heap.size = w.heap.size + 1 := by simp
  rw [hs] at ho
  exact ⟨ho, (Box3.new w r h v0 26).below hb1, hb0.trans (hb1.mono hb0.size), by rw [← hs]; exact hb1.size, by simp⟩
/-- Numbers behind the order. -/
theorem OrdZ.more {L : List Int} (g : OrdZ w wr r h v0 sv S) (hb : Below wr.heap.size wr W) (ho : w4.ownsRow (w.heap.size + 1) 3 1 v' (S.length + L.length) (intV S ++ intV L)) (hg : W.grownBy w4 sv.ownBlock) (hn : v' ≠ .slice none 0 0) : OrdZ w w4 r h v0 v' (S ++ L) := by
  have g1 := g.below hb
  have hne : ∀ b, sv.ownBlock = some b → w.heap.size + 1 ≤ b := fun b e => row_base g.own b e
  have blk : W.heap[w.heap.size]? = w4.heap[w.heap.size]? := (hg.block _ g1.box.1 (fun e => by have := hne _ e.symm; omega)).symm
  refine ⟨by rw [List.length_append]; simpa [intV] using ho, ⟨Nat.lt_of_lt_of_le g1.box.1 hg.size, ?_, ?_, ?_⟩, g1.bl.grown hg g1.bl.size (fun j e => by have := hne j e; omega), Nat.le_trans g1.hlt hg.size, hn⟩
  · exact (World.cell?_of_block (a := ⟨w.heap.size, 0, none⟩) blk.symm).trans g1.box.2.1
  · exact (World.cell?_of_block (a := ⟨w.heap.size, 1, none⟩) blk.symm).trans g1.box.2.2.1
  · exact (World.cell?_of_block (a := ⟨w.heap.size, 2, none⟩) blk.symm).trans g1.box.2.2.2
theorem OrdZ.ret (g : OrdZ w wr r h v0 sv S) (ok : Bool) : RetL w S ok (.returned (.tuple #[sv, .bool ok])) wr := by
  obtain ⟨a, c, rfl⟩ := own_form g.own
  exact ⟨a, c, rfl, lo_of_own g.own (Nat.le_succ _), g.bl⟩
end

set_option maxRecDepth 100000 in
set_option maxHeartbeats 8000000 in
theorem implLo_any (v : Value) (r h : Int) (P : List Int) (hn : P.length ≤ 1048576) (w : World) (hv : StR w v r h P) :
    Calls Try.prog 28 #[v] w (RetL w (loR r h P) (goodZ r h P)) := by
  obtain ⟨f3, hi3, hz0, hz1, hz2⟩ := info_is info3
  obtain ⟨v0, rfl, hv⟩ := hv
  have C0 := Lib.hid (OrdZ.start w r h v0)
  have HF := Lib.hid (implValidZ_any (.agg #[.int .i64 r, .int .i64 h, v0]) r h P hn _ ⟨v0, rfl, hv.below C0.out.bl⟩)
  have HV := Lib.hid hv
  obtain ⟨-, c0, c1, c2⟩ := C0.out.box
  clear hv
  cases hg : goodZ r h P with
  | false =>
    have HX := Lib.hid (loR_no hg)
    rw [hg] at HF
    clear hg
    go_enter Try.func28, Try.ntmps28
    go_wp2_with fail
    refine HF.out.mono ?_
    rintro e w1 ⟨rfl, hb⟩
    have C1 := Lib.hid (C0.out.below hb)
    clear hb c0 c1 c2
    go_wp2_with fail
    go_ret2
    rw [HX.out]
    exact C1.out.ret false
  | true =>
    have HX := Lib.hid (loR_yes hg)
    have h7 := (goodZ_iff.1 hg).2.2.2.2.1
    have HSm := Lib.hid (fun k (hk : k ≤ 9) => loK_small h7 hk)
    rw [hg] at HF
    clear hg
    have HNf := Lib.hid (fun (p : Int) W (hb : Below w.heap.size w W) => numbersFor_any (.agg #[.int .i64 r, .int .i64 h, v0]) r h P p hn W ⟨v0, rfl, HV.out.below hb⟩)
    unfold NewN at HNf
    go_enter Try.func28, Try.ntmps28
    go_wp2_with fail
    refine HF.out.mono ?_
    rintro e w1 ⟨rfl, hb⟩
    have C1 := Lib.hid (C0.out.below hb)
    clear hb c0 c1 c2
    go_wp2_with fail
    go_loopw [4, 5] (fun s p wr => ∃ k : Nat, k ≤ 9 ∧ p = .int .i64 (9 - (k : Int)) ∧ Hid (OrdZ w wr r h v0 s (loK P k))) (fun _ p _ => (intOf p).toNat)
    case atStart => exact ⟨0, by omega, by simp, C1⟩
    case round =>
      obtain ⟨k, hk, rfl, HR⟩ := hrel
      rename World => wr
      obtain ⟨-, c0, c1, c2⟩ := HR.out.box
      by_cases hlt : k < 9
      · have HE := Lib.hid (HNf.out (9 - (k : Int)) wr HR.out.bl)
        have HS := Lib.hid (show loK P (k + 1) = loK P k ++ numsW (isP P (9 - (k : Int))) P.length from rfl)
        have hs1 := HSm.out k (by omega)
        have hs2 := HSm.out (k + 1) (by omega)
        rw [HS.out, List.length_append] at hs2
        have hpt : ¬ (9 - (k : Int)) < 1 := by omega
        have hpt2 : (1 : Int) ≤ 9 - (k : Int) := by omega
        go_wp2_with fail
        refine HE.out.mono ?_
        rintro e w2 ⟨g2, k2, rfl, ho2, hb2⟩
        have C2 := Lib.hid (HR.out.below hb2)
        have hrow := C2.out.own
        have HSrc := Lib.hid (src_of (w := w2) (g := g2) (off := 0) (l := numsW (isP P (9 - (k : Int))) P.length) (fun j x hx => by
          have hlt := lt_of_get hx
          rw [Nat.zero_add, ho2.cellAt j (by omega), intV_get, hx]
          rfl))
        have hzz := C2.out.hlt
        have HPush := Lib.hid (fun (w4 : World) (v' : Value) ho hg hn => C2.out.more (w4 := w4) (v' := v') (L := numsW (isP P (9 - (k : Int))) P.length) (Below.refl _ _) ho hg hn)
        have HLen := Lib.hid (intV_len (numsW (isP P (9 - (k : Int))) P.length))
        clear hb2 ho2 c0 c1 c2
        generalize hLL : numsW (isP P (9 - (k : Int))) P.length = LL at *
        clear hLL
        generalize hNL : LL.length = nl at *
        generalize hSS : loK P k = SS at *
        generalize hSL : SS.length = ns at *
        go_wp2_with (at_builtin; refine wpList_append_own _ rfl _ _ 24 rfl (w.heap.size + 1) 3 f3 (.int .i64 0) 1 8 Try.underlying24 hi3 hz0 hz1 hz2 rfl (by decide) _ _ _ rfl hrow ⟨g2, 0, none⟩ nl _ (intV LL) rfl (by rw [HLen.out]; omega) HSrc.out (intV_one LL) (by unfold maxLen; omega) (by omega) (by omega) ?_; intro v' w4 hown' hgrow hnil)
        have HN4 : Hid (OrdZ w w4 r h v0 v' (loK P (k + 1))) := Lib.hid (by
          rw [HS.out]
          exact HPush.out w4 v' hown' hgrow (fun e => C2.out.nn (hnil.1 e).1))
        clear hown' hgrow hnil hrow
        exact ⟨⟨k + 1, by omega, val_i (by omega), HN4⟩, by simp [intOf]; omega⟩
      · obtain rfl : k = 9 := by omega
        go_wp2_with fail
        go_ret2
        rw [HX.out]
        exact HR.out.ret true

theorem numsW_one {p : Nat → Bool} {n : Nat} : numsW p (n + 1) = numsW p n ++ (if p n = true then [(n : Int) + 1] else []) := by
  cases h : p n with
  | true => rw [numsW_yes h]; rfl
  | false => rw [numsW_no h]; simp

set_option maxRecDepth 100000 in
set_option maxHeartbeats 8000000 in
theorem specLo_any (v : Value) (r h : Int) (P : List Int) (hn : P.length ≤ 1048576) (w : World) (hv : StR w v r h P) :
    Calls Try.prog 44 #[v] w (RetL w (loR r h P) (goodZ r h P)) := by
  obtain ⟨f3, hi3, hz0, hz1, hz2⟩ := info_is info3
  obtain ⟨v0, rfl, hv⟩ := hv
  have C0 := Lib.hid (OrdZ.start w r h v0)
  have HF := Lib.hid (goodZ_spec (.agg #[.int .i64 r, .int .i64 h, v0]) r h P hn _ ⟨v0, rfl, hv.below C0.out.bl⟩)
  have HV := Lib.hid hv
  obtain ⟨-, c0, c1, c2⟩ := C0.out.box
  clear hv
  cases hg : goodZ r h P with
  | false =>
    have HX := Lib.hid (loR_no hg)
    rw [hg] at HF
    clear hg
    go_enter Try.func44, Try.ntmps44
    go_wp2_with fail
    refine HF.out.mono ?_
    rintro e w1 ⟨rfl, hb⟩
    have C1 := Lib.hid (C0.out.below hb)
    clear hb c0 c1 c2
    go_wp2_with fail
    go_ret2
    rw [HX.out]
    exact C1.out.ret false
  | true =>
    have HX := Lib.hid (loR_yes hg)
    have h7 := (goodZ_iff.1 hg).2.2.2.2.1
    have HSm := Lib.hid (fun k (hk : k ≤ 9) => loK_small h7 hk)
    rw [hg] at HF
    clear hg
    obtain ⟨a, c, rfl⟩ := HV.out.form
    obtain ⟨n, hl⟩ : ∃ n, P.length = n := ⟨_, rfl⟩
    have HN := Lib.hid hl
    rw [hl] at HF c2 h7 hn C0 HV
    rw [hl]
    clear hl
    go_enter Try.func44, Try.ntmps44
    go_wp2_with fail
    refine HF.out.mono ?_
    rintro e w1 ⟨rfl, hb⟩
    have C1 := Lib.hid (C0.out.below hb)
    clear hb c0 c1 c2
    go_wp2_with fail
    go_loopw [4, 5] (fun s p wr => ∃ k : Nat, k ≤ 9 ∧ p = .int .i64 (9 - (k : Int)) ∧ Hid (OrdZ w wr r h (.slice a n c) s (loK P k))) (fun _ p _ => (intOf p).toNat)
    case atStart => exact ⟨0, by omega, by simp, C1⟩
    case round =>
      obtain ⟨k, hk, rfl, HR⟩ := hrel
      rename World => wr
      by_cases hlt : k < 9
      · have hpt : (k : Int) < 9 := by omega
        have HS := Lib.hid (show loK P (k + 1) = loK P k ++ numsW (isP P (9 - (k : Int))) P.length from rfl)
        have hs1 := HSm.out k (by omega)
        go_wp2_with fail
        go_loopw [4, 6] (fun s i wr => ∃ j : Nat, j ≤ n ∧ i = .int .i64 j ∧ Hid (OrdZ w wr r h (.slice a n c) s (loK P k ++ numsW (isP P (9 - (k : Int))) j))) (fun _ i _ => n - (intOf i).toNat)
        case atStart => exact ⟨0, Nat.zero_le _, rfl, Lib.hid (by rw [numsW_zero, List.append_nil]; exact HR.out)⟩
        case round =>
          obtain ⟨j, hj, rfl, HQ⟩ := hrel
          rename World => wq
          obtain ⟨-, c0, c1, c2⟩ := HQ.out.box
          by_cases hlt2 : j < n
          · obtain ⟨go, offo, rfl, hgo, hcc⟩ : ∃ go offo, a = some ⟨go, offo, none⟩ ∧ go < w.heap.size ∧ ∀ i x, P[i]? = some x → w.cell? ⟨go, offo + i, none⟩ = some (.int .i64 x) := by
              obtain ⟨a', c', e, hh⟩ := HV.out
              injection e with e1 e2 e3
              subst e1
              exact hh (by have := HN.out; omega)
            obtain ⟨x, hx⟩ := get_at HN.out hlt2
            have o1 := (HQ.out.bl.cell (p := ⟨go, offo + j, none⟩) hgo).trans (hcc j x hx)
            have hisp : isP P (9 - (k : Int)) j = (x == 9 - (k : Int)) := by simp [isP, List.getD, hx]
            have hnl := numsW_len (isP P (9 - (k : Int))) j
            clear hcc
            by_cases hxp : x = 9 - (k : Int)
            · have hd : (x == 9 - (k : Int)) = true := by simp [hxp]
              have HT := Lib.hid (numsW_yes (hisp.trans hd))
              have hrow := HQ.out.own
              have hzz := HQ.out.hlt
              have hAl : (loK P k ++ numsW (isP P (9 - (k : Int))) j).length ≤ 100 := by rw [List.length_append]; omega
              clear hx hxp hisp hnl
              have HPush := Lib.hid (fun (w4 : World) (v' : Value) (o : Obj) ho hg hn => HQ.out.more (w4 := w4) (v' := v') (L := [(j : Int) + 1]) (below_one wq o) ho hg hn)
              obtain ⟨SS, hSS⟩ : ∃ SS, loK P k ++ numsW (isP P (9 - (k : Int))) j = SS := ⟨_, rfl⟩
              have HSS := Lib.hid hSS
              rw [hSS] at hrow hAl HPush
              clear hSS
              go_wp2_with (at_builtin; refine wpList_append_own _ rfl _ _ 24 rfl (w.heap.size + 1) 3 f3 (.int .i64 0) 1 8 Try.underlying24 hi3 hz0 hz1 hz2 rfl (by decide) _ _ _ rfl (hrow.alloc _) ⟨wq.heap.size, 0, none⟩ 1 1 [.int .i64 ((j : Int) + 1)] rfl rfl (cell_one_new _ _ _) (by simp [Value.oneCell']) (by unfold maxLen; omega) (by omega) (by simp; omega) ?_; intro v' w4 hown' hgrow hnil)
              have HN4 : Hid (OrdZ w w4 r h (.slice (some ⟨go, offo, none⟩) n c) v' (loK P k ++ numsW (isP P (9 - (k : Int))) (j + 1))) := Lib.hid (by
                rw [HT.out, ← List.append_assoc, HSS.out]
                exact HPush.out w4 v' _ hown' hgrow (fun e => by have := (hnil.1 e).2; omega))
              clear hown' hgrow hnil hrow
              go_roundw
              case rel => exact ⟨j + 1, by omega, by go_num, HN4⟩
              case measure => simp [intOf]; omega
            · have hd : (x == 9 - (k : Int)) = false := beq_eq_false_iff_ne.2 hxp
              have HT := Lib.hid (numsW_no (hisp.trans hd))
              clear hx hxp hisp hnl
              go_wp2_with fail
              go_roundw
              case rel => exact ⟨j + 1, by omega, by go_num, Lib.hid (by rw [HT.out]; exact HQ.out)⟩
              case measure => simp [intOf]; omega
          · obtain rfl : j = n := by omega
            have HN4 := HQ
            rw [← HN.out, ← HS.out] at HN4
            rw [HN.out] at HN4
            go_wp2_with fail
            go_roundw
            case rel => exact ⟨k + 1, by omega, val_i (by omega), HN4⟩
            case measure => simp [intOf]; omega
      · obtain rfl : k = 9 := by omega
        go_wp2_with fail
        go_ret2
        rw [HX.out]
        exact HR.out.ret true
end Go.Proofs.Ytpflnjjckeeihaa
