/-
  Plain mathematics: the rows of a plan as rows of ports; the best plan as the best placement. No statement of the seat by itself.
-/
import Derived.Test.YtfbeoficgkkamaaMZb
import Derived.Test.YtfbeoficgkkamaaMPbI
import Derived.Test.YtfbeoficgkkamaaTryP
namespace Go.Proofs.Ytfbeoficgkkamaa

section
open Go.RowKit
/-- The containers of the greatest k ports. -/
def loK (P : List Int) : Nat → List Int
  | 0 => []
  | k + 1 => loK P k ++ numsW (isP P (9 - (k : Int))) P.length
theorem loK_len (P : List Int) : ∀ k, (loK P k).length ≤ k * P.length
  | 0 => by simp [loK]
  | k + 1 => by
    have h1 := loK_len P k
    have h2 := numsW_len (isP P (9 - (k : Int))) P.length
    rw [loK, List.length_append, Nat.succ_mul]
    omega
theorem loK_small {P : List Int} (h : P.length ≤ 7) {k : Nat} (hk : k ≤ 9) : (loK P k).length ≤ 63 := by
  have h1 := loK_len P k
  have h2 : k * P.length ≤ 9 * 7 := Nat.mul_le_mul hk h
  omega
def loR (r h : Int) (P : List Int) : List Int := if goodZ r h P = true then loK P 9 else []
theorem loR_no {r h : Int} {P : List Int} (g : goodZ r h P = false) : loR r h P = [] := by simp [loR, g]
theorem loR_yes {r h : Int} {P : List Int} (g : goodZ r h P = true) : loR r h P = loK P 9 := by simp [loR, g]
theorem loR_len (r h : Int) (P : List Int) : (loR r h P).length ≤ 1048576 := by
  cases g : goodZ r h P with
  | false => rw [loR_no g]; simp
  | true =>
    rw [loR_yes g]
    have := loK_small (goodZ_iff.1 g).2.2.2.2.1 (Nat.le_refl 9)
    omega

/-- While the order grows: the order and the stowage's box. -/
structure OrdZ (w wr : World) (r h : Int) (v0 sv : Value) (S : List Int) : Prop where
  own : wr.ownsRow (w.heap.size + 1) 3 1 sv S.length (intV S)
  box : Box3 wr w.heap.size r h v0
  bl : Below w.heap.size w wr
  hlt : w.heap.size + 1 ≤ wr.heap.size
  nn : sv ≠ .slice none 0 0
section
variable {w wr W w4 : World} {r h : Int} {v0 sv v' : Value} {S : List Int}
theorem OrdZ.below (g : OrdZ w wr r h v0 sv S) (hb : Below wr.heap.size wr W) : OrdZ w W r h v0 sv S :=
  ⟨row_below g.own hb, g.box.below hb, g.bl.trans (hb.mono g.bl.size), Nat.le_trans g.hlt hb.size, g.nn⟩
theorem OrdZ.start (w : World) (r h : Int) (v0 : Value) : OrdZ w ((w.alloc (.cells #[.int .i64 r, .int .i64 h, v0] 26)).alloc (.cells #[] 3)) r h v0 (.slice (some ⟨w.heap.size + 1, 0, none⟩) 0 0) [] := by
  have hb0 := below_one w (.cells #[.int .i64 r, .int .i64 h, v0] 26)
  have hb1 := below_one (w.alloc (.cells #[.int .i64 r, .int .i64 h, v0] 26)) (.cells #[] 3)
  have ho := own_empty (w.alloc (.cells #[.int .i64 r, .int .i64 h, v0] 26)) (.cells #[] 3) 3 rfl
  have hs : (w.alloc (.cells #[.int .i64 r, .int .i64 h, v0] 26)).heap.size = w.heap.size + 1 := by simp
  rw [hs] at ho
  exact ⟨ho, (Box3.new w r h v0 26).below hb1, hb0.trans (hb1.mono hb0.size), by rw [← hs]; exact hb1.size, by simp⟩
/-- Numbers behind the order. -/
theorem OrdZ.more {L : List Int} (g : OrdZ w wr r h v0 sv S) (hb : Below wr.heap.size wr W) (ho : w4.ownsRow (w.heap.size + 1) 3 1 v' (S.length + L.length) (intV S ++ intV L)) (hg : W.grownBy w4 sv.ownBlock) (hn : v' ≠ .slice none 0 0) : OrdZ w w4 r h v0 v' (S ++ L) := by
  have g1 := g.below hb
  have hne : ∀ b, sv.ownBlock = some b → w.heap.size + 1 ≤ b := fun b e => row_base g.own b e
  have blk : W.heap[w.heap.size]? = w4.heap[w.heap.size]? := (hg.block _ g1.box.1 (fun e => by have := hne _ e.symm; omega)).symm
  refine ⟨by rw [List.length_append]; simpa [intV] using ho, ⟨Nat.lt_of_lt_of_le g1.box.1 hg.size, ?_, ?_, ?_⟩, g1.bl.grown hg g1.bl.size (fun j e => by have := hne j e; omega), Nat.le_trans g1.hlt hg.size, hn⟩
  · exact (World.cell?_of_block (a := ⟨w.heap.size, 0, none⟩) blk.symm).trans g1.box.2.1
  · exact (World.cell?_of_block (a := ⟨w.heap.size, 1, none⟩) blk.symm).trans g1.box.2.2.1
  · exact (World.cell?_of_block (a := ⟨w.heap.size, 2, none⟩) blk.symm).trans g1.box.2.2.2
theorem OrdZ.ret (g : OrdZ w wr r h v0 sv S) (ok : Bool) : RetL w S ok (.returned (.tuple #[sv, .bool ok])) wr := by
  obtain ⟨a, c, rfl⟩ := own_form g.own
  exact ⟨a, c, rfl, lo_of_own g.own (Nat.le_succ _), g.bl⟩
end

set_option maxRecDepth 100000 in
set_option maxHeartbeats 8000000 in
theorem implLo_any (v : Value) (r h : Int) (P : List Int) (hn : P.length ≤ 1048576) (w : World) (hv : StR w v r h P) :
    Calls Try.prog 29 #[v] w (RetL w (loR r h P) (goodZ r h P)) := by
  obtain ⟨f3, hi3, hz0, hz1, hz2⟩ := info_is info3
  obtain ⟨v0, rfl, hv⟩ := hv
  have C0 := Lib.hid (OrdZ.start w r h v0)
  have HF := Lib.hid (implValidZ_any (.agg #[.int .i64 r, .int .i64 h, v0]) r h P hn _ ⟨v0, rfl, hv.below C0.out.bl⟩)
  have HV := Lib.hid hv
  obtain ⟨-, c0, c1, c2⟩ := C0.out.box
  clear hv
  cases hg : goodZ r h P with
  | false =>
    have HX := Lib.hid (loR_no hg)
    rw [hg] at HF
    clear hg
    go_enter Try.func29, Try.ntmps29
    go_wp2_with fail
    refine HF.out.mono ?_
    rintro e w1 ⟨rfl, hb⟩
    have C1 := Lib.hid (C0.out.below hb)
    clear hb c0 c1 c2
    go_wp2_with fail
    go_ret2
    rw [HX.out]
    exact C1.out.ret false
  | true =>
    have HX := Lib.hid (loR_yes hg)
    have h7 := (goodZ_iff.1 hg).2.2.2.2.1
    have HSm := Lib.hid (fun k (hk : k ≤ 9) => loK_small h7 hk)
    rw [hg] at HF
    clear hg
    have HNf := Lib.hid (fun (p : Int) W (hb : Below w.heap.size w W) => numbersFor_any (.agg #[.int .i64 r, .int .i64 h, v0]) r h P p hn W ⟨v0, rfl, HV.out.below hb⟩)
    unfold NewN at HNf
    go_enter Try.func29, Try.ntmps29
    go_wp2_with fail
    refine HF.out.mono ?_
    rintro e w1 ⟨rfl, hb⟩
    have C1 := Lib.hid (C0.out.below hb)
    clear hb c0 c1 c2
    go_wp2_with fail
    go_loopw [4, 5] (fun s p wr => ∃ k : Nat, k ≤ 9 ∧ p = .int .i64 (9 - (k : Int)) ∧ Hid (OrdZ w wr r h v0 s (loK P k))) (fun _ p _ => (intOf p).toNat)
    case atStart => exact ⟨0, by omega, by simp, C1⟩
    case round =>
      obtain ⟨k, hk, rfl, HR⟩ := hrel
      rename World => wr
      obtain ⟨-, c0, c1, c2⟩ := HR.out.box
      by_cases hlt : k < 9
      · have HE := Lib.hid (HNf.out (9 - (k : Int)) wr HR.out.bl)
        have HS := Lib.hid (show loK P (k + 1) = loK P k ++ numsW (isP P (9 - (k : Int))) P.length from rfl)
        have hs1 := HSm.out k (by omega)
        have hs2 := HSm.out (k + 1) (by omega)
        rw [HS.out, List.length_append] at hs2
        have hpt : ¬ (9 - (k : Int)) < 1 := by omega
        have hpt2 : (1 : Int) ≤ 9 - (k : Int) := by omega
        go_wp2_with fail
        refine HE.out.mono ?_
        rintro e w2 ⟨g2, k2, rfl, ho2, hb2⟩
        have C2 := Lib.hid (HR.out.below hb2)
        have hrow := C2.out.own
        have HSrc := Lib.hid (src_of (w := w2) (g := g2) (off := 0) (l := numsW (isP P (9 - (k : Int))) P.length) (fun j x hx => by
          have hlt := lt_of_get hx
          rw [Nat.zero_add, ho2.cellAt j (by omega), intV_get, hx]
          rfl))
        have hzz := C2.out.hlt
        have HPush := Lib.hid (fun (w4 : World) (v' : Value) ho hg hn => C2.out.more (w4 := w4) (v' := v') (L := numsW (isP P (9 - (k : Int))) P.length) (Below.refl _ _) ho hg hn)
        have HLen := Lib.hid (intV_len (numsW (isP P (9 - (k : Int))) P.length))
        clear hb2 ho2 c0 c1 c2
        generalize hLL : numsW (isP P (9 - (k : Int))) P.length = LL at *
        clear hLL
        generalize hNL : LL.length = nl at *
        generalize hSS : loK P k = SS at *
        generalize hSL : SS.length = ns at *
        go_wp2_with (at_builtin; refine wpList_append_own _ rfl _ _ 24 rfl (w.heap.size + 1) 3 f3 (.int .i64 0) 1 8 Try.underlying24 hi3 hz0 hz1 hz2 rfl (by decide) _ _ _ rfl hrow ⟨g2, 0, none⟩ nl _ (intV LL) rfl (by rw [HLen.out]; omega) HSrc.out (intV_one LL) (by unfold maxLen; omega) (by omega) (by omega) ?_; intro v' w4 hown' hgrow hnil)
        have HN4 : Hid (OrdZ w w4 r h v0 v' (loK P (k + 1))) := Lib.hid (by
          rw [HS.out]
          exact HPush.out w4 v' hown' hgrow (fun e => C2.out.nn (hnil.1 e).1))
        clear hown' hgrow hnil hrow
        exact ⟨⟨k + 1, by omega, val_i (by omega), HN4⟩, by simp [intOf]; omega⟩
      · obtain rfl : k = 9 := by omega
        go_wp2_with fail
        go_ret2
        rw [HX.out]
        exact HR.out.ret true

theorem numsW_one {p : Nat → Bool} {n : Nat} : numsW p (n + 1) = numsW p n ++ (if p n = true then [(n : Int) + 1] else []) := by
  cases h : p n with
  | true => rw [numsW_yes h]; rfl
  | false => rw [numsW_no h]; simp

set_option maxRecDepth 100000 in
set_option maxHeartbeats 8000000 in
theorem specLo_any (v : Value) (r h : Int) (P : List Int) (hn : P.length ≤ 1048576) (w : World) (hv : StR w v r h P) :
    Calls Try.prog 45 #[v] w (RetL w (loR r h P) (goodZ r h P)) := by
  obtain ⟨f3, hi3, hz0, hz1, hz2⟩ := info_is info3
  obtain ⟨v0, rfl, hv⟩ := hv
  have C0 := Lib.hid (OrdZ.start w r h v0)
  have HF := Lib.hid (goodZ_spec (.agg #[.int .i64 r, .int .i64 h, v0]) r h P hn _ ⟨v0, rfl, hv.below C0.out.bl⟩)
  have HV := Lib.hid hv
  obtain ⟨-, c0, c1, c2⟩ := C0.out.box
  clear hv
  cases hg : goodZ r h P with
  | false =>
    have HX := Lib.hid (loR_no hg)
    rw [hg] at HF
    clear hg
    go_enter Try.func45, Try.ntmps45
    go_wp2_with fail
    refine HF.out.mono ?_
    rintro e w1 ⟨rfl, hb⟩
    have C1 := Lib.hid (C0.out.below hb)
    clear hb c0 c1 c2
    go_wp2_with fail
    go_ret2
    rw [HX.out]
    exact C1.out.ret false
  | true =>
    have HX := Lib.hid (loR_yes hg)
    have h7 := (goodZ_iff.1 hg).2.2.2.2.1
    have HSm := Lib.hid (fun k (hk : k ≤ 9) => loK_small h7 hk)
    rw [hg] at HF
    clear hg
    obtain ⟨a, c, rfl⟩ := HV.out.form
    obtain ⟨n, hl⟩ : ∃ n, P.length = n := ⟨_, rfl⟩
    have HN := Lib.hid hl
    rw [hl] at HF c2 h7 hn C0 HV
    rw [hl]
    clear hl
    go_enter Try.func45, Try.ntmps45
    go_wp2_with fail
    refine HF.out.mono ?_
    rintro e w1 ⟨rfl, hb⟩
    have C1 := Lib.hid (C0.out.below hb)
    clear hb c0 c1 c2
    go_wp2_with fail
    go_loopw [4, 5] (fun s p wr => ∃ k : Nat, k ≤ 9 ∧ p = .int .i64 (9 - (k : Int)) ∧ Hid (OrdZ w wr r h (.slice a n c) s (loK P k))) (fun _ p _ => (intOf p).toNat)
    case atStart => exact ⟨0, by omega, by simp, C1⟩
    case round =>
      obtain ⟨k, hk, rfl, HR⟩ := hrel
      rename World => wr
      by_cases hlt : k < 9
      · have hpt : (k : Int) < 9 := by omega
        have HS := Lib.hid (show loK P (k + 1) = loK P k ++ numsW (isP P (9 - (k : Int))) P.length from rfl)
        have hs1 := HSm.out k (by omega)
        go_wp2_with fail
        go_loopw [4, 6] (fun s i wr => ∃ j : Nat, j ≤ n ∧ i = .int .i64 j ∧ Hid (OrdZ w wr r h (.slice a n c) s (loK P k ++ numsW (isP P (9 - (k : Int))) j))) (fun _ i _ => n - (intOf i).toNat)
        case atStart => exact ⟨0, Nat.zero_le _, rfl, Lib.hid (by rw [numsW_zero, List.append_nil]; exact HR.out)⟩
        case round =>
          obtain ⟨j, hj, rfl, HQ⟩ := hrel
          rename World => wq
          obtain ⟨-, c0, c1, c2⟩ := HQ.out.box
          by_cases hlt2 : j < n
          · obtain ⟨go, offo, rfl, hgo, hcc⟩ : ∃ go offo, a = some ⟨go, offo, none⟩ ∧ go < w.heap.size ∧ ∀ i x, P[i]? = some x → w.cell? ⟨go, offo + i, none⟩ = some (.int .i64 x) := by
              obtain ⟨a', c', e, hh⟩ := HV.out
              injection e with e1 e2 e3
              subst e1
              exact hh (by have := HN.out; omega)
            obtain ⟨x, hx⟩ := get_at HN.out hlt2
            have o1 := (HQ.out.bl.cell (p := ⟨go, offo + j, none⟩) hgo).trans (hcc j x hx)
            have hisp : isP P (9 - (k : Int)) j = (x == 9 - (k : Int)) := by simp [isP, List.getD, hx]
            have hnl := numsW_len (isP P (9 - (k : Int))) j
            clear hcc
            by_cases hxp : x = 9 - (k : Int)
            · have hd : (x == 9 - (k : Int)) = true := by simp [hxp]
              have HT := Lib.hid (numsW_yes (hisp.trans hd))
              have hrow := HQ.out.own
              have hzz := HQ.out.hlt
              have hAl : (loK P k ++ numsW (isP P (9 - (k : Int))) j).length ≤ 100 := by rw [List.length_append]; omega
              clear hx hxp hisp hnl
              have HPush := Lib.hid (fun (w4 : World) (v' : Value) (o : Obj) ho hg hn => HQ.out.more (w4 := w4) (v' := v') (L := [(j : Int) + 1]) (below_one wq o) ho hg hn)
              obtain ⟨SS, hSS⟩ : ∃ SS, loK P k ++ numsW (isP P (9 - (k : Int))) j = SS := ⟨_, rfl⟩
              have HSS := Lib.hid hSS
              rw [hSS] at hrow hAl HPush
              clear hSS
              go_wp2_with (at_builtin; refine wpList_append_own _ rfl _ _ 24 rfl (w.heap.size + 1) 3 f3 (.int .i64 0) 1 8 Try.underlying24 hi3 hz0 hz1 hz2 rfl (by decide) _ _ _ rfl (hrow.alloc _) ⟨wq.heap.size, 0, none⟩ 1 1 [.int .i64 ((j : Int) + 1)] rfl rfl (cell_one_new _ _ _) (by simp [Value.oneCell']) (by unfold maxLen; omega) (by omega) (by simp; omega) ?_; intro v' w4 hown' hgrow hnil)
              have HN4 : Hid (OrdZ w w4 r h (.slice (some ⟨go, offo, none⟩) n c) v' (loK P k ++ numsW (isP P (9 - (k : Int))) (j + 1))) := Lib.hid (by
                rw [HT.out, ← List.append_assoc, HSS.out]
                exact HPush.out w4 v' _ hown' hgrow (fun e => by have := (hnil.1 e).2; omega))
              clear hown' hgrow hnil hrow
              go_roundw
              case rel => exact ⟨j + 1, by omega, by go_num, HN4⟩
              case measure => simp [intOf]; omega
            · have hd : (x == 9 - (k : Int)) = false := beq_eq_false_iff_ne.2 hxp
              have HT := Lib.hid (numsW_no (hisp.trans hd))
              clear hx hxp hisp hnl
              go_wp2_with fail
              go_roundw
              case rel => exact ⟨j + 1, by omega, by go_num, Lib.hid (by rw [HT.out]; exact HQ.out)⟩
              case measure => simp [intOf]; omega
          · obtain rfl : j = n := by omega
            have HN4 := HQ
            rw [← HN.out, ← HS.out] at HN4
            rw [HN.out] at HN4
            go_wp2_with fail
            go_roundw
            case rel => exact ⟨k + 1, by omega, val_i (by omega), HN4⟩
            case measure => simp [intOf]; omega
      · obtain rfl : k = 9 := by omega
        go_wp2_with fail
        go_ret2
        rw [HX.out]
        exact HR.out.ret true
end

section
open Go.RowKit
/-- A slice that reads as a list of ints, in a block of ints. -/
def TL (w : World) (v : Value) (l : List Int) : Prop := ∃ a c, v = .slice a l.length c ∧ (0 < l.length → ∃ g off cur, a = some ⟨g, off, none⟩ ∧ w.heap[g]? = some (Obj.cells cur 3 (0, 0)) ∧ ∀ (j : Nat) (x : Int), l[j]? = some x → cur[off + j]? = some (.int .i64 x))
theorem TL.il {w : World} {v : Value} {l : List Int} (h : TL w v l) : IL w v l := by
  obtain ⟨a, c, rfl, h⟩ := h
  refine ⟨a, c, rfl, fun h0 => ?_⟩
  obtain ⟨g, off, cur, rfl, hg, hc⟩ := h h0
  exact ⟨g, off, rfl, mem_lt hg, fun j x hx => cell_of hg (hc j x hx)⟩
theorem TL.keep {w w' : World} {v : Value} {l : List Int} (h : TL w v l) (hk : ∀ (g : Nat) (cur : Array Value), w.heap[g]? = some (Obj.cells cur 3 (0, 0)) → w'.heap[g]? = some (Obj.cells cur 3 (0, 0))) : TL w' v l := by
  obtain ⟨a, c, rfl, h⟩ := h
  refine ⟨a, c, rfl, fun h0 => ?_⟩
  obtain ⟨g, off, cur, rfl, hg, hc⟩ := h h0
  exact ⟨g, off, cur, rfl, hk g cur hg, hc⟩
theorem TL.below {w w' : World} {v : Value} {l : List Int} (h : TL w v l) (hb : Below w.heap.size w w') : TL w' v l := h.keep fun g _ hg => (hb.block g (mem_lt hg)).trans hg
theorem tl_of_owns {W : World} {base : Nat} {v : Value} {l : List Int} (h : W.ownsRow base 3 1 v l.length (intV l)) : TL W v l := by
  obtain ⟨a, c, rfl⟩ := own_form h
  refine ⟨a, c, rfl, fun h0 => ?_⟩
  rcases h.2 with ⟨_, hz⟩ | ⟨g, cap, cur, hv, hg, hb, h1, h2, h3, h4⟩
  · omega
  · injection hv with e1 e2 e3
    subst e1 e3
    refine ⟨g, 0, cur, rfl, hb, fun j x hx => ?_⟩
    have hj := lt_of_get hx
    have hc := h.cellAt j (by omega)
    rw [intV_get, hx] at hc
    simpa [World.cell?, hb] using hc
/-- The first of a list, read through a shorter slice. -/
theorem tl_take {w : World} {a : Option Addr} {n c c' k : Nat} {l : List Int} (h : TL w (.slice a n c) l) (hn : l.length = n) (hk : k ≤ n) : TL w (.slice a k c') (l.take k) := by
  obtain ⟨a', c2, e, h⟩ := h
  injection e with e1 e2 e3
  subst e1
  refine ⟨a, c', by rw [List.length_take]; congr 1; omega, fun h0 => ?_⟩
  rw [List.length_take] at h0
  obtain ⟨g, off, cur, rfl, hg, hc⟩ := h (by omega)
  refine ⟨g, off, cur, rfl, hg, fun j x hx => ?_⟩
  rw [List.getElem?_take] at hx
  split at hx
  · exact hc j x hx
  · cases hx

theorem rowZ_take {O : List Int} {j : Nat} : ∀ {n t i : Nat}, t < (rowZ O n j).length → (rowZ O n j).getD t 0 = (i : Int) + 1 → (rowZ O n j).take t = rowZ O i j := by
  intro n
  induction n with
  | zero => intro t i ht; simp [rowZ_zero] at ht
  | succ n ih =>
    intro t i ht e
    by_cases q : (O.getD n 0).toNat = j
    · rw [rowZ_yes q] at ht e ⊢
      rw [List.length_append, List.length_singleton] at ht
      by_cases h : t < (rowZ O n j).length
      · rw [List.take_append_of_le_length (by omega)]
        refine ih h ?_
        rw [List.getD, List.getElem?_append_left h] at e
        exact e
      · have ht2 : t = (rowZ O n j).length := by omega
        subst ht2
        rw [List.getD, List.getElem?_append_right (Nat.le_refl _)] at e
        simp at e
        rw [List.take_left]
        rw [show i = n by omega]
    · rw [rowZ_no q] at ht e ⊢
      exact ih ht e
/-- The ports of the containers below one. -/
def blZ (P O : List Int) (i : Nat) : List Int := (rowZ O i (O.getD i 0).toNat).map (ptZ P)
theorem blZ_at {P O : List Int} {n t i j : Nat} (ht : t < (rowZ O n j).length) (e : (rowZ O n j).getD t 0 = (i : Int) + 1) : ((rowZ O n j).map (ptZ P)).take t = blZ P O i := by
  have hj : (O.getD i 0).toNat = j := by
    obtain ⟨i', -, h2, h3⟩ := rowZ_at ht
    have : i = i' := by omega
    rw [this]; exact h2
  rw [← List.map_take, rowZ_take ht e, blZ, hj]
theorem blZ_len (P O : List Int) (i : Nat) : (blZ P O i).length ≤ i := by
  unfold blZ
  rw [List.length_map]
  exact rowZ_len O _ i
theorem blZ_mem {P O : List Int} {i : Nat} {x : Int} : x ∈ blZ P O i ↔ ∃ m : Nat, m < i ∧ (O.getD m 0).toNat = (O.getD i 0).toNat ∧ x = P.getD m 0 := by
  unfold blZ
  rw [List.mem_map]
  constructor
  · rintro ⟨y, hy, rfl⟩
    obtain ⟨m, h1, h2, rfl⟩ := rowZ_mem.1 hy
    exact ⟨m, h1, h2, ptZ_at P m⟩
  · rintro ⟨m, h1, h2, rfl⟩
    exact ⟨_, rowZ_mem.2 ⟨m, h1, h2, rfl⟩, ptZ_at P m⟩
theorem shB_ear {P O : List Int} {i : Nat} (h : P.getD i 0 ≤ 9) : shB P O i = decide (earL (blZ P O i) < P.getD i 0) := by
  refine Bool.eq_iff_iff.2 ?_
  rw [shB_iff, decide_eq_true_iff, earL_lt]
  constructor
  · rintro ⟨m, h1, h2, h3⟩
    exact .inr ⟨_, blZ_mem.2 ⟨m, h1, h2, rfl⟩, h3⟩
  · rintro (h1 | ⟨a, ha, h3⟩)
    · omega
    · obtain ⟨m, h1, h2, rfl⟩ := blZ_mem.1 ha
      exact ⟨m, h1, h2, h3⟩

set_option maxRecDepth 100000 in
set_option maxHeartbeats 4000000 in
theorem portsOf_any (v vn : Value) (r h : Int) (P L : List Int) (hn : P.length ≤ 7) (hL : L.length ≤ 100) (hr : ∀ x ∈ L, 1 ≤ x ∧ x ≤ (P.length : Int)) (w : World) (hv : StR w v r h P) (hl : IL w vn L) :
    Calls Try.prog 79 #[v, vn] w (NewN w (L.map (ptZ P))) := by
  obtain ⟨f3, hi3, hz0, hz1, hz2⟩ := info_is info3
  obtain ⟨v0, rfl, hv⟩ := hv
  have C0 := Lib.hid (OrdZ.start w r h v0)
  have HV := Lib.hid hv
  have HI := Lib.hid hl
  have HRg := Lib.hid hr
  obtain ⟨n, hnL⟩ : ∃ n, L.length = n := ⟨_, rfl⟩
  have HN := Lib.hid hnL
  obtain ⟨al, cl, rfl⟩ := hl.form
  obtain ⟨p, hp⟩ : ∃ p, P.length = p := ⟨_, rfl⟩
  have HP := Lib.hid hp
  obtain ⟨ap, cp, rfl⟩ := hv.form
  rw [hp] at HV C0 hn HRg
  rw [hnL] at hL HI ⊢
  rw [hp]
  clear hv hl hr hnL hp
  have c2 := C0.out.box.2.2.2
  go_enter Try.func79, Try.ntmps79
  go_wp2_with fail
  clear c2
  go_loopw [5, 11] (fun s i wr => ∃ k : Nat, k ≤ n ∧ i = .int .i64 k ∧ Hid (OrdZ w wr r h (.slice ap p cp) s ((L.take k).map (ptZ P)))) (fun _ i _ => n - (intOf i).toNat)
  case atStart => exact ⟨0, Nat.zero_le _, rfl, Lib.hid (by simpa using C0.out)⟩
  case round =>
    obtain ⟨k, hk, rfl, HR⟩ := hrel
    rename World => wr
    by_cases hlt : k < n
    · obtain ⟨g, off, rfl, hg, hcc⟩ : ∃ g off, al = some ⟨g, off, none⟩ ∧ g < w.heap.size ∧ ∀ i x, L[i]? = some x → w.cell? ⟨g, off + i, none⟩ = some (.int .i64 x) := by
        obtain ⟨a', c', e, hh⟩ := HI.out
        injection e with e1 e2 e3
        subst e1
        exact hh (by have := HN.out; omega)
      obtain ⟨x, hx⟩ := get_at HN.out hlt
      have hx17 := HRg.out x (List.mem_of_getElem? hx)
      obtain ⟨q, rfl⟩ : ∃ q : Nat, x = (q : Int) + 1 := ⟨(x - 1).toNat, by omega⟩
      obtain ⟨gp, offp, rfl, hgp, hcp⟩ : ∃ go offo, ap = some ⟨go, offo, none⟩ ∧ go < w.heap.size ∧ ∀ i x, P[i]? = some x → w.cell? ⟨go, offo + i, none⟩ = some (.int .i64 x) := by
        obtain ⟨a', c', e, hh⟩ := HV.out
        injection e with e1 e2 e3
        subst e1
        exact hh (by have := HP.out; omega)
      have hqp : q < p := by omega
      obtain ⟨y, hy⟩ := get_at HP.out hqp
      have o1 := (HR.out.bl.cell (p := ⟨g, off + k, none⟩) hg).trans (hcc k _ hx)
      have o2 := (HR.out.bl.cell (p := ⟨gp, offp + q, none⟩) hgp).trans (hcp q y hy)
      obtain ⟨-, -, -, c2⟩ := HR.out.box
      have HT : Hid ((L.take (k + 1)).map (ptZ P) = (L.take k).map (ptZ P) ++ [y]) := Lib.hid (by
        have e : ptZ P ((q : Int) + 1) = y := by rw [ptZ_at, List.getD, hy]; rfl
        rw [List.take_add_one, hx, List.map_append]
        simp [e])
      have hrow := HR.out.own
      have hzz := HR.out.hlt
      have hAl : ((L.take k).map (ptZ P)).length ≤ 100 := by rw [List.length_map, List.length_take]; omega
      have hsub : IntKind.i64.wrap ((q : Int) + 1 - 1) = (q : Int) := by rw [IntKind.wrap_i64]; omega
      have hsb : (q : Int) + 1 - 1 = (q : Int) := by omega
      have HPush := Lib.hid (fun (w4 : World) (v' : Value) (o : Obj) ho hg hn => HR.out.more (w4 := w4) (v' := v') (L := [y]) (below_one wr o) ho hg hn)
      generalize (L.take k).map (ptZ P) = SS at *
      clear hcc hcp hx hy hx17
      go_wp2_with (at_builtin; refine wpList_append_own _ rfl _ _ 24 rfl (w.heap.size + 1) 3 f3 (.int .i64 0) 1 8 Try.underlying24 hi3 hz0 hz1 hz2 rfl (by decide) _ _ _ rfl (hrow.alloc _) ⟨wr.heap.size, 0, none⟩ 1 1 [.int .i64 y] rfl rfl (cell_one_new _ _ _) (by simp [Value.oneCell']) (by unfold maxLen; omega) (by omega) (by simp; omega) ?_; intro v' w4 hown' hgrow hnil)
      have HN4 : Hid (OrdZ w w4 r h (.slice (some ⟨gp, offp, none⟩) p cp) v' ((L.take (k + 1)).map (ptZ P))) := Lib.hid (by
        rw [HT.out]
        exact HPush.out w4 v' _ hown' hgrow (fun e => by have := (hnil.1 e).2; omega))
      clear hown' hgrow hnil hrow
      exact ⟨⟨k + 1, by omega, by go_num, HN4⟩, by simp [intOf]; omega⟩
    · obtain rfl : k = n := by omega
      have HF : Hid (L.take k = L) := Lib.hid (by rw [← HN.out]; exact List.take_length)
      go_wp2_with fail
      go_ret
      have h9 := HR.out
      rw [HF.out] at h9
      obtain ⟨g, c, e⟩ := own_some h9.own h9.nn
      exact ⟨g, c, by rw [e]; rfl, by have := h9.own; rw [e] at this; exact this.mono (Nat.le_succ _), h9.bl⟩
end

section
/-- The ports of the rows, of the first k of a plan. -/
def prY (q : Nat) (P O : List Int) : Nat → List (List Int)
  | 0 => List.replicate q []
  | k + 1 => putY (prY q P O k) (O.getD k 0).toNat (P.getD k 0)
theorem prY_len (q : Nat) (P O : List Int) : ∀ k, (prY q P O k).length = q
  | 0 => by simp [prY]
  | k + 1 => by rw [prY, putY_len, prY_len q P O k]
theorem prY_row {q : Nat} {P O : List Int} {j : Nat} (hj : j < q) : ∀ k, (prY q P O k)[j]? = some ((rowZ O k j).map (ptZ P))
  | 0 => by simp [prY, rowZ, hj]
  | k + 1 => by
    have ih := prY_row (P := P) (O := O) hj k
    rw [prY]
    by_cases e : (O.getD k 0).toNat = j
    · rw [rowZ_yes e, putY_of (e ▸ ih), e, List.getElem?_set_self (by rw [prY_len]; exact hj), List.map_append]
      simp [ptZ_at]
    · rw [rowZ_no e]
      unfold putY
      rw [List.getElem?_set_ne e]
      exact ih
theorem badYL_nil (q : Nat) : ∀ k, badYL (List.replicate q []) k = []
  | 0 => rfl
  | k + 1 => by
    have e : (List.replicate q ([] : List Int)).getD k [] = [] := by
      rw [List.getD]
      rcases Nat.lt_or_ge k q with h | h
      · rw [List.getElem?_replicate, if_pos h]; rfl
      · rw [List.getElem?_replicate, if_neg (by omega)]; rfl
    rw [badYL, badYL_nil q k, e]
    rfl
theorem badN_nil (q : Nat) : badN (List.replicate q []) = 0 := by unfold badN; rw [badYL_nil]; rfl
/-- As many are badly placed as are shifted. -/
theorem badN_pr {q : Nat} {P O : List Int} (hP : ∀ i, P.getD i 0 ≤ 9) : ∀ n, (∀ i, i < n → (O.getD i 0).toNat < q) → badN (prY q P O n) = (numsW (shB P O) n).length
  | 0, _ => by rw [prY, badN_nil]; rfl
  | n + 1, h => by
    have ih := badN_pr hP n fun i hi => h i (by omega)
    rw [prY, badN_put (prY_row (h n (by omega)) n), ih]
    have e := shB_ear (P := P) (O := O) (i := n) (hP n)
    unfold blZ at e
    by_cases hc : earL ((rowZ O n (O.getD n 0).toNat).map (ptZ P)) < P.getD n 0
    · rw [if_pos hc, numsW_yes (e.trans (decide_eq_true hc)), List.length_append, List.length_singleton]
    · rw [if_neg hc, numsW_no (e.trans (decide_eq_false hc)), Nat.add_zero]
/-- Only the first k count. -/
theorem prY_front {q : Nat} {P O : List Int} {x : Int} : ∀ k, k ≤ O.length → prY q P (O ++ [x]) k = prY q P O k
  | 0, _ => rfl
  | k + 1, h => by
    have e : (O ++ [x]).getD k 0 = O.getD k 0 := by rw [List.getD, List.getD, List.getElem?_append_left (by omega)]
    rw [prY, prY, prY_front k (by omega), e]
theorem prY_snoc {q : Nat} {P O : List Int} {k : Nat} {x : Int} (hx : P[O.length]? = some x) : prY q P (O ++ [(k : Int)]) (O.length + 1) = putY (prY q P O O.length) k x := by
  have e : (O ++ [(k : Int)]).getD O.length 0 = (k : Int) := by rw [List.getD, List.getElem?_append_right (Nat.le_refl _)]; simp
  rw [prY, prY_front _ (Nat.le_refl _), e, List.getD, hx, Int.toNat_natCast]
  rfl
/-- Room in rows. -/
def roomL (H : Nat) (Y : List (List Int)) : Nat := (Y.map fun (l : List Int) => H - l.length).sum
theorem roomL_set {H : Nat} {x : Int} : ∀ {Y : List (List Int)} {k : Nat} {l : List Int}, Y[k]? = some l → l.length < H → roomL H (Y.set k (l ++ [x])) + 1 = roomL H Y
  | [], k, l, h, _ => by simp at h
  | r :: Y, 0, l, h, hl => by
    simp at h
    subst h
    simp [roomL]
    omega
  | r :: Y, k + 1, l, h, hl => by
    have := roomL_set (H := H) (x := x) (Y := Y) (k := k) (l := l) (by simpa using h) hl
    simp only [roomL, List.set_cons_succ, List.map_cons, List.sum_cons] at this ⊢
    omega
theorem roomL_pos {H : Nat} : ∀ {Y : List (List Int)}, 0 < roomL H Y → ∃ (k : Nat) (l : List Int), Y[k]? = some l ∧ l.length < H
  | [], h => by simp [roomL] at h
  | r :: Y, h => by
    by_cases hr : r.length < H
    · exact ⟨0, r, rfl, hr⟩
    · have h' : 0 < roomL H Y := by simp only [roomL, List.map_cons, List.sum_cons] at h ⊢; omega
      obtain ⟨k, l, h1, h2⟩ := roomL_pos h'
      exact ⟨k + 1, l, by simpa using h1, h2⟩
theorem cmb_some {k : Nat} {acc r : Option (List Int × Nat)} (h : acc.isSome = true ∨ r.isSome = true) : (cmbB k acc r).isSome = true := by
  unfold cmbB
  cases r with
  | none =>
    rcases h with h | h
    · exact h
    · cases h
  | some pc =>
    cases acc with
    | none => rfl
    | some qd =>
      obtain ⟨p, c⟩ := pc
      obtain ⟨q, d⟩ := qd
      simp only
      split <;> rfl
theorem bst_some {H : Nat} : ∀ (L : List Int) (Y : List (List Int)), rowsH H Y → L.length ≤ roomL H Y → (bst H L Y).isSome = true
  | [], Y, _, _ => by rw [bst_nil]; rfl
  | x :: L, Y, hr, h => by
    rw [bst_cons]
    rw [List.length_cons] at h
    obtain ⟨k0, l0, h1, h2⟩ := roomL_pos (H := H) (Y := Y) (by omega)
    have key : ∀ k, k0 < k → k ≤ Y.length → (bstK H (bst H L) x Y k).isSome = true := by
      intro k
      induction k with
      | zero => intro h _; omega
      | succ k ih =>
        intro hk hkl
        have hg : Y[k]? = some (Y[k]'(by omega)) := List.getElem?_eq_getElem (by omega)
        by_cases h4 : (Y[k]'(by omega)).length = H
        · rw [bstK_full hg h4]
          by_cases e : k0 = k
          · subst e
            rw [h1] at hg
            injection hg with hg
            rw [← hg] at h4
            omega
          · exact ih (by omega) (by omega)
        · rw [bstK_open hg h4]
          refine cmb_some (.inr (bst_some L _ (rowsH_put hr hg h4) ?_))
          rw [putY_of hg]
          have hlt : (Y[k]'(by omega)).length < H := by have := hr.2 _ (List.mem_of_getElem? hg); omega
          have := roomL_set (x := x) hg hlt
          omega
    exact key _ (lt_of_get h1) (Nat.le_refl _)
theorem roomL_nil (H q : Nat) : roomL H (List.replicate q []) = q * H := by simp [roomL, List.map_replicate, List.sum_replicate_nat]
/-- The best plan. -/
def bsO (r h : Int) (P : List Int) : Option (List Int × Nat) := bst h.toNat P (List.replicate r.toNat [])
def bsR (r h : Int) (P : List Int) : List Int := if goodZ r h P = true then bstP [] (bsO r h P) else []
def bsX (r h : Int) (P : List Int) : Int := if goodZ r h P = true then bstF (bsO r h P) else 0
theorem bs_no {r h : Int} {P : List Int} (g : goodZ r h P = false) : bsR r h P = [] ∧ bsX r h P = 0 := by simp [bsR, bsX, g]
theorem bs_yes {r h : Int} {P : List Int} (g : goodZ r h P = true) : ∃ p c, bsO r h P = some (p, c) ∧ bsR r h P = p ∧ bsX r h P = (c : Int) ∧ p.length = P.length := by
  obtain ⟨g1, g2, g3, g4, g5, g6, -⟩ := goodZ_iff.1 g
  have hs : (bsO r h P).isSome = true := by
    refine bst_some _ _ ⟨by simp; omega, fun l hl => ?_⟩ ?_
    · rw [List.mem_replicate] at hl
      rw [hl.2]; simp
    · rw [roomL_nil]
      have e : ((r.toNat * h.toNat : Nat) : Int) = r * h := by rw [Int.natCast_mul, Int.toNat_of_nonneg (by omega), Int.toNat_of_nonneg (by omega)]
      omega
  cases hb : bsO r h P with
  | none => rw [hb] at hs; cases hs
  | some pc =>
    obtain ⟨p, c⟩ := pc
    exact ⟨p, c, rfl, by simp [bsR, g, hb, bstP], by simp [bsX, g, hb, bstF], bst_len P _ p c hb⟩
theorem bsR_len (r h : Int) (P : List Int) : (bsR r h P).length ≤ 1048576 := by
  cases g : goodZ r h P with
  | false => rw [(bs_no g).1]; simp
  | true =>
    obtain ⟨p, c, -, h2, -, h4⟩ := bs_yes g
    have := (goodZ_iff.1 g).2.2.2.2.1
    rw [h2]; omega
end
end Go.Proofs.Ytfbeoficgkkamaa
