/-
  What impl.planBy with impl.lowestOther and impl.SimpleSteps return. No statement of the seat by itself.
-/
import Derived.Test.YtmkejgbbgknalaaLow
import Derived.Test.YtmkejgbbgknalaaPlanS
import Derived.Test.YtmkejgbbgknalaaStepI
import Derived.Test.YtmkejgbbgknalaaBlockI
import Derived.Maps.AppendAt
namespace Go.Proofs.Ytmkejgbbgknalaa
open Go.RowKit

theorem two_new (w : World) (x y : Value) (T : TypeId) : ∀ (j : Nat) (u : Value), [x, y][j]? = some u → (w.alloc (.cells #[x, y] T)).cell? (Addr.add ⟨w.heap.size, 0, none⟩ j) = some u := by
  intro j u hj
  have hn := heap_alloc_new w (.cells #[x, y] T)
  match j, hj with
  | 0, hj => cases hj; exact cell_of hn rfl
  | 1, hj => cases hj; exact cell_of hn rfl
  | j + 2, hj => simp at hj
theorem own_empty2 (w : World) (o : Obj) (h : o = .cells #[] 80 (0, 0)) : (w.alloc o).ownsRow w.heap.size 80 2 (.slice (some ⟨w.heap.size, 0, none⟩) 0 0) 0 [] := by
  subst h
  exact ⟨rfl, .inr ⟨w.heap.size, 0, #[], rfl, Nat.le_refl _, heap_alloc_new w _, Nat.le_refl _, Nat.zero_le _, rfl, rfl⟩⟩
/-- While a plan is made: the yard lies in the box at w's end. -/
def PlB (w wr : World) (ak : Option Addr) (ck : Nat) (u : Value) (Yk : List (List Int)) (out : List (Int × Int)) : Prop :=
  Below w.heap.size w wr ∧ wr.heap[w.heap.size]? = some (.cells #[.slice ak Yk.length ck] 28 (0, 0)) ∧
  (∃ B hi, (hi ≤ w.heap.size ∨ w.heap.size < B) ∧ OwnY wr B hi (.slice ak Yk.length ck) Yk ∧ ∀ b, u.ownBlock = some b → b < B ∨ hi ≤ b) ∧
  wr.ownsRow (w.heap.size + 1) 80 2 u out.length (flatS out)
theorem PlB.below {w wr w' : World} {ak : Option Addr} {ck : Nat} {u : Value} {Yk : List (List Int)} {out : List (Int × Int)} (h : PlB w wr ak ck u Yk out) (hb : Below wr.heap.size wr w') : PlB w w' ak ck u Yk out := by
  obtain ⟨h1, h2, ⟨B, hi, b1, b2, b3⟩, h4⟩ := h
  exact ⟨h1.trans (hb.mono h1.size), (hb.block _ (Array.getElem?_eq_some_iff.1 h2).1).trans h2, ⟨B, hi, b1, b2.below hb, b3⟩, row_below h4 hb⟩
theorem PlB.put {w wr wc : World} {ak a2 : Option Addr} {ck c2 B hi : Nat} {u : Value} {Yk Z : List (List Int)} {out : List (Int × Int)} (h : PlB w wr ak ck u Yk out) (hb : Below wr.heap.size wr wc) (hB : wr.heap.size ≤ B) (ho : OwnY wc B hi (.slice a2 Z.length c2) Z) :
    PlB w (wc.setCell ⟨w.heap.size, 0, none⟩ (.slice a2 Z.length c2)) a2 c2 u Z out := by
  have hlu := fun b hb => row_lt h.2.2.2 b hb
  have hlw := (Array.getElem?_eq_some_iff.1 h.2.1).1
  obtain ⟨h1, h2, -, h4⟩ := h.below hb
  refine ⟨h1.setCell (p := ⟨w.heap.size, 0, none⟩) (Nat.le_refl _) _, ?_, ⟨B, hi, .inr (by omega), ho.span (span_set (Nat.le_refl w.heap.size) (Nat.lt_succ_self _) _) (.inr (by omega)), fun b hbu => .inl (by have := hlu b hbu; omega)⟩, own_span h4 (span_set (Nat.le_refl w.heap.size) (Nat.lt_succ_self _) _) (fun b hb => .inr (by have := row_base h4 b hb; omega))⟩
  rw [Lib.heap_setCell_same h2]; simp
theorem PlB.append {w w7 w4 : World} {ak : Option Addr} {ck : Nat} {u v' : Value} {Yk : List (List Int)} {out : List (Int × Int)} {b t : Int} (h : PlB w w7 ak ck u Yk out) (o : Obj) (ho : w4.ownsRow (w.heap.size + 1) 80 2 v' (out.length + 1) (flatS out ++ [.int .i64 b, .int .i64 t])) (hg : (w7.alloc o).grownBy w4 u.ownBlock) (hat : v'.ownBlock = u.ownBlock ∨ v'.ownBlock = some (w7.alloc o).heap.size) :
    PlB w w4 ak ck v' Yk (out ++ [(b, t)]) := by
  obtain ⟨h1, h2, ⟨B, hi, b1, b2, b3⟩, h4⟩ := h
  have hb := below_one w7 o
  have l2 := (Array.getElem?_eq_some_iff.1 h2).1
  have hz : (w7.alloc o).heap.size = w7.heap.size + 1 := by simp
  have hhi := b2.1
  refine ⟨(h1.trans (hb.mono h1.size)).grown hg (by have := h1.size; omega) (fun j e => by have := row_base h4 j e; omega), ?_, ⟨B, hi, b1, owny_apart (b2.below hb) hg b3, fun c hc => ?_⟩, ?_⟩
  · exact (hg.block _ (by omega) (fun e => by have := row_base h4 _ e.symm; omega)).trans ((hb.block _ l2).trans h2)
  · rcases hat with e | e
    · exact b3 c (by rw [← e]; exact hc)
    · rw [e] at hc; cases hc; exact .inr (by omega)
  · have e : flatS out ++ [.int .i64 b, .int .i64 t] = flatS (out ++ [(b, t)]) := by rw [flatS_app]; rfl
    rw [e] at ho
    simpa using ho
theorem plB_start {w : World} {a0 : Option Addr} {cap0 B0 hi0 : Nat} {Y : List (List Int)} (hv : OwnY w B0 hi0 (.slice a0 Y.length cap0) Y) : PlB w ((w.alloc (.cells #[.slice a0 Y.length cap0] 28)).alloc (.cells #[] 80)) a0 cap0 (.slice (some ⟨w.heap.size + 1, 0, none⟩) 0 0) Y [] := by
  have hb1 := below_one w (.cells #[.slice a0 Y.length cap0] 28)
  have hb2 := below_one (w.alloc (.cells #[.slice a0 Y.length cap0] 28)) (.cells #[] 80)
  have hbb := below_two w (.cells #[.slice a0 Y.length cap0] 28) (.cells #[] 80)
  have hn := heap_alloc_new (w.alloc (.cells #[.slice a0 Y.length cap0] 28)) (.cells #[] 80)
  rw [show (w.alloc (.cells #[.slice a0 Y.length cap0] 28)).heap.size = w.heap.size + 1 by simp] at hn
  have hbu : ∀ b, (Value.slice (some ⟨w.heap.size + 1, 0, none⟩) 0 0).ownBlock = some b → w.heap.size + 1 = b := fun b e => by cases e; rfl
  have hv1 := hv.1
  have hoe := own_empty2 (w.alloc (.cells #[.slice a0 Y.length cap0] 28)) (.cells #[] 80) rfl
  rw [show (w.alloc (.cells #[.slice a0 Y.length cap0] 28)).heap.size = w.heap.size + 1 by simp] at hoe
  exact ⟨hbb, (hb2.block _ (by simp)).trans (heap_alloc_new w _), ⟨B0, hi0, .inl hv1, hv.below hbb, fun b e => .inr (by have := hbu b e; omega)⟩, hoe⟩
/-- The list of blocking numbers, apart from the yard's box and the list of steps. -/
def BlS (w wr : World) (ab : Option Addr) (nb cb : Nat) (u : Value) (bl : List Int) : Prop := IL wr (.slice ab nb cb) bl ∧ ∀ a, ab = some a → a.block ≠ w.heap.size ∧ u.ownBlock ≠ some a.block ∧ a.block < wr.heap.size
theorem BlS.keep {w wr w' : World} {ab : Option Addr} {nb cb : Nat} {u u' : Value} {bl : List Int} (h : BlS w wr ab nb cb u bl) (hk : ∀ k, k < wr.heap.size → k ≠ w.heap.size → u.ownBlock ≠ some k → w'.heap[k]? = wr.heap[k]?) (hz : wr.heap.size ≤ w'.heap.size) (hu : ∀ b, u'.ownBlock = some b → u.ownBlock = some b ∨ wr.heap.size ≤ b) : BlS w w' ab nb cb u' bl := by
  obtain ⟨⟨a, c, e, h1⟩, h2⟩ := h
  injection e with e1 e2 e3
  subst e1
  refine ⟨⟨ab, cb, by rw [e2], fun h0 => ?_⟩, fun a ha => ?_⟩
  · obtain ⟨g, off, rfl, hg, hc⟩ := h1 h0
    obtain ⟨n1, n2, n3⟩ := h2 _ rfl
    exact ⟨g, off, rfl, Nat.lt_of_lt_of_le hg hz, fun j x hx => (World.cell?_of_block (a := ⟨g, off + j, none⟩) (hk g n3 n1 n2)).trans (hc j x hx)⟩
  · obtain ⟨n1, n2, n3⟩ := h2 a ha
    refine ⟨n1, fun e => ?_, Nat.lt_of_lt_of_le n3 hz⟩
    rcases hu _ e with e | e
    · exact n2 e
    · omega
theorem BlS.below {w wr w' : World} {ab : Option Addr} {nb cb : Nat} {u : Value} {bl : List Int} (h : BlS w wr ab nb cb u bl) (hb : Below wr.heap.size wr w') : BlS w w' ab nb cb u bl :=
  h.keep (fun k hk _ _ => hb.block k hk) hb.size fun _ e => .inl e
theorem BlS.set {w wr : World} {ab : Option Addr} {nb cb i : Nat} {u x : Value} {bl : List Int} (h : BlS w wr ab nb cb u bl) : BlS w (wr.setCell ⟨w.heap.size, i, none⟩ x) ab nb cb u bl :=
  h.keep (fun k _ hn _ => Below.heap_setCell wr ⟨w.heap.size, i, none⟩ x k hn) (by simp) fun _ e => .inl e
theorem BlS.append {w w7 w4 : World} {ab : Option Addr} {nb cb : Nat} {u v' : Value} {bl : List Int} (h : BlS w w7 ab nb cb u bl) (o : Obj) (hg : (w7.alloc o).grownBy w4 u.ownBlock) (hat : v'.ownBlock = u.ownBlock ∨ v'.ownBlock = some (w7.alloc o).heap.size) : BlS w w4 ab nb cb v' bl := by
  have hb := below_one w7 o
  have hz : (w7.alloc o).heap.size = w7.heap.size + 1 := by simp
  refine h.keep (fun k hk _ hu => (hg.block k (by omega) (fun e => hu e.symm)).trans (hb.block k hk)) (by have := hg.size; omega) fun b hb => ?_
  rcases hat with e | e
  · exact .inl (by rw [← e]; exact hb)
  · rw [e] at hb; cases hb; exact .inr (by omega)
/-- What moving the top to the lowest other stack does. -/
theorem low_move {Y : List (List Int)} {i m : Nat} {l : List Int} {b : Int} (hg : goodY Y = true) (hl : Y[i]? = some l) (hm : l.length = m + 1) (hb : l[m]? = some b) :
    (okM Y (i : Int) (lowV (lowF Y i Y.length)) = false ∧ lowN Y i Y.length = none) ∨
    ∃ t, lowN Y i Y.length = some t ∧ lowV (lowF Y i Y.length) = (t : Int) ∧ okM Y (i : Int) (t : Int) = true ∧ moveR Y (i : Int) (t : Int) = putY (Y.set i (l.take m)) t b := by
  have he := low_eq (Y := Y) (f := i) Y.length
  cases hf : lowF Y i Y.length with
  | none =>
    rw [hf] at he
    refine .inl ⟨?_, he⟩
    cases hk : okM Y (i : Int) (lowV none) with
    | false => rfl
    | true =>
      have := (okS_iff.1 (okM_iff.1 hk).2.1).2.1
      simp [lowV] at this
  | some t =>
    rw [hf] at he
    simp only at he
    have hlt := lowF_lt hf
    have hi := lt_of_get hl
    have hr := (goodY_iff.1 hg).2.2.1
    have h4 : (Y.getD t []).length ≤ 4 := by rw [getD_of (List.getElem?_eq_getElem hlt.1)]; exact hr _ (List.getElem_mem hlt.1)
    by_cases h5 : (Y.getD t []).length < 4
    · rw [if_pos h5] at he
      have hk : okM Y (i : Int) (t : Int) = true := okM_iff.2 ⟨okS_iff.2 ⟨hg, by omega, by omega⟩, okS_iff.2 ⟨hg, by omega, by omega⟩, by omega, by simp only [Int.toNat_natCast, getD_of hl]; omega, by simp only [Int.toNat_natCast]; omega⟩
      refine .inr ⟨t, he, rfl, hk, ?_⟩
      rw [(move_yes hk).1]
      simp only [Int.toNat_natCast, moveZ, getD_of hl]
      rw [top_is (by omega) hb, show l.length - 1 = m by omega]
    · rw [if_neg h5] at he
      refine .inl ⟨?_, he⟩
      cases hk : okM Y (i : Int) (lowV (some t)) with
      | false => rfl
      | true =>
        have := (okM_iff.1 hk).2.2.2.2
        simp only [lowV, Int.toNat_natCast] at this
        omega

set_option maxRecDepth 100000 in
set_option maxHeartbeats 8000000 in
theorem planLow_any (v vo : Value) (Y : List (List Int)) (O : List Int) (h0 : PlanInv Y O) (hO : O.length ≤ 8) (w : World) (B0 hi0 : Nat) (h : YdO w B0 hi0 v Y) (ho : IL w vo O) :
    Calls Try.prog 78 #[v, vo, .func (.func 79) #[] #[]] w fun e w' => ∃ r, Sim Y O r ∧ RetS w (r.getD []) r.isSome e w' := by
  obtain ⟨f6, hi6, hz6, hs6, hb6⟩ := info_is infoS
  obtain ⟨v0, rfl, hv⟩ := h
  obtain ⟨a0, cap0, rfl⟩ := hv.form
  obtain ⟨oa, oc, rfl⟩ := ho.form
  obtain ⟨no, hno⟩ : ∃ no, O.length = no := ⟨_, rfl⟩
  have HNO := Lib.hid hno
  rw [hno] at ho hO ⊢
  have HO := Lib.hid ho
  have R0 : Hid (PlB w ((w.alloc (.cells #[.slice a0 Y.length cap0] 28)).alloc (.cells #[] 80)) a0 cap0 (.slice (some ⟨w.heap.size + 1, 0, none⟩) 0 0) Y []) := Lib.hid (plB_start hv)
  have I0 := Lib.hid h0
  clear hv ho hno h0
  go_enter Try.func78, Try.ntmps78
  go_wp2_with fail
  generalize (w.alloc (.cells #[.slice a0 Y.length cap0] 28)).alloc (.cells #[] 80) = W at *
  go_loopw [8, 10, 11, 12, 13, 14, 15, 17, 18, 22] (fun u _ _ _ _ _ _ _ _ i wr => ∃ (q : Nat) (ak : Option Addr) (ck : Nat) (Yk : List (List Int)) (out : List (Int × Int)), q ≤ no ∧ i = .int .i64 q ∧ Hid (PlB w wr ak ck u Yk out) ∧ Hid (PlanInv Yk (O.drop q)) ∧ Hid (Cont Y O out Yk (O.drop q)) ∧ out.length ≤ 4 * q) (fun _ _ _ _ _ _ _ _ _ i _ => no - (intOf i).toNat)
  case atStart => exact ⟨0, a0, cap0, Y, [], Nat.zero_le _, rfl, R0, by simpa using I0, Lib.hid (by simpa using Cont.start Y O), by simp⟩
  case round =>
    obtain ⟨q, ak, ck, Yk, out, hq, rfl, HR, HI, HC, hlen⟩ := hrel
    rename World => wo
    by_cases hlt : q < no
    · have hqI : (q : Int) < (no : Int) := by omega
      obtain ⟨n, hn⟩ := get_at HNO.out hlt
      have HDr : Hid (O.drop q = n :: O.drop (q + 1)) := Lib.hid (by
        rw [List.drop_eq_getElem_cons (lt_of_get hn)]
        rw [List.getElem?_eq_getElem (lt_of_get hn)] at hn
        rw [Option.some.inj hn])
      have HI2 := HI.out
      rw [HDr.out] at HI2
      have hpn := HI2.2.2 n (by simp)
      obtain ⟨⟨i, k⟩, hp⟩ := Option.isSome_iff_exists.1 hpn
      obtain ⟨l, hl, hat⟩ := place_inv hp
      have hsm := good_small HI2.1
      have hl4 := (goodY_iff.1 HI2.1).2.2.1 l (List.mem_of_getElem? hl)
      have hkl := lt_of_get (atL_get hat)
      have hpo := (plO_good (x := n) HI2.1).trans hp
      obtain ⟨m0, hm0⟩ : ∃ m0, l.length = m0 := ⟨_, rfl⟩
      rw [hm0] at hl4 hkl
      have HM0 := Lib.hid hm0
      have HL := Lib.hid hl
      have HP := Lib.hid hp
      obtain ⟨q1, q2, ⟨B, hi, b1, b2, b3⟩, q4⟩ := HR.out
      have HPl : Hid (∀ W, Below wo.heap.size wo W → Calls Try.prog 95 #[.agg #[.slice ak Yk.length ck], .int .i64 n] W (RetP W (.tuple #[.int .i64 (i : Int), .int .i64 (k : Int), .bool true]))) := Lib.hid fun W hb => by
        have := implPlace_any (.agg #[.slice ak Yk.length ck]) Yk n (by omega) (by omega) W ⟨_, rfl, b2.yl.below hb⟩
        rw [plV_some hpo] at this
        exact this
      have HBl : Hid (∀ W, Below wo.heap.size wo W → Calls Try.prog 112 #[.agg #[.slice ak Yk.length ck], .int .i64 n] W (RetL W (l.drop (k + 1)).reverse true)) := Lib.hid fun W hb => by
        have := implBlockers_any (.agg #[.slice ak Yk.length ck]) Yk n B hi (by omega) (by omega) W ⟨_, rfl, b2.below hb⟩
        rw [(blR_some hpo hl).1, show plB Yk n = true by simp [plB, hpo]] at this
        exact this
      obtain ⟨go, offo, rfl, hgo, o1'⟩ := il_at (HO.out) hn
      have o1 := (q1.cell (p := ⟨go, offo + q, none⟩) hgo).trans o1'
      have c0 := cell_of (i := 0) q2 rfl
      have hnb : ((l.drop (k + 1)).reverse).length = m0 - (k + 1) := by rw [List.length_reverse, List.length_drop, hm0]
      obtain ⟨nb, hnbe⟩ : ∃ nb, m0 - (k + 1) = nb := ⟨_, rfl⟩
      have HNB := Lib.hid (hnb.trans hnbe)
      have HBx : Hid (∀ j, j < nb → ∃ x, (l.drop (k + 1)).reverse[j]? = some x ∧ l[m0 - 1 - j]? = some x) := Lib.hid fun j hj => by
        obtain ⟨x, hx⟩ := get_at hnb (show j < m0 - (k + 1) by omega)
        refine ⟨x, hx, ?_⟩
        rw [List.getElem?_reverse (by rw [List.length_drop, hm0]; omega), List.getElem?_drop, List.length_drop, hm0] at hx
        rw [← hx]
        congr 1
        omega
      have HI3 := Lib.hid HI2
      clear q1 q2 b1 b2 b3 q4 hn hpn hl hat hsm hpo hp HI2 o1' hm0 hgo hnb
      go_wp2_with fail
      refine (HPl.out _ (Below.refl _ _)).mono ?_
      rintro e w1 ⟨rfl, hb⟩
      have B1 := Lib.hid hb
      have R1 := Lib.hid (HR.out.below hb)
      clear hb c0 o1
      have c0 := cell_of (i := 0) R1.out.2.1 rfl
      go_wp2_with fail
      refine (HBl.out _ B1.out).mono ?_
      rintro e w2 ⟨ab, cb, rfl, hob, hb⟩
      have R2 := Lib.hid (R1.out.below hb)
      have OB : Hid (BlS w w2 ab nb cb u8 (l.drop (k + 1)).reverse) := Lib.hid (by
        have h1 := hob.read
        have h2 := hob.2.1
        rw [HNB.out] at h1 h2
        refine ⟨h1, fun a ha => ?_⟩
        subst ha
        have h3 := row_base h2 a.block rfl
        have h4 := row_lt h2 a.block rfl
        have h5 := R1.out.1.size
        have h6 := (Array.getElem?_eq_some_iff.1 R1.out.2.1).1
        exact ⟨by omega, fun e => by have := row_lt R1.out.2.2.2 _ e; omega, h4⟩)
      rw [HNB.out]
      clear hb hob c0
      go_wp2_with fail
      go_loopw [8, 15, 17, 18, 44] (fun u _ _ _ jj wr => ∃ (j : Nat) (ak : Option Addr) (ck : Nat) (Yc : List (List Int)) (out2 : List (Int × Int)), j ≤ nb ∧ jj = .int .i64 j ∧ Hid (PlB w wr ak ck u Yc out2) ∧ Hid (Yc[i]? = some (l.take (m0 - j)) ∧ placeY Yc n = some (i, k)) ∧ Hid (PlanInv Yc (n :: O.drop (q + 1))) ∧ Hid (Cont Y O out2 Yc (n :: O.drop (q + 1))) ∧ out2.length = out.length + j ∧ Hid (BlS w wr ab nb cb u (l.drop (k + 1)).reverse)) (fun _ _ _ _ jj _ => nb - (intOf jj).toNat)
      case atStart => exact ⟨0, ak, ck, Yk, out, Nat.zero_le _, rfl, R2, Lib.hid ⟨by rw [Nat.sub_zero, ← HM0.out, List.take_length]; exact HL.out, HP.out⟩, HI3, Lib.hid (by have := HC.out; rw [HDr.out] at this; exact this), by simp, OB⟩
      case round =>
        obtain ⟨j, ak, ck, Yc, out2, hj, rfl, HR3, HP3, HI4, HC4, hlen2, HBL⟩ := hrel
        rename World => wi
        have hgd := HI4.out.1
        have hsm := good_small hgd
        obtain ⟨q1, q2, ⟨B, hi, b1, b2, b3⟩, q4⟩ := HR3.out
        have c0 := cell_of (i := 0) q2 rfl
        by_cases hjn : j < nb
        · have hjI : (j : Int) < (nb : Int) := by omega
          obtain ⟨x, hx1, hx2⟩ := HBx.out j hjn
          obtain ⟨gb, offb, rfl, hgb, ob⟩ := il_at HBL.out.1 hx1
          obtain ⟨m, hm⟩ : ∃ m, m0 - j = m + 1 := ⟨m0 - j - 1, by omega⟩
          obtain ⟨hrw, hpc⟩ := HP3.out
          have hrl : (l.take (m0 - j)).length = m + 1 := by rw [List.length_take, HM0.out]; omega
          have hrx : (l.take (m0 - j))[m]? = some x := by rw [List.getElem?_take, if_pos (by omega), ← hx2]; congr 1; omega
          have htk : (l.take (m0 - j)).take m = l.take (m0 - (j + 1)) := by rw [List.take_take]; congr 1; omega
          have hkm : k < m := by omega
          have HLow : Hid (∀ W, Below wi.heap.size wi W → Calls Try.prog 79 #[.agg #[.slice ak Yc.length ck], .int .i64 (i : Int)] W (RetP W (.int .i64 (lowV (lowF Yc i Yc.length))))) := Lib.hid fun W hb => lowest_any _ Yc i hgd W ⟨_, rfl, b2.yl.below hb⟩
          have HMv : Hid (∀ W t, Below wi.heap.size wi W → Calls Try.prog 99 #[.agg #[.slice ak Yc.length ck], .int .i64 (i : Int), .int .i64 t] W (RetYI W (moveR Yc (i : Int) t) (moveX Yc (i : Int) t) (okM Yc (i : Int) t))) := Lib.hid fun W t hb => implMove_any _ Yc _ t (by omega) (by omega) W ⟨_, rfl, b2.yl.below hb⟩
          have HLM := Lib.hid (low_move hgd hrw hrl hrx)
          have HP5 := Lib.hid (And.intro hrw (And.intro hpc (And.intro hrl (And.intro hrx htk))))
          clear q1 q2 b1 b2 b3 q4 hgd hsm hgb hrw hpc hrl hrx htk hx1 hx2
          generalize hnk : Yc.length = nk at *
          rcases HLM.out with ⟨hok, hno9⟩ | ⟨t, hno9, hlv, hok, hmr⟩
          · have HS : Hid (Sim Y O none) := Lib.hid (HC4.out.stuck HP5.out.2.1 HP5.out.1 (by rw [HP5.out.2.2.1]; omega) (by rw [hnk]; exact hno9))
            have HMv2 := Lib.hid (fun W hb => HMv.out W (lowV (lowF Yc i nk)) hb)
            rw [hok] at HMv2
            generalize lowV (lowF Yc i nk) = lv at *
            generalize moveR Yc (i : Int) lv = Z at *
            generalize moveX Yc (i : Int) lv = xx at *
            clear hok hno9 HMv HLM
            go_wp2_with fail
            refine (HLow.out _ (Below.refl _ _)).mono ?_
            rintro e w3 ⟨rfl, hb⟩
            have B3 := Lib.hid hb
            have R3 := Lib.hid (HR3.out.below hb)
            clear hb c0 ob
            have c0 := cell_of (i := 0) R3.out.2.1 rfl
            rw [hnk] at c0
            go_wp2_with fail
            refine (HMv2.out _ B3.out).mono ?_
            rintro e w5 ⟨a9, c9, rfl, hoz, hb⟩
            have R5 := Lib.hid (R3.out.below hb)
            have c1 := cell_of (i := 0) R5.out.2.1 rfl
            rw [hnk] at c1
            have f1 : ∀ i, w5.frozen? ⟨w.heap.size, i, none⟩ = false := fun _ => free_of R5.out.2.1
            have HB9 := Lib.hid (R5.out.1.setCell (p := ⟨w.heap.size, 0, none⟩) (Nat.le_refl _) (.slice a9 Z.length c9))
            clear hb c0 hoz
            go_wp2_with fail
            have hoe0 := own_empty2 (w5.setCell ⟨w.heap.size, 0, none⟩ (.slice a9 Z.length c9)) (.cells #[] 80) rfl
            rw [show (w5.setCell ⟨w.heap.size, 0, none⟩ (.slice a9 Z.length c9)).heap.size = w5.heap.size by simp] at hoe0
            have hoe := Lib.hid hoe0
            clear hoe0
            have hsz := Lib.hid R5.out.1.size
            have HB10 := Lib.hid (HB9.out.alloc HB9.out.size (.cells #[] 80))
            clear c1 f1
            go_ret2
            have HSO : Hid (SO ((w5.setCell ⟨w.heap.size, 0, none⟩ (.slice a9 Z.length c9)).alloc (.cells #[] 80)) w.heap.size ((w5.setCell ⟨w.heap.size, 0, none⟩ (.slice a9 Z.length c9)).alloc (.cells #[] 80)).heap.size (.slice (some ⟨w5.heap.size, 0, none⟩) 0 0) []) := Lib.hid ⟨Nat.le_refl _, hoe.out.mono hsz.out, fun b hb => row_lt hoe.out b hb⟩
            exact ⟨none, HS.out, _, 0, rfl, HSO.out, HB10.out⟩
          · have HC5 := Lib.hid (HC4.out.move HP5.out.2.1 HP5.out.1 HP5.out.2.2.1 hkm HP5.out.2.2.2.1 (by rw [hnk]; exact hno9))
            rw [HP5.out.2.2.2.2] at HC5 hmr
            have hltN := lowN_lt hno9
            have HI5 : Hid (PlanInv (putY (Yc.set i (l.take (m0 - (j + 1)))) t x) (n :: O.drop (q + 1))) := Lib.hid (by
              have hs := step_of_move HI4.out.1 HP5.out.1 HP5.out.2.2.1 HP5.out.2.2.2.1 (by rw [hnk]; exact hltN.1) hltN.2.1 hltN.2.2
              have := HI4.out.step (b := x) (t := (t : Int)) hs.1 (fun h => by omega)
              rw [if_neg (by omega), hs.2, HP5.out.2.2.2.2] at this
              exact this)
            have HP6 : Hid ((putY (Yc.set i (l.take (m0 - (j + 1)))) t x)[i]? = some (l.take (m0 - (j + 1))) ∧ placeY (putY (Yc.set i (l.take (m0 - (j + 1)))) t x) n = some (i, k)) := Lib.hid (by
              have h1 := HI5.out.1
              rw [← HP5.out.2.2.2.2] at h1 ⊢
              exact moved_place h1 HP5.out.1 hkm (atL_get (by
                obtain ⟨l', hl', hat'⟩ := place_inv HP5.out.2.1
                rw [HP5.out.1] at hl'
                cases hl'
                exact hat')) hltN.2.1)
            have HMv2 := Lib.hid (fun W hb => HMv.out W (t : Int) hb)
            rw [hok, hmr] at HMv2
            rw [hlv] at HLow
            generalize putY (Yc.set i (l.take (m0 - (j + 1)))) t x = Z at *
            generalize moveX Yc (i : Int) (t : Int) = xx at *
            clear hok hno9 HMv HLM hmr hlv hltN
            go_wp2_with fail
            refine (HLow.out _ (Below.refl _ _)).mono ?_
            rintro e w3 ⟨rfl, hb⟩
            have B3 := Lib.hid hb
            have R3 := Lib.hid (HR3.out.below hb)
            have L3 := Lib.hid (HBL.out.below hb)
            clear hb c0 ob
            have c0 := cell_of (i := 0) R3.out.2.1 rfl
            rw [hnk] at c0
            go_wp2_with fail
            refine (HMv2.out _ B3.out).mono ?_
            rintro e w5 ⟨a9, c9, rfl, hoz, hb⟩
            have R5 := Lib.hid (R3.out.below hb)
            have L5 := Lib.hid (L3.out.below hb)
            have c1 := cell_of (i := 0) R5.out.2.1 rfl
            rw [hnk] at c1
            have f1 : ∀ i, w5.frozen? ⟨w.heap.size, i, none⟩ = false := fun _ => free_of R5.out.2.1
            have R7 := Lib.hid (R3.out.put hb (Nat.le_refl _) hoz)
            have L7 := Lib.hid (L5.out.set (i := 0) (x := .slice a9 Z.length c9))
            clear hb c0 hoz
            go_upto_region 16 with fail
            generalize w5.setCell ⟨w.heap.size, 0, none⟩ (.slice a9 Z.length c9) = w7 at *
            have hrow := R7.out.2.2.2
            have hsz : w.heap.size + 1 ≤ w7.heap.size := (Array.getElem?_eq_some_iff.1 R7.out.2.1).1
            clear c1 f1
            go_wp2_with (at_builtin; refine wpList_append_own_at _ rfl _ _ 33 rfl (w.heap.size + 1) 80 f6 (.agg #[.int .i64 0, .int .i64 0]) 2 16 Try.underlying33 hi6 hz6 hs6 hb6 rfl (by decide) _ _ _ rfl (hrow.alloc _) ⟨w7.heap.size, 0, none⟩ 1 1 [.int .i64 x, .int .i64 (t : Int)] rfl rfl (two_new _ _ _ _) (by simp [Value.oneCell']) (by unfold maxLen; omega) (by omega) (by simp; omega) ?_; intro v' w4 hown' hgrow hnil hat)
            have HN4 := Lib.hid (R7.out.append _ hown' hgrow hat)
            have LN4 := Lib.hid (L7.out.append _ hgrow hat)
            clear hown' hgrow hnil hat hrow hsz
            exact ⟨⟨j + 1, a9, c9, Z, out2 ++ [(x, (t : Int))], by omega, by go_num, HN4, HP6, HI5, HC5, by simp; omega, LN4⟩, by simp [intOf]; omega⟩
        · obtain rfl : j = nb := by omega
          obtain ⟨hrw, hpc⟩ := HP3.out
          have hrl : (l.take (m0 - j)).length = k + 1 := by rw [List.length_take, HM0.out]; omega
          have hst := step_take hgd hpc hrw (by omega)
          have HC5 := Lib.hid (HC4.out.take hpc hrw (by omega))
          have HI5 := Lib.hid (HI4.out.step (b := n) (t := -1) hst.1 (fun _ => rfl))
          rw [if_pos rfl, hst.2] at HI5
          have HTk : Hid (∀ W, Below wi.heap.size wi W → Calls Try.prog 106 #[.agg #[.slice ak Yc.length ck], .int .i64 n] W (RetY W (Yc.set i ((l.take (m0 - j)).take k)) true)) := Lib.hid fun W hb => by
            have := implTake_any (.agg #[.slice ak Yc.length ck]) Yc n (by omega) (by omega) W ⟨_, rfl, b2.yl.below hb⟩
            rw [← stepR_take, ← stepOk_take, hst.1, hst.2] at this
            exact this
          generalize Yc.set i ((l.take (m0 - j)).take k) = Z at *
          clear q1 q2 b1 b2 b3 q4 hgd hsm hrw hpc hrl hst
          generalize hnk : Yc.length = nk at *
          go_wp2_with fail
          refine (HTk.out _ (Below.refl _ _)).mono ?_
          rintro e w5 ⟨a9, c9, rfl, hoz, hb⟩
          have R5 := Lib.hid (HR3.out.below hb)
          clear c0
          have c1 := cell_of (i := 0) R5.out.2.1 rfl
          rw [hnk] at c1
          have f1 : ∀ i, w5.frozen? ⟨w.heap.size, i, none⟩ = false := fun _ => free_of R5.out.2.1
          have R7 := Lib.hid (HR3.out.put hb (Nat.le_refl _) hoz)
          clear hb hoz
          go_upto_region 21 with fail
          generalize w5.setCell ⟨w.heap.size, 0, none⟩ (.slice a9 Z.length c9) = w7 at *
          have hrow := R7.out.2.2.2
          have hsz : w.heap.size + 1 ≤ w7.heap.size := (Array.getElem?_eq_some_iff.1 R7.out.2.1).1
          clear c1 f1
          go_wp2_with (at_builtin; refine wpList_append_own_at _ rfl _ _ 33 rfl (w.heap.size + 1) 80 f6 (.agg #[.int .i64 0, .int .i64 0]) 2 16 Try.underlying33 hi6 hz6 hs6 hb6 rfl (by decide) _ _ _ rfl (hrow.alloc _) ⟨w7.heap.size, 0, none⟩ 1 1 [.int .i64 n, .int .i64 (-1)] rfl rfl (two_new _ _ _ _) (by simp [Value.oneCell']) (by unfold maxLen; omega) (by omega) (by simp; omega) ?_; intro v' w4 hown' hgrow hnil hat)
          have HN4 := Lib.hid (R7.out.append _ hown' hgrow hat)
          clear hown' hgrow hnil hat hrow hsz
          exact ⟨⟨q + 1, a9, c9, Z, out2 ++ [(n, -1)], by omega, by go_num, HN4, HI5, HC5, by simp; omega⟩, by simp [intOf]; omega⟩
    · obtain rfl : q = no := by omega
      have HS : Hid (Sim Y O (some out)) := Lib.hid (by
        have := HC.out
        rw [show O.drop q = [] by rw [← HNO.out, List.drop_length]] at this
        exact this.done)
      obtain ⟨q1, q2, q3, q4⟩ := HR.out
      have HB := Lib.hid q1
      have HO4 := Lib.hid (so_of_own (w := w) q4 (Nat.le_succ _))
      obtain ⟨ua, uc, rfl⟩ := own_form q4
      clear q1 q2 q3 q4
      go_wp2_with fail
      go_ret2
      exact ⟨_, HS.out, _, _, rfl, HO4.out, HB.out⟩

set_option maxRecDepth 100000 in
set_option maxHeartbeats 4000000 in
theorem implSim_any (v vo : Value) (Y : List (List Int)) (O : List Int) (h1 : Y.length ≤ 1048576) (h2 : tot Y ≤ 1048576) (h3 : O.length ≤ 1048576) (w : World) (B0 hi0 : Nat) (h : YdO w B0 hi0 v Y) (ho : OwnI w vo O) :
    Calls Try.prog 34 #[v, vo] w (RetS w (simR Y O) (simB Y O)) := by
  obtain ⟨v0, rfl, hv⟩ := h
  obtain ⟨a, c, rfl, hc⟩ := ho.form
  obtain ⟨a0, cap0, rfl⟩ := hv.form
  have HA := Lib.hid (fun W (hb : Below w.heap.size w W) => isOrder_any (.agg #[.slice a0 Y.length cap0]) _ Y O h1 h2 h3 W ⟨_, rfl, hv.yl.below hb⟩ (ho.below hb))
  have HP := Lib.hid (fun W (hb : Below w.heap.size w W) (hask : askB Y O = true) => planLow_any (.agg #[.slice a0 Y.length cap0]) _ Y O (ask_inv hask).1 (ask_inv hask).2 W B0 hi0 ⟨_, rfl, hv.below hb⟩ (ho.below hb).read)
  have BA := Lib.hid (Box1.new w (.slice a0 Y.length cap0) 28)
  have B0' := Lib.hid (below_one w (.cells #[.slice a0 Y.length cap0] 28))
  clear hv ho hc h1 h2 h3
  generalize O.length = no at *
  generalize Y.length = ny at *
  go_enter Try.func34, Try.ntmps34
  go_wp2_with fail
  generalize w.alloc (.cells #[.slice a0 ny cap0] 28) = w0 at *
  refine (HA.out _ B0'.out).mono ?_
  rintro e w1 ⟨rfl, hb⟩
  have c0 := (BA.out.below hb).2
  have B1 := Lib.hid (B0'.out.trans (hb.mono B0'.out.size))
  clear hb
  cases hg : askB Y O with
  | false =>
    have hq := simO_no hg
    have HS : Hid (RetS w (simR Y O) (simB Y O) (.returned (.tuple #[.slice (some ⟨w1.heap.size, 0, none⟩) 0 0, .bool false])) (w1.alloc (.cells #[] 80))) := Lib.hid (by
      have hoe := own_empty2 w1 (.cells #[] 80) rfl
      rw [show simR Y O = [] by simp [simR, hq], show simB Y O = false by simp [simB, hq]]
      exact ⟨_, 0, rfl, ⟨Nat.le_refl _, hoe.mono B1.out.size, fun b hb => row_lt hoe b hb⟩, B1.out.alloc B1.out.size _⟩)
    go_wp2_with fail
    go_ret2
    exact HS.out
  | true =>
    go_wp2_with fail
    refine (HP.out _ B1.out hg).mono ?_
    rintro e w2 ⟨r, hr, a2, c2, rfl, hso, hb⟩
    have hq := simO_is hg hr
    have HS : Hid (RetS w (simR Y O) (simB Y O) (.returned (.tuple #[.slice a2 (r.getD []).length c2, .bool r.isSome])) w2) := Lib.hid (by
      rw [show simR Y O = r.getD [] by simp [simR, hq], show simB Y O = r.isSome by simp [simB, hq]]
      exact ⟨a2, c2, rfl, ⟨hso.1, hso.2.1.mono B1.out.size, hso.2.2⟩, B1.out.trans (hb.mono B1.out.size)⟩)
    clear hb hso hr hq
    generalize (r.getD []).length = rl at *
    generalize r.isSome = rs at *
    go_wp2_with fail
    go_ret2
    exact HS.out
end Go.Proofs.Ytmkejgbbgknalaa
