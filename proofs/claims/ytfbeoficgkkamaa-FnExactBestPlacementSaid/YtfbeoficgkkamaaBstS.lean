/-
  What spec.l8Best and spec.BestPlacement return. No statement of the seat by itself.
-/
import Derived.Test.YtfbeoficgkkamaaBstM
import Derived.Test.YtfbeoficgkkamaaPlcS
import Derived.Deep.RegionHeldLaw
namespace Go.Proofs.Ytfbeoficgkkamaa
open Go.RowKit

/-- The next yard, a copy in its box, made behind wr. -/
structure PkS (wr W : World) (A B g n c : Nat) (Z : List (List Int)) : Prop where
  bl : Below wr.heap.size wr W
  own : OwnY W B W.heap.size (.slice (some ⟨g, 0, none⟩) n c) Z
  box : W.heap[A]? = some (.cells #[.slice (some ⟨g, 0, none⟩) n c] 67 (0, 0))
  hB : wr.heap.size ≤ B
  hA : wr.heap.size ≤ A
theorem PkS.cA {wr W : World} {A B g n c : Nat} {Z : List (List Int)} (h : PkS wr W A B g n c Z) : A < W.heap.size ∧ W.cell? ⟨A, 0, none⟩ = some (.slice (some ⟨g, 0, none⟩) n c) ∧ A ≠ g := by
  refine ⟨(Array.getElem?_eq_some_iff.1 h.box).1, cell_of h.box rfl, fun e => ?_⟩
  subst e
  obtain ⟨_, _, us, h3, _⟩ := h.own
  rcases h3.2 with ⟨e, _⟩ | ⟨g', cap, cur, e, _, hb, _⟩
  · cases e
  · injection e with e1 e2 e3
    injection e1 with e1
    injection e1 with e1 _ _
    subst e1
    rw [h.box] at hb
    simp at hb
theorem PkS.below {wr W W' : World} {A B g n c : Nat} {Z : List (List Int)} (h : PkS wr W A B g n c Z) (hb : Below W.heap.size W W') : PkS wr W' A B g n c Z :=
  ⟨h.bl.trans (hb.mono h.bl.size), (h.own.below hb).mono (Nat.le_refl _) hb.size (Nat.le_refl _), (hb.block _ h.cA.1).trans h.box, h.hB, h.hA⟩
theorem PkS.put {wr W w5 : World} {A B g n c s m : Nat} {x v' : Value} {Z : List (List Int)} {l : List Int} {y : Int} {o : Obj} (h : PkS wr W A B g n c Z) (hl : Z[s]? = some l) (hm : l.length = m) (hx : W.cell? ⟨g, s, none⟩ = some x)
    (ho : w5.ownsRow B 3 1 v' (m + 1) (intV l ++ [.int .i64 y])) (hg : (W.alloc o).grownBy w5 x.ownBlock) (hat : v'.ownBlock = x.ownBlock ∨ v'.ownBlock = some (W.alloc o).heap.size) :
    PkS wr (w5.setCell ⟨g, s, none⟩ v') A B g n c (putY Z s y) ∧ (∃ q, w5.cell? ⟨g, s, none⟩ = some q) ∧ w5.frozen? ⟨g, s, none⟩ = false ∧ w5.cell? ⟨A, 0, none⟩ = some (.slice (some ⟨g, 0, none⟩) n c) := by
  obtain ⟨p1, p2, p3⟩ := own_put h.own hl hm hx ho hg hat
  obtain ⟨x2, hx2, -, r1, r2⟩ := h.own.cell hl
  rw [hx] at hx2
  cases hx2
  have ht := own_tab h.own
  have hA := h.cA
  have hxA : x.ownBlock ≠ some A := box_other h.box r1 rfl
  have hs5 := hg.size
  have hsa : (W.alloc o).heap.size = W.heap.size + 1 := by simp
  have hb0 : ∀ k, k < W.heap.size → x.ownBlock ≠ some k → w5.heap[k]? = W.heap[k]? := fun k hk hne => (hg.block k (by omega) (fun e => hne e.symm)).trans (heap_alloc_old W o k hk)
  have hbx : w5.heap[A]? = W.heap[A]? := hb0 A hA.1 hxA
  have hB5 : Below B W w5 := ⟨hg.os, hg.tape, hg.output, by omega, fun k hk => hb0 k (by omega) (fun e => by have := row_base r1 k e; omega)⟩
  have hup : Below B W (w5.setCell ⟨g, s, none⟩ v') := hB5.setCell (p := ⟨g, s, none⟩) ht.1 _
  refine ⟨⟨h.bl.trans (hup.mono h.hB), p1.mono (Nat.le_refl _) (by simp) (Nat.le_refl _), ?_, h.hB, h.hA⟩, p2, p3, cell_of (hbx.trans h.box) rfl⟩
  rw [Below.heap_setCell w5 ⟨g, s, none⟩ v' _ (by show A ≠ g; exact hA.2.2), hbx]
  exact h.box

/-- What the reference's search answers. -/
def BstA (w : World) (P : List Int) (r : Option (List Int × Nat)) (e : Ending) (w' : World) : Prop := ∃ u, e = .returned (.tuple #[u, .int .i64 (bstC r)]) ∧ IL w' u (bstP P r) ∧ Below w.heap.size w w'

set_option maxRecDepth 100000 in
set_option maxHeartbeats 16000000 in
theorem l8Best_any : ∀ (L : List Int) (v vo vp : Value) (Y : List (List Int)) (O P : List Int), askP Y L = true → O.drop P.length = L → O.length ≤ 5 → P.length ≤ O.length → ∀ w : World, YdR w v Y → IL w vo O → IL w vp P →
    Calls Try.prog 85 #[v, vo, vp] w (BstA w P (bst 4 L Y))
  | [], v, vo, vp, Y, O, P, ha, hd, h5, hp, w, h, ho, hvp => by
    have hpl : P.length = O.length := by have := congrArg List.length hd; simp at this; omega
    obtain ⟨v0, rfl, hv⟩ := h
    have HVP := Lib.hid hvp
    obtain ⟨a, c, rfl⟩ := ho.form
    obtain ⟨ap, cp, rfl⟩ := hvp.form
    have B0 := Lib.hid (below_one w (.cells #[v0] 67))
    have c0 := (Box1.new w v0 67).2
    have HB := Lib.hid (l8Bad_any (.agg #[v0]) Y (askP_iff.1 ha).1 _ ⟨v0, rfl, hv.below B0.out⟩)
    have HX : Hid ((srtI (badYL Y Y.length)).length = badN Y) := Lib.hid (by rw [srtI_len, badN])
    generalize srtI (badYL Y Y.length) = R at *
    obtain ⟨n, hn⟩ : ∃ n, O.length = n := ⟨_, rfl⟩
    rw [hpl] at HVP ⊢
    rw [hn] at h5 HVP ⊢
    clear ho hvp hv ha hd hp hpl hn
    go_enter Try.func85, Try.ntmps85
    go_wp2_with fail
    refine HB.out.mono ?_
    rintro e w1 ⟨u, rfl, hou, hb⟩
    obtain ⟨a1, c1, rfl⟩ := own_form hou
    have B1 := Lib.hid (B0.out.trans (hb.mono B0.out.size))
    clear hou hb c0
    go_wp2_with fail
    go_ret2
    exact ⟨_, by rw [HX.out]; rfl, by have := HVP.out.below B1.out; simpa [bst_nil, bstP] using this, B1.out⟩
  | x :: L, v, vo, vp, Y, O, P, ha, hd, h5, hp, w, h, ho, hvp => by
    have hpl : P.length < O.length := by have := congrArg List.length hd; simp at this; omega
    have hxO : O[P.length]? = some x := by have := congrArg (fun l => l[0]?) hd; simpa using this
    have hdL : O.drop (P.length + 1) = L := by rw [← List.drop_drop, hd]; rfl
    obtain ⟨v0, rfl, hv⟩ := h
    have HV := Lib.hid hv
    have HVP := Lib.hid hvp
    have HO := Lib.hid ho
    obtain ⟨hgd, -⟩ := askP_iff.1 ha
    have HAs := Lib.hid ha
    have hsm := good_small hgd
    have h11 := (goodY_iff.1 hgd).1
    obtain ⟨av, cv, hvf⟩ := hv.form
    have HVF := Lib.hid hvf
    have HCp := Lib.hid (fun W hb => l5Own_any (.agg #[v0]) Y (by omega) (by omega) W ⟨v0, rfl, HV.out.below hb⟩)
    unfold NewYd at HCp
    obtain ⟨a, c, rfl⟩ := ho.form
    obtain ⟨ap, cp, rfl⟩ := hvp.form
    obtain ⟨q, hq⟩ : ∃ q, Y.length = q := ⟨_, rfl⟩
    have HQN := Lib.hid hq
    rw [hq] at HCp h11 hsm
    have hne : ((P.length : Int) == (O.length : Int)) = false := beq_eq_false_iff_ne.2 (by omega)
    have HIH := Lib.hid (fun (Z : List (List Int)) (k : Nat) (u u2 : Value) W (h1 : askP Z L = true) (h2 : YdR W u Z) (h3 : IL W (.slice a O.length c) O) (h4 : IL W u2 (P ++ [(k : Int)])) =>
      l8Best_any L u (.slice a O.length c) u2 Z O (P ++ [(k : Int)]) h1 (by rw [List.length_append, List.length_singleton]; exact hdL) h5 (by rw [List.length_append, List.length_singleton]; omega) W h2 h3 h4)
    have HXO := Lib.hid hxO
    have HR0 : Hid (bstK 4 (bst 4 L) x Y 0 = none) := Lib.hid rfl
    rw [bst_cons, hq]
    generalize hol : O.length = n at *
    have hP5 : P.length ≤ 5 := by omega
    have HOL := Lib.hid hol
    clear hv ho hvp ha hd hgd hvf hq hxO hdL hol
    have B0 := Lib.hid (below_two w (.cells #[v0] 67) (.cells #[] 3))
    have BX := Lib.hid ((Box1.new w v0 67).below (below_one _ (.cells #[] 3)))
    have HV0 : Hid (IL ((w.alloc (.cells #[v0] 67)).alloc (.cells #[] 3)) (.slice (some ⟨w.heap.size + 1, 0, none⟩) 0 0) (bstP P none)) := Lib.hid (IL.nil _ _ _)
    go_enter Try.func85, Try.ntmps85
    go_wp2_with fail
    go_loopw [9, 10, 11] (fun vb m i wr => ∃ (k : Nat) (acc : Option (List Int × Nat)), k ≤ q ∧ i = .int .i64 k ∧ m = .int .i64 (bstC acc) ∧ Hid (bstK 4 (bst 4 L) x Y k = acc) ∧ Hid (Box1 wr w.heap.size v0) ∧ Hid (Below w.heap.size w wr) ∧ Hid (IL wr vb (bstP P acc))) (fun _ _ i _ => q - (intOf i).toNat)
    case atStart => exact ⟨0, none, Nat.zero_le _, rfl, rfl, HR0, BX, B0, HV0⟩
    case round =>
      clear HV0 HR0 BX B0
      obtain ⟨k, acc, hk, rfl, rfl, HAcc, HBox, HBr, HVb⟩ := hrel
      rename World => wr
      have hvf := HVF.out
      rw [HQN.out] at hvf
      have cY := HBox.out.2
      rw [hvf] at cY
      have cY0 := HBox.out.2
      by_cases hlt : k < q
      · obtain ⟨l, hl⟩ := get_at HQN.out hlt
        have hvy := HV.out
        rw [hvf] at hvy
        obtain ⟨a9, c9, e9, hcc⟩ := hvy
        obtain ⟨gy, offy, e2, hgy, hcl⟩ := hcc (by have := HQN.out; omega)
        injection e9 with e1 e4 e5
        subst e2
        subst e1
        clear e4 e5
        obtain ⟨u, hu', hil⟩ := hcl k l hl
        have hu := (HBr.out.cell (p := ⟨gy, offy + k, none⟩) hgy).trans hu'
        obtain ⟨a2, c2', rfl⟩ := hil.form
        have HL := Lib.hid hl
        have hm4 := (goodY_iff.1 (askP_iff.1 HAs.out).1).2.2.1 l (List.mem_of_getElem? hl)
        by_cases h4 : l.length = 4
        · have HE : Hid (bstK 4 (bst 4 L) x Y (k + 1) = acc) := Lib.hid (by rw [bstK_full hl h4]; exact HAcc.out)
          rw [h4] at hu
          clear hcc hcl hil hu' hl hvf cY0
          go_wp2_with fail
          exact ⟨⟨k + 1, acc, by omega, by go_num, rfl, HE, HBox, HBr, HVb⟩, by simp [intOf]; omega⟩
        · have HStep := Lib.hid (bstK_open (f := bst 4 L) (x := x) hl h4)
          rw [HAcc.out] at HStep
          have hmI : (((l.length : Nat) : Int) == 4) = false := beq_eq_false_iff_ne.2 (by omega)
          have HAr := Lib.hid (arr_tail HAs.out hl (by omega))
          obtain ⟨m, hm⟩ : ∃ m, l.length = m := ⟨_, rfl⟩
          have HM := Lib.hid hm
          rw [hm] at hu hm4 hmI
          have HO' := HO.out
          obtain ⟨ao, co, eo, hco⟩ := HO'
          obtain ⟨gl, offl, eo2, hgl, hcol⟩ := hco (by have := HOL.out; omega)
          injection eo with e1 e4 e5
          subst eo2
          subst e1
          clear e4 e5
          have HOx := Lib.hid (And.intro hgl (hcol _ _ HXO.out))
          have hPn : P.length < n := by have := HOL.out; have := lt_of_get HXO.out; omega
          rw [hvf] at HCp
          clear hcc hcl hil hu' hl h4 hm hco hcol hgl hvf cY0
          go_wp2_with fail
          refine (HCp.out _ HBr.out).mono ?_
          rintro e w2 ⟨a3, c3, rfl, ho, hb⟩
          obtain ⟨g, cap, e⟩ := ho.rows (by have := HQN.out; omega)
          injection e with e1 e2 e3
          subst e1 e3
          have HS2 : Hid (PkS wr (w2.alloc (.cells #[.slice (some ⟨g, 0, none⟩) q c3] 67)) w2.heap.size wr.heap.size g q c3 Y) := Lib.hid (by
            have hb1 := below_one w2 (.cells #[.slice (some ⟨g, 0, none⟩) q c3] 67)
            exact ⟨hb.trans (hb1.mono hb.size), (ho.below hb1).mono (Nat.le_refl _) hb1.size (Nat.le_refl _), heap_alloc_new w2 _, Nat.le_refl _, hb.size⟩)
          clear hb ho e2 cY hu
          have cA := HS2.out.cA.2.1
          go_wp2_with fail
          generalize w2.alloc (.cells #[.slice (some ⟨g, 0, none⟩) q c3] 67) = w3 at *
          generalize w2.heap.size = A at *
          have x1 : w3.cell? ⟨gl, offl + P.length, none⟩ = some (.int .i64 x) := (HS2.out.bl.cell (p := ⟨gl, offl + P.length, none⟩) (Nat.lt_of_lt_of_le HOx.out.1 HBr.out.size)).trans ((HBr.out.cell (p := ⟨gl, offl + P.length, none⟩) HOx.out.1).trans HOx.out.2)
          have hgl3 : gl < w3.heap.size := Nat.lt_of_lt_of_le HOx.out.1 (Nat.le_trans HBr.out.size HS2.out.bl.size)
          have ht := own_tab HS2.out.own
          obtain ⟨u, hu, -, hou, -⟩ := HS2.out.own.cell HL.out
          obtain ⟨a4, c4, rfl⟩ := own_form hou
          rw [HM.out] at hu hou
          have HO4 := Lib.hid hou
          have cO := HS2.out.cA.2.1
          have hOg : ¬ A = g := HS2.out.cA.2.2
          have hgO : ¬ g = A := fun e => hOg e.symm
          have HP := Lib.hid (fun (w5 : World) (v' : Value) (o : Obj) (ho : w5.ownsRow wr.heap.size 3 1 v' (m + 1) (intV l ++ [.int .i64 x])) (hg : (w3.drew.alloc o).grownBy w5 (Value.slice a4 m c4).ownBlock) (hat : v'.ownBlock = (Value.slice a4 m c4).ownBlock ∨ v'.ownBlock = some (w3.drew.alloc o).heap.size) =>
            (HS2.out.below (Below.refl _ w3).drew).put HL.out HM.out hu ho hg hat)
          have HU5 := Lib.hid (fun o => row_below HO4.out (((Below.refl _ w3).drew).alloc (Nat.le_refl _) o))
          have hcB := fun o => (World.cell?_alloc_lt w3 o ⟨A, 0, none⟩ HS2.out.cA.1).trans cO
          have hu9 : w3.drew.cell? ⟨g, k, none⟩ = some (.slice a4 m c4) := hu
          have hg3 : ¬ g = w3.heap.size := by omega
          have huB := fun o => (World.cell?_alloc_lt w3 o ⟨g, k, none⟩ (by show g < w3.heap.size; omega)).trans hu
          have hg4 : ¬ w3.heap.size = g := by omega
          have hcA := fun o => (World.cell?_alloc_lt w3.drew o ⟨A, 0, none⟩ HS2.out.cA.1).trans cO
          have hxB := fun o => (World.cell?_alloc_lt w3 o ⟨gl, offl + P.length, none⟩ hgl3).trans x1
          have hxA := fun o => (World.cell?_alloc_lt w3.drew o ⟨gl, offl + P.length, none⟩ hgl3).trans x1
          have hzz : wr.heap.size ≤ w3.heap.size := HS2.out.bl.size
          have HZA := Lib.hid (fun o => Nat.le_trans hzz (below_one w3.drew o).size)
          have hkq : (k : Int) < (q : Int) := by omega
          clear hou HO4 ht cA
          go_cut [] from 42 to 56 (fun w6 => Hid (PkS wr w6 A wr.heap.size g q c3 (putY Y k x)))
          case first =>
            go_region_law (first | (refine step_int_at (by rfl) _ _ (by rfl) wr.heap.size _ m (intV l) (by rfl) (HU5.out _) _ _ _ (by rfl) (cell_val_new _ _ _) (by simp [Value.oneCell']) (by omega) (HZA.out _) ?_; intro v5 w5 ho5 hg5 hat5; have HP5 := Lib.hid (HP.out w5 v5 _ ho5 hg5 hat5); obtain ⟨y5, p2⟩ := HP5.out.2.1; have p3 := HP5.out.2.2.1; have q1 := HP5.out.2.2.2; obtain ⟨a6, c6, rfl⟩ := own_form ho5; clear ho5 hg5 hat5))
            all_goals
              have HPx := Lib.hid HP5.out.1
              clear HP5 p2 p3 q1 y5
              go_wp2_with fail
              go_meet
              exact HPx
          case rest =>
            rename World => w3
            have cO := hcut.out.cA.2.1
            have hA3 := hcut.out.cA.1
            have HB3 := Lib.hid hcut.out.bl
            have HO1 := Lib.hid (fun W (hb : Below w3.heap.size w3 W) => l1Own_any (.slice ap P.length cp) P (by omega) W (HVP.out.below (HBr.out.trans ((HB3.out.trans (hb.mono HB3.out.size)).mono HBr.out.size))))
            have HIH := Lib.hid (fun W (hb : Below w3.heap.size w3 W) (u2 : Value) (h4 : IL W u2 (P ++ [(k : Int)])) => HIH.out (putY Y k x) k (.agg #[.slice (some ⟨g, 0, none⟩) q c3]) u2 W HAr.out ⟨_, rfl, (hcut.out.own.yl).below hb⟩ (HO.out.below (HBr.out.trans ((HB3.out.trans (hb.mono HB3.out.size)).mono HBr.out.size))) h4)
            generalize bst 4 L (putY Y k x) = r at *
            go_wp2_with fail
            refine wp_region_held_drew (S := fun W => W.cell? ⟨A, 0, none⟩ = some (.slice (some ⟨g, 0, none⟩) q c3)) (by kernel_rfl) ?_ (fun hHeld => ?_)
            · exact cO
            refine (wpAnyH_take (i := 0) (v := ?_) rfl (by kernel_rfl) (by kernel_rfl) (by kernel_rfl) (fun _ _ _ h => h) (Or.inl ⟨by rfl, ?_⟩) (by assumption) ?_)
            rotate_left 1
            · (intro w hSw; (try dsimp only at hSw); (go_simp) <;> with_reducible rfl)
            try simp only [Act.put, List.setIfInBounds_toArray]
            refine (wpAnyH_take (i := 1) (v := ?_) rfl (by kernel_rfl) (by kernel_rfl) (by kernel_rfl) (fun _ _ _ h => h) (Or.inl ⟨by rfl, ?_⟩) (by assumption) ?_)
            rotate_left 1
            · (intro w hSw; (try dsimp only at hSw); (go_simp) <;> with_reducible rfl)
            try simp only [Act.put]
            refine (wpAnyH_take (i := 2) (v := ?_) rfl (by kernel_rfl) (by kernel_rfl) (by kernel_rfl) (fun _ _ _ h => h) (Or.inl ⟨by rfl, ?_⟩) (by assumption) ?_)
            rotate_left 1
            · (intro w hSw; (try dsimp only at hSw); (go_simp) <;> with_reducible rfl)
            try simp only [Act.put]
            refine (wpAnyH_take (i := 4) (v := ?_) rfl (by kernel_rfl) (by kernel_rfl) (by kernel_rfl) (fun _ _ _ h => h) (Or.inl ⟨by rfl, ?_⟩) (by assumption) ?_)
            rotate_left 1
            · (intro w hSw; (try dsimp only at hSw); (go_simp) <;> with_reducible rfl)
            try simp only [Act.put]
            refine wpAnyH_ready (rs := [3, 5]) (by kernel_rfl) (by simp) ?_
            refine AllReadyH.cons rfl (fun K hK => ?_) ?_
            · skip
              go_simp
              go_at_call 92
              refine (HO1.out w3.drew ((Below.refl w3.heap.size w3).drew : Below w3.heap.size w3 w3.drew)).mono ?_
              rintro e w6 ⟨a6, c6, rfl, ho6, hb6⟩
              have HB6 := Lib.hid ((((Below.refl w3.heap.size w3).drew : Below w3.heap.size w3 w3.drew)).trans (hb6.mono (((Below.refl w3.heap.size w3).drew : Below w3.heap.size w3 w3.drew)).size))
              have HR6 := Lib.hid (ho6.mono (base' := w3.heap.size) (((Below.refl w3.heap.size w3).drew : Below w3.heap.size w3 w3.drew)).size)
              have cA6 := (HB6.out.cell (p := ⟨A, 0, none⟩) hA3).trans cO
              refine hK.out _ _ ?_ (fun hNew => ?_)
              · (try dsimp only); exact cA6
              clear hK K hHeld
              have hHeld := hNew
              clear hNew
              refine wpAnyH_ready (rs := [5]) (by kernel_rfl) (by simp) ?_
              refine AllReadyH.cons rfl (fun K hK => ?_) ?_
              · go_simp
                have cA6b := (World.cell?_alloc_lt w6 (.cells #[.int .i64 (k : Int)] 3) ⟨A, 0, none⟩ (Nat.lt_of_lt_of_le hA3 HB6.out.size)).trans cA6
                refine hK.out _ _ ?_ (fun hNew => ?_)
                · (try dsimp only); exact cA6b
                clear hK K hHeld
                have hHeld := hNew
                clear hNew
                refine wpAnyH_ready (rs := [6]) (by kernel_rfl) (by simp) ?_
                refine AllReadyH.cons rfl (fun K hK => ?_) ?_
                · skip
                  have HBa := Lib.hid (HB6.out.trans ((below_one w6 (.cells #[.int .i64 (k : Int)] 3)).mono HB6.out.size))
                  refine step_int_at (by rfl) _ _ (by rfl) w3.heap.size _ P.length (intV P) (by rfl) (HR6.out.alloc (.cells #[.int .i64 (k : Int)] 3)) _ _ _ (by rfl) (cell_val_new _ _ _) (by simp [Value.oneCell']) (by omega) HBa.out.size ?_
                  intro v7 w7 ho7 hg7 hat7
                  have HB7 : Hid (Below w3.heap.size w3 w7) := Lib.hid ((HBa.out).grown hg7 (HBa.out).size (fun j e => by have := row_base HR6.out j e; omega))
                  have HI7 : Hid (IL w7 v7 (P ++ [(k : Int)])) := Lib.hid (il_of_owns (n := P.length + 1) (by simpa [intV] using ho7))
                  obtain ⟨a7, c7, rfl⟩ := own_form ho7
                  have cA7 := (HB7.out.cell (p := ⟨A, 0, none⟩) hA3).trans cO
                  clear ho7 hg7 hat7
                  refine hK.out _ _ ?_ (fun hNew => ?_)
                  · (try dsimp only); exact cA7
                  clear hK K hHeld
                  have hHeld := hNew
                  clear hNew
                  refine wpAnyH_ready (rs := [7]) (by kernel_rfl) (by simp) ?_
                  refine AllReadyH.cons rfl (fun K hK => ?_) ?_
                  · go_simp
                    go_at_call 85
                    refine (HIH.out w7 HB7.out _ HI7.out).mono ?_
                    rintro e w8 ⟨u8, rfl, hu8, hb8⟩
                    have HB8 := Lib.hid (HB7.out.trans (hb8.mono HB7.out.size))
                    have HU8 := Lib.hid hu8
                    have cA8 := (HB8.out.cell (p := ⟨A, 0, none⟩) hA3).trans cO
                    clear hu8 hb8
                    refine hK.out _ _ ?_ (fun hNew => ?_)
                    · (try dsimp only); exact cA8
                    clear hK K hHeld
                    have hHeld := hNew
                    clear hNew
                    refine (wpAnyH_take (i := 8) (v := ?_) rfl (by kernel_rfl) (by kernel_rfl) (by kernel_rfl) (fun _ _ _ h => h) (Or.inl ⟨by rfl, ?_⟩) (by assumption) ?_)
                    rotate_left 1
                    · (intro w hSw; (try dsimp only at hSw); (go_simp) <;> with_reducible rfl)
                    try simp only [Act.put, List.setIfInBounds_toArray]
                    refine (wpAnyH_take (i := 9) (v := ?_) rfl (by kernel_rfl) (by kernel_rfl) (by kernel_rfl) (fun _ _ _ h => h) (Or.inl ⟨by rfl, ?_⟩) (by assumption) ?_)
                    rotate_left 1
                    · (intro w hSw; (try dsimp only at hSw); (go_simp) <;> with_reducible rfl)
                    try simp only [Act.put]
                    refine (wpAnyH_take (i := 10) (v := ?_) rfl (by kernel_rfl) (by kernel_rfl) (by kernel_rfl) (fun _ _ _ h => h) (Or.inl ⟨by rfl, ?_⟩) (by assumption) ?_)
                    rotate_left 1
                    · (intro w hSw; (try dsimp only at hSw); (go_simp) <;> with_reducible rfl)
                    try simp only [Act.put]
                    refine (wpAnyH_take (i := 11) (v := ?_) rfl (by kernel_rfl) (by kernel_rfl) (by kernel_rfl) (fun _ _ _ h => h) (Or.inl ⟨by rfl, ?_⟩) (by assumption) ?_)
                    rotate_left 1
                    · (intro w hSw; (try dsimp only at hSw); (go_simp) <;> with_reducible rfl)
                    try simp only [Act.put]
                    refine (wpAnyH_take (i := 12) (v := ?_) rfl (by kernel_rfl) (by kernel_rfl) (by kernel_rfl) (fun _ _ _ h => h) (Or.inl ⟨by rfl, ?_⟩) (by assumption) ?_)
                    rotate_left 1
                    · (intro w hSw; (try dsimp only at hSw); (go_simp) <;> with_reducible rfl)
                    try simp only [Act.put]
                    refine wpAnyH_done (by kernel_rfl) ?_ _
                    clear hHeld cA8
                    have HW8 := Lib.hid (HB3.out.trans (HB8.out.mono HB3.out.size))
                    have BX8 := Lib.hid (HBox.out.below HW8.out)
                    have BW8 := Lib.hid (HBr.out.trans (HW8.out.mono HBr.out.size))
                    have HV8 := Lib.hid (HVb.out.below HW8.out)
                    cases hr : r with
                    | none =>
                      have hn0 : decide ((0 : Int) ≤ (-1 : Int)) = false := by decide
                      have HE : Hid (bstK 4 (bst 4 L) x Y (k + 1) = acc) := Lib.hid (by rw [HStep.out, hr]; rfl)
                      rw [show bstC none = -1 from rfl]
                      clear hr
                      go_wp2_with fail
                      exact ⟨⟨k + 1, acc, by omega, by go_num, rfl, HE, BX8, BW8, HV8⟩, by simp [intOf]; omega⟩
                    | some pc =>
                      obtain ⟨pp, cc⟩ := pc
                      rw [hr] at HU8
                      rw [show bstC (some (pp, cc)) = (cc : Int) from rfl]
                      have hn0 : decide ((0 : Int) ≤ (cc : Int)) = true := by simp
                      have HU9 : Hid (IL w8 u8 (bstP P (some ((k : Int) :: pp, cc)))) := Lib.hid (by have := HU8.out; simp only [bstP] at this ⊢; simpa using this)
                      cases acc with
                      | none =>
                        have hl0 : decide ((-1 : Int) < 0) = true := by decide
                        have HE : Hid (bstK 4 (bst 4 L) x Y (k + 1) = some ((k : Int) :: pp, cc)) := Lib.hid (by rw [HStep.out, hr]; rfl)
                        rw [show bstC none = -1 from rfl]
                        clear hr
                        go_wp2_with fail
                        exact ⟨⟨k + 1, _, by omega, by go_num, rfl, HE, BX8, BW8, HU9⟩, by simp [intOf]; omega⟩
                      | some qd =>
                        obtain ⟨qq, dd⟩ := qd
                        rw [show bstC (some (qq, dd)) = (dd : Int) from rfl]
                        have hl0 : decide ((dd : Int) < 0) = false := by rw [decide_eq_false_iff_not]; omega
                        by_cases hcd : cc < dd
                        · have HE : Hid (bstK 4 (bst 4 L) x Y (k + 1) = some ((k : Int) :: pp, cc)) := Lib.hid (by rw [HStep.out, hr]; simp [cmbB, hcd])
                          have hci : decide ((cc : Int) < (dd : Int)) = true := by simpa using hcd
                          clear hr
                          go_wp2_with fail
                          exact ⟨⟨k + 1, _, by omega, by go_num, rfl, HE, BX8, BW8, HU9⟩, by simp [intOf]; omega⟩
                        · have HE : Hid (bstK 4 (bst 4 L) x Y (k + 1) = some (qq, dd)) := Lib.hid (by rw [HStep.out, hr]; simp [cmbB, hcd])
                          have hci : decide ((cc : Int) < (dd : Int)) = false := by simpa using hcd
                          clear hr
                          go_wp2_with fail
                          exact ⟨⟨k + 1, _, by omega, by go_num, rfl, HE, BX8, BW8, HV8⟩, by simp [intOf]; omega⟩
                  exact AllReadyH.nil
                exact AllReadyH.nil
              exact AllReadyH.nil
            refine AllReadyH.cons rfl (fun K hK => ?_) ?_
            · go_simp
              have cAb := (World.cell?_alloc_lt w3.drew (.cells #[.int .i64 (k : Int)] 3) ⟨A, 0, none⟩ hA3).trans cO
              refine hK.out _ _ ?_ (fun hNew => ?_)
              · (try dsimp only); exact cAb
              clear hK K hHeld
              have hHeld := hNew
              clear hNew
              refine wpAnyH_ready (rs := [3]) (by kernel_rfl) (by simp) ?_
              refine AllReadyH.cons rfl (fun K hK => ?_) ?_
              · skip
                go_simp
                go_at_call 92
                refine (HO1.out (w3.drew.alloc (.cells #[.int .i64 (k : Int)] 3)) ((((Below.refl w3.heap.size w3).drew).alloc (Nat.le_refl _) (.cells #[.int .i64 (k : Int)] 3)) : Below w3.heap.size w3 (w3.drew.alloc (.cells #[.int .i64 (k : Int)] 3)))).mono ?_
                rintro e w6 ⟨a6, c6, rfl, ho6, hb6⟩
                have HB6 := Lib.hid ((((((Below.refl w3.heap.size w3).drew).alloc (Nat.le_refl _) (.cells #[.int .i64 (k : Int)] 3)) : Below w3.heap.size w3 (w3.drew.alloc (.cells #[.int .i64 (k : Int)] 3)))).trans (hb6.mono (((((Below.refl w3.heap.size w3).drew).alloc (Nat.le_refl _) (.cells #[.int .i64 (k : Int)] 3)) : Below w3.heap.size w3 (w3.drew.alloc (.cells #[.int .i64 (k : Int)] 3)))).size))
                have HR6 := Lib.hid (ho6.mono (base' := w3.heap.size) (((((Below.refl w3.heap.size w3).drew).alloc (Nat.le_refl _) (.cells #[.int .i64 (k : Int)] 3)) : Below w3.heap.size w3 (w3.drew.alloc (.cells #[.int .i64 (k : Int)] 3)))).size)
                have cA6 := (HB6.out.cell (p := ⟨A, 0, none⟩) hA3).trans cO
                have HNw := Lib.hid (fun (jj : Nat) (y : Value) (hy : ([.int .i64 (k : Int)] : List Value)[jj]? = some y) => show w6.cell? ((⟨w3.drew.heap.size, 0, none⟩ : Addr).add jj) = some y from by
                    have h1 := cell_val_new w3.drew (.int .i64 (k : Int)) 3 jj y hy
                    rw [addr_add] at h1 ⊢
                    exact (hb6.cell (p := ⟨w3.drew.heap.size, 0 + jj, none⟩) (by show w3.drew.heap.size < (w3.drew.alloc _).heap.size; rw [World.size_alloc]; exact Nat.lt_succ_self _)).trans h1)
                refine hK.out _ _ ?_ (fun hNew => ?_)
                · (try dsimp only); exact cA6
                clear hK K hHeld
                have hHeld := hNew
                clear hNew
                refine wpAnyH_ready (rs := [6]) (by kernel_rfl) (by simp) ?_
                refine AllReadyH.cons rfl (fun K hK => ?_) ?_
                · skip
                  refine step_int_at (by rfl) _ _ (by rfl) w3.heap.size _ P.length (intV P) (by rfl) HR6.out _ _ _ (by rfl) HNw.out (by simp [Value.oneCell']) (by omega) HB6.out.size ?_
                  intro v7 w7 ho7 hg7 hat7
                  have HB7 : Hid (Below w3.heap.size w3 w7) := Lib.hid ((HB6.out).grown hg7 (HB6.out).size (fun j e => by have := row_base HR6.out j e; omega))
                  have HI7 : Hid (IL w7 v7 (P ++ [(k : Int)])) := Lib.hid (il_of_owns (n := P.length + 1) (by simpa [intV] using ho7))
                  obtain ⟨a7, c7, rfl⟩ := own_form ho7
                  have cA7 := (HB7.out.cell (p := ⟨A, 0, none⟩) hA3).trans cO
                  clear ho7 hg7 hat7
                  refine hK.out _ _ ?_ (fun hNew => ?_)
                  · (try dsimp only); exact cA7
                  clear hK K hHeld
                  have hHeld := hNew
                  clear hNew
                  refine wpAnyH_ready (rs := [7]) (by kernel_rfl) (by simp) ?_
                  refine AllReadyH.cons rfl (fun K hK => ?_) ?_
                  · go_simp
                    go_at_call 85
                    refine (HIH.out w7 HB7.out _ HI7.out).mono ?_
                    rintro e w8 ⟨u8, rfl, hu8, hb8⟩
                    have HB8 := Lib.hid (HB7.out.trans (hb8.mono HB7.out.size))
                    have HU8 := Lib.hid hu8
                    have cA8 := (HB8.out.cell (p := ⟨A, 0, none⟩) hA3).trans cO
                    clear hu8 hb8
                    refine hK.out _ _ ?_ (fun hNew => ?_)
                    · (try dsimp only); exact cA8
                    clear hK K hHeld
                    have hHeld := hNew
                    clear hNew
                    refine (wpAnyH_take (i := 8) (v := ?_) rfl (by kernel_rfl) (by kernel_rfl) (by kernel_rfl) (fun _ _ _ h => h) (Or.inl ⟨by rfl, ?_⟩) (by assumption) ?_)
                    rotate_left 1
                    · (intro w hSw; (try dsimp only at hSw); (go_simp) <;> with_reducible rfl)
                    try simp only [Act.put, List.setIfInBounds_toArray]
                    refine (wpAnyH_take (i := 9) (v := ?_) rfl (by kernel_rfl) (by kernel_rfl) (by kernel_rfl) (fun _ _ _ h => h) (Or.inl ⟨by rfl, ?_⟩) (by assumption) ?_)
                    rotate_left 1
                    · (intro w hSw; (try dsimp only at hSw); (go_simp) <;> with_reducible rfl)
                    try simp only [Act.put]
                    refine (wpAnyH_take (i := 10) (v := ?_) rfl (by kernel_rfl) (by kernel_rfl) (by kernel_rfl) (fun _ _ _ h => h) (Or.inl ⟨by rfl, ?_⟩) (by assumption) ?_)
                    rotate_left 1
                    · (intro w hSw; (try dsimp only at hSw); (go_simp) <;> with_reducible rfl)
                    try simp only [Act.put]
                    refine (wpAnyH_take (i := 11) (v := ?_) rfl (by kernel_rfl) (by kernel_rfl) (by kernel_rfl) (fun _ _ _ h => h) (Or.inl ⟨by rfl, ?_⟩) (by assumption) ?_)
                    rotate_left 1
                    · (intro w hSw; (try dsimp only at hSw); (go_simp) <;> with_reducible rfl)
                    try simp only [Act.put]
                    refine (wpAnyH_take (i := 12) (v := ?_) rfl (by kernel_rfl) (by kernel_rfl) (by kernel_rfl) (fun _ _ _ h => h) (Or.inl ⟨by rfl, ?_⟩) (by assumption) ?_)
                    rotate_left 1
                    · (intro w hSw; (try dsimp only at hSw); (go_simp) <;> with_reducible rfl)
                    try simp only [Act.put]
                    refine wpAnyH_done (by kernel_rfl) ?_ _
                    clear hHeld cA8
                    have HW8 := Lib.hid (HB3.out.trans (HB8.out.mono HB3.out.size))
                    have BX8 := Lib.hid (HBox.out.below HW8.out)
                    have BW8 := Lib.hid (HBr.out.trans (HW8.out.mono HBr.out.size))
                    have HV8 := Lib.hid (HVb.out.below HW8.out)
                    cases hr : r with
                    | none =>
                      have hn0 : decide ((0 : Int) ≤ (-1 : Int)) = false := by decide
                      have HE : Hid (bstK 4 (bst 4 L) x Y (k + 1) = acc) := Lib.hid (by rw [HStep.out, hr]; rfl)
                      rw [show bstC none = -1 from rfl]
                      clear hr
                      go_wp2_with fail
                      exact ⟨⟨k + 1, acc, by omega, by go_num, rfl, HE, BX8, BW8, HV8⟩, by simp [intOf]; omega⟩
                    | some pc =>
                      obtain ⟨pp, cc⟩ := pc
                      rw [hr] at HU8
                      rw [show bstC (some (pp, cc)) = (cc : Int) from rfl]
                      have hn0 : decide ((0 : Int) ≤ (cc : Int)) = true := by simp
                      have HU9 : Hid (IL w8 u8 (bstP P (some ((k : Int) :: pp, cc)))) := Lib.hid (by have := HU8.out; simp only [bstP] at this ⊢; simpa using this)
                      cases acc with
                      | none =>
                        have hl0 : decide ((-1 : Int) < 0) = true := by decide
                        have HE : Hid (bstK 4 (bst 4 L) x Y (k + 1) = some ((k : Int) :: pp, cc)) := Lib.hid (by rw [HStep.out, hr]; rfl)
                        rw [show bstC none = -1 from rfl]
                        clear hr
                        go_wp2_with fail
                        exact ⟨⟨k + 1, _, by omega, by go_num, rfl, HE, BX8, BW8, HU9⟩, by simp [intOf]; omega⟩
                      | some qd =>
                        obtain ⟨qq, dd⟩ := qd
                        rw [show bstC (some (qq, dd)) = (dd : Int) from rfl]
                        have hl0 : decide ((dd : Int) < 0) = false := by rw [decide_eq_false_iff_not]; omega
                        by_cases hcd : cc < dd
                        · have HE : Hid (bstK 4 (bst 4 L) x Y (k + 1) = some ((k : Int) :: pp, cc)) := Lib.hid (by rw [HStep.out, hr]; simp [cmbB, hcd])
                          have hci : decide ((cc : Int) < (dd : Int)) = true := by simpa using hcd
                          clear hr
                          go_wp2_with fail
                          exact ⟨⟨k + 1, _, by omega, by go_num, rfl, HE, BX8, BW8, HU9⟩, by simp [intOf]; omega⟩
                        · have HE : Hid (bstK 4 (bst 4 L) x Y (k + 1) = some (qq, dd)) := Lib.hid (by rw [HStep.out, hr]; simp [cmbB, hcd])
                          have hci : decide ((cc : Int) < (dd : Int)) = false := by simpa using hcd
                          clear hr
                          go_wp2_with fail
                          exact ⟨⟨k + 1, _, by omega, by go_num, rfl, HE, BX8, BW8, HV8⟩, by simp [intOf]; omega⟩
                  exact AllReadyH.nil
                exact AllReadyH.nil
              exact AllReadyH.nil
            exact AllReadyH.nil
      · obtain rfl : k = q := by omega
        clear hvf cY0
        go_wp2_with fail
        go_ret2
        exact ⟨_, by rw [HAcc.out]; rfl, by rw [HAcc.out]; exact HVb.out, HBr.out⟩
end Go.Proofs.Ytfbeoficgkkamaa
