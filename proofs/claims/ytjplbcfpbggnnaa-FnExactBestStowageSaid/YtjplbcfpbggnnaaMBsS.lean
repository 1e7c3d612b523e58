/-
  What spec.BestStowage returns. No statement of the seat by itself.
-/
import Derived.Test.YtjplbcfpbggnnaaMBox
import Derived.Test.YtjplbcfpbggnnaaMSh
import Derived.Deep.RegionHeldLaw
import Derived.Deep.CutRange
import Derived.BigQuiet
namespace Go.Proofs.Ytjplbcfpbggnnaa
open Go.RowKit

/-- What the reference's search answers. -/
def BsA (w : World) (P : List Int) (r : Option (List Int × Nat)) (e : Ending) (w' : World) : Prop := ∃ u, e = .returned (.tuple #[u, .int .i64 (bstC r)]) ∧ IL w' u (bstP P r) ∧ Below w.heap.size w w'

set_option maxRecDepth 100000 in
set_option maxHeartbeats 16000000 in
theorem l10Best_leaf (q H : Nat) (P : List Int) (hq1 : 1 ≤ q) (hq5 : q ≤ 5) (h7 : P.length ≤ 7) (hP9 : ∀ i, P.getD i 0 ≤ 9) (v vp : Value) (O : List Int) (hpl : O.length = P.length) (hr : ∀ x ∈ O, 0 ≤ x ∧ x < (q : Int)) (w : World) (h : StR w v (q : Int) (H : Int) P) (hvp : IL w vp O) :
    Calls Try.prog 15 #[v, vp] w (BsA w O (some ([], badN (prY q P O O.length)))) := by
  obtain ⟨v0, rfl, hv⟩ := h
  have HV := Lib.hid hv
  have HVP := Lib.hid hvp
  have BX0 := Lib.hid (Box3.new w (q : Int) (H : Int) v0 28)
  have B0 := Lib.hid (below_one w (.cells #[.int .i64 (q : Int), .int .i64 (H : Int), v0] 28))
  have HBy := Lib.hid (l10Bay_any (.agg #[.int .i64 (q : Int), .int .i64 (H : Int), v0]) vp q (H : Int) P O hq1 hq5 (by omega) hr _ ⟨v0, rfl, hv.below B0.out⟩ (hvp.below B0.out))
  unfold NewBd at HBy
  rw [bayZ_len] at HBy
  have hO : ∀ i, i < O.length → (O.getD i 0).toNat < q := fun i hi => by
    have := hr (O.getD i 0) (by rw [List.getD, List.getElem?_eq_getElem hi]; exact List.getElem_mem _)
    omega
  rw [badN_pr hP9 O.length hO]
  have HSf := Lib.hid (fun (a : Option Addr) (c : Nat) W (hb : Below w.heap.size w W) (hy : YL W (.slice a (bayZ q O O.length).length c) (bayZ q O O.length)) => l10Shifted_any (.agg #[.int .i64 (q : Int), .int .i64 (H : Int), v0]) (.agg #[.int .i64 (H : Int), .slice a (bayZ q O O.length).length c]) (q : Int) (H : Int) (H : Int) P (bayZ q O O.length) h7 (by rw [bayZ_len]; omega) (by
    have := (bayZ_bounds (q := q) (O := O) (n := O.length) (by omega)).1
    intro j t ht
    have h1 := this j t ht
    omega) (bayZ_bounds (q := q) (O := O) (n := O.length) (by omega)).2 W ⟨_, rfl, HV.out.below hb⟩ ⟨_, rfl, hy⟩)
  have HEq := Lib.hid (shI_eq (P := P) (O := O) (n := O.length) (r := q) hO)
  unfold NewN at HSf
  rw [bayZ_len] at HSf
  rw [HEq.out] at HSf
  generalize numsW (shB P O) O.length = R at *
  generalize hRl : R.length = nr at *
  obtain ⟨a, c, rfl⟩ := hv.form
  obtain ⟨ap, cp, rfl⟩ := hvp.form
  rw [hpl] at HVP HBy HSf
  obtain ⟨p, hp⟩ : ∃ p, P.length = p := ⟨_, rfl⟩
  rw [hp] at HVP HV BX0 B0 HBy HSf
  rw [hpl, hp]
  have c0 := BX0.out.2.1
  have c1 := BX0.out.2.2.1
  have c2 := BX0.out.2.2.2
  have hpp : ((p : Int) == (p : Int)) = true := by simp
  clear hv hvp hr hP9 HEq hO hpl
  go_enter Try.func15, Try.ntmps15
  go_wp2_with fail
  refine HBy.out.mono ?_
  rintro e w2 ⟨a2, k2, rfl, ho2, hb2⟩
  have B2 := Lib.hid (B0.out.trans (hb2.mono B0.out.size))
  have BX2 := Lib.hid (BX0.out.below hb2)
  have HY2 := Lib.hid ho2.yl
  have hl2 := BX2.out.1
  clear c0 c1 c2 ho2 hb2
  have c0 := fun o => (World.cell?_alloc_lt w2 o ⟨w.heap.size, 0, none⟩ hl2).trans BX2.out.2.1
  have c1 := fun o => (World.cell?_alloc_lt w2 o ⟨w.heap.size, 1, none⟩ hl2).trans BX2.out.2.2.1
  have c2 := fun o => (World.cell?_alloc_lt w2 o ⟨w.heap.size, 2, none⟩ hl2).trans BX2.out.2.2.2
  go_wp2_with fail
  have B3 := below_one w2 (.cells #[.int .i64 (H : Int), .slice a2 q k2] 45)
  have HB3 := Lib.hid (B2.out.trans (B3.mono B2.out.size))
  refine (HSf.out a2 k2 _ HB3.out (HY2.out.below B3)).mono ?_
  clear B3 c0 c1 c2
  generalize w2.alloc (.cells #[.int .i64 (H : Int), .slice a2 q k2] 45) = w3 at *
  rintro e w4 ⟨g4, k4, rfl, -, hb4⟩
  have HB4 := Lib.hid (HB3.out.trans (hb4.mono HB3.out.size))
  clear hb4
  go_wp2_with fail
  go_ret2
  exact ⟨_, rfl, by have := HVP.out.below HB4.out; simpa [bstP] using this, HB4.out⟩

set_option maxRecDepth 100000 in
set_option maxHeartbeats 16000000 in
theorem l10Best_step (q H : Nat) (P : List Int) (hq1 : 1 ≤ q) (hq5 : q ≤ 5) (h7 : P.length ≤ 7) (x : Int) (F : List (List Int) → Option (List Int × Nat)) (Y : List (List Int)) (vp : Value) (v : Value) (O : List Int) (hlt : O.length < P.length) (hr : ∀ x ∈ O, 0 ≤ x ∧ x < (q : Int))
    (hYl : Y.length = q) (hYr : ∀ k, k < q → Y[k]? = some ((rowZ O O.length k).map (ptZ P)))
    (ih : ∀ (k : Nat), k < q → ∀ (v0 u2 : Value) W, StR W (.agg #[.int .i64 (q : Int), .int .i64 (H : Int), v0]) (q : Int) (H : Int) P → IL W u2 (O ++ [(k : Int)]) → Calls Try.prog 15 #[.agg #[.int .i64 (q : Int), .int .i64 (H : Int), v0], u2] W (BsA W (O ++ [(k : Int)]) (F (putY Y k x))))
    (w : World) (h : StR w v (q : Int) (H : Int) P) (hvp : IL w vp O) :
    Calls Try.prog 15 #[v, vp] w (BsA w O (bstK H F x Y Y.length)) := by
    obtain ⟨v0, rfl, hv⟩ := h
    have HV := Lib.hid hv
    have HVP := Lib.hid hvp
    have BX0 := Lib.hid (Box3.new w (q : Int) (H : Int) v0 28)
    have B0 := Lib.hid (below_one w (.cells #[.int .i64 (q : Int), .int .i64 (H : Int), v0] 28))
    have HBy := Lib.hid (l10Bay_any (.agg #[.int .i64 (q : Int), .int .i64 (H : Int), v0]) vp q (H : Int) P O hq1 hq5 (by omega) hr _ ⟨v0, rfl, hv.below B0.out⟩ (hvp.below B0.out))
    unfold NewBd at HBy
    rw [bayZ_len] at HBy
    have HIH := Lib.hid (fun k hk => ih k hk v0)
    have HYl := Lib.hid hYl
    have HYr : Hid (∀ k, k < q → ∃ l l', (bayZ q O O.length)[k]? = some l ∧ Y[k]? = some l' ∧ l'.length = l.length ∧ l.length ≤ 7) := Lib.hid (fun k hk => ⟨_, _, bayZ_row hk _, hYr k hk, by simp, by have := rowZ_len O k O.length; omega⟩)
    rw [HYl.out]
    obtain ⟨Z, hZ⟩ : ∃ Z, bayZ q O O.length = Z := ⟨_, rfl⟩
    rw [hZ] at HBy HYr
    have HZl : Hid (Z.length = q) := Lib.hid (by rw [← hZ, bayZ_len])
    have HR0 : Hid (bstK H F x Y 0 = none) := Lib.hid rfl
    obtain ⟨a, c, rfl⟩ := hv.form
    obtain ⟨ap, cp, rfl⟩ := hvp.form
    obtain ⟨p, hp⟩ : ∃ p, P.length = p := ⟨_, rfl⟩
    rw [hp] at HV BX0 B0 HBy HIH ⊢
    have hne : ((O.length : Int) == (p : Int)) = false := beq_eq_false_iff_ne.2 (by omega)
    have hO7 : O.length ≤ 7 := by omega
    have c0 := BX0.out.2.1
    have c1 := BX0.out.2.2.1
    have c2 := BX0.out.2.2.2
    clear hv hvp hr hZ hlt hp ih
    go_enter Try.func15, Try.ntmps15
    go_wp2_with fail
    refine HBy.out.mono ?_
    rintro e w2 ⟨a2, k2, rfl, ho2, hb2⟩
    obtain ⟨g, cap, e⟩ := ho2.rows (by rw [HZl.out]; omega)
    injection e with e1 e2 e3
    subst e1 e3
    have B2 := Lib.hid (B0.out.trans (hb2.mono B0.out.size))
    have BX2 := Lib.hid (BX0.out.below hb2)
    have HY2 := Lib.hid ho2
    have hl2 := BX2.out.1
    clear c0 c1 c2 ho2 hb2 e2
    have c2 := fun o => (World.cell?_alloc_lt w2 o ⟨w.heap.size, 2, none⟩ hl2).trans BX2.out.2.2.2
    have BN := below_two w2 (.cells #[.int .i64 (H : Int), .slice (some ⟨g, 0, none⟩) q k2] 45) (.cells #[] 3)
    have HBx3 := Lib.hid ((Box2.new w2 (H : Int) (.slice (some ⟨g, 0, none⟩) q k2) 45).below (below_one _ (.cells #[] 3)))
    have HB3 := Lib.hid (B2.out.trans (BN.mono B2.out.size))
    have BX3 := Lib.hid (BX2.out.below BN)
    have HY3 := Lib.hid (HY2.out.below BN)
    have HV0 : Hid (IL ((w2.alloc (.cells #[.int .i64 (H : Int), .slice (some ⟨g, 0, none⟩) q k2] 45)).alloc (.cells #[] 3)) (.slice (some ⟨w2.heap.size + 1, 0, none⟩) 0 0) (bstP O none)) := Lib.hid (IL.nil _ _ _)
    clear BN
    go_wp2_with fail
    clear c2
    go_loopw [7, 8, 9] (fun vb m i wr => ∃ (k : Nat) (acc : Option (List Int × Nat)), k ≤ q ∧ i = .int .i64 k ∧ m = .int .i64 (bstC acc) ∧ Hid (bstK H F x Y k = acc) ∧ Hid (Box3 wr w.heap.size (q : Int) (H : Int) (.slice a p c)) ∧ Hid (Box2 wr w2.heap.size (H : Int) (.slice (some ⟨g, 0, none⟩) q k2)) ∧ Hid (OwnY wr (w.alloc (.cells #[.int .i64 (q : Int), .int .i64 (H : Int), .slice a p c] 28)).heap.size w2.heap.size (.slice (some ⟨g, 0, none⟩) q k2) Z) ∧ Hid (Below w.heap.size w wr) ∧ Hid (IL wr vb (bstP O acc))) (fun _ _ i _ => q - (intOf i).toNat)
    case atStart => exact ⟨0, none, Nat.zero_le _, rfl, rfl, HR0, BX3, HBx3, HY3, HB3, HV0⟩
    case round =>
      clear HV0 HR0 BX3 HBx3 HY3 HB3 BX2 B2 HY2 hl2
      obtain ⟨k, acc, hk, rfl, rfl, HAcc, HBox, HBay, HOY, HBr, HVb⟩ := hrel
      rename World => wr
      have a0 := HBox.out.2.1
      by_cases hlt : k < q
      · obtain ⟨l, l', hl, hl', hll, hl7⟩ := HYr.out k hlt
        obtain ⟨u, hu, -, hou, -⟩ := HOY.out.cell hl
        obtain ⟨a4, c4, rfl⟩ := own_form hou
        have a1 := HBox.out.2.2.1
        have d1 := HBay.out.2.2
        have hkI : (k : Int) < (q : Int) := by omega
        have HFull : Hid (l.length = H → bstK H F x Y (k + 1) = acc) := Lib.hid (fun e => by rw [bstK_full hl' (hll.trans e)]; exact HAcc.out)
        have HOpen : Hid (¬ l.length = H → bstK H F x Y (k + 1) = cmbB k acc (F (putY Y k x))) := Lib.hid (fun e => by rw [bstK_open hl' (fun e2 => e (hll.symm.trans e2)), HAcc.out])
        generalize l.length = m at *
        clear hl hl' hll hou
        by_cases hmH : m = H
        · have HE := Lib.hid (HFull.out hmH)
          have hmI : ((m : Int) == (H : Int)) = true := by simp; omega
          clear hmH
          go_wp2_with fail
          go_quiet (fail)
          have bq := below_drewN (Below.refl wr.heap.size wr) nq
          have HBox := Lib.hid (HBox.out.below bq)
          have HBay := Lib.hid (HBay.out.below bq)
          have HOY := Lib.hid (HOY.out.below bq)
          have HBr := Lib.hid (HBr.out.trans (bq.mono HBr.out.size))
          have HVb := Lib.hid (HVb.out.below bq)
          clear a0 a1 d1 hu bq
          generalize wr.drewN nq = w3 at *
          go_wp2_with fail
          exact ⟨⟨k + 1, acc, by omega, by go_num, rfl, HE, HBox, HBay, HOY, HBr, HVb⟩, by simp [intOf]; omega⟩
        · have HStep := Lib.hid (HOpen.out hmH)
          have hmI : ((m : Int) == (H : Int)) = false := beq_eq_false_iff_ne.2 (by omega)
          clear hmH
          go_wp2_with fail
          go_quiet (fail)
          have bq := below_drewN (Below.refl wr.heap.size wr) nq
          have HBox := Lib.hid (HBox.out.below bq)
          have HBay := Lib.hid (HBay.out.below bq)
          have HOY := Lib.hid (HOY.out.below bq)
          have HBr := Lib.hid (HBr.out.trans (bq.mono HBr.out.size))
          have HVb := Lib.hid (HVb.out.below bq)
          clear a0 a1 d1 hu bq
          generalize wr.drewN nq = w3 at *
          have cS := Lib.hid (fun W (hb : Below w3.heap.size w3 W) => (HBox.out.below hb).2)
          have HO1 := Lib.hid (fun W (hb : Below w3.heap.size w3 W) => l1Own_any (.slice ap O.length cp) O (by omega) W (HVP.out.below (HBr.out.trans (hb.mono HBr.out.size))))
          have HIH3 := Lib.hid (fun W (hb : Below w3.heap.size w3 W) (u2 : Value) (h4 : IL W u2 (O ++ [(k : Int)])) => HIH.out k hlt u2 W ⟨_, rfl, HV.out.below (HBr.out.trans (hb.mono HBr.out.size))⟩ h4)
          generalize F (putY Y k x) = r at *
          go_wp2_with fail
          go_cut [10, 11] from 42 to 51 (fun u8 m8 w8 => m8 = .int .i64 (bstC r) ∧ Hid (Below w3.heap.size w3 w8 ∧ IL w8 u8 (bstP (O ++ [(k : Int)]) r)))
          case first =>
            go_wp2_with fail
            refine wp_region_held_drew (S := fun W => W.cell? ⟨w.heap.size, 0, none⟩ = some (.int .i64 (q : Int)) ∧ W.cell? ⟨w.heap.size, 1, none⟩ = some (.int .i64 (H : Int)) ∧ W.cell? ⟨w.heap.size, 2, none⟩ = some (.slice a p c)) (by kernel_rfl) ?_ (fun hHeld => ?_)
            · exact cS.out _ (Below.refl w3.heap.size w3).drew
            refine (wpAnyH_take (i := 0) (v := ?_) rfl (by kernel_rfl) (by kernel_rfl) (by kernel_rfl) (fun _ _ _ h => h) (Or.inl ⟨by rfl, ?_⟩) (by assumption) ?_)
            rotate_left 1
            · (intro w hSw; (try dsimp only at hSw); (go_simp) <;> with_reducible rfl)
            try simp only [Act.put, List.setIfInBounds_toArray]
            refine (wpAnyH_take (i := 1) (v := ?_) rfl (by kernel_rfl) (by kernel_rfl) (by kernel_rfl) (fun _ _ _ h => h) (Or.inl ⟨by rfl, ?_⟩) (by assumption) ?_)
            rotate_left 1
            · (intro w hSw; (try dsimp only at hSw); (go_simp) <;> with_reducible rfl)
            try simp only [Act.put]
            refine (wpAnyH_take (i := 3) (v := ?_) rfl (by kernel_rfl) (by kernel_rfl) (by kernel_rfl) (fun _ _ _ h => h) (Or.inl ⟨by rfl, ?_⟩) (by assumption) ?_)
            rotate_left 1
            · (intro w hSw; (try dsimp only at hSw); (go_simp) <;> with_reducible rfl)
            try simp only [Act.put]
            refine wpAnyH_ready (rs := [2, 4]) (by kernel_rfl) (by simp) ?_
            refine AllReadyH.cons rfl (fun K hK => ?_) ?_
            · skip
              go_simp
              go_at_call 22
              refine (HO1.out w3.drew ((Below.refl w3.heap.size w3).drew : Below w3.heap.size w3 w3.drew)).mono ?_
              rintro e w6 ⟨a6, c6, rfl, ho6, hb6⟩
              have HB6 := Lib.hid ((((Below.refl w3.heap.size w3).drew : Below w3.heap.size w3 w3.drew)).trans (hb6.mono (((Below.refl w3.heap.size w3).drew : Below w3.heap.size w3 w3.drew)).size))
              have HR6 := Lib.hid (ho6.mono (base' := w3.heap.size) (((Below.refl w3.heap.size w3).drew : Below w3.heap.size w3 w3.drew)).size)
              refine hK.out _ _ ?_ (fun hNew => ?_)
              · (try dsimp only); exact cS.out _ HB6.out
              clear hK K hHeld
              have hHeld := hNew
              clear hNew
              refine wpAnyH_ready (rs := [4]) (by kernel_rfl) (by simp) ?_
              refine AllReadyH.cons rfl (fun K hK => ?_) ?_
              · go_simp
                have HBa := Lib.hid (HB6.out.trans ((below_one w6 (.cells #[.int .i64 (k : Int)] 3)).mono HB6.out.size))
                refine hK.out _ _ ?_ (fun hNew => ?_)
                · (try dsimp only); exact cS.out _ HBa.out
                clear hK K hHeld
                have hHeld := hNew
                clear hNew
                refine wpAnyH_ready (rs := [5]) (by kernel_rfl) (by simp) ?_
                refine AllReadyH.cons rfl (fun K hK => ?_) ?_
                · skip
                  refine step_int_at (by rfl) _ _ (by rfl) w3.heap.size _ O.length (intV O) (by rfl) (HR6.out.alloc (.cells #[.int .i64 (k : Int)] 3)) _ _ _ (by rfl) (cell_val_new _ _ _) (by simp [Value.oneCell']) (by omega) HBa.out.size ?_
                  intro v7 w7 ho7 hg7 hat7
                  have HB7 : Hid (Below w3.heap.size w3 w7) := Lib.hid ((HBa.out).grown hg7 (HBa.out).size (fun j e => by have := row_base HR6.out j e; omega))
                  have HI7 : Hid (IL w7 v7 (O ++ [(k : Int)])) := Lib.hid (il_of_owns (n := O.length + 1) (by simpa [intV] using ho7))
                  obtain ⟨a7, c7, rfl⟩ := own_form ho7
                  clear ho7 hg7 hat7
                  refine hK.out _ _ ?_ (fun hNew => ?_)
                  · (try dsimp only); exact cS.out _ HB7.out
                  clear hK K hHeld
                  have hHeld := hNew
                  clear hNew
                  refine wpAnyH_ready (rs := [6]) (by kernel_rfl) (by simp) ?_
                  refine AllReadyH.cons rfl (fun K hK => ?_) ?_
                  · go_simp
                    go_at_call 15
                    refine (HIH3.out w7 HB7.out _ HI7.out).mono ?_
                    rintro e w8 ⟨u8, rfl, hu8, hb8⟩
                    have HB8 := Lib.hid (HB7.out.trans (hb8.mono HB7.out.size))
                    have HU8 := Lib.hid hu8
                    clear hu8 hb8
                    refine hK.out _ _ ?_ (fun hNew => ?_)
                    · (try dsimp only); exact cS.out _ HB8.out
                    clear hK K hHeld
                    have hHeld := hNew
                    clear hNew
                    refine (wpAnyH_take (i := 7) (v := ?_) rfl (by kernel_rfl) (by kernel_rfl) (by kernel_rfl) (fun _ _ _ h => h) (Or.inl ⟨by rfl, ?_⟩) (by assumption) ?_)
                    rotate_left 1
                    · (intro w hSw; (try dsimp only at hSw); (go_simp) <;> with_reducible rfl)
                    try simp only [Act.put, List.setIfInBounds_toArray]
                    refine (wpAnyH_take (i := 8) (v := ?_) rfl (by kernel_rfl) (by kernel_rfl) (by kernel_rfl) (fun _ _ _ h => h) (Or.inl ⟨by rfl, ?_⟩) (by assumption) ?_)
                    rotate_left 1
                    · (intro w hSw; (try dsimp only at hSw); (go_simp) <;> with_reducible rfl)
                    try simp only [Act.put]
                    refine (wpAnyH_take (i := 9) (v := ?_) rfl (by kernel_rfl) (by kernel_rfl) (by kernel_rfl) (fun _ _ _ h => h) (Or.inl ⟨by rfl, ?_⟩) (by assumption) ?_)
                    rotate_left 1
                    · (intro w hSw; (try dsimp only at hSw); (go_simp) <;> with_reducible rfl)
                    try simp only [Act.put]
                    refine (wpAnyH_take (i := 10) (v := ?_) rfl (by kernel_rfl) (by kernel_rfl) (by kernel_rfl) (fun _ _ _ h => h) (Or.inl ⟨by rfl, ?_⟩) (by assumption) ?_)
                    rotate_left 1
                    · (intro w hSw; (try dsimp only at hSw); (go_simp) <;> with_reducible rfl)
                    try simp only [Act.put]
                    refine (wpAnyH_take (i := 11) (v := ?_) rfl (by kernel_rfl) (by kernel_rfl) (by kernel_rfl) (fun _ _ _ h => h) (Or.inl ⟨by rfl, ?_⟩) (by assumption) ?_)
                    rotate_left 1
                    · (intro w hSw; (try dsimp only at hSw); (go_simp) <;> with_reducible rfl)
                    try simp only [Act.put]
                    refine wpAnyH_done (by kernel_rfl) ?_ _
                    clear hHeld
                    go_simp
                    go_wp2_with fail
                    go_meet
                    exact ⟨rfl, Lib.hid ⟨HB8.out, HU8.out⟩⟩
                  exact AllReadyH.nil
                exact AllReadyH.nil
              exact AllReadyH.nil
            refine AllReadyH.cons rfl (fun K hK => ?_) ?_
            · go_simp
              have HBb : Hid (Below w3.heap.size w3 (w3.drew.alloc (.cells #[.int .i64 (k : Int)] 3))) := Lib.hid (((Below.refl w3.heap.size w3).drew).alloc (Nat.le_refl _) (.cells #[.int .i64 (k : Int)] 3) : Below w3.heap.size w3 (w3.drew.alloc (.cells #[.int .i64 (k : Int)] 3)))
              refine hK.out _ _ ?_ (fun hNew => ?_)
              · (try dsimp only); exact cS.out _ HBb.out
              clear hK K hHeld
              have hHeld := hNew
              clear hNew
              refine wpAnyH_ready (rs := [2]) (by kernel_rfl) (by simp) ?_
              refine AllReadyH.cons rfl (fun K hK => ?_) ?_
              · skip
                go_simp
                go_at_call 22
                refine (HO1.out (w3.drew.alloc (.cells #[.int .i64 (k : Int)] 3)) HBb.out).mono ?_
                rintro e w6 ⟨a6, c6, rfl, ho6, hb6⟩
                have HB6 := Lib.hid ((HBb.out).trans (hb6.mono (HBb.out).size))
                have HR6 := Lib.hid (ho6.mono (base' := w3.heap.size) (HBb.out).size)
                have HNw := Lib.hid (fun (jj : Nat) (y : Value) (hy : ([.int .i64 (k : Int)] : List Value)[jj]? = some y) => show w6.cell? ((⟨w3.drew.heap.size, 0, none⟩ : Addr).add jj) = some y from by
                    have h1 := cell_val_new w3.drew (.int .i64 (k : Int)) 3 jj y hy
                    rw [addr_add] at h1 ⊢
                    exact (hb6.cell (p := ⟨w3.drew.heap.size, 0 + jj, none⟩) (by show w3.drew.heap.size < (w3.drew.alloc _).heap.size; rw [World.size_alloc]; exact Nat.lt_succ_self _)).trans h1)
                refine hK.out _ _ ?_ (fun hNew => ?_)
                · (try dsimp only); exact cS.out _ HB6.out
                clear hK K hHeld
                have hHeld := hNew
                clear hNew
                refine wpAnyH_ready (rs := [5]) (by kernel_rfl) (by simp) ?_
                refine AllReadyH.cons rfl (fun K hK => ?_) ?_
                · skip
                  refine step_int_at (by rfl) _ _ (by rfl) w3.heap.size _ O.length (intV O) (by rfl) HR6.out _ _ _ (by rfl) HNw.out (by simp [Value.oneCell']) (by omega) HB6.out.size ?_
                  intro v7 w7 ho7 hg7 hat7
                  have HB7 : Hid (Below w3.heap.size w3 w7) := Lib.hid ((HB6.out).grown hg7 (HB6.out).size (fun j e => by have := row_base HR6.out j e; omega))
                  have HI7 : Hid (IL w7 v7 (O ++ [(k : Int)])) := Lib.hid (il_of_owns (n := O.length + 1) (by simpa [intV] using ho7))
                  obtain ⟨a7, c7, rfl⟩ := own_form ho7
                  clear ho7 hg7 hat7
                  refine hK.out _ _ ?_ (fun hNew => ?_)
                  · (try dsimp only); exact cS.out _ HB7.out
                  clear hK K hHeld
                  have hHeld := hNew
                  clear hNew
                  refine wpAnyH_ready (rs := [6]) (by kernel_rfl) (by simp) ?_
                  refine AllReadyH.cons rfl (fun K hK => ?_) ?_
                  · go_simp
                    go_at_call 15
                    refine (HIH3.out w7 HB7.out _ HI7.out).mono ?_
                    rintro e w8 ⟨u8, rfl, hu8, hb8⟩
                    have HB8 := Lib.hid (HB7.out.trans (hb8.mono HB7.out.size))
                    have HU8 := Lib.hid hu8
                    clear hu8 hb8
                    refine hK.out _ _ ?_ (fun hNew => ?_)
                    · (try dsimp only); exact cS.out _ HB8.out
                    clear hK K hHeld
                    have hHeld := hNew
                    clear hNew
                    refine (wpAnyH_take (i := 7) (v := ?_) rfl (by kernel_rfl) (by kernel_rfl) (by kernel_rfl) (fun _ _ _ h => h) (Or.inl ⟨by rfl, ?_⟩) (by assumption) ?_)
                    rotate_left 1
                    · (intro w hSw; (try dsimp only at hSw); (go_simp) <;> with_reducible rfl)
                    try simp only [Act.put, List.setIfInBounds_toArray]
                    refine (wpAnyH_take (i := 8) (v := ?_) rfl (by kernel_rfl) (by kernel_rfl) (by kernel_rfl) (fun _ _ _ h => h) (Or.inl ⟨by rfl, ?_⟩) (by assumption) ?_)
                    rotate_left 1
                    · (intro w hSw; (try dsimp only at hSw); (go_simp) <;> with_reducible rfl)
                    try simp only [Act.put]
                    refine (wpAnyH_take (i := 9) (v := ?_) rfl (by kernel_rfl) (by kernel_rfl) (by kernel_rfl) (fun _ _ _ h => h) (Or.inl ⟨by rfl, ?_⟩) (by assumption) ?_)
                    rotate_left 1
                    · (intro w hSw; (try dsimp only at hSw); (go_simp) <;> with_reducible rfl)
                    try simp only [Act.put]
                    refine (wpAnyH_take (i := 10) (v := ?_) rfl (by kernel_rfl) (by kernel_rfl) (by kernel_rfl) (fun _ _ _ h => h) (Or.inl ⟨by rfl, ?_⟩) (by assumption) ?_)
                    rotate_left 1
                    · (intro w hSw; (try dsimp only at hSw); (go_simp) <;> with_reducible rfl)
                    try simp only [Act.put]
                    refine (wpAnyH_take (i := 11) (v := ?_) rfl (by kernel_rfl) (by kernel_rfl) (by kernel_rfl) (fun _ _ _ h => h) (Or.inl ⟨by rfl, ?_⟩) (by assumption) ?_)
                    rotate_left 1
                    · (intro w hSw; (try dsimp only at hSw); (go_simp) <;> with_reducible rfl)
                    try simp only [Act.put]
                    refine wpAnyH_done (by kernel_rfl) ?_ _
                    clear hHeld
                    go_simp
                    go_wp2_with fail
                    go_meet
                    exact ⟨rfl, Lib.hid ⟨HB8.out, HU8.out⟩⟩
                  exact AllReadyH.nil
                exact AllReadyH.nil
              exact AllReadyH.nil
            exact AllReadyH.nil
          case rest =>
            obtain ⟨rfl, HP8⟩ := hcut
            rename World => w8
            have HBox := Lib.hid (HBox.out.below HP8.out.1)
            have HBay := Lib.hid (HBay.out.below HP8.out.1)
            have HOY := Lib.hid (HOY.out.below HP8.out.1)
            have HBr := Lib.hid (HBr.out.trans (HP8.out.1.mono HBr.out.size))
            have HVb := Lib.hid (HVb.out.below HP8.out.1)
            have HU8 := Lib.hid HP8.out.2
            cases hr : r with
            | none =>
              have hn0 : decide ((0 : Int) ≤ (-1 : Int)) = false := by decide
              have HE : Hid (bstK H F x Y (k + 1) = acc) := Lib.hid (by rw [HStep.out, hr]; rfl)
              rw [show bstC none = -1 from rfl]
              clear hr
              go_wp2_with fail
              exact ⟨⟨k + 1, acc, by omega, by go_num, rfl, HE, HBox, HBay, HOY, HBr, HVb⟩, by simp [intOf]; omega⟩
            | some pc =>
              obtain ⟨pp, cc⟩ := pc
              rw [hr] at HU8
              rw [show bstC (some (pp, cc)) = (cc : Int) from rfl]
              have hn0 : decide ((0 : Int) ≤ (cc : Int)) = true := by simp
              have e9 : bstP (O ++ [(k : Int)]) (some (pp, cc)) = bstP O (some ((k : Int) :: pp, cc)) := by simp [bstP]
              have HU9 := HU8
              rw [e9] at HU9
              clear e9
              cases acc with
              | none =>
                have hl0 : decide ((-1 : Int) < 0) = true := by decide
                have HE : Hid (bstK H F x Y (k + 1) = some ((k : Int) :: pp, cc)) := Lib.hid (by rw [HStep.out, hr]; rfl)
                rw [show bstC none = -1 from rfl]
                clear hr
                go_wp2_with fail
                exact ⟨⟨k + 1, _, by omega, by go_num, rfl, HE, HBox, HBay, HOY, HBr, HU9⟩, by simp [intOf]; omega⟩
              | some qd =>
                obtain ⟨qq, dd⟩ := qd
                rw [show bstC (some (qq, dd)) = (dd : Int) from rfl]
                have hl0 : decide ((dd : Int) < 0) = false := by rw [decide_eq_false_iff_not]; omega
                by_cases hcd : cc < dd
                · have HE : Hid (bstK H F x Y (k + 1) = some ((k : Int) :: pp, cc)) := Lib.hid (by rw [HStep.out, hr]; simp [cmbB, hcd])
                  have hci : decide ((cc : Int) < (dd : Int)) = true := by simpa using hcd
                  clear hr
                  go_wp2_with fail
                  exact ⟨⟨k + 1, _, by omega, by go_num, rfl, HE, HBox, HBay, HOY, HBr, HU9⟩, by simp [intOf]; omega⟩
                · have HE : Hid (bstK H F x Y (k + 1) = some (qq, dd)) := Lib.hid (by rw [HStep.out, hr]; simp [cmbB, hcd])
                  have hci : decide ((cc : Int) < (dd : Int)) = false := by simpa using hcd
                  clear hr
                  go_wp2_with fail
                  exact ⟨⟨k + 1, _, by omega, by go_num, rfl, HE, HBox, HBay, HOY, HBr, HVb⟩, by simp [intOf]; omega⟩
      · obtain rfl : k = q := by omega
        go_wp2_with fail
        go_ret2
        exact ⟨_, by rw [HAcc.out]; rfl, by rw [HAcc.out]; exact HVb.out, HBr.out⟩
set_option maxRecDepth 100000 in
set_option maxHeartbeats 16000000 in
theorem l10Best_any (q H : Nat) (P : List Int) (hq1 : 1 ≤ q) (hq5 : q ≤ 5) (h7 : P.length ≤ 7) (hP9 : ∀ i, P.getD i 0 ≤ 9) : ∀ (L : List Int) (v vp : Value) (O : List Int), P.drop O.length = L → O.length ≤ P.length → (∀ x ∈ O, 0 ≤ x ∧ x < (q : Int)) → ∀ w : World, StR w v (q : Int) (H : Int) P → IL w vp O →
    Calls Try.prog 15 #[v, vp] w (BsA w O (bst H L (prY q P O O.length)))
  | [], v, vp, O, hd, hl, hr, w, h, hvp => l10Best_leaf q H P hq1 hq5 h7 hP9 v vp O (by have := congrArg List.length hd; simp at this; omega) hr w h hvp
  | x :: L, v, vp, O, hd, hl, hr, w, h, hvp => by
    have hlt : O.length < P.length := by have := congrArg List.length hd; simp at this; omega
    have hxP : P[O.length]? = some x := by have := congrArg (fun l => l[0]?) hd; simpa using this
    have hdL : P.drop (O.length + 1) = L := by rw [← List.drop_drop, hd]; rfl
    rw [bst_cons]
    refine l10Best_step q H P hq1 hq5 h7 x (bst H L) (prY q P O O.length) vp v O hlt hr (prY_len _ _ _ _) (fun k hk => prY_row hk _) (fun k hk v0 u2 W h1 h2 => ?_) w h hvp
    have e : (O ++ [(k : Int)]).length = O.length + 1 := by simp
    have := l10Best_any q H P hq1 hq5 h7 hP9 L (.agg #[.int .i64 (q : Int), .int .i64 (H : Int), v0]) u2 (O ++ [(k : Int)]) (by rw [e]; exact hdL) (by rw [e]; omega) (fun y hy => by
      rw [List.mem_append] at hy
      rcases hy with hy | hy
      · exact hr y hy
      · rw [List.mem_singleton] at hy; omega) W h1 h2
    rw [e, prY_snoc hxP] at this
    exact this

set_option maxRecDepth 100000 in
set_option maxHeartbeats 4000000 in
theorem specBs_any (v : Value) (r h : Int) (P : List Int) (hn : P.length ≤ 1048576) (w : World) (hv : StR w v r h P) :
    Calls Try.prog 5 #[v] w (SeenLX w (bsR r h P) (bsX r h P) (goodZ r h P)) := by
  obtain ⟨v0, rfl, hv⟩ := hv
  have B0 := Lib.hid (below_one w (.cells #[.int .i64 r, .int .i64 h, v0] 28))
  have BA := Lib.hid (Box3.new w r h v0 28)
  have HF := Lib.hid (goodZ_spec (.agg #[.int .i64 r, .int .i64 h, v0]) r h P hn _ ⟨v0, rfl, hv.below B0.out⟩)
  have HV := Lib.hid hv
  obtain ⟨p, hp⟩ : ∃ p, P.length = p := ⟨_, rfl⟩
  have HP := Lib.hid hp
  obtain ⟨a, c, rfl⟩ := hv.form
  rw [hp] at hn B0 BA HF HV ⊢
  have c0 := BA.out.2.1
  have c1 := BA.out.2.2.1
  have c2 := BA.out.2.2.2
  clear hv hp
  cases hg : goodZ r h P with
  | false =>
    have HX := Lib.hid (bs_no hg)
    rw [hg] at HF
    clear hg
    go_enter Try.func5, Try.ntmps5
    go_wp2_with fail
    refine HF.out.mono ?_
    rintro e w1 ⟨rfl, hb⟩
    have B1 := Lib.hid (B0.out.trans (hb.mono B0.out.size))
    clear hb c0 c1 c2
    have hb2 := below_one w1 (.cells #[] 3)
    have B2 := Lib.hid (B1.out.trans (hb2.mono B1.out.size))
    clear hb2
    go_wp2_with fail
    go_ret3
    rw [HX.out.1, HX.out.2]
    exact ⟨_, _, rfl, IL.nil _ _ _, B2.out⟩
  | true =>
    rw [hg] at HF
    obtain ⟨g1, g2, g3, g4, g5, g6, g7⟩ := goodZ_iff.1 hg
    obtain ⟨pl, cc, b1, b2, b3, b4⟩ := bs_yes hg
    obtain ⟨q, rfl⟩ : ∃ q : Nat, r = (q : Int) := ⟨r.toNat, by omega⟩
    obtain ⟨H, rfl⟩ : ∃ H : Nat, h = (H : Int) := ⟨h.toNat, by omega⟩
    have hP9 : ∀ i, P.getD i 0 ≤ 9 := fun i => by
      rcases Nat.lt_or_ge i P.length with hi | hi
      · rw [List.getD, List.getElem?_eq_getElem hi]
        exact (g7 _ (List.getElem_mem hi)).2
      · rw [List.getD, List.getElem?_eq_none hi]; decide
    have HX := Lib.hid (And.intro b2 b3)
    have HBs : Hid (∀ u W, Below w.heap.size w W → IL W u [] → Calls Try.prog 15 #[.agg #[.int .i64 (q : Int), .int .i64 (H : Int), .slice a p c], u] W (BsA W [] (some (pl, cc)))) := Lib.hid (fun u W hb hu => by
      have := l10Best_any q H P (by omega) (by omega) g5 hP9 P (.agg #[.int .i64 (q : Int), .int .i64 (H : Int), .slice a p c]) u [] rfl (Nat.zero_le _) (by simp) W ⟨_, rfl, HV.out.below hb⟩ hu
      unfold bsO at b1
      rw [Int.toNat_natCast, Int.toNat_natCast] at b1
      rw [show prY q P [] ([] : List Int).length = List.replicate q [] from rfl, b1] at this
      exact this)
    unfold BsA at HBs
    rw [show bstC (some (pl, cc)) = (cc : Int) from rfl, show bstP [] (some (pl, cc)) = pl from rfl] at HBs
    clear hg g1 g2 g3 g4 g5 g6 g7 b1 b2 b3 b4 hP9
    go_enter Try.func5, Try.ntmps5
    go_wp2_with fail
    refine HF.out.mono ?_
    rintro e w1 ⟨rfl, hb⟩
    have B1 := Lib.hid (B0.out.trans (hb.mono B0.out.size))
    have BA1 := Lib.hid (BA.out.below hb)
    clear hb c0 c1 c2
    have c0 := BA1.out.2.1
    have c1 := BA1.out.2.2.1
    have c2 := BA1.out.2.2.2
    have hb2 := below_one w1 (.cells #[] 3)
    have B2 := Lib.hid (B1.out.trans (hb2.mono B1.out.size))
    clear hb2
    go_wp2_with fail
    refine (HBs.out _ _ B2.out (IL.nil _ _ _)).mono ?_
    rintro e w3 ⟨u, rfl, hu, hb⟩
    have B3 := Lib.hid (B2.out.trans (hb.mono B2.out.size))
    have HU := Lib.hid hu
    obtain ⟨au, cu, rfl⟩ := hu.form
    clear hb hu c0 c1 c2
    go_wp2_with fail
    go_ret3
    rw [HX.out.1, HX.out.2]
    exact ⟨_, _, rfl, HU.out, B3.out⟩
end Go.Proofs.Ytjplbcfpbggnnaa
