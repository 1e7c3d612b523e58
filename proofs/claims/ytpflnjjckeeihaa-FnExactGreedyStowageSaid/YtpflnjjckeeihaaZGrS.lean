/-
  What spec.GreedyStowage returns. No statement of the seat by itself.
-/
import Derived.Test.YtpflnjjckeeihaaZGrF
import Derived.Test.YtpflnjjckeeihaaZShS
import Derived.Test.YtpflnjjckeeihaaZV
import Derived.Test.YtpflnjjckeeihaaClone
import Derived.Deep.RegionHeldLaw
import Derived.Deep.CutRange
import Derived.BigQuiet
namespace Go.Proofs.Ytpflnjjckeeihaa
open Go.RowKit

/-- While the reference's rule goes on: the stowage's box, the plan. -/
def GsZ (w wr : World) (r h : Int) (v0 sv : Value) (O : List Int) : Prop :=
  wr.heap[w.heap.size]? = some (.cells #[.int .i64 r, .int .i64 h, v0] 26 (0, 0)) ∧ wr.ownsRow (w.heap.size + 1) 3 1 sv O.length (intV O) ∧ Below w.heap.size w wr
theorem GsZ.below {w wr w' : World} {r h : Int} {v0 sv : Value} {O : List Int} (z : GsZ w wr r h v0 sv O) (hb : Below wr.heap.size wr w') : GsZ w w' r h v0 sv O :=
  ⟨(hb.block _ (mem_lt z.1)).trans z.1, row_below z.2.1 hb, z.2.2.trans (hb.mono z.2.2.size)⟩
theorem GsZ.push {w wr w5 : World} {r h : Int} {v0 sv v' : Value} {i : Nat} {O : List Int} {x : Int} {o : Obj} (z : GsZ w wr r h v0 sv O) (hi : O.length = i)
    (ho : w5.ownsRow (w.heap.size + 1) 3 1 v' (i + 1) (intV O ++ [.int .i64 x])) (hg : (wr.alloc o).grownBy w5 sv.ownBlock) : GsZ w w5 r h v0 v' (O ++ [x]) := by
  have e : intV O ++ [.int .i64 x] = intV (O ++ [x]) := by simp [intV]
  have em : i + 1 = (O ++ [x]).length := by simp [hi]
  rw [e, em] at ho
  have hxb : ∀ b, sv.ownBlock = some b → w.heap.size + 1 ≤ b := fun b hb => row_base z.2.1 b hb
  have hb := below_one wr o
  have hl := mem_lt z.1
  have hsz := hb.size
  refine ⟨(hg.block _ (by omega) (fun e => by have := hxb _ e.symm; omega)).trans ((hb.block _ hl).trans z.1), ho, (z.2.2.trans (hb.mono z.2.2.size)).grown hg (by have := z.2.2.size; omega) (fun b hb => by have := hxb b hb; omega)⟩

/-- The rows from j on were looked at, the last one first. -/
def DnI (p : Nat → Bool) (q j : Nat) (c : Int) : Prop := (c = -1 ∧ ∀ t, j ≤ t → t < q → p t = false) ∨ ∃ k : Nat, c = (k : Int) ∧ j ≤ k ∧ k < q ∧ p k = true ∧ ∀ t, j ≤ t → t < k → p t = false
theorem DnI.start (p : Nat → Bool) (q : Nat) : DnI p q q (-1) := .inl ⟨rfl, fun t h1 h2 => by omega⟩
theorem DnI.yes {p : Nat → Bool} {q j : Nat} (h : p j = true) (hj : j < q) : DnI p q j (j : Int) := .inr ⟨j, rfl, Nat.le_refl _, hj, h, fun t h1 h2 => by omega⟩
theorem DnI.no {p : Nat → Bool} {q j : Nat} {c : Int} (h : p j = false) (g : DnI p q (j + 1) c) : DnI p q j c := by
  rcases g with ⟨h1, h2⟩ | ⟨k, h1, h2, h3, h4, h5⟩
  · exact .inl ⟨h1, fun t ht1 ht2 => by
      by_cases e : t = j
      · rw [e]; exact h
      · exact h2 t (by omega) ht2⟩
  · exact .inr ⟨k, h1, by omega, h3, h4, fun t ht1 ht2 => by
      by_cases e : t = j
      · rw [e]; exact h
      · exact h5 t (by omega) ht2⟩
/-- The rows below t were looked at for room. -/
def UpI (p1 p2 : Nat → Bool) (q t : Nat) (c : Int) : Prop := (∃ k : Nat, c = (k : Int) ∧ GrP p1 p2 q k) ∨ (c = -1 ∧ (∀ j, j < q → p1 j = false) ∧ ∀ j, j < t → p2 j = false)
theorem DnI.up {p1 p2 : Nat → Bool} {q : Nat} {c : Int} (g : DnI p1 q 0 c) : UpI p1 p2 q 0 c := by
  rcases g with ⟨h1, h2⟩ | ⟨k, h1, h2, h3, h4, h5⟩
  · exact .inr ⟨h1, fun j hj => h2 j (Nat.zero_le _) hj, fun j hj => by omega⟩
  · exact .inl ⟨k, h1, h3, .inl ⟨h4, fun t ht => h5 t (Nat.zero_le _) ht⟩⟩
/-- A row of the rule as a row of containers. -/
theorem gr_row {q H : Nat} {P : List Int} {i j : Nat} (hj : j < q) : (grY q H P i).getD j [] = (rowZ (grO q H P i) i j).map (ptZ P) := by
  have := prY_row (q := q) (P := P) (O := grO q H P i) hj i
  unfold grY
  rw [List.getD, this]
  rfl

set_option maxRecDepth 100000 in
set_option maxHeartbeats 16000000 in
theorem specGr_any (v : Value) (r h : Int) (P : List Int) (hn : P.length ≤ 1048576) (w : World) (hv : StR w v r h P) :
    Calls Try.prog 22 #[v] w (SeenLX w (grR r h P) (grX r h P) (goodZ r h P)) := by
  obtain ⟨f3, hi3, hz0, hz1, hz2⟩ := info_is info3
  obtain ⟨v0, rfl, hv⟩ := hv
  have HA := Lib.hid (heap_alloc_new w (.cells #[.int .i64 r, .int .i64 h, v0] 26))
  have B0 := Lib.hid (below_one w (.cells #[.int .i64 r, .int .i64 h, v0] 26))
  have HV := Lib.hid hv
  have c0 := cell_of (i := 0) HA.out rfl
  have c1 := cell_of (i := 1) HA.out rfl
  have c2 := cell_of (i := 2) HA.out rfl
  have d0 := fun o => (World.cell?_alloc_lt (w.alloc (.cells #[.int .i64 r, .int .i64 h, v0] 26)) o ⟨w.heap.size, 0, none⟩ (by simp)).trans c0
  have d1 := fun o => (World.cell?_alloc_lt (w.alloc (.cells #[.int .i64 r, .int .i64 h, v0] 26)) o ⟨w.heap.size, 1, none⟩ (by simp)).trans c1
  have d2 := fun o => (World.cell?_alloc_lt (w.alloc (.cells #[.int .i64 r, .int .i64 h, v0] 26)) o ⟨w.heap.size, 2, none⟩ (by simp)).trans c2
  have B1 := Lib.hid (B0.out.trans ((below_one (w.alloc (.cells #[.int .i64 r, .int .i64 h, v0] 26)) (.cells #[] 3)).mono B0.out.size))
  have HF := Lib.hid (goodZ_spec (.agg #[.int .i64 r, .int .i64 h, v0]) r h P hn _ ⟨v0, rfl, hv.below B1.out⟩)
  have HE := Lib.hid (show ((w.alloc (.cells #[.int .i64 r, .int .i64 h, v0] 26)).alloc (.cells #[] 3)).ownsRow (w.heap.size + 1) 3 1 (.slice (some ⟨w.heap.size + 1, 0, none⟩) 0 0) 0 (intV []) by
    have := own_empty (w.alloc (.cells #[.int .i64 r, .int .i64 h, v0] 26)) (.cells #[] 3) 3 rfl
    rw [show (w.alloc (.cells #[.int .i64 r, .int .i64 h, v0] 26)).heap.size = w.heap.size + 1 by simp] at this
    exact this)
  have HA2 := Lib.hid ((heap_alloc_old (w.alloc (.cells #[.int .i64 r, .int .i64 h, v0] 26)) (.cells #[] 3) w.heap.size (by simp)).trans HA.out)
  obtain ⟨a, cc, rfl⟩ := hv.form
  clear hv
  cases hg : goodZ r h P with
  | false =>
    have HX := Lib.hid (gr_no hg)
    rw [hg] at HF
    clear hg
    go_enter Try.func22, Try.ntmps22
    go_wp2_with fail
    refine HF.out.mono ?_
    rintro e w1 ⟨rfl, hb⟩
    have B2 := Lib.hid (B1.out.trans (hb.mono B1.out.size))
    clear hb c0 c1 c2 d0 d1 d2
    go_wp2_with fail
    go_ret3
    rw [HX.out.1, HX.out.2]
    exact ⟨_, _, rfl, IL.nil _ _ _, B2.out⟩
  | true =>
    rw [hg] at HF
    obtain ⟨g1, g2, g3, g4, g5, g6, g7⟩ := goodZ_iff.1 hg
    obtain ⟨q, rfl⟩ : ∃ q : Nat, r = (q : Int) := ⟨r.toNat, by omega⟩
    obtain ⟨H, rfl⟩ : ∃ H : Nat, h = (H : Int) := ⟨h.toNat, by omega⟩
    have hq1 : 1 ≤ q := by omega
    have hq5 : q ≤ 5 := by omega
    have hH4 : H ≤ 4 := by omega
    have h6 : P.length ≤ q * H := by
      have : ((q * H : Nat) : Int) = (q : Int) * (H : Int) := Int.natCast_mul q H
      omega
    have HP9 := Lib.hid g7
    have HX := Lib.hid (gr_yes hg)
    have HI := Lib.hid (GrI.all (q := q) (H := H) (P := P) h6)
    obtain ⟨n, hnP⟩ : ∃ n, P.length = n := ⟨_, rfl⟩
    have HN := Lib.hid hnP
    rw [hnP] at HF HV HA HA2 B0 B1 HE hn c0 c1 c2 d0 d1 d2 g5 h6 HI HX ⊢
    have hsub : IntKind.i64.wrap ((q : Int) - 1) = (q : Int) - 1 := by rw [IntKind.wrap_i64]; omega
    clear hg g1 g2 g3 g4 g6 g7 hnP
    go_enter Try.func22, Try.ntmps22
    go_wp2_with fail
    refine HF.out.mono ?_
    rintro e w1 ⟨rfl, hb⟩
    have HSt : Hid (GsZ w w1 (q : Int) (H : Int) (.slice a n cc) (.slice (some ⟨w.heap.size + 1, 0, none⟩) 0 0) (grO q H P 0)) := Lib.hid ⟨(hb.block _ (mem_lt HA2.out)).trans HA2.out, row_below HE.out hb, B1.out.trans (hb.mono B1.out.size)⟩
    clear hb c0 c1 c2 d0 d1 d2
    go_wp2_with fail
    go_loopw [5, 6] (fun x5 x6 wr => ∃ (i : Nat) (a5 : Option Addr) (c5 : Nat), i ≤ n ∧ x6 = .int .i64 i ∧ x5 = .slice a5 i c5 ∧ Hid (GsZ w wr (q : Int) (H : Int) (.slice a n cc) (.slice a5 i c5) (grO q H P i))) (fun _ x6 _ => n - (intOf x6).toNat)
    case atStart => exact ⟨0, _, _, Nat.zero_le _, rfl, rfl, HSt⟩
    case round =>
      obtain ⟨i, a5, c5, hi, rfl, rfl, HZ⟩ := hrel
      have e0 := cell_of (i := 0) HZ.out.1 rfl
      have e1 := cell_of (i := 1) HZ.out.1 rfl
      have e2 := cell_of (i := 2) HZ.out.1 rfl
      have HIi := Lib.hid (HI.out i (by have := HN.out; omega))
      have hO7 : (grO q H P i).length ≤ 7 := by rw [grO_len]; omega
      have HPl : Hid (IL wr (.slice a5 i c5) (grO q H P i)) := Lib.hid (il_of_owns HZ.out.2.1)
      have HSR : Hid (StR wr (.agg #[.int .i64 (q : Int), .int .i64 (H : Int), .slice a n cc]) (q : Int) (H : Int) P) := Lib.hid ⟨_, rfl, HV.out.below HZ.out.2.2⟩
      by_cases hlt : i < n
      · have HBy := Lib.hid (l10Bay_any (.agg #[.int .i64 (q : Int), .int .i64 (H : Int), .slice a n cc]) (.slice a5 i c5) q (H : Int) P (grO q H P i) hq1 hq5 hO7 HIi.out.ran wr HSR.out HPl.out)
        unfold NewBd at HBy
        rw [bayZ_len, grO_len] at HBy
        clear hO7
        go_wp2_with fail
        refine HBy.out.mono ?_
        rintro e w3 ⟨a2, k2, rfl, ho2, hb2⟩
        have Z3 := Lib.hid (HZ.out.below hb2)
        have HY3 := Lib.hid ho2.yl
        have hl3 := mem_lt Z3.out.1
        clear e0 e1 e2 ho2 hb2
        have e0 := fun o => (World.cell?_alloc_lt w3 o ⟨w.heap.size, 0, none⟩ hl3).trans (cell_of (i := 0) Z3.out.1 rfl)
        have Z4 := Lib.hid (Z3.out.below (below_one w3 (.cells #[.int .i64 (H : Int), .slice a2 q k2] 37)))
        have BX4 := Lib.hid (Box2.new w3 (H : Int) (.slice a2 q k2) 37)
        have HY4 := Lib.hid (HY3.out.below (below_one w3 (.cells #[.int .i64 (H : Int), .slice a2 q k2] 37)))
        go_wp2_with fail
        generalize w3.alloc (.cells #[.int .i64 (H : Int), .slice a2 q k2] 37) = w4 at *
        clear e0 hl3
        obtain ⟨gp, offp, rfl, hgp, hcp⟩ : ∃ go offo, a = some ⟨go, offo, none⟩ ∧ go < w.heap.size ∧ ∀ i x, P[i]? = some x → w.cell? ⟨go, offo + i, none⟩ = some (.int .i64 x) := by
          obtain ⟨a', c', e, hh⟩ := HV.out
          injection e with e1 e2 e3
          subst e1
          exact hh (by have := HN.out; omega)
        obtain ⟨x, hx⟩ := get_at HN.out hlt
        have HPx := Lib.hid ((Z4.out.2.2.cell (p := ⟨gp, offp + i, none⟩) hgp).trans (hcp i x hx))
        have hgp4 : gp < w4.heap.size := Nat.lt_of_lt_of_le hgp Z4.out.2.2.size
        have hx9 := HP9.out x (List.mem_of_getElem? hx)
        have HSl : Hid (∃ gs offs, a2 = some ⟨gs, offs, none⟩ ∧ gs < w4.heap.size ∧ ∀ j l, (bayZ q (grO q H P i) i)[j]? = some l → ∃ u, w4.cell? ⟨gs, offs + j, none⟩ = some u ∧ IL w4 u l) := Lib.hid (by
          obtain ⟨a', c', e, hh⟩ := HY4.out
          injection e with e1 e2 e3
          subst e1
          exact hh (by rw [bayZ_len]; omega))
        obtain ⟨gs, offs, rfl, hgs, hrows⟩ := HSl.out
        have HRows := Lib.hid hrows
        obtain ⟨k, hk, hkK, hkq, -, -, -⟩ := HIi.out.pick (by omega) x
        have HK := Lib.hid hk
        have HOn : Hid (grO q H P (i + 1) = grO q H P i ++ [(k : Int)]) := Lib.hid (by
          have hd : P.getD i 0 = x := by simp [List.getD, hx]
          have e2 : grK H (prY q P (grO q H P i) i) x = k := hkK
          rw [grO, hd, e2])
        have HG1 : Hid (∀ j, j < q → gr1 H (grY q H P i) x j = (decide ((rowZ (grO q H P i) i j).length < H) && decide (x ≤ earL ((rowZ (grO q H P i) i j).map (ptZ P))))) := Lib.hid fun j hj => by unfold gr1; rw [gr_row hj, List.length_map]
        have HG2 : Hid (∀ j, j < q → gr2 H (grY q H P i) j = decide ((rowZ (grO q H P i) i j).length < H)) := Lib.hid fun j hj => by unfold gr2; rw [gr_row hj, List.length_map]
        clear hrows hk hkK hcp hx HSl
        go_loopw [8, 9] (fun x8 x9 wr => ∃ (j : Nat) (c y : Int), j ≤ q ∧ y = (j : Int) - 1 ∧ x9 = .int .i64 y ∧ x8 = .int .i64 c ∧ Hid (DnI (gr1 H (grY q H P i) x) q j c) ∧ Hid (Below w4.heap.size w4 wr)) (fun _ x9 _ => (intOf x9 + 1).toNat)
        case atStart => exact ⟨q, -1, _, Nat.le_refl _, rfl, rfl, rfl, Lib.hid (DnI.start _ _), Lib.hid (Below.refl _ _)⟩
        case round =>
        obtain ⟨j, c, y, hj, hy, rfl, rfl, HD, HW⟩ := hrel
        have Z5 := Lib.hid (Z4.out.below HW.out)
        have e0 := cell_of (i := 0) Z5.out.1 rfl
        have e1 := cell_of (i := 1) Z5.out.1 rfl
        have e2 := cell_of (i := 2) Z5.out.1 rfl
        have b1 := (BX4.out.below HW.out).2.2
        rcases j with _ | j
        · have hy0 : ¬ (0 : Int) ≤ y := by omega
          have HU0 := Lib.hid (DnI.up (p2 := gr2 H (grY q H P i)) HD.out)
          go_wp2_with fail
          clear e0 e1 e2 b1
          go_loopw [8, 10] (fun x8 x10 wr => ∃ (t : Nat) (c : Int), t ≤ q ∧ x10 = .int .i64 t ∧ x8 = .int .i64 c ∧ Hid (UpI (gr1 H (grY q H P i) x) (gr2 H (grY q H P i)) q t c) ∧ Hid (Below w4.heap.size w4 wr)) (fun _ x10 _ => q - (intOf x10).toNat)
          case atStart => exact ⟨0, _, Nat.zero_le _, rfl, rfl, HU0, HW⟩
          case round =>
          obtain ⟨t, c, ht, rfl, rfl, HU, HW3⟩ := hrel
          have Z5 := Lib.hid (Z4.out.below HW3.out)
          have e0 := cell_of (i := 0) Z5.out.1 rfl
          have e1 := cell_of (i := 1) Z5.out.1 rfl
          have e2 := cell_of (i := 2) Z5.out.1 rfl
          have b1 := (BX4.out.below HW3.out).2.2
          have HK1 : Hid (GrP (gr1 H (grY q H P i) x) (gr2 H (grY q H P i)) q k) := Lib.hid (by have := HK.out; rwa [grY_len] at this)
          by_cases htq : t < q
          · have htI : (t : Int) < (q : Int) := by omega
            by_cases hc : c < 0
            · have hno : (∀ j, j < q → gr1 H (grY q H P i) x j = false) ∧ ∀ j, j < t → gr2 H (grY q H P i) j = false := by
                rcases HU.out with ⟨k', h1, -⟩ | ⟨-, h2, h3⟩
                · omega
                · exact ⟨h2, h3⟩
              have HNo := Lib.hid hno
              obtain ⟨u, hu0, hil⟩ := HRows.out t _ (bayZ_row htq i)
              obtain ⟨ar, cr, rfl⟩ := hil.form
              have hg2 := HG2.out t htq
              obtain ⟨m, hm⟩ : ∃ m, (rowZ (grO q H P i) i t).length = m := ⟨_, rfl⟩
              rw [hm] at hu0 hg2
              have hu := (HW3.out.cell (p := ⟨gs, offs + t, none⟩) hgs).trans hu0
              clear hno hu0 hil hm
              by_cases h1 : m < H
              · have h1i : (m : Int) < (H : Int) := by omega
                have HU2 : Hid (UpI (gr1 H (grY q H P i) x) (gr2 H (grY q H P i)) q (t + 1) (t : Int)) := Lib.hid (.inl ⟨t, rfl, htq, .inr ⟨HNo.out.1, by rw [hg2]; simp [h1], HNo.out.2⟩⟩)
                clear hg2
                go_wp2_with fail
                go_quiet (fail)
                go_wp2_with fail
                exact ⟨⟨t + 1, _, by omega, by go_num, rfl, HU2, Lib.hid (below_drewN HW3.out _)⟩, by simp [intOf]; omega⟩
              · have h1i : ¬ (m : Int) < (H : Int) := by omega
                have HU2 : Hid (UpI (gr1 H (grY q H P i) x) (gr2 H (grY q H P i)) q (t + 1) c) := Lib.hid (by
                  rcases HU.out with ⟨k', h3, -⟩ | ⟨h3, h4, h5⟩
                  · omega
                  · exact .inr ⟨h3, h4, fun j hj => by
                      by_cases e : j = t
                      · rw [e, hg2]; simp [h1]
                      · exact h5 j (by omega)⟩)
                clear hg2
                go_wp2_with fail
                go_quiet (fail)
                go_wp2_with fail
                exact ⟨⟨t + 1, _, by omega, by go_num, rfl, HU2, Lib.hid (below_drewN HW3.out _)⟩, by simp [intOf]; omega⟩
            · obtain rfl : c = (k : Int) := by
                rcases HU.out with ⟨k', h3, h4⟩ | ⟨h3, -, -⟩
                · rw [h3, GrP.one h4 HK1.out]
                · omega
              have Z6 := Lib.hid (Z4.out.below HW3.out)
              have hrow := Z6.out.2.1
              rw [grO_len] at hrow
              have hzc : w.heap.size + 1 ≤ wr.heap.size := mem_lt Z6.out.1
              go_wp2_with (at_builtin; refine wpList_append_own_at _ rfl _ _ 24 rfl (w.heap.size + 1) 3 f3 (.int .i64 0) 1 8 Try.underlying24 hi3 hz0 hz1 hz2 rfl (by decide) _ _ _ rfl (hrow.alloc _) ⟨wr.heap.size, 0, none⟩ 1 1 [.int .i64 (k : Int)] rfl rfl (cell_one_new _ _ _) (by simp [Value.oneCell']) (by unfold maxLen; omega) (by omega) (by simp; omega) ?_; intro v' w8 hown' hgrow hnil hat)
              have HN4 := Lib.hid (Z6.out.push (grO_len q H P i) hown' hgrow)
              rw [← HOn.out] at HN4
              obtain ⟨a7, c7, rfl⟩ := own_form hown'
              clear hown' hgrow hnil hat hrow
              exact ⟨⟨i + 1, _, _, by omega, by go_num, rfl, HN4⟩, by simp [intOf]; omega⟩
          · obtain rfl : q = t := by omega
            obtain rfl : c = (k : Int) := by
              rcases HU.out with ⟨k', h3, h4⟩ | ⟨-, h4, h5⟩
              · rw [h3, GrP.one h4 HK1.out]
              · exfalso
                obtain ⟨k1, ⟨k2', -⟩ | ⟨-, k3, -⟩⟩ := HK1.out
                · rw [h4 k k1] at k2'; cases k2'
                · rw [h5 k k1] at k3; cases k3
            have Z6 := Lib.hid (Z4.out.below HW3.out)
            have hrow := Z6.out.2.1
            rw [grO_len] at hrow
            have hzc : w.heap.size + 1 ≤ wr.heap.size := mem_lt Z6.out.1
            go_wp2_with (at_builtin; refine wpList_append_own_at _ rfl _ _ 24 rfl (w.heap.size + 1) 3 f3 (.int .i64 0) 1 8 Try.underlying24 hi3 hz0 hz1 hz2 rfl (by decide) _ _ _ rfl (hrow.alloc _) ⟨wr.heap.size, 0, none⟩ 1 1 [.int .i64 (k : Int)] rfl rfl (cell_one_new _ _ _) (by simp [Value.oneCell']) (by unfold maxLen; omega) (by omega) (by simp; omega) ?_; intro v' w8 hown' hgrow hnil hat)
            have HN4 := Lib.hid (Z6.out.push (grO_len q H P i) hown' hgrow)
            rw [← HOn.out] at HN4
            obtain ⟨a7, c7, rfl⟩ := own_form hown'
            clear hown' hgrow hnil hat hrow
            exact ⟨⟨i + 1, _, _, by omega, by go_num, rfl, HN4⟩, by simp [intOf]; omega⟩
        · obtain rfl : y = (j : Int) := by omega
          clear hy
          have hjq : j < q := by omega
          have hjI : (j : Int) < (q : Int) := by omega
          have hw : IntKind.i64.wrap ((j : Int) - 1) = (j : Int) - 1 := by rw [IntKind.wrap_i64]; omega
          obtain ⟨u, hu0, hil⟩ := HRows.out j _ (bayZ_row hjq i)
          obtain ⟨ar, cr, rfl⟩ := hil.form
          have hg1 := HG1.out j hjq
          have HFa : Hid (∀ W, Below wr.heap.size wr W → Calls Try.prog 62 #[.agg #[.int .i64 (q : Int), .int .i64 (H : Int), .slice (some ⟨gp, offp, none⟩) n cc], .slice ar (rowZ (grO q H P i) i j).length cr, .int .i64 x] W (BoolP W (decide (x ≤ earL ((rowZ (grO q H P i) i j).map (ptZ P)))))) := Lib.hid fun W hb => by
            have hb4 : Below w4.heap.size w4 W := HW.out.trans (hb.mono HW.out.size)
            have hl7 := rowZ_len (grO q H P i) j i
            refine l10Free_any _ _ (q : Int) (H : Int) x P (rowZ (grO q H P i) i j) (by rw [HN.out]; omega) (by omega) (fun y hy => ?_) (by omega) W ⟨_, rfl, HV.out.below (Z4.out.2.2.trans (hb4.mono Z4.out.2.2.size))⟩ (hil.below hb4)
            obtain ⟨t, htl, rfl⟩ := List.getElem_of_mem hy
            have hd : (bayZ q (grO q H P i) i).getD j [] = rowZ (grO q H P i) i j := by rw [List.getD, bayZ_row hjq i]; rfl
            have := (bayZ_bounds (q := q) (O := grO q H P i) (n := i) (by omega)).1 j t (by rw [hd]; exact htl)
            rw [hd, List.getD, List.getElem?_eq_getElem htl] at this
            have h2 := HN.out
            simp only [Option.getD_some] at this
            omega
          obtain ⟨m, hm⟩ : ∃ m, (rowZ (grO q H P i) i j).length = m := ⟨_, rfl⟩
          rw [hm] at hu0 hg1 HFa
          have hu := (HW.out.cell (p := ⟨gs, offs + j, none⟩) hgs).trans hu0
          have px := (HW.out.cell (p := ⟨gp, offp + i, none⟩) hgp4).trans HPx.out
          have HL0 := Lib.hid (show w.heap.size < wr.heap.size ∧ w3.heap.size < wr.heap.size ∧ gs < wr.heap.size ∧ gp < wr.heap.size from ⟨mem_lt Z5.out.1, (BX4.out.below HW.out).1, Nat.lt_of_lt_of_le hgs HW.out.size, Nat.lt_of_lt_of_le hgp4 HW.out.size⟩)
          clear hu0 hil hm
          generalize earL ((rowZ (grO q H P i) i j).map (ptZ P)) = z at *
          by_cases h1 : m < H
          · have h1i : (m : Int) < (H : Int) := by omega
            by_cases h2 : x ≤ z
            · have HD2 : Hid (DnI (gr1 H (grY q H P i) x) q j (j : Int)) := Lib.hid (DnI.yes (by rw [hg1]; simp [h1, h2]) hjq)
              have HFr : Hid (∀ W, Below wr.heap.size wr W → Calls Try.prog 62 #[.agg #[.int .i64 (q : Int), .int .i64 (H : Int), .slice (some ⟨gp, offp, none⟩) n cc], .slice ar m cr, .int .i64 x] W (BoolP W true)) := Lib.hid (by have := HFa.out; rw [decide_eq_true h2] at this; exact this)
              clear HFa hg1
              go_wp2_with fail
              go_region_held3 (fun W => W.cell? ⟨w.heap.size, 0, none⟩ = some (.int .i64 (q : Int)) ∧ W.cell? ⟨w.heap.size, 1, none⟩ = some (.int .i64 (H : Int)) ∧ W.cell? ⟨w.heap.size, 2, none⟩ = some (.slice (some ⟨gp, offp, none⟩) n cc) ∧ W.cell? ⟨w3.heap.size, 1, none⟩ = some (.slice (some ⟨gs, offs, none⟩) q k2) ∧ W.cell? ⟨gs, offs + j, none⟩ = some (.slice ar m cr) ∧ W.cell? ⟨gp, offp + i, none⟩ = some (.int .i64 x)) (go_keep) (first | (go_at_call 62; refine (HFr.out _ (Below.refl _ _).drew).mono ?_; rintro e w' ⟨rfl, hb⟩; have hbz := (Below.refl _ wr).drew.trans hb; have x0 := (hbz.cell (p := ⟨w.heap.size, 0, none⟩) HL0.out.1).trans e0; have x1 := (hbz.cell (p := ⟨w.heap.size, 1, none⟩) HL0.out.1).trans e1; have x2 := (hbz.cell (p := ⟨w.heap.size, 2, none⟩) HL0.out.1).trans e2; have x3 := (hbz.cell (p := ⟨w3.heap.size, 1, none⟩) HL0.out.2.1).trans b1; have x4 := (hbz.cell (p := ⟨gs, offs + j, none⟩) HL0.out.2.2.1).trans hu; have x5 := (hbz.cell (p := ⟨gp, offp + i, none⟩) HL0.out.2.2.2).trans px; have HW7 := Lib.hid (HW.out.trans (hbz.mono HW.out.size)); clear hb hbz))
              clear x0 x1 x2 x3 x4 x5 e0 e1 e2 b1 hu px
              go_wp2_with fail
              exact ⟨⟨j, _, _, by omega, rfl, by (first | rfl | rw [hw]), rfl, HD2, HW7⟩, by first | (simp [intOf]; done) | (simp [intOf]; omega)⟩
            · have HD2 : Hid (DnI (gr1 H (grY q H P i) x) q j c) := Lib.hid (DnI.no (by rw [hg1]; simp [h2]) HD.out)
              have HFr : Hid (∀ W, Below wr.heap.size wr W → Calls Try.prog 62 #[.agg #[.int .i64 (q : Int), .int .i64 (H : Int), .slice (some ⟨gp, offp, none⟩) n cc], .slice ar m cr, .int .i64 x] W (BoolP W false)) := Lib.hid (by have := HFa.out; rw [decide_eq_false h2] at this; exact this)
              clear HFa hg1
              go_wp2_with fail
              go_region_held3 (fun W => W.cell? ⟨w.heap.size, 0, none⟩ = some (.int .i64 (q : Int)) ∧ W.cell? ⟨w.heap.size, 1, none⟩ = some (.int .i64 (H : Int)) ∧ W.cell? ⟨w.heap.size, 2, none⟩ = some (.slice (some ⟨gp, offp, none⟩) n cc) ∧ W.cell? ⟨w3.heap.size, 1, none⟩ = some (.slice (some ⟨gs, offs, none⟩) q k2) ∧ W.cell? ⟨gs, offs + j, none⟩ = some (.slice ar m cr) ∧ W.cell? ⟨gp, offp + i, none⟩ = some (.int .i64 x)) (go_keep) (first | (go_at_call 62; refine (HFr.out _ (Below.refl _ _).drew).mono ?_; rintro e w' ⟨rfl, hb⟩; have hbz := (Below.refl _ wr).drew.trans hb; have x0 := (hbz.cell (p := ⟨w.heap.size, 0, none⟩) HL0.out.1).trans e0; have x1 := (hbz.cell (p := ⟨w.heap.size, 1, none⟩) HL0.out.1).trans e1; have x2 := (hbz.cell (p := ⟨w.heap.size, 2, none⟩) HL0.out.1).trans e2; have x3 := (hbz.cell (p := ⟨w3.heap.size, 1, none⟩) HL0.out.2.1).trans b1; have x4 := (hbz.cell (p := ⟨gs, offs + j, none⟩) HL0.out.2.2.1).trans hu; have x5 := (hbz.cell (p := ⟨gp, offp + i, none⟩) HL0.out.2.2.2).trans px; have HW7 := Lib.hid (HW.out.trans (hbz.mono HW.out.size)); clear hb hbz))
              clear x0 x1 x2 x3 x4 x5 e0 e1 e2 b1 hu px
              go_wp2_with fail
              exact ⟨⟨j, _, _, by omega, rfl, by (first | rfl | rw [hw]), rfl, HD2, HW7⟩, by first | (simp [intOf]; done) | (simp [intOf]; omega)⟩
          · have h1i : decide ((m : Int) < (H : Int)) = false := decide_eq_false (by omega)
            have HD2 : Hid (DnI (gr1 H (grY q H P i) x) q j c) := Lib.hid (DnI.no (by rw [hg1]; simp [h1]) HD.out)
            clear HFa hg1
            go_wp2_with fail
            go_quiet (fail)
            go_wp2_with fail
            exact ⟨⟨j, _, _, by omega, rfl, by (first | rfl | rw [hw]), rfl, HD2, Lib.hid (below_drewN HW.out _)⟩, by first | (simp [intOf]; done) | (simp [intOf]; omega)⟩
      · obtain rfl : i = n := by omega
        have HBy := Lib.hid (fun W (hb : Below wr.heap.size wr W) => l10Bay_any (.agg #[.int .i64 (q : Int), .int .i64 (H : Int), .slice a i cc]) (.slice a5 i c5) q (H : Int) P (grO q H P i) hq1 hq5 hO7 HIi.out.ran W (HSR.out.below hb) (HPl.out.below hb))
        have HSf := Lib.hid (fun (a2 : Option Addr) (c : Nat) W (hb : Below wr.heap.size wr W) (hy : YL W (.slice a2 (bayZ q (grO q H P i) i).length c) (bayZ q (grO q H P i) i)) => l10Shifted_any (.agg #[.int .i64 (q : Int), .int .i64 (H : Int), .slice a i cc]) (.agg #[.int .i64 (H : Int), .slice a2 (bayZ q (grO q H P i) i).length c]) (q : Int) (H : Int) (H : Int) P (bayZ q (grO q H P i) i) (by have := HN.out; omega) (by rw [bayZ_len]; omega) (by
          have := (bayZ_bounds (q := q) (O := grO q H P i) (n := i) (by omega)).1
          intro j t ht
          have h1 := this j t ht
          have h2 := HN.out
          omega) (bayZ_bounds (q := q) (O := grO q H P i) (n := i) (by omega)).2 W (HSR.out.below hb) ⟨_, rfl, hy⟩)
        have HEq := Lib.hid (shI_eq (P := P) (O := grO q H P i) (n := i) (r := q) (fun t ht => by
          have := HIi.out.ran ((grO q H P i).getD t 0) (by rw [List.getD, List.getElem?_eq_getElem (by rw [grO_len]; exact ht)]; exact List.getElem_mem _)
          omega))
        have hlO := grO_len q H P i
        unfold NewBd at HBy
        unfold NewN at HSf
        rw [bayZ_len, hlO] at HBy
        rw [bayZ_len] at HSf
        rw [HEq.out] at HSf
        generalize numsW (shB P (grO q H P i)) i = R at *
        generalize hRl : R.length = nr at *
        have BA1 := Lib.hid (show Box3 wr w.heap.size (q : Int) (H : Int) (.slice a i cc) from ⟨mem_lt HZ.out.1, e0, e1, e2⟩)
        clear HEq hO7
        go_wp2_with fail
        go_region_law (first | (go_simp; go_at_call 60; refine (HBy.out _ (Below.refl _ _).drew).mono ?_; rintro e w2 ⟨a2, c2, rfl, ho2, hb2'⟩; have hb2 := (Below.refl _ wr).drew.trans hb2'; obtain ⟨-, j0, j1, j2⟩ := BA1.out.below hb2; have B2 := Lib.hid hb2; have HSf2 := Lib.hid (HSf.out a2 c2 w2 hb2 ho2.yl); clear ho2 hb2 hb2') | (go_simp; go_at_call 59; refine HSf2.out.mono ?_; rintro e w3 ⟨g3, c3, rfl, ho3, hb3⟩; have B3 := Lib.hid (B2.out.trans (hb3.mono B2.out.size)); clear ho3 hb3))
        all_goals
          go_wp2_with fail
          go_ret3
          rw [HX.out.1, HX.out.2]
          subst hRl
          exact ⟨a5, c5, by rw [hlO]; rfl, by rw [hlO]; exact HPl.out.below B3.out, HZ.out.2.2.trans (B3.out.mono HZ.out.2.2.size)⟩
end Go.Proofs.Ytpflnjjckeeihaa
