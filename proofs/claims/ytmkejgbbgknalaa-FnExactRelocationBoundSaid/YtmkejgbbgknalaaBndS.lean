/-
  What spec.l6Bound, spec.RelocationBound and impl.RelocationBound return. No statement of the seat by itself.
-/
import Derived.Test.YtmkejgbbgknalaaLay
import Derived.BigQuiet
namespace Go.Proofs.Ytmkejgbbgknalaa
open Go.RowKit

/-- Whether one of the first m numbers of a stack is earlier than x. -/
def anyS (O l : List Int) (x : Int) (m : Nat) : Bool := (l.take m).any fun y => decide (rnk O y < rnk O x)
theorem anyS_succ {O l : List Int} {x y : Int} {m : Nat} (h : l[m]? = some y) : anyS O l x (m + 1) = (anyS O l x m || decide (rnk O y < rnk O x)) := by
  unfold anyS
  rw [take_next h, List.any_append]
  simp
theorem anyS_bad {O l : List Int} {x : Int} {k : Nat} (h : l[k]? = some x) : anyS O l x k = badS O l k := by
  unfold anyS badS
  rw [show l.getD k 0 = x by simp [List.getD, h]]

theorem ask_inv8 {Y : List (List Int)} {O : List Int} (h : askB Y O = true) : O.length ≤ 8 := (askB_iff.1 h).2.1

set_option maxRecDepth 100000 in
set_option maxHeartbeats 4000000 in
theorem l6Bound_any (v vo : Value) (Y : List (List Int)) (O : List Int) (hg : goodY Y = true) (hO : O.length ≤ 1048576) (w : World) (h : YdR w v Y) (ho : IL w vo O) :
    Calls Try.prog 74 #[v, vo] w (RetP w (.int .i64 (bndR Y O : Int))) := by
  obtain ⟨v0, rfl, a, cap, rfl, hc⟩ := h
  have hr4 := (goodY_iff.1 hg).2.2.1
  have hsm := good_small hg
  have HL := Lib.hid (fun i => bndS_le (O := O) hg i)
  obtain ⟨n, hn⟩ : ∃ n, Y.length = n := ⟨_, rfl⟩
  have HN := Lib.hid hn
  have HC := Lib.hid hc
  obtain ⟨oa, oc, rfl⟩ := ho.form
  have HRk : Hid (∀ x W, Below w.heap.size w W → Calls Try.prog 110 #[.slice oa O.length oc, .int .i64 x] W fun e w' => e = .returned (.int .i64 (rnk O x : Int)) ∧ W = w') := Lib.hid fun x W hb => rank_any _ O x hO W (ho.below hb)
  have HRL : Hid (∀ x, rnk O x ≤ 1048576) := Lib.hid fun x => by
    unfold rnk
    cases ha : atL O x with
    | none => exact hO
    | some k => have := atL_lt ha; show k ≤ 1048576; omega
  have HR4 := Lib.hid hr4
  have hn6 : n ≤ 6 := by omega
  rw [hn]
  have BA := Lib.hid (Box1.new w (.slice a n cap) 28)
  have B0 := Lib.hid (below_one w (.cells #[.slice a n cap] 28))
  have HEnd : Hid (bndR Y O = bndS Y O n) := Lib.hid (by unfold bndR; rw [hn])
  generalize O.length = no at *
  clear hc ho hr4 hsm hn hg
  go_enter Try.func74, Try.ntmps74
  go_wp2_with fail
  generalize w.alloc (.cells #[.slice a n cap] 28) = W at *
  go_loopw [5, 6, 7, 8, 9] (fun s i _ _ _ wr => ∃ k : Nat, k ≤ n ∧ i = .int .i64 k ∧ s = .int .i64 (bndS Y O k : Int) ∧ Hid (Box1 wr w.heap.size (.slice a n cap)) ∧ Hid (Below w.heap.size w wr)) (fun _ i _ _ _ _ => n - (intOf i).toNat)
  case atStart => exact ⟨0, Nat.zero_le _, rfl, rfl, BA, B0⟩
  case round =>
    obtain ⟨i, hi, rfl, rfl, HA, HB⟩ := hrel
    rename World => wo
    have c0 := HA.out.2
    have hb1 := HL.out i
    by_cases hlt : i < n
    · obtain ⟨l, hl⟩ := get_at HN.out hlt
      obtain ⟨g, off, rfl, hg0, hcc⟩ := HC.out (by have := HN.out; omega)
      obtain ⟨u, hu', hil⟩ := hcc i l hl
      have hu := (HB.out.cell (p := ⟨g, off + i, none⟩) hg0).trans hu'
      obtain ⟨a2, c2, rfl, hrow⟩ := hil
      obtain ⟨m, hm⟩ : ∃ m, l.length = m := ⟨_, rfl⟩
      have HM := Lib.hid hm
      have hm4 : m ≤ 4 := by have := HR4.out l (List.mem_of_getElem? hl); omega
      have HRow := Lib.hid hrow
      have HU := Lib.hid hu'
      have HG0 := Lib.hid hg0
      have HNext : Hid (bndS Y O (i + 1) = bndS Y O i + cntD O l m) := Lib.hid (by
        show bndS Y O i + cntD O (Y.getD i []) (Y.getD i []).length = _
        rw [getD_of hl, hm])
      have HDle := Lib.hid (fun k => cntD_le O l k)
      obtain ⟨b0, hb0⟩ : ∃ b0, bndS Y O i = b0 := ⟨_, rfl⟩
      rw [hb0] at hb1 HNext ⊢
      have hiI : (i : Int) < (n : Int) := by omega
      rw [hm] at hu HU
      clear hcc hrow hl hm hu' hg0 hb0
      go_wp2_with fail
      go_loopw [5, 7, 8, 9] (fun s kk _ _ wr => ∃ k sc : Nat, 1 ≤ k ∧ (k ≤ m ∨ k = 1) ∧ kk = .int .i64 k ∧ s = .int .i64 (sc : Int) ∧ Hid (sc = b0 + cntD O l k) ∧ Hid (Box1 wr w.heap.size (.slice (some ⟨g, off, none⟩) n cap)) ∧ Hid (Below w.heap.size w wr)) (fun _ kk _ _ _ => m + 1 - (intOf kk).toNat)
      case atStart => exact ⟨1, b0, Nat.le_refl _, .inr rfl, rfl, rfl, Lib.hid (by rw [cntD_one]; rfl), HA, HB⟩
      case round =>
        clear hu c0
        obtain ⟨k, sc, hk1, hk, rfl, rfl, HSc, HA2, HB2⟩ := hrel
        have hsc : sc ≤ 40 := by have h1 := HSc.out; have h2 := HDle.out k; omega
        rename World => wi
        have c0 := HA2.out.2
        have hu := (HB2.out.cell (p := ⟨g, off + i, none⟩) HG0.out).trans HU.out
        have hcd := HDle.out k
        by_cases hkm : k < m
        · obtain ⟨x, hx⟩ := get_at HM.out hkm
          obtain ⟨g2, off2, rfl, hg2, hcc2⟩ := HRow.out (by have := HM.out; omega)
          have HX := Lib.hid hx
          have HXc := Lib.hid (hcc2 k x hx)
          have HCC := Lib.hid hcc2
          have HG2 := Lib.hid hg2
          have HBad := Lib.hid (anyS_bad (O := O) hx)
          have hkI : (k : Int) < (m : Int) := by omega
          clear hx hcc2 hg2
          go_wp2_with fail
          go_loopw [8, 9] (fun bd mm wr => ∃ q : Nat, q ≤ k ∧ mm = .int .i64 q ∧ bd = .bool (anyS O l x q) ∧ Hid (Box1 wr w.heap.size (.slice (some ⟨g, off, none⟩) n cap)) ∧ Hid (Below w.heap.size w wr)) (fun _ mm _ => k - (intOf mm).toNat)
          case atStart => exact ⟨0, Nat.zero_le _, rfl, rfl, HA2, HB2⟩
          case round =>
            clear hu c0
            obtain ⟨q, hq, rfl, rfl, HA3, HB3⟩ := hrel
            by_cases hqk : q < k
            · obtain ⟨y, hy⟩ := get_at HM.out (show q < m by omega)
              have c0 := HA3.out.2
              have hu := (HB3.out.cell (p := ⟨g, off + i, none⟩) HG0.out).trans HU.out
              have hxc := (HB3.out.cell (p := ⟨g2, off2 + k, none⟩) HG2.out).trans HXc.out
              have hyc := (HB3.out.cell (p := ⟨g2, off2 + q, none⟩) HG2.out).trans (HCC.out q y hy)
              have HS := Lib.hid (anyS_succ (O := O) (x := x) hy)
              have hqI : (q : Int) < (k : Int) := by omega
              have hqm : (q : Int) < (m : Int) := by omega
              have hrx := HRL.out x
              have hry := HRL.out y
              have HKx := Lib.hid (HRk.out x)
              have HKy := Lib.hid (HRk.out y)
              clear hy
              cases hany : anyS O l x q with
              | true =>
                rw [hany] at HS
                go_wp2_with fail
                go_quiet (fail)
                go_wp2_with fail
                exact ⟨⟨q + 1, by omega, by go_num, by rw [HS.out]; rfl, Lib.hid (HA3.out.below (below_drewN (Below.refl _ _) _)), Lib.hid (below_drewN HB3.out _)⟩, by simp [intOf]; omega⟩
              | false =>
                rw [hany] at HS
                clear HKx HKy hrx hry
                by_cases hlt9 : rnk O y < rnk O x
                · have h9 : (rnk O y : Int) < (rnk O x : Int) := by omega
                  rw [decide_eq_true hlt9] at HS
                  go_wp2_with fail
                  go_region_held3 (fun W => W.cell? ⟨w.heap.size, 0, none⟩ = some (.slice (some ⟨g, off, none⟩) n cap) ∧ W.cell? ⟨g, off + i, none⟩ = some (.slice (some ⟨g2, off2, none⟩) m c2) ∧ W.cell? ⟨g2, off2 + k, none⟩ = some (.int .i64 x) ∧ W.cell? ⟨g2, off2 + q, none⟩ = some (.int .i64 y)) (go_keep) (first | (go_at_call 110; refine (HRk.out _ _ HB3.out.drew).mono ?_; rintro e w' ⟨rfl, rfl⟩))
                  go_wp2_with fail
                  exact ⟨⟨q + 1, by omega, by go_num, by rw [HS.out]; rfl, Lib.hid (HA3.out.below (Below.refl _ _).drew), Lib.hid HB3.out.drew⟩, by simp [intOf]; omega⟩
                · have h9 : ¬ (rnk O y : Int) < (rnk O x : Int) := by omega
                  rw [decide_eq_false hlt9] at HS
                  go_wp2_with fail
                  go_region_held3 (fun W => W.cell? ⟨w.heap.size, 0, none⟩ = some (.slice (some ⟨g, off, none⟩) n cap) ∧ W.cell? ⟨g, off + i, none⟩ = some (.slice (some ⟨g2, off2, none⟩) m c2) ∧ W.cell? ⟨g2, off2 + k, none⟩ = some (.int .i64 x) ∧ W.cell? ⟨g2, off2 + q, none⟩ = some (.int .i64 y)) (go_keep) (first | (go_at_call 110; refine (HRk.out _ _ HB3.out.drew).mono ?_; rintro e w' ⟨rfl, rfl⟩))
                  go_wp2_with fail
                  exact ⟨⟨q + 1, by omega, by go_num, by rw [HS.out]; rfl, Lib.hid (HA3.out.below (Below.refl _ _).drew), Lib.hid HB3.out.drew⟩, by simp [intOf]; omega⟩
            · obtain rfl : q = k := by omega
              have HC9 : Hid (cntD O l (q + 1) = cntD O l q + if anyS O l x q = true then 1 else 0) := Lib.hid (by rw [HBad.out]; rfl)
              cases hany : anyS O l x q with
              | true =>
                rw [hany, if_pos rfl] at HC9
                go_wp2_with fail
                exact ⟨⟨q + 1, sc + 1, by omega, .inl (by omega), by go_num, (by first | rfl | go_num), Lib.hid (by have h1 := HSc.out; have h2 := HC9.out; omega), HA3, HB3⟩, by simp [intOf]; omega⟩
              | false =>
                rw [hany, if_neg (by simp)] at HC9
                go_wp2_with fail
                exact ⟨⟨q + 1, sc, by omega, .inl (by omega), by go_num, (by first | rfl | go_num), Lib.hid (by have h1 := HSc.out; have h2 := HC9.out; omega), HA3, HB3⟩, by simp [intOf]; omega⟩
        · have HE9 : Hid (cntD O l k = cntD O l m) := Lib.hid (by
            by_cases h : k = m
            · rw [h]
            · have h1 : k = 1 := by omega
              have h0 : m = 0 := by omega
              rw [h1, h0, cntD_one]
              rfl)
          go_wp2_with fail
          exact ⟨⟨i + 1, by omega, by go_num, val_i (by have h1 := HNext.out; have h2 := HE9.out; have h3 := HSc.out; omega), HA2, HB2⟩, by simp [intOf]; omega⟩
    · obtain rfl : i = n := by omega
      go_wp2_with fail
      go_ret
      exact ⟨by rw [HEnd.out]; rfl, HB.out⟩

theorem sum_bnd (Y : List (List Int)) (O : List Int) (hO : O.length ≤ 8) : ∀ i, sumL (fun i => digs O (Y.getD i [])) i = bndS Y O i
  | 0 => rfl
  | i + 1 => by
    show sumL _ i + (blkC (digs O (Y.getD i []))).1 = bndS Y O i + _
    rw [sum_bnd Y O hO i]
    have := blk_cnt hO (Y.getD i []) (Y.getD i []).length (Nat.le_refl _)
    rw [List.take_length] at this
    rw [this]
theorem bnd_six {Y : List (List Int)} {O : List Int} (hg : goodY Y = true) (hO : O.length ≤ 8) : sumL (fun i => digs O (Y.getD i [])) 6 = bndR Y O := by
  rw [sum_bnd Y O hO 6]
  have h6 := (good_small hg).1
  have := bndS_more Y O (6 - Y.length)
  rw [show Y.length + (6 - Y.length) = 6 by omega] at this
  exact this
/-- What RelocationBound answers. -/
def bndA (Y : List (List Int)) (O : List Int) : Nat := if askB Y O = true then bndR Y O else 0

set_option maxRecDepth 100000 in
set_option maxHeartbeats 4000000 in
theorem specBnd_any (v vo : Value) (Y : List (List Int)) (O : List Int) (h1 : Y.length ≤ 1048576) (h2 : tot Y ≤ 1048576) (h3 : O.length ≤ 1048576) (w : World) (h : YdR w v Y) (ho : OwnI w vo O) :
    Calls Try.prog 31 #[v, vo] w (RetP w (.tuple #[.int .i64 (bndA Y O : Int), .bool (askB Y O)])) := by
  obtain ⟨v0, rfl, hv⟩ := h
  obtain ⟨a, c, rfl, hc⟩ := ho.form
  have HA := Lib.hid (fun W (hb : Below w.heap.size w W) => l6Asked_any (.agg #[v0]) _ Y O h1 h2 h3 W ⟨v0, rfl, hv.below hb⟩ (ho.below hb))
  have HP := Lib.hid (fun W (hb : Below w.heap.size w W) (hask : askB Y O = true) => l6Bound_any (.agg #[v0]) _ Y O (askB_iff.1 hask).1 h3 W ⟨v0, rfl, hv.below hb⟩ (ho.below hb).read)
  have BA := Lib.hid (Box1.new w v0 28)
  have B0 := Lib.hid (below_one w (.cells #[v0] 28))
  have HQ := Lib.hid (show bndA Y O = if askB Y O = true then bndR Y O else 0 from rfl)
  clear hv ho hc h1 h2 h3
  generalize bndA Y O = pb at *
  generalize bndR Y O = ps at *
  generalize O.length = no at *
  go_enter Try.func31, Try.ntmps31
  go_wp2_with fail
  generalize w.alloc (.cells #[v0] 28) = w0 at *
  refine (HA.out _ B0.out).mono ?_
  rintro e w1 ⟨rfl, hb⟩
  have c0 := (BA.out.below hb).2
  have B1 := Lib.hid (B0.out.trans (hb.mono B0.out.size))
  clear hb
  cases hg : askB Y O with
  | false =>
    rw [hg, if_neg (by simp)] at HQ
    go_wp2_with fail
    go_ret2
    exact ⟨by rw [HQ.out]; simp [hg], B1.out⟩
  | true =>
    rw [hg, if_pos rfl] at HQ
    go_wp2_with fail
    refine (HP.out _ B1.out hg).mono ?_
    rintro e w2 ⟨rfl, hb⟩
    have B2 := Lib.hid (B1.out.trans (hb.mono B1.out.size))
    clear hb
    go_wp2_with fail
    go_ret2
    exact ⟨by rw [HQ.out]; simp [hg], B2.out⟩

set_option maxRecDepth 100000 in
set_option maxHeartbeats 4000000 in
theorem implBnd_any (v vo : Value) (Y : List (List Int)) (O : List Int) (h1 : Y.length ≤ 1048576) (h2 : tot Y ≤ 1048576) (h3 : O.length ≤ 1048576) (w : World) (h : YdR w v Y) (ho : OwnI w vo O) :
    Calls Try.prog 32 #[v, vo] w (RetP w (.tuple #[.int .i64 (bndA Y O : Int), .bool (askB Y O)])) := by
  obtain ⟨v0, rfl, hv⟩ := h
  obtain ⟨a, c, rfl, hc⟩ := ho.form
  have HA := Lib.hid (fun W (hb : Below w.heap.size w W) => isOrder_any (.agg #[v0]) _ Y O h1 h2 h3 W ⟨v0, rfl, hv.below hb⟩ (ho.below hb))
  have HP := Lib.hid (fun W (hb : Below w.heap.size w W) (hask : askB Y O = true) => layout_any (.agg #[v0]) _ Y O (askB_iff.1 hask).1 (ask_inv8 hask) W ⟨v0, rfl, hv.below hb⟩ (ho.below hb).read)
  have HS : Hid (askB Y O = true → ∀ W, Calls Try.prog 76 #[layV (encY O Y)] W (RetP W (.int .i64 (bndR Y O : Int)))) := Lib.hid fun hask W => by
    have h8 := ask_inv8 hask
    have hgd := (askB_iff.1 hask).1
    have := bound_any (fun i => digs O (Y.getD i [])) (fun i => ⟨by
      rw [digs_len]
      rcases Nat.lt_or_ge i Y.length with hs | hs
      · rw [getD_of (List.getElem?_eq_getElem hs)]
        have := (goodY_iff.1 hgd).2.2.1 _ (List.getElem_mem hs)
        omega
      · rw [List.getD, List.getElem?_eq_none hs]; simp, fun d hd => by
      obtain ⟨x, _, rfl⟩ := List.mem_map.1 hd
      exact dig_in h8 x⟩) W
    rw [bnd_six hgd h8] at this
    exact this
  have BA := Lib.hid (Box1.new w v0 28)
  have B0 := Lib.hid (below_one w (.cells #[v0] 28))
  have HQ := Lib.hid (show bndA Y O = if askB Y O = true then bndR Y O else 0 from rfl)
  clear hv ho hc h1 h2 h3
  generalize bndA Y O = pb at *
  generalize bndR Y O = ps at *
  generalize layV (encY O Y) = lay at *
  generalize O.length = no at *
  go_enter Try.func32, Try.ntmps32
  go_wp2_with fail
  generalize w.alloc (.cells #[v0] 28) = w0 at *
  refine (HA.out _ B0.out).mono ?_
  rintro e w1 ⟨rfl, hb⟩
  have c0 := (BA.out.below hb).2
  have B1 := Lib.hid (B0.out.trans (hb.mono B0.out.size))
  clear hb
  cases hg : askB Y O with
  | false =>
    rw [hg, if_neg (by simp)] at HQ
    go_wp2_with fail
    go_ret2
    exact ⟨by rw [HQ.out]; simp [hg], B1.out⟩
  | true =>
    rw [hg, if_pos rfl] at HQ
    go_wp2_with fail
    refine (HP.out _ B1.out hg).mono ?_
    rintro e w2 ⟨rfl, hb⟩
    have B2 := Lib.hid (B1.out.trans (hb.mono B1.out.size))
    clear hb
    go_wp2_with fail
    refine (HS.out hg _).mono ?_
    rintro e w3 ⟨rfl, hb⟩
    have B3 := Lib.hid (B2.out.trans (hb.mono B2.out.size))
    clear hb
    go_wp2_with fail
    go_ret2
    exact ⟨by rw [HQ.out]; simp [hg], B3.out⟩
end Go.Proofs.Ytmkejgbbgknalaa
