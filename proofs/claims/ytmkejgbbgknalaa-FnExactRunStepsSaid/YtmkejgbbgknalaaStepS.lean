/-
  What spec.l6Step returns in a valid yard. No statement of the seat by itself.
-/
import Derived.Test.YtmkejgbbgknalaaStepM
import Derived.Test.YtmkejgbbgknalaaMoveO
namespace Go.Proofs.Ytmkejgbbgknalaa
open Go.RowKit

theorem step_none {Y : List (List Int)} {b t : Int} (hg : goodY Y = true) (h : placeY Y b = none) : stepOk Y b t = false := by
  have hp := (plO_good (x := b) hg).trans h
  by_cases ht : t = -1
  · subst ht
    rw [stepOk_take]
    exact (take_no (tkO_none hp)).2
  · rw [stepOk_move ht]
    simp [plB, hp]
theorem top_is {l : List Int} {k : Nat} {b : Int} (hk : k + 1 = l.length) (h : l[k]? = some b) : topL l = b := by
  unfold topL
  rw [if_neg (by omega), show l.length - 1 = k by omega]
  simp [List.getD, h]
theorem step_low {Y : List (List Int)} {b t : Int} {i k : Nat} {l : List Int} (hg : goodY Y = true) (h : placeY Y b = some (i, k)) (hl : Y[i]? = some l) (hk : ¬ k + 1 = l.length) : stepOk Y b t = false := by
  have hp := (plO_good (x := b) hg).trans h
  by_cases ht : t = -1
  · subst ht
    rw [stepOk_take]
    exact (take_no (tkO_not hp hl hk)).2
  · rw [stepOk_move ht]
    have hpi : plI Y b = (i : Int) := by simp [plI, hp]
    rw [hpi]
    cases hm : okM Y (i : Int) t with
    | false => simp
    | true =>
      have hx := (move_yes hm).2
      simp only [Int.toNat_natCast, getD_of hl] at hx
      rw [hx]
      have : ¬ topL l = b := fun e => by
        obtain ⟨_, _, _, h4, _⟩ := okM_iff.1 hm
        simp only [Int.toNat_natCast, getD_of hl] at h4
        obtain ⟨y, hy⟩ := get_at (Y := l) rfl (show l.length - 1 < l.length by omega)
        have e2 := top_is (k := l.length - 1) (by omega) hy
        rw [e] at e2
        subst e2
        have := place_only hg hl hy
        rw [h] at this
        injection this with this
        injection this with _ h5
        omega
      simp [this]
theorem step_take {Y : List (List Int)} {b : Int} {i k : Nat} {l : List Int} (hg : goodY Y = true) (h : placeY Y b = some (i, k)) (hl : Y[i]? = some l) (hk : k + 1 = l.length) : stepOk Y b (-1) = true ∧ stepR Y b (-1) = Y.set i (l.take k) := by
  have hp := (plO_good (x := b) hg).trans h
  have := take_yes (tkO_yes hp hl hk) hl
  exact ⟨by rw [stepOk_take]; exact this.2, by rw [stepR_take]; exact this.1⟩
theorem step_move {Y : List (List Int)} {b t : Int} {i k : Nat} {l : List Int} (hg : goodY Y = true) (h : placeY Y b = some (i, k)) (hl : Y[i]? = some l) (hk : k + 1 = l.length) (ht : t ≠ -1) :
    (stepOk Y b t = true ↔ 0 ≤ t ∧ t < (Y.length : Int) ∧ t ≠ (i : Int) ∧ (Y.getD t.toNat []).length ≠ 4) := by
  have hp := (plO_good (x := b) hg).trans h
  have hi := lt_of_get hl
  obtain ⟨l', hl', hat⟩ := place_inv h
  rw [hl] at hl'
  cases hl'
  have hpi : plI Y b = (i : Int) := by simp [plI, hp]
  have hpb : plB Y b = true := by simp [plB, hp]
  rw [stepOk_move ht, hpi, hpb, Bool.true_and, Bool.and_eq_true, decide_eq_true_eq]
  have htop := top_is hk (atL_get hat)
  constructor
  · rintro ⟨h1, h2⟩
    obtain ⟨_, h4, h5, _, h6⟩ := okM_iff.1 h1
    obtain ⟨_, h7, h8⟩ := okS_iff.1 h4
    exact ⟨h7, h8, fun e => h5 e.symm, h6⟩
  · rintro ⟨h1, h2, h3, h4⟩
    have hm : okM Y (i : Int) t = true := okM_iff.2 ⟨okS_iff.2 ⟨hg, by omega, by omega⟩, okS_iff.2 ⟨hg, h1, h2⟩, fun e => h3 e.symm, by simp only [Int.toNat_natCast, getD_of hl]; omega, h4⟩
    refine ⟨hm, ?_⟩
    rw [(move_yes hm).2]
    simp only [Int.toNat_natCast, getD_of hl]
    exact htop
theorem step_moved {Y : List (List Int)} {b : Int} {i j k : Nat} {l : List Int} (hg : goodY Y = true) (h : placeY Y b = some (i, k)) (hl : Y[i]? = some l) (hk : k + 1 = l.length) (ho : stepOk Y b (j : Int) = true) :
    stepR Y b (j : Int) = putY (Y.set i (l.take k)) j b := by
  have hp := (plO_good (x := b) hg).trans h
  obtain ⟨l', hl', hat⟩ := place_inv h
  rw [hl] at hl'
  cases hl'
  have ht : (j : Int) ≠ -1 := by omega
  have hpi : plI Y b = (i : Int) := by simp [plI, hp]
  have hpb : plB Y b = true := by simp [plB, hp]
  rw [stepR_move ht ho]
  rw [stepOk_move ht, hpi, hpb, Bool.true_and, Bool.and_eq_true, decide_eq_true_eq] at ho
  rw [hpi, (move_yes ho.1).1]
  unfold moveZ
  simp only [Int.toNat_natCast, getD_of hl]
  rw [top_is hk (atL_get hat), show l.length - 1 = k by omega]
/-- Whether it worked, and then a yard of the call's own. -/
def SeenY (w : World) (R : List (List Int)) (ok : Bool) (e : Ending) (w' : World) : Prop := ∃ a m c, e = .returned (.tuple #[.agg #[.slice a m c], .bool ok]) ∧ (ok = true → m = R.length ∧ OwnY w' w.heap.size w'.heap.size (.slice a m c) R) ∧ Below w.heap.size w w'
theorem take_stored {w3 : World} {B hi g n c s k m : Nat} {a : Option Addr} {c4 : Nat} {Y : List (List Int)} {l : List Int} (h : OwnY w3 B hi (.slice (some ⟨g, 0, none⟩) n c) Y) (hl : Y[s]? = some l) (hm : l.length = m) (hk : k < m) (hu : w3.cell? ⟨g, s, none⟩ = some (.slice a m c4)) :
    OwnY (w3.setCell ⟨g, s, none⟩ (.slice a k c4)) B w3.heap.size (.slice (some ⟨g, 0, none⟩) n c) (Y.set s (l.take k)) ∧ m ≤ c4 ∧ w3.frozen? ⟨g, s, none⟩ = false ∧ B ≤ g ∧ g < hi := by
  obtain ⟨u2, hu2, hfz, hou, hub⟩ := h.cell hl
  rw [hu] at hu2
  cases hu2
  rw [hm] at hou
  obtain ⟨hmc, ht⟩ := own_take hou hk
  have hgb : B ≤ g ∧ g < hi := by
    obtain ⟨_, hlt, us, h3, _⟩ := h
    exact ⟨row_base h3 g rfl, hlt g rfl⟩
  have hlk : (l.take k).length = k := by rw [List.length_take]; omega
  have hr := h.repl (w' := w3) (l' := l.take k) (u' := .slice a k c4) (lt_of_get hl) hu ⟨rfl, rfl, rfl, Nat.le_refl _, fun _ _ _ => rfl⟩ (by rw [hlk]; exact ht) fun b hb => .inl (by
    have e : (Value.slice a k c4).ownBlock = (Value.slice a m c4).ownBlock := by cases a <;> rfl
    rw [← e]; exact hb)
  exact ⟨hr.1, hmc, hfz, hgb⟩

set_option maxRecDepth 100000 in
set_option maxHeartbeats 8000000 in
theorem specStep_any (v : Value) (Y : List (List Int)) (b t : Int) (h1 : Y.length ≤ 1048576) (h2 : tot Y ≤ 1048576) (hg : goodY Y = true) (w : World) (h : YdR w v Y) :
    Calls Try.prog 102 #[v, .agg #[.int .i64 b, .int .i64 t]] w (SeenY w (stepR Y b t) (stepOk Y b t)) := by
  obtain ⟨v0, rfl, hv⟩ := h
  have HV := Lib.hid hv
  have F0 := Lib.hid (Fr3.start w v0 b t)
  have H1 := Lib.hid h1
  have H2 := Lib.hid h2
  have HG := Lib.hid hg
  have HF : Hid (∀ W, Below w.heap.size w W → Calls Try.prog 92 #[.agg #[v0], .int .i64 b] W (RetP W (findV Y b))) := Lib.hid fun W hb => l5Find_any _ Y _ H1.out H2.out W ⟨v0, rfl, HV.out.below hb⟩
  obtain ⟨c0, c1, c2⟩ := F0.out.c
  clear hv h1 h2 hg
  cases hpl : placeY Y b with
  | none =>
    have hn := step_none (t := t) HG.out hpl
    rw [hn]
    rw [findV_none hpl] at HF
    obtain ⟨a0, cap0, rfl⟩ := HV.out.form
    obtain ⟨n, hn⟩ : ∃ n, Y.length = n := ⟨_, rfl⟩
    have HN := Lib.hid hn
    rw [hn] at F0 c0 HF
    rw [hn]
    clear hpl hn
    go_enter Try.func102, Try.ntmps102
    go_wp2_with fail
    generalize ((w.alloc (.cells #[.slice a0 n cap0] 28)).alloc (.cells #[.int .i64 b, .int .i64 t] 80)).alloc (.cells #[.slice none 0 0] 28) = W at *
    refine (HF.out W F0.out.bl).mono ?_
    rintro e w1 ⟨rfl, hb⟩
    have F1 := Lib.hid (F0.out.below hb)
    clear hb c0 c1 c2
    obtain ⟨c0, c1, c2⟩ := F1.out.c
    obtain ⟨z0, f0⟩ := F1.out.z
    have e7 := World.cell?_setCell_same _ _ (.slice a0 n cap0) z0
    have HB7 := Lib.hid (F1.out.bl.setCell (p := ⟨w.heap.size + 1 + 1, 0, none⟩) (by show w.heap.size ≤ w.heap.size + 1 + 1; omega) (.slice a0 n cap0))
    go_wp2_with fail
    refine bodyPost_ret (v := .tuple #[.agg #[.slice a0 n cap0], .bool false]) (by simp [results, Try.results102, go_sem, e7]) rfl ?_
    exact ⟨_, _, _, rfl, (by nofun), HB7.out⟩
  | some p =>
    obtain ⟨i, k⟩ := p
    obtain ⟨l, hl, hat⟩ := place_inv hpl
    have hkl := lt_of_get (atL_get hat)
    have HPL := Lib.hid hpl
    have HAT := Lib.hid hat
    rw [findV_some hpl] at HF
    obtain ⟨a0, cap0, rfl, hc⟩ := HV.out
    obtain ⟨g0, off0, rfl, hg0, hcc⟩ := hc (by have := lt_of_get hl; omega)
    obtain ⟨n, hn⟩ : ∃ n, Y.length = n := ⟨_, rfl⟩
    have HN := Lib.hid hn
    have hin : i < n := by have := lt_of_get hl; omega
    have hn6 : n ≤ 6 := by have := (good_small HG.out).1; omega
    obtain ⟨u0, hu0, hil⟩ := hcc i l hl
    obtain ⟨b0, d0, rfl⟩ := hil.form
    obtain ⟨m, hm⟩ : ∃ m, l.length = m := ⟨_, rfl⟩
    have hm4 : m ≤ 4 := by have := (goodY_iff.1 HG.out).2.2.1 l (List.mem_of_getElem? hl); omega
    have HL := Lib.hid hl
    have HM := Lib.hid hm
    have HC := Lib.hid hcc
    rw [hm] at hu0 hkl
    have HU0 := Lib.hid hu0
    have hi0 : decide ((i : Int) < 0) = false := by simp
    have hi1 : ¬ (i : Int) < 0 := by omega
    rw [hn] at F0 c0 c1 c2 HF
    rw [hn]
    clear hpl hl hat hc hcc hu0 hil hm hn
    by_cases hkm : k + 1 = m
    · have hd := dif_true hkm
      have hd2 : ((k : Int) != (m : Int) - 1) = false := by simp [bne, hd]
      have hkm2 : k < m := by omega
      by_cases ht : t = -1
      · subst ht
        have hs := step_take HG.out HPL.out HL.out (by rw [HM.out]; exact hkm)
        rw [hs.1, hs.2]
        have HCp : Hid (∀ W, Below w.heap.size w W → Calls Try.prog 63 #[.agg #[.slice (some ⟨g0, off0, none⟩) n cap0]] W (NewYd W Y)) := Lib.hid fun W hb => l5Own_any _ Y H1.out H2.out W ⟨_, rfl, by have := HV.out.below hb; rw [HN.out] at this; exact this⟩
        unfold NewYd at HCp
        rw [HN.out] at HCp
        have HPLn : Hid ((Y.set i (l.take k)).length = n) := Lib.hid (by rw [List.length_set]; exact HN.out)
        clear hs
        go_enter Try.func102, Try.ntmps102
        go_wp2_with fail
        generalize ((w.alloc (.cells #[.slice (some ⟨g0, off0, none⟩) n cap0] 28)).alloc (.cells #[.int .i64 b, .int .i64 (-1)] 80)).alloc (.cells #[.slice none 0 0] 28) = W at *
        refine (HF.out W F0.out.bl).mono ?_
        rintro e w1 ⟨rfl, hb⟩
        have F1 := Lib.hid (F0.out.below hb)
        clear hb c0 c1 c2
        obtain ⟨c0, c1, c2⟩ := F1.out.c
        have hu1 := (F1.out.bl.cell (p := ⟨g0, off0 + i, none⟩) hg0).trans HU0.out
        go_wp2_with fail
        refine (HCp.out _ F1.out.bl).mono ?_
        rintro e w2 ⟨a2, cc2, rfl, ho, hb⟩
        obtain ⟨g, cap, e⟩ := ho.rows (by have := HN.out; omega)
        injection e with e1 e2 e3
        subst e1 e3
        have F2 := Lib.hid (F1.out.below hb)
        have O2 := Lib.hid ho
        have HZ1 := Lib.hid F1.out.lt
        clear hb ho c0 c1 c2 e2 hu1
        obtain ⟨c0, c1, c2⟩ := F2.out.c
        go_wp2_with fail
        have hb3 := below_one w2 (.cells #[.slice (some ⟨g, 0, none⟩) n cc2] 28)
        have F3 := Lib.hid (F2.out.below hb3)
        have BO := Lib.hid (Box1.new w2 (.slice (some ⟨g, 0, none⟩) n cc2) 28)
        have O3 := Lib.hid (O2.out.below hb3)
        clear hb3 c0 c1 c2
        generalize w2.alloc (.cells #[.slice (some ⟨g, 0, none⟩) n cc2] 28) = w3 at *
        obtain ⟨u, hu, hfu, hou, -⟩ := O3.out.cell HL.out
        obtain ⟨a4, c4, rfl⟩ := own_form hou
        rw [HM.out] at hu
        have cO := BO.out.2
        obtain ⟨tO, hmc, -, hB1, hB2⟩ := take_stored (w3 := w3.drew) (O3.out.below (Below.refl _ w3).drew) HL.out HM.out hkm2 hu
        have hkc : (k : Int) ≤ (c4 : Int) := by omega
        have HP : Hid (OwnY (w3.drew.setCell ⟨g, i, none⟩ (.slice a4 k c4)) w1.heap.size (w3.drew.setCell ⟨g, i, none⟩ (.slice a4 k c4)).heap.size (.slice (some ⟨g, 0, none⟩) n cc2) (Y.set i (l.take k)) ∧ Fr3 w (w3.drew.setCell ⟨g, i, none⟩ (.slice a4 k c4)) (.slice (some ⟨g0, off0, none⟩) n cap0) b (-1) ∧ Box1 (w3.drew.setCell ⟨g, i, none⟩ (.slice a4 k c4)) w2.heap.size (.slice (some ⟨g, 0, none⟩) n cc2)) := Lib.hid (by
          have hb1 : Below w1.heap.size w3 (w3.drew.setCell ⟨g, i, none⟩ (.slice a4 k c4)) := ((Below.refl _ w3).drew).setCell (p := ⟨g, i, none⟩) hB1 _
          have hlt := F1.out.lt
          refine ⟨tO.mono (Nat.le_refl _) (by simp) (Nat.le_refl _), ⟨?_, ?_, ?_, ?_⟩, ?_, ?_⟩
          · exact F3.out.bl.trans (hb1.mono (by omega))
          · exact (hb1.block _ (by omega)).trans F3.out.a
          · exact (hb1.block _ (by omega)).trans F3.out.s
          · exact (hb1.block _ (by omega)).trans F3.out.r
          · have := BO.out.1; simpa using this
          · rw [set_cell_ne _ _ _ _ _ _ (by omega)]; exact BO.out.2)
        clear hou tO hB1 hB2
        go_wp2_with fail
        go_cut [] from 35 (fun w6 => Hid (OwnY w6 w1.heap.size w6.heap.size (.slice (some ⟨g, 0, none⟩) n cc2) (Y.set i (l.take k)) ∧ Fr3 w w6 (.slice (some ⟨g0, off0, none⟩) n cap0) b (-1) ∧ Box1 w6 w2.heap.size (.slice (some ⟨g, 0, none⟩) n cc2)))
        case first =>
          go_region_law (fail)
          all_goals
            go_wp2_with fail
            go_meet
            exact HP
        case rest =>
          obtain ⟨y6, f6, b6⟩ := hcut.out
          have Y6 := Lib.hid y6
          have F6 := Lib.hid f6
          have cO6 := b6.2
          obtain ⟨z0, f0⟩ := f6.z
          have e7 := World.cell?_setCell_same _ _ (.slice (some ⟨g, 0, none⟩) n cc2) z0
          clear y6 f6 b6 hcut hu hfu cO
          go_wp2_with fail
          refine bodyPost_ret (v := .tuple #[.agg #[.slice (some ⟨g, 0, none⟩) n cc2], .bool true]) (by simp [results, Try.results102, go_sem, e7]) rfl ⟨_, _, _, rfl, fun _ => ⟨HPLn.out.symm, ?_⟩, F6.out.bl.setCell (p := ⟨w.heap.size + 1 + 1, 0, none⟩) (by show w.heap.size ≤ w.heap.size + 1 + 1; omega) _⟩
          exact owny_set Y6.out HZ1.out (by have := HZ1.out; omega) (Nat.le_refl _)
      · have HI := Lib.hid (fun W => l1In_any t 0 ((n : Int) - 1) W)
        have hsm := step_move HG.out HPL.out HL.out (by rw [HM.out]; exact hkm) ht
        rw [HN.out] at hsm
        have hte : (t == -1) = false := by simpa using ht
        by_cases hin2 : 0 ≤ t ∧ t < (n : Int)
        case neg =>
          have hs : stepOk Y b t = false := by
            cases hs : stepOk Y b t with
            | false => rfl
            | true => exact absurd ⟨(hsm.1 hs).1, (hsm.1 hs).2.1⟩ hin2
          rw [hs]
          rw [decide_eq_false (by omega)] at HI
          clear hs hsm hin2
          go_enter Try.func102, Try.ntmps102
          go_wp2_with fail
          generalize ((w.alloc (.cells #[.slice (some ⟨g0, off0, none⟩) n cap0] 28)).alloc (.cells #[.int .i64 b, .int .i64 t] 80)).alloc (.cells #[.slice none 0 0] 28) = W at *
          refine (HF.out W F0.out.bl).mono ?_
          rintro e w1 ⟨rfl, hb⟩
          have F1 := Lib.hid (F0.out.below hb)
          clear hb c0 c1 c2
          obtain ⟨c0, c1, c2⟩ := F1.out.c
          have hu1 := (F1.out.bl.cell (p := ⟨g0, off0 + i, none⟩) hg0).trans HU0.out
          go_wp2_with fail
          refine (HI.out _).mono ?_
          rintro e w2 ⟨rfl, rfl⟩
          have HB7 := Lib.hid (F1.out.bl.setCell (p := ⟨w.heap.size + 1 + 1, 0, none⟩) (by show w.heap.size ≤ w.heap.size + 1 + 1; omega) (.slice (some ⟨g0, off0, none⟩) n cap0))
          obtain ⟨z0, f0⟩ := F1.out.z
          have e7 := World.cell?_setCell_same _ _ (.slice (some ⟨g0, off0, none⟩) n cap0) z0
          go_wp2_with fail
          refine bodyPost_ret (v := .tuple #[.agg #[.slice (some ⟨g0, off0, none⟩) n cap0], .bool false]) (by simp [results, Try.results102, go_sem, e7]) rfl ?_
          exact ⟨_, _, _, rfl, (by nofun), HB7.out⟩
        obtain ⟨j, rfl⟩ : ∃ j : Nat, t = (j : Int) := ⟨t.toNat, by omega⟩
        have hjn : j < n := by omega
        rw [decide_eq_true (by omega)] at HI
        obtain ⟨lt, hlt⟩ := get_at HN.out hjn
        obtain ⟨u1, hut, hil1⟩ := HC.out j lt hlt
        obtain ⟨b3, d3, rfl⟩ := hil1.form
        have hp4 : lt.length ≤ 4 := (goodY_iff.1 HG.out).2.2.1 lt (List.mem_of_getElem? hlt)
        obtain ⟨p, hp⟩ : ∃ p, lt.length = p := ⟨_, rfl⟩
        rw [hp] at hut hp4
        have HT := Lib.hid hut
        simp only [Int.toNat_natCast, getD_of hlt, hp] at hsm
        have HLT := Lib.hid hlt
        have HPP := Lib.hid hp
        clear hut hil1 hlt hp hin2
        by_cases hij : i = j
        case pos =>
          have hs : stepOk Y b (j : Int) = false := by
            cases hs : stepOk Y b (j : Int) with
            | false => rfl
            | true => exact absurd (by rw [hij]) (hsm.1 hs).2.2.1
          rw [hs]
          have hb1 : ((j : Int) == (i : Int)) = true := by rw [beq_iff_eq, hij]
          clear hs hsm hij
          go_enter Try.func102, Try.ntmps102
          go_wp2_with fail
          generalize ((w.alloc (.cells #[.slice (some ⟨g0, off0, none⟩) n cap0] 28)).alloc (.cells #[.int .i64 b, .int .i64 (j : Int)] 80)).alloc (.cells #[.slice none 0 0] 28) = W at *
          refine (HF.out W F0.out.bl).mono ?_
          rintro e w1 ⟨rfl, hb⟩
          have F1 := Lib.hid (F0.out.below hb)
          clear hb c0 c1 c2
          obtain ⟨c0, c1, c2⟩ := F1.out.c
          have hu1 := (F1.out.bl.cell (p := ⟨g0, off0 + i, none⟩) hg0).trans HU0.out
          go_wp2_with fail
          refine (HI.out _).mono ?_
          rintro e w2 ⟨rfl, rfl⟩
          have HB7 := Lib.hid (F1.out.bl.setCell (p := ⟨w.heap.size + 1 + 1, 0, none⟩) (by show w.heap.size ≤ w.heap.size + 1 + 1; omega) (.slice (some ⟨g0, off0, none⟩) n cap0))
          obtain ⟨z0, f0⟩ := F1.out.z
          have e7 := World.cell?_setCell_same _ _ (.slice (some ⟨g0, off0, none⟩) n cap0) z0
          go_wp2_with fail
          refine bodyPost_ret (v := .tuple #[.agg #[.slice (some ⟨g0, off0, none⟩) n cap0], .bool false]) (by simp [results, Try.results102, go_sem, e7]) rfl ?_
          exact ⟨_, _, _, rfl, (by nofun), HB7.out⟩
        have hb1 : ((j : Int) == (i : Int)) = false := by rw [beq_eq_false_iff_ne]; omega
        by_cases hp0 : p = 4
        case pos =>
          have hs : stepOk Y b (j : Int) = false := by
            cases hs : stepOk Y b (j : Int) with
            | false => rfl
            | true => exact absurd hp0 (hsm.1 hs).2.2.2
          rw [hs]
          subst hp0
          clear hs hsm
          go_enter Try.func102, Try.ntmps102
          go_wp2_with fail
          generalize ((w.alloc (.cells #[.slice (some ⟨g0, off0, none⟩) n cap0] 28)).alloc (.cells #[.int .i64 b, .int .i64 (j : Int)] 80)).alloc (.cells #[.slice none 0 0] 28) = W at *
          refine (HF.out W F0.out.bl).mono ?_
          rintro e w1 ⟨rfl, hb⟩
          have F1 := Lib.hid (F0.out.below hb)
          clear hb c0 c1 c2
          obtain ⟨c0, c1, c2⟩ := F1.out.c
          have hu1 := (F1.out.bl.cell (p := ⟨g0, off0 + i, none⟩) hg0).trans HU0.out
          have hu2 := (F1.out.bl.cell (p := ⟨g0, off0 + j, none⟩) hg0).trans HT.out
          go_wp2_with fail
          refine (HI.out _).mono ?_
          rintro e w2 ⟨rfl, rfl⟩
          have HB7 := Lib.hid (F1.out.bl.setCell (p := ⟨w.heap.size + 1 + 1, 0, none⟩) (by show w.heap.size ≤ w.heap.size + 1 + 1; omega) (.slice (some ⟨g0, off0, none⟩) n cap0))
          obtain ⟨z0, f0⟩ := F1.out.z
          have e7 := World.cell?_setCell_same _ _ (.slice (some ⟨g0, off0, none⟩) n cap0) z0
          go_wp2_with fail
          refine bodyPost_ret (v := .tuple #[.agg #[.slice (some ⟨g0, off0, none⟩) n cap0], .bool false]) (by simp [results, Try.results102, go_sem, e7]) rfl ?_
          exact ⟨_, _, _, rfl, (by nofun), HB7.out⟩
        have hs : stepOk Y b (j : Int) = true := hsm.2 ⟨by omega, by omega, by omega, hp0⟩
        rw [hs]
        rw [step_moved HG.out HPL.out HL.out (by rw [HM.out]; exact hkm) hs]
        have hp0b : ((p : Int) == 4) = false := by rw [beq_eq_false_iff_ne]; omega
        have HMv : Hid (∀ W, Below w.heap.size w W → Calls Try.prog 98 #[.agg #[.slice (some ⟨g0, off0, none⟩) n cap0], .int .i64 (i : Int), .int .i64 (j : Int)] W (NewYd W (putY (Y.set i (l.take k)) j b))) := Lib.hid fun W hb => l5Move_any _ Y i j k p l lt b H1.out H2.out (by rw [HN.out]; exact hn6) HL.out (by rw [HM.out]; omega) (by omega) (atL_get HAT.out) hij HLT.out HPP.out hp4 W ⟨_, rfl, by have := HV.out.below hb; rw [HN.out] at this; exact this⟩
        unfold NewYd at HMv
        have HPLn : Hid ((putY (Y.set i (l.take k)) j b).length = n) := Lib.hid (by rw [putY_len, List.length_set]; exact HN.out)
        rw [HPLn.out] at HMv
        generalize putY (Y.set i (l.take k)) j b = Z at *
        clear hs hsm
        go_enter Try.func102, Try.ntmps102
        go_wp2_with fail
        generalize ((w.alloc (.cells #[.slice (some ⟨g0, off0, none⟩) n cap0] 28)).alloc (.cells #[.int .i64 b, .int .i64 (j : Int)] 80)).alloc (.cells #[.slice none 0 0] 28) = W at *
        refine (HF.out W F0.out.bl).mono ?_
        rintro e w1 ⟨rfl, hb⟩
        have F1 := Lib.hid (F0.out.below hb)
        clear hb c0 c1 c2
        obtain ⟨c0, c1, c2⟩ := F1.out.c
        have hu1 := (F1.out.bl.cell (p := ⟨g0, off0 + i, none⟩) hg0).trans HU0.out
        have hu2 := (F1.out.bl.cell (p := ⟨g0, off0 + j, none⟩) hg0).trans HT.out
        go_wp2_with fail
        refine (HI.out _).mono ?_
        rintro e w2 ⟨rfl, rfl⟩
        go_wp2_with fail
        refine (HMv.out _ F1.out.bl).mono ?_
        rintro e w2 ⟨a9, c9, rfl, ho, hb⟩
        have F2 := Lib.hid (F1.out.below hb)
        have O2 := Lib.hid ho
        have HZ1 := Lib.hid F1.out.lt
        clear hb ho c0 c1 c2 hu1 hu2
        obtain ⟨z0, f0⟩ := F2.out.z
        have e7 := World.cell?_setCell_same _ _ (.slice a9 n c9) z0
        go_wp2_with fail
        refine bodyPost_ret (v := .tuple #[.agg #[.slice a9 n c9], .bool true]) (by simp [results, Try.results102, go_sem, e7]) rfl ?_
        exact ⟨_, _, _, rfl, fun _ => ⟨HPLn.out.symm, owny_set O2.out HZ1.out (by have := HZ1.out; omega) (Nat.le_refl _)⟩, F2.out.bl.setCell (p := ⟨w.heap.size + 1 + 1, 0, none⟩) (by show w.heap.size ≤ w.heap.size + 1 + 1; omega) _⟩
    · have hd := dif_false hkm
      have hd2 : ((k : Int) != (m : Int) - 1) = true := by simp [bne, hd]
      have hs := step_low (t := t) HG.out HPL.out HL.out (by rw [HM.out]; exact hkm)
      rw [hs]
      clear hs
      go_enter Try.func102, Try.ntmps102
      go_wp2_with fail
      generalize ((w.alloc (.cells #[.slice (some ⟨g0, off0, none⟩) n cap0] 28)).alloc (.cells #[.int .i64 b, .int .i64 t] 80)).alloc (.cells #[.slice none 0 0] 28) = W at *
      refine (HF.out W F0.out.bl).mono ?_
      rintro e w1 ⟨rfl, hb⟩
      have F1 := Lib.hid (F0.out.below hb)
      clear hb c0 c1 c2
      obtain ⟨c0, c1, c2⟩ := F1.out.c
      have hu1 := (F1.out.bl.cell (p := ⟨g0, off0 + i, none⟩) hg0).trans HU0.out
      obtain ⟨z0, f0⟩ := F1.out.z
      have e7 := World.cell?_setCell_same _ _ (.slice (some ⟨g0, off0, none⟩) n cap0) z0
      have HB7 := Lib.hid (F1.out.bl.setCell (p := ⟨w.heap.size + 1 + 1, 0, none⟩) (by show w.heap.size ≤ w.heap.size + 1 + 1; omega) (.slice (some ⟨g0, off0, none⟩) n cap0))
      go_wp2_with fail
      refine bodyPost_ret (v := .tuple #[.agg #[.slice (some ⟨g0, off0, none⟩) n cap0], .bool false]) (by simp [results, Try.results102, go_sem, e7]) rfl ?_
      exact ⟨_, _, _, rfl, (by nofun), HB7.out⟩
end Go.Proofs.Ytmkejgbbgknalaa
