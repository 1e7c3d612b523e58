/-
  What impl.ScheduleDivision answers. No statement of the seat by itself.
-/
import Derived.Test.YtffejbgcgagkpaaCmS
namespace Go.Proofs.Ytffejbgcgagkpaa
open Go.RowKit

theorem ShS.cell0 {w0 w wr : World} {sv : Value} {l d : List Int} {k : Nat} (h : ShS w0 w wr sv l d k) {i : Nat} (hi : i < k) : ∃ g c u, sv = .slice (some ⟨g, 0, none⟩) k c ∧ wr.cell? ⟨g, i, none⟩ = some u ∧ IL w0 u (shrC l d i) := by
  obtain ⟨⟨xs, h1, h2⟩, h3⟩ := h
  have hl := h1.1
  rcases h1.2 with ⟨_, hz⟩ | ⟨g, cap, cur, hv, hg, hbk, _⟩
  · omega
  · obtain ⟨u, hu⟩ := get_at (Y := xs) rfl (show i < xs.length by omega)
    subst hv
    exact ⟨g, cap, u, rfl, (h1.cellAt i (by omega)).trans hu, h2 i u hu⟩
theorem shrC_at {l d : List Int} {c q : Nat} (h : bdN l.length d c + q < bdN l.length d (c + 1)) : (shrC l d c)[q]? = l[bdN l.length d c + q]? := by
  unfold shrC
  rw [List.getElem?_drop, List.getElem?_take, if_pos h]

set_option maxRecDepth 100000 in
set_option maxHeartbeats 8000000 in
theorem implSch_any (v vd : Value) (l d : List Int) (c : Int) (hn : l.length ≤ 1048576) (hd : d.length ≤ 1048576) (w : World) (h : IL w v l) (hcap : ∀ a c, v = .slice a l.length c → l.length ≤ c) (h2 : IL w vd d) :
    Calls Try.prog 20 #[v, .int .i64 c, vd] w (RetCm w (schR l c d) (dvK l c d)) := by
  have R0 := Lib.hid (grCm_start w)
  have HSh := Lib.hid (shares_any v vd l d c hn hd w _ R0.out.2 h hcap (h2.below R0.out.2))
  unfold RetH at HSh
  cases hk : dvK l c d with
  | false =>
    rw [schR_no hk]
    rw [hk] at HSh
    clear h h2 hcap hk
    go_enter Try.func20, Try.ntmps20
    go_wp2_with fail
    refine HSh.out.mono ?_
    rintro e w1 ⟨sv, rfl, hy⟩
    have R1 := Lib.hid (R0.out.below hy.2)
    obtain ⟨⟨xs, hx, -⟩, -⟩ := hy
    simp only [Bool.false_eq_true, if_false] at hx
    obtain ⟨a1, c1, rfl⟩ := own_form hx
    clear hx
    go_wp2_with fail
    go_loopw [8, 11, 28] (fun s b i wr => i = .int .i64 0 ∧ b = .int .i64 0 ∧ Hid (GrCm w wr s [])) (fun _ _ _ _ => 0)
    case atStart => exact ⟨rfl, rfl, R1⟩
    case round =>
      obtain ⟨rfl, rfl, HR⟩ := hrel
      have HX := Lib.hid (HR.out.done false)
      go_wp2_with fail
      go_ret2
      exact HX.out
  | true =>
    obtain ⟨⟨hw, hc⟩, hd1, ha⟩ := dvK_iff.1 hk
    rw [schR_yes hk]
    rw [hk, if_pos rfl] at HSh
    obtain ⟨fI, hI1, hI2, hI3, hI4⟩ := info_is infoCm
    have hl10 := (wkB_iff.1 hw).1
    have HLe := Lib.hid (fun (i : Nat) (hi : i ≤ d.length) => bdN_le ha (show i < d.length + 1 by omega))
    have HLA := Lib.hid (fun (k : Nat) (hk : k ≤ d.length + 1) => mvA_le ha k hk)
    have HT := Lib.hid (fun k => wkB_sum hw k)
    have HW := Lib.hid (fun (k : Nat) (x : Int) (hx : l[k]? = some x) => wkB_get hw hx)
    have HMA := Lib.hid (fun (k : Nat) => show mvA l d (k + 1) = mvA l d k ++ mvP l k (bdN l.length d k) (bdN l.length d (k + 1) - bdN l.length d k) from rfl)
    have HAt := Lib.hid (fun (c q : Nat) => shrC_at (l := l) (d := d) (c := c) (q := q))
    have HLs := Lib.hid (fun (c : Nat) (hc : c ≤ d.length) => shrC_len ha (show c < d.length + 1 by omega))
    have Hz := Lib.hid (bdN_zero l.length d)
    have hd2 : d.length ≤ 2 := by omega
    obtain ⟨ad, cd, rfl⟩ := h2.form
    obtain ⟨n, hn2⟩ : ∃ n, l.length = n := ⟨_, rfl⟩
    have HN := Lib.hid hn2
    obtain ⟨m, hm⟩ : ∃ m, d.length = m := ⟨_, rfl⟩
    rw [hn2] at hl10 HLe HLA HMA HAt HLs Hz
    rw [hm] at HLe HLA HLs HSh hd2 ⊢
    clear h h2 hcap hk hw hd1 ha hn2 hm hd hn
    go_enter Try.func20, Try.ntmps20
    go_wp2_with fail
    generalize hW0 : w.alloc (.cells #[] 42) = w0 at *
    refine HSh.out.mono ?_
    rintro e w1 ⟨sv, rfl, hy⟩
    have R1 := Lib.hid (R0.out.below hy.2)
    have HY := Lib.hid hy
    have HB0 := Lib.hid R0.out.2
    obtain ⟨g, c1, u, rfl, -, -⟩ := hy.cell0 (i := 0) (by omega)
    clear hy
    go_wp2_with fail
    go_loopw [8, 11, 28] (fun s b i wr => ∃ k : Nat, k ≤ m + 1 ∧ i = .int .i64 k ∧ b = .int .i64 ((bdN n d k : Nat) : Int) ∧ Hid (GrCm w wr s (mvA l d k)) ∧ Hid (ShS w w wr (.slice (some ⟨g, 0, none⟩) (m + 1) c1) l d (m + 1))) (fun _ _ i _ => m + 1 - (intOf i).toNat)
    case atStart => exact ⟨0, Nat.zero_le _, rfl, by rw [Hz.out]; rfl, R1, Lib.hid (HY.out.up HB0.out)⟩
    case round =>
      obtain ⟨k, hk, rfl, rfl, HG, HB⟩ := hrel
      by_cases hlt : k < m + 1
      · obtain ⟨g', c', u, e1, o1, hil⟩ := HB.out.cell0 hlt
        injection e1 with e2 e3 e4
        injection e2 with e5
        injection e5 with e6
        subst e6
        have HIL := Lib.hid hil
        obtain ⟨b1, b2⟩ := HLe.out k (by omega)
        have hlA := HLA.out k (by omega)
        have HMk := Lib.hid (HMA.out k)
        have HLk := HLs.out k (by omega)
        have HAk := Lib.hid (fun q => HAt.out k q)
        obtain ⟨au, cu, rfl⟩ := hil.form
        rw [HLk] at HIL o1
        have HLK := Lib.hid HLk
        clear hil e3 e4 HLk
        generalize hlo : bdN n d k = lo at *
        generalize hhi : bdN n d (k + 1) = hi at *
        have HG0 : Hid (GrCm w wr u8 (mvA l d k ++ mvP l k lo 0)) := Lib.hid (by rw [mvP, List.append_nil]; exact HG.out)
        have hlo10 : lo ≤ 10 := by omega
        have Hhi := Lib.hid hhi
        clear hlo hhi
        go_wp2_with fail
        go_loopw [8, 11, 14, 35] (fun s b t i wr => ∃ (q : Nat) (z : Int), lo + q ≤ hi ∧ i = .int .i64 q ∧ b = .int .i64 ((lo + q : Nat) : Int) ∧ t = .int .i64 z ∧ Hid (z = (l.take (lo + q)).sum - (l.take lo).sum) ∧ Hid (GrCm w wr s (mvA l d k ++ mvP l k lo q)) ∧ Hid (ShS w w wr (.slice (some ⟨g, 0, none⟩) (m + 1) c1) l d (m + 1))) (fun _ _ _ i _ => hi - lo - (intOf i).toNat)
        case atStart => exact ⟨0, 0, by omega, rfl, rfl, rfl, Lib.hid (by simp), HG0, HB⟩
        case round =>
          obtain ⟨q, z, hq, rfl, rfl, rfl, HZ, HGi, HBi⟩ := hrel
          by_cases hjl : lo + q < hi
          · obtain ⟨aa, cc, e1, hcu⟩ := HIL.out
            injection e1 with e2 e3 e4
            subst e2
            obtain ⟨gu, ou, rfl, hgu, hcc⟩ := hcu (by rw [HLK.out]; omega)
            obtain ⟨x, hx⟩ := get_at HN.out (show lo + q < n by omega)
            have hx2 := (HAk.out q hjl).trans hx
            have o2 := (HGi.out.2.cell (p := ⟨gu, ou + q, none⟩) hgu).trans (hcc q x hx2)
            have hx3 := HW.out _ x hx
            have q1 := HT.out (lo + q)
            have q2 := HT.out lo
            have q3 := HZ.out
            have HZ2 : Hid (z + x = (l.take (lo + (q + 1))).sum - (l.take lo).sum) := Lib.hid (by rw [show lo + (q + 1) = lo + q + 1 by omega, sumC_take hx]; omega)
            have hz3 : -3000 ≤ z ∧ z ≤ 3000 := by omega
            have hgd : l.getD (lo + q) 0 = x := by simp [List.getD, hx]
            have hlT := mvP_len l k lo q
            have hlT2 : (mvA l d k ++ mvP l k lo q).length ≤ 20 := by rw [List.length_append]; omega
            have hqh : (q : Int) < ((hi - lo : Nat) : Int) := by omega
            clear hcu e3 e4
            by_cases hpos : 0 < x
            · have HS : Hid (mvA l d k ++ mvP l k lo (q + 1) = (mvA l d k ++ mvP l k lo q) ++ [((k : Int), ((lo + q : Nat) : Int), z, z + x)]) := Lib.hid (by rw [mvP, hgd, if_pos hpos, ← HZ.out, List.append_assoc])
              have hiq10 : lo + q ≤ 10 := by omega
              clear hcc hx hx2 q1 q2 q3 hgd hlT
              generalize mvA l d k ++ mvP l k lo q = T at *
              generalize hiq : lo + q = iq at *
              have HB1 := Lib.hid (HBi.out.below (below_one wr (.cells #[.int .i64 (k : Int), .int .i64 (iq : Int), .int .i64 z, .int .i64 (z + x)] 42)))
              have HG1 := Lib.hid (HGi.out.below (below_one wr (.cells #[.int .i64 (k : Int), .int .i64 (iq : Int), .int .i64 z, .int .i64 (z + x)] 42)))
              have hrow := HG1.out.1
              have hz := HG1.out.2.size
              have hlt8 := row_lt HGi.out.1
              have c3 : (wr.alloc (.cells #[.int .i64 (k : Int), .int .i64 (iq : Int), .int .i64 z, .int .i64 (z + x)] 42)).cell? ⟨wr.heap.size, 3, none⟩ = some (.int .i64 (z + x)) := by simp
              have hsz : (wr.alloc (.cells #[.int .i64 (k : Int), .int .i64 (iq : Int), .int .i64 z, .int .i64 (z + x)] 42)).heap.size = wr.heap.size + 1 := by simp
              have HC3 := Lib.hid c3
              clear c3
              generalize hW1 : wr.alloc (.cells #[.int .i64 (k : Int), .int .i64 (iq : Int), .int .i64 z, .int .i64 (z + x)] 42) = W1 at *
              have d0 : W1.cell? ⟨wr.heap.size, 0, none⟩ = some (.int .i64 (k : Int)) := by rw [← hW1]; simp
              have d1 : W1.cell? ⟨wr.heap.size, 1, none⟩ = some (.int .i64 (iq : Int)) := by rw [← hW1]; simp
              have d2 : W1.cell? ⟨wr.heap.size, 2, none⟩ = some (.int .i64 z) := by rw [← hW1]; simp
              have d3 : W1.cell? ⟨wr.heap.size, 3, none⟩ = some (.int .i64 (z + x)) := by rw [← hW1]; simp
              have HE3 := Lib.hid (show ∀ (w4 : World) (o : Obj), (W1.alloc o).grownBy w4 u8.ownBlock → w4.cell? ⟨wr.heap.size, 3, none⟩ = some (.int .i64 (z + x)) from fun w4 o hgrow => (World.cell?_of_block (a := ⟨wr.heap.size, 3, none⟩) (hgrow.block wr.heap.size (by simp; omega) (fun e => by have := hlt8 wr.heap.size e.symm; omega))).trans ((World.cell?_alloc_lt W1 _ ⟨wr.heap.size, 3, none⟩ (by simp only; omega)).trans d3))
              clear hsz
              go_wp2_with (at_builtin; refine wpList_append_own _ rfl _ _ 34 rfl w.heap.size 42 fI (.agg #[.int .i64 0, .int .i64 0, .int .i64 0, .int .i64 0]) 4 32 Try.underlying34 hI1 hI2 hI3 hI4 rfl (by decide) _ _ _ rfl (hrow.alloc _) ⟨W1.heap.size, 0, none⟩ 1 1 [.int .i64 (k : Int), .int .i64 (iq : Int), .int .i64 z, .int .i64 (z + x)] rfl rfl (four_newCm _ _ _ _ _ _) (by simp [Value.oneCell']) (by unfold maxLen; omega) (by omega) (by simp; omega) ?_; intro v' w4 hown' hgrow hnil; have HOW := Lib.hid hown'; have HGW := Lib.hid hgrow; have e3 := HE3.out w4 _ hgrow; clear hown' hgrow hnil)
              clear d0 d1 d2 d3
              have HN4 : Hid (GrCm w w4 v' (mvA l d k ++ mvP l k lo (q + 1))) := Lib.hid (by rw [HS.out]; exact HG1.out.push HOW.out HGW.out)
              have HB4 := Lib.hid (HB1.out.moves HG1.out.1 (Nat.le_refl _) HGW.out)
              clear HOW HGW
              go_quiet (fail)
              go_wp2_with fail
              exact ⟨⟨q + 1, z + x, by omega, by go_num, by rw [← hiq]; go_num, rfl, HZ2, Lib.hid (HN4.out.below (below_drewN (Below.refl _ _) _)), Lib.hid (HB4.out.below (below_drewN (Below.refl _ _) _))⟩, by simp [intOf]; omega⟩
            · have hx0 : x = 0 := by omega
              subst hx0
              have HS : Hid (mvA l d k ++ mvP l k lo (q + 1) = mvA l d k ++ mvP l k lo q) := Lib.hid (by rw [mvP, hgd, if_neg hpos, List.append_nil])
              have hiq10 : lo + q ≤ 10 := by omega
              clear hcc hx hx2 q1 q2 q3 hgd hlT
              generalize mvA l d k ++ mvP l k lo q = T at *
              generalize hiq : lo + q = iq at *
              have HB1 := Lib.hid (HBi.out.below (below_one wr (.cells #[.int .i64 (k : Int), .int .i64 (iq : Int), .int .i64 z, .int .i64 (z + 0)] 42)))
              have HG1 : Hid (GrCm w (wr.alloc (.cells #[.int .i64 (k : Int), .int .i64 (iq : Int), .int .i64 z, .int .i64 (z + 0)] 42)) u8 (mvA l d k ++ mvP l k lo (q + 1))) := Lib.hid (by rw [HS.out]; exact HGi.out.below (below_one wr _))
              simp only [Int.add_zero] at HB1 HG1
              go_wp2_with fail
              go_quiet (fail)
              go_wp2_with fail
              exact ⟨⟨q + 1, z + 0, by omega, by go_num, by rw [← hiq]; go_num, by simp, HZ2, Lib.hid (HG1.out.below (below_drewN (Below.refl _ _) _)), Lib.hid (HB1.out.below (below_drewN (Below.refl _ _) _))⟩, by simp [intOf]; omega⟩
          · have e : q = hi - lo := by omega
            subst e
            have HG2 : Hid (GrCm w wr u8 (mvA l d (k + 1))) := Lib.hid (by rw [HMk.out]; exact HGi.out)
            go_wp2_with fail
            exact ⟨⟨k + 1, by omega, by go_num, by rw [Hhi.out]; congr 2; omega, HG2, HBi⟩, by simp [intOf]; omega⟩
      · obtain rfl : k = m + 1 := by omega
        have HX := Lib.hid (HG.out.done true)
        go_wp2_with fail
        go_ret2
        exact HX.out
end Go.Proofs.Ytffejbgcgagkpaa
