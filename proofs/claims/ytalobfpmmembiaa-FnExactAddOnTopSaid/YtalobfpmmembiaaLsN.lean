/-
  What the two LashingsNeeded return. No statement of the seat by itself.
-/
import Derived.Test.YtalobfpmmembiaaLsFS
namespace Go.Proofs.Ytalobfpmmembiaa
open Go.RowKit

/-- While lashings are collected beside a list of forces. -/
def NeS (w wr : World) (a b c : Int) (sv fv : Value) (S F : List Int) : Prop := FoS w wr a b c sv S ∧ (∃ B, wr.ownsRow B 3 1 fv F.length (intV F)) ∧ ∀ g, sv.ownBlock = some g → fv.ownBlock ≠ some g
section
variable {w wr w' w4 : World} {a b c : Int} {sv fv v' : Value} {S F : List Int}
theorem NeS.below (h : NeS w wr a b c sv fv S F) (hb : Below wr.heap.size wr w') : NeS w w' a b c sv fv S F := by
  obtain ⟨h1, ⟨B, h2⟩, h3⟩ := h
  exact ⟨h1.below hb, ⟨B, row_below h2 hb⟩, h3⟩
theorem NeS.drew (h : NeS w wr a b c sv fv S F) : NeS w wr.drew a b c sv fv S F := h.below ⟨rfl, rfl, rfl, Nat.le_refl _, fun _ _ => rfl⟩
theorem NeS.start {B : Nat} (h : FoS w wr a b c sv S) (hb : Below wr.heap.size wr w') (hB : wr.heap.size ≤ B) (ho : w'.ownsRow B 3 1 fv F.length (intV F)) : NeS w w' a b c sv fv S F :=
  ⟨h.below hb, ⟨B, ho⟩, fun g hg e => by have := row_lt h.1 g hg; have := row_base ho g e; omega⟩
theorem NeS.push {x : Int} {o : Obj} (h : NeS w wr a b c sv fv S F) (ho : w4.ownsRow (w.heap.size + 1) 3 1 v' (S.length + 1) (intV S ++ [.int .i64 x])) (hg : (wr.alloc o).grownBy w4 sv.ownBlock) (hat : v'.ownBlock = sv.ownBlock ∨ v'.ownBlock = some (wr.alloc o).heap.size) : NeS w w4 a b c v' fv (S ++ [x]) F := by
  obtain ⟨h1, ⟨B, h2⟩, h3⟩ := h
  have hb := below_one wr o
  have h2' := row_below h2 hb
  refine ⟨h1.push ho hg, ⟨B, h2'.kept hg ?_⟩, fun g hg2 e => ?_⟩
  · cases hf : fv.ownBlock with
    | none => exact .inl rfl
    | some g => exact .inr fun e => h3 g e.symm hf
  · rcases hat with q | q
    · exact h3 g (q ▸ hg2) e
    · have := row_lt h2' g e
      rw [q] at hg2
      injection hg2 with hg2
      omega
theorem NeS.cell (h : NeS w wr a b c sv fv S F) {k : Nat} {x : Int} (hx : F[k]? = some x) : ∃ g o cf, fv = .slice (some ⟨g, o, none⟩) F.length cf ∧ wr.cell? ⟨g, o + k, none⟩ = some (.int .i64 x) := by
  obtain ⟨-, ⟨B, h2⟩, -⟩ := h
  obtain ⟨a', c', rfl, hc⟩ := il_of_owns h2
  obtain ⟨g, o, rfl, -, hcc⟩ := hc (by have := lt_of_get hx; omega)
  exact ⟨g, o, c', rfl, hcc k x hx⟩
end
theorem ne_end {l : List Int} {a b c : Int} {n : Nat} (hn : (foL l a b c).length = n) (h : ∀ (k : Nat) (f : Int), k < n → (foL l a b c)[k]? = some f → lsh c f ≤ 4) : neB l a b c = goodC l a b c ∧ neL l a b c = lshs c (foL l a b c) n := by
  cases hg : goodC l a b c with
  | false =>
    have e : foL l a b c = [] := by simp [foL, hg]
    have e2 : neB l a b c = false := by simp [neB, hg]
    exact ⟨e2, by rw [neL, if_neg (by simp [e2]), e]; simp [lshs]⟩
  | true =>
    have e : foL l a b c = frcs b l l.length := by simp [foL, hg]
    rw [e, frcs_len] at hn
    rw [e] at h
    have hf : few c (frcs b l l.length) = true := few_all fun k f hk => h k f (by have := lt_of_get hk; rw [frcs_len] at this; omega) hk
    have e2 : neB l a b c = true := by simp [neB, hg, hf]
    exact ⟨e2, by rw [neL, if_pos e2, e, hn]⟩
theorem ne_stop {l : List Int} {a b c : Int} {k : Nat} {f : Int} (hk : (foL l a b c)[k]? = some f) (hf : ¬ lsh c f ≤ 4) : neB l a b c = false ∧ neL l a b c = [] := by
  have e2 : neB l a b c = false := by
    cases hg : goodC l a b c with
    | false => simp [neB, hg]
    | true =>
      have e : foL l a b c = frcs b l l.length := by simp [foL, hg]
      rw [e] at hk
      simp [neB, few_at hk hf]
  exact ⟨e2, by rw [neL, if_neg (by simp [e2])]⟩
theorem fo_get {l : List Int} {a b c : Int} {k : Nat} {f : Int} (hk : (foL l a b c)[k]? = some f) : (0 ≤ f ∧ f ≤ 256000) ∧ 1 ≤ c ∧ c ≤ 100000 ∧ 0 ≤ lsh c f ∧ lsh c f ≤ 256000 := by
  cases hg : goodC l a b c with
  | false =>
    have e : foL l a b c = [] := by simp [foL, hg]
    rw [e] at hk
    simp at hk
  | true =>
    have e : foL l a b c = frcs b l l.length := by simp [foL, hg]
    rw [e] at hk
    have hl := lt_of_get hk
    rw [frcs_len] at hl
    rw [frcs_get b l _ _ hl] at hk
    cases hk
    simp only [goodC, Bool.and_eq_true] at hg
    obtain ⟨-, hb, hc⟩ := okX_iff.1 hg.2
    have hs := goodW_sum hg.1 (by decide) k
    obtain ⟨q1, q2, -, -⟩ := frc_bound hb.1 hb.2 hs.1 hs.2
    have := lsh_bound hc.1 q1
    exact ⟨⟨q1, q2⟩, hc.1, hc.2, by omega, by omega⟩

set_option maxRecDepth 100000 in
set_option maxHeartbeats 8000000 in
theorem implNe_any (v : Value) (l : List Int) (a b c : Int) (hn : l.length ≤ 2000000) (w : World) (h : OwnI w v l) :
    Calls Try.prog 20 #[v, .agg #[.int .i64 a, .int .i64 b, .int .i64 c]] w (RetL w (neL l a b c) (neB l a b c)) := by
  obtain ⟨f3, hi3, hz0, hz1, hz2⟩ := info_is info3
  have hS := FoS.start w a b c
  have HFo := Lib.hid (implFo_any v l a b c hn _ (h.below hS.2.2.1))
  have HF : Hid (FoS w _ a b c _ (lshs c (foL l a b c) 0)) := Lib.hid hS
  obtain ⟨-, c0, c1, c2⟩ := hS.2.1
  have HE := Lib.hid (fun n hn2 => ne_end (l := l) (a := a) (b := b) (c := c) (n := n) hn2)
  have HX := Lib.hid (fun k f => ne_stop (l := l) (a := a) (b := b) (c := c) (k := k) (f := f))
  have HG := Lib.hid (fun k f => fo_get (l := l) (a := a) (b := b) (c := c) (k := k) (f := f))
  have HL4 := foL_len l a b c
  clear h hS hn
  generalize foL l a b c = F at *
  obtain ⟨n, hn⟩ : ∃ n, F.length = n := ⟨_, rfl⟩
  have HN := Lib.hid hn
  rw [hn] at HL4
  generalize goodC l a b c = ok at *
  clear hn
  go_enter Try.func20, Try.ntmps20
  go_wp2_with fail
  refine HFo.out.mono ?_
  rintro e w1 ⟨aF, cF, rfl, oF, hb⟩
  have HS1 := Lib.hid (NeS.start HF.out hb (Nat.le_refl _) oF.2.1)
  rw [HN.out] at HS1 ⊢
  clear oF hb c0 c1 c2
  go_wp2_with fail
  go_loopw [6, 21] (fun s i wr => ∃ k : Nat, k ≤ n ∧ i = .int .i64 k ∧ Hid (NeS w wr a b c s (.slice aF n cF) (lshs c F k) F) ∧ Hid (∀ (j : Nat) (f : Int), j < k → F[j]? = some f → lsh c f ≤ 4)) (fun _ i _ => n - (intOf i).toNat)
  case atStart => exact ⟨0, Nat.zero_le _, rfl, HS1, Lib.hid fun j f hj => by omega⟩
  case round =>
    obtain ⟨k, hk, rfl, HS, HK⟩ := hrel
    rename World => wr
    obtain ⟨-, c0, c1, c2⟩ := HS.out.1.2.1
    by_cases hlt : k < n
    · obtain ⟨x, hx⟩ := get_at HN.out hlt
      obtain ⟨g, o, cf, e, o1⟩ := HS.out.cell hx
      injection e with e1 e2 e3
      subst e1 e3
      clear e2
      obtain ⟨⟨f1, f2⟩, g1, g2, h1, h2⟩ := HG.out k x hx
      have HQ := Lib.hid (fun W => quot_any x c f1 (by omega) g1 (by omega) W)
      have HNx := Lib.hid (lshs_next (st := c) hx)
      have HLn := lshs_len c (F := F) (k := k) (by rw [HN.out]; exact hk)
      have HX2 := Lib.hid (HX.out k x hx)
      have HK2 : Hid (lsh c x ≤ 4 → ∀ (j : Nat) (f : Int), j < k + 1 → F[j]? = some f → lsh c f ≤ 4) := Lib.hid fun h4 j f hj hf => by
        by_cases e : j = k
        · subst e; rw [hx] at hf; cases hf; exact h4
        · exact HK.out j f (by omega) hf
      rw [show (x + c - 1) / c = lsh c x from rfl] at HQ
      generalize lsh c x = q at *
      generalize lshs c F k = S at *
      clear hx f1 f2 g1 g2
      by_cases hq : q ≤ 4
      · have HK3 := Lib.hid (HK2.out hq)
        have hrow := HS.out.1.1
        have hz := HS.out.1.2.2.2.1
        clear HK2 HX2
        go_wp2_with fail
        refine (HQ.out _).mono ?_
        rintro e w2 ⟨rfl, rfl⟩
        go_wp2_with (at_builtin; refine wpList_append_own_at _ rfl _ _ 24 rfl (w.heap.size + 1) 3 f3 (.int .i64 0) 1 8 Try.underlying24 hi3 hz0 hz1 hz2 rfl (by decide) _ _ _ rfl (hrow.alloc _) ⟨wr.heap.size, 0, none⟩ 1 1 [.int .i64 q] rfl rfl (cell_one_new _ _ _) (by simp [Value.oneCell']) (by unfold maxLen; omega) (by omega) (by simp; omega) ?_; intro v' w4 hown' hgrow hnil hat)
        have HN4 : Hid (NeS w w4 a b c v' (.slice (some ⟨g, o, none⟩) n cF) (lshs c F (k + 1)) F) := Lib.hid (by rw [HNx.out]; exact HS.out.push hown' hgrow hat)
        clear hown' hgrow hnil hrow hat
        exact ⟨⟨k + 1, by omega, by go_num, HN4, HK3⟩, by simp [intOf]; omega⟩
      · obtain ⟨e1, e2⟩ := HX2.out (by omega)
        have hB := HS.out.1.2.2.1
        have HD : Hid (RetL w (neL l a b c) (neB l a b c) _ _) := Lib.hid (by rw [e1, e2]; exact retL_of (w := w) (l := []) (ok := false) (own_empty wr (.cells #[] 3) 3 rfl) hB.size (hB.trans ((below_one wr _).mono hB.size)))
        clear HK2 HX2 hB e1 e2
        go_wp2_with fail
        refine (HQ.out _).mono ?_
        rintro e w2 ⟨rfl, rfl⟩
        go_wp2_with fail
        go_ret2
        exact HD.out
    · obtain rfl : k = n := by omega
      obtain ⟨e1, e2⟩ := HE.out k HN.out (fun j f hj hf => HK.out j f hj hf)
      obtain ⟨a', c', rfl, hr⟩ := HS.out.1.done ok
      have HD : Hid (RetL w (neL l a b c) (neB l a b c) _ wr) := Lib.hid (by rw [e1, e2]; exact hr)
      clear hr e1 e2
      go_wp2_with fail
      go_ret2
      exact HD.out

set_option maxRecDepth 100000 in
set_option maxHeartbeats 8000000 in
theorem specNe_any (v : Value) (l : List Int) (a b c : Int) (hn : l.length ≤ 1048576) (w : World) (h : IL w v l) :
    Calls Try.prog 21 #[v, .agg #[.int .i64 a, .int .i64 b, .int .i64 c]] w (RetL w (neL l a b c) (neB l a b c)) := by
  obtain ⟨f3, hi3, hz0, hz1, hz2⟩ := info_is info3
  have hS := FoS.start w a b c
  have hB0 := hS.2.2.1
  have HG := Lib.hid (l12Good_any v l hn _ (h.below hB0))
  have HF := Lib.hid hS
  obtain ⟨-, c0, c1, c2⟩ := hS.2.1
  have HV := Lib.hid h
  obtain ⟨p, cap, rfl⟩ := h.form
  clear h hS hB0
  cases hg : goodW l 4 with
  | false =>
    rw [hg] at HG
    rw [show neB l a b c = false by simp [neB, goodC, hg], show neL l a b c = [] by simp [neL, neB, goodC, hg]]
    clear hg
    go_enter Try.func21, Try.ntmps21
    go_wp2_with fail
    refine HG.out.mono ?_
    rintro e w1 ⟨rfl, hb⟩
    have HF1 := Lib.hid (HF.out.below hb)
    clear hb c0 c1 c2
    go_wp2_with fail
    go_ret2
    obtain ⟨a', c', e, hr⟩ := HF1.out.done false
    injection e with e1 e2 e3
    subst e1 e3
    exact hr
  | true =>
    rw [hg] at HG
    have HR := Lib.hid (specRules_any a b c)
    cases hx : okX a b c with
    | false =>
      rw [hx] at HR
      rw [show neB l a b c = false by simp [neB, goodC, hx], show neL l a b c = [] by simp [neL, neB, goodC, hx]]
      clear hg hx
      go_enter Try.func21, Try.ntmps21
      go_wp2_with fail
      refine HG.out.mono ?_
      rintro e w1 ⟨rfl, hb⟩
      have HF1 := Lib.hid (HF.out.below hb)
      clear hb c0 c1 c2
      obtain ⟨-, c0, c1, c2⟩ := HF1.out.2.1
      go_wp2_with fail
      refine (HR.out _).mono ?_
      rintro e w2 ⟨rfl, hb⟩
      have HF2 := Lib.hid (HF1.out.below hb)
      clear hb c0 c1 c2
      go_wp2_with fail
      go_ret2
      obtain ⟨a', c', e, hr⟩ := HF2.out.done false
      injection e with e1 e2 e3
      subst e1 e3
      exact hr
    | true =>
      rw [hx] at HR
      obtain ⟨-, hbb, -⟩ := okX_iff.1 hx
      have hgc : goodC l a b c = true := by simp [goodC, hg, hx]
      have HT := Lib.hid (fun W hW => l12Forces_any (.slice p l.length cap) l b (goodW_mono hg (by decide)) hbb W hW)
      have hFe : foL l a b c = frcs b l l.length := by simp [foL, hgc]
      rw [← hFe] at HT
      have HE := Lib.hid (fun n hn2 => ne_end (l := l) (a := a) (b := b) (c := c) (n := n) hn2)
      have HX := Lib.hid (fun k f => ne_stop (l := l) (a := a) (b := b) (c := c) (k := k) (f := f))
      have HGt := Lib.hid (fun k f => fo_get (l := l) (a := a) (b := b) (c := c) (k := k) (f := f))
      have HL4 := foL_len l a b c
      rw [hgc] at HE
      clear hg hx hbb hgc hFe
      generalize foL l a b c = F at *
      have HF0 : Hid (FoS w _ a b c _ (lshs c F 0)) := HF
      clear HF
      obtain ⟨n, hn2⟩ : ∃ n, F.length = n := ⟨_, rfl⟩
      have HN := Lib.hid hn2
      rw [hn2] at HL4
      clear hn2
      go_enter Try.func21, Try.ntmps21
      go_wp2_with fail
      refine HG.out.mono ?_
      rintro e w1 ⟨rfl, hb⟩
      have HF1 := Lib.hid (HF0.out.below hb)
      clear hb c0 c1 c2
      obtain ⟨-, c0, c1, c2⟩ := HF1.out.2.1
      go_wp2_with fail
      refine (HR.out _).mono ?_
      rintro e w2 ⟨rfl, hb⟩
      have HF2 := Lib.hid (HF1.out.below hb)
      clear hb c0 c1 c2
      obtain ⟨-, c0, c1, c2⟩ := HF2.out.2.1
      go_wp2_with fail
      refine (HT.out _ (HV.out.below HF2.out.2.2.1)).mono ?_
      rintro e w3 ⟨aF, cF, rfl, oF, hb⟩
      have HS1 := Lib.hid (NeS.start HF2.out hb (Nat.le_refl _) oF)
      rw [HN.out] at HS1 ⊢
      clear oF hb c0 c1 c2
      go_wp2_with fail
      go_loopw [6, 8] (fun s i wr => ∃ k : Nat, k ≤ n ∧ i = .int .i64 k ∧ Hid (NeS w wr a b c s (.slice aF n cF) (lshs c F k) F) ∧ Hid (∀ (j : Nat) (f : Int), j < k → F[j]? = some f → lsh c f ≤ 4)) (fun _ i _ => n - (intOf i).toNat)
      case atStart => exact ⟨0, Nat.zero_le _, rfl, HS1, Lib.hid fun j f hj => by omega⟩
      case round =>
        obtain ⟨k, hk, rfl, HS, HK⟩ := hrel
        rename World => wr
        obtain ⟨-, c0, c1, c2⟩ := HS.out.1.2.1
        by_cases hlt : k < n
        · obtain ⟨x, hx⟩ := get_at HN.out hlt
          obtain ⟨g, o, cf, e, o1⟩ := HS.out.cell hx
          injection e with e1 e2 e3
          subst e1 e3
          clear e2
          obtain ⟨⟨f1, f2⟩, g1, g2, h1, h2⟩ := HGt.out k x hx
          have hq0 : (x + c - 1).tdiv c = lsh c x := by rw [Int.tdiv_eq_ediv_of_nonneg (by omega)]; rfl
          have hcz : ¬ c = 0 := by omega
          have hcm : ¬ c = -1 := by omega
          have HNx := Lib.hid (lshs_next (st := c) hx)
          have HLn := lshs_len c (F := F) (k := k) (by rw [HN.out]; exact hk)
          have HX2 := Lib.hid (HX.out k x hx)
          have HK2 : Hid (lsh c x ≤ 4 → ∀ (j : Nat) (f : Int), j < k + 1 → F[j]? = some f → lsh c f ≤ 4) := Lib.hid fun h4 j f hj hf => by
            by_cases e : j = k
            · subst e; rw [hx] at hf; cases hf; exact h4
            · exact HK.out j f (by omega) hf
          generalize lsh c x = q at *
          generalize lshs c F k = S at *
          clear hx
          by_cases hq : q ≤ 4
          · have HK3 := Lib.hid (HK2.out hq)
            clear HK2 HX2
            go_wp2_with fail
            go_quiet (fail)
            have HSd : Hid (NeS w (wr.drewN nq) a b c _ (.slice (some ⟨g, o, none⟩) n cF) S F) := Lib.hid (HS.out.below (below_drewN (Below.refl _ _) nq))
            generalize wr.drewN nq = w9 at *
            have hrow := HSd.out.1.1
            have hz := HSd.out.1.2.2.2.1
            go_wp2_with (at_builtin; refine wpList_append_own_at _ rfl _ _ 24 rfl (w.heap.size + 1) 3 f3 (.int .i64 0) 1 8 Try.underlying24 hi3 hz0 hz1 hz2 rfl (by decide) _ _ _ rfl (hrow.alloc _) ⟨w9.heap.size, 0, none⟩ 1 1 [.int .i64 q] rfl rfl (cell_one_new _ _ _) (by simp [Value.oneCell']) (by unfold maxLen; omega) (by omega) (by simp; omega) ?_; intro v' w4 hown' hgrow hnil hat)
            have HN4 : Hid (NeS w w4 a b c v' (.slice (some ⟨g, o, none⟩) n cF) (lshs c F (k + 1)) F) := Lib.hid (by rw [HNx.out]; exact HSd.out.push hown' hgrow hat)
            clear hown' hgrow hnil hrow hat
            exact ⟨⟨k + 1, by omega, by go_num, HN4, HK3⟩, by simp [intOf]; omega⟩
          · obtain ⟨e1, e2⟩ := HX2.out (by omega)
            clear HK2 HX2
            have HE1 := Lib.hid e1
            have HE2 := Lib.hid e2
            clear e1 e2
            go_wp2_with fail
            go_quiet (fail)
            have hB : Below w.heap.size w (wr.drewN nq) := below_drewN HS.out.1.2.2.1 nq
            have HD : Hid (RetL w (neL l a b c) (neB l a b c) _ _) := Lib.hid (by rw [HE1.out, HE2.out]; exact retL_of (w := w) (l := []) (ok := false) (own_empty (wr.drewN nq) (.cells #[] 3) 3 rfl) hB.size (hB.trans ((below_one (wr.drewN nq) _).mono hB.size)))
            clear hB
            go_wp2_with fail
            go_ret2
            exact HD.out
        · obtain rfl : k = n := by omega
          obtain ⟨e1, e2⟩ := HE.out k HN.out (fun j f hj hf => HK.out j f hj hf)
          obtain ⟨a', c', rfl, hr⟩ := HS.out.1.done true
          have HD : Hid (RetL w (neL l a b c) (neB l a b c) _ wr) := Lib.hid (by rw [e1, e2]; exact hr)
          clear hr e1 e2
          go_wp2_with fail
          go_ret2
          exact HD.out
end Go.Proofs.Ytalobfpmmembiaa
