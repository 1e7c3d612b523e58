/-
  What impl.sharesOf and impl.LoadsOf answer. No statement of the seat by itself.
-/
import Derived.Test.YtffejbgcgagkpaaCrJ
namespace Go.Proofs.Ytffejbgcgagkpaa
open Go.RowKit

/-- Two rows of the call's own of different types lie apart. -/
theorem rows_apart {w w' : World} {B B' m t s s' : Nat} {e e' : TypeId} {u v : Value} {xs ys : List Value} (he : e ≠ e') (h : w.ownsRow B e s u t xs) (hv : w.ownsRow B' e' s' v m ys) (hg : w.grownBy w' v.ownBlock) : w'.ownsRow B e s u t xs := by
  refine h.kept hg ?_
  cases hu : u.ownBlock with
  | none => exact .inl rfl
  | some b =>
    refine .inr fun e1 => ?_
    rcases h.2 with ⟨rfl, _⟩ | ⟨g, cap, cur, rfl, _, hb, _⟩
    · simp [Value.ownBlock] at hu
    · have e2 : g = b := by simpa [Value.ownBlock] using hu
      subst e2
      rcases hv.2 with ⟨rfl, _⟩ | ⟨g', cap', cur', rfl, _, hb', _⟩
      · simp [Value.ownBlock] at e1
      · have e3 : g = g' := by simpa [Value.ownBlock] using e1
        subst e3
        rw [hb] at hb'
        injection hb' with h1
        injection h1 with _ h2
        exact he h2
/-- While the shares are collected: parts of w0's list, their headers in a row of w's own. -/
def ShS (w0 w wr : World) (sv : Value) (l d : List Int) (k : Nat) : Prop := (∃ xs, wr.ownsRow w.heap.size 24 1 sv k xs ∧ ∀ j u, xs[j]? = some u → IL w0 u (shrC l d j)) ∧ Below w.heap.size w wr
theorem ShS.start {w0 w W : World} {l d : List Int} (hb : Below w.heap.size w W) : ShS w0 w (W.alloc (.cells #[] 24)) (.slice (some ⟨W.heap.size, 0, none⟩) 0 0) l d 0 :=
  ⟨⟨[], (own_empty W (.cells #[] 24) 24 rfl).mono hb.size, fun j u h => by simp at h⟩, hb.alloc hb.size _⟩
theorem ShS.nil {w0 w W : World} {l d : List Int} (hb : Below w.heap.size w W) : ShS w0 w W (.slice none 0 0) l d 0 :=
  ⟨⟨[], ⟨rfl, .inl ⟨rfl, rfl⟩⟩, fun j u h => by simp at h⟩, hb⟩
theorem ShS.below {w0 w wr w' : World} {sv : Value} {l d : List Int} {k : Nat} (h : ShS w0 w wr sv l d k) (hb : Below wr.heap.size wr w') : ShS w0 w w' sv l d k := by
  obtain ⟨⟨xs, h1, h2⟩, h3⟩ := h
  exact ⟨⟨xs, row_below h1 hb, h2⟩, h3.trans (hb.mono h3.size)⟩
theorem ShS.up {w0 w w1 wr : World} {sv : Value} {l d : List Int} {k : Nat} (h : ShS w0 w1 wr sv l d k) (hb : Below w.heap.size w w1) : ShS w0 w wr sv l d k := by
  obtain ⟨⟨xs, h1, h2⟩, h3⟩ := h
  exact ⟨⟨xs, h1.mono hb.size, h2⟩, hb.trans (h3.mono hb.size)⟩
theorem ShS.push {w0 w wr w4 : World} {sv v' u : Value} {l d : List Int} {k : Nat} {xs : List Value} {o : Obj} (hB : Below w.heap.size w wr) (hr : wr.ownsRow w.heap.size 24 1 sv k xs) (hx : ∀ j u, xs[j]? = some u → IL w0 u (shrC l d j)) (hu : IL w0 u (shrC l d k))
    (ho : w4.ownsRow w.heap.size 24 1 v' (k + 1) (xs ++ [u])) (hg : (wr.alloc o).grownBy w4 sv.ownBlock) : ShS w0 w w4 v' l d (k + 1) := by
  have hb4 : Below w.heap.size w w4 := (hB.alloc hB.size _).grown hg (by have := hB.size; simp; omega) (fun j e => row_base hr j e)
  refine ⟨⟨_, ho, fun j y hj => ?_⟩, hb4⟩
  have hk := hr.1
  rcases Nat.lt_or_ge j xs.length with hlt | hge
  · rw [List.getElem?_append_left hlt] at hj
    exact hx j y hj
  · rw [List.getElem?_append_right hge] at hj
    have e : j - xs.length = 0 := by
      rcases Nat.eq_zero_or_pos (j - xs.length) with q | q
      · exact q
      · rw [List.getElem?_eq_none (by simp; omega)] at hj; cases hj
    rw [e] at hj
    simp at hj
    subst hj
    have : j = k := by omega
    subst this
    exact hu
/-- The headers stand where a row of ints of the call's own grows. -/
theorem ShS.ints {w0 w wr w4 : World} {sv v : Value} {l d : List Int} {k B m : Nat} {ys : List Value} {o : Obj} (h : ShS w0 w wr sv l d k) (hv : wr.ownsRow B 3 1 v m ys) (hB : w.heap.size ≤ B) (hg : (wr.alloc o).grownBy w4 v.ownBlock) : ShS w0 w w4 sv l d k := by
  obtain ⟨⟨xs, h1, h2⟩, h3⟩ := h
  exact ⟨⟨xs, rows_apart (by decide) (h1.alloc o) (hv.alloc o) hg, h2⟩, (h3.alloc h3.size _).grown hg (by have := h3.size; simp; omega) (fun j e => Nat.le_trans hB (row_base hv j e))⟩
theorem ShS.cell {w0 w wr : World} {sv : Value} {l d : List Int} {k : Nat} (h : ShS w0 w wr sv l d k) (hb : Below w0.heap.size w0 wr) {i : Nat} (hi : i < k) : ∃ g c u, sv = .slice (some ⟨g, 0, none⟩) k c ∧ wr.cell? ⟨g, i, none⟩ = some u ∧ IL wr u (shrC l d i) := by
  obtain ⟨⟨xs, h1, h2⟩, h3⟩ := h
  have hl := h1.1
  rcases h1.2 with ⟨_, hz⟩ | ⟨g, cap, cur, hv, hg, hbk, _⟩
  · omega
  · obtain ⟨u, hu⟩ := get_at (Y := xs) rfl (show i < xs.length by omega)
    subst hv
    exact ⟨g, cap, u, rfl, (h1.cellAt i (by omega)).trans hu, (h2 i u hu).below hb⟩

theorem three_yl {w : World} {vd : Value} {d : List Int} {n : Int} (h : IL w vd d) (o : Obj) (ho : o = .cells #[.slice (some ⟨w.heap.size, 0, none⟩) 1 1, vd, .slice (some ⟨w.heap.size + 1, 0, none⟩) 1 1] 24) :
    YL (((w.alloc (.cells #[.int .i64 0] 3)).alloc (.cells #[.int .i64 n] 3)).alloc o) (.slice (some ⟨w.heap.size + 1 + 1, 0, none⟩) 3 3) [[0], d, [n]] := by
  subst ho
  obtain ⟨k0, k1, k2, hs, hB⟩ := three_alloc w (.cells #[.int .i64 0] 3) (.cells #[.int .i64 n] 3) (.cells #[.slice (some ⟨w.heap.size, 0, none⟩) 1 1, vd, .slice (some ⟨w.heap.size + 1, 0, none⟩) 1 1] 24)
  have hv := h.below hB
  generalize ((w.alloc (.cells #[.int .i64 0] 3)).alloc (.cells #[.int .i64 n] 3)).alloc (.cells #[.slice (some ⟨w.heap.size, 0, none⟩) 1 1, vd, .slice (some ⟨w.heap.size + 1, 0, none⟩) 1 1] 24) = W at *
  refine ⟨_, 3, rfl, fun _ => ⟨w.heap.size + 1 + 1, 0, rfl, by omega, fun j s hj => ?_⟩⟩
  rcases (by have := lt_of_get hj; simp at this; omega : j = 0 ∨ j = 1 ∨ j = 2) with rfl | rfl | rfl
  · simp at hj
    subst hj
    exact ⟨_, cell_of k2 rfl, ⟨_, 1, rfl, fun _ => ⟨_, 0, rfl, by omega, fun i x hi => by
      rcases (by have := lt_of_get hi; simp at this; omega : i = 0) with rfl
      simp at hi
      subst hi
      exact cell_of k0 rfl⟩⟩⟩
  · simp at hj
    subst hj
    exact ⟨_, cell_of k2 rfl, hv⟩
  · simp at hj
    subst hj
    exact ⟨_, cell_of k2 rfl, ⟨_, 1, rfl, fun _ => ⟨_, 0, rfl, by omega, fun i x hi => by
      rcases (by have := lt_of_get hi; simp at this; omega : i = 0) with rfl
      simp at hi
      subst hi
      exact cell_of k1 rfl⟩⟩⟩
theorem bds_flat (n : Nat) (d : List Int) : [[0], d, [(n : Int)]].flatten = bdsC n d := by simp [bdsC]

/-- append of a row's header onto a row of headers of the call's own, inside a region that draws its order. -/
theorem step_hd {ops : Array Oper} {o : Oper} {a : Act} {w : World} {K : Act → World → Prop} {Q : Exit → Act → World → Prop} {E : Prop} (hgd : o.guard = none) (s x : Operand)
    (ho : o.op = .call { callee := .builtin .append, args := #[s, x], argTypes := #[66, 66] }) (base : Nat) (v : Value) (n : Nat) (xs : List Value) (hs : a.eval s = v) (hown : w.ownsRow base 24 1 v n xs)
    (ad : Addr) (c : Nat) (u : Value) (hu : u.oneCell' = true) (hx : a.eval x = .slice (some ad) 1 c) (hnews : ∀ j y, ([u] : List Value)[j]? = some y → w.cell? (ad.add j) = some y)
    (hb : n ≤ 1048576) (hbase : base ≤ w.heap.size)
    (h : ∀ v' w', w'.ownsRow base 24 1 v' (n + 1) (xs ++ [u]) → w.grownBy w' v.ownBlock → K (a.put o.dst v') w') :
    if Region.wanted o (yielded ops a.tmps) = true then Oper.wp Try.prog o a w K Q else E := by
  have hw : Region.wanted o (yielded ops a.tmps) = true := by simp [Region.wanted, hgd]
  obtain ⟨i0, hi, hz0, hz1, hz2⟩ := info_is info38
  rw [if_pos hw]
  exact wp_append_own w s x 66 ho base 24 i0 (.slice none 0 0) 1 24 Try.underlying66 hi hz0 hz1 hz2 rfl (by decide) v n xs hs hown ad 1 c [u] hx (by simp) hnews (by simp [hu]) (by unfold maxLen; omega) (by omega) hbase fun v' w' h1 h2 _ => h v' w' h1 h2

/-- What sharesOf answers. -/
def RetH (wo w : World) (l : List Int) (c : Int) (d : List Int) (e : Ending) (w' : World) : Prop := ∃ sv, e = .returned (.tuple #[sv, .bool (dvK l c d)]) ∧ ShS wo w w' sv l d (if dvK l c d = true then d.length + 1 else 0)
theorem retH_nil {wo w W : World} {l d : List Int} (hb : Below w.heap.size w W) : ∃ sv, Ending.returned (.tuple #[.slice none 0 0, .bool false]) = .returned (.tuple #[sv, .bool false]) ∧ ShS wo w W sv l d (if false = true then d.length + 1 else 0) := ⟨_, rfl, ShS.nil hb⟩
set_option maxRecDepth 100000 in
set_option maxHeartbeats 8000000 in
theorem shares_any (v vd : Value) (l d : List Int) (c : Int) (hn : l.length ≤ 1048576) (_hd : d.length ≤ 1048576) (wo w : World) (hwo : Below wo.heap.size wo w) (ho : IL wo v l) (hcap : ∀ a c, v = .slice a l.length c → l.length ≤ c) (h2 : IL w vd d) :
    Calls Try.prog 54 #[v, .int .i64 c, vd] w (RetH wo w l c d) := by
  unfold RetH
  have h := ho.below hwo
  have HVo := Lib.hid ho
  clear ho
  have HW := Lib.hid (isWork_any v l hn w h)
  have HA := Lib.hid (fun W => areCr_any c W)
  cases hw : wkB l with
  | false =>
    have hk : dvK l c d = false := by simp [dvK, askC, hw]
    rw [hk]
    rw [hw] at HW
    clear h h2 hw hk
    go_enter Try.func54, Try.ntmps54
    go_wp2_with fail
    refine HW.out.mono ?_
    rintro e w1 ⟨rfl, hb⟩
    have HB := Lib.hid hb
    clear hb
    go_wp2_with fail
    go_ret2
    exact retH_nil HB.out
  | true =>
    rw [hw] at HW
    cases hc : crB c with
    | false =>
      have hk : dvK l c d = false := by simp [dvK, askC, hc]
      rw [hk]
      rw [hc] at HA
      clear h h2 hw hk hc
      go_enter Try.func54, Try.ntmps54
      go_wp2_with fail
      refine HW.out.mono ?_
      rintro e w1 ⟨rfl, hb⟩
      have HB := Lib.hid hb
      clear hb
      go_wp2_with fail
      refine (HA.out _).mono ?_
      rintro e w2 ⟨rfl, hb⟩
      have HB := Lib.hid (HB.out.trans (hb.mono HB.out.size))
      clear hb
      go_wp2_with fail
      go_ret2
      exact retH_nil HB.out
    | true =>
      rw [hc] at HA
      obtain ⟨hc1, hc2⟩ := crB_iff.1 hc
      have HV := Lib.hid h
      have HV2 := Lib.hid h2
      obtain ⟨ad, cd, rfl⟩ := h2.form
      by_cases hm : (d.length : Int) + 1 = c
      case neg =>
        have hk : dvK l c d = false := by simp [dvK, dvB, hm]
        rw [hk]
        have hm2 : decide ((d.length : Int) = c - 1) = false := by simp; omega
        have hm3 : ¬ (d.length : Int) = c - 1 := by omega
        clear h h2 hw hk hc hm
        generalize d.length = m at *
        go_enter Try.func54, Try.ntmps54
        go_wp2_with fail
        refine HW.out.mono ?_
        rintro e w1 ⟨rfl, hb⟩
        have HB := Lib.hid hb
        clear hb
        go_wp2_with fail
        refine (HA.out _).mono ?_
        rintro e w2 ⟨rfl, hb⟩
        have HB := Lib.hid (HB.out.trans (hb.mono HB.out.size))
        clear hb
        go_wp2_with fail
        go_ret2
        exact retH_nil HB.out
      have hm4 : decide ((d.length : Int) = c - 1) = true := by simp; omega
      have hm3 : (d.length : Int) = c - 1 := by omega
      have hd2 : d.length ≤ 2 := by omega
      obtain ⟨⟨hl1, hl2⟩, -⟩ := wkB_iff.1 hw
      have HCat := Lib.hid (fun (u : Value) (W : World) (hW : YL W u [[0], d, [(l.length : Int)]]) => concatW_any u [[0], d, [(l.length : Int)]] (by simp) (by simp [tot]; omega) W hW)
      rw [bds_flat] at HCat
      have HS := Lib.hid (fun (u : Value) (W : World) (hW : IL W u (bdsC l.length d)) => sorted_any u (bdsC l.length d) (by rw [bdsC_len]; omega) (by rw [bdsC_len]; omega) W hW)
      have HLn := Lib.hid (bdsC_len l.length d)
      have HY := Lib.hid (fun (W : World) (hW : IL W (.slice ad d.length cd) d) => three_yl (n := (l.length : Int)) hW _ rfl)
      have hkv : dvK l c d = ascB (bdsC l.length d) := by simp [dvK, dvB, askC, hw, hc, hm]
      obtain ⟨a, cap, rfl⟩ := h.form
      cases hs : ascB (bdsC l.length d) with
      | false =>
        rw [hs] at HS hkv
        rw [hkv]
        clear h h2 hw hc hm hs hkv hl1 hl2
        generalize bdsC l.length d = L at *
        generalize l.length = n at *
        generalize d.length = m at *
        go_enter Try.func54, Try.ntmps54
        go_wp2_with fail
        refine HW.out.mono ?_
        rintro e w1 ⟨rfl, hb⟩
        have HB := Lib.hid hb
        clear hb
        go_wp2_with fail
        refine (HA.out _).mono ?_
        rintro e w2 ⟨rfl, hb⟩
        have HB := Lib.hid (HB.out.trans (hb.mono HB.out.size))
        clear hb
        go_wp2_with fail
        refine (HCat.out _ _ (HY.out _ (HV2.out.below HB.out))).mono ?_
        rintro e w3 ⟨u3, rfl, ho, hb⟩
        have HB := Lib.hid (HB.out.trans ((below3 hb (three_alloc w2 _ _ _).2.2.2.2).mono HB.out.size))
        have HU := Lib.hid (il_of_owns ho)
        clear hb ho
        go_wp2_with fail
        refine (HS.out _ _ HU.out).mono ?_
        rintro e w4 ⟨rfl, hb⟩
        have HB := Lib.hid (HB.out.trans (hb.mono HB.out.size))
        clear hb
        go_wp2_with fail
        go_ret2
        exact retH_nil HB.out
      | true =>
        have hcp := hcap _ _ rfl
        have HBi := Lib.hid (fun (i : Nat) (hi : i < d.length + 2) => show (bdsC l.length d)[i]? = some ((bdN l.length d i : Nat) : Int) by
          rw [bdN_int hs hi, List.getD, List.getElem?_eq_getElem (by rw [bdsC_len]; exact hi)]; rfl)
        have HBle := Lib.hid (fun (i : Nat) (hi : i < d.length + 1) => bdN_le hs hi)
        have HSh := Lib.hid (fun (i : Nat) => show shrC l d i = (l.take (bdN l.length d (i + 1))).drop (bdN l.length d i) from rfl)
        rw [hs] at HS hkv
        rw [hkv, if_pos rfl]
        clear h h2 hw hc hs hkv hcap
        obtain ⟨n, hn2⟩ : ∃ n, l.length = n := ⟨_, rfl⟩
        obtain ⟨m, hm2⟩ : ∃ m, d.length = m := ⟨_, rfl⟩
        have HN := Lib.hid hn2
        rw [hn2] at HV HVo HCat HS HLn HY HBi HBle HSh HW hcp hl1 hl2 hn ⊢
        rw [hm2] at HV2 HLn HY HBi HBle hm hm3 hm4 hd2 ⊢
        clear hn2 hm2
        generalize bdsC n d = L at *
        obtain rfl : c = (m : Int) + 1 := by omega
        clear hm hm3 hm4
        go_enter Try.func54, Try.ntmps54
        go_wp2_with fail
        refine HW.out.mono ?_
        rintro e w1 ⟨rfl, hb⟩
        have HB := Lib.hid hb
        clear hb
        go_wp2_with fail
        refine (HA.out _).mono ?_
        rintro e w2 ⟨rfl, hb⟩
        have HB := Lib.hid (HB.out.trans (hb.mono HB.out.size))
        clear hb
        go_wp2_with fail
        refine (HCat.out _ _ (HY.out _ (HV2.out.below HB.out))).mono ?_
        rintro e w3 ⟨u3, rfl, ho, hb⟩
        have HB := Lib.hid (HB.out.trans ((below3 hb (three_alloc w2 _ _ _).2.2.2.2).mono HB.out.size))
        have HU := Lib.hid (il_of_owns ho)
        obtain ⟨a3, c3, rfl⟩ := own_form ho
        clear hb ho
        rw [HLn.out] at HU ⊢
        go_wp2_with fail
        refine (HS.out _ _ HU.out).mono ?_
        rintro e w4 ⟨rfl, hb⟩
        have HB := Lib.hid (HB.out.trans (hb.mono HB.out.size))
        have HU := Lib.hid (HU.out.below hb)
        have R0 : Hid (ShS wo w4 (w4.alloc (.cells #[] 24)) (.slice (some ⟨w4.heap.size, 0, none⟩) 0 0) l d 0) := Lib.hid (ShS.start (Below.refl _ _))
        obtain ⟨a', c', e1, hcl⟩ := HVo.out
        injection e1 with e2 e3 e4
        subst e2 e4
        obtain ⟨g, off, rfl, hg, hcc⟩ := hcl (by have := HN.out; omega)
        obtain ⟨a', c', e1, hcl3⟩ := HU.out
        injection e1 with e2 e3 e4
        subst e2 e4
        obtain ⟨g3, off3, rfl, hg3, hcc3⟩ := hcl3 (by have := HLn.out; omega)
        have HC := Lib.hid hcc
        have HC3 := Lib.hid hcc3
        have HG := Lib.hid hg
        have HU3 := Lib.hid hg3
        clear hb hcc hcc3 hcl hcl3 e3 hg hg3
        go_wp2_with fail
        go_loopw [9, 38] (fun s i wr => ∃ k : Nat, k ≤ m + 1 ∧ i = .int .i64 k ∧ Hid (ShS wo w4 wr s l d k)) (fun _ i _ => m + 1 - (intOf i).toNat)
        case atStart => exact ⟨0, Nat.zero_le _, rfl, R0⟩
        case round =>
          obtain ⟨k, hk, rfl, HR⟩ := hrel
          by_cases hlt : k < m + 1
          · obtain ⟨b1, b2⟩ := HBle.out k hlt
            have o0 := (HR.out.2.cell (p := ⟨g3, off3 + k, none⟩) HU3.out).trans (HC3.out k _ (HBi.out k (by omega)))
            have o1 := (HR.out.2.cell (p := ⟨g3, off3 + (k + 1), none⟩) HU3.out).trans (HC3.out (k + 1) _ (HBi.out (k + 1) (by omega)))
            have HIL : Hid (∀ (A : Option Addr) (c' : Nat), (bdN n d k < bdN n d (k + 1) → A = some ⟨g, off + bdN n d k, none⟩) → IL wo (.slice A (bdN n d (k + 1) - bdN n d k) c') (shrC l d k)) := Lib.hid fun A c' hA => by
              rw [HSh.out]
              exact il_mid HC.out HG.out HN.out b1 b2 hA
            obtain ⟨⟨xs, hr, hx⟩, hB⟩ := HR.out
            have HO := Lib.hid (fun o => row_below hr (((Below.refl _ wr).drew).alloc (Nat.le_refl _) o))
            have HZA := Lib.hid (fun o => Nat.le_trans hB.size (below_one wr.drew o).size)
            have HP := Lib.hid (fun (w5 : World) (v' u : Value) (o : Obj) (ho : w5.ownsRow w4.heap.size 24 1 v' (k + 1) (xs ++ [u])) (hg : (wr.drew.alloc o).grownBy w5 u9.ownBlock) (hu : IL wo u (shrC l d k)) => ShS.push (l := l) (d := d) (o := o) (hB.trans ((Below.refl _ wr).drew.mono hB.size)) (row_below hr (Below.refl _ wr).drew) hx hu ho hg)
            have hk1 : IntKind.i64.wrap ((k : Int) + 1) = (k : Int) + 1 := by rw [IntKind.wrap_i64]; omega
            have hk2 : (k : Int) < (m : Int) + 2 := by omega
            have hk3 : (k : Int) + 1 < (m : Int) + 2 := by omega
            have hk4 : (0 : Int) ≤ (k : Int) + 1 := by omega
            clear hr hx hB
            generalize bdN n d k = lo at *
            generalize bdN n d (k + 1) = hi at *
            have hlc : hi ≤ cap := by omega
            go_wp2_with fail
            go_region_law (first | (refine step_hd (by rfl) _ _ (by rfl) w4.heap.size _ k xs (by rfl) (HO.out _) _ _ _ (by rfl) (by rfl) (cell_one_new _ _ _) (by omega) (HZA.out _) ?_; intro v5 w5 ho5 hg5; have HN4 := Lib.hid (HP.out w5 v5 _ _ ho5 hg5 (HIL.out _ _ (by intro hlh; simp <;> omega))); clear ho5 hg5))
            all_goals
              go_wp2_with fail
              exact ⟨⟨k + 1, by omega, by go_num, HN4⟩, by simp [intOf]; omega⟩
          · obtain rfl : k = m + 1 := by omega
            have HD := Lib.hid (HR.out.up HB.out)
            go_wp2_with fail
            go_ret2
            exact ⟨_, rfl, HD.out⟩
end Go.Proofs.Ytffejbgcgagkpaa
