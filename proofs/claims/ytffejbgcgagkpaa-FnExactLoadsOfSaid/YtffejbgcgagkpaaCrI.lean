/-
  What impl.LoadsOf answers. No statement of the seat by itself.
-/
import Derived.Test.YtffejbgcgagkpaaCrH
namespace Go.Proofs.Ytffejbgcgagkpaa
open Go.RowKit

theorem own_cap {w : World} {v : Value} {l : List Int} (h : OwnI w v l) : ∀ a c, v = .slice a l.length c → l.length ≤ c := fun a c e => by
  obtain ⟨a', c', e', hc⟩ := h.form
  rw [e] at e'
  injection e' with _ _ e3
  omega
theorem shrC_small {l d : List Int} (h : wkB l = true) (i : Nat) : (shrC l d i).length ≤ 1000 ∧ ∀ x ∈ shrC l d i, 0 ≤ x ∧ x ≤ 1000000 := by
  obtain ⟨h1, h2⟩ := wkB_iff.1 h
  refine ⟨by unfold shrC; rw [List.length_drop, List.length_take]; omega, fun x hx => by have := h2 x (shrC_mem hx); omega⟩
theorem retL_nums {w wr : World} {sv : Value} {S : List Int} (h : NumS w wr sv S) (ok : Bool) : RetL w S ok (.returned (.tuple #[sv, .bool ok])) wr := retL_of h.1 (Nat.le_refl _) h.2.1

set_option maxRecDepth 100000 in
set_option maxHeartbeats 8000000 in
theorem implLo_any (v vd : Value) (l d : List Int) (c : Int) (hn : l.length ≤ 1048576) (hd : d.length ≤ 1048576) (w : World) (h : IL w v l) (hcap : ∀ a c, v = .slice a l.length c → l.length ≤ c) (h2 : IL w vd d) :
    Calls Try.prog 17 #[v, .int .i64 c, vd] w (RetL w (lofR l c d) (dvK l c d)) := by
  obtain ⟨f3, hi3, hz0, hz1, hz2⟩ := info_is info3
  have R0 := Lib.hid (numS_start w)
  have HSh := Lib.hid (shares_any v vd l d c hn hd w _ R0.out.2.1 h hcap (h2.below R0.out.2.1))
  unfold RetH at HSh
  cases hk : dvK l c d with
  | false =>
    rw [lofR_no hk]
    rw [hk] at HSh
    clear h h2 hcap hk
    go_enter Try.func17, Try.ntmps17
    go_wp2_with fail
    refine HSh.out.mono ?_
    rintro e w1 ⟨sv, rfl, hy⟩
    have R1 := Lib.hid (R0.out.below hy.2)
    obtain ⟨⟨xs, hx, -⟩, -⟩ := hy
    simp only [Bool.false_eq_true, if_false] at hx
    obtain ⟨a1, c1, rfl⟩ := own_form hx
    clear hx
    go_wp2_with fail
    go_loopw [8, 23] (fun s i wr => i = .int .i64 0 ∧ Hid (NumS w wr s [])) (fun _ _ _ => 0)
    case atStart => exact ⟨rfl, R1⟩
    case round =>
      obtain ⟨rfl, HR⟩ := hrel
      have HX := Lib.hid (retL_nums HR.out false)
      go_wp2_with fail
      go_ret2
      exact HX.out
  | true =>
    obtain ⟨⟨hw, hc⟩, hd1, ha⟩ := dvK_iff.1 hk
    rw [lofR_yes hk]
    rw [hk, if_pos rfl] at HSh
    have HT := Lib.hid (fun (i : Nat) (u : Value) (W : World) (hu : IL W u (shrC l d i)) => totalT_any u (shrC l d i) (shrC_small hw i).1 (shrC_small hw i).2 W hu)
    have HL := Lib.hid (fun i => ldsC_succ l d i)
    have hd2 : d.length ≤ 2 := by omega
    obtain ⟨ad, cd, rfl⟩ := h2.form
    clear h h2 hcap hk hw hd1 ha
    generalize d.length = m at *
    go_enter Try.func17, Try.ntmps17
    go_wp2_with fail
    generalize hW0 : w.alloc (.cells #[] 3) = w0 at *
    refine HSh.out.mono ?_
    rintro e w1 ⟨sv, rfl, hy⟩
    have R1 := Lib.hid (R0.out.below hy.2)
    have HY := Lib.hid hy
    have HB0 := Lib.hid R0.out.2.1
    obtain ⟨g, c1, u, rfl, -, -⟩ := hy.cell (HB0.out.trans (hy.2.mono HB0.out.size)) (i := 0) (by omega)
    clear hy
    go_wp2_with fail
    go_loopw [8, 23] (fun s i wr => ∃ k : Nat, k ≤ m + 1 ∧ i = .int .i64 k ∧ Hid (NumS w wr s (ldsC l d k)) ∧ Hid (ShS w w wr (.slice (some ⟨g, 0, none⟩) (m + 1) c1) l d (m + 1))) (fun _ i _ => m + 1 - (intOf i).toNat)
    case atStart => exact ⟨0, Nat.zero_le _, rfl, by simpa [ldsC] using R1, Lib.hid (HY.out.up HB0.out)⟩
    case round =>
      obtain ⟨k, hk, rfl, HR, HB⟩ := hrel
      by_cases hlt : k < m + 1
      · obtain ⟨g', c', u, e1, o1, hil⟩ := HB.out.cell HR.out.2.1 hlt
        injection e1 with e2 e3 e4
        injection e2 with e5
        injection e5 with e6
        subst e6
        have HE := Lib.hid (HT.out k u wr hil)
        have HLc := Lib.hid (HL.out k)
        have hbl := ldsC_len l d k
        have hrow := HR.out.1
        have hz := HR.out.2.1.size
        have hcm : (ldsC l d k).length ≤ 3 := by omega
        obtain ⟨au, cu, rfl⟩ := hil.form
        clear hbl hil e3 e4
        generalize (shrC l d k).length = ln at *
        generalize (shrC l d k).sum = t at *
        generalize ldsC l d k = S at *
        go_wp2_with fail
        refine HE.out.mono ?_
        rintro e w2 ⟨rfl, rfl⟩
        go_wp2_with (at_builtin; refine wpList_append_own _ rfl _ _ 24 rfl w.heap.size 3 f3 (.int .i64 0) 1 8 Try.underlying24 hi3 hz0 ‹_› hz2 rfl (by decide) _ _ _ rfl (hrow.alloc _) ⟨wr.heap.size, 0, none⟩ 1 1 [.int .i64 t] rfl rfl (cell_one_new _ _ _) (by simp [Value.oneCell']) (by unfold maxLen; omega) (by omega) (by simp; omega) ?_; intro v' w4 hown' hgrow hnil)
        have HN4 : Hid (NumS w w4 v' (ldsC l d (k + 1))) := Lib.hid (by rw [HLc.out]; exact HR.out.push hown' hgrow (fun e => by have := (hnil.1 e).2; omega))
        have HB4 := Lib.hid (HB.out.ints HR.out.1 (Nat.le_refl _) hgrow)
        clear hown' hgrow hnil hrow
        exact ⟨⟨k + 1, by omega, by go_num, HN4, HB4⟩, by simp [intOf]; omega⟩
      · obtain rfl : k = m + 1 := by omega
        have HX := Lib.hid (retL_nums HR.out true)
        go_wp2_with fail
        go_ret2
        exact HX.out
end Go.Proofs.Ytffejbgcgagkpaa
