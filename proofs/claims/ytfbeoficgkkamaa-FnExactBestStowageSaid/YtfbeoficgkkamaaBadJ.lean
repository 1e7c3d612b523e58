/-
  What impl.BadlyPlaced returns. No statement of the seat by itself.
-/
import Derived.Test.YtfbeoficgkkamaaBadI
import Derived.Test.YtfbeoficgkkamaaPutM
namespace Go.Proofs.Ytfbeoficgkkamaa
open Go.RowKit Go.Sort

theorem sortI_call (B : Nat) (v : Value) (R : List Int) (w : World) (h : w.ownsRow B 3 1 v R.length (intV R)) (hne : v ≠ .slice none 0 0) (hs : R.length ≤ 1000) :
    Calls Try.prog 80 #[v] w fun e w' => e = .returned (.tuple #[]) ∧ w'.ownsRow B 3 1 v (srtI R).length (intV (srtI R)) ∧ w.grownBy w' v.ownBlock := by
  rcases h.2 with ⟨e, _⟩ | ⟨g, cap, cur, rfl, hg, hb, hn, hcm, hsz, hx⟩
  · exact absurd e hne
  · have hlt := (Array.getElem?_eq_some_iff.1 hb).1
    have hx' : cur.toList.take R.length = R.map (Value.int .i64) := by simpa [intV] using hx
    have hc := AnyM.slices_Sort_int Try.sortI g 0 cap R w (holds_of_blockI hb hx') hlt (by omega)
    refine Calls.mono hc fun e w' ⟨he, n, os, hw⟩ => ⟨he, ?_, ?_⟩
    · rw [hw, srtI_is]
      have := ownsRow_sortedI (w := w) (n := n) (os := os) (ss := R) (ts := srtI R) (srtI_len R) hg hb (by simpa using hn) hcm hsz
      rw [srtI_len R]
      exact this
    · rw [hw]; exact grownBy_sortedI _

/-- The badly placed numbers of a valid yard. -/
def badR (Y : List (List Int)) : List Int := if goodY Y = true then srtI (badYL Y Y.length) else []
theorem badYL_len (Y : List (List Int)) (h : ∀ l ∈ Y, l.length ≤ 4) : ∀ k, k ≤ Y.length → (badYL Y k).length ≤ 4 * k
  | 0, _ => by simp [badYL]
  | k + 1, hk => by
    have h1 := badYL_len Y h k (by omega)
    have hg : Y[k]? = some Y[k] := List.getElem?_eq_getElem (by omega)
    have h2 := badL_len Y[k] Y[k].length
    have h3 := h _ (List.getElem_mem (by omega : k < Y.length))
    rw [badYL_succ hg, List.length_append]
    omega
theorem badR_len (Y : List (List Int)) : (badR Y).length ≤ 1048576 := by
  unfold badR
  split
  · rename_i h
    obtain ⟨_, h6, h4, _⟩ := goodY_iff.1 h
    have := badYL_len Y h4 Y.length (Nat.le_refl _)
    rw [srtI_len]
    omega
  · simp
theorem coll_below {w w1 w2 : World} {v0 s : Value} {S : List Int} (h : Coll w w1 v0 s S) (hb : Below w1.heap.size w1 w2) : Coll w w2 v0 s S := by
  obtain ⟨r1, r2, r3, r4, r5⟩ := h
  exact ⟨row_below r1 hb, (hb.cell (p := ⟨w.heap.size, 0, none⟩) (by show w.heap.size < _; omega)).trans r2, r3.trans (hb.mono r3.size), Nat.le_trans r4 hb.size, r5⟩
theorem coll_app {w wr w4 : World} {v0 s v' : Value} {S T : List Int} (h : Coll w wr v0 s S) (ho : w4.ownsRow (w.heap.size + 1) 3 1 v' (S.length + T.length) (intV S ++ intV T)) (hg : wr.grownBy w4 s.ownBlock) (hn : v' = .slice none 0 0 ↔ s = .slice none 0 0 ∧ T.length = 0) : Coll w w4 v0 v' (S ++ T) := by
  obtain ⟨r1, r2, r3, r4, r5⟩ := h
  refine ⟨?_, ?_, r3.grown hg (by have := r3.size; omega) (fun j e => by have := row_base r1 j e; omega), by have := hg.size; omega, fun e => r5 (hn.1 e).1⟩
  · rw [List.length_append, show intV (S ++ T) = intV S ++ intV T by simp [intV]]; exact ho
  · rw [World.cell?_of_block (hg.block w.heap.size (by omega) (fun e => by have := row_base r1 _ e.symm; omega))]
    exact r2

set_option maxRecDepth 100000 in
set_option maxHeartbeats 8000000 in
theorem implBad_any (v : Value) (Y : List (List Int)) (B hi : Nat) (h1 : Y.length ≤ 1048576) (h2 : tot Y ≤ 1048576) (w : World) (h : YdO w B hi v Y) :
    Calls Try.prog 87 #[v] w (RetL w (badR Y) (goodY Y)) := by
  obtain ⟨f3, hi3, hz0, hz1, hz2⟩ := info_is info3
  obtain ⟨v0, rfl, hv⟩ := h
  have C0 := coll_start w v0 67
  have c0 := C0.2.1
  have B0 := Lib.hid (below_two w (.cells #[v0] 67) (.cells #[] 3))
  have HF := Lib.hid (good_impl (.agg #[v0]) Y h1 h2 _ ⟨v0, rfl, hv.yl.below B0.out⟩)
  obtain ⟨a, cap, rfl⟩ := hv.form
  obtain ⟨n, hn⟩ : ∃ n, Y.length = n := ⟨_, rfl⟩
  have HN := Lib.hid hn
  have HV := Lib.hid hv
  rw [hn] at h1 C0 B0 HF c0 HV
  have HC0 := Lib.hid C0
  rw [hn]
  clear hv C0
  cases hg : goodY Y with
  | false =>
    have HX : Hid (badR Y = []) := Lib.hid (by simp [badR, hg])
    rw [hg] at HF
    clear hg hn
    go_enter Try.func87, Try.ntmps87
    go_wp2_with fail
    refine HF.out.mono ?_
    rintro e w1 ⟨rfl, hb⟩
    have B1 := Lib.hid (B0.out.trans (hb.mono B0.out.size))
    have R1 := Lib.hid (row_below HC0.out.1 hb)
    clear hb c0
    go_wp2_with fail
    go_ret2
    rw [HX.out]
    exact retL_of (by simpa using R1.out) (Nat.le_succ _) B1.out
  | true =>
    have HX : Hid (badR Y = srtI (badYL Y n)) := Lib.hid (by simp [badR, hg, HN.out])
    obtain ⟨h11, h66, h44, -⟩ := goodY_iff.1 hg
    have HB4 := Lib.hid (badYL_len Y h44)
    have H4 := Lib.hid (fun (j : Nat) (l : List Int) (hl : Y[j]? = some l) => h44 l (List.mem_of_getElem? hl))
    rw [hn] at h66
    have hn0 : 0 < n := by omega
    obtain ⟨g, cap', e⟩ := HV.out.rows (by have := HN.out; omega)
    injection e with e1 e2 e3
    subst e1
    clear e2 e3 h11 h44
    rw [hg] at HF
    clear hg hn
    go_enter Try.func87, Try.ntmps87
    go_wp2_with fail
    refine HF.out.mono ?_
    rintro e w1 ⟨rfl, hb⟩
    have C1 : Hid (Coll w w1 (.slice (some ⟨g, 0, none⟩) n cap) (.slice (some ⟨w.heap.size + 1, 0, none⟩) 0 0) (badYL Y 0)) := Lib.hid (coll_below HC0.out hb)
    have c1 := C1.out.2.1
    clear hb c0
    go_wp2_with fail
    clear c1
    go_loopw [4, 15] (fun s i wr => ∃ k : Nat, k ≤ n ∧ i = .int .i64 k ∧ Hid (Coll w wr (.slice (some ⟨g, 0, none⟩) n cap) s (badYL Y k))) (fun _ i _ => n - (intOf i).toNat)
    case atStart => exact ⟨0, Nat.zero_le _, rfl, C1⟩
    case round =>
      obtain ⟨k, hk, rfl, HR⟩ := hrel
      by_cases hlt : k < n
      · obtain ⟨l, hl⟩ := get_at HN.out hlt
        have HVr := HV.out.below (HR.out.2.2.1)
        obtain ⟨u, hu, -, hown, -⟩ := HVr.cell hl
        obtain ⟨a2, c2, rfl⟩ := own_form hown
        have hl4 := H4.out k l hl
        have HW := Lib.hid (badlyPlacedIn_any _ l (by omega) wr ⟨B, hown⟩)
        have HT := Lib.hid (badYL_succ hl)
        have hTl := badL_len l l.length
        have hSl := HB4.out k (by have := HN.out; omega)
        generalize badL l l.length = T at *
        generalize badYL Y k = S at *
        generalize l.length = m at *
        clear hown hl HVr
        go_wp2_with fail
        refine HW.out.mono ?_
        rintro e w2 ⟨u2, rfl, hown2, hb2⟩
        have HR2 := Lib.hid (coll_below HR.out hb2)
        obtain ⟨hrow, hc0, hB, hz, hne⟩ := HR2.out
        obtain ⟨a3, c3, rfl⟩ := own_form hown2
        cases T with
        | nil =>
          obtain ⟨aS, cS, rfl⟩ := own_form hrow
          simp only [List.length_nil] at hown2 hTl ⊢
          have hle : S.length ≤ cS := by
            rcases hrow.2 with ⟨e, _⟩ | ⟨g', cap', cur, e, _, _, h5, _⟩
            · exact absurd e hne
            · injection e with e1 e2 e3
              subst e3; exact h5
          clear hc0 hB hz hrow hown2 hb2
          go_wp2_with (at_builtin; refine wpList_append_zero rfl _ _ 24 rfl 3 f3 Try.underlying24 hi3 _ _ _ _ _ rfl rfl hle ?_)
          exact ⟨⟨k + 1, by omega, by go_num, by rw [HT.out, List.append_nil]; exact HR2⟩, by simp [intOf]; omega⟩
        | cons t T =>
          obtain ⟨g2, off2, rfl, -, hcc⟩ := show ∃ g2 off2, a3 = some ⟨g2, off2, none⟩ ∧ g2 < w2.heap.size ∧ ∀ (j : Nat) (x : Int), (t :: T)[j]? = some x → w2.cell? ⟨g2, off2 + j, none⟩ = some (.int .i64 x) from by
            obtain ⟨a', c', e, hh⟩ := il_of_owns hown2
            injection e with e1 e2 e3
            subst e1
            exact hh (by simp)
          have HS := src_of hcc
          clear hcc hc0 hown2 hb2
          generalize hTT : t :: T = T' at *
          have hiv := intV_len T'
          go_wp2_with (at_builtin; refine wpList_append_own _ rfl _ _ 24 rfl (w.heap.size + 1) 3 f3 (.int .i64 0) 1 8 Try.underlying24 hi3 hz0 hz1 hz2 rfl (by decide) _ _ _ rfl hrow ⟨g2, off2, none⟩ T'.length _ (intV T') rfl (by omega) HS (intV_one T') (by unfold maxLen; omega) (by omega) (by omega) ?_; intro v' w4 hown' hgrow hnil)
          have HN4 : Hid (Coll w w4 (.slice (some ⟨g, 0, none⟩) n cap) v' (badYL Y (k + 1))) := Lib.hid (by rw [HT.out]; exact coll_app HR2.out hown' hgrow hnil)
          clear hown' hgrow hnil hrow hB hz
          exact ⟨⟨k + 1, by omega, by go_num, HN4⟩, by simp [intOf]; omega⟩
      · obtain rfl : k = n := by omega
        have hSl := HB4.out k (by have := HN.out; omega)
        have HS := Lib.hid (sortI_call _ _ _ wr HR.out.1 HR.out.2.2.2.2 (by omega))
        go_wp2_with fail
        refine HS.out.mono ?_
        rintro e w2 ⟨rfl, ho2, hg2⟩
        have HO := Lib.hid ho2
        have HB2 : Hid (Below w.heap.size w w2) := Lib.hid (HR.out.2.2.1.grown hg2 (by have := HR.out.2.2.1.size; omega) (fun j e => by have := row_base HR.out.1 j e; omega))
        clear ho2 hg2
        go_wp2_with fail
        go_ret2
        rw [HX.out]
        exact retL_of HO.out (Nat.le_succ _) HB2.out
end Go.Proofs.Ytfbeoficgkkamaa
