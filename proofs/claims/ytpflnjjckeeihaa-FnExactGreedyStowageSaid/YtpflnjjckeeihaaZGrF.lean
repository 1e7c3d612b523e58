/-
  What spec.l10Free and impl.greedyRow return. No statement of the seat by itself.
-/
import Derived.Test.YtpflnjjckeeihaaZGrM
import Derived.Test.YtpflnjjckeeihaaEarI
import Derived.ScopeJumps
import Derived.WalkMore
namespace Go.Proofs.Ytpflnjjckeeihaa
open Go.RowKit

set_option maxRecDepth 100000 in
set_option maxHeartbeats 4000000 in
theorem l10Free_any (v vn : Value) (r h x : Int) (P L : List Int) (hn : P.length ≤ 7) (hL : L.length ≤ 100) (hr : ∀ y ∈ L, 1 ≤ y ∧ y ≤ (P.length : Int)) (hx : x ≤ 100) (w : World) (hv : StR w v r h P) (hl : IL w vn L) :
    Calls Try.prog 62 #[v, vn, .int .i64 x] w (BoolP w (decide (x ≤ earL (L.map (ptZ P))))) := by
  obtain ⟨v0, rfl, hv⟩ := hv
  have BA := Lib.hid (Box3.new w r h v0 26)
  have B0 := Lib.hid (below_one w (.cells #[.int .i64 r, .int .i64 h, v0] 26))
  have HV := Lib.hid (hv.below B0.out)
  have HI := Lib.hid (hl.below B0.out)
  have HRg := Lib.hid hr
  obtain ⟨n, hnL⟩ : ∃ n, L.length = n := ⟨_, rfl⟩
  have HN := Lib.hid hnL
  obtain ⟨al, cl, rfl⟩ := hl.form
  obtain ⟨p, hp⟩ : ∃ p, P.length = p := ⟨_, rfl⟩
  have HP := Lib.hid hp
  obtain ⟨ap, cp, rfl⟩ := hv.form
  rw [hp] at HV BA B0 HI hn HRg ⊢
  rw [hnL] at hL HI ⊢
  clear hv hl hr hnL hp
  go_enter Try.func62, Try.ntmps62
  go_wp2_with fail
  generalize w.alloc (.cells #[.int .i64 r, .int .i64 h, .slice ap p cp] 26) = w0 at *
  obtain ⟨-, -, -, c2⟩ := BA.out
  go_loopw [7] (fun i wr => ∃ k q : Nat, k ≤ n ∧ i = .int .i64 k ∧ wr = w0.drewN q ∧ Hid (∀ a ∈ (L.take k).map (ptZ P), x ≤ a)) (fun i _ => n - (intOf i).toNat)
  case atStart => exact ⟨0, 0, Nat.zero_le _, rfl, rfl, Lib.hid (by simp)⟩
  case round =>
    obtain ⟨k, q, hk, rfl, rfl, HK⟩ := hrel
    by_cases hlt : k < n
    · obtain ⟨g, off, rfl, hg, hcc⟩ : ∃ g off, al = some ⟨g, off, none⟩ ∧ g < w0.heap.size ∧ ∀ i x, L[i]? = some x → w0.cell? ⟨g, off + i, none⟩ = some (.int .i64 x) := by
        obtain ⟨a', c', e, hh⟩ := HI.out
        injection e with e1 e2 e3
        subst e1
        exact hh (by have := HN.out; omega)
      obtain ⟨y, hy⟩ := get_at HN.out hlt
      have hy17 := HRg.out y (List.mem_of_getElem? hy)
      obtain ⟨m, rfl⟩ : ∃ m : Nat, y = (m : Int) + 1 := ⟨(y - 1).toNat, by omega⟩
      obtain ⟨gp, offp, rfl, hgp, hcp⟩ : ∃ go offo, ap = some ⟨go, offo, none⟩ ∧ go < w0.heap.size ∧ ∀ i x, P[i]? = some x → w0.cell? ⟨go, offo + i, none⟩ = some (.int .i64 x) := by
        obtain ⟨a', c', e, hh⟩ := HV.out
        injection e with e1 e2 e3
        subst e1
        exact hh (by have := HP.out; omega)
      have hmp : m < p := by omega
      obtain ⟨z, hz⟩ := get_at HP.out hmp
      have o1 := hcc k _ hy
      have o2 := hcp m z hz
      have e : ptZ P ((m : Int) + 1) = z := by rw [ptZ_at, List.getD, hz]; rfl
      have hsub : IntKind.i64.wrap ((m : Int) + 1 - 1) = (m : Int) := by rw [IntKind.wrap_i64]; omega
      have hsb : (m : Int) + 1 - 1 = (m : Int) := by omega
      have hki : (k : Int) < (n : Int) := by omega
      have hmi : (m : Int) < (p : Int) := by omega
      have HY := Lib.hid hy
      clear hcc hcp hy hz hy17
      by_cases hzx : z < x
      · have HF : Hid (decide (x ≤ earL (L.map (ptZ P))) = false) := Lib.hid (by
          rw [decide_eq_false_iff_not, Int.not_le, earL_lt]
          exact .inr ⟨z, List.mem_map.2 ⟨_, List.mem_of_getElem? HY.out, e⟩, hzx⟩)
        clear e
        go_wp2_with fail
        go_quiet (fail)
        go_wp2_with fail
        go_ret
        exact ⟨by rw [HF.out]; rfl, below_drewN (below_drewN B0.out _) _⟩
      · have HK2 : Hid (∀ a ∈ (L.take (k + 1)).map (ptZ P), x ≤ a) := Lib.hid fun a ha => by
          rw [List.take_add_one, HY.out, List.map_append] at ha
          rcases List.mem_append.1 ha with h | h
          · exact HK.out a h
          · simp [e] at h; rw [h]; omega
        clear e
        go_wp2_with fail
        go_quiet (fail)
        go_wp2_with fail
        exact ⟨⟨k + 1, q + nq, by omega, by go_num, rfl, HK2⟩, by simp [intOf]; omega⟩
    · obtain rfl : k = n := by omega
      have HF : Hid (decide (x ≤ earL (L.map (ptZ P))) = true) := Lib.hid (by
        rw [decide_eq_true_iff]
        rcases Int.lt_or_le (earL (L.map (ptZ P))) x with h | h
        · rw [earL_lt] at h
          rcases h with h | ⟨a, ha, hax⟩
          · omega
          · have hk9 := HK.out a (by rw [List.take_of_length_le (by have := HN.out; omega)]; exact ha)
            omega
        · exact h)
      go_wp2_with fail
      go_ret
      exact ⟨by rw [HF.out]; rfl, below_drewN B0.out q⟩

set_option maxRecDepth 100000 in
set_option maxHeartbeats 4000000 in
theorem greedyRow_any (a : Option Addr) (q c H k : Nat) (x : Int) (Y : List (List Int)) (hq : Y.length = q) (hq5 : q ≤ 5) (_hH : H ≤ 4) (hY : ∀ l ∈ Y, l.length ≤ 4 ∧ 0 ≤ earL l) (hk : GrP (gr1 H Y x) (gr2 H Y) Y.length k) (w : World) (hv : YL w (.slice a q c) Y) :
    Calls Try.prog 61 #[.slice a q c, .int .i64 (H : Int), .int .i64 x] w fun e w' => e = .returned (.int .i64 (k : Int)) ∧ w = w' := by
  have HQ := Lib.hid hq
  have HYs := Lib.hid hY
  have HK := Lib.hid hk
  have HRow : Hid (∀ j l, Y[j]? = some l → ∃ g off, a = some ⟨g, off, none⟩ ∧ ∃ u, w.cell? ⟨g, off + j, none⟩ = some u ∧ (∃ a2 c2, u = .slice a2 l.length c2) ∧ Calls Try.prog 77 #[u] w fun e w' => e = .returned (.int .i64 (earL l)) ∧ w = w') := Lib.hid fun j l hl => by
    obtain ⟨a', c', e, hh⟩ := hv
    injection e with e1 e2 e3
    subst e1
    obtain ⟨g, off, rfl, hg, hcc⟩ := hh (by have := lt_of_get hl; omega)
    obtain ⟨u, hu, hil⟩ := hcc j l hl
    exact ⟨g, off, rfl, u, hu, hil.form, earliestIn_any u l (by have := (hY l (List.mem_of_getElem? hl)).1; omega) w hil⟩
  clear hq hY hk hv
  go_enter Try.func61, Try.ntmps61
  go_wp2_with fail
  refine wp_scope_jumps 0 (fun a' w' => w = w' ∧ ∃ (u6 u8 u9 u10 u11 u12 u13 u14 u15 u16 u17 u18 u19 u20 u21 u22 u23 u24 u25 u26 u27 u28 u29 : Value), a' = { tmps := #[.slice a q c, .int .i64 (H : Int), .int .i64 x, undef, undef, undef, u6, .int .i64 0, u8, u9, u10, u11, u12, u13, u14, u15, u16, u17, u18, u19, u20, u21, u22, u23, u24, u25, u26, u27, u28, u29], defers := [] } ∧ Hid (∀ j, j < q → gr1 H Y x j = false)) (fun _ _ => 0) rfl ?_ ?_
  · go_wp2_with fail
    go_step3
    go_wp2_with fail
    go_loopw [13] (fun i wr => ∃ j : Nat, j ≤ q ∧ i = .int .i64 j ∧ wr = w ∧ Hid (∀ i, i < j → gr1 H Y x i = false)) (fun i _ => q - (intOf i).toNat)
    case atStart => exact ⟨0, Nat.zero_le _, rfl, rfl, Lib.hid fun i hi => by omega⟩
    case round =>
      obtain ⟨j, hj, rfl, rfl, HJ⟩ := hrel
      by_cases hlt : j < q
      · obtain ⟨l, hl⟩ := get_at HQ.out hlt
        obtain ⟨g, off, rfl, u, hu, ⟨a2, c2, rfl⟩, HE⟩ := HRow.out j l hl
        have hl4 := (HYs.out l (List.mem_of_getElem? hl)).1
        have hl0 := (HYs.out l (List.mem_of_getElem? hl)).2
        have hd : Y.getD j [] = l := by simp [List.getD, hl]
        obtain ⟨n, hn⟩ : ∃ n, l.length = n := ⟨_, rfl⟩
        have hg1 : gr1 H Y x j = (decide (n < H) && decide (x ≤ earL l)) := by unfold gr1; rw [hd, hn]
        rw [hn] at hu hl4 HE
        have HEE := Lib.hid HE
        have hji : (j : Int) < (q : Int) := by omega
        clear HE hl hd hn
        by_cases h1 : n < H
        · have h1i : (n : Int) < (H : Int) := by omega
          by_cases h2 : x ≤ earL l
          · have HKj : Hid (j = k) := Lib.hid (GrP.one ⟨by rw [HQ.out]; exact hlt, .inl ⟨by rw [hg1]; simp [h1, h2], HJ.out⟩⟩ HK.out)
            clear hg1
            generalize earL l = z at *
            go_wp2_with fail
            refine HEE.out.mono ?_
            rintro e w1 ⟨rfl, rfl⟩
            go_wp2_with fail
            simp only [Exit.jump]
            go_ret
            exact ⟨by rw [← HKj.out]; rfl, rfl⟩
          · have HJ2 : Hid (∀ i, i < j + 1 → gr1 H Y x i = false) := Lib.hid fun i hi => by
              by_cases e : i = j
              · rw [e, hg1]; simp [h2]
              · exact HJ.out i (by omega)
            have h2i : decide (x ≤ earL l) = false := by simp; omega
            clear hg1
            generalize earL l = z at *
            go_wp2_with fail
            refine HEE.out.mono ?_
            rintro e w1 ⟨rfl, rfl⟩
            go_wp2_with fail
            exact ⟨⟨j + 1, by omega, by go_num, (by first | trivial | rfl), HJ2⟩, by simp [intOf]; omega⟩
        · have HJ2 : Hid (∀ i, i < j + 1 → gr1 H Y x i = false) := Lib.hid fun i hi => by
            by_cases e : i = j
            · rw [e, hg1]; simp [h1]
            · exact HJ.out i (by omega)
          have h1i : ¬ (n : Int) < (H : Int) := by omega
          clear hg1
          go_wp2_with fail
          exact ⟨⟨j + 1, by omega, by go_num, (by first | trivial | rfl), HJ2⟩, by simp [intOf]; omega⟩
      · obtain rfl : j = q := by omega
        go_wp2_with fail
        go_step3
        exact ⟨rfl, rfl, _, _, _, _, _, _, _, _, _, _, _, _, _, _, _, _, _, _, _, _, _, _, _, rfl, HJ⟩
  · rintro a' w' ⟨rfl, u6, u8, u9, u10, u11, u12, u13, u14, u15, u16, u17, u18, u19, u20, u21, u22, u23, u24, u25, u26, u27, u28, u29, rfl, hno⟩
    go_wp2_with fail
    go_loopw [13] (fun i wr => ∃ j : Nat, j ≤ q ∧ i = .int .i64 j ∧ wr = w ∧ Hid (∀ i, i < j → gr2 H Y i = false)) (fun i _ => q - (intOf i).toNat)
    case atStart => exact ⟨0, Nat.zero_le _, rfl, rfl, Lib.hid fun i hi => by omega⟩
    case round =>
      obtain ⟨j, hj, rfl, rfl, HJ⟩ := hrel
      by_cases hlt : j < q
      · obtain ⟨l, hl⟩ := get_at HQ.out hlt
        obtain ⟨g, off, rfl, u, hu, ⟨a2, c2, rfl⟩, HE⟩ := HRow.out j l hl
        have hl4 := (HYs.out l (List.mem_of_getElem? hl)).1
        have hl0 := (HYs.out l (List.mem_of_getElem? hl)).2
        have hd : Y.getD j [] = l := by simp [List.getD, hl]
        obtain ⟨n, hn⟩ : ∃ n, l.length = n := ⟨_, rfl⟩
        have hg1 : gr2 H Y j = decide (n < H) := by unfold gr2; rw [hd, hn]
        rw [hn] at hu hl4 HE
        have HEE := Lib.hid HE
        have hji : (j : Int) < (q : Int) := by omega
        clear HE hl hd hn
        by_cases h1 : n < H
        · have h1i : (n : Int) < (H : Int) := by omega
          have HKj : Hid (j = k) := Lib.hid (GrP.one ⟨by rw [HQ.out]; exact hlt, .inr ⟨by rw [HQ.out]; exact hno.out, by rw [hg1]; simp [h1], HJ.out⟩⟩ HK.out)
          clear hg1
          generalize earL l = z at *
          go_wp2_with fail
          refine HEE.out.mono ?_
          rintro e w1 ⟨rfl, rfl⟩
          go_wp2_with fail
          simp only [Exit.jump]
          go_ret
          exact ⟨by rw [← HKj.out]; rfl, rfl⟩
        · have HJ2 : Hid (∀ i, i < j + 1 → gr2 H Y i = false) := Lib.hid fun i hi => by
            by_cases e : i = j
            · rw [e, hg1]; simp [h1]
            · exact HJ.out i (by omega)
          have h1i : ¬ (n : Int) < (H : Int) := by omega
          clear hg1
          go_wp2_with fail
          exact ⟨⟨j + 1, by omega, by go_num, (by first | trivial | rfl), HJ2⟩, by simp [intOf]; omega⟩
      · exfalso
        obtain ⟨k1, ⟨k2, -⟩ | ⟨-, k3, -⟩⟩ := HK.out
        · rw [hno.out k (by rw [← HQ.out]; exact k1)] at k2; cases k2
        · rw [HJ.out k (by have := HQ.out; omega)] at k3; cases k3
end Go.Proofs.Ytpflnjjckeeihaa
