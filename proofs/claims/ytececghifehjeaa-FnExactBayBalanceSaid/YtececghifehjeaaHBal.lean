/-
  What the two BayBalance return. No statement of the seat by itself.
-/
import Derived.Test.YtececghifehjeaaHGood
import Derived.Test.YtececghifehjeaaHClrM
namespace Go.Proofs.Ytececghifehjeaa
open Go.RowKit

def balR (hh : Int) (Y : List (List Int)) : Int := if goodB hh Y = true then balS Y Y.length else 0
theorem row_four {Y : List (List Int)} (h : ∀ l ∈ Y, l.length ≤ 4) (k : Nat) : (Y.getD k []).length ≤ 4 := by
  rcases Nat.lt_or_ge k Y.length with hk | hk
  · rw [getD_of (List.getElem?_eq_getElem hk)]; exact h _ (List.getElem_mem hk)
  · rw [List.getD, List.getElem?_eq_none hk]; simp
theorem balS_le {Y : List (List Int)} (h : ∀ l ∈ Y, l.length ≤ 4) : ∀ k : Nat, -(4 * (k : Int)) ≤ balS Y k ∧ balS Y k ≤ 4 * (k : Int)
  | 0 => by simp [balS]
  | k + 1 => by
    have h1 := balS_le h k
    have h2 := row_four h k
    simp only [balS]
    split
    · omega
    · split <;> omega
theorem balP_le {Y : List (List Int)} (h : ∀ l ∈ Y, l.length ≤ 4) : ∀ k : Nat, -(4 * (k : Int)) ≤ balP Y k ∧ balP Y k ≤ 4 * (k : Int)
  | 0 => by simp [balP]
  | k + 1 => by
    have h1 := balP_le h k
    have h2 := row_four h k
    have h3 := row_four h (Y.length - 1 - k)
    simp only [balP]
    omega

set_option maxRecDepth 100000 in
set_option maxHeartbeats 4000000 in
theorem implBal_any (v : Value) (hh : Int) (Y : List (List Int)) (h1 : Y.length ≤ 1048576) (h2 : tot Y ≤ 1048576) (w : World) (h : BdR w v hh Y) :
    Calls Try.prog 40 #[v] w (RetP w (.tuple #[.int .i64 (balR hh Y), .bool (goodB hh Y)])) := by
  obtain ⟨v0, rfl, hv⟩ := h
  have BA := Box2.new w hh v0 54
  have c0 := BA.2.1
  have c0b := BA.2.2
  have B0 := Lib.hid (below_one w (.cells #[.int .i64 hh, v0] 54))
  have HF := Lib.hid (goodB_impl (.agg #[.int .i64 hh, v0]) hh Y h1 h2 _ ⟨v0, rfl, hv.below B0.out⟩)
  obtain ⟨a, cap, rfl, hc⟩ := hv
  obtain ⟨n, hn⟩ : ∃ n, Y.length = n := ⟨_, rfl⟩
  have HN := Lib.hid hn
  have HC := Lib.hid hc
  rw [hn] at h1 BA B0 HF c0 c0b
  have HBA := Lib.hid BA
  rw [hn]
  clear hc hn BA
  cases hg : goodB hh Y with
  | false =>
    have HX : Hid (balR hh Y = 0) := Lib.hid (by simp [balR, hg])
    rw [hg] at HF
    clear hg
    go_enter Try.func40, Try.ntmps40
    go_wp2_with fail
    refine HF.out.mono ?_
    rintro e w1 ⟨rfl, hb⟩
    have B1 := Lib.hid (B0.out.trans (hb.mono B0.out.size))
    clear hb c0 c0b
    go_wp2_with fail
    go_ret2
    exact ⟨by rw [HX.out]; rfl, B1.out⟩
  | true =>
    obtain ⟨g1, g5, g4, -⟩ := goodB_rows hg
    rw [HN.out] at g1 g5
    have HX : Hid (balR hh Y = balP Y (n / 2)) := Lib.hid (by rw [balR, if_pos hg, ← HN.out]; exact (bal_eq (by have := HN.out; omega)).symm)
    have HLe := Lib.hid (balP_le g4)
    have HR4 := Lib.hid g4
    obtain ⟨p, hp⟩ : ∃ p, n = p + 1 := ⟨n - 1, by omega⟩
    have hsub : (n : Int) - 1 = (p : Int) := by omega
    obtain ⟨q, hq⟩ : ∃ q, n / 2 = q := ⟨_, rfl⟩
    have hquo : (n : Int).tdiv 2 = (q : Int) := by rw [← hq]; exact (Int.ofNat_tdiv n 2).symm
    have hqn : q ≤ p := by omega
    have HP := Lib.hid hp
    rw [hq] at HX
    rw [hg] at HF
    clear hg hp hq g4
    go_enter Try.func40, Try.ntmps40
    go_wp2_with fail
    refine HF.out.mono ?_
    rintro e w1 ⟨rfl, hb⟩
    have B1 := Lib.hid (B0.out.trans (hb.mono B0.out.size))
    have c1 := (HBA.out.below hb).2.2
    have HL1 := Lib.hid (HBA.out.below hb).1
    clear hb c0 c0b
    go_wp2_with fail
    go_quiet (fail)
    go_wp2_with fail
    go_loopw [4, 18] (fun f i wr => ∃ k : Nat, k ≤ q ∧ i = .int .i64 k ∧ f = .int .i64 (balP Y k) ∧ Hid (Below w1.heap.size w1 wr)) (fun _ i _ => q - (intOf i).toNat)
    case atStart => exact ⟨0, Nat.zero_le _, rfl, rfl, Lib.hid (below_drewN (Below.refl _ _) _)⟩
    case round =>
      obtain ⟨k, hk, rfl, rfl, HW⟩ := hrel
      have hk4 := HLe.out k
      have hk5 := HLe.out (k + 1)
      by_cases hlt : k < q
      · obtain ⟨l, hl⟩ := get_at (k := k) HN.out (by omega)
        obtain ⟨r, hr⟩ : ∃ r, p - k = r := ⟨_, rfl⟩
        have hrn : r < n := by omega
        obtain ⟨l2, hl2⟩ := get_at (k := r) HN.out hrn
        obtain ⟨g, off, rfl, hg0, hcc⟩ := HC.out (by have := HN.out; omega)
        obtain ⟨u, hu', hil⟩ := hcc k l hl
        obtain ⟨u2, hu2', hil2⟩ := hcc r l2 hl2
        have hb9 := B1.out.trans (HW.out.mono B1.out.size)
        have hu := (hb9.cell (p := ⟨g, off + k, none⟩) hg0).trans hu'
        have hu2 := (hb9.cell (p := ⟨g, off + r, none⟩) hg0).trans hu2'
        have c2 := (HW.out.cell (p := ⟨w.heap.size, 1, none⟩) HL1.out).trans c1
        obtain ⟨a2, cc2, rfl⟩ := hil.form
        obtain ⟨a3, cc3, rfl⟩ := hil2.form
        have hm4 := HR4.out l (List.mem_of_getElem? hl)
        have hm5 := HR4.out l2 (List.mem_of_getElem? hl2)
        have hs2 : (p : Int) - (k : Int) = (r : Int) := by omega
        have HT : Hid (balP Y (k + 1) = balP Y k + ((l2.length : Int) - (l.length : Int))) := Lib.hid (by
          rw [balP, getD_of hl, getD_of (show Y[Y.length - 1 - k]? = some l2 by rw [show Y.length - 1 - k = r by have := HN.out; omega]; exact hl2)])
        clear hcc hil hil2 hl hl2 hu' hu2' hb9 hr
        generalize l.length = m at *
        generalize l2.length = m2 at *
        obtain ⟨t2, ht2⟩ : ∃ t2, balP Y (k + 1) = t2 := ⟨_, rfl⟩
        have HT3 := Lib.hid ht2
        rw [ht2] at HT hk5
        clear ht2
        obtain ⟨t, ht⟩ : ∃ t, balP Y k = t := ⟨_, rfl⟩
        rw [ht] at HT hk4
        simp only [ht]
        clear ht
        go_wp2_with fail
        go_quiet (fail)
        go_wp2_with fail
        exact ⟨⟨k + 1, by omega, by go_num, val_i (by rw [HT3.out]; have := HT.out; omega), Lib.hid (below_drewN HW.out _)⟩, by simp [intOf]; omega⟩
      · obtain rfl : k = q := by omega
        go_wp2_with fail
        go_ret2
        exact ⟨by rw [HX.out]; rfl, B1.out.trans (HW.out.mono B1.out.size)⟩

set_option maxRecDepth 100000 in
set_option maxHeartbeats 4000000 in
theorem specBal_any (v : Value) (hh : Int) (Y : List (List Int)) (h1 : Y.length ≤ 1048576) (h2 : tot Y ≤ 1048576) (w : World) (h : BdR w v hh Y) :
    Calls Try.prog 41 #[v] w (RetP w (.tuple #[.int .i64 (balR hh Y), .bool (goodB hh Y)])) := by
  obtain ⟨v0, rfl, hv⟩ := h
  have BA := Box2.new w hh v0 54
  have c0 := BA.2.1
  have c0b := BA.2.2
  have B0 := Lib.hid (below_one w (.cells #[.int .i64 hh, v0] 54))
  have HF := Lib.hid (goodB_spec (.agg #[.int .i64 hh, v0]) hh Y h1 h2 _ ⟨v0, rfl, hv.below B0.out⟩)
  obtain ⟨a, cap, rfl, hc⟩ := hv
  obtain ⟨n, hn⟩ : ∃ n, Y.length = n := ⟨_, rfl⟩
  have HN := Lib.hid hn
  have HC := Lib.hid hc
  rw [hn] at h1 BA B0 HF c0 c0b
  have HBA := Lib.hid BA
  rw [hn]
  clear hc hn BA
  cases hg : goodB hh Y with
  | false =>
    have HX : Hid (balR hh Y = 0) := Lib.hid (by simp [balR, hg])
    rw [hg] at HF
    clear hg
    go_enter Try.func41, Try.ntmps41
    go_wp2_with fail
    refine HF.out.mono ?_
    rintro e w1 ⟨rfl, hb⟩
    have B1 := Lib.hid (B0.out.trans (hb.mono B0.out.size))
    clear hb c0 c0b
    go_wp2_with fail
    go_ret2
    exact ⟨by rw [HX.out]; rfl, B1.out⟩
  | true =>
    obtain ⟨g1, g5, g4, -⟩ := goodB_rows hg
    rw [HN.out] at g1 g5
    have HX : Hid (balR hh Y = balS Y n) := Lib.hid (by rw [balR, if_pos hg, HN.out])
    have HLe := Lib.hid (balS_le g4)
    have HR4 := Lib.hid g4
    rw [hg] at HF
    clear hg g4
    go_enter Try.func41, Try.ntmps41
    go_wp2_with fail
    refine HF.out.mono ?_
    rintro e w1 ⟨rfl, hb⟩
    have B1 := Lib.hid (B0.out.trans (hb.mono B0.out.size))
    have c1 := (HBA.out.below hb).2.2
    have HL1 := Lib.hid (HBA.out.below hb).1
    clear hb c0 c0b
    go_wp2_with fail
    go_loop [4, 6] (fun f i => ∃ k : Nat, k ≤ n ∧ i = .int .i64 k ∧ f = .int .i64 (balS Y k)) (fun _ i => n - (intOf i).toNat)
    case atStart => exact ⟨0, Nat.zero_le _, rfl, rfl⟩
    case round =>
      obtain ⟨k, hk, rfl, rfl⟩ := hrel
      have hk4 := HLe.out k
      have hk5 := HLe.out (k + 1)
      by_cases hlt : k < n
      · obtain ⟨l, hl⟩ := get_at HN.out hlt
        obtain ⟨g, off, rfl, hg0, hcc⟩ := HC.out (by have := HN.out; omega)
        obtain ⟨u, hu', hil⟩ := hcc k l hl
        have hu := (B1.out.cell (p := ⟨g, off + k, none⟩) hg0).trans hu'
        obtain ⟨a2, cc2, rfl⟩ := hil.form
        have hm4 := HR4.out l (List.mem_of_getElem? hl)
        have HT : Hid (balS Y (k + 1) = balS Y k + (if 2 * k + 1 < n then - (l.length : Int) else if n < 2 * k + 1 then (l.length : Int) else 0)) := Lib.hid (by rw [balS, getD_of hl, HN.out])
        clear hcc hil hl hu'
        generalize l.length = m at *
        obtain ⟨t2, ht2⟩ : ∃ t2, balS Y (k + 1) = t2 := ⟨_, rfl⟩
        have HT3 := Lib.hid ht2
        rw [ht2] at HT hk5
        clear ht2
        obtain ⟨t, ht⟩ : ∃ t, balS Y k = t := ⟨_, rfl⟩
        rw [ht] at HT hk4
        simp only [ht]
        clear ht
        by_cases ha : 2 * k + 1 < n
        · have ha' : (2 * (k : Int) + 1) < (n : Int) := by omega
          rw [if_pos ha] at HT
          go_wp2_with fail
          go_round
          case rel => exact ⟨k + 1, by omega, by go_num, val_i (by rw [HT3.out]; have := HT.out; omega)⟩
          case measure => simp [intOf]; omega
        · have ha' : ¬ (2 * (k : Int) + 1) < (n : Int) := by omega
          rw [if_neg ha] at HT
          by_cases hb : n < 2 * k + 1
          · have hb' : (n : Int) < 2 * (k : Int) + 1 := by omega
            rw [if_pos hb] at HT
            go_wp2_with fail
            go_round
            case rel => exact ⟨k + 1, by omega, by go_num, val_i (by rw [HT3.out]; have := HT.out; omega)⟩
            case measure => simp [intOf]; omega
          · have hb' : ¬ (n : Int) < 2 * (k : Int) + 1 := by omega
            rw [if_neg hb] at HT
            go_wp2_with fail
            go_round
            case rel => exact ⟨k + 1, by omega, by go_num, val_i (by rw [HT3.out]; have := HT.out; omega)⟩
            case measure => simp [intOf]; omega
      · obtain rfl : k = n := by omega
        go_wp2_with fail
        go_ret2
        exact ⟨by rw [HX.out]; rfl, B1.out⟩
end Go.Proofs.Ytececghifehjeaa
