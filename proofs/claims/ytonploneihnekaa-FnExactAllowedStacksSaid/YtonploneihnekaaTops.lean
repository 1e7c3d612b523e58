/-
  What the two TopOf and the two FreePlaces return. No statement of the seat by itself.
-/
import Derived.Test.YtonploneihnekaaPlace
namespace Go.Proofs.Ytonploneihnekaa
open Go.RowKit

/-- The highest number of a stack, or 0. -/
def topL (l : List Int) : Int := if l.length = 0 then 0 else l.getD (l.length - 1) 0
def topR (Y : List (List Int)) (s : Int) : Int := if okS Y s = true then topL (Y.getD s.toNat []) else 0
theorem topR_no {Y : List (List Int)} {s : Int} (h : okS Y s = false) : topR Y s = 0 := by simp [topR, h]
theorem topR_yes {Y : List (List Int)} {i : Nat} {l : List Int} (h : okS Y (i : Int) = true) (hl : Y[i]? = some l) : topR Y (i : Int) = topL l := by
  simp only [topR, h, if_true, Int.toNat_natCast, getD_of hl]

set_option maxRecDepth 100000 in
set_option maxHeartbeats 2000000 in
theorem implTop_any (v : Value) (Y : List (List Int)) (s : Int) (h1 : Y.length ≤ 1048576) (h2 : tot Y ≤ 1048576) (w : World) (h : YdR w v Y) :
    Calls Try.prog 73 #[v, .int .i64 s] w (RetP w (.tuple #[.int .i64 (topR Y s), .bool (okS Y s)])) := by
  obtain ⟨v0, rfl, hv⟩ := h
  have BA := Box1.new w v0 31
  have B0 := Lib.hid (below_one w (.cells #[v0] 31))
  have HF := Lib.hid (hasStack_any (.agg #[v0]) Y s h1 h2 _ ⟨v0, rfl, hv.below B0.out⟩)
  obtain ⟨a, cap, rfl, hc⟩ := hv
  obtain ⟨n, hn⟩ : ∃ n, Y.length = n := ⟨_, rfl⟩
  have HN := Lib.hid hn
  have HC := Lib.hid hc
  rw [hn] at h1 BA B0 HF ⊢
  have HBA := Lib.hid BA
  clear hc hn BA
  cases hg : okS Y s with
  | false =>
    rw [topR_no hg]
    rw [hg] at HF
    clear hg
    go_enter Try.func73, Try.ntmps73
    go_wp2_with fail
    refine HF.out.mono ?_
    rintro e w1 ⟨rfl, hb⟩
    have B1 := Lib.hid (B0.out.trans (hb.mono B0.out.size))
    clear hb
    go_wp2_with fail
    go_ret2
    exact ⟨rfl, B1.out⟩
  | true =>
    obtain ⟨hgd, hs0, hs1⟩ := okS_iff.1 hg
    rw [HN.out] at hs1
    obtain ⟨i, rfl⟩ : ∃ i : Nat, s = (i : Int) := ⟨s.toNat, by omega⟩
    have hlt : i < n := by omega
    obtain ⟨l, hl⟩ := get_at HN.out hlt
    obtain ⟨g, off, rfl, hg0, hcc⟩ := HC.out (by have := HN.out; omega)
    obtain ⟨u, hu', hil⟩ := hcc i l hl
    have hm1 := row_len hl
    rw [topR_yes hg hl]
    obtain ⟨a2, c2, rfl, hrow⟩ := hil
    have HR := Lib.hid hrow
    have HL := Lib.hid (show topL l = if l.length = 0 then 0 else l.getD (l.length - 1) 0 from rfl)
    have HU := Lib.hid hu'
    rw [hg] at HF
    obtain ⟨m, hm⟩ : ∃ m, l.length = m := ⟨_, rfl⟩
    have HM := Lib.hid hm
    rw [hm] at hm1 HU HR HL
    clear hcc hl hrow hm hu' hg hgd hs0 hs1
    by_cases h0 : m = 0
    · subst h0
      have HX : Hid (topL l = 0) := Lib.hid (by rw [HL.out]; simp)
      go_enter Try.func73, Try.ntmps73
      go_wp2_with fail
      refine HF.out.mono ?_
      rintro e w1 ⟨rfl, hb⟩
      have B1 := Lib.hid (B0.out.trans (hb.mono B0.out.size))
      have c1 := (HBA.out.below hb).2
      have hu := (B1.out.cell (p := ⟨g, off + i, none⟩) hg0).trans HU.out
      clear hb
      go_wp2_with fail
      go_ret2
      exact ⟨by rw [HX.out]; rfl, B1.out⟩
    · obtain ⟨g2, off2, rfl, hg2, hcc2⟩ := HR.out (by omega)
      obtain ⟨x, hx⟩ := get_at (Y := l) (k := m - 1) HM.out (by omega)
      have HX : Hid (topL l = x) := Lib.hid (by rw [HL.out, if_neg h0]; simp [List.getD, hx])
      have HCx := Lib.hid (hcc2 _ x hx)
      have hsub : (m : Int) - 1 = ((m - 1 : Nat) : Int) := by omega
      have hml : m - 1 < m := by omega
      have hne : ((m : Int) == 0) = false := by simpa using h0
      clear hcc2 hx
      generalize m - 1 = q at *
      go_enter Try.func73, Try.ntmps73
      go_wp2_with fail
      refine HF.out.mono ?_
      rintro e w1 ⟨rfl, hb⟩
      have B1 := Lib.hid (B0.out.trans (hb.mono B0.out.size))
      have c1 := (HBA.out.below hb).2
      have hu := (B1.out.cell (p := ⟨g, off + i, none⟩) hg0).trans HU.out
      have hxc := (B1.out.cell (p := ⟨g2, off2 + q, none⟩) hg2).trans HCx.out
      clear hb
      go_wp2_with fail
      go_ret2
      exact ⟨by rw [HX.out]; rfl, B1.out⟩
/-- How many further numbers there is room for. -/
def freeR (Y : List (List Int)) : Int := if goodY Y = true then 4 * (Y.length : Int) - (tot Y : Nat) else 0
theorem tk_four {Y : List (List Int)} (h : rowsOk Y) : ∀ k, k ≤ Y.length → tk Y k ≤ 4 * k
  | 0, _ => by rw [tk_zero]; omega
  | k + 1, hk => by
    obtain ⟨l, hl⟩ := get_at (Y := Y) rfl (show k < Y.length by omega)
    have := tk_four h k (by omega)
    have := h l (List.mem_of_getElem? hl)
    rw [tk_succ hl]
    omega

end Go.Proofs.Ytonploneihnekaa
