/-
  What spec.l7Asked answers. No statement of the seat by itself.
-/
import Derived.Test.YtonploneihnekaaFndK
namespace Go.Proofs.Ytonploneihnekaa
open Go.RowKit

theorem askF_form (n : Nat) (f : Nat → C.Cont) (Y : List (List Int)) (p : Int) : askF n f Y p = ((goodY Y && (C.listB n f && fitB n Y)) && C.inB 0 6 p) := rfl
/-- While the numbers of a yard are looked at: the box and what is known. -/
def LookS (w wr : World) (x : Value) : Prop := Below w.heap.size w wr ∧ Box1 wr w.heap.size x
theorem LookS.below {w wr w' : World} {x : Value} (h : LookS w wr x) (hb : Below wr.heap.size wr w') : LookS w w' x := ⟨h.1.trans (hb.mono h.1.size), h.2.below hb⟩

set_option maxRecDepth 100000 in
set_option maxHeartbeats 1000000 in
theorem l7Asked_any (v : Value) (Y : List (List Int)) (g n : Nat) (f : Nat → C.Cont) (p : Int) (h1 : Y.length ≤ 1048576) (h2 : tot Y ≤ 1048576) (hn : n ≤ 1048576) (hid : ∀ j, j < n → (f j).id.size ≤ 1048576) (w : World) (h : YdR w v Y) (hc : C.CAt w g 0 n f) :
    Calls Try.prog 40 #[v, .slice (some ⟨g, 0, none⟩) n n, .int .i64 p] w (BoolP w (askF n f Y p)) := by
  obtain ⟨v0, rfl, hv⟩ := h
  have hv' := hv
  obtain ⟨a, cap, rfl, hcc⟩ := hv'
  have HG : Hid (∀ W, Below w.heap.size w W → Calls Try.prog 61 #[.agg #[.slice a Y.length cap]] W (BoolP W (goodY Y))) := Lib.hid fun W hb => good_spec _ Y h1 h2 W ⟨_, rfl, hv.below hb⟩
  have HL : Hid (∀ W, Below w.heap.size w W → Calls Try.prog 62 #[.slice (some ⟨g, 0, none⟩) n n] W (C.GoodPost W (C.listB n f))) := Lib.hid fun W hb => C.l2List_any g n n f hn hid W (hc.below hb)
  obtain ⟨pb, hpb⟩ : ∃ b, C.inB 0 6 p = b := ⟨_, rfl⟩
  have HI := Lib.hid (fun W => C.l1In_any p 0 6 pb hpb W)
  have HQ : Hid (askF n f Y p = ((goodY Y && (C.listB n f && fitB n Y)) && pb)) := Lib.hid (by rw [← hpb]; rfl)
  have HC := Lib.hid hcc
  have HR := Lib.hid (small_rows h2)
  have B0 := Lib.hid (below_one w (.cells #[.slice a Y.length cap] 31))
  have S0 : Hid (LookS w (w.alloc (.cells #[.slice a Y.length cap] 31)) (.slice a Y.length cap)) := Lib.hid ⟨B0.out, Box1.new w (.slice a Y.length cap) 31⟩
  clear hv hc hid hcc hpb h2
  generalize hm : Y.length = m at *
  have HM := Lib.hid hm
  clear hm
  generalize askF n f Y p = q at *
  go_enter Try.func40, Try.ntmps40
  go_wp2_with fail
  generalize w.alloc (.cells #[.slice a m cap] 31) = w0 at *
  refine (HG.out _ B0.out).mono ?_
  rintro e w1 ⟨rfl, hb⟩
  have S1 := Lib.hid (S0.out.below hb)
  clear hb
  cases hg : goodY Y with
  | false =>
    rw [hg] at HQ
    go_wp2_with fail
    go_ret
    exact ⟨by rw [HQ.out]; rfl, S1.out.1⟩
  | true =>
  rw [hg] at HQ
  go_wp2_with fail
  refine (HL.out _ S1.out.1).mono ?_
  rintro e w2 ⟨rfl, hb⟩
  have S2 := Lib.hid (S1.out.below hb)
  clear hb
  cases hl : C.listB n f with
  | false =>
    rw [hl] at HQ
    go_wp2_with fail
    go_ret
    exact ⟨by rw [HQ.out]; rfl, S2.out.1⟩
  | true =>
  rw [hl] at HQ
  go_wp2_with fail
  refine (HI.out _).mono ?_
  rintro e w3 ⟨rfl, rfl⟩
  cases pb with
  | false =>
    go_wp2_with fail
    go_ret
    exact ⟨by rw [HQ.out]; simp, S2.out.1⟩
  | true =>
  have HQ1 : Hid (q = fitB n Y) := Lib.hid (by rw [HQ.out]; simp)
  clear HQ hg hl
  go_wp2_with fail
  go_loopw [7] (fun i wr => ∃ k : Nat, k ≤ m ∧ i = .int .i64 k ∧ Hid (LookS w wr (.slice a m cap)) ∧ Hid (∀ (j : Nat) l, j < k → Y[j]? = some l → tallB n l = false)) (fun i _ => m - (intOf i).toNat)
  case atStart => exact ⟨0, Nat.zero_le _, rfl, S2, Lib.hid fun j l hj => by omega⟩
  case round =>
    obtain ⟨i, hi, rfl, HS, HK⟩ := hrel
    rename World => wo
    have c0 := HS.out.2.2
    by_cases hlt : i < m
    · obtain ⟨l, hl⟩ := get_at HM.out hlt
      obtain ⟨g1, o1, rfl, hg1, hc1⟩ := HC.out (by have := HM.out; omega)
      obtain ⟨u, hu', hil⟩ := hc1 i l hl
      have hu := (HS.out.1.cell (p := ⟨g1, o1 + i, none⟩) hg1).trans hu'
      have hsm := HR.out i l hl
      unfold maxLen at hsm
      obtain ⟨a2, c2, rfl, hrow⟩ := hil
      have HU := Lib.hid hu'
      have HRow := Lib.hid hrow
      have HLl := Lib.hid hl
      obtain ⟨r, hr⟩ : ∃ r, l.length = r := ⟨_, rfl⟩
      have HRl := Lib.hid hr
      rw [hr] at hsm hu HU
      clear hc1 hl hrow hr hu'
      go_wp2_with fail
      go_loopw [8] (fun kk wr => ∃ k : Nat, k ≤ r ∧ kk = .int .i64 k ∧ Hid (LookS w wr (.slice (some ⟨g1, o1, none⟩) m cap)) ∧ Hid (∀ (j : Nat) x, j < k → l[j]? = some x → x ≤ (n : Int))) (fun kk _ => r - (intOf kk).toNat)
      case atStart => exact ⟨0, Nat.zero_le _, rfl, HS, Lib.hid fun j x hj => by omega⟩
      case round =>
        clear hu c0
        obtain ⟨k, hk, rfl, HS2, HK2⟩ := hrel
        have c0 := HS2.out.2.2
        have hu := (HS2.out.1.cell (p := ⟨g1, o1 + i, none⟩) hg1).trans HU.out
        by_cases hkr : k < r
        · obtain ⟨g2, o2, rfl, hg2, hc2⟩ := HRow.out (by have := HRl.out; omega)
          obtain ⟨x, hx⟩ := get_at HRl.out hkr
          have hxc := (HS2.out.1.cell (p := ⟨g2, o2 + k, none⟩) hg2).trans (hc2 k x hx)
          have hir : (i : Int) < (m : Int) := by omega
          have hkri : (k : Int) < (r : Int) := by omega
          clear hc2
          by_cases hxn : (n : Int) < x
          · have HF := Lib.hid (fitB_no HLl.out (tallB_yes hx hxn))
            clear hx
            go_wp2_with (first | (go_quiet (fail)) | fail)
            go_ret
            first
              | exact ⟨by rw [HQ1.out, HF.out]; rfl, HS2.out.1⟩
              | exact ⟨by rw [HQ1.out, HF.out]; rfl, below_drewN HS2.out.1 _⟩
          · have HK3 : Hid (∀ (j : Nat) x, j < k + 1 → l[j]? = some x → x ≤ (n : Int)) := Lib.hid fun j y hj hy => by
              by_cases e : j = k
              · subst e; rw [hx] at hy; cases hy; omega
              · exact HK2.out j y (by omega) hy
            have hxd : decide ((n : Int) < x) = false := by simp; omega
            clear hx
            go_wp2_with (first | (go_quiet (fail)) | fail)
            first
              | exact ⟨⟨k + 1, by omega, by go_num, HS2, HK3⟩, by simp [intOf]; omega⟩
              | exact ⟨⟨k + 1, by omega, by go_num, Lib.hid (HS2.out.below (below_drewN (Below.refl _ _) _)), HK3⟩, by simp [intOf]; omega⟩
        · obtain rfl : k = r := by omega
          have HK3 : Hid (∀ (j : Nat) l, j < i + 1 → Y[j]? = some l → tallB n l = false) := Lib.hid fun j l' hj hl' => by
            by_cases e : j = i
            · subst e
              rw [HLl.out] at hl'
              cases hl'
              cases ht : tallB n l with
              | false => rfl
              | true =>
                obtain ⟨x, hx, hxx⟩ := List.any_eq_true.1 ht
                obtain ⟨j, hj⟩ := List.getElem?_of_mem hx
                have h1 := lt_of_get hj
                have h2 := HK2.out j x (by have := HRl.out; omega) hj
                simp at hxx
                omega
            · exact HK.out j l' (by omega) hl'
          have hir : (i : Int) < (m : Int) := by omega
          go_wp2_with (first | (go_quiet (fail)) | fail)
          first
            | exact ⟨⟨i + 1, by omega, by go_num, HS2, HK3⟩, by simp [intOf]; omega⟩
            | exact ⟨⟨i + 1, by omega, by go_num, Lib.hid (HS2.out.below (below_drewN (Below.refl _ _) _)), HK3⟩, by simp [intOf]; omega⟩
    · obtain rfl : i = m := by omega
      have HF := Lib.hid (fitB_yes (n := n) (Y := Y) fun j l hl => HK.out j l (by have := lt_of_get hl; have := HM.out; omega) hl)
      go_wp2_with (first | (go_quiet (fail)) | fail)
      go_ret
      first
        | exact ⟨by rw [HQ1.out, HF.out]; rfl, HS.out.1⟩
        | exact ⟨by rw [HQ1.out, HF.out]; rfl, below_drewN HS.out.1 _⟩
end Go.Proofs.Ytonploneihnekaa
