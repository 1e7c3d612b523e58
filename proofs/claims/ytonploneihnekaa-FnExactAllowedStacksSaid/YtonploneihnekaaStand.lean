/-
  What impl.standsFor answers. No statement of the seat by itself.
-/
import Derived.Test.YtonploneihnekaaFndK
import Derived.Test.YtonploneihnekaaCValidI
import Derived.Test.YtonploneihnekaaLaidCon
namespace Go.Proofs.Ytonploneihnekaa
open Go.RowKit

set_option maxHeartbeats 1000000 in
theorem clos_any (n g B : Nat) (w : World) (hB : B < w.heap.size) (hcell : w.cell? ⟨B, 0, none⟩ = some (.slice (some ⟨g, 0, none⟩) n n)) :
    PredAt Try.prog 67 #[.pointer (some ⟨B, 0, none⟩)] (Value.int .i64) (fun x => decide ((n : Int) < x)) w := fun W x hb => by
  have hc : W.cell? ⟨B, 0, none⟩ = some (.slice (some ⟨g, 0, none⟩) n n) := (hb.cell (p := ⟨B, 0, none⟩) hB).trans hcell
  show Calls Try.prog 67 #[.int .i64 x, .pointer (some ⟨B, 0, none⟩)] W _
  clear hb hcell hB
  go_enter Try.func67, Try.ntmps67
  go_wp2_with fail
  go_ret
  exact ⟨rfl, 0, rfl⟩

theorem con_any (n g B : Nat) (u : Value) (l : List Int) (hl : l.length ≤ 1048576) (w : World) (hB : B < w.heap.size) (hcell : w.cell? ⟨B, 0, none⟩ = some (.slice (some ⟨g, 0, none⟩) n n)) (h : IL w u l) :
    Calls Try.prog 66 #[u, .func (.func 67) #[] #[.pointer (some ⟨B, 0, none⟩)]] w (BoolP w (tallB n l)) := by
  have eg : ∀ args w, (callFunc 67 args).run Try.prog w = .ok (.enter 67 args) w := enters_of Try.func67 (by kernel_rfl) rfl
  obtain ⟨a, c, rfl, hc⟩ := h
  by_cases h0 : l = []
  · subst h0
    exact (AnyE.slices_ContainsFunc_empty Try.laysCon a c _ w).mono fun e w' ⟨he, hw⟩ => ⟨he, by subst hw; exact Below.refl _ _⟩
  · have hp : 0 < l.length := List.length_pos_iff.2 h0
    obtain ⟨g2, off, rfl, hg, hcc⟩ := hc hp
    refine (AnyE.slices_ContainsFunc Try.laysCon (Value.int .i64) (fun x => decide ((n : Int) < x)) 67 #[.pointer (some ⟨B, 0, none⟩)] eg g2 off l.length c l w (clos_any n g B w hB hcell) (Nat.le_refl _) (by omega) (fun j hj => by rw [hcc j l[j] (List.getElem?_eq_getElem hj), getElem!_pos l j hj])).mono ?_
    rintro e w' ⟨rfl, q, rfl⟩
    refine ⟨?_, below_drewN (Below.refl _ _) _⟩
    rw [List.take_length]
    rfl
/-- While the stacks are looked at: two boxes and what is known. -/
def StandS (w wr : World) (x lv : Value) : Prop := Below w.heap.size w wr ∧ Box1 wr w.heap.size x ∧ Box1 wr (w.heap.size + 1) lv
theorem StandS.below {w wr w' : World} {x lv : Value} (h : StandS w wr x lv) (hb : Below wr.heap.size wr w') : StandS w w' x lv := ⟨h.1.trans (hb.mono h.1.size), h.2.1.below hb, h.2.2.below hb⟩

set_option maxRecDepth 100000 in
set_option maxHeartbeats 4000000 in
theorem stand_any (v : Value) (Y : List (List Int)) (g n : Nat) (f : Nat → C.Cont) (h1 : Y.length ≤ 1048576) (h2 : tot Y ≤ 1048576) (hn : n ≤ 1048576) (hid : ∀ j, j < n → (f j).id.size ≤ 1048576) (w : World) (h : YdR w v Y) (hc : C.CAt w g 0 n f) :
    Calls Try.prog 44 #[v, .slice (some ⟨g, 0, none⟩) n n] w (BoolP w (stF n f Y)) := by
  obtain ⟨v0, rfl, hv⟩ := h
  have hv' := hv
  obtain ⟨a, cap, rfl, hcc⟩ := hv'
  have HG : Hid (∀ W, Below w.heap.size w W → Calls Try.prog 64 #[.agg #[.slice a Y.length cap]] W (BoolP W (goodY Y))) := Lib.hid fun W hb => good_impl _ Y h1 h2 W ⟨_, rfl, hv.below hb⟩
  have HL : Hid (∀ W, Below w.heap.size w W → Calls Try.prog 65 #[.slice (some ⟨g, 0, none⟩) n n] W (C.GoodPost W (C.listB n f))) := Lib.hid fun W hb => C.implList_any g n n f hn hid (Nat.le_refl _) W (hc.below hb)
  have HQ : Hid (stF n f Y = (goodY Y && (C.listB n f && fitB n Y))) := Lib.hid rfl
  have HC := Lib.hid hcc
  have HT := Lib.hid (fun (i : Nat) l (hl : Y[i]? = some l) => show l.length ≤ 1048576 from Nat.le_trans (row_len hl) h2)
  have hb1 := below_one w (.cells #[.slice a Y.length cap] 31)
  have S0 : Hid (StandS w ((w.alloc (.cells #[.slice a Y.length cap] 31)).alloc (.cells #[.slice (some ⟨g, 0, none⟩) n n] 33)) (.slice a Y.length cap) (.slice (some ⟨g, 0, none⟩) n n)) := Lib.hid (by
    refine ⟨hb1.trans ((below_one _ _).mono hb1.size), (Box1.new w _ _).below (below_one _ _), ?_⟩
    have := Box1.new (w.alloc (.cells #[.slice a Y.length cap] 31)) (.slice (some ⟨g, 0, none⟩) n n) 33
    rw [show (w.alloc (.cells #[.slice a Y.length cap] 31)).heap.size = w.heap.size + 1 by simp] at this
    exact this)
  clear hv hc hid hcc h2 hb1
  generalize hm : Y.length = m at *
  have HM := Lib.hid hm
  clear hm
  generalize stF n f Y = q at *
  have c0 := S0.out.2.1.2
  have c1 := S0.out.2.2.2
  go_enter Try.func44, Try.ntmps44
  go_wp2_with fail
  generalize (w.alloc (.cells #[.slice a m cap] 31)).alloc (.cells #[.slice (some ⟨g, 0, none⟩) n n] 33) = w0 at *
  refine (HG.out _ S0.out.1).mono ?_
  rintro e w1 ⟨rfl, hb⟩
  have S1 := Lib.hid (S0.out.below hb)
  clear hb c0 c1
  have c0 := S1.out.2.1.2
  have c1 := S1.out.2.2.2
  cases hg : goodY Y with
  | false =>
    rw [hg] at HQ
    go_wp2_with fail
    go_ret
    exact ⟨by rw [HQ.out]; rfl, S1.out.1⟩
  | true =>
  rw [hg] at HQ
  go_wp2_with fail
  refine (HL.out _ S1.out.1).mono ?_
  rintro e w2 ⟨rfl, hb⟩
  have S2 := Lib.hid (S1.out.below hb)
  clear hb c0 c1
  have c0 := S2.out.2.1.2
  have c1 := S2.out.2.2.2
  cases hl : C.listB n f with
  | false =>
    rw [hl] at HQ
    go_wp2_with fail
    go_ret
    exact ⟨by rw [HQ.out]; rfl, S2.out.1⟩
  | true =>
  rw [hl] at HQ
  have HQ1 : Hid (q = fitB n Y) := Lib.hid (by rw [HQ.out]; simp)
  clear HQ hg hl
  go_wp2_with fail
  clear c0 c1
  go_loopw [18] (fun i wr => ∃ k : Nat, k ≤ m ∧ i = .int .i64 k ∧ Hid (StandS w wr (.slice a m cap) (.slice (some ⟨g, 0, none⟩) n n)) ∧ Hid (∀ (j : Nat) l, j < k → Y[j]? = some l → tallB n l = false)) (fun i _ => m - (intOf i).toNat)
  case atStart => exact ⟨0, Nat.zero_le _, rfl, S2, Lib.hid fun j l hj => by omega⟩
  case round =>
    obtain ⟨i, hi, rfl, HS, HK⟩ := hrel
    by_cases hlt : i < m
    · obtain ⟨l, hl⟩ := get_at HM.out hlt
      obtain ⟨g1, o1, rfl, hg1, hc1⟩ := HC.out (by have := HM.out; omega)
      obtain ⟨u, hu', hil⟩ := hc1 i l hl
      have hu := (HS.out.1.cell (p := ⟨g1, o1 + i, none⟩) hg1).trans hu'
      have HZ := Lib.hid (fun W (hb : Below wr.heap.size wr W) (hlen : l.length ≤ 1048576) => con_any n g (w.heap.size + 1) u l hlen W (Nat.lt_of_lt_of_le HS.out.2.2.1 hb.size) (HS.out.2.2.below hb).2 (hil.below (HS.out.1.trans (hb.mono HS.out.1.size))))
      have HLn := Lib.hid (HT.out i l hl)
      have HLl := Lib.hid hl
      clear hc1 hl hu' hil
      have hiI : (i : Int) < (m : Int) := by omega
      go_wp2_with fail
      refine (HZ.out _ (Below.refl _ _) HLn.out).mono ?_
      rintro e w5 ⟨rfl, hb⟩
      have S5 := Lib.hid (HS.out.below hb)
      clear hb hu
      cases ht : tallB n l with
      | true =>
        have HF := Lib.hid (fitB_no HLl.out ht)
        clear ht
        go_wp2_with fail
        go_ret
        exact ⟨by rw [HQ1.out, HF.out]; rfl, S5.out.1⟩
      | false =>
        have HK3 : Hid (∀ (j : Nat) l, j < i + 1 → Y[j]? = some l → tallB n l = false) := Lib.hid fun j l' hj hl' => by
          by_cases e : j = i
          · subst e; rw [HLl.out] at hl'; cases hl'; exact ht
          · exact HK.out j l' (by omega) hl'
        clear ht
        go_wp2_with fail
        exact ⟨⟨i + 1, by omega, by go_num, S5, HK3⟩, by simp [intOf]; omega⟩
    · obtain rfl : i = m := by omega
      have HF := Lib.hid (fitB_yes (n := n) (Y := Y) fun j l hl => HK.out j l (by have := lt_of_get hl; have := HM.out; omega) hl)
      go_wp2_with fail
      go_ret
      exact ⟨by rw [HQ1.out, HF.out]; rfl, HS.out.1⟩
end Go.Proofs.Ytonploneihnekaa
