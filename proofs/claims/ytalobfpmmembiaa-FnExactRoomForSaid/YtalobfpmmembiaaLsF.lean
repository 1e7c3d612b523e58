/-
  What the two LashForces return. No statement of the seat by itself.
-/
import Derived.Test.YtalobfpmmembiaaLsS
import Derived.Test.YtalobfpmmembiaaLsR
import Derived.Test.YtalobfpmmembiaaPutM
import Derived.Deep.RegionLaw
namespace Go.Proofs.Ytalobfpmmembiaa
open Go.RowKit

theorem wrap_small {x : Int} (h0 : 0 ≤ x) (h1 : x ≤ 1000000000000) : IntKind.i64.wrap x = x := by rw [IntKind.wrap_i64]; omega
set_option maxHeartbeats 1000000 in
theorem force_any (a b c s : Int) (hb : 0 ≤ b ∧ b ≤ 100) (hs : 0 ≤ s ∧ s ≤ 256000) (w : World) :
    Calls Try.prog 50 #[.agg #[.int .i64 a, .int .i64 b, .int .i64 c], .int .i64 s] w fun e w' => e = .returned (.int .i64 (frc b s)) ∧ Below w.heap.size w w' := by
  have B0 := Lib.hid (below_one w (.cells #[.int .i64 a, .int .i64 b, .int .i64 c] 26))
  obtain ⟨-, -, p1, p2⟩ := frc_bound hb.1 hb.2 hs.1 hs.2
  have hw := wrap_small p1 (by omega)
  have HQ := Lib.hid (fun W => quot_any (b * s) 100 p1 (by omega) (by decide) (by decide) W)
  have HF : Hid ((b * s + 100 - 1) / 100 = frc b s) := Lib.hid (by unfold frc; rw [show b * s + 100 - 1 = b * s + 99 by omega])
  rw [HF.out] at HQ
  obtain ⟨p, hp⟩ : ∃ p, b * s = p := ⟨_, rfl⟩
  rw [hp] at HQ hw
  have hw2 : IntKind.i64.wrap (b * s) = p := by rw [hp]; exact hw
  generalize frc b s = q at *
  clear hp p1 p2 hw
  go_enter Try.func50, Try.ntmps50
  go_wp2_with fail
  refine (HQ.out _).mono ?_
  rintro e w1 ⟨rfl, rfl⟩
  go_wp2_with fail
  go_ret
  exact ⟨rfl, B0.out⟩

/-- While forces are collected beside a box of rules. -/
def FoS (w wr : World) (a b c : Int) (sv : Value) (S : List Int) : Prop := wr.ownsRow (w.heap.size + 1) 3 1 sv S.length (intV S) ∧ BoxR wr w.heap.size a b c ∧ Below w.heap.size w wr ∧ w.heap.size + 1 ≤ wr.heap.size ∧ sv ≠ .slice none 0 0
section
variable {w wr w' w4 : World} {a b c : Int} {sv v' : Value} {S : List Int}
theorem FoS.below (h : FoS w wr a b c sv S) (hb : Below wr.heap.size wr w') : FoS w w' a b c sv S := ⟨row_below h.1 hb, h.2.1.below hb, h.2.2.1.trans (hb.mono h.2.2.1.size), Nat.le_trans h.2.2.2.1 hb.size, h.2.2.2.2⟩
theorem FoS.drew (h : FoS w wr a b c sv S) : FoS w wr.drew a b c sv S := h.below ⟨rfl, rfl, rfl, Nat.le_refl _, fun _ _ => rfl⟩
theorem FoS.start (w : World) (a b c : Int) : FoS w ((w.alloc (.cells #[.int .i64 a, .int .i64 b, .int .i64 c] 26)).alloc (.cells #[] 3)) a b c (.slice (some ⟨w.heap.size + 1, 0, none⟩) 0 0) [] := by
  have h1 := own_empty (w.alloc (.cells #[.int .i64 a, .int .i64 b, .int .i64 c] 26)) (.cells #[] 3) 3 rfl
  have hs : (w.alloc (.cells #[.int .i64 a, .int .i64 b, .int .i64 c] 26)).heap.size = w.heap.size + 1 := by simp
  rw [hs] at h1
  have hb := below_one (w.alloc (.cells #[.int .i64 a, .int .i64 b, .int .i64 c] 26)) (.cells #[] 3)
  exact ⟨h1, (BoxR.new w a b c 26).below hb, (below_one w _).trans (hb.mono (by simp)), by simp, by simp⟩
theorem FoS.push {x : Int} {o : Obj} (h : FoS w wr a b c sv S) (ho : w4.ownsRow (w.heap.size + 1) 3 1 v' (S.length + 1) (intV S ++ [.int .i64 x])) (hg : (wr.alloc o).grownBy w4 sv.ownBlock) : FoS w w4 a b c v' (S ++ [x]) := by
  have hn : v' ≠ .slice none 0 0 := fun e => by
    subst e
    rcases ho.2 with ⟨_, hz⟩ | ⟨_, _, _, e, _⟩
    · omega
    · cases e
  have hb := below_one wr o
  have hr := h.1
  have hS : Span (w.heap.size + 1) (wr.alloc o).heap.size (wr.alloc o) w4 := Span.of_grown hg fun k hk => ⟨row_base hr k hk, Nat.lt_of_lt_of_le (row_lt hr k hk) hb.size⟩
  refine ⟨by rw [List.length_append, List.length_singleton]; simpa [intV] using ho, (h.2.1.below hb).span hS (.inl (Nat.lt_succ_self _)), ?_, Nat.le_trans (Nat.le_trans h.2.2.2.1 hb.size) hS.size, hn⟩
  exact Below.span (h.2.2.1.trans (hb.mono h.2.2.1.size)) (hS.lift (Nat.le_succ _)) (Nat.le_trans h.2.2.1.size hb.size)
theorem FoS.done (h : FoS w wr a b c sv S) (ok : Bool) : ∃ a' c', sv = .slice a' S.length c' ∧ RetL w S ok (.returned (.tuple #[.slice a' S.length c', .bool ok])) wr := by
  obtain ⟨a', c', rfl⟩ := own_form h.1
  exact ⟨a', c', rfl, retL_of h.1 (Nat.le_succ _) h.2.2.1⟩
end
/-- The rest of an own list. -/
theorem il_rest {w : World} {g n c k c' : Nat} {l : List Int} (h : IL w (.slice (some ⟨g, 0, none⟩) n c) l) (hn : l.length = n) (hk : k < n) : IL w (.slice (some ⟨g, k, none⟩) (n - k) c') (l.drop k) := by
  obtain ⟨a', c2, e, h⟩ := h
  injection e with e1 e2 e3
  obtain ⟨g2, off, e4, hg, hc⟩ := h (by omega)
  rw [← e1] at e4
  injection e4 with e4
  injection e4 with e5 e6
  subst e5 e6
  refine ⟨some ⟨g, k, none⟩, c', by rw [List.length_drop]; congr 1; omega, fun h0 => ⟨g, k, rfl, hg, fun j x hx => ?_⟩⟩
  rw [List.getElem?_drop] at hx
  have := hc _ _ hx
  rwa [Nat.zero_add] at this
theorem OwnI.at {w : World} {v : Value} {l : List Int} (h : OwnI w v l) (h0 : 0 < l.length) : ∃ g c, v = .slice (some ⟨g, 0, none⟩) l.length c ∧ l.length ≤ c ∧ g < w.heap.size := by
  obtain ⟨B, h⟩ := h
  rcases h.2 with ⟨_, hz⟩ | ⟨g, cap, cur, rfl, hg, hb, hnc, _⟩
  · omega
  · exact ⟨g, _, rfl, hnc, (Array.getElem?_eq_some_iff.1 hb).1⟩

set_option maxRecDepth 100000 in
set_option maxHeartbeats 8000000 in
theorem implFo_any (v : Value) (l : List Int) (a b c : Int) (hn : l.length ≤ 2000000) (w : World) (h : OwnI w v l) :
    Calls Try.prog 16 #[v, .agg #[.int .i64 a, .int .i64 b, .int .i64 c]] w (RetL w (foL l a b c) (goodC l a b c)) := by
  obtain ⟨f3, hi3, hz0, hz1, hz2⟩ := info_is info3
  have hS := FoS.start w a b c
  have hB0 := hS.2.2.1
  have HG := Lib.hid (implValidC_any v l hn _ (h.read.below hB0))
  have HF := Lib.hid hS
  obtain ⟨-, c0, c1, c2⟩ := hS.2.1
  have HV := Lib.hid h
  have HA := Lib.hid (fun h0 => h.at h0)
  obtain ⟨p, cap, rfl, hcap⟩ := h.form
  clear h hS hB0
  cases hg : goodW l 4 with
  | false =>
    rw [hg] at HG
    rw [show goodC l a b c = false by simp [goodC, hg], show foL l a b c = [] by simp [foL, goodC, hg]]
    clear hg
    go_enter Try.func16, Try.ntmps16
    go_wp2_with fail
    refine HG.out.mono ?_
    rintro e w1 ⟨rfl, hb⟩
    have HF1 := Lib.hid (HF.out.below hb)
    clear hb c0 c1 c2
    go_wp2_with fail
    go_ret2
    obtain ⟨a', c', e, hr⟩ := HF1.out.done false
    injection e with e1 e2 e3
    subst e1 e3
    exact hr
  | true =>
    rw [hg] at HG
    have HR := Lib.hid (implRules_any a b c)
    cases hx : okX a b c with
    | false =>
      rw [hx] at HR
      rw [show goodC l a b c = false by simp [goodC, hx], show foL l a b c = [] by simp [foL, goodC, hx]]
      clear hg hx
      go_enter Try.func16, Try.ntmps16
      go_wp2_with fail
      refine HG.out.mono ?_
      rintro e w1 ⟨rfl, hb⟩
      have HF1 := Lib.hid (HF.out.below hb)
      clear hb c0 c1 c2
      obtain ⟨-, c0, c1, c2⟩ := HF1.out.2.1
      go_wp2_with fail
      refine (HR.out _).mono ?_
      rintro e w2 ⟨rfl, hb⟩
      have HF2 := Lib.hid (HF1.out.below hb)
      clear hb c0 c1 c2
      go_wp2_with fail
      go_ret2
      obtain ⟨a', c', e, hr⟩ := HF2.out.done false
      injection e with e1 e2 e3
      subst e1 e3
      exact hr
    | true =>
      rw [hx] at HR
      have HGW := Lib.hid hg
      obtain ⟨-, hbb, -⟩ := okX_iff.1 hx
      have HFo := Lib.hid (fun s hs W => force_any a b c s hbb hs W)
      rw [show goodC l a b c = true by simp [goodC, hg, hx], show foL l a b c = frcs b l l.length by simp [foL, goodC, hg, hx]]
      obtain ⟨n, hl⟩ : ∃ n, l.length = n := ⟨_, rfl⟩
      have HN := Lib.hid hl
      have hn4 : n ≤ 4 := by have := goodW_len hg; omega
      rw [hl] at hcap HG HV HA ⊢
      clear hg hx hl hbb hn
      go_enter Try.func16, Try.ntmps16
      go_wp2_with fail
      refine HG.out.mono ?_
      rintro e w1 ⟨rfl, hb⟩
      have HF1 := Lib.hid (HF.out.below hb)
      clear hb c0 c1 c2
      obtain ⟨-, c0, c1, c2⟩ := HF1.out.2.1
      go_wp2_with fail
      refine (HR.out _).mono ?_
      rintro e w2 ⟨rfl, hb⟩
      have HF2 : Hid (FoS w w2 a b c (.slice (some ⟨w.heap.size + 1, 0, none⟩) 0 0) (frcs b l 0)) := Lib.hid (HF1.out.below hb)
      clear hb c0 c1 c2
      go_wp2_with fail
      go_loopw [6, 20] (fun s i wr => ∃ k : Nat, k ≤ n ∧ i = .int .i64 k ∧ Hid (FoS w wr a b c s (frcs b l k))) (fun _ i _ => n - (intOf i).toNat)
      case atStart => exact ⟨0, Nat.zero_le _, rfl, HF2⟩
      case round =>
        obtain ⟨k, hk, rfl, HS⟩ := hrel
        rename World => wr
        by_cases hlt : k < n
        · obtain ⟨g, cp, e, -, hgw⟩ := HA.out (by have := HN.out; omega)
          injection e with e1 e2 e3
          subst e1 e3
          have hck : ¬ cap = k := by omega
          have hki : (k : Int) ≤ (n : Int) := by omega
          have hdl : (l.drop k).length ≤ 8 := by rw [List.length_drop, HN.out]; omega
          have hds : ∀ x ∈ l.drop k, 0 ≤ x ∧ x ≤ 1000000000 := fun x hx => goodW_small HGW.out x (List.mem_of_mem_drop hx)
          have HT := Lib.hid (fun W (hb : Below w.heap.size w W) (o c' : Nat) (ho : o = k) => totalOf_any (.slice (some ⟨g, o, none⟩) (n - k) c') (l.drop k) hdl hds W (by subst ho; exact il_rest (HV.out.read.below hb) HN.out hlt))
          have hsm := goodW_sum HGW.out (by decide) k
          have HFo2 := Lib.hid (fun W => HFo.out _ hsm W)
          have HNx : Hid (frcs b l (k + 1) = frcs b l k ++ [frc b (l.drop k).sum]) := Lib.hid rfl
          have HLn := frcs_len b l k
          have SD := Lib.hid HS.out.drew
          obtain ⟨-, c0, c1, c2⟩ := SD.out.2.1
          clear hdl hds hsm hgw
          generalize frcs b l k = S at *
          generalize (l.drop k).sum = t at *
          go_wp2_with fail
          go_region_law (first | (go_simp; go_at_call 51; refine (HT.out _ SD.out.2.2.1 _ _ (by omega)).mono ?_; rintro e w' ⟨rfl, rfl⟩) | (go_simp; go_at_call 50; refine (HFo2.out _).mono ?_; rintro e w5 ⟨rfl, hb5⟩; have S5 := Lib.hid (SD.out.below hb5); have ro := fun o => row_below S5.out.1 (below_one w5 o); have rz := fun o => Nat.le_trans S5.out.2.2.2.1 (below_one w5 o).size) | (refine step_int_at (by rfl) _ _ (by rfl) (w.heap.size + 1) _ S.length (intV S) (by rfl) (ro _) _ _ _ (by rfl) (cell_val_new _ _ _) (by simp [Value.oneCell']) (by omega) (rz _) ?_; intro v6 w6 ho6 hg6 hat6))
          all_goals
            have HN4 : Hid (FoS w w6 a b c v6 (frcs b l (k + 1))) := Lib.hid (by rw [HNx.out]; exact S5.out.push ho6 hg6)
            clear ho6 hg6 hat6
            go_wp2_with fail
            exact ⟨⟨k + 1, by omega, by go_num, HN4⟩, by simp [intOf]; omega⟩
        · obtain rfl : k = n := by omega
          obtain ⟨a', c', rfl, hr⟩ := HS.out.done true
          have HD := Lib.hid hr
          clear hr
          go_wp2_with fail
          go_ret2
          exact HD.out
end Go.Proofs.Ytalobfpmmembiaa
