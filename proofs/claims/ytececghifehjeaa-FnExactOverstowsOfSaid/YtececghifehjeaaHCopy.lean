/-
  Copies of bays: impl.copyBay, spec.l9Own; whether a row exists: spec.l9Row, impl.hasRow. No statement of the seat by itself.
-/
import Derived.Test.YtececghifehjeaaHGood
import Derived.Test.YtececghifehjeaaCopyI
import Derived.Deep.RegionLaw
namespace Go.Proofs.Ytececghifehjeaa
open Go.RowKit

/-- The boxes of a bay that came in and of a bay that goes out. -/
structure FrB (w W : World) (hh : Int) (v0 : Value) : Prop where
  bl : Below w.heap.size w W
  a : Box2 W w.heap.size hh v0
  r : W.heap[w.heap.size + 1]? = some (.cells #[.int .i64 0, .slice none 0 0] 54 (0, 0))
theorem FrB.start (w : World) (hh : Int) (v0 : Value) : FrB w ((w.alloc (.cells #[.int .i64 hh, v0] 54)).alloc (.cells #[.int .i64 0, .slice none 0 0] 54)) hh v0 := by
  have hb0 := below_one w (.cells #[.int .i64 hh, v0] 54)
  have hb1 := below_one (w.alloc (.cells #[.int .i64 hh, v0] 54)) (.cells #[.int .i64 0, .slice none 0 0] 54)
  have hRb := heap_alloc_new (w.alloc (.cells #[.int .i64 hh, v0] 54)) (.cells #[.int .i64 0, .slice none 0 0] 54)
  rw [show (w.alloc (.cells #[.int .i64 hh, v0] 54)).heap.size = w.heap.size + 1 by simp] at hRb
  exact ⟨hb0.trans (hb1.mono (by simp)), (Box2.new w hh v0 54).below hb1, hRb⟩
section
variable {w W W' : World} {hh : Int} {v0 : Value}
theorem FrB.lt (h : FrB w W hh v0) : w.heap.size + 1 < W.heap.size := (Array.getElem?_eq_some_iff.1 h.r).1
theorem FrB.below (h : FrB w W hh v0) (hb : Below W.heap.size W W') : FrB w W' hh v0 := ⟨h.bl.trans (hb.mono h.bl.size), h.a.below hb, (hb.block _ h.lt).trans h.r⟩
theorem FrB.drew (h : FrB w W hh v0) : FrB w W.drew hh v0 := h.below ⟨rfl, rfl, rfl, Nat.le_refl _, fun _ _ => rfl⟩
theorem FrB.span {lo hi : Nat} (h : FrB w W hh v0) (hs : Span lo hi W W') (hl : w.heap.size + 1 < lo) : FrB w W' hh v0 :=
  ⟨Below.span h.bl (hs.lift (by omega)) h.bl.size, h.a.span hs (.inl (by omega)), (hs.block _ h.lt (.inl hl)).trans h.r⟩
/-- What the result's box says, and that it can be written. -/
theorem FrB.z (h : FrB w W hh v0) : W.cell? ⟨w.heap.size + 1, 0, none⟩ = some (.int .i64 0) ∧ W.cell? ⟨w.heap.size + 1, 1, none⟩ = some (.slice none 0 0) ∧ ∀ i, W.frozen? ⟨w.heap.size + 1, i, none⟩ = false := ⟨cell_of h.r rfl, cell_of h.r rfl, fun _ => free_of h.r⟩
theorem FrB.set (h : FrB w W hh v0) (x y : Value) : Below w.heap.size w ((W.setCell ⟨w.heap.size + 1, 0, none⟩ x).setCell ⟨w.heap.size + 1, 1, none⟩ y) :=
  (h.bl.setCell (p := ⟨w.heap.size + 1, 0, none⟩) (by show w.heap.size ≤ w.heap.size + 1; omega) _).setCell (p := ⟨w.heap.size + 1, 1, none⟩) (by show w.heap.size ≤ w.heap.size + 1; omega) _
end
theorem span_res (W : World) (R : Nat) (x y : Value) : Span R (R + 1) W ((W.setCell ⟨R, 0, none⟩ x).setCell ⟨R, 1, none⟩ y) := (span_set (Nat.le_refl R) (Nat.lt_succ_self R) x).trans (span_set (Nat.le_refl R) (Nat.lt_succ_self R) y)
theorem size_res (W : World) (R : Nat) (x y : Value) : ((W.setCell ⟨R, 0, none⟩ x).setCell ⟨R, 1, none⟩ y).heap.size = W.heap.size := by simp
/-- No bay was answered. -/
theorem retB_zero {w W : World} {hh : Int} {v0 : Value} (h : FrB w W hh v0) : RetB w 0 [] false (.returned (.tuple #[.agg #[.int .i64 0, .slice none 0 0], .bool false])) ((W.setCell ⟨w.heap.size + 1, 0, none⟩ (.int .i64 0)).setCell ⟨w.heap.size + 1, 1, none⟩ (.slice none 0 0)) :=
  ⟨none, 0, rfl, OwnY.nil _ _ _ (Nat.le_refl _), h.set _ _⟩
theorem retBI_zero {w W : World} {hh : Int} {v0 : Value} (h : FrB w W hh v0) : RetBI w 0 [] 0 false (.returned (.tuple #[.agg #[.int .i64 0, .slice none 0 0], .int .i64 0, .bool false])) ((W.setCell ⟨w.heap.size + 1, 0, none⟩ (.int .i64 0)).setCell ⟨w.heap.size + 1, 1, none⟩ (.slice none 0 0)) :=
  ⟨none, 0, rfl, OwnY.nil _ _ _ (Nat.le_refl _), h.set _ _⟩

set_option maxRecDepth 100000 in
set_option maxHeartbeats 4000000 in
theorem copyBay_any (v : Value) (hh : Int) (Y : List (List Int)) (hn : Y.length ≤ 1048576) (ht : tot Y ≤ 1048576) (w : World) (h : BdR w v hh Y) :
    Calls Try.prog 114 #[v] w (NewBd w hh Y) := by
  obtain ⟨v0, rfl, hv⟩ := h
  have F0 := Lib.hid (FrB.start w hh v0)
  have F := Lib.hid F0.out.drew
  have hsz : ((w.alloc (.cells #[.int .i64 hh, v0] 54)).alloc (.cells #[.int .i64 0, .slice none 0 0] 54)).drew.heap.size = w.heap.size + 2 := by simp [World.drew]
  have HC := Lib.hid (copyStacks_any v0 Y hn ht _ (hv.below F.out.bl))
  have c0 := F0.out.a.2.1
  have c1 := F0.out.a.2.2
  have c2 := F.out.a.2.1
  have c3 := F.out.a.2.2
  clear hv
  have HSZ := Lib.hid hsz
  clear hsz
  go_enter Try.func114, Try.ntmps114
  go_wp2_with fail
  go_region_law (first | (go_simp; go_at_call 125; refine HC.out.mono ?_; rintro e w1 ⟨a, c, rfl, ho, hb⟩; have F1 := Lib.hid (F.out.below hb); have O1 := Lib.hid ho; have d0 := F1.out.a.2.1; obtain ⟨z0, z1, f0⟩ := F1.out.z; obtain ⟨e7, e8⟩ := res_bay (.int .i64 hh) (.slice a Y.length c) z0 z1; clear hb ho))
  all_goals
    rw [HSZ.out] at O1
    go_wp2_with fail
    refine bodyPost_ret (v := .agg #[.int .i64 hh, .slice a Y.length c]) (by simp [results, Try.results114, go_sem, e7, e8]) rfl ⟨_, _, rfl, ?_, F1.out.set _ _⟩
    exact (O1.out.span (span_res w1 (w.heap.size + 1) _ _) (.inr (Nat.le_refl _))).mono (by omega) (by simp) (Nat.le_refl _)

set_option maxRecDepth 100000 in
set_option maxHeartbeats 1000000 in
theorem l9Row_any (v : Value) (hh : Int) (Y : List (List Int)) (s : Int) (h1 : Y.length ≤ 1048576) (h2 : tot Y ≤ 1048576) (w : World) (h : BdR w v hh Y) :
    Calls Try.prog 112 #[v, .int .i64 s] w (BoolP w (okB hh Y s)) := by
  obtain ⟨v0, rfl, hv⟩ := h
  have BA := Box2.new w hh v0 54
  have B0 := Lib.hid (below_one w (.cells #[.int .i64 hh, v0] 54))
  have HZ := Lib.hid (goodB_spec (.agg #[.int .i64 hh, v0]) hh Y h1 h2 _ ⟨v0, rfl, hv.below B0.out⟩)
  obtain ⟨a, c, rfl⟩ := hv.form
  obtain ⟨n, hn⟩ : ∃ n, Y.length = n := ⟨_, rfl⟩
  have HN := Lib.hid hn
  have HI := Lib.hid (fun W => l1In_any s 0 ((n : Int) - 1) W)
  have HBA := Lib.hid BA
  rw [hn] at h1 HBA HZ B0 ⊢
  clear hv hn BA
  cases hg : goodB hh Y with
  | false =>
    have HF := Lib.hid (okB_not (hh := hh) (Y := Y) (s := s) fun e => by rw [hg] at e; cases e)
    rw [hg] at HZ
    clear hg
    go_enter Try.func112, Try.ntmps112
    go_wp2_with fail
    refine HZ.out.mono ?_
    rintro e w1 ⟨rfl, hb⟩
    have B1 := Lib.hid (B0.out.trans (hb.mono B0.out.size))
    clear hb
    go_wp2_with fail
    go_ret
    exact ⟨by rw [HF.out]; rfl, B1.out⟩
  | true =>
    have HF : Hid (decide (0 ≤ s ∧ s ≤ (n : Int) - 1) = okB hh Y s) := Lib.hid (by
      have := HN.out
      unfold okB
      rw [hg, this, Bool.true_and]
      by_cases hx : 0 ≤ s ∧ s ≤ (n : Int) - 1
      · rw [decide_eq_true hx, decide_eq_true (by omega)]
      · rw [decide_eq_false hx, decide_eq_false (by omega)])
    rw [hg] at HZ
    clear hg
    go_enter Try.func112, Try.ntmps112
    go_wp2_with fail
    refine HZ.out.mono ?_
    rintro e w1 ⟨rfl, hb⟩
    have B1 := Lib.hid (B0.out.trans (hb.mono B0.out.size))
    have c1 := (HBA.out.below hb).2.2
    clear hb
    go_wp2_with fail
    refine (HI.out _).mono ?_
    rintro e w2 ⟨rfl, rfl⟩
    rw [HF.out]
    go_wp2_with fail
    go_ret
    exact ⟨rfl, B1.out⟩

set_option maxRecDepth 100000 in
set_option maxHeartbeats 1000000 in
theorem hasRow_any (v : Value) (hh : Int) (Y : List (List Int)) (s : Int) (h1 : Y.length ≤ 1048576) (h2 : tot Y ≤ 1048576) (w : World) (h : BdR w v hh Y) :
    Calls Try.prog 113 #[v, .int .i64 s] w (BoolP w (okB hh Y s)) := by
  obtain ⟨v0, rfl, hv⟩ := h
  have BA := Box2.new w hh v0 54
  have B0 := Lib.hid (below_one w (.cells #[.int .i64 hh, v0] 54))
  have HZ := Lib.hid (goodB_impl (.agg #[.int .i64 hh, v0]) hh Y h1 h2 _ ⟨v0, rfl, hv.below B0.out⟩)
  obtain ⟨a, c, rfl⟩ := hv.form
  obtain ⟨n, hn⟩ : ∃ n, Y.length = n := ⟨_, rfl⟩
  have HN := Lib.hid hn
  have HBA := Lib.hid BA
  rw [hn] at h1 HBA HZ B0 ⊢
  clear hv hn BA
  cases hg : goodB hh Y with
  | false =>
    have HF := Lib.hid (okB_not (hh := hh) (Y := Y) (s := s) fun e => by rw [hg] at e; cases e)
    rw [hg] at HZ
    clear hg
    go_enter Try.func113, Try.ntmps113
    go_wp2_with fail
    refine HZ.out.mono ?_
    rintro e w1 ⟨rfl, hb⟩
    have B1 := Lib.hid (B0.out.trans (hb.mono B0.out.size))
    clear hb
    go_wp2_with fail
    go_ret
    exact ⟨by rw [HF.out]; rfl, B1.out⟩
  | true =>
    rw [hg] at HZ
    by_cases hs0 : 0 ≤ s
    · have HF : Hid (decide (s < (n : Int)) = okB hh Y s) := Lib.hid (by
        have := HN.out
        unfold okB
        rw [hg, this, Bool.true_and]
        by_cases hx : s < (n : Int)
        · rw [decide_eq_true hx, decide_eq_true (by omega)]
        · rw [decide_eq_false hx, decide_eq_false (by omega)])
      clear hg
      go_enter Try.func113, Try.ntmps113
      go_wp2_with fail
      refine HZ.out.mono ?_
      rintro e w1 ⟨rfl, hb⟩
      have B1 := Lib.hid (B0.out.trans (hb.mono B0.out.size))
      have c1 := (HBA.out.below hb).2.2
      clear hb
      go_wp2_with fail
      go_ret
      exact ⟨by rw [← HF.out]; simp, B1.out⟩
    · have HF := Lib.hid (okB_not (hh := hh) (Y := Y) (s := s) fun _ => by omega)
      have hd : decide (0 ≤ s) = false := by simp; omega
      clear hg hs0
      go_enter Try.func113, Try.ntmps113
      go_wp2_with fail
      refine HZ.out.mono ?_
      rintro e w1 ⟨rfl, hb⟩
      have B1 := Lib.hid (B0.out.trans (hb.mono B0.out.size))
      clear hb
      go_wp2_with fail
      go_ret
      exact ⟨by rw [HF.out]; simp, B1.out⟩
end Go.Proofs.Ytececghifehjeaa
