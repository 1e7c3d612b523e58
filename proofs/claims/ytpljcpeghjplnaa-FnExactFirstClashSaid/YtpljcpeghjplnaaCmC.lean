/-
  Whether two moves clash, in the program and in the reference. No statement of the seat by itself.
-/
import Derived.Test.YtpljcpeghjplnaaCmG
import Derived.Test.YtpljcpeghjplnaaCrK
import Derived.Laws.StructEq
import Derived.Deep.RegionHeldLaw
import Derived.Deep.MidRow
namespace Go.Proofs.Ytpljcpeghjplnaa
open Go.RowKit

theorem guardSd : Try.prog.eqGuardType Try.prog.depth 158 = false := by kernel_rfl
theorem eqIn_side (a b c d : Int) (w : World) : (Op.equalIn 10000 158 (.agg #[.int .i64 a, .int .i64 b]) (.agg #[.int .i64 c, .int .i64 d])).run Try.prog w = .ok (a == c && b == d) w := by
  have u3 := Try.underlying3
  have hS : Try.prog.underlying 158 = some (.struct (Try.prog.fieldsOf 158)) := by kernel_rfl
  have hp : Try.prog.stoodInHeld 158 = false := by kernel_rfl
  rw [show (10000 : Nat) = 9999 + 1 from rfl, run_equalIn_agg w 9999 158 _ _ hS hp]
  simp only [Program.fieldsOf, Try.underlying158]
  go_simp
  by_cases h1 : a = c <;> by_cases h2 : b = d <;> simp [h1, h2]

set_option maxRecDepth 100000 in
set_option maxHeartbeats 8000000 in
theorem sideOf_any (p q r s p' q' r' s' : Int) (w : World) : Calls Try.prog 132 #[.agg #[.int .i64 p, .int .i64 q, .int .i64 r, .int .i64 s], .agg #[.int .i64 p', .int .i64 q', .int .i64 r', .int .i64 s']] w fun e w' => e = .returned (.agg #[.int .i64 (cmpC p p'), .int .i64 (cmpC q q')]) ∧ Below w.heap.size w w' := by
  have H1 := Lib.hid (fun W => compare_any p p' W)
  have H2 := Lib.hid (fun W => compare_any q q' W)
  generalize cmpC p p' = x at *
  generalize cmpC q q' = y at *
  obtain ⟨k0, k1, k2, hs, hB⟩ := three_alloc w (.cells #[.int .i64 p, .int .i64 q, .int .i64 r, .int .i64 s] 131) (.cells #[.int .i64 p', .int .i64 q', .int .i64 r', .int .i64 s'] 131) (.cells #[.int .i64 0, .int .i64 0] 158)
  have a0 := cell_of k0 (i := 0) rfl
  have a1 := cell_of k0 (i := 1) rfl
  have b0 := cell_of k1 (i := 0) rfl
  have b1 := cell_of k1 (i := 1) rfl
  have z0 := cell_of k2 (i := 0) rfl
  have z1 := cell_of k2 (i := 1) rfl
  have f0 := free_of k2 (i := 0)
  have f1 := free_of k2 (i := 1)
  have HB := Lib.hid hB
  have HK := Lib.hid k2
  have HZ := Lib.hid hs
  clear hB k0 k1 k2 hs
  go_enter Try.func132, Try.ntmps132
  go_wp2_with fail
  generalize ((w.alloc (.cells #[.int .i64 p, .int .i64 q, .int .i64 r, .int .i64 s] 131)).alloc (.cells #[.int .i64 p', .int .i64 q', .int .i64 r', .int .i64 s'] 131)).alloc (.cells #[.int .i64 0, .int .i64 0] 158) = W at *
  have HS2 := Lib.hid (show ∀ (a : Addr) (v : Value), a.block ≠ w.heap.size + 1 + 1 → W.cell? a = some v → (((W.setCell ⟨w.heap.size + 1 + 1, 0, none⟩ (.int .i64 x)).setCell ⟨w.heap.size + 1 + 1, 1, none⟩ (.int .i64 y)).drew).cell? a = some v from fun a v ha hv => by
    refine Eq.trans (World.cell?_setCell_far _ _ _ _ (Ne.symm ha)) ?_
    rw [World.cell?_setCell_far _ _ _ _ (Ne.symm ha)]
    exact hv)
  have E0 : (((W.setCell ⟨w.heap.size + 1 + 1, 0, none⟩ (.int .i64 x)).setCell ⟨w.heap.size + 1 + 1, 1, none⟩ (.int .i64 y)).drew).cell? ⟨w.heap.size + 1 + 1, 0, none⟩ = some (.int .i64 x) := by
    refine Eq.trans (World.cell?_setCell_other _ _ _ _ (by simp)) ?_
    exact World.cell?_setCell_same _ _ _ z0
  have E1 : (((W.setCell ⟨w.heap.size + 1 + 1, 0, none⟩ (.int .i64 x)).setCell ⟨w.heap.size + 1 + 1, 1, none⟩ (.int .i64 y)).drew).cell? ⟨w.heap.size + 1 + 1, 1, none⟩ = some (.int .i64 y) :=
    World.cell?_setCell_same _ _ _ (by rw [World.cell?_setCell_other _ _ _ _ (by simp)]; exact z1)
  have HE := Lib.hid (And.intro E0 E1)
  have HBB : Hid (Below w.heap.size w (((W.setCell ⟨w.heap.size + 1 + 1, 0, none⟩ (.int .i64 x)).setCell ⟨w.heap.size + 1 + 1, 1, none⟩ (.int .i64 y)).drew)) := Lib.hid ((HB.out.setCell (p := ⟨w.heap.size + 1 + 1, 0, none⟩) (by simp; omega) _).setCell (p := ⟨w.heap.size + 1 + 1, 1, none⟩) (by simp; omega) _).drew
  clear E0 E1
  refine wp_region_held_drew (S := fun W' => W'.cell? ⟨w.heap.size, 0, none⟩ = some (.int .i64 p) ∧ W'.cell? ⟨w.heap.size, 1, none⟩ = some (.int .i64 q) ∧ W'.cell? ⟨w.heap.size + 1, 0, none⟩ = some (.int .i64 p') ∧ W'.cell? ⟨w.heap.size + 1, 1, none⟩ = some (.int .i64 q')) (by kernel_rfl) ?_ (fun hHeld => ?_)
  · exact ⟨a0, a1, b0, b1⟩
  refine (wpAnyH_take (i := 0) (v := ?_) rfl (by kernel_rfl) (by kernel_rfl) (by kernel_rfl) (fun _ _ _ h => h) (Or.inl ⟨by rfl, ?_⟩) (by assumption) ?_)
  rotate_left 1
  · (intro w hSw; (try dsimp only at hSw); obtain ⟨s0, s1, s2, s3⟩ := hSw; (go_simp) <;> with_reducible rfl)
  try simp only [Act.put, List.setIfInBounds_toArray]
  refine (wpAnyH_take (i := 1) (v := ?_) rfl (by kernel_rfl) (by kernel_rfl) (by kernel_rfl) (fun _ _ _ h => h) (Or.inl ⟨by rfl, ?_⟩) (by assumption) ?_)
  rotate_left 1
  · (intro w hSw; (try dsimp only at hSw); obtain ⟨s0, s1, s2, s3⟩ := hSw; (go_simp) <;> with_reducible rfl)
  try simp only [Act.put]
  refine (wpAnyH_take (i := 2) (v := ?_) rfl (by kernel_rfl) (by kernel_rfl) (by kernel_rfl) (fun _ _ _ h => h) (Or.inl ⟨by rfl, ?_⟩) (by assumption) ?_)
  rotate_left 1
  · (intro w hSw; (try dsimp only at hSw); obtain ⟨s0, s1, s2, s3⟩ := hSw; (go_simp) <;> with_reducible rfl)
  try simp only [Act.put]
  refine (wpAnyH_take (i := 3) (v := ?_) rfl (by kernel_rfl) (by kernel_rfl) (by kernel_rfl) (fun _ _ _ h => h) (Or.inl ⟨by rfl, ?_⟩) (by assumption) ?_)
  rotate_left 1
  · (intro w hSw; (try dsimp only at hSw); obtain ⟨s0, s1, s2, s3⟩ := hSw; (go_simp) <;> with_reducible rfl)
  try simp only [Act.put]
  refine (wpAnyH_take (i := 5) (v := ?_) rfl (by kernel_rfl) (by kernel_rfl) (by kernel_rfl) (fun _ _ _ h => h) (Or.inl ⟨by rfl, ?_⟩) (by assumption) ?_)
  rotate_left 1
  · (intro w hSw; (try dsimp only at hSw); obtain ⟨s0, s1, s2, s3⟩ := hSw; (go_simp) <;> with_reducible rfl)
  try simp only [Act.put]
  refine (wpAnyH_take (i := 6) (v := ?_) rfl (by kernel_rfl) (by kernel_rfl) (by kernel_rfl) (fun _ _ _ h => h) (Or.inl ⟨by rfl, ?_⟩) (by assumption) ?_)
  rotate_left 1
  · (intro w hSw; (try dsimp only at hSw); obtain ⟨s0, s1, s2, s3⟩ := hSw; (go_simp) <;> with_reducible rfl)
  try simp only [Act.put]
  refine (wpAnyH_take (i := 7) (v := ?_) rfl (by kernel_rfl) (by kernel_rfl) (by kernel_rfl) (fun _ _ _ h => h) (Or.inl ⟨by rfl, ?_⟩) (by assumption) ?_)
  rotate_left 1
  · (intro w hSw; (try dsimp only at hSw); obtain ⟨s0, s1, s2, s3⟩ := hSw; (go_simp) <;> with_reducible rfl)
  try simp only [Act.put]
  refine (wpAnyH_take (i := 8) (v := ?_) rfl (by kernel_rfl) (by kernel_rfl) (by kernel_rfl) (fun _ _ _ h => h) (Or.inl ⟨by rfl, ?_⟩) (by assumption) ?_)
  rotate_left 1
  · (intro w hSw; (try dsimp only at hSw); obtain ⟨s0, s1, s2, s3⟩ := hSw; (go_simp) <;> with_reducible rfl)
  try simp only [Act.put]
  refine wpAnyH_ready (rs := [4]) (by kernel_rfl) (by simp) ?_
  refine AllReadyH.cons rfl (fun K hK => ?_) ?_
  · go_simp
    go_at_call 111
    refine (H1.out _).mono ?_
    rintro e w5 ⟨rfl, rfl⟩
    refine hK.out _ _ ?_ (fun hNew => ?_)
    · (try dsimp only); exact hHeld
    clear hK K hHeld
    have hHeld := hNew
    clear hNew
    refine wpAnyH_ready (rs := [9]) (by kernel_rfl) (by simp) ?_
    refine AllReadyH.cons rfl (fun K hK => ?_) ?_
    · go_simp
      go_at_call 111
      refine (H2.out _).mono ?_
      rintro e w5 ⟨rfl, rfl⟩
      refine hK.out _ _ ?_ (fun hNew => ?_)
      · (try dsimp only); exact hHeld
      clear hK K hHeld
      have hHeld := hNew
      clear hNew
      refine (wpAnyH_take (i := 10) (v := ?_) rfl (by kernel_rfl) (by kernel_rfl) (by kernel_rfl) (fun _ _ _ h => h) (Or.inl ⟨by rfl, ?_⟩) (by assumption) ?_)
      rotate_left 1
      · (intro w hSw; (try dsimp only at hSw); obtain ⟨s0, s1, s2, s3⟩ := hSw; (go_simp) <;> with_reducible rfl)
      try simp only [Act.put, List.setIfInBounds_toArray]
      refine wpAnyH_ready (rs := [11]) (by kernel_rfl) (by simp) ?_
      refine AllReadyH.cons rfl (fun K hK => ?_) ?_
      · go_simp
        refine hK.out _ _ ?_ (fun hNew => ?_)
        · (try dsimp only); exact ⟨HS2.out _ _ (by simp <;> omega) a0, HS2.out _ _ (by simp <;> omega) a1, HS2.out _ _ (by simp <;> omega) b0, HS2.out _ _ (by simp <;> omega) b1⟩
        clear hK K hHeld hNew a0 a1 b0 b1 z0 z1 f0 f1
        refine wpAnyH_done (by kernel_rfl) ?_ _
        go_wp2_with fail
        obtain ⟨e0, e1⟩ := HE.out
        have HB3 := HBB
        clear HBB HE HS2
        generalize ((W.setCell ⟨w.heap.size + 1 + 1, 0, none⟩ (.int .i64 x)).setCell ⟨w.heap.size + 1 + 1, 1, none⟩ (.int .i64 y)).drew = W9 at *
        refine bodyPost_ret (v := .agg #[.int .i64 x, .int .i64 y]) ?_ rfl ⟨rfl, HB3.out⟩
        simp [results, Try.results132, go_sem, e0, e1]
      exact AllReadyH.nil
    exact AllReadyH.nil
  exact AllReadyH.nil

theorem clB_off {p q r s p' q' r' s' : Int} (h : s ≤ r' ∨ s' ≤ r) : clB (p, q, r, s) (p', q', r', s') = false := by
  unfold clB
  rw [if_pos (by simp only; omega)]
theorem clB_on {p q r s p' q' r' s' : Int} (h : ¬ (s ≤ r' ∨ s' ≤ r)) : clB (p, q, r, s) (p', q', r', s') = (decide (p = p') || decide (q = q') || (decide (p < p') != decide (q < q'))) := by
  unfold clB
  rw [if_neg (by simp only; omega)]
theorem clB_side {p q r s p' q' r' s' : Int} (h : ¬ (s ≤ r' ∨ s' ≤ r)) : clB (p, q, r, s) (p', q', r', s') = (!(cmpC p p' == -1 && cmpC q q' == -1) && !(cmpC p p' == 1 && cmpC q q' == 1)) := by
  rw [clB_on h]
  unfold cmpC
  by_cases h1 : p < p' <;> by_cases h2 : p' < p <;> by_cases h3 : q < q' <;> by_cases h4 : q' < q <;> simp [h1, h2, h3, h4] <;> omega

abbrev mvV (m : Mv) : List Value := [.int .i64 m.1, .int .i64 m.2.1, .int .i64 m.2.2.1, .int .i64 m.2.2.2]
theorem execC_load {P : Program} {op : Oper} {ρ : Operand → Value} {w : World} (ty : TypeId) (x : Operand) (ho : op.op = .load ty x) (b o : Nat) (hx : ρ x = .pointer (some ⟨b, o, none⟩)) (cs : List Value) (d : TypeDesc) (hc : w.rangeAt b o cs)
    (hu : P.underlying ty = some d) (hd : d.isRow = true) (hi : (P.info? ty).map (·.size) = some cs.length) : (execOp ρ op).run P w = .ok (.value (.agg cs.toArray)) w := by
  unfold execOp
  simp only [ho, hx, Instr.loadAt, Instr.sureAddr, Sem.run_bind, Sem.run_pure, Result.andThen_ok, run_loadVar_mid w b o ty cs d hc hu hd hi]
theorem rangeC_below {n : Nat} {W W' : World} {b o : Nat} {cs : List Value} (h : W.rangeAt b o cs) (hb : Below n W W') (hn : b < n) : W'.rangeAt b o cs := fun j v hv =>
  (hb.cell (p := ⟨b, o + j, none⟩) hn).trans (h j v hv)
theorem lastC_alloc (w : World) (o : Obj) : (w.alloc o).heap[w.heap.size]? = some o := by
  show (w.heap.push o)[w.heap.size]? = some o
  simp
theorem rangeC_new (w : World) (cs : List Value) (t : TypeId) : (w.alloc (.cells cs.toArray t)).rangeAt w.heap.size 0 cs := fun j v hv => by
  rw [Nat.zero_add, cell_of_row _ _ j _ _ _ (lastC_alloc w _)]
  simpa using hv
theorem moveU : Try.prog.underlying 131 = some (.struct (Try.prog.fieldsOf 131)) := by kernel_rfl
theorem moveI : (Try.prog.info? 131).map (·.size) = some 4 := by kernel_rfl
def ovC (a b c d : Int) : Bool := decide (a < d) && decide (c < b)

set_option maxRecDepth 100000 in
set_option maxHeartbeats 4000000 in
theorem minutes_any (p q r s : Int) (w : World) : Calls Try.prog 130 #[.agg #[.int .i64 p, .int .i64 q, .int .i64 r, .int .i64 s]] w fun e w' => e = .returned (.agg #[.int .i64 r, .int .i64 s]) ∧ Below w.heap.size w w' := by
  go_enter Try.func130, Try.ntmps130
  go_wp2_with fail
  have h1 := lastC_alloc (w.alloc (.cells #[.int .i64 p, .int .i64 q, .int .i64 r, .int .i64 s] 131)) (.cells #[.int .i64 r, .int .i64 s] 119)
  rw [show (w.alloc (.cells #[.int .i64 p, .int .i64 q, .int .i64 r, .int .i64 s] 131)).heap.size = w.heap.size + 1 by simp] at h1
  have e0 := cell_of h1 (i := 0) rfl
  have e1 := cell_of h1 (i := 1) rfl
  refine bodyPost_ret (v := .agg #[.int .i64 r, .int .i64 s]) ?_ rfl ⟨rfl, ((Below.refl _ w).alloc (Nat.le_refl _) _).alloc (by simp) _⟩
  clear h1
  generalize (w.alloc (.cells #[.int .i64 p, .int .i64 q, .int .i64 r, .int .i64 s] 131)).alloc (.cells #[.int .i64 r, .int .i64 s] 119) = W at *
  simp [results, Try.results130, go_sem, e0, e1]

set_option maxRecDepth 100000 in
set_option maxHeartbeats 4000000 in
theorem spanOv_any (a b c d : Int) (w : World) : Calls Try.prog 131 #[.agg #[.int .i64 a, .int .i64 b], .agg #[.int .i64 c, .int .i64 d]] w fun e w' => e = .returned (.bool (ovC a b c d)) ∧ Below w.heap.size w w' := by
  unfold ovC
  have B0 := Lib.hid (((Below.refl _ w).alloc (Nat.le_refl _) (.cells #[.int .i64 a, .int .i64 b] 119)).alloc (by simp) (.cells #[.int .i64 c, .int .i64 d] 119))
  by_cases h1 : a < d
  · rw [decide_eq_true h1, Bool.true_and]
    go_enter Try.func131, Try.ntmps131
    go_wp2_with fail
    go_ret
    exact ⟨rfl, by first | exact B0.out | exact B0.out.drew⟩
  · rw [decide_eq_false h1, Bool.false_and]
    have h2 : decide (a < d) = false := decide_eq_false h1
    clear h1
    go_enter Try.func131, Try.ntmps131
    go_wp2_with fail
    go_ret
    exact ⟨rfl, by first | exact B0.out | exact B0.out.drew⟩

/-- What stays while two moves are held against each other. -/
def KeepC (w : World) (m m' : Mv) (W : World) : Prop := Below w.heap.size w W ∧ w.heap.size + 2 ≤ W.heap.size ∧ W.rangeAt w.heap.size 0 (mvV m) ∧ W.rangeAt (w.heap.size + 1) 0 (mvV m')
theorem KeepC.below {w W W' : World} {m m' : Mv} (h : KeepC w m m' W) (hb : Below W.heap.size W W') : KeepC w m m' W' :=
  ⟨h.1.trans (hb.mono h.1.size), Nat.le_trans h.2.1 hb.size, rangeC_below h.2.2.1 hb (by have := h.2.1; omega), rangeC_below h.2.2.2 hb (by have := h.2.1; omega)⟩
theorem KeepC.start (w : World) (m m' : Mv) (t t' : TypeId) : KeepC w m m' ((w.alloc (.cells (mvV m).toArray t)).alloc (.cells (mvV m').toArray t')) := by
  have hb : Below (w.heap.size + 1) (w.alloc (.cells (mvV m).toArray t)) ((w.alloc (.cells (mvV m).toArray t)).alloc (.cells (mvV m').toArray t')) := (below_one _ _).mono (by simp)
  refine ⟨(below_one w _).trans (hb.mono (by omega)), by simp, rangeC_below (rangeC_new w _ _) hb (by omega), ?_⟩
  have := rangeC_new (w.alloc (.cells (mvV m).toArray t)) (mvV m') t'
  simpa using this
theorem KeepC.drew {w W : World} {m m' : Mv} (h : KeepC w m m' W) : KeepC w m m' W.drew := h.below (Below.refl _ _).drew
theorem KeepC.fst {w W : World} {m m' : Mv} (h : KeepC w m m' W) : W.rangeAt w.heap.size 0 (mvV m) := h.2.2.1
theorem KeepC.snd {w W : World} {m m' : Mv} (h : KeepC w m m' W) : W.rangeAt (w.heap.size + 1) 0 (mvV m') := h.2.2.2
theorem ovC_off {p q r s p' q' r' s' : Int} (h : ovC r s r' s' = false) : clB (p, q, r, s) (p', q', r', s') = false := clB_off (by
  unfold ovC at h
  by_cases h1 : s' ≤ r
  · exact .inr h1
  · by_cases h2 : s ≤ r'
    · exact .inl h2
    · rw [decide_eq_true (by omega), decide_eq_true (by omega)] at h
      cases h)
theorem ovC_on {r s r' s' : Int} (h : ovC r s r' s' = true) : ¬ (s ≤ r' ∨ s' ≤ r) := by
  simp only [ovC, Bool.and_eq_true, decide_eq_true_eq] at h
  omega

set_option maxRecDepth 100000 in
set_option maxHeartbeats 8000000 in
theorem clashes_any (p q r s p' q' r' s' : Int) (w : World) : Calls Try.prog 100 #[.agg #[.int .i64 p, .int .i64 q, .int .i64 r, .int .i64 s], .agg #[.int .i64 p', .int .i64 q', .int .i64 r', .int .i64 s']] w fun e w' => e = .returned (.bool (clB (p, q, r, s) (p', q', r', s'))) ∧ Below w.heap.size w w' := by
  have HA1 := Lib.hid (fun W => minutes_any p q r s W)
  have HA2 := Lib.hid (fun W => minutes_any p' q' r' s' W)
  have HO1 := Lib.hid (fun W => spanOv_any r s r' s' W)
  have HK := Lib.hid (KeepC.start w (p, q, r, s) (p', q', r', s') 131 131)
  have hkd := HK.out.drew
  have HOff := Lib.hid (ovC_off (p := p) (q := q) (r := r) (s := s) (p' := p') (q' := q') (r' := r') (s' := s'))
  have HOn := Lib.hid (fun h => clB_side (p := p) (q := q) (r := r) (s := s) (p' := p') (q' := q') (r' := r') (s' := s') (ovC_on h))
  have HSd := Lib.hid (fun W => sideOf_any p q r s p' q' r' s' W)
  generalize clB (p, q, r, s) (p', q', r', s') = res at *
  generalize ovC r s r' s' = o1 at *
  generalize cmpC p p' = x at *
  generalize cmpC q q' = y at *
  go_enter Try.func100, Try.ntmps100
  go_wp2_with fail
  generalize hW : (w.alloc (.cells (mvV (p, q, r, s)).toArray 131)).alloc (.cells (mvV (p', q', r', s')).toArray 131) = W at *
  clear hW HK
  cases o1 with
  | false =>
    obtain rfl := HOff.out rfl
    clear HOn HSd
    refine wp_region_held_drew (S := fun W' => KeepC w (p, q, r, s) (p', q', r', s') W') (by kernel_rfl) ?_ (fun hHeld => ?_)
    · exact hkd
    refine (wpAnyH_take (i := 0) (v := ?_) rfl (by kernel_rfl) (by kernel_rfl) (by kernel_rfl) (fun _ _ _ h => h) (Or.inl ⟨by rfl, ?_⟩) (by assumption) ?_)
    rotate_left 1
    · (intro W hSw; refine (execC_load 131 _ rfl _ _ rfl _ _ (KeepC.fst hSw) moveU rfl moveI).trans ?_; with_reducible rfl)
    try simp only [List.getElem_toArray, List.getElem_cons_zero, Act.put, List.setIfInBounds_toArray, List.set_cons_zero, List.set_cons_succ]
    refine (wpAnyH_take (i := 2) (v := ?_) rfl (by kernel_rfl) (by kernel_rfl) (by kernel_rfl) (fun _ _ _ h => h) (Or.inl ⟨by rfl, ?_⟩) (by assumption) ?_)
    rotate_left 1
    · (intro W hSw; refine (execC_load 131 _ rfl _ _ rfl _ _ (KeepC.snd hSw) moveU rfl moveI).trans ?_; with_reducible rfl)
    try simp only [List.getElem_toArray, List.getElem_cons_zero, List.getElem_cons_succ, Act.put, List.setIfInBounds_toArray, List.set_cons_zero, List.set_cons_succ]
    refine wpAnyH_ready (rs := [1]) (by kernel_rfl) (by simp) ?_
    refine AllReadyH.cons rfl (fun K hK => ?_) ?_
    · go_simp
      go_at_call 130
      refine (HA1.out _).mono ?_
      rintro e w1 ⟨rfl, hb1⟩
      refine hK.out _ _ ?_ (fun hNew => ?_)
      · (try dsimp only); exact KeepC.below hHeld hb1
      clear hK K hHeld
      have hHeld := hNew
      clear hNew
      try simp only [List.getElem_toArray, List.getElem_cons_zero, List.getElem_cons_succ, Act.put, List.setIfInBounds_toArray, List.set_cons_zero, List.set_cons_succ]
      refine wpAnyH_ready (rs := [3]) (by kernel_rfl) (by simp) ?_
      refine AllReadyH.cons rfl (fun K hK => ?_) ?_
      · go_simp
        go_at_call 130
        refine (HA2.out _).mono ?_
        rintro e w2 ⟨rfl, hb2⟩
        refine hK.out _ _ ?_ (fun hNew => ?_)
        · (try dsimp only); exact KeepC.below hHeld hb2
        clear hK K hHeld
        have hHeld := hNew
        clear hNew
        try simp only [List.getElem_toArray, List.getElem_cons_zero, List.getElem_cons_succ, Act.put, List.setIfInBounds_toArray, List.set_cons_zero, List.set_cons_succ]
        refine wpAnyH_ready (rs := [4]) (by kernel_rfl) (by simp) ?_
        refine AllReadyH.cons rfl (fun K hK => ?_) ?_
        · go_simp
          go_at_call 131
          refine (HO1.out _).mono ?_
          rintro e w3 ⟨rfl, hb3⟩
          refine hK.out _ _ ?_ (fun hNew => ?_)
          · (try dsimp only); exact KeepC.below hHeld hb3
          clear hK K hHeld
          have hHeld := hNew
          clear hNew
          try simp only [List.getElem_toArray, List.getElem_cons_zero, List.getElem_cons_succ, Act.put, List.setIfInBounds_toArray, List.set_cons_zero, List.set_cons_succ]
          refine (wpAnyH_take (i := 5) (v := ?_) rfl (by kernel_rfl) (by kernel_rfl) (by kernel_rfl) (fun _ _ _ h => h) (Or.inl ⟨by rfl, ?_⟩) (by assumption) ?_)
          rotate_left 1
          · (intro w hSw; (try dsimp only at hSw); obtain ⟨x⟩ := hSw; (go_simp) <;> with_reducible rfl)
          try simp only [List.getElem_toArray, List.getElem_cons_zero, List.getElem_cons_succ, Act.put, List.setIfInBounds_toArray, List.set_cons_zero, List.set_cons_succ]
          refine wpAnyH_done (by kernel_rfl) ?_ _
          go_wp2_with fail
          go_ret
          exact ⟨rfl, hHeld.1⟩
        exact AllReadyH.nil
      exact AllReadyH.nil
    exact AllReadyH.nil
  | true =>
    have HRes := Lib.hid (HOn.out rfl)
    clear HOff HOn
    refine wp_region_held_drew (S := fun W' => KeepC w (p, q, r, s) (p', q', r', s') W') (by kernel_rfl) ?_ (fun hHeld => ?_)
    · exact hkd
    refine (wpAnyH_take (i := 0) (v := ?_) rfl (by kernel_rfl) (by kernel_rfl) (by kernel_rfl) (fun _ _ _ h => h) (Or.inl ⟨by rfl, ?_⟩) (by assumption) ?_)
    rotate_left 1
    · (intro W hSw; refine (execC_load 131 _ rfl _ _ rfl _ _ (KeepC.fst hSw) moveU rfl moveI).trans ?_; with_reducible rfl)
    try simp only [List.getElem_toArray, List.getElem_cons_zero, Act.put, List.setIfInBounds_toArray, List.set_cons_zero, List.set_cons_succ]
    refine (wpAnyH_take (i := 2) (v := ?_) rfl (by kernel_rfl) (by kernel_rfl) (by kernel_rfl) (fun _ _ _ h => h) (Or.inl ⟨by rfl, ?_⟩) (by assumption) ?_)
    rotate_left 1
    · (intro W hSw; refine (execC_load 131 _ rfl _ _ rfl _ _ (KeepC.snd hSw) moveU rfl moveI).trans ?_; with_reducible rfl)
    try simp only [List.getElem_toArray, List.getElem_cons_zero, List.getElem_cons_succ, Act.put, List.setIfInBounds_toArray, List.set_cons_zero, List.set_cons_succ]
    refine wpAnyH_ready (rs := [1]) (by kernel_rfl) (by simp) ?_
    refine AllReadyH.cons rfl (fun K hK => ?_) ?_
    · go_simp
      go_at_call 130
      refine (HA1.out _).mono ?_
      rintro e w1 ⟨rfl, hb1⟩
      refine hK.out _ _ ?_ (fun hNew => ?_)
      · (try dsimp only); exact KeepC.below hHeld hb1
      clear hK K hHeld
      have hHeld := hNew
      clear hNew
      try simp only [List.getElem_toArray, List.getElem_cons_zero, List.getElem_cons_succ, Act.put, List.setIfInBounds_toArray, List.set_cons_zero, List.set_cons_succ]
      refine wpAnyH_ready (rs := [3]) (by kernel_rfl) (by simp) ?_
      refine AllReadyH.cons rfl (fun K hK => ?_) ?_
      · go_simp
        go_at_call 130
        refine (HA2.out _).mono ?_
        rintro e w2 ⟨rfl, hb2⟩
        refine hK.out _ _ ?_ (fun hNew => ?_)
        · (try dsimp only); exact KeepC.below hHeld hb2
        clear hK K hHeld
        have hHeld := hNew
        clear hNew
        try simp only [List.getElem_toArray, List.getElem_cons_zero, List.getElem_cons_succ, Act.put, List.setIfInBounds_toArray, List.set_cons_zero, List.set_cons_succ]
        refine wpAnyH_ready (rs := [4]) (by kernel_rfl) (by simp) ?_
        refine AllReadyH.cons rfl (fun K hK => ?_) ?_
        · go_simp
          go_at_call 131
          refine (HO1.out _).mono ?_
          rintro e w3 ⟨rfl, hb3⟩
          refine hK.out _ _ ?_ (fun hNew => ?_)
          · (try dsimp only); exact KeepC.below hHeld hb3
          clear hK K hHeld
          have hHeld := hNew
          clear hNew
          try simp only [List.getElem_toArray, List.getElem_cons_zero, List.getElem_cons_succ, Act.put, List.setIfInBounds_toArray, List.set_cons_zero, List.set_cons_succ]
          refine (wpAnyH_take (i := 5) (v := ?_) rfl (by kernel_rfl) (by kernel_rfl) (by kernel_rfl) (fun _ _ _ h => h) (Or.inl ⟨by rfl, ?_⟩) (by assumption) ?_)
          rotate_left 1
          · (intro w hSw; (try dsimp only at hSw); obtain ⟨x⟩ := hSw; (go_simp) <;> with_reducible rfl)
          try simp only [List.getElem_toArray, List.getElem_cons_zero, List.getElem_cons_succ, Act.put, List.setIfInBounds_toArray, List.set_cons_zero, List.set_cons_succ]
          refine wpAnyH_done (by kernel_rfl) ?_ _
          have K3 := Lib.hid hHeld
          clear hHeld hb1 hb2 hb3 hkd HA1 HA2 HO1
          have hbA : Below w3.heap.size w3 ((w3.alloc (.cells #[.int .i64 (-1), .int .i64 (-1)] 158)).alloc (.cells #[.int .i64 1, .int .i64 1] 158)) := ((Below.refl _ w3).alloc (Nat.le_refl _) _).alloc (by simp) _
          have K4 := Lib.hid (KeepC.below K3.out hbA)
          have g0 := lastC_alloc (w3.alloc (.cells #[.int .i64 (-1), .int .i64 (-1)] 158)) (.cells #[.int .i64 1, .int .i64 1] 158)
          rw [show (w3.alloc (.cells #[.int .i64 (-1), .int .i64 (-1)] 158)).heap.size = w3.heap.size + 1 by simp] at g0
          have g1 : ((w3.alloc (.cells #[.int .i64 (-1), .int .i64 (-1)] 158)).alloc (.cells #[.int .i64 1, .int .i64 1] 158)).heap[w3.heap.size]? = some (.cells #[.int .i64 (-1), .int .i64 (-1)] 158) := (Below.heap_alloc _ _ _ (by simp)).trans (lastC_alloc w3 _)
          have r0 := cell_of g0 (i := 0) rfl
          have r1 := cell_of g0 (i := 1) rfl
          have l0 := cell_of g1 (i := 0) rfl
          have l1 := cell_of g1 (i := 1) rfl
          have hz4 : ((w3.alloc (.cells #[.int .i64 (-1), .int .i64 (-1)] 158)).alloc (.cells #[.int .i64 1, .int .i64 1] 158)).heap.size = w3.heap.size + 1 + 1 := by simp
          have f0 := KeepC.fst K4.out 0 _ rfl
          have f1 := KeepC.fst K4.out 1 _ rfl
          have f2 := KeepC.fst K4.out 2 _ rfl
          have f3 := KeepC.fst K4.out 3 _ rfl
          have n0 := KeepC.snd K4.out 0 _ rfl
          have n1 := KeepC.snd K4.out 1 _ rfl
          have n2 := KeepC.snd K4.out 2 _ rfl
          have n3 := KeepC.snd K4.out 3 _ rfl
          simp only [Nat.zero_add] at f0 f1 f2 f3 n0 n1 n2 n3
          clear g0 g1 hbA K3
          have HL := Lib.hid (And.intro (And.intro l0 l1) (And.intro r0 r1))
          have HZ4 := Lib.hid hz4
          clear l0 l1 r0 r1 hz4
          go_wp2_with fail
          generalize (w3.alloc (.cells #[.int .i64 (-1), .int .i64 (-1)] 158)).alloc (.cells #[.int .i64 1, .int .i64 1] 158) = W4 at *
          refine (HSd.out _).mono ?_
          rintro e w5 ⟨rfl, hb⟩
          obtain ⟨⟨l0, l1⟩, r0, r1⟩ := HL.out
          have hz4 := HZ4.out
          have hz5 := hb.size
          have d0 : ∀ o, (w5.alloc o).cell? ⟨w3.heap.size, 0, none⟩ = some (.int .i64 (-1)) := fun o => (World.cell?_alloc_lt w5 o ⟨w3.heap.size, 0, none⟩ (by simp only; omega)).trans ((hb.cell (p := ⟨w3.heap.size, 0, none⟩) (by simp only; omega)).trans l0)
          have d1 : ∀ o, (w5.alloc o).cell? ⟨w3.heap.size, 1, none⟩ = some (.int .i64 (-1)) := fun o => (World.cell?_alloc_lt w5 o ⟨w3.heap.size, 1, none⟩ (by simp only; omega)).trans ((hb.cell (p := ⟨w3.heap.size, 1, none⟩) (by simp only; omega)).trans l1)
          have d2 : ∀ o, (w5.alloc o).cell? ⟨w3.heap.size + 1, 0, none⟩ = some (.int .i64 1) := fun o => (World.cell?_alloc_lt w5 o ⟨w3.heap.size + 1, 0, none⟩ (by simp only; omega)).trans ((hb.cell (p := ⟨w3.heap.size + 1, 0, none⟩) (by simp only; omega)).trans r0)
          have d3 : ∀ o, (w5.alloc o).cell? ⟨w3.heap.size + 1, 1, none⟩ = some (.int .i64 1) := fun o => (World.cell?_alloc_lt w5 o ⟨w3.heap.size + 1, 1, none⟩ (by simp only; omega)).trans ((hb.cell (p := ⟨w3.heap.size + 1, 1, none⟩) (by simp only; omega)).trans r1)
          have HB5 := Lib.hid (K4.out.1.trans (hb.mono K4.out.1.size))
          have HB6 := Lib.hid (HB5.out.alloc HB5.out.size (.cells #[.int .i64 x, .int .i64 y] 158))
          clear hb l0 l1 r0 r1 hz4 hz5 f0 f1 f2 f3 n0 n1 n2 n3 K4 HL HZ4
          have he1 := fun W => eqIn_side x y (-1) (-1) W
          have he2 := fun W => eqIn_side x y 1 1 W
          have HR2 := Lib.hid HRes.out
          generalize (x == -1 && y == -1) = q1 at *
          generalize (x == 1 && y == 1) = q2 at *
          have hgd := guardSd
          obtain rfl := HR2.out
          clear HRes HR2
          cases q1 <;> cases q2
          all_goals
            go_wp2_with fail
            go_ret
            exact ⟨by first | rfl | simp, by first | exact HB6.out | exact HB6.out.drew⟩
        exact AllReadyH.nil
      exact AllReadyH.nil
    exact AllReadyH.nil

set_option maxRecDepth 100000 in
set_option maxHeartbeats 8000000 in
theorem l13Clash_any (p q r s p' q' r' s' : Int) (w : World) : Calls Try.prog 96 #[.agg #[.int .i64 p, .int .i64 q, .int .i64 r, .int .i64 s], .agg #[.int .i64 p', .int .i64 q', .int .i64 r', .int .i64 s']] w fun e w' => e = .returned (.bool (clB (p, q, r, s) (p', q', r', s'))) ∧ Below w.heap.size w w' := by
  have B0 := Lib.hid (((Below.refl _ w).alloc (Nat.le_refl _) (.cells #[.int .i64 p, .int .i64 q, .int .i64 r, .int .i64 s] 131)).alloc (by simp) (.cells #[.int .i64 p', .int .i64 q', .int .i64 r', .int .i64 s'] 131))
  by_cases h1 : s' ≤ r
  · rw [clB_off (.inr h1)]
    go_enter Try.func96, Try.ntmps96
    go_wp2_with fail
    go_ret
    exact ⟨rfl, by first | exact B0.out | exact B0.out.drew⟩
  by_cases h2 : s ≤ r'
  · rw [clB_off (.inl h2)]
    have h1' : decide (s' ≤ r) = false := decide_eq_false h1
    go_enter Try.func96, Try.ntmps96
    go_wp2_with fail
    go_ret
    exact ⟨rfl, by first | exact B0.out | exact B0.out.drew⟩
  have h2' : decide (s ≤ r') = false := decide_eq_false h2
  rw [clB_on (by omega)]
  by_cases e1 : p = p'
  · subst e1
    rw [decide_eq_true rfl]
    go_enter Try.func96, Try.ntmps96
    go_wp2_with fail
    go_ret
    exact ⟨by simp, by first | exact B0.out | exact B0.out.drew⟩
  have d1 : decide (p = p') = false := decide_eq_false e1
  rw [d1]
  by_cases e2 : q = q'
  · subst e2
    rw [decide_eq_true rfl]
    go_enter Try.func96, Try.ntmps96
    go_wp2_with fail
    go_ret
    exact ⟨by simp, by first | exact B0.out | exact B0.out.drew⟩
  have d2 : decide (q = q') = false := decide_eq_false e2
  rw [d2]
  by_cases c1 : p < p'
  case' pos => rw [decide_eq_true c1]
  case' neg => rw [decide_eq_false c1]
  all_goals
    by_cases c2 : q < q'
    case' pos => rw [decide_eq_true c2]
    case' neg => rw [decide_eq_false c2]
  all_goals
    go_enter Try.func96, Try.ntmps96
    go_wp2_with fail
    go_ret
    exact ⟨by first | rfl | simp_all, by first | exact B0.out | exact B0.out.drew⟩
end Go.Proofs.Ytpljcpeghjplnaa
