/-
  The methods of the program's stays: sections, hours, wait, cost, covers, meets. No statement of the seat by itself.
-/
import Derived.Test.YtpljcpeghjplnaaQM
import Derived.Test.YtpljcpeghjplnaaRet
import Derived.Deep.MidRow
import Derived.Deep.RegionHeld
namespace Go.Proofs.Ytpljcpeghjplnaa
open Go.RowKit

/-- The cells of a stay, and its value. -/
abbrev svV (s : Sty) : List Value := [.int .i64 s.1, .int .i64 s.2.1.1, .int .i64 s.2.1.2.1, .int .i64 s.2.1.2.2.1, .int .i64 s.2.1.2.2.2, .int .i64 s.2.2.1, .int .i64 s.2.2.2]
abbrev stV (s : Sty) : Value := .agg (svV s).toArray

theorem exec_load_mid {P : Program} {op : Oper} {ρ : Operand → Value} {w : World} (ty : TypeId) (x : Operand) (ho : op.op = .load ty x) (b o : Nat) (hx : ρ x = .pointer (some ⟨b, o, none⟩)) (cs : List Value) (d : TypeDesc) (hc : w.rangeAt b o cs)
    (hu : P.underlying ty = some d) (hd : d.isRow = true) (hi : (P.info? ty).map (·.size) = some cs.length) : (execOp ρ op).run P w = .ok (.value (.agg cs.toArray)) w := by
  unfold execOp
  simp only [ho, hx, Instr.loadAt, Instr.sureAddr, Sem.run_bind, Sem.run_pure, Result.andThen_ok, run_loadVar_mid w b o ty cs d hc hu hd hi]
theorem rangeAt_below {n : Nat} {W W' : World} {b o : Nat} {cs : List Value} (h : W.rangeAt b o cs) (hb : Below n W W') (hn : b < n) : W'.rangeAt b o cs := fun j v hv =>
  (hb.cell (p := ⟨b, o + j, none⟩) hn).trans (h j v hv)
theorem rangeAt_new {w : World} {b : Nat} {cs : List Value} {t : TypeId} {fz : Nat × Nat} (h : w.heap[b]? = some (.cells cs.toArray t fz)) : w.rangeAt b 0 cs := fun j v hv => by
  rw [Nat.zero_add, cell_of_row _ _ j _ _ _ h]
  simpa using hv

theorem stayU : Try.prog.underlying 90 = some (.struct (Try.prog.fieldsOf 90)) := by kernel_rfl
theorem stayI : (Try.prog.info? 90).map (·.size) = some 7 := by kernel_rfl

/-- Two spans have a number in common. -/
def ovB (a b c d : Int) : Bool := decide (a < d) && decide (c < b)
/-- A span contains a number. -/
def inB (a b n : Int) : Bool := decide (a ≤ n) && decide (n < b)
theorem ov_apt (x : Shp) (a : Brt) (y : Shp) (b : Brt) : (ovB a.1 (a.1 + x.1) b.1 (b.1 + y.1) && ovB a.2 (a.2 + x.2.2.1) b.2 (b.2 + y.2.2.1)) = !aptB x a y b := by
  unfold ovB aptB
  rw [Bool.eq_iff_iff]
  simp
  omega


theorem last_alloc (w : World) (o : Obj) : (w.alloc o).heap[w.heap.size]? = some o := by
  show (w.heap.push o)[w.heap.size]? = some o
  simp
theorem two_ret (w : World) (o : Obj) (x y : Int) (T : TypeId) : (((w.alloc o).alloc (.cells #[.int .i64 x, .int .i64 y] T)).cell? ⟨w.heap.size + 1, 0, none⟩ = some (.int .i64 x)) ∧ (((w.alloc o).alloc (.cells #[.int .i64 x, .int .i64 y] T)).cell? ⟨w.heap.size + 1, 1, none⟩ = some (.int .i64 y)) ∧ Below w.heap.size w ((w.alloc o).alloc (.cells #[.int .i64 x, .int .i64 y] T)) := by
  have h1 := last_alloc (w.alloc o) (.cells #[.int .i64 x, .int .i64 y] T)
  rw [show (w.alloc o).heap.size = w.heap.size + 1 by simp] at h1
  exact ⟨cell_of h1 (i := 0) rfl, cell_of h1 (i := 1) rfl, ((Below.refl _ w).alloc (Nat.le_refl _) _).alloc (by simp) _⟩


set_option maxRecDepth 100000 in
set_option maxHeartbeats 4000000 in
theorem sections_any (i l a h c p t : Int) (hp : 0 ≤ p ∧ p ≤ 2000) (hl : 0 ≤ l ∧ l ≤ 2000) (w : World) : Calls Try.prog 124 #[.agg #[.int .i64 i, .int .i64 l, .int .i64 a, .int .i64 h, .int .i64 c, .int .i64 p, .int .i64 t]] w fun e w' => e = .returned (.agg #[.int .i64 p, .int .i64 (p + l)]) ∧ Below w.heap.size w w' := by
  go_enter Try.func124, Try.ntmps124
  go_wp2_with fail
  have e := two_ret w (.cells #[.int .i64 i, .int .i64 l, .int .i64 a, .int .i64 h, .int .i64 c, .int .i64 p, .int .i64 t] 90) p (p + l) 119
  obtain ⟨e0, e1, hb⟩ := e
  refine bodyPost_ret (v := .agg #[.int .i64 p, .int .i64 (p + l)]) ?_ rfl ⟨rfl, hb⟩
  clear hb
  generalize (w.alloc (.cells #[.int .i64 i, .int .i64 l, .int .i64 a, .int .i64 h, .int .i64 c, .int .i64 p, .int .i64 t] 90)).alloc (.cells #[.int .i64 p, .int .i64 (p + l)] 119) = W at *
  simp [results, Try.results124, go_sem, e0, e1]


set_option maxRecDepth 100000 in
set_option maxHeartbeats 4000000 in
theorem hours_any (i l a h c p t : Int) (hp : 0 ≤ t ∧ t ≤ 2000) (hl : 0 ≤ h ∧ h ≤ 2000) (w : World) : Calls Try.prog 88 #[.agg #[.int .i64 i, .int .i64 l, .int .i64 a, .int .i64 h, .int .i64 c, .int .i64 p, .int .i64 t]] w fun e w' => e = .returned (.agg #[.int .i64 t, .int .i64 (t + h)]) ∧ Below w.heap.size w w' := by
  go_enter Try.func88, Try.ntmps88
  go_wp2_with fail
  have e := two_ret w (.cells #[.int .i64 i, .int .i64 l, .int .i64 a, .int .i64 h, .int .i64 c, .int .i64 p, .int .i64 t] 90) t (t + h) 119
  obtain ⟨e0, e1, hb⟩ := e
  refine bodyPost_ret (v := .agg #[.int .i64 t, .int .i64 (t + h)]) ?_ rfl ⟨rfl, hb⟩
  clear hb
  generalize (w.alloc (.cells #[.int .i64 i, .int .i64 l, .int .i64 a, .int .i64 h, .int .i64 c, .int .i64 p, .int .i64 t] 90)).alloc (.cells #[.int .i64 t, .int .i64 (t + h)] 119) = W at *
  simp [results, Try.results88, go_sem, e0, e1]


set_option maxRecDepth 100000 in
set_option maxHeartbeats 4000000 in
theorem waitF_any (i l a h c p t : Int) (ht : 0 ≤ t ∧ t ≤ 2000) (ha : 0 ≤ a ∧ a ≤ 2000) (w : World) : Calls Try.prog 80 #[.agg #[.int .i64 i, .int .i64 l, .int .i64 a, .int .i64 h, .int .i64 c, .int .i64 p, .int .i64 t]] w fun e w' => e = .returned (.int .i64 (t - a)) ∧ Below w.heap.size w w' := by
  go_enter Try.func80, Try.ntmps80
  go_wp2_with fail
  go_ret
  exact ⟨rfl, below_one _ _⟩

set_option maxRecDepth 100000 in
set_option maxHeartbeats 4000000 in
theorem overlaps_any (a b c d : Int) (w : World) : Calls Try.prog 131 #[.agg #[.int .i64 a, .int .i64 b], .agg #[.int .i64 c, .int .i64 d]] w fun e w' => e = .returned (.bool (ovB a b c d)) ∧ Below w.heap.size w w' := by
  unfold ovB
  have B0 := Lib.hid (((Below.refl _ w).alloc (Nat.le_refl _) (.cells #[.int .i64 a, .int .i64 b] 119)).alloc (by simp) (.cells #[.int .i64 c, .int .i64 d] 119))
  by_cases h1 : a < d
  · rw [decide_eq_true h1, Bool.true_and]
    go_enter Try.func131, Try.ntmps131
    go_wp2_with fail
    go_ret
    exact ⟨rfl, by first | exact B0.out | exact B0.out.drew⟩
  · rw [decide_eq_false h1, Bool.false_and]
    have h2 : decide (a < d) = false := decide_eq_false h1
    clear h1
    go_enter Try.func131, Try.ntmps131
    go_wp2_with fail
    go_ret
    exact ⟨rfl, by first | exact B0.out | exact B0.out.drew⟩

set_option maxRecDepth 100000 in
set_option maxHeartbeats 4000000 in
theorem spanIn_any (a b n : Int) (w : World) : Calls Try.prog 125 #[.agg #[.int .i64 a, .int .i64 b], .int .i64 n] w fun e w' => e = .returned (.bool (inB a b n)) ∧ Below w.heap.size w w' := by
  unfold inB
  have B0 := Lib.hid (below_one w (.cells #[.int .i64 a, .int .i64 b] 119))
  by_cases h1 : a ≤ n
  · rw [decide_eq_true h1, Bool.true_and]
    go_enter Try.func125, Try.ntmps125
    go_wp2_with fail
    go_ret
    exact ⟨rfl, by first | exact B0.out | exact B0.out.drew⟩
  · rw [decide_eq_false h1, Bool.false_and]
    have h2 : decide (a ≤ n) = false := decide_eq_false h1
    clear h1
    go_enter Try.func125, Try.ntmps125
    go_wp2_with fail
    go_ret
    exact ⟨rfl, by first | exact B0.out | exact B0.out.drew⟩

/-- What stays while a method of two stays runs. -/
def KeepM (w : World) (s s' : Sty) (W : World) : Prop := Below w.heap.size w W ∧ w.heap.size + 2 ≤ W.heap.size ∧ W.rangeAt w.heap.size 0 (svV s) ∧ W.rangeAt (w.heap.size + 1) 0 (svV s')
theorem KeepM.below {w W W' : World} {s s' : Sty} (h : KeepM w s s' W) (hb : Below W.heap.size W W') : KeepM w s s' W' :=
  ⟨h.1.trans (hb.mono h.1.size), Nat.le_trans h.2.1 hb.size, rangeAt_below h.2.2.1 hb (by have := h.2.1; omega), rangeAt_below h.2.2.2 hb (by have := h.2.1; omega)⟩
theorem KeepM.start (w : World) (s s' : Sty) (t t' : TypeId) : KeepM w s s' ((w.alloc (.cells (svV s).toArray t)).alloc (.cells (svV s').toArray t')) := by
  have hb : Below (w.heap.size + 1) (w.alloc (.cells (svV s).toArray t)) ((w.alloc (.cells (svV s).toArray t)).alloc (.cells (svV s').toArray t')) := (below_one _ _).mono (by simp)
  refine ⟨(below_one w _).trans (hb.mono (by omega)), by simp, rangeAt_below (rangeAt_new (last_alloc w _)) hb (by omega), ?_⟩
  have := rangeAt_new (last_alloc (w.alloc (.cells (svV s).toArray t)) (.cells (svV s').toArray t'))
  simpa using this
theorem KeepM.drew {w W : World} {s s' : Sty} (h : KeepM w s s' W) : KeepM w s s' W.drew := h.below (Below.refl _ _).drew

theorem KeepM.fst {w W : World} {s s' : Sty} (h : KeepM w s s' W) : W.rangeAt w.heap.size 0 (svV s) := h.2.2.1
theorem KeepM.snd {w W : World} {s s' : Sty} (h : KeepM w s s' W) : W.rangeAt (w.heap.size + 1) 0 (svV s') := h.2.2.2
/-- The numbers of a stay are small. -/
def smS (s : Sty) : Prop := (0 ≤ s.2.1.1 ∧ s.2.1.1 ≤ 2000) ∧ (0 ≤ s.2.1.2.1 ∧ s.2.1.2.1 ≤ 2000) ∧ (0 ≤ s.2.1.2.2.1 ∧ s.2.1.2.2.1 ≤ 2000) ∧ (0 ≤ s.2.2.1 ∧ s.2.2.1 ≤ 2000) ∧ (0 ≤ s.2.2.2 ∧ s.2.2.2 ≤ 2000)
theorem okSty.small {s : Sty} (h : okSty s) : smS s := by
  obtain ⟨h1, h2, h3, h4⟩ := h
  have := okShp_iff.1 h1
  unfold smS
  omega

set_option maxRecDepth 100000 in
set_option maxHeartbeats 8000000 in
theorem meets_any (s s' : Sty) (hs : smS s) (hs' : smS s') (w : World) : Calls Try.prog 146 #[stV s, stV s'] w fun e w' => e = .returned (.bool (!aptB s.2.1 s.2.2 s'.2.1 s'.2.2)) ∧ Below w.heap.size w w' := by
  unfold smS at hs hs'
  have HA1 := Lib.hid (fun W => sections_any s.1 s.2.1.1 s.2.1.2.1 s.2.1.2.2.1 s.2.1.2.2.2 s.2.2.1 s.2.2.2 (by omega) (by omega) W)
  have HA2 := Lib.hid (fun W => sections_any s'.1 s'.2.1.1 s'.2.1.2.1 s'.2.1.2.2.1 s'.2.1.2.2.2 s'.2.2.1 s'.2.2.2 (by omega) (by omega) W)
  have HB1 := Lib.hid (fun W => hours_any s.1 s.2.1.1 s.2.1.2.1 s.2.1.2.2.1 s.2.1.2.2.2 s.2.2.1 s.2.2.2 (by omega) (by omega) W)
  have HB2 := Lib.hid (fun W => hours_any s'.1 s'.2.1.1 s'.2.1.2.1 s'.2.1.2.2.1 s'.2.1.2.2.2 s'.2.2.1 s'.2.2.2 (by omega) (by omega) W)
  have HO1 := Lib.hid (fun W => overlaps_any s.2.2.1 (s.2.2.1 + s.2.1.1) s'.2.2.1 (s'.2.2.1 + s'.2.1.1) W)
  have HO2 := Lib.hid (fun W => overlaps_any s.2.2.2 (s.2.2.2 + s.2.1.2.2.1) s'.2.2.2 (s'.2.2.2 + s'.2.1.2.2.1) W)
  rw [← ov_apt]
  have HK := Lib.hid (KeepM.start w s s' 90 90)
  clear hs hs'
  generalize ovB s.2.2.1 (s.2.2.1 + s.2.1.1) s'.2.2.1 (s'.2.2.1 + s'.2.1.1) = o1 at *
  generalize ovB s.2.2.2 (s.2.2.2 + s.2.1.2.2.1) s'.2.2.2 (s'.2.2.2 + s'.2.1.2.2.1) = o2 at *
  have hkd := HK.out.drew
  go_enter Try.func146, Try.ntmps146
  go_wp2_with fail
  generalize hW : (w.alloc (.cells (svV s).toArray 90)).alloc (.cells (svV s').toArray 90) = W at *
  clear hW HK
  cases o1 with
  | true =>

    refine wp_region_held_drew (S := fun W' => KeepM w s s' W') (by kernel_rfl) ?_ (fun hHeld => ?_)
    · exact hkd
    refine (wpAnyH_take (i := 0) (v := ?_) rfl (by kernel_rfl) (by kernel_rfl) (by kernel_rfl) (fun _ _ _ h => h) (Or.inl ⟨by rfl, ?_⟩) (by assumption) ?_)
    rotate_left 1
    · (intro W hSw; refine (exec_load_mid 90 _ rfl _ _ rfl _ _ (KeepM.fst hSw) stayU rfl stayI).trans ?_; with_reducible rfl)
    try simp only [List.getElem_toArray, List.getElem_cons_zero, Act.put, List.setIfInBounds_toArray, List.set_cons_zero, List.set_cons_succ]
    refine (wpAnyH_take (i := 2) (v := ?_) rfl (by kernel_rfl) (by kernel_rfl) (by kernel_rfl) (fun _ _ _ h => h) (Or.inl ⟨by rfl, ?_⟩) (by assumption) ?_)
    rotate_left 1
    · (intro W hSw; refine (exec_load_mid 90 _ rfl _ _ rfl _ _ (KeepM.snd hSw) stayU rfl stayI).trans ?_; with_reducible rfl)
    try simp only [List.getElem_toArray, List.getElem_cons_zero, List.getElem_cons_succ, Act.put, List.setIfInBounds_toArray, List.set_cons_zero, List.set_cons_succ]
    refine wpAnyH_ready (rs := [1]) (by kernel_rfl) (by simp) ?_
    refine AllReadyH.cons rfl (fun K hK => ?_) ?_
    · go_simp
      go_at_call 124
      refine (HA1.out _).mono ?_
      rintro e w1 ⟨rfl, hb1⟩
      refine hK.out _ _ ?_ (fun hNew => ?_)
      · (try dsimp only); exact KeepM.below hHeld hb1
      clear hK K hHeld
      have hHeld := hNew
      clear hNew
      try simp only [List.getElem_toArray, List.getElem_cons_zero, List.getElem_cons_succ, Act.put, List.setIfInBounds_toArray, List.set_cons_zero, List.set_cons_succ]
      refine wpAnyH_ready (rs := [3]) (by kernel_rfl) (by simp) ?_
      refine AllReadyH.cons rfl (fun K hK => ?_) ?_
      · go_simp
        go_at_call 124
        refine (HA2.out _).mono ?_
        rintro e w2 ⟨rfl, hb2⟩
        refine hK.out _ _ ?_ (fun hNew => ?_)
        · (try dsimp only); exact KeepM.below hHeld hb2
        clear hK K hHeld
        have hHeld := hNew
        clear hNew
        try simp only [List.getElem_toArray, List.getElem_cons_zero, List.getElem_cons_succ, Act.put, List.setIfInBounds_toArray, List.set_cons_zero, List.set_cons_succ]
        refine wpAnyH_ready (rs := [4]) (by kernel_rfl) (by simp) ?_
        refine AllReadyH.cons rfl (fun K hK => ?_) ?_
        · go_simp
          go_at_call 131
          refine (HO1.out _).mono ?_
          rintro e w3 ⟨rfl, hb3⟩
          refine hK.out _ _ ?_ (fun hNew => ?_)
          · (try dsimp only); exact KeepM.below hHeld hb3
          clear hK K hHeld
          have hHeld := hNew
          clear hNew
          try simp only [List.getElem_toArray, List.getElem_cons_zero, List.getElem_cons_succ, Act.put, List.setIfInBounds_toArray, List.set_cons_zero, List.set_cons_succ]
          refine (wpAnyH_take (i := 5) (v := ?_) rfl (by kernel_rfl) (by kernel_rfl) (by kernel_rfl) (fun _ _ _ h => h) (Or.inl ⟨by rfl, ?_⟩) (by assumption) ?_)
          rotate_left 1
          · (intro w hSw; (try dsimp only at hSw); obtain ⟨x⟩ := hSw; (go_simp) <;> with_reducible rfl)
          try simp only [List.getElem_toArray, List.getElem_cons_zero, List.getElem_cons_succ, Act.put, List.setIfInBounds_toArray, List.set_cons_zero, List.set_cons_succ]
          refine (wpAnyH_take (i := 6) (v := ?_) rfl (by kernel_rfl) (by kernel_rfl) (by kernel_rfl) (fun _ _ _ h => h) (Or.inl ⟨by rfl, ?_⟩) (by assumption) ?_)
          rotate_left 1
          · (intro W hSw; refine (exec_load_mid 90 _ rfl _ _ rfl _ _ (KeepM.fst hSw) stayU rfl stayI).trans ?_; with_reducible rfl)
          try simp only [List.getElem_toArray, List.getElem_cons_zero, List.getElem_cons_succ, Act.put, List.setIfInBounds_toArray, List.set_cons_zero, List.set_cons_succ]
          refine (wpAnyH_take (i := 8) (v := ?_) rfl (by kernel_rfl) (by kernel_rfl) (by kernel_rfl) (fun _ _ _ h => h) (Or.inl ⟨by rfl, ?_⟩) (by assumption) ?_)
          rotate_left 1
          · (intro W hSw; refine (exec_load_mid 90 _ rfl _ _ rfl _ _ (KeepM.snd hSw) stayU rfl stayI).trans ?_; with_reducible rfl)
          try simp only [List.getElem_toArray, List.getElem_cons_zero, List.getElem_cons_succ, Act.put, List.setIfInBounds_toArray, List.set_cons_zero, List.set_cons_succ]
          refine wpAnyH_ready (rs := [7]) (by kernel_rfl) (by simp) ?_
          refine AllReadyH.cons rfl (fun K hK => ?_) ?_
          · go_simp
            go_at_call 88
            refine (HB1.out _).mono ?_
            rintro e w4 ⟨rfl, hb4⟩
            refine hK.out _ _ ?_ (fun hNew => ?_)
            · (try dsimp only); exact KeepM.below hHeld hb4
            clear hK K hHeld
            have hHeld := hNew
            clear hNew
            try simp only [List.getElem_toArray, List.getElem_cons_zero, List.getElem_cons_succ, Act.put, List.setIfInBounds_toArray, List.set_cons_zero, List.set_cons_succ]
            refine wpAnyH_ready (rs := [9]) (by kernel_rfl) (by simp) ?_
            refine AllReadyH.cons rfl (fun K hK => ?_) ?_
            · go_simp
              go_at_call 88
              refine (HB2.out _).mono ?_
              rintro e w5 ⟨rfl, hb5⟩
              refine hK.out _ _ ?_ (fun hNew => ?_)
              · (try dsimp only); exact KeepM.below hHeld hb5
              clear hK K hHeld
              have hHeld := hNew
              clear hNew
              try simp only [List.getElem_toArray, List.getElem_cons_zero, List.getElem_cons_succ, Act.put, List.setIfInBounds_toArray, List.set_cons_zero, List.set_cons_succ]
              refine wpAnyH_ready (rs := [10]) (by kernel_rfl) (by simp) ?_
              refine AllReadyH.cons rfl (fun K hK => ?_) ?_
              · go_simp
                go_at_call 131
                refine (HO2.out _).mono ?_
                rintro e w6 ⟨rfl, hb6⟩
                refine hK.out _ _ ?_ (fun hNew => ?_)
                · (try dsimp only); exact KeepM.below hHeld hb6
                clear hK K hHeld
                have hHeld := hNew
                clear hNew
                try simp only [List.getElem_toArray, List.getElem_cons_zero, List.getElem_cons_succ, Act.put, List.setIfInBounds_toArray, List.set_cons_zero, List.set_cons_succ]
                refine (wpAnyH_take (i := 11) (v := ?_) rfl (by kernel_rfl) (by kernel_rfl) (by kernel_rfl) (fun _ _ _ h => h) (Or.inl ⟨by rfl, ?_⟩) (by assumption) ?_)
                rotate_left 1
                · (intro w hSw; (try dsimp only at hSw); obtain ⟨x⟩ := hSw; (go_simp) <;> with_reducible rfl)
                try simp only [List.getElem_toArray, List.getElem_cons_zero, List.getElem_cons_succ, Act.put, List.setIfInBounds_toArray, List.set_cons_zero, List.set_cons_succ]
                refine (wpAnyH_take (i := 12) (v := ?_) rfl (by kernel_rfl) (by kernel_rfl) (by kernel_rfl) (fun _ _ _ h => h) (Or.inl ⟨by rfl, ?_⟩) (by assumption) ?_)
                rotate_left 1
                · (intro w hSw; (try dsimp only at hSw); obtain ⟨x⟩ := hSw; (go_simp) <;> with_reducible rfl)
                try simp only [List.getElem_toArray, List.getElem_cons_zero, List.getElem_cons_succ, Act.put, List.setIfInBounds_toArray, List.set_cons_zero, List.set_cons_succ]
                refine wpAnyH_done (by kernel_rfl) ?_ _
                go_wp2_with fail
                go_ret
                exact ⟨by first | rfl | simp, hHeld.1⟩
              exact AllReadyH.nil
            exact AllReadyH.nil
          exact AllReadyH.nil
        exact AllReadyH.nil
      exact AllReadyH.nil
    exact AllReadyH.nil
  | false =>
    refine wp_region_held_drew (S := fun W' => KeepM w s s' W') (by kernel_rfl) ?_ (fun hHeld => ?_)
    · exact hkd
    refine (wpAnyH_take (i := 0) (v := ?_) rfl (by kernel_rfl) (by kernel_rfl) (by kernel_rfl) (fun _ _ _ h => h) (Or.inl ⟨by rfl, ?_⟩) (by assumption) ?_)
    rotate_left 1
    · (intro W hSw; refine (exec_load_mid 90 _ rfl _ _ rfl _ _ (KeepM.fst hSw) stayU rfl stayI).trans ?_; with_reducible rfl)
    try simp only [List.getElem_toArray, List.getElem_cons_zero, Act.put, List.setIfInBounds_toArray, List.set_cons_zero, List.set_cons_succ]
    refine (wpAnyH_take (i := 2) (v := ?_) rfl (by kernel_rfl) (by kernel_rfl) (by kernel_rfl) (fun _ _ _ h => h) (Or.inl ⟨by rfl, ?_⟩) (by assumption) ?_)
    rotate_left 1
    · (intro W hSw; refine (exec_load_mid 90 _ rfl _ _ rfl _ _ (KeepM.snd hSw) stayU rfl stayI).trans ?_; with_reducible rfl)
    try simp only [List.getElem_toArray, List.getElem_cons_zero, List.getElem_cons_succ, Act.put, List.setIfInBounds_toArray, List.set_cons_zero, List.set_cons_succ]
    refine wpAnyH_ready (rs := [1]) (by kernel_rfl) (by simp) ?_
    refine AllReadyH.cons rfl (fun K hK => ?_) ?_
    · go_simp
      go_at_call 124
      refine (HA1.out _).mono ?_
      rintro e w1 ⟨rfl, hb1⟩
      refine hK.out _ _ ?_ (fun hNew => ?_)
      · (try dsimp only); exact KeepM.below hHeld hb1
      clear hK K hHeld
      have hHeld := hNew
      clear hNew
      try simp only [List.getElem_toArray, List.getElem_cons_zero, List.getElem_cons_succ, Act.put, List.setIfInBounds_toArray, List.set_cons_zero, List.set_cons_succ]
      refine wpAnyH_ready (rs := [3]) (by kernel_rfl) (by simp) ?_
      refine AllReadyH.cons rfl (fun K hK => ?_) ?_
      · go_simp
        go_at_call 124
        refine (HA2.out _).mono ?_
        rintro e w2 ⟨rfl, hb2⟩
        refine hK.out _ _ ?_ (fun hNew => ?_)
        · (try dsimp only); exact KeepM.below hHeld hb2
        clear hK K hHeld
        have hHeld := hNew
        clear hNew
        try simp only [List.getElem_toArray, List.getElem_cons_zero, List.getElem_cons_succ, Act.put, List.setIfInBounds_toArray, List.set_cons_zero, List.set_cons_succ]
        refine wpAnyH_ready (rs := [4]) (by kernel_rfl) (by simp) ?_
        refine AllReadyH.cons rfl (fun K hK => ?_) ?_
        · go_simp
          go_at_call 131
          refine (HO1.out _).mono ?_
          rintro e w3 ⟨rfl, hb3⟩
          refine hK.out _ _ ?_ (fun hNew => ?_)
          · (try dsimp only); exact KeepM.below hHeld hb3
          clear hK K hHeld
          have hHeld := hNew
          clear hNew
          try simp only [List.getElem_toArray, List.getElem_cons_zero, List.getElem_cons_succ, Act.put, List.setIfInBounds_toArray, List.set_cons_zero, List.set_cons_succ]
          refine (wpAnyH_take (i := 5) (v := ?_) rfl (by kernel_rfl) (by kernel_rfl) (by kernel_rfl) (fun _ _ _ h => h) (Or.inl ⟨by rfl, ?_⟩) (by assumption) ?_)
          rotate_left 1
          · (intro w hSw; (try dsimp only at hSw); obtain ⟨x⟩ := hSw; (go_simp) <;> with_reducible rfl)
          try simp only [List.getElem_toArray, List.getElem_cons_zero, List.getElem_cons_succ, Act.put, List.setIfInBounds_toArray, List.set_cons_zero, List.set_cons_succ]
          refine (wpAnyH_take (i := 6) (v := undef) rfl (by kernel_rfl) (by kernel_rfl) (by kernel_rfl) (fun _ _ _ h => h) (Or.inr ⟨by rfl, rfl⟩) (by assumption) ?_)
          try simp only [List.getElem_toArray, List.getElem_cons_zero, List.getElem_cons_succ, Act.put, List.setIfInBounds_toArray, List.set_cons_zero, List.set_cons_succ]
          refine (wpAnyH_take (i := 7) (v := undef) rfl (by kernel_rfl) (by kernel_rfl) (by kernel_rfl) (fun _ _ _ h => h) (Or.inr ⟨by rfl, rfl⟩) (by assumption) ?_)
          try simp only [List.getElem_toArray, List.getElem_cons_zero, List.getElem_cons_succ, Act.put, List.setIfInBounds_toArray, List.set_cons_zero, List.set_cons_succ]
          refine (wpAnyH_take (i := 8) (v := undef) rfl (by kernel_rfl) (by kernel_rfl) (by kernel_rfl) (fun _ _ _ h => h) (Or.inr ⟨by rfl, rfl⟩) (by assumption) ?_)
          try simp only [List.getElem_toArray, List.getElem_cons_zero, List.getElem_cons_succ, Act.put, List.setIfInBounds_toArray, List.set_cons_zero, List.set_cons_succ]
          refine (wpAnyH_take (i := 9) (v := undef) rfl (by kernel_rfl) (by kernel_rfl) (by kernel_rfl) (fun _ _ _ h => h) (Or.inr ⟨by rfl, rfl⟩) (by assumption) ?_)
          try simp only [List.getElem_toArray, List.getElem_cons_zero, List.getElem_cons_succ, Act.put, List.setIfInBounds_toArray, List.set_cons_zero, List.set_cons_succ]
          refine (wpAnyH_take (i := 10) (v := undef) rfl (by kernel_rfl) (by kernel_rfl) (by kernel_rfl) (fun _ _ _ h => h) (Or.inr ⟨by rfl, rfl⟩) (by assumption) ?_)
          try simp only [List.getElem_toArray, List.getElem_cons_zero, List.getElem_cons_succ, Act.put, List.setIfInBounds_toArray, List.set_cons_zero, List.set_cons_succ]
          refine (wpAnyH_take (i := 11) (v := ?_) rfl (by kernel_rfl) (by kernel_rfl) (by kernel_rfl) (fun _ _ _ h => h) (Or.inl ⟨by rfl, ?_⟩) (by assumption) ?_)
          rotate_left 1
          · (intro w hSw; (try dsimp only at hSw); obtain ⟨x⟩ := hSw; (go_simp) <;> with_reducible rfl)
          try simp only [List.getElem_toArray, List.getElem_cons_zero, List.getElem_cons_succ, Act.put, List.setIfInBounds_toArray, List.set_cons_zero, List.set_cons_succ]
          refine (wpAnyH_take (i := 12) (v := ?_) rfl (by kernel_rfl) (by kernel_rfl) (by kernel_rfl) (fun _ _ _ h => h) (Or.inl ⟨by rfl, ?_⟩) (by assumption) ?_)
          rotate_left 1
          · (intro w hSw; (try dsimp only at hSw); obtain ⟨x⟩ := hSw; (go_simp) <;> with_reducible rfl)
          try simp only [List.getElem_toArray, List.getElem_cons_zero, List.getElem_cons_succ, Act.put, List.setIfInBounds_toArray, List.set_cons_zero, List.set_cons_succ]
          refine wpAnyH_done (by kernel_rfl) ?_ _
          go_wp2_with fail
          go_ret
          exact ⟨by first | rfl | simp, hHeld.1⟩
        exact AllReadyH.nil
      exact AllReadyH.nil
    exact AllReadyH.nil
end Go.Proofs.Ytpljcpeghjplnaa
