/-
  The program's mooring in memory, and a ship that is moored. No statement of the seat by itself.
-/
import Derived.Test.YtpljcpeghjplnaaQIx
import Derived.BigQuiet
import Derived.Deep.CutRange
namespace Go.Proofs.Ytpljcpeghjplnaa
open Go.RowKit

theorem below_drew_left {B : Nat} {a b : World} (h : Below B a.drew b) : Below B a b := ((Below.refl B a).drew).trans h
/-- A mooring at an offset of a block: its quay, its stays, 37 cells that may be written. -/
def MoC (w : World) (b off : Nat) (q : Int) (M : List Sty) : Prop :=
  w.cell? ⟨b, off, none⟩ = some (.int .i64 q) ∧ w.cell? ⟨b, off + 1, none⟩ = some (.int .i64 M.length) ∧ (∀ j s, M[j]? = some s → w.rangeAt b (off + 2 + j * 7) (svV s)) ∧
  (∀ j, j < 37 → ∃ i : Int, w.cell? ⟨b, off + j, none⟩ = some (.int .i64 i)) ∧ (∀ j, j < 37 → w.frozen? ⟨b, off + j, none⟩ = false) ∧ M.length ≤ 5
theorem MoC.block {w : World} {b off : Nat} {q : Int} {M : List Sty} (h : MoC w b off q M) : b < w.heap.size := World.block_lt_of_cell? w _ h.1
theorem MoC.below {w w' : World} {b off : Nat} {q : Int} {M : List Sty} (h : MoC w b off q M) (hb : Below w.heap.size w w') : MoC w' b off q M := by
  have hk := h.block
  obtain ⟨h1, h2, h3, h4, h5, h6⟩ := h
  refine ⟨(hb.cell (p := ⟨b, off, none⟩) hk).trans h1, (hb.cell (p := ⟨b, off + 1, none⟩) hk).trans h2, fun j s hs => rangeAt_below (h3 j s hs) hb hk, fun j hj => ?_, fun j hj => (hb.frozen (p := ⟨b, off + j, none⟩) hk).trans (h5 j hj), h6⟩
  obtain ⟨i, hi⟩ := h4 j hj
  exact ⟨i, (hb.cell (p := ⟨b, off + j, none⟩) hk).trans hi⟩
theorem MoC.stl {w : World} {b off : Nat} {q : Int} {M : List Sty} (h : MoC w b off q M) : StL w (.slice (some ⟨b, off + 2, none⟩) M.length 5) M :=
  ⟨_, _, rfl, fun _ => ⟨b, off + 2, rfl, h.block, fun j s hs => h.2.2.1 j s hs⟩⟩
theorem MoC.there {w : World} {b off : Nat} {q : Int} {M : List Sty} (h : MoC w b off q M) {o n : Nat} (ho : o + n ≤ 37) : w.there b (off + o) n := fun j hj => by
  obtain ⟨i, hi⟩ := h.2.2.2.1 (o + j) (by omega)
  rw [← Nat.add_assoc] at hi
  have := h.2.2.2.2.1 (o + j) (by omega)
  rw [← Nat.add_assoc] at this
  exact ⟨by rw [hi]; rfl, this⟩
/-- Outside of a mooring nothing has turned. -/
def MoF (w w' : World) (b off : Nat) : Prop := Span b (b + 1) w w' ∧ (∀ j, (j < off ∨ off + 37 ≤ j) → w'.cell? ⟨b, j, none⟩ = w.cell? ⟨b, j, none⟩) ∧ ∀ j, w'.frozen? ⟨b, j, none⟩ = w.frozen? ⟨b, j, none⟩
theorem MoF.refl (w : World) (b off : Nat) : MoF w w b off := ⟨Span.refl _ _ _, fun _ _ => rfl, fun _ => rfl⟩
theorem MoF.trans {a b' c : World} {b off : Nat} (h : MoF a b' b off) (k : MoF b' c b off) : MoF a c b off :=
  ⟨h.1.trans k.1, fun j hj => (k.2.1 j hj).trans (h.2.1 j hj), fun j => (k.2.2 j).trans (h.2.2 j)⟩
theorem MoF.of_below {w w' : World} {b off : Nat} (h : Below w.heap.size w w') (hb : b < w.heap.size) : MoF w w' b off :=
  ⟨Span.of_below h, fun j _ => h.cell (p := ⟨b, j, none⟩) hb, fun j => h.frozen (p := ⟨b, j, none⟩) hb⟩

theorem span_setCells (b : Nat) : ∀ (vs : List Value) (o : Nat) (w : World), Span b (b + 1) w (w.setCells b o vs)
  | [], _, w => Span.refl _ _ w
  | v :: r, o, w => by
    have h1 : Span b (b + 1) w (w.setCell ⟨b, o, none⟩ v) := ⟨rfl, rfl, rfl, by simp [World.setCell], fun k hk ho => Below.heap_setCell _ _ _ _ (by simp only; omega)⟩
    exact h1.trans (span_setCells b r (o + 1) _)

/-- A stay is put behind the others. -/
theorem MoC.push {w : World} {b off : Nat} {q : Int} {M : List Sty} {x : Sty} (h : MoC w b off q M) (hl : M.length ≤ 4) :
    MoC ((w.setCells b (off + 2 + M.length * 7) (svV x)).setCell ⟨b, off + 1, none⟩ (.int .i64 ((M.length : Int) + 1))) b off q (M ++ [x]) ∧
    MoF w ((w.setCells b (off + 2 + M.length * 7) (svV x)).setCell ⟨b, off + 1, none⟩ (.int .i64 ((M.length : Int) + 1))) b off := by
  have hth : w.there b (off + 2 + M.length * 7) 7 := by
    have := h.there (o := 2 + M.length * 7) (n := 7) (by omega)
    rwa [← Nat.add_assoc] at this
  obtain ⟨h1, h2, h3, h4, h5, h6⟩ := h
  have hin := fun j (hj : j < 7) => World.cell?_setCells_in b (svV x) (off + 2 + M.length * 7) w (fun i hi => (hth i hi).1) j hj
  have hout : ∀ j, (j < off + 2 + M.length * 7 ∨ off + 2 + M.length * 7 + 7 ≤ j) → (w.setCells b (off + 2 + M.length * 7) (svV x)).cell? ⟨b, j, none⟩ = w.cell? ⟨b, j, none⟩ := fun j hj =>
    World.cell?_setCells_out b (svV x) _ w ⟨b, j, none⟩ fun _ _ => hj
  have hf : ∀ j, (w.setCells b (off + 2 + M.length * 7) (svV x)).frozen? ⟨b, j, none⟩ = w.frozen? ⟨b, j, none⟩ := fun j => World.frozen?_setCells b _ _ _ _
  have h2' : (w.setCells b (off + 2 + M.length * 7) (svV x)).cell? ⟨b, off + 1, none⟩ = some (.int .i64 M.length) := (hout _ (by omega)).trans h2
  have hs := span_setCells b (svV x) (off + 2 + M.length * 7) w
  generalize w.setCells b (off + 2 + M.length * 7) (svV x) = W at *
  have hne : ∀ j, j ≠ off + 1 → (W.setCell ⟨b, off + 1, none⟩ (.int .i64 ((M.length : Int) + 1))).cell? ⟨b, j, none⟩ = W.cell? ⟨b, j, none⟩ := fun j hj =>
    World.cell?_setCell_other _ _ _ _ (by simp <;> omega)
  have hsame : (W.setCell ⟨b, off + 1, none⟩ (.int .i64 ((M.length : Int) + 1))).cell? ⟨b, off + 1, none⟩ = some (.int .i64 ((M.length : Int) + 1)) := World.cell?_setCell_same _ _ _ h2'
  have hfr : ∀ j, (W.setCell ⟨b, off + 1, none⟩ (.int .i64 ((M.length : Int) + 1))).frozen? ⟨b, j, none⟩ = w.frozen? ⟨b, j, none⟩ := fun j => by
    rw [← hf j]
    simp
  have hs2 : Span b (b + 1) W (W.setCell ⟨b, off + 1, none⟩ (.int .i64 ((M.length : Int) + 1))) := ⟨rfl, rfl, rfl, by simp [World.setCell], fun k hk ho => Below.heap_setCell _ _ _ _ (by simp only; omega)⟩
  refine ⟨⟨?_, ?_, ?_, ?_, ?_, by simp; omega⟩, hs.trans hs2, ?_, hfr⟩
  · rw [hne _ (by omega), hout _ (by omega)]; exact h1
  · rw [hsame]; simp
  · intro j s hs j2 v hv
    have hj2 : j2 < 7 := (List.getElem?_eq_some_iff.1 hv).1
    rw [hne _ (by omega)]
    rcases Nat.lt_or_ge j M.length with hj | hj
    · rw [List.getElem?_append_left hj] at hs
      rw [hout _ (by omega)]
      exact h3 j s hs j2 v hv
    · have hj3 : j = M.length := by
        have := (List.getElem?_eq_some_iff.1 hs).1
        simp at this
        omega
      subst hj3
      simp at hs
      subst hs
      rw [hin j2 hj2, ← hv, List.getElem?_eq_getElem hj2]
  · intro j hj
    by_cases e : j = 1
    · subst e; exact ⟨_, hsame⟩
    · rw [hne _ (by omega)]
      by_cases hr : off + j < off + 2 + M.length * 7 ∨ off + 2 + M.length * 7 + 7 ≤ off + j
      · rw [hout _ hr]; exact h4 j hj
      · obtain ⟨j2, rfl⟩ : ∃ j2, j = 2 + M.length * 7 + j2 := ⟨j - (2 + M.length * 7), by omega⟩
        have := hin j2 (by omega)
        rw [show off + (2 + M.length * 7 + j2) = off + 2 + M.length * 7 + j2 by omega, this]
        have hj2 : j2 < 7 := by omega
        rcases (by omega : j2 = 0 ∨ j2 = 1 ∨ j2 = 2 ∨ j2 = 3 ∨ j2 = 4 ∨ j2 = 5 ∨ j2 = 6) with e | e | e | e | e | e | e <;> subst e <;> exact ⟨_, rfl⟩
  · intro j hj
    rw [hfr]
    exact h5 j hj
  · intro j hj
    rw [hne _ (by omega), hout _ (by omega)]

set_option maxRecDepth 100000 in
set_option maxHeartbeats 4000000 in
theorem moored_any (b off : Nat) (q : Int) (M : List Sty) (w : World) (h : MoC w b off q M) :
    Calls Try.prog 79 #[.pointer (some ⟨b, off, none⟩)] w fun e w' => e = .returned (.slice (some ⟨b, off + 2, none⟩) M.length 5) ∧ Below w.heap.size w w' := by
  have hc := h.2.1
  have hl := h.2.2.2.2.2
  have B0 := Lib.hid (Below.refl w.heap.size w)
  clear h
  generalize M.length = n at *
  have hl2 : (n : Int) ≤ 5 := by omega
  have hl3 : (0 : Int) ≤ (n : Int) ∧ (n : Int) ≤ 5 := by omega
  go_enter Try.func79, Try.ntmps79
  go_wp2_with fail
  go_quiet (fail)
  go_wp2_with fail
  go_ret
  exact ⟨rfl, by first | exact below_drewN B0.out _ | exact B0.out⟩

set_option maxRecDepth 100000 in
set_option maxHeartbeats 8000000 in
theorem moor_out (b off : Nat) (q : Int) (M : List Sty) (x : Sty) (hq : isQ q = true) (hx : okShp x.2.1 = true) (w : World) (h : MoC w b off q M) (hf : fitB q x.2.1 x.2.2 = false) :
    Calls Try.prog 123 #[.pointer (some ⟨b, off, none⟩), stV x] w (BoolP w false) := by
  obtain ⟨i, ⟨l, a, hh, c⟩, p, t⟩ := x
  have hq2 := isQ_iff.1 hq
  have hx2 := okShp_iff.1 hx
  have hcq := h.1
  have hbl := h.block
  have HK := Lib.hid (KeepO.start w (i, (l, a, hh, c), (p, t)) 90)
  obtain ⟨k0, k1, k2, k3, k4, k5, k6⟩ := st_cells HK.out.cs
  have hcq2 : (w.alloc (.cells #[.int .i64 i, .int .i64 l, .int .i64 a, .int .i64 hh, .int .i64 c, .int .i64 p, .int .i64 t] 90)).cell? ⟨b, off, none⟩ = some (.int .i64 q) := (World.cell?_alloc_lt w _ ⟨b, off, none⟩ hbl).trans hcq
  simp only at k0 k1 k2 k3 k4 k5 k6 hx2
  have B0 := HK
  have hnf : ¬ ((0 ≤ p ∧ p ≤ q - l) ∧ a ≤ t ∧ t ≤ 1000) := fun g => by
    rw [fitB_iff.2 g] at hf
    cases hf
  clear h hf hq hx hcq
  by_cases c1 : p < 0
  case pos =>
    have d1 : decide (p < 0) = true := decide_eq_true c1
    clear hnf hx2 HK
    go_enter Try.func123, Try.ntmps123
    go_wp2_with fail
    go_quiet (fail)
    go_wp2_with fail
    go_ret
    exact ⟨rfl, by first | exact below_drewN B0.out.1 _ | exact B0.out.1⟩
  have d1 : decide (p < 0) = false := decide_eq_false c1
  by_cases c2 : q - l < p
  case pos =>
    have d2 : decide (q - l < p) = true := decide_eq_true c2
    clear hnf HK
    go_enter Try.func123, Try.ntmps123
    go_wp2_with fail
    go_quiet (fail)
    go_wp2_with fail
    go_ret
    exact ⟨rfl, by first | exact below_drewN B0.out.1 _ | exact B0.out.1⟩
  have d2 : decide (q - l < p) = false := decide_eq_false c2
  by_cases c3 : t < a
  case pos =>
    have d3 : decide (t < a) = true := decide_eq_true c3
    clear hnf HK
    go_enter Try.func123, Try.ntmps123
    go_wp2_with fail
    go_quiet (fail)
    go_wp2_with fail
    go_ret
    exact ⟨rfl, by first | exact below_drewN B0.out.1 _ | exact B0.out.1⟩
  have d3 : decide (t < a) = false := decide_eq_false c3
  have c4 : 1000 < t := by omega
  have d4 : decide (1000 < t) = true := decide_eq_true c4
  clear hnf HK
  go_enter Try.func123, Try.ntmps123
  go_wp2_with fail
  go_quiet (fail)
  go_wp2_with fail
  go_ret
  exact ⟨rfl, by first | exact below_drewN B0.out.1 _ | exact B0.out.1⟩

/-- What stays while a ship is moored. -/
def KeepR (w : World) (b off : Nat) (q : Int) (M : List Sty) (x : Sty) (W : World) : Prop := KeepO w x W ∧ MoC W b off q M
theorem KeepR.below {w W W' : World} {b off : Nat} {q : Int} {M : List Sty} {x : Sty} (h : KeepR w b off q M x W) (hb : Below W.heap.size W W') : KeepR w b off q M x W' := ⟨h.1.below hb, h.2.below hb⟩
theorem KeepR.start {w : World} {b off : Nat} {q : Int} {M : List Sty} (x : Sty) (h : MoC w b off q M) (t : TypeId) : KeepR w b off q M x (w.alloc (.cells (svV x).toArray t)) := ⟨KeepO.start w x t, h.below (below_one w _)⟩
theorem KeepR.drew {w W : World} {b off : Nat} {q : Int} {M : List Sty} {x : Sty} (h : KeepR w b off q M x W) : KeepR w b off q M x W.drew := h.below (Below.refl _ _).drew
theorem KeepR.cs {w W : World} {b off : Nat} {q : Int} {M : List Sty} {x : Sty} (h : KeepR w b off q M x W) : W.rangeAt w.heap.size 0 (svV x) := h.1.2.2

theorem KeepR.mo {w W : World} {b off : Nat} {q : Int} {M : List Sty} {x : Sty} (h : KeepR w b off q M x W) : MoC W b off q M := h.2

theorem MoC.dr {w : World} {b off : Nat} {q : Int} {M : List Sty} (h : MoC w b off q M) : MoC w.drew b off q M := h.below (Below.refl _ _).drew
theorem MoC.thereQ {w : World} {b off : Nat} {q : Int} {M : List Sty} (h : MoC w b off q M) (hl : M.length ≤ 4) : w.there b (off + 2 + M.length * 7) 7 := by
  have := h.there (o := 2 + M.length * 7) (n := 7) (by omega)
  rwa [← Nat.add_assoc] at this
theorem _root_.Go.World.rangeAt.dr {w : World} {b o : Nat} {cs : List Value} (h : w.rangeAt b o cs) : w.drew.rangeAt b o cs := h

set_option maxRecDepth 100000 in
set_option maxHeartbeats 8000000 in
theorem moor_search (b off : Nat) (q : Int) (M : List Sty) (x : Sty) (hq : isQ q = true) (hx : okShp x.2.1 = true) (hM : ∀ s ∈ M, okSty s) (w : World) (h : MoC w b off q M) (hf : fitB q x.2.1 x.2.2 = true) (hr : freB M x.2.1 x.2.2 = false) :
    Calls Try.prog 123 #[.pointer (some ⟨b, off, none⟩), stV x] w (BoolP w false) := by
  obtain ⟨i, ⟨l, a, hh, c⟩, p, t⟩ := x
  have hq2 := isQ_iff.1 hq
  have hx2 := okShp_iff.1 hx
  have hcq := h.1
  have hbl := h.block
  have HK := Lib.hid (KeepO.start w (i, (l, a, hh, c), (p, t)) 90)
  obtain ⟨k0, k1, k2, k3, k4, k5, k6⟩ := st_cells HK.out.cs
  have hcq2 : (w.alloc (.cells #[.int .i64 i, .int .i64 l, .int .i64 a, .int .i64 hh, .int .i64 c, .int .i64 p, .int .i64 t] 90)).cell? ⟨b, off, none⟩ = some (.int .i64 q) := (World.cell?_alloc_lt w _ ⟨b, off, none⟩ hbl).trans hcq
  simp only at k0 k1 k2 k3 k4 k5 k6 hx2
  have hfi := fitB_iff.1 hf
  simp only at hfi
  have HC := Lib.hid (fun W (hW : MoC W b off q M) => containsMeet_any (i, (l, a, hh, c), (p, t)) (okSty_of (M := []) hq hx (by rw [canB, hf]; rfl)).small _ M (by have := h.2.2.2.2.2; omega) (fun s hs => (hM s hs).small) W hW.stl)
  rw [hr] at HC
  have HR := Lib.hid (KeepR.start (i, (l, a, hh, c), (p, t)) h 90)
  have d1 : decide (p < 0) = false := by simp; omega
  have d2 : decide (q - l < p) = false := by simp; omega
  have d3 : decide (t < a) = false := by simp; omega
  have d4 : decide (1000 < t) = false := by simp; omega
  clear h hf hq hx hcq hM hr hfi HK hbl
  go_enter Try.func123, Try.ntmps123
  go_wp2_with fail
  go_quiet (fail)
  go_wp2_with fail
  rename Nat => nq
  have hkd := Lib.hid (HR.out.below (below_drewN (Below.refl _ _) nq))
  have hkd2 := hkd.out.drew

  refine wp_region_held_drew (S := fun W' => KeepR w b off q M (i, (l, a, hh, c), (p, t)) W') (by kernel_rfl) ?_ (fun hHeld => ?_)
  · exact hkd2
  refine (wpAnyH_take (i := 0) (v := ?_) rfl (by kernel_rfl) (by kernel_rfl) (by kernel_rfl) (fun _ _ _ h => h) (Or.inl ⟨by rfl, ?_⟩) (by assumption) ?_)
  rotate_left 1
  · (intro W hSw; clear hSw; (go_simp) <;> with_reducible rfl)
  try simp only [List.getElem_toArray, List.getElem_cons_zero, Act.put, List.setIfInBounds_toArray, List.set_cons_zero, List.set_cons_succ]
  refine (wpAnyH_take (i := 2) (v := ?_) rfl (by kernel_rfl) (by kernel_rfl) (by kernel_rfl) (fun _ _ _ h => h) (Or.inl ⟨by rfl, ?_⟩) (by assumption) ?_)
  rotate_left 1
  · (intro W hSw; refine (exec_load_mid 90 _ rfl _ _ rfl _ _ (KeepR.cs hSw) stayU rfl stayI).trans ?_; with_reducible rfl)
  try simp only [List.getElem_toArray, List.getElem_cons_zero, List.getElem_cons_succ, Act.put, List.setIfInBounds_toArray, List.set_cons_zero, List.set_cons_succ]
  refine (wpAnyH_take (i := 3) (v := ?_) rfl (by kernel_rfl) (by kernel_rfl) (by kernel_rfl) (fun _ _ _ h => h) (Or.inl ⟨by rfl, ?_⟩) (by assumption) ?_)
  rotate_left 1
  · (intro W hSw; clear hSw; (go_simp) <;> with_reducible rfl)
  try simp only [List.getElem_toArray, List.getElem_cons_zero, List.getElem_cons_succ, Act.put, List.setIfInBounds_toArray, List.set_cons_zero, List.set_cons_succ]
  refine wpAnyH_ready (rs := [1]) (by kernel_rfl) (by simp) ?_
  refine AllReadyH.cons rfl (fun K hK => ?_) ?_
  · go_simp
    go_at_call 79
    refine (moored_any b off q M _ (KeepR.mo hHeld)).mono ?_
    rintro e w1 ⟨rfl, hb1⟩
    refine hK.out _ _ ?_ (fun hNew => ?_)
    · (try dsimp only); exact KeepR.below hHeld hb1
    clear hK K hHeld
    have hHeld := hNew
    clear hNew
    try simp only [List.getElem_toArray, List.getElem_cons_zero, List.getElem_cons_succ, Act.put, List.setIfInBounds_toArray, List.set_cons_zero, List.set_cons_succ]
    refine wpAnyH_ready (rs := [4]) (by kernel_rfl) (by simp) ?_
    refine AllReadyH.cons rfl (fun K hK => ?_) ?_
    · go_simp
      go_at_call 145
      refine (HC.out _ (KeepR.mo hHeld)).mono ?_
      rintro e w2 ⟨rfl, hb2⟩
      refine hK.out _ _ ?_ (fun hNew => ?_)
      · (try dsimp only); exact KeepR.below hHeld hb2
      clear hK K hHeld
      have hHeld := hNew
      clear hNew
      try simp only [List.getElem_toArray, List.getElem_cons_zero, List.getElem_cons_succ, Act.put, List.setIfInBounds_toArray, List.set_cons_zero, List.set_cons_succ]
      refine wpAnyH_done (by kernel_rfl) ?_ _
      go_wp2_with fail
      go_ret
      exact ⟨rfl, hHeld.1.1⟩
    exact AllReadyH.nil
  exact AllReadyH.nil
set_option maxRecDepth 100000 in
set_option maxHeartbeats 8000000 in
theorem moor_yes (b off : Nat) (q : Int) (M : List Sty) (x : Sty) (hq : isQ q = true) (hx : okShp x.2.1 = true) (hM : ∀ s ∈ M, okSty s) (w : World) (h : MoC w b off q M) (hf : fitB q x.2.1 x.2.2 = true) (hr : freB M x.2.1 x.2.2 = true) (hl : M.length ≤ 4) :
    Calls Try.prog 123 #[.pointer (some ⟨b, off, none⟩), stV x] w fun e w' => e = .returned (.bool true) ∧ MoC w' b off q (M ++ [x]) ∧ MoF w w' b off := by
  obtain ⟨i, ⟨l, a, hh, c⟩, p, t⟩ := x
  have hq2 := isQ_iff.1 hq
  have hx2 := okShp_iff.1 hx
  have hcq := h.1
  have hbl := h.block
  have HK := Lib.hid (KeepO.start w (i, (l, a, hh, c), (p, t)) 90)
  obtain ⟨k0, k1, k2, k3, k4, k5, k6⟩ := st_cells HK.out.cs
  have hcq2 : (w.alloc (.cells #[.int .i64 i, .int .i64 l, .int .i64 a, .int .i64 hh, .int .i64 c, .int .i64 p, .int .i64 t] 90)).cell? ⟨b, off, none⟩ = some (.int .i64 q) := (World.cell?_alloc_lt w _ ⟨b, off, none⟩ hbl).trans hcq
  simp only at k0 k1 k2 k3 k4 k5 k6 hx2
  have hfi := fitB_iff.1 hf
  simp only at hfi
  have HC := Lib.hid (fun W (hW : MoC W b off q M) => containsMeet_any (i, (l, a, hh, c), (p, t)) (okSty_of (M := []) hq hx (by rw [canB, hf]; rfl)).small _ M (by have := h.2.2.2.2.2; omega) (fun s hs => (hM s hs).small) W hW.stl)
  rw [hr] at HC
  have HR := Lib.hid (KeepR.start (i, (l, a, hh, c), (p, t)) h 90)
  have hl5 : M.length < 5 := by omega
  have hl6 : (M.length : Int) < 5 := by omega
  have hbn : b ≠ w.heap.size := by omega
  have HBL := Lib.hid hbl
  have d1 : decide (p < 0) = false := by simp; omega
  have d2 : decide (q - l < p) = false := by simp; omega
  have d3 : decide (t < a) = false := by simp; omega
  have d4 : decide (1000 < t) = false := by simp; omega
  clear h hf hq hx hcq hM hr hfi HK hbl
  go_enter Try.func123, Try.ntmps123
  go_wp2_with fail
  go_quiet (fail)
  go_wp2_with fail
  rename Nat => nq
  have hkd := Lib.hid (HR.out.below (below_drewN (Below.refl _ _) nq))
  have hkd2 := hkd.out.drew

  refine wp_region_held_drew (S := fun W' => KeepR w b off q M (i, (l, a, hh, c), (p, t)) W') (by kernel_rfl) ?_ (fun hHeld => ?_)
  · exact hkd2
  refine (wpAnyH_take (i := 0) (v := ?_) rfl (by kernel_rfl) (by kernel_rfl) (by kernel_rfl) (fun _ _ _ h => h) (Or.inl ⟨by rfl, ?_⟩) (by assumption) ?_)
  rotate_left 1
  · (intro W hSw; clear hSw; (go_simp) <;> with_reducible rfl)
  try simp only [List.getElem_toArray, List.getElem_cons_zero, Act.put, List.setIfInBounds_toArray, List.set_cons_zero, List.set_cons_succ]
  refine (wpAnyH_take (i := 2) (v := ?_) rfl (by kernel_rfl) (by kernel_rfl) (by kernel_rfl) (fun _ _ _ h => h) (Or.inl ⟨by rfl, ?_⟩) (by assumption) ?_)
  rotate_left 1
  · (intro W hSw; refine (exec_load_mid 90 _ rfl _ _ rfl _ _ (KeepR.cs hSw) stayU rfl stayI).trans ?_; with_reducible rfl)
  try simp only [List.getElem_toArray, List.getElem_cons_zero, List.getElem_cons_succ, Act.put, List.setIfInBounds_toArray, List.set_cons_zero, List.set_cons_succ]
  refine (wpAnyH_take (i := 3) (v := ?_) rfl (by kernel_rfl) (by kernel_rfl) (by kernel_rfl) (fun _ _ _ h => h) (Or.inl ⟨by rfl, ?_⟩) (by assumption) ?_)
  rotate_left 1
  · (intro W hSw; clear hSw; (go_simp) <;> with_reducible rfl)
  try simp only [List.getElem_toArray, List.getElem_cons_zero, List.getElem_cons_succ, Act.put, List.setIfInBounds_toArray, List.set_cons_zero, List.set_cons_succ]
  refine wpAnyH_ready (rs := [1]) (by kernel_rfl) (by simp) ?_
  refine AllReadyH.cons rfl (fun K hK => ?_) ?_
  · go_simp
    go_at_call 79
    refine (moored_any b off q M _ (KeepR.mo hHeld)).mono ?_
    rintro e w1 ⟨rfl, hb1⟩
    refine hK.out _ _ ?_ (fun hNew => ?_)
    · (try dsimp only); exact KeepR.below hHeld hb1
    clear hK K hHeld
    have hHeld := hNew
    clear hNew
    try simp only [List.getElem_toArray, List.getElem_cons_zero, List.getElem_cons_succ, Act.put, List.setIfInBounds_toArray, List.set_cons_zero, List.set_cons_succ]
    refine wpAnyH_ready (rs := [4]) (by kernel_rfl) (by simp) ?_
    refine AllReadyH.cons rfl (fun K hK => ?_) ?_
    · go_simp
      go_at_call 145
      refine (HC.out _ (KeepR.mo hHeld)).mono ?_
      rintro e w2 ⟨rfl, hb2⟩
      refine hK.out _ _ ?_ (fun hNew => ?_)
      · (try dsimp only); exact KeepR.below hHeld hb2
      clear hK K hHeld
      have hHeld := hNew
      clear hNew
      try simp only [List.getElem_toArray, List.getElem_cons_zero, List.getElem_cons_succ, Act.put, List.setIfInBounds_toArray, List.set_cons_zero, List.set_cons_succ]
      refine wpAnyH_done (by kernel_rfl) ?_ _
      have HM6 := Lib.hid (KeepR.mo hHeld).dr
      have HBw := Lib.hid ((And.left hHeld).1.drew)
      have hst := And.intro HM6.out.2.1 (World.rangeAt.dr (KeepR.cs hHeld))
      have HTh := Lib.hid (HM6.out.thereQ hl)
      clear hHeld hb1 hb2
      go_wp2_with fail
      refine wp_region_held_drew (S := fun W' => W'.cell? ⟨b, off + 1, none⟩ = some (.int .i64 M.length) ∧ W'.rangeAt w.heap.size 0 (svV (i, (l, a, hh, c), (p, t)))) (by kernel_rfl) ?_ (fun hHeld => ?_)
      · exact hst
      refine (wpAnyH_take (i := 0) (v := ?_) rfl (by kernel_rfl) (by kernel_rfl) (by kernel_rfl) (fun _ _ _ h => h) (Or.inl ⟨by rfl, ?_⟩) (by assumption) ?_)
      rotate_left 1
      · (intro W hSw; clear hSw; (go_simp) <;> with_reducible rfl)
      try simp only [List.getElem_toArray, List.getElem_cons_zero, Act.put, List.setIfInBounds_toArray, List.set_cons_zero, List.set_cons_succ]
      refine (wpAnyH_take (i := 1) (v := ?_) rfl (by kernel_rfl) (by kernel_rfl) (by kernel_rfl) (fun _ _ _ h => h) (Or.inl ⟨by rfl, ?_⟩) (by assumption) ?_)
      rotate_left 1
      · (intro W hSw; clear hSw; (go_simp) <;> with_reducible rfl)
      try simp only [List.getElem_toArray, List.getElem_cons_zero, List.getElem_cons_succ, Act.put, List.setIfInBounds_toArray, List.set_cons_zero, List.set_cons_succ]
      refine (wpAnyH_take (i := 2) (v := ?_) rfl (by kernel_rfl) (by kernel_rfl) (by kernel_rfl) (fun _ _ _ h => h) (Or.inl ⟨by rfl, ?_⟩) (by assumption) ?_)
      rotate_left 1
      · (intro W hSw; clear hSw; (go_simp) <;> with_reducible rfl)
      try simp only [List.getElem_toArray, List.getElem_cons_zero, List.getElem_cons_succ, Act.put, List.setIfInBounds_toArray, List.set_cons_zero, List.set_cons_succ]
      refine (wpAnyH_take (i := 3) (v := ?_) rfl (by kernel_rfl) (by kernel_rfl) (by kernel_rfl) (fun _ _ _ h => h) (Or.inl ⟨by rfl, ?_⟩) (by assumption) ?_)
      rotate_left 1
      · (intro W hSw; clear hSw; (go_simp) <;> with_reducible rfl)
      try simp only [List.getElem_toArray, List.getElem_cons_zero, List.getElem_cons_succ, Act.put, List.setIfInBounds_toArray, List.set_cons_zero, List.set_cons_succ]
      refine (wpAnyH_take (i := 4) (v := ?_) rfl (by kernel_rfl) (by kernel_rfl) (by kernel_rfl) (fun _ _ _ h => h) (Or.inl ⟨by rfl, ?_⟩) (by assumption) ?_)
      rotate_left 1
      · (intro W hSw; (try dsimp only at hSw); obtain ⟨c0, -⟩ := hSw; (go_simp) <;> with_reducible rfl)
      try simp only [List.getElem_toArray, List.getElem_cons_zero, List.getElem_cons_succ, Act.put, List.setIfInBounds_toArray, List.set_cons_zero, List.set_cons_succ]
      refine (wpAnyH_take (i := 5) (v := ?_) rfl (by kernel_rfl) (by kernel_rfl) (by kernel_rfl) (fun _ _ _ h => h) (Or.inl ⟨by rfl, ?_⟩) (by assumption) ?_)
      rotate_left 1
      · (intro W hSw; refine (exec_load_mid 90 _ rfl _ _ rfl _ _ (And.right hSw) stayU rfl stayI).trans ?_; with_reducible rfl)
      try simp only [List.getElem_toArray, List.getElem_cons_zero, List.getElem_cons_succ, Act.put, List.setIfInBounds_toArray, List.set_cons_zero, List.set_cons_succ]
      refine (wpAnyH_take (i := 6) (v := ?_) rfl (by kernel_rfl) (by kernel_rfl) (by kernel_rfl) (fun _ _ _ h => h) (Or.inl ⟨by rfl, ?_⟩) (by assumption) ?_)
      rotate_left 1
      · (intro W hSw; clear hSw; (go_simp) <;> with_reducible rfl)
      try simp only [List.getElem_toArray, List.getElem_cons_zero, List.getElem_cons_succ, Act.put, List.setIfInBounds_toArray, List.set_cons_zero, List.set_cons_succ]
      refine (wpAnyH_take (i := 7) (v := ?_) rfl (by kernel_rfl) (by kernel_rfl) (by kernel_rfl) (fun _ _ _ h => h) (Or.inl ⟨by rfl, ?_⟩) (by assumption) ?_)
      rotate_left 1
      · (intro W hSw; clear hSw; (go_simp) <;> with_reducible rfl)
      try simp only [List.getElem_toArray, List.getElem_cons_zero, List.getElem_cons_succ, Act.put, List.setIfInBounds_toArray, List.set_cons_zero, List.set_cons_succ]
      refine (wpAnyH_take (i := 8) (v := ?_) rfl (by kernel_rfl) (by kernel_rfl) (by kernel_rfl) (fun _ _ _ h => h) (Or.inl ⟨by rfl, ?_⟩) (by assumption) ?_)
      rotate_left 1
      · (intro W hSw; clear hSw; (go_simp) <;> with_reducible rfl)
      try simp only [List.getElem_toArray, List.getElem_cons_zero, List.getElem_cons_succ, Act.put, List.setIfInBounds_toArray, List.set_cons_zero, List.set_cons_succ]
      refine wpAnyH_ready (rs := [9]) (by kernel_rfl) (by simp) ?_
      refine AllReadyH.cons rfl (fun K hK => ?_) ?_
      · rw [if_pos (by rfl)]
        refine wp_store_mid 90 _ _ rfl b (off + 2 + M.length * 7) _ rfl rfl HTh.out stayI (by simp [Value.oneCell']) ?_
        refine hK.out _ _ ?_ (fun hNew => ?_)
        · (try dsimp only); exact ⟨(World.cell?_setCells_out b _ _ _ ⟨b, off + 1, none⟩ (fun _ _ => Or.inl (by simp only; omega))).trans (And.left hHeld), World.rangeAt_setCells_apart (And.right hHeld) b _ _ (Or.inl (Ne.symm hbn))⟩
        clear hK K hHeld
        have hHeld := hNew
        clear hNew
        try simp only [List.getElem_toArray, List.getElem_cons_zero, List.getElem_cons_succ, Act.put]
        refine wpAnyH_done (by kernel_rfl) ?_ _
        have hPu : MoC ((w2.drew.setCells b (off + 2 + M.length * 7) (svV (i, (l, a, hh, c), (p, t))).toArray.toList).setCell ⟨b, off + 1, none⟩ (.int .i64 ((M.length : Int) + 1))) b off q (M ++ [(i, (l, a, hh, c), (p, t))]) ∧ MoF w2.drew ((w2.drew.setCells b (off + 2 + M.length * 7) (svV (i, (l, a, hh, c), (p, t))).toArray.toList).setCell ⟨b, off + 1, none⟩ (.int .i64 ((M.length : Int) + 1))) b off := MoC.push (x := (i, (l, a, hh, c), (p, t))) HM6.out hl
        have hcn : (w2.drew.setCells b (off + 2 + M.length * 7) (svV (i, (l, a, hh, c), (p, t))).toArray.toList).cell? ⟨b, off + 1, none⟩ = some (.int .i64 M.length) := And.left hHeld
        have hfn : (w2.drew.setCells b (off + 2 + M.length * 7) (svV (i, (l, a, hh, c), (p, t))).toArray.toList).frozen? ⟨b, off + 1, none⟩ = false := by rw [World.frozen?_setCells]; exact HM6.out.2.2.2.2.1 1 (by omega)
        have HPu := Lib.hid hPu
        have HF := Lib.hid (MoF.trans (MoF.of_below HBw.out HBL.out) hPu.2)
        clear hPu hHeld
        generalize (w2.drew.setCells b (off + 2 + M.length * 7) (svV (i, (l, a, hh, c), (p, t))).toArray.toList) = W8 at *
        go_wp2_with fail
        go_ret
        exact ⟨rfl, HPu.out.1, HF.out⟩
      exact AllReadyH.nil
    exact AllReadyH.nil
  exact AllReadyH.nil
end Go.Proofs.Ytpljcpeghjplnaa
