/-
  Searching the program's stays; what they cost and cover. No statement of the seat by itself.
-/
import Derived.Test.YtpljcpeghjplnaaQSt
namespace Go.Proofs.Ytpljcpeghjplnaa
open Go.RowKit

/-- The first number below n with a property, or -1. -/
def fstQ (f : Nat → Bool) (n : Nat) : Int := match (List.range n).find? f with
  | some k => (k : Int)
  | none => -1
theorem fstQ_some {f : Nat → Bool} {n k : Nat} (hk : k < n) (h1 : f k = true) (h2 : ∀ j, j < k → f j = false) : fstQ f n = (k : Int) := by
  unfold fstQ
  rw [List.find?_range_eq_some.2 ⟨h1, by simpa using hk, fun j hj => by rw [h2 j hj]; rfl⟩]
theorem fstQ_none {f : Nat → Bool} {n : Nat} (h : ∀ j, j < n → f j = false) : fstQ f n = -1 := by
  unfold fstQ
  rw [List.find?_range_eq_none.2 fun j hj => by rw [h j hj]; rfl]
theorem fstQ_any (f : Nat → Bool) (n : Nat) : decide (0 ≤ fstQ f n) = (List.range n).any f := by
  unfold fstQ
  cases h : (List.range n).find? f with
  | none =>
    have := List.find?_eq_none.1 h
    rw [Bool.eq_iff_iff]
    simp only [List.any_eq_true]
    constructor
    · intro h2; simp at h2
    · rintro ⟨x, hx, hy⟩; exact absurd hy (this x hx)
  | some k =>
    have h1 := List.find?_some h
    have h2 := List.mem_of_find?_eq_some h
    rw [Bool.eq_iff_iff]
    simp only [List.any_eq_true]
    exact ⟨fun _ => ⟨k, h2, h1⟩, fun _ => by simp⟩

/-- A slice that reads as a list of stays. -/
def StL (w : World) (v : Value) (M : List Sty) : Prop := ∃ a c, v = .slice a M.length c ∧ (0 < M.length → ∃ g off, a = some ⟨g, off, none⟩ ∧ g < w.heap.size ∧ ∀ j s, M[j]? = some s → w.rangeAt g (off + j * 7) (svV s))
theorem StL.below {w w' : World} {v : Value} {M : List Sty} (h : StL w v M) (hb : Below w.heap.size w w') : StL w' v M := by
  obtain ⟨a, c, rfl, h⟩ := h
  refine ⟨a, c, rfl, fun h0 => ?_⟩
  obtain ⟨g, off, rfl, hg, hc⟩ := h h0
  exact ⟨g, off, rfl, Nat.lt_of_lt_of_le hg hb.size, fun j s hs => rangeAt_below (hc j s hs) hb hg⟩
theorem StL.form {w : World} {v : Value} {M : List Sty} (h : StL w v M) : ∃ a c, v = .slice a M.length c := by
  obtain ⟨a, c, rfl, _⟩ := h
  exact ⟨a, c, rfl⟩
theorem st_cells {w : World} {g o : Nat} {s : Sty} (h : w.rangeAt g o (svV s)) : w.cell? ⟨g, o, none⟩ = some (.int .i64 s.1) ∧ w.cell? ⟨g, o + 1, none⟩ = some (.int .i64 s.2.1.1) ∧ w.cell? ⟨g, o + 2, none⟩ = some (.int .i64 s.2.1.2.1) ∧ w.cell? ⟨g, o + 3, none⟩ = some (.int .i64 s.2.1.2.2.1) ∧ w.cell? ⟨g, o + 4, none⟩ = some (.int .i64 s.2.1.2.2.2) ∧ w.cell? ⟨g, o + 5, none⟩ = some (.int .i64 s.2.2.1) ∧ w.cell? ⟨g, o + 6, none⟩ = some (.int .i64 s.2.2.2) :=
  ⟨h 0 _ rfl, h 1 _ rfl, h 2 _ rfl, h 3 _ rfl, h 4 _ rfl, h 5 _ rfl, h 6 _ rfl⟩
/-- The stay at a place. -/
def zSt : Sty := (0, zS, zB)

theorem below3q {w W w' : World} (g : Below W.heap.size W w') (h : Below w.heap.size w W) : Below w.heap.size w w' := h.trans (g.mono h.size)

set_option maxRecDepth 100000 in
set_option maxHeartbeats 4000000 in
theorem ixMeet_any (x : Sty) (hx : smS x) (v : Value) (M : List Sty) (hl : M.length ≤ 1048576) (hok : ∀ s ∈ M, smS s) (w : World) (h : StL w v M) :
    Calls Try.prog 83 #[v, .func (.func 146) #[stV x] #[]] w fun e w' => e = .returned (.int .i64 (fstQ (fun j => (!aptB x.2.1 x.2.2 (M.getD j zSt).2.1 (M.getD j zSt).2.2)) M.length)) ∧ Below w.heap.size w w' := by
  obtain ⟨n, hn⟩ : ∃ n, M.length = n := ⟨_, rfl⟩
  have HN := Lib.hid hn
  have HOk := Lib.hid hok
  obtain ⟨a, c, rfl, hc⟩ := h
  have HC := Lib.hid hc
  rw [hn] at hl ⊢
  have HX := Lib.hid (fun (y : Sty) (hy : smS y) (W : World) (_ : Below w.heap.size w W) => meets_any x y hx hy W)
  clear hx
  have B0 := Lib.hid (Below.refl w.heap.size w)
  clear hc hn hok
  go_enter Try.func83, Try.ntmps83
  go_wp2_with fail
  go_loopw [8] (fun i wr => ∃ k : Nat, k ≤ n ∧ i = .int .i64 k ∧ Hid (∀ j, j < k → (!aptB x.2.1 x.2.2 (M.getD j zSt).2.1 (M.getD j zSt).2.2) = false) ∧ Hid (Below w.heap.size w wr)) (fun i _ => n - (intOf i).toNat)
  case atStart => exact ⟨0, Nat.zero_le _, rfl, Lib.hid fun j hj => by omega, B0⟩
  case round =>
    obtain ⟨k, hk, rfl, HK, HB⟩ := hrel
    by_cases hlt : k < n
    · obtain ⟨g, off, rfl, hg, hcc⟩ := HC.out (by have := HN.out; omega)
      obtain ⟨y, hy⟩ := get_at HN.out hlt
      obtain ⟨a0, a1, a2, a3, a4, a5, a6⟩ := st_cells (rangeAt_below (hcc k _ hy) HB.out hg)
      have HE := Lib.hid (HX.out y (HOk.out y (List.mem_of_getElem? hy)) wr HB.out)
      have HG : Hid (M.getD k zSt = y) := Lib.hid (by simp [List.getD, hy])
      have hki : (k : Int) < (n : Int) := by omega
      clear hcc hy hg
      cases hcl : (!aptB x.2.1 x.2.2 y.2.1 y.2.2) with
      | true =>
        rw [hcl] at HE
        have HF : Hid (fstQ (fun j => (!aptB x.2.1 x.2.2 (M.getD j zSt).2.1 (M.getD j zSt).2.2)) n = (k : Int)) := Lib.hid (fstQ_some hlt (by rw [HG.out]; exact hcl) HK.out)
        clear hcl
        go_wp2_with fail
        refine HE.out.mono ?_
        rintro e w1 ⟨rfl, hb⟩
        have HB2 := Lib.hid (below3q hb HB.out)
        clear hb a0 a1 a2 a3 a4 a5 a6
        go_wp2_with fail
        go_ret
        exact ⟨by rw [HF.out]; rfl, HB2.out⟩
      | false =>
        rw [hcl] at HE
        have HK2 : Hid (∀ j, j < k + 1 → (!aptB x.2.1 x.2.2 (M.getD j zSt).2.1 (M.getD j zSt).2.2) = false) := Lib.hid fun j hj => by
          by_cases e : j = k
          · subst e; rw [HG.out]; exact hcl
          · exact HK.out j (by omega)
        clear hcl
        go_wp2_with fail
        refine HE.out.mono ?_
        rintro e w1 ⟨rfl, hb⟩
        have HB2 := Lib.hid (below3q hb HB.out)
        clear hb a0 a1 a2 a3 a4 a5 a6
        go_wp2_with fail
        exact ⟨⟨k + 1, by omega, by go_num, HK2, HB2⟩, by simp [intOf]; omega⟩
    · obtain rfl : k = n := by omega
      have HF : Hid (fstQ (fun j => (!aptB x.2.1 x.2.2 (M.getD j zSt).2.1 (M.getD j zSt).2.2)) k = -1) := Lib.hid (fstQ_none HK.out)
      go_wp2_with fail
      go_ret
      exact ⟨by rw [HF.out]; rfl, HB.out⟩

theorem anyMeet (M : List Sty) (x : Sty) : (List.range M.length).any (fun j => !aptB x.2.1 x.2.2 (M.getD j zSt).2.1 (M.getD j zSt).2.2) = !freB M x.2.1 x.2.2 := by
  unfold freB
  rw [Bool.eq_iff_iff]
  simp only [List.any_eq_true, List.mem_range, Bool.not_eq_true', List.all_eq_false, Bool.not_eq_true]
  constructor
  · rintro ⟨j, hj, h⟩
    refine ⟨M.getD j zSt, ?_, h⟩
    rw [List.getD_eq_getElem?_getD, List.getElem?_eq_getElem hj]
    exact List.getElem_mem hj
  · rintro ⟨y, hy, h⟩
    obtain ⟨j, hj, rfl⟩ := List.getElem_of_mem hy
    exact ⟨j, hj, by rw [List.getD_eq_getElem?_getD, List.getElem?_eq_getElem hj]; exact h⟩

set_option maxRecDepth 100000 in
set_option maxHeartbeats 4000000 in
theorem containsMeet_any (x : Sty) (hx : smS x) (v : Value) (M : List Sty) (hl : M.length ≤ 1048576) (hok : ∀ s ∈ M, smS s) (w : World) (h : StL w v M) :
    Calls Try.prog 145 #[v, .func (.func 146) #[stV x] #[]] w (BoolP w (!freB M x.2.1 x.2.2)) := by
  have HI := Lib.hid (ixMeet_any x hx v M hl hok w h)
  obtain ⟨a, c, rfl⟩ := h.form
  rw [← anyMeet, ← fstQ_any]
  clear h hok hx
  generalize fstQ (fun j => !aptB x.2.1 x.2.2 (M.getD j zSt).2.1 (M.getD j zSt).2.2) M.length = r at *
  generalize M.length = n at *
  go_enter Try.func145, Try.ntmps145
  go_wp2_with fail
  refine HI.out.mono ?_
  rintro e w1 ⟨rfl, hb⟩
  have HB := Lib.hid hb
  clear hb
  go_wp2_with fail
  go_ret
  exact ⟨rfl, HB.out⟩

/-- What stays while a method of one stay runs. -/
def KeepO (w : World) (s : Sty) (W : World) : Prop := Below w.heap.size w W ∧ w.heap.size < W.heap.size ∧ W.rangeAt w.heap.size 0 (svV s)
theorem KeepO.below {w W W' : World} {s : Sty} (h : KeepO w s W) (hb : Below W.heap.size W W') : KeepO w s W' :=
  ⟨h.1.trans (hb.mono h.1.size), Nat.lt_of_lt_of_le h.2.1 hb.size, rangeAt_below h.2.2 hb h.2.1⟩
theorem KeepO.start (w : World) (s : Sty) (t : TypeId) : KeepO w s (w.alloc (.cells (svV s).toArray t)) :=
  ⟨below_one w _, by simp, rangeAt_new (last_alloc w _)⟩
theorem KeepO.cs {w W : World} {s : Sty} (h : KeepO w s W) : W.rangeAt w.heap.size 0 (svV s) := h.2.2
theorem KeepO.drew {w W : World} {s : Sty} (h : KeepO w s W) : KeepO w s W.drew := h.below (Below.refl _ _).drew

set_option maxRecDepth 100000 in
set_option maxHeartbeats 8000000 in
theorem costF_any (s : Sty) (hs : okSty s) (w : World) : Calls Try.prog 119 #[stV s] w fun e w' => e = .returned (.int .i64 (cosQ s)) ∧ Below w.heap.size w w' := by
  have hsm := hs.small
  have hcs := hs.cos
  have HW := Lib.hid (fun W => waitF_any s.1 s.2.1.1 s.2.1.2.1 s.2.1.2.2.1 s.2.1.2.2.2 s.2.2.1 s.2.2.2 (by unfold smS at hsm; omega) (by unfold smS at hsm; omega) W)
  have HC : Hid (IntKind.i64.wrap (s.2.1.2.2.2 * (s.2.2.2 - s.2.1.2.1)) = cosQ s) := Lib.hid (by
    have e : s.2.1.2.2.2 * (s.2.2.2 - s.2.1.2.1) = cosQ s := rfl
    rw [e, IntKind.wrap_i64]
    omega)
  have HK := Lib.hid (KeepO.start w s 90)
  clear hs hsm hcs
  have hkd := HK.out.drew
  go_enter Try.func119, Try.ntmps119
  go_wp2_with fail
  generalize hW : w.alloc (.cells (svV s).toArray 90) = W at *
  clear hW HK
  refine wp_region_held_drew (S := fun W' => KeepO w s W') (by kernel_rfl) ?_ (fun hHeld => ?_)
  · exact hkd
  refine (wpAnyH_take (i := 0) (v := ?_) rfl (by kernel_rfl) (by kernel_rfl) (by kernel_rfl) (fun _ _ _ h => h) (Or.inl ⟨by rfl, ?_⟩) (by assumption) ?_)
  rotate_left 1
  · (intro W hSw; clear hSw; (go_simp) <;> with_reducible rfl)
  try simp only [List.getElem_toArray, List.getElem_cons_zero, Act.put, List.setIfInBounds_toArray, List.set_cons_zero, List.set_cons_succ]
  refine (wpAnyH_take (i := 1) (v := ?_) rfl (by kernel_rfl) (by kernel_rfl) (by kernel_rfl) (fun _ _ _ h => h) (Or.inl ⟨by rfl, ?_⟩) (by assumption) ?_)
  rotate_left 1
  · (intro W hSw; clear hSw; (go_simp) <;> with_reducible rfl)
  try simp only [List.getElem_toArray, List.getElem_cons_zero, List.getElem_cons_succ, Act.put, List.setIfInBounds_toArray, List.set_cons_zero, List.set_cons_succ]
  refine (wpAnyH_take (i := 2) (v := ?_) rfl (by kernel_rfl) (by kernel_rfl) (by kernel_rfl) (fun _ _ _ h => h) (Or.inl ⟨by rfl, ?_⟩) (by assumption) ?_)
  rotate_left 1
  · (intro W hSw; obtain ⟨c0, c1, c2, c3, c4, c5, c6⟩ := st_cells (KeepO.cs hSw); clear hSw; (go_simp) <;> with_reducible rfl)
  try simp only [List.getElem_toArray, List.getElem_cons_zero, List.getElem_cons_succ, Act.put, List.setIfInBounds_toArray, List.set_cons_zero, List.set_cons_succ]
  refine (wpAnyH_take (i := 3) (v := ?_) rfl (by kernel_rfl) (by kernel_rfl) (by kernel_rfl) (fun _ _ _ h => h) (Or.inl ⟨by rfl, ?_⟩) (by assumption) ?_)
  rotate_left 1
  · (intro W hSw; refine (exec_load_mid 90 _ rfl _ _ rfl _ _ (KeepO.cs hSw) stayU rfl stayI).trans ?_; with_reducible rfl)
  try simp only [List.getElem_toArray, List.getElem_cons_zero, List.getElem_cons_succ, Act.put, List.setIfInBounds_toArray, List.set_cons_zero, List.set_cons_succ]
  refine wpAnyH_ready (rs := [4]) (by kernel_rfl) (by simp) ?_
  refine AllReadyH.cons rfl (fun K hK => ?_) ?_
  · go_simp
    go_at_call 80
    refine (HW.out _).mono ?_
    rintro e w1 ⟨rfl, hb1⟩
    refine hK.out _ _ ?_ (fun hNew => ?_)
    · (try dsimp only); exact KeepO.below hHeld hb1
    clear hK K hHeld
    have hHeld := hNew
    clear hNew
    try simp only [List.getElem_toArray, List.getElem_cons_zero, List.getElem_cons_succ, Act.put, List.setIfInBounds_toArray, List.set_cons_zero, List.set_cons_succ]
    refine (wpAnyH_take (i := 5) (v := ?_) rfl (by kernel_rfl) (by kernel_rfl) (by kernel_rfl) (fun _ _ _ h => h) (Or.inl ⟨by rfl, ?_⟩) (by assumption) ?_)
    rotate_left 1
    · (intro W hSw; clear hSw; (go_simp) <;> with_reducible rfl)
    try simp only [List.getElem_toArray, List.getElem_cons_zero, List.getElem_cons_succ, Act.put, List.setIfInBounds_toArray, List.set_cons_zero, List.set_cons_succ]
    refine (wpAnyH_take (i := 6) (v := ?_) rfl (by kernel_rfl) (by kernel_rfl) (by kernel_rfl) (fun _ _ _ h => h) (Or.inl ⟨by rfl, ?_⟩) (by assumption) ?_)
    rotate_left 1
    · (intro W hSw; clear hSw; (go_simp) <;> with_reducible rfl)
    try simp only [List.getElem_toArray, List.getElem_cons_zero, List.getElem_cons_succ, Act.put, List.setIfInBounds_toArray, List.set_cons_zero, List.set_cons_succ]
    refine wpAnyH_done (by kernel_rfl) ?_ _
    go_wp2_with fail
    go_ret
    exact ⟨by rw [← HC.out]; rfl, hHeld.1⟩
  exact AllReadyH.nil
end Go.Proofs.Ytpljcpeghjplnaa
