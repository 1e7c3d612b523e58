/-
  What the two SplitManifest functions return. No statement of the seat by itself.
-/
import Derived.Test.YtpmaaflpknjbmaaCHeldC
namespace Go.Proofs.Ytpmaaflpknjbmaa.C
open Go.RowKit

/-- Those of the first k containers with a port, and the other ones. -/
def pickL (f : Nat → Cont) (p : Int) : Nat → List Cont
  | 0 => []
  | k + 1 => if (f k).port = p then pickL f p k ++ [f k] else pickL f p k
def restL (f : Nat → Cont) (p : Int) : Nat → List Cont
  | 0 => []
  | k + 1 => if (f k).port = p then restL f p k else restL f p k ++ [f k]
theorem pickL_len (f : Nat → Cont) (p : Int) : ∀ k, (pickL f p k).length + (restL f p k).length = k
  | 0 => rfl
  | k + 1 => by
    have := pickL_len f p k
    rw [pickL, restL]
    split
    · simp; omega
    · simp; omega
/-- Two lists of the call's own were answered, and nothing older turned. -/
def SplitPost (w : World) (l1 l2 : List Cont) (ok : Bool) (e : Ending) (W' : World) : Prop := ∃ v1 v2, e = .returned (.tuple #[v1, v2, .bool ok]) ∧ Two w W' v1 v2 l1 l2

set_option maxRecDepth 100000 in
set_option maxHeartbeats 1000000 in
theorem specSplit_no (g n c : Nat) (f : Nat → Cont) (p : Int) (hn : n ≤ 1048576) (hid : ∀ j, j < n → (f j).id.size ≤ 1048576) (w : World) (h : CAt w g 0 n f) (hL : listB n f = false ∨ ¬ (1 ≤ p ∧ p ≤ 9)) :
    Calls Try.prog 24 #[.slice (some ⟨g, 0, none⟩) n c, .int .i64 p] w (SplitPost w [] [] false) := by
  have hT := two_empty w
  have hA := h.below hT.2.2.2
  have K := Lib.hid (l2List_any g n c f hn hid _ hA)
  have HL := Lib.hid hL
  have R0 := Lib.hid hT
  clear h hid hL hA hT
  cases hb : listB n f
  · rw [hb] at K
    clear hb HL
    go_enter Try.func24, Try.ntmps24
    go_wp2_with fail
    refine K.out.mono ?_
    rintro e w1 ⟨rfl, hb1⟩
    have R1 := Lib.hid (R0.out.below hb1)
    clear hb1
    go_wp2_with fail
    go_ret3
    exact ⟨_, _, rfl, R1.out⟩
  · have hp : ¬ (1 ≤ p ∧ p ≤ 9) := by
      rcases HL.out with h | h
      · rw [hb] at h; cases h
      · exact h
    rw [hb] at K
    clear hb HL
    have KP := Lib.hid hp
    clear hp
    go_enter Try.func24, Try.ntmps24
    go_wp2_with fail
    refine K.out.mono ?_
    rintro e w1 ⟨rfl, hb1⟩
    have R1 := Lib.hid (R0.out.below hb1)
    clear hb1
    go_wp2_with fail
    refine (l1In_no _ _ _ _ KP.out).mono ?_
    rintro e w2 ⟨rfl, rfl⟩
    go_wp2_with fail
    go_ret3
    exact ⟨_, _, rfl, R1.out⟩

set_option maxRecDepth 100000 in
set_option maxHeartbeats 2000000 in
theorem specSplit_yes (g n c : Nat) (f : Nat → Cont) (p : Int) (hn : n ≤ 1048576) (hid : ∀ j, j < n → (f j).id.size ≤ 1048576) (w : World) (h : CAt w g 0 n f) (hL : listB n f = true) (hp : 1 ≤ p ∧ p ≤ 9) :
    Calls Try.prog 24 #[.slice (some ⟨g, 0, none⟩) n c, .int .i64 p] w (SplitPost w (pickL f p n) (restL f p n) true) := by
  obtain ⟨i0, hi, hz0, hz1, hz2⟩ := info_parts infoC
  have hT := two_empty w
  have hA := h.below hT.2.2.2
  have K := Lib.hid (l2List_any g n c f hn hid _ hA)
  have H := Lib.hid h
  have h12 := ((listB_iff n f).1 hL).1
  rw [hL] at K
  have R0 := Lib.hid hT
  have KP := Lib.hid hp
  clear h hid hL hA hT hp
  go_enter Try.func24, Try.ntmps24
  go_wp2_with fail
  refine K.out.mono ?_
  rintro e w1 ⟨rfl, hb1⟩
  have R1 := Lib.hid (R0.out.below hb1)
  clear hb1
  go_wp2_with fail
  refine (l1In_yes _ _ _ _ KP.out).mono ?_
  rintro e w2 ⟨rfl, rfl⟩
  go_wp2_with fail
  go_loopw [7, 8, 9] (fun o1 o2 i wr => ∃ k : Nat, k ≤ n ∧ i = .int .i64 k ∧ Hid (Two w wr o1 o2 (pickL f p k) (restL f p k))) (fun _ _ i _ => n - (intOf i).toNat)
  case atStart => exact ⟨0, Nat.zero_le _, rfl, R1⟩
  case round =>
    obtain ⟨k, hk, rfl, HR⟩ := hrel
    have hln := pickL_len f p k
    by_cases hlt : k < n
    · obtain ⟨a0, a1, a2, a3, a4⟩ := (H.out.below HR.out.2.2.2).2 k hlt
      rw [Nat.zero_add] at *
      by_cases e : (f k).port = p
      · have HS : Hid (pickL f p (k + 1) = pickL f p k ++ [f k] ∧ restL f p (k + 1) = restL f p k) := Lib.hid (by rw [pickL, restL, if_pos e, if_pos e]; exact ⟨rfl, rfl⟩)
        rw [e] at a4
        have HE := Lib.hid e
        clear e
        generalize pickL f p k = l1 at *
        generalize restL f p k = l2 at *
        generalize f k = x at *
        obtain ⟨id, sz, wt, cg, pt⟩ := x
        simp only at *
        have hrow := HR.out.1
        have hsz := HR.out.2.2.2.size
        unfold CRow at hrow
        go_wp2_with (at_builtin; refine wpList_append_own_at _ rfl _ _ 27 rfl w.heap.size 49 i0 (.agg #[.string ⟨#[]⟩, .int .i64 0, .int .i64 0, .int .i64 0, .int .i64 0]) 5 48 Try.underlying27 hi hz0 hz1 hz2 rfl (by decide) _ _ _ rfl (hrow.alloc _) ⟨wr.heap.size, 0, none⟩ 1 1 (encC ⟨id, sz, wt, cg, p⟩) rfl rfl (cell_arr_new _ _ _) (enc_one _) (by unfold maxLen; omega) (by omega) (by simp; omega) ?_; intro v' w3 hown' hgrow _ hat)
        have hE : p = pt := HE.out.symm
        have hT3 := two_left (c := ⟨id, sz, wt, cg, pt⟩) (HR.out.below ((Below.refl _ wr).alloc (Nat.le_refl _) _)) (hE ▸ hown') hgrow hat
        refine ⟨⟨k + 1, by omega, by go_num, Lib.hid (by rw [HS.out.1, HS.out.2]; exact hT3)⟩, by simp [intOf]; omega⟩
      · have HS : Hid (pickL f p (k + 1) = pickL f p k ∧ restL f p (k + 1) = restL f p k ++ [f k]) := Lib.hid (by rw [pickL, restL, if_neg e, if_neg e]; exact ⟨rfl, rfl⟩)
        have hq : ((f k).port == p) = false := by simpa using e
        clear e
        generalize pickL f p k = l1 at *
        generalize restL f p k = l2 at *
        generalize f k = x at *
        obtain ⟨id, sz, wt, cg, pt⟩ := x
        simp only at *
        have hrow := HR.out.2.1
        have hsz := HR.out.2.2.2.size
        unfold CRow at hrow
        go_wp2_with (at_builtin; refine wpList_append_own_at _ rfl _ _ 27 rfl w.heap.size 49 i0 (.agg #[.string ⟨#[]⟩, .int .i64 0, .int .i64 0, .int .i64 0, .int .i64 0]) 5 48 Try.underlying27 hi hz0 hz1 hz2 rfl (by decide) _ _ _ rfl (hrow.alloc _) ⟨wr.heap.size, 0, none⟩ 1 1 (encC ⟨id, sz, wt, cg, pt⟩) rfl rfl (cell_arr_new _ _ _) (enc_one _) (by unfold maxLen; omega) (by omega) (by simp; omega) ?_; intro v' w3 hown' hgrow _ hat)
        have hT3 := two_left (c := ⟨id, sz, wt, cg, pt⟩) (HR.out.swap.below ((Below.refl _ wr).alloc (Nat.le_refl _) _)) hown' hgrow hat
        refine ⟨⟨k + 1, by omega, by go_num, Lib.hid (by rw [HS.out.1, HS.out.2]; exact hT3.swap)⟩, by simp [intOf]; omega⟩
    · obtain rfl : k = n := by omega
      go_wp2_with fail
      go_ret3
      exact ⟨_, _, rfl, HR.out⟩

set_option maxRecDepth 100000 in
set_option maxHeartbeats 1000000 in
theorem implSplit_no (g n c : Nat) (f : Nat → Cont) (p : Int) (hn : n ≤ 1048576) (hid : ∀ j, j < n → (f j).id.size ≤ 1048576) (hnc : n ≤ c) (w : World) (h : CAt w g 0 n f) (hL : listB n f = false ∨ ¬ (1 ≤ p ∧ p ≤ 9)) :
    Calls Try.prog 25 #[.slice (some ⟨g, 0, none⟩) n c, .int .i64 p] w (SplitPost w [] [] false) := by
  have hT := two_empty w
  have hA := h.below hT.2.2.2
  have K := Lib.hid (implList_any g n c f hn hid hnc _ hA)
  have HL := Lib.hid hL
  have R0 := Lib.hid hT
  clear h hid hL hA hT hnc
  cases hb : listB n f
  · rw [hb] at K
    clear hb HL
    go_enter Try.func25, Try.ntmps25
    go_wp2_with fail
    refine K.out.mono ?_
    rintro e w1 ⟨rfl, hb1⟩
    have R1 := Lib.hid (R0.out.below hb1)
    clear hb1
    go_wp2_with fail
    go_ret3
    exact ⟨_, _, rfl, R1.out⟩
  · have hp : ¬ (1 ≤ p ∧ p ≤ 9) := by
      rcases HL.out with h | h
      · rw [hb] at h; cases h
      · exact h
    rw [hb] at K
    clear hb HL
    have KP := Lib.hid hp
    clear hp
    go_enter Try.func25, Try.ntmps25
    go_wp2_with fail
    refine K.out.mono ?_
    rintro e w1 ⟨rfl, hb1⟩
    have R1 := Lib.hid (R0.out.below hb1)
    clear hb1
    go_wp2_with fail
    refine (isPort_no _ _ KP.out).mono ?_
    rintro e w2 ⟨rfl, rfl⟩
    go_wp2_with fail
    go_ret3
    exact ⟨_, _, rfl, R1.out⟩

set_option maxRecDepth 100000 in
set_option maxHeartbeats 2000000 in
theorem implSplit_yes (g n c : Nat) (f : Nat → Cont) (p : Int) (hn : n ≤ 1048576) (hid : ∀ j, j < n → (f j).id.size ≤ 1048576) (hnc : n ≤ c) (w : World) (h : CAt w g 0 n f) (hL : listB n f = true) (hp : 1 ≤ p ∧ p ≤ 9) :
    Calls Try.prog 25 #[.slice (some ⟨g, 0, none⟩) n c, .int .i64 p] w (SplitPost w (pickL f p n) (restL f p n) true) := by
  obtain ⟨i0, hi, hz0, hz1, hz2⟩ := info_parts infoC
  have hT := two_empty w
  have hA := h.below hT.2.2.2
  have K := Lib.hid (implList_any g n c f hn hid hnc _ hA)
  have H := Lib.hid h
  have h12 := ((listB_iff n f).1 hL).1
  rw [hL] at K
  have R0 := Lib.hid hT
  have KP := Lib.hid hp
  clear h hid hL hA hT hp
  go_enter Try.func25, Try.ntmps25
  go_wp2_with fail
  refine K.out.mono ?_
  rintro e w1 ⟨rfl, hb1⟩
  have R1 := Lib.hid (R0.out.below hb1)
  clear hb1
  go_wp2_with fail
  refine (isPort_yes _ _ KP.out).mono ?_
  rintro e w2 ⟨rfl, rfl⟩
  go_wp2_with fail
  go_loopw [7, 8, 10, 25] (fun o1 o2 _ i wr => ∃ k : Nat, k ≤ n ∧ i = .int .i64 k ∧ Hid (Two w wr o1 o2 (pickL f p k) (restL f p k))) (fun _ _ _ i _ => n - (intOf i).toNat)
  case atStart => exact ⟨0, Nat.zero_le _, rfl, R1⟩
  case round =>
    obtain ⟨k, hk, rfl, HR⟩ := hrel
    have hln := pickL_len f p k
    by_cases hlt : k < n
    · obtain ⟨a0, a1, a2, a3, a4⟩ := (H.out.below HR.out.2.2.2).2 k hlt
      rw [Nat.zero_add] at *
      by_cases e : (f k).port = p
      · have HS : Hid (pickL f p (k + 1) = pickL f p k ++ [f k] ∧ restL f p (k + 1) = restL f p k) := Lib.hid (by rw [pickL, restL, if_pos e, if_pos e]; exact ⟨rfl, rfl⟩)
        rw [e] at a4
        have HE := Lib.hid e
        clear e
        generalize pickL f p k = l1 at *
        generalize restL f p k = l2 at *
        generalize f k = x at *
        obtain ⟨id, sz, wt, cg, pt⟩ := x
        simp only at *
        have hsz := HR.out.2.2.2.size
        have hrow := HR.out.1.alloc (.cells #[.string id, .int .i64 sz, .int .i64 wt, .int .i64 cg, .int .i64 p] 49)
        have T1 := Lib.hid (HR.out.below ((Below.refl _ wr).alloc (Nat.le_refl _) (.cells #[.string id, .int .i64 sz, .int .i64 wt, .int .i64 cg, .int .i64 p] 49)))
        go_wp2_with (at_builtin; refine wpList_append_own_at _ rfl _ _ 27 rfl w.heap.size 49 i0 (.agg #[.string ⟨#[]⟩, .int .i64 0, .int .i64 0, .int .i64 0, .int .i64 0]) 5 48 Try.underlying27 hi hz0 hz1 hz2 rfl (by decide) _ _ _ rfl (hrow.alloc _) ⟨wr.heap.size + 1, 0, none⟩ 1 1 (encC ⟨id, sz, wt, cg, p⟩) rfl rfl (by have := cell_arr_new (wr.alloc (.cells #[.string id, .int .i64 sz, .int .i64 wt, .int .i64 cg, .int .i64 p] 49)) #[.string id, .int .i64 sz, .int .i64 wt, .int .i64 cg, .int .i64 p] 49; rw [World.size_alloc] at this; exact this) (enc_one _) (by unfold maxLen; omega) (by omega) (by simp; omega) ?_; intro v' w3 hown' hgrow _ hat)
        have hE : p = pt := HE.out.symm
        have hT3 := two_left (c := ⟨id, sz, wt, cg, pt⟩) (T1.out.below ((Below.refl _ _).alloc (Nat.le_refl _) _)) (hE ▸ hown') hgrow hat
        refine ⟨⟨k + 1, by omega, by go_num, Lib.hid (by rw [HS.out.1, HS.out.2]; exact hT3)⟩, by simp [intOf]; omega⟩
      · have HS : Hid (pickL f p (k + 1) = pickL f p k ∧ restL f p (k + 1) = restL f p k ++ [f k]) := Lib.hid (by rw [pickL, restL, if_neg e, if_neg e]; exact ⟨rfl, rfl⟩)
        have hq : ((f k).port == p) = false := by simpa using e
        clear e
        generalize pickL f p k = l1 at *
        generalize restL f p k = l2 at *
        generalize f k = x at *
        obtain ⟨id, sz, wt, cg, pt⟩ := x
        simp only at *
        have hsz := HR.out.2.2.2.size
        have hrow := HR.out.2.1.alloc (.cells #[.string id, .int .i64 sz, .int .i64 wt, .int .i64 cg, .int .i64 pt] 49)
        have T1 := Lib.hid (HR.out.swap.below ((Below.refl _ wr).alloc (Nat.le_refl _) (.cells #[.string id, .int .i64 sz, .int .i64 wt, .int .i64 cg, .int .i64 pt] 49)))
        go_wp2_with (at_builtin; refine wpList_append_own_at _ rfl _ _ 27 rfl w.heap.size 49 i0 (.agg #[.string ⟨#[]⟩, .int .i64 0, .int .i64 0, .int .i64 0, .int .i64 0]) 5 48 Try.underlying27 hi hz0 hz1 hz2 rfl (by decide) _ _ _ rfl (hrow.alloc _) ⟨wr.heap.size + 1, 0, none⟩ 1 1 (encC ⟨id, sz, wt, cg, pt⟩) rfl rfl (by have := cell_arr_new (wr.alloc (.cells #[.string id, .int .i64 sz, .int .i64 wt, .int .i64 cg, .int .i64 pt] 49)) #[.string id, .int .i64 sz, .int .i64 wt, .int .i64 cg, .int .i64 pt] 49; rw [World.size_alloc] at this; exact this) (enc_one _) (by unfold maxLen; omega) (by omega) (by simp; omega) ?_; intro v' w3 hown' hgrow _ hat)
        have hT3 := two_left (c := ⟨id, sz, wt, cg, pt⟩) (T1.out.below ((Below.refl _ _).alloc (Nat.le_refl _) _)) hown' hgrow hat
        refine ⟨⟨k + 1, by omega, by go_num, Lib.hid (by rw [HS.out.1, HS.out.2]; exact hT3.swap)⟩, by simp [intOf]; omega⟩
    · obtain rfl : k = n := by omega
      go_wp2_with fail
      go_ret3
      exact ⟨_, _, rfl, HR.out⟩
end Go.Proofs.Ytpmaaflpknjbmaa.C
