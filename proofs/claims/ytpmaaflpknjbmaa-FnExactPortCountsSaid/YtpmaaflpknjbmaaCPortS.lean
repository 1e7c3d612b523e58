/-
  What spec.PortCounts returns. No statement of the seat by itself.
-/
import Derived.Test.YtpmaaflpknjbmaaCPairsM
import Derived.Test.YtpmaaflpknjbmaaCValidI
namespace Go.Proofs.Ytpmaaflpknjbmaa.C
open Go.RowKit

/-- How many of the first k containers have a port. -/
def cntL (f : Nat → Cont) (p : Int) : Nat → Nat
  | 0 => 0
  | k + 1 => if (f k).port = p then cntL f p k + 1 else cntL f p k
theorem cntL_le (f : Nat → Cont) (p : Int) : ∀ k, cntL f p k ≤ k
  | 0 => Nat.le_refl _
  | k + 1 => by
    have := cntL_le f p k
    rw [cntL]
    split <;> omega
/-- The ports up to one that some container has, with their numbers. -/
def pcL (f : Nat → Cont) (n : Nat) : Nat → List (Int × Int)
  | 0 => []
  | p + 1 => if 0 < cntL f ((p : Int) + 1) n then pcL f n p ++ [((p : Int) + 1, (cntL f ((p : Int) + 1) n : Int))] else pcL f n p
theorem pcL_len (f : Nat → Cont) (n : Nat) : ∀ p, (pcL f n p).length ≤ p
  | 0 => Nat.le_refl _
  | p + 1 => by
    have := pcL_len f n p
    rw [pcL]
    split
    · simp; omega
    · omega
theorem info53 : (Try.prog.info? 50).map (fun i => (i.zero, i.size, i.bytes)) = some (some (.agg #[.int .i64 0, .int .i64 0]), 2, 16) := by kernel_rfl
/-- While pairs are put together. -/
def PAcc (w wr : World) (o : Value) (l : List (Int × Int)) : Prop := PRow wr w.heap.size o l ∧ Below w.heap.size w wr
theorem PAcc.below {w wr W : World} {o : Value} {l : List (Int × Int)} (h : PAcc w wr o l) (hb : Below wr.heap.size wr W) : PAcc w W o l := ⟨row_below h.1 hb, h.2.trans (hb.mono h.2.size)⟩
theorem pacc_empty (w : World) : PAcc w (w.alloc (.cells #[] 50)) (.slice (some ⟨w.heap.size, 0, none⟩) 0 0) [] :=
  ⟨⟨rfl, .inr ⟨_, 0, #[], rfl, Nat.le_refl _, heap_alloc_new w _, Nat.le_refl _, Nat.zero_le _, rfl, rfl⟩⟩, (Below.refl _ w).alloc (Nat.le_refl _) _⟩
theorem pacc_step {w wr w3 : World} {o v' : Value} {l : List (Int × Int)} {c : Int × Int} (h : PAcc w wr o l)
    (hown : w3.ownsRow w.heap.size 50 2 v' (l.length + 1) (flatP l ++ [.int .i64 c.1, .int .i64 c.2])) (hg : wr.grownBy w3 o.ownBlock) : PAcc w w3 v' (l ++ [c]) := by
  refine ⟨?_, h.2.grown hg h.2.size (row_base h.1)⟩
  unfold PRow; rw [flatP_snoc]; simpa using hown
/-- Pairs of the call's own were answered, and nothing older turned. -/
def OneP (w : World) (l : List (Int × Int)) (ok : Bool) (e : Ending) (W' : World) : Prop := ∃ v, e = .returned (.tuple #[v, .bool ok]) ∧ PAcc w W' v l

set_option maxRecDepth 100000 in
set_option maxHeartbeats 1000000 in
theorem specPort_no (g n c : Nat) (f : Nat → Cont) (hn : n ≤ 1048576) (hid : ∀ j, j < n → (f j).id.size ≤ 1048576) (w : World) (h : CAt w g 0 n f) (hL : listB n f = false) :
    Calls Try.prog 8 #[.slice (some ⟨g, 0, none⟩) n c] w (OneP w [] false) := by
  have A0 := pacc_empty w
  have K := Lib.hid (l2List_any g n c f hn hid _ (h.below A0.2))
  rw [hL] at K
  have R0 := Lib.hid A0
  clear h hid hL A0
  go_enter Try.func8, Try.ntmps8
  go_wp2_with fail
  refine K.out.mono ?_
  rintro e w1 ⟨rfl, hb1⟩
  have R1 := Lib.hid (R0.out.below hb1)
  clear hb1
  go_wp2_with fail
  go_ret2
  exact ⟨_, rfl, R1.out⟩

set_option maxRecDepth 100000 in
set_option maxHeartbeats 4000000 in
theorem specPort_yes (g n c : Nat) (f : Nat → Cont) (hn : n ≤ 1048576) (hid : ∀ j, j < n → (f j).id.size ≤ 1048576) (w : World) (h : CAt w g 0 n f) (hL : listB n f = true) :
    Calls Try.prog 8 #[.slice (some ⟨g, 0, none⟩) n c] w (OneP w (pcL f n 9) true) := by
  obtain ⟨i0, hi, hz0, hz1, hz2⟩ := info_parts info53
  have A0 := pacc_empty w
  have K := Lib.hid (l2List_any g n c f hn hid _ (h.below A0.2))
  have h12 := ((listB_iff n f).1 hL).1
  rw [hL] at K
  have R0 := Lib.hid A0
  have H := Lib.hid h
  clear h hid hL A0
  go_enter Try.func8, Try.ntmps8
  go_wp2_with fail
  refine K.out.mono ?_
  rintro e w1 ⟨rfl, hb1⟩
  have R1 := Lib.hid (R0.out.below hb1)
  clear hb1
  go_wp2_with fail
  go_loopw [4, 5, 6, 7] (fun o p _ _ wr => ∃ k : Nat, k ≤ 9 ∧ p = .int .i64 ((k : Int) + 1) ∧ Hid (PAcc w wr o (pcL f n k))) (fun _ p _ _ _ => 10 - (intOf p).toNat)
  case atStart => exact ⟨0, by omega, rfl, R1⟩
  case round =>
    obtain ⟨k, hk, rfl, HR⟩ := hrel
    have hln := pcL_len f n k
    by_cases hlt : k < 9
    · have hle : decide ((k : Int) + 1 ≤ 9) = true := by simp; omega
      have HC := Lib.hid (H.out.below HR.out.2)
      go_wp2_with fail
      go_loop [6, 7] (fun c i => ∃ q : Nat, q ≤ n ∧ i = .int .i64 q ∧ c = .int .i64 (cntL f ((k : Int) + 1) q)) (fun _ i => n - (intOf i).toNat)
      case atStart => exact ⟨0, Nat.zero_le _, rfl, rfl⟩
      case round =>
        obtain ⟨q, hq, rfl, rfl⟩ := hrel
        have hcq := cntL_le f ((k : Int) + 1) q
        by_cases hlq : q < n
        · obtain ⟨-, -, -, -, a4⟩ := HC.out.2 q hlq
          rw [Nat.zero_add] at *
          by_cases e : (f q).port = (k : Int) + 1
          · have HS : Hid (cntL f ((k : Int) + 1) (q + 1) = cntL f ((k : Int) + 1) q + 1) := Lib.hid (by rw [cntL, if_pos e])
            rw [e] at a4
            clear e
            generalize cntL f ((k : Int) + 1) q = cc at *
            go_wp2_with fail
            go_round
            case rel => exact ⟨q + 1, by omega, by go_num, by rw [HS.out]; go_num⟩
            case measure => simp [intOf]; omega
          · have HS : Hid (cntL f ((k : Int) + 1) (q + 1) = cntL f ((k : Int) + 1) q) := Lib.hid (by rw [cntL, if_neg e])
            have hqq : ((f q).port == (k : Int) + 1) = false := by simpa using e
            clear e
            generalize cntL f ((k : Int) + 1) q = cc at *
            generalize (f q).port = x at *
            go_wp2_with fail
            go_round
            case rel => exact ⟨q + 1, by omega, by go_num, by rw [HS.out]⟩
            case measure => simp [intOf]; omega
        · obtain rfl : q = n := by omega
          by_cases hpos : 0 < cntL f ((k : Int) + 1) q
          · have HS : Hid (pcL f q (k + 1) = pcL f q k ++ [((k : Int) + 1, (cntL f ((k : Int) + 1) q : Int))]) := Lib.hid (by rw [pcL, if_pos hpos])
            have hpi : decide ((0 : Int) < ((cntL f ((k : Int) + 1) q : Nat) : Int)) = true := by simpa using hpos
            have hrow := HR.out.1
            unfold PRow at hrow
            have hsz := HR.out.2.size
            generalize cntL f ((k : Int) + 1) q = cc at *
            generalize pcL f q k = l at *
            go_wp2_with (at_builtin; refine wpList_append_own _ rfl _ _ 24 rfl w.heap.size 50 i0 (.agg #[.int .i64 0, .int .i64 0]) 2 16 Try.underlying24 hi hz0 hz1 hz2 rfl (by decide) _ _ _ rfl (hrow.alloc _) ⟨wr.heap.size, 0, none⟩ 1 1 [.int .i64 ((k : Int) + 1), .int .i64 (cc : Int)] rfl rfl (cell_arr_new _ _ _) (by simp [Value.oneCell']) (by unfold maxLen; omega) (by omega) (by simp; omega) ?_; intro v' w3 hown' hgrow _)
            have hA3 := pacc_step (c := ((k : Int) + 1, (cc : Int))) (HR.out.below ((Below.refl _ _).alloc (Nat.le_refl _) _)) hown' hgrow
            refine ⟨⟨k + 1, by omega, by go_num, Lib.hid (by rw [HS.out]; exact hA3)⟩, by simp [intOf]; omega⟩
          · have HS : Hid (pcL f q (k + 1) = pcL f q k) := Lib.hid (by rw [pcL, if_neg hpos])
            have hz : cntL f ((k : Int) + 1) q = 0 := by omega
            rw [hz]
            clear hz hpos
            generalize pcL f q k = l at *
            go_wp2_with fail
            go_roundw
            case rel => exact ⟨k + 1, by omega, by go_num, by rw [HS.out]; exact HR⟩
            case measure => simp [intOf]; omega
    · obtain rfl : k = 9 := by omega
      go_wp2_with fail
      go_ret2
      exact ⟨_, rfl, HR.out⟩
end Go.Proofs.Ytpmaaflpknjbmaa.C
