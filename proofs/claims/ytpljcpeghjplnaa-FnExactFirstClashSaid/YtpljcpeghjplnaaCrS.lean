/-
  Sums and the greatest of work, what DivisionBound answers, in the program and in the reference. No statement of the seat by itself.
-/
import Derived.Test.YtpljcpeghjplnaaCrG
namespace Go.Proofs.Ytpljcpeghjplnaa
open Go.RowKit

theorem flipC {f : Nat} {args : Array Value} {w : World} {r : Ending} (h : Calls Try.prog f args w fun e w' => e = r ∧ w = w') : Calls Try.prog f args w fun e w' => e = r ∧ w' = w := h.mono fun _ _ ⟨a, b⟩ => ⟨a, b.symm⟩
theorem below3 {w W w' : World} (g : Below W.heap.size W w') (h : Below w.heap.size w W) : Below w.heap.size w w' := h.trans (g.mono h.size)
theorem enters_idC : Enters Try.prog 154 := enters_of Try.func154 (by kernel_rfl) rfl
theorem idC_any (x : Int) (w : World) : Calls Try.prog 154 #[.int .i64 x] w fun e w' => e = .returned (.int .i64 x) ∧ w = w' := by
  go_enter Try.func154, Try.ntmps154
  go_wp2_with fail
  go_ret
  exact ⟨rfl, rfl⟩
theorem memC_get {l : List Int} {k : Nat} {x : Int} (h : l[k]? = some x) : x ∈ l := List.mem_of_getElem? h
theorem sumC_take_small {l : List Int} (hl : l.length ≤ 1000) (hb : ∀ x ∈ l, 0 ≤ x ∧ x ≤ 1000000) (k : Nat) : 0 ≤ (l.take k).sum ∧ (l.take k).sum ≤ 1000000000 := by
  have := sumC_small 1000000 1000 (l.take k) (by simp; omega) (by decide) (fun x hx => hb x (List.mem_of_mem_take hx))
  omega

set_option maxRecDepth 100000 in
set_option maxHeartbeats 4000000 in
theorem sumT_any (v : Value) (l : List Int) (hl : l.length ≤ 1000) (hb : ∀ x ∈ l, 0 ≤ x ∧ x ≤ 1000000) (w : World) (h : IL w v l) :
    Calls Try.prog 153 #[v, .func (.func 154) #[] #[]] w fun e w' => e = .returned (.int .i64 l.sum) ∧ w = w' := by
  obtain ⟨n, hn⟩ : ∃ n, l.length = n := ⟨_, rfl⟩
  have HN := Lib.hid hn
  have HM := Lib.hid hb
  obtain ⟨a, c, rfl, hc⟩ := h
  have HC := Lib.hid hc
  have HT := Lib.hid (sumC_take_small hl hb)
  have hE := enters_idC
  rw [hn] at hl ⊢
  clear hc hn hb
  go_enter Try.func153, Try.ntmps153
  go_wp2_with fail
  go_loop [5, 10] (fun s i => ∃ (k : Nat) (t : Int), k ≤ n ∧ i = .int .i64 k ∧ s = .int .i64 t ∧ Hid (t = (l.take k).sum)) (fun _ i => n - (intOf i).toNat)
  case atStart => exact ⟨0, 0, Nat.zero_le _, rfl, rfl, Lib.hid rfl⟩
  case round =>
    obtain ⟨k, t, hk, rfl, rfl, HS⟩ := hrel
    by_cases hlt : k < n
    · obtain ⟨g, off, rfl, hg, hcc⟩ := HC.out (by have := HN.out; omega)
      obtain ⟨x, hx⟩ := get_at HN.out hlt
      have o1 := hcc k x hx
      have HE := Lib.hid (idC_any x)
      have HK2 := Lib.hid (sumC_take hx)
      obtain ⟨m1, m2⟩ := HM.out x (memC_get hx)
      obtain ⟨q1, q2⟩ := HT.out k
      rw [← HS.out] at q1 q2
      clear hcc hx
      go_wp2_with fail
      refine (HE.out _).mono ?_
      rintro e w1 ⟨rfl, rfl⟩
      go_wp2_with fail
      go_round
      case rel => exact ⟨k + 1, t + x, by omega, by go_num, by go_num, Lib.hid (by rw [HK2.out, HS.out])⟩
      case measure => simp [intOf]; omega
    · obtain rfl : k = n := by omega
      go_wp2_with fail
      go_ret
      exact ⟨ret_i (by rw [HS.out, List.take_of_length_le (by have := HN.out; omega)]), rfl⟩

set_option maxHeartbeats 1000000 in
theorem totalT_any (v : Value) (l : List Int) (hl : l.length ≤ 1000) (hb : ∀ x ∈ l, 0 ≤ x ∧ x ≤ 1000000) (w : World) (h : IL w v l) :
    Calls Try.prog 139 #[v] w fun e w' => e = .returned (.int .i64 l.sum) ∧ w = w' := by
  have H := Lib.hid (sumT_any v l hl hb w h)
  clear h hb
  generalize l.sum = s at *
  go_enter Try.func139, Try.ntmps139
  go_wp2_with fail
  refine H.out.mono ?_
  rintro e w1 ⟨rfl, rfl⟩
  go_wp2_with fail
  go_ret
  exact ⟨rfl, rfl⟩

set_option maxRecDepth 100000 in
set_option maxHeartbeats 4000000 in
theorem maxC_any (v : Value) (l : List Int) (h0 : 1 ≤ l.length) (hl : l.length ≤ 1000) (hb : ∀ x ∈ l, 0 ≤ x) (w : World) (h : IL w v l) :
    Calls Try.prog 108 #[v] w fun e w' => e = .returned (.int .i64 (mxC l)) ∧ w = w' := by
  obtain ⟨n, hn⟩ : ∃ n, l.length = n := ⟨_, rfl⟩
  have HN := Lib.hid hn
  obtain ⟨a, c, rfl, hc⟩ := h
  obtain ⟨g, off, rfl, hg, hcc⟩ := hc (by omega)
  obtain ⟨x0, hx0⟩ := get_at (Y := l) rfl (show 0 < l.length by omega)
  have HC := Lib.hid hcc
  have o0 : w.cell? ⟨g, off, none⟩ = some (.int .i64 x0) := by simpa using hcc 0 x0 hx0
  have HX : Hid (x0 = mxC (l.take 1)) := Lib.hid (by
    rw [mxC_take hx0, List.take_zero]
    have := hb x0 (memC_get hx0)
    simp only [mxC]
    omega)
  rw [hn] at hl h0 ⊢
  clear hc hn hb hcc hx0
  go_enter Try.func108, Try.ntmps108
  go_wp2_with fail
  clear o0
  go_loop [3, 4] (fun s i => ∃ (k : Nat) (t : Int), 1 ≤ k ∧ k ≤ n ∧ i = .int .i64 k ∧ s = .int .i64 t ∧ Hid (t = mxC (l.take k))) (fun _ i => n - (intOf i).toNat)
  case atStart => exact ⟨1, x0, Nat.le_refl _, h0, rfl, rfl, HX⟩
  case round =>
    obtain ⟨k, t, h1k, hk, rfl, rfl, HS⟩ := hrel
    by_cases hlt : k < n
    · obtain ⟨x, hx⟩ := get_at HN.out hlt
      have o1 := HC.out k x hx
      have HK2 : Hid (mxC (l.take (k + 1)) = max t x) := Lib.hid (by rw [mxC_take hx, HS.out])
      clear hx
      by_cases hq : x ≤ t
      · have hm : max t x = t := by omega
        have HK3 : Hid (t = mxC (l.take (k + 1))) := Lib.hid (by rw [HK2.out, hm])
        have hnl : ¬ t < x := by omega
        clear hm
        go_wp2_with fail
        go_round
        case rel => exact ⟨k + 1, t, by omega, by omega, by go_num, rfl, HK3⟩
        case measure => simp [intOf]; omega
      · have hm : max t x = x := by omega
        have HK3 : Hid (x = mxC (l.take (k + 1))) := Lib.hid (by rw [HK2.out, hm])
        have hnl : t < x := by omega
        clear hm hq
        go_wp2_with fail
        go_round
        case rel => exact ⟨k + 1, x, by omega, by omega, by go_num, rfl, HK3⟩
        case measure => simp [intOf]; omega
    · obtain rfl : k = n := by omega
      go_wp2_with fail
      go_ret
      exact ⟨ret_i (by rw [HS.out, List.take_of_length_le (by have := HN.out; omega)]), rfl⟩

set_option maxRecDepth 100000 in
set_option maxHeartbeats 1000000 in
theorem mostC_any (a b : Int) (w : World) : Calls Try.prog 94 #[.int .i64 a, .int .i64 b] w fun e w' => e = .returned (.int .i64 (max a b)) ∧ w = w' := by
  by_cases h : b < a
  · rw [show max a b = a by omega]
    go_enter Try.func94, Try.ntmps94
    go_wp2_with fail
    go_ret
    exact ⟨rfl, rfl⟩
  · rw [show max a b = b by omega]
    go_enter Try.func94, Try.ntmps94
    go_wp2_with fail
    go_ret
    exact ⟨rfl, rfl⟩

set_option maxRecDepth 100000 in
set_option maxHeartbeats 4000000 in
theorem l13Greatest_any (v : Value) (l : List Int) (hl : l.length ≤ 1000) (w : World) (h : IL w v l) :
    Calls Try.prog 133 #[v] w fun e w' => e = .returned (.int .i64 (mxC l)) ∧ w = w' := by
  obtain ⟨n, hn⟩ : ∃ n, l.length = n := ⟨_, rfl⟩
  have HN := Lib.hid hn
  obtain ⟨a, c, rfl, hc⟩ := h
  have HC := Lib.hid hc
  rw [hn] at hl ⊢
  clear hc hn
  go_enter Try.func133, Try.ntmps133
  go_wp2_with fail
  go_loop [3, 4] (fun s i => ∃ (k : Nat) (t : Int), k ≤ n ∧ i = .int .i64 k ∧ s = .int .i64 t ∧ Hid (t = mxC (l.take k))) (fun _ i => n - (intOf i).toNat)
  case atStart => exact ⟨0, 0, Nat.zero_le _, rfl, rfl, Lib.hid (by simp [mxC])⟩
  case round =>
    obtain ⟨k, t, hk, rfl, rfl, HS⟩ := hrel
    by_cases hlt : k < n
    · obtain ⟨g, off, rfl, hg, hcc⟩ := HC.out (by have := HN.out; omega)
      obtain ⟨x, hx⟩ := get_at HN.out hlt
      have o1 := hcc k x hx
      have HE := Lib.hid (mostC_any t x)
      have HK2 : Hid (max t x = mxC (l.take (k + 1))) := Lib.hid (by rw [mxC_take hx, HS.out])
      clear hcc hx
      generalize max t x = y at *
      go_wp2_with fail
      refine (HE.out _).mono ?_
      rintro e w1 ⟨rfl, rfl⟩
      go_wp2_with fail
      go_round
      case rel => exact ⟨k + 1, y, by omega, by go_num, rfl, HK2⟩
      case measure => simp [intOf]; omega
    · obtain rfl : k = n := by omega
      go_wp2_with fail
      go_ret
      exact ⟨ret_i (by rw [HS.out, List.take_of_length_le (by have := HN.out; omega)]), rfl⟩

theorem wkB_small {l : List Int} (h : wkB l = true) : l.length ≤ 1000 ∧ (∀ x ∈ l, 0 ≤ x ∧ x ≤ 1000000) := by
  obtain ⟨h1, h2⟩ := wkB_iff.1 h
  exact ⟨by omega, fun x hx => by have := h2 x hx; omega⟩

end Go.Proofs.Ytpljcpeghjplnaa
