/-
  What spec.WorstStack answers. No statement of the seat by itself.
-/
import Derived.Test.YtonploneihnekaaCntS
namespace Go.Proofs.Ytonploneihnekaa
open Go.RowKit

/-- What WorstStack answers. -/
def worR (n : Nat) (f : Nat → C.Cont) (Y : List (List Int)) (p : Int) : Int × Int := if askF n f Y p = true then wst (fun i => (cntK stackK i (finR n f Y p) : Int)) Y.length else (0, 0)
theorem worR_yes {n : Nat} {f : Nat → C.Cont} {Y : List (List Int)} {p : Int} (h : askF n f Y p = true) : worR n f Y p = wst (fun i => (cntK stackK i (finR n f Y p) : Int)) Y.length := by rw [worR, if_pos h]
theorem worR_no {n : Nat} {f : Nat → C.Cont} {Y : List (List Int)} {p : Int} (h : askF n f Y p = false) : worR n f Y p = (0, 0) := by rw [worR, if_neg (by simp [h])]
theorem cntS_step {S : List Fnd} {j : Nat} {x : Fnd} (i : Nat) (h : S[j]? = some x) : cntK stackK i (S.take (j + 1)) = cntK stackK i (S.take j) + (if x.2.1 = (i : Int) then 1 else 0) := by
  rw [takeF_at h, cnt_snoc]; rfl

set_option maxRecDepth 100000 in
set_option maxHeartbeats 4000000 in
theorem specWor_any (v : Value) (Y : List (List Int)) (g n : Nat) (f : Nat → C.Cont) (p : Int) (h1 : Y.length ≤ 1048576) (h2 : tot Y ≤ 1048576) (hn : n ≤ 1048576) (hid : ∀ j, j < n → (f j).id.size ≤ 1048576) (w : World) (h : YdR w v Y) (hc : C.CAt w g 0 n f) :
    Calls Try.prog 31 #[v, .slice (some ⟨g, 0, none⟩) n n, .int .i64 p] w (RetP w (.tuple #[.int .i64 (worR n f Y p).1, .int .i64 (worR n f Y p).2, .bool (askF n f Y p)])) := by
  obtain ⟨v0, rfl, hv⟩ := h
  obtain ⟨a, cap, rfl⟩ := hv.form
  have HA : Hid (∀ W, Below w.heap.size w W → Calls Try.prog 40 #[.agg #[.slice a Y.length cap], .slice (some ⟨g, 0, none⟩) n n, .int .i64 p] W (BoolP W (askF n f Y p))) := Lib.hid fun W hb => l7Asked_any _ Y g n f p h1 h2 hn hid W ⟨_, rfl, hv.below hb⟩ (hc.below hb)
  have HF : Hid (askF n f Y p = true → ∀ W, Below w.heap.size w W → Calls Try.prog 41 #[.agg #[.slice a Y.length cap], .slice (some ⟨g, 0, none⟩) n n, .int .i64 p] W (AtP W (finR n f Y p))) := Lib.hid fun ha W hb => by rw [finR_yes ha]; exact l7Find_any _ Y g n f p (askF_iff.1 ha).1 h1 h2 hn W ⟨_, rfl, hv.below hb⟩ (hc.below hb)
  have HY : Hid (askF n f Y p = true → worR n f Y p = wst (fun i => (cntK stackK i (finR n f Y p) : Int)) Y.length) := Lib.hid worR_yes
  have HN : Hid (askF n f Y p = false → worR n f Y p = (0, 0)) := Lib.hid worR_no
  have hS := finR_len n f Y p
  have BA := Lib.hid (Box1.new w (.slice a Y.length cap) 31)
  have B0 := Lib.hid (below_one w (.cells #[.slice a Y.length cap] 31))
  clear hv hc hid h2
  generalize askF n f Y p = q at *
  generalize worR n f Y p = R at *
  generalize finR n f Y p = S at *
  generalize Y.length = m at *
  go_enter Try.func31, Try.ntmps31
  go_wp2_with fail
  generalize w.alloc (.cells #[.slice a m cap] 31) = w0 at *
  refine (HA.out _ B0.out).mono ?_
  rintro e w1 ⟨rfl, hb⟩
  have A1 := Lib.hid (BA.out.below hb)
  have B1 := Lib.hid (B0.out.trans (hb.mono B0.out.size))
  have c0 := A1.out.2
  clear hb
  cases q with
  | false =>
    have HE := Lib.hid (HN.out rfl)
    go_wp2_with fail
    go_ret3
    exact ⟨by rw [HE.out]; rfl, B1.out⟩
  | true =>
    have HF2 := Lib.hid (HF.out rfl)
    have HE := Lib.hid (HY.out rfl)
    clear HF HY HN HA
    go_wp2_with fail
    refine (HF2.out _ B1.out).mono ?_
    rintro e w2 ⟨g3, c3, rfl, hfl, -, hb⟩
    have B2 := Lib.hid (B1.out.trans (hb.mono B1.out.size))
    have A2 := Lib.hid (A1.out.below hb)
    have HL := Lib.hid (fun j s hs => FL.at (j := j) (s := s) hfl hs)
    obtain ⟨t, ht⟩ : ∃ t, S.length = t := ⟨_, rfl⟩
    have HT := Lib.hid ht
    rw [ht] at hS ⊢
    clear hb hfl ht c0 HF2
    have hbd : Hid (∀ i, -1 ≤ (wst (fun i => (cntK stackK i S : Int)) i).2 ∧ (wst (fun i => (cntK stackK i S : Int)) i).2 ≤ 1000 ∧ 0 ≤ (wst (fun i => (cntK stackK i S : Int)) i).1 ∧ (wst (fun i => (cntK stackK i S : Int)) i).1 ≤ (i : Int)) := Lib.hid fun i => wst_bd _ (fun i => Int.natCast_nonneg _) (fun i => by have := cnt_len stackK i S; have := HT.out; omega) i
    have hst : Hid (∀ i, wst (fun i => (cntK stackK i S : Int)) (i + 1) = if (wst (fun i => (cntK stackK i S : Int)) i).2 < (cntK stackK i S : Int) then ((i : Int), (cntK stackK i S : Int)) else wst (fun i => (cntK stackK i S : Int)) i) := Lib.hid fun i => rfl
    have hw0 : Hid (wst (fun i => (cntK stackK i S : Int)) 0 = (0, -1)) := Lib.hid rfl
    generalize wst (fun i => (cntK stackK i S : Int)) = ws at *
    have c0 := A2.out.2
    go_wp2_with fail
    go_loop [9, 10, 12] (fun b mo i => ∃ k : Nat, k ≤ m ∧ i = .int .i64 k ∧ b = .int .i64 (ws k).1 ∧ mo = .int .i64 (ws k).2) (fun _ _ i => m - (intOf i).toNat)
    case atStart => exact ⟨0, Nat.zero_le _, rfl, by rw [hw0.out], by rw [hw0.out]⟩
    case round =>
      obtain ⟨i, hi, rfl, rfl, rfl⟩ := hrel
      obtain ⟨q1, q2, q3, q4⟩ := hbd.out i
      have HSt := Lib.hid (hst.out i)
      by_cases hlt : i < m
      · have hiI : (i : Int) < (m : Int) := by omega
        obtain ⟨bi, hbi⟩ : ∃ b, (ws i).1 = b := ⟨_, rfl⟩
        obtain ⟨mi, hmi⟩ : ∃ b, (ws i).2 = b := ⟨_, rfl⟩
        rw [hmi] at q1 q2 HSt
        rw [hbi] at q3 q4
        rw [hbi, hmi]
        have HB := Lib.hid hbi
        have HMi := Lib.hid hmi
        clear hbi hmi
        have hz : cntK stackK i (S.take 0) = 0 := by simp [cntK]
        have HZ0 := Lib.hid hz
        clear hz
        go_wp2_with fail
        go_loop [13, 14] (fun c k => ∃ j : Nat, j ≤ t ∧ k = .int .i64 j ∧ c = .int .i64 (cntK stackK i (S.take j) : Int)) (fun _ k => t - (intOf k).toNat)
        case atStart => exact ⟨0, Nat.zero_le _, rfl, by rw [HZ0.out]; rfl⟩
        case round =>
          obtain ⟨j, hj, rfl, rfl⟩ := hrel
          by_cases hjt : j < t
          · obtain ⟨x, hx⟩ := get_at HT.out hjt
            obtain ⟨-, y2, -⟩ := HL.out j x hx
            have HC := Lib.hid (cntS_step i hx)
            have hcl := cnt_len stackK i (S.take j)
            rw [List.length_take] at hcl
            have hjI : (j : Int) < (t : Int) := by omega
            obtain ⟨cn2, hc2⟩ : ∃ c, cntK stackK i (S.take (j + 1)) = c := ⟨_, rfl⟩
            rw [hc2] at HC
            have HC2 := Lib.hid hc2
            clear hc2
            obtain ⟨cn, hcn⟩ : ∃ c, cntK stackK i (S.take j) = c := ⟨_, rfl⟩
            rw [hcn] at HC hcl ⊢
            have hcn100 : cn ≤ 100 := by omega
            obtain ⟨xr, xs, xt⟩ := x
            simp only [Nat.zero_add] at y2 HC
            clear hx hcl hcn
            by_cases he : xs = (i : Int)
            · have HC3 : Hid (cn2 = cn + 1) := Lib.hid (by rw [HC.out, if_pos he])
              have hd : (xs == (i : Int)) = true := by simp [he]
              clear he
              go_wp2_with fail
              exact ⟨⟨j + 1, by omega, by go_num, by rw [HC2.out, HC3.out]; go_num⟩, by simp [intOf]; omega⟩
            · have HC3 : Hid (cn2 = cn) := Lib.hid (by rw [HC.out, if_neg he]; rfl)
              have hd : (xs == (i : Int)) = false := by simpa using he
              clear he
              go_wp2_with fail
              exact ⟨⟨j + 1, by omega, by go_num, by rw [HC2.out, HC3.out]⟩, by simp [intOf]; omega⟩
          · obtain rfl : j = t := by omega
            have htk : S.take j = S := List.take_of_length_le (by have := HT.out; omega)
            rw [htk]
            clear htk
            have hcl := cnt_len stackK i S
            have HTl := HT.out
            have hcn100 : cntK stackK i S ≤ 100 := by omega
            clear HTl hcl
            generalize cntK stackK i S = cn at *
            by_cases hgt : mi < (cn : Int)
            · have HW : Hid (ws (i + 1) = ((i : Int), (cn : Int))) := Lib.hid (by rw [HSt.out, if_pos hgt])
              go_wp2_with fail
              exact ⟨⟨i + 1, by omega, by go_num, by rw [HW.out], by rw [HW.out]⟩, by simp [intOf]; omega⟩
            · have HW : Hid (ws (i + 1) = ws i) := Lib.hid (by rw [HSt.out, if_neg hgt])
              have hd : decide (mi < (cn : Int)) = false := by simp; omega
              clear hgt
              go_wp2_with fail
              exact ⟨⟨i + 1, by omega, by go_num, by rw [HW.out, HB.out], by rw [HW.out, HMi.out]⟩, by simp [intOf]; omega⟩
      · obtain rfl : i = m := by omega
        rw [← HE.out]
        go_wp2_with fail
        go_ret3
        exact ⟨rfl, B2.out⟩
end Go.Proofs.Ytonploneihnekaa
