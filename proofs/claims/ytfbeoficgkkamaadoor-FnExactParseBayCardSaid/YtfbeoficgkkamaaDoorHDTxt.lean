/-
  Texts of bays: what they are; spec.l9Text and spec.BayText. No statement of the seat by itself.
-/
import Derived.Test.YtfbeoficgkkamaaDoorHGood
namespace Go.Proofs.YtfbeoficgkkamaaDoor
open Go.RowKit

/-- Bytes as a string. -/
def bs (l : List UInt8) : ByteArray := ⟨l.toArray⟩
theorem bs_app (l m : List UInt8) : bs l ++ bs m = bs (l ++ m) := by
  apply ByteArray.ext
  simp [bs]
theorem bs_size (l : List UInt8) : (bs l).size = l.length := by simp [bs, ByteArray.size]
/-- A slot's two bytes. -/
def cellT (l : List Int) (k : Nat) : List UInt8 := match l[k]? with
  | none => [46, 46]
  | some x => [UInt8.ofNat (48 + x.toNat / 10), UInt8.ofNat (48 + x.toNat % 10)]
theorem cellT_none {l : List Int} {k : Nat} (h : l.length ≤ k) : cellT l k = [46, 46] := by unfold cellT; rw [List.getElem?_eq_none h]
theorem cellT_some {l : List Int} {k x : Nat} (h : l[k]? = some (x : Int)) : cellT l k = [UInt8.ofNat (48 + x / 10), UInt8.ofNat (48 + x % 10)] := by unfold cellT; rw [h]; simp
theorem cellT_len (l : List Int) (k : Nat) : (cellT l k).length = 2 := by unfold cellT; split <;> rfl
/-- The first i slots of a tier's line. -/
def lineT (Y : List (List Int)) (k : Nat) : Nat → List UInt8
  | 0 => []
  | i + 1 => lineT Y k i ++ (if 0 < i then [32] else []) ++ cellT (Y.getD i []) k
theorem lineT_len (Y : List (List Int)) (k : Nat) : ∀ i, (lineT Y k i).length ≤ 3 * i
  | 0 => by simp [lineT]
  | i + 1 => by
    have := lineT_len Y k i
    have := cellT_len (Y.getD i []) k
    simp only [lineT, List.length_append]
    split <;> simp only [List.length_cons, List.length_nil] <;> omega
/-- The first j lines of a bay's text. -/
def textT (Y : List (List Int)) (h : Nat) : Nat → List UInt8
  | 0 => []
  | j + 1 => textT Y h j ++ lineT Y (h - 1 - j) Y.length ++ [10]
theorem textT_len {Y : List (List Int)} (hn : Y.length ≤ 5) (h : Nat) : ∀ j, (textT Y h j).length ≤ 16 * j
  | 0 => by simp [textT]
  | j + 1 => by
    have := textT_len hn h j
    have := lineT_len Y (h - 1 - j) Y.length
    simp only [textT, List.length_append, List.length_singleton]
    omega
theorem part_len {Y : List (List Int)} (hn : Y.length ≤ 5) (h j k i : Nat) (hj : j ≤ 3) (hi : i ≤ 5) : (textT Y h j ++ lineT Y k i).length ≤ 63 := by
  have := textT_len hn h j
  have := lineT_len Y k i
  rw [List.length_append]
  omega
def dgB (q : Nat) : ByteArray := bs [UInt8.ofNat (48 + q)]
theorem ten_c (q : Nat) (h : q < 10) : q = 0 ∨ q = 1 ∨ q = 2 ∨ q = 3 ∨ q = 4 ∨ q = 5 ∨ q = 6 ∨ q = 7 ∨ q = 8 ∨ q = 9 := by omega
theorem dig_run (q : Nat) (h : q < 10) (W : World) : (Instr.slice 9 (.string { data := #[48, 49, 50, 51, 52, 53, 54, 55, 56, 57] }) (some (.int .i64 (q : Int))) (some (.int .i64 ((q : Int) + 1))) none).run Tryd.prog W = .ok (.string (dgB q)) W := by
  rcases ten_c q h with rfl | rfl | rfl | rfl | rfl | rfl | rfl | rfl | rfl | rfl <;> kernel_rfl

set_option maxRecDepth 100000 in
set_option maxHeartbeats 8000000 in
theorem l9Text_any (v : Value) (H : Nat) (Y : List (List Int)) (hg : goodB (H : Int) Y = true) (w : World) (h : BdR w v (H : Int) Y) :
    Calls Tryd.prog 24 #[v] w fun e w' => e = .returned (.string (bs (textT Y H H))) ∧ Below w.heap.size w w' := by
  obtain ⟨v0, rfl, hv⟩ := h
  have BA := Lib.hid (Box2.new w (H : Int) v0 24)
  have B0 := Lib.hid (below_one w (.cells #[.int .i64 (H : Int), v0] 24))
  have c0 := BA.out.2.1
  obtain ⟨a, cap, rfl, hc⟩ := hv
  obtain ⟨n, hn⟩ : ∃ n, Y.length = n := ⟨_, rfl⟩
  obtain ⟨g1, g5, g4, gS⟩ := goodB_rows hg
  have hH1 : 1 ≤ H := by have := (goodB_iff.1 hg).1; omega
  have hH4 : H ≤ 4 := by have := (goodB_iff.1 hg).1; omega
  have HN := Lib.hid hn
  have HC := Lib.hid hc
  have HR4 := Lib.hid g4
  have HSn := Lib.hid gS.1
  rw [hn] at BA B0 c0 g1 g5
  rw [hn]
  clear hc hg g4 gS hn
  go_enter Tryd.func24, Tryd.ntmps24
  go_wp2_with fail
  generalize w.alloc (.cells #[.int .i64 (H : Int), .slice a n cap] 24) = w0 at *
  clear c0
  go_loopw [3, 4, 5, 6] (fun s k _ _ wr => ∃ (j q : Nat) (b : ByteArray), j + q = H ∧ k = .int .i64 ((q : Int) - 1) ∧ s = .string b ∧ Hid (b = bs (textT Y H j)) ∧ Hid (Below w0.heap.size w0 wr)) (fun _ k _ _ _ => (intOf k + 1).toNat)
  case atStart => exact ⟨0, H, bs [], by omega, by first | rfl | exact val_i (by omega), rfl, Lib.hid rfl, Lib.hid (Below.refl _ _)⟩
  case round =>
    obtain ⟨j, q, b, hjq, rfl, rfl, HB, HW⟩ := hrel
    rename World => wo
    match q, hjq with
    | r + 1, hjq =>
      have hr : ((r + 1 : Nat) : Int) - 1 = (r : Int) := by omega
      rw [hr]
      have hr0 : (0 : Int) ≤ (r : Int) := by omega
      clear hr
      go_wp2_with fail
      go_loopw [3, 5, 6] (fun s ii _ wr => ∃ (i : Nat) (b : ByteArray), i ≤ n ∧ ii = .int .i64 i ∧ s = .string b ∧ Hid (b = bs (textT Y H j ++ lineT Y r i)) ∧ Hid (Below w0.heap.size w0 wr)) (fun _ ii _ _ => n - (intOf ii).toNat)
      case atStart => exact ⟨0, b, Nat.zero_le _, rfl, rfl, Lib.hid (by rw [HB.out]; simp [lineT]), HW⟩
      case round =>
        obtain ⟨i, b2, hi, rfl, rfl, HB2, HW2⟩ := hrel
        rename World => wi
        have hb2 : b2.size ≤ 63 := by rw [HB2.out, bs_size]; exact part_len (by have := HN.out; omega) _ _ _ _ (by omega) (by omega)
        have hcA := (HW2.out.cell (p := ⟨w.heap.size, 1, none⟩) BA.out.1).trans BA.out.2.2
        by_cases hin : i < n
        · obtain ⟨l, hl⟩ := get_at HN.out hin
          obtain ⟨g, off, rfl, hg0, hcc⟩ := HC.out (by have := HN.out; omega)
          obtain ⟨u, hu', hil⟩ := hcc i l hl
          have hbW := B0.out.trans (HW2.out.mono B0.out.size)
          have hu := (hbW.cell (p := ⟨g, off + i, none⟩) hg0).trans hu'
          have HL := Lib.hid (getD_of hl)
          have hl4 := HR4.out l (List.mem_of_getElem? hl)
          have HIL := Lib.hid (hil.below hbW)
          obtain ⟨a2, c2, rfl⟩ := hil.form
          obtain ⟨m, hm⟩ : ∃ m, l.length = m := ⟨_, rfl⟩
          have HM := Lib.hid hm
          have HFl := Lib.hid (fun (x : Int) (hx : x ∈ l) => HSn.out x (List.mem_flatten.2 ⟨l, List.mem_of_getElem? hl, hx⟩))
          rw [hm] at hu hl4
          obtain ⟨b3, hb3⟩ : ∃ b3, (if 0 < i then b2 ++ { data := #[32] } else b2) = b3 := ⟨_, rfl⟩
          have HB3 : Hid (b3 = bs (textT Y H j ++ (lineT Y r i ++ (if 0 < i then [32] else [])))) := Lib.hid (by
            rw [← hb3, HB2.out]
            split
            · rw [show ({ data := #[32] } : ByteArray) = bs [32] from rfl, bs_app, List.append_assoc]
            · simp)
          have hs3 : b3.size ≤ 64 := by rw [HB3.out, bs_size]; have := part_len (Y := Y) (by have := HN.out; omega) H j r i (by omega) (by omega); simp only [List.length_append] at this ⊢; split <;> simp <;> omega
          clear hl hcc hil hu' hbW hm
          by_cases hrm : r < m
          · obtain ⟨x, hx⟩ := get_at (k := r) HM.out hrm
            have hxr := HFl.out x (List.mem_of_getElem? hx)
            obtain ⟨xn, rfl⟩ : ∃ xn : Nat, x = (xn : Int) := ⟨x.toNat, by omega⟩
            obtain ⟨g2, off2, rfl, hxc⟩ : ∃ g2 off2, a2 = some ⟨g2, off2, none⟩ ∧ wi.cell? ⟨g2, off2 + r, none⟩ = some (.int .i64 (xn : Int)) := by
              obtain ⟨aa, cc, e, hh4⟩ := HIL.out
              injection e with e1 e2 e3
              obtain ⟨g4, off4, e4, hl4, hc4⟩ := hh4 (by have := HM.out; omega)
              exact ⟨g4, off4, e1.trans e4, hc4 r _ hx⟩
            obtain ⟨dq, hdq⟩ : ∃ dq, xn / 10 = dq := ⟨_, rfl⟩
            obtain ⟨dr, hdr⟩ : ∃ dr, xn % 10 = dr := ⟨_, rfl⟩
            have hq10 : dq < 10 := by omega
            have hr10 : dr < 10 := by omega
            have HCt : Hid (cellT l r = [UInt8.ofNat (48 + dq), UInt8.ofNat (48 + dr)]) := Lib.hid (by rw [cellT_some hx, hdq, hdr])
            have HBn : Hid ((b3 ++ dgB dq) ++ dgB dr = bs (textT Y H j ++ lineT Y r (i + 1))) := Lib.hid (by
              rw [HB3.out, dgB, dgB, bs_app, bs_app]
              simp only [lineT]
              rw [HL.out, HCt.out]
              simp)
            have hquo : (xn : Int).tdiv 10 = (dq : Int) := by rw [← hdq]; exact (Int.ofNat_tdiv xn 10).symm
            have hrem : (xn : Int).tmod 10 = (dr : Int) := by rw [← hdr]; exact (Int.ofNat_tmod xn 10).symm
            have hd1 := fun W => dig_run dq hq10 W
            have hd2 := fun W => dig_run dr hr10 W
            have hge : ¬ (m : Int) ≤ (r : Int) := by omega
            have hsz1 : (dgB dq).size = 1 := rfl
            have hsz2 : (dgB dr).size = 1 := rfl
            generalize dgB dq = d1 at *
            generalize dgB dr = d2 at *
            clear hx hxr hdq hdr
            by_cases hi0 : 0 < i
            · have hi0I : (0 : Int) < (i : Int) := by omega
              rw [if_pos hi0] at hb3
              go_wp2_with fail
              go_quiet (fail)
              go_wp2_with fail
              exact ⟨⟨i + 1, _, by omega, by go_num, rfl, HBn, Lib.hid (below_drewN HW2.out _)⟩, by simp [intOf]; omega⟩
            · have hi0I : ¬ (0 : Int) < (i : Int) := by omega
              rw [if_neg hi0] at hb3
              subst hb3
              go_wp2_with fail
              go_quiet (fail)
              go_wp2_with fail
              exact ⟨⟨i + 1, _, by omega, by go_num, rfl, HBn, Lib.hid (below_drewN HW2.out _)⟩, by simp [intOf]; omega⟩
          · have hge : (m : Int) ≤ (r : Int) := by omega
            have HBn : Hid (b3 ++ { data := #[46, 46] } = bs (textT Y H j ++ lineT Y r (i + 1))) := Lib.hid (by
              rw [HB3.out, show ({ data := #[46, 46] } : ByteArray) = bs [46, 46] from rfl, bs_app]
              simp only [lineT]
              rw [HL.out, cellT_none (by have := HM.out; omega)]
              simp)
            by_cases hi0 : 0 < i
            · have hi0I : (0 : Int) < (i : Int) := by omega
              rw [if_pos hi0] at hb3
              go_wp2_with fail
              exact ⟨⟨i + 1, _, by omega, by go_num, rfl, HBn, HW2⟩, by simp [intOf]; omega⟩
            · have hi0I : ¬ (0 : Int) < (i : Int) := by omega
              rw [if_neg hi0] at hb3
              subst hb3
              go_wp2_with fail
              exact ⟨⟨i + 1, _, by omega, by go_num, rfl, HBn, HW2⟩, by simp [intOf]; omega⟩
        · obtain rfl : i = n := by omega
          have HBn : Hid (b2 ++ { data := #[10] } = bs (textT Y H (j + 1))) := Lib.hid (by
            rw [HB2.out, show ({ data := #[10] } : ByteArray) = bs [10] from rfl, bs_app]
            simp only [textT]
            rw [HN.out, show H - 1 - j = r by omega])
          go_wp2_with fail
          exact ⟨⟨j + 1, r, _, by omega, rfl, rfl, HBn, HW2⟩, by simp [intOf]⟩
    | 0, hjq =>
      obtain rfl : j = H := by omega
      have HE : Hid (Ending.returned (.string b) = .returned (.string (bs (textT Y j j)))) := Lib.hid (by rw [HB.out])
      go_wp2_with fail
      go_ret
      exact ⟨HE.out, B0.out.trans (HW.out.mono B0.out.size)⟩

/-- What the two BayText answer. -/
def btx (hh : Int) (Y : List (List Int)) : ByteArray := if goodB hh Y = true then bs (textT Y hh.toNat hh.toNat) else bs []

end Go.Proofs.YtfbeoficgkkamaaDoor
