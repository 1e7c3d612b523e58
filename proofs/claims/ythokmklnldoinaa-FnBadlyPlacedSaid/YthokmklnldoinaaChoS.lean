/-
  What spec.l8Choose, the two ChooseStack and impl.suitsBetter return. No statement of the seat by itself.
-/
import Derived.Test.YthokmklnldoinaaArr
import Derived.Test.YthokmklnldoinaaEarI
import Derived.Test.YthokmklnldoinaaPlcR
namespace Go.Proofs.Ythokmklnldoinaa
open Go.RowKit

theorem choS_lt (n : Int) (Y : List (List Int)) : ∀ i, (∀ g, (choS n Y i).1 = some g → g < i) ∧ (∀ b, (choS n Y i).2 = some b → b < i)
  | 0 => ⟨fun g h => by simp [choS] at h, fun b h => by simp [choS] at h⟩
  | i + 1 => by
    have ih := choS_lt n Y i
    rw [choS]
    split
    · exact ⟨fun g h => by have := ih.1 g h; omega, fun b h => by have := ih.2 b h; omega⟩
    · refine ⟨fun g h => ?_, fun b h => ?_⟩
      · simp only at h
        split at h
        · cases h; omega
        · have := ih.1 g h; omega
      · simp only at h
        split at h
        · cases h; omega
        · have := ih.2 b h; omega
theorem choS_full {n : Int} {Y : List (List Int)} {i : Nat} {l : List Int} (hl : Y[i]? = some l) (h : l.length = 4) : choS n Y (i + 1) = choS n Y i := by
  rw [choS, getD_of hl, if_pos h]
theorem choS_open {n : Int} {Y : List (List Int)} {i : Nat} {l : List Int} (hl : Y[i]? = some l) (h : ¬ l.length = 4) : choS n Y (i + 1) =
    (if (decide (n < earL l) && lessO (earL l) Y (choS n Y i).1) = true then some i else (choS n Y i).1, if moreO (earL l) Y (choS n Y i).2 = true then some i else (choS n Y i).2) := by
  rw [choS, getD_of hl, if_neg h, earY_of hl]
theorem choE_fst {s : Option Nat × Option Nat} {g : Nat} (h : s.1 = some g) : choE s = some g := by
  obtain ⟨a, b⟩ := s
  simp only at h
  subst h
  rfl
theorem choE_snd {s : Option Nat × Option Nat} (h : s.1 = none) : choE s = s.2 := by
  obtain ⟨a, b⟩ := s
  simp only at h
  subst h
  rfl

set_option maxRecDepth 100000 in
set_option maxHeartbeats 16000000 in
theorem l8Choose_any (v : Value) (Y : List (List Int)) (x : Int) (hgd : goodY Y = true) (w : World) (h : YdR w v Y) :
    Calls Try.prog 55 #[v, .int .i64 x] w (RetP w (.int .i64 (pkO (choY x Y)))) := by
  obtain ⟨v0, rfl, hv⟩ := h
  have BA := Lib.hid (Box1.new w v0 26)
  have B0 := Lib.hid (below_one w (.cells #[v0] 26))
  have hv2 := hv.below B0.out
  obtain ⟨a, cap, rfl, hc⟩ := hv2
  obtain ⟨n, hn⟩ : ∃ n, Y.length = n := ⟨_, rfl⟩
  have HN := Lib.hid hn
  have h6 := (goodY_iff.1 hgd).2.1
  have H4 := Lib.hid (goodY_iff.1 hgd).2.2.1
  have HX : Hid (choY x Y = choE (choS x Y n)) := Lib.hid (by rw [choY, hn]; exact (cho_inv x Y n).1)
  have hc0 := BA.out.2
  rw [hn] at h6 hc0
  have HRow : Hid (∃ g off, ∀ (j : Nat) (l : List Int), Y[j]? = some l → a = some ⟨g, off, none⟩ ∧ ∃ u, (w.alloc (.cells #[.slice a n cap] 26)).cell? ⟨g, off + j, none⟩ = some u ∧ (∃ a2 c2, u = .slice a2 l.length c2) ∧ Calls Try.prog 62 #[u] (w.alloc (.cells #[.slice a n cap] 26)) fun e w' => e = .returned (.int .i64 (earL l)) ∧ (w.alloc (.cells #[.slice a n cap] 26)) = w') := Lib.hid (by
    rw [hn] at hc
    have hn1 := (goodY_iff.1 hgd).1
    obtain ⟨g, off, e, hg, hcc⟩ := hc (by omega)
    refine ⟨g, off, fun j l hl => ⟨e, ?_⟩⟩
    obtain ⟨u, hu, hil⟩ := hcc j l hl
    have h4 := H4.out l (List.mem_of_getElem? hl)
    exact ⟨u, hu, hil.form, l8Earliest_any u l (by omega) _ hil⟩)
  have HB : Hid (Below w.heap.size w (w.alloc (.cells #[.slice a n cap] 26))) := Lib.hid (by rw [← hn]; exact B0.out)
  rw [hn]
  clear hc hgd hn BA B0 hv
  go_enter Try.func55, Try.ntmps55
  go_wp2_with fail
  generalize w.alloc (.cells #[.slice a n cap] 26) = w0 at *
  go_loop [5, 6, 7] (fun gd bd i => ∃ k : Nat, k ≤ n ∧ i = .int .i64 k ∧ gd = .int .i64 (pkO (choS x Y k).1) ∧ bd = .int .i64 (pkO (choS x Y k).2)) (fun _ _ i => n - (intOf i).toNat)
  case atStart => exact ⟨0, Nat.zero_le _, rfl, rfl, rfl⟩
  case round =>
    obtain ⟨k, hk, rfl, rfl, rfl⟩ := hrel
    by_cases hlt : k < n
    · obtain ⟨l, hl⟩ := get_at HN.out hlt
      obtain ⟨g, off, hrows⟩ := HRow.out
      obtain ⟨rfl, u, hu, ⟨a2, c2, rfl⟩, hE⟩ := hrows k l hl
      have HE := Lib.hid hE
      have h4 := H4.out l (List.mem_of_getElem? hl)
      have hlts := choS_lt x Y k
      by_cases hm : l.length = 4
      · have HS := Lib.hid (choS_full (n := x) hl hm)
        rw [hm] at hu
        clear hrows hE hlts
        go_wp2_with fail
        go_round
        case rel => exact ⟨k + 1, by omega, by go_num, by rw [HS.out], by rw [HS.out]⟩
        case measure => simp [intOf]; omega
      · have HS := Lib.hid (choS_open (n := x) hl hm)
        have hmI : (((l.length : Nat) : Int) == 4) = false := beq_eq_false_iff_ne.2 (by omega)
        generalize l.length = m at *
        generalize earL l = z at *
        generalize choS x Y k = s at *
        obtain ⟨sg, sb⟩ := s
        simp only at hlts HS ⊢
        clear hE hl
        by_cases hz : x < z
        · cases sg with
          | none =>
            have hg0 : decide ((-1 : Int) < 0) = true := by decide
            cases sb with
            | none =>
              have hb0 : decide ((-1 : Int) < 0) = true := by decide
              clear hrows
              simp only [pkO]
              go_wp2_with fail
              refine HE.out.mono ?_
              rintro e w9 ⟨rfl, rfl⟩
              go_wp2_with fail
              have q0 : x < z := by omega
              have HE1 : Hid (choS x Y (k + 1) = (some k, some k)) := Lib.hid (by
                rw [HS.out]
                rw [if_pos (by rw [decide_eq_true q0]; rfl), if_pos (show moreO z Y none = true from rfl)])
              go_round
              case rel => exact ⟨k + 1, by omega, by go_num, by rw [HE1.out], by rw [HE1.out]⟩
              case measure => simp [intOf]; omega
            | some b =>
              obtain ⟨lb, hlb⟩ := get_at HN.out (show b < n by have := hlts.2 b rfl; omega)
              obtain ⟨-, ub, hub, -, hEb⟩ := hrows b lb hlb
              have HEb := Lib.hid hEb
              have HYb := Lib.hid (earY_of hlb)
              have hbn : b < n := by have := hlts.2 b rfl; omega
              have hb1 : ¬ (b : Int) < 0 := by omega
              generalize earL lb = zb at *
              clear hEb hlb
              by_cases hzb : zb < z
              · have hzbd : decide (zb < z) = true := decide_eq_true hzb
                clear hrows
                simp only [pkO]
                go_wp2_with fail
                refine HE.out.mono ?_
                rintro e w9 ⟨rfl, rfl⟩
                go_wp2_with fail
                refine HEb.out.mono ?_
                rintro e w9 ⟨rfl, rfl⟩
                go_wp2_with fail
                have q0 : x < z := by omega
                have q2 : zb < z := by omega
                have HE1 : Hid (choS x Y (k + 1) = (some k, some k)) := Lib.hid (by
                  rw [HS.out]
                  rw [if_pos (by rw [decide_eq_true q0]; rfl), if_pos (by simp only [moreO, HYb.out]; exact decide_eq_true q2)])
                go_round
                case rel => exact ⟨k + 1, by omega, by go_num, by rw [HE1.out], by rw [HE1.out]⟩
                case measure => simp [intOf]; omega
              · have hzbd : decide (zb < z) = false := decide_eq_false hzb
                clear hrows
                simp only [pkO]
                go_wp2_with fail
                refine HE.out.mono ?_
                rintro e w9 ⟨rfl, rfl⟩
                go_wp2_with fail
                refine HEb.out.mono ?_
                rintro e w9 ⟨rfl, rfl⟩
                go_wp2_with fail
                have q0 : x < z := by omega
                have q2 : ¬ zb < z := by omega
                have HE1 : Hid (choS x Y (k + 1) = (some k, some b)) := Lib.hid (by
                  rw [HS.out]
                  rw [if_pos (by rw [decide_eq_true q0]; rfl), if_neg (by simp only [moreO, HYb.out]; rw [decide_eq_false q2]; simp)])
                go_round
                case rel => exact ⟨k + 1, by omega, by go_num, by rw [HE1.out], by rw [HE1.out]⟩
                case measure => simp [intOf]; omega
          | some gg =>
            obtain ⟨lg, hlg⟩ := get_at HN.out (show gg < n by have := hlts.1 gg rfl; omega)
            obtain ⟨-, ug, hug, -, hEg⟩ := hrows gg lg hlg
            have HEg := Lib.hid hEg
            have HYg := Lib.hid (earY_of hlg)
            have hgn : gg < n := by have := hlts.1 gg rfl; omega
            have hg1 : ¬ (gg : Int) < 0 := by omega
            generalize earL lg = zg at *
            clear hEg hlg
            by_cases hzg : z < zg
            · have hzgd : decide (z < zg) = true := decide_eq_true hzg
              cases sb with
              | none =>
                have hb0 : decide ((-1 : Int) < 0) = true := by decide
                clear hrows
                simp only [pkO]
                go_wp2_with fail
                refine HE.out.mono ?_
                rintro e w9 ⟨rfl, rfl⟩
                go_wp2_with fail
                refine HEg.out.mono ?_
                rintro e w9 ⟨rfl, rfl⟩
                go_wp2_with fail
                have q0 : x < z := by omega
                have q1 : z < zg := by omega
                have HE1 : Hid (choS x Y (k + 1) = (some k, some k)) := Lib.hid (by
                  rw [HS.out]
                  rw [if_pos (by rw [decide_eq_true q0]; simp only [lessO, HYg.out]; rw [decide_eq_true q1]; rfl), if_pos (show moreO z Y none = true from rfl)])
                go_round
                case rel => exact ⟨k + 1, by omega, by go_num, by rw [HE1.out], by rw [HE1.out]⟩
                case measure => simp [intOf]; omega
              | some b =>
                obtain ⟨lb, hlb⟩ := get_at HN.out (show b < n by have := hlts.2 b rfl; omega)
                obtain ⟨-, ub, hub, -, hEb⟩ := hrows b lb hlb
                have HEb := Lib.hid hEb
                have HYb := Lib.hid (earY_of hlb)
                have hbn : b < n := by have := hlts.2 b rfl; omega
                have hb1 : ¬ (b : Int) < 0 := by omega
                generalize earL lb = zb at *
                clear hEb hlb
                by_cases hzb : zb < z
                · have hzbd : decide (zb < z) = true := decide_eq_true hzb
                  clear hrows
                  simp only [pkO]
                  go_wp2_with fail
                  refine HE.out.mono ?_
                  rintro e w9 ⟨rfl, rfl⟩
                  go_wp2_with fail
                  refine HEg.out.mono ?_
                  rintro e w9 ⟨rfl, rfl⟩
                  go_wp2_with fail
                  refine HEb.out.mono ?_
                  rintro e w9 ⟨rfl, rfl⟩
                  go_wp2_with fail
                  have q0 : x < z := by omega
                  have q1 : z < zg := by omega
                  have q2 : zb < z := by omega
                  have HE1 : Hid (choS x Y (k + 1) = (some k, some k)) := Lib.hid (by
                    rw [HS.out]
                    rw [if_pos (by rw [decide_eq_true q0]; simp only [lessO, HYg.out]; rw [decide_eq_true q1]; rfl), if_pos (by simp only [moreO, HYb.out]; exact decide_eq_true q2)])
                  go_round
                  case rel => exact ⟨k + 1, by omega, by go_num, by rw [HE1.out], by rw [HE1.out]⟩
                  case measure => simp [intOf]; omega
                · have hzbd : decide (zb < z) = false := decide_eq_false hzb
                  clear hrows
                  simp only [pkO]
                  go_wp2_with fail
                  refine HE.out.mono ?_
                  rintro e w9 ⟨rfl, rfl⟩
                  go_wp2_with fail
                  refine HEg.out.mono ?_
                  rintro e w9 ⟨rfl, rfl⟩
                  go_wp2_with fail
                  refine HEb.out.mono ?_
                  rintro e w9 ⟨rfl, rfl⟩
                  go_wp2_with fail
                  have q0 : x < z := by omega
                  have q1 : z < zg := by omega
                  have q2 : ¬ zb < z := by omega
                  have HE1 : Hid (choS x Y (k + 1) = (some k, some b)) := Lib.hid (by
                    rw [HS.out]
                    rw [if_pos (by rw [decide_eq_true q0]; simp only [lessO, HYg.out]; rw [decide_eq_true q1]; rfl), if_neg (by simp only [moreO, HYb.out]; rw [decide_eq_false q2]; simp)])
                  go_round
                  case rel => exact ⟨k + 1, by omega, by go_num, by rw [HE1.out], by rw [HE1.out]⟩
                  case measure => simp [intOf]; omega
            · have hzgd : decide (z < zg) = false := decide_eq_false hzg
              cases sb with
              | none =>
                have hb0 : decide ((-1 : Int) < 0) = true := by decide
                clear hrows
                simp only [pkO]
                go_wp2_with fail
                refine HE.out.mono ?_
                rintro e w9 ⟨rfl, rfl⟩
                go_wp2_with fail
                refine HEg.out.mono ?_
                rintro e w9 ⟨rfl, rfl⟩
                go_wp2_with fail
                have q0 : x < z := by omega
                have q1 : ¬ z < zg := by omega
                have HE1 : Hid (choS x Y (k + 1) = (some gg, some k)) := Lib.hid (by
                  rw [HS.out]
                  rw [if_neg (by rw [decide_eq_true q0]; simp only [lessO, HYg.out]; rw [decide_eq_false q1]; simp), if_pos (show moreO z Y none = true from rfl)])
                go_round
                case rel => exact ⟨k + 1, by omega, by go_num, by rw [HE1.out], by rw [HE1.out]⟩
                case measure => simp [intOf]; omega
              | some b =>
                obtain ⟨lb, hlb⟩ := get_at HN.out (show b < n by have := hlts.2 b rfl; omega)
                obtain ⟨-, ub, hub, -, hEb⟩ := hrows b lb hlb
                have HEb := Lib.hid hEb
                have HYb := Lib.hid (earY_of hlb)
                have hbn : b < n := by have := hlts.2 b rfl; omega
                have hb1 : ¬ (b : Int) < 0 := by omega
                generalize earL lb = zb at *
                clear hEb hlb
                by_cases hzb : zb < z
                · have hzbd : decide (zb < z) = true := decide_eq_true hzb
                  clear hrows
                  simp only [pkO]
                  go_wp2_with fail
                  refine HE.out.mono ?_
                  rintro e w9 ⟨rfl, rfl⟩
                  go_wp2_with fail
                  refine HEg.out.mono ?_
                  rintro e w9 ⟨rfl, rfl⟩
                  go_wp2_with fail
                  refine HEb.out.mono ?_
                  rintro e w9 ⟨rfl, rfl⟩
                  go_wp2_with fail
                  have q0 : x < z := by omega
                  have q1 : ¬ z < zg := by omega
                  have q2 : zb < z := by omega
                  have HE1 : Hid (choS x Y (k + 1) = (some gg, some k)) := Lib.hid (by
                    rw [HS.out]
                    rw [if_neg (by rw [decide_eq_true q0]; simp only [lessO, HYg.out]; rw [decide_eq_false q1]; simp), if_pos (by simp only [moreO, HYb.out]; exact decide_eq_true q2)])
                  go_round
                  case rel => exact ⟨k + 1, by omega, by go_num, by rw [HE1.out], by rw [HE1.out]⟩
                  case measure => simp [intOf]; omega
                · have hzbd : decide (zb < z) = false := decide_eq_false hzb
                  clear hrows
                  simp only [pkO]
                  go_wp2_with fail
                  refine HE.out.mono ?_
                  rintro e w9 ⟨rfl, rfl⟩
                  go_wp2_with fail
                  refine HEg.out.mono ?_
                  rintro e w9 ⟨rfl, rfl⟩
                  go_wp2_with fail
                  refine HEb.out.mono ?_
                  rintro e w9 ⟨rfl, rfl⟩
                  go_wp2_with fail
                  have q0 : x < z := by omega
                  have q1 : ¬ z < zg := by omega
                  have q2 : ¬ zb < z := by omega
                  have HE1 : Hid (choS x Y (k + 1) = (some gg, some b)) := Lib.hid (by
                    rw [HS.out]
                    rw [if_neg (by rw [decide_eq_true q0]; simp only [lessO, HYg.out]; rw [decide_eq_false q1]; simp), if_neg (by simp only [moreO, HYb.out]; rw [decide_eq_false q2]; simp)])
                  go_round
                  case rel => exact ⟨k + 1, by omega, by go_num, by rw [HE1.out], by rw [HE1.out]⟩
                  case measure => simp [intOf]; omega
        · have hzd : decide (x < z) = false := decide_eq_false hz
          cases sg with
          | none =>
            cases sb with
            | none =>
              have hb0 : decide ((-1 : Int) < 0) = true := by decide
              clear hrows
              simp only [pkO]
              go_wp2_with fail
              refine HE.out.mono ?_
              rintro e w9 ⟨rfl, rfl⟩
              go_wp2_with fail
              have q0 : ¬ x < z := by omega
              have HE1 : Hid (choS x Y (k + 1) = (none, some k)) := Lib.hid (by
                rw [HS.out]
                rw [if_neg (by rw [decide_eq_false q0]; simp), if_pos (show moreO z Y none = true from rfl)])
              go_round
              case rel => exact ⟨k + 1, by omega, by go_num, by rw [HE1.out], by rw [HE1.out]⟩
              case measure => simp [intOf]; omega
            | some b =>
              obtain ⟨lb, hlb⟩ := get_at HN.out (show b < n by have := hlts.2 b rfl; omega)
              obtain ⟨-, ub, hub, -, hEb⟩ := hrows b lb hlb
              have HEb := Lib.hid hEb
              have HYb := Lib.hid (earY_of hlb)
              have hbn : b < n := by have := hlts.2 b rfl; omega
              have hb1 : ¬ (b : Int) < 0 := by omega
              generalize earL lb = zb at *
              clear hEb hlb
              by_cases hzb : zb < z
              · have hzbd : decide (zb < z) = true := decide_eq_true hzb
                clear hrows
                simp only [pkO]
                go_wp2_with fail
                refine HE.out.mono ?_
                rintro e w9 ⟨rfl, rfl⟩
                go_wp2_with fail
                refine HEb.out.mono ?_
                rintro e w9 ⟨rfl, rfl⟩
                go_wp2_with fail
                have q0 : ¬ x < z := by omega
                have q2 : zb < z := by omega
                have HE1 : Hid (choS x Y (k + 1) = (none, some k)) := Lib.hid (by
                  rw [HS.out]
                  rw [if_neg (by rw [decide_eq_false q0]; simp), if_pos (by simp only [moreO, HYb.out]; exact decide_eq_true q2)])
                go_round
                case rel => exact ⟨k + 1, by omega, by go_num, by rw [HE1.out], by rw [HE1.out]⟩
                case measure => simp [intOf]; omega
              · have hzbd : decide (zb < z) = false := decide_eq_false hzb
                clear hrows
                simp only [pkO]
                go_wp2_with fail
                refine HE.out.mono ?_
                rintro e w9 ⟨rfl, rfl⟩
                go_wp2_with fail
                refine HEb.out.mono ?_
                rintro e w9 ⟨rfl, rfl⟩
                go_wp2_with fail
                have q0 : ¬ x < z := by omega
                have q2 : ¬ zb < z := by omega
                have HE1 : Hid (choS x Y (k + 1) = (none, some b)) := Lib.hid (by
                  rw [HS.out]
                  rw [if_neg (by rw [decide_eq_false q0]; simp), if_neg (by simp only [moreO, HYb.out]; rw [decide_eq_false q2]; simp)])
                go_round
                case rel => exact ⟨k + 1, by omega, by go_num, by rw [HE1.out], by rw [HE1.out]⟩
                case measure => simp [intOf]; omega
          | some gg =>
            cases sb with
            | none =>
              have hb0 : decide ((-1 : Int) < 0) = true := by decide
              clear hrows
              simp only [pkO]
              go_wp2_with fail
              refine HE.out.mono ?_
              rintro e w9 ⟨rfl, rfl⟩
              go_wp2_with fail
              have q0 : ¬ x < z := by omega
              have HE1 : Hid (choS x Y (k + 1) = (some gg, some k)) := Lib.hid (by
                rw [HS.out]
                rw [if_neg (by rw [decide_eq_false q0]; simp), if_pos (show moreO z Y none = true from rfl)])
              go_round
              case rel => exact ⟨k + 1, by omega, by go_num, by rw [HE1.out], by rw [HE1.out]⟩
              case measure => simp [intOf]; omega
            | some b =>
              obtain ⟨lb, hlb⟩ := get_at HN.out (show b < n by have := hlts.2 b rfl; omega)
              obtain ⟨-, ub, hub, -, hEb⟩ := hrows b lb hlb
              have HEb := Lib.hid hEb
              have HYb := Lib.hid (earY_of hlb)
              have hbn : b < n := by have := hlts.2 b rfl; omega
              have hb1 : ¬ (b : Int) < 0 := by omega
              generalize earL lb = zb at *
              clear hEb hlb
              by_cases hzb : zb < z
              · have hzbd : decide (zb < z) = true := decide_eq_true hzb
                clear hrows
                simp only [pkO]
                go_wp2_with fail
                refine HE.out.mono ?_
                rintro e w9 ⟨rfl, rfl⟩
                go_wp2_with fail
                refine HEb.out.mono ?_
                rintro e w9 ⟨rfl, rfl⟩
                go_wp2_with fail
                have q0 : ¬ x < z := by omega
                have q2 : zb < z := by omega
                have HE1 : Hid (choS x Y (k + 1) = (some gg, some k)) := Lib.hid (by
                  rw [HS.out]
                  rw [if_neg (by rw [decide_eq_false q0]; simp), if_pos (by simp only [moreO, HYb.out]; exact decide_eq_true q2)])
                go_round
                case rel => exact ⟨k + 1, by omega, by go_num, by rw [HE1.out], by rw [HE1.out]⟩
                case measure => simp [intOf]; omega
              · have hzbd : decide (zb < z) = false := decide_eq_false hzb
                clear hrows
                simp only [pkO]
                go_wp2_with fail
                refine HE.out.mono ?_
                rintro e w9 ⟨rfl, rfl⟩
                go_wp2_with fail
                refine HEb.out.mono ?_
                rintro e w9 ⟨rfl, rfl⟩
                go_wp2_with fail
                have q0 : ¬ x < z := by omega
                have q2 : ¬ zb < z := by omega
                have HE1 : Hid (choS x Y (k + 1) = (some gg, some b)) := Lib.hid (by
                  rw [HS.out]
                  rw [if_neg (by rw [decide_eq_false q0]; simp), if_neg (by simp only [moreO, HYb.out]; rw [decide_eq_false q2]; simp)])
                go_round
                case rel => exact ⟨k + 1, by omega, by go_num, by rw [HE1.out], by rw [HE1.out]⟩
                case measure => simp [intOf]; omega
    · obtain rfl : k = n := by omega
      obtain ⟨s, hs⟩ : ∃ s, choS x Y k = s := ⟨_, rfl⟩
      rw [hs] at HX ⊢
      obtain ⟨sg, sb⟩ := s
      clear hs
      cases sg with
      | none =>
        have HX2 : Hid (pkO (choY x Y) = pkO sb) := Lib.hid (by rw [HX.out]; rfl)
        rw [show pkO (none, sb).1 = -1 from rfl, show pkO (none, sb).2 = pkO sb from rfl]
        generalize pkO sb = pb at *
        have hg0 : ¬ (0 : Int) ≤ (-1 : Int) := by decide
        go_wp2_with fail
        go_ret
        exact ⟨by rw [HX2.out]; rfl, HB.out⟩
      | some gg =>
        have HX2 : Hid (pkO (choY x Y) = (gg : Int)) := Lib.hid (by rw [HX.out]; rfl)
        rw [show pkO (some gg, sb).1 = (gg : Int) from rfl, show pkO (some gg, sb).2 = pkO sb from rfl]
        generalize pkO sb = pb at *
        have hg0 : (0 : Int) ≤ (gg : Int) := by omega
        go_wp2_with fail
        go_ret
        exact ⟨by rw [HX2.out]; rfl, HB.out⟩
end Go.Proofs.Ythokmklnldoinaa
