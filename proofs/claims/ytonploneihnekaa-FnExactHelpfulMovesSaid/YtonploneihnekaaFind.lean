/-
  spec.l5Find and the two PlaceOf. No statement of the seat by itself.
-/
import Derived.Test.YtonploneihnekaaPlace
import Derived.OwnWalk
namespace Go.Proofs.Ytonploneihnekaa
open Go.RowKit

/-- What l5Find answers. -/
def findV (Y : List (List Int)) (x : Int) : Value := match placeY Y x with
  | none => .tuple #[.int .i64 (-1), .int .i64 (-1)]
  | some (i, k) => .tuple #[.int .i64 (i : Int), .int .i64 (k : Int)]
theorem findV_some {Y : List (List Int)} {x : Int} {i k : Nat} (h : placeY Y x = some (i, k)) : findV Y x = .tuple #[.int .i64 (i : Int), .int .i64 (k : Int)] := by simp [findV, h]
theorem findV_none {Y : List (List Int)} {x : Int} (h : placeY Y x = none) : findV Y x = .tuple #[.int .i64 (-1), .int .i64 (-1)] := by simp [findV, h]
theorem ret_v {u v : Value} (h : u = v) : Ending.returned u = .returned v := by rw [h]

set_option maxRecDepth 100000 in
set_option maxHeartbeats 2000000 in
theorem l5Find_any (v : Value) (Y : List (List Int)) (x : Int) (h1 : Y.length ≤ 1048576) (h2 : tot Y ≤ 1048576) (w : World) (h : YdR w v Y) :
    Calls Try.prog 50 #[v, .int .i64 x] w (RetP w (findV Y x)) := by
  obtain ⟨v0, rfl, hv⟩ := h
  have BA := Box1.new w v0 31
  have B0 := Lib.hid (below_one w (.cells #[v0] 31))
  obtain ⟨a, cap, rfl, hc⟩ := hv
  obtain ⟨n, hn⟩ : ∃ n, Y.length = n := ⟨_, rfl⟩
  have HN := Lib.hid hn
  have HC := Lib.hid hc
  rw [hn] at h1 BA B0 ⊢
  have c0 := BA.2
  have HSm := Lib.hid (fun (j : Nat) (l : List Int) (hl : Y[j]? = some l) => show l.length ≤ 1048576 by have := row_len hl; omega)
  clear hc hn BA
  go_enter Try.func50, Try.ntmps50
  go_wp2_with fail
  generalize w.alloc (.cells #[.slice a n cap] 31) = w0 at *
  have HB := B0
  go_loop [6] (fun i => ∃ k : Nat, k ≤ n ∧ i = .int .i64 k ∧ Hid (∀ (j : Nat) (r : List Int), j < k → Y[j]? = some r → atL r x = none)) (fun i => n - (intOf i).toNat)
  case atStart => exact ⟨0, Nat.zero_le _, rfl, Lib.hid fun j r hj => by omega⟩
  case round =>
    obtain ⟨i, hi, rfl, HK⟩ := hrel
    by_cases hlt : i < n
    · obtain ⟨l, hl⟩ := get_at HN.out hlt
      obtain ⟨g, off, rfl, hg, hcc⟩ := HC.out (by have := HN.out; omega)
      obtain ⟨u, hu', hil⟩ := hcc i l hl
      have hu := (HB.out.cell (p := ⟨g, off + i, none⟩) hg).trans hu'
      have hm1 := HSm.out i l hl
      obtain ⟨a2, c2, rfl, hrow⟩ := hil
      have HR := Lib.hid hrow
      have HL := Lib.hid hl
      obtain ⟨m, hm⟩ : ∃ m, l.length = m := ⟨_, rfl⟩
      have HM := Lib.hid hm
      rw [hm] at hm1 hu
      clear hcc hl hrow hm hu'
      go_wp2_with fail
      go_loop [7] (fun kk => ∃ k : Nat, k ≤ m ∧ kk = .int .i64 k ∧ Hid (∀ (j : Nat) (y : Int), j < k → l[j]? = some y → y ≠ x)) (fun kk => m - (intOf kk).toNat)
      case atStart => exact ⟨0, Nat.zero_le _, rfl, Lib.hid fun j y hj => by omega⟩
      case round =>
        obtain ⟨k, hk, rfl, HK2⟩ := hrel
        by_cases hkm : k < m
        · obtain ⟨y, hy⟩ := get_at HM.out hkm
          obtain ⟨g2, off2, rfl, hg2, hcc2⟩ := HR.out (by have := HM.out; omega)
          have a1 := (HB.out.cell (p := ⟨g2, off2 + k, none⟩) hg2).trans (hcc2 k y hy)
          clear hcc2
          by_cases hyx : y = x
          · subst hyx
            have HX := Lib.hid (findV_some (place_some HL.out (atL_some hy HK2.out) HK.out))
            clear hy
            go_wp2_with fail
            go_ret2
            exact ⟨by rw [HX.out]; rfl, HB.out⟩
          · have HK3 : Hid (∀ (j : Nat) (z : Int), j < k + 1 → l[j]? = some z → z ≠ x) := Lib.hid fun j z hj hz => by
              by_cases e : j = k
              · subst e; rw [hy] at hz; cases hz; exact hyx
              · exact HK2.out j z (by omega) hz
            have hyb : (y == x) = false := by simpa using hyx
            clear hy hyx
            go_wp2_with fail
            go_round
            case rel => exact ⟨k + 1, by omega, by go_num, HK3⟩
            case measure => simp [intOf]; omega
        · have HK3 : Hid (∀ (j : Nat) (r : List Int), j < i + 1 → Y[j]? = some r → atL r x = none) := Lib.hid fun j r hj hr => by
            by_cases e : j = i
            · subst e
              rw [HL.out] at hr
              cases hr
              exact atL_none fun j y hy => HK2.out j y (by have := lt_of_get hy; have := HM.out; omega) hy
            · exact HK.out j r (by omega) hr
          go_wp2_with fail
          go_round
          case rel => exact ⟨i + 1, by omega, by go_num, HK3⟩
          case measure => simp [intOf]; omega
    · have HX := Lib.hid (findV_none (place_none fun j r hr => HK.out j r (by have := lt_of_get hr; have := HN.out; omega) hr))
      go_wp2_with fail
      go_ret2
      exact ⟨by rw [HX.out]; rfl, HB.out⟩

/-- What the two PlaceOf answer. -/
def plO (Y : List (List Int)) (x : Int) : Option (Nat × Nat) := if goodY Y = true then placeY Y x else none
theorem plO_good {Y : List (List Int)} {x : Int} (h : goodY Y = true) : plO Y x = placeY Y x := by simp [plO, h]
theorem plO_bad {Y : List (List Int)} {x : Int} (h : goodY Y = false) : plO Y x = none := by simp [plO, h]
def plV (Y : List (List Int)) (x : Int) : Value := match plO Y x with
  | none => .tuple #[.int .i64 0, .int .i64 0, .bool false]
  | some (i, k) => .tuple #[.int .i64 (i : Int), .int .i64 (k : Int), .bool true]
theorem plV_some {Y : List (List Int)} {x : Int} {i k : Nat} (h : plO Y x = some (i, k)) : plV Y x = .tuple #[.int .i64 (i : Int), .int .i64 (k : Int), .bool true] := by simp [plV, h]
theorem plV_none {Y : List (List Int)} {x : Int} (h : plO Y x = none) : plV Y x = .tuple #[.int .i64 0, .int .i64 0, .bool false] := by simp [plV, h]

/-- Where a number stands in a yard, as three results. -/
def pcI (Y : List (List Int)) (x : Int) : Int := match placeY Y x with
  | none => 0
  | some p => (p.1 : Int)
def pcK (Y : List (List Int)) (x : Int) : Int := match placeY Y x with
  | none => 0
  | some p => (p.2 : Int)
def pcB (Y : List (List Int)) (x : Int) : Bool := (placeY Y x).isSome
theorem pc_some {Y : List (List Int)} {x : Int} {i k : Nat} (h : placeY Y x = some (i, k)) : pcI Y x = (i : Int) ∧ pcK Y x = (k : Int) ∧ pcB Y x = true := by simp [pcI, pcK, pcB, h]
theorem pc_none {Y : List (List Int)} {x : Int} (h : placeY Y x = none) : pcI Y x = 0 ∧ pcK Y x = 0 ∧ pcB Y x = false := by simp [pcI, pcK, pcB, h]
set_option maxRecDepth 100000 in
set_option maxHeartbeats 2000000 in
theorem placeIn_any (v : Value) (Y : List (List Int)) (x : Int) (h1 : Y.length ≤ 1048576) (h2 : tot Y ≤ 1048576) (w : World) (h : YL w v Y) :
    Calls Try.prog 69 #[v, .int .i64 x] w fun e w' => e = .returned (.tuple #[.int .i64 (pcI Y x), .int .i64 (pcK Y x), .bool (pcB Y x)]) ∧ w = w' := by
  obtain ⟨a, cap, rfl, hc⟩ := h
  obtain ⟨n, hn⟩ : ∃ n, Y.length = n := ⟨_, rfl⟩
  have HN := Lib.hid hn
  have HC := Lib.hid hc
  rw [hn] at h1 ⊢
  have HSm := Lib.hid (fun (j : Nat) (l : List Int) (hl : Y[j]? = some l) => show l.length ≤ 1048576 by have := row_len hl; omega)
  clear hc hn h2
  go_enter Try.func69, Try.ntmps69
  go_wp2_with fail
  go_loop [12] (fun i => ∃ k : Nat, k ≤ n ∧ i = .int .i64 k ∧ Hid (∀ (j : Nat) (r : List Int), j < k → Y[j]? = some r → atL r x = none)) (fun i => n - (intOf i).toNat)
  case atStart => exact ⟨0, Nat.zero_le _, rfl, Lib.hid fun j r hj => by omega⟩
  case round =>
    obtain ⟨i, hi, rfl, HK⟩ := hrel
    by_cases hlt : i < n
    · obtain ⟨l, hl⟩ := get_at HN.out hlt
      obtain ⟨g, off, rfl, hg, hcc⟩ := HC.out (by have := HN.out; omega)
      obtain ⟨u, hu, hil⟩ := hcc i l hl
      have HI := Lib.hid (index_any u l x (small_len (HSm.out i l hl)) w hil)
      obtain ⟨a2, c2, rfl⟩ := hil.form
      obtain ⟨m, hm⟩ : ∃ m, l.length = m := ⟨_, rfl⟩
      rw [hm] at HI hu
      clear hcc hm hil
      cases hat : atL l x with
      | none =>
        rw [atI_none hat] at HI
        have HK3 : Hid (∀ (j : Nat) (r : List Int), j < i + 1 → Y[j]? = some r → atL r x = none) := Lib.hid fun j r hj hr => by
          by_cases e : j = i
          · subst e
            rw [hl] at hr
            cases hr
            exact hat
          · exact HK.out j r (by omega) hr
        clear hl hat
        go_wp2_with fail
        refine HI.out.mono ?_
        rintro e w2 ⟨rfl, rfl⟩
        go_wp2_with fail
        go_round
        case rel => exact ⟨i + 1, by omega, by go_num, HK3⟩
        case measure => simp [intOf]; omega
      | some k =>
        rw [atI_some hat] at HI
        have HX := Lib.hid (pc_some (place_some hl hat HK.out))
        clear hl hat
        go_wp2_with fail
        refine HI.out.mono ?_
        rintro e w2 ⟨rfl, rfl⟩
        go_wp2_with fail
        go_ret3
        exact ⟨by rw [HX.out.1, HX.out.2.1, HX.out.2.2]; rfl, rfl⟩
    · have HX := Lib.hid (pc_none (place_none fun j r hr => HK.out j r (by have := lt_of_get hr; have := HN.out; omega) hr))
      go_wp2_with fail
      go_ret3
      exact ⟨by rw [HX.out.1, HX.out.2.1, HX.out.2.2]; rfl, rfl⟩
theorem plV_pc {Y : List (List Int)} {x : Int} (h : goodY Y = true) : plV Y x = .tuple #[.int .i64 (pcI Y x), .int .i64 (pcK Y x), .bool (pcB Y x)] := by
  unfold plV
  rw [plO_good h]
  cases hp : placeY Y x with
  | none => rw [(pc_none hp).1, (pc_none hp).2.1, (pc_none hp).2.2]
  | some p => rw [(pc_some hp).1, (pc_some hp).2.1, (pc_some hp).2.2]

set_option maxRecDepth 100000 in
set_option maxHeartbeats 2000000 in
theorem implPlace_any (v : Value) (Y : List (List Int)) (x : Int) (h1 : Y.length ≤ 1048576) (h2 : tot Y ≤ 1048576) (w : World) (h : YdR w v Y) :
    Calls Try.prog 53 #[v, .int .i64 x] w (RetP w (plV Y x)) := by
  obtain ⟨v0, rfl, hv⟩ := h
  have BA := Box1.new w v0 31
  have B0 := Lib.hid (below_one w (.cells #[v0] 31))
  have HG := Lib.hid (good_impl (.agg #[v0]) Y h1 h2 _ ⟨v0, rfl, hv.below B0.out⟩)
  have HP : Hid (∀ W, Below w.heap.size w W → Calls Try.prog 69 #[v0, .int .i64 x] W fun e w' => e = .returned (.tuple #[.int .i64 (pcI Y x), .int .i64 (pcK Y x), .bool (pcB Y x)]) ∧ W = w') := Lib.hid fun W hb => placeIn_any v0 Y x h1 h2 W (hv.below hb)
  have HBA := Lib.hid BA
  clear BA hv
  cases hg : goodY Y with
  | false =>
    have HX := Lib.hid (plV_none (x := x) (plO_bad hg))
    rw [hg] at HG
    clear hg
    go_enter Try.func53, Try.ntmps53
    go_wp2_with fail
    refine HG.out.mono ?_
    rintro e w1 ⟨rfl, hb⟩
    have B1 := Lib.hid (B0.out.trans (hb.mono B0.out.size))
    clear hb
    go_wp2_with fail
    go_ret3
    exact ⟨by rw [HX.out]; rfl, B1.out⟩
  | true =>
    have HGd := Lib.hid (plV_pc (x := x) hg)
    rw [hg] at HG
    clear hg
    go_enter Try.func53, Try.ntmps53
    go_wp2_with fail
    refine HG.out.mono ?_
    rintro e w1 ⟨rfl, hb⟩
    have HB := Lib.hid (B0.out.trans (hb.mono B0.out.size))
    have c1 := (HBA.out.below hb).2
    clear hb
    go_wp2_with fail
    refine (HP.out _ HB.out).mono ?_
    rintro e w2 ⟨rfl, rfl⟩
    go_wp2_with fail
    go_ret3
    exact ⟨by rw [HGd.out]; rfl, HB.out⟩
def plI (Y : List (List Int)) (x : Int) : Int := match plO Y x with
  | none => 0
  | some p => (p.1 : Int)
def plK (Y : List (List Int)) (x : Int) : Int := match plO Y x with
  | none => 0
  | some p => (p.2 : Int)
def plB (Y : List (List Int)) (x : Int) : Bool := (plO Y x).isSome
theorem plV_eq (Y : List (List Int)) (x : Int) : plV Y x = .tuple #[.int .i64 (plI Y x), .int .i64 (plK Y x), .bool (plB Y x)] := by
  unfold plV plI plK plB
  cases plO Y x with
  | none => rfl
  | some p => rfl
theorem implPlace_eq (v : Value) (Y : List (List Int)) (x : Int) (h1 : Y.length ≤ 1048576) (h2 : tot Y ≤ 1048576) (w : World) (h : YdR w v Y) :
    Calls Try.prog 53 #[v, .int .i64 x] w (RetP w (.tuple #[.int .i64 (plI Y x), .int .i64 (plK Y x), .bool (plB Y x)])) := by
  rw [← plV_eq]; exact implPlace_any v Y x h1 h2 w h
end Go.Proofs.Ytonploneihnekaa
