/-
  Where a number stands in a bay: spec.l9Find and the two SlotOf. No statement of the seat by itself.
-/
import Derived.Test.YtececghifehjeaaHGood
import Derived.Test.YtececghifehjeaaFind
import Derived.OwnWalk
namespace Go.Proofs.Ytececghifehjeaa
open Go.RowKit

set_option maxRecDepth 100000 in
set_option maxHeartbeats 2000000 in
theorem l9Find_any (v : Value) (hh : Int) (Y : List (List Int)) (x : Int) (h1 : Y.length ≤ 1048576) (h2 : tot Y ≤ 1048576) (w : World) (h : BdR w v hh Y) :
    Calls Try.prog 116 #[v, .int .i64 x] w (RetP w (findV Y x)) := by
  obtain ⟨v0, rfl, hv⟩ := h
  have BA := Box2.new w hh v0 54
  have B0 := Lib.hid (below_one w (.cells #[.int .i64 hh, v0] 54))
  obtain ⟨a, cap, rfl, hc⟩ := hv
  obtain ⟨n, hn⟩ : ∃ n, Y.length = n := ⟨_, rfl⟩
  have HN := Lib.hid hn
  have HC := Lib.hid hc
  rw [hn] at h1 BA B0 ⊢
  have c0 := BA.2.2
  have HSm := Lib.hid (fun (j : Nat) (l : List Int) (hl : Y[j]? = some l) => show l.length ≤ 1048576 by have := row_len hl; omega)
  clear hc hn BA
  go_enter Try.func116, Try.ntmps116
  go_wp2_with fail
  generalize w.alloc (.cells #[.int .i64 hh, .slice a n cap] 54) = w0 at *
  have HB := B0
  go_loop [6] (fun i => ∃ k : Nat, k ≤ n ∧ i = .int .i64 k ∧ Hid (∀ (j : Nat) (r : List Int), j < k → Y[j]? = some r → atL r x = none)) (fun i => n - (intOf i).toNat)
  case atStart => exact ⟨0, Nat.zero_le _, rfl, Lib.hid fun j r hj => by omega⟩
  case round =>
    obtain ⟨i, hi, rfl, HK⟩ := hrel
    by_cases hlt : i < n
    · obtain ⟨l, hl⟩ := get_at HN.out hlt
      obtain ⟨g, off, rfl, hg, hcc⟩ := HC.out (by have := HN.out; omega)
      obtain ⟨u, hu', hil⟩ := hcc i l hl
      have hu := (HB.out.cell (p := ⟨g, off + i, none⟩) hg).trans hu'
      have hm1 := HSm.out i l hl
      obtain ⟨a2, c2, rfl, hrow⟩ := hil
      have HR := Lib.hid hrow
      have HL := Lib.hid hl
      obtain ⟨m, hm⟩ : ∃ m, l.length = m := ⟨_, rfl⟩
      have HM := Lib.hid hm
      rw [hm] at hm1 hu
      clear hcc hl hrow hm hu'
      go_wp2_with fail
      go_loop [7] (fun kk => ∃ k : Nat, k ≤ m ∧ kk = .int .i64 k ∧ Hid (∀ (j : Nat) (y : Int), j < k → l[j]? = some y → y ≠ x)) (fun kk => m - (intOf kk).toNat)
      case atStart => exact ⟨0, Nat.zero_le _, rfl, Lib.hid fun j y hj => by omega⟩
      case round =>
        obtain ⟨k, hk, rfl, HK2⟩ := hrel
        by_cases hkm : k < m
        · obtain ⟨y, hy⟩ := get_at HM.out hkm
          obtain ⟨g2, off2, rfl, hg2, hcc2⟩ := HR.out (by have := HM.out; omega)
          have a1 := (HB.out.cell (p := ⟨g2, off2 + k, none⟩) hg2).trans (hcc2 k y hy)
          clear hcc2
          by_cases hyx : y = x
          · subst hyx
            have HX := Lib.hid (findV_some (place_some HL.out (atL_some hy HK2.out) HK.out))
            clear hy
            go_wp2_with fail
            go_ret2
            exact ⟨by rw [HX.out]; rfl, HB.out⟩
          · have HK3 : Hid (∀ (j : Nat) (z : Int), j < k + 1 → l[j]? = some z → z ≠ x) := Lib.hid fun j z hj hz => by
              by_cases e : j = k
              · subst e; rw [hy] at hz; cases hz; exact hyx
              · exact HK2.out j z (by omega) hz
            have hyb : (y == x) = false := by simpa using hyx
            clear hy hyx
            go_wp2_with fail
            go_round
            case rel => exact ⟨k + 1, by omega, by go_num, HK3⟩
            case measure => simp [intOf]; omega
        · have HK3 : Hid (∀ (j : Nat) (r : List Int), j < i + 1 → Y[j]? = some r → atL r x = none) := Lib.hid fun j r hj hr => by
            by_cases e : j = i
            · subst e
              rw [HL.out] at hr
              cases hr
              exact atL_none fun j y hy => HK2.out j y (by have := lt_of_get hy; have := HM.out; omega) hy
            · exact HK.out j r (by omega) hr
          go_wp2_with fail
          go_round
          case rel => exact ⟨i + 1, by omega, by go_num, HK3⟩
          case measure => simp [intOf]; omega
    · have HX := Lib.hid (findV_none (place_none fun j r hr => HK.out j r (by have := lt_of_get hr; have := HN.out; omega) hr))
      go_wp2_with fail
      go_ret2
      exact ⟨by rw [HX.out]; rfl, HB.out⟩

/-- What the two SlotOf answer. -/
def slO (hh : Int) (Y : List (List Int)) (x : Int) : Option (Nat × Nat) := if goodB hh Y = true then placeY Y x else none
theorem slO_good {hh : Int} {Y : List (List Int)} {x : Int} (h : goodB hh Y = true) : slO hh Y x = placeY Y x := by simp [slO, h]
theorem slO_bad {hh : Int} {Y : List (List Int)} {x : Int} (h : goodB hh Y = false) : slO hh Y x = none := by simp [slO, h]
def slI (hh : Int) (Y : List (List Int)) (x : Int) : Int := match slO hh Y x with
  | none => 0
  | some p => (p.1 : Int)
def slK (hh : Int) (Y : List (List Int)) (x : Int) : Int := match slO hh Y x with
  | none => 0
  | some p => (p.2 : Int)
def slB (hh : Int) (Y : List (List Int)) (x : Int) : Bool := (slO hh Y x).isSome
def slV (hh : Int) (Y : List (List Int)) (x : Int) : Value := .tuple #[.int .i64 (slI hh Y x), .int .i64 (slK hh Y x), .bool (slB hh Y x)]
theorem slV_some {hh : Int} {Y : List (List Int)} {x : Int} {i k : Nat} (h : slO hh Y x = some (i, k)) : slV hh Y x = .tuple #[.int .i64 (i : Int), .int .i64 (k : Int), .bool true] := by simp [slV, slI, slK, slB, h]
theorem slV_none {hh : Int} {Y : List (List Int)} {x : Int} (h : slO hh Y x = none) : slV hh Y x = .tuple #[.int .i64 0, .int .i64 0, .bool false] := by simp [slV, slI, slK, slB, h]
theorem slV_pc {hh : Int} {Y : List (List Int)} {x : Int} (h : goodB hh Y = true) : slV hh Y x = .tuple #[.int .i64 (pcI Y x), .int .i64 (pcK Y x), .bool (pcB Y x)] := by
  cases hp : placeY Y x with
  | none => rw [(pc_none hp).1, (pc_none hp).2.1, (pc_none hp).2.2]; exact slV_none ((slO_good h).trans hp)
  | some p => rw [(pc_some hp).1, (pc_some hp).2.1, (pc_some hp).2.2]; exact slV_some ((slO_good h).trans hp)

set_option maxRecDepth 100000 in
set_option maxHeartbeats 2000000 in
theorem specSlot_any (v : Value) (hh : Int) (Y : List (List Int)) (x : Int) (h1 : Y.length ≤ 1048576) (h2 : tot Y ≤ 1048576) (w : World) (h : BdR w v hh Y) :
    Calls Try.prog 61 #[v, .int .i64 x] w (RetP w (slV hh Y x)) := by
  obtain ⟨v0, rfl, hv⟩ := h
  have BA := Box2.new w hh v0 54
  have c0 := BA.2.1
  have c0b := BA.2.2
  have B0 := Lib.hid (below_one w (.cells #[.int .i64 hh, v0] 54))
  have HBA := Lib.hid BA
  have HV := Lib.hid hv
  have HF := Lib.hid (l9Find_any (.agg #[.int .i64 hh, v0]) hh Y x h1 h2 _ ⟨v0, rfl, hv.below B0.out⟩)
  have HG : Hid (∀ W, Below w.heap.size w W → Calls Try.prog 100 #[.agg #[.int .i64 hh, v0]] W (BoolP W (goodB hh Y))) := Lib.hid fun W hb => goodB_spec _ hh Y h1 h2 W ⟨v0, rfl, HV.out.below hb⟩
  clear hv BA h1 h2
  cases hp : placeY Y x with
  | none =>
    rw [findV_none hp] at HF
    have HX := Lib.hid (slV_none (hh := hh) (Y := Y) (x := x) (by unfold slO; split <;> simp [hp]))
    clear hp
    generalize goodB hh Y = b at *
    go_enter Try.func61, Try.ntmps61
    go_wp2_with fail
    refine HF.out.mono ?_
    rintro e w1 ⟨rfl, hb⟩
    have B1 := Lib.hid (B0.out.trans (hb.mono B0.out.size))
    have c1 := (HBA.out.below hb).2.1
    have c1b := (HBA.out.below hb).2.2
    clear hb c0 c0b
    go_wp2_with fail
    refine (HG.out _ B1.out).mono ?_
    rintro e w2 ⟨rfl, hb⟩
    have B2 := Lib.hid (B1.out.trans (hb.mono B1.out.size))
    clear hb c1 c1b
    cases b
    all_goals
      go_wp2_with fail
      go_ret3
      exact ⟨by rw [HX.out]; rfl, B2.out⟩
  | some p =>
    obtain ⟨i, k⟩ := p
    rw [findV_some hp] at HF
    cases hg : goodB hh Y with
    | true =>
      have HX := Lib.hid (slV_some ((slO_good hg).trans hp))
      rw [hg] at HG
      clear hp hg
      go_enter Try.func61, Try.ntmps61
      go_wp2_with fail
      refine HF.out.mono ?_
      rintro e w1 ⟨rfl, hb⟩
      have B1 := Lib.hid (B0.out.trans (hb.mono B0.out.size))
      have c1 := (HBA.out.below hb).2.1
      have c1b := (HBA.out.below hb).2.2
      clear hb c0 c0b
      go_wp2_with fail
      refine (HG.out _ B1.out).mono ?_
      rintro e w2 ⟨rfl, hb⟩
      have B2 := Lib.hid (B1.out.trans (hb.mono B1.out.size))
      clear hb c1 c1b
      go_wp2_with fail
      go_ret3
      exact ⟨by rw [HX.out]; rfl, B2.out⟩
    | false =>
      have HX := Lib.hid (slV_none (x := x) (slO_bad hg))
      rw [hg] at HG
      clear hp hg
      go_enter Try.func61, Try.ntmps61
      go_wp2_with fail
      refine HF.out.mono ?_
      rintro e w1 ⟨rfl, hb⟩
      have B1 := Lib.hid (B0.out.trans (hb.mono B0.out.size))
      have c1 := (HBA.out.below hb).2.1
      have c1b := (HBA.out.below hb).2.2
      clear hb c0 c0b
      go_wp2_with fail
      refine (HG.out _ B1.out).mono ?_
      rintro e w2 ⟨rfl, hb⟩
      have B2 := Lib.hid (B1.out.trans (hb.mono B1.out.size))
      clear hb c1 c1b
      go_wp2_with fail
      go_ret3
      exact ⟨by rw [HX.out]; rfl, B2.out⟩

set_option maxRecDepth 100000 in
set_option maxHeartbeats 2000000 in
theorem implSlot_any (v : Value) (hh : Int) (Y : List (List Int)) (x : Int) (h1 : Y.length ≤ 1048576) (h2 : tot Y ≤ 1048576) (w : World) (h : BdR w v hh Y) :
    Calls Try.prog 62 #[v, .int .i64 x] w (RetP w (slV hh Y x)) := by
  obtain ⟨v0, rfl, hv⟩ := h
  have BA := Box2.new w hh v0 54
  have B0 := Lib.hid (below_one w (.cells #[.int .i64 hh, v0] 54))
  have HG := Lib.hid (goodB_impl (.agg #[.int .i64 hh, v0]) hh Y h1 h2 _ ⟨v0, rfl, hv.below B0.out⟩)
  have HP : Hid (∀ W, Below w.heap.size w W → Calls Try.prog 76 #[v0, .int .i64 x] W fun e w' => e = .returned (.tuple #[.int .i64 (pcI Y x), .int .i64 (pcK Y x), .bool (pcB Y x)]) ∧ W = w') := Lib.hid fun W hb => placeIn_any v0 Y x h1 h2 W (hv.below hb)
  have HBA := Lib.hid BA
  clear BA hv
  cases hg : goodB hh Y with
  | false =>
    have HX := Lib.hid (slV_none (x := x) (slO_bad hg))
    rw [hg] at HG
    clear hg
    go_enter Try.func62, Try.ntmps62
    go_wp2_with fail
    refine HG.out.mono ?_
    rintro e w1 ⟨rfl, hb⟩
    have B1 := Lib.hid (B0.out.trans (hb.mono B0.out.size))
    clear hb
    go_wp2_with fail
    go_ret3
    exact ⟨by rw [HX.out]; rfl, B1.out⟩
  | true =>
    have HGd := Lib.hid (slV_pc (x := x) hg)
    rw [hg] at HG
    clear hg
    go_enter Try.func62, Try.ntmps62
    go_wp2_with fail
    refine HG.out.mono ?_
    rintro e w1 ⟨rfl, hb⟩
    have HB := Lib.hid (B0.out.trans (hb.mono B0.out.size))
    have c1 := (HBA.out.below hb).2.2
    clear hb
    go_wp2_with fail
    refine (HP.out _ HB.out).mono ?_
    rintro e w2 ⟨rfl, rfl⟩
    go_wp2_with fail
    go_ret3
    exact ⟨by rw [HGd.out]; rfl, HB.out⟩
end Go.Proofs.Ytececghifehjeaa
