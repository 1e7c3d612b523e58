/-
  What spec.l8Arrivals, spec.l8Asked and impl.areArrivals return. No statement of the seat by itself.
-/
import Derived.Test.YthokmklnldoinaaArrM
import Derived.Deep.RegionHeld3
import Derived.Deep.QuietTactic
import Derived.BigQuiet
namespace Go.Proofs.Ythokmklnldoinaa
open Go.RowKit

theorem flip8 {P : Program} {f : FuncId} {args : Array Value} {w : World} {v : Value} (h : Calls P f args w fun e w' => e = .returned v ∧ w = w') : Calls P f args w fun e w' => e = .returned v ∧ w' = w :=
  h.mono fun _ _ ⟨he, hw⟩ => ⟨he, hw.symm⟩

set_option maxRecDepth 100000 in
set_option maxHeartbeats 4000000 in
theorem l8Arrivals_any (v vo : Value) (Y : List (List Int)) (O : List Int) (h1 : Y.length ≤ 1048576) (h2 : tot Y ≤ 1048576) (h3 : O.length ≤ 1048576) (w : World) (h : YdR w v Y) (ho : OwnI w vo O) :
    Calls Try.prog 78 #[v, vo] w (BoolP w (arrB Y O)) := by
  obtain ⟨v0, rfl, hv⟩ := h
  obtain ⟨a, c, rfl, hc⟩ := ho.form
  obtain ⟨n, hn⟩ : ∃ n, O.length = n := ⟨_, rfl⟩
  have HN := Lib.hid hn
  have HO : Hid (∀ W, Below w.heap.size w W → IL W (.slice a n c) O) := Lib.hid fun W hb => by
    have := ho.read.below hb
    rw [hn] at this
    exact this
  rw [hn] at h3 hc ⊢
  have BA := Lib.hid (Box1.new w v0 26)
  have B0 := Lib.hid (below_one w (.cells #[v0] 26))
  have HF : Hid (∀ x W, Below w.heap.size w W → Calls Try.prog 96 #[.agg #[v0], .int .i64 x] W (RetP W (findV Y x))) := Lib.hid fun x W hb => l5Find_any _ Y x h1 h2 W ⟨v0, rfl, hv.below hb⟩
  clear hv ho hn h1 h2
  go_enter Try.func78, Try.ntmps78
  go_wp2_with fail
  generalize w.alloc (.cells #[v0] 26) = w0 at *
  go_loopw [5, 6, 7] (fun i _ _ wr => ∃ k : Nat, k ≤ n ∧ i = .int .i64 k ∧ Hid (Box1 wr w.heap.size v0) ∧ Hid (Below w.heap.size w wr) ∧ Hid (ArrPart Y O k)) (fun i _ _ _ => n - (intOf i).toNat)
  case atStart => exact ⟨0, Nat.zero_le _, rfl, BA, B0, Lib.hid (ArrPart.start Y O)⟩
  case round =>
    obtain ⟨k, hk, rfl, HA, HB, HP⟩ := hrel
    by_cases hlt : k < n
    · obtain ⟨a', c', e, hcc⟩ := HO.out wr HB.out
      obtain ⟨g, off, e2, hg, hcl⟩ := hcc (by have := HN.out; omega)
      injection e with e1 e4 e5
      subst e2
      subst e1
      clear e4 e5
      obtain ⟨x, hx⟩ := get_at HN.out hlt
      have o1 : wr.cell? ⟨g, off + k, none⟩ = some (.int .i64 x) := hcl k x hx
      have c0 := HA.out.2
      have HX := Lib.hid hx
      have HG := Lib.hid hg
      have hkI : (k : Int) < (n : Int) := by omega
      have hkc : (k : Int) ≤ (c : Int) := by omega
      have HZ := Lib.hid (HF.out x)
      clear hcc hcl hx hg
      cases hp : placeY Y x with
      | some p =>
        obtain ⟨i, j⟩ := p
        have HQ := Lib.hid (arr_some HX.out hp)
        rw [findV_some hp] at HZ
        clear hp
        go_wp2_with fail
        go_region_held3 (fun W => W.cell? ⟨w.heap.size, 0, none⟩ = some v0 ∧ W.cell? ⟨g, off + k, none⟩ = some (.int .i64 x)) (go_keep) (first | (go_at_call 96; refine (HZ.out _ HB.out.drew).mono ?_; rintro e w' ⟨rfl, hb⟩; have x0 := (hb.cell (p := ⟨w.heap.size, 0, none⟩) HA.out.1).trans c0; have x1 := (hb.cell (p := ⟨g, off + k, none⟩) HG.out).trans o1; have HB2 : Hid (Below w.heap.size w w') := Lib.hid (HB.out.drew.trans (hb.mono HB.out.size)); have HA2 : Hid (Box1 w' w.heap.size v0) := Lib.hid (HA.out.below (((Below.refl _ wr).drew).trans hb)); have HG2 : Hid (g < w'.heap.size) := Lib.hid (Nat.lt_of_lt_of_le HG.out hb.size); clear hb))
        clear x0 c0 o1
        have hi1 : (0 : Int) ≤ (i : Int) := by omega
        go_wp2_with fail
        go_quiet (fail)
        go_wp2_with fail
        go_ret
        exact ⟨by rw [HQ.out]; rfl, below_drewN HB2.out _⟩
      | none =>
        rw [findV_none hp] at HZ
        have HPl := Lib.hid hp
        clear hp
        go_wp2_with fail
        go_region_held3 (fun W => W.cell? ⟨w.heap.size, 0, none⟩ = some v0 ∧ W.cell? ⟨g, off + k, none⟩ = some (.int .i64 x)) (go_keep) (first | (go_at_call 96; refine (HZ.out _ HB.out.drew).mono ?_; rintro e w' ⟨rfl, hb⟩; have x0 := (hb.cell (p := ⟨w.heap.size, 0, none⟩) HA.out.1).trans c0; have x1 := (hb.cell (p := ⟨g, off + k, none⟩) HG.out).trans o1; have HB2 : Hid (Below w.heap.size w w') := Lib.hid (HB.out.drew.trans (hb.mono HB.out.size)); have HA2 : Hid (Box1 w' w.heap.size v0) := Lib.hid (HA.out.below (((Below.refl _ wr).drew).trans hb)); have HG2 : Hid (g < w'.heap.size) := Lib.hid (Nat.lt_of_lt_of_le HG.out hb.size); clear hb))
        clear x0 c0 o1
        have hi1 : decide ((0 : Int) ≤ (-1 : Int)) = false := by decide
        have HH : Hid (∀ W, Below w.heap.size w W → Calls Try.prog 71 #[.slice (some ⟨g, off, none⟩) k c, .int .i64 x] W fun e w' => e = .returned (.bool (hasB (O.take k) x)) ∧ W = w') := Lib.hid fun W hb => l1Has_il _ _ x (by rw [List.length_take]; have := HN.out; omega) W (il_take (HO.out W hb) HN.out (by omega))
        by_cases hr : 1 ≤ x ∧ x ≤ 99
        · have HR := Lib.hid (fun W => l1In_yes x 1 99 W hr.1 hr.2)
          by_cases hm : x ∈ O.take k
          · have HQ := Lib.hid (arr_twice (Y := Y) HX.out hm)
            rw [show hasB (O.take k) x = true by simp [hasB, hm]] at HH
            clear hm hr
            go_wp2_with fail
            go_quiet (first | (go_at_call 66; exact Calls.quiet_of_same (flip8 (HR.out _))) | (go_at_call 71; exact Calls.quiet_of_same (flip8 (HH.out _ (below_drewN HB2.out _)))))
            go_wp2_with fail
            go_ret
            exact ⟨by rw [HQ.out]; rfl, below_drewN HB2.out _⟩
          · have HQ := Lib.hid (HP.out.step HX.out HPl.out hr hm)
            rw [show hasB (O.take k) x = false by simp [hasB, hm]] at HH
            clear hm hr
            go_wp2_with fail
            go_quiet (first | (go_at_call 66; exact Calls.quiet_of_same (flip8 (HR.out _))) | (go_at_call 71; exact Calls.quiet_of_same (flip8 (HH.out _ (below_drewN HB2.out _)))))
            go_wp2_with fail
            exact ⟨⟨k + 1, by omega, by go_num, Lib.hid (HA2.out.below (below_drewN (Below.refl _ _) _)), Lib.hid (below_drewN HB2.out _), HQ⟩, by simp [intOf]; omega⟩
        · have HR := Lib.hid (fun W => l1In_no x 1 99 W (by omega))
          have HQ := Lib.hid (arr_out (Y := Y) HX.out hr)
          clear hr
          go_wp2_with fail
          go_quiet ((go_at_call 66; exact Calls.quiet_of_same (flip8 (HR.out _))))
          go_wp2_with fail
          go_ret
          exact ⟨by rw [HQ.out]; rfl, below_drewN HB2.out _⟩
    · obtain rfl : k = n := by omega
      have HQ := Lib.hid (HP.out.done HN.out)
      have HN8 : Hid (decide ((k : Int) ≤ 5) = decide (O.length ≤ 5)) := Lib.hid (by rw [HN.out]; by_cases h : k ≤ 5 <;> simp [h] <;> omega)
      go_wp2_with fail
      go_ret
      exact ⟨by rw [HQ.out, ← HN8.out]; rfl, HB.out⟩

set_option maxRecDepth 100000 in
set_option maxHeartbeats 4000000 in
theorem l8Asked_any (v vo : Value) (Y : List (List Int)) (O : List Int) (h1 : Y.length ≤ 1048576) (h2 : tot Y ≤ 1048576) (h3 : O.length ≤ 1048576) (w : World) (h : YdR w v Y) (ho : OwnI w vo O) :
    Calls Try.prog 54 #[v, vo] w (BoolP w (askP Y O)) := by
  obtain ⟨v0, rfl, hv⟩ := h
  obtain ⟨a, c, rfl, hc⟩ := ho.form
  obtain ⟨n, hn⟩ : ∃ n, O.length = n := ⟨_, rfl⟩
  have BA := Lib.hid (Box1.new w v0 26)
  have B0 := Lib.hid (below_one w (.cells #[v0] 26))
  have HG : Hid (∀ W, Below w.heap.size w W → Calls Try.prog 44 #[.agg #[v0]] W (BoolP W (goodY Y))) := Lib.hid fun W hb => good_spec _ Y h1 h2 W ⟨v0, rfl, hv.below hb⟩
  have HO : Hid (∀ W, Below w.heap.size w W → Calls Try.prog 78 #[.agg #[v0], .slice a n c] W (BoolP W (arrB Y O))) := Lib.hid fun W hb => by
    have := l8Arrivals_any _ _ Y O h1 h2 h3 W ⟨v0, rfl, hv.below hb⟩ (ho.below hb)
    rw [hn] at this
    exact this
  have HQ := Lib.hid (show askP Y O = (goodY Y && arrB Y O) from rfl)
  rw [hn]
  clear hv ho hn h1 h2 h3 hc
  generalize askP Y O = q at *
  generalize arrB Y O = b at *
  go_enter Try.func54, Try.ntmps54
  go_wp2_with fail
  generalize w.alloc (.cells #[v0] 26) = w0 at *
  refine (HG.out _ B0.out).mono ?_
  rintro e w1 ⟨rfl, hb⟩
  have c0 := (BA.out.below hb).2
  have B1 := Lib.hid (B0.out.trans (hb.mono B0.out.size))
  clear hb
  cases hg : goodY Y with
  | false =>
    rw [hg] at HQ
    go_wp2_with fail
    go_ret
    exact ⟨by rw [HQ.out]; rfl, B1.out⟩
  | true =>
    rw [hg] at HQ
    go_wp2_with fail
    refine (HO.out _ B1.out).mono ?_
    rintro e w2 ⟨rfl, hb⟩
    have B2 := Lib.hid (B1.out.trans (hb.mono B1.out.size))
    clear hb
    go_wp2_with fail
    go_ret
    exact ⟨by rw [HQ.out]; simp, B2.out⟩

set_option maxRecDepth 100000 in
set_option maxHeartbeats 4000000 in
theorem areArrivals_any (v vo : Value) (Y : List (List Int)) (O : List Int) (h1 : Y.length ≤ 1048576) (h2 : tot Y ≤ 1048576) (h3 : O.length ≤ 1048576) (w : World) (h : YdR w v Y) (ho : OwnI w vo O) :
    Calls Try.prog 51 #[v, vo] w (BoolP w (askP Y O)) := by
  obtain ⟨v0, rfl, hv⟩ := h
  obtain ⟨a, c, rfl, hc⟩ := ho.form
  obtain ⟨n, hn⟩ : ∃ n, O.length = n := ⟨_, rfl⟩
  have HN := Lib.hid hn
  have HO : Hid (∀ W, Below w.heap.size w W → IL W (.slice a n c) O) := Lib.hid fun W hb => by
    have := ho.read.below hb
    rw [hn] at this
    exact this
  rw [hn] at h3 hc ⊢
  have BA := Lib.hid (Box1.new w v0 26)
  have B0 := Lib.hid (below_one w (.cells #[v0] 26))
  have c0 := BA.out.2
  have HF : Hid (∀ x W, Below w.heap.size w W → Calls Try.prog 20 #[.agg #[v0], .int .i64 x] W (RetP W (.tuple #[.int .i64 (plI Y x), .int .i64 (plK Y x), .bool (plB Y x)]))) := Lib.hid fun x W hb => implPlace_eq _ Y x h1 h2 W ⟨v0, rfl, hv.below hb⟩
  have HG : Hid (∀ W, Below w.heap.size w W → Calls Try.prog 41 #[.agg #[v0]] W (BoolP W (goodY Y))) := Lib.hid fun W hb => good_impl _ Y h1 h2 W ⟨v0, rfl, hv.below hb⟩
  clear hv ho hn h1 h2
  go_enter Try.func51, Try.ntmps51
  go_wp2_with fail
  generalize w.alloc (.cells #[v0] 26) = w0 at *
  refine (HG.out _ B0.out).mono ?_
  rintro e w1 ⟨rfl, hb⟩
  have A1 := Lib.hid (BA.out.below hb)
  have B1 := Lib.hid (B0.out.trans (hb.mono B0.out.size))
  clear hb c0
  cases hg : goodY Y with
  | false =>
    have HQ : Hid (askP Y O = false) := Lib.hid (by simp [askP, hg])
    go_wp2_with fail
    go_ret
    exact ⟨by rw [HQ.out]; rfl, B1.out⟩
  | true =>
    have HQ : Hid (askP Y O = arrB Y O) := Lib.hid (by simp [askP, hg])
    have HGd := Lib.hid hg
    by_cases h8 : n ≤ 5
    · have h8i : ¬ (5 : Int) < (n : Int) := by omega
      go_wp2_with fail
      go_loopw [5, 6, 7, 8, 9, 20] (fun _ _ _ _ _ i wr => ∃ k : Nat, k ≤ n ∧ i = .int .i64 k ∧ Hid (Box1 wr w.heap.size v0) ∧ Hid (Below w.heap.size w wr) ∧ Hid (ArrPart Y O k)) (fun _ _ _ _ _ i _ => n - (intOf i).toNat)
      case atStart => exact ⟨0, Nat.zero_le _, rfl, A1, B1, Lib.hid (ArrPart.start Y O)⟩
      case round =>
        obtain ⟨k, hk, rfl, HA, HB, HP⟩ := hrel
        by_cases hlt : k < n
        · obtain ⟨a', c', e, hcc⟩ := HO.out wr HB.out
          obtain ⟨g, off, e2, hg', hcl⟩ := hcc (by have := HN.out; omega)
          injection e with e1 e4 e5
          subst e2
          subst e1
          clear e4 e5
          obtain ⟨x, hx⟩ := get_at HN.out hlt
          have o1 : wr.cell? ⟨g, off + k, none⟩ = some (.int .i64 x) := hcl k x hx
          have c0 := HA.out.2
          have HX := Lib.hid hx
          have hkI : (k : Int) < (n : Int) := by omega
          have hkc : (k : Int) ≤ (c : Int) := by omega
          have HZ := Lib.hid (HF.out x)
          have HH : Hid (∀ W, Below w.heap.size w W → Calls Try.prog 77 #[.slice (some ⟨g, off, none⟩) k c, .int .i64 x] W fun e w' => e = .returned (.bool (hasB (O.take k) x)) ∧ W = w') := Lib.hid fun W hb => contains_any _ _ x (by rw [List.length_take]; unfold maxLen; omega) W (il_take (HO.out W hb) HN.out (by omega))
          have HPn : Hid (plB Y x = (placeY Y x).isSome) := Lib.hid (by simp [plB, plO, HGd.out])
          clear hcc hcl hx hg'
          go_wp2_with fail
          refine (HZ.out _ HB.out).mono ?_
          rintro e w2 ⟨rfl, hb⟩
          have A2 := Lib.hid (HA.out.below hb)
          have B2 := Lib.hid (HB.out.trans (hb.mono HB.out.size))
          clear hb c0 o1
          generalize plI Y x = i1 at *
          generalize plK Y x = i2 at *
          have HBx := Lib.hid (fun W => isBox_any x W)
          by_cases hr : 1 ≤ x ∧ x ≤ 99
          · rw [decide_eq_true hr] at HBx
            cases hp : placeY Y x with
            | some p =>
              have HQ2 := Lib.hid (arr_some HX.out hp)
              rw [show plB Y x = true by rw [HPn.out, hp]; rfl]
              clear hp hr
              go_wp2_with fail
              refine (HBx.out _).mono ?_
              rintro e w3 ⟨rfl, rfl⟩
              go_wp2_with fail
              go_ret
              exact ⟨by rw [HQ.out, HQ2.out]; rfl, B2.out⟩
            | none =>
              have HPl := Lib.hid hp
              rw [show plB Y x = false by rw [HPn.out, hp]; rfl]
              clear hp
              by_cases hm : x ∈ O.take k
              · have HQ2 := Lib.hid (arr_twice (Y := Y) HX.out hm)
                rw [show hasB (O.take k) x = true by simp [hasB, hm]] at HH
                clear hm hr
                go_wp2_with fail
                refine (HBx.out _).mono ?_
                rintro e w3 ⟨rfl, rfl⟩
                go_wp2_with fail
                refine (HH.out _ B2.out).mono ?_
                rintro e w3 ⟨rfl, rfl⟩
                go_wp2_with fail
                go_ret
                exact ⟨by rw [HQ.out, HQ2.out]; rfl, B2.out⟩
              · have HQ2 := Lib.hid (HP.out.step HX.out HPl.out hr hm)
                rw [show hasB (O.take k) x = false by simp [hasB, hm]] at HH
                clear hm hr
                go_wp2_with fail
                refine (HBx.out _).mono ?_
                rintro e w3 ⟨rfl, rfl⟩
                go_wp2_with fail
                refine (HH.out _ B2.out).mono ?_
                rintro e w3 ⟨rfl, rfl⟩
                go_wp2_with fail
                exact ⟨⟨k + 1, by omega, by go_num, A2, B2, HQ2⟩, by simp [intOf]; omega⟩
          · rw [decide_eq_false hr] at HBx
            have HQ2 := Lib.hid (arr_out (Y := Y) HX.out hr)
            clear hr
            go_wp2_with fail
            refine (HBx.out _).mono ?_
            rintro e w3 ⟨rfl, rfl⟩
            go_wp2_with fail
            go_ret
            exact ⟨by rw [HQ.out, HQ2.out]; rfl, B2.out⟩
        · obtain rfl : k = n := by omega
          have HQ2 := Lib.hid (HP.out.done HN.out)
          have HN8 : Hid (decide (O.length ≤ 5) = true) := Lib.hid (by rw [HN.out]; exact decide_eq_true h8)
          go_wp2_with fail
          go_ret
          exact ⟨by rw [HQ.out, HQ2.out, HN8.out]; rfl, HB.out⟩
    · have h8i : (5 : Int) < (n : Int) := by omega
      have HQ2 : Hid (arrB Y O = false) := Lib.hid (arr_no fun h => h8 (by have := h.1; rw [HN.out] at this; exact this))
      go_wp2_with fail
      go_ret
      exact ⟨by rw [HQ.out, HQ2.out]; rfl, B1.out⟩
end Go.Proofs.Ythokmklnldoinaa
