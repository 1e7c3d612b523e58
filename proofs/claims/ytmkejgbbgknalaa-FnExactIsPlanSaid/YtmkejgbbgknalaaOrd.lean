/-
  What spec.l6Order, spec.l6Asked and impl.isOrder return. No statement of the seat by itself.
-/
import Derived.Test.YtmkejgbbgknalaaOrdM
import Derived.Test.YtmkejgbbgknalaaRunT
namespace Go.Proofs.Ytmkejgbbgknalaa
open Go.RowKit

set_option maxRecDepth 100000 in
set_option maxHeartbeats 4000000 in
theorem l6Order_any (v vo : Value) (Y : List (List Int)) (O : List Int) (h1 : Y.length ≤ 1048576) (h2 : tot Y ≤ 1048576) (h3 : O.length ≤ 1048576) (w : World) (h : YdR w v Y) (ho : OwnI w vo O) :
    Calls Try.prog 107 #[v, vo] w (BoolP w (ordB Y O)) := by
  obtain ⟨v0, rfl, hv⟩ := h
  obtain ⟨a, c, rfl, hc⟩ := ho.form
  obtain ⟨n, hn⟩ : ∃ n, O.length = n := ⟨_, rfl⟩
  have HN := Lib.hid hn
  have HO : Hid (∀ W, Below w.heap.size w W → IL W (.slice a n c) O) := Lib.hid fun W hb => by
    have := ho.read.below hb
    rw [hn] at this
    exact this
  rw [hn] at h3 hc ⊢
  have BA := Lib.hid (Box1.new w v0 28)
  have B0 := Lib.hid (below_one w (.cells #[v0] 28))
  have HF : Hid (∀ x W, Below w.heap.size w W → Calls Try.prog 92 #[.agg #[v0], .int .i64 x] W (RetP W (findV Y x))) := Lib.hid fun x W hb => l5Find_any _ Y x h1 h2 W ⟨v0, rfl, hv.below hb⟩
  clear hv ho hn h1 h2
  go_enter Try.func107, Try.ntmps107
  go_wp2_with fail
  generalize w.alloc (.cells #[v0] 28) = w0 at *
  go_loopw [5, 6, 7] (fun i _ _ wr => ∃ k : Nat, k ≤ n ∧ i = .int .i64 k ∧ Hid (Box1 wr w.heap.size v0) ∧ Hid (Below w.heap.size w wr) ∧ Hid (OrdPart Y O k)) (fun i _ _ _ => n - (intOf i).toNat)
  case atStart => exact ⟨0, Nat.zero_le _, rfl, BA, B0, Lib.hid (OrdPart.start Y O)⟩
  case round =>
    obtain ⟨k, hk, rfl, HA, HB, HP⟩ := hrel
    by_cases hlt : k < n
    · obtain ⟨a', c', e, hcc⟩ := HO.out wr HB.out
      obtain ⟨g, off, e2, hg, hcl⟩ := hcc (by have := HN.out; omega)
      injection e with e1 e4 e5
      subst e2
      subst e1
      clear e4 e5
      obtain ⟨x, hx⟩ := get_at HN.out hlt
      have o1 : wr.cell? ⟨g, off + k, none⟩ = some (.int .i64 x) := hcl k x hx
      have c0 := HA.out.2
      have HX := Lib.hid hx
      have HG := Lib.hid hg
      have hkI : (k : Int) < (n : Int) := by omega
      have hkc : (k : Int) ≤ (c : Int) := by omega
      have HZ := Lib.hid (HF.out x)
      clear hcc hcl hx hg
      cases hp : placeY Y x with
      | none =>
        have HQ := Lib.hid (ord_none HX.out hp)
        rw [findV_none hp] at HZ
        clear hp
        go_wp2_with fail
        go_region_held3 (fun W => W.cell? ⟨w.heap.size, 0, none⟩ = some v0 ∧ W.cell? ⟨g, off + k, none⟩ = some (.int .i64 x)) (go_keep) (first | (go_at_call 92; refine (HZ.out _ HB.out.drew).mono ?_; rintro e w' ⟨rfl, hb⟩; have x0 := (hb.cell (p := ⟨w.heap.size, 0, none⟩) HA.out.1).trans c0; have x1 := (hb.cell (p := ⟨g, off + k, none⟩) HG.out).trans o1; have HB2 : Hid (Below w.heap.size w w') := Lib.hid (HB.out.drew.trans (hb.mono HB.out.size)); have HA2 : Hid (Box1 w' w.heap.size v0) := Lib.hid (HA.out.below (((Below.refl _ wr).drew).trans hb)); have HG2 : Hid (g < w'.heap.size) := Lib.hid (Nat.lt_of_lt_of_le HG.out hb.size); clear hb))
        clear x0 c0 o1
        have hi0 : decide ((-1 : Int) < 0) = true := by decide
        go_wp2_with fail
        go_quiet (fail)
        go_wp2_with fail
        go_ret
        exact ⟨by rw [HQ.out]; rfl, below_drewN HB2.out _⟩
      | some p =>
        obtain ⟨i, j⟩ := p
        rw [findV_some hp] at HZ
        have HPl := Lib.hid hp
        clear hp
        go_wp2_with fail
        go_region_held3 (fun W => W.cell? ⟨w.heap.size, 0, none⟩ = some v0 ∧ W.cell? ⟨g, off + k, none⟩ = some (.int .i64 x)) (go_keep) (first | (go_at_call 92; refine (HZ.out _ HB.out.drew).mono ?_; rintro e w' ⟨rfl, hb⟩; have x0 := (hb.cell (p := ⟨w.heap.size, 0, none⟩) HA.out.1).trans c0; have x1 := (hb.cell (p := ⟨g, off + k, none⟩) HG.out).trans o1; have HB2 : Hid (Below w.heap.size w w') := Lib.hid (HB.out.drew.trans (hb.mono HB.out.size)); have HA2 : Hid (Box1 w' w.heap.size v0) := Lib.hid (HA.out.below (((Below.refl _ wr).drew).trans hb)); have HG2 : Hid (g < w'.heap.size) := Lib.hid (Nat.lt_of_lt_of_le HG.out hb.size); clear hb))
        clear x0 c0 o1
        have hi0 : decide ((i : Int) < 0) = false := by simp
        have hi1 : ¬ (i : Int) < 0 := by omega
        have HH : Hid (∀ W, Below w.heap.size w W → Calls Try.prog 101 #[.slice (some ⟨g, off, none⟩) k c, .int .i64 x] W fun e w' => e = .returned (.bool (hasB (O.take k) x)) ∧ W = w') := Lib.hid fun W hb => l1Has_il _ _ x (by rw [List.length_take]; have := HN.out; omega) W (il_take (HO.out W hb) HN.out (by omega))
        by_cases hm : x ∈ O.take k
        · have HQ := Lib.hid (ord_twice (Y := Y) HX.out hm)
          rw [show hasB (O.take k) x = true by simp [hasB, hm]] at HH
          clear hm
          go_wp2_with fail
          go_region_held3 (fun W => W.cell? ⟨g, off + k, none⟩ = some (.int .i64 x)) (go_keep) (first | (go_at_call 101; refine (HH.out _ HB2.out.drew).mono ?_; rintro e w'' ⟨rfl, rfl⟩))
          go_wp2_with fail
          go_ret
          exact ⟨by rw [HQ.out]; rfl, HB2.out.drew⟩
        · have HQ := Lib.hid (HP.out.step HX.out HPl.out hm)
          rw [show hasB (O.take k) x = false by simp [hasB, hm]] at HH
          clear hm
          go_wp2_with fail
          go_region_held3 (fun W => W.cell? ⟨g, off + k, none⟩ = some (.int .i64 x)) (go_keep) (first | (go_at_call 101; refine (HH.out _ HB2.out.drew).mono ?_; rintro e w'' ⟨rfl, rfl⟩))
          go_wp2_with fail
          exact ⟨⟨k + 1, by omega, by go_num, Lib.hid (HA2.out.below (Below.refl _ _).drew), Lib.hid HB2.out.drew, HQ⟩, by simp [intOf]; omega⟩
    · obtain rfl : k = n := by omega
      have HQ := Lib.hid (HP.out.done HN.out)
      have HN8 : Hid (decide ((k : Int) ≤ 8) = decide (O.length ≤ 8)) := Lib.hid (by rw [HN.out]; by_cases h : k ≤ 8 <;> simp [h] <;> omega)
      go_wp2_with fail
      go_ret
      exact ⟨by rw [HQ.out, ← HN8.out]; rfl, HB.out⟩

set_option maxRecDepth 100000 in
set_option maxHeartbeats 4000000 in
theorem l6Asked_any (v vo : Value) (Y : List (List Int)) (O : List Int) (h1 : Y.length ≤ 1048576) (h2 : tot Y ≤ 1048576) (h3 : O.length ≤ 1048576) (w : World) (h : YdR w v Y) (ho : OwnI w vo O) :
    Calls Try.prog 70 #[v, vo] w (BoolP w (askB Y O)) := by
  obtain ⟨v0, rfl, hv⟩ := h
  obtain ⟨a, c, rfl, hc⟩ := ho.form
  obtain ⟨n, hn⟩ : ∃ n, O.length = n := ⟨_, rfl⟩
  have BA := Lib.hid (Box1.new w v0 28)
  have B0 := Lib.hid (below_one w (.cells #[v0] 28))
  have HG : Hid (∀ W, Below w.heap.size w W → Calls Try.prog 61 #[.agg #[v0]] W (BoolP W (goodY Y))) := Lib.hid fun W hb => good_spec _ Y h1 h2 W ⟨v0, rfl, hv.below hb⟩
  have HO : Hid (∀ W, Below w.heap.size w W → Calls Try.prog 107 #[.agg #[v0], .slice a n c] W (BoolP W (ordB Y O))) := Lib.hid fun W hb => by
    have := l6Order_any _ _ Y O h1 h2 h3 W ⟨v0, rfl, hv.below hb⟩ (ho.below hb)
    rw [hn] at this
    exact this
  have HQ := Lib.hid (show askB Y O = (goodY Y && ordB Y O) from rfl)
  rw [hn]
  clear hv ho hn h1 h2 h3 hc
  generalize askB Y O = q at *
  generalize ordB Y O = b at *
  go_enter Try.func70, Try.ntmps70
  go_wp2_with fail
  generalize w.alloc (.cells #[v0] 28) = w0 at *
  refine (HG.out _ B0.out).mono ?_
  rintro e w1 ⟨rfl, hb⟩
  have c0 := (BA.out.below hb).2
  have B1 := Lib.hid (B0.out.trans (hb.mono B0.out.size))
  clear hb
  cases hg : goodY Y with
  | false =>
    rw [hg] at HQ
    go_wp2_with fail
    go_ret
    exact ⟨by rw [HQ.out]; rfl, B1.out⟩
  | true =>
    rw [hg] at HQ
    go_wp2_with fail
    refine (HO.out _ B1.out).mono ?_
    rintro e w2 ⟨rfl, hb⟩
    have B2 := Lib.hid (B1.out.trans (hb.mono B1.out.size))
    clear hb
    go_wp2_with fail
    go_ret
    exact ⟨by rw [HQ.out]; simp, B2.out⟩

set_option maxRecDepth 100000 in
set_option maxHeartbeats 4000000 in
theorem isOrder_any (v vo : Value) (Y : List (List Int)) (O : List Int) (h1 : Y.length ≤ 1048576) (h2 : tot Y ≤ 1048576) (h3 : O.length ≤ 1048576) (w : World) (h : YdR w v Y) (ho : OwnI w vo O) :
    Calls Try.prog 72 #[v, vo] w (BoolP w (askB Y O)) := by
  obtain ⟨v0, rfl, hv⟩ := h
  obtain ⟨a, c, rfl, hc⟩ := ho.form
  obtain ⟨n, hn⟩ : ∃ n, O.length = n := ⟨_, rfl⟩
  have HN := Lib.hid hn
  have HO : Hid (∀ W, Below w.heap.size w W → IL W (.slice a n c) O) := Lib.hid fun W hb => by
    have := ho.read.below hb
    rw [hn] at this
    exact this
  rw [hn] at h3 hc ⊢
  have BA := Lib.hid (Box1.new w v0 28)
  have B0 := Lib.hid (below_one w (.cells #[v0] 28))
  have c0 := BA.out.2
  have HF : Hid (∀ x W, Below w.heap.size w W → Calls Try.prog 95 #[.agg #[v0], .int .i64 x] W (RetP W (.tuple #[.int .i64 (plI Y x), .int .i64 (plK Y x), .bool (plB Y x)]))) := Lib.hid fun x W hb => implPlace_eq _ Y x h1 h2 W ⟨v0, rfl, hv.below hb⟩
  have HG : Hid (∀ W, Below w.heap.size w W → Calls Try.prog 66 #[.agg #[v0]] W (BoolP W (goodY Y))) := Lib.hid fun W hb => good_impl _ Y h1 h2 W ⟨v0, rfl, hv.below hb⟩
  clear hv ho hn h1 h2
  go_enter Try.func72, Try.ntmps72
  go_wp2_with fail
  generalize w.alloc (.cells #[v0] 28) = w0 at *
  refine (HG.out _ B0.out).mono ?_
  rintro e w1 ⟨rfl, hb⟩
  have A1 := Lib.hid (BA.out.below hb)
  have B1 := Lib.hid (B0.out.trans (hb.mono B0.out.size))
  clear hb c0
  cases hg : goodY Y with
  | false =>
    have HQ : Hid (askB Y O = false) := Lib.hid (by simp [askB, hg])
    go_wp2_with fail
    go_ret
    exact ⟨by rw [HQ.out]; rfl, B1.out⟩
  | true =>
    have HQ : Hid (askB Y O = ordB Y O) := Lib.hid (by simp [askB, hg])
    have HGd := Lib.hid hg
    by_cases h8 : n ≤ 8
    · have h8i : ¬ (8 : Int) < (n : Int) := by omega
      go_wp2_with fail
      go_loopw [5, 6, 7, 8, 9, 20] (fun _ _ _ _ _ i wr => ∃ k : Nat, k ≤ n ∧ i = .int .i64 k ∧ Hid (Box1 wr w.heap.size v0) ∧ Hid (Below w.heap.size w wr) ∧ Hid (OrdPart Y O k)) (fun _ _ _ _ _ i _ => n - (intOf i).toNat)
      case atStart => exact ⟨0, Nat.zero_le _, rfl, A1, B1, Lib.hid (OrdPart.start Y O)⟩
      case round =>
        obtain ⟨k, hk, rfl, HA, HB, HP⟩ := hrel
        by_cases hlt : k < n
        · obtain ⟨a', c', e, hcc⟩ := HO.out wr HB.out
          obtain ⟨g, off, e2, hg', hcl⟩ := hcc (by have := HN.out; omega)
          injection e with e1 e4 e5
          subst e2
          subst e1
          clear e4 e5
          obtain ⟨x, hx⟩ := get_at HN.out hlt
          have o1 : wr.cell? ⟨g, off + k, none⟩ = some (.int .i64 x) := hcl k x hx
          have c0 := HA.out.2
          have HX := Lib.hid hx
          have hkI : (k : Int) < (n : Int) := by omega
          have hkc : (k : Int) ≤ (c : Int) := by omega
          have HZ := Lib.hid (HF.out x)
          have HH : Hid (∀ W, Below w.heap.size w W → Calls Try.prog 108 #[.slice (some ⟨g, off, none⟩) k c, .int .i64 x] W fun e w' => e = .returned (.bool (hasB (O.take k) x)) ∧ W = w') := Lib.hid fun W hb => contains_any _ _ x (by rw [List.length_take]; unfold maxLen; omega) W (il_take (HO.out W hb) HN.out (by omega))
          have HPn : Hid (plB Y x = (placeY Y x).isSome) := Lib.hid (by simp [plB, plO, HGd.out])
          clear hcc hcl hx hg'
          go_wp2_with fail
          refine (HZ.out _ HB.out).mono ?_
          rintro e w2 ⟨rfl, hb⟩
          have A2 := Lib.hid (HA.out.below hb)
          have B2 := Lib.hid (HB.out.trans (hb.mono HB.out.size))
          clear hb c0 o1
          generalize plI Y x = i1 at *
          generalize plK Y x = i2 at *
          cases hp : placeY Y x with
          | none =>
            have HQ2 := Lib.hid (ord_none HX.out hp)
            rw [show plB Y x = false by rw [HPn.out, hp]; rfl]
            clear hp
            go_wp2_with fail
            go_ret
            exact ⟨by rw [HQ.out, HQ2.out]; rfl, B2.out⟩
          | some p =>
            have HPl := Lib.hid hp
            rw [show plB Y x = true by rw [HPn.out, hp]; rfl]
            clear hp
            by_cases hm : x ∈ O.take k
            · have HQ2 := Lib.hid (ord_twice (Y := Y) HX.out hm)
              rw [show hasB (O.take k) x = true by simp [hasB, hm]] at HH
              clear hm
              go_wp2_with fail
              refine (HH.out _ B2.out).mono ?_
              rintro e w3 ⟨rfl, rfl⟩
              go_wp2_with fail
              go_ret
              exact ⟨by rw [HQ.out, HQ2.out]; rfl, B2.out⟩
            · have HQ2 := Lib.hid (HP.out.step HX.out HPl.out hm)
              rw [show hasB (O.take k) x = false by simp [hasB, hm]] at HH
              clear hm
              go_wp2_with fail
              refine (HH.out _ B2.out).mono ?_
              rintro e w3 ⟨rfl, rfl⟩
              go_wp2_with fail
              exact ⟨⟨k + 1, by omega, by go_num, A2, B2, HQ2⟩, by simp [intOf]; omega⟩
        · obtain rfl : k = n := by omega
          have HQ2 := Lib.hid (HP.out.done HN.out)
          have HN8 : Hid (decide (O.length ≤ 8) = true) := Lib.hid (by rw [HN.out]; exact decide_eq_true h8)
          go_wp2_with fail
          go_ret
          exact ⟨by rw [HQ.out, HQ2.out, HN8.out]; rfl, HB.out⟩
    · have h8i : (8 : Int) < (n : Int) := by omega
      have HQ2 : Hid (ordB Y O = false) := Lib.hid (ord_no fun h => h8 (by have := h.1; rw [HN.out] at this; exact this))
      go_wp2_with fail
      go_ret
      exact ⟨by rw [HQ.out, HQ2.out]; rfl, B1.out⟩
end Go.Proofs.Ytmkejgbbgknalaa
