/-
  The laws' own helpers on lists of lists of ints: eqIntSS, markIntSS, heldIntSS. No statement of the seat by itself.
-/
import Derived.Test.YtpflnjjckeeihaaYRow
namespace Go.Proofs.Ytpflnjjckeeihaa
open Go.RowKit

set_option maxRecDepth 100000 in
set_option maxHeartbeats 1000000 in
theorem eqSS_any (v1 v2 : Value) (Y : List (List Int)) (hn : Y.length ≤ 1048576) (ht : tot Y ≤ 1048576) (w : World) (h1 : YL w v1 Y) (h2 : YL w v2 Y) :
    Calls Try.prog 46 #[v1, v2] w fun e w' => e = .returned (.bool true) ∧ ∃ k, w' = w.drewN k := by
  obtain ⟨a1, c1, rfl, h1⟩ := h1
  obtain ⟨a2, c2, rfl, h2⟩ := h2
  obtain ⟨n, hl⟩ : ∃ n, Y.length = n := ⟨_, rfl⟩
  have HN := Lib.hid hl
  rw [hl] at hn ⊢
  have H1 := Lib.hid h1
  have H2 := Lib.hid h2
  clear h1 h2 hl
  go_enter Try.func46, Try.ntmps46
  go_wp2
  go_loopw [5] (fun i wr => ∃ k : Nat, k ≤ n ∧ i = .int .i64 k ∧ Hid (∃ q, wr = w.drewN q)) (fun i _ => n - (intOf i).toNat)
  case atStart => exact ⟨0, Nat.zero_le _, rfl, Lib.hid ⟨0, rfl⟩⟩
  case round =>
    obtain ⟨k, hk, rfl, HW⟩ := hrel
    have HB : Hid (Below w.heap.size w wr) := Lib.hid (by obtain ⟨q, hq⟩ := HW.out; subst hq; exact below_drewN (Below.refl _ _) q)
    by_cases hlt : k < n
    · obtain ⟨g1, o1, rfl, hg1, hc1⟩ := H1.out (by have := HN.out; omega)
      obtain ⟨g2, o2, rfl, hg2, hc2⟩ := H2.out (by have := HN.out; omega)
      obtain ⟨l, hl⟩ := get_at HN.out hlt
      obtain ⟨u1, hu1', i1⟩ := hc1 k l hl
      have hu1 := (HB.out.cell (p := ⟨g1, o1 + k, none⟩) hg1).trans hu1'
      obtain ⟨u2, hu2', i2⟩ := hc2 k l hl
      have hu2 := (HB.out.cell (p := ⟨g2, o2 + k, none⟩) hg2).trans hu2'
      have HQ : Hid (∀ m, Calls Try.prog 38 #[u1, u2] (wr.drewN m) fun e w' => e = .returned (.bool true) ∧ ∃ k, w' = (wr.drewN m).drewN k) := Lib.hid fun m =>
        eqI_any u1 u2 l (by have := row_len hl; omega) (wr.drewN m) (i1.below (below_drewN HB.out m)) (i2.below (below_drewN HB.out m))
      obtain ⟨b1, d1, rfl⟩ := i1.form
      obtain ⟨b2, d2, rfl⟩ := i2.form
      clear hl hg1 hg2 hc1 hc2 i1 i2 hu1' hu2'
      generalize l.length = m at *
      go_wp2
      go_quiet ((go_at_call 38; exact Calls.quiet_of (HQ.out _)))
      go_wp2
      refine ⟨⟨k + 1, by omega, by go_num, Lib.hid (by obtain ⟨q, hq⟩ := HW.out; exact ⟨q + nq, by rw [hq, World.drewN_drewN]⟩)⟩, by simp [intOf]; omega⟩
    · go_wp2
      go_ret
      exact ⟨rfl, HW.out⟩

/-- The rows hold k0, k0 + 1 and so on, up to row k. -/
def mkY (k0 : Int) (Y : List (List Int)) (k : Nat) : List (List Int) := (List.range Y.length).map fun j => if j < k then runL (k0 + (tk Y j : Nat)) (Y.getD j []).length else Y.getD j []
theorem mkY_len (k0 : Int) (Y : List (List Int)) (k : Nat) : (mkY k0 Y k).length = Y.length := by simp [mkY]
theorem getD_of {Y : List (List Int)} {j : Nat} {l : List Int} (h : Y[j]? = some l) : Y.getD j [] = l := by simp [List.getD, h]
theorem lt_of_get {α : Type} {Y : List α} {j : Nat} {l : α} (h : Y[j]? = some l) : j < Y.length := by
  rcases Nat.lt_or_ge j Y.length with h' | h'
  · exact h'
  · rw [List.getElem?_eq_none h'] at h; cases h
theorem mkY_get {k0 : Int} {Y : List (List Int)} {k j : Nat} {l : List Int} (h : Y[j]? = some l) : (mkY k0 Y k)[j]? = some (if j < k then runL (k0 + (tk Y j : Nat)) l.length else l) := by
  have hj := lt_of_get h
  have h' : Y[j] = l := by rw [List.getElem?_eq_getElem hj] at h; exact Option.some.inj h
  simp [mkY, hj, h']
theorem mkY_zero (k0 : Int) (Y : List (List Int)) : mkY k0 Y 0 = Y := by
  apply List.ext_getElem?
  intro j
  rcases Nat.lt_or_ge j Y.length with h | h
  · rw [mkY_get (List.getElem?_eq_getElem h), if_neg (by omega), List.getElem?_eq_getElem h]
  · rw [List.getElem?_eq_none h, List.getElem?_eq_none (by rw [mkY_len]; exact h)]
theorem mkY_succ {k0 : Int} {Y : List (List Int)} {k : Nat} {l : List Int} (h : Y[k]? = some l) : (mkY k0 Y k).set k (runL (k0 + (tk Y k : Nat)) l.length) = mkY k0 Y (k + 1) := by
  have hk := lt_of_get h
  apply List.ext_getElem?
  intro j
  rcases Nat.lt_or_ge j Y.length with hj | hj
  · obtain ⟨m, hm⟩ := get_at rfl hj
    by_cases e : k = j
    · subst e
      rw [hm] at h
      cases h
      rw [List.getElem?_set_self (by rw [mkY_len]; exact hj), mkY_get hm, if_pos (by omega)]
    · rw [List.getElem?_set_ne e, mkY_get hm, mkY_get hm]
      by_cases h1 : j < k
      · rw [if_pos h1, if_pos (by omega)]
      · rw [if_neg h1, if_neg (by omega)]
  · rw [List.getElem?_eq_none (by rw [List.length_set, mkY_len]; exact hj), List.getElem?_eq_none (by rw [mkY_len]; exact hj)]

set_option maxRecDepth 100000 in
set_option maxHeartbeats 1000000 in
theorem markSS_any (v : Value) (Y : List (List Int)) (k0 : Int) (B hi : Nat) (hn : Y.length ≤ 1048576) (ht : tot Y ≤ 1048576) (hk0 : 0 ≤ k0) (hk1 : k0 ≤ 1000000) (w : World) (h : OwnY w B hi v Y) :
    Calls Try.prog 47 #[v, .int .i64 k0] w fun e w' => e = .returned (.int .i64 (k0 + (tot Y : Nat))) ∧ OwnY w' B hi v (mkY k0 Y Y.length) ∧ Span B hi w w' := by
  obtain ⟨n, hl⟩ : ∃ n, Y.length = n := ⟨_, rfl⟩
  have HN := Lib.hid hl
  have HA := Lib.hid (tk_all Y)
  have HF := Lib.hid (fun (h0 : 0 < Y.length) => h.rows h0)
  obtain ⟨a, cap, rfl⟩ := h.form
  rw [hl] at hn HA HF ⊢
  have R0 : Hid (OwnY w B hi (.slice a n cap) (mkY k0 Y 0) ∧ Span B hi w w) := Lib.hid ⟨by rw [mkY_zero, ← hl]; exact h, Span.refl _ _ _⟩
  clear h hl
  rw [← HA.out]
  go_enter Try.func47, Try.ntmps47
  go_wp2
  go_loopw [1, 5] (fun m i wr => ∃ k : Nat, k ≤ n ∧ i = .int .i64 k ∧ m = .int .i64 (k0 + (tk Y k : Nat)) ∧ Hid (OwnY wr B hi (.slice a n cap) (mkY k0 Y k) ∧ Span B hi w wr)) (fun _ i _ => n - (intOf i).toNat)
  case atStart => exact ⟨0, Nat.zero_le _, rfl, by rw [tk_zero]; simp, R0⟩
  case round =>
    obtain ⟨k, hk, rfl, rfl, HR⟩ := hrel
    by_cases hlt : k < n
    · obtain ⟨g, cap', e⟩ := HF.out (by omega)
      injection e with e1 e2 e3
      subst e1 e3
      obtain ⟨l, hl⟩ := get_at HN.out hlt
      have hml : (mkY k0 Y k)[k]? = some l := by rw [mkY_get hl, if_neg (by omega)]
      obtain ⟨u, hu, -, ho, -⟩ := HR.out.1.cell hml
      have HT := Lib.hid (tk_succ hl)
      have hle := tk_le Y k
      have HZ := Lib.hid (markI_any u l (k0 + (tk Y k : Nat)) B (by have := row_len hl; omega) (by omega) (by omega) wr ho)
      have KT : Hid (∀ w', w'.ownsRow B 3 1 u l.length (intV (runL (k0 + (tk Y k : Nat)) l.length)) → wr.grownBy w' u.ownBlock → OwnY w' B hi (.slice (some ⟨g, 0, none⟩) n cap) (mkY k0 Y (k + 1)) ∧ Span B hi w w') := Lib.hid fun w' h1 h2 => by
        have h := HR.out.1.put (l' := runL (k0 + (tk Y k : Nat)) l.length) (by rw [mkY_len]; exact lt_of_get hl) hu h2 (by rw [runL_len]; exact h1)
        rw [mkY_succ hl] at h
        exact ⟨h.1, HR.out.2.trans h.2⟩
      obtain ⟨a2, c2, rfl⟩ := own_form ho
      have HU := Lib.hid (row_len hl)
      clear hl hml ho R0
      generalize l.length = m at *
      generalize tk Y k = t at *
      go_wp2_with fail
      refine HZ.out.mono ?_
      rintro e w1 ⟨rfl, ho, hb⟩
      have HR2 := Lib.hid (KT.out w1 ho hb)
      clear ho hb
      go_wp2
      refine ⟨⟨k + 1, by omega, by go_num, val_i (by have := HT.out; omega), HR2⟩, by simp [intOf]; omega⟩
    · obtain rfl : k = n := by omega
      have HX := Lib.hid HR.out
      have HNN := HN.out
      go_wp2
      go_ret
      exact ⟨rfl, HX.out⟩

set_option maxRecDepth 100000 in
set_option maxHeartbeats 1000000 in
theorem heldSS_any (v : Value) (Y : List (List Int)) (k0 : Int) (hn : Y.length ≤ 1048576) (ht : tot Y ≤ 1048576) (hk0 : 0 ≤ k0) (hk1 : k0 ≤ 1000000) (w : World) (h : YL w v (mkY k0 Y Y.length)) :
    Calls Try.prog 48 #[v, .int .i64 k0] w fun e w' => e = .returned (.int .i64 (k0 + (tot Y : Nat))) ∧ Below w.heap.size w w' := by
  obtain ⟨n, hl⟩ : ∃ n, Y.length = n := ⟨_, rfl⟩
  have HN := Lib.hid hl
  have HA := Lib.hid (tk_all Y)
  obtain ⟨a, cap, rfl, hc⟩ := h
  rw [mkY_len] at hc ⊢
  rw [hl] at hn HA hc ⊢
  have HC := Lib.hid hc
  clear hl hc
  rw [← HA.out]
  go_enter Try.func48, Try.ntmps48
  go_wp2
  go_loopw [1, 5] (fun m i wr => ∃ k : Nat, k ≤ n ∧ i = .int .i64 k ∧ m = .int .i64 (k0 + (tk Y k : Nat)) ∧ Hid (Below w.heap.size w wr)) (fun _ i _ => n - (intOf i).toNat)
  case atStart => exact ⟨0, Nat.zero_le _, rfl, by rw [tk_zero]; simp, Lib.hid (Below.refl _ _)⟩
  case round =>
    obtain ⟨k, hk, rfl, rfl, HR⟩ := hrel
    by_cases hlt : k < n
    · obtain ⟨g, off, rfl, hg, hcc⟩ := HC.out (by omega)
      obtain ⟨l, hl⟩ := get_at HN.out hlt
      have hml : (mkY k0 Y n)[k]? = some (runL (k0 + (tk Y k : Nat)) l.length) := by rw [mkY_get hl, if_pos hlt]
      obtain ⟨u, hu, hil⟩ := hcc k _ hml
      have hu2 := (HR.out.cell (p := ⟨g, off + k, none⟩) hg).trans hu
      have HT := Lib.hid (tk_succ hl)
      have hle := tk_le Y k
      have hrl := row_len hl
      have HZ := Lib.hid (heldI_any u l.length (k0 + (tk Y k : Nat)) (by omega) (by omega) (by omega) wr (hil.below HR.out))
      obtain ⟨a2, c2, rfl⟩ := hil.form
      rw [runL_len] at *
      have HU := Lib.hid (row_len hl)
      clear hl hml hcc hil hu
      generalize l.length = m at *
      generalize tk Y k = t at *
      go_wp2_with fail
      refine HZ.out.mono ?_
      rintro e w1 ⟨rfl, q, rfl⟩
      have HR2 := Lib.hid (below_drewN HR.out q)
      go_wp2
      refine ⟨⟨k + 1, by omega, by go_num, val_i (by have := HT.out; omega), HR2⟩, by simp [intOf]; omega⟩
    · obtain rfl : k = n := by omega
      go_wp2
      go_ret
      exact ⟨rfl, HR.out⟩
end Go.Proofs.Ytpflnjjckeeihaa
