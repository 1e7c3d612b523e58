/-
  What the two RoomFor return. No statement of the seat by itself.
-/
import Derived.Test.YtalobfpmmembiaaLsA
import Derived.Shelf.Abstract
namespace Go.Proofs.Ytalobfpmmembiaa
open Go.RowKit

theorem few_get {st : Int} {F : List Int} (h : few st F = true) {k : Nat} {f : Int} (hk : F[k]? = some f) : lsh st f ≤ 4 := by
  unfold few at h
  rw [List.all_eq_true] at h
  exact of_decide_eq_true (h f (List.mem_of_getElem? hk))
theorem frc_mono {t s s' : Int} (ht : 0 ≤ t) (h : s ≤ s') : frc t s ≤ frc t s' := by
  have := Int.mul_le_mul_of_nonneg_left h ht
  exact Int.ediv_le_ediv (by decide) (by omega)
theorem drop_one (l : List Int) (y : Int) {k : Nat} (hk : k ≤ l.length) : ((l ++ [y]).drop k).sum = (l.drop k).sum + y := by
  rw [List.drop_append_of_le_length hk, List.sum_append]
  simp
/-- A smaller weight succeeds where a greater one does. -/
theorem adB_mono {l : List Int} {x y a b c : Int} (hy : 1 ≤ y) (hxy : y ≤ x) (h : adB l x a b c = true) : adB l y a b c = true := by
  simp only [adB, neB, goodC, Bool.and_eq_true, decide_eq_true_eq] at h ⊢
  obtain ⟨⟨⟨hg, hr⟩, hf⟩, hs⟩ := h
  obtain ⟨g1, g2⟩ := goodW_iff.1 hg
  have hr' := okX_iff.1 hr
  refine ⟨⟨⟨goodW_iff.2 ⟨by simpa using g1, fun z hz => ?_⟩, hr⟩, few_all fun k f hk => ?_⟩, ?_⟩
  · rcases List.mem_append.1 hz with q | q
    · exact g2 z (List.mem_append_left _ q)
    · rw [List.mem_singleton] at q
      have := g2 x (List.mem_append_right _ (List.mem_singleton.2 rfl))
      omega
  · have hl := lt_of_get hk
    rw [frcs_len, List.length_append, List.length_singleton] at hl
    rw [frcs_get b _ _ _ (by rw [List.length_append, List.length_singleton]; exact hl)] at hk
    cases hk
    have h4 := few_get hf (frcs_get b (l ++ [x]) (l ++ [x]).length k (by rw [List.length_append, List.length_singleton]; exact hl))
    refine Int.le_trans (lsh_mono hr'.2.2.1 (frc_mono hr'.2.1.1 ?_)) h4
    rw [drop_one l y (by omega), drop_one l x (by omega)]
    omega
  · rw [List.sum_append] at hs ⊢
    simp at hs ⊢
    omega
/-- The greatest weight up to m that can be added, or 0. -/
def rmK (l : List Int) (a b c : Int) : Nat → Nat
  | 0 => 0
  | m + 1 => if adB l ((m + 1 : Nat) : Int) a b c = true then m + 1 else rmK l a b c m
theorem rmK_le (l : List Int) (a b c : Int) : ∀ m, rmK l a b c m ≤ m
  | 0 => Nat.le_refl _
  | m + 1 => by
    have := rmK_le l a b c m
    rw [rmK]
    split <;> omega
theorem rmK_ok (l : List Int) (a b c : Int) : ∀ m, rmK l a b c m = 0 ∨ adB l (rmK l a b c m : Int) a b c = true
  | 0 => .inl rfl
  | m + 1 => by
    rw [rmK]
    split
    · rename_i h; exact .inr h
    · exact rmK_ok l a b c m
theorem rmK_max (l : List Int) (a b c : Int) : ∀ m y : Nat, y ≤ m → adB l (y : Int) a b c = true → y ≤ rmK l a b c m
  | 0, y, h, _ => h
  | m + 1, y, h, hy => by
    rw [rmK]
    split
    · exact h
    · rename_i hn
      by_cases e : y = m + 1
      · subst e; exact absurd hy hn
      · exact rmK_max l a b c m y (by omega) hy
theorem rm_uniq {l : List Int} {a b c : Int} {r : Nat} (h1 : r = 0 ∨ adB l (r : Int) a b c = true) (h2 : r ≤ 32000) (h3 : r = 32000 ∨ adB l ((r + 1 : Nat) : Int) a b c = false) : rmK l a b c 32000 = r := by
  have k1 := rmK_le l a b c 32000
  have k2 := rmK_ok l a b c 32000
  have k3 := rmK_max l a b c 32000
  generalize rmK l a b c 32000 = q at *
  rcases Nat.lt_trichotomy q r with h | h | h
  · rcases h1 with h1 | h1
    · omega
    · have := k3 r h2 h1; omega
  · exact h
  · rcases k2 with k2 | k2
    · omega
    · rcases h3 with h3 | h3
      · omega
      · have := adB_mono (y := ((r + 1 : Nat) : Int)) (by omega) (by omega) k2
        rw [this] at h3
        cases h3
def rmV (l : List Int) (a b c : Int) : Int := if goodC l a b c = true then (rmK l a b c 32000 : Nat) else 0
/-- An int, and whether it worked. -/
def RetQ (w : World) (x : Int) (ok : Bool) : Ending → World → Prop := RetP w (.tuple #[.int .i64 x, .bool ok])

set_option maxRecDepth 100000 in
set_option maxHeartbeats 4000000 in
theorem room1_any (A A2 i : Nat) (v : Value) (l : List Int) (a b c : Int) (hn : l.length ≤ 1048576) (hi : i ≤ 32000) (w : World) (hv : IL w v l) (h1 : Box1 w A v) (h2 : BoxR w A2 a b c) :
    Calls Try.prog 66 (#[.int .i64 (i : Int)] ++ #[.pointer (some ⟨A, 0, none⟩), .pointer (some ⟨A2, 0, none⟩)]) w fun e w' => e = .returned (.bool (!(adB l ((i + 1 : Nat) : Int) a b c))) ∧ Below w.heap.size w w' := by
  have H := Lib.hid (implAd_any v l ((i + 1 : Nat) : Int) a b c hn w hv)
  rw [show ((i + 1 : Nat) : Int) = (i : Int) + 1 by omega] at H ⊢
  obtain ⟨-, k0⟩ := h1
  obtain ⟨-, c0, c1, c2⟩ := h2
  obtain ⟨p, cap, rfl⟩ := hv.form
  clear hv
  generalize adB l ((i : Int) + 1) a b c = q at *
  go_enter Try.func66, Try.ntmps66
  go_wp2_with fail
  refine H.out.mono ?_
  rintro e w1 ⟨a1, c1, rfl, -, hb⟩
  have HB := Lib.hid hb
  clear hb
  go_wp2_with fail
  go_ret
  exact ⟨rfl, HB.out⟩
theorem enters_room : Enters Try.prog 66 := enters_of Try.func66 (by kernel_rfl) rfl

set_option maxRecDepth 100000 in
set_option maxHeartbeats 4000000 in
theorem search_any (F : Nat) (caps : Array Value) (hE : Enters Try.prog F) (p : Nat → Bool) (w : World)
    (hF : ∀ (i : Nat) (W : World), i < 32000 → Below w.heap.size w W → Calls Try.prog F (#[.int .i64 (i : Int)] ++ caps) W fun e w' => e = .returned (.bool (!(p (i + 1)))) ∧ Below W.heap.size W w') :
    Calls Try.prog 65 #[.int .i64 32000, .func (.func F) #[] caps] w fun e w' => ∃ r : Nat, e = .returned (.int .i64 (r : Int)) ∧ r ≤ 32000 ∧ (r = 0 ∨ p r = true) ∧ (r = 32000 ∨ p (r + 1) = false) ∧ Below w.heap.size w w' := by
  have HF := Lib.hid hF
  clear hF
  go_enter Try.func65, Try.ntmps65
  go_wp2_with fail
  go_loopw [5, 6] (fun x y wr => ∃ i j : Nat, x = .int .i64 (i : Int) ∧ y = .int .i64 (j : Int) ∧ i ≤ j ∧ j ≤ 32000 ∧ Hid (i = 0 ∨ p i = true) ∧ Hid (j = 32000 ∨ p (j + 1) = false) ∧ Hid (Below w.heap.size w wr)) (fun x y _ => (intOf y).toNat - (intOf x).toNat)
  case atStart => exact ⟨0, 32000, rfl, rfl, by omega, by omega, Lib.hid (.inl rfl), Lib.hid (.inl rfl), Lib.hid (Below.refl _ _)⟩
  case round =>
    obtain ⟨i, j, rfl, rfl, hij, hj, HI, HJ, HB⟩ := hrel
    rename World => wr
    by_cases hlt : i < j
    · obtain ⟨m, hm⟩ : ∃ m, (i + j) / 2 = m := ⟨_, rfl⟩
      have HM := Lib.hid hm
      have hm1 : i ≤ m := by omega
      have hm2 : m < j := by omega
      have HE := Lib.hid (HF.out m wr (by omega) HB.out)
      have hij' : (i : Int) < (j : Int) := by omega
      have hmI : ((i : Int) + (j : Int)) / 2 = (m : Int) := by omega
      clear hm
      go_wp2_with fail
      rw [hE, Oper.upon_enter]
      refine HE.out.mono ?_
      rintro e w1 ⟨rfl, hb⟩
      have HB1 := Lib.hid (HB.out.trans (hb.mono HB.out.size))
      clear hb
      cases hp : p (m + 1) with
      | true =>
        have HP := Lib.hid hp
        clear hp
        go_wp2_with fail
        exact ⟨⟨m + 1, j, by go_num, rfl, by omega, hj, Lib.hid (.inr HP.out), HJ, HB1⟩, by simp [intOf]; omega⟩
      | false =>
        have HP := Lib.hid hp
        clear hp
        go_wp2_with fail
        exact ⟨⟨i, m, rfl, rfl, hm1, by omega, HI, Lib.hid (.inr HP.out), HB1⟩, by simp [intOf]; omega⟩
    · obtain rfl : i = j := by omega
      go_wp2_with fail
      go_ret
      exact ⟨i, rfl, hj, HI.out, HJ.out, HB.out⟩

set_option maxRecDepth 100000 in
set_option maxHeartbeats 4000000 in
theorem implRm_any (v : Value) (l : List Int) (a b c : Int) (hn : l.length ≤ 1048576) (w : World) (h : IL w v l) :
    Calls Try.prog 28 #[v, .agg #[.int .i64 a, .int .i64 b, .int .i64 c]] w (RetQ w (rmV l a b c) (goodC l a b c)) := by
  have hb1 := below_one w (.cells #[v] 24)
  have hb2 := below_one (w.alloc (.cells #[v] 24)) (.cells #[.int .i64 a, .int .i64 b, .int .i64 c] 26)
  have hs : (w.alloc (.cells #[v] 24)).heap.size = w.heap.size + 1 := by simp
  have BX := Lib.hid ((Box1.new w v 24).below hb2)
  have BA0 := BoxR.new (w.alloc (.cells #[v] 24)) a b c 26
  rw [hs] at BA0
  have BA := Lib.hid BA0
  have HB := Lib.hid (hb1.trans (hb2.mono hb1.size))
  have HG := Lib.hid (implValidC_any v l (by omega) _ (h.below HB.out))
  have HV := Lib.hid (h.below HB.out)
  have HH := Lib.hid (fun (W : World) (hv : IL W v l) (q1 : Box1 W w.heap.size v) (q2 : BoxR W (w.heap.size + 1) a b c) => search_any 66 #[.pointer (some ⟨w.heap.size, 0, none⟩), .pointer (some ⟨w.heap.size + 1, 0, none⟩)] enters_room (fun i => adB l (i : Int) a b c) W fun i W' hi hb => room1_any w.heap.size (w.heap.size + 1) i v l a b c hn (by omega) W' (hv.below hb) (q1.below hb) (q2.below hb))
  obtain ⟨p, cap, rfl⟩ := h.form
  have k0 := BX.out.2
  obtain ⟨-, c0, c1, c2⟩ := BA.out
  clear h hb1 hb2 hs BA0
  cases hg : goodW l 4 with
  | false =>
    rw [hg] at HG
    rw [show goodC l a b c = false by simp [goodC, hg], show rmV l a b c = 0 by simp [rmV, goodC, hg]]
    clear hg
    go_enter Try.func28, Try.ntmps28
    go_wp2_with fail
    refine HG.out.mono ?_
    rintro e w1 ⟨rfl, hb⟩
    have HB1 := Lib.hid (HB.out.trans (hb.mono HB.out.size))
    clear hb c0 c1 c2 k0
    go_wp2_with fail
    go_ret2
    exact ⟨rfl, HB1.out⟩
  | true =>
    rw [hg] at HG
    have HR := Lib.hid (implRules_any a b c)
    cases hx : okX a b c with
    | false =>
      rw [hx] at HR
      rw [show goodC l a b c = false by simp [goodC, hx], show rmV l a b c = 0 by simp [rmV, goodC, hx]]
      clear hg hx
      go_enter Try.func28, Try.ntmps28
      go_wp2_with fail
      refine HG.out.mono ?_
      rintro e w1 ⟨rfl, hb⟩
      have HB1 := Lib.hid (HB.out.trans (hb.mono HB.out.size))
      have BA1 := Lib.hid (BA.out.below hb)
      clear hb c0 c1 c2 k0
      obtain ⟨-, c0, c1, c2⟩ := BA1.out
      go_wp2_with fail
      refine (HR.out _).mono ?_
      rintro e w2 ⟨rfl, hb⟩
      have HB2 := Lib.hid (HB1.out.trans (hb.mono HB1.out.size))
      clear hb c0 c1 c2
      go_wp2_with fail
      go_ret2
      exact ⟨rfl, HB2.out⟩
    | true =>
      rw [hx] at HR
      rw [show goodC l a b c = true by simp [goodC, hg, hx], show rmV l a b c = (rmK l a b c 32000 : Nat) by simp [rmV, goodC, hg, hx]]
      have HU := Lib.hid (fun r => rm_uniq (l := l) (a := a) (b := b) (c := c) (r := r))
      clear hg hx
      generalize rmK l a b c 32000 = R at *
      go_enter Try.func28, Try.ntmps28
      go_wp2_with fail
      refine HG.out.mono ?_
      rintro e w1 ⟨rfl, hb⟩
      have HB1 := Lib.hid (HB.out.trans (hb.mono HB.out.size))
      have BA1 := Lib.hid (BA.out.below hb)
      have BX1 := Lib.hid (BX.out.below hb)
      have HV1 := Lib.hid (HV.out.below hb)
      clear hb c0 c1 c2 k0
      obtain ⟨-, c0, c1, c2⟩ := BA1.out
      go_wp2_with fail
      refine (HR.out _).mono ?_
      rintro e w2 ⟨rfl, hb⟩
      have HB2 := Lib.hid (HB1.out.trans (hb.mono HB1.out.size))
      have BA2 := Lib.hid (BA1.out.below hb)
      have BX2 := Lib.hid (BX1.out.below hb)
      have HV2 := Lib.hid (HV1.out.below hb)
      clear hb c0 c1 c2
      go_wp2_with fail
      refine (HH.out _ HV2.out BX2.out BA2.out).mono ?_
      rintro e w3 ⟨r, rfl, r1, r2, r3, hb⟩
      have HB3 := Lib.hid (HB2.out.trans (hb.mono HB2.out.size))
      have HE := HU.out r r2 r1 r3
      subst HE
      clear hb r1 r2 r3
      go_wp2_with fail
      go_ret2
      exact ⟨rfl, HB3.out⟩

set_option maxRecDepth 100000 in
set_option maxHeartbeats 4000000 in
theorem specRm_any (v : Value) (l : List Int) (a b c : Int) (hn : l.length ≤ 1048576) (w : World) (h : IL w v l) :
    Calls Try.prog 29 #[v, .agg #[.int .i64 a, .int .i64 b, .int .i64 c]] w (RetQ w (rmV l a b c) (goodC l a b c)) := by
  have hB0 := below_one w (.cells #[.int .i64 a, .int .i64 b, .int .i64 c] 26)
  have BA := Lib.hid (BoxR.new w a b c 26)
  have HB := Lib.hid hB0
  have HG := Lib.hid (l12Good_any v l hn _ (h.below hB0))
  obtain ⟨-, c0, c1, c2⟩ := BA.out
  have HV := Lib.hid h
  obtain ⟨p, cap, rfl⟩ := h.form
  clear h hB0
  cases hg : goodW l 4 with
  | false =>
    rw [hg] at HG
    rw [show goodC l a b c = false by simp [goodC, hg], show rmV l a b c = 0 by simp [rmV, goodC, hg]]
    clear hg
    go_enter Try.func29, Try.ntmps29
    go_wp2_with fail
    refine HG.out.mono ?_
    rintro e w1 ⟨rfl, hb⟩
    have HB1 := Lib.hid (HB.out.trans (hb.mono HB.out.size))
    clear hb c0 c1 c2
    go_wp2_with fail
    go_ret2
    exact ⟨rfl, HB1.out⟩
  | true =>
    rw [hg] at HG
    have HR := Lib.hid (specRules_any a b c)
    cases hx : okX a b c with
    | false =>
      rw [hx] at HR
      rw [show goodC l a b c = false by simp [goodC, hx], show rmV l a b c = 0 by simp [rmV, goodC, hx]]
      clear hg hx
      go_enter Try.func29, Try.ntmps29
      go_wp2_with fail
      refine HG.out.mono ?_
      rintro e w1 ⟨rfl, hb⟩
      have HB1 := Lib.hid (HB.out.trans (hb.mono HB.out.size))
      have BA1 := Lib.hid (BA.out.below hb)
      clear hb c0 c1 c2
      obtain ⟨-, c0, c1, c2⟩ := BA1.out
      go_wp2_with fail
      refine (HR.out _).mono ?_
      rintro e w2 ⟨rfl, hb⟩
      have HB2 := Lib.hid (HB1.out.trans (hb.mono HB1.out.size))
      clear hb c0 c1 c2
      go_wp2_with fail
      go_ret2
      exact ⟨rfl, HB2.out⟩
    | true =>
      rw [hx] at HR
      rw [show goodC l a b c = true by simp [goodC, hg, hx], show rmV l a b c = (rmK l a b c 32000 : Nat) by simp [rmV, goodC, hg, hx]]
      have HU := Lib.hid (fun r => rm_uniq (l := l) (a := a) (b := b) (c := c) (r := r))
      have HAd := Lib.hid (fun (m : Nat) W hW => specAd_any (.slice p l.length cap) l (m : Int) a b c hn W hW)
      clear hg hx
      generalize rmK l a b c 32000 = R at *
      go_enter Try.func29, Try.ntmps29
      go_wp2_with fail
      refine HG.out.mono ?_
      rintro e w1 ⟨rfl, hb⟩
      have HB1 := Lib.hid (HB.out.trans (hb.mono HB.out.size))
      have BA1 := Lib.hid (BA.out.below hb)
      clear hb c0 c1 c2
      obtain ⟨-, c0, c1, c2⟩ := BA1.out
      go_wp2_with fail
      refine (HR.out _).mono ?_
      rintro e w2 ⟨rfl, hb⟩
      have HB2 := Lib.hid (HB1.out.trans (hb.mono HB1.out.size))
      have BA2 := Lib.hid (BA1.out.below hb)
      clear hb c0 c1 c2
      go_wp2_with fail
      go_loopw [6, 7] (fun x y wr => ∃ i j : Nat, x = .int .i64 (i : Int) ∧ y = .int .i64 (j : Int) ∧ i ≤ j ∧ j ≤ 32000 ∧ Hid (i = 0 ∨ adB l (i : Int) a b c = true) ∧ Hid (j = 32000 ∨ adB l ((j + 1 : Nat) : Int) a b c = false) ∧ Hid (Below w.heap.size w wr) ∧ Hid (BoxR wr w.heap.size a b c)) (fun x y _ => (intOf y).toNat - (intOf x).toNat)
      case atStart => exact ⟨0, 32000, rfl, rfl, by omega, by omega, Lib.hid (.inl rfl), Lib.hid (.inl rfl), HB2, BA2⟩
      case round =>
        obtain ⟨i, j, rfl, rfl, hij, hj, HI, HJ, HB3, BA3⟩ := hrel
        rename World => wr
        by_cases hlt : i < j
        · obtain ⟨m, hm⟩ : ∃ m, (i + j + 1) / 2 = m := ⟨_, rfl⟩
          have hm1 : i + 1 ≤ m := by omega
          have hm2 : m ≤ j := by omega
          have hmI : ((i : Int) + (j : Int) + 1).tdiv 2 = (m : Int) := by rw [Int.tdiv_eq_ediv_of_nonneg (by omega)]; omega
          have HE := Lib.hid (HAd.out m wr (HV.out.below HB3.out))
          have hij' : (i : Int) < (j : Int) := by omega
          obtain ⟨-, c0, c1, c2⟩ := BA3.out
          clear hm
          cases hp : adB l (m : Int) a b c with
          | true =>
            rw [hp] at HE
            have HP := Lib.hid hp
            clear hp
            go_wp2_with fail
            refine HE.out.mono ?_
            rintro e w4 ⟨a4, c4, rfl, -, hb⟩
            have HB4 := Lib.hid (HB3.out.trans (hb.mono HB3.out.size))
            have BA4 := Lib.hid (BA3.out.below hb)
            clear hb c0 c1 c2
            go_wp2_with fail
            exact ⟨⟨m, j, rfl, rfl, hm2, hj, Lib.hid (.inr HP.out), HJ, HB4, BA4⟩, by simp [intOf]; omega⟩
          | false =>
            rw [hp] at HE
            have HP : Hid (adB l ((m - 1 + 1 : Nat) : Int) a b c = false) := Lib.hid (by rw [show m - 1 + 1 = m by omega]; exact hp)
            clear hp
            go_wp2_with fail
            refine HE.out.mono ?_
            rintro e w4 ⟨a4, c4, rfl, -, hb⟩
            have HB4 := Lib.hid (HB3.out.trans (hb.mono HB3.out.size))
            have BA4 := Lib.hid (BA3.out.below hb)
            clear hb c0 c1 c2
            go_wp2_with fail
            exact ⟨⟨i, m - 1, rfl, val_i (by omega), by omega, by omega, HI, Lib.hid (.inr HP.out), HB4, BA4⟩, by simp [intOf]; omega⟩
        · obtain rfl : i = j := by omega
          have HE := HU.out i HI.out hj HJ.out
          subst HE
          go_wp2_with fail
          go_ret2
          exact ⟨rfl, HB3.out⟩
end Go.Proofs.Ytalobfpmmembiaa
