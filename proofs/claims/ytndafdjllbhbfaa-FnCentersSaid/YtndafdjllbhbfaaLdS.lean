/-
  What the sums of loads are, in the program and in the reference. No statement of the seat by itself.
-/
import Derived.Test.YtndafdjllbhbfaaLdG
namespace Go.Proofs.Ytndafdjllbhbfaa
open Go.RowKit

set_option maxRecDepth 100000 in
set_option maxHeartbeats 4000000 in
theorem sumOf_any (F : Nat) (caps : Array Value) (hE : Enters Try.prog F) (v : Value) (l : List (Int × Int × Int)) (f : Int × Int × Int → Int) (hl : l.length ≤ 20) (hb : ∀ x ∈ l, -13000000 ≤ f x ∧ f x ≤ 13000000) (w : World) (h : LdL w v l)
    (hF : ∀ (x y z : Int) (W : World), (x, y, z) ∈ l → Below w.heap.size w W → Calls Try.prog F (#[.agg #[.int .i64 x, .int .i64 y, .int .i64 z]] ++ caps) W fun e w' => e = .returned (.int .i64 (f (x, y, z))) ∧ Below W.heap.size W w') :
    Calls Try.prog 65 #[v, .func (.func F) #[] caps] w (RetP w (.int .i64 (sumF f l))) := by
  obtain ⟨n, hn⟩ : ∃ n, l.length = n := ⟨_, rfl⟩
  have HN := Lib.hid hn
  have HF := Lib.hid hF
  have HM := Lib.hid hb
  obtain ⟨a, c, rfl, hc⟩ := h
  have HC := Lib.hid hc
  have HT := Lib.hid (fun k => sumF_take_small f 13000000 l hb (by decide) hl k)
  rw [hn] at hl ⊢
  clear hc hn hF hb
  go_enter Try.func65, Try.ntmps65
  go_wp2_with fail
  go_loopw [5, 10] (fun s i wr => ∃ (k : Nat) (t : Int), k ≤ n ∧ i = .int .i64 k ∧ s = .int .i64 t ∧ Hid (t = sumF f (l.take k)) ∧ Hid (Below w.heap.size w wr)) (fun _ i _ => n - (intOf i).toNat)
  case atStart => exact ⟨0, 0, Nat.zero_le _, rfl, rfl, Lib.hid rfl, Lib.hid (Below.refl _ _)⟩
  case round =>
    obtain ⟨k, t, hk, rfl, rfl, HS, HB⟩ := hrel
    by_cases hlt : k < n
    · obtain ⟨g, off, rfl, hg, hcc⟩ := HC.out (by have := HN.out; omega)
      obtain ⟨s, hs⟩ := get_at HN.out hlt
      obtain ⟨x, y, z⟩ := s
      have o0 : wr.cell? ⟨g, off + k * 3, none⟩ = some (.int .i64 x) := (HB.out.cell (p := ⟨g, off + k * 3, none⟩) hg).trans (hcc k _ hs).1
      have o1 : wr.cell? ⟨g, off + k * 3 + 1, none⟩ = some (.int .i64 y) := (HB.out.cell (p := ⟨g, off + k * 3 + 1, none⟩) hg).trans (hcc k _ hs).2.1
      have o2 : wr.cell? ⟨g, off + k * 3 + 2, none⟩ = some (.int .i64 z) := (HB.out.cell (p := ⟨g, off + k * 3 + 2, none⟩) hg).trans (hcc k _ hs).2.2
      have B1 := (HB.out.trans ((below_one wr (.cells #[.int .i64 x, .int .i64 y, .int .i64 z] 50)).mono HB.out.size))
      have HE := Lib.hid (HF.out x y z _ (List.mem_of_getElem? hs) B1)
      have HB2 := Lib.hid B1
      have HK2 := Lib.hid (sumF_take f hs)
      obtain ⟨m1, m2⟩ := HM.out _ (List.mem_of_getElem? hs)
      obtain ⟨q1, q2⟩ := HT.out k
      rw [← HS.out] at q1 q2
      obtain ⟨u, hu⟩ : ∃ u, f (x, y, z) = u := ⟨_, rfl⟩
      rw [hu] at m1 m2 HE HK2
      clear hcc hs B1 hu
      have HQ := Lib.hid (And.intro (And.intro m1 m2) (And.intro q1 q2))
      clear m1 m2 q1 q2
      go_wp2_with fail
      rw [hE, Oper.upon_enter]
      refine HE.out.mono ?_
      rintro e w1 ⟨rfl, hb⟩
      have HB3 := Lib.hid (HB2.out.trans (hb.mono HB2.out.size))
      clear hb o0 o1 o2
      obtain ⟨⟨m1, m2⟩, q1, q2⟩ := HQ.out
      go_wp2_with fail
      exact ⟨⟨k + 1, t + u, by omega, by go_num, rfl, Lib.hid (by rw [HK2.out, HS.out]), HB3⟩, by simp [intOf]; omega⟩
    · obtain rfl : k = n := by omega
      go_wp2_with fail
      go_ret
      exact ⟨ret_i (by rw [HS.out, List.take_of_length_le (by have := HN.out; omega)]), HB.out⟩

set_option maxHeartbeats 2000000 in
theorem weight_any (p q r : Int) (w : World) : Calls Try.prog 67 #[.agg #[.int .i64 p, .int .i64 q, .int .i64 r]] w fun e w' => e = .returned (.int .i64 (wgt (p, q, r))) ∧ Below w.heap.size w w' := by
  have B0 := Lib.hid (below_one w (.cells #[.int .i64 p, .int .i64 q, .int .i64 r] 50))
  go_enter Try.func67, Try.ntmps67
  go_wp2_with fail
  go_ret
  exact ⟨rfl, B0.out⟩
theorem wide_mul {a b M : Int} (h1 : -M ≤ a * b) (h2 : a * b ≤ M) (hM : M ≤ 1000000000000) : IntKind.i64.wrap (a * b) = a * b := by
  rw [IntKind.wrap_i64]; omega
set_option maxHeartbeats 2000000 in
theorem momentAcross_any (p q r : Int) (w : World) (h : okLd (p, q, r) = true) : Calls Try.prog 68 #[.agg #[.int .i64 p, .int .i64 q, .int .i64 r]] w fun e w' => e = .returned (.int .i64 (mAc (p, q, r))) ∧ Below w.heap.size w w' := by
  have B0 := Lib.hid (below_one w (.cells #[.int .i64 p, .int .i64 q, .int .i64 r] 50))
  obtain ⟨b1, b2⟩ := (okLd_bounds h).2.1
  simp only [mAc] at b1 b2
  clear h
  go_enter Try.func68, Try.ntmps68
  go_wp2_with fail
  go_ret
  exact ⟨ret_i rfl, B0.out⟩
set_option maxHeartbeats 2000000 in
theorem momentUp_any (p q r : Int) (w : World) (h : okLd (p, q, r) = true) : Calls Try.prog 69 #[.agg #[.int .i64 p, .int .i64 q, .int .i64 r]] w fun e w' => e = .returned (.int .i64 (mUp (p, q, r))) ∧ Below w.heap.size w w' := by
  have B0 := Lib.hid (below_one w (.cells #[.int .i64 p, .int .i64 q, .int .i64 r] 50))
  obtain ⟨b1, b2⟩ := (okLd_bounds h).2.2.1
  simp only [mUp] at b1 b2
  clear h
  go_enter Try.func69, Try.ntmps69
  go_wp2_with fail
  go_ret
  exact ⟨ret_i rfl, B0.out⟩
theorem enters_weight : Enters Try.prog 67 := enters_of Try.func67 (by kernel_rfl) rfl
theorem enters_momentAcross : Enters Try.prog 68 := enters_of Try.func68 (by kernel_rfl) rfl
theorem enters_momentUp : Enters Try.prog 69 := enters_of Try.func69 (by kernel_rfl) rfl

/-- The three sums of a valid list, or nothing. -/
def mom (S : List (Int × Int × Int)) : Int × Int × Int × Bool := if goodLd S then (sW S, sA S, sU S, true) else (0, 0, 0, false)
theorem mom_yes {S : List (Int × Int × Int)} (h : goodLd S = true) : mom S = (sW S, sA S, sU S, true) := by simp [mom, h]
theorem mom_no {S : List (Int × Int × Int)} (h : goodLd S = false) : mom S = (0, 0, 0, false) := by simp [mom, h]
/-- Three ints and whether it worked were answered. -/
def RetM (w : World) (x y z : Int) (ok : Bool) (e : Ending) (w' : World) : Prop := e = .returned (.tuple #[.int .i64 x, .int .i64 y, .int .i64 z, .bool ok]) ∧ Below w.heap.size w w'

set_option maxRecDepth 100000 in
set_option maxHeartbeats 4000000 in
theorem implMom_any (v : Value) (S : List (Int × Int × Int)) (hn : S.length ≤ 1048576) (w : World) (h : LdL w v S) :
    Calls Try.prog 28 #[v] w (RetM w (mom S).1 (mom S).2.1 (mom S).2.2.1 (mom S).2.2.2) := by
  have HG := Lib.hid (implValidLd_any v S hn w h)
  cases hg : goodLd S with
  | false =>
    rw [mom_no hg]
    rw [hg] at HG
    clear hg h
    go_enter Try.func28, Try.ntmps28
    go_wp2_with fail
    refine HG.out.mono ?_
    rintro e w1 ⟨rfl, hb⟩
    have HB := Lib.hid hb
    clear hb
    go_wp2_with fail
    refine bodyPost_ret (v := .tuple #[.int .i64 0, .int .i64 0, .int .i64 0, .bool false]) (by simp [results, Try.results28, go_sem]) rfl ⟨rfl, HB.out⟩
  | true =>
    rw [mom_yes hg]
    rw [hg] at HG
    have HV := Lib.hid h
    have h20 := goodLd_len hg
    have ok : ∀ c ∈ S, okLd c = true := (goodLd_iff.1 hg).2
    have H1 := Lib.hid (fun W (hW : LdL W v S) => sumOf_any _ #[] enters_weight v S wgt h20 (fun c hc => by have := (okLd_bounds (ok c hc)).1; omega) W hW fun x y z W' _ _ => weight_any x y z W')
    have H2 := Lib.hid (fun W (hW : LdL W v S) => sumOf_any _ #[] enters_momentAcross v S mAc h20 (fun c hc => by have := (okLd_bounds (ok c hc)).2.1; omega) W hW fun x y z W' hm _ => momentAcross_any x y z W' (ok _ hm))
    have H3 := Lib.hid (fun W (hW : LdL W v S) => sumOf_any _ #[] enters_momentUp v S mUp h20 (fun c hc => by have := (okLd_bounds (ok c hc)).2.2.1; omega) W hW fun x y z W' hm _ => momentUp_any x y z W' (ok _ hm))
    clear hg h h20 ok
    go_enter Try.func28, Try.ntmps28
    go_wp2_with fail
    refine HG.out.mono ?_
    rintro e w1 ⟨rfl, hb⟩
    have HB := Lib.hid hb
    clear hb
    go_wp2_with fail
    refine (H1.out _ (HV.out.below HB.out)).mono ?_
    rintro e w2 ⟨rfl, hb⟩
    have HB2 := Lib.hid (HB.out.trans (hb.mono HB.out.size))
    clear hb
    go_wp2_with fail
    refine (H2.out _ (HV.out.below HB2.out)).mono ?_
    rintro e w3 ⟨rfl, hb⟩
    have HB3 := Lib.hid (HB2.out.trans (hb.mono HB2.out.size))
    clear hb
    go_wp2_with fail
    refine (H3.out _ (HV.out.below HB3.out)).mono ?_
    rintro e w4 ⟨rfl, hb⟩
    have HB4 := Lib.hid (HB3.out.trans (hb.mono HB3.out.size))
    clear hb
    go_wp2_with fail
    refine bodyPost_ret (v := .tuple #[.int .i64 (sW S), .int .i64 (sA S), .int .i64 (sU S), .bool true]) (by simp [results, Try.results28, go_sem, sW, sA, sU]) rfl ⟨rfl, HB4.out⟩

set_option maxRecDepth 100000 in
set_option maxHeartbeats 4000000 in
theorem l11Moments_any (v : Value) (S : List (Int × Int × Int)) (hg : goodLd S = true) (w : World) (h : LdL w v S) :
    Calls Try.prog 55 #[v] w fun e w' => e = .returned (.tuple #[.int .i64 (sW S), .int .i64 (sA S), .int .i64 (sU S)]) ∧ Below w.heap.size w w' := by
  obtain ⟨a, c, rfl, hc⟩ := h
  obtain ⟨n, hl⟩ : ∃ n, S.length = n := ⟨_, rfl⟩
  have HN := Lib.hid hl
  have hn : n ≤ 20 := by have := goodLd_len hg; omega
  have HG := Lib.hid hg
  rw [hl]
  have H := Lib.hid hc
  clear hc hl hg
  go_enter Try.func55, Try.ntmps55
  go_wp2_with fail
  go_loopw [5, 6, 7, 8] (fun s t u i wr => ∃ (k : Nat) (x y z : Int), k ≤ n ∧ i = .int .i64 k ∧ s = .int .i64 x ∧ t = .int .i64 y ∧ u = .int .i64 z ∧ Hid (x = sW (S.take k) ∧ y = sA (S.take k) ∧ z = sU (S.take k)) ∧ Hid (Below w.heap.size w wr)) (fun _ _ _ i _ => n - (intOf i).toNat)
  case atStart => exact ⟨0, 0, 0, 0, Nat.zero_le _, rfl, rfl, rfl, rfl, Lib.hid ⟨rfl, rfl, rfl⟩, Lib.hid (Below.refl _ _)⟩
  case round =>
    obtain ⟨k, x, y, z, hk, rfl, rfl, rfl, rfl, HS, HB⟩ := hrel
    by_cases hlt : k < n
    · obtain ⟨g, off, rfl, hg, hcc⟩ := H.out (by have := HN.out; omega)
      obtain ⟨s, hs⟩ := get_at HN.out hlt
      obtain ⟨p, q, r⟩ := s
      have o0 : wr.cell? ⟨g, off + k * 3, none⟩ = some (.int .i64 p) := (HB.out.cell (p := ⟨g, off + k * 3, none⟩) hg).trans (hcc k _ hs).1
      have o1 : wr.cell? ⟨g, off + k * 3 + 1, none⟩ = some (.int .i64 q) := (HB.out.cell (p := ⟨g, off + k * 3 + 1, none⟩) hg).trans (hcc k _ hs).2.1
      have o2 : wr.cell? ⟨g, off + k * 3 + 2, none⟩ = some (.int .i64 r) := (HB.out.cell (p := ⟨g, off + k * 3 + 2, none⟩) hg).trans (hcc k _ hs).2.2
      have hb := okLd_bounds ((goodLd_iff.1 HG.out).2 _ (List.mem_of_getElem? hs))
      have hsm := sums_small HG.out k
      rw [← HS.out.1, ← HS.out.2.1, ← HS.out.2.2] at hsm
      have K1 := Lib.hid (sumF_take wgt hs)
      have K2 := Lib.hid (sumF_take mAc hs)
      have K3 := Lib.hid (sumF_take mUp hs)
      simp only [wgt, mAc, mUp] at hb
      obtain ⟨⟨b1, b2⟩, ⟨b3, b4⟩, ⟨b5, b6⟩, -, -⟩ := hb
      obtain ⟨⟨d1, d2⟩, ⟨d3, d4⟩, d5, d6⟩ := hsm
      obtain ⟨m1, hm1⟩ : ∃ m, p * q = m := ⟨_, rfl⟩
      obtain ⟨m2, hm2⟩ : ∃ m, p * r = m := ⟨_, rfl⟩
      have f1 : IntKind.i64.wrap (p * q) = m1 := by rw [wide_mul b3 b4 (by decide), hm1]
      have f2 : IntKind.i64.wrap (p * r) = m2 := by rw [wide_mul b5 b6 (by decide), hm2]
      have f3 : IntKind.i64.wrap (y + m1) = y + m1 := by rw [IntKind.wrap_i64]; omega
      have f4 : IntKind.i64.wrap (z + m2) = z + m2 := by rw [IntKind.wrap_i64]; omega
      have HS2 : Hid (x + p = sW (S.take (k + 1)) ∧ y + m1 = sA (S.take (k + 1)) ∧ z + m2 = sU (S.take (k + 1))) := Lib.hid ⟨by rw [HS.out.1]; exact K1.out.symm, by rw [HS.out.2.1, ← hm1]; exact K2.out.symm, by rw [HS.out.2.2, ← hm2]; exact K3.out.symm⟩
      have hki : (k : Int) < (n : Int) := by omega
      clear hcc hs hm1 hm2 b3 b4 b5 b6 d3 d4 d5 d6 K1 K2 K3
      go_wp2_with fail
      go_quiet (fail)
      go_wp2_with fail
      go_quiet (fail)
      go_wp2_with fail
      exact ⟨⟨k + 1, x + p, y + m1, z + m2, by omega, by go_num, by go_num, rfl, rfl, HS2, Lib.hid (below_drewN HB.out _)⟩, by simp [intOf]; omega⟩
    · obtain rfl : k = n := by omega
      have HE := Lib.hid (List.take_of_length_le (l := S) (i := k) (by have := HN.out; omega))
      go_wp2_with fail
      go_ret3
      obtain ⟨e1, e2, e3⟩ := HS.out
      rw [HE.out] at e1 e2 e3
      exact ⟨by rw [e1, e2, e3]; rfl, HB.out⟩

set_option maxHeartbeats 2000000 in
theorem specMom_any (v : Value) (S : List (Int × Int × Int)) (hn : S.length ≤ 1048576) (w : World) (h : LdL w v S) :
    Calls Try.prog 44 #[v] w (RetM w (mom S).1 (mom S).2.1 (mom S).2.2.1 (mom S).2.2.2) := by
  have HG := Lib.hid (l11Good_any v S hn w h)
  cases hg : goodLd S with
  | false =>
    rw [mom_no hg]
    rw [hg] at HG
    clear hg h
    go_enter Try.func44, Try.ntmps44
    go_wp2_with fail
    refine HG.out.mono ?_
    rintro e w1 ⟨rfl, hb⟩
    have HB := Lib.hid hb
    clear hb
    go_wp2_with fail
    refine bodyPost_ret (v := .tuple #[.int .i64 0, .int .i64 0, .int .i64 0, .bool false]) (by simp [results, Try.results44, go_sem]) rfl ⟨rfl, HB.out⟩
  | true =>
    rw [mom_yes hg]
    have HV := Lib.hid h
    have HM := Lib.hid (fun W (hW : LdL W v S) => l11Moments_any v S hg W hW)
    rw [hg] at HG
    clear hg h
    go_enter Try.func44, Try.ntmps44
    go_wp2_with fail
    refine HG.out.mono ?_
    rintro e w1 ⟨rfl, hb⟩
    have HB := Lib.hid hb
    clear hb
    go_wp2_with fail
    refine (HM.out _ (HV.out.below HB.out)).mono ?_
    rintro e w2 ⟨rfl, hb⟩
    have HB2 := Lib.hid (HB.out.trans (hb.mono HB.out.size))
    clear hb
    go_wp2_with fail
    refine bodyPost_ret (v := .tuple #[.int .i64 (sW S), .int .i64 (sA S), .int .i64 (sU S), .bool true]) (by simp [results, Try.results44, go_sem, sW, sA, sU]) rfl ⟨rfl, HB2.out⟩
end Go.Proofs.Ytndafdjllbhbfaa
