/-
  What spec.ManifestChanges returns. No statement of the seat by itself.
-/
import Derived.Test.YtpmaaflpknjbmaaCSorted
import Derived.Test.YtpmaaflpknjbmaaCMergeS
import Derived.Laws.StructEq
namespace Go.Proofs.Ytpmaaflpknjbmaa.C
open Go.RowKit

/-- Whether two containers are the same. -/
def sameC (x y : Cont) : Bool := x.id.toList == y.id.toList && (x.size == y.size && (x.weight == y.weight && (x.cargo == y.cargo && x.port == y.port)))
theorem guard34 : Try.prog.eqGuardType Try.prog.depth 49 = false := by kernel_rfl
theorem eqIn_cont (x y : Cont) (w : World) : (Op.equalIn 10000 49 (.agg (contV x)) (.agg (contV y))).run Try.prog w = .ok (sameC x y) w := by
  have u3 := Try.underlying3
  have u9 := Try.underlying9
  have hS : Try.prog.underlying 49 = some (.struct (Try.prog.fieldsOf 49)) := by kernel_rfl
  have hp : Try.prog.stoodInHeld 49 = false := by kernel_rfl
  obtain ⟨xi, xs, xt, xc, xp⟩ := x
  obtain ⟨yi, ys, yt, yc, yp⟩ := y
  simp only [contV, sameC]
  rw [show (10000 : Nat) = 9999 + 1 from rfl, run_equalIn_agg w 9999 49 _ _ hS hp]
  simp only [Program.fieldsOf, Try.underlying49]
  go_simp
  by_cases h1 : xi.toList = yi.toList <;> by_cases h2 : xs = ys <;> by_cases h3 : xt = yt <;> by_cases h4 : xc = yc <;> by_cases h5 : xp = yp <;> simp [h1, h2, h3, h4, h5]
def neC (x y : Cont) : Bool := !sameC x y
/-- Whether the first list has a container's Id with other contents. -/
def chQ (a : Nat → Cont) (n : Nat) (x : Cont) : Bool := decide (0 ≤ findU a x.id n) && neC (a (findU a x.id n).toNat) x
def chgL (a : Nat → Cont) (n : Nat) (b : Nat → Cont) : Nat → List Cont
  | 0 => []
  | k + 1 => if chQ a n (b k) then chgL a n b k ++ [b k] else chgL a n b k
theorem chgL_len (a : Nat → Cont) (n : Nat) (b : Nat → Cont) : ∀ k, (chgL a n b k).length ≤ k
  | 0 => Nat.le_refl _
  | k + 1 => by
    have := chgL_len a n b k
    rw [chgL]
    split
    · simp; omega
    · omega
/-- The Ids of containers. -/
def idsC (l : List Cont) : List ByteArray := l.map (fun c => c.id)
theorem idsC_snoc (l : List Cont) (c : Cont) : idsC (l ++ [c]) = idsC l ++ [c.id] := by simp [idsC]

/-- A list of texts of the call's own. -/
def RowS (w wr : World) (v : Value) (L : List ByteArray) : Prop := wr.ownsRow w.heap.size 9 1 v L.length (L.map Value.string)
def Off (v u : Value) : Prop := ∀ j, v.ownBlock = some j → u.ownBlock ≠ some j
theorem Off.symm {v u : Value} (h : Off v u) : Off u v := fun j a b => h j b a
/-- Three lists of the call's own, apart from each other. -/
def Tri (w wr : World) (v1 v2 v3 : Value) (L1 L2 L3 : List ByteArray) : Prop := RowS w wr v1 L1 ∧ RowS w wr v2 L2 ∧ RowS w wr v3 L3 ∧ Off v1 v2 ∧ Off v1 v3 ∧ Off v2 v3 ∧ Below w.heap.size w wr
theorem Tri.below {w wr W : World} {v1 v2 v3 : Value} {L1 L2 L3 : List ByteArray} (h : Tri w wr v1 v2 v3 L1 L2 L3) (hb : Below wr.heap.size wr W) : Tri w W v1 v2 v3 L1 L2 L3 :=
  ⟨row_below h.1 hb, row_below h.2.1 hb, row_below h.2.2.1 hb, h.2.2.2.1, h.2.2.2.2.1, h.2.2.2.2.2.1, h.2.2.2.2.2.2.trans (hb.mono h.2.2.2.2.2.2.size)⟩
theorem Tri.s12 {w wr : World} {v1 v2 v3 : Value} {L1 L2 L3 : List ByteArray} (h : Tri w wr v1 v2 v3 L1 L2 L3) : Tri w wr v2 v1 v3 L2 L1 L3 := ⟨h.2.1, h.1, h.2.2.1, h.2.2.2.1.symm, h.2.2.2.2.2.1, h.2.2.2.2.1, h.2.2.2.2.2.2⟩
theorem Tri.s13 {w wr : World} {v1 v2 v3 : Value} {L1 L2 L3 : List ByteArray} (h : Tri w wr v1 v2 v3 L1 L2 L3) : Tri w wr v3 v2 v1 L3 L2 L1 := ⟨h.2.2.1, h.2.1, h.1, h.2.2.2.2.2.1.symm, h.2.2.2.2.1.symm, h.2.2.2.1.symm, h.2.2.2.2.2.2⟩
theorem off_new {W W' : World} {base : Nat} {v u : Value} {m k : Nat} {xs ys : List Value} (hu : W.ownsRow base 9 1 u m xs) (hv : W'.ownsRow W.heap.size 9 1 v k ys) : Off v u := fun j h1 h2 => by
  have a1 := row_base hv j h1
  have a2 := row_lt hu j h2
  omega
theorem Tri.put1 {w wr W : World} {v1 v2 v3 v' : Value} {L1 L2 L3 L' : List ByteArray} (h : Tri w wr v1 v2 v3 L1 L2 L3) (hr : W.ownsRow wr.heap.size 9 1 v' L'.length (L'.map Value.string)) (hb : Below wr.heap.size wr W) : Tri w W v' v2 v3 L' L2 L3 := by
  have hB := h.2.2.2.2.2.2
  exact ⟨hr.mono hB.size, row_below h.2.1 hb, row_below h.2.2.1 hb, off_new h.2.1 hr, off_new h.2.2.1 hr, h.2.2.2.2.2.1, hB.trans (hb.mono hB.size)⟩
theorem tri_empty (w : World) : Tri w (((w.alloc (.cells #[] 9)).alloc (.cells #[] 9)).alloc (.cells #[] 9)) (.slice (some ⟨w.heap.size, 0, none⟩) 0 0) (.slice (some ⟨w.heap.size + 1, 0, none⟩) 0 0) (.slice (some ⟨w.heap.size + 1 + 1, 0, none⟩) 0 0) [] [] [] := by
  have e1 := own_empty w (.cells #[] 9) 9 rfl
  have e2 := own_empty (w.alloc (.cells #[] 9)) (.cells #[] 9) 9 rfl
  have e3 := own_empty ((w.alloc (.cells #[] 9)).alloc (.cells #[] 9)) (.cells #[] 9) 9 rfl
  simp only [World.size_alloc] at e2 e3
  refine ⟨(e1.alloc _).alloc _, (e2.mono (by omega)).alloc _, e3.mono (by omega), ?_, ?_, ?_, (((Below.refl _ w).alloc (Nat.le_refl _) _).alloc (by simp) _).alloc (by simp; omega) _⟩
  all_goals
    intro j h1 h2
    simp [Value.ownBlock] at h1 h2
    omega
/-- Three lists were answered, and nothing older turned. -/
def TriPost (w : World) (L1 L2 L3 : List ByteArray) (ok : Bool) (e : Ending) (W' : World) : Prop := ∃ v1 v2 v3, e = .returned (.tuple #[v1, v2, v3, .bool ok]) ∧ Tri w W' v1 v2 v3 L1 L2 L3
/-- A text put into one of the call's own lists. -/
theorem put_own {w wr : World} {v : Value} {L : List ByteArray} (h : RowS w wr v L) (hv : v ≠ .slice none 0 0) (hl : L.length ≤ 12) (s : ByteArray) : Calls Try.prog 36 #[v, .string s] wr (PutPost wr (insS L s)) := by
  rcases h.2 with ⟨e, _⟩ | ⟨g, cap, cur, rfl, hg, hb, hn, hcm, hsz, hx⟩
  · exact absurd e hv
  · refine put_rows g L.length cap L rfl hl hn s wr (fun j hj => ?_) (Array.getElem?_eq_some_iff.1 hb).1
    rw [World.ownsRow.cellAt h j (by omega)]
    exact getD_of hj

set_option maxRecDepth 100000 in
set_option maxHeartbeats 1000000 in
theorem specChg_noA (g1 n c1 : Nat) (a : Nat → Cont) (g2 m c2 : Nat) (hn : n ≤ 1048576) (ha : ∀ j, j < n → (a j).id.size ≤ 1048576) (w : World) (h1 : CAt w g1 0 n a) (hL : listB n a = false) :
    Calls Try.prog 16 #[.slice (some ⟨g1, 0, none⟩) n c1, .slice (some ⟨g2, 0, none⟩) m c2] w (TriPost w [] [] [] false) := by
  have A0 := tri_empty w
  have K := Lib.hid (l2List_any g1 n c1 a hn ha _ (h1.below A0.2.2.2.2.2.2))
  rw [hL] at K
  have R0 := Lib.hid A0
  clear h1 ha hL A0
  go_enter Try.func16, Try.ntmps16
  go_wp2_with fail
  refine K.out.mono ?_
  rintro e w1 ⟨rfl, hb1⟩
  have R1 := Lib.hid (R0.out.below hb1)
  clear hb1
  go_wp2_with fail
  refine bodyPost_ret (v := .tuple #[_, _, _, .bool false]) (by simp [results, Try.results16, go_sem]) rfl ⟨_, _, _, rfl, R1.out⟩

set_option maxRecDepth 100000 in
set_option maxHeartbeats 1000000 in
theorem specChg_noB (g1 n c1 : Nat) (a : Nat → Cont) (g2 m c2 : Nat) (b : Nat → Cont) (hn : n ≤ 1048576) (hm : m ≤ 1048576) (ha : ∀ j, j < n → (a j).id.size ≤ 1048576) (hb : ∀ j, j < m → (b j).id.size ≤ 1048576) (w : World) (h1 : CAt w g1 0 n a) (h2 : CAt w g2 0 m b) (hL : listB n a = true) (hM : listB m b = false) :
    Calls Try.prog 16 #[.slice (some ⟨g1, 0, none⟩) n c1, .slice (some ⟨g2, 0, none⟩) m c2] w (TriPost w [] [] [] false) := by
  have A0 := tri_empty w
  have K := Lib.hid (l2List_any g1 n c1 a hn ha _ (h1.below A0.2.2.2.2.2.2))
  have K2 := Lib.hid (fun W (hW : Below w.heap.size w W) => l2List_any g2 m c2 b hm hb W (h2.below hW))
  rw [hL] at K
  rw [hM] at K2
  have R0 := Lib.hid A0
  clear h1 h2 ha hb hL hM A0
  go_enter Try.func16, Try.ntmps16
  go_wp2_with fail
  refine K.out.mono ?_
  rintro e w1 ⟨rfl, hb1⟩
  have R1 := Lib.hid (R0.out.below hb1)
  clear hb1
  go_wp2_with fail
  refine (K2.out _ R1.out.2.2.2.2.2.2).mono ?_
  rintro e w2 ⟨rfl, hb2⟩
  have R2 := Lib.hid (R1.out.below hb2)
  clear hb2
  go_wp2_with fail
  refine bodyPost_ret (v := .tuple #[_, _, _, .bool false]) (by simp [results, Try.results16, go_sem]) rfl ⟨_, _, _, rfl, R2.out⟩

set_option maxRecDepth 100000 in
set_option maxHeartbeats 4000000 in
theorem specChg_yes (g1 n c1 : Nat) (a : Nat → Cont) (g2 m c2 : Nat) (b : Nat → Cont) (hn : n ≤ 1048576) (hm : m ≤ 1048576) (ha : ∀ j, j < n → (a j).id.size ≤ 1048576) (hb : ∀ j, j < m → (b j).id.size ≤ 1048576) (w : World) (h1 : CAt w g1 0 n a) (h2 : CAt w g2 0 m b) (hL : listB n a = true) (hM : listB m b = true) :
    Calls Try.prog 16 #[.slice (some ⟨g1, 0, none⟩) n c1, .slice (some ⟨g2, 0, none⟩) m c2] w (TriPost w (srt [] (idsC (newL a b n m))) (srt [] (idsC (newL b a m n))) (srt [] (idsC (chgL a n b m))) true) := by
  have A0 := tri_empty w
  have hn12 := ((listB_iff n a).1 hL).1
  have hm12 := ((listB_iff m b).1 hM).1
  have K := Lib.hid (l2List_any g1 n c1 a hn ha _ (h1.below A0.2.2.2.2.2.2))
  have K2 := Lib.hid (fun W (hW : Below w.heap.size w W) => l2List_any g2 m c2 b hm hb W (h2.below hW))
  rw [hL] at K
  rw [hM] at K2
  have R0 := Lib.hid A0
  have H1 := Lib.hid h1
  have H2 := Lib.hid h2
  have FA := Lib.hid (fun id W (hW : Below w.heap.size w W) => l2Find_any g1 n c1 a id hn W (h1.below hW))
  have FB := Lib.hid (fun id W (hW : Below w.heap.size w W) => l2Find_any g2 m c2 b id hm W (h2.below hW))
  clear h1 h2 ha hb hL hM A0
  go_enter Try.func16, Try.ntmps16
  go_wp2_with fail
  refine K.out.mono ?_
  rintro e w1 ⟨rfl, hb1⟩
  have R1 := Lib.hid (R0.out.below hb1)
  clear hb1
  go_wp2_with fail
  refine (K2.out _ R1.out.2.2.2.2.2.2).mono ?_
  rintro e w2 ⟨rfl, hb2⟩
  have R2 := Lib.hid (R1.out.below hb2)
  clear hb2
  go_wp2_with fail
  go_loopw [8, 10, 11, 12] (fun o1 o3 i _ wr => ∃ k : Nat, k ≤ m ∧ i = .int .i64 k ∧ Hid (o1 ≠ .slice none 0 0) ∧ Hid (o3 ≠ .slice none 0 0) ∧ Hid (Tri w wr o1 (.slice (some ⟨w.heap.size + 1, 0, none⟩) 0 0) o3 (srt [] (idsC (newL a b n k))) [] (srt [] (idsC (chgL a n b k))))) (fun _ _ i _ _ => m - (RowKit.intOf i).toNat)
  case atStart => exact ⟨0, Nat.zero_le _, rfl, Lib.hid (by simp), Lib.hid (by simp), R2⟩
  case round =>
    obtain ⟨k, hk, rfl, N1, N3, HT⟩ := hrel
    by_cases hlt : k < m
    · have hB := HT.out.2.2.2.2.2.2
      obtain ⟨a0, a1, a2, a3, a4⟩ := (H2.out.below hB).2 k hlt
      rw [Nat.zero_add] at *
      have HF := Lib.hid (FA.out (b k).id _ hB)
      have hl1 : (srt [] (idsC (newL a b n k))).length ≤ 12 := by rw [srt_len]; simp [idsC]; have := filtL_len b (fun id => decide (findU a id n < 0)) k; unfold newL; omega
      have hl3 : (srt [] (idsC (chgL a n b k))).length ≤ 12 := by rw [srt_len]; simp [idsC]; have := chgL_len a n b k; omega
      have P1 := Lib.hid (put_own HT.out.1 N1.out hl1 (b k).id)
      by_cases hf : findU a (b k).id n < 0
      · have HS : Hid (insS (srt [] (idsC (newL a b n k))) (b k).id = srt [] (idsC (newL a b n (k + 1)))) := Lib.hid (by
          have e : newL a b n (k + 1) = newL a b n k ++ [b k] := by rw [newL, newL, filtL, if_pos (by simpa using hf)]
          rw [e, idsC_snoc, srt_snoc])
        have HS2 : Hid (chgL a n b (k + 1) = chgL a n b k) := Lib.hid (by rw [chgL, if_neg]; unfold chQ; rw [decide_eq_false (by omega), Bool.false_and]; decide)
        have hq : findU a (b k).id n = -1 := by have := findU_bd a (b k).id n; omega
        rw [hq] at HF
        clear hf hq hl3
        generalize (b k).id = id at *
        go_wp2_with fail
        refine HF.out.mono ?_
        rintro e w3 ⟨rfl, rfl⟩
        go_wp2_with fail
        refine P1.out.mono ?_
        rintro e w4 ⟨v', rfl, hv', hr4, hb4⟩
        have HT4 := Lib.hid (HT.out.put1 hr4 hb4)
        have N4 := Lib.hid hv'
        clear hr4 hb4 hv'
        go_wp2_with fail
        refine ⟨⟨k + 1, by omega, by go_num, N4, N3, Lib.hid (by rw [← HS.out, HS2.out]; exact HT4.out)⟩, by simp [RowKit.intOf]; omega⟩
      · obtain ⟨j, hj, hje, -⟩ := findU_pos (show 0 ≤ findU a (b k).id n by omega)
        have HS2 : Hid (newL a b n (k + 1) = newL a b n k) := Lib.hid (by rw [newL, newL, filtL, if_neg (by simpa using hf)])
        have HQ : Hid (chQ a n (b k) = neC (a j) (b k)) := Lib.hid (by unfold chQ; rw [hje, decide_eq_true (by omega)]; rfl)
        have HS : Hid (chgL a n b (k + 1) = if chQ a n (b k) then chgL a n b k ++ [b k] else chgL a n b k) := Lib.hid rfl
        rw [hje] at HF
        clear hf hje P1
        obtain ⟨b0, b1, b2, b3, b4⟩ := (H1.out.below hB).2 j hj
        rw [Nat.zero_add] at *
        have hji : (j : Int) < (n : Int) := by omega
        have hki : (k : Int) < (m : Int) := by omega
        have HE := Lib.hid (eqIn_cont (a j) (b k))
        have HQ2 : Hid (chQ a n (b k) = !sameC (a j) (b k)) := HQ
        clear HQ
        generalize sameC (a j) (b k) = r at *
        generalize a j = x at *
        have HId : Hid (idsC (chgL a n b k ++ [b k]) = idsC (chgL a n b k) ++ [(b k).id]) := Lib.hid (idsC_snoc _ _)
        generalize b k = y at *
        obtain ⟨xi, xs, xt, xc, xp⟩ := x
        obtain ⟨yi, ys, yt, yc, yp⟩ := y
        simp only [contV] at *
        cases r with
        | true =>
          have HS3 : Hid (chgL a n b (k + 1) = chgL a n b k) := Lib.hid (by rw [HS.out, HQ2.out]; rfl)
          go_wp2_with fail
          refine HF.out.mono ?_
          rintro e w3 ⟨rfl, rfl⟩
          go_wp2_with fail
          have he := HE.out
          have hgd := guard34
          go_quiet (fail)
          clear he hgd
          go_wp2_with fail
          refine ⟨⟨k + 1, by omega, by go_num, N1, N3, Lib.hid (by rw [HS2.out, HS3.out]; exact HT.out.below (below_drewN (Below.refl _ _) _))⟩, by simp [RowKit.intOf]; omega⟩
        | false =>
          have HS3 : Hid (insS (srt [] (idsC (chgL a n b k))) yi = srt [] (idsC (chgL a n b (k + 1)))) := Lib.hid (by rw [HS.out, HQ2.out, ← srt_snoc]; simp only [Bool.not_false, if_true]; rw [HId.out])
          have PW := Lib.hid (fun q => put_own (w := w) (wr := wr.drewN q) (HT.out.below (below_drewN (Below.refl _ _) q)).2.2.1 N3.out hl3 yi)
          have TW := Lib.hid (fun q => HT.out.below (below_drewN (Below.refl _ wr) q))
          go_wp2_with fail
          refine HF.out.mono ?_
          rintro e w3 ⟨rfl, rfl⟩
          go_wp2_with fail
          have he := HE.out
          have hgd := guard34
          go_quiet (fail)
          clear he hgd
          go_wp2_with fail
          refine (PW.out _).mono ?_
          rintro e w4 ⟨v', rfl, hv', hr4, hb4⟩
          have HT4 := Lib.hid (((TW.out _).s13.put1 hr4 hb4).s13)
          have N4 := Lib.hid hv'
          clear hr4 hb4 hv'
          go_wp2_with fail
          refine ⟨⟨k + 1, by omega, by go_num, N1, N4, Lib.hid (by rw [HS2.out, ← HS3.out]; exact HT4.out)⟩, by simp [RowKit.intOf]; omega⟩
    · obtain rfl : k = m := by omega
      generalize srt [] (idsC (newL a b n k)) = L1 at *
      generalize srt [] (idsC (chgL a n b k)) = L3 at *
      go_wp2_with fail
      go_loopw [9, 13] (fun o2 i wr => ∃ q : Nat, q ≤ n ∧ i = .int .i64 q ∧ Hid (o2 ≠ .slice none 0 0) ∧ Hid (Tri w wr u8 o2 u10 L1 (srt [] (idsC (newL b a k q))) L3)) (fun _ i _ => n - (RowKit.intOf i).toNat)
      case atStart => exact ⟨0, Nat.zero_le _, rfl, Lib.hid (by simp), HT⟩
      case round =>
        obtain ⟨q, hq, rfl, N2, HQ⟩ := hrel
        by_cases hltq : q < n
        · have hB := HQ.out.2.2.2.2.2.2
          obtain ⟨a0, a1, a2, a3, a4⟩ := (H1.out.below hB).2 q hltq
          rw [Nat.zero_add] at *
          have HF := Lib.hid (FB.out (a q).id _ hB)
          by_cases hf : findU b (a q).id k < 0
          · have hl2 : (srt [] (idsC (newL b a k q))).length ≤ 12 := by rw [srt_len]; simp [idsC]; have := filtL_len a (fun id => decide (findU b id k < 0)) q; unfold newL; omega
            have P2 := Lib.hid (put_own HQ.out.2.1 N2.out hl2 (a q).id)
            have HS : Hid (insS (srt [] (idsC (newL b a k q))) (a q).id = srt [] (idsC (newL b a k (q + 1)))) := Lib.hid (by
              have e : newL b a k (q + 1) = newL b a k q ++ [a q] := by rw [newL, newL, filtL, if_pos (by simpa using hf)]
              rw [e, idsC_snoc, srt_snoc])
            have hqq : findU b (a q).id k = -1 := by have := findU_bd b (a q).id k; omega
            rw [hqq] at HF
            clear hf hqq hl2
            generalize (a q).id = id at *
            go_wp2_with fail
            refine HF.out.mono ?_
            rintro e w3 ⟨rfl, rfl⟩
            go_wp2_with fail
            refine P2.out.mono ?_
            rintro e w4 ⟨v', rfl, hv', hr4, hb4⟩
            have HT4 := Lib.hid ((HQ.out.s12.put1 hr4 hb4).s12)
            have N4 := Lib.hid hv'
            clear hr4 hb4 hv'
            go_wp2_with fail
            refine ⟨⟨q + 1, by omega, by go_num, N4, Lib.hid (by rw [← HS.out]; exact HT4.out)⟩, by simp [RowKit.intOf]; omega⟩
          · obtain ⟨j, hj, hje, -⟩ := findU_pos (show 0 ≤ findU b (a q).id k by omega)
            have HS2 : Hid (newL b a k (q + 1) = newL b a k q) := Lib.hid (by rw [newL, newL, filtL, if_neg (by simpa using hf)])
            rw [hje] at HF
            clear hf hje
            generalize (a q).id = id at *
            go_wp2_with fail
            refine HF.out.mono ?_
            rintro e w3 ⟨rfl, rfl⟩
            go_wp2_with fail
            go_roundw
            case rel => exact ⟨q + 1, by omega, by go_num, N2, by rw [HS2.out]; exact HQ⟩
            case measure => simp [RowKit.intOf]; omega
        · obtain rfl : q = n := by omega
          go_wp2_with fail
          refine bodyPost_ret (v := .tuple #[_, _, _, .bool true]) (by simp [results, Try.results16, go_sem]) rfl ⟨_, _, _, rfl, HQ.out⟩
end Go.Proofs.Ytpmaaflpknjbmaa.C
