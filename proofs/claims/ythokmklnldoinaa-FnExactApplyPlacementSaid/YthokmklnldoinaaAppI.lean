/-
  What impl.ApplyPlacement returns. No statement of the seat by itself.
-/
import Derived.Test.YthokmklnldoinaaAppM
import Derived.Test.YthokmklnldoinaaPutI
import Derived.Deep.RegionHeld3
namespace Go.Proofs.Ythokmklnldoinaa
open Go.RowKit

def Nx (wr w6 : World) (q : Nat) (a : Option Addr) (m c : Nat) (ok : Bool) (Z : List (List Int)) : Prop :=
  wr.heap.size ≤ q ∧ w6.heap[q]? = some (.cells #[.slice a m c] 26 (0, 0)) ∧ Below wr.heap.size wr w6 ∧ (ok = true → m = Z.length ∧ ∃ B hi, wr.heap.size ≤ B ∧ OwnY w6 B hi (.slice a m c) Z)
theorem Nx.after {wr W w' : World} {a : Option Addr} {m c : Nat} {ok : Bool} {Z : List (List Int)} (h1 : Below wr.heap.size wr W) (h2 : Below W.heap.size W w') (ho : ok = true → m = Z.length ∧ OwnY w' W.heap.size w'.heap.size (.slice a m c) Z) :
    Nx wr (w'.alloc (.cells #[.slice a m c] 26)) w'.heap.size a m c ok Z := by
  have hb := below_one w' (.cells #[.slice a m c] 26)
  have h12 := h1.trans (h2.mono h1.size)
  exact ⟨h12.size, heap_alloc_new w' _, h12.trans (hb.mono h12.size), fun h => ⟨(ho h).1, _, _, h1.size, (ho h).2.below hb⟩⟩
theorem Nx.before {wr W w' : World} {a : Option Addr} {m c q : Nat} {ok : Bool} {Z : List (List Int)} (h1 : Below wr.heap.size wr W) (hq : wr.heap.size ≤ q) (hz : W.heap[q]? = some (.cells #[.slice none 0 0] 26 (0, 0))) (h2 : Below W.heap.size W w') (ho : ok = true → m = Z.length ∧ OwnY w' W.heap.size w'.heap.size (.slice a m c) Z) :
    Nx wr (w'.setCell ⟨q, 0, none⟩ (.slice a m c)) q a m c ok Z := by
  have hl := (Array.getElem?_eq_some_iff.1 hz).1
  have h12 := h1.trans (h2.mono h1.size)
  refine ⟨hq, ?_, h12.setCell (p := ⟨q, 0, none⟩) hq _, fun h => ⟨(ho h).1, _, _, h1.size, (ho h).2.span (span_set (Nat.le_refl q) (Nat.lt_succ_self q) _) (.inr hl)⟩⟩
  rw [Lib.heap_setCell_same ((h2.block q hl).trans hz)]
  simp

theorem okP_iff {Y : List (List Int)} {s x : Int} (h : okP Y s x = true) : okS Y s = true ∧ goodY (putY Y s.toNat x) = true := by simpa [okP] using h
/-- While arrivals are put on one after the other: the boxes, and the yard of the last call. -/
structure ApI (w W : World) (v0 : Value) (A : Nat) (a : Option Addr) (m c : Nat) (Z : List (List Int)) : Prop where
  fr : Fr2 w W v0
  box : W.heap[A]? = some (.cells #[.slice a m c] 26 (0, 0))
  hA : w.heap.size + 1 < A
  own : ∃ B hi, w.heap.size + 1 < B ∧ (hi ≤ A ∨ A < B) ∧ OwnY W B hi (.slice a m c) Z
theorem ApI.below {w W W' : World} {v0 : Value} {A m c : Nat} {a : Option Addr} {Z : List (List Int)} (h : ApI w W v0 A a m c Z) (hb : Below W.heap.size W W') : ApI w W' v0 A a m c Z := by
  obtain ⟨B, hi, h1, h2, h3⟩ := h.own
  exact ⟨h.fr.below hb, (hb.block _ (Array.getElem?_eq_some_iff.1 h.box).1).trans h.box, h.hA, B, hi, h1, h2, h3.below hb⟩
theorem ApI.next {w W w6 : World} {v0 : Value} {A m c m' c' B hi : Nat} {a a' : Option Addr} {Z Z' : List (List Int)} (h : ApI w W v0 A a m c Z) (hb : Below W.heap.size W w6) (hB : W.heap.size ≤ B) (ho : OwnY w6 B hi (.slice a' m' c') Z') :
    ApI w (w6.setCell ⟨A, 0, none⟩ (.slice a' m' c')) v0 A a' m' c' Z' := by
  have hAl := (Array.getElem?_eq_some_iff.1 h.box).1
  have hb6 := (hb.block _ hAl).trans h.box
  have hA := h.hA
  have F := h.fr.below hb
  have hS := span_set (w := w6) (lo := A) (hi := A + 1) (i := 0) (Nat.le_refl A) (Nat.lt_succ_self A) (.slice a' m' c')
  refine ⟨⟨F.bl.setCell (p := ⟨A, 0, none⟩) (by show w.heap.size ≤ A; omega) _, (Below.heap_setCell w6 ⟨A, 0, none⟩ _ _ (by show w.heap.size ≠ A; omega)).trans F.a, (Below.heap_setCell w6 ⟨A, 0, none⟩ _ _ (by show w.heap.size + 1 ≠ A; omega)).trans F.r⟩, ?_, hA, B, hi, by omega, .inr (by omega), ho.span hS (.inr (by omega))⟩
  rw [Lib.heap_setCell_same hb6]
  simp
theorem ApI.ret {w W : World} {v0 : Value} {A m c : Nat} {a : Option Addr} {Z : List (List Int)} (h : ApI w W v0 A a m c Z) :
    RetY w Z true (.returned (.tuple #[.agg #[.slice a m c], .bool true])) (W.setCell ⟨w.heap.size + 1, 0, none⟩ (.slice a m c)) := by
  obtain ⟨B, hi, h1, h2, h3⟩ := h.own
  obtain ⟨a9, c9, e⟩ := h3.form
  injection e with e1 e2 e3
  subst e1; subst e2; subst e3
  have hw := h3.1
  exact ⟨_, _, rfl, (h3.span (span_set (lo := w.heap.size + 1) (hi := w.heap.size + 2) (i := 0) (Nat.le_refl (w.heap.size + 1)) (Nat.lt_succ_self _) _) (.inr (by omega))).mono (by omega) (by simp; omega) (Nat.le_refl _), h.fr.set _⟩

set_option maxRecDepth 100000 in
set_option maxHeartbeats 16000000 in
theorem implApp_any (v vo vq : Value) (Y : List (List Int)) (O Q : List Int) (h1 : Y.length ≤ 1048576) (h2 : tot Y ≤ 1048576) (h3 : O.length ≤ 1048576) (h4 : Q.length ≤ 1048576) (w : World) (h : YdR w v Y) (ho : OwnI w vo O) (hoq : OwnI w vq Q) :
    Calls Try.prog 38 #[v, vo, vq] w (RetY w (appY Y O Q) (appB Y O Q)) := by
  obtain ⟨v0, rfl, hv⟩ := h
  obtain ⟨a, c, rfl, hc⟩ := ho.form
  obtain ⟨aq, cq, rfl, hcq⟩ := hoq.form
  obtain ⟨n, hn⟩ : ∃ n, O.length = n := ⟨_, rfl⟩
  obtain ⟨nq, hnq⟩ : ∃ n, Q.length = n := ⟨_, rfl⟩
  have HN := Lib.hid hn
  have HNQ := Lib.hid hnq
  have HV := Lib.hid hv
  have HI : Hid (∀ W, Below w.heap.size w W → IL W (.slice a n c) O) := Lib.hid fun W hb => by
    have := ho.read.below hb
    rw [hn] at this
    exact this
  have HIQ : Hid (∀ W, Below w.heap.size w W → IL W (.slice aq nq cq) Q) := Lib.hid fun W hb => by
    have := hoq.read.below hb
    rw [hnq] at this
    exact this
  have HG : Hid (∀ W, Below w.heap.size w W → Calls Try.prog 51 #[.agg #[v0], .slice a n c] W (BoolP W (askP Y O))) := Lib.hid fun W hb => by
    have := areArrivals_any _ _ Y O h1 h2 h3 W ⟨v0, rfl, hv.below hb⟩ (ho.below hb)
    rw [hn] at this
    exact this
  have HCp := Lib.hid (fun W hb => copyYard_any (.agg #[v0]) Y h1 h2 W ⟨v0, rfl, HV.out.below hb⟩)
  unfold NewYd at HCp
  have F0 := Lib.hid (Fr2.start w v0)
  have c0 := F0.out.c
  obtain ⟨av, cv, hvf⟩ := hv.form
  have HVF := Lib.hid hvf
  clear hvf
  rw [hn] at h3 hc ⊢
  rw [hnq] at h4 hcq ⊢
  clear hv ho hn hoq hnq
  by_cases haq : askP Y O = true ∧ nq = n
  case neg =>
    have HQ := Lib.hid (appP_no (P := Q) (show appP Y O Q = none by
      cases ha : askP Y O with
      | false => exact app_ask ha
      | true => exact app_len (by rw [HN.out, HNQ.out]; exact fun e => haq ⟨ha, e⟩)))
    obtain ⟨b, hb⟩ : ∃ b, askP Y O = b := ⟨_, rfl⟩
    rw [hb] at HG haq
    have hne : b = true → ((nq : Int) != (n : Int)) = true := fun e => by
      have : ¬ nq = n := fun e2 => haq ⟨e, e2⟩
      rw [bne_iff_ne]
      omega
    clear hb haq
    go_enter Try.func38, Try.ntmps38
    go_wp2_with fail
    generalize (w.alloc (.cells #[v0] 26)).alloc (.cells #[.slice none 0 0] 26) = W at *
    refine (HG.out _ F0.out.bl).mono ?_
    rintro e w1 ⟨rfl, hb⟩
    have F1 := Lib.hid (F0.out.below hb)
    obtain ⟨z0, f0⟩ := F1.out.z
    have e7 := World.cell?_setCell_same _ _ (.slice none 0 0) z0
    clear hb c0
    cases b with
    | false =>
      clear hne
      go_wp2_with fail
      refine bodyPost_ret (v := .tuple #[.agg #[.slice none 0 0], .bool false]) (by simp [results, Try.results38, go_sem, e7]) rfl ?_
      rw [HQ.out.1, HQ.out.2]
      exact retY_zero F1.out
    | true =>
      have hne2 := hne rfl
      clear hne
      go_wp2_with fail
      refine bodyPost_ret (v := .tuple #[.agg #[.slice none 0 0], .bool false]) (by simp [results, Try.results38, go_sem, e7]) rfl ?_
      rw [HQ.out.1, HQ.out.2]
      exact retY_zero F1.out
  case pos =>
    obtain ⟨ha, rfl⟩ := haq
    have HA := Lib.hid ha
    obtain ⟨hgd, h5, -, -⟩ := askP_iff.1 ha
    have h66 := (goodY_iff.1 hgd).2.1
    have h11 := (goodY_iff.1 hgd).1
    have h24 := (good_small hgd).2
    obtain ⟨q, hq⟩ : ∃ q, Y.length = q := ⟨_, rfl⟩
    have HQN := Lib.hid hq
    rw [hq] at HCp h66 h11
    rw [ha] at HG
    rw [HN.out] at h5
    have hne2 : ((nq : Int) != (nq : Int)) = false := by simp
    clear ha hgd hq
    go_enter Try.func38, Try.ntmps38
    go_wp2_with fail
    generalize (w.alloc (.cells #[v0] 26)).alloc (.cells #[.slice none 0 0] 26) = W at *
    refine (HG.out _ F0.out.bl).mono ?_
    rintro e w1 ⟨rfl, hb⟩
    have F1 := Lib.hid (F0.out.below hb)
    clear hb c0
    have c0 := F1.out.c
    go_wp2_with fail
    refine (HCp.out _ F1.out.bl).mono ?_
    rintro e w2 ⟨a2, c2, rfl, ho, hb⟩
    obtain ⟨g, cap, e⟩ := ho.rows (by have := HQN.out; omega)
    injection e with e1 e2 e3
    subst e1 e3
    have HP0 : Hid (ApI w (w2.alloc (.cells #[.slice (some ⟨g, 0, none⟩) q c2] 26)) v0 w2.heap.size (some ⟨g, 0, none⟩) q c2 Y) := Lib.hid (by
      have hb1 := below_one w2 (.cells #[.slice (some ⟨g, 0, none⟩) q c2] 26)
      have hl := F1.out.lt
      have hz := hb.size
      exact ⟨(F1.out.below hb).below hb1, heap_alloc_new w2 _, by omega, w1.heap.size, w2.heap.size, by omega, .inl (Nat.le_refl _), ho.below hb1⟩)
    have HG0 : Hid (appG Y O Q 0 = some Y) := Lib.hid rfl
    have HgY : Hid (goodY Y = true) := Lib.hid (askP_iff.1 HA.out).1
    clear hb ho c0 e2
    go_wp2_with fail
    go_loopw [29] (fun i wr => ∃ (k : Nat) (Z : List (List Int)) (a : Option Addr) (c : Nat), k ≤ nq ∧ i = .int .i64 k ∧ Hid (ApI w wr v0 w2.heap.size a q c Z) ∧ Hid (appG Y O Q k = some Z) ∧ Hid (goodY Z = true)) (fun i _ => nq - (intOf i).toNat)
    case atStart => exact ⟨0, Y, _, _, Nat.zero_le _, rfl, HP0, HG0, HgY⟩
    case round =>
      clear HP0 HG0 HG HgY
      obtain ⟨k, Z, ay, cy, hk, rfl, HS, HGk, HZg⟩ := hrel
      rename World => wr
      have c0 : wr.cell? ⟨w2.heap.size, 0, none⟩ = some (.slice ay q cy) := cell_of HS.out.box rfl
      by_cases hlt : k < nq
      · obtain ⟨a', c', e, hcc⟩ := HI.out wr HS.out.fr.bl
        obtain ⟨gl, offl, e2, hgl, hcl⟩ := hcc (by have := HN.out; omega)
        injection e with e1 e4 e5
        subst e2
        subst e1
        clear e4 e5
        obtain ⟨aq', cq', e, hcc2⟩ := HIQ.out wr HS.out.fr.bl
        obtain ⟨gq, offq, e2, hgq, hclq⟩ := hcc2 (by have := HNQ.out; omega)
        injection e with e1 e4 e5
        subst e2
        subst e1
        clear e4 e5
        obtain ⟨x, hx⟩ := get_at HN.out hlt
        obtain ⟨s, hs⟩ := get_at HNQ.out hlt
        have o1 : wr.cell? ⟨gl, offl + k, none⟩ = some (.int .i64 x) := hcl k x hx
        have s1 : wr.cell? ⟨gq, offq + k, none⟩ = some (.int .i64 s) := hclq k s hs
        have HX := Lib.hid hx
        have HSx := Lib.hid hs
        have hZl := appG_len _ _ HGk.out
        have hsm := good_small HZg.out
        obtain ⟨B4, hi4, -, -, o4⟩ := HS.out.own
        have HZ : Hid (∀ W, Below wr.heap.size wr W → Calls Try.prog 67 #[.agg #[.slice ay q cy], .int .i64 s, .int .i64 x] W (RetY W (putR Z s x) (okP Z s x))) := Lib.hid fun W hb => implPut_any _ Z s x (by omega) (by omega) W ⟨_, rfl, o4.yl.below hb⟩
        have hAw : w2.heap.size < wr.heap.size := (Array.getElem?_eq_some_iff.1 HS.out.box).1
        obtain ⟨R, hRe⟩ : ∃ R, putR Z s x = R := ⟨_, rfl⟩
        obtain ⟨ok, hoe⟩ : ∃ ok, okP Z s x = ok := ⟨_, rfl⟩
        have HRe := Lib.hid hRe
        have Hoe := Lib.hid hoe
        rw [hRe, hoe] at HZ
        have HLT := Lib.hid (And.intro hgq hAw)
        clear hcc hcl hcc2 hclq hx hs hZl hsm o4 hRe hoe hgl hgq hAw
        go_wp2_with fail
        have hkI : (k : Int) < (nq : Int) := by omega
        go_cut [11, 12] from 34 to 43 (fun p o w6 => ∃ (q9 : Nat) (a9 : Option Addr) (m9 c9 : Nat), p = .pointer (some ⟨q9, 0, none⟩) ∧ o = .bool ok ∧ Hid (Nx wr w6 q9 a9 m9 c9 ok R))
        case first =>
          go_region_held3 (fun W => W.cell? ⟨w2.heap.size, 0, none⟩ = some (.slice ay q cy) ∧ W.cell? ⟨gq, offq + k, none⟩ = some (.int .i64 s)) (first | exact ⟨(set_cell_ne _ _ _ _ _ _ (Nat.ne_of_lt HLT.out.2)).trans x0, (set_cell_ne _ _ _ _ _ _ (Nat.ne_of_lt HLT.out.1)).trans x1⟩ | go_keep) (first | (go_at_call 67; refine (HZ.out _ ((Below.refl _ wr).drew : Below wr.heap.size wr wr.drew)).mono ?_; rintro e w' ⟨a9, c9, rfl, ho, hb⟩; have x0 := (hb.cell (p := ⟨w2.heap.size, 0, none⟩) (Nat.lt_of_lt_of_le HLT.out.2 (Nat.le_refl _))).trans ((((Below.refl _ wr).drew : Below wr.heap.size wr wr.drew)).cell (p := ⟨w2.heap.size, 0, none⟩) HLT.out.2 |>.trans c0); have x1 := (hb.cell (p := ⟨gq, offq + k, none⟩) (Nat.lt_of_lt_of_le HLT.out.1 (Nat.le_refl _))).trans ((((Below.refl _ wr).drew : Below wr.heap.size wr wr.drew)).cell (p := ⟨gq, offq + k, none⟩) HLT.out.1 |>.trans s1); have HX := Lib.hid (Nx.after ((Below.refl _ wr).drew : Below wr.heap.size wr wr.drew) hb (fun _ => ⟨rfl, ho⟩) : Nx wr _ _ a9 _ c9 ok R); clear hb ho) | (go_at_call 67; refine (HZ.out _ ((below_one wr (.cells #[.slice none 0 0] 26)).drew : Below wr.heap.size wr (wr.alloc (.cells #[.slice none 0 0] 26)).drew)).mono ?_; rintro e w' ⟨a9, c9, rfl, ho, hb⟩; have x0 := (hb.cell (p := ⟨w2.heap.size, 0, none⟩) (Nat.lt_of_lt_of_le HLT.out.2 (Nat.le_of_lt (by simp)))).trans ((((below_one wr (.cells #[.slice none 0 0] 26)).drew : Below wr.heap.size wr (wr.alloc (.cells #[.slice none 0 0] 26)).drew)).cell (p := ⟨w2.heap.size, 0, none⟩) HLT.out.2 |>.trans c0); have x1 := (hb.cell (p := ⟨gq, offq + k, none⟩) (Nat.lt_of_lt_of_le HLT.out.1 (Nat.le_of_lt (by simp)))).trans ((((below_one wr (.cells #[.slice none 0 0] 26)).drew : Below wr.heap.size wr (wr.alloc (.cells #[.slice none 0 0] 26)).drew)).cell (p := ⟨gq, offq + k, none⟩) HLT.out.1 |>.trans s1); have jz : (wr.alloc (.cells #[.slice none 0 0] 26)).drew.heap[wr.heap.size]? = some (.cells #[.slice none 0 0] 26 (0, 0)) := heap_alloc_new wr _; have HX := Lib.hid (Nx.before ((below_one wr (.cells #[.slice none 0 0] 26)).drew : Below wr.heap.size wr (wr.alloc (.cells #[.slice none 0 0] 26)).drew) (Nat.le_refl _) jz hb (fun _ => ⟨rfl, ho⟩) : Nx wr _ _ a9 _ c9 ok R); have j9 := (hb.block _ (by simp : wr.heap.size < (wr.alloc (.cells #[.slice none 0 0] 26)).drew.heap.size)).trans jz; have z9 : w'.cell? ⟨wr.heap.size, 0, none⟩ = some (.slice none 0 0) := cell_of j9 rfl; have f9 : ∀ i, w'.frozen? ⟨wr.heap.size, i, none⟩ = false := fun i => free_of j9; clear jz j9; clear hb ho))
          all_goals
            clear x0 x1 c0 s1
            go_wp2_with fail
            go_meet
            exact ⟨_, _, _, _, rfl, rfl, HX⟩
        case rest =>
          obtain ⟨q9, a9, m9, c9, rfl, rfl, HNx⟩ := hcut
          obtain ⟨x1, x2, x3, x4⟩ := HNx.out
          clear c0 s1 o1
          cases ok with
          | false =>
            have HQ := Lib.hid (appP_no (P := Q) (show appP Y O Q = none by
              by_cases hr : 0 ≤ s ∧ s < (Y.length : Int)
              · obtain ⟨i, rfl⟩ : ∃ i : Nat, s = (i : Int) := ⟨s.toNat, by omega⟩
                have hZl := appG_len _ _ HGk.out
                have hnx := appG_next HGk.out HX.out HSx.out (by omega)
                have hb := okP_nat (Y := Z) (s := i) (x := x) (okS_iff.2 ⟨HZg.out, by omega, by omega⟩)
                rw [Hoe.out] at hb
                exact app_bad hnx (by have := lt_of_get HX.out; omega) hb.symm
              · exact app_stop HGk.out (lt_of_get HX.out) HSx.out hr))
            have F2 := Lib.hid (HS.out.below x3).fr
            obtain ⟨z0, f0⟩ := F2.out.z
            have e7 := World.cell?_setCell_same _ _ (.slice none 0 0) z0
            clear x1 x2 x3 x4
            go_wp2_with fail
            refine bodyPost_ret (v := .tuple #[.agg #[.slice none 0 0], .bool false]) (by simp [results, Try.results38, go_sem, e7]) rfl ?_
            rw [HQ.out.1, HQ.out.2]
            exact retY_zero F2.out
          | true =>
            obtain ⟨rfl, B, hi, hB, hO⟩ := x4 rfl
            have hos := (okP_iff Hoe.out)
            obtain ⟨i, rfl⟩ : ∃ i : Nat, s = (i : Int) := ⟨s.toNat, by have := (okS_iff.1 hos.1).2.1; omega⟩
            have hZl := appG_len _ _ HGk.out
            have hRq : R.length = q := by rw [← HRe.out, putR_yes Hoe.out, putY_len, hZl]; exact HQN.out
            have HGn : Hid (appG Y O Q (k + 1) = some R) := Lib.hid (by
              rw [← HRe.out, putR_yes Hoe.out]
              exact appG_next HGk.out HX.out HSx.out (by have := (okS_iff.1 hos.1).2.2; omega))
            have HRg : Hid (goodY R = true) := Lib.hid (by rw [← HRe.out, putR_yes Hoe.out, ← okP_nat (x := x) hos.1]; exact Hoe.out)
            rw [hRq] at x2 hO
            have HP := Lib.hid (HS.out.next x3 hB hO)
            have y0 : wc.cell? ⟨q9, 0, none⟩ = some (.slice a9 q c9) := cell_of x2 rfl
            have j0 := (HS.out.below x3).box
            have y1 : wc.cell? ⟨w2.heap.size, 0, none⟩ = some (.slice ay q cy) := cell_of j0 rfl
            have y2 : ∀ i, wc.frozen? ⟨w2.heap.size, i, none⟩ = false := fun i => free_of j0
            clear x1 x2 x3 x4 hB hO j0 hos hZl
            go_wp2_with fail
            exact ⟨⟨k + 1, R, _, _, by omega, by go_num, HP, HGn, HRg⟩, by simp [intOf]; omega⟩
      · obtain rfl : k = nq := by omega
        have HQ := Lib.hid (appP_yes (P := Q) (app_done HA.out (show Q.length = O.length by rw [HN.out, HNQ.out]) (by rw [HN.out]; exact HGk.out) HZg.out))
        obtain ⟨z0, f0⟩ := HS.out.fr.z
        have e7 := World.cell?_setCell_same _ _ (.slice ay q cy) z0
        go_wp2_with fail
        refine bodyPost_ret (v := .tuple #[.agg #[.slice ay q cy], .bool true]) (by simp [results, Try.results38, go_sem, e7]) rfl ?_
        rw [HQ.out.1, HQ.out.2]
        exact HS.out.ret
end Go.Proofs.Ythokmklnldoinaa
