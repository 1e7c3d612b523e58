/-
  What spec.l6Run and spec.RunSteps return. No statement of the seat by itself.
-/
import Derived.Test.YtmkejgbbgknalaaRunM
import Derived.Deep.RegionHeld3
import Derived.Deep.CutRange
import Derived.Maps.AppendAt
namespace Go.Proofs.Ytmkejgbbgknalaa
open Go.RowKit

/-- While steps are run. -/
def RunSt (v0 : Value) (w wr : World) (Y : List (List Int)) (S : List (Int × Int)) (k : Nat) (ak : Option Addr) (ck : Nat) (u : Value) (Yk : List (List Int)) (D : List Int) : Prop :=
  Below w.heap.size w wr ∧ wr.heap[w.heap.size + 1]? = some (.cells #[.slice none 0 0] 28 (0, 0)) ∧ wr.heap[w.heap.size]? = some (.cells #[.slice ak Yk.length ck] 28 (0, 0)) ∧ YSt v0 Y wr (w.heap.size + 3) (.slice ak Yk.length ck) Yk u ∧
  wr.ownsRow (w.heap.size + 2) 3 1 u D.length (intV D) ∧ goodY Yk = true ∧ (D.length ≤ k ∧ w.heap.size + 3 ≤ wr.heap.size) ∧ runO Yk (S.drop k) D = runO Y S []
theorem RunSt.below {v0 : Value} {w wr w' : World} {Y : List (List Int)} {S : List (Int × Int)} {k : Nat} {ak : Option Addr} {ck : Nat} {u : Value} {Yk : List (List Int)} {D : List Int} (h : RunSt v0 w wr Y S k ak ck u Yk D) (hb : Below wr.heap.size wr w') : RunSt v0 w w' Y S k ak ck u Yk D := by
  obtain ⟨h1, h2, h3, h4, h5, h7, h8, h9⟩ := h
  have l2 := (Array.getElem?_eq_some_iff.1 h2).1
  have l3 := (Array.getElem?_eq_some_iff.1 h3).1
  exact ⟨h1.trans (hb.mono h1.size), (hb.block _ l2).trans h2, (hb.block _ l3).trans h3, h4.below hb, row_below h5 hb, h7, ⟨h8.1, Nat.le_trans h8.2 hb.size⟩, h9⟩
/-- What holds when the next yard was put into its box. -/
def RunPut (v0 : Value) (Y0 : List (List Int)) (w wr : World) (a : Option Addr) (c : Nat) (u : Value) (Z : List (List Int)) (D : List Int) : Prop :=
  Below w.heap.size w wr ∧ wr.heap[w.heap.size + 1]? = some (.cells #[.slice none 0 0] 28 (0, 0)) ∧ wr.heap[w.heap.size]? = some (.cells #[.slice a Z.length c] 28 (0, 0)) ∧ YSt v0 Y0 wr (w.heap.size + 3) (.slice a Z.length c) Z u ∧
  wr.ownsRow (w.heap.size + 2) 3 1 u D.length (intV D)
theorem RunSt.put {v0 : Value} {w wr wc : World} {Y : List (List Int)} {S : List (Int × Int)} {k : Nat} {ak a2 : Option Addr} {ck c2 B hi : Nat} {u : Value} {Yk Z : List (List Int)} {D : List Int} (h : RunSt v0 w wr Y S k ak ck u Yk D) (hb : Below wr.heap.size wr wc) (hB : wr.heap.size ≤ B) (ho : OwnY wc B hi (.slice a2 Z.length c2) Z) :
    RunPut v0 Y w (wc.setCell ⟨w.heap.size, 0, none⟩ (.slice a2 Z.length c2)) a2 c2 u Z D := by
  have hlu := fun b hb => row_lt h.2.2.2.2.1 b hb
  have hlw := h.2.2.2.2.2.2.1.2
  obtain ⟨h1, h2, h3, h4, h5, h7, h8, h9⟩ := h.below hb
  have hB3 : w.heap.size + 1 < B := by omega
  refine ⟨h1.setCell (p := ⟨w.heap.size, 0, none⟩) (Nat.le_refl _) _, ?_, ?_, .inr ⟨B, hi, ?_, ho.span (span_set (Nat.le_refl w.heap.size) (Nat.lt_succ_self _) _) (.inr (by omega)), fun b hbu => .inl (by have := hlu b hbu; omega)⟩, ?_⟩
  · rw [Below.heap_setCell wc ⟨w.heap.size, 0, none⟩ _ _ (by show w.heap.size + 1 ≠ w.heap.size; omega)]; exact h2
  · rw [Lib.heap_setCell_same h3]; simp
  · omega
  · exact own_span h5 (span_set (Nat.le_refl w.heap.size) (Nat.lt_succ_self _) _) (fun b hb => .inr (by have := row_base h5 b hb; omega))
theorem RunPut.append {v0 : Value} {Y0 : List (List Int)} {w w7 w4 : World} {a : Option Addr} {c : Nat} {u v' : Value} {Z : List (List Int)} {D : List Int} {b : Int} (h : RunPut v0 Y0 w w7 a c u Z D) (o : Obj) (ho : w4.ownsRow (w.heap.size + 2) 3 1 v' (D.length + 1) (intV D ++ [.int .i64 b])) (hg : (w7.alloc o).grownBy w4 u.ownBlock) (hat : v'.ownBlock = u.ownBlock ∨ v'.ownBlock = some (w7.alloc o).heap.size) :
    RunPut v0 Y0 w w4 a c v' Z (D ++ [b]) := by
  obtain ⟨h1, h2, h3, h4, h5⟩ := h
  have hb := below_one w7 o
  have l2 := (Array.getElem?_eq_some_iff.1 h2).1
  have l3 := (Array.getElem?_eq_some_iff.1 h3).1
  have hne : ∀ k, k < w.heap.size + 2 → some k ≠ u.ownBlock := fun k hk e => by have := row_base h5 k e.symm; omega
  have hz : (w7.alloc o).heap.size = w7.heap.size + 1 := by simp
  refine ⟨(h1.trans (hb.mono h1.size)).grown hg (by have := h1.size; omega) (fun j e => by have := row_base h5 j e; omega), ?_, ?_, (h4.below hb).append hg hat, ?_⟩
  · exact (hg.block _ (by omega) (hne _ (by omega))).trans ((hb.block _ l2).trans h2)
  · exact (hg.block _ (by omega) (hne _ (by omega))).trans ((hb.block _ l3).trans h3)
  · have e : intV D ++ [.int .i64 b] = intV (D ++ [b]) := by simp [intV]
    rw [e] at ho
    simpa using ho
theorem runSt_start {w : World} {a : Option Addr} {c : Nat} {Y : List (List Int)} (S : List (Int × Int)) (hg : goodY Y = true) :
    RunSt (.slice a Y.length c) w (((w.alloc (.cells #[.slice a Y.length c] 28)).alloc (.cells #[.slice none 0 0] 28)).alloc (.cells #[] 3)) Y S 0 a c (.slice (some ⟨w.heap.size + 1 + 1, 0, none⟩) 0 0) Y [] := by
  obtain ⟨h0, h1, h2, hs, hb⟩ := three_alloc w (.cells #[.slice a Y.length c] 28) (.cells #[.slice none 0 0] 28) (.cells #[] 3)
  have ho := own_empty ((w.alloc (.cells #[.slice a Y.length c] 28)).alloc (.cells #[.slice none 0 0] 28)) (.cells #[] 3) 3 rfl
  rw [show ((w.alloc (.cells #[.slice a Y.length c] 28)).alloc (.cells #[.slice none 0 0] 28)).heap.size = w.heap.size + 1 + 1 by simp] at ho
  exact ⟨hb, h1, h0, .inl ⟨rfl, rfl⟩, by simpa [intV] using ho, hg, ⟨by simp, by rw [hs]; exact Nat.le_refl _⟩, by simp⟩

/-- The next yard lies in a box of its own, made behind wr. -/
def Nx (wr w6 : World) (q : Nat) (a : Option Addr) (m c : Nat) (ok : Bool) (Z : List (List Int)) : Prop :=
  wr.heap.size ≤ q ∧ w6.heap[q]? = some (.cells #[.slice a m c] 28 (0, 0)) ∧ Below wr.heap.size wr w6 ∧ (ok = true → m = Z.length ∧ ∃ B hi, wr.heap.size ≤ B ∧ OwnY w6 B hi (.slice a m c) Z)
theorem Nx.after {wr W w' : World} {a : Option Addr} {m c : Nat} {ok : Bool} {Z : List (List Int)} (h1 : Below wr.heap.size wr W) (h2 : Below W.heap.size W w') (ho : ok = true → m = Z.length ∧ OwnY w' W.heap.size w'.heap.size (.slice a m c) Z) :
    Nx wr (w'.alloc (.cells #[.slice a m c] 28)) w'.heap.size a m c ok Z := by
  have hb := below_one w' (.cells #[.slice a m c] 28)
  have h12 := h1.trans (h2.mono h1.size)
  exact ⟨h12.size, heap_alloc_new w' _, h12.trans (hb.mono h12.size), fun h => ⟨(ho h).1, _, _, h1.size, (ho h).2.below hb⟩⟩
theorem Nx.before {wr W w' : World} {a : Option Addr} {m c q : Nat} {ok : Bool} {Z : List (List Int)} (h1 : Below wr.heap.size wr W) (hq : wr.heap.size ≤ q) (hz : W.heap[q]? = some (.cells #[.slice none 0 0] 28 (0, 0))) (h2 : Below W.heap.size W w') (ho : ok = true → m = Z.length ∧ OwnY w' W.heap.size w'.heap.size (.slice a m c) Z) :
    Nx wr (w'.setCell ⟨q, 0, none⟩ (.slice a m c)) q a m c ok Z := by
  have hl := (Array.getElem?_eq_some_iff.1 hz).1
  have h12 := h1.trans (h2.mono h1.size)
  refine ⟨hq, ?_, h12.setCell (p := ⟨q, 0, none⟩) hq _, fun h => ⟨(ho h).1, _, _, h1.size, (ho h).2.span (span_set (Nat.le_refl q) (Nat.lt_succ_self q) _) (.inr hl)⟩⟩
  rw [Lib.heap_setCell_same ((h2.block q hl).trans hz)]
  simp

set_option maxRecDepth 100000 in
set_option maxHeartbeats 8000000 in
theorem l6Run_any (v0 vs : Value) (Y : List (List Int)) (S : List (Int × Int)) (hg : goodY Y = true) (hS : S.length ≤ 60) (w : World) (hv : YL w v0 Y) (hs : SL w vs S) (hA : runA Y S = runO Y S []) :
    Calls Try.prog 62 #[.agg #[v0], vs] w (SeenRun v0 Y w (runY Y S) (runD Y S) (runB Y S)) := by
  obtain ⟨f3, hi3, hz0, hz1, hz2⟩ := info_is info3
  have HV := Lib.hid hv
  obtain ⟨a0, cap0, rfl⟩ := hv.form
  obtain ⟨sa, sc, rfl, hsc⟩ := hs
  have R0 := Lib.hid (runSt_start (w := w) (a := a0) (c := cap0) S hg)
  have HSC := Lib.hid hsc
  obtain ⟨n, hn⟩ : ∃ n, S.length = n := ⟨_, rfl⟩
  have HN := Lib.hid hn
  rw [hn] at hS ⊢
  have HA := Lib.hid hA
  clear hsc hg hv hn hA
  go_enter Try.func62, Try.ntmps62
  go_wp2_with fail
  generalize ((w.alloc (.cells #[.slice a0 Y.length cap0] 28)).alloc (.cells #[.slice none 0 0] 28)).alloc (.cells #[] 3) = W at *
  go_loopw [7, 8, 9, 10] (fun u i _ _ wr => ∃ (k : Nat) (ak : Option Addr) (ck : Nat) (Yk : List (List Int)) (D : List Int), k ≤ n ∧ i = .int .i64 k ∧ Hid (RunSt (.slice a0 Y.length cap0) w wr Y S k ak ck u Yk D)) (fun _ i _ _ _ => n - (intOf i).toNat)
  case atStart => exact ⟨0, a0, cap0, Y, [], Nat.zero_le _, rfl, R0⟩
  case round =>
    obtain ⟨k, ak, ck, Yk, D, hk, rfl, HR⟩ := hrel
    obtain ⟨q1, q2, q3, q4, q5, q7, q8, q9⟩ := HR.out
    have c0 : wr.cell? ⟨w.heap.size, 0, none⟩ = some (.slice ak Yk.length ck) := cell_of q3 rfl
    by_cases hlt : k < n
    · obtain ⟨g, off, rfl, hg, hcc⟩ := HSC.out (by have := HN.out; omega)
      obtain ⟨s, hs⟩ := get_at HN.out hlt
      obtain ⟨b, t⟩ := s
      obtain ⟨d1, d2⟩ := hcc k _ hs
      have s1 : wr.cell? ⟨g, off + k * 2, none⟩ = some (.int .i64 b) := (q1.cell (p := ⟨g, off + k * 2, none⟩) hg).trans d1
      have s2 : wr.cell? ⟨g, off + k * 2 + 1, none⟩ = some (.int .i64 t) := (q1.cell (p := ⟨g, off + k * 2 + 1, none⟩) hg).trans d2
      have HE := Lib.hid (runO_drop (Y := Yk) (D := D) hs)
      have hsm := good_small q7
      have HZ : Hid (∀ W, Below wr.heap.size wr W → Calls Try.prog 102 #[.agg #[.slice ak Yk.length ck], .agg #[.int .i64 b, .int .i64 t]] W (SeenY W (stepR Yk b t) (stepOk Yk b t))) := Lib.hid fun W hb => specStep_any _ Yk b t (by omega) (by omega) q7 W ⟨_, rfl, (q4.read HV.out q1).below hb⟩
      have HG := Lib.hid (fun h => step_good (Y := Yk) (b := b) (t := t) h)
      have hgw : g < wr.heap.size := Nat.lt_of_lt_of_le hg q1.size
      have haw : w.heap.size < wr.heap.size := (Array.getElem?_eq_some_iff.1 q3).1
      have hga : g < w.heap.size := hg
      generalize Yk.length = nk at *
      obtain ⟨Z, hZe⟩ : ∃ Z, stepR Yk b t = Z := ⟨_, rfl⟩
      rw [hZe] at HZ HE HG
      obtain ⟨ok, hoe⟩ : ∃ ok, stepOk Yk b t = ok := ⟨_, rfl⟩
      rw [hoe] at HZ HE HG
      have HLT := Lib.hid (And.intro hgw haw)
      have HS12 := Lib.hid (And.intro hga (And.intro d1 d2))
      clear q1 q2 q3 q4 q5 q7 q9 hs hcc d1 d2 hZe hoe hsm hg hgw haw
      go_wp2_with fail
      have hkI : (k : Int) < (n : Int) := by omega
      go_cut [9, 10] from 12 to 45 (fun p o w6 => ∃ (q : Nat) (a : Option Addr) (m c : Nat), p = .pointer (some ⟨q, 0, none⟩) ∧ o = .bool ok ∧ Hid (Nx wr w6 q a m c ok Z))
      case first =>
        go_region_held3 (fun W => W.cell? ⟨w.heap.size, 0, none⟩ = some (.slice ak nk ck) ∧ W.cell? ⟨g, off + k * 2, none⟩ = some (.int .i64 b) ∧ W.cell? ⟨g, off + k * 2 + 1, none⟩ = some (.int .i64 t)) (first | exact ⟨(set_cell_ne _ _ _ _ _ _ (Nat.ne_of_lt HLT.out.2)).trans x0, (set_cell_ne _ _ _ _ _ _ (Nat.ne_of_lt HLT.out.1)).trans x1, (set_cell_ne _ _ _ _ _ _ (Nat.ne_of_lt HLT.out.1)).trans x2⟩ | go_keep) (first | (go_at_call 102; refine (HZ.out _ (((Below.refl _ wr).drew : Below wr.heap.size wr wr.drew))).mono ?_; rintro e w' ⟨a9, m9, c9, rfl, hok, hb⟩; have x0 := (hb.cell (p := ⟨w.heap.size, 0, none⟩) (Nat.lt_of_lt_of_le HLT.out.2 (Nat.le_refl _))).trans ((((Below.refl _ wr).drew : Below wr.heap.size wr wr.drew)).cell (p := ⟨w.heap.size, 0, none⟩) HLT.out.2 |>.trans c0); have x1 := (hb.cell (p := ⟨g, off + k * 2, none⟩) (Nat.lt_of_lt_of_le HLT.out.1 (Nat.le_refl _))).trans ((((Below.refl _ wr).drew : Below wr.heap.size wr wr.drew)).cell (p := ⟨g, off + k * 2, none⟩) HLT.out.1 |>.trans s1); have x2 := (hb.cell (p := ⟨g, off + k * 2 + 1, none⟩) (Nat.lt_of_lt_of_le HLT.out.1 (Nat.le_refl _))).trans ((((Below.refl _ wr).drew : Below wr.heap.size wr wr.drew)).cell (p := ⟨g, off + k * 2 + 1, none⟩) HLT.out.1 |>.trans s2); have HX := Lib.hid (Nx.after ((Below.refl _ wr).drew : Below wr.heap.size wr wr.drew) hb hok); clear hb hok) | (go_at_call 102; refine (HZ.out _ (((below_one wr (.cells #[.slice none 0 0] 28)).drew : Below wr.heap.size wr (wr.alloc (.cells #[.slice none 0 0] 28)).drew))).mono ?_; rintro e w' ⟨a9, m9, c9, rfl, hok, hb⟩; have x0 := (hb.cell (p := ⟨w.heap.size, 0, none⟩) (Nat.lt_of_lt_of_le HLT.out.2 (Nat.le_of_lt (by simp)))).trans ((((below_one wr (.cells #[.slice none 0 0] 28)).drew : Below wr.heap.size wr (wr.alloc (.cells #[.slice none 0 0] 28)).drew)).cell (p := ⟨w.heap.size, 0, none⟩) HLT.out.2 |>.trans c0); have x1 := (hb.cell (p := ⟨g, off + k * 2, none⟩) (Nat.lt_of_lt_of_le HLT.out.1 (Nat.le_of_lt (by simp)))).trans ((((below_one wr (.cells #[.slice none 0 0] 28)).drew : Below wr.heap.size wr (wr.alloc (.cells #[.slice none 0 0] 28)).drew)).cell (p := ⟨g, off + k * 2, none⟩) HLT.out.1 |>.trans s1); have x2 := (hb.cell (p := ⟨g, off + k * 2 + 1, none⟩) (Nat.lt_of_lt_of_le HLT.out.1 (Nat.le_of_lt (by simp)))).trans ((((below_one wr (.cells #[.slice none 0 0] 28)).drew : Below wr.heap.size wr (wr.alloc (.cells #[.slice none 0 0] 28)).drew)).cell (p := ⟨g, off + k * 2 + 1, none⟩) HLT.out.1 |>.trans s2); have jz : (wr.alloc (.cells #[.slice none 0 0] 28)).drew.heap[wr.heap.size]? = some (.cells #[.slice none 0 0] 28 (0, 0)) := heap_alloc_new wr _; have HX := Lib.hid (Nx.before ((below_one wr (.cells #[.slice none 0 0] 28)).drew : Below wr.heap.size wr (wr.alloc (.cells #[.slice none 0 0] 28)).drew) (Nat.le_refl _) jz hb hok); have j9 := (hb.block _ (by simp : wr.heap.size < (wr.alloc (.cells #[.slice none 0 0] 28)).drew.heap.size)).trans jz; have z9 : w'.cell? ⟨wr.heap.size, 0, none⟩ = some (.slice none 0 0) := cell_of j9 rfl; have f9 : ∀ i, w'.frozen? ⟨wr.heap.size, i, none⟩ = false := fun i => free_of j9; clear jz j9; clear hb hok))
        all_goals
          clear x0 x1 x2 c0 s1 s2
          go_wp2_with fail
          go_meet
          exact ⟨_, _, _, _, rfl, rfl, HX⟩
      case rest =>
        obtain ⟨q, a, m, c, rfl, rfl, HNx⟩ := hcut
        obtain ⟨x1, x2, x3, x4⟩ := HNx.out
        clear c0 s1 s2
        cases ok with
        | false =>
          have HQ := Lib.hid (run_no (Y := Y) (S := S) (by rw [HA.out, ← HR.out.2.2.2.2.2.2.2, HE.out]; rfl))
          have HR2 := Lib.hid ((HR.out.below x3).below (below_one wc (.cells #[] 3)))
          have HWC := Lib.hid (show w.heap.size ≤ wc.heap.size from (HR.out.below x3).1.size)
          have HWC2 := Lib.hid (show w.heap.size + 1 + 1 ≤ wc.heap.size from (Array.getElem?_eq_some_iff.1 (HR.out.below x3).2.1).1)
          have z0 : (wc.alloc (.cells #[] 3)).cell? ⟨w.heap.size + 1, 0, none⟩ = some (.slice none 0 0) := cell_of HR2.out.2.1 rfl
          have f0 : ∀ i, (wc.alloc (.cells #[] 3)).frozen? ⟨w.heap.size + 1, i, none⟩ = false := fun i => free_of HR2.out.2.1
          have e7 := World.cell?_setCell_same _ _ (.slice none 0 0) z0
          clear x1 x2 x3 x4
          go_wp2_with fail
          refine bodyPost_ret (v := .tuple #[.agg #[.slice none 0 0], .slice (some ⟨wc.heap.size, 0, none⟩) 0 0, .bool false]) (by simp [results, Try.results62, go_sem, e7]) rfl ?_
          rw [HQ.out.1, HQ.out.2.1, HQ.out.2.2]
          have hoe := own_empty wc (.cells #[] 3) 3 rfl
          exact ⟨none, 0, _, 0, rfl, .inr ⟨w.heap.size, w.heap.size, Nat.le_refl _, OwnY.nil _ _ _ (by have := HR2.out.1.size; simpa using this)⟩, by simpa [intV] using (own_span (hoe.mono HWC.out) (span_set (i := 0) (Nat.le_refl (w.heap.size + 1)) (Nat.lt_succ_self _) (.slice none 0 0)) (fun b hb => .inr (by cases hb; exact HWC2.out))), HR2.out.1.setCell (p := ⟨w.heap.size + 1, 0, none⟩) (by show w.heap.size ≤ w.heap.size + 1; omega) _⟩
        | true =>
          obtain ⟨rfl, B, hi, hB, hO⟩ := x4 rfl
          have HG2 := HG.out rfl
          have HP := Lib.hid (HR.out.put x3 hB hO)
          have y0 : wc.cell? ⟨q, 0, none⟩ = some (.slice a Z.length c) := cell_of x2 rfl
          have j0 := (HR.out.below x3).2.2.1
          have y1 : wc.cell? ⟨w.heap.size, 0, none⟩ = some (.slice ak Yk.length ck) := cell_of j0 rfl
          have y2 : ∀ i, wc.frozen? ⟨w.heap.size, i, none⟩ = false := fun i => free_of j0
          have HD := Lib.hid q8.1
          have HK9 := Lib.hid HR.out.2.2.2.2.2.2.2
          have t1 := (HP.out.1.cell (p := ⟨g, off + k * 2, none⟩) HS12.out.1).trans HS12.out.2.1
          have t2 := (HP.out.1.cell (p := ⟨g, off + k * 2 + 1, none⟩) HS12.out.1).trans HS12.out.2.2
          have HZ3 : Hid (w.heap.size + 3 ≤ (wc.setCell ⟨w.heap.size, 0, none⟩ (.slice a Z.length c)).heap.size) := Lib.hid (by have h1 := q8.2; have h2 := x3.size; simp; omega)
          clear x1 x2 x3 x4 hB hO j0 q8 HR
          by_cases ht : t = -1
          · subst ht
            go_upto_region 9 with fail
            generalize wc.setCell ⟨w.heap.size, 0, none⟩ (.slice a Z.length c) = w7 at *
            have hrow := HP.out.2.2.2.2
            have hD := HD.out
            have hb2 : w.heap.size + 2 ≤ w7.heap.size := by have := HZ3.out; omega
            clear y0 y1 y2
            go_wp2_with (at_builtin; refine wpList_append_own_at _ rfl _ _ 29 rfl (w.heap.size + 2) 3 f3 (.int .i64 0) 1 8 Try.underlying29 hi3 hz0 hz1 hz2 rfl (by decide) _ _ _ rfl (hrow.alloc _) ⟨w7.heap.size, 0, none⟩ 1 1 [.int .i64 b] rfl rfl (cell_one_new _ _ _) (by simp [Value.oneCell']) (by unfold maxLen; omega) (by omega) (by simp; omega) ?_; intro v' w4 hown' hgrow hnil hat)
            have HN4 : Hid (RunSt (.slice a0 Y.length cap0) w w4 Y S (k + 1) a c v' Z (D ++ [b])) := Lib.hid (by
              obtain ⟨p1, p2, p3, p4, p5⟩ := HP.out.append _ hown' hgrow hat
              refine ⟨p1, p2, p3, p4, p5, HG2, ⟨by simp; omega, by have := hgrow.size; have := HZ3.out; simp at *; omega⟩, ?_⟩
              rw [← HK9.out, HE.out]; simp)
            clear hown' hgrow hnil hat hrow
            exact ⟨⟨k + 1, _, _, _, _, by omega, by go_num, HN4⟩, by simp [intOf]; omega⟩
          · have hte : (t == -1) = false := by simpa using ht
            go_wp2_with fail
            generalize wc.setCell ⟨w.heap.size, 0, none⟩ (.slice a Z.length c) = w7 at *
            have HN4 : Hid (RunSt (.slice a0 Y.length cap0) w w7 Y S (k + 1) a c u7 Z D) := Lib.hid (by
              obtain ⟨p1, p2, p3, p4, p5⟩ := HP.out
              refine ⟨p1, p2, p3, p4, p5, HG2, ⟨by have := HD.out; omega, HZ3.out⟩, ?_⟩
              rw [← HK9.out, HE.out]; simp [ht])
            exact ⟨⟨k + 1, _, _, _, _, by omega, by go_num, HN4⟩, by simp [intOf]; omega⟩
    · obtain rfl : k = n := by omega
      have HQ := Lib.hid (run_yes (Y := Y) (S := S) (p := (Yk, D)) (by rw [HA.out, ← q9, show k = S.length by exact HN.out.symm, List.drop_length]; rfl))
      have z0 : wr.cell? ⟨w.heap.size + 1, 0, none⟩ = some (.slice none 0 0) := cell_of q2 rfl
      have f0 : ∀ i, wr.frozen? ⟨w.heap.size + 1, i, none⟩ = false := fun i => free_of q2
      have e7 := World.cell?_setCell_same _ _ (.slice ak Yk.length ck) z0
      have HB7 := Lib.hid (q1.setCell (p := ⟨w.heap.size + 1, 0, none⟩) (by show w.heap.size ≤ w.heap.size + 1; omega) (.slice ak Yk.length ck))
      have HY7 : Hid ((.slice ak Yk.length ck = Value.slice a0 Y.length cap0 ∧ Yk = Y) ∨ ∃ B hi, w.heap.size ≤ B ∧ OwnY (wr.setCell ⟨w.heap.size + 1, 0, none⟩ (.slice ak Yk.length ck)) B hi (.slice ak Yk.length ck) Yk) := Lib.hid (by
        rcases q4 with h | ⟨B, hi, h1, h2, _⟩
        · exact .inl h
        · exact .inr ⟨B, hi, by omega, h2.span (span_set (Nat.le_refl (w.heap.size + 1)) (Nat.lt_succ_self _) _) (.inr (by omega))⟩)
      have HD7 := Lib.hid ((own_span q5 (span_set (w := wr) (i := 0) (Nat.le_refl (w.heap.size + 1)) (Nat.lt_succ_self _) (.slice ak Yk.length ck)) (fun b hb => .inr (by have := row_base q5 b hb; omega))).mono (show w.heap.size ≤ w.heap.size + 2 by omega))
      obtain ⟨ua, uc, rfl⟩ := own_form q5
      clear q1 q2 q3 q4 q5 q7 q8 q9
      go_wp2_with fail
      refine bodyPost_ret (v := .tuple #[.agg #[.slice ak Yk.length ck], .slice ua D.length uc, .bool true]) (by simp [results, Try.results62, go_sem, e7]) rfl ?_
      rw [HQ.out.1, HQ.out.2.1, HQ.out.2.2]
      exact ⟨_, _, _, _, rfl, HY7.out, HD7.out, HB7.out⟩
end Go.Proofs.Ytmkejgbbgknalaa
