/-
  What impl.AllowedStacks answers. No statement of the seat by itself.
-/
import Derived.Test.YtonploneihnekaaFinP
import Derived.Test.YtonploneihnekaaFind
import Derived.Test.YtonploneihnekaaPutM
import Derived.Test.YtonploneihnekaaFndK
import Derived.Test.YtonploneihnekaaFndG
import Derived.Test.YtonploneihnekaaCntS
import Derived.Test.YtonploneihnekaaFndI
import Derived.Test.YtonploneihnekaaLaidEqF
import Derived.Laws.StructEq
import Derived.Test.YtonploneihnekaaPutI
namespace Go.Proofs.Ytonploneihnekaa
open Go.RowKit

/-- Whether a number may be put on stack i, which holds l. -/
def okA (f : Nat → C.Cont) (p x : Int) (l : List Int) (i : Nat) : Bool := decide (l.length < 4) && (atF f p i (l ++ [x]) l.length).isEmpty
/-- The allowed ones of the first stacks. -/
def alwL (f : Nat → C.Cont) (p x : Int) (Y : List (List Int)) : Nat → List Int
  | 0 => []
  | i + 1 => alwL f p x Y i ++ (if okA f p x (Y.getD i []) i = true then [(i : Int)] else [])
theorem alwL_len (f : Nat → C.Cont) (p x : Int) (Y : List (List Int)) : ∀ i, (alwL f p x Y i).length ≤ i
  | 0 => by simp [alwL]
  | i + 1 => by
    have := alwL_len f p x Y i
    rw [alwL, List.length_append]
    split <;> simp <;> omega
theorem alwL_yes {f : Nat → C.Cont} {p x : Int} {Y : List (List Int)} {i : Nat} {l : List Int} (hl : Y[i]? = some l) (h : okA f p x l i = true) : alwL f p x Y (i + 1) = alwL f p x Y i ++ [(i : Int)] := by
  rw [alwL, getD_of hl, if_pos h]
theorem alwL_no {f : Nat → C.Cont} {p x : Int} {Y : List (List Int)} {i : Nat} {l : List Int} (hl : Y[i]? = some l) (h : okA f p x l i = false) : alwL f p x Y (i + 1) = alwL f p x Y i := by
  rw [alwL, getD_of hl, if_neg (by simp [h]), List.append_nil]
/-- Whether allowed stacks are asked of valid arguments. -/
def askA (n : Nat) (f : Nat → C.Cont) (Y : List (List Int)) (p x : Int) : Bool := askF n f Y p && (C.inB 1 (n : Int) x && (placeY Y x).isNone)
/-- What AllowedStacks answers. -/
def alwR (n : Nat) (f : Nat → C.Cont) (Y : List (List Int)) (p x : Int) : List Int := if askA n f Y p x = true then alwL f p x Y Y.length else []
theorem alwR_yes {n : Nat} {f : Nat → C.Cont} {Y : List (List Int)} {p x : Int} (h : askA n f Y p x = true) : alwR n f Y p x = alwL f p x Y Y.length := by rw [alwR, if_pos h]
theorem alwR_no {n : Nat} {f : Nat → C.Cont} {Y : List (List Int)} {p x : Int} (h : askA n f Y p x = false) : alwR n f Y p x = [] := by rw [alwR, if_neg (by simp [h])]
theorem askA_iff {n : Nat} {f : Nat → C.Cont} {Y : List (List Int)} {p x : Int} : askA n f Y p x = true ↔ askF n f Y p = true ∧ (1 ≤ x ∧ x ≤ (n : Int)) ∧ placeY Y x = none := by
  simp [askA, C.inB, Option.isNone_iff_eq_none]
theorem alwR_len (n : Nat) (f : Nat → C.Cont) (Y : List (List Int)) (p x : Int) (h : Y.length ≤ 1048576) : (alwR n f Y p x).length ≤ 1048576 := by
  unfold alwR; split
  · exact Nat.le_trans (alwL_len f p x Y Y.length) h
  · simp
theorem place_flat {Y : List (List Int)} {x : Int} (h : placeY Y x = none) : ¬ x ∈ Y.flatten := fun hm => by
  obtain ⟨l, hl, hx⟩ := List.mem_flatten.1 hm
  obtain ⟨j, hj⟩ := List.getElem?_of_mem hl
  exact atL_not (place_not h j l hj) hx
theorem alw_bd {n : Nat} {f : Nat → C.Cont} {Y : List (List Int)} {p x : Int} (h : askA n f Y p x = true) : n ≤ 12 := ((C.listB_iff n f).1 (stF_iff.1 (askF_iff.1 (askA_iff.1 h).1).1).2.1).1
theorem alw_put {n : Nat} {f : Nat → C.Cont} {Y : List (List Int)} {p x : Int} {i : Nat} {l : List Int} (h : askA n f Y p x = true) (hl : Y[i]? = some l) : okP Y (i : Int) x = decide (l.length < 4) := by
  have hn := alw_bd h
  obtain ⟨h1, h2, h3⟩ := askA_iff.1 h
  have hg := (stF_iff.1 (askF_iff.1 h1).1).1
  rw [okP_nat (okS_iff.2 ⟨hg, by omega, by have := lt_of_get hl; omega⟩)]
  by_cases h4 : l.length < 4
  · rw [put_good hg hl h4 (by omega) (place_flat h3)]; simp [h4]
  · rw [put_fullF hl h4]; simp [h4]
theorem alw_putR {n : Nat} {f : Nat → C.Cont} {Y : List (List Int)} {p x : Int} {i : Nat} {l : List Int} (h : askA n f Y p x = true) (hl : Y[i]? = some l) (h4 : l.length < 4) : putR Y (i : Int) x = putY Y i x := putR_yes ((alw_put h hl).trans (by simp [h4]))
theorem alw_ask {n : Nat} {f : Nat → C.Cont} {Y : List (List Int)} {p x : Int} {i : Nat} {l : List Int} (h : askA n f Y p x = true) (hl : Y[i]? = some l) (h4 : l.length < 4) : askF n f (putY Y i x) p = true := by
  have hn := alw_bd h
  obtain ⟨h1, h2, h3⟩ := askA_iff.1 h
  obtain ⟨hst, hp⟩ := askF_iff.1 h1
  obtain ⟨hg, hli, hf⟩ := stF_iff.1 hst
  exact askF_iff.2 ⟨stF_iff.2 ⟨put_good hg hl h4 (by omega) (place_flat h3), hli, fit_put hf hl h2.2⟩, hp⟩
theorem alw_eq {n : Nat} {f : Nat → C.Cont} {Y : List (List Int)} {p x : Int} {i : Nat} {l : List Int} (h : askA n f Y p x = true) (hl : Y[i]? = some l) (h4 : l.length < 4) : decide (finR n f Y p = finR n f (putY Y i x) p) = okA f p x l i := by
  rw [finR_yes (askA_iff.1 h).1, finR_yes (alw_ask h hl h4)]
  have hi := fin_put f p x hl
  unfold okA
  rw [show decide (l.length < 4) = true by simp [h4], Bool.true_and]
  cases e : (atF f p i (l ++ [x]) l.length) with
  | nil =>
    rw [decide_eq_true (hi.2 e)]; rfl
  | cons a b =>
    rw [decide_eq_false (fun hc => by have := hi.1 hc; rw [e] at this; cases this)]; rfl

set_option maxRecDepth 100000 in
set_option maxHeartbeats 8000000 in
theorem l7Put_any (v : Value) (Y : List (List Int)) (i : Nat) (x : Int) (l : List Int) (h1 : Y.length ≤ 1048576) (h2 : tot Y ≤ 1048576) (hl : Y[i]? = some l) (w : World) (h : YdR w v Y) :
    Calls Try.prog 51 #[v, .int .i64 (i : Int), .int .i64 x] w (NewYd w (putY Y i x)) := by
  obtain ⟨v0, rfl, hv⟩ := h
  have hb0 := below_one w (.cells #[v0] 31)
  have hb1 := below_one (w.alloc (.cells #[v0] 31)) (.cells #[.slice none 0 0] 31)
  have HB := Lib.hid (hb0.trans (hb1.mono (by simp)))
  have HA := Lib.hid ((Box1.new w v0 31).below hb1)
  have HR := Lib.hid (Box1.new (w.alloc (.cells #[v0] 31)) (.slice none 0 0) 31)
  have hRb := heap_alloc_new (w.alloc (.cells #[v0] 31)) (.cells #[.slice none 0 0] 31)
  rw [show (w.alloc (.cells #[v0] 31)).heap.size = w.heap.size + 1 by simp] at HR hRb
  have J := Lib.hid hRb
  have HV := Lib.hid hv
  have c0 := HA.out.2
  have hin := lt_of_get hl
  have hlen : l.length ≤ 1048576 := Nat.le_trans (row_len hl) h2
  obtain ⟨n, hn⟩ : ∃ n, Y.length = n := ⟨_, rfl⟩
  have HN := Lib.hid hn
  have HL := Lib.hid hl
  obtain ⟨m, hm⟩ : ∃ m, l.length = m := ⟨_, rfl⟩
  have HM := Lib.hid hm
  have hm4 : m ≤ 1048576 := by omega
  have HCp := Lib.hid (fun W hb => l5Own_any (.agg #[v0]) Y h1 h2 W ⟨v0, rfl, HV.out.below hb⟩)
  unfold NewYd at HCp
  rw [hn] at HCp
  have HPL : Hid ((putY Y i x).length = n) := Lib.hid (by rw [putY_len]; exact hn)
  rw [hn] at hin h1
  clear hb0 hb1 hRb hv hl hlen hn hm h2
  have hiI : (i : Int) < (n : Int) := by omega
  go_enter Try.func51, Try.ntmps51
  go_wp2_with fail
  refine (HCp.out _ HB.out).mono ?_
  rintro e w2 ⟨a2, c2, rfl, ho, hb⟩
  generalize hw1 : (w.alloc (.cells #[v0] 31)).alloc (.cells #[.slice none 0 0] 31) = w1 at *
  have hzR : w.heap.size + 1 < w1.heap.size := HR.out.1
  clear hw1
  obtain ⟨g, cap, e⟩ := ho.rows (by have := HN.out; omega)
  injection e with e1 e2 e3
  subst e1 e3
  have B2 := Lib.hid (HB.out.trans (hb.mono HB.out.size))
  have O2 := Lib.hid ho
  have j2 := (hb.block _ hzR).trans J.out
  have J2 := Lib.hid j2
  have hz2 := hb.size
  have hgB : w1.heap.size ≤ g ∧ g < w2.heap.size := by
    obtain ⟨_, hlt, us, h3, _⟩ := ho
    exact ⟨row_base h3 g rfl, hlt g rfl⟩
  clear hb ho j2 c0 e2
  go_wp2_with fail
  have hb3 := below_one w2 (.cells #[.slice (some ⟨g, 0, none⟩) n c2] 31)
  have B3 := Lib.hid (B2.out.trans (hb3.mono B2.out.size))
  have BO := Lib.hid (Box1.new w2 (.slice (some ⟨g, 0, none⟩) n c2) 31)
  have O3 := Lib.hid (O2.out.below hb3)
  have J3 := Lib.hid ((hb3.block _ (by omega)).trans J2.out)
  have hz3 := hb3.size
  clear hb3
  generalize w2.alloc (.cells #[.slice (some ⟨g, 0, none⟩) n c2] 31) = w3 at *
  obtain ⟨u, hu, -, hou, hub⟩ := O3.out.cell HL.out
  obtain ⟨a4, c4, rfl⟩ := own_form hou
  rw [HM.out] at hu hou hub
  have HO4 := Lib.hid hou
  have cO := BO.out.2
  have hgO : ¬ g = w2.heap.size := by omega
  have hOg : ¬ w2.heap.size = g := by omega
  have HP := Lib.hid (fun (w5 : World) (v' : Value) (o : Obj) (ho : w5.ownsRow w1.heap.size 3 1 v' (m + 1) (intV l ++ [.int .i64 x])) (hg : (w3.drew.alloc o).grownBy w5 (Value.slice a4 m c4).ownBlock) (hat : v'.ownBlock = (Value.slice a4 m c4).ownBlock ∨ v'.ownBlock = some (w3.drew.alloc o).heap.size) =>
    putR_of (w := w) (w2 := w2) (w3 := w3.drew) (O3.out.below (Below.refl _ w3).drew) HL.out HM.out hu ho hg hat (BO.out.below (Below.refl _ w3).drew) J3.out B3.out.drew hzR)
  have HU5 := Lib.hid (fun o => row_below HO4.out (((Below.refl _ w3).drew).alloc (Nat.le_refl _) o))
  have hcB := fun o => (World.cell?_alloc_lt w3 o ⟨w2.heap.size, 0, none⟩ BO.out.1).trans cO
  have hu9 : w3.drew.cell? ⟨g, i, none⟩ = some (.slice a4 m c4) := hu
  have hg3 : ¬ g = w3.heap.size := by omega
  have huB := fun o => (World.cell?_alloc_lt w3 o ⟨g, i, none⟩ (by show g < w3.heap.size; omega)).trans hu
  have hg4 : ¬ w3.heap.size = g := by omega
  have hcA := fun o => (World.cell?_alloc_lt w3.drew o ⟨w2.heap.size, 0, none⟩ BO.out.1).trans cO
  have hzz : w1.heap.size ≤ w3.heap.size := by omega
  have HZA := Lib.hid (fun o => Nat.le_trans hzz (below_one w3.drew o).size)
  clear hou hub HO4
  go_wp2_with fail
  go_cut [] from 10 (fun w6 => Hid (PutR w w1 w2 g n c2 (putY Y i x) w6))
  case first =>
    go_region_law (first | (refine step_int_at (by rfl) _ _ (by rfl) w1.heap.size _ m (intV l) (by rfl) (HU5.out _) _ _ _ (by rfl) (cell_val_new _ _ _) (by simp [Value.oneCell']) (by omega) (HZA.out _) ?_; intro v5 w5 ho5 hg5 hat5; have HP5 := Lib.hid (HP.out w5 v5 _ ho5 hg5 hat5); obtain ⟨y5, p2⟩ := HP5.out.2.1; have p3 := HP5.out.2.2; have q1 : w5.cell? ⟨w2.heap.size, 0, none⟩ = some (.slice (some ⟨g, 0, none⟩) n c2) := (set_cell_ne _ _ _ _ _ _ hOg).symm.trans HP5.out.1.2.1.2; obtain ⟨a6, c6, rfl⟩ := own_form ho5; clear ho5 hg5 hat5))
    all_goals
      have HPx := Lib.hid HP5.out.1
      clear HP5 p2 p3 q1 y5
      go_wp2_with fail
      go_meet
      exact HPx
  case rest =>
    obtain ⟨o6, b6, j6, B6'⟩ := hcut.out
    have O6 := Lib.hid o6
    have J6 := Lib.hid j6
    have B6 := Lib.hid B6'
    have cO6 := b6.2
    have HZO := Lib.hid b6.1
    clear o6 b6 j6 B6' hcut
    have z0 : wc.cell? ⟨w.heap.size + 1, 0, none⟩ = some (.slice none 0 0) := cell_of J6.out rfl
    have f0 : ∀ i, wc.frozen? ⟨w.heap.size + 1, i, none⟩ = false := fun i => free_of J6.out
    have e7 := World.cell?_setCell_same _ _ (.slice (some ⟨g, 0, none⟩) n c2) z0
    have HFin : Hid (NewYd w (putY Y i x) (.returned (.agg #[.slice (some ⟨g, 0, none⟩) n c2])) (wc.setCell ⟨w.heap.size + 1, 0, none⟩ (.slice (some ⟨g, 0, none⟩) n c2))) := Lib.hid (by
      have hS : Span (w.heap.size + 1) (w.heap.size + 2) wc (wc.setCell ⟨w.heap.size + 1, 0, none⟩ (.slice (some ⟨g, 0, none⟩) n c2)) := span_set (Nat.le_refl _) (by omega) _
      refine ⟨some ⟨g, 0, none⟩, c2, by rw [HPL.out], ?_, B6.out.setCell (p := ⟨w.heap.size + 1, 0, none⟩) (by show w.heap.size ≤ w.heap.size + 1; omega) _⟩
      rw [HPL.out]
      exact (O6.out.span hS (.inr (by omega))).mono (by omega) (by simp) (Nat.le_refl _))
    go_wp2_with fail
    exact bodyPost_ret (v := .agg #[.slice (some ⟨g, 0, none⟩) n c2]) (by simp [results, Try.results51, go_sem, e7]) rfl HFin.out

/-- While allowed stacks are collected: the yard's box, the list. -/
def AlwS (w wr : World) (y v : Value) (L : List Int) : Prop := Below w.heap.size w wr ∧ wr.heap[w.heap.size]? = some (.cells #[y] 31 (0, 0)) ∧ wr.ownsRow (w.heap.size + 1) 3 1 v L.length (intV L) ∧ w.heap.size + 1 < wr.heap.size
theorem AlwS.below {w wr w' : World} {y v : Value} {L : List Int} (h : AlwS w wr y v L) (hb : Below wr.heap.size wr w') : AlwS w w' y v L := ⟨h.1.trans (hb.mono h.1.size), blk_below h.2.1 hb, row_below h.2.2.1 hb, Nat.lt_of_lt_of_le h.2.2.2 hb.size⟩
theorem AlwS.start (w : World) (y : Value) : AlwS w ((w.alloc (.cells #[y] 31)).alloc (.cells #[] 3)) y (.slice (some ⟨w.heap.size + 1, 0, none⟩) 0 0) [] := by
  refine ⟨(below_one w _).trans ((below_one _ _).mono (by simp)), blk_alloc (heap_alloc_new w _) _, ?_, by simp⟩
  have := own_empty (w.alloc (.cells #[y] 31)) (.cells #[] 3) 3 rfl
  simpa [intV] using this
theorem AlwS.push {w wr w4 : World} {y v v' : Value} {L : List Int} {x : Int} (o : Obj) (h : AlwS w wr y v L) (ho : w4.ownsRow (w.heap.size + 1) 3 1 v' (L.length + 1) (intV L ++ [.int .i64 x])) (hg : (wr.alloc o).grownBy w4 v.ownBlock) : AlwS w w4 y v' (L ++ [x]) := by
  obtain ⟨h1, h2, h3, h4⟩ := h
  have hb := below_one wr o
  have h3' := row_below h3 hb
  refine ⟨(h1.trans (hb.mono h1.size)).grown hg (by have := h1.size; simp; omega) (fun j e => by have := row_base h3 j e; omega), blk_grown (blk_alloc h2 o) h3' (by decide) hg, ?_, by have := hg.size; have := hb.size; omega⟩
  have e : intV L ++ [.int .i64 x] = intV (L ++ [x]) := by simp [intV]
  rw [e] at ho
  simpa using ho
theorem AlwS.ret {w wr : World} {y v : Value} {L : List Int} (ok : Bool) (h : AlwS w wr y v L) : RetL w L ok (.returned (.tuple #[v, .bool ok])) wr := by
  obtain ⟨a, c, rfl⟩ := own_form h.2.2.1
  exact ⟨a, c, rfl, ⟨Nat.le_refl _, h.2.2.1.mono (by omega), fun k hk => row_lt h.2.2.1 k hk⟩, h.1⟩

set_option maxRecDepth 100000 in
set_option maxHeartbeats 8000000 in
theorem specAlw_any (v : Value) (Y : List (List Int)) (g n : Nat) (f : Nat → C.Cont) (p x : Int) (h1 : Y.length ≤ 1048576) (h2 : tot Y ≤ 1048576) (hn : n ≤ 1048576) (hid : ∀ j, j < n → (f j).id.size ≤ 1048576) (w : World) (h : YdR w v Y) (hc : C.CAt w g 0 n f) :
    Calls Try.prog 24 #[v, .slice (some ⟨g, 0, none⟩) n n, .int .i64 p, .int .i64 x] w (RetL w (alwR n f Y p x) (askA n f Y p x)) := by
  obtain ⟨f3, hi3, hz0, hz1, hz2⟩ := info_is info3
  obtain ⟨v0, rfl, hv⟩ := h
  have hv' := hv
  obtain ⟨a, cap, rfl, hcc⟩ := hv'
  have HA : Hid (∀ W, Below w.heap.size w W → Calls Try.prog 40 #[.agg #[.slice a Y.length cap], .slice (some ⟨g, 0, none⟩) n n, .int .i64 p] W (BoolP W (askF n f Y p))) := Lib.hid fun W hb => l7Asked_any _ Y g n f p h1 h2 hn hid W ⟨_, rfl, hv.below hb⟩ (hc.below hb)
  obtain ⟨pb, hpb⟩ : ∃ b, C.inB 1 (n : Int) x = b := ⟨_, rfl⟩
  have HI := Lib.hid (fun W => C.l1In_any x 1 (n : Int) pb hpb W)
  have HFd : Hid (∀ W, Below w.heap.size w W → Calls Try.prog 50 #[.agg #[.slice a Y.length cap], .int .i64 x] W (RetP W (findV Y x))) := Lib.hid fun W hb => l5Find_any _ Y x h1 h2 W ⟨_, rfl, hv.below hb⟩
  have HQ : Hid (askA n f Y p x = (askF n f Y p && (pb && (placeY Y x).isNone))) := Lib.hid (by rw [← hpb]; rfl)
  have HR1 : Hid (askA n f Y p x = true → alwR n f Y p x = alwL f p x Y Y.length) := Lib.hid alwR_yes
  have HR0 : Hid (askA n f Y p x = false → alwR n f Y p x = []) := Lib.hid alwR_no
  have HPt : Hid (∀ (i : Nat) l, Y[i]? = some l → ∀ W, Below w.heap.size w W → Calls Try.prog 51 #[.agg #[.slice a Y.length cap], .int .i64 (i : Int), .int .i64 x] W (NewYd W (putY Y i x))) := Lib.hid fun i l hl W hb => l7Put_any _ Y i x l h1 h2 hl W ⟨_, rfl, hv.below hb⟩
  have HAt : Hid (askA n f Y p x = true → ∀ (i : Nat) l, Y[i]? = some l → ∀ W u, YdR W u (putY Y i x) → Below w.heap.size w W → Calls Try.prog 52 #[u, .slice (some ⟨g, 0, none⟩) n n, .int .i64 p, .int .i64 (i : Int), .int .i64 (l.length : Int)] W (AtP W (atF f p i (l ++ [x]) l.length))) := Lib.hid fun ha i l hl W u hu hb => by
    obtain ⟨k1, k2, -⟩ := askA_iff.1 ha
    have hst := (askF_iff.1 k1).1
    have h4 := row_four (stF_iff.1 hst).1 hl
    refine l7At_any u (putY Y i x) g n f p i l.length (l ++ [x]) (by rw [putY_len]; exact h1) hn ?_ (by simp) (by simp; omega) (fun z hz => ?_) W hu (hc.below hb)
    · rw [putY_of hl, List.getElem?_set_self (lt_of_get hl)]
    · rcases List.mem_append.1 hz with h | h
      · exact stF_nums hst hl z h
      · rw [List.mem_singleton.1 h]; exact k2
  have HRow4 := Lib.hid (fun (ha : askA n f Y p x = true) (i : Nat) l (hl : Y[i]? = some l) => row_four (stF_iff.1 (askF_iff.1 (askA_iff.1 ha).1).1).1 hl)
  have HC := Lib.hid hcc
  have S0 := Lib.hid (AlwS.start w (.slice a Y.length cap))
  have hz := AlwS.start w (.slice a Y.length cap)
  have c0 := cell_of (i := 0) hz.2.1 rfl
  clear hv hc hid hcc hpb h2 hz
  generalize hm : Y.length = m at *
  have HM := Lib.hid hm
  clear hm
  generalize alwR n f Y p x = R at *
  obtain ⟨q, hq⟩ : ∃ q, askA n f Y p x = q := ⟨_, rfl⟩
  rw [hq] at HQ HR1 HR0 HAt HRow4 ⊢
  clear hq
  go_enter Try.func24, Try.ntmps24
  go_wp2_with fail
  generalize (w.alloc (.cells #[.slice a m cap] 31)).alloc (.cells #[] 3) = w0 at *
  refine (HA.out _ S0.out.1).mono ?_
  rintro e w1 ⟨rfl, hb⟩
  have S1 := Lib.hid (S0.out.below hb)
  clear hb c0
  have c0 := cell_of (i := 0) S1.out.2.1 rfl
  have hbad : Hid (∀ W, Below w1.heap.size w1 W → q = false → RetL w R false (.returned (.tuple #[.slice (some ⟨w.heap.size + 1, 0, none⟩) 0 0, .bool false])) W) := Lib.hid fun W hb e => by
    rw [HR0.out e]; exact (S1.out.below hb).ret false
  cases hf : askF n f Y p with
  | false =>
    have hq : q = false := by rw [HQ.out, hf]; rfl
    have HB := Lib.hid (hbad.out _ (Below.refl _ _) hq)
    subst hq
    clear hbad hf
    go_wp2_with fail
    go_ret2
    exact HB.out
  | true =>
  rw [hf] at HQ
  clear hf
  go_wp2_with fail
  refine (HI.out _).mono ?_
  rintro e w2 ⟨rfl, rfl⟩
  cases pb with
  | false =>
    have hq : q = false := by rw [HQ.out]; rfl
    have HB := Lib.hid (hbad.out _ (Below.refl _ _) hq)
    subst hq
    clear hbad
    go_wp2_with fail
    go_ret2
    exact HB.out
  | true =>
  go_wp2_with fail
  refine (HFd.out _ S1.out.1).mono ?_
  rintro e w3 ⟨rfl, hb⟩
  have S3 := Lib.hid (S1.out.below hb)
  have HB3 := Lib.hid hb
  clear hb c0
  have c0 := cell_of (i := 0) S3.out.2.1 rfl
  cases hpl : placeY Y x with
  | some ik =>
    obtain ⟨i0, k0⟩ := ik
    have hq : q = false := by rw [HQ.out, hpl]; rfl
    have HB := Lib.hid (hbad.out _ HB3.out hq)
    rw [findV_some hpl]
    subst hq
    clear hbad hpl
    go_wp2_with fail
    go_ret2
    exact HB.out
  | none =>
  have hq : q = true := by rw [HQ.out, hpl]; rfl
  rw [findV_none hpl]
  subst hq
  have HE := Lib.hid (HR1.out rfl)
  have HAt2 := Lib.hid (HAt.out rfl)
  have HRow := Lib.hid (HRow4.out rfl)
  clear hbad hpl HQ HR1 HR0 HAt HRow4 HB3 HFd HI HA
  go_wp2_with fail
  clear c0
  go_loopw [10, 13] (fun u i wr => ∃ k : Nat, k ≤ m ∧ i = .int .i64 k ∧ Hid (AlwS w wr (.slice a m cap) u (alwL f p x Y k))) (fun _ i _ => m - (intOf i).toNat)
  case atStart => exact ⟨0, Nat.zero_le _, rfl, S3⟩
  case round =>
    obtain ⟨i, hi, rfl, HS⟩ := hrel
    have c0 := cell_of (i := 0) HS.out.2.1 rfl
    by_cases hlt : i < m
    · obtain ⟨l, hl⟩ := get_at HM.out hlt
      obtain ⟨g1, o1, rfl, hg1, hc1⟩ := HC.out (by have := HM.out; omega)
      obtain ⟨u, hu', hil⟩ := hc1 i l hl
      have hu := (HS.out.1.cell (p := ⟨g1, o1 + i, none⟩) hg1).trans hu'
      have h4 := HRow.out i l hl
      obtain ⟨a2, c2, rfl, -⟩ := hil
      have HU := Lib.hid (fun W (hb : Below w.heap.size w W) => (hb.cell (p := ⟨g1, o1 + i, none⟩) hg1).trans hu')
      have HPi := Lib.hid (HPt.out i l hl)
      have HAi := Lib.hid (HAt2.out i l hl)
      have HLy := Lib.hid (fun (h : okA f p x l i = true) => alwL_yes hl h)
      have HLn := Lib.hid (fun (h : okA f p x l i = false) => alwL_no hl h)
      have HOk : Hid (okA f p x l i = (decide (l.length < 4) && (atF f p i (l ++ [x]) l.length).isEmpty)) := Lib.hid rfl
      have hlen := alwL_len f p x Y i
      generalize atF f p i (l ++ [x]) l.length = A at *
      generalize okA f p x l i = ok at *
      generalize alwL f p x Y i = L0 at *
      generalize l.length = r at *
      have hiI : (i : Int) < (m : Int) := by omega
      clear hc1 hl hu'
      by_cases hr4 : r = 4
      · have hok : ok = false := by rw [HOk.out]; simp [hr4]
        have HN : Hid (AlwS w wr (.slice (some ⟨g1, o1, none⟩) m cap) _ (alwL f p x Y (i + 1))) := Lib.hid (by rw [HLn.out hok]; exact HS.out)
        subst hr4
        go_wp2_with fail
        exact ⟨⟨i + 1, by omega, by go_num, HN⟩, by simp [intOf]; omega⟩
      · have hd : ((r : Int) == 4) = false := by simp; omega
        have hOk2 : Hid (ok = A.isEmpty) := Lib.hid (by rw [HOk.out, show decide (r < 4) = true by simp; omega, Bool.true_and])
        clear hr4 HOk
        go_wp2_with fail
        refine (HPi.out _ HS.out.1).mono ?_
        rintro e w5 ⟨a5, c5, rfl, hoy, hb⟩
        have hb6 := below_one w5 (.cells #[.slice a5 (putY Y i x).length c5] 31)
        have S6 := Lib.hid ((HS.out.below hb).below hb6)
        have HY6 := Lib.hid (hoy.below hb6).yl
        have BN := Lib.hid (Box1.new w5 (.slice a5 (putY Y i x).length c5) 31)
        obtain ⟨t, ht⟩ : ∃ t, A.length = t := ⟨_, rfl⟩
        have HZ : Hid (∀ W, Below (w5.alloc (.cells #[.slice a5 (putY Y i x).length c5] 31)).heap.size (w5.alloc (.cells #[.slice a5 (putY Y i x).length c5] 31)) W → Calls Try.prog 52 #[.agg #[.slice a5 (putY Y i x).length c5], .slice (some ⟨g, 0, none⟩) n n, .int .i64 p, .int .i64 (i : Int), .int .i64 (r : Int)] W fun e w' => ∃ g9 c9, e = .returned (.slice (some ⟨g9, 0, none⟩) t c9) ∧ Below W.heap.size W w') := Lib.hid fun W hW => by
          refine (HAi.out W _ ⟨_, rfl, HY6.out.below hW⟩ ((S6.out.below hW).1)).mono ?_
          rintro e w' ⟨g9, c9, rfl, -, -, hb9⟩
          exact ⟨g9, c9, by rw [ht], hb9⟩
        have HTt := Lib.hid ht
        clear hb hb6 hoy c0 hu ht
        generalize (putY Y i x).length = nz at *
        go_upto_region 12 with fail
        generalize w5.alloc (.cells #[.slice a5 nz c5] 31) = w6 at *
        generalize w5.heap.size = qb at *
        have c0 := cell_of (i := 0) S6.out.2.1 rfl
        have cN := BN.out.2
        have hu := HU.out _ S6.out.1
        have HK := Lib.hid (fun W (hb : Below w6.heap.size w6 W) => And.intro (cell_of (i := 0) (S6.out.below hb).2.1 rfl) (And.intro (BN.out.below hb).2 (HU.out _ (S6.out.below hb).1)))
        by_cases ht0 : t = 0
        · subst ht0
          have hok : ok = true := by rw [hOk2.out, List.isEmpty_iff_length_eq_zero]; exact HTt.out
          go_region_held3 (fun W => W.cell? ⟨w.heap.size, 0, none⟩ = some (.slice (some ⟨g1, o1, none⟩) m cap) ∧ W.cell? ⟨qb, 0, none⟩ = some (.slice a5 nz c5) ∧ W.cell? ⟨g1, o1 + i, none⟩ = some (.slice a2 r c2)) (go_keep) (first | (go_at_call 52; refine (HZ.out _ (Below.refl _ _).drew).mono ?_; rintro e w' ⟨g9, c9, rfl, hb9⟩; obtain ⟨x0, x1, x2⟩ := HK.out _ ((Below.refl _ w6).drew.trans hb9); have S9 := Lib.hid (S6.out.below ((Below.refl _ w6).drew.trans hb9)); clear hb9))
          have hrow := S9.out.2.2.1
          have hsz := S9.out.2.2.2
          obtain ⟨a9, k9, rfl⟩ := own_form hrow
          clear x1 x2
          go_wp2_with (at_builtin; refine wpList_append_own _ rfl _ _ 44 rfl (w.heap.size + 1) 3 f3 (.int .i64 0) 1 8 Try.underlying44 hi3 hz0 hz1 hz2 rfl (by decide) _ _ _ rfl (hrow.alloc _) ⟨w'.heap.size, 0, none⟩ 1 1 [.int .i64 (i : Int)] rfl rfl (cell_one_new _ _ _) (by simp [Value.oneCell']) (by unfold maxLen; omega) (by omega) (by simp; omega) ?_; intro v' w4 hown' hgrow hnil)
          have HN : Hid (AlwS w w4 (.slice (some ⟨g1, o1, none⟩) m cap) v' (alwL f p x Y (i + 1))) := Lib.hid (by rw [HLy.out hok]; exact S9.out.push _ hown' hgrow)
          clear hown' hgrow hnil hrow hsz
          exact ⟨⟨i + 1, by omega, by go_num, HN⟩, by simp [intOf]; omega⟩
        · have hok : ok = false := by
            rw [hOk2.out]
            cases A with
            | nil => exact absurd HTt.out.symm ht0
            | cons a b => rfl
          have hd0 : ((t : Int) == 0) = false := by simp [ht0]
          clear ht0
          go_region_held3 (fun W => W.cell? ⟨w.heap.size, 0, none⟩ = some (.slice (some ⟨g1, o1, none⟩) m cap) ∧ W.cell? ⟨qb, 0, none⟩ = some (.slice a5 nz c5) ∧ W.cell? ⟨g1, o1 + i, none⟩ = some (.slice a2 r c2)) (go_keep) (first | (go_at_call 52; refine (HZ.out _ (Below.refl _ _).drew).mono ?_; rintro e w' ⟨g9, c9, rfl, hb9⟩; obtain ⟨x0, x1, x2⟩ := HK.out _ ((Below.refl _ w6).drew.trans hb9); have S9 := Lib.hid (S6.out.below ((Below.refl _ w6).drew.trans hb9)); clear hb9))
          have HN : Hid (AlwS w w' (.slice (some ⟨g1, o1, none⟩) m cap) _ (alwL f p x Y (i + 1))) := Lib.hid (by rw [HLn.out hok]; exact S9.out)
          clear x1 x2
          go_wp2_with fail
          exact ⟨⟨i + 1, by omega, by go_num, HN⟩, by simp [intOf]; omega⟩
    · obtain rfl : i = m := by omega
      have HN := Lib.hid (HS.out.ret true)
      rw [← HE.out] at HN
      go_wp2_with fail
      go_ret2
      exact HN.out

instance : Inhabited Fnd := ⟨(0, 0, 0)⟩
/-- A finding's cells. -/
def encF (x : Fnd) : List Value := [.int .i64 x.1, .int .i64 x.2.1, .int .i64 x.2.2]
/-- Whether two findings are the same. -/
def sameF (x y : Fnd) : Bool := x.1 == y.1 && (x.2.1 == y.2.1 && x.2.2 == y.2.2)
theorem sameF_iff (x y : Fnd) : sameF x y = true ↔ x = y := by
  obtain ⟨a, b, c⟩ := x
  obtain ⟨d, e, f⟩ := y
  simp [sameF]
theorem guardF : Try.prog.eqGuardType Try.prog.depth 70 = false := by kernel_rfl
theorem eqIn_fnd (x y : Fnd) (w : World) : (Op.equalIn 10000 70 (.agg (encF x).toArray) (.agg (encF y).toArray)).run Try.prog w = .ok (sameF x y) w := by
  have u3 := Try.underlying3
  have hS : Try.prog.underlying 70 = some (.struct (Try.prog.fieldsOf 70)) := by kernel_rfl
  have hp : Try.prog.stoodInHeld 70 = false := by kernel_rfl
  obtain ⟨xa, xb, xc⟩ := x
  obtain ⟨ya, yb, yc⟩ := y
  simp only [encF, sameF]
  rw [show (10000 : Nat) = 9999 + 1 from rfl, run_equalIn_agg w 9999 70 _ _ hS hp]
  simp only [Program.fieldsOf, Try.underlying70]
  go_simp
  by_cases h1 : xa = ya <;> by_cases h2 : xb = yb <;> by_cases h3 : xc = yc <;> simp [h1, h2, h3]
theorem neqF : NeqAt Try.prog 70 (fun x => .agg (encF x).toArray) sameF := by
  refine ⟨fun x y w => ?_, GuardAt.agg (fun x => (encF x).toArray) guardF⟩
  have := eqIn_fnd x y w
  simp only [binOp, encF] at *
  rw [show (10000 : Nat) = Op.maxDepth from rfl] at this
  simp [Op.equal, this]
theorem allEq_is (xs ys : List Fnd) : Lib.allEq sameF xs ys = decide (xs = ys) := by
  induction xs generalizing ys with
  | nil => cases ys <;> simp [Lib.allEq]
  | cons x xs ih =>
    cases ys with
    | nil => simp [Lib.allEq]
    | cons y ys =>
      rw [Lib.allEq, ih]
      by_cases h : x = y
      · rw [(sameF_iff x y).2 h]; simp [h]
      · have : sameF x y = false := by
          cases e : sameF x y with
          | false => rfl
          | true => exact absurd ((sameF_iff x y).1 e) h
        rw [this]; simp [h]
theorem encF_cells {w : World} {g n c : Nat} {S : List Fnd} (h : FL w (.slice (some ⟨g, 0, none⟩) n c) S) : ∀ j, j < S.length → ∀ i v, (encF S[j]!)[i]? = some v → w.cell? ⟨g, 0 + j * 3 + i, none⟩ = some v := by
  intro j hj i v hi
  obtain ⟨a', c', e, h⟩ := h
  injection e with e1 e2 e3
  subst e1
  obtain ⟨g', o', e', -, hh⟩ := h (by omega)
  injection e' with e'
  injection e' with e1' e2' e3'
  subst e1' e2'
  have hs : S[j]? = some S[j]! := by rw [List.getElem?_eq_getElem hj, getElem!_pos S j hj]
  obtain ⟨k0, k1, k2⟩ := hh j _ hs
  match i, hi with
  | 0, hi => cases hi; simpa using k0
  | 1, hi => cases hi; simpa using k1
  | 2, hi => cases hi; simpa using k2
  | i + 3, hi => simp [encF] at hi
theorem eqFn_any (g1 c1 g2 c2 : Nat) (S T : List Fnd) (hS : S.length ≤ 1048576) (hT : T.length ≤ 1048576) (w : World) (h1 : FL w (.slice (some ⟨g1, 0, none⟩) S.length c1) S) (h2 : FL w (.slice (some ⟨g2, 0, none⟩) T.length c2) T) :
    Calls Try.prog 55 #[.slice (some ⟨g1, 0, none⟩) S.length c1, .slice (some ⟨g2, 0, none⟩) T.length c2] w (BoolP w (decide (S = T))) := by
  have := AnyQ.slices_Equal Try.laysEqF 3 Try.isAgg70 Try.sizeOf70 encF (fun _ => rfl) sameF neqF g1 0 S.length c1 g2 0 T.length c2 S T w (Nat.le_refl _) (Nat.le_refl _) (by omega) (by omega) (encF_cells h1) (encF_cells h2)
  refine this.mono ?_
  rintro e w' ⟨rfl, q, rfl⟩
  refine ⟨?_, below_drewN (Below.refl _ _) _⟩
  rw [List.take_length, List.take_length, allEq_is]

theorem alwR_le (n : Nat) (f : Nat → C.Cont) (Y : List (List Int)) (p x : Int) : (alwR n f Y p x).length ≤ 1048576 := by
  cases h : askA n f Y p x with
  | false => rw [alwR_no h]; exact Nat.zero_le _
  | true =>
    rw [alwR_yes h]
    have := alwL_len f p x Y Y.length
    have := (goodY_iff.1 (stF_iff.1 (askF_iff.1 (askA_iff.1 h).1).1).1).2.1
    omega
/-- A list of findings stays while a list of ints grows. -/
theorem fnds_apart {w w' : World} {B B' m t : Nat} {u v : Value} {xs ys : List Value} (h : w.ownsRow B 70 3 u t xs) (hv : w.ownsRow B' 3 1 v m ys) (hg : w.grownBy w' v.ownBlock) : w'.ownsRow B 70 3 u t xs := by
  refine h.kept hg ?_
  cases hu : u.ownBlock with
  | none => exact .inl rfl
  | some b =>
    refine .inr fun e => ?_
    rcases h.2 with ⟨rfl, _⟩ | ⟨g, cap, cur, rfl, _, hb, _⟩
    · simp [Value.ownBlock] at hu
    · have e1 : g = b := by simpa [Value.ownBlock] using hu
      subst e1
      exact row_ne hv hb (by decide) e.symm
/-- While impl collects allowed stacks: besides, the findings before. -/
def AlwI (w wr : World) (y v : Value) (L : List Int) (B : Nat) (vb : Value) (S : List Fnd) : Prop := AlwS w wr y v L ∧ wr.ownsRow B 70 3 vb S.length (flatF S)
theorem AlwI.below {w wr w' : World} {y v vb : Value} {L : List Int} {B : Nat} {S : List Fnd} (h : AlwI w wr y v L B vb S) (hb : Below wr.heap.size wr w') : AlwI w w' y v L B vb S := ⟨h.1.below hb, row_below h.2 hb⟩
theorem AlwI.push {w wr w4 : World} {y v v' vb : Value} {L : List Int} {B : Nat} {S : List Fnd} {x : Int} (o : Obj) (h : AlwI w wr y v L B vb S) (ho : w4.ownsRow (w.heap.size + 1) 3 1 v' (L.length + 1) (intV L ++ [.int .i64 x])) (hg : (wr.alloc o).grownBy w4 v.ownBlock) : AlwI w w4 y v' (L ++ [x]) B vb S :=
  ⟨h.1.push o ho hg, fnds_apart (row_below h.2 (below_one wr o)) (row_below h.1.2.2.1 (below_one wr o)) hg⟩

set_option maxRecDepth 100000 in
set_option maxHeartbeats 8000000 in
theorem implAlw_any (v : Value) (Y : List (List Int)) (g n : Nat) (f : Nat → C.Cont) (p x : Int) (h1 : Y.length ≤ 1048576) (h2 : tot Y ≤ 1048576) (hn : n ≤ 1048576) (hid : ∀ j, j < n → (f j).id.size ≤ 1048576) (w : World) (h : YdR w v Y) (hc : C.CAt w g 0 n f) :
    Calls Try.prog 25 #[v, .slice (some ⟨g, 0, none⟩) n n, .int .i64 p, .int .i64 x] w (RetL w (alwR n f Y p x) (askA n f Y p x)) := by
  obtain ⟨f3, hi3, hz0, hz1, hz2⟩ := info_is info3
  obtain ⟨v0, rfl, hv⟩ := h
  obtain ⟨a, cap, rfl⟩ := hv.form
  have HA : Hid (∀ W, Below w.heap.size w W → Calls Try.prog 14 #[.agg #[.slice a Y.length cap], .slice (some ⟨g, 0, none⟩) n n, .int .i64 p] W (RetG W (finR n f Y p) (askF n f Y p))) := Lib.hid fun W hb => implFnd_at _ Y g n f p h1 h2 hn hid W ⟨_, rfl, hv.below hb⟩ (hc.below hb)
  have HPl : Hid (∀ W, Below w.heap.size w W → Calls Try.prog 53 #[.agg #[.slice a Y.length cap], .int .i64 x] W (RetP W (.tuple #[.int .i64 (plI Y x), .int .i64 (plK Y x), .bool (plB Y x)]))) := Lib.hid fun W hb => implPlace_eq _ Y x h1 h2 W ⟨_, rfl, hv.below hb⟩
  have HQ : Hid (askA n f Y p x = (askF n f Y p && (C.inB 1 (n : Int) x && (placeY Y x).isNone))) := Lib.hid rfl
  have HPB : Hid (askF n f Y p = true → plB Y x = (placeY Y x).isSome) := Lib.hid fun h => by unfold plB; rw [plO_good (stF_iff.1 (askF_iff.1 h).1).1]
  have HR1 : Hid (askA n f Y p x = true → alwR n f Y p x = alwL f p x Y Y.length) := Lib.hid alwR_yes
  have HR0 : Hid (askA n f Y p x = false → alwR n f Y p x = []) := Lib.hid alwR_no
  have HPt : Hid (∀ (i : Nat), ∀ W, Below w.heap.size w W → Calls Try.prog 54 #[.agg #[.slice a Y.length cap], .int .i64 (i : Int), .int .i64 x] W (RetY W (putR Y (i : Int) x) (okP Y (i : Int) x))) := Lib.hid fun i W hb => implPut_any _ Y (i : Int) x h1 h2 W ⟨_, rfl, hv.below hb⟩
  have HFn : Hid (∀ (Z : List (List Int)) u, Z.length ≤ 1048576 → tot Z ≤ 1048576 → ∀ W, YdR W u Z → Below w.heap.size w W → Calls Try.prog 14 #[u, .slice (some ⟨g, 0, none⟩) n n, .int .i64 p] W (RetG W (finR n f Z p) (askF n f Z p))) := Lib.hid fun Z u k1 k2 W hu hb => implFnd_at u Z g n f p k1 k2 hn hid W hu (hc.below hb)
  have HOk : Hid (askA n f Y p x = true → ∀ (i : Nat) l, Y[i]? = some l → okP Y (i : Int) x = decide (l.length < 4)) := Lib.hid fun h i l hl => alw_put h hl
  have HPR : Hid (askA n f Y p x = true → ∀ (i : Nat) l, Y[i]? = some l → l.length < 4 → putR Y (i : Int) x = putY Y i x ∧ askF n f (putY Y i x) p = true ∧ decide (finR n f Y p = finR n f (putY Y i x) p) = okA f p x l i) := Lib.hid fun h i l hl h4 => ⟨alw_putR h hl h4, alw_ask h hl h4, alw_eq h hl h4⟩
  have HSm := Lib.hid (fun (i : Nat) => putR_small Y (i : Int) x)
  have HFl := Lib.hid (fun Z => finR_len n f Z p)
  have hS := finR_len n f Y p
  have S0 := Lib.hid (AlwS.start w (.slice a Y.length cap))
  have hz := AlwS.start w (.slice a Y.length cap)
  have c0 := cell_of (i := 0) hz.2.1 rfl
  clear hv hc hid h2 hz
  generalize hm : Y.length = m at *
  have HM := Lib.hid hm
  clear hm
  generalize alwR n f Y p x = R at *
  obtain ⟨q, hq⟩ : ∃ q, askA n f Y p x = q := ⟨_, rfl⟩
  rw [hq] at HQ HR1 HR0 HOk HPR ⊢
  clear hq
  generalize hSe : finR n f Y p = S at *
  have HSe := Lib.hid hSe
  clear hSe
  obtain ⟨af, haf⟩ : ∃ b, askF n f Y p = b := ⟨_, rfl⟩
  rw [haf] at HA HQ HPB
  clear haf
  go_enter Try.func25, Try.ntmps25
  go_wp2_with fail
  generalize (w.alloc (.cells #[.slice a m cap] 31)).alloc (.cells #[] 3) = w0 at *
  refine (HA.out _ S0.out.1).mono ?_
  rintro e w1 ⟨gb, cb, rfl, hfo, hb⟩
  have I1 : Hid (AlwI w w1 (.slice a m cap) (.slice (some ⟨w.heap.size + 1, 0, none⟩) 0 0) [] w0.heap.size (.slice (some ⟨gb, 0, none⟩) S.length cb) S) := Lib.hid ⟨S0.out.below hb, hfo.2.1⟩
  clear hb hfo c0
  have c0 := cell_of (i := 0) I1.out.1.2.1 rfl
  generalize w0.heap.size = Bf at *
  go_wp2_with fail
  refine (HPl.out _ I1.out.1.1).mono ?_
  rintro e w2 ⟨rfl, hb⟩
  have I2 := Lib.hid (I1.out.below hb)
  clear hb c0
  have c0 := cell_of (i := 0) I2.out.1.2.1 rfl
  have hbad : Hid (q = false → RetL w R false (.returned (.tuple #[.slice (some ⟨w.heap.size + 1, 0, none⟩) 0 0, .bool false])) w2) := Lib.hid fun e => by
    rw [HR0.out e]; exact I2.out.1.ret false
  generalize plI Y x = pi at *
  generalize plK Y x = pk at *
  generalize hls : S.length = ls at *
  have HLs := Lib.hid hls
  clear hls
  cases af with
  | false =>
    have hq : q = false := by rw [HQ.out]; rfl
    have HB := Lib.hid (hbad.out hq)
    subst hq
    clear hbad
    go_wp2_with fail
    go_ret2
    exact HB.out
  | true =>
  have HPB2 := Lib.hid (HPB.out rfl)
  clear HPB
  cases hpb : plB Y x with
  | true =>
    have hq : q = false := by
      rw [HQ.out]
      have := HPB2.out
      rw [hpb] at this
      cases hpl : placeY Y x with
      | none => rw [hpl] at this; cases this
      | some z => simp
    have HB := Lib.hid (hbad.out hq)
    subst hq
    clear hbad hpb
    go_wp2_with fail
    go_ret2
    exact HB.out
  | false =>
  have hpn : Hid ((placeY Y x).isNone = true) := Lib.hid (by
    have := HPB2.out
    rw [hpb] at this
    cases hpl : placeY Y x with
    | none => rfl
    | some z => rw [hpl] at this; cases this)
  by_cases hx1 : x < 1
  · have hq : q = false := by rw [HQ.out]; simp [C.inB]; omega
    have HB := Lib.hid (hbad.out hq)
    subst hq
    clear hbad hpb
    go_wp2_with fail
    go_ret2
    exact HB.out
  by_cases hxn : (n : Int) < x
  · have hq : q = false := by rw [HQ.out]; simp [C.inB]; omega
    have HB := Lib.hid (hbad.out hq)
    subst hq
    have hd : decide (x < 1) = false := by simp; omega
    clear hbad hpb hx1
    go_wp2_with fail
    go_ret2
    exact HB.out
  have hq : q = true := by rw [HQ.out, hpn.out]; simp [C.inB]; omega
  subst hq
  have hd1 : decide (x < 1) = false := by simp; omega
  have hd2 : decide ((n : Int) < x) = false := by simp; omega
  have HE := Lib.hid (HR1.out rfl)
  have HOk2 := Lib.hid (HOk.out rfl)
  have HPR2 := Lib.hid (HPR.out rfl)
  clear hbad hpb hpn HQ HR1 HR0 HOk HPR HPB2 hx1 hxn HA HPl
  go_wp2_with fail
  clear c0 hd1 hd2
  go_loopw [10, 54] (fun u i wr => ∃ k : Nat, k ≤ m ∧ i = .int .i64 k ∧ Hid (AlwI w wr (.slice a m cap) u (alwL f p x Y k) Bf (.slice (some ⟨gb, 0, none⟩) ls cb) S)) (fun _ i _ => m - (intOf i).toNat)
  case atStart => exact ⟨0, Nat.zero_le _, rfl, I2⟩
  case round =>
    obtain ⟨i, hi, rfl, HS⟩ := hrel
    have c0 := cell_of (i := 0) HS.out.1.2.1 rfl
    by_cases hlt : i < m
    · obtain ⟨l, hl⟩ := get_at HM.out hlt
      have HOi := Lib.hid (HOk2.out i l hl)
      have HPi := Lib.hid (HPt.out i)
      have HSi := Lib.hid (HSm.out i)
      have HPRi := Lib.hid (HPR2.out i l hl)
      have HLy := Lib.hid (fun (h : okA f p x l i = true) => alwL_yes hl h)
      have HLn := Lib.hid (fun (h : okA f p x l i = false) => alwL_no hl h)
      have HLo := Lib.hid (fun (h : ¬ l.length < 4) => show okA f p x l i = false by simp [okA, h])
      have hlen := alwL_len f p x Y i
      generalize hok : okA f p x l i = ok at *
      have HOkk := Lib.hid hok
      clear hok hl
      generalize alwL f p x Y i = L0 at *
      generalize putR Y (i : Int) x = Z at *
      have hiI : (i : Int) < (m : Int) := by omega
      obtain ⟨okp, hokp⟩ : ∃ b, okP Y (i : Int) x = b := ⟨_, rfl⟩
      rw [hokp] at HPi HOi
      clear hokp
      go_wp2_with fail
      refine (HPi.out _ HS.out.1.1).mono ?_
      rintro e w5 ⟨a5, c5, rfl, hoy, hb⟩
      have hb6 := below_one w5 (.cells #[.slice a5 Z.length c5] 31)
      have I6 := Lib.hid ((HS.out.below hb).below hb6)
      have HY6 := Lib.hid (hoy.below hb6).yl
      have BN := Lib.hid (Box1.new w5 (.slice a5 Z.length c5) 31)
      clear hb hb6 hoy c0
      generalize hnz : Z.length = nz at *
      have HNz := Lib.hid hnz
      clear hnz
      cases okp with
      | false =>
        have hok : ok = false := HLo.out (fun h4 => by have := HOi.out; simp [h4] at this)
        have HN : Hid (AlwI w (w5.alloc (.cells #[.slice a5 nz c5] 31)) (.slice a m cap) _ (alwL f p x Y (i + 1)) Bf (.slice (some ⟨gb, 0, none⟩) ls cb) S) := Lib.hid (by rw [HLn.out hok]; exact I6.out)
        go_wp2_with fail
        exact ⟨⟨i + 1, by omega, by go_num, HN⟩, by simp [intOf]; omega⟩
      | true =>
        have h4 : l.length < 4 := by have := HOi.out; simpa using this.symm
        obtain ⟨k1, k2, k3⟩ := HPRi.out h4
        rw [← k1] at k2 k3
        have HF6 : Hid (∀ W, Below (w5.alloc (.cells #[.slice a5 nz c5] 31)).heap.size (w5.alloc (.cells #[.slice a5 nz c5] 31)) W → Calls Try.prog 14 #[.agg #[.slice a5 nz c5], .slice (some ⟨g, 0, none⟩) n n, .int .i64 p] W (RetG W (finR n f Z p) true)) := Lib.hid fun W hW => by
          have := HFn.out Z (.agg #[.slice a5 nz c5]) (by have := HSi.out.1; have := HNz.out; omega) HSi.out.2 W ⟨_, rfl, HY6.out.below hW⟩ ((I6.out.below hW).1.1)
          rw [k2] at this
          exact this
        have hT := HFl.out Z
        generalize finR n f Z p = T at *
        have HD : Hid (decide (S = T) = ok) := Lib.hid k3
        clear k1 k2 k3 h4
        go_upto_region 11 with fail
        generalize w5.alloc (.cells #[.slice a5 nz c5] 31) = w6 at *
        generalize w5.heap.size = qb at *
        have cN := BN.out.2
        go_wp2_with fail
        refine (HF6.out _ (Below.refl _ _)).mono ?_
        rintro e w7 ⟨gt, ct, rfl, hft, hb⟩
        have I7 := Lib.hid (I6.out.below hb)
        have HEq : Hid (Calls Try.prog 55 #[.slice (some ⟨gb, 0, none⟩) ls cb, .slice (some ⟨gt, 0, none⟩) T.length ct] w7 (BoolP w7 ok)) := Lib.hid (by
          have h1 := I7.out.2
          rw [← HLs.out] at h1 ⊢
          rw [← HD.out]
          exact eqFn_any gb cb gt ct S T (by have := HLs.out; omega) (by omega) w7 (fl_of_owns h1) hft.read)
        clear hb hft cN
        generalize T.length = lt at *
        go_wp2_with fail
        refine HEq.out.mono ?_
        rintro e w8 ⟨rfl, hb⟩
        have I8 := Lib.hid (I7.out.below hb)
        clear hb
        cases ok with
        | false =>
          have HN : Hid (AlwI w w8 (.slice a m cap) _ (alwL f p x Y (i + 1)) Bf (.slice (some ⟨gb, 0, none⟩) ls cb) S) := Lib.hid (by rw [HLn.out (by first | rfl | trivial)]; exact I8.out)
          go_wp2_with fail
          exact ⟨⟨i + 1, by omega, by go_num, HN⟩, by simp [intOf]; omega⟩
        | true =>
          have hrow := I8.out.1.2.2.1
          have hsz := I8.out.1.2.2.2
          obtain ⟨a9, k9, rfl⟩ := own_form hrow
          go_wp2_with (at_builtin; refine wpList_append_own _ rfl _ _ 44 rfl (w.heap.size + 1) 3 f3 (.int .i64 0) 1 8 Try.underlying44 hi3 hz0 hz1 hz2 rfl (by decide) _ _ _ rfl (hrow.alloc _) ⟨w8.heap.size, 0, none⟩ 1 1 [.int .i64 (i : Int)] rfl rfl (cell_one_new _ _ _) (by simp [Value.oneCell']) (by unfold maxLen; omega) (by omega) (by simp; omega) ?_; intro v' w4 hown' hgrow hnil)
          have HN : Hid (AlwI w w4 (.slice a m cap) v' (alwL f p x Y (i + 1)) Bf (.slice (some ⟨gb, 0, none⟩) ls cb) S) := Lib.hid (by rw [HLy.out (by first | rfl | trivial)]; exact I8.out.push _ hown' hgrow)
          clear hown' hgrow hnil hrow hsz
          exact ⟨⟨i + 1, by omega, by go_num, HN⟩, by simp [intOf]; omega⟩
    · obtain rfl : i = m := by omega
      have HN := Lib.hid (HS.out.1.ret true)
      rw [← HE.out] at HN
      go_wp2_with fail
      go_ret2
      exact HN.out
end Go.Proofs.Ytonploneihnekaa
