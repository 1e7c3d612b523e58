/-
  What impl.eachOrder does with the visit of LightestForce. No statement of the seat by itself.
-/
import Derived.Test.YtalobfpmmembiaaMLa
import Derived.Test.YtalobfpmmembiaaMLc
import Derived.Test.YtalobfpmmembiaaMLd
import Derived.Test.YtalobfpmmembiaaBadP
import Derived.Deep.RegionHeldLaw
namespace Go.Proofs.Ytalobfpmmembiaa
open Go.RowKit

theorem putb {w : World} {b : Nat} {u : Value} {t : TypeId} (h : w.heap[b]? = some (.cells #[u] t (0, 0))) (x : Value) : (w.setCell ⟨b, 0, none⟩ x).heap[b]? = some (.cells #[x] t (0, 0)) := by
  have hb := (Array.getElem?_eq_some_iff.1 h).1
  have hb' := (Array.getElem?_eq_some_iff.1 h).2
  simp [World.setCell, hb, hb', Array.getElem_modify, Array.setIfInBounds]
theorem puto {w : World} {b i k : Nat} (x : Value) (h : k ≠ b) : (w.setCell ⟨b, i, none⟩ x).heap[k]? = w.heap[k]? := Below.heap_setCell _ _ _ _ h
theorem fsm_facts {P : List Int} {a b c : Int} (h : goodC P a b c = true) : (∀ x ∈ frcs b P P.length, 0 ≤ x ∧ x ≤ 1000000000) ∧ (frcs b P P.length).length ≤ 8 ∧ 0 ≤ fsm b P ∧ fsm b P ≤ 2048000 := by
  simp only [goodC, Bool.and_eq_true] at h
  have h4 := goodW_len h.1
  obtain ⟨-, hb, -⟩ := okX_iff.1 h.2
  have hx : ∀ x ∈ frcs b P P.length, 0 ≤ x ∧ x ≤ 256000 := fun x hx => by
    obtain ⟨k, hk⟩ := List.getElem?_of_mem hx
    have hl := lt_of_get hk
    rw [frcs_len] at hl
    rw [frcs_get b P _ _ hl] at hk
    cases hk
    have hs := goodW_sum h.1 (by decide) k
    have := frc_bound hb.1 hb.2 hs.1 hs.2
    omega
  have hs := sum_small 256000 8 (frcs b P P.length) (by rw [frcs_len]; omega) (by decide) hx
  exact ⟨fun x h => by have := hx x h; omega, by rw [frcs_len]; omega, hs.1, by unfold fsm; omega⟩

/-- While orders are visited: the rules, the best order so far in one box, its sum in the next. -/
structure LiS (W : World) (B lo Ar : Nat) (a b c : Int) (s : List Int × Int) : Prop where
  rul : BoxR W Ar a b c
  low : Ar < lo ∧ B ≤ lo
  bst : ∃ ub, W.heap[lo]? = some (.cells #[ub] 24 (0, 0)) ∧ W.ownsRow B 3 1 ub s.1.length (intV s.1) ∧ ∀ g, ub.ownBlock = some g → g < lo ∨ lo + 2 ≤ g
  sml : W.heap[lo + 1]? = some (.cells #[.int .i64 s.2] 3 (0, 0))
section
variable {W W' : World} {B lo Ar : Nat} {a b c : Int} {s : List Int × Int}
theorem LiS.size (h : LiS W B lo Ar a b c s) : lo + 2 ≤ W.heap.size := by
  have := (Array.getElem?_eq_some_iff.1 h.sml).1
  omega
theorem LiS.below (h : LiS W B lo Ar a b c s) (hb : Below W.heap.size W W') : LiS W' B lo Ar a b c s := by
  obtain ⟨ub, h1, h2, h3⟩ := h.bst
  have hz := h.size
  exact ⟨h.rul.below hb, h.low, ⟨ub, (hb.block _ (by omega)).trans h1, row_below h2 hb, h3⟩, (hb.block _ (by omega)).trans h.sml⟩
theorem LiS.take {hi : Nat} {v : Value} {P : List Int} (f : Int) (h : LiS W B lo Ar a b c s) (hv : LO W (lo + 2) hi v P) : LiS ((W.setCell ⟨lo, 0, none⟩ v).setCell ⟨lo + 1, 0, none⟩ (.int .i64 f)) B lo Ar a b c (P, f) ∧ Span lo (lo + 2) W ((W.setCell ⟨lo, 0, none⟩ v).setCell ⟨lo + 1, 0, none⟩ (.int .i64 f)) := by
  obtain ⟨ub, h1, h2, h3⟩ := h.bst
  have hS : Span lo (lo + 2) W ((W.setCell ⟨lo, 0, none⟩ v).setCell ⟨lo + 1, 0, none⟩ (.int .i64 f)) := (span_set (b := lo) (i := 0) (Nat.le_refl _) (by omega) v).trans (span_set (b := lo + 1) (i := 0) (by omega) (by omega) (.int .i64 f))
  refine ⟨⟨h.rul.span hS (.inl h.low.1), h.low, ⟨v, ?_, ?_, fun g hg => .inr (row_base hv.2.1 g hg)⟩, ?_⟩, hS⟩
  · rw [puto _ (by omega)]
    exact putb h1 v
  · exact (own_span hv.2.1 hS fun g hg => .inr (row_base hv.2.1 g hg)).mono (by have := h.low; omega)
  · refine putb (u := .int .i64 s.2) ?_ _
    rw [puto _ (by omega)]
    exact h.sml
end

set_option maxRecDepth 100000 in
set_option maxHeartbeats 4000000 in
theorem visit_any (B lo Ar hi : Nat) (a b c : Int) (s : List Int × Int) (v : Value) (P : List Int) (hg : goodC P a b c = true) (w : World) (hS : LiS w B lo Ar a b c s) (hv : LO w (lo + 2) hi v P) :
    Calls Try.prog 60 #[v, .pointer (some ⟨Ar, 0, none⟩), .pointer (some ⟨lo + 1, 0, none⟩), .pointer (some ⟨lo, 0, none⟩)] w fun e w' => e = .returned (.tuple #[]) ∧ LiS w' B lo Ar a b c (stI (fsm b) s P) ∧ Span lo (lo + 2) w w' := by
  obtain ⟨f1, f2, f3, f4⟩ := fsm_facts hg
  have h4 : P.length ≤ 4 := by simp only [goodC, Bool.and_eq_true] at hg; exact goodW_len hg.1
  have HF := Lib.hid (implFo_any v P a b c (by omega) w ⟨_, hv.2.1⟩)
  rw [show foL P a b c = frcs b P P.length by simp [foL, hg]] at HF
  have HT := Lib.hid (fun u W hu => totalOf_any u (frcs b P P.length) f2 f1 W hu)
  rw [show (frcs b P P.length).sum = fsm b P from rfl] at HT
  have HS := Lib.hid hS
  have HV := Lib.hid hv
  obtain ⟨-, c0, c1, c2⟩ := hS.rul
  obtain ⟨p, cap, rfl⟩ := own_form hv.2.1
  have HSt : Hid (stI (fsm b) s P = if fsm b P < s.2 then (P, fsm b P) else s) := Lib.hid rfl
  clear hg f1 f2 hS hv
  generalize frcs b P P.length = F at *
  generalize fsm b P = f at *
  go_enter Try.func60, Try.ntmps60
  go_wp2_with fail
  refine HF.out.mono ?_
  rintro e w1 ⟨a1, k1, rfl, ho, hb⟩
  have HO := Lib.hid ho.read
  have HS1 := Lib.hid (HS.out.below hb)
  have HV1 := Lib.hid (HV.out.below hb)
  have HSp : Hid (Span lo (lo + 2) w w1) := Lib.hid (Span.of_below hb)
  clear ho hb c0 c1 c2
  go_wp2_with fail
  refine (HT.out _ _ HO.out).mono ?_
  rintro e w2 ⟨rfl, rfl⟩
  obtain ⟨ub, j1, -, -⟩ := HS1.out.bst
  have k0 := cell_of (i := 0) j1 rfl
  have k1 := cell_of (i := 0) HS1.out.sml rfl
  have z0 := free_of (i := 0) j1
  have z1 := free_of (i := 0) HS1.out.sml
  clear j1
  by_cases hlt : f < s.2
  · obtain ⟨q1, q2⟩ := HS1.out.take f HV1.out
    have HD : Hid (LiS _ B lo Ar a b c (stI (fun _ => f) s P) ∧ Span lo (lo + 2) w _) := Lib.hid ⟨by rw [show stI (fun _ => f) s P = (P, f) by simp [stI, hlt]]; exact q1, HSp.out.trans q2⟩
    have HE : Hid (stI (fun _ => f) s P = if f < s.2 then (P, f) else s) := Lib.hid rfl
    clear q1 q2
    go_wp2_with fail
    refine bodyPost_end (v := .tuple #[]) (by simp [results, Try.results60, go_sem]) rfl ⟨rfl, ?_, HD.out.2⟩
    rw [HSt.out, ← HE.out]
    exact HD.out.1
  · have HD : Hid (LiS w1 B lo Ar a b c (if f < s.2 then (P, f) else s)) := Lib.hid (by rw [if_neg hlt]; exact HS1.out)
    go_wp2_with fail
    refine bodyPost_end (v := .tuple #[]) (by simp [results, Try.results60, go_sem]) rfl ⟨rfl, ?_, HSp.out⟩
    rw [HSt.out]
    exact HD.out
theorem enters_visit : Enters Try.prog 60 := enters_of Try.func60 (by kernel_rfl) rfl

theorem two_any (W : World) (bq : Nat) (u1 u2 : Value) (l1 l2 : List Int) (hh : W.heap[bq]? = some (.cells #[u1, u2] 24 (0, 0))) (i1 : IL W u1 l1) (i2 : IL W u2 l2) (hl : l1.length + l2.length ≤ 1000) :
    Calls Try.prog 67 #[.slice (some ⟨bq, 0, none⟩) 2 2] W (OneL W (l1 ++ l2)) := by
  have := concatW_any _ [l1, l2] (by simp) (by simp [tot]; omega) W (yl_two hh i1 i2)
  rwa [show ([l1, l2] : List (List Int)).flatten = l1 ++ l2 by simp] at this
theorem old2 (w : World) (o1 o2 : Obj) : ((w.alloc o1).alloc o2).heap[w.heap.size]? = some o1 := (heap_alloc_old _ _ _ (by simp)).trans (heap_alloc_new w o1)
theorem new2 (w : World) (o1 o2 : Obj) : ((w.alloc o1).alloc o2).heap[w.heap.size + 1]? = some o2 := by
  have := heap_alloc_new (w.alloc o1) o2
  rwa [show (w.alloc o1).heap.size = w.heap.size + 1 by simp] at this
theorem lt1 (w : World) (o : Obj) : w.heap.size < (w.alloc o).heap.size := by simp
theorem lt2 (w : World) (o1 o2 : Obj) : w.heap.size < ((w.alloc o1).alloc o2).heap.size := by simp; omega
theorem lt3 (w : World) (o1 o2 : Obj) : w.heap.size + 1 < ((w.alloc o1).alloc o2).heap.size := by simp
theorem lo_from {w : World} {B B' : Nat} {v : Value} {l : List Int} (h : w.ownsRow B 3 1 v l.length (intV l)) (hB : B' ≤ B) : LO w B' w.heap.size v l := ⟨Nat.le_refl _, h.mono hB, fun b hb => row_lt h b hb⟩
/-- One element of a list, through a slice of its own. -/
theorem il_at {w : World} {g n c k c' : Nat} {l : List Int} {x : Int} (h : IL w (.slice (some ⟨g, 0, none⟩) n c) l) (hn : l.length = n) (hx : l[k]? = some x) : IL w (.slice (some ⟨g, k, none⟩) 1 c') [x] := by
  obtain ⟨a', c2, e, h⟩ := h
  injection e with e1 e2 e3
  obtain ⟨g2, off, e4, hg, hc⟩ := h (by have := lt_of_get hx; omega)
  rw [← e1] at e4
  injection e4 with e4
  injection e4 with e5 e6
  subst e5 e6
  refine ⟨some ⟨g, k, none⟩, c', rfl, fun _ => ⟨g, k, rfl, hg, fun j y hy => ?_⟩⟩
  match j, hy with
  | 0, hy =>
    cases hy
    have := hc _ _ hx
    rw [Nat.zero_add] at this
    exact this
  | j + 1, hy => simp at hy

def visF (lo Ar : Nat) : Value := .func (.func 60) #[] #[.pointer (some ⟨Ar, 0, none⟩), .pointer (some ⟨lo + 1, 0, none⟩), .pointer (some ⟨lo, 0, none⟩)]
/-- What eachOrder promises for lists of n weights. -/
def EachN (n : Nat) : Prop := ∀ (B lo Ar h1 h2 : Nat) (a b c : Int) (s : List Int × Int) (v1 v2 : Value) (bl rl : List Int) (w : World), rl.length = n → (∀ P, P.Perm (bl ++ rl) → goodC P a b c = true) →
  LiS w B lo Ar a b c s → LO w (lo + 2) h1 v1 bl → LO w (lo + 2) h2 v2 rl →
  Calls Try.prog 61 #[v1, v2, visF lo Ar] w fun e w' => e = .returned (.tuple #[]) ∧ LiS w' B lo Ar a b c (((eoN n rl).map fun P => bl ++ P).foldl (stI (fsm b)) s) ∧ Span lo (lo + 2) w w'
theorem LO.dry {w : World} {B hi : Nat} {v : Value} {l : List Int} (h : LO w B hi v l) {w' : World} {lo : Nat} (hs : Span lo (lo + 2) w w') (hB : lo + 2 ≤ B) : LO w' B hi v l := h.span hs (.inr hB)

set_option maxRecDepth 100000 in
set_option maxHeartbeats 4000000 in
theorem each_zero : EachN 0 := by
  intro B lo Ar h1 h2 a b c s v1 v2 bl rl w hn hg hS hv hr
  have e : rl = [] := List.eq_nil_of_length_eq_zero hn
  subst e
  rw [show (eoN 0 []).map (fun P => bl ++ P) = [bl] by simp [eoN]]
  have hV := visit_any B lo Ar h1 a b c s v1 bl (hg bl (by simp)) w hS hv
  obtain ⟨p2, c2, rfl⟩ := own_form hr.2.1
  have HV := Lib.hid hV
  rw [show [bl].foldl (stI (fsm b)) s = stI (fsm b) s bl from rfl]
  clear hV hr hv hS hg hn
  unfold visF
  generalize stI (fsm b) s bl = s2 at *
  simp only [List.length_nil]
  go_enter Try.func61, Try.ntmps61
  go_wp2_with fail
  refine HV.out.mono ?_
  rintro e w1 ⟨rfl, q1, q2⟩
  have HD := Lib.hid (And.intro q1 q2)
  clear q1 q2
  go_wp2_with fail
  refine bodyPost_ret (v := .tuple #[]) (by simp [results, Try.results61, go_sem]) rfl ⟨rfl, HD.out.1, HD.out.2⟩

theorem each_fold {n : Nat} {bl rl : List Int} {b : Int} {s : List Int × Int} {k : Nat} {x : Int} (hx : rl[k]? = some x) :
    ((blks (fun i => (eoN n (rl.eraseIdx i)).map fun P => rl.getD i 0 :: P) (k + 1)).map fun P => bl ++ P).foldl (stI (fsm b)) s =
    ((eoN n (rl.eraseIdx k)).map fun P => (bl ++ [x]) ++ P).foldl (stI (fsm b)) (((blks (fun i => (eoN n (rl.eraseIdx i)).map fun P => rl.getD i 0 :: P) k).map fun P => bl ++ P).foldl (stI (fsm b)) s) := by
  rw [blks_succ, List.map_append, List.foldl_append, List.map_map]
  congr 1
  apply List.map_congr_left
  intro P _
  simp [List.getD, hx]

set_option maxRecDepth 100000 in
set_option maxHeartbeats 16000000 in
theorem each_succ (n : Nat) (ih : EachN n) : EachN (n + 1) := by
  intro B lo Ar h1 h2 a b c s v1 v2 bl rl w hn hg hS hv hr
  have IH := Lib.hid ih
  have HG := Lib.hid hg
  have HS0 : Hid (LiS w B lo Ar a b c (((blks (fun i => (eoN n (rl.eraseIdx i)).map fun P => rl.getD i 0 :: P) 0).map fun P => bl ++ P).foldl (stI (fsm b)) s)) := Lib.hid (by simpa [blks] using hS)
  have HV := Lib.hid hv
  have HR := Lib.hid hr
  have HE : Hid (eoN (n + 1) rl = blks (fun i => (eoN n (rl.eraseIdx i)).map fun P => rl.getD i 0 :: P) (n + 1)) := Lib.hid (by rw [eoN, hn]; rfl)
  have HF := Lib.hid (fun k x hx => each_fold (n := n) (bl := bl) (rl := rl) (b := b) (s := s) (k := k) (x := x) hx)
  rw [HE.out]
  have hle : (bl ++ rl).length ≤ 4 := by
    have := hg _ (List.Perm.refl _)
    simp only [goodC, Bool.and_eq_true] at this
    exact goodW_len this.1
  rw [List.length_append, hn] at hle
  obtain ⟨m, hm⟩ : ∃ m, n + 1 = m := ⟨_, rfl⟩
  have HM := Lib.hid hm
  have hm0 : 0 < m := by omega
  have HN : Hid (rl.length = m) := Lib.hid (by rw [hn, hm])
  have hrow := hr.2.1
  rcases hr.2.1.2 with ⟨e, hz⟩ | ⟨gr, cr, cur, rfl, -, -, hcr, -⟩
  · omega
  rw [hm] at hle ⊢
  rw [HN.out] at hcr HR ⊢
  clear hm hn hg hS hv hr ih HE hrow
  generalize hbk : blks (fun i => (eoN n (rl.eraseIdx i)).map fun P => rl.getD i 0 :: P) = bk at *
  obtain ⟨p1, c1, rfl⟩ := own_form HV.out.2.1
  obtain ⟨nb, hnb⟩ : ∃ nb, bl.length = nb := ⟨_, rfl⟩
  have HNB := Lib.hid hnb
  rw [hnb] at HV hle ⊢
  unfold visF
  clear hnb hbk
  have hmz : ((m : Int) == 0) = false := by simp; omega
  go_enter Try.func61, Try.ntmps61
  go_wp2_with fail
  go_loopw [15] (fun ii wr => ∃ i : Nat, i ≤ m ∧ ii = .int .i64 i ∧ Hid (LiS wr B lo Ar a b c (((bk i).map fun P => bl ++ P).foldl (stI (fsm b)) s)) ∧ Hid (Span lo (lo + 2) w wr)) (fun ii _ => m - (intOf ii).toNat)
  case atStart => exact ⟨0, Nat.zero_le _, rfl, HS0, Lib.hid (Span.refl _ _ _)⟩
  case round =>
    obtain ⟨i, hi, rfl, HSi, HSp⟩ := hrel
    rename World => w9
    by_cases hlt : i < m
    · obtain ⟨x, hx⟩ := get_at HN.out hlt
      have HV9 := Lib.hid (HV.out.dry HSp.out (Nat.le_refl _))
      have HR9 := Lib.hid (HR.out.dry HSp.out (Nat.le_refl _))
      have hlo := HSi.out.size
      have il1 := HV9.out.read
      have il2 := HR9.out.read
      have hki : (i : Int) ≤ (m : Int) := by omega
      have hki1 : (i : Int) + 1 ≤ (m : Int) := by omega
      have hkc : (i : Int) + 1 ≤ (cr : Int) := by omega
      have hkz : (0 : Int) ≤ (i : Int) + 1 := by omega
      have hkc2 : (i : Int) ≤ (cr : Int) := by omega
      have hw1 : IntKind.i64.wrap ((i : Int) + 1) = (i : Int) + 1 := wrap_small (by omega) (by omega)
      have hci : ¬ cr = i := by omega
      have HF2 := Lib.hid (HF.out i x hx)
      have HL1 : Hid ((rl.eraseIdx i).length = n) := Lib.hid (by rw [List.length_eraseIdx, if_pos (by rw [HN.out]; exact hlt), HN.out]; have := HM.out; omega)
      have HG2 : Hid (∀ P, P.Perm ((bl ++ [x]) ++ rl.eraseIdx i) → goodC P a b c = true) := Lib.hid fun P hP => HG.out P (by
        refine hP.trans ?_
        rw [List.append_assoc]
        refine List.Perm.append_left bl ?_
        have hil : i < rl.length := by rw [HN.out]; exact hlt
        have := erase_perm rl i hil
        rw [List.getElem?_eq_getElem hil] at hx
        rw [Option.some.inj hx] at this
        exact this)
      obtain ⟨av, hav⟩ : ∃ av : Option Addr, (if cr = i + 1 then some ⟨gr, 0, none⟩ else some ⟨gr, i + 1, none⟩) = av := ⟨_, rfl⟩
      have j2 : IL w9 (.slice (some ⟨gr, i, none⟩) 1 (cr - i)) [x] := il_at il2 HN.out hx
      have j3 : IL w9 (.slice (some ⟨gr, 0, none⟩) i cr) (rl.take i) := il_take il2 HN.out hi
      have HC1 : Hid (∀ (W : World) (bq : Nat), Below w9.heap.size w9 W → W.heap[bq]? = some (.cells #[.slice p1 nb c1, .slice (some ⟨gr, i, none⟩) 1 (cr - i)] 24 (0, 0)) → Calls Try.prog 67 #[.slice (some ⟨bq, 0, none⟩) 2 2] W (OneL W (bl ++ [x]))) := Lib.hid fun W bq hb hh => two_any W bq _ _ bl [x] hh (il1.below hb) (j2.below hb) (by rw [HNB.out]; simp; omega)
      clear j2 hx
      have j4 : IL w9 (.slice av (m - (i + 1)) (cr - (i + 1))) (rl.drop (i + 1)) := by
        by_cases e : m = i + 1
        · rw [show m - (i + 1) = 0 by omega, List.drop_eq_nil_of_le (by rw [HN.out]; omega)]
          exact IL.nil _ _ _
        · rw [← hav, if_neg (by omega)]
          exact il_rest il2 HN.out (by omega)
      have HC2 : Hid (∀ (W : World) (bq : Nat), Below w9.heap.size w9 W → W.heap[bq]? = some (.cells #[.slice (some ⟨gr, 0, none⟩) i cr, .slice av (m - (i + 1)) (cr - (i + 1))] 24 (0, 0)) → Calls Try.prog 67 #[.slice (some ⟨bq, 0, none⟩) 2 2] W (OneL W (rl.eraseIdx i))) := Lib.hid fun W bq hb hh => by
        have := two_any W bq _ _ (rl.take i) (rl.drop (i + 1)) hh (j3.below hb) (j4.below hb) (by rw [List.length_take, List.length_drop, HN.out]; omega)
        rwa [← List.eraseIdx_eq_take_drop_succ] at this
      clear j3 j4
      go_wp2_with fail
      go_region_law (first | (go_simp; go_at_call 67; refine (HC1.out _ _ (by first | exact drewB (below_one w9 _) | exact drewB (below_two w9 _ _) | exact BB34.alloc BB34.size _ | exact BB34) (by first | exact heap_alloc_new w9 _ | exact old2 w9 _ _ | exact new2 w9 _ _ | exact heap_alloc_new w34 _ | exact (hb34.block _ (lt1 w9 _)).trans (heap_alloc_new w9 _) | exact (hb34.block _ (lt2 w9 _ _)).trans (old2 w9 _ _) | exact (hb34.block _ (lt3 w9 _ _)).trans (new2 w9 _ _))).mono ?_; rintro e w25 ⟨v25, rfl, ho25, hb25⟩; have BB25 : Below w9.heap.size w9 w25 := (by first | exact (drewB (below_one w9 _)).trans (hb25.mono (drewB (below_one w9 _)).size) | exact (drewB (below_two w9 _ _)).trans (hb25.mono (drewB (below_two w9 _ _)).size) | exact (BB34.alloc BB34.size _).trans (hb25.mono (BB34.alloc BB34.size _).size) | exact BB34.trans (hb25.mono BB34.size)); have L25 := Lib.hid (lo_from ho25 (Nat.le_trans hlo (by first | exact (drewB (below_one w9 _)).size | exact (drewB (below_two w9 _ _)).size | exact (BB34.alloc BB34.size _).size | exact BB34.size))); try (first | have L34 := Lib.hid (L34.out.below hb25) | have L34 := Lib.hid ((L34.out.below (below_one w34 _)).below hb25))) | (go_simp; go_at_call 67; refine (HC2.out _ _ (by first | exact drewB (below_one w9 _) | exact drewB (below_two w9 _ _) | exact BB25.alloc BB25.size _ | exact BB25) (by first | exact heap_alloc_new w9 _ | exact old2 w9 _ _ | exact new2 w9 _ _ | exact heap_alloc_new w25 _ | exact (hb25.block _ (lt1 w9 _)).trans (heap_alloc_new w9 _) | exact (hb25.block _ (lt2 w9 _ _)).trans (old2 w9 _ _) | exact (hb25.block _ (lt3 w9 _ _)).trans (new2 w9 _ _))).mono ?_; rintro e w34 ⟨v34, rfl, ho34, hb34⟩; have BB34 : Below w9.heap.size w9 w34 := (by first | exact (drewB (below_one w9 _)).trans (hb34.mono (drewB (below_one w9 _)).size) | exact (drewB (below_two w9 _ _)).trans (hb34.mono (drewB (below_two w9 _ _)).size) | exact (BB25.alloc BB25.size _).trans (hb34.mono (BB25.alloc BB25.size _).size) | exact BB25.trans (hb34.mono BB25.size)); have L34 := Lib.hid (lo_from ho34 (Nat.le_trans hlo (by first | exact (drewB (below_one w9 _)).size | exact (drewB (below_two w9 _ _)).size | exact (BB25.alloc BB25.size _).size | exact BB25.size))); try (first | have L25 := Lib.hid (L25.out.below hb34) | have L25 := Lib.hid ((L25.out.below (below_one w25 _)).below hb34))) | (go_simp; go_at_call 61; refine (IH.out B lo Ar _ _ a b c _ _ _ (bl ++ [x]) (rl.eraseIdx i) _ HL1.out HG2.out (by first | exact HSi.out.below BB34 | exact HSi.out.below BB25) L25.out L34.out).mono ?_; rintro e w61 ⟨rfl, hS61, hp61⟩; have SP61 : Span lo (lo + 2) w w61 := (by first | exact (HSp.out.trans (Span.of_below BB34)).trans hp61 | exact (HSp.out.trans (Span.of_below BB25)).trans hp61)) | fail)
      all_goals
        have HSx : Hid (LiS w61 B lo Ar a b c (((bk (i + 1)).map fun P => bl ++ P).foldl (stI (fsm b)) s)) := Lib.hid (by rw [HF2.out]; exact hS61)
        have HSy := Lib.hid SP61
        clear hS61 SP61
        go_wp2_with fail
        exact ⟨⟨i + 1, by omega, by go_num, HSx, HSy⟩, by simp [intOf]; omega⟩
    · obtain rfl : i = m := by omega
      have HD := Lib.hid (And.intro HSi.out HSp.out)
      go_wp2_with fail
      refine bodyPost_end (v := .tuple #[]) (by simp [results, Try.results61, go_sem]) rfl ⟨rfl, HD.out.1, HD.out.2⟩
end Go.Proofs.Ytalobfpmmembiaa
