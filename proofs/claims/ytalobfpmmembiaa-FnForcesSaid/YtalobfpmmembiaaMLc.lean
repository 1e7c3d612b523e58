/-
  What the two LashingsNeeded return. No statement of the seat by itself.
-/
import Derived.Test.YtalobfpmmembiaaKeep
import Derived.Test.YtalobfpmmembiaaRet
import Derived.Test.YtalobfpmmembiaaHeights
import Derived.Test.YtalobfpmmembiaaLawP
import Derived.Test.YtalobfpmmembiaaMLb
import Derived.Test.YtalobfpmmembiaaPutM
import Derived.Deep.RegionLaw
namespace Go.Proofs.Ytalobfpmmembiaa
open Go.RowKit

/-- A box of three ints. -/
def BoxR (W : World) (A : Nat) (a b c : Int) : Prop := A < W.heap.size ∧ W.cell? ⟨A, 0, none⟩ = some (.int .i64 a) ∧ W.cell? ⟨A, 1, none⟩ = some (.int .i64 b) ∧ W.cell? ⟨A, 2, none⟩ = some (.int .i64 c)
theorem BoxR.below {W W' : World} {A : Nat} {a b c : Int} (h : BoxR W A a b c) (hb : Below W.heap.size W W') : BoxR W' A a b c :=
  ⟨Nat.lt_of_lt_of_le h.1 hb.size, (hb.cell (p := ⟨A, 0, none⟩) h.1).trans h.2.1, (hb.cell (p := ⟨A, 1, none⟩) h.1).trans h.2.2.1, (hb.cell (p := ⟨A, 2, none⟩) h.1).trans h.2.2.2⟩
theorem BoxR.span {W W' : World} {A lo hi : Nat} {a b c : Int} (h : BoxR W A a b c) (hs : Span lo hi W W') (ho : A < lo ∨ hi ≤ A) : BoxR W' A a b c :=
  ⟨Nat.lt_of_lt_of_le h.1 hs.size, (World.cell?_of_block (a := ⟨A, 0, none⟩) (hs.block A h.1 ho)).trans h.2.1, (World.cell?_of_block (a := ⟨A, 1, none⟩) (hs.block A h.1 ho)).trans h.2.2.1, (World.cell?_of_block (a := ⟨A, 2, none⟩) (hs.block A h.1 ho)).trans h.2.2.2⟩
theorem BoxR.new (W : World) (a b c : Int) (T : TypeId) : BoxR (W.alloc (.cells #[.int .i64 a, .int .i64 b, .int .i64 c] T)) W.heap.size a b c := ⟨by simp, cell_of (heap_alloc_new W _) rfl, cell_of (heap_alloc_new W _) rfl, cell_of (heap_alloc_new W _) rfl⟩
theorem BoxR.drew {W : World} {A : Nat} {a b c : Int} (h : BoxR W A a b c) : BoxR W.drew A a b c := h.below ⟨rfl, rfl, rfl, Nat.le_refl _, fun _ _ => rfl⟩
theorem LO.lower {w : World} {B B' hi : Nat} {v : Value} {l : List Int} (h : LO w B hi v l) (hB : B' ≤ B) : LO w B' hi v l := ⟨h.1, h.2.1.mono hB, h.2.2⟩

set_option maxRecDepth 100000 in
set_option maxHeartbeats 1000000 in
theorem toR_any (x y z : Int) (w : World) : Calls Try.prog 42 #[.agg #[.int .i64 x, .int .i64 y, .int .i64 z]] w fun e w' => e = .returned (.agg #[.int .i64 x, .int .i64 y, .int .i64 z]) ∧ Below w.heap.size w w' := by
  go_enter Try.func42, Try.ntmps42
  go_wp2_with fail
  refine bodyPost_ret (v := .agg #[.int .i64 x, .int .i64 y, .int .i64 z]) ?_ rfl ⟨rfl, (three_alloc w _ _ _).2.2.2.2⟩
  obtain ⟨hk0, hk1, hk2, hs, hB0⟩ := three_alloc w (.cells #[.int .i64 x, .int .i64 y, .int .i64 z] 51) (.cells #[.int .i64 x, .int .i64 y, .int .i64 z] 26) (.cells #[.int .i64 x, .int .i64 y, .int .i64 z] 26)
  have e0 := cell_of hk1 (i := 0) rfl
  have e1 := cell_of hk1 (i := 1) rfl
  have e2 := cell_of hk1 (i := 2) rfl
  clear hk0 hk1 hk2 hs hB0
  generalize ((w.alloc (.cells #[.int .i64 x, .int .i64 y, .int .i64 z] 51)).alloc (.cells #[.int .i64 x, .int .i64 y, .int .i64 z] 26)).alloc (.cells #[.int .i64 x, .int .i64 y, .int .i64 z] 26) = W at *
  simp [results, Try.results42, go_sem, e0, e1, e2]

/-- What stays while a call is made: the law's list and its rules. -/
def KeepR (w : World) (A : Nat) (a b c : Int) (v : Value) (l : List Int) (W : World) : Prop := Below w.heap.size w W ∧ IL w v l ∧ BoxR W A a b c
section
variable {w W W' : World} {A : Nat} {a b c : Int} {v : Value} {l : List Int}
theorem KeepR.start (h1 : IL w v l) (h2 : BoxR w A a b c) : KeepR w A a b c v l w := ⟨Below.refl _ _, h1, h2⟩
theorem KeepR.below (h : KeepR w A a b c v l W) (hb : Below W.heap.size W W') : KeepR w A a b c v l W' := ⟨h.1.trans (hb.mono h.1.size), h.2.1, h.2.2.below hb⟩
theorem KeepR.drew (h : KeepR w A a b c v l W) : KeepR w A a b c v l W.drew := h.below ⟨rfl, rfl, rfl, Nat.le_refl _, fun _ _ => rfl⟩
theorem KeepR.size (h : KeepR w A a b c v l W) : w.heap.size ≤ W.heap.size := h.1.size
theorem KeepR.cells (h : KeepR w A a b c v l W) : W.cell? ⟨A, 0, none⟩ = some (.int .i64 a) ∧ W.cell? ⟨A, 1, none⟩ = some (.int .i64 b) ∧ W.cell? ⟨A, 2, none⟩ = some (.int .i64 c) := h.2.2.2
theorem KeepR.to (hn : l.length ≤ 1048576) (h : KeepR w A a b c v l W) :
    Calls Try.prog 39 #[v] W fun e w' => ∃ u, e = .returned u ∧ OwnI w' u l ∧ w'.cell? ⟨A, 0, none⟩ = some (.int .i64 a) ∧ w'.cell? ⟨A, 1, none⟩ = some (.int .i64 b) ∧ w'.cell? ⟨A, 2, none⟩ = some (.int .i64 c) ∧ KeepR w A a b c v l w' := by
  refine (toI_any v l hn W (h.2.1.below h.1)).mono ?_
  rintro e w' ⟨a', c', rfl, ho, hb⟩
  have hk := h.below hb
  obtain ⟨q0, q1, q2⟩ := hk.cells
  exact ⟨_, rfl, ⟨_, ho⟩, q0, q1, q2, hk⟩
theorem KeepR.rules (h : KeepR w A a b c v l W) :
    Calls Try.prog 42 #[.agg #[.int .i64 a, .int .i64 b, .int .i64 c]] W fun e w' => e = .returned (.agg #[.int .i64 a, .int .i64 b, .int .i64 c]) ∧ Below W.heap.size W w' ∧ w'.cell? ⟨A, 0, none⟩ = some (.int .i64 a) ∧ w'.cell? ⟨A, 1, none⟩ = some (.int .i64 b) ∧ w'.cell? ⟨A, 2, none⟩ = some (.int .i64 c) ∧ KeepR w A a b c v l w' := by
  refine (toR_any a b c W).mono ?_
  rintro e w' ⟨rfl, hb⟩
  have hk := h.below hb
  obtain ⟨q0, q1, q2⟩ := hk.cells
  exact ⟨rfl, hb, q0, q1, q2, hk⟩
end

section
open Go.Joins Go.Deep Go.ChangeShapes Go.WideShapes Go.ChangeAt
variable {H : Type} {enc : TypeId × Value → H} {P : Program} {w : World} {base : Nat} {spare : Nat → Bool} {held : Bool}
/-- A struct of three one-cell fields, by value: its three values, and what each reads as. -/
theorem fieldsR {r : Reach} {b0 : Nat} {t : TypeId} {f0 f1 f2 : Field} {v : Value} {d : DataW H} {p : List MemPlace} (hs : P.underlying t = some (.struct #[f0, f1, f2])) (hone : oneCellFields P #[f0, f1, f2] = true) (hC : P.cellsOf t = 3)
    (hv : Value.okWide P w r b0 t v) (h : DataW.Trod enc P w base spare held t v d p) :
    ∃ (v0 v1 v2 : Value) (y0 y1 y2 : DataW H × List MemPlace) (n : Nat), v = .agg #[v0, v1, v2] ∧ p = y0.2 ++ (y1.2 ++ y2.2) ∧
      DataW.trod enc P w base spare held n f0.type [v0] = some y0 ∧ DataW.trod enc P w base spare held n f1.type [v1] = some y1 ∧ DataW.trod enc P w base spare held n f2.type [v2] = some y2 := by
  obtain ⟨cs, rfl, hsz⟩ := okWide_struct hs hv
  obtain ⟨l⟩ := cs
  have hl : l.length = 3 := hsz.trans hC
  obtain ⟨fuel, hf⟩ := h
  obtain ⟨xs, n, _, he, _, hlen, hg⟩ := DataW.trod_struct hs hf
  have hx : xs.length = 3 := hlen
  have k0 := hone_of hone 0 f0 rfl
  have k1 := hone_of hone 1 f1 rfl
  have k2 := hone_of hone 2 f2 rfl
  match l, hl, xs, hx with
  | [c0, c1, c2], _, [y0, y1, y2], _ =>
    refine ⟨c0, c1, c2, y0, y1, y2, n, rfl, ?_, by simpa [Value.cells, k0] using hg 0 f0 rfl, by simpa [Value.cells, k1] using hg 1 f1 rfl, by simpa [Value.cells, k2] using hg 2 f2 rfl⟩
    simp only [Prod.mk.injEq] at he
    simpa using he.2
end
set_option maxRecDepth 100000 in
open Go.Joins Go.Deep Go.ChangeShapes Go.WideShapes Go.ChangeAt in
/-- The law's rules. -/
theorem open_rules {H : Type} {enc : TypeId × Value → H} {W : World} {r0 : Reach} {b0 : Nat} {v : Value} {d : DataW H} {p : List MemPlace} (hv : Value.okWide Try.prog W r0 b0 51 v) (h : DataW.Trod enc Try.prog W 0 (fun _ => true) true 51 v d p) :
    ∃ (x y z : Int), v = .agg #[.int .i64 x, .int .i64 y, .int .i64 z] := by
  obtain ⟨v0, v1, v2, y0, y1, y2, k, rfl, rfl, t0, t1, t2⟩ := fieldsR Try.underlying51 (by kernel_rfl) (by kernel_rfl) hv h
  obtain ⟨n0, e0, _, _⟩ := DataW.trod_int Try.underlying3 t0
  obtain ⟨n1, e1, _, _⟩ := DataW.trod_int Try.underlying3 t1
  obtain ⟨n2, e2, _, _⟩ := DataW.trod_int Try.underlying3 t2
  simp only [List.cons.injEq, and_true] at e0 e1 e2
  subst e0 e1 e2
  exact ⟨n0, n1, n2, rfl⟩

theorem wrap_small {x : Int} (h0 : 0 ≤ x) (h1 : x ≤ 1000000000000) : IntKind.i64.wrap x = x := by rw [IntKind.wrap_i64]; omega
set_option maxHeartbeats 1000000 in
theorem force_any (a b c s : Int) (hb : 0 ≤ b ∧ b ≤ 100) (hs : 0 ≤ s ∧ s ≤ 256000) (w : World) :
    Calls Try.prog 50 #[.agg #[.int .i64 a, .int .i64 b, .int .i64 c], .int .i64 s] w fun e w' => e = .returned (.int .i64 (frc b s)) ∧ Below w.heap.size w w' := by
  have B0 := Lib.hid (below_one w (.cells #[.int .i64 a, .int .i64 b, .int .i64 c] 26))
  obtain ⟨-, -, p1, p2⟩ := frc_bound hb.1 hb.2 hs.1 hs.2
  have hw := wrap_small p1 (by omega)
  have HQ := Lib.hid (fun W => quot_any (b * s) 100 p1 (by omega) (by decide) (by decide) W)
  have HF : Hid ((b * s + 100 - 1) / 100 = frc b s) := Lib.hid (by unfold frc; rw [show b * s + 100 - 1 = b * s + 99 by omega])
  rw [HF.out] at HQ
  obtain ⟨p, hp⟩ : ∃ p, b * s = p := ⟨_, rfl⟩
  rw [hp] at HQ hw
  have hw2 : IntKind.i64.wrap (b * s) = p := by rw [hp]; exact hw
  generalize frc b s = q at *
  clear hp p1 p2 hw
  go_enter Try.func50, Try.ntmps50
  go_wp2_with fail
  refine (HQ.out _).mono ?_
  rintro e w1 ⟨rfl, rfl⟩
  go_wp2_with fail
  go_ret
  exact ⟨rfl, B0.out⟩

/-- While forces are collected beside a box of rules. -/
def FoS (w wr : World) (a b c : Int) (sv : Value) (S : List Int) : Prop := wr.ownsRow (w.heap.size + 1) 3 1 sv S.length (intV S) ∧ BoxR wr w.heap.size a b c ∧ Below w.heap.size w wr ∧ w.heap.size + 1 ≤ wr.heap.size ∧ sv ≠ .slice none 0 0
section
variable {w wr w' w4 : World} {a b c : Int} {sv v' : Value} {S : List Int}
theorem FoS.below (h : FoS w wr a b c sv S) (hb : Below wr.heap.size wr w') : FoS w w' a b c sv S := ⟨row_below h.1 hb, h.2.1.below hb, h.2.2.1.trans (hb.mono h.2.2.1.size), Nat.le_trans h.2.2.2.1 hb.size, h.2.2.2.2⟩
theorem FoS.drew (h : FoS w wr a b c sv S) : FoS w wr.drew a b c sv S := h.below ⟨rfl, rfl, rfl, Nat.le_refl _, fun _ _ => rfl⟩
theorem FoS.start (w : World) (a b c : Int) : FoS w ((w.alloc (.cells #[.int .i64 a, .int .i64 b, .int .i64 c] 26)).alloc (.cells #[] 3)) a b c (.slice (some ⟨w.heap.size + 1, 0, none⟩) 0 0) [] := by
  have h1 := own_empty (w.alloc (.cells #[.int .i64 a, .int .i64 b, .int .i64 c] 26)) (.cells #[] 3) 3 rfl
  have hs : (w.alloc (.cells #[.int .i64 a, .int .i64 b, .int .i64 c] 26)).heap.size = w.heap.size + 1 := by simp
  rw [hs] at h1
  have hb := below_one (w.alloc (.cells #[.int .i64 a, .int .i64 b, .int .i64 c] 26)) (.cells #[] 3)
  exact ⟨h1, (BoxR.new w a b c 26).below hb, (below_one w _).trans (hb.mono (by simp)), by simp, by simp⟩
theorem FoS.push {x : Int} {o : Obj} (h : FoS w wr a b c sv S) (ho : w4.ownsRow (w.heap.size + 1) 3 1 v' (S.length + 1) (intV S ++ [.int .i64 x])) (hg : (wr.alloc o).grownBy w4 sv.ownBlock) : FoS w w4 a b c v' (S ++ [x]) := by
  have hn : v' ≠ .slice none 0 0 := fun e => by
    subst e
    rcases ho.2 with ⟨_, hz⟩ | ⟨_, _, _, e, _⟩
    · omega
    · cases e
  have hb := below_one wr o
  have hr := h.1
  have hS : Span (w.heap.size + 1) (wr.alloc o).heap.size (wr.alloc o) w4 := Span.of_grown hg fun k hk => ⟨row_base hr k hk, Nat.lt_of_lt_of_le (row_lt hr k hk) hb.size⟩
  refine ⟨by rw [List.length_append, List.length_singleton]; simpa [intV] using ho, (h.2.1.below hb).span hS (.inl (Nat.lt_succ_self _)), ?_, Nat.le_trans (Nat.le_trans h.2.2.2.1 hb.size) hS.size, hn⟩
  exact Below.span (h.2.2.1.trans (hb.mono h.2.2.1.size)) (hS.lift (Nat.le_succ _)) (Nat.le_trans h.2.2.1.size hb.size)
theorem FoS.done (h : FoS w wr a b c sv S) (ok : Bool) : ∃ a' c', sv = .slice a' S.length c' ∧ RetL w S ok (.returned (.tuple #[.slice a' S.length c', .bool ok])) wr := by
  obtain ⟨a', c', rfl⟩ := own_form h.1
  exact ⟨a', c', rfl, retL_of h.1 (Nat.le_succ _) h.2.2.1⟩
end
/-- The rest of an own list. -/
theorem il_rest {w : World} {g n c k c' : Nat} {l : List Int} (h : IL w (.slice (some ⟨g, 0, none⟩) n c) l) (hn : l.length = n) (hk : k < n) : IL w (.slice (some ⟨g, k, none⟩) (n - k) c') (l.drop k) := by
  obtain ⟨a', c2, e, h⟩ := h
  injection e with e1 e2 e3
  obtain ⟨g2, off, e4, hg, hc⟩ := h (by omega)
  rw [← e1] at e4
  injection e4 with e4
  injection e4 with e5 e6
  subst e5 e6
  refine ⟨some ⟨g, k, none⟩, c', by rw [List.length_drop]; congr 1; omega, fun h0 => ⟨g, k, rfl, hg, fun j x hx => ?_⟩⟩
  rw [List.getElem?_drop] at hx
  have := hc _ _ hx
  rwa [Nat.zero_add] at this
theorem OwnI.at {w : World} {v : Value} {l : List Int} (h : OwnI w v l) (h0 : 0 < l.length) : ∃ g c, v = .slice (some ⟨g, 0, none⟩) l.length c ∧ l.length ≤ c ∧ g < w.heap.size := by
  obtain ⟨B, h⟩ := h
  rcases h.2 with ⟨_, hz⟩ | ⟨g, cap, cur, rfl, hg, hb, hnc, _⟩
  · omega
  · exact ⟨g, _, rfl, hnc, (Array.getElem?_eq_some_iff.1 hb).1⟩

set_option maxRecDepth 100000 in
set_option maxHeartbeats 8000000 in
theorem implFo_any (v : Value) (l : List Int) (a b c : Int) (hn : l.length ≤ 2000000) (w : World) (h : OwnI w v l) :
    Calls Try.prog 16 #[v, .agg #[.int .i64 a, .int .i64 b, .int .i64 c]] w (RetL w (foL l a b c) (goodC l a b c)) := by
  obtain ⟨f3, hi3, hz0, hz1, hz2⟩ := info_is info3
  have hS := FoS.start w a b c
  have hB0 := hS.2.2.1
  have HG := Lib.hid (implValidC_any v l hn _ (h.read.below hB0))
  have HF := Lib.hid hS
  obtain ⟨-, c0, c1, c2⟩ := hS.2.1
  have HV := Lib.hid h
  have HA := Lib.hid (fun h0 => h.at h0)
  obtain ⟨p, cap, rfl, hcap⟩ := h.form
  clear h hS hB0
  cases hg : goodW l 4 with
  | false =>
    rw [hg] at HG
    rw [show goodC l a b c = false by simp [goodC, hg], show foL l a b c = [] by simp [foL, goodC, hg]]
    clear hg
    go_enter Try.func16, Try.ntmps16
    go_wp2_with fail
    refine HG.out.mono ?_
    rintro e w1 ⟨rfl, hb⟩
    have HF1 := Lib.hid (HF.out.below hb)
    clear hb c0 c1 c2
    go_wp2_with fail
    go_ret2
    obtain ⟨a', c', e, hr⟩ := HF1.out.done false
    injection e with e1 e2 e3
    subst e1 e3
    exact hr
  | true =>
    rw [hg] at HG
    have HR := Lib.hid (implRules_any a b c)
    cases hx : okX a b c with
    | false =>
      rw [hx] at HR
      rw [show goodC l a b c = false by simp [goodC, hx], show foL l a b c = [] by simp [foL, goodC, hx]]
      clear hg hx
      go_enter Try.func16, Try.ntmps16
      go_wp2_with fail
      refine HG.out.mono ?_
      rintro e w1 ⟨rfl, hb⟩
      have HF1 := Lib.hid (HF.out.below hb)
      clear hb c0 c1 c2
      obtain ⟨-, c0, c1, c2⟩ := HF1.out.2.1
      go_wp2_with fail
      refine (HR.out _).mono ?_
      rintro e w2 ⟨rfl, hb⟩
      have HF2 := Lib.hid (HF1.out.below hb)
      clear hb c0 c1 c2
      go_wp2_with fail
      go_ret2
      obtain ⟨a', c', e, hr⟩ := HF2.out.done false
      injection e with e1 e2 e3
      subst e1 e3
      exact hr
    | true =>
      rw [hx] at HR
      have HGW := Lib.hid hg
      obtain ⟨-, hbb, -⟩ := okX_iff.1 hx
      have HFo := Lib.hid (fun s hs W => force_any a b c s hbb hs W)
      rw [show goodC l a b c = true by simp [goodC, hg, hx], show foL l a b c = frcs b l l.length by simp [foL, goodC, hg, hx]]
      obtain ⟨n, hl⟩ : ∃ n, l.length = n := ⟨_, rfl⟩
      have HN := Lib.hid hl
      have hn4 : n ≤ 4 := by have := goodW_len hg; omega
      rw [hl] at hcap HG HV HA ⊢
      clear hg hx hl hbb hn
      go_enter Try.func16, Try.ntmps16
      go_wp2_with fail
      refine HG.out.mono ?_
      rintro e w1 ⟨rfl, hb⟩
      have HF1 := Lib.hid (HF.out.below hb)
      clear hb c0 c1 c2
      obtain ⟨-, c0, c1, c2⟩ := HF1.out.2.1
      go_wp2_with fail
      refine (HR.out _).mono ?_
      rintro e w2 ⟨rfl, hb⟩
      have HF2 : Hid (FoS w w2 a b c (.slice (some ⟨w.heap.size + 1, 0, none⟩) 0 0) (frcs b l 0)) := Lib.hid (HF1.out.below hb)
      clear hb c0 c1 c2
      go_wp2_with fail
      go_loopw [6, 20] (fun s i wr => ∃ k : Nat, k ≤ n ∧ i = .int .i64 k ∧ Hid (FoS w wr a b c s (frcs b l k))) (fun _ i _ => n - (intOf i).toNat)
      case atStart => exact ⟨0, Nat.zero_le _, rfl, HF2⟩
      case round =>
        obtain ⟨k, hk, rfl, HS⟩ := hrel
        rename World => wr
        by_cases hlt : k < n
        · obtain ⟨g, cp, e, -, hgw⟩ := HA.out (by have := HN.out; omega)
          injection e with e1 e2 e3
          subst e1 e3
          have hck : ¬ cap = k := by omega
          have hki : (k : Int) ≤ (n : Int) := by omega
          have hdl : (l.drop k).length ≤ 8 := by rw [List.length_drop, HN.out]; omega
          have hds : ∀ x ∈ l.drop k, 0 ≤ x ∧ x ≤ 1000000000 := fun x hx => goodW_small HGW.out x (List.mem_of_mem_drop hx)
          have HT := Lib.hid (fun W (hb : Below w.heap.size w W) (o c' : Nat) (ho : o = k) => totalOf_any (.slice (some ⟨g, o, none⟩) (n - k) c') (l.drop k) hdl hds W (by subst ho; exact il_rest (HV.out.read.below hb) HN.out hlt))
          have hsm := goodW_sum HGW.out (by decide) k
          have HFo2 := Lib.hid (fun W => HFo.out _ hsm W)
          have HNx : Hid (frcs b l (k + 1) = frcs b l k ++ [frc b (l.drop k).sum]) := Lib.hid rfl
          have HLn := frcs_len b l k
          have SD := Lib.hid HS.out.drew
          obtain ⟨-, c0, c1, c2⟩ := SD.out.2.1
          clear hdl hds hsm hgw
          generalize frcs b l k = S at *
          generalize (l.drop k).sum = t at *
          go_wp2_with fail
          go_region_law (first | (go_simp; go_at_call 51; refine (HT.out _ SD.out.2.2.1 _ _ (by omega)).mono ?_; rintro e w' ⟨rfl, rfl⟩) | (go_simp; go_at_call 50; refine (HFo2.out _).mono ?_; rintro e w5 ⟨rfl, hb5⟩; have S5 := Lib.hid (SD.out.below hb5); have ro := fun o => row_below S5.out.1 (below_one w5 o); have rz := fun o => Nat.le_trans S5.out.2.2.2.1 (below_one w5 o).size) | (refine step_int_at (by rfl) _ _ (by rfl) (w.heap.size + 1) _ S.length (intV S) (by rfl) (ro _) _ _ _ (by rfl) (cell_val_new _ _ _) (by simp [Value.oneCell']) (by omega) (rz _) ?_; intro v6 w6 ho6 hg6 hat6))
          all_goals
            have HN4 : Hid (FoS w w6 a b c v6 (frcs b l (k + 1))) := Lib.hid (by rw [HNx.out]; exact S5.out.push ho6 hg6)
            clear ho6 hg6 hat6
            go_wp2_with fail
            exact ⟨⟨k + 1, by omega, by go_num, HN4⟩, by simp [intOf]; omega⟩
        · obtain rfl : k = n := by omega
          obtain ⟨a', c', rfl, hr⟩ := HS.out.done true
          have HD := Lib.hid hr
          clear hr
          go_wp2_with fail
          go_ret2
          exact HD.out

set_option maxRecDepth 100000 in
set_option maxHeartbeats 8000000 in
theorem l12Forces_any (v : Value) (l : List Int) (t : Int) (hg : goodW l 8 = true) (ht : 0 ≤ t ∧ t ≤ 100) (w : World) (h : IL w v l) :
    Calls Try.prog 54 #[v, .int .i64 t] w (NewI w (frcs t l l.length)) := by
  obtain ⟨f3, hi3, hz0, hz1, hz2⟩ := info_is info3
  have hl8 := goodW_len hg
  have HV := Lib.hid h
  have HGW := Lib.hid hg
  have R0 : Hid (NumS w (w.alloc (.cells #[] 3)) (.slice (some ⟨w.heap.size, 0, none⟩) 0 0) (frcs t l 0)) := Lib.hid (numS_start w)
  obtain ⟨p, cap, rfl⟩ := h.form
  obtain ⟨n, hl⟩ : ∃ n, l.length = n := ⟨_, rfl⟩
  have HN := Lib.hid hl
  rw [hl] at hl8 HV ⊢
  clear hl h hg
  go_enter Try.func54, Try.ntmps54
  go_wp2_with fail
  go_loopw [5, 6] (fun s i wr => ∃ k : Nat, k ≤ n ∧ i = .int .i64 k ∧ Hid (NumS w wr s (frcs t l k))) (fun _ i _ => n - (intOf i).toNat)
  case atStart => exact ⟨0, Nat.zero_le _, rfl, R0⟩
  case round =>
    obtain ⟨k, hk, rfl, HS⟩ := hrel
    rename World => wr
    by_cases hlt : k < n
    · have HU := Lib.hid (l12Sum_any (.slice p n cap) l k (by rw [HN.out]; exact hl8) (by rw [HN.out]; omega) (goodW_small HGW.out) wr (HV.out.below HS.out.2.1))
      have hsm := goodW_sum HGW.out (Nat.le_refl _) k
      have HNx : Hid (frcs t l (k + 1) = frcs t l k ++ [frc t (l.drop k).sum]) := Lib.hid rfl
      have HLn := frcs_len t l k
      generalize (l.drop k).sum = s at *
      obtain ⟨b1, b2, p1, p2⟩ := frc_bound ht.1 ht.2 hsm.1 hsm.2
      have hw : IntKind.i64.wrap (s * t) = t * s := by rw [Int.mul_comm]; exact wrap_small p1 (by omega)
      have hq : (t * s + 99).tdiv 100 = frc t s := by rw [Int.tdiv_eq_ediv_of_nonneg (by omega)]; rfl
      generalize frc t s = q at *
      obtain ⟨m, hm⟩ : ∃ m, t * s = m := ⟨_, rfl⟩
      rw [hm] at hw hq p1 p2
      have hrow := HS.out.1
      have hz := HS.out.2.1.size
      generalize frcs t l k = S at *
      clear hm hsm
      go_wp2_with fail
      refine HU.out.mono ?_
      rintro e w1 ⟨rfl, rfl⟩
      go_wp2_with (at_builtin; refine wpList_append_own _ rfl _ _ 24 rfl w.heap.size 3 f3 (.int .i64 0) 1 8 Try.underlying24 hi3 hz0 hz1 hz2 rfl (by decide) _ _ _ rfl (hrow.alloc _) ⟨wr.heap.size, 0, none⟩ 1 1 [.int .i64 q] rfl rfl (cell_one_new _ _ _) (by simp [Value.oneCell']) (by unfold maxLen; omega) (by omega) (by simp; omega) ?_; intro v' w4 hown' hgrow hnil)
      have HN4 : Hid (NumS w w4 v' (frcs t l (k + 1))) := Lib.hid (by rw [HNx.out]; exact HS.out.push hown' hgrow (fun e => by have := (hnil.1 e).2; omega))
      clear hown' hgrow hnil hrow
      exact ⟨⟨k + 1, by omega, by go_num, HN4⟩, by simp [intOf]; omega⟩
    · obtain rfl : k = n := by omega
      have HD := Lib.hid HS.out.done
      go_wp2_with fail
      go_ret
      exact HD.out

theorem goodW_mono {l : List Int} {m M : Nat} (h : goodW l m = true) (hm : m ≤ M) : goodW l M = true := by
  obtain ⟨h1, h2⟩ := goodW_iff.1 h
  exact goodW_iff.2 ⟨Nat.le_trans h1 hm, h2⟩

set_option maxRecDepth 100000 in
set_option maxHeartbeats 8000000 in
theorem specFo_any (v : Value) (l : List Int) (a b c : Int) (hn : l.length ≤ 1048576) (w : World) (h : IL w v l) :
    Calls Try.prog 17 #[v, .agg #[.int .i64 a, .int .i64 b, .int .i64 c]] w (RetL w (foL l a b c) (goodC l a b c)) := by
  have hB0 := below_one w (.cells #[.int .i64 a, .int .i64 b, .int .i64 c] 26)
  have BA := Lib.hid (BoxR.new w a b c 26)
  have HB := Lib.hid hB0
  have HG := Lib.hid (l12Good_any v l hn _ (h.below hB0))
  obtain ⟨-, c0, c1, c2⟩ := BA.out
  have HV := Lib.hid h
  obtain ⟨p, cap, rfl⟩ := h.form
  clear h hB0
  cases hg : goodW l 4 with
  | false =>
    rw [hg] at HG
    rw [show goodC l a b c = false by simp [goodC, hg], show foL l a b c = [] by simp [foL, goodC, hg]]
    clear hg
    go_enter Try.func17, Try.ntmps17
    go_wp2_with fail
    refine HG.out.mono ?_
    rintro e w1 ⟨rfl, hb⟩
    have HB1 := Lib.hid (HB.out.trans (hb.mono HB.out.size))
    clear hb c0 c1 c2
    go_wp2_with fail
    have HX := Lib.hid (retL_of (l := []) (ok := false) (own_empty w1 (.cells #[] 3) 3 rfl) HB1.out.size (HB1.out.trans ((below_one w1 _).mono HB1.out.size)))
    go_ret2
    exact HX.out
  | true =>
    rw [hg] at HG
    have HR := Lib.hid (specRules_any a b c)
    cases hx : okX a b c with
    | false =>
      rw [hx] at HR
      rw [show goodC l a b c = false by simp [goodC, hx], show foL l a b c = [] by simp [foL, goodC, hx]]
      clear hg hx
      go_enter Try.func17, Try.ntmps17
      go_wp2_with fail
      refine HG.out.mono ?_
      rintro e w1 ⟨rfl, hb⟩
      have HB1 := Lib.hid (HB.out.trans (hb.mono HB.out.size))
      have BA1 := Lib.hid (BA.out.below hb)
      clear hb c0 c1 c2
      obtain ⟨-, c0, c1, c2⟩ := BA1.out
      go_wp2_with fail
      refine (HR.out _).mono ?_
      rintro e w2 ⟨rfl, hb⟩
      have HB2 := Lib.hid (HB1.out.trans (hb.mono HB1.out.size))
      clear hb c0 c1 c2
      go_wp2_with fail
      have HX := Lib.hid (retL_of (l := []) (ok := false) (own_empty w2 (.cells #[] 3) 3 rfl) HB2.out.size (HB2.out.trans ((below_one w2 _).mono HB2.out.size)))
      go_ret2
      exact HX.out
    | true =>
      rw [hx] at HR
      obtain ⟨-, hbb, -⟩ := okX_iff.1 hx
      have HT := Lib.hid (fun W hW => l12Forces_any (.slice p l.length cap) l b (goodW_mono hg (by decide)) hbb W hW)
      rw [show goodC l a b c = true by simp [goodC, hg, hx], show foL l a b c = frcs b l l.length by simp [foL, goodC, hg, hx]]
      clear hg hx hbb
      generalize frcs b l l.length = F at *
      go_enter Try.func17, Try.ntmps17
      go_wp2_with fail
      refine HG.out.mono ?_
      rintro e w1 ⟨rfl, hb⟩
      have HB1 := Lib.hid (HB.out.trans (hb.mono HB.out.size))
      have BA1 := Lib.hid (BA.out.below hb)
      clear hb c0 c1 c2
      obtain ⟨-, c0, c1, c2⟩ := BA1.out
      go_wp2_with fail
      refine (HR.out _).mono ?_
      rintro e w2 ⟨rfl, hb⟩
      have HB2 := Lib.hid (HB1.out.trans (hb.mono HB1.out.size))
      have BA2 := Lib.hid (BA1.out.below hb)
      clear hb c0 c1 c2
      obtain ⟨-, c0, c1, c2⟩ := BA2.out
      go_wp2_with fail
      refine (HT.out _ (HV.out.below HB2.out)).mono ?_
      rintro e w3 ⟨a3, c3, rfl, ho, hb⟩
      have HX := Lib.hid (retL_of (ok := true) ho HB2.out.size (HB2.out.trans (hb.mono HB2.out.size)))
      clear ho hb c0 c1 c2
      go_wp2_with fail
      go_ret2
      exact HX.out

/-- While lashings are collected beside a list of forces. -/
def NeS (w wr : World) (a b c : Int) (sv fv : Value) (S F : List Int) : Prop := FoS w wr a b c sv S ∧ (∃ B, wr.ownsRow B 3 1 fv F.length (intV F)) ∧ ∀ g, sv.ownBlock = some g → fv.ownBlock ≠ some g
section
variable {w wr w' w4 : World} {a b c : Int} {sv fv v' : Value} {S F : List Int}
theorem NeS.below (h : NeS w wr a b c sv fv S F) (hb : Below wr.heap.size wr w') : NeS w w' a b c sv fv S F := by
  obtain ⟨h1, ⟨B, h2⟩, h3⟩ := h
  exact ⟨h1.below hb, ⟨B, row_below h2 hb⟩, h3⟩
theorem NeS.drew (h : NeS w wr a b c sv fv S F) : NeS w wr.drew a b c sv fv S F := h.below ⟨rfl, rfl, rfl, Nat.le_refl _, fun _ _ => rfl⟩
theorem NeS.start {B : Nat} (h : FoS w wr a b c sv S) (hb : Below wr.heap.size wr w') (hB : wr.heap.size ≤ B) (ho : w'.ownsRow B 3 1 fv F.length (intV F)) : NeS w w' a b c sv fv S F :=
  ⟨h.below hb, ⟨B, ho⟩, fun g hg e => by have := row_lt h.1 g hg; have := row_base ho g e; omega⟩
theorem NeS.push {x : Int} {o : Obj} (h : NeS w wr a b c sv fv S F) (ho : w4.ownsRow (w.heap.size + 1) 3 1 v' (S.length + 1) (intV S ++ [.int .i64 x])) (hg : (wr.alloc o).grownBy w4 sv.ownBlock) (hat : v'.ownBlock = sv.ownBlock ∨ v'.ownBlock = some (wr.alloc o).heap.size) : NeS w w4 a b c v' fv (S ++ [x]) F := by
  obtain ⟨h1, ⟨B, h2⟩, h3⟩ := h
  have hb := below_one wr o
  have h2' := row_below h2 hb
  refine ⟨h1.push ho hg, ⟨B, h2'.kept hg ?_⟩, fun g hg2 e => ?_⟩
  · cases hf : fv.ownBlock with
    | none => exact .inl rfl
    | some g => exact .inr fun e => h3 g e.symm hf
  · rcases hat with q | q
    · exact h3 g (q ▸ hg2) e
    · have := row_lt h2' g e
      rw [q] at hg2
      injection hg2 with hg2
      omega
theorem NeS.cell (h : NeS w wr a b c sv fv S F) {k : Nat} {x : Int} (hx : F[k]? = some x) : ∃ g o cf, fv = .slice (some ⟨g, o, none⟩) F.length cf ∧ wr.cell? ⟨g, o + k, none⟩ = some (.int .i64 x) := by
  obtain ⟨-, ⟨B, h2⟩, -⟩ := h
  obtain ⟨a', c', rfl, hc⟩ := il_of_owns h2
  obtain ⟨g, o, rfl, -, hcc⟩ := hc (by have := lt_of_get hx; omega)
  exact ⟨g, o, c', rfl, hcc k x hx⟩
end
theorem ne_end {l : List Int} {a b c : Int} {n : Nat} (hn : (foL l a b c).length = n) (h : ∀ (k : Nat) (f : Int), k < n → (foL l a b c)[k]? = some f → lsh c f ≤ 4) : neB l a b c = goodC l a b c ∧ neL l a b c = lshs c (foL l a b c) n := by
  cases hg : goodC l a b c with
  | false =>
    have e : foL l a b c = [] := by simp [foL, hg]
    have e2 : neB l a b c = false := by simp [neB, hg]
    exact ⟨e2, by rw [neL, if_neg (by simp [e2]), e]; simp [lshs]⟩
  | true =>
    have e : foL l a b c = frcs b l l.length := by simp [foL, hg]
    rw [e, frcs_len] at hn
    rw [e] at h
    have hf : few c (frcs b l l.length) = true := few_all fun k f hk => h k f (by have := lt_of_get hk; rw [frcs_len] at this; omega) hk
    have e2 : neB l a b c = true := by simp [neB, hg, hf]
    exact ⟨e2, by rw [neL, if_pos e2, e, hn]⟩
theorem ne_stop {l : List Int} {a b c : Int} {k : Nat} {f : Int} (hk : (foL l a b c)[k]? = some f) (hf : ¬ lsh c f ≤ 4) : neB l a b c = false ∧ neL l a b c = [] := by
  have e2 : neB l a b c = false := by
    cases hg : goodC l a b c with
    | false => simp [neB, hg]
    | true =>
      have e : foL l a b c = frcs b l l.length := by simp [foL, hg]
      rw [e] at hk
      simp [neB, few_at hk hf]
  exact ⟨e2, by rw [neL, if_neg (by simp [e2])]⟩
theorem fo_get {l : List Int} {a b c : Int} {k : Nat} {f : Int} (hk : (foL l a b c)[k]? = some f) : (0 ≤ f ∧ f ≤ 256000) ∧ 1 ≤ c ∧ c ≤ 100000 ∧ 0 ≤ lsh c f ∧ lsh c f ≤ 256000 := by
  cases hg : goodC l a b c with
  | false =>
    have e : foL l a b c = [] := by simp [foL, hg]
    rw [e] at hk
    simp at hk
  | true =>
    have e : foL l a b c = frcs b l l.length := by simp [foL, hg]
    rw [e] at hk
    have hl := lt_of_get hk
    rw [frcs_len] at hl
    rw [frcs_get b l _ _ hl] at hk
    cases hk
    simp only [goodC, Bool.and_eq_true] at hg
    obtain ⟨-, hb, hc⟩ := okX_iff.1 hg.2
    have hs := goodW_sum hg.1 (by decide) k
    obtain ⟨q1, q2, -, -⟩ := frc_bound hb.1 hb.2 hs.1 hs.2
    have := lsh_bound hc.1 q1
    exact ⟨⟨q1, q2⟩, hc.1, hc.2, by omega, by omega⟩

set_option maxRecDepth 100000 in
set_option maxHeartbeats 8000000 in
theorem implNe_any (v : Value) (l : List Int) (a b c : Int) (hn : l.length ≤ 2000000) (w : World) (h : OwnI w v l) :
    Calls Try.prog 20 #[v, .agg #[.int .i64 a, .int .i64 b, .int .i64 c]] w (RetL w (neL l a b c) (neB l a b c)) := by
  obtain ⟨f3, hi3, hz0, hz1, hz2⟩ := info_is info3
  have hS := FoS.start w a b c
  have HFo := Lib.hid (implFo_any v l a b c hn _ (h.below hS.2.2.1))
  have HF : Hid (FoS w _ a b c _ (lshs c (foL l a b c) 0)) := Lib.hid hS
  obtain ⟨-, c0, c1, c2⟩ := hS.2.1
  have HE := Lib.hid (fun n hn2 => ne_end (l := l) (a := a) (b := b) (c := c) (n := n) hn2)
  have HX := Lib.hid (fun k f => ne_stop (l := l) (a := a) (b := b) (c := c) (k := k) (f := f))
  have HG := Lib.hid (fun k f => fo_get (l := l) (a := a) (b := b) (c := c) (k := k) (f := f))
  have HL4 := foL_len l a b c
  clear h hS hn
  generalize foL l a b c = F at *
  obtain ⟨n, hn⟩ : ∃ n, F.length = n := ⟨_, rfl⟩
  have HN := Lib.hid hn
  rw [hn] at HL4
  generalize goodC l a b c = ok at *
  clear hn
  go_enter Try.func20, Try.ntmps20
  go_wp2_with fail
  refine HFo.out.mono ?_
  rintro e w1 ⟨aF, cF, rfl, oF, hb⟩
  have HS1 := Lib.hid (NeS.start HF.out hb (Nat.le_refl _) oF.2.1)
  rw [HN.out] at HS1 ⊢
  clear oF hb c0 c1 c2
  go_wp2_with fail
  go_loopw [6, 21] (fun s i wr => ∃ k : Nat, k ≤ n ∧ i = .int .i64 k ∧ Hid (NeS w wr a b c s (.slice aF n cF) (lshs c F k) F) ∧ Hid (∀ (j : Nat) (f : Int), j < k → F[j]? = some f → lsh c f ≤ 4)) (fun _ i _ => n - (intOf i).toNat)
  case atStart => exact ⟨0, Nat.zero_le _, rfl, HS1, Lib.hid fun j f hj => by omega⟩
  case round =>
    obtain ⟨k, hk, rfl, HS, HK⟩ := hrel
    rename World => wr
    obtain ⟨-, c0, c1, c2⟩ := HS.out.1.2.1
    by_cases hlt : k < n
    · obtain ⟨x, hx⟩ := get_at HN.out hlt
      obtain ⟨g, o, cf, e, o1⟩ := HS.out.cell hx
      injection e with e1 e2 e3
      subst e1 e3
      clear e2
      obtain ⟨⟨f1, f2⟩, g1, g2, h1, h2⟩ := HG.out k x hx
      have HQ := Lib.hid (fun W => quot_any x c f1 (by omega) g1 (by omega) W)
      have HNx := Lib.hid (lshs_next (st := c) hx)
      have HLn := lshs_len c (F := F) (k := k) (by rw [HN.out]; exact hk)
      have HX2 := Lib.hid (HX.out k x hx)
      have HK2 : Hid (lsh c x ≤ 4 → ∀ (j : Nat) (f : Int), j < k + 1 → F[j]? = some f → lsh c f ≤ 4) := Lib.hid fun h4 j f hj hf => by
        by_cases e : j = k
        · subst e; rw [hx] at hf; cases hf; exact h4
        · exact HK.out j f (by omega) hf
      rw [show (x + c - 1) / c = lsh c x from rfl] at HQ
      generalize lsh c x = q at *
      generalize lshs c F k = S at *
      clear hx f1 f2 g1 g2
      by_cases hq : q ≤ 4
      · have HK3 := Lib.hid (HK2.out hq)
        have hrow := HS.out.1.1
        have hz := HS.out.1.2.2.2.1
        clear HK2 HX2
        go_wp2_with fail
        refine (HQ.out _).mono ?_
        rintro e w2 ⟨rfl, rfl⟩
        go_wp2_with (at_builtin; refine wpList_append_own_at _ rfl _ _ 24 rfl (w.heap.size + 1) 3 f3 (.int .i64 0) 1 8 Try.underlying24 hi3 hz0 hz1 hz2 rfl (by decide) _ _ _ rfl (hrow.alloc _) ⟨wr.heap.size, 0, none⟩ 1 1 [.int .i64 q] rfl rfl (cell_one_new _ _ _) (by simp [Value.oneCell']) (by unfold maxLen; omega) (by omega) (by simp; omega) ?_; intro v' w4 hown' hgrow hnil hat)
        have HN4 : Hid (NeS w w4 a b c v' (.slice (some ⟨g, o, none⟩) n cF) (lshs c F (k + 1)) F) := Lib.hid (by rw [HNx.out]; exact HS.out.push hown' hgrow hat)
        clear hown' hgrow hnil hrow hat
        exact ⟨⟨k + 1, by omega, by go_num, HN4, HK3⟩, by simp [intOf]; omega⟩
      · obtain ⟨e1, e2⟩ := HX2.out (by omega)
        have hB := HS.out.1.2.2.1
        have HD : Hid (RetL w (neL l a b c) (neB l a b c) _ _) := Lib.hid (by rw [e1, e2]; exact retL_of (w := w) (l := []) (ok := false) (own_empty wr (.cells #[] 3) 3 rfl) hB.size (hB.trans ((below_one wr _).mono hB.size)))
        clear HK2 HX2 hB e1 e2
        go_wp2_with fail
        refine (HQ.out _).mono ?_
        rintro e w2 ⟨rfl, rfl⟩
        go_wp2_with fail
        go_ret2
        exact HD.out
    · obtain rfl : k = n := by omega
      obtain ⟨e1, e2⟩ := HE.out k HN.out (fun j f hj hf => HK.out j f hj hf)
      obtain ⟨a', c', rfl, hr⟩ := HS.out.1.done ok
      have HD : Hid (RetL w (neL l a b c) (neB l a b c) _ wr) := Lib.hid (by rw [e1, e2]; exact hr)
      clear hr e1 e2
      go_wp2_with fail
      go_ret2
      exact HD.out

set_option maxRecDepth 100000 in
set_option maxHeartbeats 8000000 in
theorem specNe_any (v : Value) (l : List Int) (a b c : Int) (hn : l.length ≤ 1048576) (w : World) (h : IL w v l) :
    Calls Try.prog 21 #[v, .agg #[.int .i64 a, .int .i64 b, .int .i64 c]] w (RetL w (neL l a b c) (neB l a b c)) := by
  obtain ⟨f3, hi3, hz0, hz1, hz2⟩ := info_is info3
  have hS := FoS.start w a b c
  have hB0 := hS.2.2.1
  have HG := Lib.hid (l12Good_any v l hn _ (h.below hB0))
  have HF := Lib.hid hS
  obtain ⟨-, c0, c1, c2⟩ := hS.2.1
  have HV := Lib.hid h
  obtain ⟨p, cap, rfl⟩ := h.form
  clear h hS hB0
  cases hg : goodW l 4 with
  | false =>
    rw [hg] at HG
    rw [show neB l a b c = false by simp [neB, goodC, hg], show neL l a b c = [] by simp [neL, neB, goodC, hg]]
    clear hg
    go_enter Try.func21, Try.ntmps21
    go_wp2_with fail
    refine HG.out.mono ?_
    rintro e w1 ⟨rfl, hb⟩
    have HF1 := Lib.hid (HF.out.below hb)
    clear hb c0 c1 c2
    go_wp2_with fail
    go_ret2
    obtain ⟨a', c', e, hr⟩ := HF1.out.done false
    injection e with e1 e2 e3
    subst e1 e3
    exact hr
  | true =>
    rw [hg] at HG
    have HR := Lib.hid (specRules_any a b c)
    cases hx : okX a b c with
    | false =>
      rw [hx] at HR
      rw [show neB l a b c = false by simp [neB, goodC, hx], show neL l a b c = [] by simp [neL, neB, goodC, hx]]
      clear hg hx
      go_enter Try.func21, Try.ntmps21
      go_wp2_with fail
      refine HG.out.mono ?_
      rintro e w1 ⟨rfl, hb⟩
      have HF1 := Lib.hid (HF.out.below hb)
      clear hb c0 c1 c2
      obtain ⟨-, c0, c1, c2⟩ := HF1.out.2.1
      go_wp2_with fail
      refine (HR.out _).mono ?_
      rintro e w2 ⟨rfl, hb⟩
      have HF2 := Lib.hid (HF1.out.below hb)
      clear hb c0 c1 c2
      go_wp2_with fail
      go_ret2
      obtain ⟨a', c', e, hr⟩ := HF2.out.done false
      injection e with e1 e2 e3
      subst e1 e3
      exact hr
    | true =>
      rw [hx] at HR
      obtain ⟨-, hbb, -⟩ := okX_iff.1 hx
      have hgc : goodC l a b c = true := by simp [goodC, hg, hx]
      have HT := Lib.hid (fun W hW => l12Forces_any (.slice p l.length cap) l b (goodW_mono hg (by decide)) hbb W hW)
      have hFe : foL l a b c = frcs b l l.length := by simp [foL, hgc]
      rw [← hFe] at HT
      have HE := Lib.hid (fun n hn2 => ne_end (l := l) (a := a) (b := b) (c := c) (n := n) hn2)
      have HX := Lib.hid (fun k f => ne_stop (l := l) (a := a) (b := b) (c := c) (k := k) (f := f))
      have HGt := Lib.hid (fun k f => fo_get (l := l) (a := a) (b := b) (c := c) (k := k) (f := f))
      have HL4 := foL_len l a b c
      rw [hgc] at HE
      clear hg hx hbb hgc hFe
      generalize foL l a b c = F at *
      have HF0 : Hid (FoS w _ a b c _ (lshs c F 0)) := HF
      clear HF
      obtain ⟨n, hn2⟩ : ∃ n, F.length = n := ⟨_, rfl⟩
      have HN := Lib.hid hn2
      rw [hn2] at HL4
      clear hn2
      go_enter Try.func21, Try.ntmps21
      go_wp2_with fail
      refine HG.out.mono ?_
      rintro e w1 ⟨rfl, hb⟩
      have HF1 := Lib.hid (HF0.out.below hb)
      clear hb c0 c1 c2
      obtain ⟨-, c0, c1, c2⟩ := HF1.out.2.1
      go_wp2_with fail
      refine (HR.out _).mono ?_
      rintro e w2 ⟨rfl, hb⟩
      have HF2 := Lib.hid (HF1.out.below hb)
      clear hb c0 c1 c2
      obtain ⟨-, c0, c1, c2⟩ := HF2.out.2.1
      go_wp2_with fail
      refine (HT.out _ (HV.out.below HF2.out.2.2.1)).mono ?_
      rintro e w3 ⟨aF, cF, rfl, oF, hb⟩
      have HS1 := Lib.hid (NeS.start HF2.out hb (Nat.le_refl _) oF)
      rw [HN.out] at HS1 ⊢
      clear oF hb c0 c1 c2
      go_wp2_with fail
      go_loopw [6, 8] (fun s i wr => ∃ k : Nat, k ≤ n ∧ i = .int .i64 k ∧ Hid (NeS w wr a b c s (.slice aF n cF) (lshs c F k) F) ∧ Hid (∀ (j : Nat) (f : Int), j < k → F[j]? = some f → lsh c f ≤ 4)) (fun _ i _ => n - (intOf i).toNat)
      case atStart => exact ⟨0, Nat.zero_le _, rfl, HS1, Lib.hid fun j f hj => by omega⟩
      case round =>
        obtain ⟨k, hk, rfl, HS, HK⟩ := hrel
        rename World => wr
        obtain ⟨-, c0, c1, c2⟩ := HS.out.1.2.1
        by_cases hlt : k < n
        · obtain ⟨x, hx⟩ := get_at HN.out hlt
          obtain ⟨g, o, cf, e, o1⟩ := HS.out.cell hx
          injection e with e1 e2 e3
          subst e1 e3
          clear e2
          obtain ⟨⟨f1, f2⟩, g1, g2, h1, h2⟩ := HGt.out k x hx
          have hq0 : (x + c - 1).tdiv c = lsh c x := by rw [Int.tdiv_eq_ediv_of_nonneg (by omega)]; rfl
          have hcz : ¬ c = 0 := by omega
          have hcm : ¬ c = -1 := by omega
          have HNx := Lib.hid (lshs_next (st := c) hx)
          have HLn := lshs_len c (F := F) (k := k) (by rw [HN.out]; exact hk)
          have HX2 := Lib.hid (HX.out k x hx)
          have HK2 : Hid (lsh c x ≤ 4 → ∀ (j : Nat) (f : Int), j < k + 1 → F[j]? = some f → lsh c f ≤ 4) := Lib.hid fun h4 j f hj hf => by
            by_cases e : j = k
            · subst e; rw [hx] at hf; cases hf; exact h4
            · exact HK.out j f (by omega) hf
          generalize lsh c x = q at *
          generalize lshs c F k = S at *
          clear hx
          by_cases hq : q ≤ 4
          · have HK3 := Lib.hid (HK2.out hq)
            clear HK2 HX2
            go_wp2_with fail
            go_quiet (fail)
            have HSd : Hid (NeS w (wr.drewN nq) a b c _ (.slice (some ⟨g, o, none⟩) n cF) S F) := Lib.hid (HS.out.below (below_drewN (Below.refl _ _) nq))
            generalize wr.drewN nq = w9 at *
            have hrow := HSd.out.1.1
            have hz := HSd.out.1.2.2.2.1
            go_wp2_with (at_builtin; refine wpList_append_own_at _ rfl _ _ 24 rfl (w.heap.size + 1) 3 f3 (.int .i64 0) 1 8 Try.underlying24 hi3 hz0 hz1 hz2 rfl (by decide) _ _ _ rfl (hrow.alloc _) ⟨w9.heap.size, 0, none⟩ 1 1 [.int .i64 q] rfl rfl (cell_one_new _ _ _) (by simp [Value.oneCell']) (by unfold maxLen; omega) (by omega) (by simp; omega) ?_; intro v' w4 hown' hgrow hnil hat)
            have HN4 : Hid (NeS w w4 a b c v' (.slice (some ⟨g, o, none⟩) n cF) (lshs c F (k + 1)) F) := Lib.hid (by rw [HNx.out]; exact HSd.out.push hown' hgrow hat)
            clear hown' hgrow hnil hrow hat
            exact ⟨⟨k + 1, by omega, by go_num, HN4, HK3⟩, by simp [intOf]; omega⟩
          · obtain ⟨e1, e2⟩ := HX2.out (by omega)
            clear HK2 HX2
            have HE1 := Lib.hid e1
            have HE2 := Lib.hid e2
            clear e1 e2
            go_wp2_with fail
            go_quiet (fail)
            have hB : Below w.heap.size w (wr.drewN nq) := below_drewN HS.out.1.2.2.1 nq
            have HD : Hid (RetL w (neL l a b c) (neB l a b c) _ _) := Lib.hid (by rw [HE1.out, HE2.out]; exact retL_of (w := w) (l := []) (ok := false) (own_empty (wr.drewN nq) (.cells #[] 3) 3 rfl) hB.size (hB.trans ((below_one (wr.drewN nq) _).mono hB.size)))
            clear hB
            go_wp2_with fail
            go_ret2
            exact HD.out
        · obtain rfl : k = n := by omega
          obtain ⟨e1, e2⟩ := HE.out k HN.out (fun j f hj hf => HK.out j f hj hf)
          obtain ⟨a', c', rfl, hr⟩ := HS.out.1.done true
          have HD : Hid (RetL w (neL l a b c) (neB l a b c) _ wr) := Lib.hid (by rw [e1, e2]; exact hr)
          clear hr e1 e2
          go_wp2_with fail
          go_ret2
          exact HD.out
end Go.Proofs.Ytalobfpmmembiaa
