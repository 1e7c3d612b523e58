/-
  What spec.l10Bay returns. No statement of the seat by itself.
-/
import Derived.Test.YtjplbcfpbggnnaaMZb
import Derived.Test.YtjplbcfpbggnnaaCopyS
import Derived.Deep.CutRange
import Derived.Deep.RegionHeldLaw
namespace Go.Proofs.Ytjplbcfpbggnnaa
open Go.RowKit

/-- While the rows are made: the stowage's box, the result's, the bay's, the rows. -/
def GrowS (r h : Int) (w wr : World) (v0 sv : Value) (Z : List (List Int)) : Prop :=
  wr.heap[w.heap.size]? = some (.cells #[.int .i64 r, .int .i64 h, v0] 28 (0, 0)) ∧ wr.heap[w.heap.size + 1]? = some (.cells #[.int .i64 0, .slice none 0 0] 45 (0, 0)) ∧ wr.heap[w.heap.size + 1 + 1]? = some (.cells #[.int .i64 h, sv] 45 (0, 0)) ∧
  OwnY wr (w.heap.size + 3) wr.heap.size sv Z ∧ Below w.heap.size w wr ∧ w.heap.size + 3 ≤ wr.heap.size
section
variable {r h : Int} {w wr w1 w4 : World} {v0 sv v' u : Value} {Z : List (List Int)} {l : List Int} {us : List Value}
theorem GrowS.cells (g : GrowS r h w wr v0 sv Z) : (wr.cell? ⟨w.heap.size, 0, none⟩ = some (.int .i64 r) ∧ wr.cell? ⟨w.heap.size, 1, none⟩ = some (.int .i64 h)) ∧ wr.cell? ⟨w.heap.size + 1 + 1, 1, none⟩ = some sv ∧ wr.cell? ⟨w.heap.size + 1 + 1, 0, none⟩ = some (.int .i64 h) := ⟨⟨cell_of g.1 rfl, cell_of g.1 rfl⟩, cell_of g.2.2.1 rfl, cell_of g.2.2.1 rfl⟩
theorem GrowS.start (r h : Int) (w : World) (v0 : Value) : GrowS r h w (((w.alloc (.cells #[.int .i64 r, .int .i64 h, v0] 28)).alloc (.cells #[.int .i64 0, .slice none 0 0] 45)).alloc (.cells #[.int .i64 h, .slice none 0 0] 45)) v0 (.slice none 0 0) [] := by
  obtain ⟨hk0, hk1, hk2, hs, hB0⟩ := three_alloc w (.cells #[.int .i64 r, .int .i64 h, v0] 28) (.cells #[.int .i64 0, .slice none 0 0] 45) (.cells #[.int .i64 h, .slice none 0 0] 45)
  exact ⟨hk0, hk1, hk2, OwnY.nil _ _ _ (Nat.le_refl _), hB0, by omega⟩
theorem GrowS.step (g : GrowS r h w wr v0 sv Z) (hus : wr.ownsRow (w.heap.size + 3) 22 1 sv Z.length us) (hr : Rows2 wr (w.heap.size + 3) wr.heap.size us Z)
    (hb1 : Below wr.heap.size wr w1) (ho : w1.ownsRow wr.heap.size 3 1 u l.length (intV l)) (hg : (w1.alloc (.cells #[u] 22)).grownBy w4 sv.ownBlock) (ho' : w4.ownsRow (w.heap.size + 3) 22 1 v' (Z.length + 1) (us ++ [u])) :
    GrowS r h w (w4.setCell ⟨w.heap.size + 1 + 1, 1, none⟩ v') v0 v' (Z ++ [l]) ∧ w4.cell? ⟨w.heap.size + 1 + 1, 1, none⟩ = some sv ∧ w4.frozen? ⟨w.heap.size + 1 + 1, 1, none⟩ = false := by
  obtain ⟨h1, h2, h3, h4, h5, h6⟩ := g
  have hz1 := hb1.size
  have ba : Below w1.heap.size w1 (w1.alloc (.cells #[u] 22)) := below_one _ _
  have hbW : Below wr.heap.size wr (w1.alloc (.cells #[u] 22)) := hb1.trans (ba.mono hz1)
  have hzW := hbW.size
  have hnb : ∀ k, k < w.heap.size + 3 → some k ≠ sv.ownBlock := fun k hk e => by have := row_base hus k e.symm; omega
  have old : ∀ k, k < w.heap.size + 3 → w4.heap[k]? = wr.heap[k]? := fun k hk => (hg.block k (by omega) (hnb k hk)).trans (hbW.block k (by omega))
  have hB4 : Below w.heap.size w w4 := ((h5.trans (hbW.mono h5.size)).grown hg (by omega) fun j e => by have := row_base hus j e; omega)
  have hP := OwnY.push (h4.below hbW) ⟨row_below hus hbW, hr.below hbW⟩ (row_below (own_base ho fun j hj => by have := row_base ho j hj; omega) ba) (fun b hb => row_base ho b hb) hg ho'
  have c3 := (old (w.heap.size + 1 + 1) (by omega)).trans h3
  have hS : Span (w.heap.size + 1 + 1) (w.heap.size + 3) w4 (w4.setCell ⟨w.heap.size + 1 + 1, 1, none⟩ v') := span_set (Nat.le_refl _) (by omega) v'
  refine ⟨⟨?_, ?_, by rw [Lib.heap_setCell_same (i := 1) c3]; rfl, ?_, hB4.setCell (p := ⟨w.heap.size + 1 + 1, 1, none⟩) (by show w.heap.size ≤ w.heap.size + 1 + 1; omega) _, ?_⟩, cell_of c3 rfl, free_of c3⟩
  · rw [Below.heap_setCell w4 ⟨w.heap.size + 1 + 1, 1, none⟩ v' _ (by show w.heap.size ≠ w.heap.size + 1 + 1; omega)]
    exact (old _ (by omega)).trans h1
  · rw [Below.heap_setCell w4 ⟨w.heap.size + 1 + 1, 1, none⟩ v' _ (by show w.heap.size + 1 ≠ w.heap.size + 1 + 1; omega)]
    exact (old _ (by omega)).trans h2
  · have := hP.span hS (.inr (by omega))
    simpa using this
  · have := hg.size; simp at this ⊢; omega
/-- The rows are made. -/
theorem GrowS.pb {g n c : Nat} (G : GrowS r h w wr v0 (.slice (some ⟨g, 0, none⟩) n c) Z) : PbS w wr r h v0 w.heap.size (w.heap.size + 1) (w.heap.size + 1 + 1) (w.heap.size + 3) g n c Z :=
  ⟨G.1, G.2.1, G.2.2.1, G.2.2.2.1, G.2.2.2.2.1, by omega⟩
end
/-- What was there before stays when a number is put on a row. -/
theorem PbS.put_bl {w wr w5 : World} {r h : Int} {v0 : Value} {A R D B g n c : Nat} {Y : List (List Int)} {s : Nat} {l : List Int} {u : Value} {o : Obj} (S : PbS w wr r h v0 A R D B g n c Y) (hl : Y[s]? = some l) (hu : wr.cell? ⟨g, s, none⟩ = some u)
    (hg : (wr.alloc o).grownBy w5 u.ownBlock) : Below w.heap.size w w5 := by
  obtain ⟨u2, hu2, -, hou, -⟩ := S.own.cell hl
  rw [hu] at hu2
  cases hu2
  have hb : Below wr.heap.size wr (wr.alloc o) := below_one wr o
  exact (S.bl.trans (hb.mono S.bl.size)).grown hg (Nat.le_trans S.bl.size hb.size) (fun j e => by have := row_base hou j e; have := S.hB; omega)

set_option maxRecDepth 100000 in
set_option maxHeartbeats 16000000 in
theorem l10Bay_any (v vo : Value) (q : Nat) (h : Int) (P O : List Int) (hq1 : 1 ≤ q) (hq : q ≤ 5) (h7 : O.length ≤ 7) (hr : ∀ x ∈ O, 0 ≤ x ∧ x < (q : Int)) (w : World) (hv : StR w v (q : Int) h P) (ho : IL w vo O) :
    Calls Try.prog 20 #[v, vo] w (NewBd w h (bayZ q O O.length)) := by
  obtain ⟨f38, hi38, hz0, hz1, hz2⟩ := info_is info38
  obtain ⟨v0, rfl, -⟩ := hv
  have G0 := Lib.hid (GrowS.start (q : Int) h w v0)
  have HI := Lib.hid ho
  have HRg := Lib.hid hr
  obtain ⟨ao, co, rfl⟩ := ho.form
  obtain ⟨n, hnO⟩ : ∃ n, O.length = n := ⟨_, rfl⟩
  have HN := Lib.hid hnO
  rw [hnO] at h7 HI ⊢
  clear ho hr hnO
  have c0 := G0.out.cells.1.1
  have c1 := G0.out.cells.1.2
  have cD := G0.out.cells.2.1
  have q1 := cell_of (i := 1) (G0.out.2.1) rfl
  have e1 := World.cell?_alloc_lt (w.alloc (.cells #[.int .i64 (q : Int), .int .i64 h, v0] 28)) (.cells #[.int .i64 0, .slice none 0 0] 45) ⟨w.heap.size, 1, none⟩ (by simp)
  rw [cell_of (heap_alloc_new w (.cells #[.int .i64 (q : Int), .int .i64 h, v0] 28)) (i := 1) (x := .int .i64 h) rfl] at e1
  go_enter Try.func20, Try.ntmps20
  go_wp2_with fail
  clear c0 c1 cD q1 e1
  generalize ((w.alloc (.cells #[.int .i64 (q : Int), .int .i64 h, v0] 28)).alloc (.cells #[.int .i64 0, .slice none 0 0] 45)).alloc (.cells #[.int .i64 h, .slice none 0 0] 45) = w0 at *
  go_loopw [6] (fun i wr => ∃ k : Nat, k ≤ q ∧ i = .int .i64 k ∧ Hid (∃ sa cs, GrowS (q : Int) h w wr v0 (.slice sa k cs) (List.replicate k []))) (fun i _ => q - (intOf i).toNat)
  case atStart => exact ⟨0, Nat.zero_le _, rfl, Lib.hid ⟨none, 0, G0.out⟩⟩
  case round =>
    obtain ⟨k, hk, rfl, HR⟩ := hrel
    obtain ⟨sa, cs, hR⟩ := HR.out
    have HR1 := Lib.hid hR
    clear hR HR
    have c0 := HR1.out.cells.1.1
    have cD := HR1.out.cells.2.1
    by_cases hlt : k < q
    · obtain ⟨us, hus, hr2⟩ := HR1.out.2.2.2.1.2.2
      have hbe := below_one wr (.cells #[] 3)
      have HST := Lib.hid (fun (w4 : World) (v' : Value) ho' hg => HR1.out.step (w1 := wr.alloc (.cells #[] 3)) (w4 := w4) (v' := v') (u := .slice (some ⟨wr.heap.size, 0, none⟩) 0 0) (l := []) hus hr2 hbe (own_empty wr (.cells #[] 3) 3 rfl) hg ho')
      rw [List.length_replicate] at hus HST
      have HUS := Lib.hid ((hus.alloc (.cells #[] 3)).alloc (.cells #[.slice (some ⟨wr.heap.size, 0, none⟩) 0 0] 22))
      have hNW := cell_val_new (wr.alloc (.cells #[] 3)) (.slice (some ⟨wr.heap.size, 0, none⟩) 0 0) 22
      rw [show (wr.alloc (.cells #[] 3)).heap.size = wr.heap.size + 1 by simp] at hNW
      have HNW := Lib.hid hNW
      have hsz := HR1.out.2.2.2.2.2
      clear hus hr2 hNW hbe
      go_wp2_with (at_builtin; refine wpList_append_own _ rfl _ _ 39 rfl (w.heap.size + 3) 22 f38 (.slice none 0 0) 1 24 Try.underlying39 hi38 hz0 hz1 hz2 rfl (by decide) _ k us rfl HUS.out _ 1 1 [.slice (some ⟨wr.heap.size, 0, none⟩) 0 0] rfl rfl HNW.out (by simp [Value.oneCell']) (by unfold maxLen; omega) (by omega) (by simp; omega) ?_; intro v' w4 hown' hgrow hnil; obtain ⟨a5, c5, rfl⟩ := own_form hown'; obtain ⟨hG4, c4, f4⟩ := HST.out w4 _ hown' hgrow; have HG4 := Lib.hid hG4; clear hG4 hown' hgrow hnil)
      exact ⟨⟨k + 1, by omega, by go_num, Lib.hid ⟨_, _, by rw [List.replicate_succ']; exact HG4.out⟩⟩, by simp [intOf]; omega⟩
    · obtain rfl : k = q := by omega
      obtain ⟨g, cap, e⟩ := HR1.out.2.2.2.1.rows (by rw [List.length_replicate]; exact hq1)
      injection e with e1 e2 e3
      subst e1 e3
      have S3 := Lib.hid HR1.out.pb
      clear HR1 G0 e2 cD
      go_wp2_with fail
      clear c0
      rename World => w3
      go_loopw [7] (fun i wr => ∃ j : Nat, j ≤ n ∧ i = .int .i64 j ∧ Hid (PbS w wr (k : Int) h v0 w.heap.size (w.heap.size + 1) (w.heap.size + 1 + 1) (w.heap.size + 3) g k cs (bayZ k O j))) (fun i _ => n - (intOf i).toNat)
      case atStart => exact ⟨0, Nat.zero_le _, rfl, S3⟩
      case round =>
        clear S3
        obtain ⟨j, hj, rfl, HS⟩ := hrel
        rename World => wr
        have d1 := HS.out.cells.2.2
        by_cases hlt2 : j < n
        · obtain ⟨go, offo, rfl, hgo, hcc⟩ : ∃ go offo, ao = some ⟨go, offo, none⟩ ∧ go < w.heap.size ∧ ∀ i x, O[i]? = some x → w.cell? ⟨go, offo + i, none⟩ = some (.int .i64 x) := by
            obtain ⟨a', c', e, hh⟩ := HI.out
            injection e with e1 e2 e3
            subst e1
            exact hh (by have := HN.out; omega)
          obtain ⟨x, hx⟩ := get_at HN.out hlt2
          have hx01 := HRg.out x (List.mem_of_getElem? hx)
          obtain ⟨s, rfl⟩ : ∃ s : Nat, x = (s : Int) := ⟨x.toNat, by omega⟩
          have hsq : s < k := by omega
          have HO0 := Lib.hid (fun W (hb : Below w.heap.size w W) => (hb.cell (p := ⟨go, offo + j, none⟩) hgo).trans (hcc j _ hx))
          have hrow := bayZ_row (O := O) hsq j
          obtain ⟨u, hu, -, hou, hub⟩ := HS.out.own.cell hrow
          obtain ⟨a4, c4, rfl⟩ := own_form hou
          obtain ⟨m, hm⟩ : ∃ m, (rowZ O j s).length = m := ⟨_, rfl⟩
          have HM := Lib.hid hm
          have HROW := Lib.hid hrow
          have hm7 := rowZ_len O s j
          rw [hm] at hu hou hm7
          have HY : Hid (bayZ k O (j + 1) = putY (bayZ k O j) s ((j : Int) + 1)) := Lib.hid (by
            rw [bayZ]
            congr 1
            simp [List.getD, hx])
          have hgd := HS.out.tab.2.2
          have hdg : ¬ w.heap.size + 1 + 1 = g := fun e => hgd e.symm
          have hsqI : (s : Int) < (k : Int) := by omega
          have hltD := mem_lt HS.out.d
          have hltg := HS.out.base.2
          have hlow := HS.out.base.1
          have o1 := HO0.out wr HS.out.bl
          have hogo : go < wr.heap.size := by omega
          have hgo1 : ¬ go = g := by omega
          have hgo2 : ¬ g = go := by omega
          have HP := Lib.hid (fun (w5 : World) (v' : Value) (o : Obj) ho hg hat => (HS.out.below (Below.refl _ wr).drew).put (w5 := w5) (v' := v') (o := o) (x := (j : Int) + 1) HROW.out HM.out hu ho hg hat)
          have HPb := Lib.hid (fun (w5 : World) (o : Obj) hg => HO0.out w5 ((HS.out.below (Below.refl _ wr).drew).put_bl (w5 := w5) (o := o) HROW.out hu hg))
          have HU5 := Lib.hid (fun o => row_below hou (((Below.refl _ wr).drew).alloc (Nat.le_refl _) o))
          have hcB := fun o => (World.cell?_alloc_lt wr o ⟨w.heap.size + 1 + 1, 1, none⟩ hltD).trans d1
          have hu9 : wr.drew.cell? ⟨g, s, none⟩ = some (.slice a4 m c4) := hu
          have huB := fun o => (World.cell?_alloc_lt wr o ⟨g, s, none⟩ hltg).trans hu
          have huA := fun o => (World.cell?_alloc_lt wr.drew o ⟨g, s, none⟩ hltg).trans hu9
          have hcA := fun o => (World.cell?_alloc_lt wr.drew o ⟨w.heap.size + 1 + 1, 1, none⟩ hltD).trans d1
          have hoB := fun o => (World.cell?_alloc_lt wr o ⟨go, offo + j, none⟩ hogo).trans o1
          have hoA := fun o => (World.cell?_alloc_lt wr.drew o ⟨go, offo + j, none⟩ hogo).trans o1
          have hzz : w.heap.size + 3 ≤ wr.heap.size := by omega
          have HZA := Lib.hid (fun o => Nat.le_trans hzz (below_one wr.drew o).size)
          have hw : IntKind.i64.wrap ((j : Int) + 1) = (j : Int) + 1 := by rw [IntKind.wrap_i64]; omega
          clear hx hx01 hrow hm hou hub hcc
          go_wp2_with fail
          refine wp_region_held_drew (S := fun W => W.cell? ⟨w.heap.size + 1 + 1, 1, none⟩ = some (.slice (some ⟨g, 0, none⟩) k cs) ∧ W.cell? ⟨go, offo + j, none⟩ = some (.int .i64 (s : Int))) (by kernel_rfl) ?_ (fun hHeld => ?_)
          · exact ⟨d1, o1⟩
          refine (wpAnyH_take (i := 0) (v := ?_) rfl (by kernel_rfl) (by kernel_rfl) (by kernel_rfl) (fun _ _ _ h => h) (Or.inl ⟨by rfl, ?_⟩) (by assumption) ?_)
          rotate_left 1
          · (intro w hSw; (try dsimp only at hSw); (go_simp) <;> with_reducible rfl)
          try simp only [Act.put, List.setIfInBounds_toArray]
          refine (wpAnyH_take (i := 1) (v := ?_) rfl (by kernel_rfl) (by kernel_rfl) (by kernel_rfl) (fun _ _ _ h => h) (Or.inl ⟨by rfl, ?_⟩) (by assumption) ?_)
          rotate_left 1
          · (intro w hSw; (try dsimp only at hSw); (go_simp) <;> with_reducible rfl)
          try simp only [Act.put]
          refine (wpAnyH_take (i := 2) (v := ?_) rfl (by kernel_rfl) (by kernel_rfl) (by kernel_rfl) (fun _ _ _ h => h) (Or.inl ⟨by rfl, ?_⟩) (by assumption) ?_)
          rotate_left 1
          · (intro w hSw; (try dsimp only at hSw); (go_simp) <;> with_reducible rfl)
          try simp only [Act.put]
          refine (wpAnyH_take (i := 3) (v := ?_) rfl (by kernel_rfl) (by kernel_rfl) (by kernel_rfl) (fun _ _ _ h => h) (Or.inl ⟨by rfl, ?_⟩) (by assumption) ?_)
          rotate_left 1
          · (intro w hSw; (try dsimp only at hSw); (go_simp) <;> with_reducible rfl)
          try simp only [Act.put]
          refine (wpAnyH_take (i := 4) (v := ?_) rfl (by kernel_rfl) (by kernel_rfl) (by kernel_rfl) (fun _ _ _ h => h) (Or.inl ⟨by rfl, ?_⟩) (by assumption) ?_)
          rotate_left 1
          · (intro w hSw; (try dsimp only at hSw); (go_simp) <;> with_reducible rfl)
          try simp only [Act.put]
          refine (wpAnyH_take (i := 5) (v := ?_) rfl (by kernel_rfl) (by kernel_rfl) (by kernel_rfl) (fun _ _ _ h => h) (Or.inl ⟨by rfl, ?_⟩) (by assumption) ?_)
          rotate_left 1
          · (intro w hSw; (try dsimp only at hSw); (go_simp) <;> with_reducible rfl)
          try simp only [Act.put]
          refine (wpAnyH_take (i := 6) (v := ?_) rfl (by kernel_rfl) (by kernel_rfl) (by kernel_rfl) (fun _ _ _ h => h) (Or.inl ⟨by rfl, ?_⟩) (by assumption) ?_)
          rotate_left 1
          · (intro w hSw; (try dsimp only at hSw); (go_simp) <;> with_reducible rfl)
          try simp only [Act.put]
          refine (wpAnyH_take (i := 7) (v := ?_) rfl (by kernel_rfl) (by kernel_rfl) (by kernel_rfl) (fun _ _ _ h => h) (Or.inl ⟨by rfl, ?_⟩) (by assumption) ?_)
          rotate_left 1
          · (intro w hSw; (try dsimp only at hSw); (go_simp) <;> with_reducible rfl)
          try simp only [Act.put]
          refine (wpAnyH_take (i := 8) (v := ?_) rfl (by kernel_rfl) (by kernel_rfl) (by kernel_rfl) (fun _ _ _ h => h) (Or.inl ⟨by rfl, ?_⟩) (by assumption) ?_)
          rotate_left 1
          · (intro w hSw; (try dsimp only at hSw); (go_simp) <;> with_reducible rfl)
          try simp only [Act.put]
          refine (wpAnyH_take (i := 9) (v := ?_) rfl (by kernel_rfl) (by kernel_rfl) (by kernel_rfl) (fun _ _ _ h => h) (Or.inl ⟨by rfl, ?_⟩) (by assumption) ?_)
          rotate_left 1
          · (intro w hSw; (try dsimp only at hSw); (go_simp) <;> with_reducible rfl)
          try simp only [Act.put]
          refine (wpAnyH_take (i := 10) (v := ?_) rfl (by kernel_rfl) (by kernel_rfl) (by kernel_rfl) (fun _ _ _ h => h) (Or.inl ⟨by rfl, ?_⟩) (by assumption) ?_)
          rotate_left 1
          · (intro w hSw; (try dsimp only at hSw); (go_simp) <;> with_reducible rfl)
          try simp only [Act.put]
          refine (wpAnyH_take (i := 11) (v := ?_) rfl (by kernel_rfl) (by kernel_rfl) (by kernel_rfl) (fun _ _ _ h => h) (Or.inl ⟨by rfl, ?_⟩) (by assumption) ?_)
          rotate_left 1
          · (intro w hSw; (try dsimp only at hSw); (go_simp) <;> with_reducible rfl)
          try simp only [Act.put]
          refine (wpAnyH_take (i := 12) (v := ?_) rfl (by kernel_rfl) (by kernel_rfl) (by kernel_rfl) (fun _ _ _ h => h) (Or.inl ⟨by rfl, ?_⟩) (by assumption) ?_)
          rotate_left 1
          · (intro w hSw; (try dsimp only at hSw); (go_simp) <;> with_reducible rfl)
          try simp only [Act.put]
          refine (wpAnyH_take (i := 14) (v := ?_) rfl (by kernel_rfl) (by kernel_rfl) (by kernel_rfl) (fun _ _ _ h => h) (Or.inl ⟨by rfl, ?_⟩) (by assumption) ?_)
          rotate_left 1
          · (intro w hSw; (try dsimp only at hSw); (go_simp) <;> with_reducible rfl)
          try simp only [Act.put]
          refine (wpAnyH_take (i := 15) (v := ?_) rfl (by kernel_rfl) (by kernel_rfl) (by kernel_rfl) (fun _ _ _ h => h) (Or.inl ⟨by rfl, ?_⟩) (by assumption) ?_)
          rotate_left 1
          · (intro w hSw; (try dsimp only at hSw); (go_simp) <;> with_reducible rfl)
          try simp only [Act.put]
          refine wpAnyH_ready (rs := [13, 16]) (by kernel_rfl) (by simp) ?_
          refine AllReadyH.cons rfl (fun K hK => ?_) ?_
          · go_simp
            refine hK.out _ _ ?_ (fun hNew => ?_)
            · (try dsimp only); exact hHeld
            clear hK K hHeld
            have hHeld := hNew
            clear hNew
            refine wpAnyH_ready (rs := [16]) (by kernel_rfl) (by simp) ?_
            refine AllReadyH.cons rfl (fun K hK => ?_) ?_
            · go_simp
              refine hK.out _ _ ?_ (fun hNew => ?_)
              · (try dsimp only); exact ⟨hcA _, hoA _⟩
              clear hK K hHeld
              have hHeld := hNew
              clear hNew
              refine wpAnyH_ready (rs := [17]) (by kernel_rfl) (by simp) ?_
              refine AllReadyH.cons rfl (fun K hK => ?_) ?_
              · refine step_int_at (by rfl) _ _ (by rfl) (w.heap.size + 3) _ m (intV (rowZ O j s)) (by rfl) (HU5.out _) _ _ _ (by rfl) (cell_val_new _ _ _) (by simp [Value.oneCell']) (by omega) (HZA.out _) ?_
                intro v5 w5 ho5 hg5 hat5
                try rw [hw] at ho5
                have HP5 := Lib.hid (HP.out w5 v5 _ ho5 hg5 hat5)
                obtain ⟨y5, p2⟩ := HP5.out.2.1
                have p3 := HP5.out.2.2.1
                have q1 := HP5.out.2.2.2
                have q2 := HPb.out w5 _ hg5
                obtain ⟨a6, c6, rfl⟩ := own_form ho5
                clear ho5 hg5 hat5
                refine hK.out _ _ ?_ (fun hNew => ?_)
                · (try dsimp only); exact ⟨q1, q2⟩
                clear hK K hHeld
                have hHeld := hNew
                clear hNew
                refine (wpAnyH_take (i := 18) (v := ?_) rfl (by kernel_rfl) (by kernel_rfl) (by kernel_rfl) (fun _ _ _ h => h) (Or.inl ⟨by rfl, ?_⟩) (by assumption) ?_)
                rotate_left 1
                · (intro w hSw; (try dsimp only at hSw); (go_simp) <;> with_reducible rfl)
                try simp only [Act.put, List.setIfInBounds_toArray]
                refine wpAnyH_ready (rs := [19]) (by kernel_rfl) (by simp) ?_
                refine AllReadyH.cons rfl (fun K hK => ?_) ?_
                · go_simp
                  refine hK.out _ _ ?_ (fun hNew => ?_)
                  · (try dsimp only); exact ⟨(set_cell_ne _ _ _ _ _ _ hdg).trans q1, (set_cell_ne _ _ _ _ _ _ hgo1).trans q2⟩
                  clear hK K hHeld
                  have hHeld := hNew
                  clear hNew
                  refine wpAnyH_done (by kernel_rfl) ?_ _
                  have HPx := Lib.hid HP5.out.1
                  clear HP5 p2 p3 q1 q2 y5 hHeld
                  go_wp2_with fail
                  exact ⟨⟨j + 1, by omega, by go_num, Lib.hid (by rw [HY.out]; exact HPx.out)⟩, by simp [intOf]; omega⟩
                exact AllReadyH.nil
              exact AllReadyH.nil
            exact AllReadyH.nil
          refine AllReadyH.cons rfl (fun K hK => ?_) ?_
          · go_simp
            refine hK.out _ _ ?_ (fun hNew => ?_)
            · (try dsimp only); exact ⟨hcA _, hoA _⟩
            clear hK K hHeld
            have hHeld := hNew
            clear hNew
            refine wpAnyH_ready (rs := [13]) (by kernel_rfl) (by simp) ?_
            refine AllReadyH.cons rfl (fun K hK => ?_) ?_
            · go_simp
              refine hK.out _ _ ?_ (fun hNew => ?_)
              · (try dsimp only); exact hHeld
              clear hK K hHeld
              have hHeld := hNew
              clear hNew
              refine wpAnyH_ready (rs := [17]) (by kernel_rfl) (by simp) ?_
              refine AllReadyH.cons rfl (fun K hK => ?_) ?_
              · refine step_int_at (by rfl) _ _ (by rfl) (w.heap.size + 3) _ m (intV (rowZ O j s)) (by rfl) (HU5.out _) _ _ _ (by rfl) (cell_val_new _ _ _) (by simp [Value.oneCell']) (by omega) (HZA.out _) ?_
                intro v5 w5 ho5 hg5 hat5
                try rw [hw] at ho5
                have HP5 := Lib.hid (HP.out w5 v5 _ ho5 hg5 hat5)
                obtain ⟨y5, p2⟩ := HP5.out.2.1
                have p3 := HP5.out.2.2.1
                have q1 := HP5.out.2.2.2
                have q2 := HPb.out w5 _ hg5
                obtain ⟨a6, c6, rfl⟩ := own_form ho5
                clear ho5 hg5 hat5
                refine hK.out _ _ ?_ (fun hNew => ?_)
                · (try dsimp only); exact ⟨q1, q2⟩
                clear hK K hHeld
                have hHeld := hNew
                clear hNew
                refine (wpAnyH_take (i := 18) (v := ?_) rfl (by kernel_rfl) (by kernel_rfl) (by kernel_rfl) (fun _ _ _ h => h) (Or.inl ⟨by rfl, ?_⟩) (by assumption) ?_)
                rotate_left 1
                · (intro w hSw; (try dsimp only at hSw); (go_simp) <;> with_reducible rfl)
                try simp only [Act.put, List.setIfInBounds_toArray]
                refine wpAnyH_ready (rs := [19]) (by kernel_rfl) (by simp) ?_
                refine AllReadyH.cons rfl (fun K hK => ?_) ?_
                · go_simp
                  refine hK.out _ _ ?_ (fun hNew => ?_)
                  · (try dsimp only); exact ⟨(set_cell_ne _ _ _ _ _ _ hdg).trans q1, (set_cell_ne _ _ _ _ _ _ hgo1).trans q2⟩
                  clear hK K hHeld
                  have hHeld := hNew
                  clear hNew
                  refine wpAnyH_done (by kernel_rfl) ?_ _
                  have HPx := Lib.hid HP5.out.1
                  clear HP5 p2 p3 q1 q2 y5 hHeld
                  go_wp2_with fail
                  exact ⟨⟨j + 1, by omega, by go_num, Lib.hid (by rw [HY.out]; exact HPx.out)⟩, by simp [intOf]; omega⟩
                exact AllReadyH.nil
              exact AllReadyH.nil
            exact AllReadyH.nil
          exact AllReadyH.nil
        · obtain rfl : j = n := by omega
          have hr9 := HS.out.r
          have d0 := HS.out.cells.2.1
          have z0 := cell_of (i := 0) hr9 rfl
          have z1 := cell_of (i := 1) hr9 rfl
          have f0 : ∀ i, wr.frozen? ⟨w.heap.size + 1, i, none⟩ = false := fun i => free_of hr9
          obtain ⟨e7, e8⟩ := res_bay (.int .i64 h) (.slice (some ⟨g, 0, none⟩) k cs) z0 z1
          clear hr9
          go_wp2_with fail
          refine bodyPost_ret (v := .agg #[.int .i64 h, .slice (some ⟨g, 0, none⟩) k cs]) (by simp [results, Try.results20, go_sem, e7, e8]) rfl ?_
          refine ⟨_, _, by rw [bayZ_len], ?_, (HS.out.bl.setCell (p := ⟨w.heap.size + 1, 0, none⟩) (by show w.heap.size ≤ w.heap.size + 1; omega) _).setCell (p := ⟨w.heap.size + 1, 1, none⟩) (by show w.heap.size ≤ w.heap.size + 1; omega) _⟩
          rw [bayZ_len]
          exact (HS.out.own.span (span_res wr (w.heap.size + 1) _ _) (.inr (by omega))).mono (by omega) (by simp) (Nat.le_refl _)
end Go.Proofs.Ytjplbcfpbggnnaa
