/-
  Lists of ints that lie in a block of ints; impl.portsOf; what lies below a container. No statement of the seat by itself.
-/
import Derived.Test.YtpflnjjckeeihaaZPbI
import Derived.Test.YtpflnjjckeeihaaZLo
namespace Go.Proofs.Ytpflnjjckeeihaa
open Go.RowKit

/-- A slice that reads as a list of ints, in a block of ints. -/
def TL (w : World) (v : Value) (l : List Int) : Prop := ∃ a c, v = .slice a l.length c ∧ (0 < l.length → ∃ g off cur, a = some ⟨g, off, none⟩ ∧ w.heap[g]? = some (Obj.cells cur 3 (0, 0)) ∧ ∀ (j : Nat) (x : Int), l[j]? = some x → cur[off + j]? = some (.int .i64 x))
theorem TL.il {w : World} {v : Value} {l : List Int} (h : TL w v l) : IL w v l := by
  obtain ⟨a, c, rfl, h⟩ := h
  refine ⟨a, c, rfl, fun h0 => ?_⟩
  obtain ⟨g, off, cur, rfl, hg, hc⟩ := h h0
  exact ⟨g, off, rfl, mem_lt hg, fun j x hx => cell_of hg (hc j x hx)⟩
theorem TL.keep {w w' : World} {v : Value} {l : List Int} (h : TL w v l) (hk : ∀ (g : Nat) (cur : Array Value), w.heap[g]? = some (Obj.cells cur 3 (0, 0)) → w'.heap[g]? = some (Obj.cells cur 3 (0, 0))) : TL w' v l := by
  obtain ⟨a, c, rfl, h⟩ := h
  refine ⟨a, c, rfl, fun h0 => ?_⟩
  obtain ⟨g, off, cur, rfl, hg, hc⟩ := h h0
  exact ⟨g, off, cur, rfl, hk g cur hg, hc⟩
theorem TL.below {w w' : World} {v : Value} {l : List Int} (h : TL w v l) (hb : Below w.heap.size w w') : TL w' v l := h.keep fun g _ hg => (hb.block g (mem_lt hg)).trans hg
theorem tl_of_owns {W : World} {base : Nat} {v : Value} {l : List Int} (h : W.ownsRow base 3 1 v l.length (intV l)) : TL W v l := by
  obtain ⟨a, c, rfl⟩ := own_form h
  refine ⟨a, c, rfl, fun h0 => ?_⟩
  rcases h.2 with ⟨_, hz⟩ | ⟨g, cap, cur, hv, hg, hb, h1, h2, h3, h4⟩
  · omega
  · injection hv with e1 e2 e3
    subst e1 e3
    refine ⟨g, 0, cur, rfl, hb, fun j x hx => ?_⟩
    have hj := lt_of_get hx
    have hc := h.cellAt j (by omega)
    rw [intV_get, hx] at hc
    simpa [World.cell?, hb] using hc
/-- The first of a list, read through a shorter slice. -/
theorem tl_take {w : World} {a : Option Addr} {n c c' k : Nat} {l : List Int} (h : TL w (.slice a n c) l) (hn : l.length = n) (hk : k ≤ n) : TL w (.slice a k c') (l.take k) := by
  obtain ⟨a', c2, e, h⟩ := h
  injection e with e1 e2 e3
  subst e1
  refine ⟨a, c', by rw [List.length_take]; congr 1; omega, fun h0 => ?_⟩
  rw [List.length_take] at h0
  obtain ⟨g, off, cur, rfl, hg, hc⟩ := h (by omega)
  refine ⟨g, off, cur, rfl, hg, fun j x hx => ?_⟩
  rw [List.getElem?_take] at hx
  split at hx
  · exact hc j x hx
  · cases hx

theorem rowZ_take {O : List Int} {j : Nat} : ∀ {n t i : Nat}, t < (rowZ O n j).length → (rowZ O n j).getD t 0 = (i : Int) + 1 → (rowZ O n j).take t = rowZ O i j := by
  intro n
  induction n with
  | zero => intro t i ht; simp [rowZ_zero] at ht
  | succ n ih =>
    intro t i ht e
    by_cases q : (O.getD n 0).toNat = j
    · rw [rowZ_yes q] at ht e ⊢
      rw [List.length_append, List.length_singleton] at ht
      by_cases h : t < (rowZ O n j).length
      · rw [List.take_append_of_le_length (by omega)]
        refine ih h ?_
        rw [List.getD, List.getElem?_append_left h] at e
        exact e
      · have ht2 : t = (rowZ O n j).length := by omega
        subst ht2
        rw [List.getD, List.getElem?_append_right (Nat.le_refl _)] at e
        simp at e
        rw [List.take_left]
        rw [show i = n by omega]
    · rw [rowZ_no q] at ht e ⊢
      exact ih ht e
/-- The ports of the containers below one. -/
def blZ (P O : List Int) (i : Nat) : List Int := (rowZ O i (O.getD i 0).toNat).map (ptZ P)
theorem blZ_at {P O : List Int} {n t i j : Nat} (ht : t < (rowZ O n j).length) (e : (rowZ O n j).getD t 0 = (i : Int) + 1) : ((rowZ O n j).map (ptZ P)).take t = blZ P O i := by
  have hj : (O.getD i 0).toNat = j := by
    obtain ⟨i', -, h2, h3⟩ := rowZ_at ht
    have : i = i' := by omega
    rw [this]; exact h2
  rw [← List.map_take, rowZ_take ht e, blZ, hj]
theorem blZ_len (P O : List Int) (i : Nat) : (blZ P O i).length ≤ i := by
  unfold blZ
  rw [List.length_map]
  exact rowZ_len O _ i
theorem blZ_mem {P O : List Int} {i : Nat} {x : Int} : x ∈ blZ P O i ↔ ∃ m : Nat, m < i ∧ (O.getD m 0).toNat = (O.getD i 0).toNat ∧ x = P.getD m 0 := by
  unfold blZ
  rw [List.mem_map]
  constructor
  · rintro ⟨y, hy, rfl⟩
    obtain ⟨m, h1, h2, rfl⟩ := rowZ_mem.1 hy
    exact ⟨m, h1, h2, ptZ_at P m⟩
  · rintro ⟨m, h1, h2, rfl⟩
    exact ⟨_, rowZ_mem.2 ⟨m, h1, h2, rfl⟩, ptZ_at P m⟩
theorem shB_ear {P O : List Int} {i : Nat} (h : P.getD i 0 ≤ 9) : shB P O i = decide (earL (blZ P O i) < P.getD i 0) := by
  refine Bool.eq_iff_iff.2 ?_
  rw [shB_iff, decide_eq_true_iff, earL_lt]
  constructor
  · rintro ⟨m, h1, h2, h3⟩
    exact .inr ⟨_, blZ_mem.2 ⟨m, h1, h2, rfl⟩, h3⟩
  · rintro (h1 | ⟨a, ha, h3⟩)
    · omega
    · obtain ⟨m, h1, h2, rfl⟩ := blZ_mem.1 ha
      exact ⟨m, h1, h2, h3⟩

set_option maxRecDepth 100000 in
set_option maxHeartbeats 4000000 in
theorem portsOf_any (v vn : Value) (r h : Int) (P L : List Int) (hn : P.length ≤ 7) (hL : L.length ≤ 100) (hr : ∀ x ∈ L, 1 ≤ x ∧ x ≤ (P.length : Int)) (w : World) (hv : StR w v r h P) (hl : IL w vn L) :
    Calls Try.prog 72 #[v, vn] w (NewN w (L.map (ptZ P))) := by
  obtain ⟨f3, hi3, hz0, hz1, hz2⟩ := info_is info3
  obtain ⟨v0, rfl, hv⟩ := hv
  have C0 := Lib.hid (OrdZ.start w r h v0)
  have HV := Lib.hid hv
  have HI := Lib.hid hl
  have HRg := Lib.hid hr
  obtain ⟨n, hnL⟩ : ∃ n, L.length = n := ⟨_, rfl⟩
  have HN := Lib.hid hnL
  obtain ⟨al, cl, rfl⟩ := hl.form
  obtain ⟨p, hp⟩ : ∃ p, P.length = p := ⟨_, rfl⟩
  have HP := Lib.hid hp
  obtain ⟨ap, cp, rfl⟩ := hv.form
  rw [hp] at HV C0 hn HRg
  rw [hnL] at hL HI ⊢
  rw [hp]
  clear hv hl hr hnL hp
  have c2 := C0.out.box.2.2.2
  go_enter Try.func72, Try.ntmps72
  go_wp2_with fail
  clear c2
  go_loopw [5, 11] (fun s i wr => ∃ k : Nat, k ≤ n ∧ i = .int .i64 k ∧ Hid (OrdZ w wr r h (.slice ap p cp) s ((L.take k).map (ptZ P)))) (fun _ i _ => n - (intOf i).toNat)
  case atStart => exact ⟨0, Nat.zero_le _, rfl, Lib.hid (by simpa using C0.out)⟩
  case round =>
    obtain ⟨k, hk, rfl, HR⟩ := hrel
    rename World => wr
    by_cases hlt : k < n
    · obtain ⟨g, off, rfl, hg, hcc⟩ : ∃ g off, al = some ⟨g, off, none⟩ ∧ g < w.heap.size ∧ ∀ i x, L[i]? = some x → w.cell? ⟨g, off + i, none⟩ = some (.int .i64 x) := by
        obtain ⟨a', c', e, hh⟩ := HI.out
        injection e with e1 e2 e3
        subst e1
        exact hh (by have := HN.out; omega)
      obtain ⟨x, hx⟩ := get_at HN.out hlt
      have hx17 := HRg.out x (List.mem_of_getElem? hx)
      obtain ⟨q, rfl⟩ : ∃ q : Nat, x = (q : Int) + 1 := ⟨(x - 1).toNat, by omega⟩
      obtain ⟨gp, offp, rfl, hgp, hcp⟩ : ∃ go offo, ap = some ⟨go, offo, none⟩ ∧ go < w.heap.size ∧ ∀ i x, P[i]? = some x → w.cell? ⟨go, offo + i, none⟩ = some (.int .i64 x) := by
        obtain ⟨a', c', e, hh⟩ := HV.out
        injection e with e1 e2 e3
        subst e1
        exact hh (by have := HP.out; omega)
      have hqp : q < p := by omega
      obtain ⟨y, hy⟩ := get_at HP.out hqp
      have o1 := (HR.out.bl.cell (p := ⟨g, off + k, none⟩) hg).trans (hcc k _ hx)
      have o2 := (HR.out.bl.cell (p := ⟨gp, offp + q, none⟩) hgp).trans (hcp q y hy)
      obtain ⟨-, -, -, c2⟩ := HR.out.box
      have HT : Hid ((L.take (k + 1)).map (ptZ P) = (L.take k).map (ptZ P) ++ [y]) := Lib.hid (by
        have e : ptZ P ((q : Int) + 1) = y := by rw [ptZ_at, List.getD, hy]; rfl
        rw [List.take_add_one, hx, List.map_append]
        simp [e])
      have hrow := HR.out.own
      have hzz := HR.out.hlt
      have hAl : ((L.take k).map (ptZ P)).length ≤ 100 := by rw [List.length_map, List.length_take]; omega
      have hsub : IntKind.i64.wrap ((q : Int) + 1 - 1) = (q : Int) := by rw [IntKind.wrap_i64]; omega
      have hsb : (q : Int) + 1 - 1 = (q : Int) := by omega
      have HPush := Lib.hid (fun (w4 : World) (v' : Value) (o : Obj) ho hg hn => HR.out.more (w4 := w4) (v' := v') (L := [y]) (below_one wr o) ho hg hn)
      generalize (L.take k).map (ptZ P) = SS at *
      clear hcc hcp hx hy hx17
      go_wp2_with (at_builtin; refine wpList_append_own _ rfl _ _ 24 rfl (w.heap.size + 1) 3 f3 (.int .i64 0) 1 8 Try.underlying24 hi3 hz0 hz1 hz2 rfl (by decide) _ _ _ rfl (hrow.alloc _) ⟨wr.heap.size, 0, none⟩ 1 1 [.int .i64 y] rfl rfl (cell_one_new _ _ _) (by simp [Value.oneCell']) (by unfold maxLen; omega) (by omega) (by simp; omega) ?_; intro v' w4 hown' hgrow hnil)
      have HN4 : Hid (OrdZ w w4 r h (.slice (some ⟨gp, offp, none⟩) p cp) v' ((L.take (k + 1)).map (ptZ P))) := Lib.hid (by
        rw [HT.out]
        exact HPush.out w4 v' _ hown' hgrow (fun e => by have := (hnil.1 e).2; omega))
      clear hown' hgrow hnil hrow
      exact ⟨⟨k + 1, by omega, by go_num, HN4⟩, by simp [intOf]; omega⟩
    · obtain rfl : k = n := by omega
      have HF : Hid (L.take k = L) := Lib.hid (by rw [← HN.out]; exact List.take_length)
      go_wp2_with fail
      go_ret
      have h9 := HR.out
      rw [HF.out] at h9
      obtain ⟨g, c, e⟩ := own_some h9.own h9.nn
      exact ⟨g, c, by rw [e]; rfl, by have := h9.own; rw [e] at this; exact this.mono (Nat.le_succ _), h9.bl⟩
end Go.Proofs.Ytpflnjjckeeihaa
