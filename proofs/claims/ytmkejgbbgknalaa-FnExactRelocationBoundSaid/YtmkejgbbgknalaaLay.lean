/-
  What impl.layoutOf and impl.RelocationBound return. No statement of the seat by itself.
-/
import Derived.Test.YtmkejgbbgknalaaBlk
import Derived.Test.YtmkejgbbgknalaaOrd
namespace Go.Proofs.Ytmkejgbbgknalaa
open Go.RowKit

/-- What the layout holds at a place while it is made: i stacks are done, and j numbers of the next one. -/
def layF (Y : List (List Int)) (O : List Int) (i j k : Nat) : Nat := if k < i then encY O Y k else if k = i then encL (digs O ((Y.getD i []).take j)) else 0
theorem layF_row (Y : List (List Int)) (O : List Int) (i k : Nat) : layF Y O i (Y.getD i []).length k = layF Y O (i + 1) 0 k := by
  unfold layF encY
  by_cases h1 : k < i
  · rw [if_pos h1, if_pos (by omega)]
  · rw [if_neg h1]
    by_cases h2 : k = i
    · subst h2
      rw [if_pos rfl, if_pos (by omega), List.take_length]
    · rw [if_neg h2, if_neg (by omega)]
      split
      · simp [digs, encL]
      · rfl
theorem layF_start (Y : List (List Int)) (O : List Int) (k : Nat) : layF Y O 0 0 k = 0 := by
  unfold layF
  rw [if_neg (by omega)]
  split
  · simp [digs, encL]
  · rfl
theorem layF_end (Y : List (List Int)) (O : List Int) (k : Nat) : layF Y O Y.length 0 k = encY O Y k := by
  unfold layF encY
  by_cases h1 : k < Y.length
  · rw [if_pos h1]
  · have e1 : Y.getD k [] = [] := by rw [List.getD, List.getElem?_eq_none (by omega)]; rfl
    have e2 : Y.getD Y.length [] = [] := by rw [List.getD, List.getElem?_eq_none (Nat.le_refl _)]; rfl
    rw [if_neg h1, e1, e2]
    simp [digs, encL]
/-- The box of the layout holds six numbers. -/
def LayB (W : World) (b : Nat) (f : Nat → Nat) : Prop := ∃ cur : Array Value, W.heap[b]? = some (.cells cur 91 (0, 0)) ∧ cur.size = 6 ∧ ∀ k, k < 6 → cur[k]? = some (.int .i64 (f k : Int))
theorem LayB.below {W W' : World} {b : Nat} {f : Nat → Nat} (h : LayB W b f) (hb : Below W.heap.size W W') : LayB W' b f := by
  obtain ⟨cur, h1, h2⟩ := h
  exact ⟨cur, (hb.block b (Array.getElem?_eq_some_iff.1 h1).1).trans h1, h2⟩
theorem LayB.cell {W : World} {b : Nat} {f : Nat → Nat} (h : LayB W b f) {k : Nat} (hk : k < 6) : W.cell? ⟨b, k, none⟩ = some (.int .i64 (f k : Int)) ∧ W.frozen? ⟨b, k, none⟩ = false := by
  obtain ⟨cur, h1, h2, h3⟩ := h
  exact ⟨cell_of h1 (h3 k hk), free_of h1⟩
theorem LayB.set {W : World} {b k : Nat} {f g : Nat → Nat} {x : Int} (h : LayB W b f) (hk : k < 6) (hx : x = (g k : Int)) (hg : ∀ j, j < 6 → j ≠ k → g j = f j) : LayB (W.setCell ⟨b, k, none⟩ (.int .i64 x)) b g := by
  obtain ⟨cur, h1, h2, h3⟩ := h
  refine ⟨cur.setIfInBounds k (.int .i64 x), Lib.heap_setCell_same h1 _, by simpa using h2, fun j hj => ?_⟩
  by_cases e : k = j
  · subst e; rw [Array.getElem?_setIfInBounds_self_of_lt (by omega), hx]
  · rw [Array.getElem?_setIfInBounds_ne e, h3 j hj, hg j hj (fun h => e h.symm)]
theorem digI {O : List Int} {x : Int} : (if 0 ≤ atI O x then atI O x + 1 else 9) = (dig O x : Int) := by
  unfold atI dig
  cases atL O x with
  | none => rfl
  | some k =>
    simp
/-- While a layout is made. -/
def LayS (w wr : World) (v0 : Value) (f : Nat → Nat) : Prop := Below w.heap.size w wr ∧ Box1 wr w.heap.size v0 ∧ LayB wr (w.heap.size + 1 + 1) f ∧ wr.heap[w.heap.size + 1]? = some (.cells #[.int .i64 0, .int .i64 0, .int .i64 0, .int .i64 0, .int .i64 0, .int .i64 0] 91 (0, 0))
theorem LayS.set {w wr : World} {v0 : Value} {k : Nat} {f g : Nat → Nat} {x : Int} (h : LayS w wr v0 f) (hk : k < 6) (hx : x = (g k : Int)) (hg : ∀ j, j < 6 → j ≠ k → g j = f j) : LayS w (wr.setCell ⟨w.heap.size + 1 + 1, k, none⟩ (.int .i64 x)) v0 g := by
  obtain ⟨h1, h2, h3, h4⟩ := h
  exact ⟨h1.setCell (p := ⟨w.heap.size + 1 + 1, k, none⟩) (by show w.heap.size ≤ w.heap.size + 1 + 1; omega) _, h2.span (span_set (Nat.le_refl (w.heap.size + 1 + 1)) (Nat.lt_succ_self _) _) (.inl (by omega)), h3.set hk hx hg, (Below.heap_setCell wr ⟨w.heap.size + 1 + 1, k, none⟩ _ _ (by show w.heap.size + 1 ≠ w.heap.size + 1 + 1; omega)).trans h4⟩

theorem six_set {W : World} {b : Nat} {T : TypeId} {x0 x1 x2 x3 x4 x5 z0 z1 z2 z3 z4 z5 : Value} (h : W.heap[b]? = some (.cells #[z0, z1, z2, z3, z4, z5] T (0, 0))) :
    ((((((W.setCell ⟨b, 0, none⟩ x0).setCell ⟨b, 1, none⟩ x1).setCell ⟨b, 2, none⟩ x2).setCell ⟨b, 3, none⟩ x3).setCell ⟨b, 4, none⟩ x4).setCell ⟨b, 5, none⟩ x5).heap[b]? = some (.cells #[x0, x1, x2, x3, x4, x5] T (0, 0)) := by
  have h0 : (W.setCell ⟨b, 0, none⟩ x0).heap[b]? = some (.cells #[x0, z1, z2, z3, z4, z5] T (0, 0)) := Lib.heap_setCell_same h x0
  have h1 : ((W.setCell ⟨b, 0, none⟩ x0).setCell ⟨b, 1, none⟩ x1).heap[b]? = some (.cells #[x0, x1, z2, z3, z4, z5] T (0, 0)) := Lib.heap_setCell_same h0 x1
  have h2 : (((W.setCell ⟨b, 0, none⟩ x0).setCell ⟨b, 1, none⟩ x1).setCell ⟨b, 2, none⟩ x2).heap[b]? = some (.cells #[x0, x1, x2, z3, z4, z5] T (0, 0)) := Lib.heap_setCell_same h1 x2
  have h3 : ((((W.setCell ⟨b, 0, none⟩ x0).setCell ⟨b, 1, none⟩ x1).setCell ⟨b, 2, none⟩ x2).setCell ⟨b, 3, none⟩ x3).heap[b]? = some (.cells #[x0, x1, x2, x3, z4, z5] T (0, 0)) := Lib.heap_setCell_same h2 x3
  have h4 : (((((W.setCell ⟨b, 0, none⟩ x0).setCell ⟨b, 1, none⟩ x1).setCell ⟨b, 2, none⟩ x2).setCell ⟨b, 3, none⟩ x3).setCell ⟨b, 4, none⟩ x4).heap[b]? = some (.cells #[x0, x1, x2, x3, x4, z5] T (0, 0)) := Lib.heap_setCell_same h3 x4
  exact Lib.heap_setCell_same h4 x5

set_option maxRecDepth 100000 in
set_option maxHeartbeats 4000000 in
theorem layout_any (v vo : Value) (Y : List (List Int)) (O : List Int) (hg : goodY Y = true) (hO : O.length ≤ 8) (w : World) (h : YdR w v Y) (ho : IL w vo O) :
    Calls Try.prog 75 #[v, vo] w (RetP w (layV (encY O Y))) := by
  obtain ⟨v0, rfl, a, cap, rfl, hc⟩ := h
  have hsm := good_small hg
  have hr4 := (goodY_iff.1 hg).2.2.1
  obtain ⟨n, hn⟩ : ∃ n, Y.length = n := ⟨_, rfl⟩
  have HN := Lib.hid hn
  have HC := Lib.hid hc
  have HO := Lib.hid ho
  obtain ⟨oa, oc, rfl⟩ := ho.form
  have HIx : Hid (∀ x W, Below w.heap.size w W → Calls Try.prog 90 #[.slice oa O.length oc, .int .i64 x] W fun e w' => e = .returned (.int .i64 (atI O x)) ∧ W = w') := Lib.hid fun x W hb => index_any _ O x (by unfold maxLen; omega) W (ho.below hb)
  have HDg : Hid (∀ x, -1 ≤ atI O x ∧ atI O x ≤ 7) := Lib.hid fun x => by
    unfold atI
    cases ha : atL O x with
    | none => exact ⟨by decide, by decide⟩
    | some k => have := atL_lt ha; exact ⟨by show -1 ≤ (k : Int); omega, by show (k : Int) ≤ 7; omega⟩
  have HEn : Hid (∀ i j, encL (digs O ((Y.getD i []).take j)) ≤ 10000) := Lib.hid fun i j => by
    have hl : ((Y.getD i []).take j).length ≤ 4 := by
      have : (Y.getD i []).length ≤ 4 := by
        rcases Nat.lt_or_ge i Y.length with hs | hs
        · rw [getD_of (List.getElem?_eq_getElem hs)]; exact hr4 _ (List.getElem_mem hs)
        · rw [List.getD, List.getElem?_eq_none hs]; simp
      rw [List.length_take]; omega
    have := encL_le _ (digs O ((Y.getD i []).take j)) rfl fun d hd => by
      obtain ⟨x, _, rfl⟩ := List.mem_map.1 hd
      exact (dig_in hO x).2
    rw [digs_len] at this
    have h2 : 10 ^ ((Y.getD i []).take j).length ≤ 10 ^ 4 := Nat.pow_le_pow_right (by decide) hl
    omega
  have HR4 := Lib.hid hr4
  have hn6 : n ≤ 6 := by omega
  rw [hn]
  have R0 : Hid (LayS w (((w.alloc (.cells #[.slice a n cap] 28)).alloc (.cells #[.int .i64 0, .int .i64 0, .int .i64 0, .int .i64 0, .int .i64 0, .int .i64 0] 91)).alloc (.cells #[.int .i64 0, .int .i64 0, .int .i64 0, .int .i64 0, .int .i64 0, .int .i64 0] 91)) (.slice a n cap) (layF Y O 0 0)) := Lib.hid (by
    obtain ⟨h0, h1, h2, hs, hb⟩ := three_alloc w (.cells #[.slice a n cap] 28) (.cells #[.int .i64 0, .int .i64 0, .int .i64 0, .int .i64 0, .int .i64 0, .int .i64 0] 91) (.cells #[.int .i64 0, .int .i64 0, .int .i64 0, .int .i64 0, .int .i64 0, .int .i64 0] 91)
    have hz : ∀ k, k < 6 → (#[Value.int .i64 0, .int .i64 0, .int .i64 0, .int .i64 0, .int .i64 0, .int .i64 0] : Array Value)[k]? = some (.int .i64 ((0 : Nat) : Int)) := fun k hk => by
      match k, hk with
      | 0, _ => rfl
      | 1, _ => rfl
      | 2, _ => rfl
      | 3, _ => rfl
      | 4, _ => rfl
      | 5, _ => rfl
    exact ⟨hb, ⟨by rw [hs]; omega, cell_of h0 rfl⟩, ⟨_, h2, rfl, fun k hk => by rw [layF_start]; exact hz k hk⟩, h1⟩)
  have c0 := R0.out.2.1.2
  clear hc ho hr4 hsm hn
  go_enter Try.func75, Try.ntmps75
  go_wp2_with fail
  generalize ((w.alloc (.cells #[.slice a n cap] 28)).alloc (.cells #[.int .i64 0, .int .i64 0, .int .i64 0, .int .i64 0, .int .i64 0, .int .i64 0] 91)).alloc (.cells #[.int .i64 0, .int .i64 0, .int .i64 0, .int .i64 0, .int .i64 0, .int .i64 0] 91) = W at *
  clear c0
  go_loopw [6, 7, 9, 10, 11, 15] (fun _ _ _ _ _ i wr => ∃ k : Nat, k ≤ n ∧ i = .int .i64 k ∧ Hid (LayS w wr (.slice a n cap) (layF Y O k 0))) (fun _ _ _ _ _ i _ => n - (intOf i).toNat)
  case atStart => exact ⟨0, Nat.zero_le _, rfl, R0⟩
  case round =>
    obtain ⟨k, hk, rfl, HR⟩ := hrel
    rename World => wo
    by_cases hlt : k < n
    · obtain ⟨l, hl⟩ := get_at HN.out hlt
      obtain ⟨g, off, rfl, hg0, hcc⟩ := HC.out (by have := HN.out; omega)
      obtain ⟨u, hu', hil⟩ := hcc k l hl
      have hu := (HR.out.1.cell (p := ⟨g, off + k, none⟩) hg0).trans hu'
      obtain ⟨a2, c2, rfl, hrow⟩ := hil
      have HRow := Lib.hid hrow
      have HL := Lib.hid hl
      obtain ⟨m, hm⟩ : ∃ m, l.length = m := ⟨_, rfl⟩
      have HM := Lib.hid hm
      have hm4 : m ≤ 4 := by have := HR4.out l (List.mem_of_getElem? hl); omega
      have hkI : (k : Int) < (n : Int) := by omega
      have hk6 : (k : Int) < 6 := by omega
      rw [hm] at hu
      clear hcc hrow hl hm hu'
      go_wp2_with fail
      go_loopw [9, 10, 11, 22] (fun _ _ _ j wr => ∃ q : Nat, q ≤ m ∧ j = .int .i64 q ∧ Hid (LayS w wr (.slice (some ⟨g, off, none⟩) n cap) (layF Y O k q))) (fun _ _ _ j _ => m - (intOf j).toNat)
      case atStart => exact ⟨0, Nat.zero_le _, rfl, HR⟩
      case round =>
        clear hu
        obtain ⟨q, hq, rfl, HQ⟩ := hrel
        by_cases hqm : q < m
        · obtain ⟨x, hx⟩ := get_at HM.out hqm
          obtain ⟨g2, off2, rfl, hg2, hcc2⟩ := HRow.out (by have := HM.out; omega)
          have hx1 := (HQ.out.1.cell (p := ⟨g2, off2 + q, none⟩) hg2).trans (hcc2 q x hx)
          obtain ⟨E, hE⟩ : ∃ E, layF Y O k q k = E := ⟨_, rfl⟩
          have hE1 : E ≤ 10000 := by
            rw [← hE]
            unfold layF
            rw [if_neg (by omega), if_pos rfl]
            exact HEn.out k q
          have hD := HDg.out x
          have HI := Lib.hid (HIx.out x wr HQ.out.1)
          obtain ⟨y0, z0⟩ := HQ.out.2.2.1.cell (k := k) (by omega)
          rw [hE] at y0
          have HNew : Hid (layF Y O k (q + 1) k = E * 10 + dig O x ∧ ∀ j, j < 6 → j ≠ k → layF Y O k (q + 1) j = layF Y O k q j) := Lib.hid (by
            constructor
            · rw [← hE]
              unfold layF
              rw [if_neg (by omega), if_pos rfl, if_neg (by omega), if_pos rfl, getD_of HL.out, take_next hx]
              simp only [digs, List.map_append, List.map_cons, List.map_nil]
              rw [encL_snoc]
            · intro j _ hjk
              unfold layF
              by_cases h1 : j < k
              · rw [if_pos h1, if_pos h1]
              · rw [if_neg h1, if_neg h1, if_neg hjk, if_neg hjk])
          have HDI := Lib.hid (digI (O := O) (x := x))
          generalize atI O x = ix at *
          clear hcc2 hx hE
          by_cases hix : 0 ≤ ix
          · have hds := HDI.out
            rw [if_pos hix] at hds
            have HT := Lib.hid (HQ.out.set (k := k) (x := (E : Int) * 10 + (ix + 1)) (by omega) (by rw [HNew.out.1, hds]; simp) HNew.out.2)
            clear hds
            go_wp2_with fail
            refine HI.out.mono ?_
            rintro e w1 ⟨rfl, rfl⟩
            go_wp2_with fail
            exact ⟨⟨q + 1, by omega, by go_num, HT⟩, by simp [intOf]; omega⟩
          · have hds := HDI.out
            rw [if_neg hix] at hds
            have HT := Lib.hid (HQ.out.set (k := k) (x := (E : Int) * 10 + 9) (by omega) (by rw [HNew.out.1]; simp; omega) HNew.out.2)
            clear hds
            go_wp2_with fail
            refine HI.out.mono ?_
            rintro e w1 ⟨rfl, rfl⟩
            go_wp2_with fail
            exact ⟨⟨q + 1, by omega, by go_num, HT⟩, by simp [intOf]; omega⟩
        · obtain rfl : q = m := by omega
          have HNx : Hid (LayS w (‹World›) (.slice (some ⟨g, off, none⟩) n cap) (layF Y O (k + 1) 0)) := Lib.hid (by
            have e : layF Y O k q = layF Y O (k + 1) 0 := funext fun j => by
              have := layF_row Y O k j
              rw [getD_of HL.out, HM.out] at this
              exact this
            have := HQ.out
            rw [e] at this
            exact this)
          go_wp2_with fail
          exact ⟨⟨k + 1, by omega, by go_num, HNx⟩, by simp [intOf]; omega⟩
    · obtain rfl : k = n := by omega
      have e : layF Y O k 0 = encY O Y := funext fun j => by
        have := layF_end Y O j
        rw [HN.out] at this
        exact this
      have h2 := HR.out
      rw [e] at h2
      obtain ⟨h3, h4, h5, h6⟩ := h2
      obtain ⟨y0, -⟩ := h5.cell (k := 0) (by decide)
      obtain ⟨y1, -⟩ := h5.cell (k := 1) (by decide)
      obtain ⟨y2, -⟩ := h5.cell (k := 2) (by decide)
      obtain ⟨y3, -⟩ := h5.cell (k := 3) (by decide)
      obtain ⟨y4, -⟩ := h5.cell (k := 4) (by decide)
      obtain ⟨y5, -⟩ := h5.cell (k := 5) (by decide)
      have j6 := six_set (x0 := .int .i64 (encY O Y 0 : Int)) (x1 := .int .i64 (encY O Y 1 : Int)) (x2 := .int .i64 (encY O Y 2 : Int)) (x3 := .int .i64 (encY O Y 3 : Int)) (x4 := .int .i64 (encY O Y 4 : Int)) (x5 := .int .i64 (encY O Y 5 : Int)) h6
      have z0 := cell_of h6 (i := 0) rfl
      have e0 := cell_of j6 (i := 0) rfl
      have z1 := cell_of h6 (i := 1) rfl
      have e1 := cell_of j6 (i := 1) rfl
      have z2 := cell_of h6 (i := 2) rfl
      have e2 := cell_of j6 (i := 2) rfl
      have z3 := cell_of h6 (i := 3) rfl
      have e3 := cell_of j6 (i := 3) rfl
      have z4 := cell_of h6 (i := 4) rfl
      have e4 := cell_of j6 (i := 4) rfl
      have z5 := cell_of h6 (i := 5) rfl
      have e5 := cell_of j6 (i := 5) rfl
      have fz : ∀ i, wo.frozen? ⟨w.heap.size + 1, i, none⟩ = false := fun _ => free_of h6
      have HB6 : Hid (Below w.heap.size w ((((((wo.setCell ⟨w.heap.size + 1, 0, none⟩ (.int .i64 (encY O Y 0 : Int))).setCell ⟨w.heap.size + 1, 1, none⟩ (.int .i64 (encY O Y 1 : Int))).setCell ⟨w.heap.size + 1, 2, none⟩ (.int .i64 (encY O Y 2 : Int))).setCell ⟨w.heap.size + 1, 3, none⟩ (.int .i64 (encY O Y 3 : Int))).setCell ⟨w.heap.size + 1, 4, none⟩ (.int .i64 (encY O Y 4 : Int))).setCell ⟨w.heap.size + 1, 5, none⟩ (.int .i64 (encY O Y 5 : Int)))) := Lib.hid (((((((h3.setCell (p := ⟨w.heap.size + 1, 0, none⟩) (Nat.le_succ _) _).setCell (p := ⟨w.heap.size + 1, 1, none⟩) (Nat.le_succ _) _).setCell (p := ⟨w.heap.size + 1, 2, none⟩) (Nat.le_succ _) _).setCell (p := ⟨w.heap.size + 1, 3, none⟩) (Nat.le_succ _) _).setCell (p := ⟨w.heap.size + 1, 4, none⟩) (Nat.le_succ _) _).setCell (p := ⟨w.heap.size + 1, 5, none⟩) (Nat.le_succ _) _))
      clear h3 h4 h5 h6 j6
      go_wp2_with fail
      refine bodyPost_ret (v := layV (encY O Y)) (by simp [results, Try.results75, go_sem, e0, e1, e2, e3, e4, e5, layV]) rfl ⟨rfl, HB6.out⟩
end Go.Proofs.Ytmkejgbbgknalaa
