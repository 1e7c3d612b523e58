/-
  What spec.ClearOrder returns. No statement of the seat by itself.
-/
import Derived.Test.YtececghifehjeaaHOvS
import Derived.Test.YtececghifehjeaaHOwn
import Derived.Test.YtececghifehjeaaHPutM
import Derived.Test.YtececghifehjeaaAppF
import Derived.Test.YtececghifehjeaaLawP
namespace Go.Proofs.Ytececghifehjeaa
open Go.RowKit

/-- The clear order that is answered. -/
def clrR (hh : Int) (Y : List (List Int)) : List Int := if goodB hh Y = true then clr (tot Y) Y else []
theorem clr_len : ∀ (f : Nat) (R : List (List Int)), (clr f R).length ≤ f
  | 0, R => by simp [clr]
  | f + 1, R => by
    unfold clr
    split
    · simp
    · simp only [List.length_cons]
      exact Nat.succ_le_succ (clr_len f _)
theorem clrR_len (hh : Int) (Y : List (List Int)) : (clrR hh Y).length ≤ 1048576 := by
  unfold clrR
  split
  · rename_i h
    have := clr_len (tot Y) Y
    have := (goodB_small h).2
    omega
  · simp
/-- A slice's length. -/
def lenV : Value → Nat
  | .slice _ n _ => n
  | _ => 0
theorem box2_outside {w w' : World} {A : Nat} {hh : Int} {x u : Value} (h : Box2 w A hh x) (hg : w.grownBy w' u.ownBlock) (hx : u.ownBlock ≠ some A) : Box2 w' A hh x := by
  have hb := hg.block A h.1 fun e => hx e.symm
  exact ⟨Nat.lt_of_lt_of_le h.1 hg.size, (World.cell?_of_block (a := ⟨A, 0, none⟩) hb).trans h.2.1, (World.cell?_of_block (a := ⟨A, 1, none⟩) hb).trans h.2.2⟩
/-- A row of rows whose rows are known to lie below a block. -/
theorem OwnY.tight {w : World} {B hi hi' g n c : Nat} {Y : List (List Int)} (h : OwnY w B hi' (.slice (some ⟨g, 0, none⟩) n c) Y) (hg : g < hi) (hle : hi ≤ w.heap.size) (hc : ∀ (j : Nat) (l : List Int) (u : Value), Y[j]? = some l → w.cell? ⟨g, j, none⟩ = some u → ∀ b, u.ownBlock = some b → b < hi) :
    OwnY w B hi (.slice (some ⟨g, 0, none⟩) n c) Y := by
  obtain ⟨h1, h2, us, h3, h4, h5, h6⟩ := h
  have hn : n = Y.length := by
    obtain ⟨a, c, e⟩ := own_form h3
    injection e
  subst hn
  refine ⟨hle, fun b hb => ?_, us, h3, h4, fun j u l hu hl => ⟨(h5 j u l hu hl).1, hc j l u hl ?_⟩, h6⟩
  · have e : g = b := by simpa [Value.ownBlock] using hb
    omega
  · have := lt_of_get hl
    rw [h3.cellAt j (by omega)]
    exact hu
/-- While numbers are taken out: the list of those that were, what is left in its box, apart from each other. -/
structure ClS (w wr : World) (hh : Int) (A lo hi g n c : Nat) (R : List (List Int)) (sv : Value) (m : Nat) (O : List Int) : Prop where
  own : wr.ownsRow (w.heap.size + 1) 3 1 sv m (intV O)
  apt : ∀ b, sv.ownBlock = some b → b < lo ∨ A < b
  left : OwnY wr lo hi (.slice (some ⟨g, 0, none⟩) n c) R
  box : Box2 wr A hh (.slice (some ⟨g, 0, none⟩) n c)
  bl : Below w.heap.size w wr
  hlo : w.heap.size + 1 < lo
  hhi : hi ≤ A
section
variable {w wr W w4 : World} {hh : Int} {A lo hi g n c m : Nat} {R : List (List Int)} {sv : Value} {O : List Int}
theorem ClS.below (h : ClS w wr hh A lo hi g n c R sv m O) (hb : Below wr.heap.size wr W) : ClS w W hh A lo hi g n c R sv m O :=
  ⟨row_below h.own hb, h.apt, h.left.below hb, h.box.below hb, h.bl.trans (hb.mono h.bl.size), h.hlo, h.hhi⟩
theorem ClS.drewN (h : ClS w wr hh A lo hi g n c R sv m O) (q : Nat) : ClS w (wr.drewN q) hh A lo hi g n c R sv m O := h.below (below_drewN (Below.refl _ _) q)
theorem ClS.drew (h : ClS w wr hh A lo hi g n c R sv m O) : ClS w wr.drew hh A lo hi g n c R sv m O := h.below ⟨rfl, rfl, rfl, Nat.le_refl _, fun _ _ => rfl⟩
theorem ClS.push {o : Obj} {v' : Value} {x : Int} (h : ClS w wr hh A lo hi g n c R sv m O) (ho : w4.ownsRow (w.heap.size + 1) 3 1 v' (m + 1) (intV O ++ [.int .i64 x])) (hg : (wr.alloc o).grownBy w4 sv.ownBlock) (hf : OneForm (wr.alloc o) w4 sv v' m) :
    ClS w w4 hh A lo hi g n c R v' (m + 1) (O ++ [x]) := by
  have hb := below_one wr o
  have h1 := h.below hb
  have hgl := own_at h.left
  have hhi := h.hhi
  have hAlt := h.box.1
  have hx : ∀ b, sv.ownBlock = some b → b < lo ∨ hi ≤ b := fun b hb => by have := h.apt b hb; omega
  refine ⟨by simpa [intV] using ho, fun b hv => ?_, owny_outside h1.left hg hx, box2_outside h1.box hg fun e => ?_, h1.bl.grown hg h1.bl.size fun j e => by have := row_base h.own j e; omega, h.hlo, h.hhi⟩
  · rcases hf with ⟨g', cap, e1, e2, -⟩ | ⟨e1, -⟩
    · exact h.apt b (by rw [e1]; rw [e2] at hv; exact hv)
    · rw [e1] at hv
      cases hv
      exact .inr (by simp; omega)
  · have := h.apt A e
    omega
theorem ClS.pull {b k mb cb : Nat} {ab : Option Addr} {l : List Int} (h : ClS w wr hh A lo hi g n c R sv m O) (hl : R[b]? = some l) (hm : l.length = mb) (hk : k < mb) (hu : wr.cell? ⟨g, b, none⟩ = some (.slice ab mb cb)) :
    ClS w (wr.setCell ⟨g, b, none⟩ (.slice ab k cb)) hh A lo hi g n c (R.set b (l.take k)) sv m O ∧ mb ≤ cb ∧ wr.frozen? ⟨g, b, none⟩ = false := by
  obtain ⟨u2, hu2, hfz, hou, hub⟩ := h.left.cell hl
  rw [hu] at hu2
  cases hu2
  rw [hm] at hou
  obtain ⟨hmc, ht⟩ := own_take hou hk
  have hgb := own_at h.left
  have hhi := h.hhi
  have hlo := h.hlo
  have hlk : (l.take k).length = k := by rw [List.length_take]; omega
  have hr := h.left.repl (w' := wr) (l' := l.take k) (u' := .slice ab k cb) (lt_of_get hl) hu ⟨rfl, rfl, rfl, Nat.le_refl _, fun _ _ _ => rfl⟩ (by rw [hlk]; exact ht) fun b hb => .inl (by
    have e : (Value.slice ab k cb).ownBlock = (Value.slice ab mb cb).ownBlock := by cases ab <;> rfl
    rw [← e]; exact hb)
  have hS : Span lo hi wr (wr.setCell ⟨g, b, none⟩ (.slice ab k cb)) := span_set hgb.1 hgb.2 _
  refine ⟨⟨own_span h.own hS fun b hb => by have := h.apt b hb; omega, h.apt, ?_, h.box.span hS (.inr h.hhi), Below.span h.bl (hS.lift (by omega)) h.bl.size, h.hlo, h.hhi⟩, hmc, hfz⟩
  refine hr.1.tight hgb.2 (Nat.le_trans h.left.1 hS.size) fun j l2 u hl2 hu2 b2 hb2 => ?_
  by_cases e : j = b
  · subst e
    rw [World.cell?_setCell_same _ _ _ hu] at hu2
    cases hu2
    exact hub b2 (by rw [← hb2]; cases ab <;> rfl)
  · rw [List.getElem?_set_ne (fun e2 => e e2.symm)] at hl2
    obtain ⟨u3, hu3, -, -, hub3⟩ := h.left.cell hl2
    rw [set_cell_at _ _ _ _ _ (fun e2 => e e2.symm), hu3] at hu2
    cases hu2
    exact hub3 b2 hb2
end
/-- The best row so far, as a number. -/
def bestV : Option Nat → Int
  | none => -1
  | some b => (b : Int)
theorem bestV_none {R : List (List Int)} {j : Nat} (h : bestI R j = none) : bestV (bestI R j) = -1 := by rw [h]; rfl
theorem bestV_some {R : List (List Int)} {j b : Nat} (h : bestI R j = some b) : bestV (bestI R j) = (b : Int) := by rw [h]; rfl
/-- What is left, and what is taken, make up the answer. -/
structure ClI (Y : List (List Int)) (n m : Nat) (R : List (List Int)) (O : List Int) : Prop where
  eq : clr (tot Y) Y = O ++ clr (tot R) R
  len : R.length = n
  row : ∀ l ∈ R, l.length ≤ 4
  sum : m + tot R = tot Y
theorem ClI.step {Y R : List (List Int)} {n m b k : Nat} {O l : List Int} {x : Int} (h : ClI Y n m R O) (hb : bestI R R.length = some b) (hl : R[b]? = some l) (hk : l.length = k + 1) (hx : l[k]? = some x) : ClI Y n (m + 1) (R.set b (l.take k)) (O ++ [x]) := by
  have hlt : (l.take k).length = k := by rw [List.length_take]; omega
  refine ⟨by rw [h.eq, clr_step hb hl hk hx]; simp, by rw [List.length_set]; exact h.len, fun r hr => ?_, ?_⟩
  · rcases List.mem_or_eq_of_mem_set hr with hm | rfl
    · exact h.row r hm
    · have := h.row l (List.mem_of_getElem? hl)
      omega
  · have := tot_set (l' := l.take k) hl
    have := h.sum
    omega
theorem ClI.done {Y R : List (List Int)} {n m : Nat} {O : List Int} (h : ClI Y n m R O) (hb : bestI R R.length = none) : clr (tot Y) Y = O := by rw [h.eq, clr_none hb]; simp

set_option maxRecDepth 100000 in
set_option maxHeartbeats 16000000 in
theorem specClr_any (v : Value) (hh : Int) (Y : List (List Int)) (h1 : Y.length ≤ 1048576) (h2 : tot Y ≤ 1048576) (w : World) (h : BdR w v hh Y) :
    Calls Try.prog 39 #[v] w (RetL w (clrR hh Y) (goodB hh Y)) := by
  obtain ⟨v0, rfl, hv⟩ := h
  have S0 := Lib.hid (OvS.start (Box2.new w hh v0 54) (below_one w (.cells #[.int .i64 hh, v0] 54)))
  rw [show (w.alloc (.cells #[.int .i64 hh, v0] 54)).heap.size = w.heap.size + 1 by simp] at S0
  have HG := Lib.hid (goodB_spec (.agg #[.int .i64 hh, v0]) hh Y h1 h2 _ ⟨v0, rfl, hv.below S0.out.bl⟩)
  have HCp := Lib.hid (fun W hb => l9Own_any (.agg #[.int .i64 hh, v0]) hh Y h1 h2 W ⟨v0, rfl, hv.below hb⟩)
  unfold NewBd at HCp
  have c0 := S0.out.box.2.1
  have c0b := S0.out.box.2.2
  clear hv
  cases hg : goodB hh Y with
  | false =>
    have HX : Hid (clrR hh Y = []) := Lib.hid (by simp [clrR, hg])
    rw [hg] at HG
    clear hg h1 h2
    go_enter Try.func39, Try.ntmps39
    go_wp2_with fail
    generalize (w.alloc (.cells #[.int .i64 hh, v0] 54)).alloc (.cells #[] 3) = w0 at *
    refine HG.out.mono ?_
    rintro e w1 ⟨rfl, hb⟩
    have S1 := Lib.hid (S0.out.below hb)
    clear hb c0 c0b
    go_wp2_with fail
    go_ret2
    rw [HX.out]
    exact retL_of (by simpa using S1.out.own) (Nat.le_succ _) S1.out.bl
  | true =>
    obtain ⟨g1, g5, g4, -⟩ := goodB_rows hg
    have HX : Hid (clrR hh Y = clr (tot Y) Y) := Lib.hid (by simp [clrR, hg])
    have htot := (goodB_small hg).2
    obtain ⟨n, hn⟩ : ∃ n, Y.length = n := ⟨_, rfl⟩
    have HN := Lib.hid hn
    have HI0 : Hid (ClI Y n 0 Y []) := Lib.hid ⟨rfl, hn, g4, by omega⟩
    rw [hn] at HCp g1 g5
    obtain ⟨ty, hty⟩ : ∃ ty, tot Y = ty := ⟨_, rfl⟩
    have HTY := Lib.hid hty
    rw [hty] at htot
    rw [hg] at HG
    clear hg hn h1 h2 g4 hty
    go_enter Try.func39, Try.ntmps39
    go_wp2_with fail
    generalize (w.alloc (.cells #[.int .i64 hh, v0] 54)).alloc (.cells #[] 3) = w0 at *
    refine HG.out.mono ?_
    rintro e w1 ⟨rfl, hb⟩
    have S1 := Lib.hid (S0.out.below hb)
    have c1 := S1.out.box.2.1
    have c1b := S1.out.box.2.2
    have HZ1 : Hid (w.heap.size + 1 < w1.heap.size) := Lib.hid (by have h9 : w.heap.size + 1 < w0.heap.size := row_lt S0.out.own _ rfl; have := hb.size; omega)
    clear hb c0 c0b
    go_wp2_with fail
    refine (HCp.out _ S1.out.bl).mono ?_
    rintro e w2 ⟨a2, c2, rfl, ho, hb⟩
    obtain ⟨g, cap, e⟩ := ho.rows (by have := HN.out; omega)
    injection e with e1 e2 e3
    subst e1 e3
    have S2 := Lib.hid (S1.out.below hb)
    have O2 := Lib.hid ho
    have HZ2 := Lib.hid hb.size
    clear hb ho c1 c1b e2
    go_wp2_with fail
    have CL : Hid (ClS w (w2.alloc (.cells #[.int .i64 hh, .slice (some ⟨g, 0, none⟩) n c2] 54)) hh w2.heap.size w1.heap.size w2.heap.size g n c2 Y (.slice (some ⟨w.heap.size + 1, 0, none⟩) 0 0) 0 []) := Lib.hid (by
      have hb3 := below_one w2 (.cells #[.int .i64 hh, .slice (some ⟨g, 0, none⟩) n c2] 54)
      exact ⟨row_below S2.out.own hb3, fun b hb => by have e : w.heap.size + 1 = b := (by simpa [Value.ownBlock] using hb); have := HZ1.out; omega, O2.out.below hb3, Box2.new _ _ _ _, S2.out.bl.trans (hb3.mono S2.out.bl.size), HZ1.out, Nat.le_refl _⟩)
    generalize w2.alloc (.cells #[.int .i64 hh, .slice (some ⟨g, 0, none⟩) n c2] 54) = w3 at *
    obtain ⟨A, hA⟩ : ∃ A, w2.heap.size = A := ⟨_, rfl⟩
    rw [hA] at CL ⊢
    clear hA HZ1 HZ2 O2 S2 S1 S0
    generalize w1.heap.size = lo at *
    go_loopw [4, 6, 7, 8, 9] (fun s _ _ _ _ wr => ∃ (m : Nat) (R : List (List Int)) (O : List Int), lenV s = m ∧ m ≤ ty ∧ Hid (ClS w wr hh A lo A g n c2 R s m O) ∧ Hid (ClI Y n m R O)) (fun s _ _ _ _ _ => ty - lenV s)
    case atStart => exact ⟨0, Y, [], rfl, Nat.zero_le _, CL, HI0⟩
    case round =>
      obtain ⟨m, R, O, hlv, hmt, HS, HI⟩ := hrel
      rename World => wo
      go_wp2_with fail
      go_loopw [6, 7, 8] (fun bb ii _ wr => ∃ j : Nat, j ≤ n ∧ ii = .int .i64 j ∧ bb = .int .i64 (bestV (bestI R j)) ∧ Hid (ClS w wr hh A lo A g n c2 R u4 m O)) (fun _ ii _ _ => n - (intOf ii).toNat)
      case atStart => exact ⟨0, Nat.zero_le _, rfl, rfl, HS⟩
      case round =>
        obtain ⟨j, hj, rfl, rfl, HS1⟩ := hrel
        rename World => wi
        have cA := HS1.out.box.2.2
        by_cases hjn : j < n
        · obtain ⟨l, hl⟩ := get_at HI.out.len hjn
          obtain ⟨u, hu, -, hou, -⟩ := HS1.out.left.cell hl
          obtain ⟨a4, c4, rfl⟩ := own_form hou
          have hl4 := HI.out.row l (List.mem_of_getElem? hl)
          have HIL := Lib.hid (il_of_owns hou)
          obtain ⟨q0, hq0⟩ : ∃ q0, l.length = q0 := ⟨_, rfl⟩
          rw [hq0] at hu HIL hl4
          clear hou
          obtain ⟨bb, hbb⟩ : ∃ bb, bestV (bestI R j) = bb := ⟨_, rfl⟩
          have HBB := Lib.hid hbb
          rw [hbb]
          clear hbb
          by_cases hz : q0 = 0
          · have HB : Hid (bestV (bestI R (j + 1)) = bb) := Lib.hid (by rw [bestI_empty hl (by omega)]; exact HBB.out)
            have hz1 : decide ((0 : Int) < (q0 : Int)) = false := by simp; omega
            have hz2 : ¬ 0 < q0 := by omega
            clear hl hq0 hz
            go_wp2_with fail
            go_quiet (fail)
            go_wp2_with fail
            exact ⟨⟨j + 1, by omega, by go_num, by rw [HB.out], Lib.hid (HS1.out.drewN _)⟩, by simp [intOf]; omega⟩
          · obtain ⟨q, hq⟩ : ∃ q, q0 = q + 1 := ⟨q0 - 1, by omega⟩
            have hz1 : decide ((0 : Int) < (q0 : Int)) = true := by simp; omega
            have hz2 : 0 < q0 := by omega
            have hsub : (q0 : Int) - 1 = (q : Int) := by omega
            have hqI : (q : Int) < (q0 : Int) := by omega
            obtain ⟨x, hx⟩ := get_at (k := q) hq0 (by omega)
            cases hb : bestI R j with
            | none =>
              have HB : Hid (bestV (bestI R (j + 1)) = (j : Int)) := Lib.hid (bestV_some (bestI_first hl (by omega) hx hb))
              obtain rfl : bb = -1 := by rw [← HBB.out]; exact bestV_none hb
              clear hl hq0 hz hx hb hq
              go_wp2_with fail
              go_quiet (fail)
              go_wp2_with fail
              exact ⟨⟨j + 1, by omega, by go_num, by rw [HB.out], Lib.hid (HS1.out.drewN _)⟩, by simp [intOf]; omega⟩
            | some b =>
              obtain ⟨hbj, z, hz9, -⟩ := bestI_some hb
              obtain ⟨lb, hlb⟩ := get_at (k := b) HI.out.len (by omega)
              rw [getD_of hlb] at hz9
              obtain ⟨mb, hmb⟩ : ∃ mb, lb.length = mb := ⟨_, rfl⟩
              have hmb0 : ¬ mb = 0 := fun e => by rw [List.eq_nil_of_length_eq_zero (hmb.trans e)] at hz9; cases hz9
              obtain ⟨qb, hqb⟩ : ∃ qb, mb = qb + 1 := ⟨mb - 1, by omega⟩
              rw [tpO_of (k := qb) (by omega)] at hz9
              obtain ⟨ub, hub, -, houb, -⟩ := HS1.out.left.cell hlb
              obtain ⟨ab, cb, rfl⟩ := own_form houb
              have hmb4 := HI.out.row lb (List.mem_of_getElem? hlb)
              have HILb := Lib.hid (il_of_owns houb)
              rw [hmb] at hub HILb hmb4
              have hsubb : (mb : Int) - 1 = (qb : Int) := by omega
              have hqbI : (qb : Int) < (mb : Int) := by omega
              have HB := Lib.hid (bestI_next hl (by omega) hx hb hlb (by omega) hz9)
              obtain rfl : bb = (b : Int) := by rw [← HBB.out]; exact bestV_some hb
              have hb0 : ¬ (b : Int) < 0 := by omega
              have hb0' : decide ((b : Int) < 0) = false := by simp
              have hbI : (b : Int) < (n : Int) := by omega
              obtain ⟨gx, ox, rfl, hxc⟩ : ∃ gx ox, a4 = some ⟨gx, ox, none⟩ ∧ wi.cell? ⟨gx, ox + q, none⟩ = some (.int .i64 x) := by
                obtain ⟨aa, cc, e, hh4⟩ := HIL.out
                injection e with e1 e2 e3
                obtain ⟨g4, off4, e4, hl4, hc4⟩ := hh4 (by omega)
                exact ⟨g4, off4, e1.trans e4, hc4 q x hx⟩
              obtain ⟨gy, oy, rfl, hyc⟩ : ∃ gy oy, ab = some ⟨gy, oy, none⟩ ∧ wi.cell? ⟨gy, oy + qb, none⟩ = some (.int .i64 z) := by
                obtain ⟨aa, cc, e, hh4⟩ := HILb.out
                injection e with e1 e2 e3
                obtain ⟨g4, off4, e4, hl4, hc4⟩ := hh4 (by omega)
                exact ⟨g4, off4, e1.trans e4, hc4 qb z hz9⟩
              clear hl hq0 hz hx hb hq hlb hz9 hmb hmb0 hqb houb
              by_cases hxz : x < z
              · rw [if_pos hxz] at HB
                go_wp2_with fail
                go_quiet (fail)
                go_wp2_with fail
                exact ⟨⟨j + 1, by omega, by go_num, by rw [HB.out]; rfl, Lib.hid (HS1.out.drewN _)⟩, by simp [intOf]; omega⟩
              · rw [if_neg hxz] at HB
                go_wp2_with fail
                go_quiet (fail)
                go_wp2_with fail
                exact ⟨⟨j + 1, by omega, by go_num, by rw [HB.out]; rfl, Lib.hid (HS1.out.drewN _)⟩, by simp [intOf]; omega⟩
        · obtain rfl : j = n := by omega
          cases hb : bestI R R.length with
          | none =>
            have HQ := Lib.hid (HI.out.done hb)
            rw [HI.out.len] at hb
            rw [bestV_none hb]
            clear hb
            go_wp2_with fail
            go_ret2
            rw [HX.out, HQ.out]
            have hm : m = O.length := by have := HS1.out.own.1; rw [intV_len] at this; omega
            have := HS1.out.own
            rw [hm] at this
            exact retL_of this (Nat.le_succ _) HS1.out.bl
          | some b =>
            have hbl := (bestI_some hb).1
            obtain ⟨z, hz9, -⟩ := (bestI_some hb).2
            have hbn : b < j := by have := HI.out.len; omega
            obtain ⟨lb, hlb⟩ := get_at (k := b) HI.out.len hbn
            rw [getD_of hlb] at hz9
            obtain ⟨mb, hmb⟩ : ∃ mb, lb.length = mb := ⟨_, rfl⟩
            have hmb0 : ¬ mb = 0 := fun e => by rw [List.eq_nil_of_length_eq_zero (hmb.trans e)] at hz9; cases hz9
            obtain ⟨qb, hqb⟩ : ∃ qb, mb = qb + 1 := ⟨mb - 1, by omega⟩
            rw [tpO_of (k := qb) (by omega)] at hz9
            obtain ⟨ub, hub, -, houb, -⟩ := HS1.out.left.cell hlb
            obtain ⟨ab, cb, rfl⟩ := own_form houb
            have hmb4 := HI.out.row lb (List.mem_of_getElem? hlb)
            have HILb := Lib.hid (il_of_owns houb)
            rw [hmb] at hub HILb hmb4
            have hsubb : (mb : Int) - 1 = (qb : Int) := by omega
            have hqbI : (qb : Int) < (mb : Int) := by omega
            have hqm : qb < mb := by omega
            have HN2 := Lib.hid (HI.out.step hb hlb (by omega) hz9)
            have hmty : m + 1 ≤ ty := by have := HN2.out.sum; have := HTY.out; omega
            have hb0 : ¬ (b : Int) < 0 := by omega
            have hb0' : decide ((b : Int) < 0) = false := by simp
            have hbI : (b : Int) < (j : Int) := by omega
            rw [HI.out.len] at hb
            rw [bestV_some hb]
            obtain ⟨gy, oy, rfl, hgy, hyc⟩ : ∃ gy oy, ab = some ⟨gy, oy, none⟩ ∧ gy < wi.heap.size ∧ wi.cell? ⟨gy, oy + qb, none⟩ = some (.int .i64 z) := by
              obtain ⟨aa, cc, e, hh4⟩ := HILb.out
              injection e with e1 e2 e3
              obtain ⟨g4, off4, e4, hl4, hc4⟩ := hh4 (by omega)
              exact ⟨g4, off4, e1.trans e4, hl4, hc4 qb z hz9⟩
            have HLB := Lib.hid hlb
            have HMB := Lib.hid hmb
            have HLst := Lib.hid HS1.out.own
            have HZ6 : Hid (∀ o, w.heap.size + 1 ≤ (wi.alloc o).heap.size) := Lib.hid fun o => Nat.le_trans (show w.heap.size + 1 ≤ wi.heap.size by have := HS1.out.hlo; have := own_at HS1.out.left; have := HS1.out.left.1; omega) (below_one wi o).size
            clear hb hbl hlb hz9 hmb hmb0 hqb houb
            go_wp2_with (at_builtin; refine wpList_int_form rfl _ _ rfl (w.heap.size + 1) _ m (intV O) rfl (HLst.out.alloc _) ⟨wi.heap.size, 0, none⟩ 1 (.int .i64 z) rfl (cell_one_new _ _ _) rfl (by omega) (HZ6.out _) ?_; intro v7 w7 ho7 hg7 hf7)
            have HS2 := Lib.hid (HS1.out.push ho7 hg7 hf7)
            obtain ⟨a8, c8, rfl⟩ := own_form ho7
            obtain ⟨u7, hu7, -, hou7, -⟩ := HS2.out.left.cell HLB.out
            obtain ⟨a7, c7, rfl⟩ := own_form hou7
            rw [HMB.out] at hu7
            have hcA := HS2.out.box.2.2
            have HPall := HS2.out.drew.pull HLB.out HMB.out hqm hu7
            have HP := Lib.hid HPall.1
            have hmc := HPall.2.1
            have hkc : (qb : Int) ≤ (c7 : Int) := by omega
            have hfu := HPall.2.2
            clear ho7 hg7 hf7 hou7 HPall hub hyc cA
            go_wp2_with fail
            go_region_law (fail)
            all_goals
              go_wp2_with fail
              exact ⟨⟨m + 1, _, _, rfl, hmty, HP, HN2⟩, by rw [hlv]; show ty - (m + 1) < ty - m; omega⟩
end Go.Proofs.Ytececghifehjeaa
