/-
  Unloading orders and their overstows: spec.l9Order, spec.l9Overstows, impl.countOverstows. No statement of the seat by itself.
-/
import Derived.Test.YtececghifehjeaaHFind
import Derived.Test.YtececghifehjeaaHCopy
import Derived.Test.YtececghifehjeaaHClrM
import Derived.Test.YtececghifehjeaaOwnI
import Derived.Test.YtececghifehjeaaHeights
import Derived.Deep.RegionHeld3
import Derived.Deep.QuietTactic
import Derived.BigQuiet
namespace Go.Proofs.Ytececghifehjeaa
open Go.RowKit

theorem flipB {P : Program} {f : FuncId} {args : Array Value} {w : World} {v : Value} (h : Calls P f args w fun e w' => e = .returned v ∧ w = w') : Calls P f args w fun e w' => e = .returned v ∧ w' = w :=
  h.mono fun _ _ ⟨he, hw⟩ => ⟨he, hw.symm⟩
/-- While a list grows behind the box of a bay. -/
structure OvS (w wr : World) (hh : Int) (v0 : Value) (B : Nat) (sv : Value) (m : Nat) (S : List Int) : Prop where
  own : wr.ownsRow B 3 1 sv m (intV S)
  box : Box2 wr w.heap.size hh v0
  bl : Below w.heap.size w wr
  lo : w.heap.size + 1 ≤ B
  sz : B ≤ wr.heap.size
section
variable {w wr W : World} {hh : Int} {v0 sv : Value} {B m : Nat} {S : List Int}
theorem OvS.start (h : Box2 wr w.heap.size hh v0) (hb : Below w.heap.size w wr) : OvS w (wr.alloc (.cells #[] 3)) hh v0 wr.heap.size (.slice (some ⟨wr.heap.size, 0, none⟩) 0 0) 0 [] :=
  ⟨by simpa [intV] using own_empty wr (.cells #[] 3) 3 rfl, h.below (below_one _ _), hb.trans ((below_one wr _).mono hb.size), h.1, by simp⟩
theorem OvS.below (h : OvS w wr hh v0 B sv m S) (hb : Below wr.heap.size wr W) : OvS w W hh v0 B sv m S :=
  ⟨row_below h.own hb, h.box.below hb, h.bl.trans (hb.mono h.bl.size), h.lo, Nat.le_trans h.sz hb.size⟩
theorem OvS.drewN (h : OvS w wr hh v0 B sv m S) (q : Nat) : OvS w (wr.drewN q) hh v0 B sv m S := h.below (below_drewN (Below.refl _ _) q)
theorem OvS.drew (h : OvS w wr hh v0 B sv m S) : OvS w wr.drew hh v0 B sv m S := h.below ⟨rfl, rfl, rfl, Nat.le_refl _, fun _ _ => rfl⟩
theorem OvS.push {w4 : World} {o : Obj} {v' : Value} {x : Int} (h : OvS w wr hh v0 B sv m S) (ho : w4.ownsRow B 3 1 v' (m + 1) (intV S ++ [.int .i64 x])) (hg : (wr.alloc o).grownBy w4 sv.ownBlock) : OvS w w4 hh v0 B v' (m + 1) (S ++ [x]) := by
  have hb := below_one wr o
  have hS : Span B (wr.alloc o).heap.size wr w4 := (Span.of_below hb).trans (Span.of_grown hg fun k hk => ⟨row_base h.own k hk, row_lt (row_below h.own hb) k hk⟩)
  exact ⟨by simpa [intV] using ho, h.box.span hS (.inl h.lo), Below.span h.bl (hS.lift (by have := h.lo; omega)) h.bl.size, h.lo, Nat.le_trans h.sz hS.size⟩
/-- The list is answered, and a yes. -/
theorem OvS.ret (h : OvS w wr hh v0 B sv m S) : RetL w S true (.returned (.tuple #[sv, .bool true])) wr := by
  have hm : m = S.length := by have := h.own.1; rw [intV_len] at this; omega
  subst hm
  exact retL_of h.own (by have := h.lo; omega) h.bl
end
/-- No list was answered. -/
theorem retL_zero {w W : World} (hb : Below w.heap.size w W) : RetL w [] false (.returned (.tuple #[.slice (some ⟨W.heap.size, 0, none⟩) 0 0, .bool false])) (W.alloc (.cells #[] 3)) :=
  retL_of (B := W.heap.size) (by simpa [intV] using own_empty W (.cells #[] 3) 3 rfl) hb.size (hb.trans ((below_one W _).mono hb.size))

set_option maxRecDepth 100000 in
set_option maxHeartbeats 4000000 in
theorem l9Order_any (v vo : Value) (hh : Int) (Y : List (List Int)) (O : List Int) (h1 : Y.length ≤ 1048576) (h2 : tot Y ≤ 1048576) (h3 : O.length ≤ 1048576) (w : World) (h : BdR w v hh Y) (ho : IL w vo O) :
    Calls Try.prog 101 #[v, vo] w (BoolP w (ordB Y O)) := by
  obtain ⟨f3, hi3, hz0, hz1, hz2⟩ := info_is info3
  obtain ⟨v0, rfl, hv⟩ := h
  obtain ⟨a, c, rfl⟩ := ho.form
  obtain ⟨n, hn⟩ : ∃ n, O.length = n := ⟨_, rfl⟩
  have HN := Lib.hid hn
  have HO : Hid (∀ W, Below w.heap.size w W → IL W (.slice a n c) O) := Lib.hid fun W hb => by
    have := ho.below hb
    rw [hn] at this
    exact this
  rw [hn] at h3 ⊢
  have S0 := Lib.hid (OvS.start (Box2.new w hh v0 54) (below_one w (.cells #[.int .i64 hh, v0] 54)))
  rw [show (w.alloc (.cells #[.int .i64 hh, v0] 54)).heap.size = w.heap.size + 1 by simp] at S0
  have HF : Hid (∀ x W, Below w.heap.size w W → Calls Try.prog 116 #[.agg #[.int .i64 hh, v0], .int .i64 x] W (RetP W (findV Y x))) := Lib.hid fun x W hb => l9Find_any _ hh Y x h1 h2 W ⟨v0, rfl, hv.below hb⟩
  clear hv ho hn h1 h2
  go_enter Try.func101, Try.ntmps101
  go_wp2_with fail
  generalize (w.alloc (.cells #[.int .i64 hh, v0] 54)).alloc (.cells #[] 3) = w0 at *
  go_loopw [5, 6, 7, 8] (fun s i _ _ wr => ∃ k : Nat, k ≤ n ∧ i = .int .i64 k ∧ Hid (OvS w wr hh v0 (w.heap.size + 1) s k (O.take k)) ∧ Hid (ordK Y O k)) (fun _ i _ _ _ => n - (intOf i).toNat)
  case atStart => exact ⟨0, Nat.zero_le _, rfl, S0, Lib.hid fun i x hi => by omega⟩
  case round =>
    obtain ⟨k, hk, rfl, HS, HP⟩ := hrel
    by_cases hlt : k < n
    · obtain ⟨a', c', e, hcc⟩ := HO.out wr HS.out.bl
      obtain ⟨g, off, e2, hg, hcl⟩ := hcc (by have := HN.out; omega)
      injection e with e1 e4 e5
      subst e2
      subst e1
      clear e4 e5
      obtain ⟨x, hx⟩ := get_at HN.out hlt
      have o1 : wr.cell? ⟨g, off + k, none⟩ = some (.int .i64 x) := hcl k x hx
      have c0 := HS.out.box.2.1
      have c1 := HS.out.box.2.2
      have HX := Lib.hid hx
      have HG := Lib.hid hg
      have hkI : (k : Int) < (n : Int) := by omega
      have HZ := Lib.hid (HF.out x)
      clear hcc hcl hx hg
      cases hp : placeY Y x with
      | none =>
        have HQ := Lib.hid (ordB_no HX.out (.inl hp))
        rw [findV_none hp] at HZ
        clear hp
        go_wp2_with fail
        go_region_held3 (fun W => W.cell? ⟨w.heap.size, 0, none⟩ = some (.int .i64 hh) ∧ W.cell? ⟨w.heap.size, 1, none⟩ = some v0 ∧ W.cell? ⟨g, off + k, none⟩ = some (.int .i64 x)) (go_keep) (first | (go_at_call 116; refine (HZ.out _ HS.out.drew.bl).mono ?_; rintro e w' ⟨rfl, hb⟩; have HS2 := Lib.hid (HS.out.drew.below hb); have x0 := HS2.out.box.2.1; have x1 := HS2.out.box.2.2; have x2 := (hb.cell (p := ⟨g, off + k, none⟩) HG.out).trans o1; clear hb))
        clear x0 x1 c0 c1 o1
        go_wp2_with fail
        go_ret
        exact ⟨by rw [HQ.out]; rfl, HS2.out.bl⟩
      | some p =>
        obtain ⟨i, j⟩ := p
        have HPl := Lib.hid (show (placeY Y x).isSome = true by rw [hp]; rfl)
        rw [findV_some hp] at HZ
        clear hp
        go_wp2_with fail
        go_region_held3 (fun W => W.cell? ⟨w.heap.size, 0, none⟩ = some (.int .i64 hh) ∧ W.cell? ⟨w.heap.size, 1, none⟩ = some v0 ∧ W.cell? ⟨g, off + k, none⟩ = some (.int .i64 x)) (go_keep) (first | (go_at_call 116; refine (HZ.out _ HS.out.drew.bl).mono ?_; rintro e w' ⟨rfl, hb⟩; have HS2 := Lib.hid (HS.out.drew.below hb); have x0 := HS2.out.box.2.1; have x1 := HS2.out.box.2.2; have x2 := (hb.cell (p := ⟨g, off + k, none⟩) HG.out).trans o1; clear hb))
        rename World => w5
        clear x0 x1 c0 c1 o1
        have hi1 : ¬ (i : Int) < 0 := by omega
        have HH : Hid (Calls Try.prog 123 #[u5, .int .i64 x] w5 fun e w' => e = .returned (.bool (hasB (O.take k) x)) ∧ w5 = w') := Lib.hid (l1Has_il u5 (O.take k) x (by rw [List.length_take]; omega) w5 (il_of_owns HS2.out.own))
        by_cases hm : x ∈ O.take k
        · have HQ := Lib.hid (ordB_no (Y := Y) HX.out (.inr hm))
          rw [show hasB (O.take k) x = true by simp [hasB, hm]] at HH
          clear hm
          go_wp2_with fail
          refine HH.out.mono ?_
          rintro e w6 ⟨rfl, rfl⟩
          go_wp2_with fail
          go_ret
          exact ⟨by rw [HQ.out]; rfl, HS2.out.bl⟩
        · have HQ := Lib.hid (ordK_succ HP.out HX.out HPl.out hm)
          have HT := Lib.hid (take_next HX.out)
          rw [show hasB (O.take k) x = false by simp [hasB, hm]] at HH
          have hrow := HS2.out.own
          have hsz := HS2.out.sz
          clear hm
          go_wp2_with fail
          refine HH.out.mono ?_
          rintro e w6 ⟨rfl, rfl⟩
          go_wp2_with (at_builtin; refine wpList_append_own _ rfl _ _ 34 rfl (w.heap.size + 1) 3 f3 (.int .i64 0) 1 8 Try.underlying34 hi3 hz0 hz1 hz2 rfl (by decide) _ _ _ rfl (hrow.alloc _) ⟨w5.heap.size, 0, none⟩ 1 1 [.int .i64 x] rfl rfl (cell_one_new _ _ _) (by simp [Value.oneCell']) (by unfold maxLen; omega) (by omega) (by simp; omega) ?_; intro v' w7 hown' hgrow hnil)
          have HN4 := Lib.hid (HS2.out.push hown' hgrow)
          clear hown' hgrow hnil hrow hsz
          rw [← HT.out] at HN4
          go_wp2_with fail
          exact ⟨⟨k + 1, by omega, by go_num, HN4, HQ⟩, by simp [intOf]; omega⟩
    · obtain rfl : k = n := by omega
      have HQ := Lib.hid (ordB_yes (by rw [HN.out]; exact HP.out))
      go_wp2_with fail
      go_ret
      exact ⟨by rw [HQ.out]; rfl, HS.out.bl⟩
end Go.Proofs.Ytececghifehjeaa
