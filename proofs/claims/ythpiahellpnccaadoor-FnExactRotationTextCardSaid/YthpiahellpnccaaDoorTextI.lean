/-
  What impl.RotationText returns. No statement of the seat by itself.
-/
import Derived.Test.YthpiahellpnccaaDoorTextJ
import Derived.Test.YthpiahellpnccaaDoorGoodI
import Derived.Test.YthpiahellpnccaaDoorItoa
import Derived.Deep.RegionHeldLaw
namespace Go.Proofs.YthpiahellpnccaaDoor
open Go.RowKit

theorem itoa_is (x : Int) (w : World) (h : inB 0 40 x = true) : Calls Tryd.prog 19 #[.int .i64 x] w fun e w' => e = .returned (.string ⟨(numT x).toArray⟩) ∧ w' = w := by
  have hx : 0 ≤ x ∧ x ≤ 40 := by unfold inB at h; simpa using h
  obtain ⟨m, rfl⟩ : ∃ m : Nat, x = (m : Int) := ⟨x.toNat, by omega⟩
  unfold numT
  rw [itoa_nat]
  exact Tryd.strconv_Itoa_small m (by omega) w

theorem row_base {W : World} {base e size k : Nat} {v : Value} {xs : List Value} (h : W.ownsRow base e size v k xs) : ∀ j, v.ownBlock = some j → base ≤ j := by
  intro j hj
  rcases h.2 with ⟨rfl, _⟩ | ⟨g, cap, cur, rfl, hg, _⟩
  · simp [Value.ownBlock] at hj
  · have : g = j := by simpa [Value.ownBlock] using hj
    omega
theorem info9 : (Tryd.prog.info? 9).map (fun i => (i.zero, i.size, i.bytes)) = some (some (.string ⟨#[]⟩), 1, 16) := by kernel_rfl

/-- append of a string onto a row of the call's own, inside a region that draws its order. -/
theorem step_str {ops : Array Oper} {o : Oper} {a : Act} {w : World} {K : Act → World → Prop} {Q : Exit → Act → World → Prop} {E : Prop} (hgd : o.guard = none) (s x : Operand)
    (ho : o.op = .call { callee := .builtin .append, args := #[s, x], argTypes := #[40, 40] }) (base : Nat) (v : Value) (n : Nat) (xs : List Value) (hs : a.eval s = v) (hown : w.ownsRow base 9 1 v n xs)
    (ad : Addr) (m c : Nat) (news : List Value) (hx : a.eval x = .slice (some ad) m c) (hl : news.length = m) (hnews : ∀ j u, news[j]? = some u → w.cell? (ad.add j) = some u) (h1 : ∀ u ∈ news, u.oneCell' = true)
    (hb : n + m ≤ 1000) (hbase : base ≤ w.heap.size)
    (h : ∀ v' w', w'.ownsRow base 9 1 v' (n + m) (xs ++ news) → w.grownBy w' v.ownBlock → K (a.put o.dst v') w') :
    if Region.wanted o (yielded ops a.tmps) = true then Oper.wp Tryd.prog o a w K Q else E := by
  have hw : Region.wanted o (yielded ops a.tmps) = true := by simp [Region.wanted, hgd]
  obtain ⟨i0, hi, hz0, hz1, hz2⟩ := info_is info9
  rw [if_pos hw]
  exact wp_append_own w s x 40 ho base 9 i0 (.string ⟨#[]⟩) 1 16 Tryd.underlying40 hi hz0 hz1 hz2 rfl (by decide) v n xs hs hown ad m c news hx (by omega) hnews h1 (by unfold maxLen; omega) (by omega) hbase (fun v' w' ho hg _ => h v' w' ho hg)

/-- The first k calls' texts as values. -/
def callV (p d : Nat → Int) (k : Nat) : List Value := (List.range k).map fun j => .string (callS p d j)
theorem callV_len (p d : Nat → Int) (k : Nat) : (callV p d k).length = k := by simp [callV]
theorem callV_succ (p d : Nat → Int) (k : Nat) : callV p d (k + 1) = callV p d k ++ [.string (callS p d k)] := by simp [callV, List.range_succ]

/-- A row of the call's own that holds the calls' texts, as strings.Join's caller asks for it. -/
theorem row_at {W : World} {base k : Nat} {v : Value} {p d : Nat → Int} (h : W.ownsRow base 9 1 v k (callV p d k)) (hk : 0 < k) : ∃ g cap, v = .slice (some ⟨g, 0, none⟩) k cap ∧ RowAt W g cap k (callS p d) := by
  rcases h.2 with ⟨rfl, h0⟩ | ⟨g, cap, cur, rfl, hg, hb, hn, _, hsz, htk⟩
  · omega
  · refine ⟨g, cap, rfl, cur, hb, hn, by omega, fun j hj => ?_⟩
    have e : (cur.toList.take (k * 1))[j]? = (callV p d k)[j]? := by rw [htk]
    rw [List.getElem?_take, if_pos (by omega)] at e
    rw [← Array.getElem?_toList, e]
    simp [callV, hj]

/-- While the calls are put together: the first k are there. -/
def CollS (w wr : World) (v1 v2 o : Value) (p d : Nat → Int) (k : Nat) : Prop := wr.ownsRow (w.heap.size + 1) 9 1 o k (callV p d k) ∧ wr.cell? ⟨w.heap.size, 0, none⟩ = some v1 ∧ wr.cell? ⟨w.heap.size, 1, none⟩ = some v2 ∧ Below w.heap.size w wr ∧ w.heap.size + 1 ≤ wr.heap.size
theorem CollS.drew {w wr : World} {v1 v2 o : Value} {p d : Nat → Int} {k : Nat} (h : CollS w wr v1 v2 o p d k) : CollS w wr.drew v1 v2 o p d k :=
  ⟨h.1, h.2.1, h.2.2.1, ⟨h.2.2.2.1.os, h.2.2.2.1.tape, h.2.2.2.1.output, h.2.2.2.1.size, h.2.2.2.1.block⟩, h.2.2.2.2⟩
theorem CollS.step {w wr w4 : World} {v1 v2 o v4 : Value} {p d : Nat → Int} {k : Nat} (h : CollS w wr v1 v2 o p d k) (ob : Obj) (hg : (wr.alloc ob).grownBy w4 o.ownBlock) (t : ByteArray) (ht : t = callS p d k)
    (ho : w4.ownsRow (w.heap.size + 1) 9 1 v4 (k + 1) (callV p d k ++ [.string t])) : CollS w w4 v1 v2 v4 p d (k + 1) := by
  obtain ⟨hrow, h0, h1, hB, hz⟩ := h
  have old : ∀ q x, wr.cell? ⟨w.heap.size, q, none⟩ = some x → w4.cell? ⟨w.heap.size, q, none⟩ = some x := fun q x hx => by
    rw [World.cell?_of_block (hg.block w.heap.size (by simp; omega) (fun e => by have := row_base hrow _ e.symm; omega)), World.cell?_alloc_lt _ _ _ (by simp; omega)]
    exact hx
  refine ⟨by rw [callV_succ, ← ht]; exact ho, old _ _ h0, old _ _ h1, (hB.alloc hB.size _).grown hg (by simp; omega) (fun j e => by have := row_base hrow j e; omega), ?_⟩
  have := hg.size
  simp at this
  omega

theorem implJoin_text {n m : Nat} {p d : Nat → Int} (h : Good n m p d) (g cap : Nat) (w : World) (hrow : RowAt w g cap n (callS p d)) :
    Calls Tryd.prog 20 #[.slice (some ⟨g, 0, none⟩) n cap, .string ⟨#[32]⟩] w fun e w' => e = .returned (.tuple #[.string ⟨(txtL p d n).toArray⟩, .bool true]) ∧ Below w.heap.size w w' := by
  have h12 := h.top
  refine (implJoin_rows g cap n (callS p d) 32 (by omega) (fun j hj => by have := callT_len h j hj; rw [callS_size]; omega) w hrow).mono ?_
  rw [join_text h]
  exact fun e w' hh => hh

set_option maxRecDepth 100000 in
set_option maxHeartbeats 1000000 in
theorem implText_no (v : Value) (n m : Nat) (p d : Nat → Int) (hn : n ≤ maxLen) (hm : m ≤ maxLen) (w : World) (h : ArgR w v n m p d) (hr : rotB n m p d = false) :
    Calls Tryd.prog 8 #[v] w (TextP w n m p d) := by
  have HV := Lib.hid h
  have HR := Lib.hid hr
  obtain ⟨v1, v2, rfl, -, -⟩ := h
  clear hr
  go_enter Tryd.func8, Tryd.ntmps8
  go_wp2_with fail
  have B := Lib.hid (below_one w (.cells #[v1, v2] 28))
  refine (implGood_any _ n m p d hn hm _ (HV.out.below B.out)).mono ?_
  rw [HR.out]
  rintro e w1 ⟨rfl, hb⟩
  go_wp2_with fail
  go_ret2
  exact textP_no HR.out (B.out.trans (hb.mono B.out.size))

set_option maxRecDepth 100000 in
set_option maxHeartbeats 4000000 in
theorem implText_yes (v : Value) (n m : Nat) (p d : Nat → Int) (hn : n ≤ maxLen) (hm : m ≤ maxLen) (w : World) (h : ArgR w v n m p d) (hr : rotB n m p d = true) :
    Calls Tryd.prog 8 #[v] w (TextP w n m p d) := by
  have HV := Lib.hid h
  have HR := Lib.hid hr
  have hG := good_of hr
  obtain ⟨v1, v2, rfl, h1, h2⟩ := h
  have e0 := hG.same
  subst e0
  have h0 := hG.pos
  have h12 := hG.top
  obtain ⟨g1, o1, c1, rfl, i1⟩ := h1.rows (by omega)
  obtain ⟨g2, o2, c2, rfl, i2⟩ := h2.rows (by omega)
  have HG := Lib.hid hG
  have J1 := Lib.hid i1
  have J2 := Lib.hid i2
  clear hr hG h1 h2 i1 i2
  go_enter Tryd.func8, Tryd.ntmps8
  go_wp2_with fail
  have B := Lib.hid (below_one w (.cells #[.slice (some ⟨g1, o1, none⟩) m c1, .slice (some ⟨g2, o2, none⟩) m c2] 28))
  have r0 : (w.alloc (.cells #[.slice (some ⟨g1, o1, none⟩) m c1, .slice (some ⟨g2, o2, none⟩) m c2] 28)).cell? ⟨w.heap.size, 0, none⟩ = some (.slice (some ⟨g1, o1, none⟩) m c1) := by simp
  have r1 : (w.alloc (.cells #[.slice (some ⟨g1, o1, none⟩) m c1, .slice (some ⟨g2, o2, none⟩) m c2] 28)).cell? ⟨w.heap.size, 1, none⟩ = some (.slice (some ⟨g2, o2, none⟩) m c2) := by simp
  have V2 := Lib.hid (HV.out.below B.out)
  have hW : (w.alloc (.cells #[.slice (some ⟨g1, o1, none⟩) m c1, .slice (some ⟨g2, o2, none⟩) m c2] 28)).heap.size = w.heap.size + 1 := by simp
  generalize (w.alloc (.cells #[.slice (some ⟨g1, o1, none⟩) m c1, .slice (some ⟨g2, o2, none⟩) m c2] 28)) = W at *
  refine (implGood_any _ m m p d hn hm _ V2.out).mono ?_
  rw [HR.out]
  rintro e w1 ⟨rfl, hb⟩
  have C1 : Hid (CollS w w1 (.slice (some ⟨g1, o1, none⟩) m c1) (.slice (some ⟨g2, o2, none⟩) m c2) (.slice none 0 0) p d 0) := Lib.hid ⟨World.ownsRow_nil _ _ _ _, (hb.cell (p := ⟨w.heap.size, 0, none⟩) (by show w.heap.size < _; omega)).trans r0, (hb.cell (p := ⟨w.heap.size, 1, none⟩) (by show w.heap.size < _; omega)).trans r1, B.out.trans (hb.mono B.out.size), by have := hb.size; omega⟩
  clear hb r0 r1 hW
  have s0 := C1.out.2.1
  have s1 := C1.out.2.2.1
  go_wp2_with fail
  clear s0 s1
  go_loopw [4, 13] (fun o i wr => ∃ k : Nat, k ≤ m ∧ i = .int .i64 k ∧ Hid (CollS w wr (.slice (some ⟨g1, o1, none⟩) m c1) (.slice (some ⟨g2, o2, none⟩) m c2) o p d k)) (fun _ i _ => m - (intOf i).toNat)
  case atStart => exact ⟨0, Nat.zero_le _, rfl, C1⟩
  case round =>
    obtain ⟨k, hk, rfl, HC⟩ := hrel
    by_cases hlt : k < m
    · have s0 := HC.out.2.1
      have s1 := HC.out.2.2.1
      have a1 := (J1.out.below HC.out.2.2.2.1).2 k hlt
      have a2 := (J2.out.below HC.out.2.2.2.1).2 k hlt
      have hki : (k : Int) < (m : Int) := by omega
      have q1 := HG.out.port k hlt
      have q2 := HG.out.days k hlt
      have P1 : inB 0 40 (p k) = true := inB_yes (by omega) (by omega)
      have P2 : inB 0 40 (d k) = true := inB_yes (by omega) (by omega)
      have n1 := numT_len (x := p k) (by omega) (by omega)
      have n2 := numT_len (x := d k) (by omega) (by omega)
      have hl1 : (numT (p k)).length ≤ 100 := by omega
      have hl2 : (numT (d k)).length ≤ 100 := by omega
      clear q1 q2 n1 n2
      have HE : Hid (∀ t : ByteArray, t = ⟨#[58]⟩ → (⟨(numT (p k)).toArray⟩ : ByteArray) ++ t ++ ⟨(numT (d k)).toArray⟩ = callS p d k) := Lib.hid (by
        intro t ht
        subst ht
        have e : (⟨#[58]⟩ : ByteArray) = ⟨([58] : List UInt8).toArray⟩ := rfl
        rw [e, ba_app, ba_app]
        rfl)
      have KA : Hid (∀ W', Below w.heap.size w W' → W'.cell? ⟨g2, o2 + k, none⟩ = some (.int .i64 (d k))) := Lib.hid fun W' hb => (J2.out.below hb).2 k hlt
      have HD := Lib.hid HC.out.drew
      have hrow := HD.out.1
      generalize p k = x at *
      generalize d k = y at *
      go_wp2_with fail
      have KS : Hid (∀ ob, (wr.drew.alloc ob).cell? ⟨w.heap.size, 1, none⟩ = some (.slice (some ⟨g2, o2, none⟩) m c2) ∧ (wr.drew.alloc ob).cell? ⟨g2, o2 + k, none⟩ = some (.int .i64 y)) := Lib.hid fun ob => by
        have hb : Below wr.drew.heap.size wr.drew (wr.drew.alloc ob) := (Below.refl _ _).alloc (Nat.le_refl _) _
        have hz := HD.out.2.2.2.2
        exact ⟨(hb.cell (p := ⟨w.heap.size, 1, none⟩) (by show w.heap.size < _; omega)).trans HD.out.2.2.1, KA.out _ (HD.out.2.2.2.1.trans (hb.mono HD.out.2.2.2.1.size))⟩
      go_region_held_law (fun W' => W'.cell? ⟨w.heap.size, 1, none⟩ = some (.slice (some ⟨g2, o2, none⟩) m c2) ∧ W'.cell? ⟨g2, o2 + k, none⟩ = some (.int .i64 y)) (first | exact ⟨s1, a2⟩ | exact KS.out _ | exact ⟨HF4.out.2.2.1, KA.out _ HF4.out.2.2.2.1⟩) (first | (go_at_call 19; refine (itoa_is _ _ (by assumption)).mono ?_; rintro e w' ⟨rfl, rfl⟩) | (refine step_str (by rfl) _ _ (by rfl) (w.heap.size + 1) _ k (callV p d k) (by rfl) (hrow.alloc _) _ 1 1 [.string _] (by rfl) rfl (cell_one_new _ _ _) (by simp [Value.oneCell']) (by omega) (Nat.le_trans HD.out.2.2.2.2 (by simp)) ?_; intro v4 w4 ho4 hg4; have HF4 := Lib.hid (HD.out.step _ hg4 _ (HE.out _ (by decide)) ho4); clear ho4 hg4) | fail)
      all_goals
        go_wp2_with fail
        exact ⟨⟨k + 1, by omega, by go_num, HF4⟩, by simp [intOf]; omega⟩
    · obtain rfl : k = m := by omega
      have s0 := HC.out.2.1
      have s1 := HC.out.2.2.1
      obtain ⟨g, cap, rfl, hat⟩ := row_at HC.out.1 (by omega)
      have HA := Lib.hid hat
      clear hat
      go_wp2_with (go_at_call 20; refine (implJoin_text HG.out g cap _ HA.out).mono ?_; rintro e w5 ⟨rfl, hb5⟩)
      go_ret2
      exact textP_yes HR.out rfl (HC.out.2.2.2.1.trans (hb5.mono HC.out.2.2.2.1.size))
end Go.Proofs.YthpiahellpnccaaDoor
