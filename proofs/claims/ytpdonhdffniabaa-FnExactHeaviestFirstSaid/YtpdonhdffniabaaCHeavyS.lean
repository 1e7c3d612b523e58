/-
  What spec.HeaviestFirst returns. No statement of the seat by itself.
-/
import Derived.Test.YtpdonhdffniabaaCHeavyI
import Derived.Test.YtpdonhdffniabaaCValidI
import Derived.Deep.RegionLaw
namespace Go.Proofs.Ytpdonhdffniabaa.C
open Go.RowKit

set_option maxHeartbeats 1000000 in
theorem before_any (a b : Cont) (w : World) : Calls Try.prog 49 #[.agg (contV a), .agg (contV b)] w (GoodPost w (befB a b)) := by
  have HR : Hid (befB a b = (decide (b.weight < a.weight) || (decide (a.weight = b.weight) && Op.bytesLess a.id.toList b.id.toList))) := Lib.hid rfl
  generalize befB a b = r at *
  obtain ⟨i1, s1, t1, c1, p1⟩ := a
  obtain ⟨i2, s2, t2, c2, p2⟩ := b
  simp only [contV] at *
  by_cases h1 : t2 < t1
  · have HV : Hid (r = true) := Lib.hid (by rw [HR.out]; simp [h1])
    have d1 : decide (t2 < t1) = true := by simpa using h1
    clear HR
    go_enter Try.func49, Try.ntmps49
    go_wp2_with fail
    go_ret
    exact ⟨by rw [HV.out]; rfl, ((Below.refl _ _).alloc (Nat.le_refl _) _).alloc (by simp) _⟩
  · by_cases h2 : t1 = t2
    · have HV : Hid (r = Op.bytesLess i1.toList i2.toList) := Lib.hid (by rw [HR.out]; simp [h2])
      have d1 : decide (t2 < t1) = false := by simpa using h1
      have d2 : (t1 == t2) = true := by simpa using h2
      clear HR h1
      generalize hx : Op.bytesLess i1.toList i2.toList = x at *
      clear h2
      go_enter Try.func49, Try.ntmps49
      go_wp2_with fail
      go_ret
      exact ⟨by rw [HV.out]; rfl, ((Below.refl _ _).alloc (Nat.le_refl _) _).alloc (by simp) _⟩
    · have HV : Hid (r = false) := Lib.hid (by rw [HR.out]; simp [h1, h2])
      have d1 : decide (t2 < t1) = false := by simpa using h1
      have d2 : (t1 == t2) = false := by simpa using h2
      clear HR h1 h2
      go_enter Try.func49, Try.ntmps49
      go_wp2_with fail
      go_ret
      exact ⟨by rw [HV.out]; rfl, ((Below.refl _ _).alloc (Nat.le_refl _) _).alloc (by simp) _⟩

set_option maxRecDepth 100000 in
set_option maxHeartbeats 1000000 in
theorem specHeavy_no (g n c : Nat) (f : Nat → Cont) (hn : n ≤ 1048576) (hid : ∀ j, j < n → (f j).id.size ≤ 1048576) (w : World) (h : CAt w g 0 n f) (hL : listB n f = false) :
    Calls Try.prog 31 #[.slice (some ⟨g, 0, none⟩) n c] w (OrdPost w [] false) := by
  have hA := h.below ((Below.refl _ w).alloc (Nat.le_refl _) (.cells #[] 3))
  have K := Lib.hid (l2List_any g n c f hn hid _ hA)
  have R0 := Lib.hid (own_empty w (.cells #[] 3) 3 rfl)
  rw [hL] at K
  clear h hid hL hA
  go_enter Try.func31, Try.ntmps31
  go_wp2_with fail
  refine K.out.mono ?_
  rintro e w1 ⟨rfl, hb1⟩
  have R1 := Lib.hid (row_below R0.out hb1)
  have B1 : Hid (Below w.heap.size w w1) := Lib.hid (((Below.refl _ w).alloc (Nat.le_refl _) _).trans (hb1.mono (by simp)))
  clear hb1
  go_wp2_with fail
  go_ret2
  exact ⟨_, rfl, by simpa [ordV] using R1.out, B1.out⟩

/-- While the indices are put into order. -/
def Ins (w wr : World) (o : Value) (f : Nat → Cont) (i : Nat) : Prop := wr.ownsRow w.heap.size 3 1 o i (ordV (ordL f i)) ∧ Below w.heap.size w wr ∧ o ≠ .slice none 0 0
theorem ordV_at (f : Nat → Cont) (i j : Nat) (h : j < i) : (ordV (ordL f i))[j]? = some (.int .i64 ((ordL f i).getD j 0 : Nat)) := by
  have hl := ordL_len f i
  simp only [ordV, List.getElem?_map]
  rw [List.getElem?_eq_getElem (by omega)]
  simp [List.getD, List.getElem?_eq_getElem (show j < (ordL f i).length by omega)]
theorem ordL_getD_lt (f : Nat → Cont) (i j : Nat) (h : j < i) : (ordL f i).getD j 0 < i := by
  have hl := ordL_len f i
  have : (ordL f i).getD j 0 ∈ ordL f i := by
    simp [List.getD, List.getElem?_eq_getElem (show j < (ordL f i).length by omega)]
  exact ordL_lt f i _ this

/-- append of ints onto a row of the call's own, inside a region that draws its order. -/
theorem step_int {ops : Array Oper} {o : Oper} {a : Act} {w : World} {K : Act → World → Prop} {Q : Exit → Act → World → Prop} {E : Prop} (hgd : o.guard = none) (s x : Operand)
    (ho : o.op = .call { callee := .builtin .append, args := #[s, x], argTypes := #[47, 47] }) (base : Nat) (v : Value) (n : Nat) (xs : List Value) (hs : a.eval s = v) (hown : w.ownsRow base 3 1 v n xs)
    (ad : Addr) (m c : Nat) (news : List Value) (hx : a.eval x = .slice (some ad) m c) (hl : news.length = m) (hnews : ∀ j u, news[j]? = some u → w.cell? (ad.add j) = some u) (h1 : ∀ u ∈ news, u.oneCell' = true)
    (hb : n + m ≤ 1000) (hbase : base ≤ w.heap.size)
    (h : ∀ v' w', w'.ownsRow base 3 1 v' (n + m) (xs ++ news) → w.grownBy w' v.ownBlock → (v' = .slice none 0 0 ↔ v = .slice none 0 0 ∧ m = 0) → K (a.put o.dst v') w') :
    if Region.wanted o (yielded ops a.tmps) = true then Oper.wp Try.prog o a w K Q else E := by
  have hw : Region.wanted o (yielded ops a.tmps) = true := by simp [Region.wanted, hgd]
  obtain ⟨i0, hi, hz0, hz1, hz2⟩ := info_parts info3
  rw [if_pos hw]
  exact wp_append_own w s x 47 ho base 3 i0 (.int .i64 0) 1 8 Try.underlying47 hi hz0 hz1 hz2 rfl (by decide) v n xs hs hown ad m c news hx (by omega) hnews h1 (by unfold maxLen; omega) (by omega) hbase h
theorem addr_add (b o j : Nat) : (⟨b, o, none⟩ : Addr).add j = ⟨b, o + j, none⟩ := by
  unfold Addr.add
  by_cases h : j = 0 <;> simp [h]
theorem src_take {w : World} {g2 k i : Nat} {l : List Nat} (hk : k ≤ i) (hc : ∀ j, j < i → w.cell? ⟨g2, j, none⟩ = some (.int .i64 ((l.getD j 0 : Nat) : Int))) (hl : l.length = i) (hg : g2 < w.heap.size) (W : World) (hb : Below w.heap.size w W) :
    ∀ j u, ((ordV l).take k)[j]? = some u → W.cell? ((⟨g2, 0, none⟩ : Addr).add j) = some u := fun j u hu => by
  have hj : j < k := by
    have := (List.getElem?_eq_some_iff.1 hu).1
    simp at this; omega
  rw [List.getElem?_take_of_lt hj] at hu
  have e : (ordV l)[j]? = some (.int .i64 ((l.getD j 0 : Nat) : Int)) := by
    simp only [ordV, List.getElem?_map]
    rw [List.getElem?_eq_getElem (by omega)]
    simp [List.getD, List.getElem?_eq_getElem (show j < l.length by omega)]
  rw [e] at hu
  rw [addr_add, Nat.zero_add, hb.cell (p := ⟨g2, j, none⟩) hg, hc j (by omega)]
  exact hu
theorem src_drop {w : World} {g2 k i : Nat} {l : List Nat} (hc : ∀ j, j < i → w.cell? ⟨g2, j, none⟩ = some (.int .i64 ((l.getD j 0 : Nat) : Int))) (hl : l.length = i) (hg : g2 < w.heap.size) (W : World) (hb : Below w.heap.size w W) (off : Nat) (ho : off = k ∨ i ≤ k) :
    ∀ j u, ((ordV l).drop k)[j]? = some u → W.cell? ((⟨g2, off, none⟩ : Addr).add j) = some u := fun j u hu => by
  rw [List.getElem?_drop] at hu
  have hj : k + j < i := by
    have := (List.getElem?_eq_some_iff.1 hu).1
    simp [ordV] at this; omega
  have ho' : off = k := by omega
  subst ho'
  have e : (ordV l)[off + j]? = some (.int .i64 ((l.getD (off + j) 0 : Nat) : Int)) := by
    simp only [ordV, List.getElem?_map]
    rw [List.getElem?_eq_getElem (by omega)]
    simp [List.getD, List.getElem?_eq_getElem (show off + j < l.length by omega)]
  rw [e] at hu
  rw [addr_add, hb.cell (p := ⟨g2, off + j, none⟩) hg, hc (off + j) (by omega)]
  exact hu
theorem src_one {W W' : World} {b : Nat} {x : Value} {row : Option Nat} (hc : ∀ j u, [x][j]? = some u → W.cell? ((⟨b, 0, none⟩ : Addr).add j) = some u) (hg : W.grownBy W' row) (hb : b < W.heap.size) (hne : some b ≠ row) :
    ∀ j u, [x][j]? = some u → W'.cell? ((⟨b, 0, none⟩ : Addr).add j) = some u := fun j u hu => by
  have h := hc j u hu
  rw [addr_add] at *
  rw [World.cell?_of_block (hg.block b hb hne)]
  exact h
theorem srcB {w5 w43 : World} {x : Value} (hg : World.grownBy (World.drew ((w5.alloc (.cells #[] 3)).alloc (.cells #[x] 3))) w43 (Value.slice (some ⟨w5.heap.size, 0, none⟩) 0 0).ownBlock) :
    ∀ j u, [x][j]? = some u → w43.cell? ((⟨w5.heap.size + 1, 0, none⟩ : Addr).add j) = some u :=
  src_one (W := World.drew ((w5.alloc (.cells #[] 3)).alloc (.cells #[x] 3))) (by
    have := cell_one_new (w5.alloc (.cells #[] 3)) x 3
    rw [show (w5.alloc (.cells #[] 3)).heap.size = w5.heap.size + 1 by simp] at this
    exact this) hg (by simp [World.drew]) (by simp [Value.ownBlock])
theorem srcC {w5 w43 : World} {x : Value} (hg : World.grownBy (World.drew ((w5.alloc (.cells #[x] 3)).alloc (.cells #[] 3))) w43 (Value.slice (some ⟨w5.heap.size + 1, 0, none⟩) 0 0).ownBlock) :
    ∀ j u, [x][j]? = some u → w43.cell? ((⟨w5.heap.size, 0, none⟩ : Addr).add j) = some u :=
  src_one (W := World.drew ((w5.alloc (.cells #[x] 3)).alloc (.cells #[] 3))) (fun j u (hu : [x][j]? = some u) => (World.cell?_alloc_lt (w5.alloc (.cells #[x] 3)) (.cells #[] 3) ((⟨w5.heap.size, 0, none⟩ : Addr).add j) (by rw [addr_add]; simp)).trans (cell_one_new w5 x 3 j u hu)) hg (by simp [World.drew]; omega) (by simp [Value.ownBlock])
theorem below_row {n : Nat} {w W W' : World} {v : Value} {m e s : Nat} {xs : List Value} (hb : Below n w W) (ho : W.ownsRow n e s v m xs) (hg : W.grownBy W' v.ownBlock) (hn : n ≤ W.heap.size) : Below n w W' := hb.grown hg hn (row_base ho)
theorem ordV_one (l : List Nat) : ∀ u ∈ ordV l, u.oneCell' = true := fun u hu => by
  obtain ⟨x, _, rfl⟩ := List.mem_map.1 hu
  rfl

set_option maxRecDepth 100000 in
set_option maxHeartbeats 4000000 in
theorem specHeavy_yes (g n c : Nat) (f : Nat → Cont) (hn : n ≤ 1048576) (hid : ∀ j, j < n → (f j).id.size ≤ 1048576) (w : World) (h : CAt w g 0 n f) (hL : listB n f = true) :
    Calls Try.prog 31 #[.slice (some ⟨g, 0, none⟩) n c] w (OrdPost w (ordL f n) true) := by
  have hA := h.below ((Below.refl _ w).alloc (Nat.le_refl _) (.cells #[] 3))
  have K := Lib.hid (l2List_any g n c f hn hid _ hA)
  have R0 := Lib.hid (own_empty w (.cells #[] 3) 3 rfl)
  have h12 := ((listB_iff n f).1 hL).1
  have H := Lib.hid h
  rw [hL] at K
  clear h hid hL hA
  go_enter Try.func31, Try.ntmps31
  go_wp2_with fail
  refine K.out.mono ?_
  rintro e w1 ⟨rfl, hb1⟩
  have I1 : Hid (Ins w w1 (.slice (some ⟨w.heap.size, 0, none⟩) 0 0) f 0) := Lib.hid ⟨by have := row_below R0.out hb1; simpa [ordV, ordL] using this, ((Below.refl _ w).alloc (Nat.le_refl _) _).trans (hb1.mono (by simp)), by simp⟩
  clear hb1
  go_wp2_with fail
  go_loopw [4, 5, 6] (fun o x _ wr => ∃ i : Nat, i ≤ n ∧ x = .int .i64 i ∧ Hid (Ins w wr o f i)) (fun _ x _ _ => n - (intOf x).toNat)
  case atStart => exact ⟨0, Nat.zero_le _, rfl, I1⟩
  case round =>
    obtain ⟨i, hi, rfl, HI⟩ := hrel
    rename World => wo
    by_cases hlt : i < n
    · obtain ⟨hrow, hB, hne⟩ := HI.out
      rcases hrow.2 with ⟨hnil, _⟩ | ⟨g2, cap, cur, hv, hbase, hb, h1, h2, h3, h4⟩
      · exact absurd hnil hne
      · subst hv
        have hcell : ∀ j, j < i → wo.cell? ⟨g2, j, none⟩ = some (.int .i64 ((ordL f i).getD j 0 : Nat)) := fun j hj => by
          have e1 : (cur.toList.take (i * 1))[j]? = (ordV (ordL f i))[j]? := by rw [h4]
          rw [List.getElem?_take_of_lt (by omega), ordV_at f i j hj] at e1
          simp only [World.cell?, hb]
          rw [← Array.getElem?_toList, e1]
          rfl
        have HCell := Lib.hid hcell
        have HRow := Lib.hid hrow
        have HBB := Lib.hid hB
        have hg2 : g2 < wo.heap.size := (Array.getElem?_eq_some_iff.1 hb).1
        clear hcell hrow hB hne hb h2 h3 h4
        go_wp2_with fail
        go_loopw [6] (fun x wi => ∃ k : Nat, k ≤ i ∧ x = .int .i64 k ∧ Hid (posK f i (ordL f i) i = posK f i (ordL f i) k) ∧ Hid (Below wo.heap.size wo wi)) (fun x _ => (intOf x).toNat)
        case atStart => exact ⟨i, Nat.le_refl _, rfl, Lib.hid rfl, Lib.hid (Below.refl _ _)⟩
        case round =>
          obtain ⟨k, hk, rfl, KP, KB⟩ := hrel
          have HW : Hid (Below w.heap.size w wr) := Lib.hid (HBB.out.trans (KB.out.mono HBB.out.size))
          have hCW := H.out.below HW.out
          by_cases hk0 : 0 < k
          case' pos =>
            have hq := ordL_getD_lt f i (k - 1) (by omega)
            have hck := Later.cell (W := wr) (Nat.lt_of_lt_of_le hg2 KB.out.size) ((KB.out.cell (p := ⟨g2, k - 1, none⟩) hg2).trans (HCell.out (k - 1) (by omega)))
            have HPos : Hid (posK f i (ordL f i) k = if befB (f i) (f ((ordL f i).getD (k - 1) 0)) = true then posK f i (ordL f i) (k - 1) else k) := Lib.hid (by
              obtain ⟨m, rfl⟩ : ∃ m, k = m + 1 := ⟨k - 1, by omega⟩
              rfl)
            generalize (ordL f i).getD (k - 1) 0 = q at *
            obtain ⟨a0, a1, a2, a3, a4⟩ := hCW.2 i hlt
            obtain ⟨b0, b1, b2, b3, b4⟩ := hCW.2 q (by omega)
            have hgl := hCW.1
            rw [Nat.zero_add] at *
            have HCmp := Lib.hid (fun W => before_any (f i) (f q) W)
            have A0 := Later.cell hgl a0
            have A1 := Later.cell hgl a1
            have A2 := Later.cell hgl a2
            have A3 := Later.cell hgl a3
            have A4 := Later.cell hgl a4
            have D0 := Later.cell hgl b0
            have D1 := Later.cell hgl b1
            have D2 := Later.cell hgl b2
            have D3 := Later.cell hgl b3
            have D4 := Later.cell hgl b4
            clear a0 a1 a2 a3 a4 b0 b1 b2 b3 b4 hCW
            obtain ⟨r, hr⟩ : ∃ r, befB (f i) (f q) = r := ⟨_, rfl⟩
            rw [hr] at HCmp HPos
            clear hr
            generalize f i = x at A0 A1 A2 A3 A4 HCmp
            generalize f q = y at D0 D1 D2 D3 D4 HCmp
            obtain ⟨i1, s1, t1, c1, p1⟩ := x
            obtain ⟨i2, s2, t2, c2, p2⟩ := y
            simp only [contV] at *
            have s1' : IntKind.i64.wrap ((k : Int) - 1) = (k : Int) - 1 := IntWalk.i64_in _ (by omega)
            have s2' : ((k : Int) - 1).toNat = k - 1 := by omega
            have s3' : (0 : Int) ≤ (k : Int) - 1 := by omega
            have s4' : (k : Int) - 1 < (i : Int) := by omega
            have s5' : decide ((0 : Int) < (k : Int)) = true := by simp; omega
            have s6' : (i : Int) < (n : Int) := by omega
            have s7' : (q : Int) < (n : Int) := by omega
            go_wp2_with fail
            refine wp_region_later (by kernel_rfl) (by kernel_rfl) ?_
            repeat (go_big_quiet_step ((go_at_call 49; exact calls_later (HCmp.out _))))
            refine wpQuiet_nil ?_
            intro w5 hw'
            have h5 : Below wr.heap.size wr w5 := by obtain ⟨p, rfl⟩ := hw'; exact p.h
            have K5 : Hid (Below wo.heap.size wo w5) := Lib.hid (KB.out.trans (h5.mono KB.out.size))
            clear hw' h5
            cases r
            case' true =>
              have KP2 : Hid (posK f i (ordL f i) i = posK f i (ordL f i) (k - 1)) := Lib.hid (by rw [KP.out, HPos.out]; rfl)
              go_wp2_with fail
              refine ⟨⟨k - 1, by omega, val_i (by omega), KP2, K5⟩, by simp [intOf]; omega⟩
            have KE : Hid (k = posK f i (ordL f i) i) := Lib.hid (by rw [KP.out, HPos.out]; rfl)
            clear A0 A1 A2 A3 A4 D0 D1 D2 D3 D4 hck s1' s2' s3' s4' s5' s6' s7' hq
          case' neg =>
            have s5' : decide ((0 : Int) < (k : Int)) = false := by simp; omega
            have KE : Hid (k = posK f i (ordL f i) i) := Lib.hid (by
              obtain rfl : k = 0 := by omega
              rw [KP.out]; rfl)
            go_wp2_with fail
            refine wp_region_later (by kernel_rfl) (by kernel_rfl) ?_
            repeat (go_big_quiet_step (fail))
            refine wpQuiet_nil ?_
            intro w5 hw'
            have h5 : Below wr.heap.size wr w5 := by obtain ⟨p, rfl⟩ := hw'; exact p.h
            have K5 : Hid (Below wo.heap.size wo w5) := Lib.hid (KB.out.trans (h5.mono KB.out.size))
            clear hw' h5
          all_goals
            have hl := ordL_len f i
            have c5 : ∀ j, j < i → w5.cell? ⟨g2, j, none⟩ = some (.int .i64 (((ordL f i).getD j 0 : Nat) : Int)) := fun j hj => (K5.out.cell (p := ⟨g2, j, none⟩) hg2).trans (HCell.out j hj)
            have hg5 : g2 < w5.heap.size := Nat.lt_of_lt_of_le hg2 K5.out.size
            have SA := Lib.hid (fun W hb => src_take hk c5 hl hg5 W hb)
            have SB := Lib.hid (fun W hb off ho => src_drop (k := k) c5 hl hg5 W hb off ho)
            have HX : Hid (∀ x ∈ (ordV (ordL f i)).take k, x.oneCell' = true) := Lib.hid fun x hx => ordV_one _ x (List.mem_of_mem_take hx)
            have HY : Hid (∀ x ∈ (ordV (ordL f i)).drop k, x.oneCell' = true) := Lib.hid fun x hx => ordV_one _ x (List.mem_of_mem_drop hx)
            have LX : Hid (((ordV (ordL f i)).take k).length = k) := Lib.hid (by simp [ordV]; omega)
            have LY : Hid (((ordV (ordL f i)).drop k).length = i - k) := Lib.hid (by simp [ordV]; omega)
            have HRes : Hid ((ordV (ordL f i)).take k ++ [Value.int .i64 (i : Int)] ++ (ordV (ordL f i)).drop k = ordV (ordL f (i + 1))) := Lib.hid (by
              rw [ordL, insL, hl, ← KE.out]
              simp [ordV, List.map_take, List.map_drop])
            have oA := Lib.hid (own_empty w5 (.cells #[] 3) 3 rfl)
            have oB := Lib.hid (oA.out.alloc (.cells #[.int .i64 (i : Int)] 3))
            have oC : Hid (((w5.alloc (.cells #[.int .i64 (i : Int)] 3)).alloc (.cells #[] 3)).ownsRow w5.heap.size 3 1 (.slice (some ⟨w5.heap.size + 1, 0, none⟩) 0 0) 0 []) := Lib.hid (by
              have := (own_empty (w5.alloc (.cells #[.int .i64 (i : Int)] 3)) (.cells #[] 3) 3 rfl).mono (base' := w5.heap.size) (by simp)
              rw [show (w5.alloc (.cells #[.int .i64 (i : Int)] 3)).heap.size = w5.heap.size + 1 by simp] at this
              exact this)
            have bA : Hid (Below w5.heap.size w5 (w5.alloc (.cells #[] 3))) := Lib.hid ((Below.refl _ w5).alloc (Nat.le_refl _) _)
            have bB := Lib.hid (bA.out.alloc (by simp) (.cells #[.int .i64 (i : Int)] 3))
            have bC := Lib.hid (((Below.refl _ w5).alloc (Nat.le_refl _) (.cells #[.int .i64 (i : Int)] 3)).alloc (by simp) (.cells #[] 3))
            have cB : Hid (∀ j u, [Value.int .i64 (i : Int)][j]? = some u → ((w5.alloc (.cells #[] 3)).alloc (.cells #[.int .i64 (i : Int)] 3)).cell? ((⟨w5.heap.size + 1, 0, none⟩ : Addr).add j) = some u) := Lib.hid (by
              have := cell_one_new (w5.alloc (.cells #[] 3)) (.int .i64 (i : Int)) 3
              rw [show (w5.alloc (.cells #[] 3)).heap.size = w5.heap.size + 1 by simp] at this
              exact this)
            have cC := Lib.hid (fun j u (hu : [Value.int .i64 (i : Int)][j]? = some u) => (World.cell?_alloc_lt (w5.alloc (.cells #[.int .i64 (i : Int)] 3)) (.cells #[] 3) ((⟨w5.heap.size, 0, none⟩ : Addr).add j) (by rw [addr_add]; simp)).trans (cell_one_new w5 (.int .i64 (i : Int)) 3 j u hu))
            clear c5
            generalize ordV (ordL f i) = XS at *
            have hki : (k : Int) ≤ (cap : Int) := by omega
            have hki2 : (k : Int) ≤ (i : Int) := by omega
            by_cases hck : cap = k
            case' pos =>
              have LY' := Lib.hid hck
            case' neg =>
              have LY' := Lib.hid hck
            all_goals
              go_wp2_with fail
              go_region_law (first | (refine step_int (by rfl) _ _ (by rfl) w5.heap.size _ 0 [] (by rfl) (by first | exact oA.out | exact oB.out | exact oC.out) ⟨g2, 0, none⟩ k _ (XS.take k) (by rfl) LX.out (SA.out _ (by first | exact below_drew1 bA.out | exact below_drew1 bB.out | exact below_drew1 bC.out)) HX.out (by omega) (by first | exact bA.out.size | exact bB.out.size | exact bC.out.size) ?_; intro v43 w43 ho43 hg43 hn43; have hb43 : Below w5.heap.size w5 w43 := by first | exact below_row (below_drew1 bA.out) oA.out hg43 bA.out.size | exact below_row (below_drew1 bB.out) oB.out hg43 bB.out.size | exact below_row (below_drew1 bC.out) oC.out hg43 bC.out.size) | (refine step_int (by rfl) _ _ (by rfl) w5.heap.size _ (0 + k) ([] ++ XS.take k) (by rfl) (by first | exact ho43 | exact ho43.alloc _) _ 1 1 [.int .i64 (i : Int)] (by rfl) rfl (by first | exact cell_one_new _ _ _ | exact srcB hg43 | exact srcC hg43) (by simp [Value.oneCell']) (by omega) (by first | exact hb43.size | exact (hb43.alloc hb43.size _).size) ?_; intro v46 w46 ho46 hg46 hn46; have hb46 : Below w5.heap.size w5 w46 := by first | exact below_row hb43 ho43 hg46 hb43.size | exact below_row (hb43.alloc hb43.size _) (ho43.alloc _) hg46 (hb43.alloc hb43.size _).size) | (refine step_int (by rfl) _ _ (by rfl) w5.heap.size _ (0 + k + 1) ([] ++ XS.take k ++ [.int .i64 (i : Int)]) (by rfl) ho46 _ (i - k) _ (XS.drop k) (by rfl) LY.out (SB.out _ hb46 _ (by omega)) HY.out (by omega) hb46.size ?_; intro v50 w50 ho50 hg50 hn50))
              all_goals
                have hb50 : Below w5.heap.size w5 w50 := below_row hb46 ho46 hg50 hb46.size
                have hv46 : v46 ≠ .slice none 0 0 := fun e => by have := (hn46.1 e).2; omega
                have hv50 : v50 ≠ .slice none 0 0 := fun e => hv46 (hn50.1 e).1
                have B50 : Below w.heap.size w w50 := (HBB.out.trans (K5.out.mono HBB.out.size)).trans (hb50.mono (Nat.le_trans HBB.out.size K5.out.size))
                have HN : Hid (Ins w w50 v50 f (i + 1)) := Lib.hid ⟨by
                  have := ho50.mono (base' := w.heap.size) (Nat.le_trans HBB.out.size K5.out.size)
                  rw [List.nil_append, HRes.out, show 0 + k + 1 + (i - k) = i + 1 by omega] at this
                  exact this, B50, hv50⟩
                clear ho50 hg50 hn50 ho46 hg46 hn46 ho43 hg43 hn43 hb43 hb46 hb50 hv46 hv50 B50
                go_wp2_with fail
                refine ⟨⟨i + 1, by omega, by go_num, HN⟩, by simp [intOf]; omega⟩
    · obtain rfl : i = n := by omega
      go_wp2_with fail
      go_ret2
      exact ⟨_, rfl, by rw [ordL_len]; exact HI.out.1, HI.out.2.1⟩
end Go.Proofs.Ytpdonhdffniabaa.C
