/-
  What spec.l1Put returns: a number put into an ascending list. No statement of the seat by itself.
-/
import Derived.Test.YtjplbcfpbggnnaaEarI
import Derived.Test.YtjplbcfpbggnnaaBadM
import Derived.Test.YtjplbcfpbggnnaaCopyI
import Derived.Deep.RegionLaw
import Derived.Laws.Cover1
import Derived.IntWalk
namespace Go.Proofs.Ytjplbcfpbggnnaa
open Go.RowKit

/-- append of ints onto a row of the call's own, inside a region that draws its order. -/
theorem step_ints {ops : Array Oper} {o : Oper} {a : Act} {w : World} {K : Act → World → Prop} {Q : Exit → Act → World → Prop} {E : Prop} (hgd : o.guard = none) (s x : Operand)
    (ho : o.op = .call { callee := .builtin .append, args := #[s, x], argTypes := #[22, 22] }) (base : Nat) (v : Value) (n : Nat) (xs : List Value) (hs : a.eval s = v) (hown : w.ownsRow base 3 1 v n xs)
    (ad : Addr) (m c : Nat) (news : List Value) (hx : a.eval x = .slice (some ad) m c) (hl : news.length = m) (hnews : ∀ j u, news[j]? = some u → w.cell? (ad.add j) = some u) (h1 : ∀ u ∈ news, u.oneCell' = true)
    (hb : n + m ≤ 1000) (hbase : base ≤ w.heap.size)
    (h : ∀ v' w', w'.ownsRow base 3 1 v' (n + m) (xs ++ news) → w.grownBy w' v.ownBlock → (v' = .slice none 0 0 ↔ v = .slice none 0 0 ∧ m = 0) → K (a.put o.dst v') w') :
    if Region.wanted o (yielded ops a.tmps) = true then Oper.wp Try.prog o a w K Q else E := by
  have hw : Region.wanted o (yielded ops a.tmps) = true := by simp [Region.wanted, hgd]
  obtain ⟨i0, hi, hz0, hz1, hz2⟩ := info_is info3
  rw [if_pos hw]
  exact wp_append_own w s x 22 ho base 3 i0 (.int .i64 0) 1 8 Try.underlying22 hi hz0 hz1 hz2 rfl (by decide) v n xs hs hown ad m c news hx (by omega) hnews h1 (by unfold maxLen; omega) (by omega) hbase h
theorem getV_of {L : List Int} {j : Nat} (h : j < L.length) : (intV L)[j]? = some (.int .i64 (L.getD j 0)) := by
  rw [intV_get, List.getElem?_eq_getElem h]
  simp [List.getD, List.getElem?_eq_getElem h]
theorem srcI_take {w : World} {g2 k i : Nat} {l : List Int} (hk : k ≤ i) (hc : ∀ j, j < i → w.cell? ⟨g2, j, none⟩ = some (.int .i64 (l.getD j 0))) (hl : l.length = i) (hg : g2 < w.heap.size) (W : World) (hb : Below w.heap.size w W) :
    ∀ j u, ((intV l).take k)[j]? = some u → W.cell? ((⟨g2, 0, none⟩ : Addr).add j) = some u := fun j u hu => by
  have hj : j < k := by
    have := (List.getElem?_eq_some_iff.1 hu).1
    simp at this; omega
  rw [List.getElem?_take_of_lt hj, getV_of (by omega)] at hu
  rw [addr_add, Nat.zero_add, hb.cell (p := ⟨g2, j, none⟩) hg, hc j (by omega)]
  exact hu
theorem srcI_drop {w : World} {g2 k i : Nat} {l : List Int} (hc : ∀ j, j < i → w.cell? ⟨g2, j, none⟩ = some (.int .i64 (l.getD j 0))) (hl : l.length = i) (hg : g2 < w.heap.size) (W : World) (hb : Below w.heap.size w W) (off : Nat) (ho : off = k ∨ i ≤ k) :
    ∀ j u, ((intV l).drop k)[j]? = some u → W.cell? ((⟨g2, off, none⟩ : Addr).add j) = some u := fun j u hu => by
  rw [List.getElem?_drop] at hu
  have hj : k + j < i := by
    have := (List.getElem?_eq_some_iff.1 hu).1
    rw [intV_len] at this; omega
  have ho' : off = k := by omega
  subst ho'
  rw [getV_of (by omega)] at hu
  rw [addr_add, hb.cell (p := ⟨g2, off + j, none⟩) hg, hc (off + j) (by omega)]
  exact hu
theorem srcI_one {W W' : World} {b : Nat} {x : Value} {row : Option Nat} (hc : ∀ j u, [x][j]? = some u → W.cell? ((⟨b, 0, none⟩ : Addr).add j) = some u) (hg : W.grownBy W' row) (hb : b < W.heap.size) (hne : some b ≠ row) :
    ∀ j u, [x][j]? = some u → W'.cell? ((⟨b, 0, none⟩ : Addr).add j) = some u := fun j u hu => by
  have h := hc j u hu
  rw [addr_add] at *
  rw [World.cell?_of_block (hg.block b hb hne)]
  exact h
theorem srcIB {w5 w43 : World} {x : Value} (hg : World.grownBy (World.drew ((w5.alloc (.cells #[] 3)).alloc (.cells #[x] 3))) w43 (Value.slice (some ⟨w5.heap.size, 0, none⟩) 0 0).ownBlock) :
    ∀ j u, [x][j]? = some u → w43.cell? ((⟨w5.heap.size + 1, 0, none⟩ : Addr).add j) = some u :=
  srcI_one (W := World.drew ((w5.alloc (.cells #[] 3)).alloc (.cells #[x] 3))) (by
    have := cell_one_new (w5.alloc (.cells #[] 3)) x 3
    rw [show (w5.alloc (.cells #[] 3)).heap.size = w5.heap.size + 1 by simp] at this
    exact this) hg (by simp [World.drew]) (by simp [Value.ownBlock])
theorem srcIC {w5 w43 : World} {x : Value} (hg : World.grownBy (World.drew ((w5.alloc (.cells #[x] 3)).alloc (.cells #[] 3))) w43 (Value.slice (some ⟨w5.heap.size + 1, 0, none⟩) 0 0).ownBlock) :
    ∀ j u, [x][j]? = some u → w43.cell? ((⟨w5.heap.size, 0, none⟩ : Addr).add j) = some u :=
  srcI_one (W := World.drew ((w5.alloc (.cells #[x] 3)).alloc (.cells #[] 3))) (fun j u (hu : [x][j]? = some u) => (World.cell?_alloc_lt (w5.alloc (.cells #[x] 3)) (.cells #[] 3) ((⟨w5.heap.size, 0, none⟩ : Addr).add j) (by rw [addr_add]; simp)).trans (cell_one_new w5 x 3 j u hu)) hg (by simp [World.drew]; omega) (by simp [Value.ownBlock])
theorem drewB {n : Nat} {w w1 : World} (h : Below n w w1) : Below n w w1.drew := ⟨h.os, h.tape, h.output, h.size, h.block⟩
theorem below_row {n : Nat} {w W W' : World} {v : Value} {m e s : Nat} {xs : List Value} (hb : Below n w W) (ho : W.ownsRow n e s v m xs) (hg : W.grownBy W' v.ownBlock) (hn : n ≤ W.heap.size) : Below n w W' := hb.grown hg hn (row_base ho)
/-- A new list was answered, and nothing older turned. -/
def PutI1 (w : World) (L : List Int) (e : Ending) (w' : World) : Prop := ∃ v, e = .returned v ∧ v ≠ .slice none 0 0 ∧ w'.ownsRow w.heap.size 3 1 v L.length (intV L) ∧ Below w.heap.size w w'

set_option maxRecDepth 100000 in
set_option maxHeartbeats 8000000 in
theorem l1Put_any (g2 i cap : Nat) (L : List Int) (hl : L.length = i) (hi12 : i ≤ 100) (hcap : i ≤ cap) (s : Int) (hns : ¬ s ∈ L) (w : World) (hc : ∀ j, j < i → w.cell? ⟨g2, j, none⟩ = some (.int .i64 (L.getD j 0))) (hg : g2 < w.heap.size) :
    Calls Try.prog 27 #[.slice (some ⟨g2, 0, none⟩) i cap, .int .i64 s] w (PutI1 w (insI s L)) := by
  have HC := Lib.hid hc
  have HNS := Lib.hid hns
  have HL := Lib.hid hl
  clear hc hns hl
  go_enter Try.func27, Try.ntmps27
  go_wp2_with fail
  go_loop [5] (fun x => ∃ k : Nat, k ≤ i ∧ x = .int .i64 k ∧ Hid (∀ (j : Nat) (y : Int), j < k → L[j]? = some y → y < s)) (fun x => i - (intOf x).toNat)
  case atStart => exact ⟨0, Nat.zero_le _, rfl, Lib.hid fun j y hj => by omega⟩
  case round =>
    obtain ⟨k, hk, rfl, KP⟩ := hrel
    by_cases hk0 : k < i
    case' pos =>
      have hck := HC.out k hk0
      have hyk : Hid (L[k]? = some (L.getD k 0)) := Lib.hid (by have := HL.out; rw [getDI (List.getElem?_eq_getElem (by omega : k < L.length))]; exact List.getElem?_eq_getElem _)
      generalize L.getD k 0 = y at *
      by_cases hys : y < s
      case' pos =>
        have KP2 : Hid (∀ (j : Nat) (z : Int), j < k + 1 → L[j]? = some z → z < s) := Lib.hid fun j z hj hz => by
          by_cases e : j = k
          · subst e; rw [hyk.out] at hz; cases hz; exact hys
          · exact KP.out j z (by omega) hz
        clear hyk
        go_wp2_with fail
        exact ⟨⟨k + 1, by omega, by go_num, KP2⟩, by simp [intOf]; omega⟩
      case' neg =>
        have hne : (y == s) = false := by
          have : y ≠ s := fun e => HNS.out (by subst e; exact List.mem_of_getElem? hyk.out)
          simpa using this
        have KE : Hid (insI s L = L.take k ++ [s] ++ L.drop k) := Lib.hid (insI_at s L k (by have := HL.out; omega) KP.out fun z hz => by rw [hyk.out] at hz; cases hz; exact hys)
        clear hyk
    case' neg =>
      have KE : Hid (insI s L = L.take k ++ [s] ++ L.drop k) := Lib.hid (insI_at s L k (by have := HL.out; omega) KP.out fun z hz => by have := lt_of_get hz; have := HL.out; omega)
    all_goals
      have hl := HL.out
      have SA := Lib.hid (fun W hb => srcI_take hk HC.out hl hg W hb)
      have SB := Lib.hid (fun W hb off ho => srcI_drop (k := k) HC.out hl hg W hb off ho)
      have HX : Hid (∀ x ∈ (intV L).take k, x.oneCell' = true) := Lib.hid fun x hx => intV_one L x (List.mem_of_mem_take hx)
      have HY : Hid (∀ x ∈ (intV L).drop k, x.oneCell' = true) := Lib.hid fun x hx => intV_one L x (List.mem_of_mem_drop hx)
      have LX : Hid (((intV L).take k).length = k) := Lib.hid (by rw [List.length_take, intV_len]; omega)
      have LY : Hid (((intV L).drop k).length = i - k) := Lib.hid (by rw [List.length_drop, intV_len]; omega)
      have HRes : Hid ((intV L).take k ++ [Value.int .i64 s] ++ (intV L).drop k = intV (insI s L)) := Lib.hid (by
        rw [KE.out]
        simp [intV, List.map_take, List.map_drop])
      have HLen : Hid ((insI s L).length = i + 1) := Lib.hid (by rw [KE.out]; simp; omega)
      clear hl
      have oA := Lib.hid (own_empty w (.cells #[] 3) 3 rfl)
      have oB := Lib.hid (oA.out.alloc (.cells #[.int .i64 s] 3))
      have oC : Hid (((w.alloc (.cells #[.int .i64 s] 3)).alloc (.cells #[] 3)).ownsRow w.heap.size 3 1 (.slice (some ⟨w.heap.size + 1, 0, none⟩) 0 0) 0 []) := Lib.hid (by
        have := (own_empty (w.alloc (.cells #[.int .i64 s] 3)) (.cells #[] 3) 3 rfl).mono (base' := w.heap.size) (by simp)
        rw [show (w.alloc (.cells #[.int .i64 s] 3)).heap.size = w.heap.size + 1 by simp] at this
        exact this)
      have bA : Hid (Below w.heap.size w (w.alloc (.cells #[] 3))) := Lib.hid ((Below.refl _ w).alloc (Nat.le_refl _) _)
      have bB := Lib.hid (bA.out.alloc (by simp) (.cells #[.int .i64 s] 3))
      have bC := Lib.hid (((Below.refl _ w).alloc (Nat.le_refl _) (.cells #[.int .i64 s] 3)).alloc (by simp) (.cells #[] 3))
      clear KP KE
      generalize intV L = XS at *
      have hki : (k : Int) ≤ (cap : Int) := by omega
      have hki2 : (k : Int) ≤ (i : Int) := by omega
      by_cases hck2 : cap = k
      case' pos =>
        have LY' := Lib.hid hck2
      case' neg =>
        have LY' := Lib.hid hck2
      all_goals
        go_wp2_with fail
        go_region_law (first | (refine step_ints (by rfl) _ _ (by rfl) w.heap.size _ 0 [] (by rfl) (by first | exact oA.out | exact oB.out | exact oC.out) ⟨g2, 0, none⟩ k _ (XS.take k) (by rfl) LX.out (SA.out _ (by first | exact drewB bA.out | exact drewB bB.out | exact drewB bC.out)) HX.out (by omega) (by first | exact bA.out.size | exact bB.out.size | exact bC.out.size) ?_; intro v43 w43 ho43 hg43 hn43; have hb43 : Below w.heap.size w w43 := by first | exact below_row (drewB bA.out) oA.out hg43 bA.out.size | exact below_row (drewB bB.out) oB.out hg43 bB.out.size | exact below_row (drewB bC.out) oC.out hg43 bC.out.size) | (refine step_ints (by rfl) _ _ (by rfl) w.heap.size _ (0 + k) ([] ++ XS.take k) (by rfl) (by first | exact ho43 | exact ho43.alloc _) _ 1 1 [.int .i64 s] (by rfl) rfl (by first | exact cell_one_new _ _ _ | exact srcIB hg43 | exact srcIC hg43) (by simp [Value.oneCell']) (by omega) (by first | exact hb43.size | exact (hb43.alloc hb43.size _).size) ?_; intro v46 w46 ho46 hg46 hn46; have hb46 : Below w.heap.size w w46 := by first | exact below_row hb43 ho43 hg46 hb43.size | exact below_row (hb43.alloc hb43.size _) (ho43.alloc _) hg46 (hb43.alloc hb43.size _).size) | (refine step_ints (by rfl) _ _ (by rfl) w.heap.size _ (0 + k + 1) ([] ++ XS.take k ++ [.int .i64 s]) (by rfl) ho46 _ (i - k) _ (XS.drop k) (by rfl) LY.out (SB.out _ hb46 _ (by omega)) HY.out (by omega) hb46.size ?_; intro v50 w50 ho50 hg50 hn50))
        all_goals
          have hb50 : Below w.heap.size w w50 := below_row hb46 ho46 hg50 hb46.size
          have hv46 : v46 ≠ .slice none 0 0 := fun e => by have := (hn46.1 e).2; omega
          have hv50 : v50 ≠ .slice none 0 0 := fun e => hv46 (hn50.1 e).1
          have HN : Hid (w50.ownsRow w.heap.size 3 1 v50 (insI s L).length (intV (insI s L))) := Lib.hid (by
            rw [List.nil_append, HRes.out, show 0 + k + 1 + (i - k) = i + 1 by omega] at ho50
            rw [HLen.out]
            exact ho50)
          have HB50 := Lib.hid hb50
          have HV50 := Lib.hid hv50
          clear ho50 hg50 hn50 ho46 hg46 hn46 ho43 hg43 hn43 hb43 hb46 hb50 hv46 hv50
          go_wp2_with fail
          go_ret
          exact ⟨_, rfl, HV50.out, HN.out, HB50.out⟩
end Go.Proofs.Ytjplbcfpbggnnaa
