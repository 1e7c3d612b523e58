/-
  What spec.l4Put returns: the text put into an ascending list. No statement of the seat by itself.
-/
import Derived.Test.YtpmaaflpknjbmaaCFor
import Derived.Deep.RegionLaw
import Derived.Laws.Cover1
import Derived.IntWalk
namespace Go.Proofs.Ytpmaaflpknjbmaa.C
open Go.RowKit

/-- Whether a text comes after another one. -/
def gtB (a b : ByteArray) : Bool := !(Op.bytesLess a.toList b.toList || a.toList == b.toList)
/-- The place that a text takes among the first k. -/
def posS (L : List ByteArray) (s : ByteArray) : Nat → Nat
  | 0 => 0
  | k + 1 => if gtB (L.getD k ByteArray.empty) s then posS L s k else k + 1
theorem posS_le (L : List ByteArray) (s : ByteArray) : ∀ k, posS L s k ≤ k
  | 0 => Nat.le_refl _
  | k + 1 => by
    have := posS_le L s k
    rw [posS]
    split <;> omega
/-- The list with the text put in. -/
def insS (L : List ByteArray) (s : ByteArray) : List ByteArray := L.take (posS L s L.length) ++ [s] ++ L.drop (posS L s L.length)
theorem insS_len (L : List ByteArray) (s : ByteArray) : (insS L s).length = L.length + 1 := by
  have := posS_le L s L.length
  unfold insS
  simp
  omega

/-- append of strings onto a row of the call's own, inside a region that draws its order. -/
theorem step_str {ops : Array Oper} {o : Oper} {a : Act} {w : World} {K : Act → World → Prop} {Q : Exit → Act → World → Prop} {E : Prop} (hgd : o.guard = none) (s x : Operand)
    (ho : o.op = .call { callee := .builtin .append, args := #[s, x], argTypes := #[34, 34] }) (base : Nat) (v : Value) (n : Nat) (xs : List Value) (hs : a.eval s = v) (hown : w.ownsRow base 9 1 v n xs)
    (ad : Addr) (m c : Nat) (news : List Value) (hx : a.eval x = .slice (some ad) m c) (hl : news.length = m) (hnews : ∀ j u, news[j]? = some u → w.cell? (ad.add j) = some u) (h1 : ∀ u ∈ news, u.oneCell' = true)
    (hb : n + m ≤ 1000) (hbase : base ≤ w.heap.size)
    (h : ∀ v' w', w'.ownsRow base 9 1 v' (n + m) (xs ++ news) → w.grownBy w' v.ownBlock → (v' = .slice none 0 0 ↔ v = .slice none 0 0 ∧ m = 0) → K (a.put o.dst v') w') :
    if Region.wanted o (yielded ops a.tmps) = true then Oper.wp Try.prog o a w K Q else E := by
  have hw : Region.wanted o (yielded ops a.tmps) = true := by simp [Region.wanted, hgd]
  obtain ⟨i0, hi, hz0, hz1, hz2⟩ := info_parts info9
  rw [if_pos hw]
  exact wp_append_own w s x 34 ho base 9 i0 (.string ⟨#[]⟩) 1 16 Try.underlying34 hi hz0 hz1 hz2 rfl (by decide) v n xs hs hown ad m c news hx (by omega) hnews h1 (by unfold maxLen; omega) (by omega) hbase h
theorem addr_add (b o j : Nat) : (⟨b, o, none⟩ : Addr).add j = ⟨b, o + j, none⟩ := by
  unfold Addr.add
  by_cases h : j = 0 <;> simp [h]
theorem getD_of {L : List ByteArray} {j : Nat} (h : j < L.length) : (L.map Value.string)[j]? = some (.string (L.getD j ByteArray.empty)) := by
  rw [List.getElem?_map, List.getElem?_eq_getElem h]
  simp [List.getD, List.getElem?_eq_getElem h]
theorem src_take {w : World} {g2 k i : Nat} {l : List ByteArray} (hk : k ≤ i) (hc : ∀ j, j < i → w.cell? ⟨g2, j, none⟩ = some (.string (l.getD j ByteArray.empty))) (hl : l.length = i) (hg : g2 < w.heap.size) (W : World) (hb : Below w.heap.size w W) :
    ∀ j u, ((l.map Value.string).take k)[j]? = some u → W.cell? ((⟨g2, 0, none⟩ : Addr).add j) = some u := fun j u hu => by
  have hj : j < k := by
    have := (List.getElem?_eq_some_iff.1 hu).1
    simp at this; omega
  rw [List.getElem?_take_of_lt hj, getD_of (by omega)] at hu
  rw [addr_add, Nat.zero_add, hb.cell (p := ⟨g2, j, none⟩) hg, hc j (by omega)]
  exact hu
theorem src_drop {w : World} {g2 k i : Nat} {l : List ByteArray} (hc : ∀ j, j < i → w.cell? ⟨g2, j, none⟩ = some (.string (l.getD j ByteArray.empty))) (hl : l.length = i) (hg : g2 < w.heap.size) (W : World) (hb : Below w.heap.size w W) (off : Nat) (ho : off = k ∨ i ≤ k) :
    ∀ j u, ((l.map Value.string).drop k)[j]? = some u → W.cell? ((⟨g2, off, none⟩ : Addr).add j) = some u := fun j u hu => by
  rw [List.getElem?_drop] at hu
  have hj : k + j < i := by
    have := (List.getElem?_eq_some_iff.1 hu).1
    simp at this; omega
  have ho' : off = k := by omega
  subst ho'
  rw [getD_of (by omega)] at hu
  rw [addr_add, hb.cell (p := ⟨g2, off + j, none⟩) hg, hc (off + j) (by omega)]
  exact hu
theorem src_one {W W' : World} {b : Nat} {x : Value} {row : Option Nat} (hc : ∀ j u, [x][j]? = some u → W.cell? ((⟨b, 0, none⟩ : Addr).add j) = some u) (hg : W.grownBy W' row) (hb : b < W.heap.size) (hne : some b ≠ row) :
    ∀ j u, [x][j]? = some u → W'.cell? ((⟨b, 0, none⟩ : Addr).add j) = some u := fun j u hu => by
  have h := hc j u hu
  rw [addr_add] at *
  rw [World.cell?_of_block (hg.block b hb hne)]
  exact h
theorem srcB {w5 w43 : World} {x : Value} (hg : World.grownBy (World.drew ((w5.alloc (.cells #[] 9)).alloc (.cells #[x] 9))) w43 (Value.slice (some ⟨w5.heap.size, 0, none⟩) 0 0).ownBlock) :
    ∀ j u, [x][j]? = some u → w43.cell? ((⟨w5.heap.size + 1, 0, none⟩ : Addr).add j) = some u :=
  src_one (W := World.drew ((w5.alloc (.cells #[] 9)).alloc (.cells #[x] 9))) (by
    have := cell_one_new (w5.alloc (.cells #[] 9)) x 9
    rw [show (w5.alloc (.cells #[] 9)).heap.size = w5.heap.size + 1 by simp] at this
    exact this) hg (by simp [World.drew]) (by simp [Value.ownBlock])
theorem srcC {w5 w43 : World} {x : Value} (hg : World.grownBy (World.drew ((w5.alloc (.cells #[x] 9)).alloc (.cells #[] 9))) w43 (Value.slice (some ⟨w5.heap.size + 1, 0, none⟩) 0 0).ownBlock) :
    ∀ j u, [x][j]? = some u → w43.cell? ((⟨w5.heap.size, 0, none⟩ : Addr).add j) = some u :=
  src_one (W := World.drew ((w5.alloc (.cells #[x] 9)).alloc (.cells #[] 9))) (fun j u (hu : [x][j]? = some u) => (World.cell?_alloc_lt (w5.alloc (.cells #[x] 9)) (.cells #[] 9) ((⟨w5.heap.size, 0, none⟩ : Addr).add j) (by rw [addr_add]; simp)).trans (cell_one_new w5 x 9 j u hu)) hg (by simp [World.drew]; omega) (by simp [Value.ownBlock])
theorem below_row {n : Nat} {w W W' : World} {v : Value} {m e s : Nat} {xs : List Value} (hb : Below n w W) (ho : W.ownsRow n e s v m xs) (hg : W.grownBy W' v.ownBlock) (hn : n ≤ W.heap.size) : Below n w W' := hb.grown hg hn (row_base ho)
theorem map_one (l : List ByteArray) : ∀ u ∈ l.map Value.string, u.oneCell' = true := fun u hu => by
  obtain ⟨x, _, rfl⟩ := List.mem_map.1 hu
  rfl

/-- A new list of texts was answered, and nothing older turned. -/
def PutPost (w : World) (L : List ByteArray) (e : Ending) (w' : World) : Prop := ∃ v, e = .returned v ∧ v ≠ .slice none 0 0 ∧ w'.ownsRow w.heap.size 9 1 v L.length (L.map Value.string) ∧ Below w.heap.size w w'

set_option maxRecDepth 100000 in
set_option maxHeartbeats 8000000 in
theorem put_rows (g2 i cap : Nat) (L : List ByteArray) (hl : L.length = i) (hi12 : i ≤ 12) (hcap : i ≤ cap) (s : ByteArray) (w : World) (hc : ∀ j, j < i → w.cell? ⟨g2, j, none⟩ = some (.string (L.getD j ByteArray.empty))) (hg : g2 < w.heap.size) :
    Calls Try.prog 36 #[.slice (some ⟨g2, 0, none⟩) i cap, .string s] w (PutPost w (insS L s)) := by
  have HC := Lib.hid hc
  clear hc
  go_enter Try.func36, Try.ntmps36
  go_wp2_with fail
  go_loop [5] (fun x => ∃ k : Nat, k ≤ i ∧ x = .int .i64 k ∧ Hid (posS L s i = posS L s k)) (fun x => (intOf x).toNat)
  case atStart => exact ⟨i, Nat.le_refl _, rfl, Lib.hid rfl⟩
  case round =>
    obtain ⟨k, hk, rfl, KP⟩ := hrel
    by_cases hk0 : 0 < k
    case' pos =>
      have hck := HC.out (k - 1) (by omega)
      have HPos : Hid (posS L s k = if gtB (L.getD (k - 1) ByteArray.empty) s = true then posS L s (k - 1) else k) := Lib.hid (by
        obtain ⟨m, rfl⟩ : ∃ m, k = m + 1 := ⟨k - 1, by omega⟩
        rfl)
      generalize L.getD (k - 1) ByteArray.empty = x at *
      obtain ⟨p, hp⟩ : ∃ p, Op.bytesLess x.toList s.toList = p := ⟨_, rfl⟩
      obtain ⟨q, hq⟩ : ∃ q, (x.toList == s.toList) = q := ⟨_, rfl⟩
      have HR : Hid (gtB x s = !(p || q)) := Lib.hid (by unfold gtB; rw [hp, hq])
      have s3' : (0 : Int) ≤ (k : Int) - 1 := by omega
      have s2' : ((k : Int) - 1).toNat = k - 1 := by omega
      have s4' : (k : Int) - 1 < (i : Int) := by omega
      have s5' : decide ((0 : Int) < (k : Int)) = true := by simp; omega
      cases p <;> cases q
      case' false.false =>
        have KP2 : Hid (posS L s i = posS L s (k - 1)) := Lib.hid (by rw [KP.out, HPos.out, HR.out]; rfl)
        clear HPos HR
        go_wp2_with fail
        refine ⟨⟨k - 1, by omega, val_i (by omega), KP2⟩, by simp [intOf]; omega⟩
      all_goals
        have KE : Hid (k = posS L s i) := Lib.hid (by rw [KP.out, HPos.out, HR.out]; rfl)
        clear HPos HR
    case' neg =>
      have s5' : decide ((0 : Int) < (k : Int)) = false := by simp; omega
      have KE : Hid (k = posS L s i) := Lib.hid (by
        obtain rfl : k = 0 := by omega
        rw [KP.out]; rfl)
    all_goals
      have SA := Lib.hid (fun W hb => src_take hk HC.out hl hg W hb)
      have SB := Lib.hid (fun W hb off ho => src_drop (k := k) HC.out hl hg W hb off ho)
      have HX : Hid (∀ x ∈ (L.map Value.string).take k, x.oneCell' = true) := Lib.hid fun x hx => map_one L x (List.mem_of_mem_take hx)
      have HY : Hid (∀ x ∈ (L.map Value.string).drop k, x.oneCell' = true) := Lib.hid fun x hx => map_one L x (List.mem_of_mem_drop hx)
      have LX : Hid (((L.map Value.string).take k).length = k) := Lib.hid (by simp; omega)
      have LY : Hid (((L.map Value.string).drop k).length = i - k) := Lib.hid (by simp; omega)
      have HRes : Hid ((L.map Value.string).take k ++ [Value.string s] ++ (L.map Value.string).drop k = (insS L s).map Value.string) := Lib.hid (by
        unfold insS
        rw [hl, ← KE.out]
        simp [List.map_take, List.map_drop])
      have HLen : Hid ((insS L s).length = i + 1) := Lib.hid (by rw [insS_len, hl])
      have oA := Lib.hid (own_empty w (.cells #[] 9) 9 rfl)
      have oB := Lib.hid (oA.out.alloc (.cells #[.string s] 9))
      have oC : Hid (((w.alloc (.cells #[.string s] 9)).alloc (.cells #[] 9)).ownsRow w.heap.size 9 1 (.slice (some ⟨w.heap.size + 1, 0, none⟩) 0 0) 0 []) := Lib.hid (by
        have := (own_empty (w.alloc (.cells #[.string s] 9)) (.cells #[] 9) 9 rfl).mono (base' := w.heap.size) (by simp)
        rw [show (w.alloc (.cells #[.string s] 9)).heap.size = w.heap.size + 1 by simp] at this
        exact this)
      have bA : Hid (Below w.heap.size w (w.alloc (.cells #[] 9))) := Lib.hid ((Below.refl _ w).alloc (Nat.le_refl _) _)
      have bB := Lib.hid (bA.out.alloc (by simp) (.cells #[.string s] 9))
      have bC := Lib.hid (((Below.refl _ w).alloc (Nat.le_refl _) (.cells #[.string s] 9)).alloc (by simp) (.cells #[] 9))
      clear KP KE
      generalize L.map Value.string = XS at *
      have hki : (k : Int) ≤ (cap : Int) := by omega
      have hki2 : (k : Int) ≤ (i : Int) := by omega
      by_cases hck2 : cap = k
      case' pos =>
        have LY' := Lib.hid hck2
      case' neg =>
        have LY' := Lib.hid hck2
      all_goals
        go_wp2_with fail
        go_region_law (first | (refine step_str (by rfl) _ _ (by rfl) w.heap.size _ 0 [] (by rfl) (by first | exact oA.out | exact oB.out | exact oC.out) ⟨g2, 0, none⟩ k _ (XS.take k) (by rfl) LX.out (SA.out _ (by first | exact below_drew1 bA.out | exact below_drew1 bB.out | exact below_drew1 bC.out)) HX.out (by omega) (by first | exact bA.out.size | exact bB.out.size | exact bC.out.size) ?_; intro v43 w43 ho43 hg43 hn43; have hb43 : Below w.heap.size w w43 := by first | exact below_row (below_drew1 bA.out) oA.out hg43 bA.out.size | exact below_row (below_drew1 bB.out) oB.out hg43 bB.out.size | exact below_row (below_drew1 bC.out) oC.out hg43 bC.out.size) | (refine step_str (by rfl) _ _ (by rfl) w.heap.size _ (0 + k) ([] ++ XS.take k) (by rfl) (by first | exact ho43 | exact ho43.alloc _) _ 1 1 [.string s] (by rfl) rfl (by first | exact cell_one_new _ _ _ | exact srcB hg43 | exact srcC hg43) (by simp [Value.oneCell']) (by omega) (by first | exact hb43.size | exact (hb43.alloc hb43.size _).size) ?_; intro v46 w46 ho46 hg46 hn46; have hb46 : Below w.heap.size w w46 := by first | exact below_row hb43 ho43 hg46 hb43.size | exact below_row (hb43.alloc hb43.size _) (ho43.alloc _) hg46 (hb43.alloc hb43.size _).size) | (refine step_str (by rfl) _ _ (by rfl) w.heap.size _ (0 + k + 1) ([] ++ XS.take k ++ [.string s]) (by rfl) ho46 _ (i - k) _ (XS.drop k) (by rfl) LY.out (SB.out _ hb46 _ (by omega)) HY.out (by omega) hb46.size ?_; intro v50 w50 ho50 hg50 hn50))
        all_goals
          have hb50 : Below w.heap.size w w50 := below_row hb46 ho46 hg50 hb46.size
          have hv46 : v46 ≠ .slice none 0 0 := fun e => by have := (hn46.1 e).2; omega
          have hv50 : v50 ≠ .slice none 0 0 := fun e => hv46 (hn50.1 e).1
          have HN : Hid (w50.ownsRow w.heap.size 9 1 v50 (insS L s).length ((insS L s).map Value.string)) := Lib.hid (by
            rw [List.nil_append, HRes.out, show 0 + k + 1 + (i - k) = i + 1 by omega] at ho50
            rw [HLen.out]
            exact ho50)
          have HB50 := Lib.hid hb50
          have HV50 := Lib.hid hv50
          clear ho50 hg50 hn50 ho46 hg46 hn46 ho43 hg43 hn43 hb43 hb46 hb50 hv46 hv50
          go_wp2_with fail
          go_ret
          exact ⟨_, rfl, HV50.out, HN.out, HB50.out⟩
end Go.Proofs.Ytpmaaflpknjbmaa.C
