/-
  The round of spec.l12Orders. No statement of the seat by itself.
-/
import Derived.Test.YtalobfpmmembiaaMLa
import Derived.Test.YtalobfpmmembiaaMLc
import Derived.Test.YtalobfpmmembiaaBadP
import Derived.BigQuiet
import Derived.Test.YtalobfpmmembiaaOwn
import Derived.Deep.RegionHeldLaw
import Derived.Test.YtalobfpmmembiaaMLe
namespace Go.Proofs.Ytalobfpmmembiaa
open Go.RowKit

theorem bef_drop {a b : List Int} (hl : a.length = b.length) : ∀ (k : Nat), (∀ j, j < k → a[j]? = b[j]?) → bef a b = bef (a.drop k) (b.drop k) := by
  intro k
  induction k with
  | zero => intro _; simp
  | succ k ih =>
    intro h
    rw [ih fun j hj => h j (by omega)]
    by_cases hk : k < a.length
    · have hk2 : k < b.length := by omega
      have e := h k (by omega)
      rw [List.getElem?_eq_getElem hk, List.getElem?_eq_getElem hk2] at e
      rw [List.drop_eq_getElem_cons hk, List.drop_eq_getElem_cons hk2, ← Option.some.inj e, bef_cons]
    · rw [List.drop_eq_nil_of_le (by omega), List.drop_eq_nil_of_le (by omega), List.drop_eq_nil_of_le (by omega), List.drop_eq_nil_of_le (by omega)]
theorem bef_at {a b : List Int} {k : Nat} {x y : Int} (hl : a.length = b.length) (h : ∀ j, j < k → a[j]? = b[j]?) (ha : a[k]? = some x) (hb : b[k]? = some y) (hxy : ¬ x = y) : bef a b = decide (x < y) := by
  have h1 := lt_of_get ha
  have h2 := lt_of_get hb
  rw [bef_drop hl k h, List.drop_eq_getElem_cons h1, List.drop_eq_getElem_cons h2]
  rw [List.getElem?_eq_getElem h1] at ha
  rw [List.getElem?_eq_getElem h2] at hb
  rw [Option.some.inj ha, Option.some.inj hb, bef, if_neg hxy]

set_option maxRecDepth 100000 in
set_option maxHeartbeats 4000000 in
theorem l12Before_any (v1 v2 : Value) (a b : List Int) (hl : a.length = b.length) (hn : a.length ≤ 1000) (w : World) (h1 : IL w v1 a) (h2 : IL w v2 b) :
    Calls Try.prog 64 #[v1, v2] w fun e w' => e = .returned (.bool (bef a b)) ∧ Below w.heap.size w w' := by
  obtain ⟨p1, c1, rfl, h1⟩ := h1
  obtain ⟨p2, c2, rfl, h2⟩ := h2
  obtain ⟨n, hna⟩ : ∃ n, a.length = n := ⟨_, rfl⟩
  have HNA := Lib.hid hna
  have HNB : Hid (b.length = n) := Lib.hid (by omega)
  have H1 := Lib.hid h1
  have H2 := Lib.hid h2
  rw [show b.length = n by omega]
  rw [hna] at hn ⊢
  clear h1 h2 hl hna
  go_enter Try.func64, Try.ntmps64
  go_wp2_with fail
  go_loopw [5] (fun ii wr => ∃ k q : Nat, k ≤ n ∧ ii = .int .i64 k ∧ wr = w.drewN q ∧ Hid (∀ j, j < k → a[j]? = b[j]?)) (fun ii _ => n - (intOf ii).toNat)
  case atStart => exact ⟨0, 0, Nat.zero_le _, rfl, rfl, Lib.hid fun j hj => by omega⟩
  case round =>
    obtain ⟨k, q, hk, rfl, rfl, HK⟩ := hrel
    by_cases hlt : k < n
    · obtain ⟨g1, o1, rfl, hg1, hc1⟩ := H1.out (by have := HNA.out; omega)
      obtain ⟨g2, o2, rfl, hg2, hc2⟩ := H2.out (by have := HNB.out; omega)
      obtain ⟨x, hx⟩ := get_at HNA.out hlt
      obtain ⟨y, hy⟩ := get_at HNB.out hlt
      have k1 := hc1 k x hx
      have k2 := hc2 k y hy
      have hki : (k : Int) < (n : Int) := by omega
      by_cases hxy : x = y
      · subst hxy
        have HK2 : Hid (∀ j, j < k + 1 → a[j]? = b[j]?) := Lib.hid fun j hj => by
          by_cases e : j = k
          · subst e; rw [hx, hy]
          · exact HK.out j (by omega)
        clear hc1 hc2 hx hy hg1 hg2
        go_wp2_with fail
        go_quiet (fail)
        go_wp2_with fail
        exact ⟨⟨k + 1, q + nq, by omega, by go_num, by first | rfl | simp [World.drewN, Nat.add_assoc], HK2⟩, by simp [intOf]; omega⟩
      · have HB : Hid (bef a b = decide (x < y)) := Lib.hid (bef_at (by rw [HNA.out, HNB.out]) HK.out hx hy hxy)
        have hne : (x == y) = false := by simpa using hxy
        clear hc1 hc2 hx hy hg1 hg2
        go_wp2_with fail
        go_quiet (fail)
        go_wp2_with fail
        go_quiet (fail)
        go_wp2_with fail
        go_ret
        exact ⟨by rw [HB.out]; rfl, below_drewN (below_drewN (below_drewN (Below.refl _ _) _) _) _⟩
    · obtain rfl : k = n := by omega
      have HB : Hid (bef a b = false) := Lib.hid (by
        rw [bef_drop (by rw [HNA.out, HNB.out]) k HK.out, List.drop_eq_nil_of_le (by have := HNA.out; omega)]
        rfl)
      go_wp2_with fail
      go_ret
      exact ⟨by rw [HB.out]; rfl, below_drewN (Below.refl _ _) _⟩

/-- A list of bools as values. -/
def boolV (U : List Bool) : List Value := U.map fun x => Value.bool x
theorem boolV_len (U : List Bool) : (boolV U).length = U.length := by simp [boolV]
theorem boolV_get (U : List Bool) (j : Nat) : (boolV U)[j]? = (U[j]?).map fun x => Value.bool x := by simp [boolV]
theorem boolV_set (U : List Bool) (j : Nat) (x : Bool) : (boolV U).set j (.bool x) = boolV (U.set j x) := by simp [boolV, List.map_set]
theorem boolV_one (U : List Bool) : ∀ u ∈ boolV U, u.oneCell' = true := fun u hu => by
  obtain ⟨x, _, rfl⟩ := List.mem_map.1 hu
  rfl
/-- A list of bools of the call's own. -/
def BO (w : World) (v : Value) (U : List Bool) : Prop := ∃ B, w.ownsRow B 4 1 v U.length (boolV U)
theorem BO.below {w w' : World} {v : Value} {U : List Bool} (h : BO w v U) (hb : Below w.heap.size w w') : BO w' v U := by
  obtain ⟨B, h⟩ := h
  exact ⟨B, row_below h hb⟩
theorem BO.at {w : World} {v : Value} {U : List Bool} (h : BO w v U) (h0 : 0 < U.length) : ∃ g c, v = .slice (some ⟨g, 0, none⟩) U.length c ∧ g < w.heap.size ∧ ∀ j x, U[j]? = some x → w.cell? ⟨g, j, none⟩ = some (.bool x) := by
  obtain ⟨B, h⟩ := h
  rcases h.2 with ⟨_, hz⟩ | ⟨g, cap, cur, rfl, hg, hb, hnc, _⟩
  · omega
  · refine ⟨g, _, rfl, (Array.getElem?_eq_some_iff.1 hb).1, fun j x hx => ?_⟩
    have := lt_of_get hx
    rw [h.cellAt j (by omega), boolV_get, hx]
    rfl
theorem infoB : (Try.prog.info? 4).map (fun i => (i.zero, i.size, i.bytes)) = some (some (.bool false), 1, 1) := by kernel_rfl
/-- make([]bool, n). -/
theorem make_bools (n : Nat) (hn : n ≤ 1048576) (W : World) : ∃ W', (Instr.makeSlice 70 (.int .i64 (n : Int)) (.int .i64 (n : Int))).run Try.prog W = .ok (.slice (some ⟨W.heap.size, 0, none⟩) n n) W' ∧
    W'.ownsRow W.heap.size 4 1 (.slice (some ⟨W.heap.size, 0, none⟩) n n) n (boolV (List.replicate n false)) ∧ Below W.heap.size W W' := by
  obtain ⟨i, hi, hz, hs, hb⟩ := info_is infoB
  obtain ⟨W', h1, h2, h3⟩ := run_make_full (P := Try.prog) W W.heap.size 70 4 i _ 1 Try.underlying70 hi hz hs .i64 .i64 n (by rw [hb]; omega) (by unfold maxLen; omega) (Nat.le_refl _)
  refine ⟨W', h1, ?_, below_of_none h3⟩
  have e : (madeCells (Value.bool false).cells (n * 1)).toList = boolV (List.replicate n false) := by
    rw [Nat.mul_one, show (Value.bool false).cells = #[Value.bool false] from rfl, toList_madeCells_one]; simp [boolV]
  rw [e] at h2
  exact h2

/-- A row of rows of the call's own, from B on: rows may be the same. -/
def OrdY (w : World) (B : Nat) (v : Value) (L : List (List Int)) : Prop := ∃ us, w.ownsRow B 24 1 v L.length us ∧ us.length = L.length ∧ ∀ (j : Nat) (u : Value) (P : List Int), us[j]? = some u → L[j]? = some P → w.ownsRow B 3 1 u P.length (intV P)
theorem OrdY.below {w w' : World} {B : Nat} {v : Value} {L : List (List Int)} (h : OrdY w B v L) (hb : Below w.heap.size w w') : OrdY w' B v L := by
  obtain ⟨us, h1, h2, h3⟩ := h
  exact ⟨us, row_below h1 hb, h2, fun j u P hu hP => row_below (h3 j u P hu hP) hb⟩
theorem OrdY.row {w : World} {B : Nat} {v : Value} {L : List (List Int)} (h : OrdY w B v L) {j : Nat} {P : List Int} (hP : L[j]? = some P) : ∃ g c u, v = .slice (some ⟨g, 0, none⟩) L.length c ∧ g < w.heap.size ∧ w.cell? ⟨g, j, none⟩ = some u ∧ w.ownsRow B 3 1 u P.length (intV P) := by
  obtain ⟨us, h1, h2, h3⟩ := h
  have hj := lt_of_get hP
  obtain ⟨u, hu⟩ : ∃ u, us[j]? = some u := ⟨_, List.getElem?_eq_getElem (by omega)⟩
  rcases h1.2 with ⟨_, hz⟩ | ⟨g, cap, cur, rfl, hg, hb, hnc, _⟩
  · omega
  · exact ⟨g, _, u, rfl, (Array.getElem?_eq_some_iff.1 hb).1, by rw [h1.cellAt j (by omega), hu], h3 j u P hu hP⟩

/-- A row of rows of the call's own: the row from B1 on, its rows from B on. -/
def OrY (w : World) (B1 B : Nat) (v : Value) (L : List (List Int)) : Prop := ∃ us, w.ownsRow B1 24 1 v L.length us ∧ us.length = L.length ∧ ∀ (j : Nat) (u : Value) (P : List Int), us[j]? = some u → L[j]? = some P → w.ownsRow B 3 1 u P.length (intV P)
theorem OrY.below {w w' : World} {B1 B : Nat} {v : Value} {L : List (List Int)} (h : OrY w B1 B v L) (hb : Below w.heap.size w w') : OrY w' B1 B v L := by
  obtain ⟨us, h1, h2, h3⟩ := h
  exact ⟨us, row_below h1 hb, h2, fun j u P hu hP => row_below (h3 j u P hu hP) hb⟩
theorem OrY.row {w : World} {B1 B : Nat} {v : Value} {L : List (List Int)} (h : OrY w B1 B v L) {j : Nat} {P : List Int} (hP : L[j]? = some P) : ∃ g c u, v = .slice (some ⟨g, 0, none⟩) L.length c ∧ g < w.heap.size ∧ w.cell? ⟨g, j, none⟩ = some u ∧ w.ownsRow B 3 1 u P.length (intV P) := by
  obtain ⟨us, h1, h2, h3⟩ := h
  have hj := lt_of_get hP
  obtain ⟨u, hu⟩ : ∃ u, us[j]? = some u := ⟨_, List.getElem?_eq_getElem (by omega)⟩
  rcases h1.2 with ⟨_, hz⟩ | ⟨g, cap, cur, rfl, hg, hb, hnc, _⟩
  · omega
  · exact ⟨g, _, u, rfl, (Array.getElem?_eq_some_iff.1 hb).1, by rw [h1.cellAt j (by omega), hu], h3 j u P hu hP⟩
/-- The rows as the source of an append. -/
theorem OrY.src {w : World} {B1 B : Nat} {v : Value} {L : List (List Int)} (h : OrY w B1 B v L) (h0 : 0 < L.length) : ∃ (g c : Nat) (us : List Value), v = .slice (some ⟨g, 0, none⟩) L.length c ∧ us.length = L.length ∧ (∀ j u, us[j]? = some u → w.cell? ((⟨g, 0, none⟩ : Addr).add j) = some u) ∧ (∀ u ∈ us, u.oneCell' = true) ∧ ∀ (j : Nat) (u : Value) (P : List Int), us[j]? = some u → L[j]? = some P → w.ownsRow B 3 1 u P.length (intV P) := by
  obtain ⟨us, h1, h2, h3⟩ := h
  have hone : ∀ u ∈ us, u.oneCell' = true := fun u hu => by
    obtain ⟨j, hj⟩ := List.getElem?_of_mem hu
    obtain ⟨P, hP⟩ : ∃ P, L[j]? = some P := ⟨_, List.getElem?_eq_getElem (by have := lt_of_get hj; omega)⟩
    obtain ⟨a, c, rfl⟩ := own_form (h3 j u P hj hP)
    rfl
  rcases h1.2 with ⟨_, hz⟩ | ⟨g, cap, cur, rfl, hg, hb, hnc, _⟩
  · omega
  · refine ⟨g, _, us, rfl, h2, fun j u hu => ?_, hone, h3⟩
    have := lt_of_get hu
    rw [addr_add, Nat.zero_add, h1.cellAt j (by omega), hu]
theorem OrY.app {w0 w w' : World} {B1 B n : Nat} {v v' : Value} {L L2 : List (List Int)} {us us2 : List Value} (hB : Below B1 w0 w) (h1 : w.ownsRow B1 24 1 v L.length us) (h2 : us.length = L.length) (h3 : ∀ (j : Nat) (u : Value) (P : List Int), us[j]? = some u → L[j]? = some P → w.ownsRow B 3 1 u P.length (intV P))
    (h4 : us2.length = L2.length) (h5 : ∀ (j : Nat) (u : Value) (P : List Int), us2[j]? = some u → L2[j]? = some P → w.ownsRow B 3 1 u P.length (intV P)) (hn : n = (L ++ L2).length) (ho : w'.ownsRow B1 24 1 v' n (us ++ us2)) (hg : w.grownBy w' v.ownBlock) (hz : B1 ≤ w.heap.size) : OrY w' B1 B v' (L ++ L2) ∧ Below B1 w0 w' := by
  subst hn
  have keep : ∀ (u : Value) (P : List Int), w.ownsRow B 3 1 u P.length (intV P) → w'.ownsRow B 3 1 u P.length (intV P) := fun u P hu => hu.kept hg (by
    cases hv : v.ownBlock with
    | none =>
      cases hub : u.ownBlock with
      | none => exact .inl rfl
      | some g => exact .inr (by simp)
    | some b =>
      cases hub : u.ownBlock with
      | none => exact .inl rfl
      | some g => exact .inr fun e => outer_ne h1 hu b hv (by rw [hub]; exact e))
  refine ⟨⟨us ++ us2, ho, by rw [List.length_append, List.length_append]; omega, fun j u P hu hP => ?_⟩, hB.grown hg hz (row_base h1)⟩
  by_cases hj : j < us.length
  · rw [List.getElem?_append_left hj] at hu
    rw [List.getElem?_append_left (by omega)] at hP
    exact keep u P (h3 j u P hu hP)
  · rw [List.getElem?_append_right (by omega)] at hu hP
    rw [h2] at hu
    exact keep u P (h5 _ u P hu hP)
/-- append of rows onto a row of rows of the call's own, inside a region that draws its order. -/
theorem step_rowsL {ops : Array Oper} {o : Oper} {a : Act} {w : World} {K : Act → World → Prop} {Q : Exit → Act → World → Prop} {E : Prop} (hgd : o.guard = none) (s x : Operand)
    (ho : o.op = .call { callee := .builtin .append, args := #[s, x], argTypes := #[42, 42] }) (base : Nat) (v : Value) (n : Nat) (xs : List Value) (hs : a.eval s = v) (hown : w.ownsRow base 24 1 v n xs)
    (ad : Addr) (m c : Nat) (news : List Value) (hx : a.eval x = .slice (some ad) m c) (hl : news.length = m) (hnews : ∀ j u, news[j]? = some u → w.cell? (ad.add j) = some u) (h1 : ∀ u ∈ news, u.oneCell' = true)
    (hb : n + m ≤ 1000) (hbase : base ≤ w.heap.size)
    (h : ∀ v' w', w'.ownsRow base 24 1 v' (n + m) (xs ++ news) → w.grownBy w' v.ownBlock → K (a.put o.dst v') w') :
    if Region.wanted o (yielded ops a.tmps) = true then Oper.wp Try.prog o a w K Q else E := by
  have hw : Region.wanted o (yielded ops a.tmps) = true := by simp [Region.wanted, hgd]
  obtain ⟨i0, hi, hz0, hz1, hz2⟩ := info_is info38
  rw [if_pos hw]
  exact wp_append_own w s x 42 ho base 24 i0 (.slice none 0 0) 1 24 Try.underlying42 hi hz0 hz1 hz2 rfl (by decide) v n xs hs hown ad m c news hx (by omega) hnews h1 (by unfold maxLen; omega) (by omega) hbase fun v' w' p q _ => h v' w' p q
theorem src_below {W W' : World} {b : Nat} {x : Value} (hc : ∀ j u, [x][j]? = some u → W.cell? ((⟨b, 0, none⟩ : Addr).add j) = some u) (hb : Below W.heap.size W W') (hlt : b < W.heap.size) : ∀ j u, [x][j]? = some u → W'.cell? ((⟨b, 0, none⟩ : Addr).add j) = some u := fun j u hu => by
  have := hc j u hu
  rw [addr_add] at this ⊢
  exact (hb.cell (p := ⟨b, 0 + j, none⟩) hlt).trans this

/-- What l12Orders promises where n weights are left. -/
def OrdN (n : Nat) : Prop := ∀ (B hi : Nat) (l bl : List Int) (U : List Bool) (vc vU vb : Value) (w : World), (unu l U).length = n → U.length = l.length → bl.length + n = l.length → l.length ≤ 4 →
  IL w vc l → BO w vU U → LO w B hi vb bl → B ≤ w.heap.size →
  Calls Try.prog 62 #[vc, vU, vb] w fun e w' => ∃ v, e = .returned v ∧ OrY w' w.heap.size B v ((soN l n U).map fun P => bl ++ P) ∧ Below w.heap.size w w'

set_option maxRecDepth 100000 in
set_option maxHeartbeats 4000000 in
theorem ord_zero : OrdN 0 := by
  intro B hi l bl U vc vU vb w hn hU hbl h4 hc hU2 hb hB
  rw [show (soN l 0 U).map (fun P => bl ++ P) = [bl] by simp [soN]]
  obtain ⟨p, cap, rfl⟩ := hc.form
  obtain ⟨pb, cb, rfl⟩ := own_form hb.2.1
  have hbz : ((bl.length : Int) == (l.length : Int)) = true := by simp; omega
  have HX : Hid (OrY (w.alloc (.cells #[.slice pb bl.length cb] 24)) w.heap.size B (.slice (some ⟨w.heap.size, 0, none⟩) 1 1) [bl] ∧ Below w.heap.size w (w.alloc (.cells #[.slice pb bl.length cb] 24))) := Lib.hid ⟨⟨[.slice pb bl.length cb], by
      have := World.ownsRow_lit (base := w.heap.size) (e := 24) (size := 1) w #[.slice pb bl.length cb] 1 (Nat.le_refl _) (by unfold maxLen; omega) (by simp)
      simpa using this, rfl, fun j u P hu hP => by
      match j, hu, hP with
      | 0, hu, hP =>
        cases hu; cases hP
        exact row_below hb.2.1 (below_one w _)
      | j + 1, hu, hP => simp at hu⟩, below_one w _⟩
  clear hc hU2 hb
  generalize bl.length = nb at *
  generalize l.length = nl at *
  go_enter Try.func62, Try.ntmps62
  go_wp2_with fail
  go_ret
  exact ⟨_, rfl, HX.out.1, HX.out.2⟩

theorem ord_next {l : List Int} {U : List Bool} {bl : List Int} {n k : Nat} {x : Int} (hx : l[k]? = some x) (hu : U[k]? = some false) :
    (blks (fun i => if U.getD i true = true then [] else (soN l n (U.set i true)).map fun P => l.getD i 0 :: P) (k + 1)).map (fun P => bl ++ P) =
    (blks (fun i => if U.getD i true = true then [] else (soN l n (U.set i true)).map fun P => l.getD i 0 :: P) k).map (fun P => bl ++ P) ++ (soN l n (U.set k true)).map fun P => (bl ++ [x]) ++ P := by
  rw [blks_succ, List.map_append]
  congr 1
  rw [show U.getD k true = false by simp [List.getD, hu], if_neg (by simp), List.map_map]
  apply List.map_congr_left
  intro P _
  simp [List.getD, hx]
theorem ord_skip {l : List Int} {U : List Bool} {bl : List Int} {n k : Nat} (hu : U[k]? = some true) :
    (blks (fun i => if U.getD i true = true then [] else (soN l n (U.set i true)).map fun P => l.getD i 0 :: P) (k + 1)).map (fun P => bl ++ P) =
    (blks (fun i => if U.getD i true = true then [] else (soN l n (U.set i true)).map fun P => l.getD i 0 :: P) k).map (fun P => bl ++ P) := by
  rw [blks_succ, List.map_append, show U.getD k true = true by simp [List.getD, hu], if_pos rfl, List.map_nil, List.append_nil]
theorem soN_bound (l : List Int) (hl : l.length ≤ 4) : ∀ (n : Nat) (U : List Bool), (soN l n U).length ≤ 4 ^ n
  | 0, U => by simp [soN]
  | n + 1, U => by
    have key : ∀ k, k ≤ l.length → (blks (fun i => if U.getD i true = true then [] else (soN l n (U.set i true)).map fun P => l.getD i 0 :: P) k).length ≤ k * 4 ^ n := fun k => by
      induction k with
      | zero => intro _; simp [blks]
      | succ k ih =>
        intro hk
        rw [blks_succ, List.length_append, Nat.succ_mul]
        refine Nat.add_le_add (ih (by omega)) ?_
        split
        · simp
        · rw [List.length_map]; exact soN_bound l hl n (U.set k true)
    have := key l.length (Nat.le_refl _)
    have h2 : l.length * 4 ^ n ≤ 4 * 4 ^ n := Nat.mul_le_mul_right _ hl
    rw [soN, Nat.pow_succ, Nat.mul_comm]
    exact Nat.le_trans this h2

theorem blk_bound {l : List Int} (hl : l.length ≤ 4) {n : Nat} (hn : n ≤ 3) (U : List Bool) (bl : List Int) (k : Nat) (hk : k ≤ 4) :
    ((blks (fun i => if U.getD i true = true then [] else (soN l n (U.set i true)).map fun P => l.getD i 0 :: P) k).map fun P => bl ++ P).length ≤ 256 := by
  have key : ∀ k, (blks (fun i => if U.getD i true = true then [] else (soN l n (U.set i true)).map fun P => l.getD i 0 :: P) k).length ≤ k * 64 := fun k => by
    induction k with
    | zero => simp [blks]
    | succ k ih =>
      rw [blks_succ, List.length_append]
      have h2 : (soN l n (U.set k true)).length ≤ 64 := Nat.le_trans (soN_bound l hl n _) (Nat.pow_le_pow_right (by decide) hn : 4 ^ n ≤ 4 ^ 3)
      split
      · rw [List.length_nil]; omega
      · rw [List.length_map]; omega
  rw [List.length_map]
  have := key k
  omega
theorem soN_64 {l : List Int} (hl : l.length ≤ 4) {n : Nat} (hn : n ≤ 3) (U : List Bool) (bl : List Int) : ((soN l n U).map fun P => bl ++ P).length ≤ 64 := by
  rw [List.length_map]
  exact Nat.le_trans (soN_bound l hl n _) (Nat.pow_le_pow_right (by decide) hn : 4 ^ n ≤ 4 ^ 3)
theorem row_pos {W : World} {base : Nat} {e : TypeId} {size : Nat} {v : Value} {k : Nat} {xs : List Value} (h : W.ownsRow base e size v k xs) (hk : 0 < k) : ∃ g cap, v = .slice (some ⟨g, 0, none⟩) k cap := by
  rcases h.2 with ⟨_, h0⟩ | ⟨g, cap, _, rfl, _⟩
  · omega
  · exact ⟨g, cap, rfl⟩
theorem row_cell {W : World} {base g cap : Nat} {e : TypeId} {k i : Nat} {xs : List Value} (h : W.ownsRow base e 1 (.slice (some ⟨g, 0, none⟩) k cap) k xs) (hi : i < k) : (∃ y, W.cell? ⟨g, i, none⟩ = some y) ∧ W.frozen? ⟨g, i, none⟩ = false := by
  refine ⟨?_, h.frozenAt i⟩
  have hl := h.1
  rw [h.cellAt i (by omega)]
  exact ⟨_, List.getElem?_eq_getElem (by omega)⟩


theorem soN_ne {l : List Int} {n : Nat} {U : List Bool} (hU : U.length = l.length) (h : (unu l U).length = n) (bl : List Int) : 0 < ((soN l n U).map fun P => bl ++ P).length := by
  rw [List.length_map]
  have := (soN_mem l n U (unu l U) hU h).2 (List.Perm.refl _)
  exact List.length_pos_of_mem this

set_option maxRecDepth 100000 in
set_option maxHeartbeats 16000000 in
theorem ord_succ (n : Nat) (ih : OrdN n) : OrdN (n + 1) := by
  intro B hi l bl U vc vU vb w hn hU hbl h4 hc hU2 hb hB
  obtain ⟨fB, hiB, hbz0, hbz1, hbz2⟩ := info_is infoB
  have IH := Lib.hid ih
  have HSo : Hid (soN l (n + 1) U = blks (fun i => if U.getD i true = true then [] else (soN l n (U.set i true)).map fun P => l.getD i 0 :: P) l.length) := Lib.hid rfl
  have HNx := Lib.hid (fun k x => ord_next (l := l) (U := U) (bl := bl) (n := n) (k := k) (x := x))
  have HSk := Lib.hid (fun k => ord_skip (l := l) (U := U) (bl := bl) (n := n) (k := k))
  have HBd := Lib.hid (fun k hk => blk_bound h4 (show n ≤ 3 by omega) U bl k hk)
  have HUn : Hid (∀ (k : Nat) (x : Int), l[k]? = some x → U[k]? = some false → (unu l (U.set k true)).length = n) := Lib.hid fun k x hx hu => by
    have := (unu_take l U k x hx hu).length_eq
    rw [List.length_cons] at this
    omega
  have HUl := Lib.hid hU
  have H64 := Lib.hid (fun U2 => soN_64 h4 (show n ≤ 3 by omega) U2)
  have HV := Lib.hid hc
  have HUU := Lib.hid hU2
  have HBb := Lib.hid hb
  have HBB := Lib.hid hB
  have HBl := Lib.hid hbl
  have HOr : Hid (OrY (w.alloc (.cells #[] 24)) w.heap.size B (.slice (some ⟨w.heap.size, 0, none⟩) 0 0) ((blks (fun i => if U.getD i true = true then [] else (soN l n (U.set i true)).map fun P => l.getD i 0 :: P) 0).map fun P => bl ++ P)) := Lib.hid ⟨[], by
    have := own_empty w (.cells #[] 24) 24 rfl
    simpa [blks] using this, rfl, fun j u P hu => by simp at hu⟩
  rw [HSo.out]
  clear HSo
  obtain ⟨p, cap, rfl, hcc0⟩ := hc
  have HC := Lib.hid hcc0
  obtain ⟨nl, hnl⟩ : ∃ nl, l.length = nl := ⟨_, rfl⟩
  have HNL := Lib.hid hnl
  obtain ⟨pU, cU, hpU⟩ : ∃ pU cU, vU = .slice pU U.length cU := by
    obtain ⟨B2, h⟩ := hU2
    exact own_form h
  subst hpU
  obtain ⟨pb, cb, rfl⟩ := own_form hb.2.1
  obtain ⟨nb, hnb⟩ : ∃ nb, bl.length = nb := ⟨_, rfl⟩
  have HNB := Lib.hid hnb
  rw [hnb] at HBb hbl ⊢
  rw [hU] at HUU
  rw [hU]
  rw [hnl] at h4 hbl HUU HV ⊢
  generalize hbk : blks (fun i => if U.getD i true = true then [] else (soN l n (U.set i true)).map fun P => l.getD i 0 :: P) = bk at *
  have hbz : ((nb : Int) == (nl : Int)) = false := by simp; omega
  have HB0 := Lib.hid (below_one w (.cells #[] 24))
  clear hn hU hU2 hb hcc0 hnl hnb hbk ih hB
  go_enter Try.func62, Try.ntmps62
  go_wp2_with fail
  go_loopw [7, 8] (fun s ii wr => ∃ i : Nat, i ≤ nl ∧ ii = .int .i64 i ∧ Hid (OrY wr w.heap.size B s ((bk i).map fun P => bl ++ P)) ∧ Hid (Below w.heap.size w wr)) (fun _ ii _ => nl - (intOf ii).toNat)
  case atStart => exact ⟨0, Nat.zero_le _, rfl, HOr, HB0⟩
  case round =>
    obtain ⟨i, hi, rfl, HO, HB⟩ := hrel
    rename World => wr
    by_cases hlt : i < nl
    · obtain ⟨x, hx⟩ := get_at HNL.out hlt
      obtain ⟨b, hu⟩ := get_at HUl.out (by rw [HNL.out]; exact hlt)
      obtain ⟨gU, cU2, eU, hgU, hcU⟩ := (HUU.out.below HB.out).at (by rw [HUl.out, HNL.out]; omega)
      rw [HUl.out, HNL.out] at eU
      injection eU with eU1 _ eU3
      subst eU1 eU3
      have kU := hcU i b hu
      obtain ⟨gc, oc, rfl, hgc, hcc⟩ := HC.out (by have := HNL.out; omega)
      have XC := Lib.hid (fun W (hb : Below w.heap.size w W) => (hb.cell (p := ⟨gc, oc + i, none⟩) hgc).trans (hcc i x hx))
      have hki : (i : Int) < (nl : Int) := by omega
      cases b with
      | true =>
        have HO2 := HO.out
        rw [← HSk.out i hu] at HO2
        have HO3 := Lib.hid HO2
        clear HO2 hcU hcc hx hu
        go_wp2_with fail
        exact ⟨⟨i + 1, by omega, by go_num, HO3, HB⟩, by simp [intOf]; omega⟩
      | false =>
        have HNn := Lib.hid (HNx.out i x hx hu)
        have HUi := Lib.hid (HUn.out i x hx hu)
        have HBk := Lib.hid (HBd.out i (by omega))
        have hsz := HB.out.size
        -- the copy of the marks
        have oE := own_empty wr (.cells #[] 4) 4 rfl
        have HSrc : Hid (∀ j u, (boolV U)[j]? = some u → (wr.alloc (.cells #[] 4)).cell? ((⟨gU, 0, none⟩ : Addr).add j) = some u) := Lib.hid fun j u hj => by
          rw [boolV_get] at hj
          cases hUj : U[j]? with
          | none => rw [hUj] at hj; cases hj
          | some y =>
            rw [hUj] at hj
            simp only [Option.map_some, Option.some.injEq] at hj
            subst hj
            rw [addr_add, Nat.zero_add]
            exact ((below_one wr _).cell (p := ⟨gU, j, none⟩) hgU).trans (hcU j y hUj)
        have HUL : Hid ((boolV U).length = nl) := Lib.hid (by rw [boolV_len, HUl.out, HNL.out])
        have HUo := Lib.hid (boolV_one U)
        have HUs := Lib.hid (boolV_set U i true)
        have HUlen : Hid ((U.set i true).length = nl) := Lib.hid (by rw [List.length_set, HUl.out, HNL.out])
        clear hcU hcc hx hu
        generalize boolV U = BV at *
        go_wp2_with (at_builtin; refine wpList_append_own _ rfl _ _ 70 rfl wr.heap.size 4 fB (.bool false) 1 1 Try.underlying70 hiB hbz0 hbz1 hbz2 rfl (by decide) _ _ _ rfl oE ⟨gU, 0, none⟩ nl _ BV rfl (by rw [HUL.out]; omega) HSrc.out HUo.out (by unfold maxLen; omega) (by omega) (by simp) ?_; intro v' w4 hown' hgrow hnil; obtain ⟨g', cap', rfl⟩ := row_pos hown' (by omega); obtain ⟨⟨y4, hy4⟩, fz4⟩ := row_cell (i := i) hown' (by omega))
        have hbw : Below wr.heap.size wr (w4.setCell ⟨g', i, none⟩ (.bool true)) := (below_row (below_one wr _) oE hgrow (by simp)).setCell (p := ⟨g', i, none⟩) (row_base hown' g' rfl) _
        have HBO : Hid (BO (w4.setCell ⟨g', i, none⟩ (.bool true)) (.slice (some ⟨g', 0, none⟩) nl cap') (U.set i true)) := Lib.hid ⟨wr.heap.size, by
          have := (hown'.stored i (.bool true)).1
          rw [List.nil_append, HUs.out, Nat.zero_add] at this
          rw [HUlen.out]
          exact this⟩
        clear hown' hgrow hnil hy4 fz4 kU hsz oE
        generalize w4.setCell ⟨g', i, none⟩ (.bool true) = w9 at *
        have HB9 : Hid (Below w.heap.size w w9) := Lib.hid (HB.out.trans (hbw.mono HB.out.size))
        have HO9 := Lib.hid (HO.out.below hbw)
        have HB2 := Lib.hid (HBb.out.below HB9.out)
        have HV9 := Lib.hid (HV.out.below HB9.out)
        have xw := XC.out w9 HB9.out
        have hgc9 : gc < w9.heap.size := Nat.lt_of_lt_of_le hgc HB9.out.size
        have HGc := Lib.hid hgc9
        have HOw := Lib.hid (fun W (hb : Below w9.heap.size w9 W) => l1Own_any (.slice pb nb cb) bl (by rw [HNB.out]; omega) W (HB2.out.read.below hb))
        unfold NewI at HOw
        rw [HNB.out] at HOw
        have hz9 := HB9.out.size
        have HZ9 := Lib.hid hz9
        have HBz : Hid (B ≤ w9.heap.size) := Lib.hid (Nat.le_trans HBB.out hz9)
        have HLx : Hid ((bl ++ [x]).length = nb + 1) := Lib.hid (by rw [List.length_append, List.length_singleton, HNB.out])
        have HVx : Hid (intV bl ++ [Value.int .i64 x] = intV (bl ++ [x])) := Lib.hid (by simp [intV])
        have HIx : Hid ((bl ++ [x]).length + n = l.length) := Lib.hid (by rw [HLx.out, HNL.out]; omega)
        have H6 := Lib.hid (H64.out (U.set i true) (bl ++ [x]))
        have H0 : Hid (0 < ((soN l n (U.set i true)).map fun P => (bl ++ [x]) ++ P).length) := Lib.hid (soN_ne (by rw [HUlen.out, HNL.out]) HUi.out _)
        obtain ⟨L2, hL2⟩ : ∃ L2, ((soN l n (U.set i true)).map fun P => (bl ++ [x]) ++ P) = L2 := ⟨_, rfl⟩
        have HL2 := Lib.hid hL2
        rw [hL2] at H6 H0 HNn
        have h64 := H6.out
        clear hL2
        obtain ⟨us, HO9'⟩ := HO9.out
        have HU9 := Lib.hid HO9'
        obtain ⟨ao, co, hso⟩ := own_form HO9'.1
        subst hso
        generalize hLk : (bk i).map (fun P => bl ++ P) = Lk at *
        have h256 := HBk.out
        clear hbw hgc9 hz9 HO9' hLk
        go_wp2_with fail
        have xd : w9.drew.cell? ⟨gc, oc + i, none⟩ = some (.int .i64 x) := xw
        go_region_held_law (fun W => W.cell? ⟨gc, oc + i, none⟩ = some (.int .i64 x)) (go_keep) (first
          | (go_simp; go_at_call 79; refine (HOw.out _ (by first | exact drewB (Below.refl _ w9) | exact drewB (below_one w9 _))).mono ?_; rintro e w38 ⟨a38, c38, rfl, ho38, hb38⟩; have BB38 : Below w9.heap.size w9 w38 := (by first | exact (drewB (Below.refl _ w9)).trans hb38 | exact (drewB (below_one w9 _)).trans (hb38.mono (drewB (below_one w9 _)).size)); have O38 : w38.ownsRow w9.heap.size 3 1 (.slice a38 nb c38) nb (intV bl) := ho38.mono (by first | exact Nat.le_refl _ | exact (below_one w9 _).size); have x38 := (BB38.cell (p := ⟨gc, oc + i, none⟩) HGc.out).trans xw)
          | (refine step_ints (by rfl) _ _ (by rfl) w9.heap.size _ nb (intV bl) (by rfl) (by first | exact O38.alloc _ | exact O38) _ 1 1 [.int .i64 x] (by rfl) rfl (by first | exact cell_one_new w38 _ _ | exact src_below (W := (w9.alloc _).drew) (cell_one_new w9 _ _) hb38 (lt1 w9 _)) (by simp [Value.oneCell']) (by omega) (by first | exact (BB38.alloc BB38.size _).size | exact BB38.size) ?_; intro v44 w44 ho44 hg44 hn44; have BB44 : Below w9.heap.size w9 w44 := (by first | exact below_row (BB38.alloc BB38.size _) (O38.alloc _) hg44 (BB38.alloc BB38.size _).size | exact below_row BB38 O38 hg44 BB38.size); have x44 := (BB44.cell (p := ⟨gc, oc + i, none⟩) HGc.out).trans xw)
          | (go_simp; go_at_call 62; refine (IH.out B _ l (bl ++ [x]) (U.set i true) _ _ v44 w44 HUi.out (by rw [HUlen.out, HNL.out]) HIx.out (by rw [HNL.out]; omega) (HV9.out.below BB44) (HBO.out.below BB44) (lo_from (by rw [HLx.out, ← HVx.out]; exact ho44) HBz.out) (Nat.le_trans HBz.out BB44.size)).mono ?_; rintro e w45 ⟨v45, rfl, hY45, hb45⟩; rw [HL2.out] at hY45; obtain ⟨g45, c45, us45, rfl, y1, y2, y3, y4⟩ := hY45.src H0.out; have BB45 : Below w9.heap.size w9 w45 := BB44.trans (hb45.mono BB44.size); have x45 := (BB45.cell (p := ⟨gc, oc + i, none⟩) HGc.out).trans xw)
          | (refine step_rowsL (by rfl) _ _ (by rfl) w.heap.size _ Lk.length us (by rfl) (row_below HU9.out.1 BB45) ⟨g45, 0, none⟩ L2.length c45 us45 (by rfl) y1 y2 y3 (by omega) (Nat.le_trans HZ9.out BB45.size) ?_; intro v46 w46 ho46 hg46; have A46 := OrY.app (HB9.out.trans (BB45.mono HB9.out.size)) (row_below HU9.out.1 BB45) HU9.out.2.1 (fun j u P hu hP => row_below (HU9.out.2.2 j u P hu hP) BB45) y1 y4 (by rw [List.length_append]) ho46 hg46 (Nat.le_trans HZ9.out BB45.size); have x46 := (A46.2.cell (p := ⟨gc, oc + i, none⟩) hgc).trans (((HB9.out.cell (p := ⟨gc, oc + i, none⟩) hgc).symm).trans xw))
          | fail)
        all_goals
          have HO5 : Hid (OrY w46 w.heap.size B v46 ((bk (i + 1)).map fun P => bl ++ P)) := Lib.hid (by rw [HNn.out]; exact A46.1)
          have HB5 := Lib.hid A46.2
          clear A46 ho46 hg46 x46 y1 y2 y3 y4 hb45 x45 BB45 hY45 ho44 hg44 hn44 BB44 x44 BB38 O38 x38 hb38 ho38 xd xw h256 h64
          go_wp2_with fail
          exact ⟨⟨i + 1, by omega, by go_num, HO5, HB5⟩, by simp [intOf]; omega⟩
    · obtain rfl : i = nl := by omega
      have HD := Lib.hid (And.intro HO.out HB.out)
      go_wp2_with fail
      go_ret
      exact ⟨_, rfl, HD.out.1, HD.out.2⟩
end Go.Proofs.Ytalobfpmmembiaa
