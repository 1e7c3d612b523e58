/-
  What impl.BlockersOf returns. No statement of the seat by itself.
-/
import Derived.Test.YtmkejgbbgknalaaIter
import Derived.Test.YtmkejgbbgknalaaFind
namespace Go.Proofs.Ytmkejgbbgknalaa
open Go.RowKit Go.Shelf
attribute [local go_sem] Oper.semAt_some

/-- The numbers above a number, the top first. -/
def blR (Y : List (List Int)) (x : Int) : List Int := match plO Y x with
  | none => []
  | some p => ((Y.getD p.1 []).drop (p.2 + 1)).reverse
theorem blR_none {Y : List (List Int)} {x : Int} (h : plO Y x = none) : blR Y x = [] ∧ plB Y x = false := by simp [blR, plB, h]
theorem blR_some {Y : List (List Int)} {x : Int} {i k : Nat} {l : List Int} (h : plO Y x = some (i, k)) (hl : Y[i]? = some l) : blR Y x = (l.drop (k + 1)).reverse ∧ plB Y x = true := by
  unfold blR plB
  rw [h]
  exact ⟨by show ((Y.getD i []).drop (k + 1)).reverse = _; rw [getD_of hl], rfl⟩
theorem bk_rev (l : List Int) : (bk l l.length).map (fun p => Value.int .i64 p.2) = intV l.reverse := by
  apply List.ext_getElem
  · simp [bk_len, intV]
  · intro j h1 h2
    have hj : j < l.length := by simpa [bk_len] using h1
    have e : l.length - 1 - j < l.length := by omega
    simp [bk, intV, List.getD, e]
theorem backward_any (a : Option Addr) (n c : Nat) (w : World) : Calls Try.prog 120 #[.slice a n c] w fun e w' => e = .returned (.func (.func 126) #[] #[.pointer (some ⟨w.heap.size, 0, none⟩)]) ∧ w' = w.alloc (.cells #[.slice a n c] 29) := by
  go_enter Try.func120, Try.ntmps120
  go_wp2_with fail
  go_ret
  exact ⟨rfl, rfl⟩
theorem two_more (w : World) (o1 o2 o3 : Obj) : Below w.heap.size w (((w.alloc o1).alloc o2).alloc o3) := (((Below.refl _ w).alloc (Nat.le_refl _) _).alloc (by simp) _).alloc (by simp; omega) _

set_option maxRecDepth 100000 in
set_option maxHeartbeats 4000000 in
theorem implBlockers_no (v : Value) (Y : List (List Int)) (x : Int) (h1 : Y.length ≤ 1048576) (h2 : tot Y ≤ 1048576) (w : World) (h : YdR w v Y) (hp : plO Y x = none) :
    Calls Try.prog 112 #[v, .int .i64 x] w (RetL w [] false) := by
  obtain ⟨v0, rfl, hv⟩ := h
  have HB := Lib.hid (two_more w (.cells #[v0] 28) (.cells #[] 3) (.cells #[.slice (some ⟨w.heap.size + 1, 0, none⟩) 0 0] 29))
  obtain ⟨k0, k1, k2, ks, -⟩ := three_alloc w (.cells #[v0] 28) (.cells #[] 3) (.cells #[.slice (some ⟨w.heap.size + 1, 0, none⟩) 0 0] 29)
  have HF := Lib.hid (implPlace_any (.agg #[v0]) Y x h1 h2 _ ⟨v0, rfl, hv.below HB.out⟩)
  rw [plV_none hp] at HF
  have c0 : (((w.alloc (.cells #[v0] 28)).alloc (.cells #[] 3)).alloc (.cells #[.slice (some ⟨w.heap.size + 1, 0, none⟩) 0 0] 29)).cell? ⟨w.heap.size, 0, none⟩ = some v0 := cell_of k0 rfl
  have HK1 := Lib.hid k1
  have HK2 := Lib.hid k2
  have HKs := Lib.hid ks
  clear k0 k1 k2 ks hv hp h1 h2
  go_enter Try.func112, Try.ntmps112
  go_wp2_with fail
  refine HF.out.mono ?_
  rintro e w1 ⟨rfl, hb⟩
  have B1 := Lib.hid (HB.out.trans (hb.mono HB.out.size))
  have k1 := (hb.block _ (by have := HKs.out; omega)).trans HK1.out
  have c1 : w1.cell? ⟨w.heap.size + 2, 0, none⟩ = some (.slice (some ⟨w.heap.size + 1, 0, none⟩) 0 0) := cell_of ((hb.block _ (by have := HKs.out; omega)).trans HK2.out) rfl
  have R1 : Hid (RetL w [] false (.returned (.tuple #[.slice (some ⟨w.heap.size + 1, 0, none⟩) 0 0, .bool false])) w1) := Lib.hid (retL_of (B := w.heap.size + 1) (l := []) ⟨rfl, .inr ⟨_, 0, #[], rfl, Nat.le_refl _, k1, Nat.le_refl _, Nat.zero_le _, rfl, rfl⟩⟩ (Nat.le_succ _) B1.out)
  clear hb c0 k1
  go_wp2_with fail
  go_ret2
  exact R1.out

set_option maxRecDepth 100000 in
set_option maxHeartbeats 4000000 in
theorem implBlockers_far (g0 off0 cap0 i k m c g off : Nat) (Y : List (List Int)) (l : List Int) (x : Int) (n : Nat) (h1 : Y.length ≤ 1048576) (h2 : tot Y ≤ 1048576) (w : World) (h : YdR w (.agg #[.slice (some ⟨g0, off0, none⟩) n cap0]) Y) (hp : plO Y x = some (i, k))
    (hin : i < n) (hkm : k < m) (hm4 : m ≤ 4) (hmc : m ≤ c) (hl : l.length = m) (hg0 : g0 < w.heap.size) (hg : g < w.heap.size) (hu : w.cell? ⟨g0, off0 + i, none⟩ = some (.slice (some ⟨g, off, none⟩) m c)) (hcc : ∀ (j : Nat) (y : Int), l[j]? = some y → w.cell? ⟨g, off + j, none⟩ = some (.int .i64 y)) (hne : ¬ c = k + 1) :
    Calls Try.prog 112 #[.agg #[.slice (some ⟨g0, off0, none⟩) n cap0], .int .i64 x] w (RetL w (l.drop (k + 1)).reverse true) := by
  obtain ⟨i0, hi, hz0, hz1, hz2⟩ := info_is info3
  have HB := Lib.hid (two_more w (.cells #[.slice (some ⟨g0, off0, none⟩) n cap0] 28) (.cells #[] 3) (.cells #[.slice (some ⟨w.heap.size + 1, 0, none⟩) 0 0] 29))
  obtain ⟨k0, k1, k2, ks, -⟩ := three_alloc w (.cells #[.slice (some ⟨g0, off0, none⟩) n cap0] 28) (.cells #[] 3) (.cells #[.slice (some ⟨w.heap.size + 1, 0, none⟩) 0 0] 29)
  have HF := Lib.hid (implPlace_any _ Y x h1 h2 _ (h.below HB.out))
  rw [plV_some hp] at HF
  have HK0 := Lib.hid k0
  have HK1 := Lib.hid k1
  have HK2 := Lib.hid k2
  have HKs := Lib.hid ks
  have HL := Lib.hid hl
  have HC := Lib.hid hcc
  have HU := Lib.hid hu
  obtain ⟨q, hq⟩ : ∃ q, k + 1 = q := ⟨_, rfl⟩
  rw [hq] at hne ⊢
  have hqi : (k : Int) + 1 = (q : Int) := by omega
  have hqm : (q : Int) ≤ (m : Int) := by omega
  have hqc : (q : Int) ≤ (c : Int) := by omega
  have hq0 : (0 : Int) ≤ (q : Int) := by omega
  have hmc2 : (m : Int) ≤ (c : Int) := by omega
  clear k0 k1 k2 ks h hp h1 h2 hl hcc hu
  refine (callsIn_wide (n := 3)).1 ?_
  refine callsIn_of_wp_marks Try.func112 rfl trivial ?_ rfl
  simp only [Try.ntmps112, List.size_toArray, List.length_cons, List.length_nil, Nat.reduceAdd, Nat.reduceSub, Array.replicate_succ, Array.replicate_zero, List.push_toArray, List.append_toArray, List.nil_append, List.cons_append]
  gi_wp2_with fail
  refine ⟨trivial, ?_⟩
  refine (callsIn_wide.2 HF.out).mono ?_
  rintro e w1 ⟨rfl, hb⟩
  have B1 := Lib.hid (HB.out.trans (hb.mono HB.out.size))
  have cA : w1.cell? ⟨w.heap.size, 0, none⟩ = some (.slice (some ⟨g0, off0, none⟩) n cap0) := cell_of ((hb.block _ (by have := HKs.out; omega)).trans HK0.out) rfl
  have hu1 := (B1.out.cell (p := ⟨g0, off0 + i, none⟩) hg0).trans HU.out
  have K1 := Lib.hid ((hb.block _ (by have := HKs.out; omega)).trans HK1.out)
  have K2 := Lib.hid ((hb.block _ (by have := HKs.out; omega)).trans HK2.out)
  have hzw1 : w.heap.size + 3 ≤ w1.heap.size := by have := hb.size; have := HKs.out; omega
  clear hb
  gi_wp2_with fail
  refine ⟨trivial, ?_⟩
  refine (callsIn_wide.2 (backward_any _ _ _ _)).mono ?_
  rintro e w2 ⟨rfl, rfl⟩
  have bS : Boxed (w1.alloc (.cells #[.slice (some ⟨g, off + q, none⟩) (m - q) (c - q)] 29)) w1.heap.size 29 (.slice (some ⟨g, off + q, none⟩) (m - q) (c - q)) := Boxed.new w1 29 (.slice (some ⟨g, off + q, none⟩) (m - q) (c - q))
  have hb2 := below_one w1 (.cells #[.slice (some ⟨g, off + q, none⟩) (m - q) (c - q)] 29)
  have bO : Boxed (w1.alloc (.cells #[.slice (some ⟨g, off + q, none⟩) (m - q) (c - q)] 29)) (w.heap.size + 1 + 1) 29 (.slice (some ⟨w.heap.size + 1, 0, none⟩) 0 0) := (hb2.block _ (by omega)).trans K2.out
  have row0 : (w1.alloc (.cells #[.slice (some ⟨g, off + q, none⟩) (m - q) (c - q)] 29)).ownsRow w.heap.size 3 1 (.slice (some ⟨w.heap.size + 1, 0, none⟩) 0 0) 0 [] := ⟨rfl, .inr ⟨_, 0, #[], rfl, Nat.le_succ _, (hb2.block _ (by omega)).trans K1.out, Nat.le_refl _, Nat.zero_le _, rfl, rfl⟩⟩
  have hB2 := B1.out.trans (hb2.mono B1.out.size)
  have hgW : g < (w1.alloc (.cells #[.slice (some ⟨g, off + q, none⟩) (m - q) (c - q)] 29)).heap.size := by have := hB2.size; omega
  have hzW : w.heap.size ≤ (w1.alloc (.cells #[.slice (some ⟨g, off + q, none⟩) (m - q) (c - q)] 29)).heap.size := hB2.size
  have hcW : ∀ (j : Nat) (y : Int), (l.drop q)[j]? = some y → (w1.alloc (.cells #[.slice (some ⟨g, off + q, none⟩) (m - q) (c - q)] 29)).cell? ⟨g, off + q + j, none⟩ = some (.int .i64 y) := fun j y hy => by
    rw [List.getElem?_drop] at hy
    have := HC.out (q + j) y hy
    rw [Nat.add_assoc]
    exact (hB2.cell (p := ⟨g, off + (q + j), none⟩) hg).trans this
  have hlen : (l.drop q).length = (m - q) := by have := HL.out; rw [List.length_drop]; omega
  clear cA hu1 hb2
  gi_wp2_with fail
  generalize w1.alloc (.cells #[.slice (some ⟨g, off + q, none⟩) (m - q) (c - q)] 29) = W2 at *
  refine wpIn_rangeFunc_ownG rfl (by decide) (gf := 126) (lb := #[.pointer (some ⟨w1.heap.size, 0, none⟩)]) rfl trivial (enters_of Try.func126 (by kernel_rfl) rfl)
    (back_stops _ 2 trivial rfl (by decide) w1.heap.size g (off + q) ((c - q)) ((m - q)) (l.drop q) hlen (by omega) W2 bS.lt hgW bS.cell hcW) keepsL_t (keepsL_b bS.lt hgW) (Below.refl _ _) (fun _ => rfl)
    (fun pre W => (∃ v, Boxed W (w.heap.size + 1 + 1) 29 v ∧ W.ownsRow w.heap.size 3 1 v pre.length (pre.map fun p => Value.int .i64 p.2) ∧ True) ∧ Boxed W w1.heap.size 29 (.slice (some ⟨g, off + q, none⟩) (m - q) (c - q)) ∧ Below w.heap.size w W)
    (fun _ _ _ => False)
    (OwnFrom.and (Own.from (holdsRow_own w.heap.size (w.heap.size + 1 + 1) 29 3 1 (fun pre : List (Int × Int) => pre.length) (fun pre => pre.map fun p => Value.int .i64 p.2) (fun _ _ => True)) _) (OwnFrom.and (Own.from (boxed_own _ _ (fun _ => .slice (some ⟨g, off + q, none⟩) (m - q) (c - q))) _) (ownFrom_below (Nat.le_refl _) hzW)))
    (fun _ _ _ _ _ hs _ _ => hs)
    ⟨⟨_, bO, row0, trivial⟩, bS, hB2⟩
    (fun p => { tmps := #[.agg #[.slice (some ⟨g0, off0, none⟩) n cap0], .int .i64 x, .pointer (some ⟨w.heap.size, 0, none⟩), undef, .slice none 0 0, .bool false, .pointer (some ⟨w.heap.size + 1 + 1, 0, none⟩), .int .i64 (i : Int), .int .i64 (k : Int), .bool true, undef, .int .i64 p.2, .slice (some ⟨w.heap.size + 1, 0, none⟩) 0 0, .tuple #[.int .i64 (i : Int), .int .i64 (k : Int), .bool true], .agg #[.slice (some ⟨g0, off0, none⟩) n cap0], .int .i64 x, .tuple #[.int .i64 (i : Int), .int .i64 (k : Int), .bool true], .int .i64 (i : Int), .int .i64 (k : Int), .bool true, .bool true, .bool false, undef, .pointer (some ⟨w.heap.size, 0, none⟩), .slice (some ⟨g0, off0, none⟩) n cap0, .int .i64 (i : Int), .pointer (some ⟨g0, off0 + i, none⟩), .slice (some ⟨g, off, none⟩) m c, .int .i64 (k : Int), .int .i64 (q : Int), .slice (some ⟨g, off + q, none⟩) (m - q) (c - q), .func (.func 126) #[] #[.pointer (some ⟨w1.heap.size, 0, none⟩)], .int .i64 p.1, .int .i64 p.2, undef, undef, undef, undef, undef], defers := [] }) ?assign ?body ?done ?stop
  case assign =>
    rintro l ⟨y1, y2⟩ W K hK
    dsimp only [encs2]
    gi_wp2
    exact hK
  case body =>
    rintro l pre p W ⟨⟨v, hv, hrow, -⟩, hS, hB⟩ hlt
    have hc := hv.cell
    have hBs := hB.size
    have hneS : some w1.heap.size ≠ v.ownBlock := hS.not_row (by decide) hrow
    gi_wp2_with (gi_at_builtin; refine wpListIn_append_own _ rfl _ _ 29 rfl w.heap.size 3 i0 (.int .i64 0) 1 8 Try.underlying29 hi hz0 hz1 hz2 rfl (by decide) _ _ _ rfl (hrow.alloc _) ⟨W.heap.size, 0, none⟩ 1 1 [.int .i64 p.2] rfl rfl (cell_one_new _ _ _) (by simp [Value.oneCell']) (by unfold maxLen; omega) (by omega) (by simp; omega) ?_; intro v' w9 hown' hgrow _; obtain ⟨g', cap', rfl⟩ := ownsRow_succ hown'; obtain ⟨hv1, hv2, hr2, hk2, hb2⟩ := hv.appended (by decide) hrow hB.size (by omega) hown' hgrow; have hc1 := hv1.cell; have hf1 := hv1.frozen)
    have hS2 := ((hS.alloc _).kept hgrow hneS).other (B' := w.heap.size + 1 + 1) (by omega) (.slice (some ⟨g', 0, none⟩) (pre.length + 1) cap')
    exact ⟨hk2.from _, ⟨hS2.cell.trans hS.cell.symm, hb2.block g hg⟩, ⟨_, hv2, by simpa using hr2, trivial⟩, hS2, hB.trans hb2⟩
  case done =>
    rintro D ys W hD rfl ⟨⟨v, hv, hrow, -⟩, hS, hB⟩ hK
    have hc := hv.cell
    gi_wp2
    refine ⟨by simp, .inl ⟨_, _, rfl, run_takeDeferred hK, ?_⟩⟩
    rw [← hlen, bk_len, bk_rev] at hrow
    exact ⟨_, results_tmp2 rfl _ _ _, retL_of (by rw [List.length_reverse]; exact ownsRow_putObj hrow _ hK rfl) (Nat.le_refl _) (hB.trans (belowK_b (w := w) (Nat.le_refl _) W D _ _ (by omega) hK rfl rfl))⟩
  case stop =>
    rintro D c pre W _ _ h _
    exact h.elim
set_option maxRecDepth 100000 in
set_option maxHeartbeats 4000000 in
theorem implBlockers_near (g0 off0 cap0 i k q g off : Nat) (Y : List (List Int)) (l : List Int) (x : Int) (n : Nat) (h1 : Y.length ≤ 1048576) (h2 : tot Y ≤ 1048576) (w : World) (h : YdR w (.agg #[.slice (some ⟨g0, off0, none⟩) n cap0]) Y) (hp : plO Y x = some (i, k))
    (hin : i < n) (hq : k + 1 = q) (hm4 : q ≤ 4) (hl : l.length = q) (hg0 : g0 < w.heap.size) (hg : g < w.heap.size) (hu : w.cell? ⟨g0, off0 + i, none⟩ = some (.slice (some ⟨g, off, none⟩) q q)) (hcc : ∀ (j : Nat) (y : Int), l[j]? = some y → w.cell? ⟨g, off + j, none⟩ = some (.int .i64 y)) :
    Calls Try.prog 112 #[.agg #[.slice (some ⟨g0, off0, none⟩) n cap0], .int .i64 x] w (RetL w (l.drop (k + 1)).reverse true) := by
  have HB := Lib.hid (two_more w (.cells #[.slice (some ⟨g0, off0, none⟩) n cap0] 28) (.cells #[] 3) (.cells #[.slice (some ⟨w.heap.size + 1, 0, none⟩) 0 0] 29))
  obtain ⟨k0, k1, k2, ks, -⟩ := three_alloc w (.cells #[.slice (some ⟨g0, off0, none⟩) n cap0] 28) (.cells #[] 3) (.cells #[.slice (some ⟨w.heap.size + 1, 0, none⟩) 0 0] 29)
  have HF := Lib.hid (implPlace_any _ Y x h1 h2 _ (h.below HB.out))
  rw [plV_some hp] at HF
  have HK0 := Lib.hid k0
  have HK1 := Lib.hid k1
  have HK2 := Lib.hid k2
  have HKs := Lib.hid ks
  have HL := Lib.hid hl
  have HC := Lib.hid hcc
  have HU := Lib.hid hu
  rw [hq]
  have hqi : (k : Int) + 1 = (q : Int) := by omega
  have hq0 : (0 : Int) ≤ (q : Int) := by omega
  clear k0 k1 k2 ks h hp h1 h2 hl hcc hu
  refine (callsIn_wide (n := 3)).1 ?_
  refine callsIn_of_wp_marks Try.func112 rfl trivial ?_ rfl
  simp only [Try.ntmps112, List.size_toArray, List.length_cons, List.length_nil, Nat.reduceAdd, Nat.reduceSub, Array.replicate_succ, Array.replicate_zero, List.push_toArray, List.append_toArray, List.nil_append, List.cons_append]
  gi_wp2_with fail
  refine ⟨trivial, ?_⟩
  refine (callsIn_wide.2 HF.out).mono ?_
  rintro e w1 ⟨rfl, hb⟩
  have B1 := Lib.hid (HB.out.trans (hb.mono HB.out.size))
  have cA : w1.cell? ⟨w.heap.size, 0, none⟩ = some (.slice (some ⟨g0, off0, none⟩) n cap0) := cell_of ((hb.block _ (by have := HKs.out; omega)).trans HK0.out) rfl
  have hu1 := (B1.out.cell (p := ⟨g0, off0 + i, none⟩) hg0).trans HU.out
  have K1 := Lib.hid ((hb.block _ (by have := HKs.out; omega)).trans HK1.out)
  have K2 := Lib.hid ((hb.block _ (by have := HKs.out; omega)).trans HK2.out)
  have hzw1 : w.heap.size + 3 ≤ w1.heap.size := by have := hb.size; have := HKs.out; omega
  clear hb
  gi_wp2_with fail
  refine ⟨trivial, ?_⟩
  refine (callsIn_wide.2 (backward_any _ _ _ _)).mono ?_
  rintro e w2 ⟨rfl, rfl⟩
  have bS : Boxed (w1.alloc (.cells #[.slice (some ⟨g, off, none⟩) 0 0] 29)) w1.heap.size 29 (.slice (some ⟨g, off, none⟩) 0 0) := Boxed.new w1 29 (.slice (some ⟨g, off, none⟩) 0 0)
  have hb2 := below_one w1 (.cells #[.slice (some ⟨g, off, none⟩) 0 0] 29)
  have bO : Boxed (w1.alloc (.cells #[.slice (some ⟨g, off, none⟩) 0 0] 29)) (w.heap.size + 1 + 1) 29 (.slice (some ⟨w.heap.size + 1, 0, none⟩) 0 0) := (hb2.block _ (by omega)).trans K2.out
  have row0 : (w1.alloc (.cells #[.slice (some ⟨g, off, none⟩) 0 0] 29)).ownsRow w.heap.size 3 1 (.slice (some ⟨w.heap.size + 1, 0, none⟩) 0 0) 0 [] := ⟨rfl, .inr ⟨_, 0, #[], rfl, Nat.le_succ _, (hb2.block _ (by omega)).trans K1.out, Nat.le_refl _, Nat.zero_le _, rfl, rfl⟩⟩
  have hB2 := B1.out.trans (hb2.mono B1.out.size)
  have hgW : g < (w1.alloc (.cells #[.slice (some ⟨g, off, none⟩) 0 0] 29)).heap.size := by have := hB2.size; omega
  have hzW : w.heap.size ≤ (w1.alloc (.cells #[.slice (some ⟨g, off, none⟩) 0 0] 29)).heap.size := hB2.size
  have hcW : ∀ (j : Nat) (y : Int), (l.drop q)[j]? = some y → (w1.alloc (.cells #[.slice (some ⟨g, off, none⟩) 0 0] 29)).cell? ⟨g, off + j, none⟩ = some (.int .i64 y) := fun j y hy => by
    rw [List.drop_eq_nil_of_le (by have := HL.out; omega)] at hy
    simp at hy
  have hlen : (l.drop q).length = 0 := by have := HL.out; rw [List.length_drop]; omega
  clear cA hu1 hb2
  gi_wp2_with fail
  generalize w1.alloc (.cells #[.slice (some ⟨g, off, none⟩) 0 0] 29) = W2 at *
  refine wpIn_rangeFunc_ownG rfl (by decide) (gf := 126) (lb := #[.pointer (some ⟨w1.heap.size, 0, none⟩)]) rfl trivial (enters_of Try.func126 (by kernel_rfl) rfl)
    (back_stops _ 2 trivial rfl (by decide) w1.heap.size g off (0) (0) (l.drop q) hlen (by omega) W2 bS.lt hgW bS.cell hcW) keepsL_t (keepsL_b bS.lt hgW) (Below.refl _ _) (fun _ => rfl)
    (fun pre W => (∃ v, Boxed W (w.heap.size + 1 + 1) 29 v ∧ W.ownsRow w.heap.size 3 1 v pre.length (pre.map fun p => Value.int .i64 p.2) ∧ True) ∧ Boxed W w1.heap.size 29 (.slice (some ⟨g, off, none⟩) 0 0) ∧ Below w.heap.size w W)
    (fun _ _ _ => False)
    (OwnFrom.and (Own.from (holdsRow_own w.heap.size (w.heap.size + 1 + 1) 29 3 1 (fun pre : List (Int × Int) => pre.length) (fun pre => pre.map fun p => Value.int .i64 p.2) (fun _ _ => True)) _) (OwnFrom.and (Own.from (boxed_own _ _ (fun _ => .slice (some ⟨g, off, none⟩) 0 0)) _) (ownFrom_below (Nat.le_refl _) hzW)))
    (fun _ _ _ _ _ hs _ _ => hs)
    ⟨⟨_, bO, row0, trivial⟩, bS, hB2⟩
    (fun p => { tmps := #[.agg #[.slice (some ⟨g0, off0, none⟩) n cap0], .int .i64 x, .pointer (some ⟨w.heap.size, 0, none⟩), undef, .slice none 0 0, .bool false, .pointer (some ⟨w.heap.size + 1 + 1, 0, none⟩), .int .i64 (i : Int), .int .i64 (k : Int), .bool true, undef, .int .i64 p.2, .slice (some ⟨w.heap.size + 1, 0, none⟩) 0 0, .tuple #[.int .i64 (i : Int), .int .i64 (k : Int), .bool true], .agg #[.slice (some ⟨g0, off0, none⟩) n cap0], .int .i64 x, .tuple #[.int .i64 (i : Int), .int .i64 (k : Int), .bool true], .int .i64 (i : Int), .int .i64 (k : Int), .bool true, .bool true, .bool false, undef, .pointer (some ⟨w.heap.size, 0, none⟩), .slice (some ⟨g0, off0, none⟩) n cap0, .int .i64 (i : Int), .pointer (some ⟨g0, off0 + i, none⟩), .slice (some ⟨g, off, none⟩) q q, .int .i64 (k : Int), .int .i64 (q : Int), .slice (some ⟨g, off, none⟩) 0 0, .func (.func 126) #[] #[.pointer (some ⟨w1.heap.size, 0, none⟩)], .int .i64 p.1, .int .i64 p.2, undef, undef, undef, undef, undef], defers := [] }) ?assign ?body ?done ?stop
  case assign =>
    rintro l ⟨y1, y2⟩ W K hK
    dsimp only [encs2]
    gi_wp2
    exact hK
  case body =>
    rintro l pre p W _ hlt
    exact absurd hlt (Nat.not_lt_zero _)
  case done =>
    rintro D ys W hD rfl ⟨⟨v, hv, hrow, -⟩, hS, hB⟩ hK
    have hc := hv.cell
    gi_wp2
    refine ⟨by simp, .inl ⟨_, _, rfl, run_takeDeferred hK, ?_⟩⟩
    rw [← hlen, bk_len, bk_rev] at hrow
    exact ⟨_, results_tmp2 rfl _ _ _, retL_of (by rw [List.length_reverse]; exact ownsRow_putObj hrow _ hK rfl) (Nat.le_refl _) (hB.trans (belowK_b (w := w) (Nat.le_refl _) W D _ _ (by omega) hK rfl rfl))⟩
  case stop =>
    rintro D c pre W _ _ h _
    exact h.elim

theorem implBlockers_any (v : Value) (Y : List (List Int)) (x : Int) (B hi : Nat) (h1 : Y.length ≤ 1048576) (h2 : tot Y ≤ 1048576) (w : World) (h : YdO w B hi v Y) :
    Calls Try.prog 112 #[v, .int .i64 x] w (RetL w (blR Y x) (plB Y x)) := by
  cases hp : plO Y x with
  | none => rw [(blR_none hp).1, (blR_none hp).2]; exact implBlockers_no v Y x h1 h2 w h.read hp
  | some p =>
    obtain ⟨i, k⟩ := p
    have hgd : goodY Y = true := by
      cases hg : goodY Y with
      | true => rfl
      | false => rw [plO_bad hg] at hp; cases hp
    obtain ⟨l, hl, hat⟩ := place_inv ((plO_good hgd).symm.trans hp)
    have hkl := lt_of_get (atL_get hat)
    have hin := lt_of_get hl
    have hl4 := (goodY_iff.1 hgd).2.2.1 l (List.mem_of_getElem? hl)
    rw [(blR_some hp hl).1, (blR_some hp hl).2]
    have hY := h.read
    obtain ⟨v0, rfl, ho⟩ := h
    obtain ⟨g0, cap0, rfl⟩ := ho.rows (by omega)
    obtain ⟨u, hu, -, hou, -⟩ := ho.cell hl
    have hg0 : g0 < w.heap.size := Nat.lt_of_lt_of_le (ho.2.1 g0 rfl) ho.1
    obtain ⟨g2, c2, hmc, rfl, hg2⟩ : ∃ g2 c2, l.length ≤ c2 ∧ u = .slice (some ⟨g2, 0, none⟩) l.length c2 ∧ g2 < w.heap.size := by
      rcases hou.2 with ⟨_, hz⟩ | ⟨g2, c2, cur, hv, _, hb, hnc, _⟩
      · omega
      · exact ⟨g2, c2, hnc, hv, (Array.getElem?_eq_some_iff.1 hb).1⟩
    have hcc : ∀ (j : Nat) (y : Int), l[j]? = some y → w.cell? ⟨g2, 0 + j, none⟩ = some (.int .i64 y) := fun j y hy => by
      rw [Nat.zero_add, hou.cellAt j (by have := lt_of_get hy; omega), intV_get, hy]; rfl
    rw [show (⟨g0, i, none⟩ : Addr) = ⟨g0, 0 + i, none⟩ by rw [Nat.zero_add]] at hu
    by_cases hce : c2 = k + 1
    · have hlk : l.length = k + 1 := by omega
      subst hce
      rw [hlk] at hu
      exact implBlockers_near g0 0 cap0 i k (k + 1) g2 0 Y l x Y.length h1 h2 w hY hp hin rfl (by omega) hlk hg0 hg2 hu hcc
    · exact implBlockers_far g0 0 cap0 i k l.length c2 g2 0 Y l x Y.length h1 h2 w hY hp hin hkl hl4 hmc rfl hg0 hg2 hu hcc hce
theorem blR_len (Y : List (List Int)) (x : Int) : (blR Y x).length ≤ 1048576 := by
  cases hp : plO Y x with
  | none => rw [(blR_none hp).1]; simp
  | some p =>
    have hgd : goodY Y = true := by
      cases hg : goodY Y with
      | true => rfl
      | false => rw [plO_bad hg] at hp; cases hp
    obtain ⟨l, hl, _⟩ := place_inv (i := p.1) (k := p.2) ((plO_good hgd).symm.trans hp)
    have := (goodY_iff.1 hgd).2.2.1 l (List.mem_of_getElem? hl)
    rw [(blR_some (i := p.1) (k := p.2) hp hl).1, List.length_reverse, List.length_drop]
    omega
end Go.Proofs.Ytmkejgbbgknalaa
