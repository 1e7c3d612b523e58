/-
  impl.SplitString: a new slice that owns the pieces of the text. No statement of the seat by itself.
-/
import Derived.Test.YtfbeoficgkkamaaDoorSplitS
import Derived.Deep.Onto
namespace Go.Proofs.YtfbeoficgkkamaaDoor
open Go.RowKit Go.Shelf
attribute [local go_sem] Oper.semAt_some

theorem row_apartS {W : World} {base e size k : Nat} {v : Value} {xs : List Value} {B : Nat} (h : W.ownsRow base e size v k xs) (hB : B < base) : some B ≠ v.ownBlock := by
  rcases h.2 with ⟨rfl, _⟩ | ⟨g, cap, cur, rfl, hg, _⟩
  · simp [Value.ownBlock]
  · intro e
    have : B = g := by simpa [Value.ownBlock] using e
    omega

set_option maxRecDepth 100000 in
set_option maxHeartbeats 2000000 in
theorem split_in (F : Fence) (n : Nat) (h10 : F.fn 25) (h27 : F.fn 48) (h36 : F.fn 63) (hro : F.round = none) (hn : 3 ≤ n) (s : ByteArray) (c : UInt8) (hs : s.size ≤ 4000) (w : World) :
    CallsIn F n Tryd.prog 25 #[.string s, .string ⟨#[c]⟩] w fun e W' => ∃ v, e = .returned (.tuple #[v, .bool true]) ∧ W'.ownsRow w.heap.size 9 1 v (pieces s c).length ((pieces s c).map Value.string) ∧ Below w.heap.size w W' := by
  have h1 : 1 ≤ n := by omega
  have hb1 : decide (4000 < (s.size : Int)) = false := by simp; omega
  have hc0 : (⟨#[c]⟩ : ByteArray)[0]'(by show 0 < 1; decide) = c := rfl
  obtain ⟨i0, hi, hz0, hz1, hz2⟩ := info_parts info9S
  refine callsIn_of_wp_marks Tryd.func25 rfl h10 ?_ hro
  simp only [Tryd.ntmps25, List.size_toArray, List.length_cons, List.length_nil, Nat.reduceAdd, Nat.reduceSub, Array.replicate_succ, Array.replicate_zero, List.push_toArray, List.append_toArray, List.nil_append, List.cons_append]
  gi_wp2_with (gi_at_call 48; refine (piecesOf_in F (n - 1) h27 hro _ _ _).mono ?_; rintro e w' ⟨rfl, rfl⟩)
  have bO := Boxed.new w 43 (.slice none 0 0)
  have bS := Boxed.new (w.alloc (.cells #[.slice none 0 0] 43)) 9 (.string s)
  have bC := Boxed.new ((w.alloc (.cells #[.slice none 0 0] 43)).alloc (.cells #[.string s] 9)) 5 (.int .u8 (c.toNat : Int))
  rw [World.size_alloc] at bS
  rw [World.size_alloc, World.size_alloc] at bC
  have hB0 : Below w.heap.size w (((w.alloc (.cells #[.slice none 0 0] 43)).alloc (.cells #[.string s] 9)).alloc (.cells #[.int .u8 (c.toNat : Int)] 5)) := (((Below.refl _ w).alloc (Nat.le_refl _) _).alloc (by simp) _).alloc (by simp; omega) _
  have bS' := bS.alloc (.cells #[.int .u8 (c.toNat : Int)] 5)
  refine wpIn_rangeFunc_ownG hro h1 (gf := 63) (lb := #[.pointer (some ⟨w.heap.size + 1, 0, none⟩), .pointer (some ⟨w.heap.size + 1 + 1, 0, none⟩)]) rfl h36 (enters_of Tryd.func63 (by kernel_rfl) rfl)
    (pieces_stops F (n - 1) h36 hro (by omega) (w.heap.size + 1) (w.heap.size + 1 + 1) s c (by omega) _ bS'.lt bC.lt bS'.cell bC.cell) keepsCells_t (keepsCells_b bS'.lt bC.lt) (Below.refl _ _) (fun _ => rfl)
    (fun pre W => (∃ v, Boxed W w.heap.size 43 v ∧ W.ownsRow (w.heap.size + 3) 9 1 v pre.length (pre.map Value.string) ∧ True) ∧ Boxed W (w.heap.size + 1) 9 (.string s) ∧ Boxed W (w.heap.size + 1 + 1) 5 (.int .u8 (c.toNat : Int)) ∧ Below w.heap.size w W)
    (fun _ _ _ => False)
    (OwnFrom.and (Own.from (holdsRow_own (w.heap.size + 3) w.heap.size 43 9 1 (fun pre : List ByteArray => pre.length) (fun pre => pre.map Value.string) (fun _ _ => True)) _) (OwnFrom.and (Own.from (boxed_own _ _ (fun _ => .string s)) _) (OwnFrom.and (Own.from (boxed_own _ _ (fun _ => .int .u8 (c.toNat : Int))) _) (ownFrom_below (Nat.le_refl _) (by simp; omega)))))
    (fun _ _ _ _ _ hs _ _ => hs)
    ⟨⟨_, (bO.alloc _).alloc _, World.ownsRow_nil _ _ _ _, trivial⟩, bS', bC, hB0⟩
    (fun x => { tmps := #[.string s, .string ⟨#[c]⟩, undef, undef, .slice none 0 0, .bool false, .pointer (some ⟨w.heap.size, 0, none⟩), .string x, .string s, .int .i64 (s.size : Int), .bool false, .bool false, .string ⟨#[c]⟩, .int .i64 1, .bool false, .bool false, undef, .string s, .string ⟨#[c]⟩, .int .u8 (c.toNat : Int), .func (.func 63) #[] #[.pointer (some ⟨w.heap.size + 1, 0, none⟩), .pointer (some ⟨w.heap.size + 1 + 1, 0, none⟩)], .string x, undef, undef, undef, undef, undef], defers := [] }) ?assign ?body ?done ?stop
  case assign =>
    intro l x W K hK
    gi_wp2
    exact hK
  case body =>
    rintro l pre x W ⟨⟨v, hv, hrow, -⟩, hS, hC, hB⟩ hlt
    have hc := hv.cell
    have hpl := pieces_size s c
    have hn3 : w.heap.size + 3 ≤ W.heap.size := hC.lt
    have hneS : some (w.heap.size + 1) ≠ v.ownBlock := row_apartS hrow (by omega)
    have hneC : some (w.heap.size + 1 + 1) ≠ v.ownBlock := row_apartS hrow (by omega)
    gi_wp2_with (gi_at_builtin; refine wpListIn_append_own _ rfl _ _ 43 rfl (w.heap.size + 3) 9 i0 (.string ⟨#[]⟩) 1 16 Tryd.underlying43 hi hz0 hz1 hz2 rfl (by decide) _ _ _ rfl (hrow.alloc _) ⟨W.heap.size, 0, none⟩ 1 1 [.string x] rfl rfl (cell_one_new _ _ _) (by simp [Value.oneCell']) (by unfold maxLen; omega) (by omega) (by simp; omega) ?_; intro v' w1 hown' hgrow _; obtain ⟨g', cap', rfl⟩ := ownsRow_succ hown'; obtain ⟨hv1, hv2, hr2, hk2, hb2⟩ := hv.appended (by decide) (hrow.mono (base' := w.heap.size) (by omega)) hB.size (Nat.le_refl _) (hown'.mono (base' := w.heap.size) (by omega)) hgrow; have hc1 := hv1.cell; have hf1 := hv1.frozen)
    have hS2 := ((hS.alloc _).kept hgrow hneS).other (B' := w.heap.size) (by omega) (.slice (some ⟨g', 0, none⟩) (pre.length + 1) cap')
    have hC2 := ((hC.alloc _).kept hgrow hneC).other (B' := w.heap.size) (by omega) (.slice (some ⟨g', 0, none⟩) (pre.length + 1) cap')
    have hrow2 := ownsRow_setCell_below hown' (a := ⟨w.heap.size, 0, none⟩) (by show w.heap.size < w.heap.size + 3; omega) (.slice (some ⟨g', 0, none⟩) (pre.length + 1) cap')
    exact ⟨hk2.from _, ⟨hS2.cell.trans hS.cell.symm, hC2.cell.trans hC.cell.symm⟩, ⟨_, hv2, by simpa using hrow2, trivial⟩, hS2, hC2, hB.trans hb2⟩
  case done =>
    rintro D ys W hD rfl ⟨⟨v, hv, hrow, -⟩, hS, hC, hB⟩ hK
    have hc := hv.cell
    gi_wp2
    refine ⟨by simp, .inl ⟨_, _, rfl, run_takeDeferred hK, ?_⟩⟩
    exact ⟨_, results_tmp2 rfl _ _ _, v, rfl, ownsRow_putObj (hrow.mono (by omega)) _ hK rfl, hB.trans (belowK_b (w := w) (Nat.le_refl _) W D _ _ (by simp at hD; omega) hK rfl rfl)⟩
  case stop =>
    rintro D c pre W _ _ h _
    exact h.elim

/-- What impl.SplitString answers: a slice of the call's own that holds the pieces. -/
def SplitPost (w : World) (ps : List ByteArray) (ok : Bool) (e : Ending) (W' : World) : Prop := ∃ v, e = .returned (.tuple #[v, .bool ok]) ∧ W'.ownsRow w.heap.size 9 1 v ps.length (ps.map Value.string) ∧ Below w.heap.size w W'

theorem split_any (s : ByteArray) (c : UInt8) (hs : s.size ≤ 4000) (w : World) : Calls Tryd.prog 25 #[.string s, .string ⟨#[c]⟩] w (SplitPost w (pieces s c) true) := by
  refine (callsIn_wide (n := 3)).1 ?_
  exact split_in _ 3 trivial trivial trivial rfl (by decide) s c hs w

set_option maxHeartbeats 400000 in
theorem split_bad (s sep : ByteArray) (h : 4000 < s.size ∨ sep.size ≠ 1) (w : World) : Calls Tryd.prog 25 #[.string s, .string sep] w (SplitPost w [] false) := by
  by_cases h1 : 4000 < s.size
  · clear h
    go_enter Tryd.func25, Tryd.ntmps25
    go_wp2
    go_ret2
    exact ⟨_, rfl, own_emptyS w _ rfl, (Below.refl _ _).alloc (Nat.le_refl _) _⟩
  · have hb1 : decide (4000 < (s.size : Int)) = false := by simp; omega
    have hb2 : ((sep.size : Int) != 1) = true := by rw [bne_iff_ne]; omega
    clear h
    go_enter Tryd.func25, Tryd.ntmps25
    go_wp2
    go_ret2
    exact ⟨_, rfl, own_emptyS w _ rfl, (Below.refl _ _).alloc (Nat.le_refl _) _⟩
end Go.Proofs.YtfbeoficgkkamaaDoor
