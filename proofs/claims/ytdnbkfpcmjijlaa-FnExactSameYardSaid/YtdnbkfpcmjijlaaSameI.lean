/-
  What slices.SortFunc does to a row of rows, and what impl.sortedStacks returns. No statement of the seat by itself.
-/
import Derived.Test.YtdnbkfpcmjijlaaSameB
import Derived.Test.YtdnbkfpcmjijlaaLaidSort
import Derived.Test.YtdnbkfpcmjijlaaCopyI
namespace Go.Proofs.Ytdnbkfpcmjijlaa
open Go.RowKit Go.Sort

section
variable {α : Type} [Inhabited α] {enc : α → Value} {w : World} {g m : Nat} {os : Array Obj}
theorem sorted_grown (d : Array α) : w.grownBy (sortWorld enc w g 0 m d os) (some g) := by
  refine ⟨rfl, rfl, rfl, by simp [sortWorld], fun k hk hne => ?_⟩
  have hgk : g ≠ k := fun e => hne (by rw [e])
  unfold sortWorld
  rw [heap_grow_old _ _ (by simpa using hk)]
  simp [putRow, mapBlock, Sort.ahead, Array.getElem?_modify, hgk]
theorem sorted_cell {cur : Array Value} {e : TypeId} (d : Array α) (hb : w.heap[g]? = some (.cells cur e (0, 0))) (hs : d.size ≤ cur.size) (j : Nat) (hj : j < d.size) : (sortWorld enc w g 0 m d os).cell? ⟨g, 0 + j, none⟩ = some (enc d[j]!) := by
  have hg : g < w.heap.size := (Array.getElem?_eq_some_iff.1 hb).1
  have h1 : (sortWorld enc w g 0 m d os).heap[g]? = some (.cells (putCells enc 0 d cur) e (0, 0)) := by
    unfold sortWorld
    rw [heap_grow_old _ _ (by simpa using hg)]
    simp [putRow, mapBlock, Sort.ahead, Array.getElem?_modify, hb, onCells]
  refine cell_of h1 ?_
  simp [putCells, hj, show j < cur.size by omega]
end

/-- All indices. -/
def allF (n : Nat) : Array (Fin (n + 1)) := Array.ofFn fun i => i
theorem allF_size (n : Nat) : (allF n).size = n + 1 := by simp [allF]
theorem allF_at (n j : Nat) (h : j < n + 1) : (allF n)[j]! = ⟨j, h⟩ := by
  rw [getElem!_pos _ j (by rw [allF_size]; exact h)]
  simp [allF]
theorem allF_vals (n : Nat) : (allF n).toList.map (·.val) = List.range (n + 1) := by
  apply List.ext_getElem
  · simp [allF]
  · intro i h1 h2
    rw [List.getElem_map, Array.getElem_toList, List.getElem_range]
    simp only [allF, Array.getElem_ofFn]
/-- The row that an index names. -/
def rowF (Y : List (List Int)) {n : Nat} (x : Fin (n + 1)) : List Int := Y.getD x.val []
def cfF (Y : List (List Int)) {n : Nat} (x y : Fin (n + 1)) : Int := lexC (rowF Y x) (rowF Y y)
def encF (us : List Value) {n : Nat} (x : Fin (n + 1)) : Value := us.getD x.val (.slice none 0 0)
theorem ltF (Y : List (List Int)) {n : Nat} (x y : Fin (n + 1)) : ltOf (cfF Y) x y = lexB (rowF Y x) (rowF Y y) := rfl
theorem swoF (Y : List (List Int)) (n : Nat) : SWO (ltOf (cfF Y (n := n))) where
  irrefl x := by rw [ltF]; exact lexB_swo.irrefl _
  trans x y z h1 h2 := by rw [ltF] at *; exact lexB_swo.trans _ _ _ h1 h2
  ntrans x y z h1 h2 := by rw [ltF] at *; exact lexB_swo.ntrans _ _ _ h1 h2
theorem rows_all (Y : List (List Int)) (n : Nat) (hn : Y.length = n) : (List.range n).map (fun j => Y.getD j []) = Y := by
  apply List.ext_getElem
  · simp [hn]
  · intro i h1 h2
    simp [List.getD, List.getElem?_eq_getElem h2]
theorem sorted_ok (Y : List (List Int)) (n : Nat) (hn : Y.length = n + 1) (d' : Array (Fin (n + 1))) (hp : PermIn 0 (n + 1) (allF n) d') (hs : SortedIn (ltOf (cfF Y)) 0 (n + 1) d') : d'.size = n + 1 ∧ d'.toList.map (rowF Y) = sortY Y := by
  obtain ⟨h1, _, h3⟩ := hp
  have hz : d'.size = n + 1 := by rw [h1, allF_size]
  refine ⟨hz, sort_is ?_ ?_⟩
  · have e1 : d'.extract 0 d'.size = d' := by simp
    have e2 : (allF n).extract 0 (allF n).size = allF n := by simp
    rw [hz] at e1
    rw [allF_size] at e2
    rw [e1, e2] at h3
    have h4 := h3.map (fun x : Fin (n + 1) => x.val)
    rw [allF_vals] at h4
    have h5 := h4.map (fun j => Y.getD j [])
    rw [rows_all Y _ hn, List.map_map] at h5
    exact h5
  · rw [List.pairwise_map, List.pairwise_iff_getElem]
    intro i j hi hj hij
    have hi' : i < d'.size := by simpa using hi
    have hj' : j < d'.size := by simpa using hj
    have := hs i j (Nat.zero_le _) hij (by omega)
    rw [getElem!_pos _ i hi', getElem!_pos _ j hj', ltF] at this
    have hf := lexC_flip (rowF Y d'[i]) (rowF Y d'[j])
    simp only [lexB, decide_eq_false_iff_not] at this
    simp only [Array.getElem_toList]
    omega

theorem sort_call (B hi g n N cap : Nat) (Y : List (List Int)) (hn : Y.length = n + 1) (hN : N = n + 1) (hl : Y.length ≤ 1048576) (ht : tot Y ≤ 1048576) (W : World) (h : OwnY W B hi (.slice (some ⟨g, 0, none⟩) N cap) Y) :
    Calls Try.prog 80 #[.slice (some ⟨g, 0, none⟩) N cap, .func (.func 81) #[] #[]] W fun e w' => e = .returned (.tuple #[]) ∧ YL w' (.slice (some ⟨g, 0, none⟩) N cap) (sortY Y) ∧ W.grownBy w' (some g) := by
  subst hN
  obtain ⟨_, _, us, ho, hr⟩ := h
  have hlen := hr.1
  rw [hn] at ho
  have ho' := ho
  obtain ⟨_, h0 | ⟨g', cap', cur, hv, hbase, hb, h1, h2, h3, ht'⟩⟩ := ho
  · exact absurd h0.1 (by simp)
  cases hv
  have hg : g < W.heap.size := (Array.getElem?_eq_some_iff.1 hb).1
  have eg : ∀ args w, (callFunc 81 args).run Try.prog w = .ok (.enter 81 args) w := enters_of Try.func81 (by kernel_rfl) rfl
  have hrow : ∀ x : Fin (n + 1), Y[x.val]? = some (rowF Y x) ∧ us[x.val]? = some (encF us x) := fun x => by
    have a1 : x.val < Y.length := by have := x.isLt; omega
    have a2 : x.val < us.length := by have := x.isLt; omega
    exact ⟨by simp [rowF, List.getD, List.getElem?_eq_getElem a1], by simp [encF, List.getD, List.getElem?_eq_getElem a2]⟩
  have hone : OneCell (encF us (n := n)) := fun x => by
    obtain ⟨a, c, e⟩ := own_form (hr.2.1 _ _ _ (hrow x).2 (hrow x).1).1
    rw [e]; rfl
  have hil : ∀ (W' : World), W.grownBy W' (some g) → ∀ x : Fin (n + 1), IL W' (encF us x) (rowF Y x) := fun W' hw x => by
    have hu := (hr.2.1 _ _ _ (hrow x).2 (hrow x).1).1
    refine il_of_owns (own_span (lo := g) (hi := g + 1) hu (Span.of_grown hw (fun k hk => by cases hk; omega)) fun b hb' => ?_)
    have := outer_ne ho' hu g rfl
    rcases Nat.lt_trichotomy b g with h | h | h
    · exact .inl h
    · subst h; exact absurd hb' this
    · exact .inr h
  have hH : Holds (encF us (n := n)) W g 0 (allF n) := fun j hj => by
    rw [allF_size] at hj
    rw [allF_at n j hj]
    refine ⟨?_, by simp [World.frozen?, hb]⟩
    have e1 : (cur.toList.take ((n + 1) * 1))[j]? = us[j]? := by rw [ht']
    rw [List.getElem?_take_of_lt (by omega)] at e1
    refine cell_of hb ?_
    rw [Nat.zero_add, ← Array.getElem?_toList, e1]
    exact (hrow ⟨j, hj⟩).2
  have hcmp : CmpLays1 Try.prog 81 #[] (encF us (n := n)) (cfF Y) g 0 (allF n).size W := fun m os dk hdk x y => by
    have hw : W.grownBy (sortWorld (encF us (n := n)) W g 0 m dk os) (some g) := sorted_grown dk
    have hy : ∀ z : Fin (n + 1), (rowF Y z).length ≤ 1048576 := fun z => by have := row_len (hrow z).1; omega
    refine (lex_any _ _ _ _ (hy x) (hy y) _ (hil _ hw x) (hil _ hw y)).mono ?_
    rintro e w' ⟨rfl, rfl⟩
    exact ⟨rfl, 0, #[], by simp [World.drewN]⟩
  have hS := Any.slices_SortFunc Try.laysSort (encF us (n := n)) hone (cfF Y) (swoF Y n) 81 #[] g 0 cap (allF n) W eg hcmp hH hg (by rw [allF_size]; omega)
  change Calls Try.prog 80 _ _ _ at hS
  rw [allF_size] at hS
  refine hS.mono ?_
  rintro e w' ⟨he, d', nn, os, hp, hs, rfl⟩
  obtain ⟨hz, hok⟩ := sorted_ok Y n hn d' hp hs
  refine ⟨he, ⟨some ⟨g, 0, none⟩, cap, by rw [sortY_len, hn], fun _ => ⟨g, 0, rfl, Nat.lt_of_lt_of_le hg (sorted_grown d').size, fun j l hl => ?_⟩⟩, sorted_grown d'⟩
  rw [← hok, List.getElem?_map, Array.getElem?_toList] at hl
  have hj : j < d'.size := by
    rcases Nat.lt_or_ge j d'.size with h | h
    · exact h
    · rw [Array.getElem?_eq_none h] at hl; cases hl
  rw [Array.getElem?_eq_getElem hj] at hl
  cases hl
  refine ⟨_, sorted_cell d' hb (by omega) j hj, ?_⟩
  rw [getElem!_pos _ j hj]
  exact hil _ (sorted_grown d') _

/-- A list of rows to be read was answered. -/
def RowsR (w : World) (R : List (List Int)) (e : Ending) (w' : World) : Prop := ∃ v, e = .returned v ∧ YL w' v R ∧ Below w.heap.size w w'

theorem field_yard (a : Option Addr) (n c : Nat) (W : World) : (Instr.field 26 (.agg #[.slice a n c]) 0).run Try.prog W = .ok (.slice a n c) W := by kernel_rfl

set_option maxRecDepth 100000 in
set_option maxHeartbeats 2000000 in
theorem sortedStacks_any (v : Value) (Y : List (List Int)) (h0 : 0 < Y.length) (h1 : Y.length ≤ 1048576) (h2 : tot Y ≤ 1048576) (w : World) (h : YdR w v Y) :
    Calls Try.prog 66 #[v] w (RowsR w (sortY Y)) := by
  obtain ⟨v0, rfl, hv⟩ := h
  have HC := Lib.hid (fun w (h : YL w v0 Y) => copyStacks_any v0 Y h1 h2 w h)
  have B0 := Lib.hid (below_one w (.cells #[v0] 26))
  have BA := Lib.hid (Box1.new w v0 26)
  have HV := Lib.hid (hv.below B0.out)
  have c0 := BA.out.2
  obtain ⟨n, hn⟩ : ∃ n, Y.length = n + 1 := ⟨Y.length - 1, by omega⟩
  have HS := Lib.hid (fun B hi g cap W h => sort_call B hi g n Y.length cap Y hn hn h1 h2 W h)
  have H0 := Lib.hid h0
  clear hv h0 h1 h2 hn
  go_enter Try.func66, Try.ntmps66
  go_wp2_with fail
  generalize w.alloc (.cells #[v0] 26) = w0 at *
  refine (HC.out _ HV.out).mono ?_
  rintro e w1 ⟨a, c, rfl, ho, hb⟩
  obtain ⟨g, cap, hgv⟩ := ho.rows H0.out
  cases hgv
  have HO := Lib.hid ho
  have hgb := row_base ho.2.2.choose_spec.1 g rfl
  have B1 := Lib.hid (B0.out.trans (hb.mono B0.out.size))
  have hgb2 := Lib.hid (Nat.le_trans B0.out.size hgb)
  clear ho hb hgb
  go_wp2_with fail
  refine (HS.out _ _ g c _ HO.out).mono ?_
  rintro e w2 ⟨rfl, hy, hg⟩
  have HY := Lib.hid hy
  have B2 : Hid (Below w.heap.size w w2) := Lib.hid (Below.span (hi := g + 1) B1.out ((Span.of_grown (lo := g) (hi := g + 1) hg (fun k hk => by cases hk; omega)).lift hgb2.out) B1.out.size)
  clear hy hg
  go_wp2_with fail
  go_ret
  exact ⟨_, rfl, HY.out, B2.out⟩
end Go.Proofs.Ytdnbkfpcmjijlaa
