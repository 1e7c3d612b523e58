/-
  What spec.IsValidYard returns, and whether a yard is valid. No statement of the seat by itself.
-/
import Derived.Test.YtonploneihnekaaYard
namespace Go.Proofs.Ytonploneihnekaa
open Go.RowKit

/-- Numbers of containers, no two the same. -/
def Seen (S : List Int) : Prop := (∀ x ∈ S, 1 ≤ x ∧ x ≤ 99) ∧ S.Nodup
def rowsOk (Y : List (List Int)) : Prop := ∀ l ∈ Y, l.length ≤ 4
instance (Y : List (List Int)) : Decidable (rowsOk Y) := by unfold rowsOk; infer_instance
instance (S : List Int) : Decidable (Seen S) := by unfold Seen; infer_instance
/-- Whether a yard is valid. -/
def goodY (Y : List (List Int)) : Bool := decide (1 ≤ Y.length ∧ Y.length ≤ 6 ∧ rowsOk Y ∧ Seen Y.flatten)
theorem goodY_iff {Y : List (List Int)} : goodY Y = true ↔ 1 ≤ Y.length ∧ Y.length ≤ 6 ∧ rowsOk Y ∧ Seen Y.flatten := by simp [goodY]
theorem goodY_not {Y : List (List Int)} (h : ¬ (1 ≤ Y.length ∧ Y.length ≤ 6 ∧ rowsOk Y ∧ Seen Y.flatten)) : goodY Y = false := by
  cases hb : goodY Y with
  | false => rfl
  | true => exact absurd (goodY_iff.1 hb) h
theorem flat_split {Y : List (List Int)} {i : Nat} {l : List Int} (h : Y[i]? = some l) : Y.flatten = (Y.take i).flatten ++ (l ++ (Y.drop (i + 1)).flatten) := by
  have hi := lt_of_get h
  have e : Y.drop i = l :: Y.drop (i + 1) := by
    rw [List.drop_eq_getElem_cons hi]
    rw [List.getElem?_eq_getElem hi] at h
    cases h; rfl
  have e2 : Y = Y.take i ++ Y.drop i := (List.take_append_drop i Y).symm
  calc Y.flatten = (Y.take i ++ Y.drop i).flatten := by rw [← e2]
    _ = _ := by rw [List.flatten_append, e, List.flatten_cons]
theorem flat_succ {Y : List (List Int)} {i : Nat} {l : List Int} (h : Y[i]? = some l) : (Y.take (i + 1)).flatten = (Y.take i).flatten ++ l := by
  rw [List.take_add_one, h, List.flatten_append]; simp
theorem good_row {Y : List (List Int)} {i : Nat} {l : List Int} (h : Y[i]? = some l) (hm : 4 < l.length) : goodY Y = false :=
  goodY_not fun ⟨_, _, h3, _⟩ => by have := h3 l (List.mem_of_getElem? h); omega
theorem flat_mem {Y : List (List Int)} {i k : Nat} {l : List Int} {x : Int} (h : Y[i]? = some l) (hx : l[k]? = some x) : x ∈ Y.flatten :=
  List.mem_flatten.2 ⟨l, List.mem_of_getElem? h, List.mem_of_getElem? hx⟩
theorem good_range {Y : List (List Int)} {i k : Nat} {l : List Int} {x : Int} (h : Y[i]? = some l) (hx : l[k]? = some x) (hr : ¬ (1 ≤ x ∧ x ≤ 99)) : goodY Y = false :=
  goodY_not fun ⟨_, _, _, h4⟩ => hr (h4.1 x (flat_mem h hx))
theorem take_next {l : List Int} {k : Nat} {x : Int} (hx : l[k]? = some x) : l.take (k + 1) = l.take k ++ [x] := by rw [List.take_add_one, hx]; rfl
theorem good_twice {Y : List (List Int)} {i k : Nat} {l : List Int} {x : Int} (h : Y[i]? = some l) (hx : l[k]? = some x) (hm : x ∈ (Y.take i).flatten ++ l.take k) : goodY Y = false :=
  goodY_not fun ⟨_, _, _, h4⟩ => by
    have hn := h4.2
    have e : l = l.take (k + 1) ++ l.drop (k + 1) := (List.take_append_drop _ _).symm
    have e2 : Y.flatten = ((Y.take i).flatten ++ l.take k) ++ (x :: (l.drop (k + 1) ++ (Y.drop (i + 1)).flatten)) := by
      rw [flat_split h]
      have e3 : l ++ (Y.drop (i + 1)).flatten = l.take k ++ (x :: (l.drop (k + 1) ++ (Y.drop (i + 1)).flatten)) := by
        calc l ++ (Y.drop (i + 1)).flatten = (l.take (k + 1) ++ l.drop (k + 1)) ++ (Y.drop (i + 1)).flatten := by rw [← e]
          _ = _ := by rw [take_next hx]; simp
      rw [e3, List.append_assoc]
    rw [e2] at hn
    exact (List.nodup_append.1 hn).2.2 x hm x (by simp) rfl
theorem seen_step {S : List Int} {x : Int} (h : Seen S) (hx : 1 ≤ x ∧ x ≤ 99) (hn : ¬ x ∈ S) : Seen (S ++ [x]) := by
  refine ⟨fun y hy => ?_, ?_⟩
  · rcases List.mem_append.1 hy with hy | hy
    · exact h.1 y hy
    · rw [List.mem_singleton.1 hy]; exact hx
  · rw [List.nodup_append]
    refine ⟨h.2, by simp, fun a ha b hb => ?_⟩
    rw [List.mem_singleton.1 hb]
    intro e
    exact hn (e ▸ ha)
/-- What is known when the rows before i and k numbers of row i have been looked at. -/
def Part (Y : List (List Int)) (i : Nat) (l : List Int) (k : Nat) (S : List Int) : Prop := S = (Y.take i).flatten ++ l.take k ∧ Seen S ∧ S.length ≤ 4 * i + k ∧ ∀ (j : Nat) (r : List Int), j < i → Y[j]? = some r → r.length ≤ 4
theorem Part.start (Y : List (List Int)) : Part Y 0 [] 0 [] := ⟨by simp, ⟨fun x hx => by simp at hx, by simp⟩, by simp, fun j r hj => by omega⟩
theorem Part.row {Y : List (List Int)} {i : Nat} {S : List Int} (h : Part Y i [] 0 S) (l : List Int) : Part Y i l 0 S := by
  obtain ⟨h1, h2, h3, h4⟩ := h
  exact ⟨by simpa using h1, h2, h3, h4⟩
theorem Part.step {Y : List (List Int)} {i k : Nat} {l S : List Int} {x : Int} (h : Part Y i l k S) (hx : l[k]? = some x) (hr : 1 ≤ x ∧ x ≤ 99) (hn : ¬ x ∈ S) : Part Y i l (k + 1) (S ++ [x]) := by
  obtain ⟨h1, h2, h3, h4⟩ := h
  exact ⟨by rw [take_next hx, h1]; simp, seen_step h2 hr hn, by simp; omega, h4⟩
theorem Part.next {Y : List (List Int)} {i k : Nat} {l S : List Int} (h : Part Y i l k S) (hl : Y[i]? = some l) (hk : l.length = k) (h4 : k ≤ 4) : Part Y (i + 1) [] 0 S := by
  obtain ⟨h1, h2, h3, h5⟩ := h
  refine ⟨?_, h2, by omega, fun j r hj hr => ?_⟩
  · rw [← hk, List.take_length] at h1
    rw [flat_succ hl, h1]; simp
  · by_cases e : j = i
    · subst e; rw [hl] at hr; cases hr; omega
    · exact h5 j r (by omega) hr
theorem Part.done {Y : List (List Int)} {n : Nat} {S : List Int} (h : Part Y n [] 0 S) (hn : Y.length = n) (h1 : 1 ≤ n) (h6 : n ≤ 6) : goodY Y = true := by
  obtain ⟨e, h2, h3, h5⟩ := h
  refine goodY_iff.2 ⟨by omega, by omega, fun l hl => ?_, ?_⟩
  · obtain ⟨j, hj, e⟩ := List.mem_iff_getElem.1 hl
    exact h5 j l (by omega) (by rw [List.getElem?_eq_getElem hj, e])
  · rw [← hn, List.take_length] at e
    simp at e
    rw [← e]; exact h2
theorem Part.no {Y : List (List Int)} {i k : Nat} {l S : List Int} {x : Int} (h : Part Y i l k S) (hl : Y[i]? = some l) (hx : l[k]? = some x) (hm : x ∈ S) : goodY Y = false := good_twice hl hx (by rw [← h.1]; exact hm)

/-- Whether a number stands in a list. -/
def hasB (l : List Int) (x : Int) : Bool := decide (x ∈ l)
set_option maxHeartbeats 1000000 in
theorem l1Has_any (v : Value) (l : List Int) (x : Int) (base : Nat) (hl : l.length ≤ 1000) (w : World) (h : w.ownsRow base 3 1 v l.length (intV l)) :
    Calls Try.prog 75 #[v, .int .i64 x] w fun e w' => e = .returned (.bool (hasB l x)) ∧ w = w' := by
  obtain ⟨a, cap, rfl, hc⟩ := il_of_owns h
  obtain ⟨n, hN⟩ : ∃ n, l.length = n := ⟨_, rfl⟩
  have HN := Lib.hid hN
  have HC := Lib.hid hc
  rw [hN] at hl ⊢
  clear hN hc h
  go_enter Try.func75, Try.ntmps75
  go_wp2_with fail
  go_loop [5] (fun i => ∃ k : Nat, k ≤ n ∧ i = .int .i64 k ∧ Hid (∀ j (hj : j < l.length), j < k → l[j] ≠ x)) (fun i => n - (intOf i).toNat)
  case atStart => exact ⟨0, Nat.zero_le _, rfl, Lib.hid fun j hj h0 => by omega⟩
  case round =>
    obtain ⟨k, hk, rfl, HK⟩ := hrel
    by_cases hlt : k < n
    · have hkl : k < l.length := by rw [HN.out]; exact hlt
      obtain ⟨g, off, rfl, hg, hcc⟩ := HC.out (by omega)
      have a1 := hcc k _ (List.getElem?_eq_getElem hkl)
      clear hcc
      by_cases hy : l[k] = x
      · have HX : Hid (hasB l x = true) := Lib.hid (by unfold hasB; rw [decide_eq_true_eq, ← hy]; exact List.getElem_mem _)
        have hyb : (l[k] == x) = true := by simpa using hy
        clear hy
        generalize l[k] = y at *
        go_wp2_with fail
        go_ret
        exact ⟨by rw [HX.out]; rfl, rfl⟩
      · have HK2 : Hid (∀ j (hj : j < l.length), j < k + 1 → l[j] ≠ x) := Lib.hid fun j hj h0 => by
          by_cases e : j = k
          · subst e; exact hy
          · exact HK.out j hj (by omega)
        have hyb : (l[k] == x) = false := by simpa using hy
        clear hy
        generalize l[k] = y at *
        go_wp2_with fail
        go_round
        case rel => exact ⟨k + 1, by omega, by go_num, HK2⟩
        case measure => simp [intOf]; omega
    · have HX : Hid (hasB l x = false) := Lib.hid (by
        unfold hasB
        rw [decide_eq_false_iff_not]
        intro hm
        obtain ⟨j, hj, hjx⟩ := List.mem_iff_getElem.1 hm
        exact HK.out j hj (by have := HN.out; omega) hjx)
      go_wp2_with fail
      go_ret
      exact ⟨by rw [HX.out]; rfl, rfl⟩

theorem l1In_yes (a lo hi : Int) (w : World) (h1 : lo ≤ a) (h2 : a ≤ hi) : Calls Try.prog 49 #[.int .i64 a, .int .i64 lo, .int .i64 hi] w fun e w' => e = .returned (.bool true) ∧ w = w' := by
  go_enter Try.func49, Try.ntmps49
  go_wp2
  go_ret
  exact ⟨by simp, rfl⟩
theorem l1In_no (a lo hi : Int) (w : World) (h : a < lo ∨ hi < a) : Calls Try.prog 49 #[.int .i64 a, .int .i64 lo, .int .i64 hi] w fun e w' => e = .returned (.bool false) ∧ w = w' := by
  by_cases h1 : a < lo
  · clear h
    go_enter Try.func49, Try.ntmps49
    go_wp2
    go_ret
    exact ⟨rfl, rfl⟩
  · have h2 : hi < a := by omega
    have h3 : decide (a ≤ hi) = false := by simp; omega
    clear h
    go_enter Try.func49, Try.ntmps49
    go_wp2
    go_ret
    exact ⟨by simp, rfl⟩
theorem l1In_any (a lo hi : Int) (w : World) : Calls Try.prog 49 #[.int .i64 a, .int .i64 lo, .int .i64 hi] w fun e w' => e = .returned (.bool (decide (lo ≤ a ∧ a ≤ hi))) ∧ w = w' := by
  by_cases h : lo ≤ a ∧ a ≤ hi
  · rw [decide_eq_true h]; exact l1In_yes a lo hi w h.1 h.2
  · rw [decide_eq_false h]; exact l1In_no a lo hi w (by omega)
/-- A yes or no was answered, and nothing older turned. -/
def BoolP (w : World) (b : Bool) (e : Ending) (w' : World) : Prop := e = .returned (.bool b) ∧ Below w.heap.size w w'

/-- While the numbers are collected. -/
def Coll (w wr : World) (v0 sv : Value) (S : List Int) : Prop := wr.ownsRow (w.heap.size + 1) 3 1 sv S.length (intV S) ∧ wr.cell? ⟨w.heap.size, 0, none⟩ = some v0 ∧ Below w.heap.size w wr ∧ w.heap.size + 1 ≤ wr.heap.size ∧ sv ≠ .slice none 0 0
theorem coll_start (w : World) (v0 : Value) (T : TypeId) : Coll w ((w.alloc (.cells #[v0] T)).alloc (.cells #[] 3)) v0 (.slice (some ⟨w.heap.size + 1, 0, none⟩) 0 0) [] := by
  have h := own_empty (w.alloc (.cells #[v0] T)) (.cells #[] 3) 3 rfl
  rw [show (w.alloc (.cells #[v0] T)).heap.size = w.heap.size + 1 by simp] at h
  refine ⟨by simpa [intV] using h, ?_, ((Below.refl _ w).alloc (Nat.le_refl _) _).alloc (by simp) _, by simp, by simp⟩
  rw [World.cell?_alloc_lt _ _ _ (by simp)]; simp

set_option maxRecDepth 100000 in
set_option maxHeartbeats 4000000 in
theorem l5Good_any (v : Value) (Y : List (List Int)) (hn : Y.length ≤ maxLen) (hs : ∀ (j : Nat) (l : List Int), Y[j]? = some l → l.length ≤ maxLen) (w : World) (h : YdR w v Y) :
    Calls Try.prog 61 #[v] w (BoolP w (goodY Y)) := by
  obtain ⟨f3, hi3, hz0, hz1, hz2⟩ := info_is info3
  obtain ⟨v0, rfl, a, cap, rfl, hc⟩ := h
  obtain ⟨n, hl⟩ : ∃ n, Y.length = n := ⟨_, rfl⟩
  have HN := Lib.hid hl
  have HC := Lib.hid hc
  have HS := Lib.hid hs
  rw [hl] at hn ⊢
  unfold maxLen at hn
  have B0 := Lib.hid (below_one w (.cells #[.slice a n cap] 31))
  clear hc hs hl
  have C0 := Lib.hid (coll_start w (.slice a n cap) 31)
  by_cases hin : 1 ≤ n ∧ n ≤ 6
  · obtain ⟨h1, h6⟩ := hin
    have HI := Lib.hid (fun W => l1In_yes (n : Int) 1 6 W (by omega) (by omega))
    go_enter Try.func61, Try.ntmps61
    go_wp2_with fail
    refine (HI.out _).mono ?_
    rintro e w1 ⟨rfl, rfl⟩
    go_wp2_with fail
    go_loopw [3, 4] (fun s i wr => ∃ (k : Nat) (S : List Int), k ≤ n ∧ i = .int .i64 k ∧ Hid (Coll w wr (.slice a n cap) s S) ∧ Hid (Part Y k [] 0 S)) (fun _ i _ => n - (intOf i).toNat)
    case atStart => exact ⟨0, [], Nat.zero_le _, rfl, C0, Lib.hid (Part.start Y)⟩
    case round =>
      obtain ⟨i, S, hi, rfl, HCo, HP⟩ := hrel
      rename World => wo
      have c0 := HCo.out.2.1
      by_cases hlt : i < n
      · obtain ⟨l, hl⟩ := get_at HN.out hlt
        obtain ⟨g, off, rfl, hg, hcc⟩ := HC.out (by have := HN.out; omega)
        obtain ⟨u, hu', hil⟩ := hcc i l hl
        have hu := (HCo.out.2.2.1.cell (p := ⟨g, off + i, none⟩) hg).trans hu'
        have hsm := HS.out i l hl
        unfold maxLen at hsm
        obtain ⟨a2, c2, rfl, hrow⟩ := hil
        have HU := Lib.hid hu'
        have HR := Lib.hid hrow
        have HL := Lib.hid hl
        obtain ⟨m, hm⟩ : ∃ m, l.length = m := ⟨_, rfl⟩
        have HM := Lib.hid hm
        rw [hm] at hsm hu HU
        clear hcc hl hrow hm hu'
        by_cases h4 : m ≤ 4
        · go_wp2_with fail
          go_loopw [3, 5] (fun s kk wr => ∃ (k : Nat) (S : List Int), k ≤ m ∧ kk = .int .i64 k ∧ Hid (Coll w wr (.slice (some ⟨g, off, none⟩) n cap) s S) ∧ Hid (Part Y i l k S)) (fun _ kk _ => m - (intOf kk).toNat)
          case atStart => exact ⟨0, S, Nat.zero_le _, rfl, HCo, Lib.hid (HP.out.row l)⟩
          case round =>
            clear hu c0
            obtain ⟨k, S2, hk, rfl, HC2, HP2⟩ := hrel
            have c0 := HC2.out.2.1
            have hu := (HC2.out.2.2.1.cell (p := ⟨g, off + i, none⟩) hg).trans HU.out
            by_cases hkm : k < m
            · obtain ⟨g2, off2, rfl, hg2, hcc2⟩ := HR.out (by have := HM.out; omega)
              obtain ⟨x, hx⟩ := get_at HM.out hkm
              have hxc := (HC2.out.2.2.1.cell (p := ⟨g2, off2 + k, none⟩) hg2).trans (hcc2 k x hx)
              clear hcc2
              by_cases hr : 1 ≤ x ∧ x ≤ 99
              · have HX := Lib.hid (fun W => l1In_yes x 1 99 W hr.1 hr.2)
                have hSl : S2.length ≤ 1000 := by have := HP2.out.2.2.1; omega
                by_cases hmem : x ∈ S2
                · have HF := Lib.hid (HP2.out.no HL.out hx hmem)
                  have HHas := Lib.hid (l1Has_any _ S2 x _ hSl _ HC2.out.1)
                  rw [show hasB S2 x = true by simp [hasB, hmem]] at HHas
                  clear hr hx hmem hSl
                  go_wp2_with fail
                  refine (HX.out _).mono ?_
                  rintro e w1 ⟨rfl, rfl⟩
                  go_wp2_with fail
                  refine HHas.out.mono ?_
                  rintro e w1 ⟨rfl, rfl⟩
                  go_wp2_with fail
                  go_ret
                  exact ⟨by rw [HF.out]; rfl, HC2.out.2.2.1⟩
                · have HHas := Lib.hid (l1Has_any _ S2 x _ hSl _ HC2.out.1)
                  rw [show hasB S2 x = false by simp [hasB, hmem]] at HHas
                  have HP3 := Lib.hid (HP2.out.step hx hr hmem)
                  clear hr hx hmem
                  obtain ⟨hrow, hc0, hB, hz, hne⟩ := HC2.out
                  have KC0 := Lib.hid hc0
                  clear hc0 hne
                  go_wp2_with fail
                  refine (HX.out _).mono ?_
                  rintro e w1 ⟨rfl, rfl⟩
                  go_wp2_with fail
                  refine HHas.out.mono ?_
                  rintro e w2 ⟨rfl, rfl⟩
                  clear c0 hu hxc
                  go_wp2_with (at_builtin; refine wpList_append_own _ rfl _ _ 44 rfl (w.heap.size + 1) 3 f3 (.int .i64 0) 1 8 Try.underlying44 hi3 hz0 hz1 hz2 rfl (by decide) _ _ _ rfl (hrow.alloc _) ⟨wr.heap.size, 0, none⟩ 1 1 [.int .i64 x] rfl rfl (cell_one_new _ _ _) (by simp [Value.oneCell']) (by unfold maxLen; omega) (by omega) (by simp; omega) ?_; intro v' w4 hown' hgrow hnil)
                  have hB4 : Below w.heap.size w w4 := (hB.alloc hB.size _).grown hgrow (by simp; omega) (fun j e => by have := row_base hrow j e; omega)
                  have hz4 : w.heap.size + 1 ≤ w4.heap.size := by have := hgrow.size; simp at this; omega
                  have c4 : w4.cell? ⟨w.heap.size, 0, none⟩ = some (.slice (some ⟨g, off, none⟩) n cap) := by
                    rw [World.cell?_of_block (hgrow.block w.heap.size (by simp; omega) (fun e => by have := row_base hrow _ e.symm; omega)), World.cell?_alloc_lt _ _ _ (by simp; omega)]
                    exact KC0.out
                  have HN4 : Hid (Coll w w4 (.slice (some ⟨g, off, none⟩) n cap) v' (S2 ++ [x])) := Lib.hid ⟨by simpa [intV] using hown', c4, hB4, hz4, fun e => by have := (hnil.1 e).2; omega⟩
                  clear hown' hgrow hnil hB4 hz4 hrow hB hz c4
                  exact ⟨⟨k + 1, S2 ++ [x], by omega, by go_num, HN4, HP3⟩, by simp [intOf]; omega⟩
              · have HX := Lib.hid (fun W => l1In_no x 1 99 W (by omega))
                have HF := Lib.hid (good_range HL.out hx hr)
                clear hr hx
                go_wp2_with fail
                refine (HX.out _).mono ?_
                rintro e w1 ⟨rfl, rfl⟩
                go_wp2_with fail
                go_ret
                exact ⟨by rw [HF.out]; rfl, HC2.out.2.2.1⟩
            · obtain rfl : k = m := by omega
              have HP3 := Lib.hid (HP2.out.next HL.out HM.out h4)
              go_wp2_with fail
              refine ⟨⟨i + 1, S2, by omega, by go_num, HC2, HP3⟩, by simp [intOf]; omega⟩
        · have HF := Lib.hid (good_row HL.out (by have := HM.out; omega))
          go_wp2_with fail
          go_ret
          exact ⟨by rw [HF.out]; rfl, HCo.out.2.2.1⟩
      · obtain rfl : i = n := by omega
        have HF := Lib.hid (HP.out.done HN.out h1 h6)
        go_wp2_with fail
        go_ret
        exact ⟨by rw [HF.out]; rfl, HCo.out.2.2.1⟩
  · have HI := Lib.hid (fun W => l1In_no (n : Int) 1 6 W (by omega))
    have HF : Hid (goodY Y = false) := Lib.hid (goodY_not fun h => by have := HN.out; omega)
    go_enter Try.func61, Try.ntmps61
    go_wp2_with fail
    refine (HI.out _).mono ?_
    rintro e w1 ⟨rfl, rfl⟩
    go_wp2_with fail
    go_ret
    exact ⟨by rw [HF.out]; rfl, B0.out⟩
end Go.Proofs.Ytonploneihnekaa
