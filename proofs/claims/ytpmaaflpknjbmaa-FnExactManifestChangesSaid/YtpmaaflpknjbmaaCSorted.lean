/-
  Plain mathematics of ascending lists of texts, and what impl.sortedIds returns. No statement of the seat by itself.
-/
import Derived.Test.YtpmaaflpknjbmaaCPut
import Derived.Test.YtpmaaflpknjbmaaCLaidP
import Derived.Test.YtpmaaflpknjbmaaCHeldC
import Derived.Sort.OwnSorted
namespace Go.Proofs.Ytpmaaflpknjbmaa.C
open Go.RowKit Go.Sort

theorem toL_eq (a : ByteArray) : a.toList = a.data.toList := ByteArray.toList_eq a
/-- No text comes after the other one. -/
def leT (a b : ByteArray) : Prop := a.data.toList ≤ b.data.toList
theorem gt_true {a s : ByteArray} (h : gtB a s = true) : leT s a := by
  unfold gtB at h
  rw [toL_eq, toL_eq, bytesLess_eq] at h
  simp at h
  exact h.1
theorem gt_false {a s : ByteArray} (h : gtB a s = false) : leT a s := by
  unfold gtB at h
  rw [toL_eq, toL_eq, bytesLess_eq] at h
  simp at h
  unfold leT
  by_cases h1 : a.data.toList < s.data.toList
  · exact List.le_of_lt h1
  · have h2 : s.data.toList ≤ a.data.toList := List.not_lt.1 h1
    rw [h h2]
    exact List.le_refl _
theorem posS_after (L : List ByteArray) (s : ByteArray) : ∀ k j, posS L s k ≤ j → j < k → gtB (L.getD j ByteArray.empty) s = true
  | 0, j, _, h => by omega
  | k + 1, j, h1, h2 => by
    rw [posS] at h1
    split at h1
    · rename_i hg
      by_cases e : j = k
      · subst e; exact hg
      · exact posS_after L s k j h1 (by omega)
    · omega
theorem posS_before (L : List ByteArray) (s : ByteArray) : ∀ k, 0 < posS L s k → gtB (L.getD (posS L s k - 1) ByteArray.empty) s = false
  | 0, h => by simp [posS] at h
  | k + 1, h => by
    rw [posS] at h ⊢
    split
    · rename_i hg
      rw [if_pos hg] at h
      exact posS_before L s k h
    · rename_i hg
      simpa using hg
theorem getD_get {L : List ByteArray} {j : Nat} (h : j < L.length) : L.getD j ByteArray.empty = L[j] := by simp [List.getD, List.getElem?_eq_getElem h]
theorem leT_trans {a b c : ByteArray} (h1 : leT a b) (h2 : leT b c) : leT a c := List.le_trans h1 h2
theorem insS_asc (L : List ByteArray) (s : ByteArray) (h : L.Pairwise leT) : (insS L s).Pairwise leT := by
  have hp := posS_le L s L.length
  have h1 := posS_after L s L.length
  have h2 := posS_before L s L.length
  unfold insS
  generalize posS L s L.length = p at *
  have hs1 : ∀ x ∈ L.take p, leT x s := fun x hx => by
    obtain ⟨j, hj, rfl⟩ := List.getElem_of_mem hx
    have hj2 : j < p := by simp at hj; omega
    have hlast : leT (L.getD (p - 1) ByteArray.empty) s := gt_false (h2 (by omega))
    rw [getD_get (by omega)] at hlast
    rw [List.getElem_take]
    by_cases e : j = p - 1
    · subst e; exact hlast
    · exact leT_trans ((List.pairwise_iff_getElem.1 h) j (p - 1) (by omega) (by omega) (by omega)) hlast
  have hs2 : ∀ x ∈ L.drop p, leT s x := fun x hx => by
    obtain ⟨j, hj, rfl⟩ := List.getElem_of_mem hx
    have hj2 : p + j < L.length := by simp at hj; omega
    rw [List.getElem_drop]
    have := gt_true (h1 (p + j) (by omega) hj2)
    rwa [getD_get hj2] at this
  have hd := List.pairwise_append.1 (show (L.take p ++ L.drop p).Pairwise leT by rw [List.take_append_drop]; exact h)
  rw [List.append_assoc, List.pairwise_append]
  refine ⟨hd.1, ?_, fun a ha b hb => ?_⟩
  · rw [List.singleton_append, List.pairwise_cons]
    exact ⟨hs2, hd.2.1⟩
  · rcases List.mem_append.1 hb with h3 | h3
    · rw [List.mem_singleton.1 h3]; exact hs1 a ha
    · exact hd.2.2 a ha b h3
theorem insS_perm (L : List ByteArray) (s : ByteArray) : (insS L s).Perm (s :: L) := by
  unfold insS
  rw [List.append_assoc, List.singleton_append]
  refine List.perm_middle.trans ?_
  rw [List.take_append_drop]
/-- The texts put in one by one. -/
def srt : List ByteArray → List ByteArray → List ByteArray
  | L, [] => L
  | L, s :: r => srt (insS L s) r
theorem srt_snoc : ∀ (L r : List ByteArray) (s : ByteArray), srt L (r ++ [s]) = insS (srt L r) s
  | L, [], s => rfl
  | L, t :: r, s => by rw [List.cons_append, srt, srt, srt_snoc (insS L t) r s]
theorem srt_asc : ∀ (r L : List ByteArray), L.Pairwise leT → (srt L r).Pairwise leT
  | [], _, h => h
  | s :: r, L, h => srt_asc r _ (insS_asc L s h)
theorem srt_perm : ∀ (r L : List ByteArray), (srt L r).Perm (r ++ L)
  | [], _ => List.Perm.refl _
  | s :: r, L => by
    rw [srt]
    refine (srt_perm r (insS L s)).trans ?_
    refine ((insS_perm L s).append_left r).trans ?_
    exact List.perm_middle
theorem srt_len (r L : List ByteArray) : (srt L r).length = r.length + L.length := by rw [(srt_perm r L).length_eq, List.length_append]
theorem enc_back (l : List ByteArray) : (l.map (fun p => p.data.toList)).map encStr = l.map Value.string := by
  rw [List.map_map]
  congr 1
theorem srt_is (ids : List ByteArray) : ((ids.map (fun p => p.data.toList)).mergeSort (fun x y => decide (x ≤ y))).map encStr = (srt [] ids).map Value.string := by
  have hp : (ids.map (fun p : ByteArray => p.data.toList)).Perm ((srt [] ids).map (fun p => p.data.toList)) := by
    have := (srt_perm ids []).map (fun p : ByteArray => p.data.toList)
    rw [List.append_nil] at this
    exact this.symm
  have h1 := mergeSort_of_perm hp
  have h2 : ((srt [] ids).map (fun p : ByteArray => p.data.toList)).mergeSort leB = (srt [] ids).map (fun p => p.data.toList) := List.mergeSort_of_pairwise (by
    rw [List.pairwise_map]
    exact (srt_asc ids [] List.Pairwise.nil).imp (fun {a b : ByteArray} (h : leT a b) => decide_eq_true (show a.data.toList ≤ b.data.toList from h)))
  have h3 : (ids.map (fun p : ByteArray => p.data.toList)).mergeSort (fun x y => decide (x ≤ y)) = (srt [] ids).map (fun p => p.data.toList) := h1.trans h2
  rw [h3, enc_back]

/-- The Ids in ascending order were answered, in a slice of the call's own. -/
def IdsPost (w : World) (ids : List ByteArray) (e : Ending) (w' : World) : Prop := ∃ v, e = .returned v ∧ w'.ownsRow w.heap.size 9 1 v ids.length ((srt [] ids).map Value.string) ∧ Below w.heap.size w w'

theorem sort_call (g cap : Nat) (ids : List ByteArray) (base : Nat) (w : World) (h : w.ownsRow base 9 1 (.slice (some ⟨g, 0, none⟩) ids.length cap) ids.length (ids.map Value.string)) (hs : ids.length ≤ 1000) :
    Calls Try.prog 48 #[.slice (some ⟨g, 0, none⟩) ids.length cap] w fun e w' => e = .returned (.tuple #[]) ∧ w'.ownsRow base 9 1 (.slice (some ⟨g, 0, none⟩) ids.length cap) ids.length ((srt [] ids).map Value.string) ∧ w.grownBy w' (some g) := by
  rcases h.2 with ⟨e, _⟩ | ⟨g', cap', cur, e, hg, hb, hn, hcm, hsz, hx⟩
  · simp at e
  · simp only [Value.slice.injEq, Option.some.injEq, Addr.mk.injEq, and_true, true_and] at e
    obtain ⟨rfl, rfl⟩ := e
    have hlt := (Array.getElem?_eq_some_iff.1 hb).1
    have hx' : cur.toList.take (ids.map (fun p : ByteArray => p.data.toList)).length = (ids.map (fun p : ByteArray => p.data.toList)).map encStr := by
      rw [enc_back, List.length_map]; simpa using hx
    have hc := AnyM.slices_Sort_string Try.sortS g 0 cap (ids.map (fun p : ByteArray => p.data.toList)) w (holds_of_block hb hx') hlt (by simp; omega)
    rw [List.length_map] at hc
    refine Calls.mono hc fun e w' ⟨he, n, os, hw⟩ => ⟨he, ?_, ?_⟩
    · rw [hw]
      have := ownsRow_sorted (w := w) (n := n) (os := os) (ss := ids.map (fun p : ByteArray => p.data.toList)) (ts := (ids.map (fun p : ByteArray => p.data.toList)).mergeSort (fun x y => decide (x ≤ y))) (by simp) hg hb (by simpa using hn) hcm hsz
      rw [List.length_map, srt_is] at this
      exact this
    · rw [hw]; exact grownBy_sorted _

set_option maxRecDepth 100000 in
set_option maxHeartbeats 4000000 in
theorem sortedIds_any (v : Value) (l : List Cont) (base : Nat) (hl : l.length ≤ 12) (w : World) (hr : CRow w base v l) : Calls Try.prog 38 #[v] w (IdsPost w (l.map (fun c => c.id))) := by
  obtain ⟨i0, hi, hz0, hz1, hz2⟩ := info_parts info9
  have hV := cv_of_row hr
  have R0 := Lib.hid (own_empty w (.cells #[] 9) 9 rfl)
  have B0 := Lib.hid ((Below.refl _ w).alloc (Nat.le_refl _) (.cells #[] 9))
  obtain ⟨n, hn⟩ : ∃ n, n = l.length := ⟨_, rfl⟩
  rw [← hn] at hV hl
  by_cases h0 : n = 0
  · subst h0
    have hlnil : l = [] := List.length_eq_zero_iff.1 hn.symm
    subst hlnil
    obtain ⟨a, c, rfl⟩ := hV.length
    have HS := Lib.hid (sort_call w.heap.size 0 [] w.heap.size _ R0.out (by decide))
    clear hV hr hn
    go_enter Try.func38, Try.ntmps38
    go_wp2_with fail
    go_loop [3, 5, 9] (fun o _ i => o = .slice (some ⟨w.heap.size, 0, none⟩) 0 0 ∧ i = .int .i64 0) (fun _ _ _ => 0)
    case atStart => exact ⟨rfl, rfl⟩
    case round =>
      obtain ⟨rfl, rfl⟩ := hrel
      go_wp2_with fail
      refine HS.out.mono ?_
      rintro e w1 ⟨rfl, hr1, hg1⟩
      have HR := Lib.hid hr1
      have HB := Lib.hid (B0.out.grown hg1 B0.out.size (fun j e => by cases e; exact Nat.le_refl _))
      clear hr1 hg1
      go_wp2_with fail
      go_ret
      exact ⟨_, rfl, HR.out, HB.out⟩
  · obtain ⟨g, cap, rfl, hg⟩ := hV.lt (by omega)
    have H := Lib.hid (hV.at (by omega))
    have HID : Hid (∀ k, k < n → (l.map (fun c => c.id)).take (k + 1) = (l.map (fun c => c.id)).take k ++ [(l[k]!).id]) := Lib.hid fun k hk => by
      rw [List.take_succ_eq_append_getElem (by simp; omega)]
      simp [getElem!_pos l k (by omega)]
    have HLen : Hid ((l.map (fun c => c.id)).length = n) := Lib.hid (by simp [hn])
    clear hV hr hn
    generalize hids : l.map (fun c => c.id) = ids at *
    clear hids
    obtain ⟨f, hf⟩ : ∃ f : Nat → Cont, f = (fun j => l[j]!) := ⟨_, rfl⟩
    have H2 : Hid (CAt w g 0 n f) := Lib.hid (by rw [hf]; exact H.out)
    have HID2 : Hid (∀ k, k < n → ids.take (k + 1) = ids.take k ++ [(f k).id]) := Lib.hid (by rw [hf]; exact HID.out)
    clear H HID hf
    have hnl : (List.take 0 ids) = [] := List.take_zero
    have R1 : Hid ((w.alloc (.cells #[] 9)).ownsRow w.heap.size 9 1 (.slice (some ⟨w.heap.size, 0, none⟩) 0 0) (ids.take 0).length ((ids.take 0).map Value.string)) := Lib.hid (by simpa using R0.out)
    clear hnl
    go_enter Try.func38, Try.ntmps38
    go_wp2_with fail
    go_loopw [3, 5, 9] (fun o _ i wr => ∃ k : Nat, k ≤ n ∧ i = .int .i64 k ∧ Hid (wr.ownsRow w.heap.size 9 1 o (ids.take k).length ((ids.take k).map Value.string)) ∧ Hid (o ≠ .slice none 0 0) ∧ Hid (Below w.heap.size w wr)) (fun _ _ i _ => n - (RowKit.intOf i).toNat)
    case atStart => exact ⟨0, Nat.zero_le _, rfl, R1, Lib.hid (by simp), B0⟩
    case round =>
      obtain ⟨k, hk, rfl, HR, HN, HB⟩ := hrel
      by_cases hlt : k < n
      · obtain ⟨a0, a1, a2, a3, a4⟩ := (H2.out.below HB.out).2 k hlt
        rw [Nat.zero_add] at *
        have HP := Lib.hid (HID2.out k hlt)
        have hlk : (ids.take k).length ≤ 12 := by rw [List.length_take]; omega
        have hsz := HB.out.size
        generalize ids.take k = ps at *
        generalize f k = x at *
        obtain ⟨id, sz, wt, cg, pt⟩ := x
        simp only at *
        have hrow := HR.out.alloc (.cells #[.string id, .int .i64 sz, .int .i64 wt, .int .i64 cg, .int .i64 pt] 49)
        have HB2 := Lib.hid (HB.out.alloc hsz (.cells #[.string id, .int .i64 sz, .int .i64 wt, .int .i64 cg, .int .i64 pt] 49))
        go_wp2_with (at_builtin; refine wpList_append_own _ rfl _ _ 34 rfl w.heap.size 9 i0 (.string ⟨#[]⟩) 1 16 Try.underlying34 hi hz0 hz1 hz2 rfl (by decide) _ _ _ rfl (hrow.alloc _) ⟨wr.heap.size + 1, 0, none⟩ 1 1 [.string id] rfl rfl (by have := cell_one_new (wr.alloc (.cells #[.string id, .int .i64 sz, .int .i64 wt, .int .i64 cg, .int .i64 pt] 49)) (.string id) 9; rw [World.size_alloc] at this; exact this) (by simp [Value.oneCell']) (by unfold maxLen; omega) (by omega) (by simp; omega) ?_; intro v' w3 hown' hgrow hnil)
        have hB3 : Below w.heap.size w w3 := (HB2.out.alloc (by simp; omega) _).grown hgrow (by simp; omega) (row_base hrow)
        refine ⟨⟨k + 1, by omega, by go_num, Lib.hid (by rw [HP.out]; simpa using hown'), Lib.hid (fun e => by have := (hnil.1 e).2; omega), Lib.hid hB3⟩, by simp [RowKit.intOf]; omega⟩
      · obtain rfl : k = n := by omega
        have HT : Hid (ids.take k = ids) := Lib.hid (List.take_of_length_le (by rw [HLen.out]; exact Nat.le_refl _))
        have HR2 : Hid (wr.ownsRow w.heap.size 9 1 u3 ids.length (ids.map Value.string)) := Lib.hid (by have := HR.out; rwa [HT.out] at this)
        have hl12 : ids.length ≤ 12 := by rw [HLen.out]; omega
        clear HR HT
        rcases HR2.out.2 with ⟨e, _⟩ | ⟨g2, cap2, cur2, rfl, hg2, -⟩
        · exact absurd e HN.out
        · have HS := Lib.hid (sort_call g2 cap2 ids w.heap.size wr HR2.out (by omega))
          go_wp2_with fail
          refine HS.out.mono ?_
          rintro e w5 ⟨rfl, hr1, hg1⟩
          have HR5 := Lib.hid hr1
          have HB5 := Lib.hid (HB.out.grown hg1 HB.out.size (fun j e => by cases e; exact hg2))
          clear hr1 hg1
          go_wp2_with fail
          go_ret
          exact ⟨_, rfl, HR5.out, HB5.out⟩
end Go.Proofs.Ytpmaaflpknjbmaa.C
