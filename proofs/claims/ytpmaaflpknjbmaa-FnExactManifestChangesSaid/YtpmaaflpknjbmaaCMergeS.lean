/-
  What spec.MergeManifests returns. No statement of the seat by itself.
-/
import Derived.Test.YtpmaaflpknjbmaaCMapC
import Derived.Test.YtpmaaflpknjbmaaCValidI
namespace Go.Proofs.Ytpmaaflpknjbmaa.C
open Go.RowKit

/-- Container i of the first list, or that of the second one with its Id. -/
def repC (a b : Nat → Cont) (m i : Nat) : Cont := if 0 ≤ findU b (a i).id m then b (findU b (a i).id m).toNat else a i
def repL (a b : Nat → Cont) (m : Nat) : Nat → List Cont
  | 0 => []
  | k + 1 => repL a b m k ++ [repC a b m k]
theorem repL_len (a b : Nat → Cont) (m : Nat) : ∀ k, (repL a b m k).length = k
  | 0 => rfl
  | k + 1 => by rw [repL]; simp [repL_len a b m k]
/-- The containers of the second list that the first one does not have. -/
def newL (a b : Nat → Cont) (n k : Nat) : List Cont := filtL b (fun id => decide (findU a id n < 0)) k
def mergeL (a b : Nat → Cont) (n m : Nat) : List Cont := repL a b m n ++ newL a b n m
theorem mergeL_len (a b : Nat → Cont) (n m : Nat) : (mergeL a b n m).length ≤ n + m := by
  have := filtL_len b (fun id => decide (findU a id n < 0)) m
  unfold mergeL newL
  rw [List.length_append, repL_len]
  omega
theorem findU_pos {f : Nat → Cont} {id : ByteArray} {n : Nat} (h : 0 ≤ findU f id n) : ∃ j, j < n ∧ findU f id n = (j : Int) ∧ (f j).id = id := by
  rcases findU_cases f id n with h1 | ⟨k, hk, he, hm⟩
  · rw [findU_miss f id n h1] at h; omega
  · exact ⟨k, hk, findU_hit f id k he hm n hk, he⟩
theorem repL_all (a b : Nat → Cont) (m : Nat) (P : Cont → Prop) (hb : ∀ j, j < m → P (b j)) : ∀ k, (∀ j, j < k → P (a j)) → ∀ x ∈ repL a b m k, P x
  | 0, _, x, hx => by simp [repL] at hx
  | k + 1, h, x, hx => by
    rw [repL] at hx
    rcases List.mem_append.1 hx with h1 | h1
    · exact repL_all a b m P hb k (fun j hj => h j (by omega)) x h1
    · rw [List.mem_singleton.1 h1, repC]
      split
      · rename_i h2
        obtain ⟨j, hj, e, _⟩ := findU_pos h2
        rw [e]
        exact hb j hj
      · exact h k (by omega)
theorem mergeL_all (a b : Nat → Cont) (n m : Nat) (P : Cont → Prop) (ha : ∀ j, j < n → P (a j)) (hb : ∀ j, j < m → P (b j)) : ∀ x ∈ mergeL a b n m, P x := by
  intro x hx
  rcases List.mem_append.1 hx with h | h
  · exact repL_all a b m P hb n ha x h
  · exact filtL_ids b _ P m hb x h
theorem all_at {P : Cont → Prop} {l : List Cont} (h : ∀ x ∈ l, P x) : ∀ j, j < l.length → P l[j]! := fun j hj => by
  rw [getElem!_pos l j hj]
  exact h _ (List.getElem_mem hj)

/-- A list of the call's own was answered, and nothing older turned. -/
def OneRow (w : World) (l : List Cont) (ok : Bool) (e : Ending) (W' : World) : Prop := ∃ v, e = .returned (.tuple #[v, .bool ok]) ∧ CRow W' w.heap.size v l ∧ Below w.heap.size w W'
/-- While a list is put together. -/
def Acc (w wr : World) (o : Value) (l : List Cont) : Prop := CRow wr w.heap.size o l ∧ o ≠ .slice none 0 0 ∧ Below w.heap.size w wr
theorem Acc.below {w wr W : World} {o : Value} {l : List Cont} (h : Acc w wr o l) (hb : Below wr.heap.size wr W) : Acc w W o l := ⟨row_below h.1 hb, h.2.1, h.2.2.trans (hb.mono h.2.2.size)⟩
theorem acc_empty (w : World) : Acc w (w.alloc (.cells #[] 49)) (.slice (some ⟨w.heap.size, 0, none⟩) 0 0) [] := ⟨crow_empty w _ rfl, fun h => by simp at h, (Below.refl _ w).alloc (Nat.le_refl _) _⟩
theorem acc_step {w wr w3 : World} {o v' : Value} {l : List Cont} {c : Cont} (h : Acc w wr o l)
    (hown : w3.ownsRow w.heap.size 49 5 v' (l.length + 1) (flatC l ++ encC c)) (hg : wr.grownBy w3 o.ownBlock) (hnil : v' = .slice none 0 0 ↔ o = .slice none 0 0 ∧ 1 = 0) : Acc w w3 v' (l ++ [c]) := by
  refine ⟨?_, fun e => by have := hnil.1 e; omega, h.2.2.grown hg h.2.2.size (row_base h.1)⟩
  unfold CRow; rw [flatC_snoc]; simpa using hown
theorem acc_form {w wr : World} {o : Value} {l : List Cont} (h : Acc w wr o l) : ∃ g cap, o = .slice (some ⟨g, 0, none⟩) l.length cap ∧ l.length ≤ cap ∧ CAt wr g 0 l.length (fun j => l[j]!) := by
  rcases h.1.2 with ⟨e, _⟩ | ⟨g, cap, cur, rfl, hg, hb, hn, _⟩
  · exact absurd e h.2.1
  · refine ⟨g, cap, rfl, hn, (Array.getElem?_eq_some_iff.1 hb).1, fun j hj => ?_⟩
    exact ((cv_of_row h.1).at (by omega)).2 j hj

/-- What the merging answers. -/
def mergeB (a b : Nat → Cont) (n m : Nat) : Bool := listB (mergeL a b n m).length (fun j => (mergeL a b n m)[j]!)

set_option maxRecDepth 100000 in
set_option maxHeartbeats 1000000 in
theorem specMerge_noA (g1 n c1 : Nat) (a : Nat → Cont) (g2 m c2 : Nat) (hn : n ≤ 1048576) (ha : ∀ j, j < n → (a j).id.size ≤ 1048576) (w : World) (h1 : CAt w g1 0 n a) (hL : listB n a = false) :
    Calls Try.prog 21 #[.slice (some ⟨g1, 0, none⟩) n c1, .slice (some ⟨g2, 0, none⟩) m c2] w (OneRow w [] false) := by
  have A0 := acc_empty w
  have K := Lib.hid (l2List_any g1 n c1 a hn ha _ (h1.below A0.2.2))
  rw [hL] at K
  have R0 := Lib.hid A0
  clear h1 ha hL A0
  go_enter Try.func21, Try.ntmps21
  go_wp2_with fail
  refine K.out.mono ?_
  rintro e w1 ⟨rfl, hb1⟩
  have R1 := Lib.hid (R0.out.below hb1)
  clear hb1
  go_wp2_with fail
  go_ret2
  exact ⟨_, rfl, R1.out.1, R1.out.2.2⟩

set_option maxRecDepth 100000 in
set_option maxHeartbeats 1000000 in
theorem specMerge_noB (g1 n c1 : Nat) (a : Nat → Cont) (g2 m c2 : Nat) (b : Nat → Cont) (hn : n ≤ 1048576) (hm : m ≤ 1048576) (ha : ∀ j, j < n → (a j).id.size ≤ 1048576) (hb : ∀ j, j < m → (b j).id.size ≤ 1048576) (w : World) (h1 : CAt w g1 0 n a) (h2 : CAt w g2 0 m b) (hL : listB n a = true) (hM : listB m b = false) :
    Calls Try.prog 21 #[.slice (some ⟨g1, 0, none⟩) n c1, .slice (some ⟨g2, 0, none⟩) m c2] w (OneRow w [] false) := by
  have A0 := acc_empty w
  have K := Lib.hid (l2List_any g1 n c1 a hn ha _ (h1.below A0.2.2))
  have K2 := Lib.hid (fun W (hW : Below w.heap.size w W) => l2List_any g2 m c2 b hm hb W (h2.below hW))
  rw [hL] at K
  rw [hM] at K2
  have R0 := Lib.hid A0
  clear h1 h2 ha hb hL hM A0
  go_enter Try.func21, Try.ntmps21
  go_wp2_with fail
  refine K.out.mono ?_
  rintro e w1 ⟨rfl, hb1⟩
  have R1 := Lib.hid (R0.out.below hb1)
  clear hb1
  go_wp2_with fail
  refine (K2.out _ R1.out.2.2).mono ?_
  rintro e w2 ⟨rfl, hb2⟩
  have R2 := Lib.hid (R1.out.below hb2)
  clear hb2
  go_wp2_with fail
  go_ret2
  exact ⟨_, rfl, R2.out.1, R2.out.2.2⟩

set_option maxRecDepth 100000 in
set_option maxHeartbeats 4000000 in
theorem specMerge_yes (g1 n c1 : Nat) (a : Nat → Cont) (g2 m c2 : Nat) (b : Nat → Cont) (hn : n ≤ 1048576) (hm : m ≤ 1048576) (ha : ∀ j, j < n → (a j).id.size ≤ 1048576) (hb : ∀ j, j < m → (b j).id.size ≤ 1048576) (w : World) (h1 : CAt w g1 0 n a) (h2 : CAt w g2 0 m b) (hL : listB n a = true) (hM : listB m b = true) (L : List Cont) (ok : Bool) (hB : mergeB a b n m = ok) (hLok : L = if ok then mergeL a b n m else []) :
    Calls Try.prog 21 #[.slice (some ⟨g1, 0, none⟩) n c1, .slice (some ⟨g2, 0, none⟩) m c2] w (OneRow w L ok) := by
  have HB := Lib.hid hB
  have HL := Lib.hid hLok
  clear hB hLok
  obtain ⟨i0, hi, hz0, hz1, hz2⟩ := info_parts infoC
  have A0 := acc_empty w
  have hn12 := ((listB_iff n a).1 hL).1
  have hm12 := ((listB_iff m b).1 hM).1
  have K := Lib.hid (l2List_any g1 n c1 a hn ha _ (h1.below A0.2.2))
  have K2 := Lib.hid (fun W (hW : Below w.heap.size w W) => l2List_any g2 m c2 b hm hb W (h2.below hW))
  rw [hL] at K
  rw [hM] at K2
  have R0 := Lib.hid A0
  have H1 := Lib.hid h1
  have H2 := Lib.hid h2
  have FA := Lib.hid (fun id W (hW : Below w.heap.size w W) => l2Find_any g1 n c1 a id hn W (h1.below hW))
  have FB := Lib.hid (fun id W (hW : Below w.heap.size w W) => l2Find_any g2 m c2 b id hm W (h2.below hW))
  have HS : Hid (∀ j, j < (mergeL a b n m).length → ((mergeL a b n m)[j]!).id.size ≤ 1048576) := Lib.hid (all_at (mergeL_all a b n m (fun x => x.id.size ≤ 1048576) ha hb))
  have hlen := mergeL_len a b n m
  clear h1 h2 ha hb hL hM A0
  go_enter Try.func21, Try.ntmps21
  go_wp2_with fail
  refine K.out.mono ?_
  rintro e w1 ⟨rfl, hb1⟩
  have R1 := Lib.hid (R0.out.below hb1)
  clear hb1
  go_wp2_with fail
  refine (K2.out _ R1.out.2.2).mono ?_
  rintro e w2 ⟨rfl, hb2⟩
  have R2 := Lib.hid (R1.out.below hb2)
  clear hb2
  go_wp2_with fail
  go_loopw [6, 7, 8] (fun o i _ wr => ∃ k : Nat, k ≤ n ∧ i = .int .i64 k ∧ Hid (Acc w wr o (repL a b m k))) (fun _ i _ _ => n - (intOf i).toNat)
  case atStart => exact ⟨0, Nat.zero_le _, rfl, R2⟩
  case round =>
    obtain ⟨k, hk, rfl, HR⟩ := hrel
    have hln := repL_len a b m k
    by_cases hlt : k < n
    · obtain ⟨a0, a1, a2, a3, a4⟩ := (H1.out.below HR.out.2.2).2 k hlt
      rw [Nat.zero_add] at *
      have HF := Lib.hid (FB.out (a k).id _ HR.out.2.2)
      have hrow := HR.out.1
      unfold CRow at hrow
      have hsz := HR.out.2.2.size
      by_cases hf : 0 ≤ findU b (a k).id m
      · obtain ⟨j, hj, hje, -⟩ := findU_pos hf
        have HP : Hid (repL a b m (k + 1) = repL a b m k ++ [b j]) := Lib.hid (by rw [repL, repC, if_pos hf, hje]; rfl)
        rw [hje] at HF
        clear hf hje
        obtain ⟨b0, b1, b2, b3, b4⟩ := (H2.out.below HR.out.2.2).2 j hj
        rw [Nat.zero_add] at *
        generalize repL a b m k = l at *
        generalize a k = x at *
        generalize b j = y at *
        obtain ⟨id, sz, wt, cg, pt⟩ := y
        simp only at *
        go_wp2_with (first | (go_at_call 35; refine HF.out.mono ?_; rintro e w' ⟨rfl, rfl⟩) | (at_builtin; refine wpList_append_own _ rfl _ _ 27 rfl w.heap.size 49 i0 zeroC 5 48 Try.underlying27 hi hz0 hz1 hz2 rfl (by decide) _ _ _ rfl (hrow.alloc _) ⟨wr.heap.size, 0, none⟩ 1 1 (encC ⟨id, sz, wt, cg, pt⟩) rfl rfl (cell_arr_new _ _ _) (enc_one _) (by unfold maxLen; omega) (by omega) (by simp; omega) ?_; intro v' w3 hown' hgrow hnil))
        have hA3 := acc_step (c := ⟨id, sz, wt, cg, pt⟩) (HR.out.below ((Below.refl _ wr).alloc (Nat.le_refl _) _)) hown' hgrow hnil
        refine ⟨⟨k + 1, by omega, by go_num, Lib.hid (by rw [HP.out]; exact hA3)⟩, by simp [intOf]; omega⟩
      · have HP : Hid (repL a b m (k + 1) = repL a b m k ++ [a k]) := Lib.hid (by rw [repL, repC, if_neg hf])
        have hq : findU b (a k).id m = -1 := by have := findU_bd b (a k).id m; omega
        rw [hq] at HF
        clear hf hq
        generalize repL a b m k = l at *
        generalize a k = y at *
        obtain ⟨id, sz, wt, cg, pt⟩ := y
        simp only at *
        go_wp2_with (first | (go_at_call 35; refine HF.out.mono ?_; rintro e w' ⟨rfl, rfl⟩) | (at_builtin; refine wpList_append_own _ rfl _ _ 27 rfl w.heap.size 49 i0 zeroC 5 48 Try.underlying27 hi hz0 hz1 hz2 rfl (by decide) _ _ _ rfl (hrow.alloc _) ⟨wr.heap.size, 0, none⟩ 1 1 (encC ⟨id, sz, wt, cg, pt⟩) rfl rfl (cell_arr_new _ _ _) (enc_one _) (by unfold maxLen; omega) (by omega) (by simp; omega) ?_; intro v' w3 hown' hgrow hnil))
        have hA3 := acc_step (c := ⟨id, sz, wt, cg, pt⟩) (HR.out.below ((Below.refl _ wr).alloc (Nat.le_refl _) _)) hown' hgrow hnil
        refine ⟨⟨k + 1, by omega, by go_num, Lib.hid (by rw [HP.out]; exact hA3)⟩, by simp [intOf]; omega⟩
    · obtain rfl : k = n := by omega
      go_wp2_with fail
      go_loopw [6, 9] (fun o i wq => ∃ q : Nat, q ≤ m ∧ i = .int .i64 q ∧ Hid (Acc w wq o (repL a b m k ++ newL a b k q))) (fun _ i _ => m - (intOf i).toNat)
      case atStart => exact ⟨0, Nat.zero_le _, rfl, by simpa [newL, filtL] using HR⟩
      case round =>
        obtain ⟨q, hq, rfl, HQ⟩ := hrel
        have hlq : (repL a b m k ++ newL a b k q).length ≤ k + q := by
          have := filtL_len b (fun id => decide (findU a id k < 0)) q
          unfold newL
          rw [List.length_append, repL_len]
          omega
        by_cases hltq : q < m
        · obtain ⟨a0, a1, a2, a3, a4⟩ := (H2.out.below HQ.out.2.2).2 q hltq
          rw [Nat.zero_add] at *
          have HF := Lib.hid (FA.out (b q).id _ HQ.out.2.2)
          have hrow := HQ.out.1
          unfold CRow at hrow
          have hsz := HQ.out.2.2.size
          by_cases hf : findU a (b q).id k < 0
          · have HP : Hid (repL a b m k ++ newL a b k (q + 1) = (repL a b m k ++ newL a b k q) ++ [b q]) := Lib.hid (by rw [newL, newL, filtL, if_pos (by simpa using hf), List.append_assoc])
            have hqq : findU a (b q).id k = -1 := by have := findU_bd a (b q).id k; omega
            rw [hqq] at HF
            clear hf hqq
            generalize repL a b m k ++ newL a b k q = l at *
            generalize b q = y at *
            obtain ⟨id, sz, wt, cg, pt⟩ := y
            simp only at *
            go_wp2_with (first | (go_at_call 35; refine HF.out.mono ?_; rintro e w' ⟨rfl, rfl⟩) | (at_builtin; refine wpList_append_own _ rfl _ _ 27 rfl w.heap.size 49 i0 zeroC 5 48 Try.underlying27 hi hz0 hz1 hz2 rfl (by decide) _ _ _ rfl (hrow.alloc _) ⟨wr.heap.size, 0, none⟩ 1 1 (encC ⟨id, sz, wt, cg, pt⟩) rfl rfl (cell_arr_new _ _ _) (enc_one _) (by unfold maxLen; omega) (by omega) (by simp; omega) ?_; intro v' w3 hown' hgrow hnil))
            have hA3 := acc_step (c := ⟨id, sz, wt, cg, pt⟩) (HQ.out.below ((Below.refl _ wr).alloc (Nat.le_refl _) _)) hown' hgrow hnil
            refine ⟨⟨q + 1, by omega, by go_num, Lib.hid (by rw [HP.out]; exact hA3)⟩, by simp [intOf]; omega⟩
          · have HP : Hid (repL a b m k ++ newL a b k (q + 1) = repL a b m k ++ newL a b k q) := Lib.hid (by rw [newL, newL, filtL, if_neg (by simpa using hf)])
            obtain ⟨j, hj, hje, -⟩ := findU_pos (show 0 ≤ findU a (b q).id k by omega)
            rw [hje] at HF
            clear hf hje
            generalize repL a b m k ++ newL a b k q = l at *
            generalize b q = y at *
            go_wp2_with (go_at_call 35; refine HF.out.mono ?_; rintro e w' ⟨rfl, rfl⟩)
            go_roundw
            case rel => exact ⟨q + 1, by omega, by go_num, by rw [HP.out]; exact HQ⟩
            case measure => simp [intOf]; omega
        · obtain rfl : q = m := by omega
          have HQ2 : Hid (Acc w wr _ (mergeL a b k q)) := HQ
          clear HQ hlq
          generalize hml : mergeL a b k q = ML at *
          have HB2 : Hid (listB ML.length (fun j => ML[j]!) = ok) := Lib.hid (by rw [← hml]; exact HB.out)
          clear HB hml
          obtain ⟨gv, cap, rfl, hcap, hat⟩ := acc_form HQ2.out
          have HC := Lib.hid (l2List_any gv ML.length cap (fun j => ML[j]!) (by omega) HS.out _ hat)
          rw [HB2.out] at HC
          clear hat HB2 HS
          cases ok with
          | true =>
            have HL2 : Hid (L = ML) := Lib.hid HL.out
            clear HL
            go_wp2_with fail
            refine HC.out.mono ?_
            rintro e w5 ⟨rfl, hb5⟩
            have HQ3 := Lib.hid (HQ2.out.below hb5)
            clear hb5
            go_wp2_with fail
            go_ret2
            exact ⟨_, rfl, by rw [HL2.out]; exact HQ3.out.1, HQ3.out.2.2⟩
          | false =>
            have HL2 : Hid (L = []) := Lib.hid HL.out
            clear HL
            go_wp2_with fail
            refine HC.out.mono ?_
            rintro e w5 ⟨rfl, hb5⟩
            have HQ3 := Lib.hid (HQ2.out.below hb5)
            clear hb5
            go_wp2_with fail
            go_ret2
            exact ⟨_, rfl, by rw [HL2.out]; exact (crow_empty w5 _ rfl).mono HQ3.out.2.2.size, HQ3.out.2.2.alloc HQ3.out.2.2.size _⟩
end Go.Proofs.Ytpmaaflpknjbmaa.C
