/-
  What spec.l7Findings, spec.YardFindings and spec.KeepsYardRules answer. No statement of the seat by itself.
-/
import Derived.Test.YtonploneihnekaaFndA
import Derived.Test.YtonploneihnekaaFndQ
namespace Go.Proofs.Ytonploneihnekaa
open Go.RowKit

theorem l7At_any (v : Value) (Y : List (List Int)) (g n : Nat) (f : Nat → C.Cont) (p : Int) (i k : Nat) (l : List Int) (h1 : Y.length ≤ 1048576) (hn : n ≤ 1048576) (hl : Y[i]? = some l) (hk : k < l.length) (hl4 : l.length ≤ 1048576) (hr : ∀ x ∈ l, 1 ≤ x ∧ x ≤ (n : Int)) (w : World) (h : YdR w v Y) (hc : C.CAt w g 0 n f) :
    Calls Try.prog 52 #[v, .slice (some ⟨g, 0, none⟩) n n, .int .i64 p, .int .i64 (i : Int), .int .i64 (k : Int)] w (AtP w (atF f p i l k)) := by
  cases k with
  | zero => exact l7At_zero v Y g n f p i l h1 hn hl hk hl4 hr w h hc
  | succ t => exact l7At_up v Y g n f p i t l h1 hn hl hk hl4 hr w h hc
/-- While all findings are collected: the yard's box, the list. -/
def FindS (w wr : World) (y : Value) (v : Value) (L : List Fnd) : Prop := GrowF w wr (w.heap.size + 1) v L ∧ wr.heap[w.heap.size]? = some (.cells #[y] 31 (0, 0))
theorem FindS.below {w wr w' : World} {y v : Value} {L : List Fnd} (h : FindS w wr y v L) (hb : Below wr.heap.size wr w') : FindS w w' y v L := ⟨h.1.below hb, blk_below h.2 hb⟩
theorem FindS.push {w wr w4 : World} {y v v' : Value} {L M : List Fnd} {m : Nat} {xs : List Value} (h : FindS w wr y v L) (ho : w4.ownsRow (w.heap.size + 1) 70 3 v' (L.length + m) (flatF L ++ xs)) (hg : wr.grownBy w4 v.ownBlock) (hnil : v' = .slice none 0 0 ↔ v = .slice none 0 0 ∧ m = 0) (hm : M.length = m) (hx : xs = flatF M) : FindS w w4 y v' (L ++ M) :=
  ⟨h.1.push ho hg hnil hm hx, blk_grown h.2 h.1.2.2.2.1 (by decide) hg⟩
theorem stF_nums {n : Nat} {f : Nat → C.Cont} {Y : List (List Int)} (h : stF n f Y = true) {i : Nat} {l : List Int} (hl : Y[i]? = some l) : ∀ x ∈ l, 1 ≤ x ∧ x ≤ (n : Int) := fun x hx => by
  obtain ⟨k, hk⟩ := List.getElem?_of_mem hx
  have := box_in h hl hk
  exact ⟨this.1, this.2.1⟩

set_option maxRecDepth 100000 in
set_option maxHeartbeats 4000000 in
theorem l7Find_any (v : Value) (Y : List (List Int)) (g n : Nat) (f : Nat → C.Cont) (p : Int) (hst : stF n f Y = true) (h1 : Y.length ≤ 1048576) (h2 : tot Y ≤ 1048576) (hn : n ≤ 1048576) (w : World) (h : YdR w v Y) (hc : C.CAt w g 0 n f) :
    Calls Try.prog 41 #[v, .slice (some ⟨g, 0, none⟩) n n, .int .i64 p] w (AtP w (finY f p Y)) := by
  obtain ⟨fI, hI1, hI2, hI3, hI4⟩ := info_is infoF
  obtain ⟨v0, rfl, hv⟩ := h
  have hv' := hv
  obtain ⟨a, cap, rfl, hcc⟩ := hv'
  have hgd := (stF_iff.1 hst).1
  have HZ : Hid (∀ (i k : Nat) l, Y[i]? = some l → k < l.length → ∀ W, Below w.heap.size w W → Calls Try.prog 52 #[.agg #[.slice a Y.length cap], .slice (some ⟨g, 0, none⟩) n n, .int .i64 p, .int .i64 (i : Int), .int .i64 (k : Int)] W (AtP W (atF f p i l k))) := Lib.hid fun i k l hl hk W hb =>
    l7At_any _ Y g n f p i k l h1 hn hl hk (by have := row_len hl; omega) (stF_nums hst hl) W ⟨_, rfl, hv.below hb⟩ (hc.below hb)
  have HL6 := Lib.hid (goodY_iff.1 hgd).2.1
  have HRow4 := Lib.hid (fun (i : Nat) l (hl : Y[i]? = some l) => row_four hgd hl)
  have HYl := Lib.hid (fun i hi => yF_len f p Y hgd i hi)
  have S0 : Hid (FindS w ((w.alloc (.cells #[.slice a Y.length cap] 31)).alloc (.cells #[] 70)) (.slice a Y.length cap) (.slice (some ⟨w.heap.size + 1, 0, none⟩) 0 0) []) := Lib.hid ⟨GrowF.start _, blk_alloc (heap_alloc_new w _) _⟩
  have HC := Lib.hid hcc
  have HF : Hid (finY f p Y = yF f p Y Y.length) := Lib.hid rfl
  clear hv hc hcc hst hgd h2
  generalize hm : Y.length = m at *
  have HM := Lib.hid hm
  clear hm
  have hm6 : m ≤ 6 := HL6.out
  generalize finY f p Y = R at *
  go_enter Try.func41, Try.ntmps41
  go_wp2_with fail
  generalize (w.alloc (.cells #[.slice a m cap] 31)).alloc (.cells #[] 70) = w0 at *
  go_loopw [7, 8] (fun u i wr => ∃ k : Nat, k ≤ m ∧ i = .int .i64 k ∧ Hid (FindS w wr (.slice a m cap) u (yF f p Y k))) (fun _ i _ => m - (intOf i).toNat)
  case atStart => exact ⟨0, Nat.zero_le _, rfl, S0⟩
  case round =>
    obtain ⟨i, hi, rfl, HS⟩ := hrel
    rename World => wo
    have c0 := cell_of (i := 0) HS.out.2 rfl
    by_cases hlt : i < m
    · obtain ⟨l, hl⟩ := get_at HM.out hlt
      obtain ⟨g1, o1, rfl, hg1, hc1⟩ := HC.out (by have := HM.out; omega)
      obtain ⟨u, hu', hil⟩ := hc1 i l hl
      have hu := (HS.out.1.1.cell (p := ⟨g1, o1 + i, none⟩) hg1).trans hu'
      have h4 := HRow4.out i l hl
      obtain ⟨a2, c2, rfl, hrow⟩ := hil
      have HU := Lib.hid hu'
      have HLl := Lib.hid hl
      obtain ⟨r, hr⟩ : ∃ r, l.length = r := ⟨_, rfl⟩
      have HRl := Lib.hid hr
      have HZ2 : Hid (∀ (k : Nat), k < r → ∀ W, Below w.heap.size w W → Calls Try.prog 52 #[.agg #[.slice (some ⟨g1, o1, none⟩) m cap], .slice (some ⟨g, 0, none⟩) n n, .int .i64 p, .int .i64 (i : Int), .int .i64 (k : Int)] W (AtP W (atF f p i l k))) := Lib.hid fun k hk => HZ.out i k l hl (by omega)
      rw [hr] at hu HU h4
      clear hc1 hl hrow hr hu'
      have HYi := Lib.hid (HYl.out i (by omega))
      have hiI : (i : Int) < (m : Int) := by omega
      have T0 : Hid (FindS w wo (.slice (some ⟨g1, o1, none⟩) m cap) u7 (yF f p Y i ++ rowF f p i l 0)) := Lib.hid (by rw [rowF, List.append_nil]; exact HS.out)
      go_wp2_with fail
      go_loopw [7, 9] (fun u kk wr => ∃ k : Nat, k ≤ r ∧ kk = .int .i64 k ∧ Hid (FindS w wr (.slice (some ⟨g1, o1, none⟩) m cap) u (yF f p Y i ++ rowF f p i l k))) (fun _ kk _ => r - (intOf kk).toNat)
      case atStart => exact ⟨0, Nat.zero_le _, rfl, T0⟩
      case round =>
        clear hu c0
        obtain ⟨k, hk, rfl, HS2⟩ := hrel
        have c0 := cell_of (i := 0) HS2.out.2 rfl
        have hu := (HS2.out.1.1.cell (p := ⟨g1, o1 + i, none⟩) hg1).trans HU.out
        by_cases hkr : k < r
        · have hkI : (k : Int) < (r : Int) := by omega
          have hlen : (yF f p Y i ++ rowF f p i l k).length ≤ 200 := by
            have h1 := HYi.out
            have h2 := rowF_len f p i l k
            rw [List.length_append]; omega
          have hE : Hid (yF f p Y i ++ rowF f p i l (k + 1) = (yF f p Y i ++ rowF f p i l k) ++ atF f p i l k) := Lib.hid (by rw [rowF, List.append_assoc])
          have hl4 := atF_len f p i l k
          have HZ3 := Lib.hid (HZ2.out k hkr)
          generalize yF f p Y i ++ rowF f p i l k = L0 at *
          generalize atF f p i l k = A0 at *
          obtain ⟨go, co, rfl⟩ := HS2.out.1.form
          go_wp2_with fail
          refine (HZ3.out _ HS2.out.1.1).mono ?_
          rintro e w5 ⟨g3, c3, rfl, hfl, -, hb⟩
          have HS5 := Lib.hid (HS2.out.below hb)
          have hrow := HS5.out.1.2.2.2.1
          have hsz := HS5.out.1.2.2.1
          have HSrc : Hid (∀ j s, A0[j]? = some s → FCells w5 g3 (0 + j * 3) s) := Lib.hid (by
            intro j s hs
            obtain ⟨a9, c9, e9, h9⟩ := hfl
            obtain ⟨g8, o8, e8, -, h8⟩ := h9 (by have := lt_of_get hs; omega)
            injection e9 with e1 e2 e3
            rw [e8] at e1
            cases e1
            exact h8 j s hs)
          clear hb hfl hu c0
          go_wp2_with (at_builtin; refine wpList_append_own _ rfl _ _ 28 rfl (w.heap.size + 1) 70 fI (.agg #[.int .i64 0, .int .i64 0, .int .i64 0]) 3 24 Try.underlying28 hI1 hI2 hI3 hI4 rfl (by decide) _ _ _ rfl hrow ⟨g3, 0, none⟩ A0.length c3 (flatF A0) rfl (flatF_len _) (flatF_src HSrc.out) (flatF_one _) (by unfold maxLen; omega) (by omega) (by omega) ?_; intro v' w4 hown' hgrow hnil)
          have HN : Hid (FindS w w4 (.slice (some ⟨g1, o1, none⟩) m cap) v' (yF f p Y i ++ rowF f p i l (k + 1))) := Lib.hid (by rw [hE.out]; exact HS5.out.push hown' hgrow hnil rfl rfl)
          clear hown' hgrow hnil hrow hsz
          exact ⟨⟨k + 1, by omega, by go_num, HN⟩, by simp [intOf]; omega⟩
        · obtain rfl : k = r := by omega
          have HN : Hid (FindS w wr (.slice (some ⟨g1, o1, none⟩) m cap) _ (yF f p Y (i + 1))) := Lib.hid (by
            rw [yF, getD_of HLl.out, HRl.out]; exact HS2.out)
          go_wp2_with fail
          exact ⟨⟨i + 1, by omega, by go_num, HN⟩, by simp [intOf]; omega⟩
    · obtain rfl : i = m := by omega
      have HN := Lib.hid (HS.out.1.done)
      rw [← HF.out] at HN
      go_wp2_with fail
      go_ret
      exact HN.out
end Go.Proofs.Ytonploneihnekaa
