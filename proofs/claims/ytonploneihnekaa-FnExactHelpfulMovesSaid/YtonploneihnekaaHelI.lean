/-
  What impl.HelpfulMoves answers. No statement of the seat by itself.
-/
import Derived.Test.YtonploneihnekaaFinP
import Derived.Test.YtonploneihnekaaFndK
import Derived.Test.YtonploneihnekaaMoveO
import Derived.Test.YtonploneihnekaaFndG
import Derived.Test.YtonploneihnekaaFndI
import Derived.Test.YtonploneihnekaaMoveI
namespace Go.Proofs.Ytonploneihnekaa
open Go.RowKit

/-- Whether moving the top of stack a onto stack b helps. -/
def okH (f : Nat → C.Cont) (p : Int) (Y : List (List Int)) (a b : Nat) : Bool := okM Y (a : Int) (b : Int) && decide ((finY f p (moveZ Y a b)).length < (finY f p Y).length)
/-- The helpful moves of stack a onto the first stacks. -/
def helB (f : Nat → C.Cont) (p : Int) (Y : List (List Int)) (a : Nat) : Nat → List (List Int)
  | 0 => []
  | b + 1 => helB f p Y a b ++ (if okH f p Y a b = true then [[(a : Int), (b : Int)]] else [])
/-- The helpful moves of the first stacks. -/
def helA (f : Nat → C.Cont) (p : Int) (Y : List (List Int)) : Nat → List (List Int)
  | 0 => []
  | a + 1 => helA f p Y a ++ helB f p Y a Y.length
theorem helB_len (f : Nat → C.Cont) (p : Int) (Y : List (List Int)) (a : Nat) : ∀ b, (helB f p Y a b).length ≤ b
  | 0 => by simp [helB]
  | b + 1 => by
    have := helB_len f p Y a b
    rw [helB, List.length_append]
    split <;> simp <;> omega
theorem helA_len (f : Nat → C.Cont) (p : Int) (Y : List (List Int)) (h6 : Y.length ≤ 6) : ∀ a, (helA f p Y a).length ≤ 6 * a
  | 0 => by simp [helA]
  | a + 1 => by
    have := helA_len f p Y h6 a
    have := helB_len f p Y a Y.length
    rw [helA, List.length_append]; omega
theorem helB_two (f : Nat → C.Cont) (p : Int) (Y : List (List Int)) (a : Nat) : ∀ b, ∀ l ∈ helB f p Y a b, l.length = 2
  | 0, l, h => by simp [helB] at h
  | b + 1, l, h => by
    rw [helB] at h
    rcases List.mem_append.1 h with h | h
    · exact helB_two f p Y a b l h
    · split at h
      · rw [List.mem_singleton.1 h]; rfl
      · simp at h
theorem helA_two (f : Nat → C.Cont) (p : Int) (Y : List (List Int)) : ∀ a, ∀ l ∈ helA f p Y a, l.length = 2
  | 0, l, h => by simp [helA] at h
  | a + 1, l, h => by
    rw [helA] at h
    rcases List.mem_append.1 h with h | h
    · exact helA_two f p Y a l h
    · exact helB_two f p Y a _ l h
theorem tot_two : ∀ (R : List (List Int)), (∀ l ∈ R, l.length = 2) → tot R = 2 * R.length
  | [], _ => rfl
  | l :: R, h => by
    have := tot_two R fun x hx => h x (List.mem_cons_of_mem _ hx)
    have h2 := h l List.mem_cons_self
    simp only [tot, List.map_cons, List.sum_cons, List.length_cons] at *
    omega
theorem helB_yes {f : Nat → C.Cont} {p : Int} {Y : List (List Int)} {a b : Nat} (h : okH f p Y a b = true) : helB f p Y a (b + 1) = helB f p Y a b ++ [[(a : Int), (b : Int)]] := by rw [helB, if_pos h]
theorem helB_no {f : Nat → C.Cont} {p : Int} {Y : List (List Int)} {a b : Nat} (h : okH f p Y a b = false) : helB f p Y a (b + 1) = helB f p Y a b := by rw [helB, if_neg (by simp [h]), List.append_nil]
/-- What HelpfulMoves answers. -/
def helR (n : Nat) (f : Nat → C.Cont) (Y : List (List Int)) (p : Int) : List (List Int) := if askF n f Y p = true then helA f p Y Y.length else []
theorem helR_yes {n : Nat} {f : Nat → C.Cont} {Y : List (List Int)} {p : Int} (h : askF n f Y p = true) : helR n f Y p = helA f p Y Y.length := by rw [helR, if_pos h]
theorem helR_no {n : Nat} {f : Nat → C.Cont} {Y : List (List Int)} {p : Int} (h : askF n f Y p = false) : helR n f Y p = [] := by rw [helR, if_neg (by simp [h])]
theorem helR_len (n : Nat) (f : Nat → C.Cont) (Y : List (List Int)) (p : Int) : (helR n f Y p).length ≤ 36 := by
  cases h : askF n f Y p with
  | false => rw [helR_no h]; exact Nat.zero_le _
  | true =>
    have h6 := (goodY_iff.1 (stF_iff.1 (askF_iff.1 h).1).1).2.1
    have := helA_len f p Y h6 Y.length
    rw [helR_yes h]; omega
theorem helR_tot (n : Nat) (f : Nat → C.Cont) (Y : List (List Int)) (p : Int) : tot (helR n f Y p) ≤ 1048576 := by
  have h1 := helR_len n f Y p
  have h2 : ∀ l ∈ helR n f Y p, l.length = 2 := by
    cases h : askF n f Y p with
    | false => rw [helR_no h]; intro l hl; cases hl
    | true => rw [helR_yes h]; exact helA_two f p Y _
  rw [tot_two _ h2]; omega
theorem okM_rows {n : Nat} {f : Nat → C.Cont} {Y : List (List Int)} {p : Int} (h : askF n f Y p = true) {a b : Nat} {la lb : List Int} (ha : Y[a]? = some la) (hb : Y[b]? = some lb) : okM Y (a : Int) (b : Int) = (decide (a ≠ b) && (decide (la.length ≠ 0) && decide (lb.length ≠ 4))) := by
  have hg := (stF_iff.1 (askF_iff.1 h).1).1
  have h1 : okS Y (a : Int) = true := okS_iff.2 ⟨hg, by omega, by have := lt_of_get ha; omega⟩
  have h2 : okS Y (b : Int) = true := okS_iff.2 ⟨hg, by omega, by have := lt_of_get hb; omega⟩
  have e : decide ((a : Int) ≠ (b : Int)) = decide (a ≠ b) := decide_eq_decide.2 (by omega)
  unfold okM
  rw [h1, h2, e, Int.toNat_natCast, Int.toNat_natCast, getD_of ha, getD_of hb, Bool.true_and, Bool.true_and, Bool.and_assoc]
theorem move_ask {n : Nat} {f : Nat → C.Cont} {Y : List (List Int)} {p : Int} (h : askF n f Y p = true) {a b : Nat} (hm : okM Y (a : Int) (b : Int) = true) : askF n f (moveZ Y a b) p = true := by
  obtain ⟨h1, h2⟩ := askF_iff.1 h
  obtain ⟨k1, k2, k3⟩ := stF_iff.1 h1
  exact askF_iff.2 ⟨stF_iff.2 ⟨moveZ_good hm, k2, fit_move k3 hm⟩, h2⟩
theorem moveR_nat {Y : List (List Int)} {a b : Nat} (hm : okM Y (a : Int) (b : Int) = true) : moveR Y (a : Int) (b : Int) = moveZ Y a b := by rw [moveR, if_pos hm]; rfl
theorem moveZ_is {Y : List (List Int)} {a b m : Nat} {la : List Int} {x : Int} (ha : Y[a]? = some la) (hm : la.length = m + 1) (hx : la[m]? = some x) : moveZ Y a b = putY (Y.set a (la.take m)) b x := by
  have e1 : topL la = x := by unfold topL; rw [if_neg (by omega), hm, Nat.add_sub_cancel, List.getD, hx]; rfl
  unfold moveZ
  rw [getD_of ha, e1, hm, Nat.add_sub_cancel]

/-- While helpful moves are collected: the yard's box, the list. -/
def HelS (w wr : World) (y v : Value) (L : List (List Int)) : Prop := Below w.heap.size w wr ∧ wr.heap[w.heap.size]? = some (.cells #[y] 31 (0, 0)) ∧ OwnY wr (w.heap.size + 1) wr.heap.size v L ∧ w.heap.size + 1 ≤ wr.heap.size
theorem HelS.below {w wr w' : World} {y v : Value} {L : List (List Int)} (h : HelS w wr y v L) (hb : Below wr.heap.size wr w') : HelS w w' y v L :=
  ⟨h.1.trans (hb.mono h.1.size), blk_below h.2.1 hb, (h.2.2.1.below hb).mono (Nat.le_refl _) hb.size (Nat.le_refl _), Nat.le_trans h.2.2.2 hb.size⟩
theorem HelS.start (w : World) (y : Value) : HelS w ((w.alloc (.cells #[y] 31)).alloc (.cells #[] 44)) y (.slice (some ⟨w.heap.size + 1, 0, none⟩) 0 0) [] := by
  refine ⟨(below_one w _).trans ((below_one _ _).mono (by simp)), blk_alloc (heap_alloc_new w _) _, ⟨Nat.le_refl _, fun b hb => ?_, [], ?_, rfl, fun j u l hu => by simp at hu, fun i j u u' b hu => by simp at hu⟩, by simp⟩
  · cases hb; simp
  · have := own_empty (w.alloc (.cells #[y] 31)) (.cells #[] 44) 44 rfl
    simpa using this
theorem HelS.push {w wr w4 : World} {y v v' : Value} {L : List (List Int)} {us : List Value} {a b : Int} (h : HelS w wr y v L) (hus : wr.ownsRow (w.heap.size + 1) 44 1 v L.length us) (hr : Rows2 wr (w.heap.size + 1) wr.heap.size us L)
    (hg : ((wr.alloc (.cells #[.int .i64 a, .int .i64 b] 3)).alloc (.cells #[.slice (some ⟨wr.heap.size, 0, none⟩) 2 2] 44)).grownBy w4 v.ownBlock) (ho' : w4.ownsRow (w.heap.size + 1) 44 1 v' (L.length + 1) (us ++ [.slice (some ⟨wr.heap.size, 0, none⟩) 2 2])) :
    HelS w w4 y v' (L ++ [[a, b]]) := by
  obtain ⟨h1, h2, h3, h4⟩ := h
  have hb1 := below_one wr (.cells #[.int .i64 a, .int .i64 b] 3)
  have hb2 := below_one (wr.alloc (.cells #[.int .i64 a, .int .i64 b] 3)) (.cells #[.slice (some ⟨wr.heap.size, 0, none⟩) 2 2] 44)
  have hbW := hb1.trans (hb2.mono hb1.size)
  have ho : (wr.alloc (.cells #[.int .i64 a, .int .i64 b] 3)).ownsRow wr.heap.size 3 1 (.slice (some ⟨wr.heap.size, 0, none⟩) 2 2) 2 (intV [a, b]) := World.ownsRow_lit (base := wr.heap.size) (e := 3) (size := 1) wr #[.int .i64 a, .int .i64 b] 2 (Nat.le_refl _) (by decide) rfl
  have hP := OwnY.push (h3.below hbW) ⟨row_below hus hbW, hr.below hbW⟩ (l := [a, b]) (row_below (own_base ho fun j hj => by have := row_base ho j hj; omega) hb2) (fun b hb => row_base ho b hb) hg ho'
  refine ⟨(h1.trans (hbW.mono h1.size)).grown hg (by have := h1.size; have := hbW.size; omega) (fun j e => by have := row_base hus j e; omega), ?_, hP, by have := hg.size; have := hbW.size; omega⟩
  exact (hg.block _ (by have := hbW.size; omega) (fun e => by have := row_base hus _ e.symm; omega)).trans (blk_below h2 hbW)
theorem HelS.ret {w wr : World} {y v : Value} {L : List (List Int)} (ok : Bool) (h : HelS w wr y v L) : RetYY w L ok (.returned (.tuple #[v, .bool ok])) wr := by
  obtain ⟨a, c, rfl⟩ := h.2.2.1.form
  exact ⟨a, c, rfl, h.2.2.1.mono (by omega) (Nat.le_refl _) (Nat.le_refl _), h.1⟩

/-- A list of findings so long was answered. -/
def LenP (w : World) (t : Nat) (e : Ending) (w' : World) : Prop := ∃ a c, e = .returned (.slice a t c) ∧ Below w.heap.size w w'

set_option maxRecDepth 100000 in
set_option maxHeartbeats 8000000 in
theorem specHel_any (v : Value) (Y : List (List Int)) (g n : Nat) (f : Nat → C.Cont) (p : Int) (h1 : Y.length ≤ 1048576) (h2 : tot Y ≤ 1048576) (hn : n ≤ 1048576) (hid : ∀ j, j < n → (f j).id.size ≤ 1048576) (w : World) (h : YdR w v Y) (hc : C.CAt w g 0 n f) :
    Calls Try.prog 33 #[v, .slice (some ⟨g, 0, none⟩) n n, .int .i64 p] w (RetYY w (helR n f Y p) (askF n f Y p)) := by
  obtain ⟨f38, hi38, hz0, hz1, hz2⟩ := info_is info38
  obtain ⟨v0, rfl, hv⟩ := h
  have hv' := hv
  obtain ⟨a, cap, rfl, hcc⟩ := hv'
  have HA : Hid (∀ W, Below w.heap.size w W → Calls Try.prog 40 #[.agg #[.slice a Y.length cap], .slice (some ⟨g, 0, none⟩) n n, .int .i64 p] W (BoolP W (askF n f Y p))) := Lib.hid fun W hb => l7Asked_any _ Y g n f p h1 h2 hn hid W ⟨_, rfl, hv.below hb⟩ (hc.below hb)
  have HF : Hid (askF n f Y p = true → ∀ W, Below w.heap.size w W → Calls Try.prog 41 #[.agg #[.slice a Y.length cap], .slice (some ⟨g, 0, none⟩) n n, .int .i64 p] W (LenP W (finY f p Y).length)) := Lib.hid fun ha W hb => (l7Find_any _ Y g n f p (askF_iff.1 ha).1 h1 h2 hn W ⟨_, rfl, hv.below hb⟩ (hc.below hb)).mono fun e w' ⟨g9, c9, he, _, _, hb9⟩ => ⟨_, c9, he, hb9⟩
  have HMv : Hid (askF n f Y p = true → ∀ (i j : Nat), okM Y (i : Int) (j : Int) = true → ∀ W, Below w.heap.size w W → Calls Try.prog 58 #[.agg #[.slice a Y.length cap], .int .i64 (i : Int), .int .i64 (j : Int)] W (NewYd W (moveZ Y i j))) := Lib.hid fun ha i j hm W hb => by
    obtain ⟨k1, k2, k3, k4, k5⟩ := okM_iff.1 hm
    obtain ⟨hg, -, hi⟩ := okS_iff.1 k1
    obtain ⟨-, -, hj⟩ := okS_iff.1 k2
    obtain ⟨la, hla⟩ := get_at (Y := Y) rfl (show i < Y.length by omega)
    obtain ⟨lb, hlb⟩ := get_at (Y := Y) rfl (show j < Y.length by omega)
    rw [Int.toNat_natCast, getD_of hla] at k4
    rw [Int.toNat_natCast, getD_of hlb] at k5
    obtain ⟨m, hm1⟩ : ∃ m, la.length = m + 1 := ⟨la.length - 1, by omega⟩
    obtain ⟨x, hx⟩ := get_at (Y := la) (k := m) rfl (by omega)
    have r4 := row_four hg hla
    have s4 := row_four hg hlb
    rw [moveZ_is hla hm1 hx]
    exact l5Move_any _ Y i j m lb.length la lb x h1 h2 (goodY_iff.1 hg).2.1 hla hm1 (by omega) hx (fun e => k3 (by rw [e])) hlb rfl s4 W ⟨_, rfl, hv.below hb⟩
  have HFn : Hid (askF n f Y p = true → ∀ (i j : Nat), okM Y (i : Int) (j : Int) = true → ∀ W u, YdR W u (moveZ Y i j) → Below w.heap.size w W → Calls Try.prog 41 #[u, .slice (some ⟨g, 0, none⟩) n n, .int .i64 p] W (LenP W (finY f p (moveZ Y i j)).length)) := Lib.hid fun ha i j hm W u hu hb => by
    have hst := (askF_iff.1 (move_ask ha hm)).1
    have hsm := good_small (stF_iff.1 hst).1
    exact (l7Find_any u (moveZ Y i j) g n f p hst (by omega) (by omega) hn W hu (hc.below hb)).mono fun e w' ⟨g9, c9, he, _, _, hb9⟩ => ⟨_, c9, he, hb9⟩
  have HOk : Hid (askF n f Y p = true → ∀ (i j : Nat) la lb, Y[i]? = some la → Y[j]? = some lb → okM Y (i : Int) (j : Int) = (decide (i ≠ j) && (decide (la.length ≠ 0) && decide (lb.length ≠ 4)))) := Lib.hid fun ha i j la lb k1 k2 => okM_rows ha k1 k2
  have HOH : Hid (∀ (i j : Nat), okH f p Y i j = (okM Y (i : Int) (j : Int) && decide ((finY f p (moveZ Y i j)).length < (finY f p Y).length))) := Lib.hid fun i j => rfl
  have HNow : Hid (askF n f Y p = true → (finY f p Y).length ≤ 96) := Lib.hid fun ha => finY_len f p Y (stF_iff.1 (askF_iff.1 ha).1).1
  have HNw2 : Hid (askF n f Y p = true → ∀ (i j : Nat), okM Y (i : Int) (j : Int) = true → (finY f p (moveZ Y i j)).length ≤ 96) := Lib.hid fun ha i j hm => finY_len f p _ (moveZ_good hm)
  have HR1 : Hid (askF n f Y p = true → helR n f Y p = helA f p Y Y.length) := Lib.hid helR_yes
  have HR0 : Hid (askF n f Y p = false → helR n f Y p = []) := Lib.hid helR_no
  have HL6 := Lib.hid (fun (ha : askF n f Y p = true) => (goodY_iff.1 (stF_iff.1 (askF_iff.1 ha).1).1).2.1)
  have HRw4 := Lib.hid (fun (ha : askF n f Y p = true) (i : Nat) l (hl : Y[i]? = some l) => row_four (stF_iff.1 (askF_iff.1 ha).1).1 hl)
  have HAl := Lib.hid (fun (h6 : Y.length ≤ 6) (i : Nat) => helA_len f p Y h6 i)
  have HC := Lib.hid hcc
  have S0 := Lib.hid (HelS.start w (.slice a Y.length cap))
  have c0 := cell_of (i := 0) S0.out.2.1 rfl
  clear hv hc hid hcc h2
  have HLen : Hid (∀ i, helA f p Y (i + 1) = helA f p Y i ++ helB f p Y i Y.length) := Lib.hid fun i => rfl
  generalize hm : Y.length = m at *
  have HM := Lib.hid hm
  clear hm
  generalize helR n f Y p = R at *
  generalize (finY f p Y).length = nw at *
  obtain ⟨q, hq⟩ : ∃ q, askF n f Y p = q := ⟨_, rfl⟩
  rw [hq] at HA HF HMv HFn HOk HNow HNw2 HR1 HR0 HL6 HRw4 ⊢
  clear hq
  go_enter Try.func33, Try.ntmps33
  go_wp2_with fail
  generalize (w.alloc (.cells #[.slice a m cap] 31)).alloc (.cells #[] 44) = w0 at *
  refine (HA.out _ S0.out.1).mono ?_
  rintro e w1 ⟨rfl, hb⟩
  have S1 := Lib.hid (S0.out.below hb)
  clear hb c0
  have c0 := cell_of (i := 0) S1.out.2.1 rfl
  cases q with
  | false =>
    have HB := Lib.hid (S1.out.ret false)
    rw [← HR0.out rfl] at HB
    go_wp2_with fail
    go_ret2
    exact HB.out
  | true =>
  have HE := Lib.hid (HR1.out rfl)
  have HF2 := Lib.hid (HF.out rfl)
  have HMv2 := Lib.hid (HMv.out rfl)
  have HFn2 := Lib.hid (HFn.out rfl)
  have HOk2 := Lib.hid (HOk.out rfl)
  have hnw := HNow.out rfl
  have HNw3 := Lib.hid (HNw2.out rfl)
  have hm6 := HL6.out rfl
  have HR4 := Lib.hid (HRw4.out rfl)
  have HAl2 := Lib.hid (HAl.out hm6)
  clear HR1 HR0 HF HMv HFn HOk HNow HNw2 HL6 HRw4 HAl HA
  go_wp2_with fail
  refine (HF2.out _ S1.out.1).mono ?_
  rintro e w2 ⟨a2, c2, rfl, hb⟩
  have S2 := Lib.hid (S1.out.below hb)
  clear hb c0
  go_wp2_with fail
  go_loopw [8, 10] (fun u i wr => ∃ k : Nat, k ≤ m ∧ i = .int .i64 k ∧ Hid (HelS w wr (.slice a m cap) u (helA f p Y k))) (fun _ i _ => m - (intOf i).toNat)
  case atStart => exact ⟨0, Nat.zero_le _, rfl, S2⟩
  case round =>
    obtain ⟨i, hi, rfl, HS⟩ := hrel
    rename World => wo
    have c0 := cell_of (i := 0) HS.out.2.1 rfl
    by_cases hlt : i < m
    · obtain ⟨la, hla⟩ := get_at HM.out hlt
      obtain ⟨g1, o1, rfl, hg1, hc1⟩ := HC.out (by have := HM.out; omega)
      obtain ⟨ua, hua, ala, cla, rfl, -⟩ := hc1 i la hla
      have ra4 := HR4.out i la hla
      have HUa := Lib.hid (fun W (hb : Below w.heap.size w W) => (hb.cell (p := ⟨g1, o1 + i, none⟩) hg1).trans hua)
      have HC1 := Lib.hid hc1
      have HLa := Lib.hid hla
      have hal := HAl2.out i
      have hiI : (i : Int) < (m : Int) := by omega
      have T0 : Hid (HelS w wo (.slice (some ⟨g1, o1, none⟩) m cap) u8 (helA f p Y i ++ helB f p Y i 0)) := Lib.hid (by rw [helB, List.append_nil]; exact HS.out)
      clear hc1 hua hla
      go_wp2_with fail
      go_loopw [8, 11] (fun u j wr => ∃ k : Nat, k ≤ m ∧ j = .int .i64 k ∧ Hid (HelS w wr (.slice (some ⟨g1, o1, none⟩) m cap) u (helA f p Y i ++ helB f p Y i k))) (fun _ j _ => m - (intOf j).toNat)
      case atStart => exact ⟨0, Nat.zero_le _, rfl, T0⟩
      case round =>
        clear c0
        obtain ⟨j, hj, rfl, HS2⟩ := hrel
        have c0 := cell_of (i := 0) HS2.out.2.1 rfl
        by_cases hjt : j < m
        · obtain ⟨lb, hlb⟩ := get_at HM.out hjt
          obtain ⟨ub, hub, alb, clb, rfl, -⟩ := HC1.out j lb hlb
          have rb4 := HR4.out j lb hlb
          have hb1 := (HS2.out.1.cell (p := ⟨g1, o1 + j, none⟩) hg1).trans hub
          have ha1 := HUa.out _ HS2.out.1
          have hjI : (j : Int) < (m : Int) := by omega
          have HOm := Lib.hid (HOk2.out i j la lb HLa.out hlb)
          have HOh := Lib.hid (HOH.out i j)
          have HMij := Lib.hid (HMv2.out i j)
          have HFij := Lib.hid (HFn2.out i j)
          have HNij := Lib.hid (HNw3.out i j)
          have hbl := helB_len f p Y i j
          have HBy : Hid (okH f p Y i j = true → helA f p Y i ++ helB f p Y i (j + 1) = (helA f p Y i ++ helB f p Y i j) ++ [[(i : Int), (j : Int)]]) := Lib.hid fun h => by rw [helB_yes h, List.append_assoc]
          have HBn : Hid (okH f p Y i j = false → helA f p Y i ++ helB f p Y i (j + 1) = helA f p Y i ++ helB f p Y i j) := Lib.hid fun h => by rw [helB_no h]
          have hlen : (helA f p Y i ++ helB f p Y i j).length ≤ 100 := by rw [List.length_append]; omega
          generalize helA f p Y i ++ helB f p Y i j = L0 at *
          generalize okH f p Y i j = oh at *
          generalize okM Y (i : Int) (j : Int) = om at *
          generalize hra : la.length = ra at *
          generalize hrb : lb.length = rb at *
          clear hub hlb hbl hra hrb
          have hskip : Hid (om = false → HelS w wr (.slice (some ⟨g1, o1, none⟩) m cap) u8 (helA f p Y i ++ helB f p Y i (j + 1))) := Lib.hid fun h => by rw [HBn.out (by rw [HOh.out, h]; rfl)]; exact HS2.out
          by_cases hij : i = j
          · have HN := Lib.hid (hskip.out (by rw [HOm.out]; simp [hij]))
            have hd1 : ((i : Int) == (j : Int)) = true := by simp [hij]
            clear hij hskip
            go_wp2_with fail
            exact ⟨⟨j + 1, by omega, by go_num, HN⟩, by simp [intOf]; omega⟩
          · have hd1 : ((i : Int) == (j : Int)) = false := by simp; omega
            by_cases hra0 : ra = 0
            · have HN := Lib.hid (hskip.out (by rw [HOm.out]; simp [hra0]))
              subst hra0
              clear hij hskip
              go_wp2_with fail
              exact ⟨⟨j + 1, by omega, by go_num, HN⟩, by simp [intOf]; omega⟩
            · have hd2 : ((ra : Int) == 0) = false := by simp [hra0]
              by_cases hrb4 : rb = 4
              · have HN := Lib.hid (hskip.out (by rw [HOm.out]; simp [hrb4]))
                subst hrb4
                clear hij hra0 hskip
                go_wp2_with fail
                exact ⟨⟨j + 1, by omega, by go_num, HN⟩, by simp [intOf]; omega⟩
              · have hd3 : ((rb : Int) == 4) = false := by simp; omega
                have hom : om = true := by rw [HOm.out]; simp [hij, hra0, hrb4]
                have HM3 := Lib.hid (HMij.out hom)
                have HF3 := Lib.hid (HFij.out hom)
                have ht := HNij.out hom
                have hohe : Hid (oh = decide ((finY f p (moveZ Y i j)).length < nw)) := Lib.hid (by rw [HOh.out, hom, Bool.true_and])
                clear hij hra0 hrb4 hskip hom
                go_wp2_with fail
                refine (HM3.out _ HS2.out.1).mono ?_
                rintro e w5 ⟨a5, c5, rfl, hoy, hb⟩
                have S5 := Lib.hid (HS2.out.below hb)
                have HC5 := Lib.hid (HF3.out w5 (.agg #[.slice a5 (moveZ Y i j).length c5]) ⟨_, rfl, hoy.yl⟩ S5.out.1)
                clear hb hoy c0 ha1 hb1
                generalize (finY f p (moveZ Y i j)).length = t at *
                generalize (moveZ Y i j).length = mz at *
                go_wp2_with fail
                refine HC5.out.mono ?_
                rintro e w6 ⟨a6, c6, rfl, hb⟩
                have S6 := Lib.hid (S5.out.below hb)
                clear hb
                by_cases htn : t < nw
                · have hoh : oh = true := by rw [hohe.out]; simp [htn]
                  have htI : (t : Int) < (nw : Int) := by omega
                  obtain ⟨us, hus, hr2⟩ := S6.out.2.2.1.2.2
                  have hsz := S6.out.2.2.2
                  have HUS := Lib.hid ((hus.alloc (.cells #[.int .i64 (i : Int), .int .i64 (j : Int)] 3)).alloc (.cells #[.slice (some ⟨w6.heap.size, 0, none⟩) 2 2] 44))
                  have hNW := cell_val_new (w6.alloc (.cells #[.int .i64 (i : Int), .int .i64 (j : Int)] 3)) (.slice (some ⟨w6.heap.size, 0, none⟩) 2 2) 44
                  rw [show (w6.alloc (.cells #[.int .i64 (i : Int), .int .i64 (j : Int)] 3)).heap.size = w6.heap.size + 1 by simp] at hNW
                  have HNW := Lib.hid hNW
                  have HST := Lib.hid (fun v' w4 hg ho' => HelS.push (a := (i : Int)) (b := (j : Int)) (w4 := w4) (v' := v') S6.out hus hr2 hg ho')
                  obtain ⟨a9, k9, rfl⟩ := own_form hus
                  clear hus hr2 hNW
                  go_wp2_with (at_builtin; refine wpList_append_own _ rfl _ _ 22 rfl (w.heap.size + 1) 44 f38 (.slice none 0 0) 1 24 Try.underlying22 hi38 hz0 hz1 hz2 rfl (by decide) _ L0.length us rfl HUS.out _ 1 1 [.slice (some ⟨w6.heap.size, 0, none⟩) 2 2] rfl rfl HNW.out (by simp [Value.oneCell']) (by unfold maxLen; omega) (by omega) (by simp; omega) ?_; intro v' w4 hown' hgrow hnil)
                  have HN : Hid (HelS w w4 (.slice (some ⟨g1, o1, none⟩) m cap) v' (helA f p Y i ++ helB f p Y i (j + 1))) := Lib.hid (by rw [HBy.out hoh]; exact HST.out _ _ hgrow hown')
                  clear hown' hgrow hnil hsz
                  exact ⟨⟨j + 1, by omega, by go_num, HN⟩, by simp [intOf]; omega⟩
                · have hoh : oh = false := by rw [hohe.out]; simp; omega
                  have hd4 : decide (t < nw) = false := by simp; omega
                  have hd5 : decide ((t : Int) < (nw : Int)) = false := by simp; omega
                  have HN : Hid (HelS w w6 (.slice (some ⟨g1, o1, none⟩) m cap) _ (helA f p Y i ++ helB f p Y i (j + 1))) := Lib.hid (by rw [HBn.out hoh]; exact S6.out)
                  clear htn
                  go_wp2_with fail
                  exact ⟨⟨j + 1, by omega, by go_num, HN⟩, by simp [intOf]; omega⟩
        · obtain rfl : j = m := by omega
          have HN := HS2
          rw [← HLen.out i] at HN
          go_wp2_with fail
          exact ⟨⟨i + 1, by omega, by go_num, HN⟩, by simp [intOf]; omega⟩
    · obtain rfl : i = m := by omega
      have HN := Lib.hid (HS.out.ret true)
      rw [← HE.out] at HN
      go_wp2_with fail
      go_ret2
      exact HN.out

theorem eqYY_any (v1 v2 : Value) (R : List (List Int)) (hn : R.length ≤ 1048576) (ht : tot R ≤ 1048576) (w : World) (h1 : YL w v1 R) (h2 : YL w v2 R) :
    Calls Try.prog 35 #[v1, v2] w fun e w' => e = .returned (.bool true) ∧ Below w.heap.size w w' :=
  (eqSS_any v1 v2 R hn ht w h1 h2).mono fun e w' ⟨he, k, hk⟩ => ⟨he, by subst hk; exact below_drewN (Below.refl _ _) k⟩
/-- A list of findings so long was answered, and a yes or no. -/
def LenB (w : World) (t : Nat) (ok : Bool) (e : Ending) (w' : World) : Prop := ∃ a c, e = .returned (.tuple #[.slice a t c, .bool ok]) ∧ Below w.heap.size w w'

set_option maxRecDepth 100000 in
set_option maxHeartbeats 8000000 in
theorem implHel_any (v : Value) (Y : List (List Int)) (g n : Nat) (f : Nat → C.Cont) (p : Int) (h1 : Y.length ≤ 1048576) (h2 : tot Y ≤ 1048576) (hn : n ≤ 1048576) (hid : ∀ j, j < n → (f j).id.size ≤ 1048576) (w : World) (h : YdR w v Y) (hc : C.CAt w g 0 n f) :
    Calls Try.prog 34 #[v, .slice (some ⟨g, 0, none⟩) n n, .int .i64 p] w (RetYY w (helR n f Y p) (askF n f Y p)) := by
  obtain ⟨f38, hi38, hz0, hz1, hz2⟩ := info_is info38
  obtain ⟨v0, rfl, hv⟩ := h
  obtain ⟨a, cap, rfl⟩ := hv.form
  have HA : Hid (∀ W, Below w.heap.size w W → Calls Try.prog 14 #[.agg #[.slice a Y.length cap], .slice (some ⟨g, 0, none⟩) n n, .int .i64 p] W (LenB W (finR n f Y p).length (askF n f Y p))) := Lib.hid fun W hb => (implFnd_any _ Y g n f p h1 h2 hn hid W ⟨_, rfl, hv.below hb⟩ (hc.below hb)).mono fun e w' ⟨a9, c9, he, _, hb9⟩ => ⟨a9, c9, he, hb9⟩
  have HMv : Hid (∀ (i j : Nat) W, Below w.heap.size w W → Calls Try.prog 59 #[.agg #[.slice a Y.length cap], .int .i64 (i : Int), .int .i64 (j : Int)] W (RetYI W (moveR Y (i : Int) (j : Int)) (moveX Y (i : Int) (j : Int)) (okM Y (i : Int) (j : Int)))) := Lib.hid fun i j W hb => implMove_any _ Y (i : Int) (j : Int) h1 h2 W ⟨_, rfl, hv.below hb⟩
  have HFn : Hid (askF n f Y p = true → ∀ (i j : Nat), okM Y (i : Int) (j : Int) = true → ∀ W u, YdR W u (moveR Y (i : Int) (j : Int)) → Below w.heap.size w W → Calls Try.prog 14 #[u, .slice (some ⟨g, 0, none⟩) n n, .int .i64 p] W (LenB W (finY f p (moveZ Y i j)).length true)) := Lib.hid fun ha i j hm W u hu hb => by
    have hq := move_ask ha hm
    have hsm := good_small (stF_iff.1 (askF_iff.1 hq).1).1
    rw [moveR_nat hm] at hu
    refine (implFnd_any u (moveZ Y i j) g n f p (by omega) (by omega) hn hid W hu (hc.below hb)).mono ?_
    rintro e w' ⟨a9, c9, he, _, hb9⟩
    rw [finR_yes hq, hq] at he
    exact ⟨a9, c9, he, hb9⟩
  have HOH : Hid (∀ (i j : Nat), okH f p Y i j = (okM Y (i : Int) (j : Int) && decide ((finY f p (moveZ Y i j)).length < (finY f p Y).length))) := Lib.hid fun i j => rfl
  have HNow : Hid (askF n f Y p = true → (finR n f Y p).length = (finY f p Y).length) := Lib.hid fun ha => by rw [finR_yes ha]
  have HNw1 : Hid (askF n f Y p = true → (finY f p Y).length ≤ 96) := Lib.hid fun ha => finY_len f p Y (stF_iff.1 (askF_iff.1 ha).1).1
  have HNw2 : Hid (∀ (i j : Nat), okM Y (i : Int) (j : Int) = true → (finY f p (moveZ Y i j)).length ≤ 96) := Lib.hid fun i j hm => finY_len f p _ (moveZ_good hm)
  have HR1 : Hid (askF n f Y p = true → helR n f Y p = helA f p Y Y.length) := Lib.hid helR_yes
  have HR0 : Hid (askF n f Y p = false → helR n f Y p = []) := Lib.hid helR_no
  have HL6 := Lib.hid (fun (ha : askF n f Y p = true) => (goodY_iff.1 (stF_iff.1 (askF_iff.1 ha).1).1).2.1)
  have HAl := Lib.hid (fun (h6 : Y.length ≤ 6) (i : Nat) => helA_len f p Y h6 i)
  have S0 := Lib.hid (HelS.start w (.slice a Y.length cap))
  have c0 := cell_of (i := 0) S0.out.2.1 rfl
  have hrl := finR_len n f Y p
  clear hv hc hid h2
  have HLen : Hid (∀ i, helA f p Y (i + 1) = helA f p Y i ++ helB f p Y i Y.length) := Lib.hid fun i => rfl
  generalize hm : Y.length = m at *
  have HM := Lib.hid hm
  clear hm
  generalize helR n f Y p = R at *
  generalize (finY f p Y).length = nw at *
  generalize (finR n f Y p).length = nr at *
  obtain ⟨q, hq⟩ : ∃ q, askF n f Y p = q := ⟨_, rfl⟩
  rw [hq] at HA HFn HNow HNw1 HR1 HR0 HL6 ⊢
  clear hq
  go_enter Try.func34, Try.ntmps34
  go_wp2_with fail
  generalize (w.alloc (.cells #[.slice a m cap] 31)).alloc (.cells #[] 44) = w0 at *
  refine (HA.out _ S0.out.1).mono ?_
  rintro e w1 ⟨ab, cb, rfl, hb⟩
  have S1 := Lib.hid (S0.out.below hb)
  clear hb c0
  have c0 := cell_of (i := 0) S1.out.2.1 rfl
  cases q with
  | false =>
    have HB := Lib.hid (S1.out.ret false)
    rw [← HR0.out rfl] at HB
    go_wp2_with fail
    go_ret2
    exact HB.out
  | true =>
  have HE := Lib.hid (HR1.out rfl)
  have HFn2 := Lib.hid (HFn.out rfl)
  obtain rfl : nr = nw := HNow.out rfl
  have hm6 := HL6.out rfl
  have HAl2 := Lib.hid (HAl.out hm6)
  clear HR1 HR0 HFn HNow HNw1 HL6 HAl HA
  go_wp2_with fail
  clear c0
  go_loopw [8, 31] (fun u i wr => ∃ k : Nat, k ≤ m ∧ i = .int .i64 k ∧ Hid (HelS w wr (.slice a m cap) u (helA f p Y k))) (fun _ i _ => m - (intOf i).toNat)
  case atStart => exact ⟨0, Nat.zero_le _, rfl, S1⟩
  case round =>
    obtain ⟨i, hi, rfl, HS⟩ := hrel
    rename World => wo
    have c0 := cell_of (i := 0) HS.out.2.1 rfl
    by_cases hlt : i < m
    · have hal := HAl2.out i
      have hiI : (i : Int) < (m : Int) := by omega
      have T0 : Hid (HelS w wo (.slice a m cap) u8 (helA f p Y i ++ helB f p Y i 0)) := Lib.hid (by rw [helB, List.append_nil]; exact HS.out)
      go_wp2_with fail
      go_loopw [8, 37] (fun u j wr => ∃ k : Nat, k ≤ m ∧ j = .int .i64 k ∧ Hid (HelS w wr (.slice a m cap) u (helA f p Y i ++ helB f p Y i k))) (fun _ j _ => m - (intOf j).toNat)
      case atStart => exact ⟨0, Nat.zero_le _, rfl, T0⟩
      case round =>
        clear c0
        obtain ⟨j, hj, rfl, HS2⟩ := hrel
        have c0 := cell_of (i := 0) HS2.out.2.1 rfl
        by_cases hjt : j < m
        · have hjI : (j : Int) < (m : Int) := by omega
          have HOh := Lib.hid (HOH.out i j)
          have HMij := Lib.hid (HMv.out i j)
          have HFij := Lib.hid (HFn2.out i j)
          have HNij := Lib.hid (HNw2.out i j)
          have hbl := helB_len f p Y i j
          have HBy : Hid (okH f p Y i j = true → helA f p Y i ++ helB f p Y i (j + 1) = (helA f p Y i ++ helB f p Y i j) ++ [[(i : Int), (j : Int)]]) := Lib.hid fun h => by rw [helB_yes h, List.append_assoc]
          have HBn : Hid (okH f p Y i j = false → helA f p Y i ++ helB f p Y i (j + 1) = helA f p Y i ++ helB f p Y i j) := Lib.hid fun h => by rw [helB_no h]
          have hlen : (helA f p Y i ++ helB f p Y i j).length ≤ 100 := by rw [List.length_append]; omega
          generalize helA f p Y i ++ helB f p Y i j = L0 at *
          generalize okH f p Y i j = oh at *
          generalize okM Y (i : Int) (j : Int) = om at *
          generalize moveR Y (i : Int) (j : Int) = Z at *
          generalize moveX Y (i : Int) (j : Int) = xm at *
          clear hbl
          go_wp2_with fail
          refine (HMij.out _ HS2.out.1).mono ?_
          rintro e w5 ⟨a5, c5, rfl, hoy, hb⟩
          have hb6 := below_one w5 (.cells #[.slice a5 Z.length c5] 31)
          have S6 := Lib.hid ((HS2.out.below hb).below hb6)
          have HY6 := Lib.hid (hoy.below hb6).yl
          have BN := Lib.hid (Box1.new w5 (.slice a5 Z.length c5) 31)
          clear hb hb6 hoy c0
          cases om with
          | false =>
            have HN : Hid (HelS w (w5.alloc (.cells #[.slice a5 Z.length c5] 31)) (.slice a m cap) _ (helA f p Y i ++ helB f p Y i (j + 1))) := Lib.hid (by rw [HBn.out (by rw [HOh.out]; rfl)]; exact S6.out)
            go_wp2_with fail
            exact ⟨⟨j + 1, by omega, by go_num, HN⟩, by simp [intOf]; omega⟩
          | true =>
            have ht := HNij.out rfl
            have hohe : Hid (oh = decide ((finY f p (moveZ Y i j)).length < nr)) := Lib.hid (by rw [HOh.out, Bool.true_and])
            have HC6 : Hid (Calls Try.prog 14 #[.agg #[.slice a5 Z.length c5], .slice (some ⟨g, 0, none⟩) n n, .int .i64 p] (w5.alloc (.cells #[.slice a5 Z.length c5] 31)) (LenB (w5.alloc (.cells #[.slice a5 Z.length c5] 31)) (finY f p (moveZ Y i j)).length true)) := Lib.hid (HFij.out rfl _ _ ⟨_, rfl, HY6.out⟩ S6.out.1)
            generalize (finY f p (moveZ Y i j)).length = t at *
            generalize Z.length = nz at *
            go_upto_region 13 with fail
            generalize w5.alloc (.cells #[.slice a5 nz c5] 31) = w6 at *
            generalize w5.heap.size = qb at *
            have cN := BN.out.2
            go_wp2_with fail
            refine HC6.out.mono ?_
            rintro e w7 ⟨a7, c7, rfl, hb⟩
            have S7 := Lib.hid (S6.out.below hb)
            clear hb cN
            by_cases htn : t < nr
            · have hoh : oh = true := by rw [hohe.out]; simp [htn]
              have htI : (t : Int) < (nr : Int) := by omega
              obtain ⟨us, hus, hr2⟩ := S7.out.2.2.1.2.2
              have hsz := S7.out.2.2.2
              have HUS := Lib.hid ((hus.alloc (.cells #[.int .i64 (i : Int), .int .i64 (j : Int)] 3)).alloc (.cells #[.slice (some ⟨w7.heap.size, 0, none⟩) 2 2] 44))
              have hNW := cell_val_new (w7.alloc (.cells #[.int .i64 (i : Int), .int .i64 (j : Int)] 3)) (.slice (some ⟨w7.heap.size, 0, none⟩) 2 2) 44
              rw [show (w7.alloc (.cells #[.int .i64 (i : Int), .int .i64 (j : Int)] 3)).heap.size = w7.heap.size + 1 by simp] at hNW
              have HNW := Lib.hid hNW
              have HST := Lib.hid (fun v' w4 hg ho' => HelS.push (a := (i : Int)) (b := (j : Int)) (w4 := w4) (v' := v') S7.out hus hr2 hg ho')
              obtain ⟨a9, k9, rfl⟩ := own_form hus
              clear hus hr2 hNW
              go_wp2_with (at_builtin; refine wpList_append_own _ rfl _ _ 22 rfl (w.heap.size + 1) 44 f38 (.slice none 0 0) 1 24 Try.underlying22 hi38 hz0 hz1 hz2 rfl (by decide) _ L0.length us rfl HUS.out _ 1 1 [.slice (some ⟨w7.heap.size, 0, none⟩) 2 2] rfl rfl HNW.out (by simp [Value.oneCell']) (by unfold maxLen; omega) (by omega) (by simp; omega) ?_; intro v' w4 hown' hgrow hnil)
              have HN : Hid (HelS w w4 (.slice a m cap) v' (helA f p Y i ++ helB f p Y i (j + 1))) := Lib.hid (by rw [HBy.out hoh]; exact HST.out _ _ hgrow hown')
              clear hown' hgrow hnil hsz
              exact ⟨⟨j + 1, by omega, by go_num, HN⟩, by simp [intOf]; omega⟩
            · have hoh : oh = false := by rw [hohe.out]; simp; omega
              have hd4 : decide (t < nr) = false := by simp; omega
              have hd5 : decide ((t : Int) < (nr : Int)) = false := by simp; omega
              have HN : Hid (HelS w w7 (.slice a m cap) _ (helA f p Y i ++ helB f p Y i (j + 1))) := Lib.hid (by rw [HBn.out hoh]; exact S7.out)
              clear htn
              go_wp2_with fail
              exact ⟨⟨j + 1, by omega, by go_num, HN⟩, by simp [intOf]; omega⟩
        · obtain rfl : j = m := by omega
          have HN := HS2
          rw [← HLen.out i] at HN
          go_wp2_with fail
          exact ⟨⟨i + 1, by omega, by go_num, HN⟩, by simp [intOf]; omega⟩
    · obtain rfl : i = m := by omega
      have HN := Lib.hid (HS.out.ret true)
      rw [← HE.out] at HN
      go_wp2_with fail
      go_ret2
      exact HN.out
end Go.Proofs.Ytonploneihnekaa
