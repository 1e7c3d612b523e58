/-
  Plain mathematics: the rows that are read off a bay's text are the bay's. No program stands in it.
-/
import Derived.Test.YtfbeoficgkkamaaDoorPbM
namespace Go.Proofs.YtfbeoficgkkamaaDoor

/-- What a reading of numbers has to know of the slots' texts. -/
def AtOk (at' : ByteArray → Option Int) : Prop := at' (bs [46, 46]) = none ∧ ∀ x : Nat, 1 ≤ x → x ≤ 99 → at' (bs [UInt8.ofNat (48 + x / 10), UInt8.ofNat (48 + x % 10)]) = some (x : Int)
theorem cell_at {at' : ByteArray → Option Int} (h : AtOk at') {l : List Int} (hs : ∀ x ∈ l, 1 ≤ x ∧ x ≤ 99) (k : Nat) : at' (bs (cellT l k)) = l[k]? := by
  unfold cellT
  cases hx : l[k]? with
  | none => exact h.1
  | some x =>
    have := hs x (List.mem_of_getElem? hx)
    obtain ⟨n, rfl⟩ : ∃ n : Nat, x = (n : Int) := ⟨x.toNat, by omega⟩
    exact h.2 n (by omega) (by omega)
theorem put_mid (A C : List (List Int)) (b : List Int) (x : Int) : putY (A ++ b :: C) A.length x = A ++ (b ++ [x]) :: C := by
  rw [putY_of (l := b) (by simp)]
  simp
theorem takeW_next {l : List Int} {k : Nat} {x : Int} (h : l[k]? = some x) : l.take k ++ [x] = l.take (k + 1) := by
  rw [List.take_add_one, h]; rfl
theorem takeW_last {l : List Int} {k : Nat} (h : l[k]? = none) : l.take k = l.take (k + 1) := by
  rw [List.take_add_one, h]; simp
theorem rd_add (Y : List (List Int)) (k i : Nat) (hi : i < Y.length) : addR (rdT Y k i) i = (Y.take i).map (·.take (k + 1)) ++ (Y.getD i []).take k :: (if k = 0 then [] else (Y.drop (i + 1)).map (·.take k)) := by
  have hd : Y.drop i = Y[i] :: Y.drop (i + 1) := List.drop_eq_getElem_cons hi
  have hg : Y.getD i [] = Y[i] := getD_of (List.getElem?_eq_getElem hi)
  unfold addR rdT
  by_cases hk : k = 0
  · subst hk
    rw [if_pos (by simp; omega), if_pos rfl, if_pos rfl]
    simp
  · rw [if_neg hk, if_neg hk, if_neg (by simp; omega), hd, hg, List.map_cons]
theorem rd_put {at' : ByteArray → Option Int} (h : AtOk at') {Y : List (List Int)} (hs : ∀ l ∈ Y, ∀ x ∈ l, 1 ≤ x ∧ x ≤ 99) (k i : Nat) (hi : i < Y.length) : putW at' (rdT Y k i) i (bs (cellT (Y.getD i []) k)) = rdT Y k (i + 1) := by
  have hg : Y.getD i [] = Y[i] := getD_of (List.getElem?_eq_getElem hi)
  have ht : (Y.take (i + 1)).map (·.take (k + 1)) = (Y.take i).map (·.take (k + 1)) ++ [(Y.getD i []).take (k + 1)] := by
    rw [List.take_succ_eq_append_getElem hi, List.map_append, hg]; rfl
  unfold putW
  rw [cell_at h (by rw [hg]; exact hs _ (List.getElem_mem hi)), rd_add Y k i hi]
  have hr : rdT Y k (i + 1) = (Y.take i).map (·.take (k + 1)) ++ (Y.getD i []).take (k + 1) :: (if k = 0 then [] else (Y.drop (i + 1)).map (·.take k)) := by
    unfold rdT
    rw [ht]
    simp
  rw [hr]
  cases hx : (Y.getD i [])[k]? with
  | none => rw [takeW_last hx]
  | some x =>
    have hl : ((Y.take i).map (·.take (k + 1))).length = i := by simp; omega
    have := put_mid ((Y.take i).map (·.take (k + 1))) (if k = 0 then [] else (Y.drop (i + 1)).map (·.take k)) ((Y.getD i []).take k) x
    rw [hl] at this
    dsimp only
    rw [this, takeW_next hx]
theorem ln_rd {at' : ByteArray → Option Int} (h : AtOk at') {Y : List (List Int)} (hs : ∀ l ∈ Y, ∀ x ∈ l, 1 ≤ x ∧ x ≤ 99) (k : Nat) : ∀ i, i ≤ Y.length → lnW at' ((wrdT Y k Y.length).map bs) (rdT Y k 0) i = rdT Y k i
  | 0, _ => rfl
  | i + 1, hi => by
    rw [lnW, ln_rd h hs k i (by omega)]
    have : ((wrdT Y k Y.length).map bs).getD i (bs []) = bs (cellT (Y.getD i []) k) := by
      rw [List.getD_eq_getElem?_getD]
      simp [wrdT, show i < Y.length by omega]
    rw [this, rd_put h hs k i (by omega)]
theorem rd_all (Y : List (List Int)) (k : Nat) : rdT Y k Y.length = rdT Y (k + 1) 0 := by
  unfold rdT
  simp
theorem pr_rd {at' : ByteArray → Option Int} (h : AtOk at') {Y : List (List Int)} (hs : ∀ l ∈ Y, ∀ x ∈ l, 1 ≤ x ∧ x ≤ 99) (hY : 1 ≤ Y.length) (H : Nat) : ∀ k, k ≤ H → prW at' ((lnsT Y H H).map bs ++ [bs []]) H k = rdT Y k 0
  | 0, _ => by simp [prW, rdT]
  | k + 1, hk => by
    have hl : ((lnsT Y H H).map bs ++ [bs []]).getD (H - 1 - k) (bs []) = bs (lineT Y k Y.length) := by
      rw [List.getD_eq_getElem?_getD, List.getElem?_append_left (by simp [lnsT]; omega)]
      simp [lnsT, show H - 1 - k < H by omega, show H - 1 - (H - 1 - k) = k by omega]
    rw [prW, hl, line_pieces hs hY k, pr_rd h hs hY H k (by omega)]
    have : ((wrdT Y k Y.length).map bs).length = Y.length := by simp [wrdT]
    rw [this, ln_rd h hs k _ (Nat.le_refl _), rd_all]
theorem recover {at' : ByteArray → Option Int} (h : AtOk at') {Y : List (List Int)} {H : Nat} (hg : goodB (H : Int) Y = true) :
    (pieces (bs (textT Y H H)) 10).length = H + 1 ∧ prW at' (pieces (bs (textT Y H H)) 10) H H = Y := by
  obtain ⟨g1, g5, g4, gS⟩ := goodB_rows hg
  have hH := (goodB_iff.1 hg).1
  have hs : ∀ l ∈ Y, ∀ x ∈ l, 1 ≤ x ∧ x ≤ 99 := fun l hl x hx => gS.1 x (List.mem_flatten.2 ⟨l, hl, hx⟩)
  rw [text_pieces hs H]
  refine ⟨by simp [lnsT], ?_⟩
  rw [pr_rd h hs g1 H H (Nat.le_refl _)]
  unfold rdT
  rw [if_neg (by omega)]
  obtain ⟨a, b, c, d⟩ := goodH_iff.1 (goodB_iff.1 hg).2
  simp only [List.take_zero, List.map_nil, List.nil_append, List.drop_zero]
  have : Y.map (fun x => x.take H) = Y.map id := List.map_congr_left fun l hl => by
    have := c l hl
    exact List.take_of_length_le (by omega)
  rw [this, List.map_id]
end Go.Proofs.YtfbeoficgkkamaaDoor
