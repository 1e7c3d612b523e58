/-
  Plain mathematics: the pieces of a bay's text, and the rows that are read off a text's lines. No program stands in it.
-/
import Derived.Test.YtfbeoficgkkamaaDoorPieces
import Derived.Test.YtfbeoficgkkamaaDoorHDTxt
import Derived.Test.YtfbeoficgkkamaaDoorPutM
namespace Go.Proofs.YtfbeoficgkkamaaDoor

/-- The pieces of a list of bytes: those that are complete, and the one under way. -/
def spS (c : UInt8) (a : List (List UInt8) × List UInt8) (b : UInt8) : List (List UInt8) × List UInt8 := if b = c then (a.1 ++ [a.2], []) else (a.1, a.2 ++ [b])
def spF (c : UInt8) (l : List UInt8) (a : List (List UInt8) × List UInt8) : List (List UInt8) × List UInt8 := l.foldl (spS c) a
theorem spF_app (c : UInt8) (l m : List UInt8) (a : List (List UInt8) × List UInt8) : spF c (l ++ m) a = spF c m (spF c l a) := by simp [spF]
theorem spF_none (c : UInt8) : ∀ (l : List UInt8) (a : List (List UInt8) × List UInt8), c ∉ l → spF c l a = (a.1, a.2 ++ l)
  | [], a, _ => by simp [spF]
  | b :: l, a, h => by
    have hb : ¬ b = c := fun e => h (by simp [e])
    have := spF_none c l (spS c a b) (fun e => h (by simp [e]))
    simp only [spF, List.foldl_cons] at this ⊢
    rw [this]
    simp [spS, hb]
theorem spF_hit (c : UInt8) (a : List (List UInt8) × List UInt8) : spF c [c] a = (a.1 ++ [a.2], []) := by simp [spF, spS]

theorem bs_get (l : List UInt8) (k : Nat) (h : k < (bs l).size) : (bs l)[k] = l[k]'(by rw [bs_size] at h; exact h) := by
  show (bs l).data[k] = _
  simp [bs]
theorem bs_ext (l : List UInt8) (a b : Nat) : (bs l).extract a b = bs ((l.take b).drop a) := by
  apply ByteArray.ext
  simp [bs, ByteArray.data_extract, List.drop_take]
theorem pst_sp (c : UInt8) (l : List UInt8) : ∀ k, k ≤ l.length → (pst (bs l) c k).1 = (spF c (l.take k) ([], [])).1.map bs ∧ (l.take k).drop (pst (bs l) c k).2 = (spF c (l.take k) ([], [])).2 ∧ (pst (bs l) c k).2 ≤ k
  | 0, _ => by simp [pst, spF]
  | k + 1, h => by
    obtain ⟨e1, e2, e3⟩ := pst_sp c l k (by omega)
    have hk : k < (bs l).size := by rw [bs_size]; omega
    have ht : l.take (k + 1) = l.take k ++ [l[k]'(by omega)] := by rw [List.take_succ_eq_append_getElem]
    have hg := bs_get l k hk
    by_cases hc : (bs l)[k] = c
    · rw [pst_hit _ _ _ hk hc, ht, spF_app]
      have hc2 : l[k]'(by omega) = c := by rw [← hg]; exact hc
      rw [hc2, spF_hit]
      refine ⟨?_, ?_, Nat.le_refl _⟩
      · rw [List.map_append, ← e1, bs_ext, e2]; simp
      · have : (l.take k ++ [c]).length ≤ k + 1 := by simp; omega
        rw [List.drop_eq_nil_of_le this]
    · rw [pst_miss _ _ _ hk hc, ht, spF_app]
      have hc2 : ¬ l[k]'(by omega) = c := by rw [← hg]; exact hc
      have hs : spF c [l[k]'(by omega)] (spF c (l.take k) ([], [])) = ((spF c (l.take k) ([], [])).1, (spF c (l.take k) ([], [])).2 ++ [l[k]'(by omega)]) := spF_none c _ _ (by simpa using fun e => hc2 e.symm)
      rw [hs]
      refine ⟨e1, ?_, by omega⟩
      rw [List.drop_append_of_le_length (by rw [List.length_take]; omega), e2]
theorem pieces_sp (c : UInt8) (l : List UInt8) : pieces (bs l) c = ((spF c l ([], [])).1 ++ [(spF c l ([], [])).2]).map bs := by
  obtain ⟨e1, e2, e3⟩ := pst_sp c l l.length (Nat.le_refl _)
  rw [List.take_length] at e1 e2
  unfold pieces
  rw [bs_size, e1, bs_ext, List.take_length, e2]
  simp

/-- No slot's text holds a blank or a newline. -/
theorem cell_bytes {l : List Int} (hs : ∀ x ∈ l, 1 ≤ x ∧ x ≤ 99) (k : Nat) : ∀ b ∈ cellT l k, b ≠ 32 ∧ b ≠ 10 := by
  intro b hb
  unfold cellT at hb
  split at hb
  · simp at hb; subst hb; decide
  · rename_i x hx
    have := hs x (List.mem_of_getElem? hx)
    have key : ∀ d : Nat, d < 10 → (UInt8.ofNat (48 + d) ≠ 32 ∧ UInt8.ofNat (48 + d) ≠ 10) := by decide
    simp only [List.mem_cons, List.not_mem_nil, or_false] at hb
    rcases hb with rfl | rfl
    · exact key _ (by omega)
    · exact key _ (by omega)
/-- The words of a tier's line. -/
def wrdT (Y : List (List Int)) (k : Nat) (i : Nat) : List (List UInt8) := (List.range i).map fun j => cellT (Y.getD j []) k
theorem wrdT_succ (Y : List (List Int)) (k i : Nat) : wrdT Y k (i + 1) = wrdT Y k i ++ [cellT (Y.getD i []) k] := by simp [wrdT, List.range_succ]
theorem getD_bytes {Y : List (List Int)} (hs : ∀ l ∈ Y, ∀ x ∈ l, 1 ≤ x ∧ x ≤ 99) (j k : Nat) : ∀ b ∈ cellT (Y.getD j []) k, b ≠ 32 ∧ b ≠ 10 := by
  apply cell_bytes
  rw [List.getD_eq_getElem?_getD]
  cases h : Y[j]? with
  | none => simp
  | some l => simpa using hs l (List.mem_of_getElem? h)
theorem line_sp {Y : List (List Int)} (hs : ∀ l ∈ Y, ∀ x ∈ l, 1 ≤ x ∧ x ≤ 99) (k : Nat) : ∀ i, spF 32 (lineT Y k (i + 1)) ([], []) = (wrdT Y k i, cellT (Y.getD i []) k)
  | 0 => by
    have := spF_none 32 (cellT (Y.getD 0 []) k) ([], []) (fun h => (getD_bytes hs 0 k _ h).1 rfl)
    simp only [lineT, List.nil_append] at this ⊢
    simpa [wrdT] using this
  | i + 1 => by
    rw [lineT, spF_app, spF_app, line_sp hs k i, if_pos (by omega), spF_hit, wrdT_succ]
    exact (spF_none 32 _ _ (fun h => (getD_bytes hs (i + 1) k _ h).1 rfl)).trans (by simp)
theorem line_pieces {Y : List (List Int)} (hs : ∀ l ∈ Y, ∀ x ∈ l, 1 ≤ x ∧ x ≤ 99) (hY : 1 ≤ Y.length) (k : Nat) : pieces (bs (lineT Y k Y.length)) 32 = (wrdT Y k Y.length).map bs := by
  obtain ⟨n, hn⟩ : ∃ n, Y.length = n + 1 := ⟨Y.length - 1, by omega⟩
  rw [hn, pieces_sp, line_sp hs k n, wrdT_succ]
theorem line_bytes {Y : List (List Int)} (hs : ∀ l ∈ Y, ∀ x ∈ l, 1 ≤ x ∧ x ≤ 99) (k : Nat) : ∀ i, ∀ b ∈ lineT Y k i, b ≠ 10
  | 0, b, h => by simp [lineT] at h
  | i + 1, b, h => by
    simp only [lineT, List.mem_append] at h
    rcases h with (h | h) | h
    · exact line_bytes hs k i b h
    · split at h
      · simp at h; subst h; decide
      · simp at h
    · exact (getD_bytes hs i k b h).2
/-- The lines of a bay's text. -/
def lnsT (Y : List (List Int)) (h j : Nat) : List (List UInt8) := (List.range j).map fun i => lineT Y (h - 1 - i) Y.length
theorem text_sp {Y : List (List Int)} (hs : ∀ l ∈ Y, ∀ x ∈ l, 1 ≤ x ∧ x ≤ 99) (h : Nat) : ∀ j, spF 10 (textT Y h j) ([], []) = (lnsT Y h j, [])
  | 0 => by simp [textT, spF, lnsT]
  | j + 1 => by
    rw [textT, spF_app, spF_app, text_sp hs h j, spF_none 10 _ _ (fun hb => line_bytes hs _ _ _ hb rfl), spF_hit]
    simp [lnsT, List.range_succ]
theorem text_pieces {Y : List (List Int)} (hs : ∀ l ∈ Y, ∀ x ∈ l, 1 ≤ x ∧ x ≤ 99) (h : Nat) : pieces (bs (textT Y h h)) 10 = (lnsT Y h h).map bs ++ [bs []] := by
  rw [pieces_sp, text_sp hs h h]
  simp

/-- Rows with the word of one slot more: at tells what number a word is. -/
def addR (R : List (List Int)) (i : Nat) : List (List Int) := if R.length ≤ i then R ++ [[]] else R
def putW (at' : ByteArray → Option Int) (R : List (List Int)) (i : Nat) (x : ByteArray) : List (List Int) := match at' x with
  | some n => putY (addR R i) i n
  | none => addR R i
/-- .. of the first i words of a line. -/
def lnW (at' : ByteArray → Option Int) (ws : List ByteArray) (R : List (List Int)) : Nat → List (List Int)
  | 0 => R
  | i + 1 => putW at' (lnW at' ws R i) i (ws.getD i (bs []))
/-- The rows of the last k of the lines before the end. -/
def prW (at' : ByteArray → Option Int) (ls : List ByteArray) (h : Nat) : Nat → List (List Int)
  | 0 => []
  | k + 1 => lnW at' (pieces (ls.getD (h - 1 - k) (bs [])) 32) (prW at' ls h k) (pieces (ls.getD (h - 1 - k) (bs [])) 32).length
theorem addR_len (R : List (List Int)) (i : Nat) (h : i ≤ R.length) : i < (addR R i).length ∧ (addR R i).length ≤ R.length + 1 := by
  unfold addR
  split
  · simp; omega
  · omega
/-- The rows when the first i slots of tier k have been read. -/
def rdT (Y : List (List Int)) (k i : Nat) : List (List Int) := (Y.take i).map (·.take (k + 1)) ++ (if k = 0 then [] else (Y.drop i).map (·.take k))
end Go.Proofs.YtfbeoficgkkamaaDoor
