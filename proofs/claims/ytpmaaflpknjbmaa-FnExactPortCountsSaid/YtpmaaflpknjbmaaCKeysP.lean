/-
  slices.Sorted over maps.Keys at a map of ints that a call has made: its keys in ascending order. No statement of the seat by itself.
-/
import Derived.Test.YtpmaaflpknjbmaaCLaidP
import Derived.Test.YtpmaaflpknjbmaaCPortS
import Derived.Maps.OwnOps
import Derived.Maps.Views
import Derived.Maps.Range
namespace Go.Proofs.Ytpmaaflpknjbmaa.C
open Go.RowKit Go.Maps Go.Sort Go.Shelf

theorem keyI : Keyed Try.prog 3 := int_keyed Try.underlying3
/-- The map of the first k containers' ports, with how many have each. -/
def mapP (f : Nat → Cont) : Nat → DataW Unit
  | 0 => .map []
  | k + 1 => (mapP f k).put (.int .i64 (f k).port) (.lit (.int .i64 ((cntL f (f k).port k : Int) + 1)))
theorem mapP_is (f : Nat → Cont) : ∀ k, IsMap (mapP f k)
  | 0 => isMap_empty
  | k + 1 => (mapP_is f k).put _ _
theorem port_ne {a b : Int} (h : a ≠ b) : Lit.int .i64 a ≠ Lit.int .i64 b := fun e => h (by injection e)
theorem port_key (a : Int) : WideAt.IsKeyLit (.int .i64 a) := trivial
theorem mapP_at (f : Nat → Cont) (p : Int) : ∀ k, (mapP f k).atKey (.int .i64 p) (.lit (.int .i64 0)) = .lit (.int .i64 (cntL f p k : Int))
  | 0 => rfl
  | k + 1 => by
    by_cases e : (f k).port = p
    · rw [mapP, e, atKey_put_same (mapP_is f k) (port_key p), cntL, if_pos e]
      simp
    · rw [mapP, atKey_put_other (port_ne (fun h => e h.symm)), mapP_at f p k, cntL, if_neg e]
theorem mapP_has (f : Nat → Cont) (p : Int) : ∀ k, Maps.has (mapP f k) (.int .i64 p) = decide (0 < cntL f p k)
  | 0 => rfl
  | k + 1 => by
    by_cases e : (f k).port = p
    · rw [mapP, e, has_put_same (mapP_is f k) (port_key p), cntL, if_pos e]
      simp
    · rw [mapP, has_put_other (port_ne (fun h => e h.symm)), mapP_has f p k, cntL, if_neg e]
/-- The ports up to p that some container has. -/
def portsL (f : Nat → Cont) (n : Nat) : Nat → List Int
  | 0 => []
  | p + 1 => if 0 < cntL f ((p : Int) + 1) n then portsL f n p ++ [(p : Int) + 1] else portsL f n p
theorem portsL_map (f : Nat → Cont) (n : Nat) : ∀ p, (portsL f n p).map (fun x => (x, (cntL f x n : Int))) = pcL f n p
  | 0 => rfl
  | p + 1 => by
    have ih := portsL_map f n p
    rw [portsL, pcL]
    split
    · rw [List.map_append, ih]; rfl
    · exact ih
theorem portsL_mem (f : Nat → Cont) (n : Nat) (x : Int) : ∀ p : Nat, x ∈ portsL f n p ↔ 1 ≤ x ∧ x ≤ p ∧ 0 < cntL f x n
  | 0 => by simp [portsL]; omega
  | p + 1 => by
    have ih := portsL_mem f n x p
    rw [portsL]
    split
    · rename_i h
      rw [List.mem_append, ih, List.mem_singleton]
      constructor
      · rintro (h1 | rfl)
        · exact ⟨h1.1, by omega, h1.2.2⟩
        · exact ⟨by omega, by omega, h⟩
      · intro h1
        by_cases e : x = (p : Int) + 1
        · exact .inr e
        · exact .inl ⟨h1.1, by omega, h1.2.2⟩
    · rename_i h
      rw [ih]
      constructor
      · intro h1; exact ⟨h1.1, by omega, h1.2.2⟩
      · intro h1
        refine ⟨h1.1, ?_, h1.2.2⟩
        by_cases e : x = (p : Int) + 1
        · subst e; exact absurd h1.2.2 h
        · omega
theorem portsL_asc (f : Nat → Cont) (n : Nat) : ∀ p : Nat, (portsL f n p).Pairwise (fun a b => a < b)
  | 0 => List.Pairwise.nil
  | p + 1 => by
    rw [portsL]
    split
    · rw [List.pairwise_append]
      refine ⟨portsL_asc f n p, List.pairwise_singleton _ _, fun a ha b hb => ?_⟩
      rw [List.mem_singleton] at hb
      have := (portsL_mem f n a p).1 ha
      omega
    · exact portsL_asc f n p
theorem portsL_len (f : Nat → Cont) (n : Nat) (p : Nat) : (portsL f n p).length ≤ p := by
  have := pcL_len f n p
  rw [← portsL_map] at this
  simpa using this
theorem cnt_zero (f : Nat → Cont) (n : Nat) (hg : ∀ j, j < n → 1 ≤ (f j).port ∧ (f j).port ≤ 9) (x : Int) (hx : ¬ (1 ≤ x ∧ x ≤ 9)) : ∀ k, k ≤ n → cntL f x k = 0
  | 0, _ => rfl
  | k + 1, hk => by
    rw [cntL, if_neg (show ¬ (f k).port = x from fun e => hx (by rw [← e]; exact hg k (by omega))), cnt_zero f n hg x hx k (by omega)]
/-- The keys sorted are the ports. -/
theorem keys_sorted {R : Value → Option (DataW Unit × List MemPlace)} {w : World} {b m : Nat} (f : Nat → Cont) (n : Nat) (hg : ∀ j, j < n → 1 ≤ (f j).port ∧ (f j).port ≤ 9) (h : w.ownsMap Try.prog 3 R b m (mapP f n)) (ss : List Int) (hp : ss.Perm (intKeys (mapP f n))) : ss.mergeSort (fun x y => decide (x ≤ y)) = portsL f n 9 := by
  obtain ⟨es, hes, hpw, -⟩ := h.entries keyI
  obtain ⟨es2, hes2, hko⟩ := h.keysOf
  have e2 : es2 = es := by rw [hes] at hes2; injection hes2 with e; exact e.symm
  subst e2
  have hmem : ∀ x, x ∈ portsL f n 9 ↔ Maps.has (.map es2 : DataW Unit) (.int .i64 x) = true := fun x => by
    rw [← hes, mapP_has, portsL_mem]
    simp only [decide_eq_true_eq]
    constructor
    · exact fun h => h.2.2
    · intro h1
      by_cases hx : 1 ≤ x ∧ x ≤ 9
      · exact ⟨hx.1, by omega, h1⟩
      · rw [cnt_zero f n hg x hx n (Nat.le_refl _)] at h1; omega
  have hperm : (portsL f n 9).Perm (intKeys (mapP f n)) := by
    rw [hes]
    exact perm_intKeys hpw (fun p hp => by obtain ⟨v, hv⟩ := hko p hp; obtain ⟨x, _, hx, _⟩ := Maps.keyOf_i64 Try.underlying3 hv; exact ⟨x, hx⟩) ((portsL_asc f n 9).imp (fun h => by omega)) hmem
  have h1 := mergeSort_of_perm_i (hp.trans hperm.symm)
  have h2 : (portsL f n 9).mergeSort leI = portsL f n 9 := List.mergeSort_of_pairwise ((portsL_asc f n 9).imp (fun h => by simp [leI]; omega))
  exact h1.trans h2

theorem keys_call (mb : Option Nat) (w : World) : Calls Try.prog 31 #[.map mb] w fun e w' => e = .returned (.func (.func 47) #[] #[.pointer (some ⟨w.heap.size, 0, none⟩)]) ∧ w' = w.alloc (.cells #[.map mb] 52) :=
  (callsIn_wide (n := 5)).1 (AnyZI.keys_in Try.keysA Fence.wide 5 trivial rfl mb w)
theorem sortsA (m : Nat) : AnyZI.SortsIn Try.prog Try.sortedA_ren Fence.wide m :=
  ⟨fun blk off cap ss W hH hblk hsz => callsIn_wide.2 (AnyM.slices_Sort_int Try.sortA blk off cap ss W hH hblk hsz),
   fun p cap W => callsIn_wide.2 (AnyM.slices_Sort_int_none Try.sortA p cap W)⟩

/-- The ports' numbers were answered, in a slice of the call's own. -/
def KeysPost (w : World) (ps : List Int) (e : Ending) (w' : World) : Prop := ∃ v, e = .returned v ∧ w'.ownsRow w.heap.size 3 1 v ps.length (ps.map encZ) ∧ Below w.heap.size w w'

set_option maxHeartbeats 1000000 in
theorem sorted_call (b nn : Nat) (f : Nat → Cont) (n : Nat) (hn : nn ≤ 12) (hg : ∀ j, j < n → 1 ≤ (f j).port ∧ (f j).port ≤ 9) (w : World) (hown : w.ownsMap Try.prog 3 (plainElem Try.prog 3) b nn (mapP f n)) :
    Calls Try.prog 30 #[.func (.func 47) #[] #[.pointer (some ⟨w.heap.size, 0, none⟩)]] (w.alloc (.cells #[.map (some b)] 52)) (KeysPost (w.alloc (.cells #[.map (some b)] 52)) (portsL f n 9)) := by
  have hsz : Maps.size (mapP f n) ≤ 12 := Nat.le_trans hown.size_le hn
  have hseq : SeqGives Fence.wide 2 Try.prog 47 #[.pointer (some ⟨w.heap.size, 0, none⟩)] encZ (fun ss => ss.Perm (intKeys (mapP f n))) (Maps.size (mapP f n)) (w.alloc (.cells #[.map (some b)] 52)) :=
    AnyZI.keys_gives (ρ := Try.keysA_ren) { Try.keysA with } Fence.wide _ trivial rfl (by omega) w.heap.size b nn (mapP f n) _ (by simp) (by simp) (hown.alloc _)
  have cS := AnyZI.sorted_in Try.sortedA Fence.wide 5 trivial trivial trivial trivial rfl (by omega) (sortsA _) (enters_of Try.func46 (by kernel_rfl) rfl) 47 #[.pointer (some ⟨w.heap.size, 0, none⟩)] trivial (enters_of Try.func47 (by kernel_rfl) rfl) _ _ (by unfold maxLen; omega) (by omega) _ hseq
  change CallsIn _ _ Try.prog 30 _ _ _ at cS
  refine (callsIn_wide (n := 5)).1 (cS.mono fun e w' ⟨v, ss, he, hS, hrow, _, hb⟩ => ?_)
  have hks := keys_sorted f n hg hown ss hS
  have hl : ss.length = (portsL f n 9).length := by rw [← hks, List.length_mergeSort]
  rw [hks, hl] at hrow
  exact ⟨v, he, hrow, hb⟩
end Go.Proofs.Ytpmaaflpknjbmaa.C
