/-
  What impl.numbersWhere returns, over ints, for whatever function is handed to it. No statement of the seat by itself.
-/
import Derived.Test.YtpljcpeghjplnaaZN
import Derived.Test.YtpljcpeghjplnaaHeights
import Derived.Test.YtpljcpeghjplnaaOwnI
import Derived.Shelf.Abstract
namespace Go.Proofs.Ytpljcpeghjplnaa
open Go.RowKit

/-- While the numbers are collected. -/
def NumS (w wr : World) (sv : Value) (S : List Int) : Prop := wr.ownsRow w.heap.size 3 1 sv S.length (intV S) ∧ Below w.heap.size w wr ∧ sv ≠ .slice none 0 0
theorem NumS.below {w wr w' : World} {sv : Value} {S : List Int} (h : NumS w wr sv S) (hb : Below wr.heap.size wr w') : NumS w w' sv S := ⟨row_below h.1 hb, h.2.1.trans (hb.mono h.2.1.size), h.2.2⟩
theorem numS_start (w : World) : NumS w (w.alloc (.cells #[] 3)) (.slice (some ⟨w.heap.size, 0, none⟩) 0 0) [] := ⟨own_empty w (.cells #[] 3) 3 rfl, below_one w _, by simp⟩
theorem NumS.done {w wr : World} {sv : Value} {S : List Int} (h : NumS w wr sv S) : NewI w S (.returned sv) wr := by
  obtain ⟨h1, h2, h3⟩ := h
  obtain ⟨a, c, rfl⟩ := own_form h1
  exact ⟨a, c, rfl, h1, h2⟩
theorem NumS.push {w wr w4 : World} {sv v' : Value} {S : List Int} {x : Int} {o : Obj} (h : NumS w wr sv S) (ho : w4.ownsRow w.heap.size 3 1 v' (S.length + 1) (intV S ++ [.int .i64 x])) (hg : (wr.alloc o).grownBy w4 sv.ownBlock) (hn : v' ≠ .slice none 0 0) : NumS w w4 v' (S ++ [x]) :=
  ⟨by rw [List.length_append, List.length_singleton]; simpa [intV] using ho, ((h.2.1.alloc h.2.1.size _)).grown hg (by have := h.2.1.size; simp; omega) (fun j e => row_base h.1 j e), hn⟩

set_option maxRecDepth 100000 in
set_option maxHeartbeats 4000000 in
theorem nums_any (F : Nat) (caps : Array Value) (hE : Enters Try.prog F) (v : Value) (l : List Int) (p : Nat → Bool) (hl : l.length ≤ 1048576) (w : World) (h : IL w v l)
    (hF : ∀ (i : Nat) (x : Int) (W : World), l[i]? = some x → Below w.heap.size w W → Calls Try.prog F (#[.int .i64 x] ++ caps) W fun e w' => e = .returned (.bool (p i)) ∧ Below W.heap.size W w') :
    Calls Try.prog 150 #[v, .func (.func F) #[] caps] w (NewI w (numsW p l.length)) := by
  obtain ⟨f3, hi3, hz0, hz1, hz2⟩ := info_is info3
  obtain ⟨n, hn⟩ : ∃ n, l.length = n := ⟨_, rfl⟩
  have HN := Lib.hid hn
  have HF := Lib.hid hF
  obtain ⟨a, c, rfl, hc⟩ := h
  have HC := Lib.hid hc
  rw [hn] at hl ⊢
  clear hc hn hF
  have R0 := Lib.hid (numS_start w)
  go_enter Try.func150, Try.ntmps150
  go_wp2_with fail
  go_loopw [5, 11] (fun s i wr => ∃ k : Nat, k ≤ n ∧ i = .int .i64 k ∧ Hid (NumS w wr s (numsW p k))) (fun _ i _ => n - (intOf i).toNat)
  case atStart => exact ⟨0, Nat.zero_le _, rfl, R0⟩
  case round =>
    obtain ⟨k, hk, rfl, HR⟩ := hrel
    by_cases hlt : k < n
    · obtain ⟨g, off, rfl, hg, hcc⟩ := HC.out (by have := HN.out; omega)
      obtain ⟨y, hy⟩ := get_at HN.out hlt
      have o1 : wr.cell? ⟨g, off + k, none⟩ = some (.int .i64 y) := (HR.out.2.1.cell (p := ⟨g, off + k, none⟩) hg).trans (hcc k y hy)
      have HE := Lib.hid (HF.out k y wr hy HR.out.2.1)
      have hbl := numsW_len p k
      clear hcc hy
      go_wp2_with fail
      rw [hE, Oper.upon_enter]
      refine HE.out.mono ?_
      rintro e w1 ⟨rfl, hb⟩
      have R1 := Lib.hid (HR.out.below hb)
      clear hb o1
      cases hp : p k with
      | true =>
        have HT := Lib.hid (numsW_yes hp)
        have hrow := R1.out.1
        have hz := R1.out.2.1.size
        generalize numsW p k = S at *
        clear hp
        go_wp2_with (at_builtin; refine wpList_append_own _ rfl _ _ 25 rfl w.heap.size 3 f3 (.int .i64 0) 1 8 Try.underlying25 hi3 hz0 hz1 hz2 rfl (by decide) _ _ _ rfl (hrow.alloc _) ⟨w1.heap.size, 0, none⟩ 1 1 [.int .i64 ((k : Int) + 1)] rfl rfl (cell_one_new _ _ _) (by simp [Value.oneCell']) (by unfold maxLen; omega) (by omega) (by simp; omega) ?_; intro v' w4 hown' hgrow hnil)
        have HN4 : Hid (NumS w w4 v' (numsW p (k + 1))) := Lib.hid (by rw [HT.out]; exact R1.out.push hown' hgrow (fun e => by have := (hnil.1 e).2; omega))
        clear hown' hgrow hnil hrow
        exact ⟨⟨k + 1, by omega, by go_num, HN4⟩, by simp [intOf]; omega⟩
      | false =>
        have HT := Lib.hid (numsW_no hp)
        clear hp
        go_wp2_with fail
        exact ⟨⟨k + 1, by omega, by go_num, Lib.hid (by rw [HT.out]; exact R1.out)⟩, by simp [intOf]; omega⟩
    · obtain rfl : k = n := by omega
      go_wp2_with fail
      go_ret
      exact HR.out.done
theorem all_beq (m n : Nat) : ((((m : Nat) : Int)) == ((n : Nat) : Int)) = decide (m = n) := by
  by_cases e : m = n
  · simp [e]
  · have : ¬ ((m : Int) = (n : Int)) := by omega
    simp [e, this]

set_option maxRecDepth 100000 in
set_option maxHeartbeats 2000000 in
theorem areAll_any (F : Nat) (caps : Array Value) (hE : Enters Try.prog F) (v : Value) (l : List Int) (p : Nat → Bool) (hl : l.length ≤ 1048576) (w : World) (h : IL w v l)
    (hF : ∀ (i : Nat) (x : Int) (W : World), l[i]? = some x → Below w.heap.size w W → Calls Try.prog F (#[.int .i64 x] ++ caps) W fun e w' => e = .returned (.bool (p i)) ∧ Below W.heap.size W w') :
    Calls Try.prog 135 #[v, .func (.func F) #[] caps] w (BoolP w (decide ((numsW p l.length).length = l.length))) := by
  have H := Lib.hid (nums_any F caps hE v l p hl w h hF)
  obtain ⟨a, c, rfl⟩ := h.form
  clear h hF
  unfold NewI at H
  generalize numsW p l.length = S at *
  generalize l.length = n at *
  go_enter Try.func135, Try.ntmps135
  go_wp2_with fail
  refine H.out.mono ?_
  rintro e w1 ⟨a1, c1, rfl, ho, hb⟩
  have HB := Lib.hid hb
  clear ho hb
  go_wp2_with fail
  go_ret
  exact ⟨by rw [all_beq]; rfl, HB.out⟩
end Go.Proofs.Ytpljcpeghjplnaa
