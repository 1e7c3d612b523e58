/-
  impl.numbersWhere over ints once more, the answer being no nil slice; impl.numbersFor. No statement of the seat by itself.
-/
import Derived.Test.YtpflnjjckeeihaaZV
namespace Go.Proofs.Ytpflnjjckeeihaa
open Go.RowKit

/-- A list of ints of the call's own was answered, no nil one, and nothing older turned. -/
def NewN (w : World) (l : List Int) (e : Ending) (w' : World) : Prop := ∃ g c, e = .returned (.slice (some ⟨g, 0, none⟩) l.length c) ∧ w'.ownsRow w.heap.size 3 1 (.slice (some ⟨g, 0, none⟩) l.length c) l.length (intV l) ∧ Below w.heap.size w w'
theorem own_some {W : World} {base e size k : Nat} {v : Value} {xs : List Value} (h : W.ownsRow base e size v k xs) (hv : v ≠ .slice none 0 0) : ∃ g c, v = .slice (some ⟨g, 0, none⟩) k c := by
  rcases h.2 with ⟨rfl, _⟩ | ⟨g, cap, cur, rfl, _⟩
  · exact absurd rfl hv
  · exact ⟨_, _, rfl⟩
theorem NumS.done2 {w wr : World} {sv : Value} {S : List Int} (h : NumS w wr sv S) : NewN w S (.returned sv) wr := by
  obtain ⟨h1, h2, h3⟩ := h
  obtain ⟨g, c, rfl⟩ := own_some h1 h3
  exact ⟨g, c, rfl, h1, h2⟩

set_option maxRecDepth 100000 in
set_option maxHeartbeats 4000000 in
theorem nums_some (F : Nat) (caps : Array Value) (hE : Enters Try.prog F) (v : Value) (l : List Int) (p : Nat → Bool) (hl : l.length ≤ 1048576) (w : World) (h : IL w v l)
    (hF : ∀ (i : Nat) (x : Int) (W : World), l[i]? = some x → Below w.heap.size w W → Calls Try.prog F (#[.int .i64 x] ++ caps) W fun e w' => e = .returned (.bool (p i)) ∧ Below W.heap.size W w') :
    Calls Try.prog 79 #[v, .func (.func F) #[] caps] w (NewN w (numsW p l.length)) := by
  obtain ⟨f3, hi3, hz0, hz1, hz2⟩ := info_is info3
  obtain ⟨n, hn⟩ : ∃ n, l.length = n := ⟨_, rfl⟩
  have HN := Lib.hid hn
  have HF := Lib.hid hF
  obtain ⟨a, c, rfl, hc⟩ := h
  have HC := Lib.hid hc
  rw [hn] at hl ⊢
  clear hc hn hF
  have R0 := Lib.hid (numS_start w)
  go_enter Try.func79, Try.ntmps79
  go_wp2_with fail
  go_loopw [5, 11] (fun s i wr => ∃ k : Nat, k ≤ n ∧ i = .int .i64 k ∧ Hid (NumS w wr s (numsW p k))) (fun _ i _ => n - (intOf i).toNat)
  case atStart => exact ⟨0, Nat.zero_le _, rfl, R0⟩
  case round =>
    obtain ⟨k, hk, rfl, HR⟩ := hrel
    by_cases hlt : k < n
    · obtain ⟨g, off, rfl, hg, hcc⟩ := HC.out (by have := HN.out; omega)
      obtain ⟨y, hy⟩ := get_at HN.out hlt
      have o1 : wr.cell? ⟨g, off + k, none⟩ = some (.int .i64 y) := (HR.out.2.1.cell (p := ⟨g, off + k, none⟩) hg).trans (hcc k y hy)
      have HE := Lib.hid (HF.out k y wr hy HR.out.2.1)
      have hbl := numsW_len p k
      clear hcc hy
      go_wp2_with fail
      rw [hE, Oper.upon_enter]
      refine HE.out.mono ?_
      rintro e w1 ⟨rfl, hb⟩
      have R1 := Lib.hid (HR.out.below hb)
      clear hb o1
      cases hp : p k with
      | true =>
        have HT := Lib.hid (numsW_yes hp)
        have hrow := R1.out.1
        have hz := R1.out.2.1.size
        generalize numsW p k = S at *
        clear hp
        go_wp2_with (at_builtin; refine wpList_append_own _ rfl _ _ 24 rfl w.heap.size 3 f3 (.int .i64 0) 1 8 Try.underlying24 hi3 hz0 hz1 hz2 rfl (by decide) _ _ _ rfl (hrow.alloc _) ⟨w1.heap.size, 0, none⟩ 1 1 [.int .i64 ((k : Int) + 1)] rfl rfl (cell_one_new _ _ _) (by simp [Value.oneCell']) (by unfold maxLen; omega) (by omega) (by simp; omega) ?_; intro v' w4 hown' hgrow hnil)
        have HN4 : Hid (NumS w w4 v' (numsW p (k + 1))) := Lib.hid (by rw [HT.out]; exact R1.out.push hown' hgrow (fun e => by have := (hnil.1 e).2; omega))
        clear hown' hgrow hnil hrow
        exact ⟨⟨k + 1, by omega, by go_num, HN4⟩, by simp [intOf]; omega⟩
      | false =>
        have HT := Lib.hid (numsW_no hp)
        clear hp
        go_wp2_with fail
        exact ⟨⟨k + 1, by omega, by go_num, Lib.hid (by rw [HT.out]; exact R1.out)⟩, by simp [intOf]; omega⟩
    · obtain rfl : k = n := by omega
      go_wp2_with fail
      go_ret
      exact HR.out.done2

/-- Whether the port of a place is p. -/
def isP (P : List Int) (p : Int) (i : Nat) : Bool := P.getD i 0 == p
theorem enters_forP : Enters Try.prog 87 := enters_of Try.func87 (by kernel_rfl) rfl
set_option maxHeartbeats 1000000 in
theorem forP_any (x p : Int) (A : Nat) (w : World) (hc : w.cell? ⟨A, 0, none⟩ = some (.int .i64 p)) : Calls Try.prog 87 #[.int .i64 x, .pointer (some ⟨A, 0, none⟩)] w fun e w' => e = .returned (.bool (x == p)) ∧ Below w.heap.size w w' := by
  go_enter Try.func87, Try.ntmps87
  go_wp2
  go_ret
  exact ⟨rfl, Below.refl _ _⟩

set_option maxRecDepth 100000 in
set_option maxHeartbeats 2000000 in
theorem numbersFor_any (v : Value) (r h : Int) (P : List Int) (p : Int) (hn : P.length ≤ 1048576) (w : World) (hv : StR w v r h P) :
    Calls Try.prog 69 #[v, .int .i64 p] w (NewN w (numsW (isP P p) P.length)) := by
  obtain ⟨v0, rfl, hv⟩ := hv
  have hb0 := below_one w (.cells #[.int .i64 r, .int .i64 h, v0] 26)
  have hb1 := below_one (w.alloc (.cells #[.int .i64 r, .int .i64 h, v0] 26)) (.cells #[.int .i64 p] 3)
  have B0 := Lib.hid (hb0.trans (hb1.mono hb0.size))
  have HA := (Box3.new w r h v0 26).below hb1
  obtain ⟨-, c0, c1, c2⟩ := HA
  have hp := heap_alloc_new (w.alloc (.cells #[.int .i64 r, .int .i64 h, v0] 26)) (.cells #[.int .i64 p] 3)
  rw [show (w.alloc (.cells #[.int .i64 r, .int .i64 h, v0] 26)).heap.size = w.heap.size + 1 by simp] at hp
  have HPc := Lib.hid hp
  have HNW := Lib.hid (nums_some 87 #[.pointer (some ⟨w.heap.size + 1, 0, none⟩)] enters_forP v0 P (isP P p) hn _ (hv.below B0.out) (fun i x W hx hb => by
    have e : isP P p i = (x == p) := by simp [isP, List.getD, hx]
    rw [e]
    exact forP_any x p (w.heap.size + 1) W ((hb.cell (p := ⟨w.heap.size + 1, 0, none⟩) ((Array.getElem?_eq_some_iff.1 HPc.out).1)).trans (cell_of HPc.out rfl))))
  clear hb0 hb1 hv hp
  generalize numsW (isP P p) P.length = R at *
  unfold NewN at HNW ⊢
  generalize R.length = m at *
  go_enter Try.func69, Try.ntmps69
  go_wp2_with fail
  refine HNW.out.mono ?_
  rintro e w1 ⟨g, c, rfl, ho, hb⟩
  have O1 := Lib.hid ho
  have B1 := Lib.hid (B0.out.trans (hb.mono B0.out.size))
  have HZ := Lib.hid B0.out.size
  clear ho hb
  go_wp2_with fail
  go_ret
  exact ⟨g, c, rfl, O1.out.mono HZ.out, B1.out⟩
end Go.Proofs.Ytpflnjjckeeihaa
