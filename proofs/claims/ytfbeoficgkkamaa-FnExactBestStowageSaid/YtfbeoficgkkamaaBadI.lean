/-
  What impl.badlyPlacedIn and impl.BadlyPlaced return. No statement of the seat by itself.
-/
import Derived.Test.YtfbeoficgkkamaaEarI
import Derived.Test.YtfbeoficgkkamaaBadM
import Derived.Test.YtfbeoficgkkamaaOwnI
import Derived.Test.YtfbeoficgkkamaaCopyI
import Derived.Test.YtfbeoficgkkamaaBadP
import Derived.Test.YtfbeoficgkkamaaLaidSrt
import Derived.Sort.OwnSortedInts
namespace Go.Proofs.Ytfbeoficgkkamaa
open Go.RowKit Go.Sort

/-- A list of the call's own was answered, and nothing older turned. -/
def NewB (w : World) (R : List Int) (e : Ending) (w' : World) : Prop := ∃ u, e = .returned u ∧ w'.ownsRow w.heap.size 3 1 u R.length (intV R) ∧ Below w.heap.size w w'
theorem own_nil (w : World) (B : Nat) : w.ownsRow B 3 1 (.slice none 0 0) 0 (intV []) := ⟨rfl, .inl ⟨rfl, rfl⟩⟩

set_option maxRecDepth 100000 in
set_option maxHeartbeats 4000000 in
theorem badlyPlacedIn_any (v : Value) (l : List Int) (hl : l.length ≤ 100) (w : World) (h : OwnI w v l) :
    Calls Try.prog 108 #[v] w (NewB w (badL l l.length)) := by
  obtain ⟨f3, hi3, hz0, hz1, hz2⟩ := info_is info3
  obtain ⟨a, c, rfl, hc⟩ := h.form
  obtain ⟨n, hn⟩ : ∃ n, l.length = n := ⟨_, rfl⟩
  have HN := Lib.hid hn
  have HI : Hid (∀ W, Below w.heap.size w W → IL W (.slice a n c) l) := Lib.hid fun W hb => by
    have := h.read.below hb
    rw [hn] at this
    exact this
  rw [hn] at hl hc ⊢
  clear h hn
  have R0 := Lib.hid (own_nil w w.heap.size)
  go_enter Try.func108, Try.ntmps108
  go_wp2_with fail
  go_loopw [3, 8] (fun s i wr => ∃ k : Nat, k ≤ n ∧ i = .int .i64 k ∧ Hid (wr.ownsRow w.heap.size 3 1 s (badL l k).length (intV (badL l k))) ∧ Hid (Below w.heap.size w wr)) (fun _ i _ => n - (intOf i).toNat)
  case atStart => exact ⟨0, Nat.zero_le _, rfl, R0, Lib.hid (Below.refl _ _)⟩
  case round =>
    obtain ⟨k, hk, rfl, HR, HB⟩ := hrel
    by_cases hlt : k < n
    · obtain ⟨a', c', e, hcc⟩ := HI.out wr HB.out
      obtain ⟨g, off, e2, hg', hcl⟩ := hcc (by have := HN.out; omega)
      injection e with e1 e4 e5
      subst e2
      subst e1
      clear e4 e5
      obtain ⟨y, hy⟩ := get_at HN.out hlt
      have o1 : wr.cell? ⟨g, off + k, none⟩ = some (.int .i64 y) := hcl k y hy
      have hkc : (k : Int) ≤ (c : Int) := by omega
      have HE := Lib.hid (earliestIn_any (.slice (some ⟨g, off, none⟩) k c) (l.take k) (by rw [List.length_take]; omega) wr (il_take (HI.out wr HB.out) HN.out (by omega)))
      have hbl := badL_len l k
      by_cases hey : earL (l.take k) < y
      · have HS := Lib.hid (badL_yes hy hey)
        have hrow := HR.out
        generalize badL l k = S at *
        generalize earL (l.take k) = z at *
        have HB' := HB.out.size
        clear hcc hcl hy
        go_wp2_with fail
        refine HE.out.mono ?_
        rintro e w1 ⟨rfl, rfl⟩
        go_wp2_with (at_builtin; refine wpList_append_own _ rfl _ _ 24 rfl w.heap.size 3 f3 (.int .i64 0) 1 8 Try.underlying24 hi3 hz0 hz1 hz2 rfl (by decide) _ _ _ rfl (hrow.alloc _) ⟨wr.heap.size, 0, none⟩ 1 1 [.int .i64 y] rfl rfl (cell_one_new _ _ _) (by simp [Value.oneCell']) (by unfold maxLen; omega) (by omega) (by simp; omega) ?_; intro v' w4 hown' hgrow hnil)
        have HN4 : Hid (w4.ownsRow w.heap.size 3 1 v' (badL l (k + 1)).length (intV (badL l (k + 1)))) := Lib.hid (by rw [HS.out, List.length_append, List.length_singleton]; simpa [intV] using hown')
        have HB4 : Hid (Below w.heap.size w w4) := Lib.hid (((HB.out.alloc HB' _)).grown hgrow (by simp; omega) (fun j e => row_base hrow j e))
        clear hown' hgrow hnil hrow
        exact ⟨⟨k + 1, by omega, by go_num, HN4, HB4⟩, by simp [intOf]; omega⟩
      · have HS := Lib.hid (badL_no hy hey)
        generalize earL (l.take k) = z at *
        clear hcc hcl hy
        go_wp2_with fail
        refine HE.out.mono ?_
        rintro e w1 ⟨rfl, rfl⟩
        go_wp2_with fail
        exact ⟨⟨k + 1, by omega, by go_num, by rw [HS.out]; exact HR, HB⟩, by simp [intOf]; omega⟩
    · obtain rfl : k = n := by omega
      go_wp2_with fail
      go_ret
      exact ⟨_, rfl, HR.out, HB.out⟩
end Go.Proofs.Ytfbeoficgkkamaa
