/-
  What LoadsOf answers, in the program and in the reference. No statement of the seat by itself.
-/
import Derived.Test.YtffejbgcgagkpaaCrL
import Derived.Test.YtffejbgcgagkpaaLsCat
namespace Go.Proofs.Ytffejbgcgagkpaa
open Go.RowKit

theorem retL_empty {w W : World} (hb : Below w.heap.size w W) : RetL w [] false (.returned (.tuple #[.slice (some ⟨W.heap.size, 0, none⟩) 0 0, .bool false])) (W.alloc (.cells #[] 3)) :=
  retL_of (B := W.heap.size) (by simpa [intV] using own_empty W (.cells #[] 3) 3 rfl) hb.size (hb.alloc hb.size _)
theorem lofR_no {l : List Int} {c : Int} {d : List Int} (h : dvK l c d = false) : lofR l c d = [] := by simp [lofR, h]
theorem lofR_yes {l : List Int} {c : Int} {d : List Int} (h : dvK l c d = true) : lofR l c d = ldsC l d (d.length + 1) := by simp [lofR, h]

set_option maxRecDepth 100000 in
set_option maxHeartbeats 4000000 in
theorem specLo_any (v vd : Value) (l d : List Int) (c : Int) (hn : l.length ≤ 1048576) (hd : d.length ≤ 1048576) (w : World) (h : IL w v l) (h2 : IL w vd d) :
    Calls Try.prog 18 #[v, .int .i64 c, vd] w (RetL w (lofR l c d) (dvK l c d)) := by
  have HA := Lib.hid (l13Asked_any v l c hn w h)
  have HV := Lib.hid h
  have HV2 := Lib.hid h2
  cases ha : askC l c with
  | false =>
    have hk : dvK l c d = false := by simp [dvK, ha]
    rw [hk, lofR_no hk]
    rw [ha] at HA
    clear h h2 ha hk
    go_enter Try.func18, Try.ntmps18
    go_wp2_with fail
    refine HA.out.mono ?_
    rintro e w1 ⟨rfl, hb⟩
    have HB := Lib.hid hb
    clear hb
    go_wp2_with fail
    go_ret2
    exact retL_empty HB.out
  | true =>
    rw [ha] at HA
    obtain ⟨hw, hc⟩ := askC_iff.1 ha
    have HD := Lib.hid (fun W hW hW2 => l13Division_any v vd l d c hn hd hc W hW hW2)
    cases hv : dvB l.length c d with
    | false =>
      have hk : dvK l c d = false := by simp [dvK, hv]
      rw [hk, lofR_no hk]
      rw [hv] at HD
      clear h h2 ha hk hw hc hv
      go_enter Try.func18, Try.ntmps18
      go_wp2_with fail
      refine HA.out.mono ?_
      rintro e w1 ⟨rfl, hb⟩
      have HB := Lib.hid hb
      clear hb
      go_wp2_with fail
      refine (HD.out _ (HV.out.below HB.out) (HV2.out.below HB.out)).mono ?_
      rintro e w2 ⟨rfl, hb⟩
      have HB := Lib.hid (HB.out.trans (hb.mono HB.out.size))
      clear hb
      go_wp2_with fail
      go_ret2
      exact retL_empty HB.out
    | true =>
      have hk : dvK l c d = true := by simp [dvK, hv, ha]
      obtain ⟨hv1, hv2⟩ := dvB_iff.1 hv
      have HL := Lib.hid (fun W hW hW2 => l13Loads_any v vd l d hw (by omega) hv2 W hW hW2)
      rw [hk, lofR_yes hk]
      rw [hv] at HD
      clear h h2 ha hk hw hc hv hv1 hv2
      generalize ldsC l d (d.length + 1) = R at *
      go_enter Try.func18, Try.ntmps18
      go_wp2_with fail
      refine HA.out.mono ?_
      rintro e w1 ⟨rfl, hb⟩
      have HB := Lib.hid hb
      clear hb
      go_wp2_with fail
      refine (HD.out _ (HV.out.below HB.out) (HV2.out.below HB.out)).mono ?_
      rintro e w2 ⟨rfl, hb⟩
      have HB := Lib.hid (HB.out.trans (hb.mono HB.out.size))
      clear hb
      go_wp2_with fail
      refine (HL.out _ (HV.out.below HB.out) (HV2.out.below HB.out)).mono ?_
      rintro e w3 ⟨a, cc, rfl, ho, hb⟩
      have HX : Hid (RetL w R true (.returned (.tuple #[.slice a R.length cc, .bool true])) w3) := Lib.hid (retL_of ho HB.out.size (HB.out.trans (hb.mono HB.out.size)))
      clear ho hb
      go_wp2_with fail
      go_ret2
      exact HX.out

/-- A table that reads so was answered, and a yes or no. -/
def RetT (w : World) (Y : List (List Int)) (ok : Bool) (e : Ending) (w' : World) : Prop := ∃ a c, e = .returned (.tuple #[.slice a Y.length c, .bool ok]) ∧ YL w' (.slice a Y.length c) Y ∧ Below w.heap.size w w'
theorem retT_nil {w W : World} (hb : Below w.heap.size w W) : RetT w [] false (.returned (.tuple #[.slice none 0 0, .bool false])) W := ⟨none, 0, rfl, ⟨none, 0, rfl, fun h => by simp at h⟩, hb⟩
def shsR (l : List Int) (c : Int) (d : List Int) : List (List Int) := if dvK l c d = true then shsC l d (d.length + 1) else []
theorem shsR_no {l : List Int} {c : Int} {d : List Int} (h : dvK l c d = false) : shsR l c d = [] := by simp [shsR, h]
theorem shsR_yes {l : List Int} {c : Int} {d : List Int} (h : dvK l c d = true) : shsR l c d = shsC l d (d.length + 1) := by simp [shsR, h]
theorem RetT.up {w w1 w' : World} {Y : List (List Int)} {ok : Bool} {e : Ending} (h : RetT w1 Y ok e w') (hb : Below w.heap.size w w1) : RetT w Y ok e w' := by
  obtain ⟨a, c, h1, h2, h3⟩ := h
  exact ⟨a, c, h1, h2, hb.trans (h3.mono hb.size)⟩
/-- A stretch of a list that reads so. -/
theorem il_mid {w : World} {g off n lo hi c' : Nat} {A : Option Addr} {l : List Int} (h : ∀ (j : Nat) (x : Int), l[j]? = some x → w.cell? ⟨g, off + j, none⟩ = some (.int .i64 x)) (hg : g < w.heap.size) (hn : l.length = n) (h1 : lo ≤ hi) (h2 : hi ≤ n) (hA : lo < hi → A = some ⟨g, off + lo, none⟩) :
    IL w (.slice A (hi - lo) c') ((l.take hi).drop lo) := by
  have hl : ((l.take hi).drop lo).length = hi - lo := by rw [List.length_drop, List.length_take]; omega
  refine ⟨_, _, by rw [hl], fun h0 => ⟨g, off + lo, hA (by omega), hg, fun j x hx => ?_⟩⟩
  rw [List.getElem?_drop, List.getElem?_take] at hx
  split at hx
  · have := h _ _ hx
    rwa [show off + lo + j = off + (lo + j) by omega]
  · cases hx
end Go.Proofs.Ytffejbgcgagkpaa
