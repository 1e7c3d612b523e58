/-
  What impl.(*placementSearch).try leaves. No statement of the seat by itself.
-/
import Derived.Test.YtjplbcfpbggnnaaTryP
import Derived.Test.YtjplbcfpbggnnaaBadJ
import Derived.Test.YtjplbcfpbggnnaaEarI
namespace Go.Proofs.Ytjplbcfpbggnnaa
open Go.RowKit

theorem badN_le {Y : List (List Int)} (hg : ∀ l ∈ Y, l.length ≤ 4) : badN Y ≤ 4 * Y.length := by
  unfold badN
  exact badYL_len Y hg Y.length (Nat.le_refl _)
theorem find_none_false {s : Option (List Int × Nat)} (h : s = none) : s.isSome = false := by subst h; rfl

set_option maxRecDepth 100000 in
set_option maxHeartbeats 8000000 in
theorem tryLeaf (O P : List Int) (Y : List (List Int)) (u vl vb : Value) (vs : List Value) (s : Option (List Int × Nat)) (B S H g c : Nat) (hP : P.length = O.length) (h5 : O.length ≤ 7) (w : World)
    (hT : TrS w B g c vs Y u P) (hS : StS w B S H vl (.slice (some ⟨g, 0, none⟩) Y.length c) vb s vs u) (hO : IL w vl O) (hB : B ≤ w.heap.size) (hBS : B ≤ S) (hun : ∃ gu cu, u = .slice (some ⟨gu, 0, none⟩) P.length cu)
    (hp : ∀ q f, s = some (q, f) → ¬ f ≤ badN Y) :
    Calls Try.prog 18 #[.pointer (some ⟨S, 0, none⟩), u, .int .i64 (badN Y)] w (TryQ w B S H g c vl vb vs Y u P (some (P, badN Y))) := by
  obtain ⟨gu, cu, rfl⟩ := hun
  have HC := Lib.hid (clone_any ⟨gu, 0, none⟩ cu P (by omega) w (il_of_owns hT.lst))
  have HT := Lib.hid hT
  have HS := Lib.hid hS
  obtain ⟨al, cl, rfl⟩ := hO.form
  have c0 := cell_of (i := 0) hS.mem rfl
  have c3 := cell_of (i := 4) hS.mem rfl
  have c4 := cell_of (i := 5) hS.mem rfl
  have HFin := Lib.hid (fun (w1 : World) (va : Value) (hb : Below w.heap.size w w1) (ho : w1.ownsRow w.heap.size 3 1 va P.length (intV P)) => HS.out.found (b := badN Y) (q := P) HT.out hb ho hB hBS)
  have hlt := hS.lt
  obtain ⟨n, hn⟩ : ∃ n, O.length = n := ⟨_, rfl⟩
  rw [hn] at hP h5 c0
  have HN := Lib.hid hn
  clear hT hS hO hn
  generalize hm : P.length = m at *
  subst hP
  have HM := Lib.hid hm
  clear hm
  generalize hbn : badN Y = bn at *
  clear hbn
  have hnn : ((m : Int) == (m : Int)) = true := by simp
  cases s with
  | none =>
    rw [show (none : Option (List Int × Nat)).isSome = false from rfl] at c4
    rw [show bstF none = 0 from rfl] at c3
    clear hp
    go_enter Try.func18, Try.ntmps18
    go_wp2_with fail
    refine HC.out.mono ?_
    rintro e w1 ⟨a1, c1, rfl, ho, hb⟩
    rw [HM.out] at ho ⊢
    have HF := Lib.hid (HFin.out w1 _ hb ho)
    have hm2 := cell_of (i := 3) (HS.out.below hb).mem rfl
    have hm3 := cell_of (i := 4) (HS.out.below hb).mem rfl
    have hm4 := cell_of (i := 5) (HS.out.below hb).mem rfl
    have f2 := froz_of (i := 3) (HS.out.below hb).mem
    have f3 := froz_of (i := 4) (HS.out.below hb).mem
    have f4 := froz_of (i := 5) (HS.out.below hb).mem
    clear hb ho c0 c3 c4 hlt
    go_wp2_with fail
    refine bodyPost_ret (v := .tuple #[]) (by simp [results, Try.results18, go_sem]) rfl ⟨rfl, _, HF.out.1, HF.out.2.1, .inr HF.out.2.2.1, HF.out.2.2.2.1, HF.out.2.2.2.2⟩
  | some qf =>
    obtain ⟨q, f⟩ := qf
    have hpf := hp q f rfl
    rw [show (some (q, f) : Option (List Int × Nat)).isSome = true from rfl] at c4
    rw [show bstF (some (q, f)) = (f : Int) from rfl] at c3
    have hge : decide (f ≤ bn) = false := by simpa using hpf
    clear hp hpf
    go_enter Try.func18, Try.ntmps18
    go_wp2_with fail
    refine HC.out.mono ?_
    rintro e w1 ⟨a1, c1, rfl, ho, hb⟩
    rw [HM.out] at ho ⊢
    have HF := Lib.hid (HFin.out w1 _ hb ho)
    have hm2 := cell_of (i := 3) (HS.out.below hb).mem rfl
    have hm3 := cell_of (i := 4) (HS.out.below hb).mem rfl
    have hm4 := cell_of (i := 5) (HS.out.below hb).mem rfl
    have f2 := froz_of (i := 3) (HS.out.below hb).mem
    have f3 := froz_of (i := 4) (HS.out.below hb).mem
    have f4 := froz_of (i := 5) (HS.out.below hb).mem
    clear hb ho c0 c3 c4 hlt hge
    go_wp2_with fail
    refine bodyPost_ret (v := .tuple #[]) (by simp [results, Try.results18, go_sem]) rfl ⟨rfl, _, HF.out.1, HF.out.2.1, .inr HF.out.2.2.1, HF.out.2.2.2.1, HF.out.2.2.2.2⟩
set_option maxRecDepth 100000 in
set_option maxHeartbeats 8000000 in
theorem tryPrune (P : List Int) (Y : List (List Int)) (u vl vb : Value) (vs : List Value) (q : List Int) (f : Nat) (B S H g c : Nat) (w : World)
    (hT : TrS w B g c vs Y u P) (hS : StS w B S H vl (.slice (some ⟨g, 0, none⟩) Y.length c) vb (some (q, f)) vs u) (hp : f ≤ badN Y) :
    Calls Try.prog 18 #[.pointer (some ⟨S, 0, none⟩), u, .int .i64 (badN Y)] w (TryQ w B S H g c vl vb vs Y u P (some (q, f))) := by
  have HT := Lib.hid hT
  have HS := Lib.hid hS
  have c3 := cell_of (i := 4) hS.mem rfl
  have c4 := cell_of (i := 5) hS.mem rfl
  rw [show (some (q, f) : Option (List Int × Nat)).isSome = true from rfl] at c4
  rw [show bstF (some (q, f)) = (f : Int) from rfl] at c3
  have hge : decide (f ≤ badN Y) = true := by simpa using hp
  generalize badN Y = bn at *
  clear hT hS hp
  go_enter Try.func18, Try.ntmps18
  go_wp2_with fail
  refine bodyPost_ret (v := .tuple #[]) (by simp [results, Try.results18, go_sem]) rfl ⟨rfl, _, HT.out, HS.out, .inl rfl, FrT.refl _ _ _ _ _, Below.refl _ _⟩
end Go.Proofs.Ytjplbcfpbggnnaa
