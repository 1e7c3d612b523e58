/-
  What impl.ShiftedBoxes returns. No statement of the seat by itself.
-/
import Derived.Test.YtpflnjjckeeihaaZStI
import Derived.Test.YtpflnjjckeeihaaZNb
namespace Go.Proofs.Ytpflnjjckeeihaa
open Go.RowKit

/-- The shifted containers. -/
def shR (r h : Int) (P O : List Int) : List Int := if okZ r h P O = true then numsW (shB P O) O.length else []
theorem shR_no {r h : Int} {P O : List Int} (g : okZ r h P O = false) : shR r h P O = [] := by simp [shR, g]
theorem shR_yes {r h : Int} {P O : List Int} (g : okZ r h P O = true) : shR r h P O = numsW (shB P O) O.length := by simp [shR, g]
theorem shR_len (r h : Int) (P O : List Int) : (shR r h P O).length ≤ 1048576 := by
  cases g : okZ r h P O with
  | false => rw [shR_no g]; simp
  | true =>
    rw [shR_yes g]
    obtain ⟨g1, g2, g3, g4, -, -, -⟩ := okZ_get g
    have := numsW_len (shB P O) O.length
    omega
theorem retL_num {w w1 w2 : World} {g c : Nat} {R : List Int} {ok : Bool} (ho : w2.ownsRow w1.heap.size 3 1 (.slice (some ⟨g, 0, none⟩) R.length c) R.length (intV R)) (hb : Below w1.heap.size w1 w2) (hb0 : Below w.heap.size w w1) : RetL w R ok (.returned (.tuple #[.slice (some ⟨g, 0, none⟩) R.length c, .bool ok])) w2 :=
  ⟨_, _, rfl, lo_of_own ho hb0.size, hb0.trans (hb.mono hb0.size)⟩

set_option maxRecDepth 100000 in
set_option maxHeartbeats 4000000 in
theorem implSh_any (v vo : Value) (r h : Int) (P O : List Int) (hn : P.length ≤ 1048576) (hO : O.length ≤ 1048576) (w : World) (hv : StR w v r h P) (ho : IL w vo O) :
    Calls Try.prog 19 #[v, vo] w (RetL w (shR r h P O) (okZ r h P O)) := by
  obtain ⟨v0, rfl, hv⟩ := hv
  have BA := Lib.hid (Box3.new w r h v0 26)
  have B0 := Lib.hid (below_one w (.cells #[.int .i64 r, .int .i64 h, v0] 26))
  have HF := Lib.hid (stowed_any (.agg #[.int .i64 r, .int .i64 h, v0]) vo r h P O hn hO _ ⟨v0, rfl, hv.below B0.out⟩ (ho.below B0.out))
  obtain ⟨-, c0, c1, c2⟩ := BA.out
  obtain ⟨ao, co, rfl⟩ := ho.form
  clear hv ho
  go_enter Try.func19, Try.ntmps19
  go_wp2_with fail
  refine HF.out.mono ?_
  rintro e w1 ⟨hb, ⟨hg, rfl⟩ | ⟨hg, g, c, fa, fm, fc, rfl, hlt, hcs⟩⟩
  · have B1 := Lib.hid (B0.out.trans (hb.mono B0.out.size))
    have HX := Lib.hid (And.intro (shR_no hg) hg)
    have HNW := Lib.hid (numsb_any 57 #[] enters_shift none 0 0 (fun _ => true) (fun _ => 0) (fun _ => none) (fun _ => 0) (fun _ => 0) (by decide) w1 (fun h => by omega) (fun i W hi => by omega))
    clear hb hg c0 c1 c2
    go_wp2_with fail
    refine HNW.out.mono ?_
    rintro e w2 ⟨g2, k2, rfl, ho2, hb2⟩
    have HRet := Lib.hid (retL_num (ok := false) ho2 hb2 B1.out)
    clear ho2 hb2
    go_wp2_with fail
    go_ret2
    rw [HX.out.1, HX.out.2]
    exact HRet.out
  · have B1 := Lib.hid (B0.out.trans (hb.mono B0.out.size))
    have HX := Lib.hid (And.intro (shR_yes hg) hg)
    obtain ⟨g1, g2, g3, g4, g5, -, -⟩ := okZ_get hg
    have HNW := Lib.hid (numsb_any 57 #[] enters_shift (some ⟨g, 0, none⟩) O.length c (shB P O) (fun i => P.getD i 0) fa fm fc hO w1 (fun _ => ⟨g, 0, rfl, hlt, fun i hi => (hcs i hi).1⟩) (fun i W hi hbW => by
      have h9 : P.getD i 0 ≤ 9 := by
        have := g5 (P.getD i 0) (by rw [List.getD, List.getElem?_eq_getElem (by omega)]; exact List.getElem_mem _)
        omega
      rw [shB_ear h9]
      exact isShifted_any _ _ _ (by have := blZ_len P O i; omega) W ((hcs i hi).2.below hbW)))
    generalize O.length = n at *
    clear hb hg c0 c1 c2 g1 g2 g3 g4 g5 hcs hlt
    go_wp2_with fail
    refine HNW.out.mono ?_
    rintro e w2 ⟨g2, k2, rfl, ho2, hb2⟩
    have HRet := Lib.hid (retL_num (ok := true) ho2 hb2 B1.out)
    clear ho2 hb2
    go_wp2_with fail
    go_ret2
    rw [HX.out.1, HX.out.2]
    exact HRet.out
end Go.Proofs.Ytpflnjjckeeihaa
