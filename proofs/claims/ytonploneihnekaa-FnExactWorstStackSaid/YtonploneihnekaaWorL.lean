/-
  Proved here: the law FnExactWorstStack returns true at every yard, every list of containers and every int, and they read afterwards as before. There are no conditions.
-/
import Derived.Test.YtonploneihnekaaRows
import Derived.Test.YtonploneihnekaaLawC
import Derived.Test.YtonploneihnekaaWorI
import Derived.WalkKit
import Derived.ProofKit
import Derived.OpenShut
namespace Go.Proofs.Ytonploneihnekaa
open Go.Joins Go.Deep Go.ChangeShapes Go.WideShapes Go.ChangeAt Go.RowKit

set_option maxRecDepth 100000 in
set_option maxHeartbeats 16000000 in
theorem worstStack_body (v : Value) (Y : List (List Int)) (vc : Value) (n : Nat) (f : Nat → C.Cont) (p : Int) (r0 r1 : Int) (ok : Bool)  (hn : Y.length ≤ maxLen) (hs : ∀ (j : Nat) (l : List Int), Y[j]? = some l → l.length ≤ maxLen) (w : World) (hv : YdR w v Y) (hnc : n ≤ maxLen) (hcs : ∀ j, j < n → (f j).id.size ≤ maxLen) (hvc : C.ArgC w vc n f)
    (hspec : Y.length ≤ 1048576 → tot Y ≤ 1048576 → n ≤ 1048576 → (∀ j, j < n → (f j).id.size ≤ 1048576) → ∀ (u : Value) (g : Nat) W, YdR W u Y → C.CAt W g 0 n f → Calls Try.prog 31 #[u, .slice (some ⟨g, 0, none⟩) n n, .int .i64 p] W (RetP W (.tuple #[.int .i64 r0, .int .i64 r1, .bool ok])))
    (himpl : Y.length ≤ 1048576 → tot Y ≤ 1048576 → n ≤ 1048576 → (∀ j, j < n → (f j).id.size ≤ 1048576) → ∀ (u : Value) (g : Nat) W, YdR W u Y → C.CAt W g 0 n f → Calls Try.prog 32 #[u, .slice (some ⟨g, 0, none⟩) n n, .int .i64 p] W (RetP W (.tuple #[.int .i64 r0, .int .i64 r1, .bool ok]))) :
    Calls Try.prog 7 #[v, vc, .int .i64 p] w fun e w' => e = .returned (.bool true) ∧ Below w.heap.size w w' := by
  obtain ⟨v0, rfl, hv0⟩ := hv
  have HV : Hid (YdR w (.agg #[v0]) Y) := Lib.hid ⟨v0, rfl, hv0⟩
  have H1 := Lib.hid hspec
  have H2 := Lib.hid himpl
  have HSm := Lib.hid hs
  have HCs := Lib.hid hcs
  have HC := Lib.hid hvc
  obtain ⟨ac, cc, rfl⟩ := argC_form hvc
  clear hspec himpl hv0 hs hcs hvc
  go_enter Try.func7, Try.ntmps7
  go_wp2_with fail
  have BA := Lib.hid (Box1.new w v0 24)
  have B := Lib.hid (below_one w (.cells #[v0] 24))
  generalize w.alloc (.cells #[v0] 24) = w0 at *
  have ZA := Lib.hid BA.out.1
  refine (szY_any _ Y 1048576 hn HSm.out (by decide) _ (HV.out.below B.out)).mono ?_
  rintro e w1 ⟨hb, rfl | ⟨r, rfl, hr9, hn2, ht2⟩⟩
  · have B := Lib.hid (B.out.trans (hb.mono B.out.size))
    clear hb
    go_wp2_with fail
    go_ret
    exact ⟨rfl, B.out⟩
  have L1 := Lib.hid hn2
  have L2 := Lib.hid ht2
  have BA := Lib.hid (BA.out.below hb)
  have B := Lib.hid (B.out.trans (hb.mono B.out.size))
  have Z1 := Lib.hid hb.size
  clear hb
  have cBA := BA.out.2
  go_wp2_with fail
  clear cBA
  refine (C.szL_any _ n r f hr9 hnc HCs.out _ (HC.out.below B.out)).mono ?_
  rintro e w2 ⟨hb, rfl | ⟨r2, rfl, -, hn3, hi3⟩⟩
  · have B := Lib.hid (B.out.trans (hb.mono B.out.size))
    have BA := Lib.hid (BA.out.below hb)
    clear hb
    have cBA := BA.out.2
    go_wp2_with fail
    go_ret
    exact ⟨rfl, B.out⟩
  have BA := Lib.hid (BA.out.below hb)
  have B := Lib.hid (B.out.trans (hb.mono B.out.size))
  have Z2 := Lib.hid hb.size
  clear hb
  have L3 := Lib.hid hn3
  have L4 := Lib.hid hi3
  have hr3 : (0 : Int) ≤ (r2 : Int) := by omega
  clear hi3 hr9
  have cBA := BA.out.2
  go_wp2_with fail
  clear cBA
  refine (toY_any (.agg #[v0]) Y L1.out L2.out _ (HV.out.below B.out)).mono ?_
  rintro e w3 ⟨a1, k1, rfl, ho, hb⟩
  have BA := Lib.hid (BA.out.below hb)
  have B := Lib.hid (B.out.trans (hb.mono B.out.size))
  have Z3 := Lib.hid hb.size
  have O1 := Lib.hid ho
  clear ho hb
  have cBA := BA.out.2
  go_wp2_with fail
  clear cBA
  refine (toC_new _ n f L3.out _ (HC.out.below B.out)).mono ?_
  rintro e w4 ⟨rfl, ho, hb⟩
  have BA := Lib.hid (BA.out.below hb)
  have O1 := Lib.hid (O1.out.below hb)
  have B := Lib.hid (B.out.trans (hb.mono B.out.size))
  have Z4 := Lib.hid hb.size
  have P1 := Lib.hid ho
  clear ho hb
  have cBA := BA.out.2
  go_wp2_with fail
  clear cBA
  refine (H1.out L1.out L2.out L3.out L4.out _ _ _ ⟨_, rfl, O1.out.yl⟩ P1.out.at).mono ?_
  rintro e w5 ⟨rfl, hb⟩
  have BA := Lib.hid (BA.out.below hb)
  have O1 := Lib.hid (O1.out.below hb)
  have P1 := Lib.hid (P1.out.below hb)
  have B := Lib.hid (B.out.trans (hb.mono B.out.size))
  have Z5 := Lib.hid hb.size
  clear hb
  clear O1
  clear P1
  have BS := Lib.hid (Below.refl w5.heap.size w5)
  have cBA := BA.out.2
  go_wp2_with fail
  clear cBA
  refine (toY_any (.agg #[v0]) Y L1.out L2.out _ (HV.out.below B.out)).mono ?_
  rintro e w6 ⟨a3, k3, rfl, ho, hb⟩
  have BA := Lib.hid (BA.out.below hb)
  have BS := Lib.hid (BS.out.trans (hb.mono BS.out.size))
  have B := Lib.hid (B.out.trans (hb.mono B.out.size))
  have Z6 := Lib.hid hb.size
  have O3 := Lib.hid ho
  clear ho hb
  have cBA := BA.out.2
  have dBA := fun o => (World.cell?_alloc_lt w6 o ⟨w.heap.size, 0, none⟩ BA.out.1).trans BA.out.2
  go_wp2_with fail
  clear cBA
  clear dBA
  have hb := below_one w6 (.cells #[.slice a3 Y.length k3] 31)
  have BX := Lib.hid (Box1.new w6 (.slice a3 Y.length k3) 31)
  have BA := Lib.hid (BA.out.below hb)
  have O3 := Lib.hid (O3.out.below hb)
  have BS := Lib.hid (BS.out.trans (hb.mono BS.out.size))
  have B := Lib.hid (B.out.trans (hb.mono B.out.size))
  have Z7 := Lib.hid hb.size
  clear hb
  generalize w6.alloc (.cells #[.slice a3 Y.length k3] 31) = w7 at *
  have Z8 := Lib.hid BX.out.1
  have cBA := BA.out.2
  have cBX := BX.out.2
  go_wp2_with fail
  clear cBA cBX
  refine (toC_new _ n f L3.out _ (HC.out.below B.out)).mono ?_
  rintro e w8 ⟨rfl, ho, hb⟩
  have BA := Lib.hid (BA.out.below hb)
  have O3 := Lib.hid (O3.out.below hb)
  have BX := Lib.hid (BX.out.below hb)
  have BS := Lib.hid (BS.out.trans (hb.mono BS.out.size))
  have B := Lib.hid (B.out.trans (hb.mono B.out.size))
  have Z9 := Lib.hid hb.size
  have P3 := Lib.hid ho
  clear ho hb
  have cBA := BA.out.2
  have cBX := BX.out.2
  go_wp2_with fail
  clear cBA cBX
  refine (H2.out L1.out L2.out L3.out L4.out _ _ _ ⟨_, rfl, O3.out.yl⟩ P3.out.at).mono ?_
  rintro e w9 ⟨rfl, hb⟩
  have BA := Lib.hid (BA.out.below hb)
  have O3 := Lib.hid (O3.out.below hb)
  have BX := Lib.hid (BX.out.below hb)
  have P3 := Lib.hid (P3.out.below hb)
  have BS := Lib.hid (BS.out.trans (hb.mono BS.out.size))
  have B := Lib.hid (B.out.trans (hb.mono B.out.size))
  have Z10 := Lib.hid hb.size
  clear hb
  have cBA := BA.out.2
  have cBX := BX.out.2
  go_wp2_with fail
  have K0 := (KeepY.start (HV.out.below B.out) ⟨_, rfl, O3.out.yl⟩ BA.out BX.out).drew
  have KT := Lib.hid L1.out
  have hq1 := L1.out
  have hq2 := L2.out
  clear cBA cBX
  obtain ⟨hk1, hk2⟩ : w9.drew.cell? ⟨w.heap.size, 0, none⟩ = some v0 ∧ w9.drew.cell? ⟨w6.heap.size, 0, none⟩ = some (.slice a3 Y.length k3) := ⟨K0.2.2.2.1.2, K0.2.2.2.2.2⟩
  go_region_held3 (fun W => (W.cell? ⟨w.heap.size, 0, none⟩ = some v0 ∧ W.cell? ⟨w6.heap.size, 0, none⟩ = some (.slice a3 Y.length k3)) ∧ KeepY w9 w.heap.size w6.heap.size v0 (.slice a3 Y.length k3) Y W) (go_keep) (first | (go_at_call 12; refine (KeepY.to L1.out L2.out (by assumption)).mono ?_; rintro e w' ⟨u, rfl, hu, x0, x1, hK⟩) | (go_at_call 16; refine (KeepY.eq L1.out L2.out (by assumption) (by assumption)).mono ?_; rintro e w' ⟨rfl, x0, x1, hK⟩))
  rename World => w10
  have hb := hK.1
  clear hK x0 x1 hu hq1 hq2 KT
  have BA := Lib.hid (BA.out.below hb)
  have O3 := Lib.hid (O3.out.below hb)
  have BX := Lib.hid (BX.out.below hb)
  have P3 := Lib.hid (P3.out.below hb)
  have BS := Lib.hid (BS.out.trans (hb.mono BS.out.size))
  have B := Lib.hid (B.out.trans (hb.mono B.out.size))
  have Z11 := Lib.hid hb.size
  clear hb
  have cBA := BA.out.2
  have cBX := BX.out.2
  go_wp2_with fail
  clear cBA cBX
  refine (toC_new _ n f L3.out _ (HC.out.below B.out)).mono ?_
  rintro e w11 ⟨rfl, ho, hb⟩
  have BA := Lib.hid (BA.out.below hb)
  have O3 := Lib.hid (O3.out.below hb)
  have BX := Lib.hid (BX.out.below hb)
  have P3 := Lib.hid (P3.out.below hb)
  have BS := Lib.hid (BS.out.trans (hb.mono BS.out.size))
  have B := Lib.hid (B.out.trans (hb.mono B.out.size))
  have Z12 := Lib.hid hb.size
  have P5 := Lib.hid ho
  clear ho hb
  have cBA := BA.out.2
  have cBX := BX.out.2
  go_wp2_with fail
  clear cBA cBX
  refine (eqC_new L3.out P3.out P5.out).mono ?_
  rintro e w12 ⟨rfl, hb⟩
  have BA := Lib.hid (BA.out.below hb)
  have O3 := Lib.hid (O3.out.below hb)
  have BX := Lib.hid (BX.out.below hb)
  have P3 := Lib.hid (P3.out.below hb)
  have P5 := Lib.hid (P5.out.below hb)
  have BS := Lib.hid (BS.out.trans (hb.mono BS.out.size))
  have B := Lib.hid (B.out.trans (hb.mono B.out.size))
  have Z13 := Lib.hid hb.size
  clear hb
  clear P5
  have cBA := BA.out.2
  have cBX := BX.out.2
  go_wp2_with fail
  go_ret
  exact ⟨rfl, B.out⟩

set_option maxRecDepth 100000 in
theorem worstStack_lifted (os : Os) (started : os.Started) (H : Type) (enc : TypeId × Value → H) :
    ReturnsInHanded {} Try.checked os 7 .any (Rows.fnExactWorstStackSpec.pre6 enc Try.prog Try.f7 Rows.fnExactWorstStackRow.domain false) (Rows.fnExactWorstStackSpec.post enc Try.prog Try.f7 false true false false) := by
  refine returnsInHanded_of_change (C := Try.checked) yard_own started (by kernel_rfl) Try.func7
    (ChangeSpec.witness6 (enc := enc) (C := Try.checked) false ⟨#[], #[.agg #[.slice none 0 0], .slice none 0 0, .int .i64 0], []⟩ 8 (by kernel_rfl) (by kernel_rfl) (by kernel_rfl) (by kernel_rfl)) ?_
  intro W base args ds gs before hval0 hW hcnd0 _
  have hval : ∀ (j : Nat) t v, Try.f7.params[j]? = some t → args[j]? = some v → Value.okWide Try.prog W .any base t v := hval0
  have hW' := hW
  obtain ⟨p, q, hA0, hV, rfl, hfz, _⟩ := hW
  have hA : DataW.TrodAll enc Try.prog W 0 (fun _ => true) true Try.f7.params.toList args.toList ds p := hA0
  rw [Try.params7] at hA hval
  obtain ⟨v0, v1, v2, d0, d1, d2, p0, p1, p2, rfl, rfl, rfl, h0, h1, h2⟩ := trodAll_three hA
  obtain ⟨rfl, rfl⟩ := trodVars_none hV
  obtain ⟨x2, rfl, rfl, rfl, wd2⟩ := open_int Try.underlying3 (hval 2 3 v2 rfl rfl) h2
  clear hA0 hval0 hcnd0
  simp only [List.append_nil] at hW'
  have hlt : ∀ x ∈ (p0 ++ p1), x.block < W.heap.size := fun x hx => by simpa using hW'.lt x (by simpa using hx)
  have hlt0 : ∀ x ∈ p0, x.block < W.heap.size := fun x hx => hlt x (List.mem_append_left _ hx)
  have hlt1 : ∀ x ∈ p1, x.block < W.heap.size := fun x hx => hlt x (List.mem_append_right _ hx)
  obtain ⟨Y, hn, hs, hv⟩ := open_yard (hval 0 24 v0 rfl rfl) h0 hlt0
  obtain ⟨a1, len1, cap1, rfl⟩ := okWide_slice Try.underlying25 (hval 1 25 v1 rfl rfl)
  obtain ⟨f, hnc, hcs, hvc⟩ := C.open_conts h1 hlt1
  refine (worstStack_body v0 Y _ len1 f x2 (worR len1 f Y x2).1 (worR len1 f Y x2).2 (askF len1 f Y x2) hn hs W hv hnc hcs hvc (fun h1 h2 h3 h4 u g W hu hc => specWor_any u Y g len1 f x2 h1 h2 h3 h4 W hu hc) (fun h1 h2 h3 h4 u g W hu hc => implWor_any u Y g len1 f x2 h1 h2 h3 h4 W hu hc)).mono fun e W' ⟨he, hB⟩ => ?_
  subst he
  refine ⟨_, rfl, _, _, _, [], (p0 ++ p1), [], hW', ?_, ?_, rfl, hB.frame _, fun h => by cases h⟩
  · exact trodAll_mk1 (shut_bool Try.underlying4 true)
  · have h9 := trodAll_mk3 (Below.trod yard_laidOut (by kernel_rfl) (of_decide_eq_true (by kernel_rfl)) h0 hB hlt0) (Below.trod yard_laidOut (by kernel_rfl) (of_decide_eq_true (by kernel_rfl)) h1 hB hlt1) (shut_int Try.underlying3 wd2)
    first
      | exact h9
      | (simp only [List.append_nil] at h9; exact h9)

theorem FnExactWorstStack_holds : Rows.FnExactWorstStackSaid :=
  OpenClaim.holds_of_wide 7 Try.f7 rfl rfl rfl rfl rfl rfl rfl ⟨rfl, rfl, rfl, rfl, rfl⟩ rfl rfl rfl rfl rfl (by kernel_rfl) Try.func7 (by kernel_rfl)
    (of_decide_eq_true (by kernel_rfl)) (by unfold Func.isWrapper; first | (rw [if_pos (by decide +kernel)]; kernel_rfl) | (rw [if_neg (by decide +kernel)]; exact ⟨rfl, rfl⟩))
    (fun os started H enc _ => worstStack_lifted os started H enc)
#print axioms FnExactWorstStack_holds

end Go.Proofs.Ytonploneihnekaa
