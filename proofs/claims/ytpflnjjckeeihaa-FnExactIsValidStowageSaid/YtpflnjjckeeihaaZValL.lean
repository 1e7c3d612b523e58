/-
  Proved here: the law FnExactIsValidStowage returns true at every stowage, and the arguments read afterwards as before. There are no conditions.
-/
import Derived.Test.YtpflnjjckeeihaaRows
import Derived.Test.YtpflnjjckeeihaaZSto
import Derived.Test.YtpflnjjckeeihaaZV
import Derived.WalkKit
import Derived.ProofKit
import Derived.OpenShut
namespace Go.Proofs.Ytpflnjjckeeihaa
open Go.Joins Go.Deep Go.ChangeShapes Go.WideShapes Go.ChangeAt Go.RowKit

set_option maxRecDepth 100000 in
set_option maxHeartbeats 16000000 in
theorem isValidStowage_body (v : Value) (rr hh : Int) (P : List Int) (r0 : Bool)  (hn : P.length ≤ maxLen) (w : World) (hv : StR w v rr hh P)
    (hspec : P.length ≤ 1048576 → ∀ (u : Value) W, StR W u rr hh P → Calls Try.prog 32 #[u] W (RetP W (.bool r0)))
    (himpl : P.length ≤ 1048576 → ∀ (u : Value) W, StR W u rr hh P → Calls Try.prog 18 #[u] W (RetP W (.bool r0))) :
    Calls Try.prog 5 #[v] w fun e w' => e = .returned (.bool true) ∧ Below w.heap.size w w' := by
  obtain ⟨v0, rfl, hv0⟩ := hv
  have HI := Lib.hid hv0
  have HV : Hid (StR w (.agg #[.int .i64 rr, .int .i64 hh, v0]) rr hh P) := Lib.hid ⟨v0, rfl, hv0⟩
  have H1 := Lib.hid hspec
  have H2 := Lib.hid himpl
  clear hspec himpl hv0
  go_enter Try.func5, Try.ntmps5
  go_wp2_with fail
  have BA := Lib.hid (Box3.new w rr hh v0 49)
  have B := Lib.hid (below_one w (.cells #[.int .i64 rr, .int .i64 hh, v0] 49))
  generalize w.alloc (.cells #[.int .i64 rr, .int .i64 hh, v0] 49) = w0 at *
  have ZA := Lib.hid BA.out.1
  refine (szS_any _ rr hh P hn _ (HV.out.below B.out)).mono ?_
  rintro e w1 ⟨hb, rfl | ⟨r, rfl, hn2⟩⟩
  · have B := Lib.hid (B.out.trans (hb.mono B.out.size))
    clear hb
    go_wp2_with fail
    go_ret
    exact ⟨rfl, B.out⟩
  have L1 := Lib.hid hn2
  have BA := Lib.hid (BA.out.below hb)
  have B := Lib.hid (B.out.trans (hb.mono B.out.size))
  have Z1 := Lib.hid hb.size
  clear hb
  have c0BA := BA.out.2.1
  have c1BA := BA.out.2.2.1
  have c2BA := BA.out.2.2.2
  go_wp2_with fail
  clear c0BA c1BA c2BA
  refine (toS_any (.agg #[.int .i64 rr, .int .i64 hh, v0]) rr hh P L1.out _ (HV.out.below B.out)).mono ?_
  rintro e w2 ⟨a1, k1, rfl, ho, hb⟩
  have BA := Lib.hid (BA.out.below hb)
  have B := Lib.hid (B.out.trans (hb.mono B.out.size))
  have Z2 := Lib.hid hb.size
  have O1 := Lib.hid ho
  clear ho hb
  have c0BA := BA.out.2.1
  have c1BA := BA.out.2.2.1
  have c2BA := BA.out.2.2.2
  go_wp2_with fail
  clear c0BA c1BA c2BA
  refine (H1.out L1.out _ _ ⟨_, rfl, O1.out.read⟩).mono ?_
  rintro e w3 ⟨rfl, hb⟩
  have BA := Lib.hid (BA.out.below hb)
  have O1 := Lib.hid (O1.out.below hb)
  have B := Lib.hid (B.out.trans (hb.mono B.out.size))
  have Z3 := Lib.hid hb.size
  clear hb
  clear O1
  have BS := Lib.hid (Below.refl w3.heap.size w3)
  have c0BA := BA.out.2.1
  have c1BA := BA.out.2.2.1
  have c2BA := BA.out.2.2.2
  go_wp2_with fail
  clear c0BA c1BA c2BA
  refine (toS_any (.agg #[.int .i64 rr, .int .i64 hh, v0]) rr hh P L1.out _ (HV.out.below B.out)).mono ?_
  rintro e w4 ⟨a3, k3, rfl, ho, hb⟩
  have BA := Lib.hid (BA.out.below hb)
  have BS := Lib.hid (BS.out.trans (hb.mono BS.out.size))
  have B := Lib.hid (B.out.trans (hb.mono B.out.size))
  have Z4 := Lib.hid hb.size
  have O3 := Lib.hid ho
  clear ho hb
  have c0BA := BA.out.2.1
  have c1BA := BA.out.2.2.1
  have c2BA := BA.out.2.2.2
  have d0BA := fun o => (World.cell?_alloc_lt w4 o ⟨w.heap.size, 0, none⟩ BA.out.1).trans BA.out.2.1
  have d1BA := fun o => (World.cell?_alloc_lt w4 o ⟨w.heap.size, 1, none⟩ BA.out.1).trans BA.out.2.2.1
  have d2BA := fun o => (World.cell?_alloc_lt w4 o ⟨w.heap.size, 2, none⟩ BA.out.1).trans BA.out.2.2.2
  go_wp2_with fail
  clear c0BA c1BA c2BA
  clear d0BA d1BA d2BA
  have hb := below_one w4 (.cells #[.int .i64 rr, .int .i64 hh, .slice a3 P.length k3] 26)
  have BX := Lib.hid (Box3.new w4 rr hh (.slice a3 P.length k3) 26)
  have BA := Lib.hid (BA.out.below hb)
  have O3 := Lib.hid (O3.out.below hb)
  have BS := Lib.hid (BS.out.trans (hb.mono BS.out.size))
  have B := Lib.hid (B.out.trans (hb.mono B.out.size))
  have Z5 := Lib.hid hb.size
  clear hb
  generalize w4.alloc (.cells #[.int .i64 rr, .int .i64 hh, .slice a3 P.length k3] 26) = w5 at *
  have Z6 := Lib.hid BX.out.1
  have c0BA := BA.out.2.1
  have c1BA := BA.out.2.2.1
  have c2BA := BA.out.2.2.2
  have c0BX := BX.out.2.1
  have c1BX := BX.out.2.2.1
  have c2BX := BX.out.2.2.2
  go_wp2_with fail
  clear c0BA c1BA c2BA c0BX c1BX c2BX
  refine (H2.out L1.out _ _ ⟨_, rfl, O3.out.read⟩).mono ?_
  rintro e w6 ⟨rfl, hb⟩
  have BA := Lib.hid (BA.out.below hb)
  have O3 := Lib.hid (O3.out.below hb)
  have BX := Lib.hid (BX.out.below hb)
  have BS := Lib.hid (BS.out.trans (hb.mono BS.out.size))
  have B := Lib.hid (B.out.trans (hb.mono B.out.size))
  have Z7 := Lib.hid hb.size
  clear hb
  have c0BA := BA.out.2.1
  have c1BA := BA.out.2.2.1
  have c2BA := BA.out.2.2.2
  have c0BX := BX.out.2.1
  have c1BX := BX.out.2.2.1
  have c2BX := BX.out.2.2.2
  go_wp2_with fail
  have K0 := (KeepZ.start (HI.out.below B.out) O3.out.read BA.out BX.out).drew
  have KT := Lib.hid L1.out
  have hq1 := L1.out
  clear c0BA c1BA c2BA c0BX c1BX c2BX
  obtain ⟨hk0, hk1, hk2, hk3, hk4, hk5⟩ : w6.drew.cell? ⟨w.heap.size, 0, none⟩ = some (.int .i64 rr) ∧ w6.drew.cell? ⟨w.heap.size, 1, none⟩ = some (.int .i64 hh) ∧ w6.drew.cell? ⟨w.heap.size, 2, none⟩ = some v0 ∧ w6.drew.cell? ⟨w4.heap.size, 0, none⟩ = some (.int .i64 rr) ∧ w6.drew.cell? ⟨w4.heap.size, 1, none⟩ = some (.int .i64 hh) ∧ w6.drew.cell? ⟨w4.heap.size, 2, none⟩ = some (.slice a3 P.length k3) := K0.cells
  go_region_held3 (fun W => (W.cell? ⟨w.heap.size, 0, none⟩ = some (.int .i64 rr) ∧ W.cell? ⟨w.heap.size, 1, none⟩ = some (.int .i64 hh) ∧ W.cell? ⟨w.heap.size, 2, none⟩ = some v0 ∧ W.cell? ⟨w4.heap.size, 0, none⟩ = some (.int .i64 rr) ∧ W.cell? ⟨w4.heap.size, 1, none⟩ = some (.int .i64 hh) ∧ W.cell? ⟨w4.heap.size, 2, none⟩ = some (.slice a3 P.length k3)) ∧ KeepZ w6 w.heap.size w4.heap.size rr hh v0 (.slice a3 P.length k3) P W) (go_keep) (first | (go_at_call 33; refine (KeepZ.to L1.out (by assumption)).mono ?_; rintro e w' ⟨u, rfl, hu, x0, x1, x2, x3, x4, x5, hK⟩) | (go_at_call 34; refine (KeepZ.eq L1.out (by assumption) (by assumption)).mono ?_; rintro e w' ⟨rfl, x0, x1, x2, x3, x4, x5, hK⟩))
  rename World => w7
  have hb := hK.1
  clear hK x0 x1 x2 x3 x4 x5 hu hq1 KT hk0 hk1 hk2 hk3 hk4 hk5 K0
  have BA := Lib.hid (BA.out.below hb)
  have O3 := Lib.hid (O3.out.below hb)
  have BX := Lib.hid (BX.out.below hb)
  have BS := Lib.hid (BS.out.trans (hb.mono BS.out.size))
  have B := Lib.hid (B.out.trans (hb.mono B.out.size))
  have Z8 := Lib.hid hb.size
  clear hb
  have c0BA := BA.out.2.1
  have c1BA := BA.out.2.2.1
  have c2BA := BA.out.2.2.2
  have c0BX := BX.out.2.1
  have c1BX := BX.out.2.2.1
  have c2BX := BX.out.2.2.2
  go_wp2_with fail
  go_ret
  exact ⟨rfl, B.out⟩

set_option maxRecDepth 100000 in
theorem isValidStowage_lifted (os : Os) (started : os.Started) (H : Type) (enc : TypeId × Value → H) :
    ReturnsInHanded {} Try.checked os 5 .any (Rows.fnExactIsValidStowageSpec.pre6 enc Try.prog Try.f5 Rows.fnExactIsValidStowageRow.domain false) (Rows.fnExactIsValidStowageSpec.post enc Try.prog Try.f5 false true false false) := by
  refine returnsInHanded_of_change (C := Try.checked) yard_own started (by kernel_rfl) Try.func5
    (ChangeSpec.witness6 (enc := enc) (C := Try.checked) false ⟨#[], #[.agg #[.int .i64 0, .int .i64 0, .slice none 0 0]], []⟩ 8 (by kernel_rfl) (by kernel_rfl) (by kernel_rfl) (by kernel_rfl)) ?_
  intro W base args ds gs before hval0 hW hcnd0 _
  have hval : ∀ (j : Nat) t v, Try.f5.params[j]? = some t → args[j]? = some v → Value.okWide Try.prog W .any base t v := hval0
  have hW' := hW
  obtain ⟨p, q, hA0, hV, rfl, hfz, _⟩ := hW
  have hA : DataW.TrodAll enc Try.prog W 0 (fun _ => true) true Try.f5.params.toList args.toList ds p := hA0
  rw [Try.params5] at hA hval
  obtain ⟨v0, d0, rfl, rfl, h0⟩ := trodAll_one hA
  obtain ⟨rfl, rfl⟩ := trodVars_none hV
  clear hA0 hval0 hcnd0
  simp only [List.append_nil] at hW'
  have hlt : ∀ x ∈ p, x.block < W.heap.size := fun x hx => by simpa using hW'.lt x (by simpa using hx)
  have hlt0 := hlt
  obtain ⟨rr, hh, P, hn, hv⟩ := open_sto (hval 0 49 v0 rfl rfl) h0 hlt0
  refine (isValidStowage_body v0 rr hh P (goodZ rr hh P) hn W hv (fun h1 u W hu => specValidZ_any u rr hh P h1 W hu) (fun h1 u W hu => implValidZ_any u rr hh P h1 W hu)).mono fun e W' ⟨he, hB⟩ => ?_
  subst he
  refine ⟨_, rfl, _, _, _, [], p, [], hW', ?_, ?_, rfl, hB.frame _, fun h => by cases h⟩
  · exact trodAll_mk1 (shut_bool Try.underlying4 true)
  · have h9 := trodAll_mk1 (Below.trod yard_laidOut (by kernel_rfl) (of_decide_eq_true (by kernel_rfl)) h0 hB hlt0)
    first
      | exact h9
      | (simp only [List.append_nil] at h9; exact h9)

theorem FnExactIsValidStowage_holds : Rows.FnExactIsValidStowageSaid :=
  OpenClaim.holds_of_wide 5 Try.f5 rfl rfl rfl rfl rfl rfl rfl ⟨rfl, rfl, rfl, rfl, rfl⟩ rfl rfl rfl rfl rfl (by kernel_rfl) Try.func5 (by kernel_rfl)
    (of_decide_eq_true (by kernel_rfl)) (by unfold Func.isWrapper; first | (rw [if_pos (by decide +kernel)]; kernel_rfl) | (rw [if_neg (by decide +kernel)]; exact ⟨rfl, rfl⟩))
    (fun os started H enc _ => isValidStowage_lifted os started H enc)
#print axioms FnExactIsValidStowage_holds

end Go.Proofs.Ytpflnjjckeeihaa
