/-
  Proved here: the law FnExactBestStowage returns true at every stowage, and the arguments read afterwards as before. There are no conditions.
-/
import Derived.Test.YtjplbcfpbggnnaaRows
import Derived.Test.YtjplbcfpbggnnaaMZb
import Derived.Test.YtjplbcfpbggnnaaMBsI
import Derived.Test.YtjplbcfpbggnnaaMBsS
import Derived.WalkKit
import Derived.ProofKit
import Derived.OpenShut
namespace Go.Proofs.Ytjplbcfpbggnnaa
open Go.Joins Go.Deep Go.ChangeShapes Go.WideShapes Go.ChangeAt Go.RowKit

set_option maxRecDepth 100000 in
set_option maxHeartbeats 16000000 in
theorem bestStowage_body (v : Value) (rr hh : Int) (P : List Int) (R : List Int) (x : Int) (ok : Bool) (hR : R.length ≤ 1048576) (hn : P.length ≤ maxLen) (w : World) (hv : StR w v rr hh P)
    (hspec : P.length ≤ 1048576 → ∀ (u : Value) W, StR W u rr hh P → Calls Try.prog 5 #[u] W (SeenLX W R x ok))
    (himpl : P.length ≤ 1048576 → ∀ (u : Value) W, StR W u rr hh P → Calls Try.prog 7 #[u] W (RetLX W R x ok)) :
    Calls Try.prog 3 #[v] w fun e w' => e = .returned (.bool true) ∧ Below w.heap.size w w' := by
  obtain ⟨v0, rfl, hv0⟩ := hv
  have HI := Lib.hid hv0
  have HV : Hid (StR w (.agg #[.int .i64 rr, .int .i64 hh, v0]) rr hh P) := Lib.hid ⟨v0, rfl, hv0⟩
  have H1 := Lib.hid hspec
  have H2 := Lib.hid himpl
  clear hspec himpl hv0
  go_enter Try.func3, Try.ntmps3
  go_wp2_with fail
  have BA := Lib.hid (Box3.new w rr hh v0 24)
  have B := Lib.hid (below_one w (.cells #[.int .i64 rr, .int .i64 hh, v0] 24))
  generalize w.alloc (.cells #[.int .i64 rr, .int .i64 hh, v0] 24) = w0 at *
  have ZA := Lib.hid BA.out.1
  refine (szS_any _ rr hh P hn _ (HV.out.below B.out)).mono ?_
  rintro e w1 ⟨hb, rfl | ⟨r, rfl, hn2⟩⟩
  · have B := Lib.hid (B.out.trans (hb.mono B.out.size))
    clear hb
    go_wp2_with fail
    go_ret
    exact ⟨rfl, B.out⟩
  have L1 := Lib.hid hn2
  have BA := Lib.hid (BA.out.below hb)
  have B := Lib.hid (B.out.trans (hb.mono B.out.size))
  have Z1 := Lib.hid hb.size
  clear hb
  have c0BA := BA.out.2.1
  have c1BA := BA.out.2.2.1
  have c2BA := BA.out.2.2.2
  go_wp2_with fail
  clear c0BA c1BA c2BA
  refine (toS_any (.agg #[.int .i64 rr, .int .i64 hh, v0]) rr hh P L1.out _ (HV.out.below B.out)).mono ?_
  rintro e w2 ⟨a1, k1, rfl, ho, hb⟩
  have BA := Lib.hid (BA.out.below hb)
  have B := Lib.hid (B.out.trans (hb.mono B.out.size))
  have Z2 := Lib.hid hb.size
  have O1 := Lib.hid ho
  clear ho hb
  have c0BA := BA.out.2.1
  have c1BA := BA.out.2.2.1
  have c2BA := BA.out.2.2.2
  go_wp2_with fail
  clear c0BA c1BA c2BA
  refine (H1.out L1.out _ _ ⟨_, rfl, O1.out.read⟩).mono ?_
  rintro e w3 ⟨aw, kw, rfl, ho, hb⟩
  have BA := Lib.hid (BA.out.below hb)
  have O1 := Lib.hid (O1.out.below hb)
  have B := Lib.hid (B.out.trans (hb.mono B.out.size))
  have Z3 := Lib.hid hb.size
  have W0 := Lib.hid ho
  clear hb ho
  clear O1
  have BS := Lib.hid (Below.refl w3.heap.size w3)
  have c0BA := BA.out.2.1
  have c1BA := BA.out.2.2.1
  have c2BA := BA.out.2.2.2
  go_wp2_with fail
  clear c0BA c1BA c2BA
  refine (toS_any (.agg #[.int .i64 rr, .int .i64 hh, v0]) rr hh P L1.out _ (HV.out.below B.out)).mono ?_
  rintro e w4 ⟨a3, k3, rfl, ho, hb⟩
  have BA := Lib.hid (BA.out.below hb)
  have BS := Lib.hid (BS.out.trans (hb.mono BS.out.size))
  have B := Lib.hid (B.out.trans (hb.mono B.out.size))
  have Z4 := Lib.hid hb.size
  have O3 := Lib.hid ho
  clear ho hb
  have c0BA := BA.out.2.1
  have c1BA := BA.out.2.2.1
  have c2BA := BA.out.2.2.2
  have d0BA := fun o => (World.cell?_alloc_lt w4 o ⟨w.heap.size, 0, none⟩ BA.out.1).trans BA.out.2.1
  have d1BA := fun o => (World.cell?_alloc_lt w4 o ⟨w.heap.size, 1, none⟩ BA.out.1).trans BA.out.2.2.1
  have d2BA := fun o => (World.cell?_alloc_lt w4 o ⟨w.heap.size, 2, none⟩ BA.out.1).trans BA.out.2.2.2
  go_wp2_with fail
  clear c0BA c1BA c2BA
  clear d0BA d1BA d2BA
  have hb := below_one w4 (.cells #[.int .i64 rr, .int .i64 hh, .slice a3 P.length k3] 28)
  have BX := Lib.hid (Box3.new w4 rr hh (.slice a3 P.length k3) 28)
  have BA := Lib.hid (BA.out.below hb)
  have O3 := Lib.hid (O3.out.below hb)
  have BS := Lib.hid (BS.out.trans (hb.mono BS.out.size))
  have B := Lib.hid (B.out.trans (hb.mono B.out.size))
  have Z5 := Lib.hid hb.size
  clear hb
  generalize w4.alloc (.cells #[.int .i64 rr, .int .i64 hh, .slice a3 P.length k3] 28) = w5 at *
  have Z6 := Lib.hid BX.out.1
  have c0BA := BA.out.2.1
  have c1BA := BA.out.2.2.1
  have c2BA := BA.out.2.2.2
  have c0BX := BX.out.2.1
  have c1BX := BX.out.2.2.1
  have c2BX := BX.out.2.2.2
  go_wp2_with fail
  clear c0BA c1BA c2BA c0BX c1BX c2BX
  refine (H2.out L1.out _ _ ⟨_, rfl, O3.out.read⟩).mono ?_
  rintro e w6 ⟨ag4, kg4, rfl, ho, hb⟩
  have BA := Lib.hid (BA.out.below hb)
  have O3 := Lib.hid (O3.out.below hb)
  have BX := Lib.hid (BX.out.below hb)
  have BS := Lib.hid (BS.out.trans (hb.mono BS.out.size))
  have B := Lib.hid (B.out.trans (hb.mono B.out.size))
  have Z7 := Lib.hid hb.size
  have G4 := Lib.hid ho
  clear hb ho
  have c0BA := BA.out.2.1
  have c1BA := BA.out.2.2.1
  have c2BA := BA.out.2.2.2
  have c0BX := BX.out.2.1
  have c1BX := BX.out.2.2.1
  have c2BX := BX.out.2.2.2
  go_wp2_with fail
  clear c0BA c1BA c2BA c0BX c1BX c2BX
  refine (eqL_any _ _ R hR _ G4.out.read (W0.out.below BS.out)).mono ?_
  rintro e w7 ⟨rfl, hb⟩
  have BA := Lib.hid (BA.out.below hb)
  have O3 := Lib.hid (O3.out.below hb)
  have BX := Lib.hid (BX.out.below hb)
  have G4 := Lib.hid (G4.out.below hb)
  have BS := Lib.hid (BS.out.trans (hb.mono BS.out.size))
  have B := Lib.hid (B.out.trans (hb.mono B.out.size))
  have Z8 := Lib.hid hb.size
  clear hb
  have c0BA := BA.out.2.1
  have c1BA := BA.out.2.2.1
  have c2BA := BA.out.2.2.2
  have c0BX := BX.out.2.1
  have c1BX := BX.out.2.2.1
  have c2BX := BX.out.2.2.2
  go_wp2_with fail
  have K0 := (KeepZ.start (HI.out.below B.out) O3.out.read BA.out BX.out).drew
  have KT := Lib.hid L1.out
  have hq1 := L1.out
  clear c0BA c1BA c2BA c0BX c1BX c2BX
  obtain ⟨hk0, hk1, hk2, hk3, hk4, hk5⟩ : w7.drew.cell? ⟨w.heap.size, 0, none⟩ = some (.int .i64 rr) ∧ w7.drew.cell? ⟨w.heap.size, 1, none⟩ = some (.int .i64 hh) ∧ w7.drew.cell? ⟨w.heap.size, 2, none⟩ = some v0 ∧ w7.drew.cell? ⟨w4.heap.size, 0, none⟩ = some (.int .i64 rr) ∧ w7.drew.cell? ⟨w4.heap.size, 1, none⟩ = some (.int .i64 hh) ∧ w7.drew.cell? ⟨w4.heap.size, 2, none⟩ = some (.slice a3 P.length k3) := K0.cells
  go_region_held3 (fun W => (W.cell? ⟨w.heap.size, 0, none⟩ = some (.int .i64 rr) ∧ W.cell? ⟨w.heap.size, 1, none⟩ = some (.int .i64 hh) ∧ W.cell? ⟨w.heap.size, 2, none⟩ = some v0 ∧ W.cell? ⟨w4.heap.size, 0, none⟩ = some (.int .i64 rr) ∧ W.cell? ⟨w4.heap.size, 1, none⟩ = some (.int .i64 hh) ∧ W.cell? ⟨w4.heap.size, 2, none⟩ = some (.slice a3 P.length k3)) ∧ KeepZ w7 w.heap.size w4.heap.size rr hh v0 (.slice a3 P.length k3) P W) (go_keep) (first | (go_at_call 6; refine (KeepZ.to L1.out (by assumption)).mono ?_; rintro e w' ⟨u, rfl, hu, x0, x1, x2, x3, x4, x5, hK⟩) | (go_at_call 9; refine (KeepZ.eq L1.out (by assumption) (by assumption)).mono ?_; rintro e w' ⟨rfl, x0, x1, x2, x3, x4, x5, hK⟩))
  rename World => w8
  have hb := hK.1
  clear hK x0 x1 x2 x3 x4 x5 hu hq1 KT hk0 hk1 hk2 hk3 hk4 hk5 K0
  have BA := Lib.hid (BA.out.below hb)
  have O3 := Lib.hid (O3.out.below hb)
  have BX := Lib.hid (BX.out.below hb)
  have G4 := Lib.hid (G4.out.below hb)
  have BS := Lib.hid (BS.out.trans (hb.mono BS.out.size))
  have B := Lib.hid (B.out.trans (hb.mono B.out.size))
  have Z9 := Lib.hid hb.size
  clear hb
  have c0BA := BA.out.2.1
  have c1BA := BA.out.2.2.1
  have c2BA := BA.out.2.2.2
  have c0BX := BX.out.2.1
  have c1BX := BX.out.2.2.1
  have c2BX := BX.out.2.2.2
  go_wp2_with fail
  clear c0BA c1BA c2BA c0BX c1BX c2BX
  refine (markS_any _ rr hh P 1 w3.heap.size w4.heap.size L1.out (by decide) (by decide) _ O3.out).mono ?_
  rintro e w9 ⟨rfl, hS⟩
  clear O3
  have BA := Lib.hid (BA.out.span hS (by have z0 := ZA.out; have z1 := Z1.out; have z2 := Z2.out; have z3 := Z3.out; have z4 := Z4.out; have z5 := Z5.out; have z6 := Z6.out; have z7 := Z7.out; have z8 := Z8.out; have z9 := Z9.out; have y0 := BA.out.1; have y1 := BX.out.1; omega))
  have BX := Lib.hid (BX.out.span hS (by have z0 := ZA.out; have z1 := Z1.out; have z2 := Z2.out; have z3 := Z3.out; have z4 := Z4.out; have z5 := Z5.out; have z6 := Z6.out; have z7 := Z7.out; have z8 := Z8.out; have z9 := Z9.out; have y0 := BA.out.1; have y1 := BX.out.1; omega))
  have G4 := Lib.hid (G4.out.span hS (by have z0 := ZA.out; have z1 := Z1.out; have z2 := Z2.out; have z3 := Z3.out; have z4 := Z4.out; have z5 := Z5.out; have z6 := Z6.out; have z7 := Z7.out; have z8 := Z8.out; have z9 := Z9.out; have y0 := BA.out.1; have y1 := BX.out.1; omega))
  have BS := Lib.hid (Below.span (BS.out.mono (Nat.le_refl _)) (hS.lift (by have z0 := ZA.out; have z1 := Z1.out; have z2 := Z2.out; have z3 := Z3.out; have z4 := Z4.out; have z5 := Z5.out; have z6 := Z6.out; have z7 := Z7.out; have z8 := Z8.out; have z9 := Z9.out; have y0 := BA.out.1; have y1 := BX.out.1; omega)) BS.out.size)
  have B := Lib.hid (Below.span (B.out.mono (Nat.le_refl _)) (hS.lift (by have z0 := ZA.out; have z1 := Z1.out; have z2 := Z2.out; have z3 := Z3.out; have z4 := Z4.out; have z5 := Z5.out; have z6 := Z6.out; have z7 := Z7.out; have z8 := Z8.out; have z9 := Z9.out; have y0 := BA.out.1; have y1 := BX.out.1; omega)) B.out.size)
  have Z10 := Lib.hid hS.size
  clear hS
  obtain ⟨t0, ht0⟩ : ∃ t0 : Int, 1 + (P.length : Int) = t0 := ⟨_, rfl⟩
  rw [ht0]
  have hta0 : 0 ≤ t0 := by omega
  have htb0 : t0 ≤ 1048577 := by have := L1.out; omega
  clear ht0
  have c0BA := BA.out.2.1
  have c1BA := BA.out.2.2.1
  have c2BA := BA.out.2.2.2
  have c0BX := BX.out.2.1
  have c1BX := BX.out.2.2.1
  have c2BX := BX.out.2.2.2
  go_wp2_with fail
  clear c0BA c1BA c2BA c0BX c1BX c2BX
  refine (eqL_any _ _ R hR _ G4.out.read (W0.out.below BS.out)).mono ?_
  rintro e w10 ⟨rfl, hb⟩
  have BA := Lib.hid (BA.out.below hb)
  have BX := Lib.hid (BX.out.below hb)
  have G4 := Lib.hid (G4.out.below hb)
  have BS := Lib.hid (BS.out.trans (hb.mono BS.out.size))
  have B := Lib.hid (B.out.trans (hb.mono B.out.size))
  have Z11 := Lib.hid hb.size
  clear hb
  have c0BA := BA.out.2.1
  have c1BA := BA.out.2.2.1
  have c2BA := BA.out.2.2.2
  have c0BX := BX.out.2.1
  have c1BX := BX.out.2.2.1
  have c2BX := BX.out.2.2.2
  go_wp2_with fail
  clear c0BA c1BA c2BA c0BX c1BX c2BX
  refine (markL_any _ R 1 _ _ hR (by decide) (by decide) _ G4.out).mono ?_
  rintro e w11 ⟨rfl, hM, hS⟩
  have M0 := Lib.hid hM
  clear hM
  clear G4
  have BA := Lib.hid (BA.out.span hS (by have z0 := ZA.out; have z1 := Z1.out; have z2 := Z2.out; have z3 := Z3.out; have z4 := Z4.out; have z5 := Z5.out; have z6 := Z6.out; have z7 := Z7.out; have z8 := Z8.out; have z9 := Z9.out; have z10 := Z10.out; have z11 := Z11.out; have y0 := BA.out.1; have y1 := BX.out.1; omega))
  have BX := Lib.hid (BX.out.span hS (by have z0 := ZA.out; have z1 := Z1.out; have z2 := Z2.out; have z3 := Z3.out; have z4 := Z4.out; have z5 := Z5.out; have z6 := Z6.out; have z7 := Z7.out; have z8 := Z8.out; have z9 := Z9.out; have z10 := Z10.out; have z11 := Z11.out; have y0 := BA.out.1; have y1 := BX.out.1; omega))
  have BS := Lib.hid (Below.span (BS.out.mono (Nat.le_refl _)) (hS.lift (by have z0 := ZA.out; have z1 := Z1.out; have z2 := Z2.out; have z3 := Z3.out; have z4 := Z4.out; have z5 := Z5.out; have z6 := Z6.out; have z7 := Z7.out; have z8 := Z8.out; have z9 := Z9.out; have z10 := Z10.out; have z11 := Z11.out; have y0 := BA.out.1; have y1 := BX.out.1; omega)) BS.out.size)
  have B := Lib.hid (Below.span (B.out.mono (Nat.le_refl _)) (hS.lift (by have z0 := ZA.out; have z1 := Z1.out; have z2 := Z2.out; have z3 := Z3.out; have z4 := Z4.out; have z5 := Z5.out; have z6 := Z6.out; have z7 := Z7.out; have z8 := Z8.out; have z9 := Z9.out; have z10 := Z10.out; have z11 := Z11.out; have y0 := BA.out.1; have y1 := BX.out.1; omega)) B.out.size)
  have Z12 := Lib.hid hS.size
  clear hS
  have hnn : (0 : Int) ≤ 1 + (R.length : Int) := by omega
  have c0BA := BA.out.2.1
  have c1BA := BA.out.2.2.1
  have c2BA := BA.out.2.2.2
  have c0BX := BX.out.2.1
  have c1BX := BX.out.2.2.1
  have c2BX := BX.out.2.2.2
  go_wp2_with fail
  clear c0BA c1BA c2BA c0BX c1BX c2BX
  refine (heldL_any _ R.length 1 hR (by decide) (by decide) _ (by have := M0.out.read; exact this)).mono ?_
  rintro e w12 ⟨rfl, hb⟩
  have BA := Lib.hid (BA.out.below hb)
  have BX := Lib.hid (BX.out.below hb)
  have M0 := Lib.hid (M0.out.below hb)
  have BS := Lib.hid (BS.out.trans (hb.mono BS.out.size))
  have B := Lib.hid (B.out.trans (hb.mono B.out.size))
  have Z13 := Lib.hid hb.size
  clear hb
  have c0BA := BA.out.2.1
  have c1BA := BA.out.2.2.1
  have c2BA := BA.out.2.2.2
  have c0BX := BX.out.2.1
  have c1BX := BX.out.2.2.1
  have c2BX := BX.out.2.2.2
  go_wp2_with fail
  clear c0BA c1BA c2BA c0BX c1BX c2BX
  refine (toS_any (.agg #[.int .i64 rr, .int .i64 hh, v0]) rr hh P L1.out _ (HV.out.below B.out)).mono ?_
  rintro e w13 ⟨a7, k7, rfl, ho, hb⟩
  have BA := Lib.hid (BA.out.below hb)
  have BX := Lib.hid (BX.out.below hb)
  have M0 := Lib.hid (M0.out.below hb)
  have BS := Lib.hid (BS.out.trans (hb.mono BS.out.size))
  have B := Lib.hid (B.out.trans (hb.mono B.out.size))
  have Z14 := Lib.hid hb.size
  have O7 := Lib.hid ho
  clear ho hb
  have c0BA := BA.out.2.1
  have c1BA := BA.out.2.2.1
  have c2BA := BA.out.2.2.2
  have c0BX := BX.out.2.1
  have c1BX := BX.out.2.2.1
  have c2BX := BX.out.2.2.2
  go_wp2_with fail
  clear c0BA c1BA c2BA c0BX c1BX c2BX
  refine (H2.out L1.out _ _ ⟨_, rfl, O7.out.read⟩).mono ?_
  rintro e w14 ⟨ag6, kg6, rfl, ho, hb⟩
  have BA := Lib.hid (BA.out.below hb)
  have BX := Lib.hid (BX.out.below hb)
  have M0 := Lib.hid (M0.out.below hb)
  have O7 := Lib.hid (O7.out.below hb)
  have BS := Lib.hid (BS.out.trans (hb.mono BS.out.size))
  have B := Lib.hid (B.out.trans (hb.mono B.out.size))
  have Z15 := Lib.hid hb.size
  have G6 := Lib.hid ho
  clear hb ho
  clear O7
  have c0BA := BA.out.2.1
  have c1BA := BA.out.2.2.1
  have c2BA := BA.out.2.2.2
  have c0BX := BX.out.2.1
  have c1BX := BX.out.2.2.1
  have c2BX := BX.out.2.2.2
  go_wp2_with fail
  clear c0BA c1BA c2BA c0BX c1BX c2BX
  refine (eqL_any _ _ R hR _ G6.out.read (W0.out.below BS.out)).mono ?_
  rintro e w15 ⟨rfl, hb⟩
  have BA := Lib.hid (BA.out.below hb)
  have BX := Lib.hid (BX.out.below hb)
  have M0 := Lib.hid (M0.out.below hb)
  have G6 := Lib.hid (G6.out.below hb)
  have BS := Lib.hid (BS.out.trans (hb.mono BS.out.size))
  have B := Lib.hid (B.out.trans (hb.mono B.out.size))
  have Z16 := Lib.hid hb.size
  clear hb
  have c0BA := BA.out.2.1
  have c1BA := BA.out.2.2.1
  have c2BA := BA.out.2.2.2
  have c0BX := BX.out.2.1
  have c1BX := BX.out.2.2.1
  have c2BX := BX.out.2.2.2
  go_wp2_with fail
  clear c0BA c1BA c2BA c0BX c1BX c2BX
  refine (heldL_any _ R.length 1 hR (by decide) (by decide) _ (by have := M0.out.read; exact this)).mono ?_
  rintro e w16 ⟨rfl, hb⟩
  have BA := Lib.hid (BA.out.below hb)
  have BX := Lib.hid (BX.out.below hb)
  have M0 := Lib.hid (M0.out.below hb)
  have G6 := Lib.hid (G6.out.below hb)
  have BS := Lib.hid (BS.out.trans (hb.mono BS.out.size))
  have B := Lib.hid (B.out.trans (hb.mono B.out.size))
  have Z17 := Lib.hid hb.size
  clear hb
  have c0BA := BA.out.2.1
  have c1BA := BA.out.2.2.1
  have c2BA := BA.out.2.2.2
  have c0BX := BX.out.2.1
  have c1BX := BX.out.2.2.1
  have c2BX := BX.out.2.2.2
  go_wp2_with fail
  go_ret
  exact ⟨rfl, B.out⟩

set_option maxRecDepth 100000 in
theorem bestStowage_lifted (os : Os) (started : os.Started) (H : Type) (enc : TypeId × Value → H) :
    ReturnsInHanded {} Try.checked os 3 .any (Rows.fnExactBestStowageSpec.pre6 enc Try.prog Try.f3 Rows.fnExactBestStowageRow.domain false) (Rows.fnExactBestStowageSpec.post enc Try.prog Try.f3 false true false false) := by
  refine returnsInHanded_of_change (C := Try.checked) yard_own started (by kernel_rfl) Try.func3
    (ChangeSpec.witness6 (enc := enc) (C := Try.checked) false ⟨#[], #[.agg #[.int .i64 0, .int .i64 0, .slice none 0 0]], []⟩ 8 (by kernel_rfl) (by kernel_rfl) (by kernel_rfl) (by kernel_rfl)) ?_
  intro W base args ds gs before hval0 hW hcnd0 _
  have hval : ∀ (j : Nat) t v, Try.f3.params[j]? = some t → args[j]? = some v → Value.okWide Try.prog W .any base t v := hval0
  have hW' := hW
  obtain ⟨p, q, hA0, hV, rfl, hfz, _⟩ := hW
  have hA : DataW.TrodAll enc Try.prog W 0 (fun _ => true) true Try.f3.params.toList args.toList ds p := hA0
  rw [Try.params3] at hA hval
  obtain ⟨v0, d0, rfl, rfl, h0⟩ := trodAll_one hA
  obtain ⟨rfl, rfl⟩ := trodVars_none hV
  clear hA0 hval0 hcnd0
  simp only [List.append_nil] at hW'
  have hlt : ∀ x ∈ p, x.block < W.heap.size := fun x hx => by simpa using hW'.lt x (by simpa using hx)
  have hlt0 := hlt
  obtain ⟨rr, hh, P, hn, hv⟩ := open_sto (hval 0 24 v0 rfl rfl) h0 hlt0
  refine (bestStowage_body v0 rr hh P (bsR rr hh P) (bsX rr hh P) (goodZ rr hh P) (bsR_len rr hh P) hn W hv (fun h1 u W hu => specBs_any u rr hh P h1 W hu) (fun h1 u W hu => implBs_any u rr hh P h1 W hu)).mono fun e W' ⟨he, hB⟩ => ?_
  subst he
  refine ⟨_, rfl, _, _, _, [], p, [], hW', ?_, ?_, rfl, hB.frame _, fun h => by cases h⟩
  · exact trodAll_mk1 (shut_bool Try.underlying4 true)
  · have h9 := trodAll_mk1 (Below.trod yard_laidOut (by kernel_rfl) (of_decide_eq_true (by kernel_rfl)) h0 hB hlt0)
    first
      | exact h9
      | (simp only [List.append_nil] at h9; exact h9)

theorem FnExactBestStowage_holds : Rows.FnExactBestStowageSaid :=
  OpenClaim.holds_of_wide 3 Try.f3 rfl rfl rfl rfl rfl rfl rfl ⟨rfl, rfl, rfl, rfl, rfl⟩ rfl rfl rfl rfl rfl (by kernel_rfl) Try.func3 (by kernel_rfl)
    (of_decide_eq_true (by kernel_rfl)) (by unfold Func.isWrapper; first | (rw [if_pos (by decide +kernel)]; kernel_rfl) | (rw [if_neg (by decide +kernel)]; exact ⟨rfl, rfl⟩))
    (fun os started H enc _ => bestStowage_lifted os started H enc)
#print axioms FnExactBestStowage_holds
end Go.Proofs.Ytjplbcfpbggnnaa
