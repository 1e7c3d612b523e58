/-
  The law FnStrings walked: it returns true at every list of bytes. No statement of the seat by itself.
-/
import Derived.Test.YtaebphbnfnjfcaaDoorRows
import Derived.Test.YtaebphbnfnjfcaaDoorTie
import Derived.Test.YtaebphbnfnjfcaaDoorDrawn
import Derived.Test.YtaebphbnfnjfcaaDoorFlip
import Derived.Test.YtaebphbnfnjfcaaDoorParse
import Derived.WalkKit
import Derived.ProofKit
import Derived.OpenShut
import Derived.SizedLaws
import Derived.Lib.ConvBytes
import Derived.StillTailTactics
namespace Go.Proofs.YtaebphbnfnjfcaaDoor
open Go.ChangeShapes Go.WideShapes Go.ChangeAt Go.RowKit

theorem vBig_any (a : Option Addr) (len cap : Nat) (w : World) (hl : len ≤ maxLen) (b : Bool) (hb : decide (65536 < len) = b) : Calls Tryd.prog 8 #[.slice a len cap] w fun e w' => e = .returned (.bool b) ∧ w = w' := by
  unfold maxLen at hl
  subst hb
  by_cases h : 65536 < len
  · go_enter Tryd.func8, Tryd.ntmps8
    go_wp2_with fail
    go_ret
    exact ⟨by rw [show decide (65536 < len) = decide ((65536 : Int) < (len : Int)) from decide_eq_decide.2 (by omega)]; first | rfl | simp, rfl⟩
  · go_enter Tryd.func8, Tryd.ntmps8
    go_wp2_with fail
    go_ret
    exact ⟨by rw [show decide (65536 < len) = decide ((65536 : Int) < (len : Int)) from decide_eq_decide.2 (by omega)]; first | rfl | simp, rfl⟩

set_option maxRecDepth 100000 in
set_option maxHeartbeats 2000000 in
theorem st_big (a : Option Addr) (len cap : Nat) (w : World) (h : 65536 < len) (hl : len ≤ maxLen) :
    Calls Tryd.prog 3 #[.slice a len cap] w fun e w' => e = .returned (.bool true) ∧ w' = w := by
  go_enter Tryd.func3, Tryd.ntmps3
  go_wp2_with fail
  refine (vBig_any a len cap _ hl true (by simpa using h)).mono ?_
  rintro e w1 ⟨rfl, rfl⟩
  go_wp2_with fail
  go_ret
  exact ⟨rfl, rfl⟩

set_option maxHeartbeats 400000 in
theorem vAt_in (cb off len cap i : Nat) (x : UInt8) (_hl : len ≤ 65536) (h1 : i < len) (w : World) (hx : w.cell? ⟨cb, off + i, none⟩ = some (.int .u8 (x.toNat : Int))) : Calls Tryd.prog 19 #[.slice (some ⟨cb, off, none⟩) len cap, .int .i64 (i : Int)] w fun e w' => e = .returned (.int .i64 (x.toNat : Int)) ∧ w' = w := by
  have hx2 : (x.toNat : Int) < 256 := by have := x.toNat_lt; omega
  go_enter Tryd.func19, Tryd.ntmps19
  go_wp2_with fail
  go_ret
  exact ⟨rfl, rfl⟩
set_option maxHeartbeats 400000 in
theorem vAt_out (a : Option Addr) (len cap i : Nat) (hl : len ≤ 65536) (hi : i ≤ 100) (h1 : ¬ i < len) (w : World) : Calls Tryd.prog 19 #[.slice a len cap, .int .i64 (i : Int)] w fun e w' => e = .returned (.int .i64 (((i * 7 + len) % 256 : Nat) : Int)) ∧ w' = w := by
  go_enter Tryd.func19, Tryd.ntmps19
  go_wp2_with fail
  go_ret
  exact ⟨ret_num (by omega), rfl⟩
/-- A byte of the code, or a number instead; the same at every world with the same cells. -/
theorem vAt_any (a : Option Addr) (len cap i : Nat) (hi : i ≤ 100) (w : World) (h : CodeArg w a len) : ∃ m : Nat, m < 256 ∧ ∀ W : World, (∀ p, W.cell? p = w.cell? p) → Calls Tryd.prog 19 #[.slice a len cap, .int .i64 (i : Int)] W fun e w' => e = .returned (.int .i64 (m : Int)) ∧ w' = W := by
  obtain ⟨hl, hc⟩ := h
  by_cases h1 : i < len
  · obtain ⟨cb, off, x, rfl, hlt, hx⟩ := hc i h1
    exact ⟨x.toNat, x.toNat_lt, fun W hW => vAt_in cb off len cap i x hl h1 W ((hW _).trans hx)⟩
  · exact ⟨_, Nat.mod_lt _ (by decide), fun W _ => vAt_out a len cap i hl hi h1 W⟩

/-- Both functions write alike, and what they wrote is read again. -/
theorem formats (z : Int) : ∃ (S : ByteArray) (ok : Bool), (∀ w, Lib.TabIs Tryd.prog w "internal/strconv.uint64pow10" .u64 Lib.pow10Tab → Calls Tryd.prog 10 #[.int .i64 z] w fun e w' => e = .returned (.tuple #[.string S, .bool ok]) ∧ Below w.heap.size w w')
    ∧ (∀ w, Calls Tryd.prog 11 #[.int .i64 z] w fun e w' => e = .returned (.tuple #[.string S, .bool ok]) ∧ ∃ k, w' = w.drewN k) ∧ S.size ≤ 1000 ∧ (ok = true → readL S.data.toList = (z, true)) := by
  by_cases h : -999999 ≤ z ∧ z ≤ 999999
  · refine ⟨⟨(Lib.itoa z).toArray⟩, true, fun w ht => implFormat_in z w h.1 h.2 ht, fun w => specFormat_in z w h.1 h.2, ?_, fun _ => ?_⟩
    · have := num_size z h.1 h.2
      omega
    · show readL (Lib.itoa z).toArray.toList = _
      exact readL_itoa z h.1 h.2
  · refine ⟨⟨#[]⟩, false, fun w _ => (implFormat_out z w (by omega)).mono ?_, fun w => (specFormat_out z w (by omega)).mono ?_, by decide, fun h => by cases h⟩
    · rintro e w' ⟨he, rfl⟩
      exact ⟨he, Below.refl _ _⟩
    · rintro e w' ⟨he, rfl⟩
      exact ⟨he, 0, rfl⟩

/-- Both functions seal alike. -/
theorem seals (x : ByteArray) (hx : x.size ≤ 4000) : ∃ (y : ByteArray) (ok : Bool), (∀ w, Lib.TabIs Tryd.prog w "internal/strconv.uint64pow10" .u64 Lib.pow10Tab → Calls Tryd.prog 16 #[.string x] w fun e w' => e = .returned (.tuple #[.string y, .bool ok]) ∧ Below w.heap.size w w')
    ∧ (∀ w, Calls Tryd.prog 17 #[.string x] w fun e w' => e = .returned (.tuple #[.string y, .bool ok]) ∧ ∃ k, w' = w.drewN k) ∧ ((ok = false ∧ y = ⟨#[]⟩) ∨ (ok = true ∧ y = sealOf x ∧ sepIn x 35 = false ∧ (sealOf x).size ≤ 4000)) := by
  refine ⟨(sealAns x).1, (sealAns x).2, fun w ht => implSeal_any x (by omega) w ht, fun w => specSeal_any x (by omega) w, ?_⟩
  unfold sealAns
  split
  · rename_i h
    exact .inr ⟨rfl, rfl, h.2.1, h.2.2⟩
  · exact .inl ⟨rfl, rfl⟩

/-- The bytes of a text at the head of block g, which may be written. -/
def BytesAt (W : World) (g : Nat) (l : List UInt8) : Prop := ∃ (cells : Array Value) (lo hi : Nat), W.heap[g]? = some (.cells cells 5 (lo, hi)) ∧ l.length ≤ lo ∧ ∀ (j : Nat) (hj : j < l.length), cells[j]? = some (.int .u8 (l[j].toNat : Int))
theorem bytesAt_new (w : World) (y : ByteArray) : BytesAt (Lib.bytesWorld w 5 y) w.heap.size y.data.toList := by
  refine ⟨Lib.bytesCells w 5 y, _, _, Lib.bytesWorld_at_new w 5 y, by simp [Lib.bytesCells], fun j hj => ?_⟩
  have hj' : j < y.data.size := by simpa using hj
  have hj2 : j < y.size := hj'
  simp [Lib.bytesCells, Array.getElem?_append, hj2]
theorem BytesAt.cell {W : World} {g : Nat} {y : ByteArray} (h : BytesAt W g y.data.toList) (j : Nat) (hj : j < y.size) : W.cell? ⟨g, j, none⟩ = some (.int .u8 (y[j].toNat : Int)) := by
  obtain ⟨cells, lo, hi, hb, hl, hc⟩ := h
  simp only [World.cell?, hb]
  exact hc j (by simpa using hj)
theorem BytesAt.frozen {W : World} {g : Nat} {y : ByteArray} (h : BytesAt W g y.data.toList) (j : Nat) (hj : j < y.size) : W.frozen? ⟨g, j, none⟩ = false := by
  obtain ⟨cells, lo, hi, hb, hl, hc⟩ := h
  have : y.data.toList.length = y.size := by simp
  simp [World.frozen?, hb]
  omega
theorem BytesAt.set {W : World} {g : Nat} {l : List UInt8} (h : BytesAt W g l) (k : Nat) (hk : k < l.length) (c : UInt8) : BytesAt (W.setCell ⟨g, k, none⟩ (.int .u8 (c.toNat : Int))) g (l.set k c) := by
  obtain ⟨cells, lo, hi, hb, hl, hc⟩ := h
  have h2 := Lib.heap_setCell_same (i := k) hb (.int .u8 (c.toNat : Int))
  refine ⟨_, _, _, h2, by simpa using hl, fun j hj => ?_⟩
  rw [List.length_set] at hj
  have hks : k < cells.size := (Array.getElem?_eq_some_iff.1 (hc k hk)).1
  by_cases e : k = j
  · subst e
    simp [hks]
  · rw [Array.getElem?_setIfInBounds_ne e, hc j hj]
    simp [List.getElem_set_ne e]
theorem below_bytes {w w' : World} (h : Below w.heap.size w w') (y : ByteArray) : Below w.heap.size w (Lib.bytesWorld w' 5 y) := by
  refine h.trans (Below.mono (B := w'.heap.size) ?_ h.size)
  refine ⟨rfl, rfl, rfl, ?_, fun k hk => ?_⟩
  · rw [Lib.bytesWorld_size]; omega
  · exact Lib.bytesWorld_at_old w' 5 y k hk

theorem flip_byte (u : UInt8) (m : Nat) (hm : m < 256) : ∃ c : UInt8, bits .xor .u8 (u.toNat : Int) (IntKind.u8.wrap (IntKind.i64.wrap (1 + (m : Int).tmod 255))) = (c.toNat : Int) ∧ ¬ u = c := by
  have hu := u.toNat_lt
  obtain ⟨d, hd, h0, h1⟩ : ∃ d : Nat, 1 + (m : Int).tmod 255 = (d : Int) ∧ 1 ≤ d ∧ d < 256 := ⟨1 + m % 255, by rw [Int.tmod_eq_emod_of_nonneg (by omega)]; omega, by omega, by omega⟩
  rw [hd]
  have e1 : IntKind.i64.wrap (d : Int) = d := IntWalk.i64_in (d : Int) (by omega)
  have e2 : IntKind.u8.wrap (d : Int) = d := by
    rw [IntKind.wrap_u8]; omega
  rw [e1, e2]
  have hx : u.toNat ^^^ d < 2 ^ 8 := Nat.xor_lt_two_pow (by omega) (by omega)
  refine ⟨UInt8.ofNat (u.toNat ^^^ d), ?_, fun e => ?_⟩
  · have b1 : (BitVec.ofInt 8 (u.toNat : Int)).toNat = u.toNat := by
      rw [BitVec.ofInt_natCast, BitVec.toNat_ofNat]; exact Nat.mod_eq_of_lt (by omega)
    have b2 : (BitVec.ofInt 8 (d : Int)).toNat = d := by
      rw [BitVec.ofInt_natCast, BitVec.toNat_ofNat]; exact Nat.mod_eq_of_lt (by omega)
    show IntKind.u8.wrap ((BitVec.ofInt 8 (u.toNat : Int) ^^^ BitVec.ofInt 8 (d : Int)).toNat : Int) = _
    rw [BitVec.toNat_xor, b1, b2, IntKind.wrap_u8, UInt8.toNat_ofNat']
    omega
  · have e3 := congrArg UInt8.toNat e
    rw [UInt8.toNat_ofNat', Nat.mod_eq_of_lt (by omega)] at e3
    have e4 : u.toNat ^^^ u.toNat = u.toNat ^^^ (u.toNat ^^^ d) := by rw [← e3]
    rw [← Nat.xor_assoc, Nat.xor_self, Nat.zero_xor] at e4
    omega

theorem flipped_size (y : ByteArray) (k : Nat) (c : UInt8) : (⟨(y.data.toList.set k c).toArray⟩ : ByteArray).size = y.size := by
  show (y.data.toList.set k c).toArray.size = y.size
  simp
theorem flipped_bad (x y : ByteArray) (hx : sepIn x 35 = false) (hy : y = sealOf x) (k : Nat) (hk : k < y.size) (c : UInt8) (hne : ¬ y[k] = c) : ∃ r, verAns ⟨(y.data.toList.set k c).toArray⟩ = (r, false) := by
  subst hy
  have h := flip_seal x ⟨((sealOf x).data.toList.set k c).toArray⟩ hx k c hk hne rfl
  exact ⟨_, Prod.ext rfl h⟩
theorem flipped_string {W : World} {g : Nat} {y : ByteArray} (h : BytesAt W g y.data.toList) (k : Nat) (hk : k < y.size) (c : UInt8) (cap : Nat) :
    (convert 22 9 (.slice (some ⟨g, 0, none⟩) y.size cap)).run Tryd.prog (W.setCell ⟨g, k, none⟩ (.int .u8 (c.toNat : Int))) = .ok (.string ⟨(y.data.toList.set k c).toArray⟩) (W.setCell ⟨g, k, none⟩ (.int .u8 (c.toNat : Int))) := by
  obtain ⟨cells, lo, hi, hb, hl, hc⟩ := h.set k (by simpa using hk) c
  have h1 := run_convert_bytes_back (P := Tryd.prog) (W.setCell ⟨g, k, none⟩ (.int .u8 (c.toNat : Int))) 22 9 5 ⟨g, 0, none⟩ cap (y.data.toList.set k c) Tryd.underlying22 Tryd.underlying5 Tryd.underlying9 (fun j hj => by
    have e : (W.setCell ⟨g, k, none⟩ (.int .u8 (c.toNat : Int))).cell? ⟨g, j, none⟩ = some (.int .u8 (((y.data.toList.set k c)[j]).toNat : Int)) := by
      simp only [World.cell?, hb]
      exact hc j hj
    by_cases h0 : j = 0
    · subst h0; simpa [Addr.add] using e
    · simpa [Addr.add, h0] using e)
  have hlen : (y.data.toList.set k c).length = y.size := by simp
  rw [hlen] at h1
  exact h1

set_option maxRecDepth 100000 in
set_option maxHeartbeats 4000000 in
theorem st_small (a : Option Addr) (len cap : Nat) (w : World) (htab : Lib.TabIs Tryd.prog w "internal/strconv.uint64pow10" .u64 Lib.pow10Tab) (hE : ErrVars w) (h : CodeArg w a len) :
    Calls Tryd.prog 3 #[.slice a len cap] w fun e w' => e = .returned (.bool true) ∧ Below w.heap.size w w' := by
  have H := Lib.hid h
  have HT := Lib.hid (Lib.tabBelow_of_tabIs htab)
  have HE := Lib.hid hE
  clear h htab hE
  go_enter Tryd.func3, Tryd.ntmps3
  go_wp2_with fail
  refine (vBig_any a len cap _ (by have := H.out.1; unfold maxLen; omega) false (by simpa using H.out.1)).mono ?_
  rintro e w1 ⟨rfl, rfl⟩
  go_wp2_with fail
  refine (drawFormat_any a len cap _ H.out).mono ?_
  rintro e w1 ⟨z, rfl, hz1, hz2, hb1⟩
  have B1 := Lib.hid hb1
  clear hb1
  obtain ⟨S, ok, hI, hS, hsz, hback⟩ := formats z
  have FI := Lib.hid hI
  have FS := Lib.hid hS
  have FB := Lib.hid hback
  clear hI hS hback
  go_wp2_with fail
  refine (FI.out _ (HT.out _ B1.out)).mono ?_
  rintro e w2 ⟨rfl, hb2⟩
  have B2 : Hid (Below w.heap.size w w2) := Lib.hid (B1.out.trans (hb2.mono B1.out.size))
  clear hb2
  go_wp2_with fail
  refine (FS.out _).mono ?_
  rintro e w3 ⟨rfl, q3, rfl⟩
  have B3 : Hid (Below w.heap.size w (w2.drewN q3)) := Lib.hid (below_drewN B2.out q3)
  generalize w2.drewN q3 = w3 at *
  go_wp2_with fail
  refine (drawParse_any a len cap _ (H.out.below B3.out)).mono ?_
  rintro e w4 ⟨t, rfl, ht, hb4⟩
  have B4 : Hid (Below w.heap.size w w4) := Lib.hid (B3.out.trans (hb4.mono B3.out.size))
  clear hb4
  obtain ⟨m, fine, hm⟩ : ∃ m fine, readL t.data.toList = (m, fine) := ⟨_, _, rfl⟩
  go_wp2_with fail
  refine (implParse_any t (by omega) _ (HT.out _ B4.out) (HE.out.stays B4.out)).mono ?_
  rintro e w5 ⟨he, hb5⟩
  rw [hm] at he
  subst he
  have B5 : Hid (Below w.heap.size w w5) := Lib.hid (B4.out.trans (hb5.mono B4.out.size))
  clear hb5
  go_wp2_with fail
  refine (specParse_any t (by omega) _).mono ?_
  rintro e w6 ⟨he, hb6⟩
  rw [hm] at he
  subst he
  have B6 : Hid (Below w.heap.size w w6) := Lib.hid (B5.out.trans (hb6.mono B5.out.size))
  clear hb6 hm
  go_wp2_with fail
  refine (drawAppend_any a len cap _ (H.out.below B6.out)).mono ?_
  rintro e w7 ⟨x, rfl, hx, hb7⟩
  have B7 : Hid (Below w.heap.size w w7) := Lib.hid (B6.out.trans (hb7.mono B6.out.size))
  clear hb7
  obtain ⟨y, sealed, hI, hS, hy⟩ := seals x hx
  have SI := Lib.hid hI
  have SS := Lib.hid hS
  have SY := Lib.hid hy
  clear hI hS hy
  go_wp2_with fail
  refine (SI.out _ (HT.out _ B7.out)).mono ?_
  rintro e w8 ⟨rfl, hb8⟩
  have B8 : Hid (Below w.heap.size w w8) := Lib.hid (B7.out.trans (hb8.mono B7.out.size))
  clear hb8
  go_wp2_with fail
  refine (SS.out _).mono ?_
  rintro e w9 ⟨rfl, q9, rfl⟩
  have B9 : Hid (Below w.heap.size w (w8.drewN q9)) := Lib.hid (below_drewN B8.out q9)
  generalize w8.drewN q9 = w9 at *
  go_wp2_with fail
  obtain ⟨back, there, hr⟩ : ∃ back there, readL S.data.toList = (back, there) := ⟨_, _, rfl⟩
  have hcase : ok = false ∨ (ok = true ∧ back = z ∧ there = true) := by
    cases ok
    · exact .inl rfl
    · have h1 := FB.out rfl
      rw [hr] at h1
      exact .inr ⟨rfl, (Prod.mk.inj h1).1, (Prod.mk.inj h1).2⟩
  refine (implParse_any S (by omega) _ (HT.out _ B9.out) (HE.out.stays B9.out)).mono ?_
  rintro e w10 ⟨he, hb10⟩
  rw [hr] at he
  subst he
  have B10 : Hid (Below w.heap.size w w10) := Lib.hid (B9.out.trans (hb10.mono B9.out.size))
  clear hb10 hr FB FI FS
  rcases hcase with rfl | ⟨rfl, rfl, rfl⟩
  all_goals
    rcases SY.out with ⟨h1, h2⟩ | ⟨h1, h2, h3, h4⟩
    · subst h1; subst h2
      clear SY SI SS
      go_wp2_with fail
      go_ret
      exact ⟨rfl, B10.out⟩
    · subst h1
      have hver := ver_seal x h3 h4
      rw [← h2] at hver h4
      have hysz : 0 < y.size := by rw [h2, sealOf_size]; omega
      have Hy := Lib.hid h2
      have Hx := Lib.hid h3
      clear SY SI SS h2 h3
      go_wp2_with fail
      refine (implVerify_any y (by omega) _ (HT.out _ B10.out)).mono ?_
      rintro e w11 ⟨he, hb11⟩
      rw [hver] at he
      subst he
      have B11 : Hid (Below w.heap.size w w11) := Lib.hid (B10.out.trans (hb11.mono B10.out.size))
      clear hb11 hver
      have hcv := Lib.run_convert_string_bytes (P := Tryd.prog) w11 9 22 5 y Tryd.underlying9 Tryd.underlying22 Tryd.underlying5
      go_wp2_with fail
      have X12 := Lib.hid (bytesAt_new w11 y)
      have B12 : Hid (Below w.heap.size w (Lib.bytesWorld w11 5 y)) := Lib.hid (below_bytes B11.out y)
      have hg : w.heap.size ≤ w11.heap.size := B11.out.size
      clear hcv
      generalize Lib.bytesWorld w11 5 y = w12 at *
      generalize grownCap w11 y.size 0 5 = cap12 at *
      generalize w11.heap.size = g at *
      obtain ⟨m9, hm9, hv9⟩ := vAt_any a len cap 9 (by decide) _ (H.out.below B12.out)
      obtain ⟨m10, hm10, hv10⟩ := vAt_any a len cap 10 (by decide) _ (H.out.below B12.out)
      have V10 := Lib.hid hv10
      clear hv10
      refine (hv9 _ (fun _ => rfl)).mono ?_
      rintro e w13 ⟨rfl, rfl⟩
      clear hv9
      obtain ⟨k, hk, hmod, hmod2⟩ : ∃ k : Nat, k < y.size ∧ (m9 : Int).tmod (y.size : Int) = (k : Int) ∧ (m9 : Int) % (y.size : Int) = (k : Int) := ⟨m9 % y.size, Nat.mod_lt _ hysz, by rw [Int.tmod_eq_emod_of_nonneg (by omega)]; simp, by simp⟩
      have hy0 : ((y.size : Int) == 0) = false := by rw [beq_eq_false_iff_ne]; omega
      have c1 := X12.out.cell k hk
      have f1 := X12.out.frozen k hk
      go_wp2_with fail
      refine wp_region_still_tail 13 (by kernel_rfl) (by kernel_rfl) ?_
      simp only [List.take_succ_cons, List.take_zero, List.drop_succ_cons, List.drop_zero]
      repeat still_step
      still_call (V10.out _ (fun _ => rfl))
      repeat still_step
      refine wpStill_nil ?_
      change wpList _ _ _ _ _ w13.drew
      obtain ⟨c, hc, hne⟩ := flip_byte y[k] m10 hm10
      rw [hc]
      have X14 : Hid (BytesAt w13.drew g y.data.toList) := Lib.hid X12.out
      have B14 : Hid (Below w.heap.size w w13.drew) := Lib.hid (below_drewN B12.out 1)
      clear hc c1 f1 V10
      generalize w13.drew = w14 at *
      have c1 := X14.out.cell k hk
      have f1 := X14.out.frozen k hk
      have hcv := flipped_string X14.out k hk c cap12
      have B15 : Hid (Below w.heap.size w (w14.setCell ⟨g, k, none⟩ (.int .u8 (c.toNat : Int)))) := Lib.hid (B14.out.setCell (p := ⟨g, k, none⟩) hg _)
      have hz := flipped_size y k c
      obtain ⟨r, hr⟩ := flipped_bad x y Hx.out Hy.out k hk c hne
      have HR := Lib.hid hr
      clear hr hne
      go_wp2_with fail
      refine (implVerify_any _ (by rw [hz]; omega) _ (HT.out _ B15.out)).mono ?_
      rintro e w16 ⟨he, hb16⟩
      rw [HR.out] at he
      subst he
      have B16 : Hid (Below w.heap.size w w16) := Lib.hid (B15.out.trans (hb16.mono B15.out.size))
      clear hb16 hcv
      go_wp2_with fail
      go_ret
      exact ⟨by simp, B16.out⟩
end Go.Proofs.YtaebphbnfnjfcaaDoor
