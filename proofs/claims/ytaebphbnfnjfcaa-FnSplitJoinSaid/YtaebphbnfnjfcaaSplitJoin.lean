/-
  Proved here: the law FnSplitJoin returns true at every list of bytes, and the list reads afterwards as it read before. There are no conditions.
-/
import Derived.Test.YtaebphbnfnjfcaaRows
import Derived.Test.YtaebphbnfnjfcaaDraws
import Derived.Test.YtaebphbnfnjfcaaSplitW
import Derived.Test.YtaebphbnfnjfcaaJoinI
import Derived.Test.YtaebphbnfnjfcaaBack
import Derived.WalkKit
import Derived.ProofKit
import Derived.OpenShut
import Derived.SizedLaws
namespace Go.Proofs.Ytaebphbnfnjfcaa
open Go.ChangeShapes Go.WideShapes Go.ChangeAt Go.RowKit

theorem owns_row {W : World} {base : Nat} {v : Value} {ps : List ByteArray} (h : W.ownsRow base 9 1 v ps.length (ps.map Value.string)) (hne : v ≠ .slice none 0 0) :
    ∃ g cap, v = .slice (some ⟨g, 0, none⟩) ps.length cap ∧ RowAt W g cap ps.length (fun j => ps[j]?.getD ByteArray.empty) := by
  rcases h.2 with ⟨rfl, hn⟩ | ⟨g, cap, cur, rfl, hg, hb, hnc, hcm, hsz, hx⟩
  · exact absurd rfl hne
  · refine ⟨g, cap, rfl, cur, hb, hnc, by simpa using hsz, fun j hj => ?_⟩
    have e : (cur.toList.take (ps.length * 1))[j]? = (ps.map Value.string)[j]? := by rw [hx]
    rw [List.getElem?_take_of_lt (by omega), List.getElem?_map, List.getElem?_eq_getElem hj] at e
    rw [← Array.getElem?_toList, e]
    simp [hj]

/-- Both functions join alike. -/
theorem joins_alike (g cap n : Nat) (f : Nat → ByteArray) (sep : ByteArray) (hn : n ≤ 1048576) (hf : ∀ j, j < n → (f j).size ≤ 1048576) :
    ∃ (A : ByteArray) (b : Bool), (∀ w, RowAt w g cap n f → Calls Try.prog 12 #[.slice (some ⟨g, 0, none⟩) n cap, .string sep] w fun e w' => e = .returned (.tuple #[.string A, .bool b]) ∧ Below w.heap.size w w')
      ∧ ∀ w, RowAt w g cap n f → Calls Try.prog 13 #[.slice (some ⟨g, 0, none⟩) n cap, .string sep] w fun e w' => e = .returned (.tuple #[.string A, .bool b]) ∧ ∃ k, w' = w.drewN k := by
  by_cases hz : sep.size = 1
  · obtain ⟨c, hc⟩ : ∃ c : UInt8, sep = ⟨#[c]⟩ := by
      obtain ⟨d⟩ := sep
      have hz' : d.size = 1 := hz
      obtain ⟨l⟩ := d
      match l, hz' with
      | [c], _ => exact ⟨c, rfl⟩
    subst hc
    refine ⟨(joinAns f n c).1, (joinAns f n c).2, fun w h => implJoin_rows g cap n f c hn hf w h, fun w h => ?_⟩
    by_cases h0 : 0 < n
    · exact specJoin_rows g cap n f c hn h0 hf w h
    · have hn0 : n = 0 := by omega
      subst hn0
      have e : joinAns f 0 c = (⟨#[]⟩, false) := by unfold joinAns; simp
      rw [e]
      exact specJoin_empty _ _ c w
  · exact ⟨⟨#[]⟩, false, fun w _ => implJoin_sep _ _ _ sep hz w, fun w _ => specJoin_sep _ _ _ sep hz w⟩

theorem tot_mem {x : ByteArray} {l : List ByteArray} (h : x ∈ l) : x.size + 1 ≤ tot l := by
  induction l with
  | nil => cases h
  | cons y ys ih =>
    have e : tot (y :: ys) = y.size + 1 + tot ys := by simp [tot]
    rcases List.mem_cons.1 h with rfl | h
    · omega
    · have := ih h; omega

theorem vBig_any (a : Option Addr) (len cap : Nat) (w : World) (hl : len ≤ maxLen) (b : Bool) (hb : decide (65536 < len) = b) : Calls Try.prog 8 #[.slice a len cap] w fun e w' => e = .returned (.bool b) ∧ w = w' := by
  unfold maxLen at hl
  subst hb
  by_cases h : 65536 < len
  · go_enter Try.func8, Try.ntmps8
    go_wp2_with fail
    go_ret
    exact ⟨by rw [show decide (65536 < len) = decide ((65536 : Int) < (len : Int)) from decide_eq_decide.2 (by omega)]; first | rfl | simp, rfl⟩
  · go_enter Try.func8, Try.ntmps8
    go_wp2_with fail
    go_ret
    exact ⟨by rw [show decide (65536 < len) = decide ((65536 : Int) < (len : Int)) from decide_eq_decide.2 (by omega)]; first | rfl | simp, rfl⟩

set_option maxRecDepth 100000 in
set_option maxHeartbeats 2000000 in
theorem sj_big (a : Option Addr) (len cap : Nat) (w : World) (h : 65536 < len) (hl : len ≤ maxLen) :
    Calls Try.prog 3 #[.slice a len cap] w fun e w' => e = .returned (.bool true) ∧ w' = w := by
  go_enter Try.func3, Try.ntmps3
  go_wp2_with fail
  refine (vBig_any a len cap _ hl true (by simpa using h)).mono ?_
  rintro e w1 ⟨rfl, rfl⟩
  go_wp2_with fail
  go_ret
  exact ⟨rfl, rfl⟩

theorem owns_below {W W' : World} {base e size n : Nat} {v : Value} {xs : List Value} (h : W.ownsRow base e size v n xs) (hb : Below W.heap.size W W') : W'.ownsRow base e size v n xs := h.kept (grown_of_below hb none) (Classical.em _)

/-- What SplitString answers at texts of at most 10 bytes. -/
theorem splits (s sep : ByteArray) (hs : s.size ≤ 10) (w : World) : ∃ (ps : List ByteArray) (ok : Bool), Calls Try.prog 10 #[.string s, .string sep] w (SplitPost w ps ok) ∧ ((sep.size ≠ 1 ∧ ps = [] ∧ ok = false) ∨ ∃ c : UInt8, sep = ⟨#[c]⟩ ∧ ps = pieces s c ∧ ok = true) := by
  by_cases hz : sep.size = 1
  · obtain ⟨c, hc⟩ : ∃ c : UInt8, sep = ⟨#[c]⟩ := by
      obtain ⟨d⟩ := sep
      have hz' : d.size = 1 := hz
      obtain ⟨l⟩ := d
      match l, hz' with
      | [c], _ => exact ⟨c, rfl⟩
    subst hc
    exact ⟨_, _, split_any s c (by omega) w, .inr ⟨c, rfl, rfl, rfl⟩⟩
  · exact ⟨_, _, split_bad s sep (.inr hz) w, .inl ⟨hz, rfl, rfl⟩⟩

theorem owns_none {W : World} {base e size : Nat} {v : Value} {xs : List Value} (h : W.ownsRow base e size v 0 xs) : ∃ a c, v = .slice a 0 c := by
  rcases h.2 with ⟨rfl, _⟩ | ⟨g, cap, cur, rfl, _⟩
  · exact ⟨_, _, rfl⟩
  · exact ⟨_, _, rfl⟩

/-- The pieces are joined to the text again. -/
theorem back_join (g cap : Nat) (s : ByteArray) (c : UInt8) (hs : s.size ≤ 10) (w : World) (h : RowAt w g cap (pieces s c).length (fun j => (pieces s c)[j]?.getD ByteArray.empty)) :
    Calls Try.prog 12 #[.slice (some ⟨g, 0, none⟩) (pieces s c).length cap, .string ⟨#[c]⟩] w fun e w' => e = .returned (.tuple #[.string s, .bool true]) ∧ Below w.heap.size w w' := by
  have hz : ∀ x ∈ pieces s c, x.size ≤ 1048576 := fun x hx => by
    have h1 := pieces_tot s c
    have h2 := tot_mem hx
    omega
  have h1 := implJoin_rows g cap (pieces s c).length (fun j => (pieces s c)[j]?.getD ByteArray.empty) c (by have := pieces_size s c; omega) (fun j hj => by
    have := hz (pieces s c)[j] (List.getElem_mem hj)
    simpa [hj] using this) w h
  rw [back_ans s c (by omega)] at h1
  exact h1

/-- One of the two functions that compare. -/
theorem lessI_any (a b : ByteArray) (w : World) : Calls Try.prog 15 #[.string a, .string b] w fun e w' => e = .returned (.bool (Op.bytesLess a.toList b.toList)) ∧ w = w' := by
  go_enter Try.func15, Try.ntmps15
  go_wp2_with fail
  go_ret
  exact ⟨rfl, rfl⟩
theorem lessS_any (a b : ByteArray) (w : World) : Calls Try.prog 16 #[.string a, .string b] w fun e w' => e = .returned (.bool (Op.bytesLess a.toList b.toList)) ∧ w = w' := by
  go_enter Try.func16, Try.ntmps16
  go_wp2_with fail
  go_ret
  exact ⟨rfl, rfl⟩

theorem lessI_is (a b : ByteArray) (p : Bool) (h : Op.bytesLess a.toList b.toList = p) (w : World) : Calls Try.prog 15 #[.string a, .string b] w fun e w' => e = .returned (.bool p) ∧ w = w' := h ▸ lessI_any a b w
theorem lessS_is (a b : ByteArray) (p : Bool) (h : Op.bytesLess a.toList b.toList = p) (w : World) : Calls Try.prog 16 #[.string a, .string b] w fun e w' => e = .returned (.bool p) ∧ w = w' := h ▸ lessS_any a b w

set_option maxRecDepth 100000 in
set_option maxHeartbeats 4000000 in
theorem sj_small (a : Option Addr) (len cap : Nat) (w : World) (h : CodeArg w a len) :
    Calls Try.prog 3 #[.slice a len cap] w fun e w' => e = .returned (.bool true) ∧ Below w.heap.size w w' := by
  have H := Lib.hid h
  clear h
  go_enter Try.func3, Try.ntmps3
  go_wp2_with fail
  refine (vBig_any a len cap _ (by have := H.out.1; unfold maxLen; omega) false (by simpa using H.out.1)).mono ?_
  rintro e w1 ⟨rfl, rfl⟩
  go_wp2_with fail
  refine (drawSplit_any a len cap _ H.out).mono ?_
  rintro e w1 ⟨s, sep, rfl, hs, hsep, hb1⟩
  have B1 := Lib.hid hb1
  clear hb1
  obtain ⟨ps, ok, hcall, hps⟩ := splits s sep hs w1
  have HC := Lib.hid hcall
  have HP := Lib.hid hps
  clear hcall hps
  go_wp2_with fail
  refine HC.out.mono ?_
  rintro e w2 ⟨v2, rfl, hr2, hb2⟩
  have R2 := Lib.hid hr2
  have B2 : Hid (Below w.heap.size w w2) := Lib.hid (B1.out.trans (hb2.mono B1.out.size))
  clear hr2 hb2
  go_wp2_with fail
  refine (drawJoin_any a len cap _ (H.out.below B2.out)).mono ?_
  rintro e w3 ⟨v3, xs, mark, rfl, hr3, hxl, hxs, hmark, hb3, hne3⟩
  obtain ⟨g3, cap3, rfl, hrow3⟩ := owns_row hr3 hne3
  have R3 : Hid (w3.ownsRow w1.heap.size 9 1 v2 ps.length (ps.map Value.string)) := Lib.hid (owns_below R2.out hb3)
  have B3 : Hid (Below w.heap.size w w3) := Lib.hid (B2.out.trans (hb3.mono B2.out.size))
  obtain ⟨A, b3, hI, hS⟩ := joins_alike g3 cap3 xs.length (fun j => xs[j]?.getD ByteArray.empty) mark (by omega) (fun j hj => by
    have := hxs xs[j] (List.getElem_mem hj)
    simp [hj]; omega)
  have HI := Lib.hid hI
  have HS := Lib.hid hS
  have Row3 := Lib.hid hrow3
  clear hI hS hrow3 hr3 hxs hb3 hne3
  go_wp2_with fail
  refine (HI.out _ Row3.out).mono ?_
  rintro e w4 ⟨rfl, hb4⟩
  have R4 : Hid (w4.ownsRow w1.heap.size 9 1 v2 ps.length (ps.map Value.string)) := Lib.hid (owns_below R3.out hb4)
  have B4 : Hid (Below w.heap.size w w4) := Lib.hid (B3.out.trans (hb4.mono B3.out.size))
  have Row4 : Hid (RowAt w4 g3 cap3 xs.length (fun j => xs[j]?.getD ByteArray.empty)) := Lib.hid (Row3.out.block (hb4.block _ Row3.out.lt))
  clear hb4
  go_wp2_with fail
  refine (HS.out _ Row4.out).mono ?_
  rintro e w5 ⟨rfl, q5, rfl⟩
  have R5 : Hid ((w4.drewN q5).ownsRow w1.heap.size 9 1 v2 ps.length (ps.map Value.string)) := Lib.hid (owns_below R4.out (below_drewN (Below.refl _ _) q5))
  have B5 : Hid (Below w.heap.size w (w4.drewN q5)) := Lib.hid (below_drewN B4.out q5)
  generalize w4.drewN q5 = w5 at *
  go_wp2_with fail
  refine (drawLess_any a len cap _ (H.out.below B5.out)).mono ?_
  rintro e w6 ⟨x, y, rfl, hx, hy, hb6⟩
  have R6 : Hid (w6.ownsRow w1.heap.size 9 1 v2 ps.length (ps.map Value.string)) := Lib.hid (owns_below R5.out hb6)
  have B6 : Hid (Below w.heap.size w w6) := Lib.hid (B5.out.trans (hb6.mono B5.out.size))
  clear hb6
  go_wp2_with fail
  obtain ⟨p, hp⟩ : ∃ p, Op.bytesLess x.toList y.toList = p := ⟨_, rfl⟩
  have E := Lib.hid hp
  clear hp
  cases p
  · refine (lessI_is x y false E.out _).mono ?_
    rintro e w7 ⟨rfl, rfl⟩
    go_wp2_with fail
    refine (lessS_is x y false E.out _).mono ?_
    rintro e w7 ⟨rfl, rfl⟩
    go_wp2_with fail
    refine (lessI_is x y false E.out _).mono ?_
    rintro e w7 ⟨rfl, rfl⟩
    rcases HP.out with ⟨hz, h1, h2⟩ | ⟨c, h0, h1, h2⟩
    · subst h1; subst h2
      have hz' : ((sep.size : Int) != 1) = true := by rw [bne_iff_ne]; omega
      obtain ⟨a2, c2, rfl⟩ := owns_none R6.out
      clear hz HP
      go_wp2_with fail
      go_ret
      exact ⟨rfl, B6.out⟩
    · subst h0; subst h1; subst h2
      obtain ⟨g2, c2, rfl, hrow2⟩ := owns_row R6.out (owns_ne R6.out (by rw [pieces_len]; omega))
      have Row2 := Lib.hid hrow2
      have hl := pieces_size s c
      have hlen : (pieces s c).length ≤ 11 := by omega
      clear hrow2 HP hl
      go_wp2_with fail
      refine (back_join g2 c2 s c (by omega) _ Row2.out).mono ?_
      rintro e w8 ⟨rfl, hb8⟩
      have B8 : Hid (Below w.heap.size w w8) := Lib.hid (B6.out.trans (hb8.mono B6.out.size))
      clear hb8
      go_wp2_with fail
      go_ret
      exact ⟨by simp, B8.out⟩
  · refine (lessI_is x y true E.out _).mono ?_
    rintro e w7 ⟨rfl, rfl⟩
    go_wp2_with fail
    refine (lessS_is x y true E.out _).mono ?_
    rintro e w7 ⟨rfl, rfl⟩
    go_wp2_with fail
    refine (lessI_is x y true E.out _).mono ?_
    rintro e w7 ⟨rfl, rfl⟩
    go_wp2_with fail
    refine (lessI_is y x false (bytes_asym _ _ E.out) _).mono ?_
    rintro e w7 ⟨rfl, rfl⟩
    rcases HP.out with ⟨hz, h1, h2⟩ | ⟨c, h0, h1, h2⟩
    · subst h1; subst h2
      have hz' : ((sep.size : Int) != 1) = true := by rw [bne_iff_ne]; omega
      obtain ⟨a2, c2, rfl⟩ := owns_none R6.out
      clear hz HP
      go_wp2_with fail
      go_ret
      exact ⟨rfl, B6.out⟩
    · subst h0; subst h1; subst h2
      obtain ⟨g2, c2, rfl, hrow2⟩ := owns_row R6.out (owns_ne R6.out (by rw [pieces_len]; omega))
      have Row2 := Lib.hid hrow2
      have hl := pieces_size s c
      have hlen : (pieces s c).length ≤ 11 := by omega
      clear hrow2 HP hl
      go_wp2_with fail
      refine (back_join g2 c2 s c (by omega) _ Row2.out).mono ?_
      rintro e w8 ⟨rfl, hb8⟩
      have B8 : Hid (Below w.heap.size w w8) := Lib.hid (B6.out.trans (hb8.mono B6.out.size))
      clear hb8
      go_wp2_with fail
      go_ret
      exact ⟨by simp, B8.out⟩

theorem sj_own : ownKnob Try.prog.godebug = none := by kernel_rfl
theorem sj_laidOut : laidOutB Try.prog = true := by kernel_rfl

theorem sj_walk (a : Option Addr) (len cap : Nat) (w : World) (hl : len ≤ maxLen) (hc : ∀ j, j < len → ∃ (cb off : Nat) (x : UInt8), a = some ⟨cb, off, none⟩ ∧ cb < w.heap.size ∧ w.cell? ⟨cb, off + j, none⟩ = some (.int .u8 (x.toNat : Int))) :
    Calls Try.prog 3 #[.slice a len cap] w fun e w' => e = .returned (.bool true) ∧ Below w.heap.size w w' := by
  by_cases h : 65536 < len
  · refine (sj_big a len cap w h hl).mono ?_
    rintro e w' ⟨he, rfl⟩
    exact ⟨he, Below.refl _ _⟩
  · exact sj_small a len cap w ⟨by omega, hc⟩

theorem byte_of {z : Int} (h : (Lit.int .u8 z).wf = true) : ∃ x : UInt8, (x.toNat : Int) = z := by
  have h1 : 0 ≤ z ∧ z < 256 := by
    simp only [Lit.wf, Bool.and_eq_true, decide_eq_true_eq] at h
    have e1 : IntKind.u8.min = 0 := rfl
    have e2 : IntKind.u8.max = 255 := rfl
    omega
  refine ⟨UInt8.ofNat z.toNat, ?_⟩
  rw [UInt8.toNat_ofNat']
  omega

set_option maxRecDepth 100000 in
theorem sj_lifted (os : Os) (started : os.Started) (H : Type) (enc : TypeId × Value → H) :
    ReturnsInHanded {} Try.checked os 3 .any (Rows.fnSplitJoinSpec.pre6 enc Try.prog Try.f3 Rows.fnSplitJoinRow.domain false) (Rows.fnSplitJoinSpec.post enc Try.prog Try.f3 false true false false) := by
  refine returnsInHanded_of_change (C := Try.checked) sj_own started (by kernel_rfl) Try.func3
    (ChangeSpec.witness6 (enc := enc) (C := Try.checked) false ⟨#[], #[.slice none 0 0], []⟩ 8 (by kernel_rfl) (by kernel_rfl) (by kernel_rfl) (by kernel_rfl)) ?_
  intro W base args ds gs before hval0 hW hcnd0 _
  have hval : ∀ (j : Nat) t v, Try.f3.params[j]? = some t → args[j]? = some v → Value.okWide Try.prog W .any base t v := hval0
  have hW' := hW
  obtain ⟨p, q, hA0, hV, rfl, hfz, _⟩ := hW
  have hA : DataW.TrodAll enc Try.prog W 0 (fun _ => true) true Try.f3.params.toList args.toList ds p := hA0
  rw [Try.params3] at hA hval
  obtain ⟨v0, d0, rfl, rfl, h0⟩ := trodAll_one hA
  obtain ⟨rfl, rfl⟩ := trodVars_none hV
  obtain ⟨a0, len, cap, rfl⟩ := okWide_slice Try.underlying22 (hval 0 22 v0 rfl rfl)
  have h0k := h0
  obtain ⟨fuel, hf⟩ := h0
  clear hA0 hval0 hcnd0
  simp only [List.append_nil] at hW'
  have hlt : ∀ x ∈ p, x.block < W.heap.size := fun x hx => by simpa using hW'.lt x (by simpa using hx)
  have key : len ≤ maxLen ∧ ∀ j, j < len → ∃ (cb off : Nat) (x : UInt8), a0 = some ⟨cb, off, none⟩ ∧ cb < W.heap.size ∧ W.cell? ⟨cb, off + j, none⟩ = some (.int .u8 (x.toNat : Int)) := by
    rcases open_ints Try.underlying22 Try.underlying5 (by kernel_rfl) hf with ⟨hcs, hx⟩ | ⟨a, len', cap', zs, hcs, _, hl, hm, hz, hx, hcell, hws⟩
    · simp [Value.cells] at hcs
      obtain ⟨rfl, rfl, rfl⟩ := hcs
      exact ⟨Nat.zero_le _, fun j hj => by omega⟩
    · simp [Value.cells] at hcs
      obtain ⟨rfl, rfl, rfl⟩ := hcs
      simp only [Prod.mk.injEq] at hx
      obtain ⟨-, hp⟩ := hx
      simp only [if_true] at hz
      refine ⟨by omega, fun j hj => ?_⟩
      have hjz : j < zs.length := by omega
      obtain ⟨b, off, spot⟩ := a
      have hspot : spot = none := by simpa [Addr.add] using World.cell?_spot (hcell 0 (by omega))
      subst hspot
      have hbW : b < W.heap.size := hlt (.cell b off) (by rw [hp]; exact MemPlace.mem_row.2 ⟨0, by omega, by simp⟩)
      obtain ⟨x, hx⟩ := byte_of (hws zs[j] (List.getElem_mem hjz))
      refine ⟨b, off, x, rfl, hbW, ?_⟩
      rw [← add_plain, hcell j hjz, hx]
      simp [hjz]
  obtain ⟨hn, hv⟩ := key
  refine (sj_walk a0 len cap W hn hv).mono fun e W' ⟨he, hB⟩ => ?_
  subst he
  refine ⟨_, rfl, _, _, _, [], p, [], hW', ?_, ?_, rfl, hB.frame _, fun h => by cases h⟩
  · exact trodAll_mk1 (shut_bool Try.underlying4 true)
  · exact trodAll_mk1 (Below.trod sj_laidOut (by kernel_rfl) (of_decide_eq_true (by kernel_rfl)) h0k hB hlt)

theorem FnSplitJoin_holds : Rows.FnSplitJoinSaid :=
  OpenClaim.holds_of_wide 3 Try.f3 rfl rfl rfl rfl rfl rfl rfl ⟨rfl, rfl, rfl, rfl, rfl⟩ rfl rfl rfl rfl rfl (by kernel_rfl) Try.func3 (by kernel_rfl)
    (of_decide_eq_true (by kernel_rfl)) (by unfold Func.isWrapper; first | (rw [if_pos (by decide +kernel)]; kernel_rfl) | (rw [if_neg (by decide +kernel)]; exact ⟨rfl, rfl⟩))
    (fun os started H enc _ => sj_lifted os started H enc)
#print axioms FnSplitJoin_holds
end Go.Proofs.Ytaebphbnfnjfcaa
