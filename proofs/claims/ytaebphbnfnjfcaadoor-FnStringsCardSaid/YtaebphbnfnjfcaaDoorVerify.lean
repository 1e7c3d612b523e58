/-
  Proved here: the tied card of the law FnExactVerifyChecksum: it returns true at every string, and the string reads afterwards as it read before. There are no conditions beyond the card's own tie of the library's tables to the program's text.
-/
import Derived.Test.YtaebphbnfnjfcaaDoorRows
import Derived.Test.YtaebphbnfnjfcaaDoorCards
import Derived.Test.YtaebphbnfnjfcaaDoorTie
import Derived.Test.YtaebphbnfnjfcaaDoorCut
import Derived.WalkKit
import Derived.WalkSmall
import Derived.ProofKit
import Derived.LaidMore
import Derived.OpenShut
import Derived.Stop.Joined
import Derived.Lib.SmallJoins
import Derived.SevenTiedAt
namespace Go.Proofs.YtaebphbnfnjfcaaDoor
open Go.ChangeShapes Go.WideShapes Go.ChangeAt Go.RowKit
open Go.ChangeMaps (open_string shut_string)

theorem ownV : ownKnob Tryd.prog.godebug = none := by kernel_rfl

/-- What both functions answer. -/
def verAns (s : ByteArray) : ByteArray × Bool := if s.size ≤ 4000 ∧ (sealOf (headB s)).data.toList = s.data.toList then (headB s, true) else (⟨#[]⟩, false)

theorem bytes_eq (a s : ByteArray) (h : a.data.toList = s.data.toList) : (a.toList == s.toList) = true := by
  rw [ByteArray.toList_eq, ByteArray.toList_eq]; simp [h]
theorem bytes_ne (a s : ByteArray) (h : ¬ a.data.toList = s.data.toList) : (a.toList == s.toList) = false := by
  rw [ByteArray.toList_eq, ByteArray.toList_eq]; simpa using h
theorem bytes_size (a s : ByteArray) (h : a.data.toList = s.data.toList) : a.size = s.size := by
  have := congrArg List.length h
  simpa using this

/-- What spec.l1Split answers, as far as its first element goes. -/
def FirstPost (w : World) (t : ByteArray) (e : Ending) (w' : World) : Prop := ∃ g n cap : Nat, e = .returned (.slice (some ⟨g, 0, none⟩) n cap) ∧ 0 < n ∧ n ≤ 5000 ∧ w'.cell? ⟨g, 0, none⟩ = some (.string t) ∧ Below w.heap.size w w'

theorem splitFirst (s : ByteArray) (hs : s.size ≤ 4000) (w : World) : Calls Tryd.prog 36 #[.string s, .int .u8 35] w (FirstPost w (headB s)) := by
  refine (l1Split_any s 35 hs w).mono fun e w' ⟨v, he, hrow, hB⟩ => ?_
  have hlen := pieces_len s 35
  have hle := pieces_size s 35
  rcases hrow.2 with ⟨rfl, hn⟩ | ⟨g, cap, cur, rfl, hg, hb, hnc, hcm, hsz, hx⟩
  · omega
  · refine ⟨g, _, cap, he, by omega, by omega, ?_, hB⟩
    have e0 : (cur.toList.take ((pieces s 35).length * 1))[0]? = ((pieces s 35).map Value.string)[0]? := by rw [hx]
    rw [List.getElem?_take_of_lt (by omega), List.getElem?_map] at e0
    have e1 : (pieces s 35)[0]? = some (headB s) := by
      unfold headB
      cases hp : pieces s 35 with
      | nil => rw [hp] at hlen; simp at hlen
      | cons x r => rfl
    rw [e1] at e0
    simp only [World.cell?, hb]
    rw [← Array.getElem?_toList]
    simpa using e0

set_option maxRecDepth 100000 in
set_option maxHeartbeats 1000000 in
theorem specVerify_any (s : ByteArray) (hs : s.size ≤ 1048576) (w : World) :
    Calls Tryd.prog 20 #[.string s] w fun e w' => e = .returned (.tuple #[.string (verAns s).1, .bool (verAns s).2]) ∧ Below w.heap.size w w' := by
  by_cases h1 : 4000 < s.size
  · have HA : Hid (verAns s = (⟨#[]⟩, false)) := Lib.hid (by unfold verAns; rw [if_neg (by omega)])
    go_enter Tryd.func20, Tryd.ntmps20
    go_wp2_with fail
    go_ret2
    exact ⟨ret_strb HA.out, Below.refl _ _⟩
  · have h4 : s.size ≤ 4000 := by omega
    have hh := head_size s
    by_cases h2 : (sealOf (headB s)).data.toList = s.data.toList
    · have HA : Hid (verAns s = (headB s, true)) := Lib.hid (by unfold verAns; rw [if_pos ⟨h4, h2⟩])
      have hc := bytes_eq _ s h2
      clear h2
      go_enter Tryd.func20, Tryd.ntmps20
      go_wp2_with (first | (go_at_call 36; refine (splitFirst s h4 _).mono ?_; rintro e w1 ⟨g, n, cap, rfl, hn0, hn1, hc1, hb1⟩) | (go_at_call 34; refine (l1Seal_any (headB s) (by omega) _).mono ?_; rintro e w2 ⟨rfl, k, rfl⟩))
      go_ret2
      exact ⟨ret_strb HA.out, below_drewN hb1 _⟩
    · have HA : Hid (verAns s = (⟨#[]⟩, false)) := Lib.hid (by unfold verAns; rw [if_neg (fun h => h2 h.2)])
      have hc := bytes_ne _ s h2
      clear h2
      go_enter Tryd.func20, Tryd.ntmps20
      go_wp2_with (first | (go_at_call 36; refine (splitFirst s h4 _).mono ?_; rintro e w1 ⟨g, n, cap, rfl, hn0, hn1, hc1, hb1⟩) | (go_at_call 34; refine (l1Seal_any (headB s) (by omega) _).mono ?_; rintro e w2 ⟨rfl, k, rfl⟩))
      go_ret2
      exact ⟨ret_strb HA.out, below_drewN hb1 _⟩

set_option maxRecDepth 100000 in
set_option maxHeartbeats 1000000 in
theorem implVerify_any (s : ByteArray) (hs : s.size ≤ 1048576) (w : World) (htab : Lib.TabIs Tryd.prog w "internal/strconv.uint64pow10" .u64 Lib.pow10Tab) :
    Calls Tryd.prog 18 #[.string s] w fun e w' => e = .returned (.tuple #[.string (verAns s).1, .bool (verAns s).2]) ∧ Below w.heap.size w w' := by
  have HT := Lib.hid htab
  clear htab
  have hh := head_size s
  have hsep := head_sep s
  have key : ∀ x : ByteArray × Bool, sealAns (headB s) = x → Hid (∀ W, Lib.TabIs Tryd.prog W "internal/strconv.uint64pow10" .u64 Lib.pow10Tab → Calls Tryd.prog 16 #[.string (headB s)] W fun e w' => e = .returned (.tuple #[.string x.1, .bool x.2]) ∧ Below W.heap.size W w') := fun x hx => Lib.hid fun W hW => by
    subst hx
    exact implSeal_any (headB s) (by omega) W hW
  by_cases hok : (headB s).size ≤ 4000 ∧ sepIn (headB s) 35 = false ∧ (sealOf (headB s)).size ≤ 4000
  · have hsa : sealAns (headB s) = (sealOf (headB s), true) := by unfold sealAns; rw [if_pos hok]
    have HK := key _ hsa
    clear key hsa
    by_cases h2 : (sealOf (headB s)).data.toList = s.data.toList
    · have hz := bytes_size _ s h2
      have HA : Hid (verAns s = (headB s, true)) := Lib.hid (by unfold verAns; rw [if_pos ⟨by have := hok.2.2; omega, h2⟩])
      have hc := bytes_eq _ s h2
      clear h2 hz hok hsep
      go_enter Tryd.func18, Tryd.ntmps18
      go_wp2_with (first | (go_at_call 35; refine (cut_any s hs _).mono ?_; rintro e w1 ⟨⟨x, b, rfl⟩, k, rfl⟩) | (go_at_call 16; refine (HK.out _ (by exact HT.out)).mono ?_; rintro e w2 ⟨rfl, hb2⟩))
      go_ret2
      exact ⟨ret_strb HA.out, (below_drewN (Below.refl _ _) _).trans hb2⟩
    · have HA : Hid (verAns s = (⟨#[]⟩, false)) := Lib.hid (by unfold verAns; rw [if_neg (fun h => h2 h.2)])
      have hc := bytes_ne _ s h2
      clear h2 hok hsep
      go_enter Tryd.func18, Tryd.ntmps18
      go_wp2_with (first | (go_at_call 35; refine (cut_any s hs _).mono ?_; rintro e w1 ⟨⟨x, b, rfl⟩, k, rfl⟩) | (go_at_call 16; refine (HK.out _ (by exact HT.out)).mono ?_; rintro e w2 ⟨rfl, hb2⟩))
      go_ret2
      exact ⟨ret_strb HA.out, (below_drewN (Below.refl _ _) _).trans hb2⟩
  · have hsa : sealAns (headB s) = (⟨#[]⟩, false) := by unfold sealAns; rw [if_neg hok]
    have HK := key _ hsa
    have HA : Hid (verAns s = (⟨#[]⟩, false)) := Lib.hid (by
      unfold verAns
      rw [if_neg]
      rintro ⟨h4, h2⟩
      have hz := bytes_size _ s h2
      exact hok ⟨by omega, hsep, by omega⟩)
    clear key hsa hok hsep
    go_enter Tryd.func18, Tryd.ntmps18
    go_wp2_with (first | (go_at_call 35; refine (cut_any s hs _).mono ?_; rintro e w1 ⟨⟨x, b, rfl⟩, k, rfl⟩) | (go_at_call 16; refine (HK.out _ (by exact HT.out)).mono ?_; rintro e w2 ⟨rfl, hb2⟩))
    go_ret2
    exact ⟨ret_strb HA.out, (below_drewN (Below.refl _ _) _).trans hb2⟩

set_option maxHeartbeats 400000 in
theorem verify_walk (s : ByteArray) (w : World) (htab : Lib.TabIs Tryd.prog w "internal/strconv.uint64pow10" .u64 Lib.pow10Tab) :
    Calls Tryd.prog 7 #[.string s] w fun e w' => e = .returned (.bool true) ∧ Below w.heap.size w w' := by
  have HT := Lib.hid (Lib.tabBelow_of_tabIs htab)
  clear htab
  by_cases h : 1048576 < s.size
  · go_enter Tryd.func7, Tryd.ntmps7
    go_wp2_with fail
    go_ret
    exact ⟨rfl, Below.refl _ _⟩
  · have hs : s.size ≤ 1048576 := by omega
    go_enter Tryd.func7, Tryd.ntmps7
    go_wp2_with (first | (go_at_call 20; refine (specVerify_any s hs _).mono ?_; rintro e w1 ⟨rfl, hb1⟩) | (go_at_call 18; refine (implVerify_any s hs _ (HT.out _ hb1)).mono ?_; rintro e w2 ⟨rfl, hb2⟩))
    go_ret
    exact ⟨rfl, hb1.trans (hb2.mono hb1.size)⟩

theorem gPowV : Tryd.prog.globalNamed "internal/strconv.uint64pow10" = some 3 := by kernel_rfl
theorem tPowV : (Tryd.prog.globals[3]?).map (·.type) = some 90 := by kernel_rfl

/-- What the row's list gives: the table of the powers of ten. -/
theorem pow_of_laidV {W : World} (h : laidMetH Tryd.prog Rows.fnExactVerifyChecksumRow.laid W) : Lib.TabIs Tryd.prog W "internal/strconv.uint64pow10" .u64 Lib.pow10Tab := by
  rw [MakeChecks.laidMetH_plain _ _ _ (by kernel_rfl)] at h
  obtain ⟨ps, ⟨g0, t0, cs0, f0, p0, q0, hg0, ht0, hv0, hd0, ⟨g1, t1, cs1, f1, p1, q1, hg1, ht1, hv1, hd1, ⟨g2, t2, cs2, f2, p2, q2, hg2, ht2, hv2, hd2, _, _⟩, _⟩, _⟩, _, _⟩ := h
  obtain rfl := Option.some.inj (gPowV.symm.trans hg2)
  obtain rfl := Option.some.inj (tPowV.symm.trans ht2)
  unfold Lib.TabIs
  rw [hv2, ← Lib.cells_of_tab (zs := Lib.pow10Tab) Tryd.underlying90 Tryd.underlying35 (by kernel_rfl) (by kernel_rfl) hd2]

theorem doorV_met (os : Os) (args : Array Value) : laidMetH Tryd.prog Rows.fnExactVerifyChecksumRow.laid ((World.doorLaid Tryd.prog 400 os).forCall (fun _ _ => 0) ⟨#[], args, []⟩).memory :=
  laidMetH_of_parts3 (fuel := 8) (laidMet_of_run' 8 (by kernel_rfl) (by kernel_rfl)) (by kernel_rfl) (by kernel_rfl)

set_option maxRecDepth 100000 in
theorem verify_lifted (os : Os) (started : os.Started) (H : Type) (enc : TypeId × Value → H) :
    ReturnsInHanded {} Tryd.checked os 7 .any (fun w args => (Rows.fnExactVerifyChecksumSpec.pre enc Tryd.prog Tryd.f7 [] false w args ∧ laidMetH Tryd.prog Rows.fnExactVerifyChecksumRow.laid w) ∧ sizedMet enc Tryd.prog Tryd.f7 (OpenSpec.ofChange Rows.fnExactVerifyChecksumSpec) false w args)
      (Rows.fnExactVerifyChecksumSpec.post enc Tryd.prog Tryd.f7 false true false false) := by
  refine returnsInHanded_of_change_and (C := Tryd.checked) (X := fun w _ => laidMetH Tryd.prog Rows.fnExactVerifyChecksumRow.laid w) (fun _ _ _ hh h => h.of_heap hh) ownV started (by kernel_rfl) Tryd.func7
    (ChangeSpec.witness_shaped (enc := enc) (C := Tryd.checked) (os := os) (X := fun w _ => laidMetH Tryd.prog Rows.fnExactVerifyChecksumRow.laid w) false (World.doorLaid Tryd.prog 400 os) #[.string ⟨#[]⟩] 8 rfl (World.shaped_of_RefB (by kernel_rfl) (by kernel_rfl)) (by kernel_rfl) (by kernel_rfl) (by kernel_rfl) (doorV_met os _)) ?_
  intro W base args ds gs before hval0 hW _ _ hL _
  have hval : ∀ (j : Nat) t v, Tryd.f7.params[j]? = some t → args[j]? = some v → Value.okWide Tryd.prog W .any base t v := hval0
  have hW' := hW
  obtain ⟨p, q, hA0, hV, rfl, hfz, hnd⟩ := hW
  have hA : DataW.TrodAll enc Tryd.prog W 0 (fun _ => true) true Tryd.f7.params.toList args.toList ds p := hA0
  rw [Tryd.params7] at hA hval
  obtain ⟨v0, d0, rfl, rfl, h0⟩ := trodAll_one hA
  obtain ⟨rfl, rfl⟩ := trodVars_none hV
  obtain ⟨s, rfl, rfl, rfl, ws⟩ := open_string Tryd.underlying9 (hval 0 9 v0 rfl rfl) h0
  clear hA0 hval0
  simp only [List.append_nil] at hW'
  refine (verify_walk s W (pow_of_laidV hL)).mono fun e W' ⟨he, hB⟩ => ?_
  subst he
  refine ⟨_, rfl, _, _, _, [], [], [], hW', ?_, ?_, rfl, hB.frame _, fun h => by cases h⟩
  · exact trodAll_mk1 (shut_bool Tryd.underlying4 true)
  · exact trodAll_mk1 (shut_string Tryd.underlying9 ws)

theorem verify_holds : Rows.FnExactVerifyChecksumSaid :=
  OpenClaim.holds_of_wide 7 Tryd.f7 rfl rfl rfl rfl rfl rfl rfl ⟨rfl, rfl, rfl, rfl, rfl⟩ rfl rfl rfl rfl rfl (by kernel_rfl) Tryd.func7 (by kernel_rfl)
    (of_decide_eq_true (by kernel_rfl)) (by unfold Func.isWrapper; first | (rw [if_pos (by decide +kernel)]; kernel_rfl) | (rw [if_neg (by decide +kernel)]; exact ⟨rfl, rfl⟩))
    (fun os started H enc _ => verify_lifted os started H enc)

theorem FnExactVerifyChecksum_holds : Rows.FnExactVerifyChecksumCardSaid :=
  Claim7.holds_tied_plain_at .later [] [.data, .data, .data] true (true, "9ed6c44a6a661d552c56bf8ec48d33c553bf14d3f9fba688b39edd87cec3e528") true
    verify_holds (fun _ h => by cases h) (by kernel_rfl) (fun _ h => by cases h) fnExactVerifyChecksum_row_tie rfl ⟨rfl, rfl⟩ (by kernel_rfl) rfl
    (fun f fn hf hfn => by
      obtain rfl : f = 7 := Option.some.inj ((show Tryd.prog.funcNamed "loop.example/g00906/laws.FnExactVerifyChecksum" = some 7 by kernel_rfl).symm.trans hf) |>.symm
      obtain rfl : fn = Tryd.f7 := (Option.some.inj (Tryd.func7.symm.trans hfn)).symm
      exact ⟨by kernel_rfl, fun j t ht => by
        rw [Tryd.params7] at ht
        have hm : t ∈ [9] := by simpa using Array.mem_of_getElem? ht
        have hall : ([9].all fun u => !Tryd.prog.wantsStandIn u) = true := by kernel_rfl
        exact (show Tryd.prog.wantsStandIn t = false by simpa using List.all_eq_true.1 hall t hm)⟩)
    (by kernel_rfl)
#print axioms FnExactVerifyChecksum_holds
end Go.Proofs.YtaebphbnfnjfcaaDoor
