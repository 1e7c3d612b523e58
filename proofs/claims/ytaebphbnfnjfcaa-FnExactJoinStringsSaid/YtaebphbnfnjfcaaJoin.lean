/-
  Proved here: the law FnExactJoinStrings returns true at every list of strings and every string, and both read afterwards as they read before. There are no conditions.
-/
import Derived.Test.YtaebphbnfnjfcaaRows
import Derived.Test.YtaebphbnfnjfcaaJoinI
import Derived.Test.YtaebphbnfnjfcaaArgs
import Derived.WalkKit
import Derived.ProofKit
import Derived.OpenShut
import Derived.SizedLaws
namespace Go.Proofs.Ytaebphbnfnjfcaa
open Go.ChangeShapes Go.WideShapes Go.ChangeAt Go.RowKit
open Go.ChangeMaps (open_string shut_string)

theorem eqS_two (g1 g2 c1 c2 n : Nat) (f : Nat → ByteArray) (hn : n ≤ 1048576) (w : World) (h1 : RowAt w g1 c1 n f) (h2 : RowAt w g2 c2 n f) :
    Calls Try.prog 18 #[.slice (some ⟨g1, 0, none⟩) n c1, .slice (some ⟨g2, 0, none⟩) n c2] w fun e w' => e = .returned (.bool true) ∧ ∃ k, w' = w.drewN k := eqS_rows g1 g2 c1 c2 n f hn w h1 h2

/-- The law's road behind the sizes, where both functions answer alike. -/
theorem joinLaw (v : Value) (n : Nat) (f : Nat → ByteArray) (sep : ByteArray) (A : ByteArray) (b : Bool) (hn : n ≤ maxLen) (hsz : ∀ j, j < n → (f j).size ≤ maxLen) (w : World) (hs2 : ¬ 1048576 < sep.size) (hv : ArgRow w v n f)
    (hspec : n ≤ 1048576 → (∀ j, j < n → (f j).size ≤ 1048576) → ∀ g W, RowAt W g n n f → Calls Try.prog 13 #[.slice (some ⟨g, 0, none⟩) n n, .string sep] W fun e w' => e = .returned (.tuple #[.string A, .bool b]) ∧ ∃ k, w' = W.drewN k)
    (himpl : n ≤ 1048576 → (∀ j, j < n → (f j).size ≤ 1048576) → ∀ g W, RowAt W g n n f → Calls Try.prog 12 #[.slice (some ⟨g, 0, none⟩) n n, .string sep] W fun e w' => e = .returned (.tuple #[.string A, .bool b]) ∧ Below W.heap.size W w') :
    Calls Try.prog 5 #[v, .string sep] w fun e w' => e = .returned (.bool true) ∧ Below w.heap.size w w' := by
  have H1 := Lib.hid hspec
  have H2 := Lib.hid himpl
  have HZ := Lib.hid hsz
  have HV := Lib.hid hv
  clear hspec himpl hsz hv
  go_enter Try.func5, Try.ntmps5
  go_wp2_with fail
  refine (szS_any v n f hn HZ.out _ HV.out).mono ?_
  rintro e w1 ⟨rfl, rfl | ⟨r, rfl, hn2, hf2⟩⟩
  · go_wp2_with fail
    go_ret
    exact ⟨rfl, Below.refl _ _⟩
  · have HF := Lib.hid hf2
    clear hf2
    go_wp2_with fail
    refine (toS_any v n f hn2 _ HV.out).mono ?_
    rintro e w1 ⟨rfl, hr1, hb1⟩
    have R1 := Lib.hid hr1
    have B1 := Lib.hid hb1
    clear hr1 hb1
    go_wp2_with fail
    refine (H1.out hn2 HF.out _ _ R1.out).mono ?_
    rintro e w2 ⟨rfl, q2, rfl⟩
    have B2 : Hid (Below w.heap.size w (w1.drewN q2)) := Lib.hid (below_drewN B1.out q2)
    have V2 : Hid (ArgRow (w1.drewN q2) v n f) := Lib.hid (HV.out.below B2.out)
    generalize w1.drewN q2 = w2 at *
    go_wp2_with fail
    refine (toS_any v n f hn2 _ V2.out).mono ?_
    rintro e w3 ⟨rfl, hr3, hb3⟩
    have R3 := Lib.hid hr3
    have B3 : Hid (Below w.heap.size w w3) := Lib.hid (B2.out.trans (hb3.mono B2.out.size))
    clear hr3 hb3
    go_wp2_with fail
    refine (H2.out hn2 HF.out _ _ R3.out).mono ?_
    rintro e w4 ⟨rfl, hb4⟩
    have R4 : Hid (RowAt w4 w2.heap.size n n f) := Lib.hid (R3.out.block (hb4.block _ R3.out.lt))
    have B4 : Hid (Below w.heap.size w w4) := Lib.hid (B3.out.trans (hb4.mono B3.out.size))
    have V4 : Hid (ArgRow w4 v n f) := Lib.hid (HV.out.below B4.out)
    clear hb4
    go_wp2_with fail
    refine (toS_any v n f hn2 _ V4.out).mono ?_
    rintro e w5 ⟨rfl, hr5, hb5⟩
    have R5 := Lib.hid hr5
    have X5 : Hid (RowAt w5 w2.heap.size n n f) := Lib.hid (R4.out.block (hb5.block _ R4.out.lt))
    have B5 : Hid (Below w.heap.size w w5) := Lib.hid (B4.out.trans (hb5.mono B4.out.size))
    clear hr5 hb5
    go_wp2_with fail
    refine (eqS_two _ _ _ _ n f hn2 _ X5.out R5.out).mono ?_
    rintro e w6 ⟨rfl, q6, rfl⟩
    go_wp2_with fail
    go_ret
    exact ⟨rfl, below_drewN B5.out q6⟩

theorem join_walk (v : Value) (n : Nat) (f : Nat → ByteArray) (sep : ByteArray) (hn : n ≤ maxLen) (hsz : ∀ j, j < n → (f j).size ≤ maxLen) (w : World) (hv : ArgRow w v n f) :
    Calls Try.prog 5 #[v, .string sep] w fun e w' => e = .returned (.bool true) ∧ Below w.heap.size w w' := by
  by_cases h2 : 1048576 < sep.size
  · have HV := Lib.hid hv
    clear hv hsz
    go_enter Try.func5, Try.ntmps5
    go_wp2_with fail
    go_ret
    exact ⟨rfl, Below.refl _ _⟩
  · by_cases hz : sep.size = 1
    · obtain ⟨c, hc⟩ : ∃ c : UInt8, sep = ⟨#[c]⟩ := by
        obtain ⟨d⟩ := sep
        have hz' : d.size = 1 := hz
        obtain ⟨l⟩ := d
        match l, hz' with
        | [c], _ => exact ⟨c, rfl⟩
      subst hc
      refine joinLaw v n f _ (joinAns f n c).1 (joinAns f n c).2 hn hsz w h2 hv (fun hn2 hf2 g W hR => ?_) (fun hn2 hf2 g W hR => implJoin_rows g n n f c hn2 hf2 W hR)
      by_cases h0 : 0 < n
      · exact specJoin_rows g n n f c hn2 h0 hf2 W hR
      · have hn0 : n = 0 := by omega
        subst hn0
        have e : joinAns f 0 c = (⟨#[]⟩, false) := by unfold joinAns; simp
        rw [e]
        exact specJoin_empty _ _ c W
    · exact joinLaw v n f sep ⟨#[]⟩ false hn hsz w h2 hv (fun _ _ g W _ => specJoin_sep _ _ _ sep hz W) (fun _ _ g W _ => implJoin_sep _ _ _ sep hz W)

theorem join_own : ownKnob Try.prog.godebug = none := by kernel_rfl
theorem join_laidOut : laidOutB Try.prog = true := by kernel_rfl
theorem join_cells9 : Try.prog.cellsOf 9 = 1 := by kernel_rfl

set_option maxRecDepth 100000 in
theorem join_lifted (os : Os) (started : os.Started) (H : Type) (enc : TypeId × Value → H) :
    ReturnsInHanded {} Try.checked os 5 .any (Rows.fnExactJoinStringsSpec.pre6 enc Try.prog Try.f5 Rows.fnExactJoinStringsRow.domain false) (Rows.fnExactJoinStringsSpec.post enc Try.prog Try.f5 false true false false) := by
  refine returnsInHanded_of_change (C := Try.checked) join_own started (by kernel_rfl) Try.func5
    (ChangeSpec.witness6 (enc := enc) (C := Try.checked) false ⟨#[], #[.slice none 0 0, .string ⟨#[]⟩], []⟩ 8 (by kernel_rfl) (by kernel_rfl) (by kernel_rfl) (by kernel_rfl)) ?_
  intro W base args ds gs before hval0 hW hcnd0 _
  have hval : ∀ (j : Nat) t v, Try.f5.params[j]? = some t → args[j]? = some v → Value.okWide Try.prog W .any base t v := hval0
  have hW' := hW
  obtain ⟨p, q, hA0, hV, rfl, hfz, _⟩ := hW
  have hA : DataW.TrodAll enc Try.prog W 0 (fun _ => true) true Try.f5.params.toList args.toList ds p := hA0
  rw [Try.params5] at hA hval
  obtain ⟨v0, v1, d0, d1, p0, p1, rfl, rfl, rfl, h0, h1⟩ := trodAll_two hA
  obtain ⟨rfl, rfl⟩ := trodVars_none hV
  obtain ⟨a0, len, cap, rfl⟩ := okWide_slice Try.underlying26 (hval 0 26 v0 rfl rfl)
  obtain ⟨sep, rfl, rfl, rfl, wb⟩ := open_string Try.underlying9 (hval 1 9 v1 rfl rfl) h1
  have h0k := h0
  obtain ⟨fuel, hf⟩ := h0
  clear hA0 hval0 hcnd0
  simp only [List.append_nil] at hW'
  have hlt : ∀ x ∈ p0, x.block < W.heap.size := fun x hx => by simpa using hW'.lt x (by simpa using hx)
  have key : ∃ f : Nat → ByteArray, len ≤ maxLen ∧ (∀ j, j < len → (f j).size ≤ maxLen) ∧ ArgRow W (.slice a0 len cap) len f := by
    rcases open_strings Try.underlying26 Try.underlying9 join_cells9 hf with ⟨hcs, hx⟩ | ⟨a, len', cap', ss, hcs, _, hl, hm, hz, hx, hcell, hws⟩
    · simp [Value.cells] at hcs
      obtain ⟨rfl, rfl, rfl⟩ := hcs
      exact ⟨fun _ => ByteArray.empty, Nat.zero_le _, fun j hj => by omega, .inl ⟨rfl, _, _, rfl⟩⟩
    · simp [Value.cells] at hcs
      obtain ⟨rfl, rfl, rfl⟩ := hcs
      simp only [Prod.mk.injEq] at hx
      obtain ⟨-, hp⟩ := hx
      simp only [if_true] at hz
      refine ⟨fun j => ss.getD j ByteArray.empty, by omega, fun j hj => ?_, ?_⟩
      · have hjs : j < ss.length := by omega
        simp only [List.getD, List.getElem?_eq_getElem hjs, Option.getD_some]
        exact hws _ (List.getElem_mem _)
      · by_cases hl0 : len = 0
        · subst hl0; exact .inl ⟨rfl, _, _, rfl⟩
        · obtain ⟨b, off, spot⟩ := a
          have hspot : spot = none := by simpa [Addr.add] using World.cell?_spot (hcell 0 (by omega))
          subst hspot
          have hbW : b < W.heap.size := hlt (.cell b off) (by rw [hp]; exact MemPlace.mem_row.2 ⟨0, by omega, by simp⟩)
          exact .inr ⟨b, off, cap, rfl, hbW, fun j hj => by rw [← add_plain]; exact hcell j (by omega)⟩
  obtain ⟨f, hn, hsz, hv⟩ := key
  refine (join_walk (.slice a0 len cap) len f sep hn hsz W hv).mono fun e W' ⟨he, hB⟩ => ?_
  subst he
  refine ⟨_, rfl, _, _, _, [], p0, [], hW', ?_, ?_, rfl, hB.frame _, fun h => by cases h⟩
  · exact trodAll_mk1 (shut_bool Try.underlying4 true)
  · have h2 := trodAll_mk2 (Below.trod join_laidOut (by kernel_rfl) (of_decide_eq_true (by kernel_rfl)) h0k hB hlt) (shut_string Try.underlying9 wb)
    rw [List.append_nil] at h2
    exact h2

theorem FnExactJoinStrings_holds : Rows.FnExactJoinStringsSaid :=
  OpenClaim.holds_of_wide 5 Try.f5 rfl rfl rfl rfl rfl rfl rfl ⟨rfl, rfl, rfl, rfl, rfl⟩ rfl rfl rfl rfl rfl (by kernel_rfl) Try.func5 (by kernel_rfl)
    (of_decide_eq_true (by kernel_rfl)) (by unfold Func.isWrapper; first | (rw [if_pos (by decide +kernel)]; kernel_rfl) | (rw [if_neg (by decide +kernel)]; exact ⟨rfl, rfl⟩))
    (fun os started H enc _ => join_lifted os started H enc)
#print axioms FnExactJoinStrings_holds
end Go.Proofs.Ytaebphbnfnjfcaa
