/-
  The law FnIdentifiers walked. No statement of the seat by itself.
-/
import Derived.Test.YtpckcaejmkhdnaaDoorDrawn
import Derived.Test.YtpckcaejmkhdnaaDoorIdM
import Derived.Laws.Cover1
namespace Go.Proofs.YtpckcaejmkhdnaaDoor
open Go.RowKit

/-- A world in which all that lay in W lies unturned. -/
structure Later (W : World) where
  w : World
  h : Below W.heap.size W w
instance (W : World) : Inhabited (Later W) := ⟨⟨W, Below.refl _ _⟩⟩
/-- A region that draws its order, whose operations read and whose callees may lay blocks of their own: walked once, in the order of the text. -/
theorem wp_region_later {P : Program} {id : Nat} {Q : Exit → Act → World → Prop} {a : Act} {w : World} {l : List Oper} (hm : P.follows .mixedOrders = true) (hB : Region.lexB .any l.toArray = true)
    (h : wpQuiet P l.toArray (fun w' => ∃ p : Later w, w' = p.w) (fun a' => ∀ w', (∃ p : Later w, w' = p.w) → Q .normal a' w') l a) : (Code.region id l.toArray true).wp P Q a w :=
  wp_region_quiet (C := fun w' => ∃ p : Later w, w' = p.w) hm hB ⟨⟨w.drew, below_drew1 (Below.refl _ w)⟩, rfl⟩ (by simpa using h)
theorem calls_later {P : Program} {f : FuncId} {args : Array Value} {W : World} {p : Later W} {v : Value} (h : Calls P f args p.w fun e w' => e = .returned v ∧ Below p.w.heap.size p.w w') : Calls P f args p.w fun e w'' => e = .returned v ∧ ∃ p : Later W, w'' = p.w :=
  h.mono fun _ w' ⟨he, hb⟩ => ⟨he, ⟨w', p.h.trans (hb.mono p.h.size)⟩, rfl⟩
theorem Later.cell {W : World} {b o : Nat} {v : Value} (hb : b < W.heap.size) (hc : W.cell? ⟨b, o, none⟩ = some v) (p : Later W) : p.w.cell? ⟨b, o, none⟩ = some v := (p.h.cell (p := ⟨b, o, none⟩) hb).trans hc

theorem vBig_any (a : Option Addr) (len cap : Nat) (w : World) (hl : len ≤ maxLen) (b : Bool) (hb : decide (65536 < len) = b) : Calls Tryd.prog 5 #[.slice a len cap] w fun e w' => e = .returned (.bool b) ∧ w = w' := by
  unfold maxLen at hl
  subst hb
  by_cases h : 65536 < len
  all_goals
    go_enter Tryd.func5, Tryd.ntmps5
    go_wp2_with fail
    go_ret
    exact ⟨by rw [show decide (65536 < len) = decide ((65536 : Int) < (len : Int)) from decide_eq_decide.2 (by omega)]; first | rfl | simp, rfl⟩

/-- What NextId answers, both functions alike. -/
theorem next_both (s : ByteArray) (hs : s.size ≤ 9) : ∃ (A : ByteArray) (b : Bool), (∀ W, Calls Tryd.prog 12 #[.string s] W fun e w' => e = .returned (.tuple #[.string A, .bool b]) ∧ Below W.heap.size W w') ∧
    (∀ W, Lib.TabIs Tryd.prog W "internal/strconv.uint64pow10" .u64 Lib.pow10Tab → Calls Tryd.prog 11 #[.string s] W fun e w' => e = .returned (.tuple #[.string A, .bool b]) ∧ Below W.heap.size W w') ∧
    A.size ≤ 8 ∧ (b = true → A.size = 8 ∧ s.size = 8 ∧ idB A = true ∧ A.extract 0 3 = s.extract 0 3 ∧ Op.bytesLess (A.extract 3 7).toList (s.extract 3 7).toList = false ∧ ((A.extract 3 7).toList == (s.extract 3 7).toList) = false) := by
  have hm : s.size ≤ maxLen := by unfold maxLen; omega
  cases hi : idB s with
  | false => exact ⟨⟨#[]⟩, false, fun W => specNext_bad s W hi hm, fun W _ => implNext_bad s W hi hm, by decide, fun h => by cases h⟩
  | true =>
    by_cases h9 : num4 s = 9999
    · exact ⟨⟨#[]⟩, false, fun W => specNext_last s W hi h9, fun W _ => implNext_last s W hi h9, by decide, fun h => by cases h⟩
    · obtain ⟨f1, f2, f3, f4⟩ := next_facts s hi h9
      rw [Bool.or_eq_false_iff] at f4
      exact ⟨nextOf s, true, fun W => specNext_yes s W hi h9, fun W ht => implNext_yes s W hi h9 ht, by omega, fun _ => ⟨f2, ((idB_iff s).1 hi).1, f1, f3, f4.1, f4.2⟩⟩

theorem implId_is (s : ByteArray) (b : Bool) (h : idB s = b) (hs : s.size ≤ maxLen) (W : World) : Calls Tryd.prog 9 #[.string s] W fun e w' => e = .returned (.bool b) ∧ Below W.heap.size W w' := by
  subst h; exact implId_any s W hs
theorem specId_is (s : ByteArray) (b : Bool) (h : idB s = b) (hs : s.size ≤ maxLen) (W : World) : Calls Tryd.prog 13 #[.string s] W fun e w' => e = .returned (.bool b) ∧ Below W.heap.size W w' := by
  subst h; exact (specId_any s W hs).mono fun e w' ⟨he, n, hw⟩ => ⟨he, by rw [hw]; exact below_drewN (Below.refl _ W) n⟩

set_option maxRecDepth 100000 in
set_option maxHeartbeats 4000000 in
theorem ids_small (a : Option Addr) (len cap : Nat) (w : World) (htab : Lib.TabIs Tryd.prog w "internal/strconv.uint64pow10" .u64 Lib.pow10Tab) (h : CodeArg w a len) :
    Calls Tryd.prog 3 #[.slice a len cap] w fun e w' => e = .returned (.bool true) ∧ Below w.heap.size w w' := by
  have H := Lib.hid h
  have HT := Lib.hid (Lib.tabBelow_of_tabIs htab)
  clear h htab
  go_enter Tryd.func3, Tryd.ntmps3
  go_wp2_with fail
  refine (vBig_any a len cap _ (by have := H.out.1; unfold maxLen; omega) false (by simpa using H.out.1)).mono ?_
  rintro e w1 ⟨rfl, rfl⟩
  go_wp2_with fail
  refine (drawLetter_any a len cap _ H.out).mono ?_
  rintro e w1 ⟨s, rfl, hs, hb1⟩
  have B1 := Lib.hid hb1
  clear hb1
  have HS := Lib.hid (show s.size ≤ maxLen by unfold maxLen; omega)
  cases h7 : sevenB s
  case' false =>
    have H7 := Lib.hid h7
    clear h7
    go_wp2_with fail
    refine (implLetter_no s _ H7.out HS.out).mono ?_
    rintro e w2 ⟨rfl, rfl⟩
    go_wp2_with fail
    refine (specLetter_no s _ H7.out HS.out).mono ?_
    rintro e w2 ⟨rfl, rfl⟩
    go_wp2_with fail
    refine (drawNext_any a len cap _ (H.out.below B1.out)).mono ?_
    rintro e w5 ⟨t, rfl, ht, hb5⟩
    have B5 : Hid (Below w.heap.size w w5) := Lib.hid (B1.out.trans (hb5.mono B1.out.size))
    clear hb5
  case' true =>
    have H7 := Lib.hid h7
    have z7 := ((sevenB_iff s).1 h7).1
    have hI1 := Lib.hid (made_id s h7)
    have hI2 := Lib.hid (id_size s (by omega))
    have zz := made_size s z7
    have zl : (letterS s).size = 1 := rfl
    have hI3 := Lib.hid (id_size (s ++ letterS s ++ letterS s) (by rw [ByteArray.size_append, zz, zl]; decide))
    have M1 := Lib.hid (show (s ++ letterS s).size ≤ maxLen by unfold maxLen; omega)
    have M3 := Lib.hid (show (s ++ letterS s ++ letterS s).size ≤ maxLen by rw [ByteArray.size_append, zz, zl]; unfold maxLen; omega)
    have zz8 : (s ++ letterS s).size ≤ 8 := by omega
    have zl1 : (letterS s).size ≤ 1 := by omega
    clear h7 z7 zz zl
    go_wp2_with fail
    refine (implLetter_yes s _ H7.out HS.out).mono ?_
    rintro e w2 ⟨rfl, rfl⟩
    go_wp2_with fail
    refine (specLetter_yes s _ H7.out HS.out).mono ?_
    rintro e w2 ⟨rfl, hb2⟩
    have B2 : Hid (Below w.heap.size w w2) := Lib.hid (B1.out.trans (hb2.mono B1.out.size))
    clear hb2
    go_wp2_with fail
    refine (implId_is _ true hI1.out M1.out _).mono ?_
    rintro e w3 ⟨rfl, hb3⟩
    have B3 : Hid (Below w.heap.size w w3) := Lib.hid (B2.out.trans (hb3.mono B2.out.size))
    clear hb3
    go_wp2_with fail
    refine (implId_is _ false hI2.out HS.out _).mono ?_
    rintro e w4 ⟨rfl, hb4⟩
    have B4 : Hid (Below w.heap.size w w4) := Lib.hid (B3.out.trans (hb4.mono B3.out.size))
    clear hb4
    go_wp2_with fail
    refine (implId_is _ false hI3.out M3.out _).mono ?_
    rintro e w4' ⟨rfl, hb4⟩
    have B4' : Hid (Below w.heap.size w w4') := Lib.hid (B4.out.trans (hb4.mono B4.out.size))
    clear hb4
    go_wp2_with fail
    refine (drawNext_any a len cap _ (H.out.below B4'.out)).mono ?_
    rintro e w5 ⟨t, rfl, ht, hb5⟩
    have B5 : Hid (Below w.heap.size w w5) := Lib.hid (B4'.out.trans (hb5.mono B4'.out.size))
    clear hb5
  all_goals
    have NB := next_both t ht
    obtain ⟨A, b, hS, hI, hA8, hA⟩ := NB
    have FS := Lib.hid hS
    have FI := Lib.hid hI
    have FA := Lib.hid hA
    have MT := Lib.hid (show t.size ≤ maxLen by unfold maxLen; omega)
    have MA := Lib.hid (show A.size ≤ maxLen by unfold maxLen; omega)
    clear hS hI hA
    obtain ⟨d, hd⟩ : ∃ d, idB t = d := ⟨_, rfl⟩
    have KD := Lib.hid hd
    clear hd
    go_wp2_with fail
    refine (FI.out _ (HT.out _ B5.out)).mono ?_
    rintro e w6 ⟨rfl, hb6⟩
    have B6 : Hid (Below w.heap.size w w6) := Lib.hid (B5.out.trans (hb6.mono B5.out.size))
    clear hb6
    go_wp2_with fail
    refine (FS.out _).mono ?_
    rintro e w7 ⟨rfl, hb7⟩
    have B7 : Hid (Below w.heap.size w w7) := Lib.hid (B6.out.trans (hb7.mono B6.out.size))
    clear hb7
    go_wp2_with fail
    refine (implId_is t d KD.out MT.out _).mono ?_
    rintro e w8 ⟨rfl, hb8⟩
    have B8 : Hid (Below w.heap.size w w8) := Lib.hid (B7.out.trans (hb8.mono B7.out.size))
    clear hb8
    go_wp2_with fail
    refine (specId_is t d KD.out MT.out _).mono ?_
    rintro e w9 ⟨rfl, hb9⟩
    have B9 : Hid (Below w.heap.size w w9) := Lib.hid (B8.out.trans (hb9.mono B8.out.size))
    clear hb9
    cases b
    · go_wp2_with fail
      refine wp_region_later (by kernel_rfl) (by kernel_rfl) ?_
      repeat (go_big_quiet_step (fail))
      refine wpQuiet_nil ?_
      intro w10 hw'
      have h10 : Below w9.heap.size w9 w10 := by obtain ⟨p, rfl⟩ := hw'; exact p.h
      clear hw'
      go_wp2_with fail
      go_ret
      exact ⟨rfl, B9.out.trans (h10.mono B9.out.size)⟩
    · obtain ⟨q1, q2, q3, q4, q5, q6⟩ := FA.out rfl
      have KI := Lib.hid q3
      have q4' : ((A.extract 0 3).toList == (t.extract 0 3).toList) = true := by rw [q4]; simp
      have r1 : ((A.size : Int) == 8) = true := by simp [q1]
      have r2 : (3 : Int) ≤ (A.size : Int) := by omega
      have r3 : (7 : Int) ≤ (A.size : Int) := by omega
      have r4 : (3 : Int) ≤ (t.size : Int) := by omega
      have r5 : (7 : Int) ≤ (t.size : Int) := by omega
      clear q1 q2 q3 q4
      go_wp2_with fail
      refine wp_region_later (by kernel_rfl) (by kernel_rfl) ?_
      repeat (go_big_quiet_step ((go_at_call 9; exact calls_later (implId_is A true KI.out MA.out _))))
      refine wpQuiet_nil ?_
      intro w10 hw'
      have h10 : Below w9.heap.size w9 w10 := by obtain ⟨p, rfl⟩ := hw'; exact p.h
      clear hw'
      go_wp2_with fail
      go_ret
      exact ⟨rfl, B9.out.trans (h10.mono B9.out.size)⟩
end Go.Proofs.YtpckcaejmkhdnaaDoor
