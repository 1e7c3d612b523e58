/-
  What strings.Cut returns at a text of one byte: the whole text, or the two parts around the first such byte. No statement of the seat by itself.
-/
import Derived.Test.YtefkcdhmiepbfaaDoorLaid
import Derived.WalkKit
import Derived.WalkSmall
import Derived.Deep.QuietTactic
import Derived.BigQuiet
import Derived.Lib.Hide
import Derived.IntWalk
namespace Go.Proofs.YtefkcdhmiepbfaaDoor
open Go.RowKit

set_option maxRecDepth 100000 in
set_option maxHeartbeats 1000000 in
theorem cut_none (s : ByteArray) (c : UInt8) (h : Lib.indexByte s.data.toList c = -1) (w : World) :
    Calls Tryd.prog 57 #[.string s, .string ⟨#[c]⟩] w fun e w' => e = .returned (.tuple #[.string s, .string ⟨#[]⟩, .bool false]) ∧ ∃ k, w' = w.drewN k := by
  have H1 : Hid (∀ w, Calls Tryd.prog 85 #[.string s, .string ⟨#[c]⟩] w fun e w' => e = .returned (.int .i64 (-1)) ∧ w' = w) := Lib.hid fun w => by have := Tryd.stringslite_Index_one s c w; rwa [h] at this
  clear h
  have H2 : Hid (∀ w, Calls Tryd.prog 74 #[.string s, .string ⟨#[c]⟩] w fun e w' => e = .returned (.tuple #[.string s, .string ⟨#[]⟩, .bool false]) ∧ w' = w) := Lib.hid fun w => by
    go_enter Tryd.func74, Tryd.ntmps74
    go_wp2_with (go_at_call 85; refine (H1.out _).mono ?_; rintro e w' ⟨rfl, rfl⟩)
    go_ret3
    exact ⟨rfl, rfl⟩
  clear H1
  go_enter Tryd.func57, Tryd.ntmps57
  go_wp2_with (go_at_call 74; refine (H2.out _).mono ?_; rintro e w' ⟨rfl, rfl⟩)
  go_ret3
  exact ⟨rfl, 0, rfl⟩

set_option maxRecDepth 100000 in
set_option maxHeartbeats 1000000 in
theorem cut_some (s : ByteArray) (c : UInt8) (i : Nat) (hi : i < s.size) (hs : s.size ≤ 1048576) (h : Lib.indexByte s.data.toList c = (i : Int)) (w : World) :
    Calls Tryd.prog 57 #[.string s, .string ⟨#[c]⟩] w fun e w' => e = .returned (.tuple #[.string (s.extract 0 i), .string (s.extract (i + 1) s.size), .bool true]) ∧ ∃ k, w' = w.drewN k := by
  have H1 : Hid (∀ w, Calls Tryd.prog 85 #[.string s, .string ⟨#[c]⟩] w fun e w' => e = .returned (.int .i64 (i : Int)) ∧ w' = w) := Lib.hid fun w => by have := Tryd.stringslite_Index_one s c w; rwa [h] at this
  clear h
  have hz : (⟨#[c]⟩ : ByteArray).size = 1 := rfl
  have H2 : Hid (∀ w, Calls Tryd.prog 74 #[.string s, .string ⟨#[c]⟩] w fun e w' => e = .returned (.tuple #[.string (s.extract 0 i), .string (s.extract (i + 1) s.size), .bool true]) ∧ ∃ k, w' = w.drewN k) := Lib.hid fun w => by
    have hw1 : wrap64 ((i : Int) + 1) = (i : Int) + 1 := IntWalk.wrap64_in _ (by omega)
    have hw2 : IntKind.i64.wrap ((i : Int) + 1) = (i : Int) + 1 := IntWalk.i64_in _ (by omega)
    have hle : (i : Int) + 1 ≤ (s.size : Int) := by omega
    have hle2 : (i : Int) ≤ (s.size : Int) := by omega
    have hn1 : ((i : Int) + 1).toNat = i + 1 := by omega
    have h01 : (0 : Int) ≤ (i : Int) + 1 := by omega
    go_enter Tryd.func74, Tryd.ntmps74
    go_wp2_with (go_at_call 85; refine (H1.out _).mono ?_; rintro e w' ⟨rfl, rfl⟩)
    go_quiet (fail)
    go_wp2_with fail
    go_ret3
    exact ⟨rfl, _, rfl⟩
  clear H1
  go_enter Tryd.func57, Tryd.ntmps57
  go_wp2_with (go_at_call 74; refine (H2.out _).mono ?_; rintro e w' ⟨rfl, k, rfl⟩)
  go_ret3
  exact ⟨rfl, _, rfl⟩
end Go.Proofs.YtefkcdhmiepbfaaDoor
