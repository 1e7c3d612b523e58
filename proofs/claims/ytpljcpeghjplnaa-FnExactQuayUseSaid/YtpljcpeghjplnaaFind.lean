/-
  spec.l5Find and the two PlaceOf. No statement of the seat by itself.
-/
import Derived.Test.YtpljcpeghjplnaaPlace
import Derived.OwnWalk
namespace Go.Proofs.Ytpljcpeghjplnaa
open Go.RowKit

/-- What l5Find answers. -/
def findV (Y : List (List Int)) (x : Int) : Value := match placeY Y x with
  | none => .tuple #[.int .i64 (-1), .int .i64 (-1)]
  | some (i, k) => .tuple #[.int .i64 (i : Int), .int .i64 (k : Int)]
theorem findV_some {Y : List (List Int)} {x : Int} {i k : Nat} (h : placeY Y x = some (i, k)) : findV Y x = .tuple #[.int .i64 (i : Int), .int .i64 (k : Int)] := by simp [findV, h]
theorem findV_none {Y : List (List Int)} {x : Int} (h : placeY Y x = none) : findV Y x = .tuple #[.int .i64 (-1), .int .i64 (-1)] := by simp [findV, h]
theorem ret_v {u v : Value} (h : u = v) : Ending.returned u = .returned v := by rw [h]

/-- What the two PlaceOf answer. -/
def plO (Y : List (List Int)) (x : Int) : Option (Nat × Nat) := if goodY Y = true then placeY Y x else none
theorem plO_good {Y : List (List Int)} {x : Int} (h : goodY Y = true) : plO Y x = placeY Y x := by simp [plO, h]
theorem plO_bad {Y : List (List Int)} {x : Int} (h : goodY Y = false) : plO Y x = none := by simp [plO, h]
def plV (Y : List (List Int)) (x : Int) : Value := match plO Y x with
  | none => .tuple #[.int .i64 0, .int .i64 0, .bool false]
  | some (i, k) => .tuple #[.int .i64 (i : Int), .int .i64 (k : Int), .bool true]
theorem plV_some {Y : List (List Int)} {x : Int} {i k : Nat} (h : plO Y x = some (i, k)) : plV Y x = .tuple #[.int .i64 (i : Int), .int .i64 (k : Int), .bool true] := by simp [plV, h]
theorem plV_none {Y : List (List Int)} {x : Int} (h : plO Y x = none) : plV Y x = .tuple #[.int .i64 0, .int .i64 0, .bool false] := by simp [plV, h]

/-- Where a number stands in a yard, as three results. -/
def pcI (Y : List (List Int)) (x : Int) : Int := match placeY Y x with
  | none => 0
  | some p => (p.1 : Int)
def pcK (Y : List (List Int)) (x : Int) : Int := match placeY Y x with
  | none => 0
  | some p => (p.2 : Int)
def pcB (Y : List (List Int)) (x : Int) : Bool := (placeY Y x).isSome
theorem pc_some {Y : List (List Int)} {x : Int} {i k : Nat} (h : placeY Y x = some (i, k)) : pcI Y x = (i : Int) ∧ pcK Y x = (k : Int) ∧ pcB Y x = true := by simp [pcI, pcK, pcB, h]
theorem pc_none {Y : List (List Int)} {x : Int} (h : placeY Y x = none) : pcI Y x = 0 ∧ pcK Y x = 0 ∧ pcB Y x = false := by simp [pcI, pcK, pcB, h]
theorem plV_pc {Y : List (List Int)} {x : Int} (h : goodY Y = true) : plV Y x = .tuple #[.int .i64 (pcI Y x), .int .i64 (pcK Y x), .bool (pcB Y x)] := by
  unfold plV
  rw [plO_good h]
  cases hp : placeY Y x with
  | none => rw [(pc_none hp).1, (pc_none hp).2.1, (pc_none hp).2.2]
  | some p => rw [(pc_some hp).1, (pc_some hp).2.1, (pc_some hp).2.2]

def plI (Y : List (List Int)) (x : Int) : Int := match plO Y x with
  | none => 0
  | some p => (p.1 : Int)
def plK (Y : List (List Int)) (x : Int) : Int := match plO Y x with
  | none => 0
  | some p => (p.2 : Int)
def plB (Y : List (List Int)) (x : Int) : Bool := (plO Y x).isSome
theorem plV_eq (Y : List (List Int)) (x : Int) : plV Y x = .tuple #[.int .i64 (plI Y x), .int .i64 (plK Y x), .bool (plB Y x)] := by
  unfold plV plI plK plB
  cases plO Y x with
  | none => rfl
  | some p => rfl
end Go.Proofs.Ytpljcpeghjplnaa
