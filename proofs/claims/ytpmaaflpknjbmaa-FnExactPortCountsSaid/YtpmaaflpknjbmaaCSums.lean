/-
  What the two FindContainer, TotalWeight and CountUnits functions return. No statement of the seat by itself.
-/
import Derived.Test.YtpmaaflpknjbmaaCValidI
namespace Go.Proofs.Ytpmaaflpknjbmaa.C
open Go.RowKit

def sumW (f : Nat → Cont) : Nat → Int
  | 0 => 0
  | k + 1 => sumW f k + (f k).weight
def sumU (f : Nat → Cont) : Nat → Int
  | 0 => 0
  | k + 1 => sumU f k + (f k).size
theorem sumW_bd {n : Nat} {f : Nat → Cont} (h : listB n f = true) : ∀ k, k ≤ n → 0 ≤ sumW f k ∧ sumW f k ≤ 32000 * k
  | 0, _ => by simp [sumW]
  | k + 1, hk => by
    have h1 := sumW_bd h k (by omega)
    have h2 := ((goodB_iff _).1 (listB_good h k (by omega))).2.2.1
    rw [sumW]; omega
theorem sumU_bd {n : Nat} {f : Nat → Cont} (h : listB n f = true) : ∀ k, k ≤ n → (k : Int) ≤ sumU f k ∧ sumU f k ≤ 2 * k
  | 0, _ => by simp [sumU]
  | k + 1, hk => by
    have h1 := sumU_bd h k (by omega)
    have h2 := ((goodB_iff _).1 (listB_good h k (by omega))).2.1
    rw [sumU]; omega
/-- A number and a bool were answered, and nothing older turned. -/
def PairI (w : World) (a : Int) (b : Bool) (e : Ending) (w' : World) : Prop := e = .returned (.tuple #[.int .i64 a, .bool b]) ∧ Below w.heap.size w w'

end Go.Proofs.Ytpmaaflpknjbmaa.C
