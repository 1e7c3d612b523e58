/-
  What spec.PortCounts returns. No statement of the seat by itself.
-/
import Derived.Test.YtpmaaflpknjbmaaCPairsM
import Derived.Test.YtpmaaflpknjbmaaCValidI
namespace Go.Proofs.Ytpmaaflpknjbmaa.C
open Go.RowKit

/-- How many of the first k containers have a port. -/
def cntL (f : Nat → Cont) (p : Int) : Nat → Nat
  | 0 => 0
  | k + 1 => if (f k).port = p then cntL f p k + 1 else cntL f p k
theorem cntL_le (f : Nat → Cont) (p : Int) : ∀ k, cntL f p k ≤ k
  | 0 => Nat.le_refl _
  | k + 1 => by
    have := cntL_le f p k
    rw [cntL]
    split <;> omega
/-- The ports up to one that some container has, with their numbers. -/
def pcL (f : Nat → Cont) (n : Nat) : Nat → List (Int × Int)
  | 0 => []
  | p + 1 => if 0 < cntL f ((p : Int) + 1) n then pcL f n p ++ [((p : Int) + 1, (cntL f ((p : Int) + 1) n : Int))] else pcL f n p
theorem pcL_len (f : Nat → Cont) (n : Nat) : ∀ p, (pcL f n p).length ≤ p
  | 0 => Nat.le_refl _
  | p + 1 => by
    have := pcL_len f n p
    rw [pcL]
    split
    · simp; omega
    · omega
end Go.Proofs.Ytpmaaflpknjbmaa.C
