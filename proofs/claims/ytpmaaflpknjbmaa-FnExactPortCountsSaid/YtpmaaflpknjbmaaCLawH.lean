/-
  Lists of containers: held, as the laws ask it. No statement of the seat by itself.
-/
import Derived.Test.YtpmaaflpknjbmaaCLawK
import Derived.Test.YtpmaaflpknjbmaaCHeldC
namespace Go.Proofs.Ytpmaaflpknjbmaa.C
open Go.RowKit

theorem heldC_int (v : Value) (n : Nat) (k : Int) (hn : n ≤ 1048576) (h1 : 1 ≤ k) (h2 : k ≤ 10000000) (w : World) (h : CV w v n (mkC k.toNat)) :
    Calls Try.prog 23 #[v, .int .i64 k] w fun e w' => e = .returned (.int .i64 (k + 5 * (n : Int))) ∧ Below w.heap.size w w' := by
  obtain ⟨m, rfl⟩ := Int.eq_ofNat_of_zero_le (show 0 ≤ k by omega)
  exact heldV_any v n m hn (by omega) (by omega) w h

end Go.Proofs.Ytpmaaflpknjbmaa.C
