/-
  The reading of a sentence: impl.readYardFinding. No statement of the seat by itself.
-/
import Derived.Test.YtcpelnnadabnpaaDoorEPar
import Derived.Shelf.Strings.Cut
import Derived.Shelf.Strings.Prefix
import Derived.Shelf.SlicesG.Turned
namespace Go.Proofs.YtcpelnnadabnpaaDoor
open Go.RowKit Go.Shelf

/-- The ends of the sentences. -/
def endsL : List ByteArray := [⟨#[]⟩, rsB 1, rsB 2, rsB 3, rsB 4]
/-- What stands ahead of ", tier ", and what behind it. -/
def cutT (s : ByteArray) : List UInt8 × List UInt8 × Bool := Lib.cut (Lib.trimPrefix s.data.toList p1B.data.toList) p2B.data.toList
/-- What stands there ahead of the first blank, and what behind it. -/
def cutR (s : ByteArray) : List UInt8 × List UInt8 × Bool := Lib.cut (cutT s).2.1 p3B.data.toList
/-- The rule, the stack and the place that are read. -/
def readF (s : ByteArray) : Int × Int × Int := (Lib.idxOfS endsL ⟨(cutR s).2.1.toArray⟩, (readL (cutT s).1).1, (readL (cutR s).1).1)

def litL (r i j : Nat) : List UInt8 := p1B.data.toList ++ ([UInt8.ofNat (48 + i)] ++ (p2B.data.toList ++ ([UInt8.ofNat (48 + j)] ++ (p3B.data.toList ++ (rsB r).data.toList))))
theorem body_lit (r i j : Nat) (hi : i < 10) (hj : j < 10) : (bodyB r i j).data.toList = litL r i j := by
  unfold bodyB numE litL
  rw [decDigits_small i hi, decDigits_small j hj]
  simp
def chkL (r i j : Nat) : Bool :=
  let p := Lib.cut (Lib.trimPrefix (litL r i j) p1B.data.toList) p2B.data.toList
  let q := Lib.cut p.2.1 p3B.data.toList
  (p.1 == [UInt8.ofNat (48 + i)] && q.1 == [UInt8.ofNat (48 + j)]) && q.2.1 == (rsB r).data.toList
theorem chk_all : ∀ r : Fin 5, ∀ i : Fin 6, ∀ j : Fin 4, chkL r.val i.val j.val = true := by decide +kernel
theorem idx_ends (r : Nat) (h : r = 1 ∨ r = 2 ∨ r = 3 ∨ r = 4) : Lib.idxOfS endsL (rsB r) = (r : Int) := by
  rcases h with rfl | rfl | rfl | rfl <;> decide +kernel
theorem readL_num (i : Nat) (h : i < 10) : (readL [UInt8.ofNat (48 + i)]).1 = (i : Int) := by
  rw [← decDigits_small i h, ← itoa_nat, readL_itoa _ (by omega) (by omega)]
theorem readF_body (r i j : Nat) (hr : r = 1 ∨ r = 2 ∨ r = 3 ∨ r = 4) (hi : i < 6) (hj : j < 4) : readF (bodyB r i j) = ((r : Int), (i : Int), (j : Int)) := by
  have h := chk_all ⟨r, by omega⟩ ⟨i, hi⟩ ⟨j, hj⟩
  simp only [chkL, Bool.and_eq_true, beq_iff_eq] at h
  obtain ⟨⟨h1, h2⟩, h3⟩ := h
  have e1 : cutT (bodyB r i j) = Lib.cut (Lib.trimPrefix (litL r i j) p1B.data.toList) p2B.data.toList := by unfold cutT; rw [body_lit r i j (by omega) (by omega)]
  unfold readF cutR
  rw [e1, h1, h2, h3, readL_num i (by omega), readL_num j (by omega)]
  rw [show (⟨(rsB r).data.toList.toArray⟩ : ByteArray) = rsB r from by simp, idx_ends r hr]
/-- A text that is some sentence is read as that sentence's finding. -/
theorem readF_txt {r s t : Int} {x : ByteArray} (h : goodF r s t = true) (hx : txtF r s t = x) : readF x = (r, s, t) := by
  obtain ⟨a, i, j, rfl, rfl, rfl, ha, hi, hj⟩ := goodF_nat h
  rw [txtF_yes h] at hx
  rw [← hx, readF_body a i j ha hi hj]

theorem cut_len (l sep : List UInt8) : (Lib.cut l sep).1.length ≤ l.length ∧ (Lib.cut l sep).2.1.length ≤ l.length := by
  unfold Lib.cut
  split
  · refine ⟨by simp; omega, by simp⟩
  · exact ⟨Nat.le_refl _, by simp⟩
theorem trim_len (l p : List UInt8) : (Lib.trimPrefix l p).length ≤ l.length := by
  unfold Lib.trimPrefix; split
  · simp
  · exact Nat.le_refl _
theorem size_list (l : List UInt8) : (⟨l.toArray⟩ : ByteArray).size = l.length := by simp [ByteArray.size]

theorem trim_any (s : ByteArray) (w : World) : Calls Tryd.prog 20 #[.string s, .string p1B] w fun e w' => e = .returned (.string ⟨(Lib.trimPrefix s.data.toList p1B.data.toList).toArray⟩) ∧ w' = w := Any.strings_TrimPrefix Tryd.lays101 s p1B w
theorem cut_any (s sep : ByteArray) (hs : s.size ≤ 1048576) (w : World) (hT : Tabs w) : Calls Tryd.prog 19 #[.string s, .string sep] w fun e w' => e = .returned (.tuple #[.string ⟨(Lib.cut s.data.toList sep.data.toList).1.toArray⟩, .string ⟨(Lib.cut s.data.toList sep.data.toList).2.1.toArray⟩, .bool (Lib.cut s.data.toList sep.data.toList).2.2]) ∧ ∃ n, w' = w.drewN n := by
  obtain ⟨_, m, hm⟩ := hT
  exact Any.strings_Cut Tryd.lays145 s sep m w (by omega) hm
theorem idx_any (x : ByteArray) (b : Nat) (w : World) (h : w.heap[b]? = some endsO) : Calls Tryd.prog 22 #[.slice (some ⟨b, 0, none⟩) 5 5, .string x] w fun e w' => e = .returned (.int .i64 (Lib.idxOfS endsL x)) ∧ w' = w := by
  have := AnyG.slices_Index_string Tryd.lays30 b 0 5 5 endsL x w (by decide) (by decide) (fun j hj => by
    have hj5 : j < 5 := hj
    rw [Nat.zero_add]
    refine cell_of h ?_
    match j, hj5 with
    | 0, _ => rfl
    | 1, _ => rfl
    | 2, _ => rfl
    | 3, _ => rfl
    | 4, _ => rfl)
  rwa [show endsL.take 5 = endsL from rfl] at this
end Go.Proofs.YtcpelnnadabnpaaDoor
