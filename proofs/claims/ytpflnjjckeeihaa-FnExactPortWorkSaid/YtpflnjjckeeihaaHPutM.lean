/-
  A bay with a number more, or less; the store into the copy. No statement of the seat by itself.
-/
import Derived.Test.YtpflnjjckeeihaaHCopy
import Derived.Test.YtpflnjjckeeihaaTakeM
namespace Go.Proofs.Ytpflnjjckeeihaa
open Go.RowKit

theorem goodB_small {hh : Int} {Y : List (List Int)} (h : goodB hh Y = true) : Y.length ≤ 5 ∧ tot Y ≤ 24 := by
  obtain ⟨h1, h2, h3, _⟩ := goodB_rows h
  have := tot_bound 4 Y h3
  exact ⟨h2, by omega⟩
theorem putB_small {hh : Int} {Y : List (List Int)} {s : Nat} {x : Int} (h : goodB hh Y = true) : (putY Y s x).length ≤ 5 ∧ tot (putY Y s x) ≤ 30 := by
  obtain ⟨h1, h2, h3, _⟩ := goodB_rows h
  have hl : (putY Y s x).length ≤ 5 := by rw [putY_len]; exact h2
  have := tot_bound 5 (putY Y s x) fun l hl => by
    rcases List.mem_or_eq_of_mem_set hl with hm | rfl
    · have := h3 l hm; omega
    · have : (Y.getD s []).length ≤ 4 := by
        rcases Nat.lt_or_ge s Y.length with hs | hs
        · rw [getD_of (List.getElem?_eq_getElem hs)]; exact h3 _ (List.getElem_mem hs)
        · rw [List.getD, List.getElem?_eq_none hs]; simp
      rw [List.length_append, List.length_singleton]; omega
  exact ⟨hl, by omega⟩
def okPB (hh : Int) (Y : List (List Int)) (s x : Int) : Bool := okB hh Y s && goodB hh (putY Y s.toNat x)
def putRB (hh : Int) (Y : List (List Int)) (s x : Int) : List (List Int) := if okPB hh Y s x = true then putY Y s.toNat x else []
def putHB (hh : Int) (Y : List (List Int)) (s x : Int) : Int := if okPB hh Y s x = true then hh else 0
section
variable {hh : Int} {Y : List (List Int)} {s x : Int}
theorem okPB_no (h : okB hh Y s = false) : okPB hh Y s x = false := by simp [okPB, h]
theorem okPB_nat {s : Nat} (h : okB hh Y (s : Int) = true) : okPB hh Y (s : Int) x = goodB hh (putY Y s x) := by simp [okPB, h]
theorem putB_no (h : okPB hh Y s x = false) : putRB hh Y s x = [] ∧ putHB hh Y s x = 0 := by simp [putRB, putHB, h]
theorem putB_yes {s : Nat} (h : okPB hh Y (s : Int) x = true) : putRB hh Y (s : Int) x = putY Y s x ∧ putHB hh Y (s : Int) x = hh := by simp [putRB, putHB, h]
theorem putRB_small (hh : Int) (Y : List (List Int)) (s x : Int) : (putRB hh Y s x).length ≤ 1048576 ∧ tot (putRB hh Y s x) ≤ 1048576 := by
  unfold putRB
  split
  · rename_i h
    have hg : goodB hh Y = true := by
      simp only [okPB, Bool.and_eq_true] at h
      exact (okB_iff.1 h.1).1
    have := putB_small (s := s.toNat) (x := x) hg
    omega
  · simp [tot]
end

/-- Behind a store into the copy that lies in box O: the copy, its box, the other two boxes. -/
def PutRB (w w1 w2 : World) (hh : Int) (v0 : Value) (g n c : Nat) (Z : List (List Int)) (w6 : World) : Prop :=
  OwnY w6 w1.heap.size w6.heap.size (.slice (some ⟨g, 0, none⟩) n c) Z ∧ Box2 w6 w2.heap.size hh (.slice (some ⟨g, 0, none⟩) n c) ∧ FrB w w6 hh v0
theorem own_at {w : World} {B hi g n c : Nat} {Y : List (List Int)} (h : OwnY w B hi (.slice (some ⟨g, 0, none⟩) n c) Y) : B ≤ g ∧ g < hi := by
  obtain ⟨_, hlt, us, h3, _⟩ := h
  exact ⟨row_base h3 g rfl, hlt g rfl⟩
theorem putRB_of {w w1 w2 w3 w5 : World} {hh : Int} {v0 : Value} {g n c s m : Nat} {Y : List (List Int)} {l : List Int} {x : Int} {u v' : Value} {o : Obj} (h : OwnY w3 w1.heap.size w2.heap.size (.slice (some ⟨g, 0, none⟩) n c) Y) (hl : Y[s]? = some l) (hm : l.length = m) (hu : w3.cell? ⟨g, s, none⟩ = some u)
    (ho : w5.ownsRow w1.heap.size 3 1 v' (m + 1) (intV l ++ [.int .i64 x])) (hg : (w3.alloc o).grownBy w5 u.ownBlock) (hat : v'.ownBlock = u.ownBlock ∨ v'.ownBlock = some (w3.alloc o).heap.size)
    (hO : Box2 w3 w2.heap.size hh (.slice (some ⟨g, 0, none⟩) n c)) (hF : FrB w w3 hh v0) (hz : w.heap.size + 1 < w1.heap.size) :
    PutRB w w1 w2 hh v0 g n c (putY Y s x) (w5.setCell ⟨g, s, none⟩ v') ∧ (∃ y, w5.cell? ⟨g, s, none⟩ = some y) ∧ w5.frozen? ⟨g, s, none⟩ = false := by
  obtain ⟨p1, p2, p3⟩ := own_put h hl hm hu ho hg hat
  have hgb := own_at h
  obtain ⟨u2, hu2, -, hou, hub⟩ := h.cell hl
  rw [hu] at hu2
  cases hu2
  have hb : Below w3.heap.size w3 (w3.alloc o) := below_one w3 o
  have hS : Span w1.heap.size w2.heap.size w3 (w5.setCell ⟨g, s, none⟩ v') := ((Span.of_below hb).trans (Span.of_grown hg fun k hk => ⟨row_base hou k hk, hub k hk⟩)).trans (span_set hgb.1 hgb.2 v')
  exact ⟨⟨p1.mono (Nat.le_refl _) (by simp) (Nat.le_refl _), hO.span hS (.inr (Nat.le_refl _)), hF.span hS hz⟩, p2, p3⟩
theorem takeRB_of {w w1 w2 w3 : World} {hh : Int} {v0 : Value} {g n c s k m : Nat} {a : Option Addr} {c4 : Nat} {Y : List (List Int)} {l : List Int} (h : OwnY w3 w1.heap.size w2.heap.size (.slice (some ⟨g, 0, none⟩) n c) Y) (hl : Y[s]? = some l) (hm : l.length = m) (hk : k < m) (hu : w3.cell? ⟨g, s, none⟩ = some (.slice a m c4))
    (hO : Box2 w3 w2.heap.size hh (.slice (some ⟨g, 0, none⟩) n c)) (hF : FrB w w3 hh v0) (hz : w.heap.size + 1 < w1.heap.size) :
    PutRB w w1 w2 hh v0 g n c (Y.set s (l.take k)) (w3.setCell ⟨g, s, none⟩ (.slice a k c4)) ∧ m ≤ c4 ∧ w3.frozen? ⟨g, s, none⟩ = false := by
  obtain ⟨u2, hu2, hfz, hou, hub⟩ := h.cell hl
  rw [hu] at hu2
  cases hu2
  rw [hm] at hou
  obtain ⟨hmc, ht⟩ := own_take hou hk
  have hgb := own_at h
  have hlk : (l.take k).length = k := by rw [List.length_take]; omega
  have hr := h.repl (w' := w3) (l' := l.take k) (u' := .slice a k c4) (lt_of_get hl) hu ⟨rfl, rfl, rfl, Nat.le_refl _, fun _ _ _ => rfl⟩ (by rw [hlk]; exact ht) fun b hb => .inl (by
    have e : (Value.slice a k c4).ownBlock = (Value.slice a m c4).ownBlock := by cases a <;> rfl
    rw [← e]; exact hb)
  have hS : Span w1.heap.size w2.heap.size w3 (w3.setCell ⟨g, s, none⟩ (.slice a k c4)) := span_set hgb.1 hgb.2 _
  exact ⟨⟨hr.1.mono (Nat.le_refl _) (by simp) (Nat.le_refl _), hO.span hS (.inr (Nat.le_refl _)), hF.span hS hz⟩, hmc, hfz⟩
end Go.Proofs.Ytpflnjjckeeihaa
