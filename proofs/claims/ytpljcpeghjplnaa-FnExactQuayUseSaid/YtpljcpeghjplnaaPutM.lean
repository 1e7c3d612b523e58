/-
  A yard with a number more; append and store inside a region that draws its order. No statement of the seat by itself.
-/
import Derived.Test.YtpljcpeghjplnaaCopyI
import Derived.Deep.Cut
namespace Go.Proofs.Ytpljcpeghjplnaa
open Go.RowKit

theorem tot_bound (b : Nat) : ∀ Z : List (List Int), (∀ l ∈ Z, l.length ≤ b) → tot Z ≤ b * Z.length
  | [], _ => by simp [tot]
  | l :: Z, h => by
    have h1 := tot_bound b Z fun r hr => h r (List.mem_cons_of_mem _ hr)
    have h2 := h l (List.mem_cons_self ..)
    have e : tot (l :: Z) = l.length + tot Z := by simp [tot]
    rw [e, List.length_cons, Nat.mul_succ]
    omega
/-- A yard with a number more on stack s. -/
def putY (Y : List (List Int)) (s : Nat) (x : Int) : List (List Int) := Y.set s (Y.getD s [] ++ [x])
theorem putY_len (Y : List (List Int)) (s : Nat) (x : Int) : (putY Y s x).length = Y.length := by simp [putY]
theorem putY_of {Y : List (List Int)} {s : Nat} {x : Int} {l : List Int} (h : Y[s]? = some l) : putY Y s x = Y.set s (l ++ [x]) := by unfold putY; rw [getD_of h]
theorem good_small {Y : List (List Int)} (h : goodY Y = true) : Y.length ≤ 6 ∧ tot Y ≤ 24 := by
  obtain ⟨h1, h2, h3, _⟩ := goodY_iff.1 h
  have := tot_bound 4 Y h3
  exact ⟨h2, by omega⟩
theorem put_small {Y : List (List Int)} {s : Nat} {x : Int} (h : goodY Y = true) : (putY Y s x).length ≤ 6 ∧ tot (putY Y s x) ≤ 30 := by
  obtain ⟨h1, h2, h3, _⟩ := goodY_iff.1 h
  have hl : (putY Y s x).length ≤ 6 := by rw [putY_len]; exact h2
  have := tot_bound 5 (putY Y s x) fun l hl => by
    rcases List.mem_or_eq_of_mem_set hl with hm | rfl
    · have := h3 l hm; omega
    · have : (Y.getD s []).length ≤ 4 := by
        rcases Nat.lt_or_ge s Y.length with hs | hs
        · rw [getD_of (List.getElem?_eq_getElem hs)]; exact h3 _ (List.getElem_mem hs)
        · rw [List.getD, List.getElem?_eq_none hs]; simp
      rw [List.length_append, List.length_singleton]; omega
  exact ⟨hl, by omega⟩
def okP (Y : List (List Int)) (s x : Int) : Bool := okS Y s && goodY (putY Y s.toNat x)
def putR (Y : List (List Int)) (s x : Int) : List (List Int) := if okP Y s x = true then putY Y s.toNat x else []
theorem okP_no {Y : List (List Int)} {s x : Int} (h : okS Y s = false) : okP Y s x = false := by simp [okP, h]
theorem okP_nat {Y : List (List Int)} {s : Nat} {x : Int} (h : okS Y (s : Int) = true) : okP Y (s : Int) x = goodY (putY Y s x) := by simp [okP, h]
theorem putR_no {Y : List (List Int)} {s x : Int} (h : okP Y s x = false) : putR Y s x = [] := by simp [putR, h]
theorem putR_yes {Y : List (List Int)} {s : Nat} {x : Int} (h : okP Y (s : Int) x = true) : putR Y (s : Int) x = putY Y s x := by simp [putR, h]

theorem putR_small (Y : List (List Int)) (s x : Int) : (putR Y s x).length ≤ 1048576 ∧ tot (putR Y s x) ≤ 1048576 := by
  unfold putR
  split
  · rename_i h
    have hg : goodY Y = true := by
      simp only [okP, Bool.and_eq_true] at h
      exact (okS_iff.1 h.1).1
    have := put_small (s := s.toNat) (x := x) hg
    omega
  · simp [tot]

/-- append of an int onto a row of the call's own, inside a region that draws its order. -/
theorem step_int_at {ops : Array Oper} {o : Oper} {a : Act} {w : World} {K : Act → World → Prop} {Q : Exit → Act → World → Prop} {E : Prop} (hgd : o.guard = none) (s x : Operand)
    (ho : o.op = .call { callee := .builtin .append, args := #[s, x], argTypes := #[25, 25] }) (base : Nat) (v : Value) (n : Nat) (xs : List Value) (hs : a.eval s = v) (hown : w.ownsRow base 3 1 v n xs)
    (ad : Addr) (c : Nat) (u : Value) (hx : a.eval x = .slice (some ad) 1 c) (hnews : ∀ j y, ([u] : List Value)[j]? = some y → w.cell? (ad.add j) = some y) (h1 : u.oneCell' = true)
    (hb : n ≤ 1048576) (hbase : base ≤ w.heap.size)
    (h : ∀ v' w', w'.ownsRow base 3 1 v' (n + 1) (xs ++ [u]) → w.grownBy w' v.ownBlock → (v'.ownBlock = v.ownBlock ∨ v'.ownBlock = some w.heap.size) → K (a.put o.dst v') w') :
    if Region.wanted o (yielded ops a.tmps) = true then Oper.wp Try.prog o a w K Q else E := by
  have hw : Region.wanted o (yielded ops a.tmps) = true := by simp [Region.wanted, hgd]
  obtain ⟨i0, hi, hz0, hz1, hz2⟩ := info_is info3
  rw [if_pos hw]
  obtain ⟨v', w', hr, h2, h3, -, h5⟩ := run_append_own_at (P := Try.prog) w base 25 o.type 3 i0 (.int .i64 0) 1 8 Try.underlying25 hi hz0 hz1 hz2 rfl (by decide) v n xs hown ad 1 c [u] rfl hnews (by simpa using h1) (by unfold maxLen; omega) (by omega) hbase
  unfold Oper.wp execOp
  simp only [ho, resolve, invoke, builtin, Sem.run_bind, Sem.run_pure, Result.andThen_ok, List.map_toArray, List.map_cons, List.map_nil, hs, hx, hr]
  exact h _ _ h2 h3 h5

/-- The number is behind the others of its stack, and the stack is in its place. -/
theorem own_put {w3 w5 : World} {B hi g n c s m : Nat} {Y : List (List Int)} {l : List Int} {x : Int} {u v' : Value} {o : Obj} (h : OwnY w3 B hi (.slice (some ⟨g, 0, none⟩) n c) Y) (hl : Y[s]? = some l) (hm : l.length = m) (hu : w3.cell? ⟨g, s, none⟩ = some u)
    (ho : w5.ownsRow B 3 1 v' (m + 1) (intV l ++ [.int .i64 x])) (hg : (w3.alloc o).grownBy w5 u.ownBlock) (hat : v'.ownBlock = u.ownBlock ∨ v'.ownBlock = some (w3.alloc o).heap.size) :
    OwnY (w5.setCell ⟨g, s, none⟩ v') B w5.heap.size (.slice (some ⟨g, 0, none⟩) n c) (putY Y s x) ∧ (∃ y, w5.cell? ⟨g, s, none⟩ = some y) ∧ w5.frozen? ⟨g, s, none⟩ = false := by
  have hgr : w3.grownBy w5 u.ownBlock := Lib.grownBy_trans (World.grownBy_alloc w3 o _) hg
  have e : intV l ++ [.int .i64 x] = intV (l ++ [x]) := by simp [intV]
  rw [e] at ho
  have hk : s < Y.length := lt_of_get hl
  have hr := h.repl hk hu hgr (l' := l ++ [x]) (by rw [List.length_append, hm]; exact ho) fun b hb => by
    rcases hat with e1 | e1
    · exact .inl (e1 ▸ hb)
    · rw [e1] at hb
      cases hb
      have := h.1
      exact .inr (by simp; omega)
  rw [putY_of hl]
  obtain ⟨h1, h2, us, h3, hr2⟩ := h
  have hn : n = Y.length := by
    obtain ⟨a, c, e⟩ := own_form h3
    injection e
  subst hn
  have hus : us[s]? = some u := by rw [← h3.cellAt s (by omega)]; exact hu
  have hne : u.ownBlock ≠ some g := outer_ne h3 (hr2.2.1 s u l hus hl).1 g rfl
  have hold := hgr.block g (h3.lt g rfl).2 (fun e => hne e.symm)
  refine ⟨hr.1, ⟨u, (World.cell?_of_block (a := ⟨g, s, none⟩) hold).trans hu⟩, ?_⟩
  rw [World.frozen?_of_block (w := w3) (a := ⟨g, s, none⟩) hold]
  exact h3.frozenAt s

end Go.Proofs.Ytpljcpeghjplnaa
