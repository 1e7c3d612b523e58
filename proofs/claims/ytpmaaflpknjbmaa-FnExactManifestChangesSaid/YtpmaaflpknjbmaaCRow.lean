/-
  Lists of containers in memory, and the laws' own helpers on them: szContainerS, toContainerS, eqContainerS. No statement of the seat by itself.
-/
import Derived.Test.YtpmaaflpknjbmaaCConts
import Derived.Lib.BufferMore
import Derived.StillTailTactics
import Derived.Laws.MakeOwn
import Derived.Laws.Entries
namespace Go.Proofs.Ytpmaaflpknjbmaa.C
open Go.RowKit

/-- The five cells of a container from place o of block b on. -/
def CCells (w : World) (b o : Nat) (c : Cont) : Prop := w.cell? ⟨b, o, none⟩ = some (.string c.id) ∧ w.cell? ⟨b, o + 1, none⟩ = some (.int .i64 c.size) ∧ w.cell? ⟨b, o + 2, none⟩ = some (.int .i64 c.weight) ∧ w.cell? ⟨b, o + 3, none⟩ = some (.int .i64 c.cargo) ∧ w.cell? ⟨b, o + 4, none⟩ = some (.int .i64 c.port)
/-- n containers in block b from place o on. -/
def CAt (w : World) (b o n : Nat) (f : Nat → Cont) : Prop := b < w.heap.size ∧ ∀ j, j < n → CCells w b (o + j * 5) (f j)
theorem CAt.below {w w' : World} {b o n : Nat} {f : Nat → Cont} (h : CAt w b o n f) (hb : Below w.heap.size w w') : CAt w' b o n f :=
  ⟨Nat.lt_of_lt_of_le h.1 hb.size, fun j hj => by
    obtain ⟨h0, h1, h2, h3, h4⟩ := h.2 j hj
    exact ⟨(hb.cell (p := ⟨b, _, none⟩) h.1).trans h0, (hb.cell (p := ⟨b, _, none⟩) h.1).trans h1, (hb.cell (p := ⟨b, _, none⟩) h.1).trans h2, (hb.cell (p := ⟨b, _, none⟩) h.1).trans h3, (hb.cell (p := ⟨b, _, none⟩) h.1).trans h4⟩⟩
theorem CAt.less {w : World} {b o n m : Nat} {f : Nat → Cont} (h : CAt w b o n f) (hm : m ≤ n) : CAt w b o m f := ⟨h.1, fun j hj => h.2 j (by omega)⟩
/-- A list of n containers that came in. -/
def ArgC (w : World) (v : Value) (n : Nat) (f : Nat → Cont) : Prop := (n = 0 ∧ ∃ a c, v = .slice a 0 c) ∨ ∃ b off cap, v = .slice (some ⟨b, off, none⟩) n cap ∧ CAt w b off n f
theorem ArgC.below {w w' : World} {v : Value} {n : Nat} {f : Nat → Cont} (h : ArgC w v n f) (hb : Below w.heap.size w w') : ArgC w' v n f := by
  rcases h with ⟨rfl, a, c, rfl⟩ | ⟨b, off, cap, rfl, hc⟩
  · exact .inl ⟨rfl, _, _, rfl⟩
  · exact .inr ⟨b, off, cap, rfl, hc.below hb⟩

/-- What szContainerS answers: -1, or a number that says that the list is small. -/
def SzC (w : World) (n : Nat) (f : Nat → Cont) (e : Ending) (w' : World) : Prop := Below w.heap.size w w' ∧ (e = .returned (.int .i64 (-1)) ∨ ∃ r : Nat, e = .returned (.int .i64 (r : Int)) ∧ n ≤ 1048576 ∧ ∀ j, j < n → (f j).id.size ≤ 1048576)

set_option maxRecDepth 100000 in
set_option maxHeartbeats 1000000 in
theorem szC_rows (b off n cap : Nat) (f : Nat → Cont) (hn : n ≤ maxLen) (hsz : ∀ j, j < n → (f j).id.size ≤ maxLen) (w : World) (hc : CAt w b off n f) :
    Calls Try.prog 7 #[.slice (some ⟨b, off, none⟩) n cap, .int .i64 1048576] w (SzC w n f) := by
  unfold maxLen at hn
  have HC := Lib.hid hc
  have HS := Lib.hid hsz
  clear hc hsz
  by_cases hbig : 1048576 < n
  · go_enter Try.func7, Try.ntmps7
    go_wp2_with fail
    go_ret
    exact ⟨Below.refl _ _, .inl rfl⟩
  · have hsm : n ≤ 1048576 := by omega
    go_enter Try.func7, Try.ntmps7
    go_wp2_with fail
    go_loopw [1, 5] (fun l i wr => ∃ k L : Nat, k ≤ n ∧ i = .int .i64 k ∧ l = .int .i64 (L : Int) ∧ L ≤ 1048576 ∧ Hid (∀ j, j < k → (f j).id.size ≤ 1048576) ∧ Hid (Below w.heap.size w wr)) (fun _ i _ => n - (intOf i).toNat)
    case atStart => exact ⟨0, 1048576 - n, Nat.zero_le _, rfl, val_i (by omega), by omega, Lib.hid fun j hj => by omega, Lib.hid (Below.refl _ _)⟩
    case round =>
      obtain ⟨k, L, hk, rfl, rfl, hL, HK, HB⟩ := hrel
      by_cases hlt : k < n
      · obtain ⟨h0, h1, h2, h3, h4⟩ := (HC.out.below HB.out).2 k hlt
        have KS := Lib.hid (HS.out k hlt)
        have HK2 := fun (h : (f k).id.size ≤ 1048576) => Lib.hid (show ∀ j, j < k + 1 → (f j).id.size ≤ 1048576 from fun j hj => by
          by_cases e : j = k
          · subst e; exact h
          · exact HK.out j (by omega))
        have KK := Lib.hid HK2
        clear HK2
        generalize f k = c at *
        have HZ := Lib.hid (fun W => szCont_any c L W KS.out (by omega) (by omega))
        obtain ⟨id, sz, wt, cg, pt⟩ := c
        simp only [contV] at *
        go_wp2_with fail
        refine (HZ.out _).mono ?_
        by_cases hneg : (id.size : Int) ≤ L
        · rw [if_pos hneg]
          rintro e w1 ⟨rfl, hb1⟩
          have B1 : Hid (Below w.heap.size w w1) := Lib.hid (HB.out.trans (hb1.mono HB.out.size))
          clear hb1
          go_wp2_with fail
          refine ⟨⟨k + 1, L - id.size, by omega, by go_num, val_i (by omega), by omega, KK.out (by omega), B1⟩, by simp [intOf]; omega⟩
        · rw [if_neg hneg]
          rintro e w1 ⟨rfl, hb1⟩
          have B1 : Hid (Below w.heap.size w w1) := Lib.hid (HB.out.trans (hb1.mono HB.out.size))
          clear hb1
          go_wp2_with fail
          go_ret
          exact ⟨B1.out, .inl rfl⟩
      · obtain rfl : k = n := by omega
        go_wp2_with fail
        go_ret
        exact ⟨HB.out, .inr ⟨L, rfl, hsm, HK.out⟩⟩

set_option maxHeartbeats 400000 in
theorem szC_empty (a : Option Addr) (cap : Nat) (f : Nat → Cont) (w : World) :
    Calls Try.prog 7 #[.slice a 0 cap, .int .i64 1048576] w (SzC w 0 f) := by
  go_enter Try.func7, Try.ntmps7
  go_wp2_with fail
  go_loop [1, 5] (fun l i => i = .int .i64 0 ∧ l = .int .i64 1048576) (fun _ _ => 0)
  case atStart => exact ⟨rfl, rfl⟩
  case round =>
    obtain ⟨rfl, rfl⟩ := hrel
    go_wp2_with fail
    go_ret
    exact ⟨Below.refl _ _, .inr ⟨1048576, rfl, by decide, fun j hj => by omega⟩⟩

theorem szC_any (v : Value) (n : Nat) (f : Nat → Cont) (hn : n ≤ maxLen) (hsz : ∀ j, j < n → (f j).id.size ≤ maxLen) (w : World) (h : ArgC w v n f) :
    Calls Try.prog 7 #[v, .int .i64 1048576] w (SzC w n f) := by
  rcases h with ⟨rfl, a, c, rfl⟩ | ⟨b, off, cap, rfl, hc⟩
  · exact szC_empty a c f w
  · exact szC_rows b off n cap f hn hsz w hc

theorem infoC : (Try.prog.info? 49).map (fun i => (i.zero, i.size, i.bytes)) = some (some (.agg #[.string ⟨#[]⟩, .int .i64 0, .int .i64 0, .int .i64 0, .int .i64 0]), 5, 48) := by kernel_rfl
theorem info_is {P : Program} {t : TypeId} {z : Value} {s b : Nat} (h : (P.info? t).map (fun i => (i.zero, i.size, i.bytes)) = some (some z, s, b)) : ∃ i, P.info? t = some i ∧ i.zero = some z ∧ i.size = s ∧ i.bytes = b := by
  cases hi : P.info? t with
  | none => rw [hi] at h; cases h
  | some i =>
    rw [hi] at h
    simp only [Option.map_some, Option.some.injEq, Prod.mk.injEq] at h
    exact ⟨i, rfl, h.1, h.2.1, h.2.2⟩
/-- make([]impl.Container, n). -/
theorem run_makeC (n : Nat) (hn : n ≤ 1048576) (W : World) : ∃ cur : Array Value, cur.size = n * 5 ∧
    (Instr.makeSlice 27 (.int .i64 (n : Int)) (.int .i64 (n : Int))).run Try.prog W = .ok (.slice (some ⟨W.heap.size, 0, none⟩) n n) (W.alloc (.cells cur 49)) := by
  obtain ⟨i, hi, hz, hs, hb⟩ := info_is infoC
  have hb' : (i.bytes : Int) * (n : Int) ≤ 281474976710656 := by rw [hb]; omega
  have hr := run_make (P := Try.prog) W 27 49 i _ Try.underlying27 hi hz .i64 .i64 n n (by omega) (by omega) hb' (by omega)
  simp only [Int.toNat_natCast] at hr
  refine ⟨_, ?_, hr⟩
  rw [hs]
  simp [madeCells]

/-- While the copy is made: the first k are there. -/
def CopyC (w wr : World) (n k : Nat) (f : Nat → Cont) : Prop := Below w.heap.size w wr ∧ ∃ cur : Array Value, wr.heap[w.heap.size]? = some (.cells cur 49 (0, 0)) ∧ cur.size = n * 5 ∧ ∀ j, j < k → CCells wr w.heap.size (j * 5) (f j)
theorem copyC_cell {w wr : World} {n k : Nat} {f : Nat → Cont} (h : CopyC w wr n k f) (i : Nat) (hi : i < n * 5) : (∃ x, wr.cell? ⟨w.heap.size, i, none⟩ = some x) ∧ wr.frozen? ⟨w.heap.size, i, none⟩ = false := by
  obtain ⟨hB, cur, hb, hsz, hd⟩ := h
  exact ⟨⟨cur[i], by simp [World.cell?, hb, hsz, hi]⟩, by simp [World.frozen?, hb]⟩
theorem copyC_set {w wr : World} {n k : Nat} {f : Nat → Cont} (h : CopyC w wr n k f) (i : Nat) (hi : k * 5 ≤ i) (v : Value) : CopyC w (wr.setCell ⟨w.heap.size, i, none⟩ v) n k f := by
  obtain ⟨hB, cur, hb, hsz, hd⟩ := h
  refine ⟨hB.setCell (p := ⟨w.heap.size, i, none⟩) (Nat.le_refl _) _, cur.setIfInBounds i v, Lib.heap_setCell_same hb _, by simpa using hsz, fun j hj => ?_⟩
  obtain ⟨h0, h1, h2, h3, h4⟩ := hd j hj
  refine ⟨?_, ?_, ?_, ?_, ?_⟩
  all_goals
    rw [World.cell?_setCell_other _ _ _ _ (by first | (simp; done) | (simp; omega))]
    assumption
theorem cell_set {w : World} {b i : Nat} {x v : Value} (h : w.cell? ⟨b, i, none⟩ = some x) : (w.setCell ⟨b, i, none⟩ v).cell? ⟨b, i, none⟩ = some v := World.cell?_setCell_same _ _ _ h
/-- The world behind the five stores of one container. -/
def set5 (W : World) (g o : Nat) (c : Cont) : World := ((((W.setCell ⟨g, o, none⟩ (.string c.id)).setCell ⟨g, o + 1, none⟩ (.int .i64 c.size)).setCell ⟨g, o + 2, none⟩ (.int .i64 c.weight)).setCell ⟨g, o + 3, none⟩ (.int .i64 c.cargo)).setCell ⟨g, o + 4, none⟩ (.int .i64 c.port)
theorem set5_cells {W : World} {g o : Nat} (c : Cont) (h : ∀ i, i < 5 → ∃ x, W.cell? ⟨g, o + i, none⟩ = some x) : CCells (set5 W g o c) g o c := by
  obtain ⟨x0, h0⟩ := h 0 (by decide)
  obtain ⟨x1, h1⟩ := h 1 (by decide)
  obtain ⟨x2, h2⟩ := h 2 (by decide)
  obtain ⟨x3, h3⟩ := h 3 (by decide)
  obtain ⟨x4, h4⟩ := h 4 (by decide)
  rw [Nat.add_zero] at h0
  have ne : ∀ (i j : Nat), i ≠ j → ∀ (W : World) (v : Value), (W.setCell ⟨g, i, none⟩ v).cell? ⟨g, j, none⟩ = W.cell? ⟨g, j, none⟩ := fun i j hij W v => World.cell?_setCell_other _ _ _ _ (fun e => hij (by injection e))
  unfold set5 CCells
  refine ⟨?_, ?_, ?_, ?_, ?_⟩
  · rw [ne _ _ (by omega), ne _ _ (by omega), ne _ _ (by omega), ne _ _ (by omega), cell_set h0]
  · rw [ne _ _ (by omega), ne _ _ (by omega), ne _ _ (by omega), cell_set (x := x1) (by rw [ne _ _ (by omega)]; exact h1)]
  · rw [ne _ _ (by omega), ne _ _ (by omega), cell_set (x := x2) (by rw [ne _ _ (by omega), ne _ _ (by omega)]; exact h2)]
  · rw [ne _ _ (by omega), cell_set (x := x3) (by rw [ne _ _ (by omega), ne _ _ (by omega), ne _ _ (by omega)]; exact h3)]
  · rw [cell_set (x := x4) (by rw [ne _ _ (by omega), ne _ _ (by omega), ne _ _ (by omega), ne _ _ (by omega)]; exact h4)]
theorem copyC_step {w wr : World} {n k : Nat} {f : Nat → Cont} (h : CopyC w wr n k f) (hk : k < n) : CopyC w (set5 wr w.heap.size (k * 5) (f k)) n (k + 1) f := by
  have hc := set5_cells (W := wr) (g := w.heap.size) (o := k * 5) (f k) (fun i hi => (copyC_cell h (k * 5 + i) (by omega)).1)
  have h5 := copyC_set (copyC_set (copyC_set (copyC_set (copyC_set h (k * 5) (by omega) (.string (f k).id)) (k * 5 + 1) (by omega) (.int .i64 (f k).size)) (k * 5 + 2) (by omega) (.int .i64 (f k).weight)) (k * 5 + 3) (by omega) (.int .i64 (f k).cargo)) (k * 5 + 4) (by omega) (.int .i64 (f k).port)
  obtain ⟨hB, cur, hb, hsz, hd⟩ := h5
  refine ⟨hB, cur, hb, hsz, fun j hj => ?_⟩
  by_cases e : j = k
  · subst e; exact hc
  · exact hd j (by omega)

/-- What toContainerS answers: a copy of its own. -/
def CopyPostC (w : World) (n : Nat) (f : Nat → Cont) (e : Ending) (w' : World) : Prop := e = .returned (.slice (some ⟨w.heap.size, 0, none⟩) n n) ∧ CAt w' w.heap.size 0 n f ∧ Below w.heap.size w w' ∧ ∃ cur : Array Value, w'.heap[w.heap.size]? = some (.cells cur 49 (0, 0)) ∧ cur.size = n * 5
theorem copyC_done {w wr : World} {n : Nat} {f : Nat → Cont} (h : CopyC w wr n n f) : CopyPostC w n f (.returned (.slice (some ⟨w.heap.size, 0, none⟩) n n)) wr := by
  obtain ⟨hB, cur, hb, hsz, hd⟩ := h
  exact ⟨rfl, ⟨(Array.getElem?_eq_some_iff.1 hb).1, fun j hj => by rw [Nat.zero_add]; exact hd j hj⟩, hB, cur, hb, hsz⟩

set_option maxRecDepth 100000 in
set_option maxHeartbeats 2000000 in
theorem toC_rows (b off n cap : Nat) (f : Nat → Cont) (hn : n ≤ 1048576) (w : World) (hc : CAt w b off n f) :
    Calls Try.prog 9 #[.slice (some ⟨b, off, none⟩) n cap] w (CopyPostC w n f) := by
  obtain ⟨cur, hcur, hmk⟩ := run_makeC n hn w
  have HC := Lib.hid hc
  have R0 : Hid (CopyC w (w.alloc (.cells cur 49)) n 0 f) := Lib.hid ⟨(Below.refl _ w).alloc (Nat.le_refl _) _, cur, heap_alloc_new w _, hcur, fun j hj => by omega⟩
  clear hc hcur
  go_enter Try.func9, Try.ntmps9
  go_wp2_with fail
  clear hmk
  go_loopw [4] (fun i wr => ∃ k : Nat, k ≤ n ∧ i = .int .i64 k ∧ Hid (CopyC w wr n k f)) (fun i _ => n - (intOf i).toNat)
  case atStart => exact ⟨0, Nat.zero_le _, rfl, R0⟩
  case round =>
    obtain ⟨k, hk, rfl, HR⟩ := hrel
    by_cases hlt : k < n
    · obtain ⟨h0, h1, h2, h3, h4⟩ := (HC.out.below HR.out.1).2 k hlt
      have KS := Lib.hid (fun (w1 : World) (h : Below wr.heap.size wr w1) => show CopyC w w1 n k f from by
        obtain ⟨hB, cur, hb, hsz, hd⟩ := HR.out
        have hlt : w.heap.size < wr.heap.size := (Array.getElem?_eq_some_iff.1 hb).1
        refine ⟨hB.trans (h.mono hB.size), cur, (h.block _ hlt).trans hb, hsz, fun j hj => ?_⟩
        obtain ⟨a0, a1, a2, a3, a4⟩ := hd j hj
        exact ⟨(h.cell (p := ⟨_, _, none⟩) hlt).trans a0, (h.cell (p := ⟨_, _, none⟩) hlt).trans a1, (h.cell (p := ⟨_, _, none⟩) hlt).trans a2, (h.cell (p := ⟨_, _, none⟩) hlt).trans a3, (h.cell (p := ⟨_, _, none⟩) hlt).trans a4⟩)
      have KT := Lib.hid (fun (w1 : World) (h : CopyC w w1 n k f) => copyC_step h hlt)
      generalize f k = c at *
      have HZ := Lib.hid (fun W => toCont_any c W)
      obtain ⟨id, sz, wt, cg, pt⟩ := c
      simp only [contV, set5] at *
      go_wp2_with fail
      refine (HZ.out _).mono ?_
      rintro e w1 ⟨rfl, hb1⟩
      have HR1 := Lib.hid (KS.out w1 hb1)
      clear hb1 h0 h1 h2 h3 h4
      obtain ⟨⟨x0, y0⟩, z0⟩ := copyC_cell HR1.out (k * 5) (by omega)
      obtain ⟨⟨x1, y1⟩, z1⟩ := copyC_cell HR1.out (k * 5 + 1) (by omega)
      obtain ⟨⟨x2, y2⟩, z2⟩ := copyC_cell HR1.out (k * 5 + 2) (by omega)
      obtain ⟨⟨x3, y3⟩, z3⟩ := copyC_cell HR1.out (k * 5 + 3) (by omega)
      obtain ⟨⟨x4, y4⟩, z4⟩ := copyC_cell HR1.out (k * 5 + 4) (by omega)
      go_wp2_with fail
      refine ⟨⟨k + 1, by omega, by go_num, Lib.hid (KT.out _ HR1.out)⟩, by simp [intOf]; omega⟩
    · obtain rfl : k = n := by omega
      have HX := Lib.hid (copyC_done HR.out)
      go_wp2_with fail
      go_ret
      exact HX.out

set_option maxRecDepth 100000 in
set_option maxHeartbeats 1000000 in
theorem toC_empty (a : Option Addr) (cap : Nat) (f : Nat → Cont) (w : World) :
    Calls Try.prog 9 #[.slice a 0 cap] w (CopyPostC w 0 f) := by
  obtain ⟨cur, hcur, hmk⟩ := run_makeC 0 (by decide) w
  simp only [Int.cast_ofNat_Int] at hmk
  have R0 : Hid (CopyC w (w.alloc (.cells cur 49)) 0 0 f) := Lib.hid ⟨(Below.refl _ w).alloc (Nat.le_refl _) _, cur, heap_alloc_new w _, hcur, fun j hj => by omega⟩
  clear hcur
  go_enter Try.func9, Try.ntmps9
  go_wp2_with fail
  clear hmk
  go_loop [4] (fun i => i = .int .i64 0) (fun _ => 0)
  case atStart => rfl
  case round =>
    obtain rfl := hrel
    have HX := Lib.hid (copyC_done R0.out)
    go_wp2_with fail
    go_ret
    exact HX.out

theorem toC_any (v : Value) (n : Nat) (f : Nat → Cont) (hn : n ≤ 1048576) (w : World) (h : ArgC w v n f) : Calls Try.prog 9 #[v] w (CopyPostC w n f) := by
  rcases h with ⟨rfl, a, c, rfl⟩ | ⟨b, off, cap, rfl, hc⟩
  · exact toC_empty a c f w
  · exact toC_rows b off n cap f hn w hc
end Go.Proofs.Ytpmaaflpknjbmaa.C
