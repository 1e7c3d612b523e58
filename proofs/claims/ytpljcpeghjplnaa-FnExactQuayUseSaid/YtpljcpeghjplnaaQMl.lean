/-
  Moorings as values: a new one, one that is stored and loaded. No statement of the seat by itself.
-/
import Derived.Test.YtpljcpeghjplnaaQMo
namespace Go.Proofs.Ytpljcpeghjplnaa
open Go.RowKit

/-- A mooring as a value. -/
abbrev moV (xs : List Int) : Value := .agg (intV xs).toArray
def RepX (q : Int) (M : List Sty) (xs : List Int) : Prop := xs.length = 37 ∧ xs[0]? = some q ∧ xs[1]? = some (M.length : Int) ∧ (∀ j s i v, M[j]? = some s → (svV s)[i]? = some v → (intV xs)[2 + j * 7 + i]? = some v) ∧ M.length ≤ 5
theorem RepX.len {q : Int} {M : List Sty} {xs : List Int} (h : RepX q M xs) : xs.length = 37 := h.1
theorem RepX.zero : RepX 0 [] (List.replicate 37 0) := ⟨by simp, by simp, by simp, fun j s i v h => by simp at h, by simp⟩
theorem RepX.start (q : Int) : RepX q [] (q :: List.replicate 36 0) := ⟨by simp, by simp, by simp, fun j s i v h => by simp at h, by simp⟩
theorem MoC.val {w : World} {b off : Nat} {q : Int} {M : List Sty} (h : MoC w b off q M) : ∃ xs, RepX q M xs ∧ w.rangeAt b off (intV xs) := by
  obtain ⟨h1, h2, h3, h4, h5, h6⟩ := h
  have hc : ∃ f : Nat → Int, ∀ j, j < 37 → w.cell? ⟨b, off + j, none⟩ = some (.int .i64 (f j)) := by
    refine ⟨fun j => if hj : j < 37 then (h4 j hj).choose else 0, fun j hj => ?_⟩
    simp only [hj, dite_true]
    exact (h4 j hj).choose_spec
  obtain ⟨f, hf⟩ := hc
  have hg : ∀ j, j < 37 → ((List.range 37).map f)[j]? = some (f j) := fun j hj => by simp [hj]
  have hr : w.rangeAt b off (intV ((List.range 37).map f)) := fun j v hv => by
    have hj : j < 37 := by have := (List.getElem?_eq_some_iff.1 hv).1; simpa [intV] using this
    rw [intV_get, hg j hj] at hv
    rw [hf j hj, ← hv]
    rfl
  refine ⟨(List.range 37).map f, ⟨by simp, ?_, ?_, ?_, h6⟩, hr⟩
  · have := hf 0 (by omega)
    rw [Nat.add_zero, h1] at this
    rw [hg 0 (by omega)]
    injection this with e
    injection e with _ e
    rw [e]
  · have := hf 1 (by omega)
    rw [h2] at this
    rw [hg 1 (by omega)]
    injection this with e
    injection e with _ e
    rw [e]
  · intro j s i v hs hv
    have hj : j < M.length := (List.getElem?_eq_some_iff.1 hs).1
    have hi : i < 7 := (List.getElem?_eq_some_iff.1 hv).1
    have h7 := h3 j s hs i v hv
    rw [show off + 2 + j * 7 + i = off + (2 + j * 7 + i) by omega, hf _ (by omega)] at h7
    rw [intV_get, hg _ (by omega)]
    exact h7
theorem RepX.mo {q : Int} {M : List Sty} {xs : List Int} (h : RepX q M xs) {w : World} {b off : Nat} (hr : w.rangeAt b off (intV xs)) (hf : ∀ j, j < 37 → w.frozen? ⟨b, off + j, none⟩ = false) : MoC w b off q M := by
  obtain ⟨h1, h2, h3, h4, h5⟩ := h
  refine ⟨hr 0 _ (by rw [intV_get, h2]; rfl), hr 1 _ (by rw [intV_get, h3]; rfl), fun j s hs i v hv => ?_, fun j hj => ?_, hf, h5⟩
  · have := hr _ _ (h4 j s i v hs hv)
    rwa [show off + (2 + j * 7 + i) = off + 2 + j * 7 + i by omega] at this
  · obtain ⟨x, hx⟩ := get_at h1 hj
    exact ⟨x, hr j _ (by rw [intV_get, hx]; rfl)⟩
theorem RepX.new {q : Int} {M : List Sty} {xs : List Int} (h : RepX q M xs) (w : World) (t : TypeId) : MoC (w.alloc (.cells (intV xs).toArray t)) w.heap.size 0 q M :=
  h.mo (rangeAt_new (last_alloc w _)) fun _ _ => free_of (last_alloc w _)
theorem intVoc (xs : List Int) : (intV xs).toArray.all (fun x => x.oneCell') = true := by
  rw [Array.all_eq_true_iff_forall_mem]
  intro v hv
  simp [intV] at hv
  obtain ⟨x, _, rfl⟩ := hv
  rfl
theorem moorU : Try.prog.underlying 93 = some (.struct (Try.prog.fieldsOf 93)) := by kernel_rfl
theorem moorI : (Try.prog.info? 93).map (·.size) = some 37 := by kernel_rfl
theorem moorIx {xs : List Int} (h : xs.length = 37) : (Try.prog.info? 93).map (·.size) = some (intV xs).length := by rw [intV_len, h]; exact moorI
theorem moorIa {xs : List Int} (h : xs.length = 37) : (Try.prog.info? 93).map (·.size) = some (intV xs).toArray.size := by rw [List.size_toArray]; exact moorIx h

def zM : List Int := List.replicate 37 0
theorem zM_zero : (Try.prog.info? 93).map (fun i => (i.zero, i.size)) = some (some (moV zM), 37) := by kernel_rfl
theorem zero_info {P : Program} {t : TypeId} {v : Value} {n : Nat} (h : (P.info? t).map (fun i => (i.zero, i.size)) = some (some v, n)) (w : World) : (zeroValue t).run P w = .ok v w := by
  cases hq : P.info? t with
  | none => simp [hq] at h
  | some i =>
    simp [hq] at h
    simp [zeroValue, typeInfo, hq, h.1]
theorem zM_built : Try.prog.built 93 [] = some (intV zM).toArray := by kernel_rfl
set_option maxRecDepth 100000 in
theorem qM_built (q : Int) : Try.prog.built 93 [(0, .int .i64 q)] = some (intV (q :: List.replicate 36 0)).toArray := by kernel_rfl

/-- A new mooring. -/
def NewM (w W : World) : Prop := W.rangeAt w.heap.size 0 (intV zM) ∧ (∀ j, W.frozen? ⟨w.heap.size, j, none⟩ = false) ∧ Below w.heap.size w W ∧ w.heap.size < W.heap.size
/-- A mooring is stored in a block. -/
def PutM (w W : World) (b : Nat) (xs : List Int) : Prop := W.rangeAt b 0 (intV xs) ∧ (∀ j, W.frozen? ⟨b, j, none⟩ = w.frozen? ⟨b, j, none⟩) ∧ Span b (b + 1) w W
theorem wpList_newM {ops : Array Oper} {rest : List Oper} {op : Oper} {a : Act} {w : World} {Q : Exit → Act → World → Prop} (hgd : op.guard = none) (ho : op.op = .alloc 93)
    (h : ∀ W, NewM w W → wpList Try.prog ops Q rest (a.put op.dst (.pointer (some ⟨w.heap.size, 0, none⟩))) W) : wpList Try.prog ops Q (op :: rest) a w := by
  refine wpList_plain hgd fun K hK => ?_
  unfold Oper.wp execOp
  simp only [ho, Sem.run_bind, Instr.alloc, zero_info zM_zero, newVar, newRow, run_newObj_alloc, Sem.run_pure, Result.andThen_ok]
  refine hK _ _ (h _ ⟨rangeAt_new (last_alloc w _), fun j => free_of (last_alloc w _), below_one w _, by simp⟩)
theorem wpList_bld0 {ops : Array Oper} {rest : List Oper} {op : Oper} {a : Act} {w : World} {Q : Exit → Act → World → Prop} (hgd : op.guard = none) (ho : op.op = .build 93 #[])
    (h : wpList Try.prog ops Q rest (a.put op.dst (moV zM)) w) : wpList Try.prog ops Q (op :: rest) a w := by
  have e : Try.prog.built 93 ((#[] : Array (Nat × Operand)).map fun (i, x) => (i, a.eval x)).toList = some (intV zM).toArray := by
    simp only [List.map_toArray, List.map_nil]
    exact zM_built
  exact wpList_build hgd _ _ ho (by rw [e]; rfl) (by rw [e]; exact h)
theorem wpList_bldq {ops : Array Oper} {rest : List Oper} {op : Oper} {a : Act} {w : World} {Q : Exit → Act → World → Prop} (hgd : op.guard = none) (x : Operand) (ho : op.op = .build 93 #[(0, x)]) (q : Int) (hx : a.eval x = .int .i64 q)
    (h : wpList Try.prog ops Q rest (a.put op.dst (moV (q :: List.replicate 36 0))) w) : wpList Try.prog ops Q (op :: rest) a w := by
  have e : Try.prog.built 93 ((#[((0 : Nat), x)] : Array (Nat × Operand)).map fun (i, x) => (i, a.eval x)).toList = some (intV (q :: List.replicate 36 0)).toArray := by
    simp only [List.map_toArray, List.map_cons, List.map_nil, hx]
    exact qM_built q
  exact wpList_build hgd _ _ ho (by rw [e]; rfl) (by rw [e]; exact h)
theorem wpList_putM {ops : Array Oper} {rest : List Oper} {op : Oper} {a : Act} {w : World} {Q : Exit → Act → World → Prop} (hgd : op.guard = none) (x y : Operand) (ho : op.op = .store 93 x y) (b : Nat) (hx : a.eval x = .pointer (some ⟨b, 0, none⟩)) (xs : List Int) (hy : a.eval y = moV xs) (hl : xs.length = 37)
    (ht : w.there b 0 37) (h : ∀ W, PutM w W b xs → wpList Try.prog ops Q rest (a.put op.dst undef) W) : wpList Try.prog ops Q (op :: rest) a w := by
  have hl2 : (intV xs).toArray.size = 37 := by rw [List.size_toArray, intV_len, hl]
  refine wpList_store_mid hgd 93 x y ho b 0 (intV xs).toArray hx hy (by rw [hl2]; exact ht) (moorIa hl) (intVoc xs) (h _ ⟨?_, fun j => World.frozen?_setCells b _ _ _ _, span_setCells b _ 0 w⟩)
  exact World.rangeAt_setCells_same w b 0 (intV xs) (by rw [intV_len, hl]; exact ht)
theorem wpList_getM {ops : Array Oper} {rest : List Oper} {op : Oper} {a : Act} {w : World} {Q : Exit → Act → World → Prop} (hgd : op.guard = none) (x : Operand) (ho : op.op = .load 93 x) (b : Nat) (hx : a.eval x = .pointer (some ⟨b, 0, none⟩)) (xs : List Int) (hl : xs.length = 37)
    (hr : w.rangeAt b 0 (intV xs)) (h : wpList Try.prog ops Q rest (a.put op.dst (moV xs)) w) : wpList Try.prog ops Q (op :: rest) a w :=
  wpList_load_mid hgd 93 x ho b 0 hx (intV xs) _ hr moorU rfl (moorIx hl) h
theorem NewM.there {w W : World} (h : NewM w W) : W.there w.heap.size 0 37 := fun j hj => by
  have e : (intV zM)[j]? = some (.int .i64 0) := by rw [intV_get, zM, List.getElem?_replicate, if_pos hj]; rfl
  exact ⟨by rw [h.1 j _ e]; rfl, by rw [h.2.1]⟩
theorem PutM.there {w W : World} {b : Nat} {xs : List Int} (h : PutM w W b xs) (hl : xs.length = 37) (hf : ∀ j, w.frozen? ⟨b, j, none⟩ = false) : W.there b 0 37 := fun j hj => by
  obtain ⟨x, hx⟩ := get_at hl hj
  exact ⟨by rw [h.1 j (.int .i64 x) (by rw [intV_get, hx]; rfl)]; rfl, by rw [h.2.1, hf]⟩
/-- A new mooring that is stored at once. -/
theorem NewM.put {w W W' : World} {q : Int} {M : List Sty} {xs : List Int} (h : NewM w W) (k : PutM W W' w.heap.size xs) (hx : RepX q M xs) : MoC W' w.heap.size 0 q M ∧ Below w.heap.size w W' ∧ w.heap.size < W'.heap.size :=
  ⟨hx.mo k.1 fun j _ => by rw [k.2.1]; exact h.2.1 _, Below.span h.2.2.1 k.2.2 (Nat.le_of_lt h.2.2.2), Nat.lt_of_lt_of_le h.2.2.2 k.2.2.size⟩
theorem results_getM {fn : Func} {w : World} {b n s : Nat} {a : Act} {v : Value} (hr : fn.results = #[.cell n 93, .tmp s]) (hx : a.tmps.getD n undef = .pointer (some ⟨b, 0, none⟩)) (xs : List Int) (hl : xs.length = 37) (hg : w.rangeAt b 0 (intV xs)) (hv : a.tmps.getD s undef = v) :
    (results fn a.tmps).run Try.prog w = .ok (.tuple #[moV xs, v]) w := by
  have h1 := run_loadVar_mid (P := Try.prog) w b 0 93 (intV xs) _ hg moorU rfl (moorIx hl)
  have hx2 : a.tmps[n]?.getD undef = .pointer (some ⟨b, 0, none⟩) := by simpa using hx
  have hv2 : a.tmps[s]?.getD undef = v := by simpa using hv
  simp [results, hr, hx2, hv2, asAddr, Result.andThen_ok, h1]
end Go.Proofs.Ytpljcpeghjplnaa
