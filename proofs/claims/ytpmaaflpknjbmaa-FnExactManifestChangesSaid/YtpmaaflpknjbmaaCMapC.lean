/-
  Maps from Id to container that a call makes: containersById and withoutIdsOf. No statement of the seat by itself.
-/
import Derived.Test.YtpmaaflpknjbmaaCHeldC
import Derived.Maps.OwnSet
import Derived.Maps.OwnOps
import Derived.Maps.Views
namespace Go.Proofs.Ytpmaaflpknjbmaa.C
open Go.RowKit Go.Maps

/-- The keys are strings. -/
theorem keyS : Keyed Try.prog 9 := string_keyed Try.underlying9
/-- An element is taken as it stands. -/
def asV : Value → Option (DataW Value × List MemPlace) := fun v => some (.held v, [])
def zeroC : Value := .agg #[.string ⟨#[]⟩, .int .i64 0, .int .i64 0, .int .i64 0, .int .i64 0]
theorem zero34 (w : World) : (zeroValue 49).run Try.prog w = .ok zeroC w := by kernel_rfl
/-- An Id as a key. -/
def keyL (id : ByteArray) : Lit := .string id.data.toList
theorem keyL_ne {a b : ByteArray} (h : a ≠ b) : keyL a ≠ keyL b := fun e => h (by
  unfold keyL at e
  injection e with e
  exact ByteArray.ext (Array.toList_inj.1 e))
theorem keyL_key (id : ByteArray) : WideAt.IsKeyLit (keyL id) := by unfold keyL; exact trivial
theorem findU_skip (f : Nat → Cont) (id : ByteArray) (k : Nat) (e : ¬ (f k).id = id) : findU f id (k + 1) = findU f id k := by
  have := findU_bd f id k
  rw [findU]
  by_cases h : 0 ≤ findU f id k
  · rw [if_pos h]
  · rw [if_neg h, if_neg e]; omega
theorem findU_here (f : Nat → Cont) (k : Nat) : 0 ≤ findU f (f k).id (k + 1) := by
  rw [findU]
  by_cases h : 0 ≤ findU f (f k).id k
  · rw [if_pos h]; exact h
  · rw [if_neg h, if_pos rfl]; omega
/-- The map of the first k containers. -/
def mapD (f : Nat → Cont) : Nat → DataW Value
  | 0 => .map []
  | k + 1 => (mapD f k).put (keyL (f k).id) (.held (.agg (contV (f k))))
theorem mapD_is (f : Nat → Cont) : ∀ k, IsMap (mapD f k)
  | 0 => isMap_empty
  | k + 1 => (mapD_is f k).put _ _
theorem mapD_has (f : Nat → Cont) (id : ByteArray) : ∀ k, Maps.has (mapD f k) (keyL id) = decide (0 ≤ findU f id k)
  | 0 => rfl
  | k + 1 => by
    by_cases e : (f k).id = id
    · have := findU_here f k
      rw [mapD, ← e, has_put_same (mapD_is f k) (keyL_key _)]
      simp [this]
    · rw [mapD, has_put_other (keyL_ne (fun h => e h.symm)), mapD_has f id k, findU_skip f id k e]
theorem mapD_at (f : Nat → Cont) (id : ByteArray) (z : DataW Value) : ∀ k, (∀ i j, i < j → j < k → (f i).id ≠ (f j).id) → (mapD f k).atKey (keyL id) z = if 0 ≤ findU f id k then .held (.agg (contV (f (findU f id k).toNat))) else z
  | 0, _ => rfl
  | k + 1, hd => by
    by_cases e : (f k).id = id
    · have hm : findU f id k = -1 := findU_miss f id k (fun j hj h => hd j k hj (by omega) (by rw [h, e]))
      have h1 : findU f id (k + 1) = (k : Int) := by rw [findU, hm, if_neg (by decide), if_pos e]
      rw [mapD, h1, if_pos (by omega), ← e, atKey_put_same (mapD_is f k) (keyL_key _)]
      simp
    · rw [mapD, atKey_put_other (keyL_ne (fun h => e h.symm)), mapD_at f id z k (fun i j a b => hd i j a (by omega)), findU_skip f id k e]

section
variable {w : World} {ops : Array Oper} {rest : List Oper} {o : Oper} {a : Act} {Q : Exit → Act → World → Prop}
theorem wpList_put (hg : o.guard = none) (m x v : Operand) (hop : o.op = Op.mapUpdate 63 m x v) (b n : Nat) (D : DataW Value)
    (hm : a.eval m = .map (some b)) (hown : w.ownsMap Try.prog 9 asV b n D) (hn : n < maxLen) (id : ByteArray) (val : Value) (hx : a.eval x = .string id) (hs : id.size ≤ maxLen) (hv : a.eval v = val)
    (hK : ∀ w', w'.ownsMap Try.prog 9 asV b (n + 1) (D.put (keyL id) (.held val)) → w.grownBy w' (some b) → wpList Try.prog ops Q rest (a.put o.dst undef) w') : wpList Try.prog ops Q (o :: rest) a w :=
  wpList_mapUpdate_own w hg m x v 63 hop 9 49 keyS Try.underlying63 asV b n D hm hown hn (.string id) val (keyL id) hx hv (Go.WideMaps.keyOf_string_mk Try.underlying9 hs) (.held val) [] rfl hK
theorem wpList_look (hg : o.guard = none) (m x : Operand) (hop : o.op = Op.lookup 63 m x true) (b n : Nat) (D : DataW Value)
    (hm : a.eval m = .map (some b)) (hown : w.ownsMap Try.prog 9 asV b n D) (id : ByteArray) (hx : a.eval x = .string id) (hs : id.size ≤ maxLen) (v : Value) (bo : Bool)
    (hv : D.atKey (keyL id) (.held zeroC) = .held v) (hb : Maps.has D (keyL id) = bo)
    (hK : wpList Try.prog ops Q rest (a.put o.dst (.tuple #[v, .bool bo])) w) : wpList Try.prog ops Q (o :: rest) a w :=
  wpList_lookup_own_ok w hg m x 63 hop 9 49 keyS Try.underlying63 asV (zero34 w) (.held zeroC) [] rfl b n D hm hown (.string id) (keyL id) hx (Go.WideMaps.keyOf_string_mk Try.underlying9 hs) (fun u ps hu => by
    rw [hv] at hu
    simp only [asV, Option.some.injEq, Prod.mk.injEq, DataW.held.injEq] at hu
    rw [hu.1, hb]
    exact hK)
end

/-- A map of the call's own was answered, and nothing older turned. -/
def MapPost (w : World) (D : DataW Value) (e : Ending) (w' : World) : Prop := ∃ b k, e = .returned (.map (some b)) ∧ w.heap.size ≤ b ∧ w'.ownsMap Try.prog 9 asV b k D ∧ Below w.heap.size w w'

set_option maxRecDepth 100000 in
set_option maxHeartbeats 2000000 in
theorem byId_any (g n c : Nat) (f : Nat → Cont) (hn : n ≤ 1048576) (hid : ∀ j, j < n → (f j).id.size ≤ 1048576) (w : World) (h : CAt w g 0 n f) :
    Calls Try.prog 37 #[.slice (some ⟨g, 0, none⟩) n c] w (MapPost w (mapD f n)) := by
  have H := Lib.hid h
  have HI := Lib.hid hid
  have hmm := @run_makeMap Try.prog
  clear h hid
  have M0 := Lib.hid (World.ownsMap_made w Try.prog 9 asV)
  have B0 := Lib.hid ((Below.refl _ w).alloc (Nat.le_refl _) (.map #[] 0))
  go_enter Try.func37, Try.ntmps37
  go_wp2_with fail
  go_loopw [5, 9] (fun _ i wr => ∃ k : Nat, k ≤ n ∧ i = .int .i64 k ∧ Hid (wr.ownsMap Try.prog 9 asV w.heap.size k (mapD f k)) ∧ Hid (Below w.heap.size w wr)) (fun _ i _ => n - (intOf i).toNat)
  case atStart => exact ⟨0, Nat.zero_le _, rfl, M0, B0⟩
  case round =>
    obtain ⟨k, hk, rfl, HM, HB⟩ := hrel
    by_cases hlt : k < n
    · obtain ⟨a0, a1, a2, a3, a4⟩ := (H.out.below HB.out).2 k hlt
      rw [Nat.zero_add] at *
      have HS : Hid ((f k).id.size ≤ maxLen) := Lib.hid (by have := HI.out k hlt; unfold maxLen; omega)
      have HD : Hid (mapD f (k + 1) = (mapD f k).put (keyL (f k).id) (.held (.agg (contV (f k))))) := Lib.hid rfl
      generalize f k = x at *
      generalize mapD f k = D at *
      obtain ⟨id, sz, wt, cg, pt⟩ := x
      simp only [contV] at *
      have hsz := HB.out.size
      have hown := HM.out.alloc (.cells #[.string id, .int .i64 sz, .int .i64 wt, .int .i64 cg, .int .i64 pt] 49)
      go_wp2_with (at_mapUpdate; refine wpList_put rfl _ _ _ rfl w.heap.size k D rfl hown (by unfold maxLen; omega) id _ rfl HS.out rfl ?_; intro w1 hown1 hgrow1)
      have hB1 : Below w.heap.size w w1 := (HB.out.alloc hsz _).grown hgrow1 (by simp; omega) (fun j hj => by cases hj; exact Nat.le_refl _)
      refine ⟨⟨k + 1, by omega, by go_num, Lib.hid (by rw [HD.out]; exact hown1), Lib.hid hB1⟩, by simp [intOf]; omega⟩
    · obtain rfl : k = n := by omega
      go_wp2_with fail
      go_ret
      exact ⟨_, _, rfl, Nat.le_refl _, HM.out, HB.out⟩

/-- Those of the first k containers whose Ids pass. -/
def filtL (f : Nat → Cont) (q : ByteArray → Bool) : Nat → List Cont
  | 0 => []
  | k + 1 => if q (f k).id then filtL f q k ++ [f k] else filtL f q k
theorem filtL_len (f : Nat → Cont) (q : ByteArray → Bool) : ∀ k, (filtL f q k).length ≤ k
  | 0 => by simp [filtL]
  | k + 1 => by
    have := filtL_len f q k
    rw [filtL]
    split
    · simp; omega
    · omega
theorem filtL_ids (f : Nat → Cont) (q : ByteArray → Bool) (P : Cont → Prop) : ∀ k, (∀ j, j < k → P (f j)) → ∀ x ∈ filtL f q k, P x
  | 0, _, x, hx => by simp [filtL] at hx
  | k + 1, h, x, hx => by
    have ih := filtL_ids f q P k (fun j hj => h j (by omega)) x
    rw [filtL] at hx
    split at hx
    · rcases List.mem_append.1 hx with h1 | h1
      · exact ih h1
      · rw [List.mem_singleton.1 h1]; exact h k (by omega)
    · exact ih hx

/-- A slice of the call's own was answered, nil just where it is empty. -/
def FiltPost (w : World) (l : List Cont) (e : Ending) (w' : World) : Prop := ∃ v, e = .returned v ∧ CRow w' w.heap.size v l ∧ (v = .slice none 0 0 ↔ l = []) ∧ Below w.heap.size w w'

theorem look_val (D : DataW Value) (id : ByteArray) (h : ∃ x, D.atKey (keyL id) (.held zeroC) = .held (.agg (contV x))) : ∃ s a b c d, D.atKey (keyL id) (.held zeroC) = .held (.agg #[.string s, .int .i64 a, .int .i64 b, .int .i64 c, .int .i64 d]) := by
  obtain ⟨x, hx⟩ := h
  exact ⟨_, _, _, _, _, hx⟩

set_option maxRecDepth 100000 in
set_option maxHeartbeats 2000000 in
theorem without_any (g n c b nb : Nat) (f : Nat → Cont) (D : DataW Value) (hD : ∀ id : ByteArray, ∃ x, D.atKey (keyL id) (.held zeroC) = .held (.agg (contV x))) (hn : n ≤ 1048576) (hid : ∀ j, j < n → (f j).id.size ≤ 1048576) (w : World) (h : CAt w g 0 n f) (hM : w.ownsMap Try.prog 9 asV b nb D) :
    Calls Try.prog 39 #[.slice (some ⟨g, 0, none⟩) n c, .map (some b)] w (FiltPost w (filtL f (fun id => !Maps.has D (keyL id)) n)) := by
  obtain ⟨i0, hi, hz0, hz1, hz2⟩ := info_parts infoC
  have H := Lib.hid h
  have HI := Lib.hid hid
  have HM := Lib.hid hM
  have HD := Lib.hid hD
  have hblt : b < w.heap.size := hM.lt
  clear h hid hM hD
  generalize hq : (fun id => !Maps.has D (keyL id)) = q
  have HQ : Hid (∀ id, Maps.has D (keyL id) = !q id) := Lib.hid fun id => by rw [← hq]; simp
  clear hq
  go_enter Try.func39, Try.ntmps39
  go_wp2_with fail
  go_loopw [5, 7, 8, 9, 12] (fun o _ _ _ i wr => ∃ k : Nat, k ≤ n ∧ i = .int .i64 k ∧ Hid (CRow wr w.heap.size o (filtL f q k)) ∧ Hid (o = .slice none 0 0 ↔ filtL f q k = []) ∧ Hid (Below w.heap.size w wr)) (fun _ _ _ _ i _ => n - (intOf i).toNat)
  case atStart => exact ⟨0, Nat.zero_le _, rfl, Lib.hid (World.ownsRow_nil _ _ _ _), Lib.hid ⟨fun _ => rfl, fun _ => rfl⟩, Lib.hid (Below.refl _ _)⟩
  case round =>
    obtain ⟨k, hk, rfl, HR, HN, HB⟩ := hrel
    have hln := filtL_len f q k
    by_cases hlt : k < n
    · obtain ⟨a0, a1, a2, a3, a4⟩ := (H.out.below HB.out).2 k hlt
      rw [Nat.zero_add] at *
      have HS : Hid ((f k).id.size ≤ maxLen) := Lib.hid (by have := HI.out k hlt; unfold maxLen; omega)
      obtain ⟨ys, y1, y2, y3, y4, hy⟩ := look_val D (f k).id (HD.out _)
      have HY := Lib.hid hy
      have HH := Lib.hid (HQ.out (f k).id)
      have hsz := HB.out.size
      clear hy
      cases hqk : q (f k).id with
      | true =>
        have HS2 : Hid (filtL f q (k + 1) = filtL f q k ++ [f k]) := Lib.hid (by rw [filtL, if_pos hqk])
        rw [hqk] at HH
        clear hqk
        generalize filtL f q k = l at *
        generalize f k = x at *
        obtain ⟨id, sz, wt, cg, pt⟩ := x
        simp only at *
        have hm1 := (HM.out.kept (grown_of_below HB.out none) (by simp)).alloc (.cells #[.string id, .int .i64 sz, .int .i64 wt, .int .i64 cg, .int .i64 pt] 49)
        have hrow := (HR.out.alloc (.cells #[.string id, .int .i64 sz, .int .i64 wt, .int .i64 cg, .int .i64 pt] 49)).alloc (.cells #[.string ys, .int .i64 y1, .int .i64 y2, .int .i64 y3, .int .i64 y4] 49)
        have hB2 := Lib.hid ((HB.out.alloc hsz (.cells #[.string id, .int .i64 sz, .int .i64 wt, .int .i64 cg, .int .i64 pt] 49)).alloc (by simp; omega) (.cells #[.string ys, .int .i64 y1, .int .i64 y2, .int .i64 y3, .int .i64 y4] 49))
        go_wp2_with (first | (at_lookup; refine wpList_look rfl _ _ rfl b nb D rfl hm1 id rfl HS.out _ _ HY.out HH.out ?_) | (at_builtin; refine wpList_append_own _ rfl _ _ 27 rfl w.heap.size 49 i0 zeroC 5 48 Try.underlying27 hi hz0 hz1 hz2 rfl (by decide) _ _ _ rfl (hrow.alloc _) ⟨wr.heap.size + 1 + 1, 0, none⟩ 1 1 (encC ⟨id, sz, wt, cg, pt⟩) rfl rfl (by have := cell_arr_new ((wr.alloc (.cells #[.string id, .int .i64 sz, .int .i64 wt, .int .i64 cg, .int .i64 pt] 49)).alloc (.cells #[.string ys, .int .i64 y1, .int .i64 y2, .int .i64 y3, .int .i64 y4] 49)) #[.string id, .int .i64 sz, .int .i64 wt, .int .i64 cg, .int .i64 pt] 49; rw [World.size_alloc, World.size_alloc] at this; exact this) (enc_one _) (by unfold maxLen; omega) (by omega) (by simp; omega) ?_; intro v' w3 hown' hgrow hnil))
        have hB3 : Below w.heap.size w w3 := (hB2.out.alloc (by simp; omega) _).grown hgrow (by simp; omega) (row_base hrow)
        refine ⟨⟨k + 1, by omega, by go_num, Lib.hid (by rw [HS2.out]; unfold CRow; rw [flatC_snoc]; simpa using hown'), Lib.hid (by rw [HS2.out]; simp [hnil]), Lib.hid hB3⟩, by simp [intOf]; omega⟩
      | false =>
        have HS2 : Hid (filtL f q (k + 1) = filtL f q k) := Lib.hid (by rw [filtL, if_neg (by rw [hqk]; decide)])
        rw [hqk] at HH
        clear hqk
        generalize filtL f q k = l at *
        generalize f k = x at *
        obtain ⟨id, sz, wt, cg, pt⟩ := x
        simp only at *
        have hm1 := (HM.out.kept (grown_of_below HB.out none) (by simp)).alloc (.cells #[.string id, .int .i64 sz, .int .i64 wt, .int .i64 cg, .int .i64 pt] 49)
        have hrow := Lib.hid ((HR.out.alloc (.cells #[.string id, .int .i64 sz, .int .i64 wt, .int .i64 cg, .int .i64 pt] 49)).alloc (.cells #[.string ys, .int .i64 y1, .int .i64 y2, .int .i64 y3, .int .i64 y4] 49))
        have hB2 := Lib.hid ((HB.out.alloc hsz (.cells #[.string id, .int .i64 sz, .int .i64 wt, .int .i64 cg, .int .i64 pt] 49)).alloc (by simp; omega) (.cells #[.string ys, .int .i64 y1, .int .i64 y2, .int .i64 y3, .int .i64 y4] 49))
        go_wp2_with (at_lookup; refine wpList_look rfl _ _ rfl b nb D rfl hm1 id rfl HS.out _ _ HY.out HH.out ?_)
        refine ⟨⟨k + 1, by omega, by go_num, by rw [HS2.out]; exact hrow, by rw [HS2.out]; exact HN, hB2⟩, by simp [intOf]; omega⟩
    · obtain rfl : k = n := by omega
      go_wp2_with fail
      go_ret
      exact ⟨_, rfl, HR.out, HN.out, HB.out⟩
end Go.Proofs.Ytpmaaflpknjbmaa.C
