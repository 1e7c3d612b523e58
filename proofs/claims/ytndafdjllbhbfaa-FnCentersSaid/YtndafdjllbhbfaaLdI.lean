/-
  What the two MirrorLoads return. No statement of the seat by itself.
-/
import Derived.Test.YtndafdjllbhbfaaLdG
namespace Go.Proofs.Ytndafdjllbhbfaa
open Go.RowKit

/-- The mirror of a list of loads. -/
def mirr (S : List (Int × Int × Int)) : List (Int × Int × Int) := S.map fun c => (c.1, -c.2.1, c.2.2)
theorem mirr_len (S : List (Int × Int × Int)) : (mirr S).length = S.length := by simp [mirr]
theorem mirr_take {S : List (Int × Int × Int)} {k : Nat} {x y z : Int} (h : S[k]? = some (x, y, z)) : mirr (S.take (k + 1)) = mirr (S.take k) ++ [(x, -y, z)] := by
  unfold mirr
  rw [List.take_add_one, h]
  simp
def miV (S : List (Int × Int × Int)) : List (Int × Int × Int) := if goodLd S = true then mirr S else []
theorem miV_len (S : List (Int × Int × Int)) : (miV S).length ≤ 20 := by
  unfold miV
  split
  · rename_i h; rw [mirr_len]; exact goodLd_len h
  · simp
/-- A list of loads of the call's own and whether it worked. -/
def RetLd (w : World) (R : List (Int × Int × Int)) (ok : Bool) (e : Ending) (w' : World) : Prop := ∃ a c, e = .returned (.tuple #[.slice a R.length c, .bool ok]) ∧ LdO w' w.heap.size w'.heap.size (.slice a R.length c) R ∧ Below w.heap.size w w'
/-- While such a list grows. -/
def GrLd (w wr : World) (v : Value) (T : List (Int × Int × Int)) : Prop := wr.ownsRow w.heap.size 50 3 v T.length (flatLd T) ∧ Below w.heap.size w wr ∧ v ≠ .slice none 0 0
theorem GrLd.below {w wr w' : World} {v : Value} {T : List (Int × Int × Int)} (h : GrLd w wr v T) (hb : Below wr.heap.size wr w') : GrLd w w' v T := ⟨row_below h.1 hb, h.2.1.trans (hb.mono h.2.1.size), h.2.2⟩
theorem grLd_start (w : World) : GrLd w (w.alloc (.cells #[] 50)) (.slice (some ⟨w.heap.size, 0, none⟩) 0 0) [] :=
  ⟨⟨rfl, .inr ⟨w.heap.size, 0, #[], rfl, Nat.le_refl _, heap_alloc_new w _, Nat.le_refl _, Nat.zero_le _, rfl, rfl⟩⟩, below_one w _, by simp⟩
theorem GrLd.push {w wr w4 : World} {v v' : Value} {T : List (Int × Int × Int)} {x y z : Int} {o : Obj} (h : GrLd w wr v T) (ho : w4.ownsRow w.heap.size 50 3 v' (T.length + 1) (flatLd T ++ [.int .i64 x, .int .i64 y, .int .i64 z])) (hg : (wr.alloc o).grownBy w4 v.ownBlock) (hn : v' ≠ .slice none 0 0) : GrLd w w4 v' (T ++ [(x, y, z)]) :=
  ⟨by rw [List.length_append, List.length_singleton, flatLd_app]; exact ho, ((h.2.1.alloc h.2.1.size _)).grown hg (by have := h.2.1.size; simp; omega) (fun j e => row_base h.1 j e), hn⟩
theorem GrLd.done {w wr : World} {v : Value} {T : List (Int × Int × Int)} (h : GrLd w wr v T) (ok : Bool) : RetLd w T ok (.returned (.tuple #[v, .bool ok])) wr := by
  obtain ⟨h1, h2, h3⟩ := h
  obtain ⟨a, c, rfl⟩ := own_form h1
  exact ⟨a, c, rfl, LdO.of_own h1 (Nat.le_refl _), h2⟩
theorem three_newLd (w : World) (x y z : Value) (T : TypeId) : ∀ (j : Nat) (u : Value), [x, y, z][j]? = some u → (w.alloc (.cells #[x, y, z] T)).cell? (Addr.add ⟨w.heap.size, 0, none⟩ j) = some u := by
  intro j u hj
  have hn := heap_alloc_new w (.cells #[x, y, z] T)
  match j, hj with
  | 0, hj => cases hj; exact cell_of hn rfl
  | 1, hj => cases hj; exact cell_of hn rfl
  | 2, hj => cases hj; exact cell_of hn rfl
  | j + 3, hj => simp at hj

/-- append of a load onto a row of the call's own, inside a region that draws its order. -/
theorem step_ld {ops : Array Oper} {o : Oper} {a : Act} {w : World} {K : Act → World → Prop} {Q : Exit → Act → World → Prop} {E : Prop} (hgd : o.guard = none) (s x : Operand)
    (ho : o.op = .call { callee := .builtin .append, args := #[s, x], argTypes := #[24, 24] }) (base : Nat) (v : Value) (n : Nat) (xs : List Value) (hs : a.eval s = v) (hown : w.ownsRow base 50 3 v n xs)
    (ad : Addr) (c : Nat) (p q r : Int) (hx : a.eval x = .slice (some ad) 1 c) (hnews : ∀ j u, ([.int .i64 p, .int .i64 q, .int .i64 r] : List Value)[j]? = some u → w.cell? (ad.add j) = some u)
    (hb : n ≤ 1048576) (hbase : base ≤ w.heap.size)
    (h : ∀ v' w', w'.ownsRow base 50 3 v' (n + 1) (xs ++ [.int .i64 p, .int .i64 q, .int .i64 r]) → w.grownBy w' v.ownBlock → v' ≠ .slice none 0 0 → K (a.put o.dst v') w') :
    if Region.wanted o (yielded ops a.tmps) = true then Oper.wp Try.prog o a w K Q else E := by
  have hw : Region.wanted o (yielded ops a.tmps) = true := by simp [Region.wanted, hgd]
  obtain ⟨i0, hi, hz0, hz1, hz2⟩ := info_is infoLd
  rw [if_pos hw]
  exact wp_append_own w s x 24 ho base 50 i0 (.agg #[.int .i64 0, .int .i64 0, .int .i64 0]) 3 24 Try.underlying24 hi hz0 hz1 hz2 rfl (by decide) v n xs hs hown ad 1 c [.int .i64 p, .int .i64 q, .int .i64 r] hx (by simp) hnews (by simp [Value.oneCell']) (by unfold maxLen; omega) (by omega) hbase fun v' w' h1 h2 h3 => h v' w' h1 h2 fun e => by have := (h3.1 e).2; omega

set_option maxRecDepth 100000 in
set_option maxHeartbeats 8000000 in
theorem implMi_any (v : Value) (S : List (Int × Int × Int)) (hn : S.length ≤ 1048576) (w : World) (hv : LdL w v S) :
    Calls Try.prog 19 #[v] w (RetLd w (miV S) (goodLd S)) := by
  obtain ⟨fI, hI1, hI2, hI3, hI4⟩ := info_is infoLd
  have R0 := Lib.hid (grLd_start w)
  have HG := Lib.hid (implValidLd_any v S hn _ (hv.below R0.out.2.1))
  obtain ⟨a, c, rfl, hc⟩ := hv
  have HC := Lib.hid hc
  clear hc
  cases hg : goodLd S with
  | false =>
    rw [hg] at HG
    rw [show miV S = [] by simp [miV, hg]]
    clear hg
    go_enter Try.func19, Try.ntmps19
    go_wp2_with fail
    refine HG.out.mono ?_
    rintro e w1 ⟨rfl, hb⟩
    have R1 := Lib.hid (R0.out.below hb)
    clear hb
    go_wp2_with fail
    go_ret2
    exact R1.out.done false
  | true =>
    have HGD := Lib.hid hg
    rw [hg] at HG
    rw [show miV S = mirr S by simp [miV, hg]]
    obtain ⟨n, hl⟩ : ∃ n, S.length = n := ⟨_, rfl⟩
    have HN := Lib.hid hl
    have h20 : n ≤ 20 := by rw [← hl]; exact goodLd_len hg
    rw [hl] at HG ⊢
    clear hg hl hn
    go_enter Try.func19, Try.ntmps19
    go_wp2_with fail
    refine HG.out.mono ?_
    rintro e w1 ⟨rfl, hb⟩
    have R1 := Lib.hid (R0.out.below hb)
    clear hb
    go_wp2_with fail
    go_loopw [4, 14] (fun s i wr => ∃ k : Nat, k ≤ n ∧ i = .int .i64 k ∧ Hid (GrLd w wr s (mirr (S.take k)))) (fun _ i _ => n - (intOf i).toNat)
    case atStart => exact ⟨0, Nat.zero_le _, rfl, by rw [List.take_zero]; exact R1⟩
    case round =>
      obtain ⟨k, hk, rfl, HR⟩ := hrel
      by_cases hlt : k < n
      · obtain ⟨g, off, rfl, hgg, hcc⟩ := HC.out (by have := HN.out; omega)
        obtain ⟨s, hs⟩ := get_at HN.out hlt
        obtain ⟨x, y, z⟩ := s
        have o0 : wr.cell? ⟨g, off + k * 3, none⟩ = some (.int .i64 x) := (HR.out.2.1.cell (p := ⟨g, off + k * 3, none⟩) hgg).trans (hcc k _ hs).1
        have o1 : wr.cell? ⟨g, off + k * 3 + 1, none⟩ = some (.int .i64 y) := (HR.out.2.1.cell (p := ⟨g, off + k * 3 + 1, none⟩) hgg).trans (hcc k _ hs).2.1
        have o2 : wr.cell? ⟨g, off + k * 3 + 2, none⟩ = some (.int .i64 z) := (HR.out.2.1.cell (p := ⟨g, off + k * 3 + 2, none⟩) hgg).trans (hcc k _ hs).2.2
        obtain ⟨-, ⟨y1, y2⟩, -⟩ := goodLd_get HGD.out hs
        simp only at y1 y2
        have HT := Lib.hid (mirr_take hs)
        have RB := HR.out.below (below_one wr (.cells #[.int .i64 x, .int .i64 (-y), .int .i64 z] 50))
        have HRB := Lib.hid RB
        have hrow := RB.1
        have hz := RB.2.1.size
        have hlen : (mirr (S.take k)).length ≤ 20 := by rw [mirr_len]; simp; omega
        clear hcc hs RB
        generalize mirr (S.take k) = T at *
        generalize hW : wr.alloc (.cells #[.int .i64 x, .int .i64 (-y), .int .i64 z] 50) = w2 at *
        have c0 : w2.cell? ⟨wr.heap.size, 0, none⟩ = some (.int .i64 x) := by rw [← hW]; simp
        have c1 : w2.cell? ⟨wr.heap.size, 1, none⟩ = some (.int .i64 (-y)) := by rw [← hW]; simp
        have c2 : w2.cell? ⟨wr.heap.size, 2, none⟩ = some (.int .i64 z) := by rw [← hW]; simp
        go_wp2_with (at_builtin; refine wpList_append_own _ rfl _ _ 24 rfl w.heap.size 50 fI (.agg #[.int .i64 0, .int .i64 0, .int .i64 0]) 3 24 Try.underlying24 hI1 hI2 hI3 hI4 rfl (by decide) _ _ _ rfl (hrow.alloc _) ⟨w2.heap.size, 0, none⟩ 1 1 [.int .i64 x, .int .i64 (-y), .int .i64 z] rfl rfl (three_newLd _ _ _ _ _) (by simp [Value.oneCell']) (by unfold maxLen; omega) (by omega) (by simp; omega) ?_; intro v' w4 hown' hgrow hnil)
        have HN4 : Hid (GrLd w w4 v' (mirr (S.take (k + 1)))) := Lib.hid (by rw [HT.out]; exact HRB.out.push hown' hgrow (fun e => by have := (hnil.1 e).2; omega))
        clear hown' hgrow hnil hrow
        exact ⟨⟨k + 1, by omega, by go_num, HN4⟩, by simp [intOf]; omega⟩
      · obtain rfl : k = n := by omega
        have HE := Lib.hid (List.take_of_length_le (l := S) (i := k) (by have := HN.out; omega))
        have HR2 := Lib.hid (by have := HR.out; rwa [HE.out] at this)
        go_wp2_with fail
        go_ret2
        exact HR2.out.done true

set_option maxRecDepth 100000 in
set_option maxHeartbeats 8000000 in
theorem specMi_any (v : Value) (S : List (Int × Int × Int)) (hn : S.length ≤ 1048576) (w : World) (hv : LdL w v S) :
    Calls Try.prog 50 #[v] w (RetLd w (miV S) (goodLd S)) := by
  obtain ⟨fI, hI1, hI2, hI3, hI4⟩ := info_is infoLd
  have R0 := Lib.hid (grLd_start w)
  have HG := Lib.hid (l11Good_any v S hn _ (hv.below R0.out.2.1))
  obtain ⟨a, c, rfl, hc⟩ := hv
  have HC := Lib.hid hc
  clear hc
  cases hg : goodLd S with
  | false =>
    rw [hg] at HG
    rw [show miV S = [] by simp [miV, hg]]
    clear hg
    go_enter Try.func50, Try.ntmps50
    go_wp2_with fail
    refine HG.out.mono ?_
    rintro e w1 ⟨rfl, hb⟩
    have R1 := Lib.hid (R0.out.below hb)
    clear hb
    go_wp2_with fail
    go_ret2
    exact R1.out.done false
  | true =>
    have HGD := Lib.hid hg
    rw [hg] at HG
    rw [show miV S = mirr S by simp [miV, hg]]
    obtain ⟨n, hl⟩ : ∃ n, S.length = n := ⟨_, rfl⟩
    have HN := Lib.hid hl
    have h20 : n ≤ 20 := by rw [← hl]; exact goodLd_len hg
    rw [hl] at HG ⊢
    clear hg hl hn
    go_enter Try.func50, Try.ntmps50
    go_wp2_with fail
    refine HG.out.mono ?_
    rintro e w1 ⟨rfl, hb⟩
    have R1 := Lib.hid (R0.out.below hb)
    clear hb
    go_wp2_with fail
    go_loopw [4, 5] (fun s i wr => ∃ k : Nat, k ≤ n ∧ i = .int .i64 k ∧ Hid (GrLd w wr s (mirr (S.take k)))) (fun _ i _ => n - (intOf i).toNat)
    case atStart => exact ⟨0, Nat.zero_le _, rfl, by rw [List.take_zero]; exact R1⟩
    case round =>
      obtain ⟨k, hk, rfl, HR⟩ := hrel
      by_cases hlt : k < n
      · obtain ⟨g, off, rfl, hgg, hcc⟩ := HC.out (by have := HN.out; omega)
        obtain ⟨s, hs⟩ := get_at HN.out hlt
        obtain ⟨x, y, z⟩ := s
        have o0 : wr.cell? ⟨g, off + k * 3, none⟩ = some (.int .i64 x) := (HR.out.2.1.cell (p := ⟨g, off + k * 3, none⟩) hgg).trans (hcc k _ hs).1
        have o1 : wr.cell? ⟨g, off + k * 3 + 1, none⟩ = some (.int .i64 y) := (HR.out.2.1.cell (p := ⟨g, off + k * 3 + 1, none⟩) hgg).trans (hcc k _ hs).2.1
        have o2 : wr.cell? ⟨g, off + k * 3 + 2, none⟩ = some (.int .i64 z) := (HR.out.2.1.cell (p := ⟨g, off + k * 3 + 2, none⟩) hgg).trans (hcc k _ hs).2.2
        obtain ⟨-, ⟨y1, y2⟩, -⟩ := goodLd_get HGD.out hs
        simp only at y1 y2
        have HT := Lib.hid (mirr_take hs)
        have hlen : (mirr (S.take k)).length ≤ 20 := by rw [mirr_len]; simp; omega
        have hki : (k : Int) < (n : Int) := by omega
        have fy : IntKind.i64.wrap (-y) = -y := by rw [IntKind.wrap_i64]; omega
        clear hcc hs
        generalize mirr (S.take k) = T at *
        have HO := Lib.hid (fun o => row_below HR.out.1 (((Below.refl _ wr).drew).alloc (Nat.le_refl _) o))
        have HZA := Lib.hid (fun o => Nat.le_trans HR.out.2.1.size (below_one wr.drew o).size)
        have HP := Lib.hid (fun (w5 : World) (v' : Value) (o : Obj) (ho : w5.ownsRow w.heap.size 50 3 v' (T.length + 1) (flatLd T ++ [.int .i64 x, .int .i64 (-y), .int .i64 z])) (hg : (wr.drew.alloc o).grownBy w5 u4.ownBlock) (hq : v' ≠ .slice none 0 0) => GrLd.push (o := o) (HR.out.below (Below.refl _ wr).drew) ho hg hq)
        rw [← HT.out] at HP
        go_wp2_with fail
        go_region_law (first | (refine step_ld (by rfl) _ _ (by rfl) w.heap.size _ T.length (flatLd T) (by rfl) (HO.out _) _ _ x (-y) z (by rfl) (three_newLd _ _ _ _ _) (by omega) (HZA.out _) ?_; intro v5 w5 ho5 hg5 hq5; have HN4 := Lib.hid (HP.out w5 v5 _ ho5 hg5 hq5); clear ho5 hg5 hq5))
        all_goals
          go_wp2_with fail
          exact ⟨⟨k + 1, by omega, by go_num, HN4⟩, by simp [intOf]; omega⟩
      · obtain rfl : k = n := by omega
        have HE := Lib.hid (List.take_of_length_le (l := S) (i := k) (by have := HN.out; omega))
        have HR2 := Lib.hid (by have := HR.out; rwa [HE.out] at this)
        go_wp2_with fail
        go_ret2
        exact HR2.out.done true
end Go.Proofs.Ytndafdjllbhbfaa
