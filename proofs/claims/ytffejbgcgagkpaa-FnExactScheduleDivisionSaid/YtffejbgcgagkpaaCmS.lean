/-
  Schedules: plain mathematics, and lists of moves that grow. No statement of the seat by itself.
-/
import Derived.Test.YtffejbgcgagkpaaCmM
import Derived.Test.YtffejbgcgagkpaaCrI
namespace Go.Proofs.Ytffejbgcgagkpaa
open Go.RowKit

/-- The moves of a crane at its first m bays. -/
def mvP (l : List Int) (c lo : Nat) : Nat → List Mv
  | 0 => []
  | m + 1 => mvP l c lo m ++ (if 0 < l.getD (lo + m) 0 then [((c : Int), ((lo + m : Nat) : Int), (l.take (lo + m)).sum - (l.take lo).sum, (l.take (lo + m)).sum - (l.take lo).sum + l.getD (lo + m) 0)] else [])
theorem mvP_len (l : List Int) (c lo : Nat) : ∀ m, (mvP l c lo m).length ≤ m
  | 0 => Nat.le_refl _
  | m + 1 => by
    have := mvP_len l c lo m
    rw [mvP, List.length_append]
    split <;> simp <;> omega
/-- The moves of the first k cranes. -/
def mvA (l d : List Int) : Nat → List Mv
  | 0 => []
  | k + 1 => mvA l d k ++ mvP l k (bdN l.length d k) (bdN l.length d (k + 1) - bdN l.length d k)
theorem mvA_len {l d : List Int} (h : ascB (bdsC l.length d) = true) : ∀ k, k ≤ d.length + 1 → (mvA l d k).length ≤ bdN l.length d k
  | 0, _ => by rw [bdN_zero]; exact Nat.le_refl _
  | k + 1, hk => by
    have h1 := mvA_len h k (by omega)
    have h2 := bdN_le h (show k < d.length + 1 by omega)
    have h3 := mvP_len l k (bdN l.length d k) (bdN l.length d (k + 1) - bdN l.length d k)
    rw [mvA, List.length_append]
    omega
theorem mvA_le {l d : List Int} (h : ascB (bdsC l.length d) = true) (k : Nat) (hk : k ≤ d.length + 1) : (mvA l d k).length ≤ l.length := by
  have h1 := mvA_len h k hk
  by_cases e : k = 0
  · subst e; simp [mvA]
  · have := bdN_le h (show k - 1 < d.length + 1 by omega)
    rw [show k - 1 + 1 = k by omega] at this
    omega
def schR (l : List Int) (c : Int) (d : List Int) : List Mv := if dvK l c d = true then mvA l d (d.length + 1) else []
theorem schR_no {l : List Int} {c : Int} {d : List Int} (h : dvK l c d = false) : schR l c d = [] := by simp [schR, h]
theorem schR_yes {l : List Int} {c : Int} {d : List Int} (h : dvK l c d = true) : schR l c d = mvA l d (d.length + 1) := by simp [schR, h]
theorem schR_len (l : List Int) (c : Int) (d : List Int) : (schR l c d).length ≤ 10 := by
  cases h : dvK l c d with
  | false => rw [schR_no h]; simp
  | true =>
    rw [schR_yes h]
    obtain ⟨⟨hw, -⟩, -, ha⟩ := dvK_iff.1 h
    have := mvA_le ha (d.length + 1) (Nat.le_refl _)
    have := (wkB_iff.1 hw).1
    omega
/-- A list of moves of the call's own and whether it worked. -/
def RetCm (w : World) (R : List Mv) (ok : Bool) (e : Ending) (w' : World) : Prop := ∃ a c, e = .returned (.tuple #[.slice a R.length c, .bool ok]) ∧ CmO w' w.heap.size w'.heap.size (.slice a R.length c) R ∧ Below w.heap.size w w'
/-- While such a list grows. -/
def GrCm (w wr : World) (v : Value) (T : List Mv) : Prop := wr.ownsRow w.heap.size 42 4 v T.length (flatCm T) ∧ Below w.heap.size w wr
theorem GrCm.below {w wr w' : World} {v : Value} {T : List Mv} (h : GrCm w wr v T) (hb : Below wr.heap.size wr w') : GrCm w w' v T := ⟨row_below h.1 hb, h.2.trans (hb.mono h.2.size)⟩
theorem grCm_start (w : World) : GrCm w (w.alloc (.cells #[] 42)) (.slice (some ⟨w.heap.size, 0, none⟩) 0 0) [] :=
  ⟨⟨rfl, .inr ⟨w.heap.size, 0, #[], rfl, Nat.le_refl _, heap_alloc_new w _, Nat.le_refl _, Nat.zero_le _, rfl, rfl⟩⟩, below_one w _⟩
theorem GrCm.push {w wr w4 : World} {v v' : Value} {T : List Mv} {x y z t : Int} {o : Obj} (h : GrCm w wr v T) (ho : w4.ownsRow w.heap.size 42 4 v' (T.length + 1) (flatCm T ++ [.int .i64 x, .int .i64 y, .int .i64 z, .int .i64 t])) (hg : (wr.alloc o).grownBy w4 v.ownBlock) : GrCm w w4 v' (T ++ [(x, y, z, t)]) :=
  ⟨by rw [List.length_append, List.length_singleton, flatCm_app]; exact ho, ((h.2.alloc h.2.size _)).grown hg (by have := h.2.size; simp; omega) (fun j e => row_base h.1 j e)⟩
theorem GrCm.done {w wr : World} {v : Value} {T : List Mv} (h : GrCm w wr v T) (ok : Bool) : RetCm w T ok (.returned (.tuple #[v, .bool ok])) wr := by
  obtain ⟨h1, h2⟩ := h
  obtain ⟨a, c, rfl⟩ := own_form h1
  exact ⟨a, c, rfl, CmO.of_own h1 (Nat.le_refl _), h2⟩
theorem four_newCm (w : World) (x y z t : Value) (T : TypeId) : ∀ (j : Nat) (u : Value), [x, y, z, t][j]? = some u → (w.alloc (.cells #[x, y, z, t] T)).cell? (Addr.add ⟨w.heap.size, 0, none⟩ j) = some u := by
  intro j u hj
  have hn := heap_alloc_new w (.cells #[x, y, z, t] T)
  match j, hj with
  | 0, hj => cases hj; exact cell_of hn rfl
  | 1, hj => cases hj; exact cell_of hn rfl
  | 2, hj => cases hj; exact cell_of hn rfl
  | 3, hj => cases hj; exact cell_of hn rfl
  | j + 4, hj => simp at hj
/-- The headers of ints stand where moves grow. -/
theorem ShS.moves {w0 w wr w4 : World} {sv v : Value} {l d : List Int} {k B m : Nat} {ys : List Value} {o : Obj} (h : ShS w0 w wr sv l d k) (hv : wr.ownsRow B 42 4 v m ys) (hB : w.heap.size ≤ B) (hg : (wr.alloc o).grownBy w4 v.ownBlock) : ShS w0 w w4 sv l d k := by
  obtain ⟨⟨xs, h1, h2⟩, h3⟩ := h
  exact ⟨⟨xs, rows_apart (by decide) (h1.alloc o) (hv.alloc o) hg, h2⟩, (h3.alloc h3.size _).grown hg (by have := h3.size; simp; omega) (fun j e => Nat.le_trans hB (row_base hv j e))⟩

set_option maxRecDepth 100000 in
set_option maxHeartbeats 8000000 in
theorem specSch_any (v vd : Value) (l d : List Int) (c : Int) (hn : l.length ≤ 1048576) (hd : d.length ≤ 1048576) (w : World) (h : IL w v l) (h2 : IL w vd d) :
    Calls Try.prog 26 #[v, .int .i64 c, vd] w (RetCm w (schR l c d) (dvK l c d)) := by
  have R0 := Lib.hid (grCm_start w)
  have HA := Lib.hid (l13Asked_any v l c hn _ (h.below R0.out.2))
  have HV := Lib.hid h
  have HV2 := Lib.hid h2
  cases ha : askC l c with
  | false =>
    have hk : dvK l c d = false := by simp [dvK, ha]
    rw [hk, schR_no hk]
    rw [ha] at HA
    clear h h2 ha hk
    go_enter Try.func26, Try.ntmps26
    go_wp2_with fail
    refine HA.out.mono ?_
    rintro e w1 ⟨rfl, hb⟩
    have R1 := Lib.hid (R0.out.below hb)
    clear hb
    go_wp2_with fail
    go_ret2
    exact R1.out.done false
  | true =>
    rw [ha] at HA
    obtain ⟨hw, hc⟩ := askC_iff.1 ha
    have HD := Lib.hid (fun W hW hW2 => l13Division_any v vd l d c hn hd hc W hW hW2)
    cases hv : dvB l.length c d with
    | false =>
      have hk : dvK l c d = false := by simp [dvK, hv]
      rw [hk, schR_no hk]
      rw [hv] at HD
      clear h h2 ha hk hw hc hv
      go_enter Try.func26, Try.ntmps26
      go_wp2_with fail
      refine HA.out.mono ?_
      rintro e w1 ⟨rfl, hb⟩
      have R1 := Lib.hid (R0.out.below hb)
      clear hb
      go_wp2_with fail
      refine (HD.out _ (HV.out.below R1.out.2) (HV2.out.below R1.out.2)).mono ?_
      rintro e w2 ⟨rfl, hb⟩
      have R2 := Lib.hid (R1.out.below hb)
      clear hb
      go_wp2_with fail
      go_ret2
      exact R2.out.done false
    | true =>
      have hk : dvK l c d = true := by simp [dvK, hv, ha]
      obtain ⟨hv1, hv2⟩ := dvB_iff.1 hv
      rw [hk, schR_yes hk]
      rw [hv] at HD
      obtain ⟨fI, hI1, hI2, hI3, hI4⟩ := info_is infoCm
      have hl10 := (wkB_iff.1 hw).1
      have HR := Lib.hid (fun (i : Nat) (hi : i ≤ d.length) (W : World) (hW : Below w.heap.size w W) => l13Range_any v vd l d i (by omega) (by omega) hi W (h.below hW) (h2.below hW))
      have HB1 := Lib.hid (fun (i : Nat) (hi : i ≤ d.length) => show (bdsC l.length d).getD i 0 = ((bdN l.length d i : Nat) : Int) from (bdN_int hv2 (by omega)).symm)
      have HB2 := Lib.hid (fun (i : Nat) (hi : i ≤ d.length) => show (bdsC l.length d).getD (i + 1) 0 = ((bdN l.length d (i + 1) : Nat) : Int) from (bdN_int hv2 (by omega)).symm)
      have HLe := Lib.hid (fun (i : Nat) (hi : i ≤ d.length) => bdN_le hv2 (show i < d.length + 1 by omega))
      have HLA := Lib.hid (fun (k : Nat) (hk : k ≤ d.length + 1) => mvA_le hv2 k hk)
      have HT := Lib.hid (fun k => wkB_sum hw k)
      have HW := Lib.hid (fun (k : Nat) (x : Int) (hx : l[k]? = some x) => wkB_get hw hx)
      have HMA := Lib.hid (fun (k : Nat) => show mvA l d (k + 1) = mvA l d k ++ mvP l k (bdN l.length d k) (bdN l.length d (k + 1) - bdN l.length d k) from rfl)
      obtain ⟨a, cap, rfl, hcl⟩ := h
      have HC := Lib.hid hcl
      obtain ⟨ad, capd, rfl⟩ := h2.form
      obtain ⟨n, hn2⟩ : ∃ n, l.length = n := ⟨_, rfl⟩
      have HN := Lib.hid hn2
      obtain ⟨m, hm⟩ : ∃ m, d.length = m := ⟨_, rfl⟩
      rw [hn2] at hl10 HR HB1 HB2 HLe HLA HMA HC HA HD HV hn ⊢
      rw [hm] at HR HB1 HB2 HLe HLA HD HV2 hv1 ⊢
      obtain rfl : c = (m : Int) + 1 := by omega
      clear h2 ha hk hw hv hv1 hv2 hcl hn2 hm hd
      go_enter Try.func26, Try.ntmps26
      go_wp2_with fail
      refine HA.out.mono ?_
      rintro e w1 ⟨rfl, hb⟩
      have R1 := Lib.hid (R0.out.below hb)
      clear hb
      go_wp2_with fail
      refine (HD.out _ (HV.out.below R1.out.2) (HV2.out.below R1.out.2)).mono ?_
      rintro e w2 ⟨rfl, hb⟩
      have R2 := Lib.hid (R1.out.below hb)
      clear hb
      go_wp2_with fail
      go_loopw [8, 9] (fun s i wr => ∃ k : Nat, k ≤ m + 1 ∧ i = .int .i64 k ∧ Hid (GrCm w wr s (mvA l d k))) (fun _ i _ => m + 1 - (intOf i).toNat)
      case atStart => exact ⟨0, Nat.zero_le _, rfl, R2⟩
      case round =>
        obtain ⟨k, hk, rfl, HG⟩ := hrel
        by_cases hlt : k ≤ m
        · have HE := Lib.hid (HR.out k hlt wr HG.out.2)
          rw [HB1.out k hlt, HB2.out k hlt] at HE
          obtain ⟨b1, b2⟩ := HLe.out k hlt
          have hlA := HLA.out k (by omega)
          have HMk := Lib.hid (HMA.out k)
          generalize bdN n d k = lo at *
          generalize bdN n d (k + 1) = hi at *
          have HG0 : Hid (GrCm w wr u8 (mvA l d k ++ mvP l k lo 0)) := Lib.hid (by rw [mvP, List.append_nil]; exact HG.out)
          go_wp2_with fail
          refine HE.out.mono ?_
          rintro e w3 ⟨rfl, rfl⟩
          go_wp2_with fail
          go_loopw [8, 12, 13] (fun s t i wr => ∃ (q : Nat) (z : Int), lo + q ≤ hi ∧ i = .int .i64 ((lo + q : Nat) : Int) ∧ t = .int .i64 z ∧ Hid (z = (l.take (lo + q)).sum - (l.take lo).sum) ∧ Hid (GrCm w wr s (mvA l d k ++ mvP l k lo q))) (fun _ _ i _ => hi - (intOf i).toNat)
          case atStart => exact ⟨0, 0, by omega, rfl, rfl, Lib.hid (by simp), HG0⟩
          case round =>
            obtain ⟨q, z, hq, rfl, rfl, HZ, HGi⟩ := hrel
            by_cases hjl : lo + q < hi
            · obtain ⟨g, off, rfl, hg, hcc⟩ := HC.out (by omega)
              obtain ⟨x, hx⟩ := get_at HN.out (show lo + q < n by omega)
              have o1 := (HGi.out.2.cell (p := ⟨g, off + (lo + q), none⟩) hg).trans (hcc _ x hx)
              have HO := Lib.hid (fun (W : World) (hW : Below w.heap.size w W) => (hW.cell (p := ⟨g, off + (lo + q), none⟩) hg).trans (hcc _ x hx))
              have hx3 := HW.out _ x hx
              have q1 := HT.out (lo + q)
              have q2 := HT.out lo
              have q3 := HZ.out
              have HZ2 : Hid (z + x = (l.take (lo + (q + 1))).sum - (l.take lo).sum) := Lib.hid (by rw [show lo + (q + 1) = lo + q + 1 by omega, sumC_take hx]; omega)
              have hz3 : -3000 ≤ z ∧ z ≤ 3000 := by omega
              have hgd : l.getD (lo + q) 0 = x := by simp [List.getD, hx]
              have hlT := mvP_len l k lo q
              have hlT2 : (mvA l d k ++ mvP l k lo q).length ≤ 20 := by rw [List.length_append]; omega
              have hin : (((lo + q : Nat) : Int)) < (n : Int) := by omega
              by_cases hpos : 0 < x
              · have HS : Hid (mvA l d k ++ mvP l k lo (q + 1) = (mvA l d k ++ mvP l k lo q) ++ [((k : Int), ((lo + q : Nat) : Int), z, z + x)]) := Lib.hid (by rw [mvP, hgd, if_pos hpos, ← HZ.out, List.append_assoc])
                have hrow := HGi.out.1
                have hz := HGi.out.2.size
                have HGi2 := HGi
                clear hcc hx q1 q2 q3 hgd hlT
                generalize mvA l d k ++ mvP l k lo q = T at *
                generalize hiq : lo + q = iq at *
                go_wp2_with (at_builtin; refine wpList_append_own _ rfl _ _ 34 rfl w.heap.size 42 fI (.agg #[.int .i64 0, .int .i64 0, .int .i64 0, .int .i64 0]) 4 32 Try.underlying34 hI1 hI2 hI3 hI4 rfl (by decide) _ _ _ rfl (hrow.alloc _) ⟨wr.heap.size, 0, none⟩ 1 1 [.int .i64 (k : Int), .int .i64 (iq : Int), .int .i64 z, .int .i64 (z + x)] rfl rfl (four_newCm _ _ _ _ _ _) (by simp [Value.oneCell']) (by unfold maxLen; omega) (by omega) (by simp; omega) ?_; intro v' w4 hown' hgrow hnil; have HN4 : Hid (GrCm w w4 v' (mvA l d k ++ mvP l k lo (q + 1))) := Lib.hid (by rw [HS.out]; exact HGi2.out.push hown' hgrow); have o2 := HO.out _ HN4.out.2; clear hown' hgrow hnil)
                exact ⟨⟨q + 1, z + x, by omega, by rw [← hiq]; go_num, by go_num, HZ2, HN4⟩, by simp [intOf]; omega⟩
              · have hx0 : x = 0 := by omega
                subst hx0
                have HS : Hid (GrCm w wr u8 (mvA l d k ++ mvP l k lo (q + 1))) := Lib.hid (by rw [mvP, hgd, if_neg hpos, List.append_nil]; exact HGi.out)
                clear hcc hx q1 q2 q3 hgd hlT
                generalize hiq : lo + q = iq at *
                go_wp2_with fail
                exact ⟨⟨q + 1, z + 0, by omega, by rw [← hiq]; go_num, by go_num, HZ2, HS⟩, by simp [intOf]; omega⟩
            · have e : q = hi - lo := by omega
              subst e
              have HG2 : Hid (GrCm w wr u8 (mvA l d (k + 1))) := Lib.hid (by rw [HMk.out]; exact HGi.out)
              have hnl : ¬ ((lo + (hi - lo) : Nat) : Int) < (hi : Int) := by omega
              go_wp2_with fail
              exact ⟨⟨k + 1, by omega, by go_num, HG2⟩, by simp [intOf]; omega⟩
        · obtain rfl : k = m + 1 := by omega
          have HX := Lib.hid (HG.out.done true)
          go_wp2_with fail
          go_ret2
          exact HX.out
end Go.Proofs.Ytffejbgcgagkpaa
