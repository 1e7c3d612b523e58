/-
  impl.canJoin: whether a list of texts can be joined. No statement of the seat by itself.
-/
import Derived.Test.YthpiahellpnccaaDoorSRow
import Derived.Test.YthpiahellpnccaaDoorJoinM
import Derived.WalkMore
namespace Go.Proofs.YthpiahellpnccaaDoor
open Go.RowKit Go.Shelf
attribute [local go_sem] Oper.semAt_some

/-- The mark of a range over a function that has ended. -/
def markD (D : Nat) : Deferred := { target := .collected D, args := #[] }

/-- The marks of the rounds: blocks of the call's own, each empty, no two the same. -/
def Marks (B : Nat) (W : World) (Ds : List Nat) : Prop := Ds.Nodup ∧ ∀ D ∈ Ds, B ≤ D ∧ W.heap[D]? = some (.deferred (some []))

theorem leaves_marks {F : Fence} {n : Nat} {P : Program} {fn : Func} {tmps : Array Value} {R : Ending → World → Prop} {B : Nat} {v : Value} : ∀ (Ds : List Nat) (W : World), B ≤ W.heap.size → Marks B W Ds → (∀ W', (results fn tmps).run P W' = .ok v W') → (∀ W', Below B W W' → R (.returned v) W') →
    LeavesInM F n P fn tmps R (Ds.map markD) .returning W
  | [], W, _, _, hv, hR => ⟨v, hv W, hR W (Below.refl _ _)⟩
  | D :: Ds, W, hB, hm, hv, hR => by
    obtain ⟨hnd, hall⟩ := hm
    obtain ⟨hD, hK⟩ := hall D (by simp)
    have hnd' := List.nodup_cons.1 hnd
    refine ⟨by simp, .inl ⟨D, _, rfl, run_takeDeferred hK, ?_⟩⟩
    have hb : Below B W (W.putObj D (.deferred none)) := (Below.refl B W).grown (grownBy_putObj' W D _) hB (fun k e => by cases e; exact hD)
    refine leaves_marks Ds _ (Nat.le_trans hB hb.size) ⟨hnd'.2, fun D' hD' => ?_⟩ hv (fun W' h => hR W' (hb.trans h))
    obtain ⟨h1, h2⟩ := hall D' (List.mem_cons_of_mem _ hD')
    refine ⟨h1, ?_⟩
    rw [(grownBy_putObj' W D (.deferred none)).block D' (Array.getElem?_eq_some_iff.1 h2).1 (fun e => by cases e; exact hnd'.1 hD')]
    exact h2

theorem Marks.lt {B : Nat} {W : World} {Ds : List Nat} (h : Marks B W Ds) : ∀ D ∈ Ds, D < W.heap.size := fun D hD => (Array.getElem?_eq_some_iff.1 (h.2 D hD).2).1
theorem Marks.kept {B : Nat} {W W' : World} {row : Option Nat} {Ds : List Nat} (h : Marks B W Ds) (hg : W.grownBy W' row) (hne : ∀ D ∈ Ds, some D ≠ row) : Marks B W' Ds :=
  ⟨h.1, fun D hD => ⟨(h.2 D hD).1, (hg.block D (h.lt D hD) (hne D hD)).trans (h.2 D hD).2⟩⟩
theorem Marks.alloc {B : Nat} {W : World} {Ds : List Nat} (h : Marks B W Ds) (o : Obj) : Marks B (W.alloc o) Ds := h.kept (World.grownBy_alloc W o none) (fun _ _ => by simp)
theorem Marks.setCell {B : Nat} {W : World} {Ds : List Nat} (h : Marks B W Ds) {b : Nat} {t : TypeId} {v : Value} (hb : Boxed W b t v) (u : Value) : Marks B (W.setCell ⟨b, 0, none⟩ u) Ds :=
  h.kept (grownBy_setCell' W b u) (fun D hD e => by
    have : D = b := by simpa using e
    subst this
    have h1 := (h.2 D hD).2
    rw [show W.heap[D]? = _ from hb] at h1
    cases h1)
theorem Marks.cons {B : Nat} {W : World} {Ds : List Nat} (h : Marks B W Ds) {D : Nat} (hB : B ≤ D) (hK : W.heap[D]? = some (.deferred (some []))) (hne : ∀ D' ∈ Ds, D' < D) : Marks B W (D :: Ds) :=
  ⟨List.nodup_cons.2 ⟨fun hD => Nat.lt_irrefl _ (hne D hD), h.1⟩, fun D' hD' => by
    rcases List.mem_cons.1 hD' with rfl | h'
    · exact ⟨hB, hK⟩
    · exact h.2 D' h'⟩
theorem marks_own {β : Type} {B B' : Nat} {Ds : List Nat} (hlt : ∀ D ∈ Ds, D < B') : OwnFrom B' (fun (_ : β) V => Marks B V Ds) :=
  fun _ X Y row hs hg hr => hs.kept hg (fun D hD e => by
    have h1 := (hr D e.symm).1
    have h2 := hlt D hD
    omega)

/-- Whether the list can be joined so far: at a later element, or once a piece has come. -/
def jb (k : Nat) (pre : List ByteArray) : Bool := decide (0 < k) || !pre.isEmpty

/-- At the head of the outer loop. -/
def JoinHead (w W : World) (f : Nat → ByteArray) (c : UInt8) (k : Nat) (Ds : List Nat) : Prop :=
  ∃ r : Nat, roomAfter c ((List.range k).map f) 4001 = some r ∧ Boxed W w.heap.size 3 (.int .i64 (r : Int)) ∧ Boxed W (w.heap.size + 1) 4 (.bool (decide (0 < k))) ∧ Marks w.heap.size W Ds ∧ Below w.heap.size w W

theorem wide_scope {d : Nat} {P : Program} {c : Code} {Q : Exit → Act → World → Prop} {a : Act} {w : World} (h : c.wpIn Fence.wide d P (Exit.noGoto Q) a w) : (Code.scope c).wpIn Fence.wide d P Q a w :=
  wpIn_wide.2 (wp_scope_straight (wpIn_wide.1 h))

set_option maxRecDepth 100000 in
set_option maxHeartbeats 4000000 in
theorem canJoin_in (g cap n : Nat) (f : Nat → ByteArray) (c : UInt8) (hn : n ≤ 1048576) (hf : ∀ j, j < n → (f j).size ≤ 1048576) (w : World) (hrow : RowAt w g cap n f) :
    CallsIn Fence.wide 3 Tryd.prog 32 #[.slice (some ⟨g, 0, none⟩) n cap, .int .u8 (c.toNat : Int)] w fun e W' => e = .returned (.bool ((roomAfter c ((List.range n).map f) 4001).isSome && decide (0 < n))) ∧ Below w.heap.size w W' := by
  refine callsIn_of_wp_marks Tryd.func32 rfl trivial ?_ rfl
  simp only [Tryd.ntmps32, List.size_toArray, List.length_cons, List.length_nil, Nat.reduceAdd, Nat.reduceSub, Array.replicate_succ, Array.replicate_zero, List.push_toArray, List.append_toArray, List.nil_append, List.cons_append]
  gi_wp2
  refine wide_scope ?_
  gi_wp2
  apply wpIn_label
  gi_wp2
  have hg := hrow.lt
  have HR := Lib.hid hrow
  have HF := Lib.hid hf
  clear hrow hf
  refine wpIn_loop (fun a W => ∃ (k : Nat) (Ds : List Nat) (u8 u9 u13 u14 u15 u16 u17 u18 u19 u20 u21 u22 u23 u24 u25 u26 u27 u28 u29 u30 u31 u32 u33 u34 u35 u36 u37 u38 u39 : Value), k ≤ n ∧ JoinHead w W f c k Ds ∧ a = { tmps := #[.slice (some ⟨g, 0, none⟩) n cap, .int .u8 (c.toNat : Int), undef, undef, .bool false, .pointer (some ⟨w.heap.size, 0, none⟩), .pointer (some ⟨w.heap.size + 1, 0, none⟩), undef, u8, u9, .slice (some ⟨g, 0, none⟩) n cap, .int .i64 (n : Int), .int .i64 (k : Int), u13, u14, u15, u16, u17, u18, u19, u20, u21, u22, u23, u24, u25, u26, u27, u28, u29, u30, u31, u32, u33, u34, u35, u36, u37, u38, u39], defers := Ds.map markD }) (fun a _ => n - (intOf (a.tmps.getD 12 undef)).toNat) ?start ?round
  case start =>
    refine ⟨0, [], undef, undef, undef, undef, undef, undef, undef, undef, undef, undef, undef, undef, undef, undef, undef, undef, undef, undef, undef, undef, undef, undef, undef, undef, undef, undef, undef, undef, undef, Nat.zero_le _, ?_, rfl⟩
    exact ⟨4001, rfl, (Boxed.new w 3 _).alloc _, by have := Boxed.new (w.alloc (.cells #[.int .i64 4001] 3)) 4 (.bool false); rwa [World.size_alloc] at this, ⟨List.nodup_nil, fun D hD => by cases hD⟩, ((Below.refl _ w).alloc (Nat.le_refl _) _).alloc (by simp) _⟩
  case round =>
    rintro a W ⟨k, Ds, u8, u9, u13, u14, u15, u16, u17, u18, u19, u20, u21, u22, u23, u24, u25, u26, u27, u28, u29, u30, u31, u32, u33, u34, u35, u36, u37, u38, u39, hk, hJ, rfl⟩
    by_cases hlt : k < n
    · obtain ⟨r, hr, bR, bJ, hM, hB⟩ := hJ
      have hcell : W.cell? ⟨g, k, none⟩ = some (.string (f k)) := (hB.cell (p := ⟨g, k, none⟩) hg).trans (HR.out.cell k hlt)
      have hsz := HF.out k hlt
      have hr4 := roomAfter_le _ _ _ _ hr
      have Hr := Lib.hid hr
      clear hr
      gi_wp2_with (refine ⟨trivial, ?_⟩; gi_at_call 34; refine (piecesOf_in Fence.wide 2 trivial rfl _ _ _).mono ?_; rintro e w' ⟨rfl, rfl⟩)
      have bP0 := Boxed.new W 9 (.string (f k))
      have bS0 := Boxed.new (W.alloc (.cells #[.string (f k)] 9)) 9 (.string (f k))
      have bC0 := Boxed.new ((W.alloc (.cells #[.string (f k)] 9)).alloc (.cells #[.string (f k)] 9)) 5 (.int .u8 (c.toNat : Int))
      rw [World.size_alloc] at bS0
      rw [World.size_alloc, World.size_alloc] at bC0
      have bP := (bP0.alloc (.cells #[.string (f k)] 9)).alloc (.cells #[.int .u8 (c.toNat : Int)] 5)
      have bS := bS0.alloc (.cells #[.int .u8 (c.toNat : Int)] 5)
      have bC := bC0
      have hR0 := ((bR.alloc (.cells #[.string (f k)] 9)).alloc (.cells #[.string (f k)] 9)).alloc (.cells #[.int .u8 (c.toNat : Int)] 5)
      have hJ0 := ((bJ.alloc (.cells #[.string (f k)] 9)).alloc (.cells #[.string (f k)] 9)).alloc (.cells #[.int .u8 (c.toNat : Int)] 5)
      have hB0 : Below w.heap.size w (((W.alloc (.cells #[.string (f k)] 9)).alloc (.cells #[.string (f k)] 9)).alloc (.cells #[.int .u8 (c.toNat : Int)] 5)) := ((hB.alloc hB.size _).alloc (by have := hB.size; simp; omega) _).alloc (by have := hB.size; simp; omega) _
      have hM0 := ((hM.alloc (.cells #[.string (f k)] 9)).alloc (.cells #[.string (f k)] 9)).alloc (.cells #[.int .u8 (c.toNat : Int)] 5)
      have hBR := bR.lt
      have hBJ := bJ.lt
      have hMl := hM.lt
      clear bP0 bS0 bC0 bR bJ hM hB
      refine wpIn_rangeFunc_ownG rfl (by decide) (gf := 41) (lb := #[.pointer (some ⟨W.heap.size + 1, 0, none⟩), .pointer (some ⟨W.heap.size + 1 + 1, 0, none⟩)]) rfl trivial (enters_of Tryd.func41 (by kernel_rfl) rfl)
        (pieces_stops Fence.wide 2 trivial rfl (by decide) (W.heap.size + 1) (W.heap.size + 1 + 1) (f k) c hsz _ bS.lt bC.lt bS.cell bC.cell) keepsCells_t (keepsCells_b bS.lt bC.lt) (Below.refl _ _) (fun _ => rfl)
        (fun pre V => Boxed V w.heap.size 3 (.int .i64 ((r : Int) - (tot pre : Int))) ∧ Boxed V (w.heap.size + 1) 4 (.bool (jb k pre)) ∧ Boxed V W.heap.size 9 (.string (f k)) ∧ Boxed V (W.heap.size + 1) 9 (.string (f k)) ∧ Boxed V (W.heap.size + 1 + 1) 5 (.int .u8 (c.toNat : Int)) ∧ Hid (tot pre ≤ r ∧ ∀ x ∈ pre, x.size = (f k).size) ∧ Marks w.heap.size V Ds ∧ Below w.heap.size w V)
        (fun cc pre V => Hid (cc = .exit 0 ∧ ∃ q0 x, pre = q0 ++ [x] ∧ (∀ y ∈ q0, y.size = (f k).size) ∧ tot q0 ≤ r ∧ ¬ (x.size = (f k).size ∧ x.size < r - tot q0)) ∧ Boxed V (w.heap.size + 1) 4 (.bool false) ∧ Marks w.heap.size V Ds ∧ Below w.heap.size w V)
        (OwnFrom.and (Own.from (boxed_own _ _ (fun pre : List ByteArray => .int .i64 ((r : Int) - (tot pre : Int)))) _) (OwnFrom.and (Own.from (boxed_own _ _ (fun pre => .bool (jb k pre))) _) (OwnFrom.and (Own.from (boxed_own _ _ (fun _ => .string (f k))) _) (OwnFrom.and (Own.from (boxed_own _ _ (fun _ => .string (f k))) _) (OwnFrom.and (Own.from (boxed_own _ _ (fun _ => .int .u8 (c.toNat : Int))) _) (OwnFrom.and (ownFrom_pure _ _) (OwnFrom.and (marks_own (fun D hD => by have := hMl D hD; simp; omega)) (ownFrom_below (Nat.le_refl _) (by simp; omega)))))))))
        (fun cc => OwnFrom.and (ownFrom_pure _ (fun pre => Hid (cc = .exit 0 ∧ ∃ q0 x, pre = q0 ++ [x] ∧ (∀ y ∈ q0, y.size = (f k).size) ∧ tot q0 ≤ r ∧ ¬ (x.size = (f k).size ∧ x.size < r - tot q0)))) (OwnFrom.and (Own.from (boxed_own _ _ (fun _ => .bool false)) _) (OwnFrom.and (marks_own (fun D hD => by have := hMl D hD; simp; omega)) (ownFrom_below (Nat.le_refl _) (by simp; omega)))))
        ⟨by simpa [tot] using hR0, by simpa [jb] using hJ0, bP, bS, bC, Lib.hid ⟨by simp [tot], by simp⟩, hM0, hB0⟩
        (fun x => { tmps := #[.slice (some ⟨g, 0, none⟩) n cap, .int .u8 (c.toNat : Int), undef, undef, .bool false, .pointer (some ⟨w.heap.size, 0, none⟩), .pointer (some ⟨w.heap.size + 1, 0, none⟩), undef, .pointer (some ⟨W.heap.size, 0, none⟩), .string x, .slice (some ⟨g, 0, none⟩) n cap, .int .i64 (n : Int), .int .i64 (k : Int), .bool true, .pointer (some ⟨g, k, none⟩), .string (f k), .string (f k), .int .u8 (c.toNat : Int), .func (.func 41) #[] #[.pointer (some ⟨W.heap.size + 1, 0, none⟩), .pointer (some ⟨W.heap.size + 1 + 1, 0, none⟩)], .string x, u20, u21, u22, u23, u24, u25, u26, u27, u28, u29, u30, u31, u32, u33, u34, u35, u36, u37, u38, u39], defers := [] }) ?assign ?body ?done ?stop
      case assign =>
        intro l x V K hK
        gi_wp2
        exact hK
      case body =>
        rintro l pre x V ⟨hVR, hVJ, hVP, hVS, hVC, HA, hVM, hVB⟩ hpl
        have c1 := hVR.cell
        have c2 := hVJ.cell
        have c3 := hVP.cell
        have f1 := hVR.frozen
        have f2 := hVJ.frozen
        have ht := HA.out.1
        have hne : w.heap.size ≠ w.heap.size + 1 := by omega
        by_cases e1 : x.size = (f k).size
        · by_cases e2 : x.size < r - tot pre
          · have b1 : ((x.size : Int) == ((f k).size : Int)) = true := by rw [e1]; simp
            have b2 : decide ((x.size : Int) < (r : Int) - (tot pre : Int)) = true := by simp; omega
            have d1 : ((V.setCell ⟨w.heap.size + 1, 0, none⟩ (.bool true))).cell? ⟨w.heap.size, 0, none⟩ = some (.int .i64 ((r : Int) - (tot pre : Int))) := (hVR.other (B' := w.heap.size + 1) hne _).cell
            have d2 : ((V.setCell ⟨w.heap.size + 1, 0, none⟩ (.bool true))).cell? ⟨w.heap.size + 1, 0, none⟩ = some (.bool true) := (hVJ.set _).cell
            have d3 : ((V.setCell ⟨w.heap.size + 1, 0, none⟩ (.bool true))).frozen? ⟨w.heap.size, 0, none⟩ = false := (hVR.other (B' := w.heap.size + 1) hne _).frozen
            have E1 := Lib.hid e1
            clear e1
            have tR := hVR.other (B' := w.heap.size + 1) hne (.bool true)
            have tJ := hVJ.set (.bool true)
            have tP := hVP.other (B' := w.heap.size + 1) (by omega) (.bool true)
            have tS := hVS.other (B' := w.heap.size + 1) (by omega) (.bool true)
            have tC := hVC.other (B' := w.heap.size + 1) (by omega) (.bool true)
            have tM := hVM.setCell hVJ (.bool true)
            have tB := hVB.setCell (p := ⟨w.heap.size + 1, 0, none⟩) (Nat.le_succ _) (.bool true)
            have hv : (r : Int) - (tot (pre ++ [x]) : Int) = (r : Int) - (tot pre : Int) - ((x.size : Int) + 1) := by rw [tot_snoc]; omega
            have hjb : jb k (pre ++ [x]) = true := by simp [jb]
            have HA2 : Hid (tot (pre ++ [x]) ≤ r ∧ ∀ y ∈ pre ++ [x], y.size = (f k).size) := Lib.hid ⟨by rw [tot_snoc]; omega, by
              intro y hy
              rcases List.mem_append.1 hy with h | h
              · exact HA.out.2 y h
              · rw [List.mem_singleton.1 h]; exact E1.out⟩
            have Hv := Lib.hid hv
            have Hj := Lib.hid hjb
            clear hv hjb tR tJ tP tS tC tM tB
            gi_wp2
            have tR := hVR.other (B' := w.heap.size + 1) hne (.bool true)
            have tJ := hVJ.set (.bool true)
            have tP := hVP.other (B' := w.heap.size + 1) (by omega) (.bool true)
            have tS := hVS.other (B' := w.heap.size + 1) (by omega) (.bool true)
            have tC := hVC.other (B' := w.heap.size + 1) (by omega) (.bool true)
            have tM := hVM.setCell hVJ (.bool true)
            have tB := hVB.setCell (p := ⟨w.heap.size + 1, 0, none⟩) (Nat.le_succ _) (.bool true)
            have uS := tS.other (B' := w.heap.size) (by omega) (.int .i64 ((r : Int) - (tot pre : Int) - ((x.size : Int) + 1)))
            have uC := tC.other (B' := w.heap.size) (by omega) (.int .i64 ((r : Int) - (tot pre : Int) - ((x.size : Int) + 1)))
            exact ⟨((KeepsOthers.setCell _ _ _).trans (KeepsOthers.setCell _ _ _)).from _, ⟨uS.cell.trans hVS.cell.symm, uC.cell.trans hVC.cell.symm⟩, by rw [Hv.out]; exact tR.set _, by rw [Hj.out]; exact tJ.other (by omega) _, tP.other (by omega) _, uS, uC, HA2, tM.setCell tR _, tB.setCell (p := ⟨w.heap.size, 0, none⟩) (Nat.le_refl _) _⟩
          · have b1 : ((x.size : Int) == ((f k).size : Int)) = true := by rw [e1]; simp
            have b2 : decide ((x.size : Int) < (r : Int) - (tot pre : Int)) = false := by simp; omega
            have d2 : ((V.setCell ⟨w.heap.size + 1, 0, none⟩ (.bool false))).cell? ⟨w.heap.size + 1, 0, none⟩ = some (.bool false) := (hVJ.set _).cell
            have E1 := Lib.hid e1
            clear e1
            gi_wp2
            exact ⟨(KeepsOthers.setCell _ _ _).from _, Lib.hid ⟨rfl, pre, x, rfl, HA.out.2, ht, fun hx => e2 hx.2⟩, hVJ.set _, hVM.setCell hVJ _, hVB.setCell (p := ⟨w.heap.size + 1, 0, none⟩) (Nat.le_succ _) _⟩
        · have b1 : ((x.size : Int) == ((f k).size : Int)) = false := by rw [beq_eq_false_iff_ne]; omega
          have d2 : ((V.setCell ⟨w.heap.size + 1, 0, none⟩ (.bool false))).cell? ⟨w.heap.size + 1, 0, none⟩ = some (.bool false) := (hVJ.set _).cell
          have E1 := Lib.hid e1
          gi_wp2
          exact ⟨(KeepsOthers.setCell _ _ _).from _, Lib.hid ⟨rfl, pre, x, rfl, HA.out.2, ht, fun hx => E1.out hx.1⟩, hVJ.set _, hVM.setCell hVJ _, hVB.setCell (p := ⟨w.heap.size + 1, 0, none⟩) (Nat.le_succ _) _⟩
      case done =>
        rintro D ys V hD rfl ⟨hVR, hVJ, hVP, hVS, hVC, HA, hVM, hVB⟩ hK
        have hns := pieces_whole (f k) c HA.out.2
        have hpn := pieces_none (f k) c hns
        have htot : tot (pieces (f k) c) = (f k).size + 1 := by rw [hpn]; simp [tot]
        have hle := HA.out.1
        rw [htot] at hle
        have hroom : roomAfter c ((List.range (k + 1)).map f) 4001 = some (r - ((f k).size + 1)) := by
          rw [List.range_succ, List.map_append, List.map_singleton, roomAfter_snoc, Hr.out]
          simp only [Option.bind_some, roomAfter]
          rw [if_neg]
          have h1 : sepIn (f k) c = false := by rw [← Bool.not_eq_true, sepIn_iff]; exact hns
          simp [h1]; omega
        have hval : (r : Int) - (tot (pieces (f k) c) : Int) = ((r - ((f k).size + 1) : Nat) : Int) := by rw [htot]; omega
        have hjb : jb k (pieces (f k) c) = decide (0 < k + 1) := by rw [hpn]; simp [jb]
        have hJH : JoinHead w V f c (k + 1) (D :: Ds) := ⟨_, hroom, by rw [← hval]; exact hVR, by rw [← hjb]; exact hVJ, hVM.cons (by simp at hD; omega) hK (fun D' hD' => by have := hMl D' hD'; simp at hD; omega), hVB⟩
        clear hroom hval hjb htot hpn hle hVR hVJ hVP hVS hVC
        gi_wp2
        exact ⟨⟨k + 1, D :: Ds, _, _, _, _, _, _, _, _, _, _, _, _, _, _, _, _, _, _, _, _, _, _, _, _, _, _, _, _, _, by omega, hJH, rfl⟩, by simp [intOf]; omega⟩
      case stop =>
        rintro D cc pre V hD hSp ⟨HX, hVJ, hVM, hVB⟩ hK
        have hcc := HX.out.1
        subst hcc
        have c2 := hVJ.cell
        obtain ⟨-, q0, x, rfl, hall, htq, hx⟩ := HX.out
        have href := pieces_refused (f k) c r (r - tot q0) q0 x hSp hall (by omega) hx
        have hnone : roomAfter c ((List.range n).map f) 4001 = none := by
          have h1 : roomAfter c ((List.range (k + 1)).map f) 4001 = none := by
            rw [List.range_succ, List.map_append, List.map_singleton, roomAfter_snoc, Hr.out]
            simp only [Option.bind_some, roomAfter]
            rw [if_pos]
            rcases href with h | h
            · rw [(sepIn_iff _ _).2 h]; rfl
            · simp [h]
          have e : List.range n = List.range (k + 1) ++ (List.range (n - (k + 1))).map (k + 1 + ·) := by
            rw [← List.range_add]; congr 1; omega
          rw [e, List.map_append]
          exact roomAfter_none _ _ _ _ h1
        have hMD : Marks w.heap.size V (D :: Ds) := hVM.cons (by simp at hD; omega) hK (fun D' hD' => by have := hMl D' hD'; simp at hD; omega)
        have HN := Lib.hid hnone
        clear hnone href hx hall hSp
        gi_wp2
        exact leaves_marks (v := .bool false) (D :: Ds) V hVB.size hMD (fun W' => by rw [results_tmp (fn := Tryd.f32) (t := 4) rfl]; rfl) (fun W' h => ⟨by rw [HN.out]; rfl, hVB.trans h⟩)
    · obtain rfl : k = n := by omega
      obtain ⟨r, hr, bR, bJ, hM, hB⟩ := hJ
      have hc := bJ.cell
      have Hr := Lib.hid hr
      clear hr
      gi_wp2
      exact leaves_marks (v := .bool (decide (0 < k))) Ds W hB.size hM (fun W' => by rw [results_tmp (fn := Tryd.f32) (t := 4) rfl]; rfl) (fun W' h => ⟨by rw [Hr.out]; rfl, hB.trans h⟩)
end Go.Proofs.YthpiahellpnccaaDoor
