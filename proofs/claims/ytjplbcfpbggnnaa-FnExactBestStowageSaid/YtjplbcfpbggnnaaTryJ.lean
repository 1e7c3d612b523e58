/-
  What impl.(*placementSearch).try leaves, by induction. No statement of the seat by itself.
-/
import Derived.Test.YtjplbcfpbggnnaaTryI
import Derived.Deep.CutRange
namespace Go.Proofs.Ytjplbcfpbggnnaa
open Go.RowKit

theorem frozRow {w : World} {base e size n cap g k : Nat} {xs : List Value} (h : w.ownsRow base e size (.slice (some ⟨g, 0, none⟩) n cap) n xs) : w.frozen? ⟨g, k, none⟩ = false := by
  rcases h.2 with ⟨e1, -⟩ | ⟨g', cap', cur, e1, hbg, hg, -⟩
  · cases e1
  · injection e1 with e2 e3 e4
    injection e2 with e5
    injection e5 with e6
    subst e6
    simp [World.frozen?, hg]

theorem aft_of {wr w0 w5 : World} {B S g c k m : Nat} {vs : List Value} {Y : List (List Int)} {u : Value} {P : List Int} {x x' tv : Value} {l : List Int} {n : Int} (h : TrS wr B g c vs Y u P) (hx : vs[k]? = some x) (hl : Y[k]? = some l) (hm : l.length = m)
    (h0 : Below wr.heap.size wr w0) (hB : B ≤ wr.heap.size) (ho : w5.ownsRow B 3 1 x' (m + 1) (intV l ++ [.int .i64 n])) (hg : w0.grownBy w5 x.ownBlock) (hf : OneForm w0 w5 x x' m) (hS : wr.cell? ⟨S, 2, none⟩ = some tv) (hSx : x.ownBlock ≠ some S) :
    MidT wr (w5.setCell ⟨g, k, none⟩ x') B g c vs Y u P k m x n ∧ (∃ y, w5.cell? ⟨g, k, none⟩ = some y) ∧ w5.frozen? ⟨g, k, none⟩ = false ∧ w5.cell? ⟨S, 2, none⟩ = some tv := by
  have hk : k < Y.length := lt_of_get hl
  have hxg := h.row_tab hx hl
  have ht5 := (h.below h0).tab.kept hg (.inr fun e => hxg (by rw [← e]; rfl))
  refine ⟨mid_of h hx hl hm h0 hB ho hg hf, ⟨x, by rw [ht5.cellAt k (by omega)]; exact hx⟩, frozRow ht5, hg.cell (h0.cell (p := ⟨S, 2, none⟩) (World.block_lt_of_cell? wr _ hS) |>.trans hS) (fun e => hSx e.symm)⟩

theorem Form2.base {wr w6 w7 : World} {v v' : Value} {n : Nat} (h : Form2 w6 w7 v v' n) (hs : wr.heap.size ≤ w6.heap.size) (hb : ∀ b, v.ownBlock = some b → w6.heap[b]? = wr.heap[b]?) : Form2 wr w7 v v' n := by
  rcases h with h | ⟨h1, h2⟩
  · exact .inl h
  · exact .inr ⟨fun b e => Nat.le_trans hs (h1 b e), fun b e => (h2 b e).trans (hb b e)⟩
theorem call_of {wr w6 w7 : World} {o : Obj} {B S H g c k m ml : Nat} {vl vt vb : Value} {s : Option (List Int × Nat)} {vs : List Value} {Y : List (List Int)} {u v7 : Value} {P : List Int} {x x' : Value} {l : List Int} {n n2 : Int} (h : TrS wr B g c vs Y u P) (hS : StS wr B S H vl vt vb s vs u)
    (hx : vs[k]? = some x) (hl : Y[k]? = some l) (hq : P.length = m) (hB : B ≤ wr.heap.size)
    (t6 : TrS w6 B g c (vs.set k x') (putY Y k n) u P) (fx : Form2 wr w6 x x' ml) (o6 : ∀ b, b < wr.heap.size → b ≠ g → x.ownBlock ≠ some b → w6.heap[b]? = wr.heap[b]?) (b6 : Below B wr w6)
    (ho : w7.ownsRow B 3 1 v7 (m + 1) (intV P ++ [.int .i64 n2])) (hg : (w6.alloc o).grownBy w7 u.ownBlock) (hf : OneForm (w6.alloc o) w7 u v7 m) :
    TrS w7 B g c (vs.set k x') (putY Y k n) v7 (P ++ [n2]) ∧ StS w7 B S H vl vt vb s (vs.set k x') v7 ∧ Form2 wr w7 x x' ml ∧ Form2 wr w7 u v7 m ∧ (∀ b, b < wr.heap.size → b ≠ g → x.ownBlock ≠ some b → u.ownBlock ≠ some b → w7.heap[b]? = wr.heap[b]?) ∧ Below B wr w7 := by
  have ba := below_one w6 o
  have hult : ∀ b, u.ownBlock = some b → b < wr.heap.size := fun b hb => (h.lst.lt b hb).2
  have hxlt : ∀ b, x.ownBlock = some b → b < wr.heap.size := fun b hb => ((h.row k x l hx hl).lt b hb).2
  have hux : ∀ b, u.ownBlock = some b → x.ownBlock ≠ some b := fun b hb e => h.apt k x b hx e hb
  have f0 : Form2 (w6.alloc o) w7 u v7 m := hf.to2 (Nat.le_refl _) (fun _ _ => rfl) fun b hb => Nat.lt_of_lt_of_le (hult b hb) (Nat.le_trans b6.size ba.size)
  have fu : Form2 wr w7 u v7 m := f0.base (Nat.le_trans b6.size ba.size) fun b hb =>
    (ba.block b (Nat.lt_of_lt_of_le (hult b hb) b6.size)).trans (o6 b (hult b hb) (fun e => h.list_tab (e ▸ hb)) (hux b hb))
  have o67 : ∀ b, b < wr.heap.size → u.ownBlock ≠ some b → w7.heap[b]? = w6.heap[b]? := fun b hb hu =>
    (hg.block b (Nat.lt_of_lt_of_le hb (Nat.le_trans b6.size ba.size)) (fun e => hu e.symm)).trans (ba.block b (Nat.lt_of_lt_of_le hb b6.size))
  have fx7 : Form2 wr w7 x x' ml := fx.step fun b hb => o67 b (hxlt b hb) fun e => hux b e hb
  have o7 : ∀ b, b < wr.heap.size → b ≠ g → x.ownBlock ≠ some b → u.ownBlock ≠ some b → w7.heap[b]? = wr.heap[b]? := fun b hb h1 h2 h3 => (o67 b hb h3).trans (o6 b hb h1 h2)
  exact ⟨(t6.below ba).longer hq ho hg f0, hS.push h hx hl fx7 fu o7, fx7, fu, o7,
    (b6.trans (ba.mono (Nat.le_trans hB b6.size))).grown hg (Nat.le_trans hB (Nat.le_trans b6.size ba.size)) (row_base h.lst)⟩

set_option maxRecDepth 100000 in
set_option maxHeartbeats 16000000 in
theorem implTry_any : ∀ (L O P : List Int) (Y : List (List Int)) (u vl vb : Value) (vs : List Value) (s : Option (List Int × Nat)) (B S H g c : Nat), rowsH H Y → H ≤ 4 → O.drop P.length = L → P.length ≤ O.length → O.length ≤ 7 → ∀ w : World,
    TrS w B g c vs Y u P → StS w B S H vl (.slice (some ⟨g, 0, none⟩) Y.length c) vb s vs u → (∀ W, Below B w W → IL W vl O) → B ≤ w.heap.size → B ≤ S → (∃ gu cu, u = .slice (some ⟨gu, 0, none⟩) P.length cu) →
    Calls Try.prog 18 #[.pointer (some ⟨S, 0, none⟩), u, .int .i64 (badN Y)] w (TryQ w B S H g c vl vb vs Y u P (updB s P (bst H L Y)))
  | [], O, P, Y, u, vl, vb, vs, s, B, S, H, g, c, ha, hH4, hd, hp, h5, w, hT, hS, hO, hB, hBS, hun => by
    have hpl : P.length = O.length := by have := congrArg List.length hd; simp at this; omega
    by_cases hq : ∃ q f, s = some (q, f) ∧ f ≤ badN Y
    · obtain ⟨q, f, rfl, hf⟩ := hq
      rw [updB_prune hf]
      exact tryPrune P Y u vl vb vs q f B S H g c w hT hS hf
    · have hq' : ∀ q f, s = some (q, f) → ¬ f ≤ badN Y := fun q f e hf => hq ⟨q, f, e, hf⟩
      rw [updB_leaf hq']
      exact tryLeaf O P Y u vl vb vs s B S H g c hpl h5 w hT hS (hO w (Below.refl _ _)) hB hBS hun hq'
  | x :: L, O, P, Y, u, vl, vb, vs, s, B, S, H, g, c, ha, hH4, hd, hp, h5, w, hT, hS, hO, hB, hBS, hun => by
    by_cases hq : ∃ q f, s = some (q, f) ∧ f ≤ badN Y
    · obtain ⟨q, f, rfl, hf⟩ := hq
      rw [updB_prune hf]
      exact tryPrune P Y u vl vb vs q f B S H g c w hT hS hf
    have hq' : ∀ q f, s = some (q, f) → ¬ f ≤ badN Y := fun q f e hf => hq ⟨q, f, e, hf⟩
    have hpl : P.length < O.length := by have := congrArg List.length hd; simp at this; omega
    have hxO : O[P.length]? = some x := by have := congrArg (fun l => l[0]?) hd; simpa using this
    have hdL : O.drop (P.length + 1) = L := by rw [← List.drop_drop, hd]; rfl
    have hb40 := badN_le (fun l hl => Nat.le_trans (ha.2 l hl) hH4)
    have h6 := ha.1
    have hHH : ((H : Int) == (H : Int)) = true := by simp
    have HAs := Lib.hid ha
    have HT := Lib.hid hT
    have HS := Lib.hid hS
    have HO := Lib.hid hO
    obtain ⟨gu, cu, rfl⟩ := hun
    obtain ⟨al, cl, rfl⟩ := (hO w (Below.refl _ _)).form
    have HIH := Lib.hid (fun (Z : List (List Int)) (k : Nat) (u2 vb2 : Value) (vs2 : List Value) (s2 : Option (List Int × Nat)) W (h1 : rowsH H Z) (hYZ : Z.length = Y.length) (h2 : TrS W B g c vs2 Z u2 (P ++ [(k : Int)]))
        (h3 : StS W B S H (.slice al O.length cl) (.slice (some ⟨g, 0, none⟩) Y.length c) vb2 s2 vs2 u2) (h4 : ∀ W2, Below B W W2 → IL W2 (.slice al O.length cl) O) (hBW : B ≤ W.heap.size) (h6 : ∃ gu cu, u2 = .slice (some ⟨gu, 0, none⟩) (P ++ [(k : Int)]).length cu) =>
      implTry_any L O (P ++ [(k : Int)]) Z u2 (.slice al O.length cl) vb2 vs2 s2 B S H g c h1 hH4 (by rw [List.length_append, List.length_singleton]; exact hdL) (by rw [List.length_append, List.length_singleton]; omega) h5 W h2 (by rw [hYZ]; exact h3) h4 hBW hBS h6)
    have c0 := cell_of (i := 0) hS.mem rfl
    have c1 := cell_of (i := 2) hS.mem rfl
    have c3 := cell_of (i := 4) hS.mem rfl
    have c4 := cell_of (i := 5) hS.mem rfl
    have HXO := Lib.hid hxO
    have hO1 := hO w (Below.refl _ _)
    obtain ⟨ao, co, eo, hco⟩ := hO1
    obtain ⟨gl, offl, eo2, hgl, hcol⟩ := hco (by omega)
    injection eo with e1 e4 e5
    subst eo2
    subst e1
    clear e4 e5
    have x1 := hcol _ _ hxO
    clear hco hcol hgl
    have HPr := Lib.hid (fun (acc : Option (List Int × Nat)) => updB_cmb s acc)
    have HR0 : Hid (updB s P (bstK H (bst H L) x Y 0) = s) := Lib.hid rfl
    rw [bst_cons]
    obtain ⟨q, hQ⟩ : ∃ q, Y.length = q := ⟨_, rfl⟩
    have HQ := Lib.hid hQ
    obtain ⟨n, hn⟩ : ∃ n, O.length = n := ⟨_, rfl⟩
    have HN := Lib.hid hn
    obtain ⟨m, hm⟩ : ∃ m, P.length = m := ⟨_, rfl⟩
    have HM := Lib.hid hm
    have hmn : ((m : Int) == (n : Int)) = false := beq_eq_false_iff_ne.2 (by omega)
    have hml : (m : Int) < (n : Int) := by omega
    rw [hQ] at HIH c1 hb40 h6 ⊢
    rw [hn] at HIH c0 h5 hpl
    rw [hm] at x1 hpl
    rw [hm]
    clear hT hS hO ha hd hp hxO hdL hn hQ hq
    have hst : Hid (∃ vb2, TrS w B g c vs Y (.slice (some ⟨gu, 0, none⟩) P.length cu) P ∧ StS w B S H (.slice (some ⟨gl, offl, none⟩) O.length cl) (.slice (some ⟨g, 0, none⟩) Y.length c) vb2 (updB s P (bstK H (bst H L) x Y 0)) vs (.slice (some ⟨gu, 0, none⟩) P.length cu) ∧ (vb2 = vb ∨ ∀ b, vb2.ownBlock = some b → w.heap.size ≤ b) ∧ FrT w w S g vs (.slice (some ⟨gu, 0, none⟩) P.length cu) ∧ Below B w w) :=
      Lib.hid ⟨vb, HT.out, by rw [HR0.out]; exact HS.out, .inl rfl, FrT.refl _ _ _ _ _, Below.refl _ _⟩
    generalize hbn : badN Y = bn at *
    have HBN := Lib.hid hbn
    clear hbn hm
    have hge0 : s.isSome = true → decide (bstF s ≤ (bn : Int)) = false := fun h => by
      cases s with
      | none => cases h
      | some qf => obtain ⟨q2, f⟩ := qf; have := hq' q2 f rfl; simpa [bstF] using this
    clear hq'
    by_cases hsome : s.isSome = true
    case' pos =>
      have hge := hge0 hsome
      rw [hsome] at c4
    case' neg =>
      have hno : s.isSome = false := by simpa using hsome
      rw [hno] at c4
      have hge : True := trivial
    all_goals
      clear hge0
      generalize bstF s = zs at *
      generalize s.isSome = os at *
      clear hsome
      go_enter Try.func18, Try.ntmps18
      go_wp2_with fail
      go_loopw [55] (fun i wr => ∃ k : Nat, k ≤ q ∧ i = .int .i64 k ∧ Hid (∃ vb2, TrS wr B g c vs Y (.slice (some ⟨gu, 0, none⟩) m cu) P ∧ StS wr B S H (.slice (some ⟨gl, offl, none⟩) n cl) (.slice (some ⟨g, 0, none⟩) q c) vb2 (updB s P (bstK H (bst H L) x Y k)) vs (.slice (some ⟨gu, 0, none⟩) m cu) ∧ (vb2 = vb ∨ ∀ b, vb2.ownBlock = some b → w.heap.size ≤ b) ∧ FrT w wr S g vs (.slice (some ⟨gu, 0, none⟩) m cu) ∧ Below B w wr)) (fun i _ => q - (intOf i).toNat)
      case atStart => exact ⟨0, Nat.zero_le _, rfl, Lib.hid (by have := hst.out; rw [HM.out, HN.out, HQ.out] at this; exact this)⟩
      case round =>
        clear hst c0 c1 c3 c4 x1 hge
        obtain ⟨k, hk, rfl, HR⟩ := hrel
        rename World => wr
        by_cases hlt : k < q
        · obtain ⟨vb2, hT, hS, hvb, hF, hB2⟩ := HR.out
          obtain ⟨l, hl⟩ := get_at HQ.out hlt
          obtain ⟨xv, hxv⟩ : ∃ xv, vs[k]? = some xv := ⟨_, List.getElem?_eq_getElem (by have := hT.len; have := HQ.out; omega)⟩
          have hrow := hT.row k xv l hxv hl
          obtain ⟨a2, c2, rfl⟩ := own_form hrow
          have cg : wr.cell? ⟨g, k, none⟩ = some (.slice a2 l.length c2) := by rw [hT.tab.cellAt k (by have := HQ.out; omega)]; exact hxv
          have l4 : l.length ≤ 4 := Nat.le_trans (HAs.out.2 l (List.mem_of_getElem? hl)) hH4
          have HW := Lib.hid hS.mem
          have cT := cell_of (i := 2) hS.mem rfl
          have cHi := cell_of (i := 1) hS.mem rfl
          by_cases h4 : l.length = H
          · have HN2 := Lib.hid (bstK_full (f := bst H L) (x := x) hl h4)
            rw [h4] at cg
            clear hT hS hvb hF hB2 hrow hl hxv h4
            go_wp2_with fail
            exact ⟨⟨k + 1, by omega, by go_num, Lib.hid (by rw [HN2.out]; exact HR.out)⟩, by simp [intOf]; omega⟩
          · have hmI : (((l.length : Nat) : Int) == (H : Int)) = false := beq_eq_false_iff_ne.2 (by omega)
            have HE := Lib.hid (earliestIn_any (.slice a2 l.length c2) l (by omega) wr (il_of_owns hrow))
            have HAr := Lib.hid (rowsH_put (x := x) HAs.out hl h4)
            have HStep := Lib.hid (bstK_open (f := bst H L) (x := x) hl h4)
            have HPut := Lib.hid (badN_put (x := x) hl)
            rw [HBN.out] at HPut
            have HT2 := Lib.hid hT
            have HS2 := Lib.hid hS
            have HV2 := Lib.hid hvb
            have HF2 := Lib.hid hF
            have HB2 := Lib.hid hB2
            have HL := Lib.hid hl
            have HXV := Lib.hid hxv
            have hSx := ne_state hS.mem hrow (by decide)
            have HBr := Lib.hid (Nat.le_trans hB hB2.size)
            obtain ⟨ml, hml2⟩ : ∃ z, l.length = z := ⟨_, rfl⟩
            have HML := Lib.hid hml2
            rw [hml2] at cg l4 hmI HE HXV hSx
            clear hT hS hvb hF hB2 hrow hl hxv h4 hml2
            have HBs := Lib.hid (And.intro HS2.out.lt HBr.out)
            have hSlt := HS2.out.lt
            have hSg : ¬ S = g := fun e => ne_state HW.out HT2.out.tab (by decide) (e ▸ rfl)
            have hgS : ¬ g = S := fun e => hSg e.symm
            have hkq : (k : Int) < (q : Int) := by omega
            have HIH2 := Lib.hid (fun (u2 vb3 : Value) (vs2 : List Value) (s2 : Option (List Int × Nat)) W h2 h3 h4 hBW h6 => HIH.out (putY Y k x) k u2 vb3 vs2 s2 W HAr.out (by rw [putY_len]; exact HQ.out) h2 h3 h4 hBW h6)
            by_cases he : earL l < x
            case' pos =>
              have hbi : decide (earL l < x) = true := by simpa using he
              have HAft : Hid ((badN (putY Y k x) : Int) = (bn : Int) + 1) := Lib.hid (by rw [HPut.out, if_pos he]; omega)
            case' neg =>
              have hbi : decide (earL l < x) = false := by simpa using he
              have HAft : Hid ((badN (putY Y k x) : Int) = (bn : Int)) := Lib.hid (by rw [HPut.out, if_neg he]; omega)
            all_goals
              rw [HAft.out] at HIH2
              generalize earL l = el at *
              clear he HIH HAft HPut
              go_wp2_with fail
              refine HE.out.mono ?_
              rintro e w2 ⟨rfl, rfl⟩
              go_wp2_with fail
              have HP := Lib.hid (fun (w5 : World) (v' : Value) (o : Obj) (ho : w5.ownsRow B 3 1 v' (ml + 1) (intV l ++ [.int .i64 x])) (hg : (wr.drew.alloc o).grownBy w5 (Value.slice a2 ml c2).ownBlock) (hf : OneForm (wr.drew.alloc o) w5 (Value.slice a2 ml c2) v' ml) =>
                aft_of HT2.out HXV.out HL.out HML.out (((Below.refl _ wr).drew).alloc (Nat.le_refl _) o) HBr.out ho hg hf cT hSx)
              have HU5 := Lib.hid (fun o => row_below (by have := HT2.out.row k _ l HXV.out HL.out; rw [HML.out] at this; exact this) (((Below.refl _ wr).drew).alloc (Nat.le_refl _) o))
              have hcA := fun o => (World.cell?_alloc_lt wr.drew o ⟨S, 2, none⟩ hSlt).trans cT
              have hcB := fun o => (World.cell?_alloc_lt wr o ⟨S, 2, none⟩ hSlt).trans cT
              have HZA := Lib.hid (fun o => Nat.le_trans HBr.out (below_one wr.drew o).size)
              clear HE
              go_cut [] from 74 to 83 (fun w6 => Hid (MidT wr w6 B g c vs Y (.slice (some ⟨gu, 0, none⟩) m cu) P k ml (.slice a2 ml c2) x))
              case first =>
                go_region_law (first | (refine step_int_form (by rfl) _ _ (by rfl) B _ ml (intV l) (by rfl) (HU5.out _) _ _ _ (by rfl) (cell_val_new _ _ _) (by simp [Value.oneCell']) (by omega) (HZA.out _) ?_; intro v5 w5 ho5 hg5 hat5; have HP5 := Lib.hid (HP.out w5 v5 _ ho5 hg5 hat5); obtain ⟨y5, p2⟩ := HP5.out.2.1; have p3 := HP5.out.2.2.1; have q1 := HP5.out.2.2.2; obtain ⟨a6, c6, rfl⟩ := own_form ho5; clear ho5 hg5 hat5))
                all_goals
                  have HPx := Lib.hid HP5.out.1
                  clear HP5 p2 p3 q1 y5
                  go_wp2_with fail
                  go_meet
                  exact HPx
              case rest =>
                clear HP HU5 hcA hcB HZA cT hSlt
                rename World => w6
                obtain ⟨xw, T6, FX, O6, B6⟩ := hcut.out
                have HLst : Hid (w6.ownsRow B 3 1 (.slice (some ⟨gu, 0, none⟩) m cu) m (intV P)) := Lib.hid (by have := T6.lst; rw [HM.out] at this; exact this)
                have HZ6 := Lib.hid (fun o => Nat.le_trans (Nat.le_trans HBr.out B6.size) (below_one w6 o).size)
                have HCl := Lib.hid (fun (w7 : World) (v7 : Value) (o : Obj) (ho : w7.ownsRow B 3 1 v7 (m + 1) (intV P ++ [.int .i64 (k : Int)])) (hg : (w6.alloc o).grownBy w7 (Value.slice (some ⟨gu, 0, none⟩) m cu).ownBlock) (hf : OneForm (w6.alloc o) w7 (Value.slice (some ⟨gu, 0, none⟩) m cu) v7 m) =>
                  call_of HT2.out HS2.out HXV.out HL.out HM.out HBr.out T6 FX O6 B6 ho hg hf)
                clear T6 FX O6 B6 hcut
                go_wp2_with (at_builtin; refine wpList_int_form rfl _ _ rfl B _ m (intV P) rfl (HLst.out.alloc _) ⟨w6.heap.size, 0, none⟩ 1 (.int .i64 (k : Int)) rfl (cell_one_new _ _ _) rfl (by omega) (HZ6.out _) ?_; intro v7 w7 ho7 hg7 hf7)
                obtain ⟨T7, S7, FX7, FU7, O7, B7⟩ := HCl.out w7 v7 _ ho7 hg7 hf7
                have HForm : ∃ gu cu, v7 = .slice (some ⟨gu, 0, none⟩) (P ++ [(k : Int)]).length cu := by
                  rw [show (P ++ [(k : Int)]).length = m + 1 by simp [HM.out]]
                  rcases hf7 with ⟨g1, cap, -, e2, -⟩ | ⟨e1, -⟩
                  · exact ⟨g1, cap, e2⟩
                  · rcases ho7.2 with ⟨rfl, e3⟩ | ⟨g1, cap, cur, rfl, -⟩
                    · simp [Value.ownBlock] at e1
                    · exact ⟨g1, cap, rfl⟩
                have HB7 := Lib.hid B7
                have HH7 := Lib.hid (And.intro FX7 (And.intro FU7 O7))
                have HCall := Lib.hid (HIH2.out v7 vb2 (vs.set k xw) _ w7 T7 S7 (fun W hb => by have := HO.out W (HB2.out.trans (B7.trans hb)); rw [HN.out] at this; exact this) (Nat.le_trans HBr.out B7.size) HForm)
                clear T7 S7 FX7 FU7 O7 B7 HForm ho7 hg7 hf7 HCl HLst HZ6
                refine HCall.out.mono ?_
                rintro e w8 ⟨rfl, vb8, T8, S8, hvb8, F8, B8⟩
                rw [putY_len, HQ.out] at S8
                have hSu := ne_state HW.out HT2.out.lst (by decide)
                have hs7 := HB7.out.size
                have T8' := T8.tab
                rw [putY_len, HQ.out] at T8'
                have cT := cell_of (i := 2) S8.mem rfl
                have cg8 : ∃ y, w8.cell? ⟨g, k, none⟩ = some y := ⟨_, (T8'.cellAt k (by omega)).trans (List.getElem?_set_self (lt_of_get HXV.out))⟩
                obtain ⟨y8, cg8⟩ := cg8
                have fr8 : w8.frozen? ⟨g, k, none⟩ = false := frozRow T8'
                clear T8'
                go_wp2_with fail
                obtain ⟨T9, F9, hgs⟩ := HT2.out.back HXV.out HL.out HML.out HM.out hSx hSu T8 HH7.out.1 HH7.out.2.1 F8 hs7 HH7.out.2.2
                obtain ⟨S9, hv9⟩ := HS2.out.pull HT2.out S8 T8 hvb8 hs7 hgs
                refine ⟨⟨k + 1, by omega, by go_num, Lib.hid ⟨vb8, T9, by rw [HStep.out, ← HPr.out]; exact S9, ?_, HF2.out.trans F9, HB2.out.trans ((HB7.out.trans B8).setCell (p := ⟨g, k, none⟩) (row_base HT2.out.tab g rfl) _)⟩⟩, by simp [intOf]; omega⟩
                rcases hv9 with e1 | e1
                · rw [e1]; exact HV2.out
                · exact .inr fun b hb => Nat.le_trans HB2.out.size (e1 b hb)
        · have ek : k = q := by omega
          subst ek
          clear hk
          go_wp2_with fail
          refine bodyPost_ret (v := .tuple #[]) (by simp [results, Try.results18, go_sem]) rfl ⟨rfl, ?_⟩
          have := HR.out
          rw [HN.out, HQ.out]
          exact this
end Go.Proofs.Ytjplbcfpbggnnaa
