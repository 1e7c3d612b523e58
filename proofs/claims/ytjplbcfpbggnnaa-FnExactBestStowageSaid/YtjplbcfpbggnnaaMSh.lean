/-
  What spec.l10Shifted and spec.ShiftedBoxes return. No statement of the seat by itself.
-/
import Derived.Test.YtjplbcfpbggnnaaMBox
import Derived.Deep.RegionHeldLaw
import Derived.Deep.CutRange
import Derived.Test.YtjplbcfpbggnnaaEarI
import Derived.Test.YtjplbcfpbggnnaaMZb
import Derived.Test.YtjplbcfpbggnnaaBadP
import Derived.Test.YtjplbcfpbggnnaaMAsk
namespace Go.Proofs.Ytjplbcfpbggnnaa
open Go.RowKit

/-- What a container's two cells say. -/
def FilB (P O : List Int) (wr : World) (xs : List Value) (i : Nat) : Prop := xs[i * 2]? = some (.int .i64 (P.getD i 0)) ∧ ∃ a m c, xs[i * 2 + 1]? = some (.slice a m c) ∧ TL wr (.slice a m c) (blZ P O i)
section
variable {w wr W : World} {r h : Int} {v0 vs : Value} {D lo hi gb n : Nat} {Y : List (List Int)} {xs : List Value} {P O : List Int}
theorem FilB.below {i : Nat} (f : FilB P O wr xs i) (hb : Below wr.heap.size wr W) : FilB P O W xs i := by
  obtain ⟨h1, a, m, c, h2, h3⟩ := f
  exact ⟨h1, a, m, c, h2, h3.below hb⟩
end
/-- What stowedBoxes answers. -/
def BoxP (w : World) (r h : Int) (P O : List Int) (e : Ending) (w' : World) : Prop := Below w.heap.size w w' ∧ ((okZ r h P O = false ∧ e = .returned (.tuple #[.slice none 0 0, .bool false])) ∨
  (okZ r h P O = true ∧ ∃ (g c : Nat) (fa : Nat → Option Addr) (fm fc : Nat → Nat), e = .returned (.tuple #[.slice (some ⟨g, 0, none⟩) O.length c, .bool true]) ∧ g < w'.heap.size ∧
    ∀ i, i < O.length → (w'.cell? ⟨g, 0 + i * 2, none⟩ = some (.int .i64 (P.getD i 0)) ∧ w'.cell? ⟨g, 0 + i * 2 + 1, none⟩ = some (.slice (fa i) (fm i) (fc i))) ∧ IL w' (.slice (fa i) (fm i) (fc i)) (blZ P O i)))





/-- The shifted containers. -/
def shR (r h : Int) (P O : List Int) : List Int := if okZ r h P O = true then numsW (shB P O) O.length else []
theorem shR_no {r h : Int} {P O : List Int} (g : okZ r h P O = false) : shR r h P O = [] := by simp [shR, g]
theorem shR_yes {r h : Int} {P O : List Int} (g : okZ r h P O = true) : shR r h P O = numsW (shB P O) O.length := by simp [shR, g]
theorem shR_len (r h : Int) (P O : List Int) : (shR r h P O).length ≤ 1048576 := by
  cases g : okZ r h P O with
  | false => rw [shR_no g]; simp
  | true =>
    rw [shR_yes g]
    obtain ⟨g1, g2, g3, g4, -, -, -⟩ := okZ_get g
    have := numsW_len (shB P O) O.length
    omega
theorem retL_num {w w1 w2 : World} {g c : Nat} {R : List Int} {ok : Bool} (ho : w2.ownsRow w1.heap.size 3 1 (.slice (some ⟨g, 0, none⟩) R.length c) R.length (intV R)) (hb : Below w1.heap.size w1 w2) (hb0 : Below w.heap.size w w1) : RetL w R ok (.returned (.tuple #[.slice (some ⟨g, 0, none⟩) R.length c, .bool ok])) w2 :=
  ⟨_, _, rfl, lo_of_own ho hb0.size, hb0.trans (hb.mono hb0.size)⟩

set_option maxRecDepth 100000 in
set_option maxHeartbeats 4000000 in
theorem l1Put_in (g2 i cap : Nat) (L : List Int) (hl : L.length = i) (k0 : Nat) (s : Int) (hs : L[k0]? = some s) (ha : L.Pairwise (· < ·)) (hi : i ≤ 100) (w : World) (hc : ∀ j, j < i → w.cell? ⟨g2, j, none⟩ = some (.int .i64 (L.getD j 0))) :
    Calls Try.prog 27 #[.slice (some ⟨g2, 0, none⟩) i cap, .int .i64 s] w fun e w' => e = .returned (.slice (some ⟨g2, 0, none⟩) i cap) ∧ w = w' := by
  have hk0 := lt_of_get hs
  have HC := Lib.hid hc
  have HA : Hid (∀ k, k < k0 → L.getD k 0 < s) := Lib.hid fun k hk => by
    have e1 : L.getD k 0 = L[k]'(by omega) := by simp [List.getD, List.getElem?_eq_getElem (show k < L.length by omega)]
    have e2 : s = L[k0]'hk0 := by rw [List.getElem?_eq_getElem hk0] at hs; injection hs with hs; exact hs.symm
    rw [e1, e2]
    exact List.pairwise_iff_getElem.1 ha k k0 _ _ hk
  have HE : Hid (L.getD k0 0 = s) := Lib.hid (getDI hs)
  have hki : k0 < i := by omega
  clear hc ha hs
  go_enter Try.func27, Try.ntmps27
  go_wp2_with fail
  go_loop [5] (fun x => ∃ k : Nat, k ≤ k0 ∧ x = .int .i64 k) (fun x => i - (intOf x).toNat)
  case atStart => exact ⟨0, Nat.zero_le _, rfl⟩
  case round =>
    obtain ⟨k, hk, rfl⟩ := hrel
    have hck := HC.out k (by omega)
    have hkI : k < i := by omega
    by_cases hlt : k < k0
    · have hys := HA.out k hlt
      generalize L.getD k 0 = y at *
      go_wp2_with fail
      exact ⟨⟨k + 1, by omega, by go_num⟩, by simp [intOf]; omega⟩
    · obtain rfl : k = k0 := by omega
      rw [HE.out] at hck
      have hss : ¬ s < s := by omega
      have hse : (s == s) = true := by simp
      go_wp2_with fail
      go_ret
      exact ⟨rfl, rfl⟩

/-- A number put into an ascending list of some call's own. -/
theorem l1Put_all (B g2 i cap : Nat) (L : List Int) (hl : L.length = i) (hi : i ≤ 100) (ha : L.Pairwise (· < ·)) (s : Int) (w : World) (ho : w.ownsRow B 3 1 (.slice (some ⟨g2, 0, none⟩) i cap) i (intV L)) (hB : B ≤ w.heap.size) :
    Calls Try.prog 27 #[.slice (some ⟨g2, 0, none⟩) i cap, .int .i64 s] w fun e w' => ∃ g c, e = .returned (.slice (some ⟨g, 0, none⟩) (insU s L).length c) ∧ w'.ownsRow B 3 1 (.slice (some ⟨g, 0, none⟩) (insU s L).length c) (insU s L).length (intV (insU s L)) ∧ Below w.heap.size w w' := by
  have hc : ∀ j, j < i → w.cell? ⟨g2, j, none⟩ = some (.int .i64 (L.getD j 0)) := fun j hj => by
    rw [ho.cellAt j (by omega), getV_of (by omega)]
  have hg : g2 < w.heap.size := (ho.lt g2 rfl).2
  by_cases hm : s ∈ L
  · obtain ⟨k0, hk0⟩ := List.getElem?_of_mem hm
    rw [insU_in hm]
    refine (l1Put_in g2 i cap L hl k0 s hk0 ha hi w hc).mono ?_
    rintro e w' ⟨rfl, rfl⟩
    exact ⟨g2, cap, by rw [hl], by rw [hl]; exact ho, Below.refl _ _⟩
  · rw [insU_out hm]
    have hcap : i ≤ cap := by
      rcases ho.2 with ⟨e, _⟩ | ⟨g5, cap5, cur5, e, _, _, h5, _⟩
      · cases e
      · injection e with e1 e2 e3; omega
    refine (l1Put_any g2 i cap L hl hi hcap s hm w hc hg).mono ?_
    rintro e w' ⟨v, rfl, hv, hown, hb⟩
    obtain ⟨g, c, rfl⟩ := own_some hown hv
    exact ⟨g, c, rfl, hown.mono hB, hb⟩

/-- While the shifted ones are collected. -/
structure ShS (w wr : World) (r h : Int) (v0 : Value) (hh : Int) (vs sv : Value) (S : List Int) : Prop where
  own : wr.ownsRow (w.heap.size + 2) 3 1 sv S.length (intV S)
  a : Box3 wr w.heap.size r h v0
  b : Box2 wr (w.heap.size + 1) hh vs
  bl : Below w.heap.size w wr
  hlt : w.heap.size + 2 ≤ wr.heap.size
section
variable {w wr W : World} {r h : Int} {v0 : Value} {hh : Int} {vs sv : Value} {S : List Int}
theorem ShS.below (g : ShS w wr r h v0 hh vs sv S) (hb : Below wr.heap.size wr W) : ShS w W r h v0 hh vs sv S :=
  ⟨row_below g.own hb, g.a.below hb, g.b.below hb, g.bl.trans (hb.mono g.bl.size), Nat.le_trans g.hlt hb.size⟩
theorem ShS.put {sv' : Value} {S' : List Int} (g : ShS w wr r h v0 hh vs sv S) (hb : Below wr.heap.size wr W) (ho : W.ownsRow (w.heap.size + 2) 3 1 sv' S'.length (intV S')) : ShS w W r h v0 hh vs sv' S' :=
  ⟨ho, g.a.below hb, g.b.below hb, g.bl.trans (hb.mono g.bl.size), Nat.le_trans g.hlt hb.size⟩
theorem ShS.start (w : World) (r h : Int) (v0 : Value) (hh : Int) (vs : Value) : ShS w (((w.alloc (.cells #[.int .i64 r, .int .i64 h, v0] 28)).alloc (.cells #[.int .i64 hh, vs] 45)).alloc (.cells #[] 3)) r h v0 hh vs (.slice (some ⟨w.heap.size + 1 + 1, 0, none⟩) 0 0) [] := by
  have hb0 := below_one w (.cells #[.int .i64 r, .int .i64 h, v0] 28)
  have hb1 := below_one (w.alloc (.cells #[.int .i64 r, .int .i64 h, v0] 28)) (.cells #[.int .i64 hh, vs] 45)
  have hb2 := below_one ((w.alloc (.cells #[.int .i64 r, .int .i64 h, v0] 28)).alloc (.cells #[.int .i64 hh, vs] 45)) (.cells #[] 3)
  have hs : (w.alloc (.cells #[.int .i64 r, .int .i64 h, v0] 28)).heap.size = w.heap.size + 1 := by simp
  have hs2 : ((w.alloc (.cells #[.int .i64 r, .int .i64 h, v0] 28)).alloc (.cells #[.int .i64 hh, vs] 45)).heap.size = w.heap.size + 1 + 1 := by simp
  have ho := own_empty ((w.alloc (.cells #[.int .i64 r, .int .i64 h, v0] 28)).alloc (.cells #[.int .i64 hh, vs] 45)) (.cells #[] 3) 3 rfl
  have hB := Box2.new (w.alloc (.cells #[.int .i64 r, .int .i64 h, v0] 28)) hh vs 45
  rw [hs] at hB
  rw [hs2] at ho
  exact ⟨ho, ((Box3.new w r h v0 28).below hb1).below hb2, hB.below hb2, (hb0.trans (hb1.mono hb0.size)).trans (hb2.mono (Nat.le_trans hb0.size hb1.size)), by rw [← hs2]; exact hb2.size⟩
end
/-- What is collected stays small. -/
theorem sh_small {P : List Int} {Y : List (List Int)} (hY : ∀ j t, t < (Y.getD j []).length → 1 ≤ (Y.getD j []).getD t 0 ∧ (Y.getD j []).getD t 0 ≤ 7) {i k m : Nat} (hk : k < (Y.getD i []).length) : (shM P (Y.getD i []) k (shK P (Y.getD i []) (shI P Y i) k) m).length ≤ 7 := by
  have h := asc_len (lo := 1) (hi := 7) (shM_asc (P := P) (l := Y.getD i []) (k := k) (shK_asc (P := P) (l := Y.getD i []) (shI_asc P Y i) k) m) (fun x hx => by
    rcases (shM_mem m).1 hx with ⟨rfl, -⟩ | hx
    · exact hY i k hk
    · rcases (shK_mem k).1 hx with ⟨t, ht, rfl, -⟩ | hx
      · exact hY i t (by omega)
      · obtain ⟨j, -, t, ht, rfl, -⟩ := (shI_mem i).1 hx
        exact hY j t ht) (by omega)
  omega

set_option maxRecDepth 100000 in
set_option maxHeartbeats 16000000 in
theorem l10Shifted_any (v vb : Value) (r h hh : Int) (P : List Int) (Y : List (List Int)) (hn : P.length ≤ 7) (hY5 : Y.length ≤ 5) (hY : ∀ j t, t < (Y.getD j []).length → 1 ≤ (Y.getD j []).getD t 0 ∧ (Y.getD j []).getD t 0 ≤ (P.length : Int)) (hY7 : ∀ j, (Y.getD j []).length ≤ 7) (w : World) (hv : StR w v r h P) (hb : BdR w vb hh Y) :
    Calls Try.prog 21 #[v, vb] w (NewN w (shI P Y Y.length)) := by
  obtain ⟨v0, rfl, hv⟩ := hv
  obtain ⟨vs, rfl, hs⟩ := hb
  have C0 := Lib.hid (ShS.start w r h v0 hh vs)
  have HV := Lib.hid hv
  have HY := Lib.hid hs
  have HB7 := Lib.hid hY7
  have HR7 := Lib.hid hY
  have HSm := Lib.hid (fun (i k m : Nat) hk => sh_small (P := P) (Y := Y) (fun j t ht => ⟨(hY j t ht).1, by have := (hY j t ht).2; omega⟩) (i := i) (k := k) (m := m) hk)
  obtain ⟨p, hp⟩ : ∃ p, P.length = p := ⟨_, rfl⟩
  have HP := Lib.hid hp
  obtain ⟨ap, cp, rfl⟩ := hv.form
  obtain ⟨q, hq⟩ : ∃ q, Y.length = q := ⟨_, rfl⟩
  have HQ := Lib.hid hq
  obtain ⟨ay, cy, rfl⟩ := hs.form
  rw [hp] at HV C0 hn HR7
  rw [hq] at HY C0 hY5
  rw [hp, hq]
  have c2 := C0.out.b.2.2
  clear hv hs hp hq hY hY7
  go_enter Try.func21, Try.ntmps21
  go_wp2_with fail
  clear c2
  go_loopw [5, 6] (fun s ii wr => ∃ (i g c : Nat), i ≤ q ∧ ii = .int .i64 i ∧ s = .slice (some ⟨g, 0, none⟩) (shI P Y i).length c ∧ Hid (ShS w wr r h (.slice ap p cp) hh (.slice ay q cy) (.slice (some ⟨g, 0, none⟩) (shI P Y i).length c) (shI P Y i))) (fun _ ii _ => q - (intOf ii).toNat)
  case atStart => exact ⟨0, _, _, Nat.zero_le _, rfl, rfl, C0⟩
  case round =>
    obtain ⟨i, g1, k1, hi, rfl, rfl, HR⟩ := hrel
    rename World => wr
    have b1 := HR.out.b.2.2
    by_cases hlt : i < q
    · obtain ⟨l, hl⟩ := get_at HQ.out hlt
      have hgl := getD_of hl
      obtain ⟨gy, oy, rfl, hgy, hcy⟩ : ∃ g off, ay = some ⟨g, off, none⟩ ∧ g < w.heap.size ∧ ∀ j l, Y[j]? = some l → ∃ u, w.cell? ⟨g, off + j, none⟩ = some u ∧ IL w u l := by
        obtain ⟨a', c', e, hh⟩ := HY.out
        injection e with e1 e2 e3
        subst e1
        exact hh (by have := HQ.out; omega)
      obtain ⟨u, hu, hil⟩ := hcy i l hl
      obtain ⟨al, cl, rfl⟩ := hil.form
      obtain ⟨m, hm⟩ : ∃ m, l.length = m := ⟨_, rfl⟩
      have HM := Lib.hid hm
      have hm7 := HB7.out i
      rw [hgl] at hm7
      have HIL := Lib.hid hil
      rw [hm] at hu hm7 HIL
      have HU := Lib.hid (fun W (hb : Below w.heap.size w W) => (hb.cell (p := ⟨gy, oy + i, none⟩) hgy).trans hu)
      have HSh := Lib.hid (show shI P Y (i + 1) = shK P l (shI P Y i) m by rw [shI, hgl, hm])
      have HR8 := Lib.hid (HR7.out i)
      have HS8 := Lib.hid (HSm.out i)
      rw [hgl] at HR8 HS8
      rw [hm] at HR8 HS8
      clear hcy hil hu hm hgl hl
      go_wp2_with fail
      go_loopw [5, 7] (fun s kk wr => ∃ (k g c : Nat), k ≤ m ∧ kk = .int .i64 k ∧ s = .slice (some ⟨g, 0, none⟩) (shK P l (shI P Y i) k).length c ∧ Hid (ShS w wr r h (.slice ap p cp) hh (.slice (some ⟨gy, oy, none⟩) q cy) (.slice (some ⟨g, 0, none⟩) (shK P l (shI P Y i) k).length c) (shK P l (shI P Y i) k))) (fun _ kk _ => m - (intOf kk).toNat)
      case atStart => exact ⟨0, _, _, Nat.zero_le _, rfl, rfl, HR⟩
      case round =>
        clear b1
        obtain ⟨k, g2, k2, hk, rfl, rfl, HR2⟩ := hrel
        rename World => wq
        have b1 := HR2.out.b.2.2
        have u1 := HU.out wq HR2.out.bl
        by_cases hkm : k < m
        · have HSk := Lib.hid (show shK P l (shI P Y i) (k + 1) = shM P l k (shK P l (shI P Y i) k) k from rfl)
          obtain ⟨a5, c5, e5, hh5⟩ := HIL.out
          injection e5 with e1 e2 e3
          obtain ⟨gl, ol, e6, hgl, hcl⟩ := hh5 (by have := HM.out; omega)
          rw [← e1] at e6
          subst e6
          clear e1 e2 e3
          have hkl : k < l.length := by rw [HM.out]; exact hkm
          have hgk := getDI2 hkl
          obtain ⟨ka, hka, hkap⟩ : ∃ ka : Nat, l.getD k 0 = (ka : Int) + 1 ∧ ka < p := ⟨(l.getD k 0 - 1).toNat, by have := HR8.out k hkm; omega, by have := HR8.out k hkm; omega⟩
          rw [hka] at hgk
          have HK := Lib.hid (fun W (hb : Below w.heap.size w W) => (hb.cell (p := ⟨gl, ol + k, none⟩) hgl).trans (hcl k _ hgk))
          obtain ⟨gp, op, rfl, hgp, hcp⟩ : ∃ g off, ap = some ⟨g, off, none⟩ ∧ g < w.heap.size ∧ ∀ i x, P[i]? = some x → w.cell? ⟨g, off + i, none⟩ = some (.int .i64 x) := by
            obtain ⟨a', c', e, hh⟩ := HV.out
            injection e with e1 e2 e3
            subst e1
            exact hh (by have := HP.out; omega)
          obtain ⟨pk, hpk⟩ := get_at HP.out hkap
          have HPk := Lib.hid (fun W (hb : Below w.heap.size w W) => (hb.cell (p := ⟨gp, op + ka, none⟩) hgp).trans (hcp ka _ hpk))
          have HZk : Hid (ptZ P (l.getD k 0) = pk) := Lib.hid (by rw [hka, ptZ_at, List.getD, hpk]; rfl)
          have hsk : IntKind.i64.wrap ((ka : Int) + 1 - 1) = (ka : Int) := by rw [IntKind.wrap_i64]; omega
          have hsk2 : (ka : Int) + 1 - 1 = (ka : Int) := by omega
          have HKA := Lib.hid hka
          have hSl0 := HS8.out k k hkm
          clear hgk hpk hkl hka
          go_wp2_with fail
          go_loopw [5, 8] (fun s tt wr => ∃ (t g c : Nat), t ≤ k ∧ tt = .int .i64 t ∧ s = .slice (some ⟨g, 0, none⟩) (shM P l k (shK P l (shI P Y i) k) t).length c ∧ Hid (ShS w wr r h (.slice (some ⟨gp, op, none⟩) p cp) hh (.slice (some ⟨gy, oy, none⟩) q cy) (.slice (some ⟨g, 0, none⟩) (shM P l k (shK P l (shI P Y i) k) t).length c) (shM P l k (shK P l (shI P Y i) k) t))) (fun _ tt _ => k - (intOf tt).toNat)
          case atStart => exact ⟨0, _, _, Nat.zero_le _, rfl, rfl, HR2⟩
          case round =>
            clear b1 u1
            obtain ⟨t, g3, k3, ht, rfl, rfl, HR3⟩ := hrel
            rename World => wt
            by_cases htk : t < k
            · have htl : t < l.length := by rw [HM.out]; omega
              have hgt := getDI2 htl
              obtain ⟨ta, hta, htap⟩ : ∃ ta : Nat, l.getD t 0 = (ta : Int) + 1 ∧ ta < p := ⟨(l.getD t 0 - 1).toNat, by have := HR8.out t (by omega); omega, by have := HR8.out t (by omega); omega⟩
              rw [hta] at hgt
              obtain ⟨pt, hpt⟩ := get_at HP.out htap
              have b1 := HR3.out.b.2.2
              have s2 := HR3.out.a.2.2.2
              have u1 := HU.out wt HR3.out.bl
              have n1 := HK.out wt HR3.out.bl
              have n2 := (HR3.out.bl.cell (p := ⟨gl, ol + t, none⟩) hgl).trans (hcl t _ hgt)
              have n3 := HPk.out wt HR3.out.bl
              have n4 := (HR3.out.bl.cell (p := ⟨gp, op + ta, none⟩) hgp).trans (hcp ta _ hpt)
              have HZt : Hid (ptZ P (l.getD t 0) = pt) := Lib.hid (by rw [hta, ptZ_at, List.getD, hpt]; rfl)
              have hst : IntKind.i64.wrap ((ta : Int) + 1 - 1) = (ta : Int) := by rw [IntKind.wrap_i64]; omega
              have hst2 : (ta : Int) + 1 - 1 = (ta : Int) := by omega
              have hSl := HS8.out k t hkm
              have HSh3 := Lib.hid (show shM P l k (shK P l (shI P Y i) k) (t + 1) = if ptZ P (l.getD t 0) < ptZ P (l.getD k 0) then insU (l.getD k 0) (shM P l k (shK P l (shI P Y i) k) t) else shM P l k (shK P l (shI P Y i) k) t from rfl)
              rw [HZk.out, HZt.out, HKA.out] at HSh3
              have HAsc := Lib.hid (shM_asc (P := P) (l := l) (k := k) (shK_asc (P := P) (l := l) (shI_asc P Y i) k) t)
              clear hgt hpt htl hta
              by_cases hlp : pt < pk
              · rw [if_pos hlp] at HSh3
                generalize shM P l k (shK P l (shI P Y i) k) t = ST at *
                have HPut := Lib.hid (fun W (hb : Below wt.heap.size wt W) => l1Put_all (w.heap.size + 2) g3 ST.length k3 ST rfl (by omega) HAsc.out ((ka : Int) + 1) W (row_below HR3.out.own hb) (Nat.le_trans HR3.out.hlt hb.size))
                generalize ST.length = nst at *
                go_wp2_with fail
                go_quiet (fail)
                have HBN : Hid (Below wt.heap.size wt (wt.drewN nq)) := Lib.hid (below_drewN (Below.refl _ _) nq)
                clear b1 s2 u1 n1 n2 n3 n4
                generalize wt.drewN nq = W9 at *
                have R9 := Lib.hid (HR3.out.below HBN.out)
                have b1 := R9.out.b.2.2
                have u1 := HU.out W9 R9.out.bl
                have n1 := HK.out W9 R9.out.bl
                go_wp2_with fail
                refine (HPut.out W9 HBN.out).mono ?_
                rintro e w5 ⟨g5, k5, rfl, ho5, hb5⟩
                have R5 := Lib.hid (R9.out.put hb5 ho5)
                clear ho5 hb5 b1 u1 n1
                rw [← HSh3.out] at R5 ⊢
                go_wp2_with fail
                go_roundw
                case rel => exact ⟨t + 1, _, _, by omega, by go_num, rfl, R5⟩
                case measure => simp [intOf]; omega
              · rw [if_neg hlp] at HSh3
                have HRx := HR3
                rw [← HSh3.out] at HRx
                have HRy := Lib.hid (fun q => HRx.out.below (below_drewN (Below.refl _ wt) q))
                rw [← HSh3.out]
                go_wp2_with fail
                go_quiet (fail)
                go_wp2_with fail
                go_roundw
                case rel => exact ⟨t + 1, _, _, by omega, by go_num, rfl, Lib.hid (HRy.out _)⟩
                case measure => simp [intOf]; omega
            · obtain rfl : t = k := by omega
              rw [← HSk.out] at HR3 ⊢
              go_wp2_with fail
              go_roundw
              case rel => exact ⟨t + 1, _, _, by omega, by go_num, rfl, HR3⟩
              case measure => simp [intOf]; omega
        · obtain rfl : k = m := by omega
          rw [← HSh.out] at HR2 ⊢
          go_wp2_with fail
          go_roundw
          case rel => exact ⟨i + 1, _, _, by omega, by go_num, rfl, HR2⟩
          case measure => simp [intOf]; omega
    · obtain rfl : i = q := by omega
      go_wp2_with fail
      go_ret
      exact ⟨_, _, rfl, HR.out.own.mono (by omega), HR.out.bl⟩

theorem bayZ_bounds {q : Nat} {O : List Int} {n : Nat} (hn : n ≤ 7) : (∀ j t, t < ((bayZ q O n).getD j []).length → 1 ≤ ((bayZ q O n).getD j []).getD t 0 ∧ ((bayZ q O n).getD j []).getD t 0 ≤ (n : Int)) ∧ ∀ j, ((bayZ q O n).getD j []).length ≤ 7 := by
  have key : ∀ j, (bayZ q O n).getD j [] = rowZ O n j ∨ (bayZ q O n).getD j [] = [] := fun j => by
    rcases Nat.lt_or_ge j q with h | h
    · exact .inl (bayZ_getD h n)
    · refine .inr ?_
      rw [List.getD, List.getElem?_eq_none (by rw [bayZ_len]; exact h)]
      rfl
  refine ⟨fun j t ht => ?_, fun j => ?_⟩
  · rcases key j with e | e
    · rw [e] at ht ⊢
      obtain ⟨i, h1, -, h3⟩ := rowZ_at ht
      rw [h3]
      omega
    · rw [e] at ht
      simp at ht
  · rcases key j with e | e
    · rw [e]
      exact Nat.le_trans (rowZ_len O j n) hn
    · rw [e]; simp
end Go.Proofs.Ytjplbcfpbggnnaa
