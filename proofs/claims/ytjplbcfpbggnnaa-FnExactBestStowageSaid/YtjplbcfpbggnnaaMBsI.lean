/-
  What impl.BestStowage returns. No statement of the seat by itself.
-/
import Derived.Test.YtjplbcfpbggnnaaTryJ
import Derived.Test.YtjplbcfpbggnnaaCopyI
import Derived.Test.YtjplbcfpbggnnaaMBox
import Derived.Test.YtjplbcfpbggnnaaMZb
import Derived.Deep.CutRange
import Derived.BigQuiet
namespace Go.Proofs.Ytjplbcfpbggnnaa
open Go.RowKit

theorem retLX_zero {w W : World} (hb : Below w.heap.size w W) : RetLX w [] 0 false (.returned (.tuple #[.slice (some ⟨W.heap.size, 0, none⟩) 0 0, .int .i64 0, .bool false])) (W.alloc (.cells #[] 3)) := by
  have h : (W.alloc (.cells #[] 3)).ownsRow W.heap.size 3 1 (.slice (some ⟨W.heap.size, 0, none⟩) 0 0) ([] : List Int).length (intV []) := by simpa [intV] using own_empty W (.cells #[] 3) 3 rfl
  exact ⟨_, _, rfl, lo_of_own h hb.size, hb.trans ((below_one W _).mono hb.size)⟩
/-- A table of rows of the call's own, as the search sees it, with an empty list beside it. -/
theorem trs_of {w : World} {B hi g n c : Nat} {u : Value} {Y : List (List Int)} (h : OwnY w B hi (.slice (some ⟨g, 0, none⟩) n c) Y) (hu : w.ownsRow B 3 1 u 0 (intV [])) (hx : ∀ b, u.ownBlock = some b → hi ≤ b) : n = Y.length ∧ ∃ vs, TrS w B g c vs Y u [] := by
  obtain ⟨h1, h2, us, h3, h4, h5, h6⟩ := h
  have hn : n = Y.length := by
    obtain ⟨a, c, e⟩ := own_form h3
    injection e
  subst hn
  refine ⟨rfl, us, h3, h4, fun j x l hx hl => (h5 j x l hx hl).1, h6, hu, fun j x b hx' hb e => ?_⟩
  obtain ⟨l, hl⟩ := get_at (Y := Y) (k := j) rfl (by have := lt_of_get hx'; omega)
  have h7 := (h5 j x l hx' hl).2 b hb
  have h8 := hx b e
  omega
/-- make([]int, 0, n): no number yet, room for n. -/
theorem make_room (n : Nat) (hn : n ≤ 1048576) (W : World) : ∃ o, (Instr.makeSlice 22 (.int .i64 0) (.int .i64 (n : Int))).run Try.prog W = .ok (.slice (some ⟨W.heap.size, 0, none⟩) 0 n) (W.alloc o) ∧
    (W.alloc o).ownsRow W.heap.size 3 1 (.slice (some ⟨W.heap.size, 0, none⟩) 0 n) 0 (intV []) := by
  obtain ⟨i, hi, hz, hs, hb⟩ := info_is info3
  have hb' : (i.bytes : Int) * (n : Int) ≤ 281474976710656 := by rw [hb]; omega
  have hr := run_make (P := Try.prog) W 22 3 i _ Try.underlying22 hi hz .i64 .i64 0 n (by omega) (by omega) hb' (by omega)
  have e : madeCells (Value.int .i64 0).cells (n * i.size) = (intV (List.replicate n 0)).toArray := by
    apply Array.toList_inj.1
    rw [hs, Nat.mul_one, show (Value.int .i64 0).cells = #[Value.int .i64 0] from rfl, toList_madeCells_one]; simp [intV]
  simp only [Int.toNat_natCast, Int.toNat_zero] at hr
  rw [e] at hr
  refine ⟨_, hr, rfl, .inr ⟨W.heap.size, n, _, rfl, Nat.le_refl _, heap_alloc_new W _, Nat.zero_le _, by unfold maxLen; omega, by simp [intV], by simp [intV]⟩⟩

/-- The state is made: the stowage's box, the state's, the rows. -/
structure BsS (w wr : World) (r h : Int) (v0 : Value) (A S : Nat) (B g n c : Nat) (Y : List (List Int)) : Prop where
  a : wr.heap[A]? = some (.cells #[.int .i64 r, .int .i64 h, v0] 28 (0, 0))
  d : wr.heap[S]? = some (.cells #[v0, .int .i64 h, .slice (some ⟨g, 0, none⟩) n c, .slice none 0 0, .int .i64 0, .bool false] 41 (0, 0))
  own : OwnY wr B wr.heap.size (.slice (some ⟨g, 0, none⟩) n c) Y
  bl : Below w.heap.size w wr
  hB : w.heap.size ≤ B
  hS : B ≤ S
  hsz : B ≤ wr.heap.size
/-- The rows were made first, then the state. -/
theorem bss_first {w w1 : World} {r h : Int} {v0 : Value} {A q : Nat} (hA : w1.heap[A]? = some (.cells #[.int .i64 r, .int .i64 h, v0] 28 (0, 0)))
    (hb : Below w.heap.size w w1) (hq : q ≤ 1048576) :
    BsS w (((w1.alloc (.cells (Array.replicate q (Value.slice none 0 0)) 22)).alloc (.cells #[v0, .int .i64 h, .slice (some ⟨w1.heap.size, 0, none⟩) q q, .slice none 0 0, .int .i64 0, .bool false] 41)).drew) r h v0 A (w1.heap.size + 1) w1.heap.size w1.heap.size q q (List.replicate q []) := by
  have h1 := below_one w1 (.cells (Array.replicate q (Value.slice none 0 0)) 22)
  have h2 := below_one (w1.alloc (.cells (Array.replicate q (Value.slice none 0 0)) 22)) (.cells #[v0, .int .i64 h, .slice (some ⟨w1.heap.size, 0, none⟩) q q, .slice none 0 0, .int .i64 0, .bool false] 41)
  have h3 := (h1.trans (h2.mono h1.size)).drew
  have hd := heap_alloc_new (w1.alloc (.cells (Array.replicate q (Value.slice none 0 0)) 22)) (.cells #[v0, .int .i64 h, .slice (some ⟨w1.heap.size, 0, none⟩) q q, .slice none 0 0, .int .i64 0, .bool false] 41)
  rw [show (w1.alloc (.cells (Array.replicate q (Value.slice none 0 0)) 22)).heap.size = w1.heap.size + 1 by simp] at hd
  refine ⟨(h3.block _ (mem_lt hA)).trans hA, hd, ?_, hb.trans (h3.mono hb.size), hb.size, Nat.le_succ _, h3.size⟩
  refine ((nils_own q hq w1).below h2.drew).mono (Nat.le_refl _) ?_ (Nat.le_refl _)
  simp [World.drew]
/-- The state was made first, then the rows. -/
theorem bss_second {w w1 : World} {r h : Int} {v0 : Value} {A q : Nat} (hA : w1.heap[A]? = some (.cells #[.int .i64 r, .int .i64 h, v0] 28 (0, 0)))
    (hb : Below w.heap.size w w1) (hq : q ≤ 1048576) :
    BsS w (((w1.alloc (.cells #[v0, .int .i64 h, .slice (some ⟨w1.heap.size + 1, 0, none⟩) q q, .slice none 0 0, .int .i64 0, .bool false] 41)).alloc (.cells (Array.replicate q (Value.slice none 0 0)) 22)).drew) r h v0 A w1.heap.size w1.heap.size (w1.heap.size + 1) q q (List.replicate q []) := by
  have h1 := below_one w1 (.cells #[v0, .int .i64 h, .slice (some ⟨w1.heap.size + 1, 0, none⟩) q q, .slice none 0 0, .int .i64 0, .bool false] 41)
  have h2 := below_one (w1.alloc (.cells #[v0, .int .i64 h, .slice (some ⟨w1.heap.size + 1, 0, none⟩) q q, .slice none 0 0, .int .i64 0, .bool false] 41)) (.cells (Array.replicate q (Value.slice none 0 0)) 22)
  have h3 := (h1.trans (h2.mono h1.size)).drew
  have hs : (w1.alloc (.cells #[v0, .int .i64 h, .slice (some ⟨w1.heap.size + 1, 0, none⟩) q q, .slice none 0 0, .int .i64 0, .bool false] 41)).heap.size = w1.heap.size + 1 := by simp
  have hd := heap_alloc_new w1 (.cells #[v0, .int .i64 h, .slice (some ⟨w1.heap.size + 1, 0, none⟩) q q, .slice none 0 0, .int .i64 0, .bool false] 41)
  have hd2 := (h2.block _ (mem_lt hd)).trans hd
  have ho := nils_own q hq (w1.alloc (.cells #[v0, .int .i64 h, .slice (some ⟨w1.heap.size + 1, 0, none⟩) q q, .slice none 0 0, .int .i64 0, .bool false] 41))
  rw [hs] at ho
  refine ⟨(h3.block _ (mem_lt hA)).trans hA, hd2, ?_, hb.trans (h3.mono hb.size), hb.size, Nat.le_refl _, h3.size⟩
  refine (ho.below (Below.refl _ _).drew).mono (Nat.le_succ _) ?_ (Nat.le_refl _)
  simp [World.drew]

set_option maxRecDepth 100000 in
set_option maxHeartbeats 16000000 in
theorem implBs_any (v : Value) (r h : Int) (P : List Int) (hn : P.length ≤ 1048576) (w : World) (hv : StR w v r h P) :
    Calls Try.prog 7 #[v] w (RetLX w (bsR r h P) (bsX r h P) (goodZ r h P)) := by
  obtain ⟨v0, rfl, hv⟩ := hv
  have B0 := Lib.hid (below_one w (.cells #[.int .i64 r, .int .i64 h, v0] 28))
  have HF := Lib.hid (implValidZ_any (.agg #[.int .i64 r, .int .i64 h, v0]) r h P hn _ ⟨v0, rfl, hv.below B0.out⟩)
  have HA := Lib.hid (heap_alloc_new w (.cells #[.int .i64 r, .int .i64 h, v0] 28))
  have HV := Lib.hid hv
  obtain ⟨p, hp⟩ : ∃ p, P.length = p := ⟨_, rfl⟩
  have HP := Lib.hid hp
  obtain ⟨a, c, rfl⟩ := hv.form
  rw [hp] at hn B0 HF HA HV ⊢
  have c0 := cell_of (i := 0) HA.out rfl
  have c1 := cell_of (i := 1) HA.out rfl
  have c2 := cell_of (i := 2) HA.out rfl
  clear hv hp
  cases hg : goodZ r h P with
  | false =>
    have HX := Lib.hid (bs_no hg)
    rw [hg] at HF
    clear hg
    go_enter Try.func7, Try.ntmps7
    go_wp2_with fail
    refine HF.out.mono ?_
    rintro e w1 ⟨rfl, hb⟩
    have B1 := Lib.hid (B0.out.trans (hb.mono B0.out.size))
    clear hb c0 c1 c2
    go_wp2_with fail
    go_ret3
    rw [HX.out.1, HX.out.2]
    exact retLX_zero B1.out
  | true =>
    rw [hg] at HF
    obtain ⟨g1, g2, g3, g4, g5, g6, -⟩ := goodZ_iff.1 hg
    obtain ⟨pl, cc, b1, b2, b3, b4⟩ := bs_yes hg
    obtain ⟨q, rfl⟩ : ∃ q : Nat, r = (q : Int) := ⟨r.toNat, by omega⟩
    obtain ⟨H, rfl⟩ : ∃ H : Nat, h = (H : Int) := ⟨h.toNat, by omega⟩
    have hq1 : 1 ≤ q := by omega
    have hq5 : q ≤ 5 := by omega
    have hH4 : H ≤ 4 := by omega
    have hp7 : p ≤ 7 := by have := HP.out; omega
    have HX := Lib.hid (And.intro b2 b3)
    have HS : Hid (updB none [] (bst H P (List.replicate q [])) = some (pl, cc)) := Lib.hid (by
      unfold bsO at b1
      rw [Int.toNat_natCast, Int.toNat_natCast] at b1
      rw [b1]; rfl)
    clear hg g1 g2 g3 g4 g5 g6 b1 b2 b3 b4
    go_enter Try.func7, Try.ntmps7
    go_wp2_with fail
    refine HF.out.mono ?_
    rintro e w1 ⟨rfl, hb⟩
    have B1 := Lib.hid (B0.out.trans (hb.mono B0.out.size))
    have ha1 := (hb.block _ (mem_lt HA.out)).trans HA.out
    have HA1 := Lib.hid ha1
    have hdD := heap_alloc_new w1 (.cells #[.slice none 0 0, .int .i64 0, .slice none 0 0, .slice none 0 0, .int .i64 0, .bool false] 41)
    have hltD := mem_lt hdD
    obtain ⟨hmk, -⟩ := make_nils q (by omega) (w1.alloc (.cells #[.slice none 0 0, .int .i64 0, .slice none 0 0, .slice none 0 0, .int .i64 0, .bool false] 41)).drew
    obtain ⟨hmk2, -⟩ := make_nils q (by omega) w1.drew
    have hl1 := mem_lt ha1
    have a0 := cell_of (i := 0) ha1 rfl
    have a1 := cell_of (i := 1) ha1 rfl
    have a2 := cell_of (i := 2) ha1 rfl
    have j0 := fun o => (World.cell?_alloc_lt w1 o ⟨w.heap.size, 0, none⟩ hl1).trans a0
    have j1 := fun o => (World.cell?_alloc_lt w1 o ⟨w.heap.size, 1, none⟩ hl1).trans a1
    have j2 := fun o => (World.cell?_alloc_lt w1 o ⟨w.heap.size, 2, none⟩ hl1).trans a2
    have i0 := fun o o2 => (World.cell?_alloc_lt (w1.alloc o) o2 ⟨w.heap.size, 0, none⟩ (by simp; exact Nat.lt_succ_of_lt hl1)).trans (j0 o)
    have i1 := fun o o2 => (World.cell?_alloc_lt (w1.alloc o) o2 ⟨w.heap.size, 1, none⟩ (by simp; exact Nat.lt_succ_of_lt hl1)).trans (j1 o)
    have i2 := fun o o2 => (World.cell?_alloc_lt (w1.alloc o) o2 ⟨w.heap.size, 2, none⟩ (by simp; exact Nat.lt_succ_of_lt hl1)).trans (j2 o)
    have m0 := fun o => (World.cell?_alloc_lt (w1.alloc (.cells #[.slice none 0 0, .int .i64 0, .slice none 0 0, .slice none 0 0, .int .i64 0, .bool false] 41)) o ⟨w1.heap.size, 0, none⟩ hltD).trans (cell_of (i := 0) hdD rfl)
    have m1 := fun o => (World.cell?_alloc_lt (w1.alloc (.cells #[.slice none 0 0, .int .i64 0, .slice none 0 0, .slice none 0 0, .int .i64 0, .bool false] 41)) o ⟨w1.heap.size, 1, none⟩ hltD).trans (cell_of (i := 1) hdD rfl)
    have m2 := fun o => (World.cell?_alloc_lt (w1.alloc (.cells #[.slice none 0 0, .int .i64 0, .slice none 0 0, .slice none 0 0, .int .i64 0, .bool false] 41)) o ⟨w1.heap.size, 2, none⟩ hltD).trans (cell_of (i := 2) hdD rfl)
    have m3 := fun o => (World.cell?_alloc_lt (w1.alloc (.cells #[.slice none 0 0, .int .i64 0, .slice none 0 0, .slice none 0 0, .int .i64 0, .bool false] 41)) o ⟨w1.heap.size, 3, none⟩ hltD).trans (cell_of (i := 3) hdD rfl)
    have m4 := fun o => (World.cell?_alloc_lt (w1.alloc (.cells #[.slice none 0 0, .int .i64 0, .slice none 0 0, .slice none 0 0, .int .i64 0, .bool false] 41)) o ⟨w1.heap.size, 4, none⟩ hltD).trans (cell_of (i := 4) hdD rfl)
    have m5 := fun o => (World.cell?_alloc_lt (w1.alloc (.cells #[.slice none 0 0, .int .i64 0, .slice none 0 0, .slice none 0 0, .int .i64 0, .bool false] 41)) o ⟨w1.heap.size, 5, none⟩ hltD).trans (cell_of (i := 5) hdD rfl)
    have mf : ∀ o i, ((w1.alloc (.cells #[.slice none 0 0, .int .i64 0, .slice none 0 0, .slice none 0 0, .int .i64 0, .bool false] 41)).alloc o).frozen? ⟨w1.heap.size, i, none⟩ = false := fun o i => free_of ((heap_alloc_old (w1.alloc (.cells #[.slice none 0 0, .int .i64 0, .slice none 0 0, .slice none 0 0, .int .i64 0, .bool false] 41)) o w1.heap.size hltD).trans hdD)
    clear hb c0 c1 c2 ha1 HF HA hdD hltD hl1
    go_wp2_with fail
    go_cut [5] from 18 (fun x w6 => ∃ (S g : Nat), x = .pointer (some ⟨S, 0, none⟩) ∧ Hid (BsS w w6 (q : Int) (H : Int) (.slice a p c) w.heap.size S w1.heap.size g q q (List.replicate q [])))
    case first =>
      go_region_law (fail)
      all_goals
        go_wp2_with fail
        go_meet
        first
          | exact ⟨_, _, rfl, Lib.hid (bss_first HA1.out B1.out (by omega))⟩
          | exact ⟨_, _, rfl, Lib.hid (bss_second HA1.out B1.out (by omega))⟩
    case rest =>
      obtain ⟨S, g, rfl, HBs⟩ := hcut
      rename World => w3
      have a2 := cell_of (i := 2) HBs.out.a rfl
      clear hmk hmk2 HA1 a0 a1 j0 j1 j2 i0 i1 i2 m0 m1 m2 m3 m4 m5 mf
      obtain ⟨o, hmk, hmo⟩ := make_room p hn w3
      have BM := below_one w3 o
      have hm5 := (BM.block _ (mem_lt HBs.out.d)).trans HBs.out.d
      have O5 := HBs.out.own.below BM
      have B5 := Lib.hid (HBs.out.bl.trans (BM.mono HBs.out.bl.size))
      have hszB := HBs.out.hsz
      have hB5 : w1.heap.size ≤ (w3.alloc o).heap.size := Nat.le_trans hszB BM.size
      have hwB := HBs.out.hB
      have HwB := Lib.hid hwB
      obtain ⟨-, vs, T5⟩ := trs_of O5 (hmo.mono hszB) (fun b e => by
        simp only [Value.ownBlock, Option.some.injEq] at e
        omega)
      have S5 : StS (w3.alloc o) w1.heap.size S H (.slice a p c) (.slice (some ⟨g, 0, none⟩) (List.replicate q ([] : List Int)).length q) (.slice none 0 0) none vs (.slice (some ⟨w3.heap.size, 0, none⟩) 0 p) := ⟨by rw [List.length_replicate]; exact hm5, own_nil _ _, fun b e => by simp [Value.ownBlock] at e, fun b e => by simp [Value.ownBlock] at e⟩
      have HC := Lib.hid (implTry_any P P [] (List.replicate q []) _ _ _ vs none w1.heap.size S H g q ⟨by simp; omega, fun l hl => by rw [List.mem_replicate] at hl; rw [hl.2]; simp⟩ hH4 rfl (by simp) (by rw [HP.out]; omega) _ T5 S5 (fun W hb => HV.out.below (B5.out.trans (hb.mono hwB))) hB5 HBs.out.hS ⟨_, _, rfl⟩)
      have e0 : ((badN (List.replicate q []) : Nat) : Int) = 0 := by rw [badN_nil]; rfl
      rw [e0, HS.out] at HC
      clear T5 S5 O5 hmo hm5 BM HBs e0
      go_wp2_with fail
      generalize w3.alloc o = w5 at *
      refine HC.out.mono ?_
      rintro e w6 ⟨rfl, vb', -, hS6, -, -, hb6⟩
      have own6 : w6.ownsRow w1.heap.size 3 1 vb' pl.length (intV pl) := hS6.own
      have mem6 := hS6.mem
      rw [show bstF (some (pl, cc)) = (cc : Int) from rfl] at mem6
      obtain ⟨av, cv, e⟩ := own_form own6
      subst e
      have c3 := cell_of (i := 3) mem6 rfl
      have c4 := cell_of (i := 4) mem6 rfl
      have HO := Lib.hid (lo_of_own (w := w) own6 HwB.out)
      have B6 := Lib.hid (B5.out.trans (hb6.mono HwB.out))
      clear hS6 hb6 HC own6 mem6 a2
      go_wp2_with fail
      go_quiet (fail)
      go_wp2_with fail
      go_ret3
      rw [HX.out.1, HX.out.2]
      exact ⟨_, _, rfl, lo_of_own (HO.out.below (below_drewN (Below.refl _ _) _)).2.1 (Nat.le_refl _), below_drewN B6.out _⟩
end Go.Proofs.Ytjplbcfpbggnnaa
