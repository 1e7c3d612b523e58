/-
  What impl.makeStep returns. No statement of the seat by itself.
-/
import Derived.Test.YtmkejgbbgknalaaStepM
namespace Go.Proofs.Ytmkejgbbgknalaa
open Go.RowKit

set_option maxRecDepth 100000 in
set_option maxHeartbeats 4000000 in
theorem implStep_any (v : Value) (Y : List (List Int)) (b t : Int) (h1 : Y.length ≤ 1048576) (h2 : tot Y ≤ 1048576) (w : World) (h : YdR w v Y) :
    Calls Try.prog 68 #[v, .agg #[.int .i64 b, .int .i64 t]] w (RetY w (stepR Y b t) (stepOk Y b t)) := by
  obtain ⟨v0, rfl, hv⟩ := h
  have HV := Lib.hid hv
  have F0 := Lib.hid (Fr3.start w v0 b t)
  have H1 := Lib.hid h1
  have H2 := Lib.hid h2
  obtain ⟨c0, c1, c2⟩ := F0.out.c
  clear hv h1 h2
  by_cases ht : t = -1
  · subst ht
    rw [stepR_take, stepOk_take]
    have HK : Hid (∀ W, Below w.heap.size w W → Calls Try.prog 106 #[.agg #[v0], .int .i64 b] W (RetY W (takeR Y b) (okT Y b))) := Lib.hid fun W hb => implTake_any _ Y _ H1.out H2.out W ⟨v0, rfl, HV.out.below hb⟩
    generalize okT Y b = ok at *
    generalize takeR Y b = Z at *
    go_enter Try.func68, Try.ntmps68
    go_wp2_with fail
    generalize ((w.alloc (.cells #[v0] 28)).alloc (.cells #[.int .i64 b, .int .i64 (-1)] 80)).alloc (.cells #[.slice none 0 0] 28) = W at *
    refine (HK.out W F0.out.bl).mono ?_
    rintro e w1 ⟨a, c, rfl, ho, hb⟩
    have F1 := Lib.hid (F0.out.below hb)
    have FD := Lib.hid (F1.out.done ho F0.out.lt)
    obtain ⟨z0, f0⟩ := F1.out.z
    have e7 := World.cell?_setCell_same _ _ (.slice a Z.length c) z0
    clear hb ho c0 c1 c2
    go_wp2_with fail
    refine bodyPost_ret (v := .tuple #[.agg #[.slice a Z.length c], .bool ok]) (by simp [results, Try.results68, go_sem, e7]) rfl ⟨a, c, rfl, FD.out.1, FD.out.2⟩
  · have hte : (t == -1) = false := by simpa using ht
    have HP : Hid (∀ W, Below w.heap.size w W → Calls Try.prog 95 #[.agg #[v0], .int .i64 b] W (RetP W (.tuple #[.int .i64 (plI Y b), .int .i64 (plK Y b), .bool (plB Y b)]))) := Lib.hid fun W hb => implPlace_eq _ Y _ H1.out H2.out W ⟨v0, rfl, HV.out.below hb⟩
    have HM : Hid (∀ W, Below w.heap.size w W → Calls Try.prog 99 #[.agg #[v0], .int .i64 (plI Y b), .int .i64 t] W (RetYI W (moveR Y (plI Y b) t) (moveX Y (plI Y b) t) (okM Y (plI Y b) t))) := Lib.hid fun W hb => implMove_any _ Y _ _ H1.out H2.out W ⟨v0, rfl, HV.out.below hb⟩
    have HS := Lib.hid (stepOk_move (Y := Y) (b := b) ht)
    have HR := Lib.hid (fun h => stepR_move (Y := Y) (b := b) ht h)
    have HN := Lib.hid (fun h => stepR_no (Y := Y) (b := b) (t := t) h)
    generalize stepR Y b t = R at *
    generalize stepOk Y b t = sok at *
    generalize moveR Y (plI Y b) t = Z at *
    generalize moveX Y (plI Y b) t = x at *
    generalize okM Y (plI Y b) t = okm at *
    generalize plI Y b = i at *
    generalize plK Y b = k at *
    cases hp : plB Y b with
    | false =>
      rw [hp] at HP HS
      obtain rfl : sok = false := by rw [HS.out]; rfl
      obtain rfl := HN.out rfl
      go_enter Try.func68, Try.ntmps68
      go_wp2_with fail
      generalize ((w.alloc (.cells #[v0] 28)).alloc (.cells #[.int .i64 b, .int .i64 t] 80)).alloc (.cells #[.slice none 0 0] 28) = W at *
      refine (HP.out W F0.out.bl).mono ?_
      rintro e w1 ⟨rfl, hb⟩
      have F1 := Lib.hid (F0.out.below hb)
      obtain ⟨z0, f0⟩ := F1.out.z
      have e7 := World.cell?_setCell_same _ _ (.slice none 0 0) z0
      clear hb c0 c1 c2
      go_wp2_with fail
      refine bodyPost_ret (v := .tuple #[.agg #[.slice none 0 0], .bool false]) (by simp [results, Try.results68, go_sem, e7]) rfl ⟨none, 0, rfl, OwnY.nil _ _ _ (Nat.le_refl _), F1.out.bl.setCell (p := ⟨w.heap.size + 1 + 1, 0, none⟩) (by show w.heap.size ≤ w.heap.size + 1 + 1; omega) _⟩
    | true =>
      rw [hp, Bool.true_and] at HS
      rw [hp] at HP
      go_enter Try.func68, Try.ntmps68
      go_wp2_with fail
      generalize ((w.alloc (.cells #[v0] 28)).alloc (.cells #[.int .i64 b, .int .i64 t] 80)).alloc (.cells #[.slice none 0 0] 28) = W at *
      refine (HP.out W F0.out.bl).mono ?_
      rintro e w1 ⟨rfl, hb⟩
      have F1 := Lib.hid (F0.out.below hb)
      clear hb c0 c1 c2
      obtain ⟨c0, c1, c2⟩ := F1.out.c
      go_wp2_with fail
      refine (HM.out _ F1.out.bl).mono ?_
      rintro e w2 ⟨a, c, rfl, ho, hb⟩
      have F2 := Lib.hid (F1.out.below hb)
      have F3 := Lib.hid (F2.out.below (below_one w2 (.cells #[.slice a Z.length c] 28)))
      have O3 := Lib.hid (ho.below (below_one w2 (.cells #[.slice a Z.length c] 28)))
      have hz := Lib.hid F1.out.lt
      have hw2 := Lib.hid (Nat.le_trans (Nat.le_of_lt F1.out.lt) hb.size)
      have hbx := Lib.hid (cell_of (heap_alloc_new w2 (.cells #[.slice a Z.length c] 28)) (i := 0) rfl)
      clear hb ho c0 c1 c2
      obtain ⟨c0, c1, c2⟩ := F2.out.c
      cases okm with
      | false =>
        rw [Bool.false_and] at HS
        obtain rfl := HS.out
        obtain rfl := HN.out rfl
        obtain ⟨d0, d1, d2⟩ := F3.out.c
        obtain ⟨z0, f0⟩ := F3.out.z
        have e7 := World.cell?_setCell_same _ _ (.slice none 0 0) z0
        go_wp2_with fail
        refine bodyPost_ret (v := .tuple #[.agg #[.slice none 0 0], .bool false]) (by simp [results, Try.results68, go_sem, e7]) rfl ⟨none, 0, rfl, OwnY.nil _ _ _ (Nat.le_refl _), F3.out.bl.setCell (p := ⟨w.heap.size + 1 + 1, 0, none⟩) (by show w.heap.size ≤ w.heap.size + 1 + 1; omega) _⟩
      | true =>
        rw [Bool.true_and] at HS
        by_cases hx : x = b
        · have hs := HS.out
          rw [decide_eq_true hx] at hs
          subst hs hx
          obtain rfl := HR.out rfl
          obtain ⟨d0, d1, d2⟩ := F3.out.c
          obtain ⟨z0, f0⟩ := F3.out.z
          have hb0 := hbx.out
          have e7 := World.cell?_setCell_same _ _ (.slice a R.length c) z0
          have FD := Lib.hid (F3.out.done (O3.out.mono (Nat.le_refl _) (by simp) (Nat.le_refl _)) hz.out)
          clear hte
          go_wp2_with fail
          refine bodyPost_ret (v := .tuple #[.agg #[.slice a R.length c], .bool true]) (by simp [results, Try.results68, go_sem, e7]) rfl ⟨a, c, rfl, FD.out.1, FD.out.2⟩
        · have hs := HS.out
          rw [decide_eq_false hx] at hs
          subst hs
          obtain rfl := HN.out rfl
          have hxb : (x == b) = false := by simpa using hx
          obtain ⟨d0, d1, d2⟩ := F3.out.c
          obtain ⟨z0, f0⟩ := F3.out.z
          have e7 := World.cell?_setCell_same _ _ (.slice none 0 0) z0
          go_wp2_with fail
          refine bodyPost_ret (v := .tuple #[.agg #[.slice none 0 0], .bool false]) (by simp [results, Try.results68, go_sem, e7]) rfl ⟨none, 0, rfl, OwnY.nil _ _ _ (Nat.le_refl _), F3.out.bl.setCell (p := ⟨w.heap.size + 1 + 1, 0, none⟩) (by show w.heap.size ≤ w.heap.size + 1 + 1; omega) _⟩
end Go.Proofs.Ytmkejgbbgknalaa
