/-
  What impl.IsValidContainers returns. No statement of the seat by itself.
-/
import Derived.Test.YtpmaaflpknjbmaaCListI
namespace Go.Proofs.Ytpmaaflpknjbmaa.C
open Go.RowKit

/-- A world in which all that lay in W lies unturned. -/
structure Later (W : World) where
  w : World
  h : Below W.heap.size W w
instance (W : World) : Inhabited (Later W) := ⟨⟨W, Below.refl _ _⟩⟩
/-- A region that draws its order, whose operations read and whose callees may lay blocks of their own: walked once, in the order of the text. -/
theorem wp_region_later {P : Program} {id : Nat} {Q : Exit → Act → World → Prop} {a : Act} {w : World} {l : List Oper} (hm : P.follows .mixedOrders = true) (hB : Region.lexB .any l.toArray = true)
    (h : wpQuiet P l.toArray (fun w' => ∃ p : Later w, w' = p.w) (fun a' => ∀ w', (∃ p : Later w, w' = p.w) → Q .normal a' w') l a) : (Code.region id l.toArray true).wp P Q a w :=
  wp_region_quiet (C := fun w' => ∃ p : Later w, w' = p.w) hm hB ⟨⟨w.drew, below_drew1 (Below.refl _ w)⟩, rfl⟩ (by simpa using h)
theorem calls_later {P : Program} {f : FuncId} {args : Array Value} {W : World} {p : Later W} {v : Value} (h : Calls P f args p.w fun e w' => e = .returned v ∧ Below p.w.heap.size p.w w') : Calls P f args p.w fun e w'' => e = .returned v ∧ ∃ p : Later W, w'' = p.w :=
  h.mono fun _ w' ⟨he, hb⟩ => ⟨he, ⟨w', p.h.trans (hb.mono p.h.size)⟩, rfl⟩
theorem Later.cell {W : World} {b o : Nat} {v : Value} (hb : b < W.heap.size) (hc : W.cell? ⟨b, o, none⟩ = some v) (p : Later W) : p.w.cell? ⟨b, o, none⟩ = some v := (p.h.cell (p := ⟨b, o, none⟩) hb).trans hc

set_option maxRecDepth 100000 in
set_option maxHeartbeats 4000000 in
theorem implList_any (g n c : Nat) (f : Nat → Cont) (hn : n ≤ 1048576) (hid : ∀ j, j < n → (f j).id.size ≤ 1048576) (hnc : n ≤ c) (w : World) (h : CAt w g 0 n f) :
    Calls Try.prog 29 #[.slice (some ⟨g, 0, none⟩) n c] w (GoodPost w (listB n f)) := by
  have H := Lib.hid h
  have HI := Lib.hid hid
  clear h hid
  by_cases h12 : n ≤ 12
  · go_enter Try.func29, Try.ntmps29
    go_wp2_with fail
    go_loopw [3, 4, 10] (fun _ _ i wr => ∃ k : Nat, k ≤ n ∧ i = .int .i64 k ∧ Hid (∀ j, j < k → okC f j = true) ∧ Hid (Below w.heap.size w wr)) (fun _ _ i _ => n - (intOf i).toNat)
    case atStart => exact ⟨0, Nat.zero_le _, rfl, Lib.hid (fun j hj => by omega), Lib.hid (Below.refl _ _)⟩
    case round =>
      obtain ⟨k, hk, rfl, HK, HB⟩ := hrel
      by_cases hlt : k < n
      · have HC := Lib.hid (H.out.below HB.out)
        obtain ⟨a0, a1, a2, a3, a4⟩ := HC.out.2 k hlt
        rw [Nat.zero_add] at *
        have HZ := Lib.hid (fun W => implGood_any (f k) W (by have := HI.out k hlt; unfold maxLen; omega))
        have HFd := Lib.hid (fun W h => indexOf_any g k c f (f k).id (by omega) W h)
        have HK2 : Hid (okC f k = true → ∀ j, j < k + 1 → okC f j = true) := Lib.hid fun h j hj => by
          by_cases e2 : j = k
          · subst e2; exact h
          · exact HK.out j (by omega)
        have HNo : Hid (okC f k = false → listB n f = false) := Lib.hid (listB_no n f k hlt)
        have HOk : Hid (okC f k = (goodB (f k) && decide (findU f (f k).id k = -1))) := Lib.hid rfl
        have hbd : -1 ≤ findU f (f k).id k ∧ findU f (f k).id k < (k : Int) ∨ findU f (f k).id k = -1 := findU_bd f (f k).id k
        generalize findU f (f k).id k = q at *
        generalize okC f k = ok at *
        generalize f k = x at *
        cases hg : goodB x with
        | false =>
          rw [hg] at HZ HOk
          have HL : Hid (listB n f = false) := Lib.hid (HNo.out (by rw [HOk.out]; rfl))
          obtain ⟨id, sz, wt, cg, pt⟩ := x
          clear hg
          simp only [contV] at *
          go_wp2_with fail
          have hW : Below w.heap.size w (wr.alloc (.cells #[.string id, .int .i64 sz, .int .i64 wt, .int .i64 cg, .int .i64 pt] 49)) := HB.out.alloc HB.out.size _
          have hz : wr.heap.size < (wr.alloc (.cells #[.string id, .int .i64 sz, .int .i64 wt, .int .i64 cg, .int .i64 pt] 49)).heap.size := by simp
          have e0 : (wr.alloc (.cells #[.string id, .int .i64 sz, .int .i64 wt, .int .i64 cg, .int .i64 pt] 49)).cell? ⟨wr.heap.size, 0, none⟩ = some (.string id) := by simp
          have e1 : (wr.alloc (.cells #[.string id, .int .i64 sz, .int .i64 wt, .int .i64 cg, .int .i64 pt] 49)).cell? ⟨wr.heap.size, 1, none⟩ = some (.int .i64 sz) := by simp
          have e2 : (wr.alloc (.cells #[.string id, .int .i64 sz, .int .i64 wt, .int .i64 cg, .int .i64 pt] 49)).cell? ⟨wr.heap.size, 2, none⟩ = some (.int .i64 wt) := by simp
          have e3 : (wr.alloc (.cells #[.string id, .int .i64 sz, .int .i64 wt, .int .i64 cg, .int .i64 pt] 49)).cell? ⟨wr.heap.size, 3, none⟩ = some (.int .i64 cg) := by simp
          have e4 : (wr.alloc (.cells #[.string id, .int .i64 sz, .int .i64 wt, .int .i64 cg, .int .i64 pt] 49)).cell? ⟨wr.heap.size, 4, none⟩ = some (.int .i64 pt) := by simp
          generalize wr.heap.size = B at *
          generalize wr.alloc (.cells #[.string id, .int .i64 sz, .int .i64 wt, .int .i64 cg, .int .i64 pt] 49) = W at *
          have HW := Lib.hid hW
          have L0 := fun p : Later W => p.cell hz e0
          have L1 := fun p : Later W => p.cell hz e1
          have L2 := fun p : Later W => p.cell hz e2
          have L3 := fun p : Later W => p.cell hz e3
          have L4 := fun p : Later W => p.cell hz e4
          clear hW e0 e1 e2 e3 e4
          refine wp_region_later (by kernel_rfl) (by kernel_rfl) ?_
          repeat (go_big_quiet_step ((go_at_call 43; exact calls_later (HZ.out _))))
          refine wpQuiet_nil ?_
          intro w5 hw'
          have h5 : Below W.heap.size W w5 := by obtain ⟨p, rfl⟩ := hw'; exact p.h
          clear hw'
          go_wp2_with fail
          go_ret
          exact ⟨by rw [HL.out]; rfl, HW.out.trans (h5.mono HW.out.size)⟩
        | true =>
          rw [hg] at HZ HOk
          clear hg
          have hki : (k : Int) ≤ (c : Int) := by omega
          obtain ⟨id, sz, wt, cg, pt⟩ := x
          simp only [contV] at *
          go_wp2_with fail
          have hW : Below w.heap.size w (wr.alloc (.cells #[.string id, .int .i64 sz, .int .i64 wt, .int .i64 cg, .int .i64 pt] 49)) := HB.out.alloc HB.out.size _
          have hz : wr.heap.size < (wr.alloc (.cells #[.string id, .int .i64 sz, .int .i64 wt, .int .i64 cg, .int .i64 pt] 49)).heap.size := by simp
          have e0 : (wr.alloc (.cells #[.string id, .int .i64 sz, .int .i64 wt, .int .i64 cg, .int .i64 pt] 49)).cell? ⟨wr.heap.size, 0, none⟩ = some (.string id) := by simp
          have e1 : (wr.alloc (.cells #[.string id, .int .i64 sz, .int .i64 wt, .int .i64 cg, .int .i64 pt] 49)).cell? ⟨wr.heap.size, 1, none⟩ = some (.int .i64 sz) := by simp
          have e2 : (wr.alloc (.cells #[.string id, .int .i64 sz, .int .i64 wt, .int .i64 cg, .int .i64 pt] 49)).cell? ⟨wr.heap.size, 2, none⟩ = some (.int .i64 wt) := by simp
          have e3 : (wr.alloc (.cells #[.string id, .int .i64 sz, .int .i64 wt, .int .i64 cg, .int .i64 pt] 49)).cell? ⟨wr.heap.size, 3, none⟩ = some (.int .i64 cg) := by simp
          have e4 : (wr.alloc (.cells #[.string id, .int .i64 sz, .int .i64 wt, .int .i64 cg, .int .i64 pt] 49)).cell? ⟨wr.heap.size, 4, none⟩ = some (.int .i64 pt) := by simp
          generalize wr.heap.size = B at *
          generalize wr.alloc (.cells #[.string id, .int .i64 sz, .int .i64 wt, .int .i64 cg, .int .i64 pt] 49) = W at *
          have HW := Lib.hid hW
          have L0 := fun p : Later W => p.cell hz e0
          have L1 := fun p : Later W => p.cell hz e1
          have L2 := fun p : Later W => p.cell hz e2
          have L3 := fun p : Later W => p.cell hz e3
          have L4 := fun p : Later W => p.cell hz e4
          clear hW e0 e1 e2 e3 e4
          have HCW : Hid (∀ p : Later W, CAt p.w g 0 k f) := Lib.hid fun p => (((H.out.below HW.out).below p.h).less (by omega))
          by_cases hq : q = -1
          · have HT : Hid (∀ j, j < k + 1 → okC f j = true) := Lib.hid (HK2.out (by rw [HOk.out]; simp [hq]))
            subst hq
            refine wp_region_later (by kernel_rfl) (by kernel_rfl) ?_
            repeat (go_big_quiet_step ((first | (go_at_call 43; exact calls_later (HZ.out _)) | (go_at_call 44; exact calls_later (HFd.out _ (HCW.out _))))))
            refine wpQuiet_nil ?_
            intro w5 hw'
            have h5 : Below W.heap.size W w5 := by obtain ⟨p, rfl⟩ := hw'; exact p.h
            clear hw'
            have B5 : Hid (Below w.heap.size w w5) := Lib.hid (HW.out.trans (h5.mono HW.out.size))
            clear h5
            go_wp2_with fail
            refine ⟨⟨k + 1, by omega, by go_num, HT, B5⟩, by simp [intOf]; omega⟩
          · have HL : Hid (listB n f = false) := Lib.hid (HNo.out (by rw [HOk.out]; simp [hq]))
            have hq0 : 0 ≤ q := by omega
            have hq1 : decide (0 ≤ q) = true := by simp; omega
            clear hq
            refine wp_region_later (by kernel_rfl) (by kernel_rfl) ?_
            repeat (go_big_quiet_step ((first | (go_at_call 43; exact calls_later (HZ.out _)) | (go_at_call 44; exact calls_later (HFd.out _ (HCW.out _))))))
            refine wpQuiet_nil ?_
            intro w5 hw'
            have h5 : Below W.heap.size W w5 := by obtain ⟨p, rfl⟩ := hw'; exact p.h
            clear hw'
            have B5 : Hid (Below w.heap.size w w5) := Lib.hid (HW.out.trans (h5.mono HW.out.size))
            clear h5
            go_wp2_with fail
            go_ret
            exact ⟨by rw [HL.out]; rfl, B5.out⟩
      · obtain rfl : k = n := by omega
        have HL := Lib.hid (listB_yes k f h12 HK.out)
        go_wp2_with fail
        go_ret
        exact ⟨by rw [HL.out]; rfl, HB.out⟩
  · have HL := Lib.hid (listB_big n f (by omega))
    go_enter Try.func29, Try.ntmps29
    go_wp2_with fail
    go_ret
    exact ⟨by rw [HL.out]; rfl, Below.refl _ _⟩
end Go.Proofs.Ytpmaaflpknjbmaa.C
