/-
  What impl.FormatInt and impl.ParseInt return. No statement of the seat by itself.
-/
import Derived.Test.YtcpelnnadabnpaaDoorELaid
import Derived.Test.YtcpelnnadabnpaaDoorERead
import Derived.Test.YtcpelnnadabnpaaDoorEText
import Derived.Shelf.Strconv.Itoa3
import Derived.Shelf.Strconv.AtoiAll
import Derived.Shelf.Strconv.ErrVarAll
import Derived.Stop.LaidErr
namespace Go.Proofs.YtcpelnnadabnpaaDoor
open Go.RowKit Go.Shelf

theorem str_eq (a : List UInt8) (s : ByteArray) (h : a = s.data.toList) : ((⟨a.toArray⟩ : ByteArray).toList == s.toList) = true ∧ (a == s.toList) = true := by
  rw [ByteArray.toList_eq, ByteArray.toList_eq]; simp [h]
theorem str_ne (a : List UInt8) (s : ByteArray) (h : ¬ a = s.data.toList) : ((⟨a.toArray⟩ : ByteArray).toList == s.toList) = false ∧ (a == s.toList) = false := by
  rw [ByteArray.toList_eq, ByteArray.toList_eq]; simp [h]

set_option maxHeartbeats 400000 in
theorem implFormat_in (n : Int) (w : World) (h1 : -999999 ≤ n) (h2 : n ≤ 999999) (htab : Lib.TabIs Tryd.prog w "internal/strconv.uint64pow10" .u64 Lib.pow10Tab) :
    Calls Tryd.prog 27 #[.int .i64 n] w fun e w' => e = .returned (.tuple #[.string ⟨(Lib.itoa n).toArray⟩, .bool true]) ∧ Below w.heap.size w w' := by
  have HT := Lib.hid htab
  clear htab
  go_enter Tryd.func27, Tryd.ntmps27
  go_wp2_with (go_at_call 14; refine (Any.strconv_Itoa Tryd.laysM171 n (by omega) (by omega) _ HT.out).mono ?_; rintro e w' ⟨rfl, k, os, rfl⟩)
  go_ret2
  exact ⟨rfl, Lib.below_grow _ _ (Nat.le_refl _) _ _⟩

set_option maxHeartbeats 400000 in
theorem implFormat_out (n : Int) (w : World) (h : n < -999999 ∨ 999999 < n) :
    Calls Tryd.prog 27 #[.int .i64 n] w fun e w' => e = .returned (.tuple #[.string ⟨#[]⟩, .bool false]) ∧ w' = w := by
  rcases h with h | h
  · go_enter Tryd.func27, Tryd.ntmps27
    go_wp2_with fail
    go_ret2
    exact ⟨rfl, rfl⟩
  · go_enter Tryd.func27, Tryd.ntmps27
    go_wp2_with fail
    go_ret2
    exact ⟨rfl, rfl⟩
theorem atoi_good (s : ByteArray) (hs : s.size ≤ 1048576) (v : Int) (h : Lib.atoiAll s.data.toList = .ok v) (w : World) :
    Calls Tryd.prog 26 #[.string s] w fun e w' => e = .returned (.tuple #[.int .i64 v, .nilIface]) ∧ Below w.heap.size w w' :=
  (Any.strconv_Atoi_ok Tryd.laysC172 s (by omega) v h w).mono fun e w' ⟨he, hw⟩ => ⟨he, by
    rcases hw with rfl | ⟨t, rfl⟩
    · exact Below.refl _ _
    · exact Lib.bytesWorld_below _ _ _⟩

/-- The two variables of the library hold errors. -/
def ErrVars (w : World) : Prop := (∃ tp p, w.var? Tryd.prog "strconv.ErrSyntax" = some #[.iface tp p]) ∧ ∃ tp p, w.var? Tryd.prog "strconv.ErrRange" = some #[.iface tp p]

def BadAtoi (w : World) (e : Ending) (w' : World) : Prop := ∃ (x : Int) (N : Nat), e = .returned (.tuple #[.int .i64 x, .iface 73 (.pointer (some ⟨N, 0, none⟩))]) ∧ Below w.heap.size w w'

theorem atoi_bad (s : ByteArray) (hs : s.size ≤ 1048576) (h : ∀ v, Lib.atoiAll s.data.toList ≠ .ok v) (w : World) (hE : ErrVars w) :
    Calls Tryd.prog 26 #[.string s] w (BadAtoi w) := by
  obtain ⟨⟨t1, p1, e1⟩, ⟨t2, p2, e2⟩⟩ := hE
  rcases hx : Lib.atoiAll s.data.toList with v | _ | _
  · exact absurd hx (h v)
  · exact (Any.strconv_Atoi_syntax_var Tryd.laysC172 s (by omega) hx t1 p1 w e1).mono fun e w' ⟨N, he, _, _, hb⟩ => ⟨_, N, he, hb⟩
  · exact (Any.strconv_Atoi_range_var Tryd.laysC172 s (by omega) hx t2 p2 w e2).mono fun e w' ⟨N, he, _, _, hb⟩ => ⟨_, N, he, hb⟩

def PairBelow (w : World) (x : Int × Bool) (e : Ending) (w' : World) : Prop := e = .returned (.tuple #[.int .i64 x.1, .bool x.2]) ∧ Below w.heap.size w w'

set_option maxHeartbeats 400000 in
theorem implParse_bad (s : ByteArray) (hs : s.size ≤ 1048576) (h : ∀ v, Lib.atoiAll s.data.toList ≠ .ok v) (w : World) (hE : ErrVars w) :
    Calls Tryd.prog 21 #[.string s] w (PairBelow w (0, false)) := by
  have H := Lib.hid h
  clear h
  go_enter Tryd.func21, Tryd.ntmps21
  go_wp2_with (go_at_call 26; refine (atoi_bad s hs H.out _ hE).mono ?_; rintro e w' ⟨x, N, rfl, hb⟩)
  go_ret2
  exact ⟨rfl, hb⟩

set_option maxHeartbeats 400000 in
theorem implParse_out (s : ByteArray) (hs : s.size ≤ 1048576) (v : Int) (H : Hid (Lib.atoiAll s.data.toList = .ok v)) (hv : v < -999999 ∨ 999999 < v) (w : World) :
    Calls Tryd.prog 21 #[.string s] w (PairBelow w (0, false)) := by
  have HV := Lib.hid hv
  clear hv
  go_enter Tryd.func21, Tryd.ntmps21
  go_wp2_with (first | (go_at_call 26; refine (atoi_good s hs v H.out _).mono ?_; rintro e w1 ⟨rfl, hb⟩) | (go_at_call 27; refine (implFormat_out v _ HV.out).mono ?_; rintro e w2 ⟨rfl, rfl⟩))
  go_ret2
  exact ⟨rfl, hb⟩

set_option maxHeartbeats 400000 in
theorem implParse_same (s : ByteArray) (hs : s.size ≤ 1048576) (v : Int) (H : Hid (Lib.atoiAll s.data.toList = .ok v)) (h1 : -999999 ≤ v) (h2 : v ≤ 999999) (hi : Lib.itoa v = s.data.toList) (w : World) (htab : Lib.TabIs Tryd.prog w "internal/strconv.uint64pow10" .u64 Lib.pow10Tab) :
    Calls Tryd.prog 21 #[.string s] w (PairBelow w (v, true)) := by
  obtain ⟨hc1, hc2⟩ := str_eq _ s hi
  have HT := Lib.hid (Lib.tabBelow_of_tabIs htab)
  clear htab hi
  go_enter Tryd.func21, Tryd.ntmps21
  go_wp2_with (first | (go_at_call 26; refine (atoi_good s hs v H.out _).mono ?_; rintro e w1 ⟨rfl, hb⟩) | (go_at_call 27; refine (implFormat_in v _ h1 h2 (HT.out _ hb)).mono ?_; rintro e w2 ⟨rfl, hb2⟩))
  go_ret2
  exact ⟨rfl, hb.trans (hb2.mono hb.size)⟩

set_option maxHeartbeats 400000 in
theorem implParse_other (s : ByteArray) (hs : s.size ≤ 1048576) (v : Int) (H : Hid (Lib.atoiAll s.data.toList = .ok v)) (h1 : -999999 ≤ v) (h2 : v ≤ 999999) (hi : ¬ Lib.itoa v = s.data.toList) (w : World) (htab : Lib.TabIs Tryd.prog w "internal/strconv.uint64pow10" .u64 Lib.pow10Tab) :
    Calls Tryd.prog 21 #[.string s] w (PairBelow w (0, false)) := by
  obtain ⟨hc1, hc2⟩ := str_ne _ s hi
  have HT := Lib.hid (Lib.tabBelow_of_tabIs htab)
  clear htab hi
  go_enter Tryd.func21, Tryd.ntmps21
  go_wp2_with (first | (go_at_call 26; refine (atoi_good s hs v H.out _).mono ?_; rintro e w1 ⟨rfl, hb⟩) | (go_at_call 27; refine (implFormat_in v _ h1 h2 (HT.out _ hb)).mono ?_; rintro e w2 ⟨rfl, hb2⟩))
  go_ret2
  exact ⟨rfl, hb.trans (hb2.mono hb.size)⟩

theorem implParse_any (s : ByteArray) (hs : s.size ≤ 1048576) (w : World) (htab : Lib.TabIs Tryd.prog w "internal/strconv.uint64pow10" .u64 Lib.pow10Tab) (hE : ErrVars w) :
    Calls Tryd.prog 21 #[.string s] w (PairBelow w (readL s.data.toList)) := by
  rw [read_eq]
  by_cases h : ∃ v, Lib.atoiAll s.data.toList = .ok v
  · obtain ⟨v, hv⟩ := h
    by_cases hr : -999999 ≤ v ∧ v ≤ 999999
    · by_cases hi : Lib.itoa v = s.data.toList
      · have e : implL s.data.toList = (v, true) := by unfold implL; rw [hv]; simp only; rw [if_pos ⟨hr, hi⟩]
        rw [e]
        exact implParse_same s hs v (Lib.hid hv) hr.1 hr.2 hi w htab
      · have e : implL s.data.toList = (0, false) := by unfold implL; rw [hv]; simp only; rw [if_neg (fun hx => hi hx.2)]
        rw [e]
        exact implParse_other s hs v (Lib.hid hv) hr.1 hr.2 hi w htab
    · have e : implL s.data.toList = (0, false) := by unfold implL; rw [hv]; simp only; rw [if_neg (fun hx => hr hx.1)]
      rw [e]
      exact implParse_out s hs v (Lib.hid hv) (by omega) w
  · have e : implL s.data.toList = (0, false) := by
      unfold implL
      split
      · rename_i v hv
        exact absurd ⟨v, hv⟩ h
      · rfl
    rw [e]
    exact implParse_bad s hs (fun v hv => h ⟨v, hv⟩) w hE


theorem var_below {P : Program} {w w' : World} {name : String} {cs : Array Value} (h : w.var? P name = some cs) (hb : Below w.heap.size w w') : w'.var? P name = some cs := by
  unfold World.var? at *
  cases hg : P.globalNamed name with
  | none => simp [hg] at h
  | some g =>
    rw [hg] at h
    simp only [Option.bind_some] at h ⊢
    have hlt : g < w.heap.size := by
      by_cases hh : g < w.heap.size
      · exact hh
      · rw [Array.getElem?_eq_none (by omega)] at h
        cases h
    rw [hb.block g hlt]
    exact h
/-- What is asked of the library's variables. -/
def Tabs (w : World) : Prop := (Lib.TabIs Tryd.prog w "internal/strconv.uint64pow10" .u64 Lib.pow10Tab ∧ ErrVars w) ∧ ∃ m, w.cell? ⟨1, 0, none⟩ = some (.int .i64 m)
theorem cell_lt {w : World} {b i : Nat} {x : Value} (h : w.cell? ⟨b, i, none⟩ = some x) : b < w.heap.size := by
  by_cases hb : b < w.heap.size
  · exact hb
  · have : w.heap[b]? = none := by simp; omega
    simp [World.cell?, this] at h
theorem Tabs.below {w w' : World} (h : Tabs w) (hb : Below w.heap.size w w') : Tabs w' := by
  obtain ⟨⟨h1, ⟨t1, p1, e1⟩, ⟨t2, p2, e2⟩⟩, m, hm⟩ := h
  exact ⟨⟨Lib.tabBelow_of_tabIs h1 _ hb, ⟨t1, p1, var_below e1 hb⟩, ⟨t2, p2, var_below e2 hb⟩⟩, m, (hb.cell (p := ⟨1, 0, none⟩) (cell_lt hm)).trans hm⟩
end Go.Proofs.YtcpelnnadabnpaaDoor
