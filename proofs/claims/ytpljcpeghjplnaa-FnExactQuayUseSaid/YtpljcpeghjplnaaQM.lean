/-
  Ships at a quay: which of them meet, when a plan is possible, what it costs. No statement of the seat by itself.
-/
import Derived.Test.YtpljcpeghjplnaaQsO
import Derived.Test.YtpljcpeghjplnaaQbO
import Derived.Test.YtpljcpeghjplnaaZN
namespace Go.Proofs.Ytpljcpeghjplnaa

/-- A ship: its length, its arrival, its hours and its weight. -/
abbrev Shp := Int × Int × Int × Int
/-- A berth: its place and its start. -/
abbrev Brt := Int × Int
/-- A stay: an index, a ship and a berth. -/
abbrev Sty := Int × Shp × Brt
def zS : Shp := (0, 0, 0, 0)
def zB : Brt := (0, 0)

def okShp (c : Shp) : Bool := decide ((1 ≤ c.1 ∧ c.1 ≤ 30) ∧ (0 ≤ c.2.1 ∧ c.2.1 ≤ 200) ∧ (1 ≤ c.2.2.1 ∧ c.2.2.1 ≤ 48) ∧ 1 ≤ c.2.2.2 ∧ c.2.2.2 ≤ 9)
theorem okShp_iff {c : Shp} : okShp c = true ↔ (1 ≤ c.1 ∧ c.1 ≤ 30) ∧ (0 ≤ c.2.1 ∧ c.2.1 ≤ 200) ∧ (1 ≤ c.2.2.1 ∧ c.2.2.1 ≤ 48) ∧ 1 ≤ c.2.2.2 ∧ c.2.2.2 ≤ 9 := by simp [okShp]
theorem okShp_no {p q r s : Int} (h : ¬ ((1 ≤ p ∧ p ≤ 30) ∧ (0 ≤ q ∧ q ≤ 200) ∧ (1 ≤ r ∧ r ≤ 48) ∧ 1 ≤ s ∧ s ≤ 9)) : okShp (p, q, r, s) = false := by
  rw [okShp]
  exact decide_eq_false h
def goodQ (S : List Shp) : Bool := decide (S.length ≤ 5) && S.all okShp
theorem goodQ_iff {S : List Shp} : goodQ S = true ↔ S.length ≤ 5 ∧ ∀ c ∈ S, okShp c = true := by simp [goodQ]
theorem goodQ_not {S : List Shp} (h : ¬ (S.length ≤ 5 ∧ ∀ c ∈ S, okShp c = true)) : goodQ S = false := by
  cases hg : goodQ S with
  | false => rfl
  | true => exact absurd (goodQ_iff.1 hg) h
theorem goodQ_at {S : List Shp} {k : Nat} {c : Shp} (h : S[k]? = some c) (hc : okShp c = false) : goodQ S = false :=
  goodQ_not fun g => by rw [g.2 c (List.mem_of_getElem? h)] at hc; cases hc
theorem goodQ_get {S : List Shp} (h : goodQ S = true) {k : Nat} {c : Shp} (hc : S[k]? = some c) : (1 ≤ c.1 ∧ c.1 ≤ 30) ∧ (0 ≤ c.2.1 ∧ c.2.1 ≤ 200) ∧ (1 ≤ c.2.2.1 ∧ c.2.2.1 ≤ 48) ∧ 1 ≤ c.2.2.2 ∧ c.2.2.2 ≤ 9 := okShp_iff.1 ((goodQ_iff.1 h).2 c (List.mem_of_getElem? hc))
theorem goodQ_len {S : List Shp} (h : goodQ S = true) : S.length ≤ 5 := (goodQ_iff.1 h).1
theorem goodQ_take {S : List Shp} (h : goodQ S = true) (n : Nat) : goodQ (S.take n) = true := by
  obtain ⟨h1, h2⟩ := goodQ_iff.1 h
  exact goodQ_iff.2 ⟨by simp only [List.length_take]; omega, fun c hc => h2 c (List.mem_of_mem_take hc)⟩
def shpAt (S : List Shp) (i : Nat) : Bool := okShp (S.getD i zS)
theorem shpAt_get {S : List Shp} {k : Nat} {c : Shp} (h : S[k]? = some c) : shpAt S k = okShp c := by simp [shpAt, List.getD, h]
theorem goodQ_nums {S : List Shp} (h : S.length ≤ 5) : goodQ S = decide ((numsW (shpAt S) S.length).length = S.length) := by
  cases hg : goodQ S with
  | true =>
    refine (decide_eq_true ?_).symm
    rw [numsW, List.filter_eq_self.2]
    · simp
    · intro i hi
      have hi2 := List.mem_range.1 hi
      obtain ⟨c, hc⟩ := get_at rfl hi2
      rw [shpAt_get hc]
      exact (goodQ_iff.1 hg).2 c (List.mem_of_getElem? hc)
  | false =>
    refine (decide_eq_false fun e => ?_).symm
    have hall : ∀ i ∈ List.range S.length, shpAt S i = true := by
      have h1 : ((List.range S.length).filter (shpAt S)).length = (List.range S.length).length := by
        rw [numsW] at e
        simpa using e
      exact List.filter_eq_self.1 (List.Sublist.eq_of_length List.filter_sublist h1)
    have : goodQ S = true := goodQ_iff.2 ⟨h, fun c hc => by
      obtain ⟨i, hi, e2⟩ := List.getElem_of_mem hc
      have := hall i (List.mem_range.2 hi)
      rwa [shpAt_get (List.getElem?_eq_some_iff.2 ⟨hi, e2⟩)] at this⟩
    rw [hg] at this
    cases this
theorem goodQ_long {S : List Shp} (h : 5 < S.length) : goodQ S = false := goodQ_not fun g => by omega

def isQ (q : Int) : Bool := decide (1 ≤ q ∧ q ≤ 30)
theorem isQ_iff {q : Int} : isQ q = true ↔ 1 ≤ q ∧ q ≤ 30 := by simp [isQ]

/-- Two ships with berths do not meet. -/
def aptB (x : Shp) (a : Brt) (y : Shp) (b : Brt) : Bool := decide (a.1 + x.1 ≤ b.1 ∨ b.1 + y.1 ≤ a.1 ∨ a.2 + x.2.2.1 ≤ b.2 ∨ b.2 + y.2.2.1 ≤ a.2)
theorem aptB_iff {x : Shp} {a : Brt} {y : Shp} {b : Brt} : aptB x a y b = true ↔ (a.1 + x.1 ≤ b.1 ∨ b.1 + y.1 ≤ a.1 ∨ a.2 + x.2.2.1 ≤ b.2 ∨ b.2 + y.2.2.1 ≤ a.2) := by simp [aptB]
def fitB (q : Int) (x : Shp) (b : Brt) : Bool := decide ((0 ≤ b.1 ∧ b.1 ≤ q - x.1) ∧ x.2.1 ≤ b.2 ∧ b.2 ≤ 1000)
theorem fitB_iff {q : Int} {x : Shp} {b : Brt} : fitB q x b = true ↔ (0 ≤ b.1 ∧ b.1 ≤ q - x.1) ∧ x.2.1 ≤ b.2 ∧ b.2 ≤ 1000 := by simp [fitB]

/-- A ship at a berth has no section and hour in common with those that lie there. -/
def freB (M : List Sty) (x : Shp) (b : Brt) : Bool := M.all fun y => aptB x b y.2.1 y.2.2
def canB (q : Int) (M : List Sty) (x : Shp) (b : Brt) : Bool := fitB q x b && freB M x b

/-- The first k stays of a plan. -/
def stsQ (S : List Shp) (P : List Brt) (k : Nat) : List Sty := (List.range k).map fun (i : Nat) => ((i : Int), S.getD i zS, P.getD i zB)
theorem stsQ_len (S : List Shp) (P : List Brt) (k : Nat) : (stsQ S P k).length = k := by simp [stsQ]
theorem stsQ_zero (S : List Shp) (P : List Brt) : stsQ S P 0 = [] := rfl
theorem stsQ_succ {S : List Shp} {P : List Brt} {k : Nat} {x : Shp} {b : Brt} (hx : S[k]? = some x) (hb : P[k]? = some b) : stsQ S P (k + 1) = stsQ S P k ++ [((k : Int), x, b)] := by
  simp [stsQ, List.range_succ, List.getD, hx, hb]
theorem stsQ_get {S : List Shp} {P : List Brt} {k i : Nat} (h : i < k) : (stsQ S P k)[i]? = some ((i : Int), S.getD i zS, P.getD i zB) := by simp [stsQ, h]
theorem stsQ_take {S : List Shp} {P : List Brt} {k n : Nat} (h : k ≤ n) : stsQ (S.take n) P k = stsQ S P k := by
  refine List.map_congr_left fun (i : Nat) hi => ?_
  have hi2 := List.mem_range.1 hi
  simp only [List.getD]
  rw [List.getElem?_take_of_lt (by omega)]

/-- The k-th berth of a plan is possible beside those before it. -/
def stepQ (q : Int) (S : List Shp) (P : List Brt) (k : Nat) : Bool := canB q (stsQ S P k) (S.getD k zS) (P.getD k zB)
theorem stepQ_get {q : Int} {S : List Shp} {P : List Brt} {k : Nat} {x : Shp} {b : Brt} (hx : S[k]? = some x) (hb : P[k]? = some b) : stepQ q S P k = canB q (stsQ S P k) x b := by
  simp [stepQ, List.getD, hx, hb]
/-- The first k berths of a plan are possible. -/
def upQ (q : Int) (S : List Shp) (P : List Brt) (k : Nat) : Bool := (List.range k).all fun i => stepQ q S P i
theorem upQ_zero (q : Int) (S : List Shp) (P : List Brt) : upQ q S P 0 = true := rfl
theorem upQ_succ (q : Int) (S : List Shp) (P : List Brt) (k : Nat) : upQ q S P (k + 1) = (upQ q S P k && stepQ q S P k) := by
  simp [upQ, List.range_succ, List.all_append]
theorem upQ_no {q : Int} {S : List Shp} {P : List Brt} {k n : Nat} (hk : k < n) (h : stepQ q S P k = false) : upQ q S P n = false := by
  cases he : upQ q S P n with
  | false => rfl
  | true =>
    have := List.all_eq_true.1 he k (List.mem_range.2 hk)
    rw [h] at this
    cases this
theorem upQ_step {q : Int} {S : List Shp} {P : List Brt} {k n : Nat} (h : upQ q S P n = true) (hk : k < n) : stepQ q S P k = true := List.all_eq_true.1 h k (List.mem_range.2 hk)
theorem upQ_mono {q : Int} {S : List Shp} {P : List Brt} {k n : Nat} (h : upQ q S P n = true) (hk : k ≤ n) : upQ q S P k = true :=
  List.all_eq_true.2 fun i hi => upQ_step h (by have := List.mem_range.1 hi; omega)
theorem upQ_take {q : Int} {S : List Shp} {P : List Brt} {n : Nat} : upQ q (S.take n) P n = upQ q S P n := by
  unfold upQ
  rw [Bool.eq_iff_iff, List.all_eq_true, List.all_eq_true]
  have key : ∀ i ∈ List.range n, stepQ q (S.take n) P i = stepQ q S P i := fun i hi => by
    have hi2 := List.mem_range.1 hi
    rw [stepQ, stepQ, stsQ_take (by omega)]
    simp only [List.getD]
    rw [List.getElem?_take_of_lt hi2]
  exact ⟨fun h i hi => by rw [← key i hi]; exact h i hi, fun h i hi => by rw [key i hi]; exact h i hi⟩

/-- What is asked of a plan for the first ships of a list. -/
def begQ (q : Int) (S : List Shp) (P : List Brt) : Bool := decide (P.length ≤ S.length) && upQ q S P P.length
/-- The quay, the ships and the plan are valid. -/
def askQ (q : Int) (S : List Shp) (P : List Brt) : Bool := isQ q && goodQ S && decide (P.length = S.length) && upQ q S P P.length
theorem askQ_iff {q : Int} {S : List Shp} {P : List Brt} : askQ q S P = true ↔ isQ q = true ∧ goodQ S = true ∧ P.length = S.length ∧ upQ q S P P.length = true := by
  simp [askQ, and_assoc]

def waiQ (s : Sty) : Int := s.2.2.2 - s.2.1.2.1
def cosQ (s : Sty) : Int := s.2.1.2.2.2 * waiQ s
def endQ (s : Sty) : Int := s.2.2.2 + s.2.1.2.2.1
def sumQ (M : List Sty) : Int := (M.map cosQ).sum
def lasQ : List Sty → Int
  | [] => 0
  | s :: M => max (endQ s) (lasQ M)
theorem lasQ_app (M : List Sty) (s : Sty) : lasQ (M ++ [s]) = max (lasQ M) (max (endQ s) 0) := by
  induction M with
  | nil => simp only [List.nil_append, lasQ]; omega
  | cons x M ih => simp only [List.cons_append, lasQ, ih]; omega
theorem lasQ_nonneg : ∀ M : List Sty, 0 ≤ lasQ M
  | [] => by simp [lasQ]
  | s :: M => by have := lasQ_nonneg M; simp only [lasQ]; omega
theorem sumQ_app (M : List Sty) (s : Sty) : sumQ (M ++ [s]) = sumQ M + cosQ s := by simp [sumQ]

/-- A stay that the program's mooring may hold: a valid ship at a berth within the bounds. -/
def okSty (s : Sty) : Prop := okShp s.2.1 = true ∧ (0 ≤ s.2.2.1 ∧ s.2.2.1 ≤ 29) ∧ s.2.1.2.1 ≤ s.2.2.2 ∧ s.2.2.2 ≤ 1000
theorem okSty_of {q : Int} {M : List Sty} {i : Int} {x : Shp} {b : Brt} (hq : isQ q = true) (hx : okShp x = true) (h : canB q M x b = true) : okSty (i, x, b) := by
  have h1 := isQ_iff.1 hq
  have h2 := okShp_iff.1 hx
  simp only [canB, Bool.and_eq_true] at h
  have h3 := fitB_iff.1 h.1
  exact ⟨hx, ⟨h3.1.1, by simp only; omega⟩, h3.2.1, h3.2.2⟩
theorem okSty.cos {s : Sty} (h : okSty s) : 0 ≤ cosQ s ∧ cosQ s ≤ 9000 ∧ 0 ≤ waiQ s ∧ waiQ s ≤ 1000 ∧ 1 ≤ endQ s ∧ endQ s ≤ 1048 := by
  obtain ⟨h1, h2, h3, h4⟩ := h
  have h5 := okShp_iff.1 h1
  have hw : 0 ≤ waiQ s ∧ waiQ s ≤ 1000 := by unfold waiQ; omega
  have he : 1 ≤ endQ s ∧ endQ s ≤ 1048 := by unfold endQ; omega
  refine ⟨?_, ?_, hw.1, hw.2, he⟩
  · exact Int.mul_nonneg (by omega) hw.1
  · have := Int.mul_le_mul h5.2.2.2.2 hw.2 hw.1 (by omega : (0 : Int) ≤ 9)
    unfold cosQ
    omega
theorem sumQ_bound {M : List Sty} (h : ∀ s ∈ M, okSty s) : 0 ≤ sumQ M ∧ sumQ M ≤ 9000 * M.length := by
  induction M with
  | nil => simp [sumQ]
  | cons x M ih =>
    have h1 := ih fun s hs => h s (by simp [hs])
    have h2 := (h x (by simp)).cos
    simp only [sumQ, List.map_cons, List.sum_cons, List.length_cons] at h1 ⊢
    omega
theorem lasQ_bound {M : List Sty} (h : ∀ s ∈ M, okSty s) : lasQ M ≤ 1048 := by
  induction M with
  | nil => simp [lasQ]
  | cons x M ih =>
    have h1 := ih fun s hs => h s (by simp [hs])
    have h2 := (h x (by simp)).cos
    simp only [lasQ]
    omega
theorem stsQ_ok {q : Int} {S : List Shp} {P : List Brt} {k : Nat} (hq : isQ q = true) (hg : goodQ S = true) (hk : k ≤ S.length) (h : upQ q S P k = true) : ∀ s ∈ stsQ S P k, okSty s := by
  intro s hs
  obtain ⟨i, hi, rfl⟩ := List.mem_map.1 hs
  have hi2 := List.mem_range.1 hi
  obtain ⟨c, hc⟩ := get_at (Y := S) rfl (show i < S.length by omega)
  refine okSty_of (M := stsQ S P i) hq ?_ (upQ_step h hi2)
  simp only [List.getD, hc, Option.getD_some]
  exact (goodQ_iff.1 hg).2 c (List.mem_of_getElem? hc)

def costR (q : Int) (S : List Shp) (P : List Brt) : Int := if askQ q S P = true then sumQ (stsQ S P P.length) else 0
def lastR (q : Int) (S : List Shp) (P : List Brt) : Int := if askQ q S P = true then lasQ (stsQ S P P.length) else 0
def waitR (q : Int) (S : List Shp) (P : List Brt) : List Int := if askQ q S P = true then (stsQ S P P.length).map waiQ else []
end Go.Proofs.Ytpljcpeghjplnaa
