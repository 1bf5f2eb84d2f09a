/-
  Items by number, kept since a time, handed out one behind the other: as lists, and as what a map reads as. Of numbers, lists and worlds alone; no program.
-/
import Derived.Test.YtpiamlgmadnepaaGreatMem
import Derived.Maps.RangeWalk
import Derived.WalkKit
namespace Go.Proofs.YtpiamlgmadnepaaGreat.OM
open Go Go.RowKit Go.Maps Go.Proofs.YtpiamlgmadnepaaGreat.Mem
set_option linter.unusedVariables false

/-- a packet: its numbers, its Start, its Body, the Body's value -/
structure Pk where
  s : Int
  t : Int
  l : Int
  q : Int
  st : Bool
  L : List Nat
  bv : Value
/-- an item: its number, whether it is gone, its packet; since when it is kept -/
structure Kp where
  n : Int
  g : Bool
  p : Pk
  a : Int
abbrev Its := List Kp
def zpk : Pk := ⟨0, 0, 0, 0, false, [], .slice none 0 0⟩
/-- what does not come -/
def gone (y a : Int) : Kp := ⟨y, true, zpk, a⟩
def key (y : Int) : Lit := .int .i64 y
theorem key_inj {x y : Int} (h : key x = key y) : x = y := by
  unfold key at h
  injection h
def has (M : Its) (y : Int) : Bool := M.any fun i => i.n == y
theorem has_iff {M : Its} {y : Int} : has M y = true ↔ ∃ i ∈ M, i.n = y := by
  simp [has]
theorem has_no {M : Its} {y : Int} (h : has M y = false) : ∀ i ∈ M, i.n ≠ y := by
  intro i hi e
  have := has_iff.2 ⟨i, hi, e⟩
  rw [h] at this
  cases this
theorem no_has {M : Its} {y : Int} (h : ∀ i ∈ M, i.n ≠ y) : has M y = false := by
  rw [Bool.eq_false_iff]
  intro hh
  obtain ⟨i, hi, e⟩ := has_iff.1 hh
  exact h i hi e
def Apart (M : Its) : Prop := M.Pairwise fun a b => a.n ≠ b.n

/-- what holds of one that is used: the time, what is next, what is kept -/
structure Inv (nw nx : Int) (M : Its) : Prop where
  c1 : 0 ≤ nw
  c2 : nw ≤ 1000000
  x1 : -1 ≤ nx
  x2 : nx ≤ 1099511627777
  mem : ∀ i ∈ M, 0 ≤ i.n ∧ nx ≤ i.n ∧ i.n < nx + 200 ∧ i.n ≤ 1099511627776 ∧ 0 ≤ i.a ∧ i.a ≤ nw
  one : Apart M
  non : nx = -1 → M = []
theorem inv_start : Inv 0 (-1) [] := ⟨by omega, by omega, by omega, by omega, by simp, List.Pairwise.nil, fun _ => rfl⟩
theorem Inv.len {nw nx : Int} {M : Its} (h : Inv nw nx M) : M.length ≤ 200 := by
  have hn : (M.map fun i => (i.n - nx).toNat).Nodup := by
    rw [List.nodup_iff_pairwise_ne, List.pairwise_map]
    refine h.one.imp_of_mem ?_
    intro a b ha hb hab e
    have := h.mem a ha
    have := h.mem b hb
    omega
  have := List.Nodup.length_le_of_subset (l₂ := List.range 200) hn (by
    intro x hx
    obtain ⟨i, hi, rfl⟩ := List.mem_map.1 hx
    have := h.mem i hi
    simp only [List.mem_range]
    omega)
  simpa using this
/-- one more is kept -/
theorem inv_add {nw nx now : Int} {M : Its} (h : Inv nw nx M) (x : Kp) (hw : nw ≤ now) (h6 : now ≤ 1000000) (h0 : 0 ≤ x.n) (h1 : x.n ≤ 1099511627776) (hx : nx ≤ x.n) (hf : x.n < nx + 200) (hn : nx ≠ -1) (ha : x.a = now) (hh : has M x.n = false) : Inv now nx (M ++ [x]) := by
  have c1 := h.c1
  refine ⟨by omega, h6, h.x1, h.x2, ?_, ?_, fun e => absurd e hn⟩
  · intro i hi
    rcases List.mem_append.1 hi with hi | hi
    · have := h.mem i hi
      omega
    · simp only [List.mem_singleton] at hi
      subst hi
      omega
  · unfold Apart
    rw [List.pairwise_append]
    refine ⟨h.one, by simp, ?_⟩
    intro i hi b hb
    simp only [List.mem_singleton] at hb
    subst hb
    exact has_no hh i hi
theorem Inv.later {nw nx now : Int} {M : Its} (h : Inv nw nx M) (hw : nw ≤ now) (h6 : now ≤ 1000000) : Inv now nx M := by
  have c1 := h.c1
  exact ⟨by omega, h6, h.x1, h.x2, fun i hi => by have := h.mem i hi; omega, h.one, h.non⟩

/-- the fault of a time -/
def tf (nw now : Int) : Nat := if now < 0 ∨ 1000000 < now then 1 else if now < nw then 6 else 0
theorem tf_zero {nw now : Int} (h : tf nw now = 0) : 0 ≤ now ∧ now ≤ 1000000 ∧ nw ≤ now := by
  unfold tf at h
  split at h
  · omega
  · split at h <;> omega
theorem tf_mk {nw now : Int} (h0 : 0 ≤ now) (h1 : now ≤ 1000000) (h2 : nw ≤ now) : tf nw now = 0 := by
  unfold tf
  rw [if_neg (by omega), if_neg (by omega)]
theorem tf_le {nw now : Int} : tf nw now ≤ 6 := by
  unfold tf
  split
  · omega
  · split <;> omega

/-! one Push -/
/-- what is next, once one was pushed -/
def fx (nx y : Int) : Int := if nx = -1 then y else nx
/-- too far ahead -/
def far (nx y : Int) : Bool := decide (nx ≠ -1) && decide (200 ≤ y - nx)
def pf (nw nx y now : Int) (f : Nat) : Nat :=
  if tf nw now ≠ 0 then tf nw now else if y < 0 ∨ 1099511627776 < y then 1 else if f ≠ 0 then f else if far nx y then 4 else 0
/-- is it kept -/
def kx (nx y : Int) (M : Its) : Bool := decide (nx ≤ y) && !has M y
def px (nw nx y now : Int) (M : Its) (f : Nat) : Bool := decide (pf nw nx y now f = 0) && kx (fx nx y) y M
def pW (nw nx y now : Int) (f : Nat) : Int := if pf nw nx y now f = 0 then now else nw
def pX (nw nx y now : Int) (f : Nat) : Int := if pf nw nx y now f = 0 then fx nx y else nx
def pM (nw nx y now : Int) (M : Its) (f : Nat) (p : Pk) : Its := if px nw nx y now M f then M ++ [⟨y, false, p, now⟩] else M
theorem pf_zero {nw nx y now : Int} {f : Nat} (h : pf nw nx y now f = 0) : tf nw now = 0 ∧ 0 ≤ y ∧ y ≤ 1099511627776 ∧ f = 0 ∧ far nx y = false := by
  unfold pf at h
  split at h
  · omega
  · split at h
    · omega
    · split at h
      · omega
      · split at h
        · omega
        · rename_i h1 h2 h3 h4
          exact ⟨by omega, by omega, by omega, by omega, by simpa using h4⟩
theorem pf_mk {nw nx y now : Int} {f : Nat} (h1 : tf nw now = 0) (h2 : 0 ≤ y) (h3 : y ≤ 1099511627776) (h4 : f = 0) (h5 : far nx y = false) : pf nw nx y now f = 0 := by
  unfold pf
  rw [if_neg (by omega), if_neg (by omega), if_neg (by omega), h5]
  rfl
theorem pf_le {nw nx y now : Int} {f : Nat} (hf : f ≤ 50) : pf nw nx y now f ≤ 100 := by
  unfold pf
  have := @tf_le nw now
  split
  · omega
  · split
    · omega
    · split
      · omega
      · split <;> omega
theorem far_no {nx y : Int} (h : far nx y = false) : nx = -1 ∨ y < nx + 200 := by
  simp [far] at h
  omega
theorem inv_push {nw nx y now : Int} {M : Its} (h : Inv nw nx M) (f : Nat) (p : Pk) : Inv (pW nw nx y now f) (pX nw nx y now f) (pM nw nx y now M f p) := by
  unfold pW pX pM px
  by_cases h0 : pf nw nx y now f = 0
  · obtain ⟨k1, k2, k3, k4, k5⟩ := pf_zero h0
    obtain ⟨j1, j2, j3⟩ := tf_zero k1
    have hx1 := h.x1
    simp only [h0, if_true, decide_true, Bool.true_and]
    have hI : Inv nw (fx nx y) M := by
      unfold fx
      split
      · rename_i e
        have hM := h.non e
        subst hM
        exact ⟨h.c1, h.c2, by omega, by omega, by simp, List.Pairwise.nil, fun _ => rfl⟩
      · exact h
    by_cases hk : kx (fx nx y) y M = true
    · simp only [hk, if_true]
      simp only [kx, Bool.and_eq_true, decide_eq_true_eq, Bool.not_eq_true'] at hk
      refine inv_add hI _ j3 j2 k2 k3 hk.1 ?_ ?_ rfl hk.2
      · have := far_no k5
        show y < fx nx y + 200
        unfold fx
        split <;> omega
      · unfold fx; split <;> omega
    · simp only [hk]
      exact hI.later j3 j2
  · simp only [h0, if_false, decide_false, Bool.false_and]
    exact h

/-! one Gone -/
def gf (nw nx y now : Int) : Nat := if tf nw now ≠ 0 then tf nw now else if y < 0 ∨ 1099511627776 < y then 1 else if nx = -1 then 6 else 0
def gx (nw nx y now : Int) (M : Its) : Bool := decide (gf nw nx y now = 0) && (!far nx y && kx nx y M)
def gW (nw nx y now : Int) : Int := if gf nw nx y now = 0 then now else nw
def gM (nw nx y now : Int) (M : Its) : Its := if gx nw nx y now M then M ++ [gone y now] else M
theorem gf_zero {nw nx y now : Int} (h : gf nw nx y now = 0) : tf nw now = 0 ∧ 0 ≤ y ∧ y ≤ 1099511627776 ∧ nx ≠ -1 := by
  unfold gf at h
  split at h
  · omega
  · split at h
    · omega
    · split at h
      · omega
      · rename_i h1 h2 h3
        exact ⟨by omega, by omega, by omega, h3⟩
theorem gf_le {nw nx y now : Int} : gf nw nx y now ≤ 100 := by
  unfold gf
  have := @tf_le nw now
  split
  · omega
  · split
    · omega
    · split <;> omega
theorem inv_gone {nw nx y now : Int} {M : Its} (h : Inv nw nx M) : Inv (gW nw nx y now) nx (gM nw nx y now M) := by
  unfold gW gM gx
  by_cases h0 : gf nw nx y now = 0
  · obtain ⟨k1, k2, k3, k4⟩ := gf_zero h0
    obtain ⟨j1, j2, j3⟩ := tf_zero k1
    simp only [h0, if_true, decide_true, Bool.true_and]
    by_cases hk : (!far nx y && kx nx y M) = true
    · simp only [hk, if_true]
      simp only [kx, Bool.and_eq_true, decide_eq_true_eq, Bool.not_eq_true'] at hk
      have := far_no hk.1
      exact inv_add h _ j3 j2 k2 k3 hk.2.1 (by show y < nx + 200; omega) k4 rfl hk.2.2
    · simp only [hk]
      exact h.later j3 j2
  · simp only [h0, if_false, decide_false, Bool.false_and]
    exact h

/-! one Pop -/
/-- it has waited long enough -/
def late (wt now : Int) (i : Kp) : Bool := decide (wt ≤ now - i.a)
/-- od is the greatest number of what has waited long enough, -1: there is none -/
structure Od (wt now : Int) (M : Its) (od : Int) : Prop where
  low : -1 ≤ od
  all : ∀ i ∈ M, late wt now i = true → i.n ≤ od
  one : od = -1 ∨ ∃ i ∈ M, late wt now i = true ∧ od = i.n
theorem od_ex (wt now : Int) (M : Its) (h : ∀ i ∈ M, 0 ≤ i.n) : ∃ od, Od wt now M od := by
  induction M with
  | nil => exact ⟨-1, by omega, by simp, .inl rfl⟩
  | cons a M ih =>
    obtain ⟨od, h1, h2, h3⟩ := ih (fun i hi => h i (by simp [hi]))
    have ha := h a (by simp)
    by_cases c : late wt now a = true ∧ od < a.n
    · refine ⟨a.n, by omega, ?_, .inr ⟨a, by simp, c.1, rfl⟩⟩
      intro i hi hl
      rcases List.mem_cons.1 hi with rfl | hi
      · omega
      · have := h2 i hi hl; omega
    · refine ⟨od, h1, ?_, ?_⟩
      · intro i hi hl
        rcases List.mem_cons.1 hi with rfl | hi
        · have : ¬ od < i.n := fun h => c ⟨hl, h⟩
          omega
        · exact h2 i hi hl
      · rcases h3 with h3 | ⟨i, hi, h3⟩
        · exact .inl h3
        · exact .inr ⟨i, by simp [hi], h3⟩
/-- x is handed out, if it is next -/
def goes (M : Its) (od x : Int) : Bool := has M x || decide (x < od)
/-- so many are handed out -/
structure Stop (M : Its) (od nx : Int) (K : Nat) : Prop where
  all : ∀ j : Nat, j < K → goes M od (nx + j) = true
  stop : goes M od (nx + K) = false
theorem stop_any {M : Its} {od : Int} (f : Nat) : ∀ nx : Int, (∀ y, nx + f ≤ y → goes M od y = false) → ∃ K, K ≤ f ∧ Stop M od nx K := by
  induction f with
  | zero =>
    intro nx h
    exact ⟨0, Nat.le_refl _, fun j hj => by omega, h _ (by simp)⟩
  | succ f ih =>
    intro nx h
    by_cases c : goes M od nx = true
    · obtain ⟨K, hK, h1, h2⟩ := ih (nx + 1) (fun y hy => h y (by omega))
      refine ⟨K + 1, by omega, fun j hj => ?_, ?_⟩
      · cases j with
        | zero => simpa using c
        | succ j =>
          have := h1 j (by omega)
          rw [show nx + ((j + 1 : Nat) : Int) = nx + 1 + (j : Int) by omega]
          exact this
      · rw [show nx + ((K + 1 : Nat) : Int) = nx + 1 + (K : Int) by omega]
        exact h2
    · exact ⟨0, by omega, fun j hj => by omega, by simpa using c⟩
theorem stop_ex {wt nw nx now od : Int} {M : Its} (h : Inv nw nx M) (ho : Od wt now M od) : ∃ K, K ≤ 200 ∧ Stop M od nx K := by
  refine stop_any 200 nx (fun y hy => ?_)
  have hx := h.x1
  simp only [goes, Bool.or_eq_false_iff, decide_eq_false_iff_not]
  refine ⟨no_has fun i hi e => ?_, ?_⟩
  · have := h.mem i hi
    omega
  · rcases ho.one with e | ⟨i, hi, _, e⟩
    · omega
    · have := h.mem i hi
      omega
theorem stop_one {M : Its} {od nx : Int} {K J : Nat} (h : Stop M od nx K) (k : Stop M od nx J) : K = J := by
  rcases Nat.lt_trichotomy K J with c | c | c
  · have := k.all K c
    rw [h.stop] at this
    cases this
  · exact c
  · have := h.all J c
    rw [k.stop] at this
    cases this
/-- the item of a number: what is there, or what is gone -/
def itm (M : Its) (y : Int) : Kp := (M.find? fun i => i.n == y).getD (gone y 0)
theorem itm_no {M : Its} {y : Int} (h : has M y = false) : itm M y = gone y 0 := by
  have : (M.find? fun i => i.n == y) = none := by
    rw [List.find?_eq_none]
    intro i hi
    have := has_no h i hi
    simpa using this
  simp [itm, this]
theorem itm_has {M : Its} {y : Int} (h : has M y = true) : itm M y ∈ M ∧ (itm M y).n = y := by
  obtain ⟨i, hi, e⟩ := has_iff.1 h
  cases hf : M.find? (fun i => i.n == y) with
  | none => exact absurd (List.find?_eq_none.1 hf i hi) (by simp [e])
  | some j =>
    have : itm M y = j := by simp [itm, hf]
    rw [this]
    exact ⟨List.mem_of_find?_eq_some hf, by simpa using List.find?_some hf⟩
theorem itm_n (M : Its) (y : Int) : (itm M y).n = y := by
  by_cases h : has M y = true
  · exact (itm_has h).2
  · rw [itm_no (by simpa using h)]; rfl
theorem itm_eq {M : Its} (h1 : Apart M) {i : Kp} (hi : i ∈ M) : itm M i.n = i := by
  obtain ⟨hj, e⟩ := itm_has (has_iff.2 ⟨i, hi, rfl⟩)
  generalize itm M i.n = j at *
  induction M with
  | nil => simp at hi
  | cons a M ih =>
    obtain ⟨p1, p2⟩ := List.pairwise_cons.1 h1
    rcases List.mem_cons.1 hj with rfl | hj'
    · rcases List.mem_cons.1 hi with rfl | hi'
      · rfl
      · exact absurd e (p1 i hi')
    · rcases List.mem_cons.1 hi with rfl | hi'
      · exact absurd e.symm (p1 j hj')
      · exact ih p2 hi' hj'
/-- what is handed out -/
def takes (M : Its) (nx : Int) (K : Nat) : Its := (List.range K).map fun (j : Nat) => itm M (nx + (j : Int))
theorem takes_succ (M : Its) (nx : Int) (K : Nat) : takes M nx (K + 1) = takes M nx K ++ [itm M (nx + (K : Int))] := by
  simp [takes, List.range_succ]
theorem takes_len (M : Its) (nx : Int) (K : Nat) : (takes M nx K).length = K := by simp [takes]
theorem takes_get (M : Its) (nx : Int) (K j : Nat) (h : j < K) : (takes M nx K)[j]? = some (itm M (nx + (j : Int))) := by
  simp [takes, List.getElem?_range h]
/-- what is left -/
def rest (M : Its) (x : Int) : Its := M.filter fun i => decide (x ≤ i.n)
theorem rest_all {nw nx : Int} {M : Its} (h : Inv nw nx M) : rest M nx = M := by
  unfold rest
  rw [List.filter_eq_self]
  intro i hi
  have := h.mem i hi
  simp; omega
theorem rest_succ (M : Its) (x : Int) : rest M (x + 1) = (rest M x).filter fun i => decide (i.n ≠ x) := by
  unfold rest
  rw [List.filter_filter]
  apply List.filter_congr
  intro i hi
  rw [Bool.eq_iff_iff]
  simp
  omega
theorem rest_has (M : Its) (x : Int) : has (rest M x) x = has M x := by
  rw [Bool.eq_iff_iff, has_iff, has_iff]
  constructor
  · rintro ⟨i, hi, e⟩; exact ⟨i, (List.mem_filter.1 hi).1, e⟩
  · rintro ⟨i, hi, e⟩; exact ⟨i, List.mem_filter.2 ⟨hi, by simp; omega⟩, e⟩
theorem rest_itm {M : Its} (h : Apart M) (x : Int) : itm (rest M x) x = itm M x := by
  by_cases c : has M x = true
  · obtain ⟨i, hi, rfl⟩ := has_iff.1 c
    rw [itm_eq h hi]
    exact itm_eq (h.filter _) (List.mem_filter.2 ⟨hi, by simp⟩)
  · have c' : has M x = false := by simpa using c
    rw [itm_no c', itm_no (by rw [rest_has]; exact c')]
theorem goes_max {nw nx od wt now x : Int} {M : Its} (h : Inv nw nx M) (ho : Od wt now M od) (hx : goes M od x = true) : x ≤ 1099511627776 := by
  simp only [goes, Bool.or_eq_true, decide_eq_true_eq] at hx
  rcases hx with hx | hx
  · obtain ⟨i, hi, rfl⟩ := has_iff.1 hx
    have := h.mem i hi
    omega
  · rcases ho.one with e | ⟨i, hi, _, e⟩
    · have := h.x1; omega
    · have := h.mem i hi; omega
theorem inv_pop {wt nw nx now od : Int} {M : Its} {K : Nat} (h : Inv nw nx M) (ht : tf nw now = 0) (ho : Od wt now M od) (hs : ∀ j : Nat, j < K → goes M od (nx + j) = true) : Inv now (nx + (K : Int)) (rest M (nx + (K : Int))) := by
  obtain ⟨j1, j2, j3⟩ := tf_zero ht
  have hx1 := h.x1
  refine ⟨j1, j2, by omega, ?_, ?_, h.one.filter _, ?_⟩
  · cases K with
    | zero => simpa using h.x2
    | succ K =>
      have := goes_max h ho (hs K (by omega))
      omega
  · intro i hi
    obtain ⟨hi, hk⟩ := List.mem_filter.1 hi
    have := h.mem i hi
    simp only [decide_eq_true_eq] at hk
    omega
  · intro e
    have : M = [] := h.non (by omega)
    subst this
    rfl
/-- none is handed out ahead of the first Push -/
theorem stop_none {wt nw now od : Int} {M : Its} {K : Nat} (h : Inv nw (-1) M) (ho : Od wt now M od) (hs : Stop M od (-1) K) : K = 0 := by
  have hM := h.non rfl
  subst hM
  cases K with
  | zero => rfl
  | succ K =>
    have := hs.all 0 (by omega)
    rcases ho.one with e | ⟨i, hi, _⟩
    · subst e
      simp [goes, has] at this
    · simp at hi

/-! what a map reads as -/
/-- an item's cells; with its time -/
def c8 (i : Kp) : List Value := [.int .i64 i.n, .bool i.g, .int .i64 i.p.s, .int .i64 i.p.t, .int .i64 i.p.l, .int .i64 i.p.q, .bool i.p.st, i.p.bv]
def c9 (i : Kp) : List Value := [.int .i64 i.n, .bool i.g, .int .i64 i.p.s, .int .i64 i.p.t, .int .i64 i.p.l, .int .i64 i.p.q, .bool i.p.st, i.p.bv, .int .i64 i.a]
def lv (i : Kp) : Value := .agg #[.int .i64 i.n, .bool i.g, .int .i64 i.p.s, .int .i64 i.p.t, .int .i64 i.p.l, .int .i64 i.p.q, .bool i.p.st, i.p.bv, .int .i64 i.a]
/-- how an element reads: as itself -/
def wtR : Value → Option (DataW Value × List MemPlace)
  | .agg cs => match cs.toList with
    | [.int .i64 _, .bool _, .int .i64 _, .int .i64 _, .int .i64 _, .int .i64 _, .bool _, .slice _ _ _, .int .i64 _] => some (.held (.agg cs), [])
    | _ => none
  | _ => none
theorem wtR_mk (n : Int) (g : Bool) (s t l q : Int) (st : Bool) (a : Option Addr) (m c : Nat) (z : Int) : wtR (.agg #[.int .i64 n, .bool g, .int .i64 s, .int .i64 t, .int .i64 l, .int .i64 q, .bool st, .slice a m c, .int .i64 z]) = some (.held (.agg #[.int .i64 n, .bool g, .int .i64 s, .int .i64 t, .int .i64 l, .int .i64 q, .bool st, .slice a m c, .int .i64 z]), []) := rfl
theorem wtR_inv {v : Value} {y : DataW Value × List MemPlace} (h : wtR v = some y) : (∃ n g s t l q st a m c z, v = .agg #[.int .i64 n, .bool g, .int .i64 s, .int .i64 t, .int .i64 l, .int .i64 q, .bool st, .slice a m c, .int .i64 z]) ∧ y = (.held v, []) := by
  unfold wtR at h
  split at h
  · rename_i cs
    split at h
    · rename_i n g s t l q st a m c z hcs
      refine ⟨⟨n, g, s, t, l, q, st, a, m, c, z, ?_⟩, (Option.some.inj h).symm⟩
      congr 1
      exact Array.toList_inj.1 hcs
    · cases h
  · cases h
/-- the Bodies lie in memory of the call's own -/
def Body (w : World) (p : Pk) : Prop := ∃ a m c, p.bv = .slice a m c ∧ w.ownsRow 0 5 1 (.slice a m c) m (cellsOf p.L) ∧ (∀ x ∈ p.L, x < 256) ∧ m ≤ 1000
def Bodies (w : World) (M : Its) : Prop := ∀ i ∈ M, Body w i.p
theorem own_base {w : World} {base base' e size n : Nat} {v : Value} {xs : List Value} (h : w.ownsRow base e size v n xs) (hb : base' ≤ base) : w.ownsRow base' e size v n xs := by
  refine ⟨h.1, ?_⟩
  rcases h.2 with h | ⟨g, cap, cur, e, hg, r⟩
  · exact .inl h
  · exact .inr ⟨g, cap, cur, e, Nat.le_trans hb hg, r⟩
theorem Body.only {w w' : World} {p : Pk} {bs : List Nat} (h : Body w p) (ho : Only bs w w') (hb : ∀ k ∈ bs, ∀ cs fr, w.heap[k]? ≠ some (.cells cs 5 fr)) : Body w' p := by
  obtain ⟨a, m, c, e, hr, hx, hm⟩ := h
  refine ⟨a, m, c, e, ho.owns hr ?_, hx, hm⟩
  intro k hk hc
  rcases hr.2 with ⟨hn, _⟩ | ⟨g, cap, cur, e, _, hgg, _⟩
  · rw [hn] at hk; simp [Value.ownBlock] at hk
  · rw [e] at hk
    simp [Value.ownBlock] at hk
    subst hk
    exact hb _ hc _ _ hgg
theorem body_z (w : World) : Body w zpk := ⟨none, 0, 0, rfl, by simpa [zpk, cellsOf] using World.ownsRow_nil w 0 5 1, by simp [zpk], by omega⟩
theorem Bodies.only {w w' : World} {M : Its} {bs : List Nat} (h : Bodies w M) (ho : Only bs w w') (hb : ∀ k ∈ bs, ∀ cs fr, w.heap[k]? ≠ some (.cells cs 5 fr)) : Bodies w' M := fun i hi => (h i hi).only ho hb
theorem Bodies.itm {w : World} {M : Its} (h : Bodies w M) (y : Int) : Body w (itm M y).p := by
  by_cases c : has M y = true
  · exact h _ (itm_has c).1
  · rw [itm_no (by simpa using c)]
    exact body_z w
theorem Bodies.takes {w : World} {M : Its} (h : Bodies w M) (nx : Int) (K : Nat) : Bodies w (takes M nx K) := by
  intro i hi
  obtain ⟨j, _, rfl⟩ := List.mem_map.1 hi
  exact h.itm _
theorem Bodies.app {w : World} {M : Its} (h : Bodies w M) {x : Kp} (hx : Body w x.p) : Bodies w (M ++ [x]) := by
  intro i hi
  rcases List.mem_append.1 hi with hi | hi
  · exact h i hi
  · simp only [List.mem_singleton] at hi
    subst hi
    exact hx
theorem Bodies.sub {w : World} {M N : Its} (h : Bodies w M) (hs : ∀ i ∈ N, i ∈ M) : Bodies w N := fun i hi => h i (hs i hi)
/-- which keys are there -/
def Keys (D : DataW Value) (M : Its) : Prop := ∀ k : Lit, Maps.has D k = true ↔ ∃ i ∈ M, k = key i.n
/-- what lies at them -/
def Elems (D : DataW Value) (M : Its) : Prop := ∀ i ∈ M, ∀ zd, D.atKey (key i.n) zd = .held (lv i)
theorem keys_empty : Keys (.map []) [] := by
  intro k
  constructor
  · intro h; simp [Maps.has] at h
  · rintro ⟨i, hi, _⟩; simp at hi
theorem Keys.at {D : DataW Value} {M : Its} (h : Keys D M) (y : Int) : Maps.has D (key y) = has M y := by
  rw [Bool.eq_iff_iff, h (key y), has_iff]
  constructor
  · rintro ⟨i, hi, e⟩; exact ⟨i, hi, (key_inj e).symm⟩
  · rintro ⟨i, hi, e⟩; exact ⟨i, hi, by rw [e]⟩
theorem keyLit (y : Int) : WideAt.IsKeyLit (key y) := trivial
theorem Keys.size {D : DataW Value} {M : Its} (h : Keys D M) (ht : ∃ es, D = .map es ∧ es.Pairwise (fun p q => p.1 ≠ q.1) ∧ ∀ p ∈ es, WideAt.IsKeyLit p.1) (h1 : M.Pairwise fun a b => a.n ≠ b.n) : Maps.size D = M.length := by
  obtain ⟨es, rfl, hp, hl⟩ := ht
  have n1 : (es.map Prod.fst).Nodup := by rw [List.nodup_iff_pairwise_ne, List.pairwise_map]; exact hp
  have n2 : (M.map fun i => key i.n).Nodup := by
    rw [List.nodup_iff_pairwise_ne, List.pairwise_map]
    exact h1.imp fun hab e => hab (key_inj e)
  have s1 : ∀ x ∈ es.map Prod.fst, x ∈ M.map fun i => key i.n := by
    intro x hx
    obtain ⟨e, he, rfl⟩ := List.mem_map.1 hx
    obtain ⟨i, hi, h⟩ := (h e.1).1 (List.any_eq_true.2 ⟨e, he, WideAt.sameKey_self (hl e he)⟩)
    exact List.mem_map.2 ⟨i, hi, h.symm⟩
  have s2 : ∀ x ∈ M.map (fun i => key i.n), x ∈ es.map Prod.fst := by
    intro x hx
    obtain ⟨i, hi, rfl⟩ := List.mem_map.1 hx
    obtain ⟨e, he, hs⟩ := List.any_eq_true.1 ((h (key i.n)).2 ⟨i, hi, rfl⟩)
    exact List.mem_map.2 ⟨e, he, WideAt.sameKey_eq hs⟩
  have l1 := List.Nodup.length_le_of_subset n1 s1
  have l2 := List.Nodup.length_le_of_subset n2 s2
  simp at l1 l2
  simp [Maps.size]
  omega
theorem keys_put {D : DataW Value} {M : Its} (hD : IsMap D) (h : Keys D M) (x : Kp) (d : DataW Value) : Keys (D.put (key x.n) d) (M ++ [x]) := by
  intro k
  by_cases e : k = key x.n
  · subst e
    rw [has_put_same hD (keyLit _)]
    exact ⟨fun _ => ⟨x, by simp, rfl⟩, fun _ => rfl⟩
  · rw [has_put_other e, h k]
    constructor
    · rintro ⟨i, hi, rfl⟩; exact ⟨i, by simp [hi], rfl⟩
    · rintro ⟨i, hi, rfl⟩
      rcases List.mem_append.1 hi with hi | hi
      · exact ⟨i, hi, rfl⟩
      · simp only [List.mem_singleton] at hi
        subst hi
        exact absurd rfl e
theorem elems_put {D : DataW Value} {M : Its} {x : Kp} (hD : IsMap D) (h : Elems D M) (hr : ∀ i ∈ M, i.n ≠ x.n) : Elems (D.put (key x.n) (.held (lv x))) (M ++ [x]) := by
  intro i hi zd
  rcases List.mem_append.1 hi with hi | hi
  · rw [atKey_put_other (fun e => hr i hi (key_inj e))]
    exact h i hi zd
  · simp only [List.mem_singleton] at hi
    subst hi
    exact atKey_put_same hD (keyLit _) _ _
theorem keys_strike {D : DataW Value} {M : Its} (h : Keys D M) (y : Int) : Keys (D.del (key y)) (M.filter fun i => decide (i.n ≠ y)) := by
  intro k
  by_cases e : k = key y
  · subst e
    rw [has_del_same]
    constructor
    · intro h; cases h
    · rintro ⟨i, hi, e⟩
      have := (List.mem_filter.1 hi).2
      simp at this
      exact absurd (key_inj e).symm this
  · rw [has_del_other e, h k]
    constructor
    · rintro ⟨i, hi, rfl⟩; exact ⟨i, List.mem_filter.2 ⟨hi, by simp; exact fun h => e (by rw [h])⟩, rfl⟩
    · rintro ⟨i, hi, rfl⟩; exact ⟨i, (List.mem_filter.1 hi).1, rfl⟩
theorem elems_strike {D : DataW Value} {M : Its} (h : Elems D M) (y : Int) : Elems (D.del (key y)) (M.filter fun i => decide (i.n ≠ y)) := by
  intro i hi zd
  obtain ⟨h1, h2⟩ := List.mem_filter.1 hi
  simp at h2
  rw [atKey_del_other (fun e => h2 (key_inj e))]
  exact h i h1 zd
theorem tight {P : Program} {k : TypeId} {R : Value → Option (DataW Value × List MemPlace)} {w : World} {b n : Nat} {D : DataW Value} (h : w.ownsMap P k R b n D) : w.ownsMap P k R b (Maps.size D) D := by
  obtain ⟨es, clock, hb, F, hs, rfl⟩ := h
  refine ⟨es, clock, hb, F, ?_, rfl⟩
  simp [Maps.size, length_sorted]
theorem map_block {P : Program} {k : TypeId} {R : Value → Option (DataW Value × List MemPlace)} {w : World} {b n : Nat} {D : DataW Value} (h : w.ownsMap P k R b n D) : ∃ es c, w.heap[b]? = some (.map es c) := by
  obtain ⟨es, clock, hb, _⟩ := h
  exact ⟨es, clock, hb⟩
/-- rows of items in memory -/
def flat (f : Kp → List Value) (M : Its) : List Value := M.flatMap f
theorem c8_len (i : Kp) : (c8 i).length = 8 := rfl
theorem c9_len (i : Kp) : (c9 i).length = 9 := rfl
theorem flat_len {f : Kp → List Value} {z : Nat} (hf : ∀ i, (f i).length = z) (M : Its) : (flat f M).length = M.length * z := by
  induction M with
  | nil => simp [flat]
  | cons i M ih =>
    simp only [flat, List.flatMap_cons, List.length_append, List.length_cons] at ih ⊢
    rw [ih, hf, Nat.succ_mul]
    omega
theorem flat_app (f : Kp → List Value) (M N : Its) : flat f (M ++ N) = flat f M ++ flat f N := by simp [flat]
theorem flat_one (f : Kp → List Value) (i : Kp) : flat f [i] = f i := by simp [flat]
theorem flat_get {f : Kp → List Value} {z : Nat} (hf : ∀ i, (f i).length = z) (M : Its) (j : Nat) (i : Kp) (h : M[j]? = some i) (c : Nat) (hc : c < z) : (flat f M)[j * z + c]? = (f i)[c]? := by
  induction M generalizing j with
  | nil => simp at h
  | cons a M ih =>
    have e : flat f (a :: M) = f a ++ flat f M := by simp [flat]
    rw [e]
    cases j with
    | zero =>
      simp only [List.getElem?_cons_zero, Option.some.injEq] at h
      subst h
      rw [List.getElem?_append_left (by rw [hf]; omega)]
      simp
    | succ j =>
      simp only [List.getElem?_cons_succ] at h
      rw [List.getElem?_append_right (by rw [hf, Nat.succ_mul]; omega), ← ih j h]
      congr 1
      rw [hf, Nat.succ_mul]
      omega
theorem row_cell {w : World} {base g c e z : Nat} {f : Kp → List Value} (hf : ∀ i, (f i).length = z) {M : Its} (h : w.ownsRow base e z (.slice (some ⟨g, 0, none⟩) M.length c) M.length (flat f M)) {j : Nat} {i : Kp} (hj : M[j]? = some i) (k : Nat) (hk : k < z) : w.cell? ⟨g, j * z + k, none⟩ = (f i)[k]? := by
  have hlt : j < M.length := (List.getElem?_eq_some_iff.1 hj).1
  have : (j + 1) * z ≤ M.length * z := Nat.mul_le_mul_right z hlt
  rw [Nat.succ_mul] at this
  rw [h.cellAt (j * z + k) (by omega), flat_get hf M j i hj k hk]
theorem row_form {w : World} {base e z : Nat} {f : Kp → List Value} {M : Its} {v : Value} (h : w.ownsRow base e z v M.length (flat f M)) : (v = .slice none 0 0 ∧ M = []) ∨ ∃ g c, v = .slice (some ⟨g, 0, none⟩) M.length c ∧ base ≤ g := by
  rcases h.2 with ⟨h, h0⟩ | ⟨g, cap, cur, h, hg, _⟩
  · exact .inl ⟨h, List.eq_nil_of_length_eq_zero h0⟩
  · exact .inr ⟨g, cap, h, hg⟩
/-- what lies behind a is of no account -/
theorem past {bs cs : List Nat} {a b c : World} (h : Only bs a b) (k : Only cs b c) (hc : ∀ j ∈ cs, j ∈ bs ∨ a.heap.size ≤ j) : Only bs a c :=
  ⟨k.1.trans h.1, k.2.1.trans h.2.1, k.2.2.1.trans h.2.2.1, Nat.le_trans h.2.2.2.1 k.2.2.2.1, fun i hi hb => (k.2.2.2.2 i (Nat.lt_of_lt_of_le hi h.2.2.2.1) (fun hh => by
    rcases hc i hh with h1 | h1
    · exact hb h1
    · omega)).trans (h.2.2.2.2 i hi hb)⟩
end Go.Proofs.YtpiamlgmadnepaaGreat.OM

