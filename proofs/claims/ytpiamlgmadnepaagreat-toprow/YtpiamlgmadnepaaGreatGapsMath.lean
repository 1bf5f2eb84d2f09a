/-
  Numbers that are lacking, how often each was asked for and when last: as a list that rises, and as what a map reads as. Of numbers and lists alone; no program.
-/
import Derived.Test.YtpiamlgmadnepaaGreatMem
import Derived.Maps.RangeWalk
import Derived.Lib.SlKeysI
import Derived.WalkKit
namespace Go.Proofs.YtpiamlgmadnepaaGreat.GM
open Go Go.RowKit Go.Maps Go.Proofs.YtpiamlgmadnepaaGreat.Mem
set_option linter.unusedVariables false

/-- a number that is lacking: how often it was asked for, when last -/
structure Lk where
  n : Int
  t : Int
  a : Int
abbrev Its := List Lk
def nums (M : Its) : List Int := M.map Lk.n
theorem nums_len (M : Its) : (nums M).length = M.length := by simp [nums]
theorem nums_app (M K : Its) : nums (M ++ K) = nums M ++ nums K := by simp [nums]
def key (y : Int) : Lit := .int .i64 y
theorem key_inj {x y : Int} (h : key x = key y) : x = y := by
  unfold key at h
  injection h
def has (M : Its) (y : Int) : Bool := M.any fun i => i.n == y
theorem has_iff {M : Its} {y : Int} : has M y = true ↔ ∃ i ∈ M, i.n = y := by
  simp [has]
theorem has_no {M : Its} {y : Int} (h : has M y = false) : ∀ i ∈ M, i.n ≠ y := by
  intro i hi e
  have := has_iff.2 ⟨i, hi, e⟩
  rw [h] at this
  cases this
def Ris (M : Its) : Prop := M.Pairwise fun a b => a.n < b.n
theorem Ris.apart {M : Its} (h : Ris M) : M.Pairwise fun a b => a.n ≠ b.n := h.imp fun h => by omega

/-- what holds of one that is used: each again, so many tries, the time, the greatest number, what is lacking -/
structure Inv (ag tr nw T : Int) (M : Its) : Prop where
  a1 : 1 ≤ ag
  a2 : ag ≤ 1000000
  r1 : 1 ≤ tr
  r2 : tr ≤ 20
  n1 : 0 ≤ nw
  n2 : nw ≤ 1000000
  t1 : -1 ≤ T
  t2 : T ≤ 1099511627776
  mem : ∀ x ∈ M, 0 ≤ x.n ∧ x.n < T ∧ 0 ≤ x.t ∧ x.t ≤ tr ∧ 0 ≤ x.a ∧ x.a ≤ nw
  ris : Ris M
  len : M.length ≤ 200
theorem inv_start {ag tr : Int} (h1 : 1 ≤ ag) (h2 : ag ≤ 1000000) (h3 : 1 ≤ tr) (h4 : tr ≤ 20) : Inv ag tr 0 (-1) [] :=
  ⟨h1, h2, h3, h4, by omega, by omega, by omega, by omega, by simp, List.Pairwise.nil, by simp⟩

/-- the fault of a time -/
def tf (nw now : Int) : Nat := if now < 0 ∨ 1000000 < now then 1 else if now < nw then 6 else 0
theorem tf_zero {nw now : Int} (h : tf nw now = 0) : 0 ≤ now ∧ now ≤ 1000000 ∧ nw ≤ now := by
  unfold tf at h
  split at h
  · omega
  · split at h <;> omega
/-- how many are left out -/
def lo (T y : Int) : Int := if T = -1 ∨ y ≤ T then 0 else y - T - 1
theorem lo_nn {T y : Int} : 0 ≤ lo T y := by unfold lo; split <;> omega
/-- the fault of a number that comes -/
def hf (nw T : Int) (M : Its) (y now : Int) : Nat :=
  if tf nw now ≠ 0 then tf nw now else if y < 0 ∨ 1099511627776 < y then 1 else if 200 < (M.length : Int) + lo T y then 4 else 0
theorem hf_zero {nw T y now : Int} {M : Its} (h : hf nw T M y now = 0) : tf nw now = 0 ∧ 0 ≤ y ∧ y ≤ 1099511627776 ∧ (M.length : Int) + lo T y ≤ 200 := by
  unfold hf at h
  split at h
  · omega
  · split at h
    · omega
    · split at h <;> omega
/-- those that are left out -/
def fresh (T : Int) (k : Nat) : Its := (List.range k).map fun (j : Nat) => ⟨T + 1 + (j : Int), 0, 0⟩
theorem fresh_succ (T : Int) (k : Nat) : fresh T (k + 1) = fresh T k ++ [⟨T + 1 + (k : Int), 0, 0⟩] := by
  simp [fresh, List.range_succ]
theorem fresh_len (T : Int) (k : Nat) : (fresh T k).length = k := by simp [fresh]
theorem mem_fresh {T : Int} {k : Nat} {x : Lk} : x ∈ fresh T k ↔ ∃ j : Nat, j < k ∧ x = ⟨T + 1 + (j : Int), 0, 0⟩ := by
  simp only [fresh, List.mem_map, List.mem_range]
  constructor
  · rintro ⟨j, h, rfl⟩; exact ⟨j, h, rfl⟩
  · rintro ⟨j, h, rfl⟩; exact ⟨j, h, rfl⟩
/-- is it new; the greatest number; what is lacking then -/
def hx (T : Int) (M : Its) (y : Int) : Bool := decide (T < y) || has M y
def hT (T y : Int) : Int := if T < y then y else T
def hM (T : Int) (M : Its) (y : Int) : Its := if T < y then M ++ fresh T (lo T y).toNat else M.filter fun i => decide (i.n ≠ y)
theorem inv_hear {ag tr nw T y now : Int} {M : Its} (h : Inv ag tr nw T M) (h0 : hf nw T M y now = 0) : Inv ag tr now (hT T y) (hM T M y) := by
  obtain ⟨k0, k1, k2, k3⟩ := hf_zero h0
  obtain ⟨j1, j2, j3⟩ := tf_zero k0
  have hlo := @lo_nn T y
  have h1 := h.t1
  have h2 := h.t2
  have h3 := h.r1
  unfold hT hM
  by_cases c : T < y
  · simp only [c, if_true]
    refine ⟨h.a1, h.a2, h.r1, h.r2, j1, j2, by omega, k2, ?_, ?_, ?_⟩
    · intro x hx
      rcases List.mem_append.1 hx with hx | hx
      · have := h.mem x hx
        omega
      · obtain ⟨j, hj, rfl⟩ := mem_fresh.1 hx
        have e : lo T y = y - T - 1 := by
          unfold lo at hj ⊢
          split at hj
          · simp at hj
          · rename_i q; rw [if_neg q]
        simp only
        omega
    · unfold Ris
      rw [List.pairwise_append]
      refine ⟨h.ris, ?_, ?_⟩
      · unfold fresh
        rw [List.pairwise_map]
        exact List.pairwise_lt_range.imp fun q => by show (_ : Int) < _; simp only; omega
      · intro a ha b hb
        have := h.mem a ha
        obtain ⟨j, hj, rfl⟩ := mem_fresh.1 hb
        simp only
        omega
    · rw [List.length_append, fresh_len]; omega
  · simp only [c, if_false]
    refine ⟨h.a1, h.a2, h.r1, h.r2, j1, j2, h1, h2, ?_, h.ris.filter _, ?_⟩
    · intro x hx
      have := h.mem x (List.mem_filter.1 hx).1
      omega
    · have := List.length_filter_le (fun i : Lk => decide (i.n ≠ y)) M
      have := h.len
      omega

/-- one that was asked for lately; one that is given up; one that is asked for -/
def stays (ag now : Int) (x : Lk) : Bool := decide (0 < x.t) && decide (now - x.a < ag)
def gives (ag tr now : Int) (x : Lk) : Bool := !stays ag now x && decide (x.t = tr)
def asks (ag tr now : Int) (x : Lk) : Bool := !stays ag now x && !decide (x.t = tr)
def dueL (ag tr now : Int) (M : Its) : List Int := nums (M.filter (asks ag tr now))
def gaveL (ag tr now : Int) (M : Its) : List Int := nums (M.filter (gives ag tr now))
def next (ag tr now : Int) (x : Lk) : Lk := if asks ag tr now x then ⟨x.n, x.t + 1, now⟩ else x
def dM (ag tr now : Int) (M : Its) : Its := (M.filter fun x => !gives ag tr now x).map (next ag tr now)
theorem next_n (ag tr now : Int) (x : Lk) : (next ag tr now x).n = x.n := by unfold next; split <;> rfl
theorem dM_app (ag tr now : Int) (M K : Its) : dM ag tr now (M ++ K) = dM ag tr now M ++ dM ag tr now K := by simp [dM]
theorem dueL_app (ag tr now : Int) (M K : Its) : dueL ag tr now (M ++ K) = dueL ag tr now M ++ dueL ag tr now K := by simp [dueL, nums]
theorem gaveL_app (ag tr now : Int) (M K : Its) : gaveL ag tr now (M ++ K) = gaveL ag tr now M ++ gaveL ag tr now K := by simp [gaveL, nums]
theorem one_stays {ag tr now : Int} {x : Lk} (h : stays ag now x = true) : dM ag tr now [x] = [x] ∧ dueL ag tr now [x] = [] ∧ gaveL ag tr now [x] = [] := by
  simp [dM, dueL, gaveL, nums, gives, asks, next, h]
theorem one_gives {ag tr now : Int} {x : Lk} (h : stays ag now x = false) (h2 : x.t = tr) : dM ag tr now [x] = [] ∧ dueL ag tr now [x] = [] ∧ gaveL ag tr now [x] = [x.n] := by
  simp [dM, dueL, gaveL, nums, gives, asks, h, h2]
theorem one_asks {ag tr now : Int} {x : Lk} (h : stays ag now x = false) (h2 : x.t ≠ tr) : dM ag tr now [x] = [⟨x.n, x.t + 1, now⟩] ∧ dueL ag tr now [x] = [x.n] ∧ gaveL ag tr now [x] = [] := by
  simp [dM, dueL, gaveL, nums, gives, asks, next, h, h2]
theorem inv_due {ag tr nw T now : Int} {M : Its} (h : Inv ag tr nw T M) (h0 : tf nw now = 0) : Inv ag tr now T (dM ag tr now M) := by
  obtain ⟨j1, j2, j3⟩ := tf_zero h0
  refine ⟨h.a1, h.a2, h.r1, h.r2, j1, j2, h.t1, h.t2, ?_, ?_, ?_⟩
  · intro x hx
    obtain ⟨y, hy, rfl⟩ := List.mem_map.1 hx
    obtain ⟨hy, hg⟩ := List.mem_filter.1 hy
    have := h.mem y hy
    unfold next
    split
    · rename_i ha
      simp [asks] at ha
      simp only
      omega
    · omega
  · unfold Ris dM
    rw [List.pairwise_map]
    exact (h.ris.filter _).imp fun q => by rw [next_n, next_n]; exact q
  · have := List.length_filter_le (fun x => !gives ag tr now x) M
    have := h.len
    simp only [dM, List.length_map]
    omega
theorem due_len (ag tr now : Int) (M : Its) : (dueL ag tr now M).length ≤ M.length := by
  simp only [dueL, nums, List.length_map]; exact List.length_filter_le _ _
theorem gave_len (ag tr now : Int) (M : Its) : (gaveL ag tr now M).length ≤ M.length := by
  simp only [gaveL, nums, List.length_map]; exact List.length_filter_le _ _

/-! one call of Hear, one of Due: what comes of what there was -/
def hB (nw T : Int) (M : Its) (y now : Int) : Bool := decide (hf nw T M y now = 0) && hx T M y
def hN (nw T : Int) (M : Its) (y now : Int) : Int := if hf nw T M y now = 0 then now else nw
def hU (nw T : Int) (M : Its) (y now : Int) : Int := if hf nw T M y now = 0 then hT T y else T
def hL (nw T : Int) (M : Its) (y now : Int) : Its := if hf nw T M y now = 0 then hM T M y else M
theorem inv_hear2 {ag tr nw T y now : Int} {M : Its} (h : Inv ag tr nw T M) : Inv ag tr (hN nw T M y now) (hU nw T M y now) (hL nw T M y now) := by
  unfold hN hU hL
  by_cases h0 : hf nw T M y now = 0
  · simp only [h0, if_true]
    exact inv_hear h h0
  · simp only [h0, if_false]
    exact h
def dN (nw now : Int) : Int := if tf nw now = 0 then now else nw
def dL (ag tr nw : Int) (M : Its) (now : Int) : Its := if tf nw now = 0 then dM ag tr now M else M
def dD (ag tr nw : Int) (M : Its) (now : Int) : List Int := if tf nw now = 0 then dueL ag tr now M else []
def dG (ag tr nw : Int) (M : Its) (now : Int) : List Int := if tf nw now = 0 then gaveL ag tr now M else []
theorem inv_due2 {ag tr nw T now : Int} {M : Its} (h : Inv ag tr nw T M) : Inv ag tr (dN nw now) T (dL ag tr nw M now) := by
  unfold dN dL
  by_cases h0 : tf nw now = 0
  · simp only [h0, if_true]
    exact inv_due h h0
  · simp only [h0, if_false]
    exact h
theorem dG_len (ag tr nw : Int) (M : Its) (now : Int) : (dG ag tr nw M now).length ≤ M.length := by
  unfold dG
  split
  · exact gave_len _ _ _ _
  · simp
theorem dD_len (ag tr nw : Int) (M : Its) (now : Int) : (dD ag tr nw M now).length ≤ M.length := by
  unfold dD
  split
  · exact due_len _ _ _ _
  · simp
theorem tf_le {nw now : Int} : tf nw now ≤ 6 := by
  unfold tf
  split
  · omega
  · split <;> omega
theorem hf_le {nw T y now : Int} {M : Its} : hf nw T M y now ≤ 6 := by
  unfold hf
  have := @tf_le nw now
  split
  · exact this
  · split
    · omega
    · split <;> omega

/-! what a map reads as -/
/-- the value of what is known of a number -/
def lv (x : Lk) : Value := .agg #[.int .i64 x.t, .int .i64 x.a]
/-- how an element reads: as itself -/
def akR : Value → Option (DataW Value × List MemPlace)
  | .agg cs => match cs.toList with
    | [.int .i64 _, .int .i64 _] => some (.held (.agg cs), [])
    | _ => none
  | _ => none
theorem akR_mk (t a : Int) : akR (.agg #[.int .i64 t, .int .i64 a]) = some (.held (.agg #[.int .i64 t, .int .i64 a]), []) := rfl
theorem akR_inv {v : Value} {y : DataW Value × List MemPlace} (h : akR v = some y) : (∃ t a, v = .agg #[.int .i64 t, .int .i64 a]) ∧ y = (.held v, []) := by
  unfold akR at h
  split at h
  · rename_i cs
    split at h
    · rename_i t a hcs
      refine ⟨⟨t, a, ?_⟩, (Option.some.inj h).symm⟩
      congr 1
      exact Array.toList_inj.1 hcs
    · cases h
  · cases h
/-- which keys are there -/
def Keys (D : DataW Value) (M : Its) : Prop := ∀ k : Lit, Maps.has D k = true ↔ ∃ i ∈ M, k = key i.n
/-- what lies at them -/
def Elems (D : DataW Value) (M : Its) : Prop := ∀ i ∈ M, ∀ zd, D.atKey (key i.n) zd = .held (lv i)
theorem keys_empty : Keys (.map []) [] := by
  intro k
  constructor
  · intro h; simp [Maps.has] at h
  · rintro ⟨i, hi, _⟩; simp at hi
theorem Keys.at {D : DataW Value} {M : Its} (h : Keys D M) (y : Int) : Maps.has D (key y) = has M y := by
  rw [Bool.eq_iff_iff, h (key y), has_iff]
  constructor
  · rintro ⟨i, hi, e⟩; exact ⟨i, hi, (key_inj e).symm⟩
  · rintro ⟨i, hi, e⟩; exact ⟨i, hi, by rw [e]⟩
theorem keyLit (y : Int) : WideAt.IsKeyLit (key y) := trivial
theorem Keys.size {D : DataW Value} {M : Its} (h : Keys D M) (ht : ∃ es, D = .map es ∧ es.Pairwise (fun p q => p.1 ≠ q.1) ∧ ∀ p ∈ es, WideAt.IsKeyLit p.1) (h1 : M.Pairwise fun a b => a.n ≠ b.n) : Maps.size D = M.length := by
  obtain ⟨es, rfl, hp, hl⟩ := ht
  have n1 : (es.map Prod.fst).Nodup := by rw [List.nodup_iff_pairwise_ne, List.pairwise_map]; exact hp
  have n2 : (M.map fun i => key i.n).Nodup := by
    rw [List.nodup_iff_pairwise_ne, List.pairwise_map]
    exact h1.imp fun hab e => hab (key_inj e)
  have s1 : ∀ x ∈ es.map Prod.fst, x ∈ M.map fun i => key i.n := by
    intro x hx
    obtain ⟨e, he, rfl⟩ := List.mem_map.1 hx
    obtain ⟨i, hi, h⟩ := (h e.1).1 (List.any_eq_true.2 ⟨e, he, WideAt.sameKey_self (hl e he)⟩)
    exact List.mem_map.2 ⟨i, hi, h.symm⟩
  have s2 : ∀ x ∈ M.map (fun i => key i.n), x ∈ es.map Prod.fst := by
    intro x hx
    obtain ⟨i, hi, rfl⟩ := List.mem_map.1 hx
    obtain ⟨e, he, hs⟩ := List.any_eq_true.1 ((h (key i.n)).2 ⟨i, hi, rfl⟩)
    exact List.mem_map.2 ⟨e, he, WideAt.sameKey_eq hs⟩
  have l1 := List.Nodup.length_le_of_subset n1 s1
  have l2 := List.Nodup.length_le_of_subset n2 s2
  simp at l1 l2
  simp [Maps.size]
  omega
/-- the keys, as numbers -/
theorem Keys.perm {P : Program} {k : TypeId} {R : Value → Option (DataW Value × List MemPlace)} {w : World} {b n : Nat} {D : DataW Value} {M : Its} (h : Keys D M) (hown : w.ownsMap P k R b n D) (K : Keyed P k) (hk : P.underlying k = some (.int .i64)) (h1 : Ris M) : (nums M).Perm (intKeys D) := by
  obtain ⟨es, hD, hpw, _⟩ := hown.entries K
  obtain ⟨es', hD', hko⟩ := hown.keysOf
  obtain rfl : es = es' := by rw [hD] at hD'; simpa using hD'
  subst hD
  refine perm_intKeys hpw (fun p hp => by obtain ⟨v, hv⟩ := hko p hp; obtain ⟨x, _, hx, _⟩ := Maps.keyOf_i64 hk hv; exact ⟨x, hx⟩) ?_ (fun x => ?_)
  · rw [List.nodup_iff_pairwise_ne, nums, List.pairwise_map]
    exact h1.apart
  · rw [show Lit.int .i64 x = key x from rfl, h (key x), nums, List.mem_map]
    constructor
    · rintro ⟨i, hi, rfl⟩; exact ⟨i, hi, rfl⟩
    · rintro ⟨i, hi, e⟩; exact ⟨i, hi, (key_inj e).symm⟩
theorem sorted_nums {M : Its} (h : Ris M) {ss : List Int} (hp : ss.Perm (nums M)) : ss.mergeSort (fun x y => decide (x ≤ y)) = nums M := by
  have := mergeSort_of_perm_i hp
  refine this.trans (List.mergeSort_of_pairwise ?_)
  rw [nums, List.pairwise_map]
  exact h.imp fun q => by simp; omega

/-- of one list made of two: the keys rise, so none is there twice -/
theorem apart_mid {A B : Its} {x : Lk} (h : Ris (A ++ x :: B)) : ∀ i ∈ A ++ B, i.n ≠ x.n := by
  unfold Ris at h
  rw [List.pairwise_append, List.pairwise_cons] at h
  obtain ⟨h1, ⟨h2, h3⟩, h4⟩ := h
  intro i hi
  rcases List.mem_append.1 hi with hi | hi
  · have := h4 i hi x (by simp); omega
  · have := h2 i hi; omega
theorem keys_del {D : DataW Value} {A B : Its} {x : Lk} (h : Keys D (A ++ x :: B)) (hr : ∀ i ∈ A ++ B, i.n ≠ x.n) : Keys (D.del (key x.n)) (A ++ B) := by
  intro k
  by_cases e : k = key x.n
  · subst e
    rw [has_del_same]
    constructor
    · intro h; cases h
    · rintro ⟨i, hi, e⟩
      exact absurd (key_inj e).symm (hr i hi)
  · rw [has_del_other e, h k]
    constructor
    · rintro ⟨i, hi, rfl⟩
      simp only [List.mem_append, List.mem_cons] at hi
      rcases hi with hi | rfl | hi
      · exact ⟨i, by simp [hi], rfl⟩
      · exact absurd rfl e
      · exact ⟨i, by simp [hi], rfl⟩
    · rintro ⟨i, hi, rfl⟩
      refine ⟨i, ?_, rfl⟩
      rcases List.mem_append.1 hi with hi | hi <;> simp [hi]
theorem elems_del {D : DataW Value} {A B : Its} {x : Lk} (h : Elems D (A ++ x :: B)) (hr : ∀ i ∈ A ++ B, i.n ≠ x.n) : Elems (D.del (key x.n)) (A ++ B) := by
  intro i hi zd
  rw [atKey_del_other (fun e => hr i hi (key_inj e))]
  refine h i ?_ zd
  rcases List.mem_append.1 hi with hi | hi <;> simp [hi]
theorem keys_set {D : DataW Value} {A B : Its} {x y : Lk} (hD : IsMap D) (h : Keys D (A ++ x :: B)) (hy : y.n = x.n) (d : DataW Value) : Keys (D.put (key x.n) d) (A ++ y :: B) := by
  intro k
  by_cases e : k = key x.n
  · subst e
    rw [has_put_same hD (keyLit _)]
    exact ⟨fun _ => ⟨y, by simp, by rw [hy]⟩, fun _ => rfl⟩
  · rw [has_put_other e, h k]
    constructor
    · rintro ⟨i, hi, rfl⟩
      simp only [List.mem_append, List.mem_cons] at hi
      rcases hi with hi | rfl | hi
      · exact ⟨i, by simp [hi], rfl⟩
      · exact absurd rfl e
      · exact ⟨i, by simp [hi], rfl⟩
    · rintro ⟨i, hi, rfl⟩
      simp only [List.mem_append, List.mem_cons] at hi
      rcases hi with hi | rfl | hi
      · exact ⟨i, by simp [hi], rfl⟩
      · exact absurd (by rw [hy]) e
      · exact ⟨i, by simp [hi], rfl⟩
theorem elems_set {D : DataW Value} {A B : Its} {x y : Lk} (hD : IsMap D) (h : Elems D (A ++ x :: B)) (hy : y.n = x.n) (hr : ∀ i ∈ A ++ B, i.n ≠ x.n) : Elems (D.put (key x.n) (.held (lv y))) (A ++ y :: B) := by
  intro i hi zd
  simp only [List.mem_append, List.mem_cons] at hi
  rcases hi with hi | rfl | hi
  · rw [atKey_put_other (fun e => hr i (by simp [hi]) (key_inj e))]
    exact h i (by simp [hi]) zd
  · rw [hy]
    exact atKey_put_same hD (keyLit _) _ _
  · rw [atKey_put_other (fun e => hr i (by simp [hi]) (key_inj e))]
    exact h i (by simp [hi]) zd
theorem keys_put {D : DataW Value} {M : Its} (hD : IsMap D) (h : Keys D M) (x : Lk) (d : DataW Value) : Keys (D.put (key x.n) d) (M ++ [x]) := by
  intro k
  by_cases e : k = key x.n
  · subst e
    rw [has_put_same hD (keyLit _)]
    exact ⟨fun _ => ⟨x, by simp, rfl⟩, fun _ => rfl⟩
  · rw [has_put_other e, h k]
    constructor
    · rintro ⟨i, hi, rfl⟩; exact ⟨i, by simp [hi], rfl⟩
    · rintro ⟨i, hi, rfl⟩
      rcases List.mem_append.1 hi with hi | hi
      · exact ⟨i, hi, rfl⟩
      · simp only [List.mem_singleton] at hi
        subst hi
        exact absurd rfl e
theorem elems_put {D : DataW Value} {M : Its} {x : Lk} (hD : IsMap D) (h : Elems D M) (hr : ∀ i ∈ M, i.n ≠ x.n) : Elems (D.put (key x.n) (.held (lv x))) (M ++ [x]) := by
  intro i hi zd
  rcases List.mem_append.1 hi with hi | hi
  · rw [atKey_put_other (fun e => hr i hi (key_inj e))]
    exact h i hi zd
  · simp only [List.mem_singleton] at hi
    subst hi
    exact atKey_put_same hD (keyLit _) _ _
theorem keys_strike {D : DataW Value} {M : Its} (h : Keys D M) (y : Int) : Keys (D.del (key y)) (M.filter fun i => decide (i.n ≠ y)) := by
  intro k
  by_cases e : k = key y
  · subst e
    rw [has_del_same]
    constructor
    · intro h; cases h
    · rintro ⟨i, hi, e⟩
      have := (List.mem_filter.1 hi).2
      simp at this
      exact absurd (key_inj e).symm this
  · rw [has_del_other e, h k]
    constructor
    · rintro ⟨i, hi, rfl⟩; exact ⟨i, List.mem_filter.2 ⟨hi, by simp; exact fun h => e (by rw [h])⟩, rfl⟩
    · rintro ⟨i, hi, rfl⟩; exact ⟨i, (List.mem_filter.1 hi).1, rfl⟩
theorem elems_strike {D : DataW Value} {M : Its} (h : Elems D M) (y : Int) : Elems (D.del (key y)) (M.filter fun i => decide (i.n ≠ y)) := by
  intro i hi zd
  obtain ⟨h1, h2⟩ := List.mem_filter.1 hi
  simp at h2
  rw [atKey_del_other (fun e => h2 (key_inj e))]
  exact h i h1 zd
/-- the bound of a map is as many as it has -/
theorem tight {P : Program} {k : TypeId} {R : Value → Option (DataW Value × List MemPlace)} {w : World} {b n : Nat} {D : DataW Value} (h : w.ownsMap P k R b n D) : w.ownsMap P k R b (Maps.size D) D := by
  obtain ⟨es, clock, hb, F, hs, rfl⟩ := h
  refine ⟨es, clock, hb, F, ?_, rfl⟩
  simp [Maps.size, length_sorted]
theorem map_block {P : Program} {k : TypeId} {R : Value → Option (DataW Value × List MemPlace)} {w : World} {b n : Nat} {D : DataW Value} (h : w.ownsMap P k R b n D) : ∃ es c, w.heap[b]? = some (.map es c) := by
  obtain ⟨es, clock, hb, _⟩ := h
  exact ⟨es, clock, hb⟩
end Go.Proofs.YtpiamlgmadnepaaGreat.GM

