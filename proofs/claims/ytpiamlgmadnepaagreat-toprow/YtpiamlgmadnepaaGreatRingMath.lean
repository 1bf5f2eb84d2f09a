/-
  Packets kept by number: as a list, and as what a map reads as. Of numbers, lists and worlds alone; no program.
-/
import Derived.Test.YtpiamlgmadnepaaGreatMem
import Derived.Maps.RangeWalk
import Derived.WalkKit
namespace Go.Proofs.YtpiamlgmadnepaaGreat.RM
open Go Go.RowKit Go.Maps Go.Proofs.YtpiamlgmadnepaaGreat.Mem
set_option linter.unusedVariables false

/-- a packet: its numbers, its Start, its Body -/
structure Pk where
  s : Int
  t : Int
  l : Int
  q : Int
  st : Bool
  L : List Nat
  bv : Value
/-- packets by number -/
abbrev Its := List (Int × Pk)
def key (y : Int) : Lit := .int .i64 y
theorem key_inj {x y : Int} (h : key x = key y) : x = y := by
  unfold key at h
  injection h

def top (T y : Int) : Int := if T < y then y else T
/-- what is kept of the last n numbers -/
def keeps (n T : Int) (M : Its) : Its := M.filter fun i => decide (T - n < i.1)
def has (M : Its) (y : Int) : Bool := M.any fun i => i.1 == y
theorem has_iff {M : Its} {y : Int} : has M y = true ↔ ∃ i ∈ M, i.1 = y := by
  simp [has]
theorem has_no {M : Its} {y : Int} (h : has M y = false) : ∀ i ∈ M, i.1 ≠ y := by
  intro i hi e
  have := has_iff.2 ⟨i, hi, e⟩
  rw [h] at this
  cases this

structure Inv (n T : Int) (M : Its) : Prop where
  n1 : 1 ≤ n
  n2 : n ≤ 64
  t1 : -1 ≤ T
  t2 : T ≤ 1099511627776
  mem : ∀ i ∈ M, 0 ≤ i.1 ∧ i.1 ≤ T ∧ T - n < i.1
  one : M.Pairwise fun a b => a.1 ≠ b.1
  tops : (T = -1 ∧ M = []) ∨ ∃ i ∈ M, i.1 = T

theorem inv_start {n : Int} (h1 : 1 ≤ n) (h2 : n ≤ 64) : Inv n (-1) [] :=
  ⟨h1, h2, by omega, by omega, by simp, List.Pairwise.nil, .inl ⟨rfl, rfl⟩⟩

/-- no more than n are kept -/
theorem Inv.len {n T : Int} {M : Its} (h : Inv n T M) : (M.length : Int) ≤ n := by
  have hn : (M.map fun i => (T - i.1).toNat).Nodup := by
    rw [List.nodup_iff_pairwise_ne, List.pairwise_map]
    refine h.one.imp_of_mem ?_
    intro a b ha hb hab e
    have := h.mem a ha
    have := h.mem b hb
    omega
  have := List.Nodup.length_le_of_subset (l₂ := List.range n.toNat) hn (by
    intro x hx
    obtain ⟨i, hi, rfl⟩ := List.mem_map.1 hx
    have := h.mem i hi
    simp only [List.mem_range]
    omega)
  simp at this
  have := h.n1
  omega

theorem inv_put {n T y : Int} {M : Its} (h : Inv n T M) (p : Pk) (h0 : 0 ≤ y) (h1 : y ≤ 1099511627776) (ho : T - n < y) (hh : has M y = false) : Inv n (top T y) (keeps n (top T y) M ++ [(y, p)]) := by
  have hno := has_no hh
  obtain ⟨n1, n2, t1, t2, hm, h5, h6⟩ := h
  refine ⟨n1, n2, ?_, ?_, ?_, ?_, ?_⟩
  · unfold top; split <;> omega
  · unfold top; split <;> omega
  · intro i hi
    rcases List.mem_append.1 hi with hi | hi
    · obtain ⟨hi, hk⟩ := List.mem_filter.1 hi
      have := hm i hi
      simp only [decide_eq_true_eq] at hk
      refine ⟨this.1, ?_, hk⟩
      unfold top; split <;> omega
    · simp only [List.mem_singleton] at hi
      subst hi
      unfold top; split <;> simp <;> omega
  · rw [List.pairwise_append]
    refine ⟨h5.filter _, by simp, ?_⟩
    intro a ha b hb
    simp only [List.mem_singleton] at hb
    subst hb
    exact hno a (List.mem_filter.1 ha).1
  · right
    by_cases hu : T < y
    · exact ⟨(y, p), by simp, by simp [top, hu]⟩
    · have ht : top T y = T := by simp [top, hu]
      rcases h6 with ⟨h6, _⟩ | ⟨i, hi, e⟩
      · omega
      · exact ⟨i, List.mem_append.2 (.inl (List.mem_filter.2 ⟨hi, by rw [ht]; simp; omega⟩)), by rw [ht, e]⟩
/-- where nothing rises all is kept -/
theorem keeps_same {n T : Int} {M : Its} (h : Inv n T M) : keeps n T M = M := by
  unfold keeps
  rw [List.filter_eq_self]
  intro i hi
  have := h.mem i hi
  simp; omega

/-- one Put: the fault, whether it is new, the greatest number, what is kept -/
def pf (n T y : Int) (f : Nat) : Nat := if y < 0 ∨ 1099511627776 < y then 1 else if f ≠ 0 then f else if y ≤ T - n then 6 else 0
def px (n T y : Int) (M : Its) (f : Nat) : Bool := decide (pf n T y f = 0) && !has M y
def pT (n T y : Int) (M : Its) (f : Nat) : Int := if px n T y M f then top T y else T
def pM (n T y : Int) (M : Its) (f : Nat) (p : Pk) : Its := if px n T y M f then keeps n (top T y) M ++ [(y, p)] else M
theorem pf_zero {n T y : Int} {f : Nat} (h : pf n T y f = 0) : 0 ≤ y ∧ y ≤ 1099511627776 ∧ f = 0 ∧ T - n < y := by
  unfold pf at h
  split at h
  · omega
  · split at h
    · omega
    · split at h
      · omega
      · rename_i h1 h2 h3
        exact ⟨by omega, by omega, by omega, by omega⟩
theorem pf_mk {n T y : Int} {f : Nat} (h0 : 0 ≤ y) (h1 : y ≤ 1099511627776) (hf : f = 0) (ho : T - n < y) : pf n T y f = 0 := by
  unfold pf
  rw [if_neg (by omega), if_neg (by omega), if_neg (by omega)]
theorem px_true {n T y : Int} {M : Its} {f : Nat} (h : px n T y M f = true) : pf n T y f = 0 ∧ has M y = false := by
  simpa [px] using h
theorem inv_step {n T y : Int} {M : Its} (h : Inv n T M) (f : Nat) (p : Pk) : Inv n (pT n T y M f) (pM n T y M f p) := by
  unfold pT pM
  by_cases hx : px n T y M f = true
  · obtain ⟨h1, h2⟩ := px_true hx
    obtain ⟨k1, k2, _, k4⟩ := pf_zero h1
    simp only [hx, if_true]
    exact inv_put h p k1 k2 k4 h2
  · simp only [hx]
    exact h

/-- the least number -/
def low (T : Int) (M : Its) : Int := M.foldl (fun a i => min a i.1) T
theorem low_le (T : Int) (M : Its) : low T M ≤ T ∧ (∀ i ∈ M, low T M ≤ i.1) ∧ (low T M = T ∨ ∃ i ∈ M, low T M = i.1) := by
  induction M generalizing T with
  | nil => exact ⟨Int.le_refl _, by simp, .inl rfl⟩
  | cons a M ih =>
    obtain ⟨h1, h2, h3⟩ := ih (min T a.1)
    have e : low T (a :: M) = low (min T a.1) M := rfl
    rw [e]
    refine ⟨by omega, ?_, ?_⟩
    · intro i hi
      rcases List.mem_cons.1 hi with rfl | hi
      · omega
      · exact h2 i hi
    · rcases h3 with h3 | ⟨i, hi, h3⟩
      · rcases Int.le_total T a.1 with hle | hle
        · left; omega
        · right; exact ⟨a, by simp, by omega⟩
      · right; exact ⟨i, by simp [hi], h3⟩
theorem low_eq {T m : Int} {M : Its} (h1 : m ≤ T) (h2 : ∀ i ∈ M, m ≤ i.1) (h3 : m = T ∨ ∃ i ∈ M, m = i.1) : m = low T M := by
  obtain ⟨k1, k2, k3⟩ := low_le T M
  have a : m ≤ low T M := by
    rcases k3 with k3 | ⟨i, hi, k3⟩
    · omega
    · have := h2 i hi; omega
  have b : low T M ≤ m := by
    rcases h3 with h3 | ⟨i, hi, h3⟩
    · omega
    · have := k2 i hi; omega
  omega

/-! what a map reads as -/
/-- the value of a packet, its Body in memory of the call's own -/
def PkIs (w : World) (v : Value) (p : Pk) : Prop :=
  ∃ a m c, v = .agg #[.int .i64 p.s, .int .i64 p.t, .int .i64 p.l, .int .i64 p.q, .bool p.st, .slice a m c] ∧ w.ownsRow 0 5 1 (.slice a m c) m (cellsOf p.L) ∧ (∀ x ∈ p.L, x < 256) ∧ m ≤ 1000
theorem own_base {w : World} {base base' e size n : Nat} {v : Value} {xs : List Value} (h : w.ownsRow base e size v n xs) (hb : base' ≤ base) : w.ownsRow base' e size v n xs := by
  refine ⟨h.1, ?_⟩
  rcases h.2 with h | ⟨g, cap, cur, e, hg, r⟩
  · exact .inl h
  · exact .inr ⟨g, cap, cur, e, Nat.le_trans hb hg, r⟩
theorem PkIs.only {w w' : World} {v : Value} {p : Pk} {bs : List Nat} (h : PkIs w v p) (ho : Only bs w w') (hb : ∀ k ∈ bs, ∀ cs fr, w.heap[k]? ≠ some (.cells cs 5 fr)) : PkIs w' v p := by
  obtain ⟨a, m, c, rfl, hr, hx, hm⟩ := h
  refine ⟨a, m, c, rfl, ho.owns hr ?_, hx, hm⟩
  intro k hk hc
  rcases hr.2 with ⟨hn, _⟩ | ⟨g, cap, cur, e, _, hgg, _⟩
  · rw [hn] at hk; simp [Value.ownBlock] at hk
  · rw [e] at hk
    simp [Value.ownBlock] at hk
    subst hk
    exact hb _ hc _ _ hgg
/-- how an element reads: as itself -/
def pkR : Value → Option (DataW Value × List MemPlace)
  | .agg cs => match cs.toList with
    | [.int .i64 _, .int .i64 _, .int .i64 _, .int .i64 _, .bool _, .slice _ _ _] => some (.held (.agg cs), [])
    | _ => none
  | _ => none
theorem pkR_mk (s t l q : Int) (st : Bool) (a : Option Addr) (m c : Nat) : pkR (.agg #[.int .i64 s, .int .i64 t, .int .i64 l, .int .i64 q, .bool st, .slice a m c]) = some (.held (.agg #[.int .i64 s, .int .i64 t, .int .i64 l, .int .i64 q, .bool st, .slice a m c]), []) := rfl
theorem pkR_inv {v : Value} {y : DataW Value × List MemPlace} (h : pkR v = some y) : (∃ s t l q st a m c, v = .agg #[.int .i64 s, .int .i64 t, .int .i64 l, .int .i64 q, .bool st, .slice a m c]) ∧ y = (.held v, []) := by
  unfold pkR at h
  split at h
  · rename_i cs
    split at h
    · rename_i s t l q st a m c hcs
      refine ⟨⟨s, t, l, q, st, a, m, c, ?_⟩, (Option.some.inj h).symm⟩
      congr 1
      exact Array.toList_inj.1 hcs
    · cases h
  · cases h

/-- which keys are there -/
def Keys (D : DataW Value) (M : Its) : Prop := ∀ k : Lit, Maps.has D k = true ↔ ∃ i ∈ M, k = key i.1
/-- what lies at them -/
def Elems (w : World) (D : DataW Value) (M : Its) : Prop := ∀ i ∈ M, ∃ v, (∀ zd, D.atKey (key i.1) zd = .held v) ∧ PkIs w v i.2

theorem Elems.only {w w' : World} {D : DataW Value} {M : Its} {bs : List Nat} (h : Elems w D M) (ho : Only bs w w') (hb : ∀ k ∈ bs, ∀ cs fr, w.heap[k]? ≠ some (.cells cs 5 fr)) : Elems w' D M := by
  intro i hi
  obtain ⟨v, h1, h2⟩ := h i hi
  exact ⟨v, h1, h2.only ho hb⟩
theorem keys_empty : Keys (.map []) [] := by
  intro k
  constructor
  · intro h; simp [Maps.has] at h
  · rintro ⟨i, hi, _⟩; simp at hi
theorem Keys.at {D : DataW Value} {M : Its} (h : Keys D M) (y : Int) : Maps.has D (key y) = has M y := by
  rw [Bool.eq_iff_iff, h (key y), has_iff]
  constructor
  · rintro ⟨i, hi, e⟩; exact ⟨i, hi, (key_inj e).symm⟩
  · rintro ⟨i, hi, e⟩; exact ⟨i, hi, by rw [e]⟩
theorem keyLit (y : Int) : WideAt.IsKeyLit (key y) := trivial
theorem Keys.size {D : DataW Value} {M : Its} (h : Keys D M) (ht : ∃ es, D = .map es ∧ es.Pairwise (fun p q => p.1 ≠ q.1) ∧ ∀ p ∈ es, WideAt.IsKeyLit p.1) (h1 : M.Pairwise fun a b => a.1 ≠ b.1) : Maps.size D = M.length := by
  obtain ⟨es, rfl, hp, hl⟩ := ht
  have n1 : (es.map Prod.fst).Nodup := by rw [List.nodup_iff_pairwise_ne, List.pairwise_map]; exact hp
  have n2 : (M.map fun i => key i.1).Nodup := by
    rw [List.nodup_iff_pairwise_ne, List.pairwise_map]
    exact h1.imp fun hab e => hab (key_inj e)
  have s1 : ∀ x ∈ es.map Prod.fst, x ∈ M.map fun i => key i.1 := by
    intro x hx
    obtain ⟨e, he, rfl⟩ := List.mem_map.1 hx
    obtain ⟨i, hi, h⟩ := (h e.1).1 (List.any_eq_true.2 ⟨e, he, WideAt.sameKey_self (hl e he)⟩)
    exact List.mem_map.2 ⟨i, hi, h.symm⟩
  have s2 : ∀ x ∈ M.map (fun i => key i.1), x ∈ es.map Prod.fst := by
    intro x hx
    obtain ⟨i, hi, rfl⟩ := List.mem_map.1 hx
    obtain ⟨e, he, hs⟩ := List.any_eq_true.1 ((h (key i.1)).2 ⟨i, hi, rfl⟩)
    exact List.mem_map.2 ⟨e, he, WideAt.sameKey_eq hs⟩
  have l1 := List.Nodup.length_le_of_subset n1 s1
  have l2 := List.Nodup.length_le_of_subset n2 s2
  simp at l1 l2
  simp [Maps.size]
  omega
/-- those that are kept, or still to come -/
def cur (M : Its) (kp : Int → Bool) (left : Lit → Bool) : Its := M.filter fun i => kp i.1 || left (key i.1)
theorem cur_start {D : DataW Value} {M : Its} (h : Keys D M) (kp : Int → Bool) : cur M kp (Maps.has D) = M := by
  unfold cur
  rw [List.filter_eq_self]
  intro i hi
  simp [(h (key i.1)).2 ⟨i, hi, rfl⟩]
theorem cur_stays {M : Its} {kp : Int → Bool} {left : Lit → Bool} {x : Int} (hx : kp x = true) : cur M kp (fun z => left z && !z.sameKey (key x)) = cur M kp left := by
  unfold cur
  apply List.filter_congr
  intro i hi
  by_cases e : i.1 = x
  · simp [e, hx]
  · have hs : (key i.1).sameKey (key x) = false := sameKey_ne (fun h => e (key_inj h))
    simp [hs]
theorem cur_end {M : Its} {kp : Int → Bool} {left : Lit → Bool} (h : ∀ k, left k = false) : cur M kp left = M.filter fun i => kp i.1 := by
  unfold cur
  apply List.filter_congr
  intro i hi
  simp [h]
theorem mem_struck {M : Its} {kp : Int → Bool} {left : Lit → Bool} {x : Int} (hx : kp x = false) (i : Int × Pk) : i ∈ cur M kp (fun z => left z && !z.sameKey (key x)) ↔ i ∈ cur M kp left ∧ i.1 ≠ x := by
  unfold cur
  rw [List.mem_filter, List.mem_filter]
  by_cases e : i.1 = x
  · simp [e, hx, WideAt.sameKey_self (keyLit x)]
  · have hs : (key i.1).sameKey (key x) = false := sameKey_ne (fun h => e (key_inj h))
    simp [hs, e]
theorem keys_struck {D : DataW Value} {M : Its} {kp : Int → Bool} {left : Lit → Bool} {x : Int} (hx : kp x = false) (h : Keys D (cur M kp left)) : Keys (D.del (key x)) (cur M kp (fun z => left z && !z.sameKey (key x))) := by
  intro k
  by_cases e : k = key x
  · subst e
    rw [has_del_same]
    constructor
    · intro h; cases h
    · rintro ⟨i, hi, e⟩
      exact absurd (key_inj e).symm ((mem_struck hx i).1 hi).2
  · rw [has_del_other e, h k]
    constructor
    · rintro ⟨i, hi, rfl⟩; exact ⟨i, (mem_struck hx i).2 ⟨hi, fun h => e (by rw [h])⟩, rfl⟩
    · rintro ⟨i, hi, rfl⟩; exact ⟨i, ((mem_struck hx i).1 hi).1, rfl⟩
theorem elems_struck {w : World} {D : DataW Value} {M : Its} {kp : Int → Bool} {left : Lit → Bool} {x : Int} (hx : kp x = false) (h : Elems w D (cur M kp left)) : Elems w (D.del (key x)) (cur M kp (fun z => left z && !z.sameKey (key x))) := by
  intro i hi
  obtain ⟨h1, h2⟩ := (mem_struck hx i).1 hi
  obtain ⟨v, h3, h4⟩ := h i h1
  exact ⟨v, fun zd => by rw [atKey_del_other (fun e => h2 (key_inj e)), h3], h4⟩
theorem keys_put {D : DataW Value} {M : Its} {y : Int} (hD : IsMap D) (h : Keys D M) (d : DataW Value) (p : Pk) : Keys (D.put (key y) d) (M ++ [(y, p)]) := by
  intro k
  by_cases e : k = key y
  · subst e
    rw [has_put_same hD (keyLit y)]
    exact ⟨fun _ => ⟨(y, p), by simp, rfl⟩, fun _ => rfl⟩
  · rw [has_put_other e, h k]
    constructor
    · rintro ⟨i, hi, rfl⟩; exact ⟨i, by simp [hi], rfl⟩
    · rintro ⟨i, hi, rfl⟩
      rcases List.mem_append.1 hi with hi | hi
      · exact ⟨i, hi, rfl⟩
      · simp only [List.mem_singleton] at hi
        subst hi
        exact absurd rfl e
theorem elems_put {w : World} {D : DataW Value} {M : Its} {y : Int} {v : Value} {p : Pk} (hD : IsMap D) (h : Elems w D M) (hn : has M y = false) (hv : PkIs w v p) : Elems w (D.put (key y) (.held v)) (M ++ [(y, p)]) := by
  intro i hi
  rcases List.mem_append.1 hi with hi | hi
  · obtain ⟨u, h1, h2⟩ := h i hi
    exact ⟨u, fun zd => by rw [atKey_put_other (fun e => has_no hn i hi (key_inj e)), h1], h2⟩
  · simp only [List.mem_singleton] at hi
    subst hi
    exact ⟨v, fun zd => atKey_put_same hD (keyLit y) _ _, hv⟩
/-- the bound of a map is as many as it has -/
theorem tight {P : Program} {k : TypeId} {R : Value → Option (DataW Value × List MemPlace)} {w : World} {b n : Nat} {D : DataW Value} (h : w.ownsMap P k R b n D) : w.ownsMap P k R b (Maps.size D) D := by
  obtain ⟨es, clock, hb, F, hs, rfl⟩ := h
  refine ⟨es, clock, hb, F, ?_, rfl⟩
  simp [Maps.size, length_sorted]
theorem map_block {P : Program} {k : TypeId} {R : Value → Option (DataW Value × List MemPlace)} {w : World} {b n : Nat} {D : DataW Value} (h : w.ownsMap P k R b n D) : ∃ es c, w.heap[b]? = some (.map es c) := by
  obtain ⟨es, clock, hb, _⟩ := h
  exact ⟨es, clock, hb⟩
theorem has_keeps {n T y : Int} {M : Its} (h : has M y = false) : has (keeps n T M) y = false := by
  rw [Bool.eq_false_iff]
  intro hh
  obtain ⟨i, hi, e⟩ := has_iff.1 hh
  exact has_no h i (List.mem_filter.1 hi).1 e
end Go.Proofs.YtpiamlgmadnepaaGreat.RM

