/-
  Numbers that are lacking as pairs, and pairs as numbers: of lists alone; no program. What pairs of rising numbers tell are these numbers; how many pairs there are.
-/
import Derived.WalkKit
import Derived.Lib.SlicesCompact
set_option linter.unusedVariables false
namespace Go.Proofs.YtpiamlgmadnepaaGreat.BM
open Go.Lib

/-- rising, each once -/
abbrev Rises (l : List Int) : Prop := l.Pairwise (· < ·)
theorem rises_ext : ∀ {a b : List Int}, Rises a → Rises b → (∀ x, x ∈ a ↔ x ∈ b) → a = b
  | [], [], _, _, _ => rfl
  | [], y :: b, _, _, h => absurd ((h y).2 (List.mem_cons_self ..)) (by simp)
  | x :: a, [], _, _, h => absurd ((h x).1 (List.mem_cons_self ..)) (by simp)
  | x :: a, y :: b, ha, hb, h => by
    obtain ⟨hx, ha'⟩ := List.pairwise_cons.1 ha
    obtain ⟨hy, hb'⟩ := List.pairwise_cons.1 hb
    have hxy : x = y := by
      rcases List.mem_cons.1 ((h x).1 (List.mem_cons_self ..)) with e | e
      · exact e
      · rcases List.mem_cons.1 ((h y).2 (List.mem_cons_self ..)) with e' | e'
        · exact e'.symm
        · have := hx y e'; have := hy x e; omega
    subst hxy
    rw [rises_ext ha' hb' fun z => ?_]
    constructor
    · intro hz
      rcases List.mem_cons.1 ((h z).1 (List.mem_cons_of_mem _ hz)) with e | e
      · subst e; have := hx z hz; omega
      · exact e
    · intro hz
      rcases List.mem_cons.1 ((h z).2 (List.mem_cons_of_mem _ hz)) with e | e
      · subst e; have := hy z hz; omega
      · exact e

/-- numbers sorted, each once: as the library's Sort and Compact make them -/
def norm (zs : List Int) : List Int := compact (zs.mergeSort fun x y => decide (x ≤ y))
theorem compactUpTo_of (d : Array Int) (hs : ∀ i j, i ≤ j → j < d.size → d[i]! ≤ d[j]!) : ∀ m, m ≤ d.size → Rises (compactUpTo d m) ∧ ∀ x, x ∈ compactUpTo d m ↔ ∃ j, j < m ∧ d[j]! = x
  | 0, _ => ⟨List.Pairwise.nil, fun x => by simp [compactUpTo]⟩
  | m + 1, hm => by
    obtain ⟨h1, h2⟩ := compactUpTo_of d hs m (by omega)
    rw [compactUpTo_succ]
    by_cases hk : keeps d m = true
    · rw [if_pos hk]
      refine ⟨List.pairwise_append.2 ⟨h1, List.pairwise_singleton _ _, fun a ha b hb => ?_⟩, fun x => ?_⟩
      · obtain ⟨j, hj, rfl⟩ := (h2 a).1 ha
        obtain rfl := List.mem_singleton.1 hb
        simp only [keeps, decide_eq_true_eq] at hk
        rcases hk with rfl | hk
        · omega
        · have l1 := hs j (m - 1) (by omega) (by omega)
          have l2 := hs (m - 1) m (by omega) (by omega)
          omega
      · rw [List.mem_append, List.mem_singleton, h2]
        constructor
        · rintro (⟨j, hj, rfl⟩ | rfl)
          · exact ⟨j, by omega, rfl⟩
          · exact ⟨m, by omega, rfl⟩
        · rintro ⟨j, hj, rfl⟩
          by_cases e : j = m
          · exact .inr (by rw [e])
          · exact .inl ⟨j, by omega, rfl⟩
    · have hk' : keeps d m = false := by simpa using hk
      rw [if_neg hk, List.append_nil]
      refine ⟨h1, fun x => ?_⟩
      rw [h2]
      simp only [keeps, decide_eq_false_iff_not, not_or, Decidable.not_not] at hk'
      constructor
      · rintro ⟨j, hj, rfl⟩; exact ⟨j, by omega, rfl⟩
      · rintro ⟨j, hj, rfl⟩
        by_cases e : j = m
        · exact ⟨m - 1, by omega, by rw [e, hk'.2]⟩
        · exact ⟨j, by omega, rfl⟩
theorem norm_of (zs : List Int) : Rises (norm zs) ∧ ∀ x, x ∈ norm zs ↔ x ∈ zs := by
  have hp := List.pairwise_mergeSort (le := fun x y : Int => decide (x ≤ y)) (fun a b c h k => by simp only [decide_eq_true_eq] at *; omega) (fun a b => by simp only [Bool.or_eq_true, decide_eq_true_eq]; omega) zs
  have hm : ∀ x, x ∈ zs.mergeSort (fun x y : Int => decide (x ≤ y)) ↔ x ∈ zs := fun x => List.mem_mergeSort
  unfold norm
  generalize zs.mergeSort (fun x y : Int => decide (x ≤ y)) = ss at *
  have h := compactUpTo_of ss.toArray (fun i j hij hj => by
    have hj' : j < ss.length := by simpa using hj
    rw [getElem!_pos ss.toArray i (by simp; omega), getElem!_pos ss.toArray j (by simpa using hj')]
    by_cases e : i = j
    · subst e; exact Int.le_refl _
    · have := List.pairwise_iff_getElem.1 hp i j (by omega) hj' (by omega)
      simpa using this) ss.length (by simp)
  refine ⟨h.1, fun x => ?_⟩
  unfold compact
  rw [h.2, ← hm]
  constructor
  · rintro ⟨j, hj, rfl⟩
    rw [getElem!_pos ss.toArray j (by simpa using hj)]
    simp
  · intro hx
    obtain ⟨j, hj, rfl⟩ := List.getElem_of_mem hx
    exact ⟨j, hj, by rw [getElem!_pos ss.toArray j (by simpa using hj)]; simp⟩
theorem norm_eq {zs S : List Int} (h : Rises S) (hm : ∀ x, x ∈ S ↔ x ∈ zs) : norm zs = S := rises_ext (norm_of zs).1 h (fun x => ((norm_of zs).2 x).trans (hm x).symm)
theorem norm_self {S : List Int} (h : Rises S) : norm S = S := norm_eq h fun _ => Iff.rfl
theorem compact_len (zs : List Int) : (compact zs).length ≤ zs.length := by
  unfold compact compactUpTo
  rw [List.length_map]
  exact Nat.le_trans (List.length_filter_le _ _) (by simp)
theorem norm_len (zs : List Int) : (norm zs).length ≤ zs.length := by
  unfold norm
  have := compact_len (zs.mergeSort fun x y : Int => decide (x ≤ y))
  rwa [List.length_mergeSort] at this

/-! pairs -/
/-- what a pair tells -/
def tells (p : Int × Nat) : List Int := p.1 :: ((List.range 16).filter fun i => p.2.testBit i).map fun (i : Nat) => p.1 + (i : Int) + 1
def told (l : List (Int × Nat)) : List Int := l.flatMap tells
/-- one number more -/
def step (l : List (Int × Nat)) (n : Int) : List (Int × Nat) :=
  match l.getLast? with
  | none => [(n, 0)]
  | some p => if 16 < n - p.1 then l ++ [(n, 0)] else l.dropLast ++ [(p.1, p.2 ||| 2 ^ (n - p.1 - 1).toNat)]
def pairs (S : List Int) : List (Int × Nat) := S.foldl step []
theorem step_nil (n : Int) : step [] n = [(n, 0)] := rfl
theorem step_far {K : List (Int × Nat)} {p : Int × Nat} {n : Int} (h : 16 < n - p.1) : step (K ++ [p]) n = K ++ [p] ++ [(n, 0)] := by
  simp [step, h]
theorem step_near {K : List (Int × Nat)} {p : Int × Nat} {n : Int} (h : n - p.1 ≤ 16) : step (K ++ [p]) n = K ++ [(p.1, p.2 ||| 2 ^ (n - p.1 - 1).toNat)] := by
  have : ¬ 16 < n - p.1 := by omega
  simp [step, this]
theorem pairs_snoc (S : List Int) (n : Int) : pairs (S ++ [n]) = step (pairs S) n := by simp [pairs]
theorem told_app (l k : List (Int × Nat)) : told (l ++ k) = told l ++ told k := by simp [told]
theorem told_one (p : Int × Nat) : told [p] = tells p := by simp [told]
theorem tells_zero (n : Int) : tells (n, 0) = [n] := by simp [tells]
theorem filter_bit (m k : Nat) (hm : m < 2 ^ k) (hk : k < 16) : (List.range 16).filter (fun i => (m ||| 2 ^ k).testBit i) = ((List.range 16).filter fun i => m.testBit i) ++ [k] := by
  have e : (16 : Nat) = k + (1 + (15 - k)) := by omega
  rw [e, List.range_add, List.range_add, List.map_append, List.filter_append, List.filter_append, List.filter_append, List.filter_append]
  have hb : ∀ i, k ≤ i → m.testBit i = false := fun i hi => Nat.testBit_lt_two_pow (Nat.lt_of_lt_of_le hm (Nat.pow_le_pow_right (by decide) hi))
  have a1 : (List.range k).filter (fun i => (m ||| 2 ^ k).testBit i) = (List.range k).filter fun i => m.testBit i := by
    apply List.filter_congr
    intro i hi
    have := List.mem_range.1 hi
    rw [Nat.testBit_or, Nat.testBit_two_pow_of_ne (by omega), Bool.or_false]
  have a2 : ((List.range 1).map fun x => k + x) = [k] := by simp
  have a3 : (([k] : List Nat).filter fun i => (m ||| 2 ^ k).testBit i) = [k] := by simp [Nat.testBit_or]
  have a4 : (([k] : List Nat).filter fun i => m.testBit i) = [] := by simp [hb k (Nat.le_refl _)]
  have a5 : ((((List.range (15 - k)).map fun x => 1 + x).map fun x => k + x).filter fun i => (m ||| 2 ^ k).testBit i) = [] := by
    apply List.filter_eq_nil_iff.2
    intro i hi
    simp only [List.mem_map] at hi
    obtain ⟨_, ⟨y, _, rfl⟩, rfl⟩ := hi
    rw [Nat.testBit_or, Nat.testBit_two_pow_of_ne (by omega), hb _ (by omega)]
    simp
  have a6 : ((((List.range (15 - k)).map fun x => 1 + x).map fun x => k + x).filter fun i => m.testBit i) = [] := by
    apply List.filter_eq_nil_iff.2
    intro i hi
    simp only [List.mem_map] at hi
    obtain ⟨_, ⟨y, _, rfl⟩, rfl⟩ := hi
    rw [hb _ (by omega)]
    simp
  rw [a1, a2, a3, a4, a5, a6]
  simp
theorem mem_tells {p : Int × Nat} (hp : p.2 < 65536) {x : Int} : x ∈ tells p ↔ x = p.1 ∨ ∃ i : Nat, p.2.testBit i = true ∧ x = p.1 + (i : Int) + 1 := by
  simp only [tells, List.mem_cons, List.mem_map, List.mem_filter, List.mem_range]
  constructor
  · rintro (h | ⟨i, ⟨_, h⟩, rfl⟩)
    · exact .inl h
    · exact .inr ⟨i, h, rfl⟩
  · rintro (h | ⟨i, h, rfl⟩)
    · exact .inl h
    · refine .inr ⟨i, ⟨?_, h⟩, rfl⟩
      rcases Nat.lt_or_ge i 16 with h' | h'
      · exact h'
      · rw [Nat.testBit_lt_two_pow (Nat.lt_of_lt_of_le hp (Nat.pow_le_pow_right (n := 2) (by decide) h'))] at h; simp at h
theorem mask_lt {p : Int × Nat} (hp : p.2 < 65536) {n : Int} (h : ∀ x ∈ tells p, x < n) : p.2 < 2 ^ (n - p.1 - 1).toNat := by
  apply Nat.lt_pow_two_of_testBit
  intro i hi
  by_cases hb : p.2.testBit i = true
  · have h0 := h p.1 (by simp [tells])
    have := h _ ((mem_tells hp).2 (.inr ⟨i, hb, rfl⟩))
    omega
  · simpa using hb
theorem tells_more {p : Int × Nat} (hp : p.2 < 65536) {n : Int} (h : ∀ x ∈ tells p, x < n) (hn : n - p.1 ≤ 16) :
    tells (p.1, p.2 ||| 2 ^ (n - p.1 - 1).toNat) = tells p ++ [n] ∧ p.2 ||| 2 ^ (n - p.1 - 1).toNat < 65536 := by
  have h0 := h p.1 (by simp [tells])
  have hm := mask_lt hp h
  have hk : (n - p.1 - 1).toNat < 16 := by omega
  constructor
  · simp only [tells]
    rw [filter_bit _ _ hm hk, List.map_append]
    simp only [List.map_cons, List.map_nil, List.cons_append]
    congr 2
    simp
    omega
  · exact Nat.or_lt_two_pow (n := 16) hp (Nat.pow_lt_pow_right (by decide) hk)

/-- pairs that are right -/
structure Fit (l : List (Int × Nat)) (S : List Int) : Prop where
  told : told l = S
  mask : ∀ p ∈ l, p.2 < 65536
  base : ∀ p ∈ l, p.1 ∈ S
  apart : ∀ i p q, l[i]? = some p → l[i + 1]? = some q → p.1 + 16 < q.1
theorem Fit.step {l : List (Int × Nat)} {S : List Int} (h : Fit l S) {n : Int} (hn : ∀ x ∈ S, x < n) : Fit (step l n) (S ++ [n]) := by
  rcases List.eq_nil_or_concat l with rfl | ⟨K, p, rfl⟩
  · have hS : S = [] := by rw [← h.told]; rfl
    subst hS
    rw [step_nil]
    refine ⟨by rw [told_one, tells_zero]; rfl, by simp, by simp, fun i p q _ h2 => ?_⟩
    simp at h2
  · rw [List.concat_eq_append] at *
    have hpt : ∀ x ∈ tells p, x < n := fun x hx => hn x (by rw [← h.told, told_app, told_one]; exact List.mem_append_right _ hx)
    by_cases hf : 16 < n - p.1
    · rw [step_far hf]
      refine ⟨by rw [told_app, told_one, tells_zero, h.told], ?_, ?_, ?_⟩
      · intro q hq
        rcases List.mem_append.1 hq with hq | hq
        · exact h.mask q hq
        · obtain rfl := List.mem_singleton.1 hq; exact (by decide : (0 : Nat) < 65536)
      · intro q hq
        rcases List.mem_append.1 hq with hq | hq
        · exact List.mem_append_left _ (h.base q hq)
        · obtain rfl := List.mem_singleton.1 hq; simp
      · intro i a b ha hb
        rcases Nat.lt_trichotomy (i + 1) (K ++ [p]).length with hi | hi | hi
        · rw [List.getElem?_append_left (by omega)] at ha hb
          exact h.apart i a b ha hb
        · rw [List.getElem?_append_right (by omega), hi, Nat.sub_self] at hb
          rw [List.getElem?_append_left (by omega), List.getElem?_append_right (by simp at hi ⊢; omega)] at ha
          have e0 : i - K.length = 0 := by simp at hi; omega
          rw [e0] at ha
          simp at ha hb
          subst ha hb
          show p.1 + 16 < n
          omega
        · rw [List.getElem?_eq_none (by rw [List.length_append]; simp at hi ⊢; omega)] at hb
          simp at hb
    · rw [step_near (by omega)]
      obtain ⟨ht, hm⟩ := tells_more (h.mask p (by simp)) hpt (by omega)
      refine ⟨by rw [told_app, told_one, ht, ← List.append_assoc]; rw [show BM.told K ++ tells p = S by rw [← h.told, told_app, told_one]], ?_, ?_, ?_⟩
      · intro q hq
        rcases List.mem_append.1 hq with hq | hq
        · exact h.mask q (List.mem_append_left _ hq)
        · obtain rfl := List.mem_singleton.1 hq; exact hm
      · intro q hq
        refine List.mem_append_left _ ?_
        rcases List.mem_append.1 hq with hq | hq
        · exact h.base q (List.mem_append_left _ hq)
        · obtain rfl := List.mem_singleton.1 hq; exact h.base p (by simp)
      · intro i a b ha hb
        rcases Nat.lt_trichotomy (i + 1) K.length with hi | hi | hi
        · rw [List.getElem?_append_left (by omega)] at ha hb
          exact h.apart i a b (by rw [List.getElem?_append_left (by omega)]; exact ha) (by rw [List.getElem?_append_left (by omega)]; exact hb)
        · rw [List.getElem?_append_right (by omega), hi, Nat.sub_self] at hb
          rw [List.getElem?_append_left (by omega)] at ha
          simp at hb
          subst hb
          exact h.apart i a p (by rw [List.getElem?_append_left (by omega)]; exact ha) (by rw [List.getElem?_append_right (by omega), hi, Nat.sub_self]; rfl)
        · rw [List.getElem?_eq_none (by simp; omega)] at hb
          simp at hb
theorem fit_nil : Fit [] [] := ⟨rfl, by simp, by simp, fun i p q h => by simp at h⟩
theorem snoc_ind {P : List Int → Prop} (h0 : P []) (h1 : ∀ l x, P l → P (l ++ [x])) (l : List Int) : P l := by
  have : ∀ r : List Int, P r.reverse := by
    intro r
    induction r with
    | nil => exact h0
    | cons x r ih => rw [List.reverse_cons]; exact h1 _ _ ih
  have := this l.reverse
  rwa [List.reverse_reverse] at this
theorem fit_pairs (S : List Int) : Rises S → Fit (pairs S) S := by
  refine snoc_ind (P := fun S => Rises S → Fit (pairs S) S) (fun _ => fit_nil) (fun l x ih h => ?_) S
  obtain ⟨h1, _, h2⟩ := List.pairwise_append.1 h
  rw [pairs_snoc]
  exact (ih h1).step fun y hy => h2 y hy x (by simp)
theorem tells_len (p : Int × Nat) : 1 ≤ (tells p).length ∧ (tells p).length ≤ 17 := by
  simp only [tells, List.length_cons, List.length_map]
  have := List.length_filter_le (fun i => p.2.testBit i) (List.range 16)
  rw [List.length_range] at this
  omega
theorem told_len : ∀ l : List (Int × Nat), l.length ≤ (told l).length ∧ (told l).length ≤ 17 * l.length
  | [] => by simp [told]
  | p :: l => by
    have h1 := told_len l
    have h2 := tells_len p
    have e : told (p :: l) = tells p ++ told l := rfl
    rw [e, List.length_append, List.length_cons]
    omega
/-- numbers that follow each other -/
def row (a : Int) (n : Nat) : List Int := (List.range n).map fun (i : Nat) => a + (i : Int)
theorem row_len (a : Int) (n : Nat) : (row a n).length = n := by simp [row]
theorem row_succ (a : Int) (n : Nat) : row a (n + 1) = row a n ++ [a + (n : Int)] := by simp [row, List.range_succ]
theorem mem_row {a : Int} {n : Nat} {x : Int} : x ∈ row a n ↔ a ≤ x ∧ x < a + (n : Int) := by
  simp only [row, List.mem_map, List.mem_range]
  constructor
  · rintro ⟨i, hi, rfl⟩; omega
  · intro h; exact ⟨(x - a).toNat, by omega, by omega⟩
theorem row_rises (a : Int) : ∀ n, Rises (row a n)
  | 0 => List.Pairwise.nil
  | n + 1 => by
    rw [row_succ]
    refine List.pairwise_append.2 ⟨row_rises a n, List.pairwise_singleton _ _, fun x hx y hy => ?_⟩
    obtain rfl := List.mem_singleton.1 hy
    exact (mem_row.1 hx).2
theorem pairs_row (a : Int) : ∀ n : Nat, (pairs (row a n)).length = (n + 16) / 17 ∧ (0 < n → ∃ K m, pairs (row a n) = K ++ [(a + 17 * (((n - 1) / 17 : Nat) : Int), m)])
  | 0 => ⟨rfl, fun h => absurd h (by omega)⟩
  | n + 1 => by
    obtain ⟨h1, h2⟩ := pairs_row a n
    rw [row_succ, pairs_snoc]
    rcases Nat.eq_zero_or_pos n with rfl | hn
    · have e : pairs (row a 0) = [] := rfl
      rw [e, step_nil]
      exact ⟨rfl, fun _ => ⟨[], 0, by simp⟩⟩
    · obtain ⟨K, m, e⟩ := h2 hn
      rw [e] at h1 ⊢
      by_cases hf : (16 : Int) < a + (n : Int) - (a + 17 * (((n - 1) / 17 : Nat) : Int))
      · rw [step_far hf]
        have hd : n = 17 * ((n - 1) / 17) + 17 := by omega
        refine ⟨by simp at h1 ⊢; omega, fun _ => ⟨K ++ [(a + 17 * (((n - 1) / 17 : Nat) : Int), m)], 0, ?_⟩⟩
        congr 3
        omega
      · rw [step_near (by omega)]
        refine ⟨by simp at h1 ⊢; omega, fun _ => ⟨K, m ||| 2 ^ (a + (n : Int) - (a + 17 * (((n - 1) / 17 : Nat) : Int)) - 1).toNat, ?_⟩⟩
        congr 3
        show a + 17 * (((n - 1) / 17 : Nat) : Int) = a + 17 * (((n + 1 - 1) / 17 : Nat) : Int)
        omega
end Go.Proofs.YtpiamlgmadnepaaGreat.BM

