/-
  Numbers sorted, each once: of lists alone; no program.
-/
import Derived.WalkKit
import Derived.Lib.SlicesCompact
set_option linter.unusedVariables false
namespace Go.Proofs.YtjhfjkacfnccdahDoor.BM
open Go.Lib

/-- rising, each once -/
def Rises (l : List Int) : Prop := l.Pairwise (· < ·)
theorem rises_ext : ∀ {a b : List Int}, Rises a → Rises b → (∀ x, x ∈ a ↔ x ∈ b) → a = b
  | [], [], _, _, _ => rfl
  | [], y :: b, _, _, h => absurd ((h y).2 (List.mem_cons_self ..)) (by simp)
  | x :: a, [], _, _, h => absurd ((h x).1 (List.mem_cons_self ..)) (by simp)
  | x :: a, y :: b, ha, hb, h => by
    obtain ⟨hx, ha'⟩ := List.pairwise_cons.1 ha
    obtain ⟨hy, hb'⟩ := List.pairwise_cons.1 hb
    have hxy : x = y := by
      rcases List.mem_cons.1 ((h x).1 (List.mem_cons_self ..)) with e | e
      · exact e
      · rcases List.mem_cons.1 ((h y).2 (List.mem_cons_self ..)) with e' | e'
        · exact e'.symm
        · have := hx y e'; have := hy x e; omega
    subst hxy
    rw [rises_ext ha' hb' fun z => ?_]
    constructor
    · intro hz
      rcases List.mem_cons.1 ((h z).1 (List.mem_cons_of_mem _ hz)) with e | e
      · subst e; have := hx z hz; omega
      · exact e
    · intro hz
      rcases List.mem_cons.1 ((h z).2 (List.mem_cons_of_mem _ hz)) with e | e
      · subst e; have := hy z hz; omega
      · exact e

/-- numbers sorted, each once: as the library's Sort and Compact make them -/
def norm (zs : List Int) : List Int := compact (zs.mergeSort fun x y => decide (x ≤ y))
theorem compactUpTo_of (d : Array Int) (hs : ∀ i j, i ≤ j → j < d.size → d[i]! ≤ d[j]!) : ∀ m, m ≤ d.size → Rises (compactUpTo d m) ∧ ∀ x, x ∈ compactUpTo d m ↔ ∃ j, j < m ∧ d[j]! = x
  | 0, _ => ⟨List.Pairwise.nil, fun x => by simp [compactUpTo]⟩
  | m + 1, hm => by
    obtain ⟨h1, h2⟩ := compactUpTo_of d hs m (by omega)
    rw [compactUpTo_succ]
    by_cases hk : keeps d m = true
    · rw [if_pos hk]
      refine ⟨List.pairwise_append.2 ⟨h1, List.pairwise_singleton _ _, fun a ha b hb => ?_⟩, fun x => ?_⟩
      · obtain ⟨j, hj, rfl⟩ := (h2 a).1 ha
        obtain rfl := List.mem_singleton.1 hb
        simp only [keeps, decide_eq_true_eq] at hk
        rcases hk with rfl | hk
        · omega
        · have l1 := hs j (m - 1) (by omega) (by omega)
          have l2 := hs (m - 1) m (by omega) (by omega)
          omega
      · rw [List.mem_append, List.mem_singleton, h2]
        constructor
        · rintro (⟨j, hj, rfl⟩ | rfl)
          · exact ⟨j, by omega, rfl⟩
          · exact ⟨m, by omega, rfl⟩
        · rintro ⟨j, hj, rfl⟩
          by_cases e : j = m
          · exact .inr (by rw [e])
          · exact .inl ⟨j, by omega, rfl⟩
    · have hk' : keeps d m = false := by simpa using hk
      rw [if_neg hk, List.append_nil]
      refine ⟨h1, fun x => ?_⟩
      rw [h2]
      simp only [keeps, decide_eq_false_iff_not, not_or, Decidable.not_not] at hk'
      constructor
      · rintro ⟨j, hj, rfl⟩; exact ⟨j, by omega, rfl⟩
      · rintro ⟨j, hj, rfl⟩
        by_cases e : j = m
        · exact ⟨m - 1, by omega, by rw [e, hk'.2]⟩
        · exact ⟨j, by omega, rfl⟩
theorem norm_of (zs : List Int) : Rises (norm zs) ∧ ∀ x, x ∈ norm zs ↔ x ∈ zs := by
  have hp := List.pairwise_mergeSort (le := fun x y : Int => decide (x ≤ y)) (fun a b c h k => by simp only [decide_eq_true_eq] at *; omega) (fun a b => by simp only [Bool.or_eq_true, decide_eq_true_eq]; omega) zs
  have hm : ∀ x, x ∈ zs.mergeSort (fun x y : Int => decide (x ≤ y)) ↔ x ∈ zs := fun x => List.mem_mergeSort
  unfold norm
  generalize zs.mergeSort (fun x y : Int => decide (x ≤ y)) = ss at *
  have h := compactUpTo_of ss.toArray (fun i j hij hj => by
    have hj' : j < ss.length := by simpa using hj
    rw [getElem!_pos ss.toArray i (by simp; omega), getElem!_pos ss.toArray j (by simpa using hj')]
    by_cases e : i = j
    · subst e; exact Int.le_refl _
    · have := List.pairwise_iff_getElem.1 hp i j (by omega) hj' (by omega)
      simpa using this) ss.length (by simp)
  refine ⟨h.1, fun x => ?_⟩
  unfold compact
  rw [h.2, ← hm]
  constructor
  · rintro ⟨j, hj, rfl⟩
    rw [getElem!_pos ss.toArray j (by simpa using hj)]
    simp
  · intro hx
    obtain ⟨j, hj, rfl⟩ := List.getElem_of_mem hx
    exact ⟨j, hj, by rw [getElem!_pos ss.toArray j (by simpa using hj)]; simp⟩
theorem norm_eq {zs S : List Int} (h : Rises S) (hm : ∀ x, x ∈ S ↔ x ∈ zs) : norm zs = S := rises_ext (norm_of zs).1 h (fun x => ((norm_of zs).2 x).trans (hm x).symm)
theorem norm_self {S : List Int} (h : Rises S) : norm S = S := norm_eq h fun _ => Iff.rfl
theorem compact_len (zs : List Int) : (compact zs).length ≤ zs.length := by
  unfold compact compactUpTo
  rw [List.length_map]
  exact Nat.le_trans (List.length_filter_le _ _) (by simp)
theorem norm_len (zs : List Int) : (norm zs).length ≤ zs.length := by
  unfold norm
  have := compact_len (zs.mergeSort fun x y : Int => decide (x ≤ y))
  rwa [List.length_mergeSort] at this

/-! pairs -/
theorem norm_nodup {L : List Int} (h : L.Nodup) : norm L = L.mergeSort fun x y => decide (x ≤ y) := by
  refine norm_eq ?_ (fun x => List.mem_mergeSort)
  have tr : ∀ a b c : Int, decide (a ≤ b) = true → decide (b ≤ c) = true → decide (a ≤ c) = true := fun a b c h1 h2 => by simp only [decide_eq_true_eq] at *; omega
  have to : ∀ a b : Int, (decide (a ≤ b) || decide (b ≤ a)) = true := fun a b => by simp only [Bool.or_eq_true, decide_eq_true_eq]; omega
  have h1 := List.pairwise_mergeSort tr to L
  have h2 : (L.mergeSort fun x y => decide (x ≤ y)).Nodup := (List.mergeSort_perm L _).nodup_iff.2 h
  rw [List.nodup_iff_pairwise_ne] at h2
  unfold Rises
  exact (h1.and h2).imp fun ⟨q1, q2⟩ => by simp only [decide_eq_true_eq] at q1; omega
end Go.Proofs.YtjhfjkacfnccdahDoor.BM
