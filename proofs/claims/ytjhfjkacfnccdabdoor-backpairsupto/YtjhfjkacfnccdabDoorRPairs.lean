/-
  What the reference's function Pairs returns of any numbers, and what it makes. It changes nothing that was there.
-/
import Derived.Test.YtjhfjkacfnccdabDoorBackG
import Derived.Test.YtjhfjkacfnccdabDoorRSorted
namespace Go.Proofs.YtjhfjkacfnccdabDoor.Back
open Go.ChangeShapes Go.WideShapes Go.ChangeAt Go.RowKit Go.Sort Go.Lib Go.Proofs.YtjhfjkacfnccdabDoor.BM Go.Proofs.YtjhfjkacfnccdabDoor.Mem
set_option linter.unusedVariables false

theorem rseq_calls (x : Int) (w : World) : Calls Tryd.prog 39 #[.int .i64 x] w fun e w' => e = .returned (.bool (inR x)) ∧ w' = w := by
  by_cases h : 0 ≤ x
  · have d : decide (0 ≤ x) = true := by simpa using h
    go_enter Tryd.func39, Tryd.ntmps39
    go_wp2_with fail
    go_ret
    exact ⟨by simp [inR, h], rfl⟩
  · have d : decide (0 ≤ x) = false := by simpa using h
    go_enter Tryd.func39, Tryd.ntmps39
    go_wp2_with fail
    go_ret
    exact ⟨by simp [inR]; omega, rfl⟩

/-! the masks -/
/-- bits, one by one -/
def mr (P : Nat → Bool) : Nat → Nat
  | 0 => 0
  | i + 1 => if P i then mr P i + 2 ^ i else mr P i
theorem mr_lt (P : Nat → Bool) : ∀ i, mr P i < 2 ^ i
  | 0 => by simp [mr]
  | i + 1 => by
    have := mr_lt P i
    rw [mr, Nat.pow_succ]
    split <;> omega
theorem mr_or (P : Nat → Bool) (i : Nat) : mr P i + 2 ^ i = mr P i ||| 2 ^ i := by
  have := Nat.two_pow_add_eq_or_of_lt (mr_lt P i) 1
  rw [Nat.mul_one] at this
  rw [Nat.add_comm, this, Nat.or_comm]
theorem mr_bit (P : Nat → Bool) : ∀ i j, (mr P i).testBit j = (decide (j < i) && P j)
  | 0, j => by simp [mr]
  | i + 1, j => by
    have ih := mr_bit P i j
    rw [mr]
    by_cases hp : P i = true
    · rw [if_pos hp, mr_or, Nat.testBit_or, ih, Nat.testBit_two_pow]
      by_cases e : i = j
      · subst e; simp [hp]
      · have : decide (i = j) = false := by simpa using e
        rw [this, Bool.or_false]
        congr 1
        rw [decide_eq_decide]
        omega
    · rw [if_neg hp, ih]
      by_cases e : i = j
      · subst e; simp [hp]
      · congr 1
        rw [decide_eq_decide]
        omega
/-- numbers behind n, told by one pair -/
theorem fold_near (K : List (Int × Nat)) (n : Int) : ∀ (T : List Int) (m : Nat), (∀ x ∈ T, x - n ≤ 16) → T.foldl BM.step (K ++ [(n, m)]) = K ++ [(n, T.foldl (fun m x => m ||| 2 ^ (x - n - 1).toNat) m)]
  | [], m, _ => rfl
  | x :: T, m, h => by
    rw [List.foldl_cons, step_near (p := (n, m)) (h x (List.mem_cons_self ..))]
    exact fold_near K n T _ (fun y hy => h y (List.mem_cons_of_mem _ hy))
theorem fold_bit (n : Int) : ∀ (T : List Int) (m j : Nat), (∀ x ∈ T, n < x) → ((T.foldl (fun m x => m ||| 2 ^ (x - n - 1).toNat) m).testBit j = true ↔ m.testBit j = true ∨ n + 1 + (j : Int) ∈ T)
  | [], m, j, _ => by simp
  | x :: T, m, j, h => by
    have hx := h x (List.mem_cons_self ..)
    rw [List.foldl_cons, fold_bit n T _ j (fun y hy => h y (List.mem_cons_of_mem _ hy)), Nat.testBit_or, Nat.testBit_two_pow, List.mem_cons, Bool.or_eq_true, decide_eq_true_eq]
    constructor
    · rintro ((h' | h') | h')
      · exact .inl h'
      · exact .inr (.inl (by omega))
      · exact .inr (.inr h')
    · rintro (h' | h' | h')
      · exact .inl (.inl h')
      · exact .inl (.inr (by omega))
      · exact .inr h'
/-- those below -/
def low (S : List Int) (n : Int) : List Int := S.filter fun x => decide (x < n)
theorem low_no {S : List Int} {n : Int} (h : n ∉ S) : low S (n + 1) = low S n := by
  apply List.filter_congr
  intro x hx
  rw [decide_eq_decide]
  have : x ≠ n := fun e => h (e ▸ hx)
  omega
theorem low_yes {S : List Int} (hr : Rises S) {n : Int} (h : n ∈ S) : ∃ T, low S (n + 17) = low S n ++ n :: T ∧ (∀ x, x ∈ T ↔ x ∈ S ∧ n < x ∧ x < n + 17) := by
  refine ⟨S.filter fun x => decide (n < x ∧ x < n + 17), ?_, fun x => by simp⟩
  refine rises_ext (List.Pairwise.filter _ hr) ?_ fun x => ?_
  · refine List.pairwise_append.2 ⟨List.Pairwise.filter _ hr, List.pairwise_cons.2 ⟨fun y hy => ?_, List.Pairwise.filter _ hr⟩, fun y hy z hz => ?_⟩
    · simp at hy; omega
    · simp [low] at hy
      rcases List.mem_cons.1 hz with rfl | hz
      · exact hy.2
      · simp at hz; omega
  · simp only [low, List.mem_filter, List.mem_append, List.mem_cons, decide_eq_true_eq]
    constructor
    · rintro ⟨h1, h2⟩
      by_cases e : x = n
      · exact .inr (.inl e)
      · by_cases e2 : x < n
        · exact .inl ⟨h1, e2⟩
        · exact .inr (.inr ⟨h1, by omega⟩)
    · rintro (⟨h1, h2⟩ | rfl | ⟨h1, h2⟩)
      · exact ⟨h1, by omega⟩
      · exact ⟨h, by omega⟩
      · exact ⟨h1, by omega⟩
/-- where no pair reaches n -/
def Shut (l : List (Int × Nat)) (n : Int) : Prop := ∀ K p, l = K ++ [p] → 16 < n - p.1
theorem pairs_low {S : List Int} (hr : Rises S) {n : Int} (h : n ∈ S) (hs : Shut (pairs (low S n)) n) :
    pairs (low S (n + 17)) = pairs (low S n) ++ [(n, mr (fun i => decide (n + 1 + (i : Int) ∈ S)) 16)] ∧ Shut (pairs (low S (n + 17))) (n + 17) := by
  obtain ⟨T, hT, hm⟩ := low_yes hr h
  have e1 : BM.step (pairs (low S n)) n = pairs (low S n) ++ [(n, 0)] := by
    rcases List.eq_nil_or_concat (pairs (low S n)) with e | ⟨K, p, e⟩
    · rw [e]; rfl
    · rw [List.concat_eq_append] at e
      rw [e, step_far (hs K p e)]
  have e2 : pairs (low S (n + 17)) = pairs (low S n) ++ [(n, T.foldl (fun m x => m ||| 2 ^ (x - n - 1).toNat) 0)] := by
    rw [hT]
    unfold pairs
    rw [List.foldl_append, List.foldl_cons]
    show T.foldl BM.step (BM.step (pairs (low S n)) n) = _
    rw [e1, fold_near _ n T 0 (fun x hx => by have := (hm x).1 hx; omega)]
    rfl
  have e3 : T.foldl (fun m x => m ||| 2 ^ (x - n - 1).toNat) 0 = mr (fun i => decide (n + 1 + (i : Int) ∈ S)) 16 := by
    apply Nat.eq_of_testBit_eq
    intro j
    rw [mr_bit, Bool.eq_iff_iff, fold_bit n T 0 j (fun x hx => ((hm x).1 hx).2.1), hm]
    simp only [Nat.zero_testBit, Bool.false_eq_true, false_or, Bool.and_eq_true, decide_eq_true_eq]
    constructor
    · rintro ⟨h1, _, h3⟩; exact ⟨by omega, h1⟩
    · rintro ⟨h1, h2⟩; exact ⟨h2, by omega, by omega⟩
  rw [e3] at e2
  refine ⟨e2, fun K p e => ?_⟩
  rw [e2] at e
  obtain ⟨_, e4⟩ := List.append_inj' e rfl
  simp only [List.cons.injEq, and_true] at e4
  rw [← e4]
  show 16 < n + 17 - n
  omega
theorem shut_next {l : List (Int × Nat)} {n : Int} (h : Shut l n) : Shut l (n + 1) := fun K p e => by have := h K p e; omega
theorem low_zero {S : List Int} (h : ∀ x ∈ S, 0 ≤ x) : low S 0 = [] := by
  apply List.filter_eq_nil_iff.2
  intro x hx
  have := h x hx
  simp
  omega
theorem low_all {S : List Int} {n : Int} (h : ∀ x ∈ S, x < n) : low S n = S := by
  apply List.filter_eq_self.2
  intro x hx
  simpa using h x hx

/-! the bools in memory -/
set_option maxRecDepth 1000000 in
theorem zeros : Tryd.zeroCells87 = Array.replicate 65536 (.bool false) := by kernel_rfl
/-- which numbers are there -/
def HasB (w : World) (g : Nat) (K : List Int) : Prop := ∃ cs : Array Value, w.heap[g]? = some (.cells cs 87 (0, 0)) ∧ cs.size = 65536 ∧ ∀ j, j < 65536 → cs[j]? = some (.bool (decide ((j : Int) ∈ K)))
theorem HasB.new (w : World) : HasB (w.alloc (.cells Tryd.zeroCells87 87)) w.heap.size [] := by
  refine ⟨_, heap_alloc_new w _, by rw [zeros]; simp, fun j hj => ?_⟩
  rw [zeros]
  simp [hj]
theorem HasB.cell {w : World} {g : Nat} {K : List Int} (h : HasB w g K) {j : Nat} (hj : j < 65536) : w.cell? ⟨g, j, none⟩ = some (.bool (decide ((j : Int) ∈ K))) := by
  obtain ⟨cs, h1, _, h3⟩ := h
  simp [World.cell?, h1, h3 j hj]
theorem HasB.free {w : World} {g : Nat} {K : List Int} (h : HasB w g K) (j : Nat) : w.frozen? ⟨g, j, none⟩ = false := by
  obtain ⟨cs, h1, _⟩ := h
  simp [World.frozen?, h1]
theorem HasB.lt {w : World} {g : Nat} {K : List Int} (h : HasB w g K) : g < w.heap.size := by
  obtain ⟨cs, h1, _⟩ := h
  exact lt_of_block h1
theorem HasB.set {w : World} {g : Nat} {K : List Int} (h : HasB w g K) {x : Nat} (hx : x < 65536) : HasB (w.setCell ⟨g, x, none⟩ (.bool true)) g (K ++ [(x : Int)]) := by
  obtain ⟨cs, h1, h2, h3⟩ := h
  refine ⟨_, heap_setCell_same w g x cs 87 (.bool true) h1, by simpa using h2, fun j hj => ?_⟩
  rw [Array.getElem?_setIfInBounds]
  by_cases e : x = j
  · subst e
    rw [if_pos rfl, if_pos (by omega)]
    simp
  · rw [if_neg e, h3 j hj]
    congr 2
    rw [decide_eq_decide, List.mem_append, List.mem_singleton]
    constructor
    · exact .inl
    · rintro (h | h)
      · exact h
      · omega
theorem HasB.below {w w' : World} {g B : Nat} {K : List Int} (h : HasB w g K) (hb : Below B w w') (hg : g < B) : HasB w' g K := by
  obtain ⟨cs, h1, h2⟩ := h
  exact ⟨cs, (hb.block g hg).trans h1, h2⟩
theorem HasB.alloc {w : World} {g : Nat} {K : List Int} (h : HasB w g K) (O : Obj) : HasB (w.alloc O) g K := by
  have hl := h.lt
  obtain ⟨cs, h1, h2⟩ := h
  exact ⟨cs, (Below.heap_alloc _ _ _ hl).trans h1, h2⟩
theorem HasB.grown {w w' : World} {g base n sz e : Nat} {v : Value} {xs : List Value} {K : List Int} (h : HasB w g K) (ho : w.ownsRow base e sz v n xs) (hg : w.grownBy w' v.ownBlock) (he : 87 ≠ e := by decide) : HasB w' g K := by
  have hl := h.lt
  obtain ⟨cs, h1, h2⟩ := h
  refine ⟨cs, (hg.block g hl ?_).trans h1, h2⟩
  intro e1
  rcases ho.2 with ⟨rfl, _⟩ | ⟨g', cap, cur, rfl, _, hb, _⟩
  · simp [Value.ownBlock] at e1
  · simp only [Value.ownBlock, Option.some.injEq] at e1
    subst e1
    rw [h1] at hb
    simp only [Option.some.injEq, Obj.cells.injEq] at hb
    exact absurd hb.2.1 he
theorem HasB.same {w : World} {g : Nat} {K K' : List Int} (h : HasB w g K) (e : ∀ x, x ∈ K ↔ x ∈ K') : HasB w g K' := by
  obtain ⟨cs, h1, h2, h3⟩ := h
  exact ⟨cs, h1, h2, fun j hj => by rw [h3 j hj]; congr 2; rw [decide_eq_decide]; exact e _⟩
theorem own_below {w w' : World} {base e sz n : Nat} {v : Value} {xs : List Value} (h : w.ownsRow base e sz v n xs) (hb : Below w.heap.size w w') : w'.ownsRow base e sz v n xs := by
  refine ⟨h.1, ?_⟩
  rcases h.2 with hl | ⟨g, cap, cur, rfl, hg, hbl, rest⟩
  · exact .inl hl
  · exact .inr ⟨g, cap, cur, rfl, hg, (hb.block g (lt_of_block hbl)).trans hbl, rest⟩
end Go.Proofs.YtjhfjkacfnccdabDoor.Back
