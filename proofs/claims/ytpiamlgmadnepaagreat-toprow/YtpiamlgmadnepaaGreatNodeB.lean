/-
  What anyTwice, checkPlan and New of package node return. Their condition: the node is such as it may be.
-/
import Derived.Test.YtpiamlgmadnepaaGreatNodeA
namespace Go.Proofs.YtpiamlgmadnepaaGreat.ND
open Go.ChangeShapes Go.WideShapes Go.ChangeAt Go.RowKit Go.Maps Go.Proofs.YtpiamlgmadnepaaGreat.Mem Go.Proofs.YtpiamlgmadnepaaGreat.NO
set_option linter.unusedVariables false

theorem cl1_calls (m id pa : Int) (b b1 b2 : Nat) (w : World) (h1 : w.cell? ⟨b1, 0, none⟩ = some (.pointer (some ⟨b, 0, none⟩))) (h2 : w.cell? ⟨b2, 0, none⟩ = some (.int .i64 pa)) (h : w.cell? ⟨b, 1, none⟩ = some (.int .i64 id)) :
    Calls Tryz.prog 145 #[.int .i64 m, .pointer (some ⟨b1, 0, none⟩), .pointer (some ⟨b2, 0, none⟩)] w fun e w' => e = .returned (.bool (badk id pa m)) ∧ w' = w := by
  have C := hidden (isOther_calls b id m w h)
  cases hx : oth id m with
  | false =>
    rw [show badk id pa m = true from by unfold badk; rw [hx]; rfl]
    rw [hx] at C
    clear hx
    go_enter Tryz.func145, Tryz.ntmps145
    go_wp2_with fail
    refine C.out.mono ?_
    rintro e w1 ⟨rfl, rfl⟩
    go_wp2_with fail
    go_ret
    exact ⟨rfl, rfl⟩
  | true =>
    rw [show badk id pa m = decide (m = pa) from by unfold badk; rw [hx]; rfl]
    rw [hx] at C
    clear hx
    obtain ⟨q, hq⟩ : ∃ q, decide (m = pa) = q := ⟨_, rfl⟩
    have hq' : (m == pa) = q := by rw [← hq]; by_cases e : m = pa <;> simp [e]
    rw [hq]
    clear hq
    go_enter Tryz.func145, Tryz.ntmps145
    go_wp2_with fail
    refine C.out.mono ?_
    rintro e w1 ⟨rfl, rfl⟩
    go_wp2_with fail
    go_ret
    exact ⟨rfl, rfl⟩
theorem found_any {n : Nat} {p : Nat → Bool} {I : Nat → World → Prop} {i : Int} {w : World} (h : Found n p I i w) : decide (0 ≤ i) = (List.range n).any p := by
  rcases h with ⟨j, hj, rfl, hp, _, _⟩ | ⟨rfl, hp, _⟩
  · have : (List.range n).any p = true := List.any_eq_true.2 ⟨j, by simpa using hj, hp⟩
    rw [this]
    simp
  · have : (List.range n).any p = false := by
      rw [List.any_eq_false]
      intro k hk
      simp only [List.mem_range] at hk
      simp [hp k hk]
    rw [this]
    rfl
theorem any_list (L : List Int) (f : Int → Bool) : (List.range L.length).any (fun j => f (L.getD j 0)) = L.any f := by
  rw [Bool.eq_iff_iff, List.any_eq_true, List.any_eq_true]
  constructor
  · rintro ⟨j, hj, hf⟩
    simp only [List.mem_range] at hj
    refine ⟨L.getD j 0, ?_, hf⟩
    rw [List.getD_eq_getElem?_getD, List.getElem?_eq_getElem hj]
    exact List.getElem_mem hj
  · rintro ⟨x, hx, hf⟩
    obtain ⟨j, hj, rfl⟩ := List.getElem_of_mem hx
    refine ⟨j, by simpa using hj, ?_⟩
    rw [List.getD_eq_getElem?_getD, List.getElem?_eq_getElem hj]
    exact hf
/-- whether a number is there ahead of it -/
theorem any_twice (L : List Int) : (List.range L.length).any (fun j => decide (L.getD j 0 ∈ L.take j)) = twc L := by
  rw [Bool.eq_iff_iff, List.any_eq_true]
  unfold twc
  simp only [Bool.not_eq_true', decide_eq_false_iff_not, List.mem_range, decide_eq_true_eq]
  constructor
  · rintro ⟨j, hj, hm⟩ hn
    rw [List.getD_eq_getElem?_getD, List.getElem?_eq_getElem hj, Option.getD_some] at hm
    obtain ⟨k, hk, e⟩ := List.getElem_of_mem hm
    rw [List.getElem_take] at e
    simp only [List.length_take] at hk
    rw [List.nodup_iff_pairwise_ne, List.pairwise_iff_getElem] at hn
    exact hn k j (by omega) hj (by omega) e
  · intro hn
    rw [List.nodup_iff_pairwise_ne, List.pairwise_iff_getElem] at hn
    simp only [Classical.not_forall] at hn
    obtain ⟨i, j, hi, hj, hij, e⟩ := hn
    refine ⟨j, hj, ?_⟩
    rw [List.getD_eq_getElem?_getD, List.getElem?_eq_getElem hj, Option.getD_some]
    have e' : L[i] = L[j] := by simpa using e
    rw [← e', ← List.getElem_take (i := i) (j := j) (h := by simp; omega)]
    exact List.getElem_mem _
/-- which of sixteen are there -/
def sn (X : List Int) : Array Value := ((List.range 16).map fun (k : Nat) => Value.bool (decide ((k : Int) ∈ X))).toArray
theorem sn_nil : sn [] = #[.bool false, .bool false, .bool false, .bool false, .bool false, .bool false, .bool false, .bool false, .bool false, .bool false, .bool false, .bool false, .bool false, .bool false, .bool false, .bool false] := by
  simp [sn, List.range, List.range.loop]
theorem sn_get (X : List Int) {k : Nat} (hk : k < 16) : (sn X)[k]? = some (.bool (decide ((k : Int) ∈ X))) := by
  unfold sn
  rw [List.getElem?_toArray, List.getElem?_map, List.getElem?_range hk]
  rfl
theorem sn_set (X : List Int) {k : Nat} (hk : k < 16) : (sn X).setIfInBounds k (.bool true) = sn (X ++ [(k : Int)]) := by
  apply Array.ext_getElem?
  intro i
  rw [Array.getElem?_setIfInBounds]
  by_cases e : k = i
  · subst e
    rw [if_pos rfl, if_pos (by simp [sn]; omega), sn_get _ hk]
    simp
  · rw [if_neg e]
    by_cases hi : i < 16
    · rw [sn_get _ hi, sn_get _ hi]
      have : ¬ (i : Int) = (k : Int) := by omega
      simp [this]
    · rw [Array.getElem?_eq_none (by simp [sn]; omega), Array.getElem?_eq_none (by simp [sn]; omega)]
theorem cl2_calls (X : List Int) (g k : Nat) (hk : k < 16) (w : World) (h : w.heap[g]? = some (.cells (sn X) 183 (0, 0))) :
    Calls Tryz.prog 179 #[.int .i64 (k : Int), .pointer (some ⟨g, 0, none⟩)] w fun e w' => e = .returned (.bool (decide ((k : Int) ∈ X))) ∧ w'.heap[g]? = some (.cells (sn (X ++ [(k : Int)])) 183 (0, 0)) ∧ Only [g] w w' := by
  have c0 : w.cell? ⟨g, k, none⟩ = some (.bool (decide ((k : Int) ∈ X))) := by simp [World.cell?, h, sn_get X hk]
  have f0 : w.frozen? ⟨g, k, none⟩ = false := by simp [World.frozen?, h]
  have HH := hidden (heap_setCell_same w g k _ _ (.bool true) h)
  obtain ⟨q, hq⟩ : ∃ q, decide ((k : Int) ∈ X) = q := ⟨_, rfl⟩
  rw [hq] at c0
  rw [hq]
  clear h hq
  have hkz : (k : Int) < 16 := by omega
  go_enter Tryz.func179, Tryz.ntmps179
  go_wp2_with fail
  go_ret
  refine ⟨rfl, ?_, (Only.refl _ _).setCell (by simp) _⟩
  rw [← sn_set X hk]
  exact HH.out
set_option maxHeartbeats 1000000 in
theorem twice_calls (a : Option Addr) (n cap : Nat) (L : List Int) (w : World) (h : Gaps.IArg w a n L) (hL : ∀ x ∈ L, 0 ≤ x ∧ x ≤ 15) :
    Calls Tryz.prog 146 #[.slice a n cap] w fun e w' => e = .returned (.bool (twc L)) ∧ Below w.heap.size w w' := by
  have hl := h.2.1
  have hn := h.2.2
  have C : Hid (∀ W : World, W.heap[w.heap.size]? = some (.cells (sn []) 183 (0, 0)) → Below w.heap.size w W → Calls Tryz.prog 144 #[.slice a n cap, .func (.func 179) #[] #[.pointer (some ⟨w.heap.size, 0, none⟩)]] W fun e w' => e = .returned (.bool (twc L)) ∧ Below w.heap.size w w') := by
    refine hidden ?_
    intro W hW hB
    have hI := idx2_calls w.heap.size a n cap L (fun j W' => W'.heap[w.heap.size]? = some (.cells (sn (L.take j)) 183 (0, 0)) ∧ Below w.heap.size w W') (fun j => decide (L.getD j 0 ∈ L.take j)) W hl hn (fun j W' hj => h.below hj.2) ⟨by simpa using hW, hB⟩ (by
      intro j W' hj hJ
      obtain ⟨q1, q2⟩ := hL (L.getD j 0) (by rw [List.getD_eq_getElem?_getD, List.getElem?_eq_getElem (by omega)]; exact List.getElem_mem _)
      obtain ⟨k, hk⟩ : ∃ k : Nat, L.getD j 0 = (k : Int) := ⟨(L.getD j 0).toNat, by omega⟩
      have hk' : L[j]? = some (k : Int) := by
        rw [List.getD_eq_getElem?_getD, List.getElem?_eq_getElem (by omega)] at hk
        rw [List.getElem?_eq_getElem (by omega)]
        simpa using hk
      have ht : L.take (j + 1) = L.take j ++ [(k : Int)] := by
        rw [List.take_add_one, hk']
        rfl
      rw [ht, hk]
      refine (cl2_calls (L.take j) w.heap.size k (by omega) W' hJ.1).mono ?_
      rintro e w1 ⟨rfl, h1, h2⟩
      exact ⟨rfl, h1, hJ.2.trans (h2.below (by have := hJ.2.size; omega) (by simp))⟩)
    have HI := hidden hI
    clear hI
    obtain ⟨q, hq⟩ : ∃ q, twc L = q := ⟨_, rfl⟩
    rw [hq]
    have HQ := hidden hq
    clear hq
    go_enter Tryz.func144, Tryz.ntmps144
    go_wp2_with fail
    refine HI.out.mono ?_
    rintro e w1 ⟨i, rfl, hf⟩
    have hb : Below w.heap.size w w1 := by
      rcases hf with ⟨j, _, _, _, _, h1⟩ | ⟨_, _, h1⟩
      · exact h1.2
      · exact h1.2
    have hd := found_any hf
    rw [← hl, any_twice, HQ.out] at hd
    have HB := hidden hb
    clear hf hb
    go_wp2_with fail
    go_ret
    exact ⟨rfl, HB.out⟩
  obtain ⟨q, hq⟩ : ∃ q, twc L = q := ⟨_, rfl⟩
  rw [hq] at C
  rw [hq]
  clear hq h
  rw [sn_nil] at C
  go_enter Tryz.func146, Tryz.ntmps146
  go_wp2_with fail
  refine (C.out _ (by first | exact heap_alloc_new w _ | simp) ((Below.refl _ _).alloc (Nat.le_refl _) _)).mono ?_
  rintro e w1 ⟨rfl, hb⟩
  go_wp2_with fail
  go_ret
  exact ⟨rfl, hb⟩
end Go.Proofs.YtpiamlgmadnepaaGreat.ND

