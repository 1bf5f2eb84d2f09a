/-
  The reference's ring in memory, and what its methods At and Low return. They change nothing that was there. Their condition: the ring keeps packets that a ring may keep.
-/
import Derived.Test.YtfehmpdeenpahadDoorRingF
import Derived.LoopTactic
namespace Go.Proofs.YtfehmpdeenpahadDoor.RRing
open Go.ChangeShapes Go.WideShapes Go.ChangeAt Go.RowKit Go.Proofs.YtfehmpdeenpahadDoor.PM Go.Proofs.YtfehmpdeenpahadDoor.Mem Go.Proofs.YtfehmpdeenpahadDoor.Pack Go.Proofs.YtfehmpdeenpahadDoor.RM Go.Proofs.YtfehmpdeenpahadDoor.Ring
set_option linter.unusedVariables false

/-- an item in memory -/
def itCells (i : Int × Pk) : List Value := [.int .i64 i.1, .bool false, .int .i64 i.2.s, .int .i64 i.2.t, .int .i64 i.2.l, .int .i64 i.2.q, .bool i.2.st, i.2.bv]
def flat (M : Its) : List Value := M.flatMap itCells
theorem flat_len (M : Its) : (flat M).length = M.length * 8 := by
  induction M with
  | nil => rfl
  | cons i M ih => simp only [flat, List.flatMap_cons, List.length_append, List.length_cons] at ih ⊢; rw [ih]; simp [itCells]; omega
theorem flat_app (M N : Its) : flat (M ++ N) = flat M ++ flat N := by simp [flat]
theorem flat_one (i : Int × Pk) : flat [i] = itCells i := by simp [flat]
theorem flat_get (M : Its) (j : Nat) (i : Int × Pk) (h : M[j]? = some i) (c : Nat) (hc : c < 8) : (flat M)[j * 8 + c]? = (itCells i)[c]? := by
  induction M generalizing j with
  | nil => simp at h
  | cons a M ih =>
    have e : flat (a :: M) = itCells a ++ flat M := by simp [flat]
    rw [e]
    cases j with
    | zero =>
      simp only [List.getElem?_cons_zero, Option.some.injEq] at h
      subst h
      rw [List.getElem?_append_left (by simp [itCells]; omega)]
      simp
    | succ j =>
      simp only [List.getElem?_cons_succ] at h
      rw [List.getElem?_append_right (by simp [itCells]; omega), ← ih j h]
      congr 1
      simp [itCells]
      omega
/-- the Bodies are slices -/
def Slices (M : Its) : Prop := ∀ i ∈ M, ∃ a m c, i.2.bv = .slice a m c
theorem flat_one_cell {M : Its} (h : Slices M) : ∀ u ∈ flat M, u.oneCell' = true := by
  intro u hu
  obtain ⟨i, hi, hu⟩ := List.mem_flatMap.1 hu
  obtain ⟨a, m, c, e⟩ := h i hi
  simp only [itCells, e, List.mem_cons, List.not_mem_nil, or_false] at hu
  rcases hu with rfl | rfl | rfl | rfl | rfl | rfl | rfl | rfl <;> rfl

/-- the reference's ring in memory -/
def RefAt (w : World) (base b : Nat) (n T : Int) (M : Its) (v : Value) : Prop :=
  w.heap[b]? = some (.cells #[.int .i64 n, .int .i64 T, v] 44 (0, 0)) ∧ w.ownsRow base 49 8 v M.length (flat M)
theorem ref_cells {w : World} {base b : Nat} {n T : Int} {M : Its} {v : Value} (h : RefAt w base b n T M v) :
    w.cell? ⟨b, 0, none⟩ = some (.int .i64 n) ∧ w.cell? ⟨b, 1, none⟩ = some (.int .i64 T) ∧ w.cell? ⟨b, 2, none⟩ = some v := cells3 h.1
theorem ref_form {w : World} {base : Nat} {M : Its} {v : Value} (h : w.ownsRow base 49 8 v M.length (flat M)) : (v = .slice none 0 0 ∧ M = []) ∨ ∃ g c, v = .slice (some ⟨g, 0, none⟩) M.length c ∧ base ≤ g := by
  rcases h.2 with ⟨h, h0⟩ | ⟨g, cap, cur, h, hg, _⟩
  · exact .inl ⟨h, List.eq_nil_of_length_eq_zero h0⟩
  · exact .inr ⟨g, cap, h, hg⟩
theorem ref_cell {w : World} {base g c : Nat} {M : Its} (h : w.ownsRow base 49 8 (.slice (some ⟨g, 0, none⟩) M.length c) M.length (flat M)) {j : Nat} {i : Int × Pk} (hj : M[j]? = some i) (k : Nat) (hk : k < 8) : w.cell? ⟨g, j * 8 + k, none⟩ = (itCells i)[k]? := by
  have hlt : j < M.length := (List.getElem?_eq_some_iff.1 hj).1
  rw [h.cellAt (j * 8 + k) (by omega), flat_get M j i hj k hk]
theorem RefAt.only {w w' : World} {base b : Nat} {n T : Int} {M : Its} {v : Value} {bs : List Nat} (h : RefAt w base b n T M v) (ho : Only bs w w') (hb : b ∉ bs) (hv : ∀ k, v.ownBlock = some k → k ∉ bs) : RefAt w' base b n T M v :=
  ⟨ho.block h.1 hb, ho.owns h.2 hv⟩
theorem RefAt.below {w w' : World} {base b : Nat} {n T : Int} {M : Its} {v : Value} (h : RefAt w base b n T M v) (hb : Below w.heap.size w w') : RefAt w' base b n T M v :=
  h.only (Only.of_below hb []) (by simp) (by simp)

theorem got_eq {M : Its} (h1 : M.Pairwise fun a b => a.1 ≠ b.1) {i : Int × Pk} (hi : i ∈ M) : got M i.1 = i.2 := by
  obtain ⟨j, hj, e, hf⟩ := find_some (has_iff.2 ⟨i, hi, rfl⟩)
  have : j = i := by
    clear hf
    induction M with
    | nil => simp at hi
    | cons a M ih =>
      obtain ⟨p1, p2⟩ := List.pairwise_cons.1 h1
      rcases List.mem_cons.1 hj with rfl | hj'
      · rcases List.mem_cons.1 hi with rfl | hi'
        · rfl
        · exact absurd e (p1 i hi')
      · rcases List.mem_cons.1 hi with rfl | hi'
        · exact absurd e.symm (p1 j hj')
        · exact ih p2 hi' hj'
  simp [got, hf, this]

set_option maxHeartbeats 400000 in
theorem at_nil (b : Nat) (y : Int) (w : World) (h2 : w.cell? ⟨b, 2, none⟩ = some (.slice none 0 0)) :
    Calls Tryd.prog 16 #[.pointer (some ⟨b, 0, none⟩), .int .i64 y] w fun e w' => e = .returned (.int .i64 (-1)) ∧ w' = w := by
  go_enter Tryd.func16, Tryd.ntmps16
  go_wp2_with fail
  refine wp_loop_rounds 1 ?_
  rw [rounds_succ]
  go_wp2_with fail
  go_ret
  exact ⟨rfl, rfl⟩

/-- what At returns: the index of a number, -1 where it is not there -/
def APost (M : Its) (y : Int) (e : Ending) : Prop := (has M y = false ∧ e = .returned (.int .i64 (-1))) ∨ ∃ (j : Nat) (i : Int × Pk), M[j]? = some i ∧ i.1 = y ∧ e = .returned (.int .i64 (j : Int))
set_option maxHeartbeats 1000000 in
theorem at_some (b g cap : Nat) (y : Int) (M : Its) (w : World) (h2 : w.cell? ⟨b, 2, none⟩ = some (.slice (some ⟨g, 0, none⟩) M.length cap)) (hc : ∀ j i, M[j]? = some i → w.cell? ⟨g, j * 8, none⟩ = some (.int .i64 i.1)) (hL : M.length ≤ 1000) :
    Calls Tryd.prog 16 #[.pointer (some ⟨b, 0, none⟩), .int .i64 y] w fun e w' => APost M y e ∧ w' = w := by
  have HC := hidden hc
  clear hc
  go_enter Tryd.func16, Tryd.ntmps16
  go_wp2_with fail
  go_loopw [5] (fun i' wr => ∃ k : Nat, k ≤ M.length ∧ i' = .int .i64 k ∧ wr = w ∧ Hid (∀ (j : Nat) (i : Int × Pk), j < k → M[j]? = some i → i.1 ≠ y)) (fun i' _ => M.length - (intOf i').toNat)
  case atStart => exact ⟨0, Nat.zero_le _, rfl, rfl, fun j i hj => absurd hj (by omega)⟩
  case round =>
    obtain ⟨k, hk, rfl, rfl, HN⟩ := hrel
    by_cases hlt : k < M.length
    · obtain ⟨i, hi⟩ : ∃ i, M[k]? = some i := ⟨_, List.getElem?_eq_getElem hlt⟩
      have ck := HC.out k i hi
      have HI := hidden hi
      clear hi
      obtain ⟨x, hx⟩ : ∃ x, i.1 = x := ⟨_, rfl⟩
      rw [hx] at ck
      have HX := hidden hx
      clear hx
      by_cases hxy : x = y
      · have d0 : (x == y) = true := by simpa using hxy
        have HXY := hidden hxy
        clear hxy
        go_wp2_with fail
        go_ret
        exact ⟨.inr ⟨k, i, HI.out, HX.out.trans HXY.out, rfl⟩, rfl⟩
      · have d0 : (x == y) = false := by simpa using hxy
        have HXY := hidden hxy
        clear hxy
        go_wp2_with fail
        go_roundw
        case rel =>
          refine ⟨k + 1, by omega, by go_num, by first | rfl | trivial, fun j i' hj hj' => ?_⟩
          by_cases e : j = k
          · subst e
            rw [HI.out] at hj'
            cases hj'
            rw [HX.out]
            exact HXY.out
          · exact HN.out j i' (by omega) hj'
        case measure => simp [intOf]; omega
    · go_wp2_with fail
      go_ret
      refine ⟨.inl ⟨?_, rfl⟩, rfl⟩
      rw [Bool.eq_false_iff]
      intro hh
      obtain ⟨i, hi, e⟩ := has_iff.1 hh
      obtain ⟨j, hj, e'⟩ := List.mem_iff_getElem.1 hi
      exact HN.out j i (by omega) (by rw [List.getElem?_eq_getElem hj, e']) e
theorem at_calls (base b : Nat) (n T y : Int) (M : Its) (v : Value) (w : World) (h : RefAt w base b n T M v) (hL : M.length ≤ 1000) :
    Calls Tryd.prog 16 #[.pointer (some ⟨b, 0, none⟩), .int .i64 y] w fun e w' => APost M y e ∧ w' = w := by
  obtain ⟨c0, c1, c2⟩ := ref_cells h
  rcases ref_form h.2 with ⟨rfl, rfl⟩ | ⟨g, c, rfl, _⟩
  · refine (at_nil b y w c2).mono ?_
    rintro e w' ⟨rfl, rfl⟩
    exact ⟨.inl ⟨rfl, rfl⟩, rfl⟩
  · exact at_some b g c y M w c2 (fun j i hj => (ref_cell h.2 hj 0 (by omega)).trans rfl) hL
end Go.Proofs.YtfehmpdeenpahadDoor.RRing
