/-
  What the reference's ring's methods Low, and Put where nothing is kept, return. They change nothing that was there. Their condition: the ring keeps packets that a ring may keep.
-/
import Derived.Test.YtfehmpdeenpahadDoorRRingA
import Derived.Test.YtfehmpdeenpahadDoorRPack
namespace Go.Proofs.YtfehmpdeenpahadDoor.RRing
open Go.ChangeShapes Go.WideShapes Go.ChangeAt Go.RowKit Go.Proofs.YtfehmpdeenpahadDoor.PM Go.Proofs.YtfehmpdeenpahadDoor.Mem Go.Proofs.YtfehmpdeenpahadDoor.Pack Go.Proofs.YtfehmpdeenpahadDoor.RM Go.Proofs.YtfehmpdeenpahadDoor.Ring
set_option linter.unusedVariables false

/-- the least so far -/
def LowSt (M : Its) (k : Nat) (lo : Int) : Prop := (k = 0 ∧ lo = -1) ∨ (0 < k ∧ (∀ (j : Nat) (i : Int × Pk), j < k → M[j]? = some i → lo ≤ i.1) ∧ ∃ (j : Nat) (i : Int × Pk), j < k ∧ M[j]? = some i ∧ lo = i.1)
theorem lowst_end {n T lo : Int} {M : Its} (hI : RM.Inv n T M) (h : LowSt M M.length lo) : lo = low T M := by
  rcases h with ⟨h0, rfl⟩ | ⟨h0, h1, j, i, hj, hi, rfl⟩
  · have : M = [] := List.eq_nil_of_length_eq_zero h0
    subst this
    rcases hI.tops with ⟨h, _⟩ | ⟨i, hi, _⟩
    · rw [h]; rfl
    · simp at hi
  · have all : ∀ i' ∈ M, i.1 ≤ i'.1 := by
      intro i' hi'
      obtain ⟨j', hj', e⟩ := List.mem_iff_getElem.1 hi'
      exact h1 j' i' hj' (by rw [List.getElem?_eq_getElem hj', e])
    have hm : i ∈ M := List.mem_of_getElem? hi
    exact low_eq (hI.mem i hm).2.1 all (.inr ⟨i, hm, rfl⟩)
theorem lowst_less {M : Its} {k : Nat} {lo : Int} {i : Int × Pk} (h : LowSt M k lo) (hi : M[k]? = some i) (hx : lo < 0 ∨ i.1 < lo) (hM : ∀ i ∈ M, 0 ≤ i.1) : LowSt M (k + 1) i.1 := by
  refine .inr ⟨by omega, fun j i' hj hj' => ?_, k, i, by omega, hi, rfl⟩
  by_cases e : j = k
  · subst e; rw [hi] at hj'; cases hj'; exact Int.le_refl _
  · rcases h with ⟨h0, _⟩ | ⟨_, h1, j0, i0, _, hi0, e0⟩
    · omega
    · have := h1 j i' (by omega) hj'
      have := hM i0 (List.mem_of_getElem? hi0)
      omega
theorem lowst_more {M : Its} {k : Nat} {lo : Int} {i : Int × Pk} (h : LowSt M k lo) (hi : M[k]? = some i) (h0 : ¬ lo < 0) (hx : ¬ i.1 < lo) : LowSt M (k + 1) lo := by
  rcases h with ⟨_, rfl⟩ | ⟨hk, h1, j0, i0, hj0, hi0, e0⟩
  · omega
  · refine .inr ⟨by omega, fun j i' hj hj' => ?_, j0, i0, by omega, hi0, e0⟩
    by_cases e : j = k
    · subst e; rw [hi] at hj'; cases hj'; omega
    · exact h1 j i' (by omega) hj'

set_option maxHeartbeats 400000 in
theorem rlow_nil (b : Nat) (w : World) (h2 : w.cell? ⟨b, 2, none⟩ = some (.slice none 0 0)) :
    Calls Tryd.prog 15 #[.pointer (some ⟨b, 0, none⟩)] w fun e w' => e = .returned (.int .i64 (-1)) ∧ w' = w := by
  go_enter Tryd.func15, Tryd.ntmps15
  go_wp2_with fail
  refine wp_loop_rounds 1 ?_
  rw [rounds_succ]
  go_wp2_with fail
  go_ret
  exact ⟨rfl, rfl⟩
set_option maxHeartbeats 1000000 in
theorem rlow_some (b g cap : Nat) (n T : Int) (M : Its) (w : World) (h2 : w.cell? ⟨b, 2, none⟩ = some (.slice (some ⟨g, 0, none⟩) M.length cap)) (hc : ∀ j i, M[j]? = some i → w.cell? ⟨g, j * 8, none⟩ = some (.int .i64 i.1)) (hL : M.length ≤ 1000) (hI : RM.Inv n T M) :
    Calls Tryd.prog 15 #[.pointer (some ⟨b, 0, none⟩)] w fun e w' => e = .returned (.int .i64 (low T M)) ∧ w' = w := by
  have HC := hidden hc
  have HI := hidden hI
  clear hc hI
  go_enter Tryd.func15, Tryd.ntmps15
  go_wp2_with fail
  go_loopw [3, 4] (fun l' i' wr => ∃ (k : Nat) (lo : Int), k ≤ M.length ∧ l' = .int .i64 lo ∧ i' = .int .i64 k ∧ wr = w ∧ Hid (LowSt M k lo)) (fun _ i' _ => M.length - (intOf i').toNat)
  case atStart => exact ⟨0, -1, Nat.zero_le _, rfl, rfl, rfl, .inl ⟨rfl, rfl⟩⟩
  case round =>
    obtain ⟨k, lo, hk, rfl, rfl, rfl, HN⟩ := hrel
    by_cases hlt : k < M.length
    · obtain ⟨i, hi⟩ : ∃ i, M[k]? = some i := ⟨_, List.getElem?_eq_getElem hlt⟩
      have ck := HC.out k i hi
      have HIk := hidden hi
      clear hi
      obtain ⟨x, hx⟩ : ∃ x, i.1 = x := ⟨_, rfl⟩
      rw [hx] at ck
      have HX := hidden hx
      clear hx
      by_cases h0 : lo < 0
      · go_wp2_with fail
        go_roundw
        case rel => exact ⟨k + 1, x, by omega, rfl, by go_num, by first | rfl | trivial, by rw [← HX.out]; exact lowst_less HN.out HIk.out (.inl h0) (fun i hi => (HI.out.mem i hi).1)⟩
        case measure => simp [intOf]; omega
      by_cases h1 : x < lo
      · go_wp2_with fail
        go_roundw
        case rel => exact ⟨k + 1, x, by omega, rfl, by go_num, by first | rfl | trivial, by rw [← HX.out]; exact lowst_less HN.out HIk.out (.inr (by rw [HX.out]; exact h1)) (fun i hi => (HI.out.mem i hi).1)⟩
        case measure => simp [intOf]; omega
      · go_wp2_with fail
        go_roundw
        case rel => exact ⟨k + 1, lo, by omega, rfl, by go_num, by first | rfl | trivial, lowst_more HN.out HIk.out (by omega) (by rw [HX.out]; omega)⟩
        case measure => simp [intOf]; omega
    · have hkM : k = M.length := by omega
      have HE : Hid (lo = low T M) := lowst_end HI.out (by rw [← hkM]; exact HN.out)
      clear hkM
      go_wp2_with fail
      go_ret
      exact ⟨by rw [← HE.out]; rfl, rfl⟩
theorem rlow_calls (base b : Nat) (n T : Int) (M : Its) (v : Value) (w : World) (h : RefAt w base b n T M v) (hL : M.length ≤ 1000) (hI : RM.Inv n T M) :
    Calls Tryd.prog 15 #[.pointer (some ⟨b, 0, none⟩)] w fun e w' => e = .returned (.int .i64 (low T M)) ∧ w' = w := by
  obtain ⟨c0, c1, c2⟩ := ref_cells h
  rcases ref_form h.2 with ⟨rfl, rfl⟩ | ⟨g, c, rfl, _⟩
  · have e : (-1 : Int) = low T [] := lowst_end hI (.inl ⟨rfl, rfl⟩)
    refine (rlow_nil b w c2).mono ?_
    rintro e' w' ⟨rfl, rfl⟩
    exact ⟨by rw [← e], rfl⟩
  · exact rlow_some b g c n T M w c2 (fun j i hj => (ref_cell h.2 hj 0 (by omega)).trans rfl) hL hI
end Go.Proofs.YtfehmpdeenpahadDoor.RRing
