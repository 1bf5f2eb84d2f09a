/-
  Two who speak by turns, and scores of which nobody is heard any more: what they come to. No memory, no walk.
-/
import Derived.Test.YtjhfjkacfnccdahVoiceMath
namespace Go.Proofs.Ytjhfjkacfnccdah.VO
open Go.Sort
set_option linter.unusedVariables false

/-- the scores of two -/
def two (a b A B : Int) : Sc := fun x => if x = a then A else if x = b then B else 0
theorem two_a (a b A B : Int) : two a b A B a = A := by simp [two]
theorem two_b {a b : Int} (h : a ≠ b) (A B : Int) : two a b A B b = B := by
  unfold two
  rw [if_neg (fun e => h e.symm), if_pos rfl]
theorem two_o {a b x : Int} (h1 : x ≠ a) (h2 : x ≠ b) (A B : Int) : two a b A B x = 0 := by
  unfold two
  rw [if_neg h1, if_neg h2]
theorem two_zero (a b : Int) : two a b 0 0 = fun _ => 0 := by
  funext x
  unfold two
  split
  · rfl
  · split <;> rfl
theorem ok_two {a b A B : Int} (a0 : 0 ≤ a) (a1 : a ≤ 200) (b0 : 0 ≤ b) (b1 : b ≤ 200) (hA : 0 ≤ A ∧ A ≤ 16256) (hB : 0 ≤ B ∧ B ≤ 16256) : Ok (two a b A B) := by
  refine ⟨fun x => ?_, fun x => ?_, fun x hx => ?_⟩
  · unfold two; split
    · omega
    · split <;> omega
  · unfold two; split
    · omega
    · split <;> omega
  · unfold two at hx
    split at hx
    · omega
    · split at hx
      · omega
      · omega
theorem lst_few {f : Sc} {i : Nat} (hi : i < 201) (h : f (i : Int) = 0) : (lst f).length ≤ 200 := by
  unfold lst
  rw [List.length_map]
  have h1 : ((List.range 201).filter fun i : Nat => decide (f (i : Int) ≠ 0)).length < (List.range 201).length := by
    rw [List.length_filter_lt_length_iff_exists]
    exact ⟨i, List.mem_range.2 hi, by simp [h]⟩
  rw [List.length_range] at h1
  omega
theorem lst_two (a b A B : Int) : (lst (two a b A B)).length ≤ 200 := by
  by_cases h0 : a ≠ 0 ∧ b ≠ 0
  · exact lst_few (i := 0) (by omega) (two_o (fun e => h0.1 e.symm) (fun e => h0.2 e.symm) _ _)
  · by_cases h1 : a ≠ 1 ∧ b ≠ 1
    · exact lst_few (i := 1) (by omega) (two_o (fun e => h1.1 e.symm) (fun e => h1.2 e.symm) _ _)
    · exact lst_few (i := 2) (by omega) (two_o (by omega) (by omega) _ _)
theorem nx_first {a b : Int} (h : a ≠ b) (A B L : Int) : nx (two a b A B) [(a, L), (b, 0)] = two a b (dec A + 16 * L) (dec B) := by
  funext x
  unfold nx
  simp only [lev]
  by_cases h1 : x = a
  · subst h1; rw [two_a, two_a, if_pos rfl, if_neg (fun e => h e.symm)]; omega
  · by_cases h2 : x = b
    · subst h2; rw [two_b h, two_b h, if_neg h, if_pos rfl]; omega
    · rw [two_o h1 h2, two_o h1 h2, if_neg (fun e => h1 e.symm), if_neg (fun e => h2 e.symm), dec_zero]; omega
theorem nx_second {a b : Int} (h : a ≠ b) (A B L : Int) : nx (two a b A B) [(b, L)] = two a b (dec A) (dec B + 16 * L) := by
  funext x
  unfold nx
  simp only [lev]
  by_cases h1 : x = a
  · subst h1; rw [two_a, two_a, if_neg (fun e => h e.symm)]; omega
  · by_cases h2 : x = b
    · subst h2; rw [two_b h, two_b h, if_pos rfl]; omega
    · rw [two_o h1 h2, two_o h1 h2, if_neg (fun e => h2 e.symm), dec_zero]; omega
theorem best_a {a b A B : Int} (h : a ≠ b) (hA : 0 < A) (hB : 0 ≤ B) (q : B < A ∨ B = A ∧ a < b) : Best (two a b A B) (a, A) := by
  refine ⟨two_a _ _ _ _, by simp; omega, fun x => ?_⟩
  by_cases h1 : x = a
  · subst h1; rw [two_a]; simp
  · by_cases h2 : x = b
    · subst h2; rw [two_b h]; simp only; omega
    · rw [two_o h1 h2]; simp only; omega
theorem best_b {a b A B : Int} (h : a ≠ b) (hB : 0 < B) (hA : 0 ≤ A) (q : A < B ∨ A = B ∧ b < a) : Best (two a b A B) (b, B) := by
  refine ⟨two_b h _ _, by simp; omega, fun x => ?_⟩
  by_cases h1 : x = a
  · subst h1; rw [two_a]; simp only; omega
  · by_cases h2 : x = b
    · subst h2; rw [two_b h]; simp
    · rw [two_o h1 h2]; simp only; omega
theorem spk_best {f : Sc} (h : Ok f) {p : Int × Int} (hb : Best f p) (sp : Int) : spk f sp = if f sp = 0 ∨ p.2 > f sp + 200 then p.1 else sp := by
  obtain ⟨t, e⟩ := best_rk h hb
  exact spk_cons e
/-- one alone speaks -/
theorem spk_one {a b A sp : Int} (hk : Ok (two a b A 0)) (h : a ≠ b) (hA : 0 < A) (hs : sp = a ∨ two a b A 0 sp = 0) : spk (two a b A 0) sp = a := by
  rw [spk_best hk (best_a h hA (by omega) (.inl hA)) sp]
  split
  · rfl
  · rename_i q
    rcases hs with hs | hs
    · exact hs
    · exact absurd (.inl hs) q
theorem spk_a {a b A B : Int} (hk : Ok (two a b A B)) (h : a ≠ b) (hA : 0 ≤ A) (hB : 0 < B) : spk (two a b A B) a = if A = 0 ∨ B > A + 200 then b else a := by
  by_cases q : B < A ∨ B = A ∧ a < b
  · rw [spk_best hk (best_a h (by omega) (by omega) q) a, two_a, if_neg (show ¬ (A = 0 ∨ B > A + 200) by omega)]
    simp
  · rw [spk_best hk (best_b h hB hA (by omega)) a, two_a]
theorem spk_b {a b A B : Int} (hk : Ok (two a b A B)) (h : a ≠ b) (hA : 0 ≤ A) (hB : 0 < B) (hAB : A ≤ B) : spk (two a b A B) b = b := by
  by_cases q : B < A ∨ B = A ∧ a < b
  · rw [spk_best hk (best_a h (by omega) (by omega) q) b, two_b h, if_neg]
    simp only
    omega
  · rw [spk_best hk (best_b h hB hA (by omega)) b, two_b h, if_neg]
    simp only
    omega
/-- a score that grows -/
def up (L : Int) : Nat → Int
  | 0 => 0
  | k + 1 => dec (up L k) + 16 * L
/-- a score that shrinks -/
def dn : Nat → Int
  | 0 => 16256
  | k + 1 => dec (dn k)
theorem up_lo {L : Int} (h : 0 ≤ L) : ∀ k, 0 ≤ up L k
  | 0 => by simp [up]
  | k + 1 => by have := dec_lo (up_lo h k); show 0 ≤ dec (up L k) + 16 * L; omega
theorem up_pos {L : Int} (h : 0 < L) (k : Nat) : 0 < up L (k + 1) := by
  have := dec_lo (up_lo (by omega : 0 ≤ L) k)
  show 0 < dec (up L k) + 16 * L
  omega
theorem up_hi {L : Int} (h : L ≤ 127) : ∀ k, up L k ≤ 16256
  | 0 => by simp [up]
  | k + 1 => by have := dec_hi (up_hi h k); show dec (up L k) + 16 * L ≤ 16256; omega
theorem up_mono {L M : Int} (h : L ≤ M) : ∀ k, up L k ≤ up M k
  | 0 => by simp [up]
  | k + 1 => by have := dec_mono (up_mono h k); show dec (up L k) + 16 * L ≤ dec (up M k) + 16 * M; omega
theorem up_step {L : Int} (h : 0 ≤ L) : ∀ k, up L k ≤ up L (k + 1)
  | 0 => by have := up_lo h 1; show 0 ≤ up L 1; omega
  | k + 1 => by have := dec_mono (up_step h k); show dec (up L k) + 16 * L ≤ dec (up L (k + 1)) + 16 * L; omega
theorem dn_lo : ∀ k, 0 ≤ dn k
  | 0 => by simp [dn]
  | k + 1 => dec_lo (dn_lo k)
set_option maxRecDepth 100000 in
theorem up_end : 2000 ≤ up 20 40 := by simp [up, dec]
set_option maxRecDepth 100000 in
theorem dn_mid : dn 40 ≤ 1000 := by simp [dn, dec]
set_option maxRecDepth 100000 in
theorem dn_zero : dn 100 = 0 := by simp [dn, dec]
theorem dn_end : ∀ k, dn (100 + k) = 0
  | 0 => dn_zero
  | k + 1 => by show dec (dn (100 + k)) = 0; rw [dn_end k]; rfl
/-- nobody is heard -/
theorem nx_nil (f : Sc) (x : Int) : nx f [] x = dec (f x) := by
  show dec (f x) + 16 * 0 = dec (f x)
  omega
theorem hf_nil {f : Sc} {sp : Int} (h : Inv f sp) : hf f [] = 0 := by
  rw [hf_zero]
  refine ⟨by simp, oks_nil, Nat.le_trans (lst_less fun x hx => ?_) h.len⟩
  rw [nx_nil] at hx
  intro e
  rw [e] at hx
  exact hx rfl
end Go.Proofs.Ytjhfjkacfnccdah.VO
