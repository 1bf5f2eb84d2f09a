/-
  What is said back as numbers and bytes: which is right, its bytes, and what bytes say. Of lists alone; no walk.
-/
import Derived.Test.YtpiamlgmadnepaaGreatBackF
namespace Go.Proofs.YtpiamlgmadnepaaGreat.Back
open Go.Lib Go.Proofs.YtpiamlgmadnepaaGreat.BM Go.Proofs.YtpiamlgmadnepaaGreat.Mem
set_option linter.unusedVariables false

/-- a number in so many bytes, the high one first -/
def be : Nat → Nat → List Nat
  | 0, _ => []
  | s + 1, n => (n / 256 ^ s % 256) :: be s n
theorem be_len : ∀ s n, (be s n).length = s
  | 0, _ => rfl
  | s + 1, n => by simp [be, be_len s n]
theorem be_lt : ∀ s n, ∀ c ∈ be s n, c < 256
  | 0, n, c, h => by simp [be] at h
  | s + 1, n, c, h => by
    rcases List.mem_cons.1 h with rfl | h
    · exact Nat.mod_lt _ (by decide)
    · exact be_lt s n c h
/-- bytes as a number -/
def val (B : List Nat) : Nat := B.foldl (fun n c => n * 256 + c) 0
theorem val_one (n : Nat) (h : n < 256) : val (be 1 n) = n := by simp [val, be]; omega
theorem val_two (n : Nat) (h : n < 65536) : val (be 2 n) = n := by simp [val, be]; omega
theorem val_four (n : Nat) (h : n < 4294967296) : val (be 4 n) = n := by simp [val, be]; omega
theorem val_lt2 {x y : Nat} (hx : x < 256) (hy : y < 256) : val [x, y] < 65536 := by simp [val]; omega

/-- the greatest Value of a Kind -/
def most (k : Int) : Int := if k = 1 then 0 else if k = 2 then 3 else if k = 3 then 1000000 else -1
/-- what is wrong, but for what Pairs tells -/
def cfault (k t : Int) (L : List Int) (u : Int) : Nat :=
  if t < 1 ∨ 8 < t ∨ ¬ (0 ≤ u ∧ u ≤ most k) then 1 else if (decide (k = 1) == decide (L.length = 0)) || !decide (Rises L) then 3 else 0
def efault (k t : Int) (L : List Int) (u : Int) : Nat := if cfault k t L u = 0 then pfault L else cfault k t L u
/-- pairs as bytes -/
def pbytes (l : List (Int × Nat)) : List Nat := l.flatMap fun p => be 2 p.1.toNat ++ be 2 p.2
/-- what stands behind Kind and Track -/
def tail (k : Int) (L : List Int) (u : Int) : List Nat := (if k = 2 then be 1 u.toNat else if k = 3 then be 4 u.toNat else []) ++ pbytes (prsOf L)
def ebytes (k t : Int) (L : List Int) (u : Int) : List Nat := k.toNat :: t.toNat :: tail k L u
theorem cfault_zero {k t : Int} {L : List Int} {u : Int} (h : cfault k t L u = 0) : (k = 1 ∨ k = 2 ∨ k = 3) ∧ 1 ≤ t ∧ t ≤ 8 ∧ 0 ≤ u ∧ u ≤ most k ∧ (k = 1 ↔ L.length ≠ 0) ∧ Rises L := by
  unfold cfault at h
  split at h
  · omega
  · rename_i h1
    split at h
    · omega
    · rename_i h2
      simp only [Bool.or_eq_true, beq_iff_eq, decide_eq_decide, Bool.not_eq_true', decide_eq_false_iff_not, not_or, Decidable.not_not] at h2
      have hm : 0 ≤ most k := by omega
      refine ⟨?_, by omega, by omega, by omega, by omega, ?_, h2.2⟩
      · unfold most at hm
        split at hm
        · omega
        · split at hm
          · omega
          · split at hm <;> omega
      · have := h2.1
        constructor
        · intro hk h0; exact this ⟨fun _ => h0, fun _ => hk⟩
        · intro hl
          by_cases hk : k = 1
          · exact hk
          · exact absurd ⟨fun h => absurd h hk, fun h => absurd h hl⟩ this
theorem efault_zero {k t : Int} {L : List Int} {u : Int} (h : efault k t L u = 0) : cfault k t L u = 0 ∧ pfault L = 0 := by
  unfold efault at h
  split at h
  · rename_i h0; exact ⟨h0, h⟩
  · rename_i h0; exact absurd h h0
theorem most_le (k : Int) : most k ≤ 1000000 := by
  unfold most
  split
  · omega
  · split
    · omega
    · split <;> omega
/-- bytes as pairs -/
def prsB : List Nat → List (Int × Int)
  | a :: b :: c :: d :: r => ((val [a, b] : Int), (val [c, d] : Int)) :: prsB r
  | _ => []
theorem prsB_app (a b c d : Nat) (r : List Nat) : prsB (a :: b :: c :: d :: r) = ((val [a, b] : Int), (val [c, d] : Int)) :: prsB r := rfl
theorem prsB_pbytes : ∀ l : List (Int × Nat), (∀ p ∈ l, 0 ≤ p.1 ∧ p.1 ≤ 65535 ∧ p.2 < 65536) → prsB (pbytes l) = pr l
  | [], _ => rfl
  | p :: l, h => by
    have ih := prsB_pbytes l (fun q hq => h q (List.mem_cons_of_mem _ hq))
    obtain ⟨h1, h2, h3⟩ := h p (List.mem_cons_self ..)
    have e1 := val_two p.1.toNat (by omega)
    have e2 := val_two p.2 h3
    have e : pbytes (p :: l) = (p.1.toNat / 256 ^ 1 % 256) :: (p.1.toNat / 256 ^ 0 % 256) :: (p.2 / 256 ^ 1 % 256) :: (p.2 / 256 ^ 0 % 256) :: pbytes l := rfl
    rw [e, prsB_app, ih]
    have e1' : val [p.1.toNat / 256 ^ 1 % 256, p.1.toNat / 256 ^ 0 % 256] = p.1.toNat := e1
    have e2' : val [p.2 / 256 ^ 1 % 256, p.2 / 256 ^ 0 % 256] = p.2 := e2
    rw [e1', e2']
    show (((p.1.toNat : Nat) : Int), (p.2 : Int)) :: pr l = (p.1, (p.2 : Int)) :: pr l
    rw [Int.toNat_of_nonneg h1]
theorem pbytes_len : ∀ l : List (Int × Nat), (pbytes l).length = l.length * 4
  | [] => rfl
  | p :: l => by
    have := pbytes_len l
    have e : pbytes (p :: l) = be 2 p.1.toNat ++ be 2 p.2 ++ pbytes l := rfl
    rw [e, List.length_append, List.length_append, be_len, be_len, this, List.length_cons]
    omega
theorem pbytes_lt (l : List (Int × Nat)) : ∀ c ∈ pbytes l, c < 256 := by
  intro c hc
  obtain ⟨p, _, hp⟩ := List.mem_flatMap.1 hc
  rcases List.mem_append.1 hp with h | h
  · exact be_lt _ _ c h
  · exact be_lt _ _ c h
theorem pbytes_snoc (l : List (Int × Nat)) (p : Int × Nat) : pbytes (l ++ [p]) = pbytes l ++ be 2 p.1.toNat ++ be 2 p.2 := by simp [pbytes]
/-- are there fewer than there must be -/
def rshort : List Nat → Bool
  | k :: _ :: r => if k = 1 then decide (r.length < 4) || decide (r.length % 4 ≠ 0) else if k = 2 then decide (r.length < 1) else if k = 3 then decide (r.length < 4) else false
  | _ => true
/-- the numbers that bytes say, and their Value -/
def saidL (k : Nat) (r : List Nat) : List Int := if k = 1 then numsOf (prsB r) else []
def saidU (k : Nat) (r : List Nat) : Nat := if k = 2 then val (r.take 1) else if k = 3 then val (r.take 4) else 0
/-- the fault of bytes that are not short, in two parts: as they are read, and as they are written again -/
def gfault (k : Nat) (r : List Nat) : Bool := decide (k = 1) && (decide (800 < r.length) || decide (nfault (prsB r) ≠ 0))
def sfault (k t : Nat) (r : List Nat) : Nat :=
  if gfault k r then 2 else if efault k t (saidL k r) (saidU k r) ≠ 0 ∨ ebytes k t (saidL k r) (saidU k r) ≠ k :: t :: r then 2 else 0
def rfault (B : List Nat) : Nat := if rshort B then 8 else match B with
  | k :: t :: r => sfault k t r
  | _ => 8
theorem rfault_two (k t : Nat) (r : List Nat) (h : rshort (k :: t :: r) = false) : rfault (k :: t :: r) = sfault k t r := by
  unfold rfault
  rw [if_neg (by rw [h]; decide)]
theorem sfault_zero {k t : Nat} {r : List Nat} (h : sfault k t r = 0) : gfault k r = false ∧ efault k t (saidL k r) (saidU k r) = 0 ∧ ebytes k t (saidL k r) (saidU k r) = k :: t :: r := by
  unfold sfault at h
  split at h
  · omega
  · rename_i h1
    split at h
    · omega
    · rename_i h2
      rw [not_or, Decidable.not_not, Decidable.not_not] at h2
      exact ⟨by simpa using h1, h2⟩
theorem prsOf_nil : prsOf [] = [] := by
  unfold prsOf
  rw [norm_self (show Rises [] from List.Pairwise.nil)]
  split <;> rfl
/-- what was written is read as it was -/
theorem again {k t : Int} {L : List Int} {u : Int} (h : efault k t L u = 0) : ∃ (k' t' : Nat) (r : List Nat), k = k' ∧ t = t' ∧ ebytes k t L u = k' :: t' :: r ∧ rshort (k' :: t' :: r) = false ∧ sfault k' t' r = 0 ∧ saidL k' r = L ∧ (saidU k' r : Int) = u := by
  obtain ⟨hc, hp⟩ := efault_zero h
  obtain ⟨hk, t1, t8, u0, um, hkl, hris⟩ := cfault_zero hc
  have hme := most_le k
  obtain ⟨b1, b2, b3, b4, b5, hfit⟩ := back_again hp
  rw [norm_self hris] at b2 b3 b4 hfit
  have hL := (pfault_zero hp).2
  have hpp : prsB (pbytes (prsOf L)) = pr (prsOf L) := prsB_pbytes _ (fun p hp => ⟨(hL _ (hfit.base p hp)).1, (hL _ (hfit.base p hp)).2, hfit.mask p hp⟩)
  have hlen := pbytes_len (prsOf L)
  have hl200 := (pfault_zero hp).1
  obtain ⟨k', rfl⟩ : ∃ k' : Nat, k = k' := ⟨k.toNat, by omega⟩
  obtain ⟨t', rfl⟩ : ∃ t' : Nat, t = t' := ⟨t.toNat, by omega⟩
  refine ⟨k', t', tail k' L u, rfl, rfl, by simp [ebytes], ?_⟩
  have key : rshort (k' :: t' :: tail k' L u) = false ∧ gfault k' (tail k' L u) = false ∧ saidL k' (tail k' L u) = L ∧ (saidU k' (tail k' L u) : Int) = u := by
    rcases hk with hk | hk | hk
    · have hk : k' = 1 := by omega
      subst hk
      have hne : L.length ≠ 0 := hkl.1 rfl
      have hu : u = 0 := by simp [most] at um; omega
      have et : tail (1 : Nat) L u = pbytes (prsOf L) := by simp [tail]
      have hpos : 0 < (prsOf L).length := by omega
      refine ⟨?_, ?_, ?_, ?_⟩
      · simp only [rshort, et, hlen]
        simp
        omega
      · simp only [gfault, et, hlen, hpp, b1]
        simp
        omega
      · rw [saidL, if_pos rfl, et, hpp, b2]
      · simp [saidU, hu]
    · have hk : k' = 2 := by omega
      subst hk
      have hnil : L = [] := by
        by_cases h0 : L.length = 0
        · exact List.eq_nil_of_length_eq_zero h0
        · have := hkl.2 h0; omega
      subst hnil
      have hu : u ≤ 3 := by simpa [most] using um
      have et : tail (2 : Nat) [] u = be 1 u.toNat := by simp [tail, prsOf_nil, pbytes]
      rw [et]
      refine ⟨by simp [rshort, be_len], by simp [gfault], by simp [saidL], ?_⟩
      have : (be 1 u.toNat).take 1 = be 1 u.toNat := List.take_of_length_le (by rw [be_len]; exact Nat.le_refl _)
      simp only [saidU, this, val_one u.toNat (by omega)]
      simp
      omega
    · have hk : k' = 3 := by omega
      subst hk
      have hnil : L = [] := by
        by_cases h0 : L.length = 0
        · exact List.eq_nil_of_length_eq_zero h0
        · have := hkl.2 h0; omega
      subst hnil
      have et : tail (3 : Nat) [] u = be 4 u.toNat := by simp [tail, prsOf_nil, pbytes]
      rw [et]
      refine ⟨by simp [rshort, be_len], by simp [gfault], by simp [saidL], ?_⟩
      have : (be 4 u.toNat).take 4 = be 4 u.toNat := List.take_of_length_le (by rw [be_len]; exact Nat.le_refl _)
      simp only [saidU, this, val_four u.toNat (by omega)]
      simp
      omega
  obtain ⟨c1, c2, c3, c4⟩ := key
  refine ⟨c1, ?_, c3, c4⟩
  unfold sfault
  rw [if_neg (by rw [c2]; decide), c3, c4, if_neg]
  rw [not_or, Decidable.not_not, Decidable.not_not]
  exact ⟨h, by simp [ebytes]⟩
end Go.Proofs.YtpiamlgmadnepaaGreat.Back

