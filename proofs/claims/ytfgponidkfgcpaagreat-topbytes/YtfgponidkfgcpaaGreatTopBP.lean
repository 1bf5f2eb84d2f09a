/-
  Bytes that are a frame, and bytes that say something back: never both; and what was read, written again, is what it was. Of numbers and lists alone; no walk.
-/
import Derived.Test.YtfgponidkfgcpaaGreatTopAP
namespace Go.Proofs.YtfgponidkfgcpaaGreat.TB
open Go.Proofs.YtfgponidkfgcpaaGreat.PM Go.Proofs.YtfgponidkfgcpaaGreat.CM Go.Proofs.YtfgponidkfgcpaaGreat.FM
set_option linter.unusedVariables false
theorem be4_num {t0 t1 t2 t3 : Nat} (h0 : t0 < 256) (h1 : t1 < 256) (h2 : t2 < 256) (h3 : t3 < 256) : be4 (num 0 [t0, t1, t2, t3]) = [t0, t1, t2, t3] := by
  simp only [num, be4]
  simp
  omega
theorem seal_back {B : List Nat} (hB : ∀ c ∈ B, c < 256) (h : ofault B = 0) : sealed (opened B) = B := by
  have h4 : 4 ≤ B.length := by
    unfold ofault at h
    split at h
    · omega
    · omega
  obtain ⟨X, t0, t1, t2, t3, e, hX⟩ := split4 h4
  obtain ⟨g1, g2⟩ := ofault_split X t0 t1 t2 t3
  rw [e] at h hB ⊢
  rw [g1] at h
  rw [g2]
  have hn : num 0 [t0, t1, t2, t3] = go 0 X := by
    split at h
    · assumption
    · omega
  unfold sealed
  rw [← hn, be4_num (hB _ (by simp)) (hB _ (by simp)) (hB _ (by simp)) (hB _ (by simp))]
theorem frame_again {B : List Nat} (hB : ∀ c ∈ B, c < 256) (h : bfault B = 0) : fbytes (bfr B).tr (bfr B).og (bfr B).ep (bfr B).hp (bfr B).body = B ∧ ∃ r, B = 70 :: r := by
  unfold bfault at h
  unfold bfr
  by_cases c : ofault B = 0
  · rw [if_pos c] at h ⊢
    have hs := seal_back hB c
    have hl : 6 ≤ (opened B).length := by
      unfold xfault at h
      split at h
      · omega
      · omega
    obtain ⟨x0, x1, x2, x3, x4, x5, R, hX⟩ := six hl
    rw [hX] at h hs ⊢
    rw [xfr_six _ _ _ _ _ _ _ h]
    rw [xfault_six] at h
    have h70 : x0 = 70 := by
      split at h
      · assumption
      · omega
    subst h70
    have hx5 : x5 < 256 := hB x5 (by rw [← hs]; simp [sealed])
    refine ⟨?_, _, hs.symm⟩
    rw [← hs]
    unfold fbytes
    congr 1
    show 70 :: x1 :: x2 :: x3 :: (x4 * 256 + x5) / 256 :: (x4 * 256 + x5) % 256 :: R = _
    rw [show (x4 * 256 + x5) / 256 = x4 by omega, show (x4 * 256 + x5) % 256 = x5 by omega]
  · rw [if_neg c] at h
    omega
end Go.Proofs.YtfgponidkfgcpaaGreat.TB
