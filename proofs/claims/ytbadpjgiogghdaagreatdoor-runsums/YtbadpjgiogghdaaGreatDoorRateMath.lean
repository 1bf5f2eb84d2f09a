/-
  A guess as numbers: what one Report makes of it, and how far it grows or falls. Of numbers alone.
-/
import Derived.Test.YtbadpjgiogghdaaGreatDoorMem
namespace Go.Proofs.YtbadpjgiogghdaaGreatDoor.RT

/-- what is wrong with what New is given -/
def nf (r lo hi : Int) : Nat :=
  if r < 1 ∨ 1000000 < r ∨ lo < 1 ∨ 1000000 < lo ∨ hi < 1 ∨ 1000000 < hi then 1 else if r < lo ∨ hi < r then 3 else 0
/-- a guess that may be -/
structure Inv (r lo hi : Int) : Prop where
  a : 1 ≤ lo
  b : lo ≤ r
  c : r ≤ hi
  d : hi ≤ 1000000
theorem nf_zero {r lo hi : Int} (h : nf r lo hi = 0) : Inv r lo hi := by
  unfold nf at h
  by_cases p : r < 1 ∨ 1000000 < r ∨ lo < 1 ∨ 1000000 < lo ∨ hi < 1 ∨ 1000000 < hi
  · rw [if_pos p] at h; omega
  · rw [if_neg p] at h
    by_cases q : r < lo ∨ hi < r
    · rw [if_pos q] at h; omega
    · exact ⟨by omega, by omega, by omega, by omega⟩
/-- the rate that a Report makes of r, ahead of its bounds -/
def rw' (r lost all : Int) : Int := if all < lost * 10 then r - r * lost / (2 * all) else if lost * 50 < all then r + (r / 20 + 1) else r
/-- within the bounds -/
def cl (x lo hi : Int) : Int := if hi < (if x < lo then lo else x) then hi else (if x < lo then lo else x)
theorem cl_bounds {x lo hi : Int} (h : lo ≤ hi) : lo ≤ cl x lo hi ∧ cl x lo hi ≤ hi := by
  unfold cl
  split <;> split <;> omega
/-- what is wrong with a report -/
def pf (lost all : Int) : Nat := if all < 1 ∨ 1000000 < all ∨ lost < 0 ∨ all < lost then 1 else 0
theorem pf_zero {lost all : Int} (h : pf lost all = 0) : 1 ≤ all ∧ all ≤ 1000000 ∧ 0 ≤ lost ∧ lost ≤ all := by
  unfold pf at h
  by_cases p : all < 1 ∨ 1000000 < all ∨ lost < 0 ∨ all < lost
  · rw [if_pos p] at h; omega
  · omega
/-- the rate behind a Report -/
def rp (r lo hi lost all : Int) : Int := cl (rw' r lost all) lo hi
theorem inv_rp {r lo hi : Int} (h : Inv r lo hi) (lost all : Int) : Inv (rp r lo hi lost all) lo hi :=
  ⟨h.a, (cl_bounds (by have := h.b; have := h.c; omega)).1, (cl_bounds (by have := h.b; have := h.c; omega)).2, h.d⟩

theorem grow_eq (r lo hi : Int) (h : Inv r lo hi) : rp r lo hi 0 100 = if hi < r + (r / 20 + 1) then hi else r + (r / 20 + 1) := by
  obtain ⟨h1, h2, h3, h4⟩ := h
  have e : rw' r 0 100 = r + (r / 20 + 1) := by unfold rw'; rw [if_neg (by omega), if_pos (by omega)]
  unfold rp cl
  rw [e, if_neg (show ¬ r + (r / 20 + 1) < lo by omega)]
theorem fall_eq (r lo hi : Int) (h : Inv r lo hi) : rp r lo hi 50 50 = if r - r / 2 < lo then lo else r - r / 2 := by
  obtain ⟨h1, h2, h3, h4⟩ := h
  have e0 : r * 50 / (2 * 50) = r / 2 := by omega
  have e : rw' r 50 50 = r - r / 2 := by unfold rw'; rw [if_pos (by omega), e0]
  unfold rp cl
  rw [e]
  by_cases p : r - r / 2 < lo
  · rw [if_pos p, if_neg (by omega)]
  · rw [if_neg p, if_neg (by omega)]
/-- how far it has grown at least behind k good reports -/
def up : Nat → Int
  | 0 => 1
  | k + 1 => up k + (up k / 20 + 1)
/-- how far it has fallen at least behind k bad ones -/
def dn : Nat → Int
  | 0 => 1000000
  | k + 1 => dn k - dn k / 2
theorem up_last : 1000000 ≤ up 400 := by decide +kernel
theorem dn_last : dn 60 = 1 := by decide +kernel
structure Grows (r lo hi : Int) (k : Nat) : Prop where
  inv : Inv r lo hi
  far : up k ≤ r ∨ r = hi
structure Falls (r lo hi : Int) (k : Nat) : Prop where
  inv : Inv r lo hi
  far : r ≤ dn k ∨ r = lo
theorem Grows.first {r lo hi : Int} (h : Inv r lo hi) : Grows r lo hi 0 := ⟨h, .inl (by have := h.a; have := h.b; show 1 ≤ r; omega)⟩
theorem Falls.first {r lo hi : Int} (h : Inv r lo hi) : Falls r lo hi 0 := ⟨h, .inl (by have := h.c; have := h.d; show r ≤ 1000000; omega)⟩
theorem Grows.next {r lo hi : Int} {k : Nat} (h : Grows r lo hi k) : Grows (rp r lo hi 0 100) lo hi (k + 1) ∧ r ≤ rp r lo hi 0 100 := by
  have e := grow_eq r lo hi h.inv
  have i := inv_rp h.inv 0 100
  obtain ⟨h1, h2, h3, h4⟩ := h.inv
  have f := h.far
  refine ⟨⟨i, ?_⟩, ?_⟩
  · show up k + (up k / 20 + 1) ≤ _ ∨ _
    rw [e]
    by_cases p : hi < r + (r / 20 + 1)
    · rw [if_pos p]; exact .inr rfl
    · rw [if_neg p]
      rcases f with f | f
      · left; omega
      · omega
  · rw [e]
    by_cases p : hi < r + (r / 20 + 1)
    · rw [if_pos p]; omega
    · rw [if_neg p]; omega
theorem Falls.next {r lo hi : Int} {k : Nat} (h : Falls r lo hi k) : Falls (rp r lo hi 50 50) lo hi (k + 1) ∧ rp r lo hi 50 50 ≤ r := by
  have e := fall_eq r lo hi h.inv
  have i := inv_rp h.inv 50 50
  obtain ⟨h1, h2, h3, h4⟩ := h.inv
  have f := h.far
  refine ⟨⟨i, ?_⟩, ?_⟩
  · show _ ≤ dn k - dn k / 2 ∨ _
    rw [e]
    by_cases p : r - r / 2 < lo
    · rw [if_pos p]; exact .inr rfl
    · rw [if_neg p]
      rcases f with f | f
      · left; omega
      · omega
  · rw [e]
    by_cases p : r - r / 2 < lo
    · rw [if_pos p]; omega
    · rw [if_neg p]; omega
theorem Grows.last {r lo hi : Int} (h : Grows r lo hi 400) : r = hi := by
  obtain ⟨h1, h2, h3, h4⟩ := h.inv
  have := up_last
  rcases h.far with f | f <;> omega
theorem Falls.last {r lo hi : Int} (h : Falls r lo hi 60) : r = lo := by
  obtain ⟨h1, h2, h3, h4⟩ := h.inv
  have := dn_last
  rcases h.far with f | f <;> omega
end Go.Proofs.YtbadpjgiogghdaaGreatDoor.RT

