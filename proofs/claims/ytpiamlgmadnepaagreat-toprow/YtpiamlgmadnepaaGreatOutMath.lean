/-
  One row of packets as numbers: which Seq and which Time the next one has. Of numbers alone; no program.
-/
import Derived.WalkKit
set_option linter.unusedVariables false
namespace Go.Proofs.YtpiamlgmadnepaaGreat.UM

/-- the fault of a beginning -/
def nf (s t : Int) : Nat := if 0 ≤ s ∧ s ≤ 65535 ∧ 0 ≤ t ∧ t ≤ 4294967295 then 0 else 1
theorem nf_ok {s t : Int} (h0 : 0 ≤ s) (h1 : s ≤ 65535) (h2 : 0 ≤ t) (h3 : t ≤ 4294967295) : nf s t = 0 := by unfold nf; rw [if_pos ⟨h0, h1, h2, h3⟩]
theorem nf_bad {s t : Int} (h : s < 0 ∨ 65535 < s ∨ t < 0 ∨ 4294967295 < t) : nf s t = 1 := by unfold nf; rw [if_neg (by omega)]
/-- the Seq of the one that goes out behind k others -/
def sq (S : Int) (k : Nat) : Int := (S + (k : Int)) % 65536
theorem sq_bd (S : Int) (k : Nat) : 0 ≤ sq S k ∧ sq S k ≤ 65535 := by unfold sq; omega
theorem sq_zero {S : Int} (h0 : 0 ≤ S) (h1 : S ≤ 65535) : sq S 0 = S := by unfold sq; omega
theorem sq_next (S : Int) (k : Nat) : sq S (k + 1) = (sq S k + 1) % 65536 := by unfold sq; omega
/-- the Time of the next one: k went out, T is the Time of the last one, ly its Layer, ow the Time it came with; l and t are the next one's own -/
def nt (k : Nat) (T ly ow l t : Int) : Int := if k = 0 then T else if l = ly then (T + t - ow) % 4294967296 else (T + 1) % 4294967296
theorem nt_zero (T ly ow l t : Int) : nt 0 T ly ow l t = T := rfl
theorem nt_same {k : Nat} (T ly ow t : Int) (h : k ≠ 0) : nt k T ly ow ly t = (T + t - ow) % 4294967296 := by unfold nt; rw [if_neg h, if_pos rfl]
theorem nt_other {k : Nat} (T ly ow l t : Int) (h : k ≠ 0) (hl : l ≠ ly) : nt k T ly ow l t = (T + 1) % 4294967296 := by unfold nt; rw [if_neg h, if_neg hl]
theorem nt_bd {k : Nat} {T ly ow l t : Int} (h0 : 0 ≤ T) (h1 : T ≤ 4294967295) : 0 ≤ nt k T ly ow l t ∧ nt k T ly ow l t ≤ 4294967295 := by
  unfold nt
  split
  · exact ⟨h0, h1⟩
  · split <;> omega
/-- what an Out may be -/
structure Inv (S : Int) (k : Nat) (T ow : Int) : Prop where
  s0 : 0 ≤ S
  s1 : S ≤ 65535
  k1 : k ≤ 2199023255552
  t0 : 0 ≤ T
  t1 : T ≤ 4294967295
  o0 : 0 ≤ ow
  o1 : ow ≤ 4294967295
theorem inv_start {S T : Int} (h0 : 0 ≤ S) (h1 : S ≤ 65535) (h2 : 0 ≤ T) (h3 : T ≤ 4294967295) : Inv S 0 T 0 := ⟨h0, h1, by omega, h2, h3, by omega, by omega⟩
theorem Inv.next {S T ow ly l t : Int} {k : Nat} (h : Inv S k T ow) (hk : k < 2199023255552) (h0 : 0 ≤ t) (h1 : t ≤ 4294967295) : Inv S (k + 1) (nt k T ly ow l t) t :=
  ⟨h.s0, h.s1, by omega, (nt_bd h.t0 h.t1).1, (nt_bd h.t0 h.t1).2, h0, h1⟩
/-- two rows that are given the same are as far apart as at first -/
theorem nt_shift {k : Nat} {T U ly ow l t d : Int} (h : U = (T + d) % 4294967296) : nt k U ly ow l t = (nt k T ly ow l t + d) % 4294967296 := by
  unfold nt
  split
  · exact h
  · split <;> (rw [h]; omega)
end Go.Proofs.YtpiamlgmadnepaaGreat.UM

