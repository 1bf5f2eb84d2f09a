/-
  One side of a link as six numbers: what Open, Hear and Tick answer, and what it is behind them. Of numbers and lists alone; no program.
-/
import Derived.Test.YtfdbfelcokockaiMem
namespace Go.Proofs.Ytfdbfelcokockai.LK
set_option linter.unusedVariables false

/-- one side: the last now, its own time, its state, the other one's time, when it heard, when it said anything -/
structure Lk where
  nw : Int
  me : Int
  st : Int
  ot : Int
  hd : Int
  sd : Int

/-- such as may be -/
structure Inv (s : Lk) : Prop where
  n0 : 0 ≤ s.nw
  n1 : s.nw ≤ 1000000
  m0 : 1 ≤ s.me
  m1 : s.me ≤ 1000000
  s0 : 0 ≤ s.st
  s1 : s.st ≤ 2
  o0 : s.st ≠ 2 → s.ot = 0
  o1 : s.st = 2 → 1 ≤ s.ot ∧ s.ot ≤ 1000000
  h0 : 0 ≤ s.hd
  h1 : s.hd ≤ s.nw
  d0 : 0 ≤ s.sd
  d1 : s.sd ≤ s.nw

def st0 (me : Int) : Lk := ⟨0, me, 0, 0, 0, 0⟩
theorem inv_st0 {me : Int} (h0 : 1 ≤ me) (h1 : me ≤ 1000000) : Inv (st0 me) := by
  constructor <;> simp [st0] <;> omega

/-- a now's fault -/
def tf (nw now : Int) : Nat := if now < 0 ∨ 1000000 < now then 1 else if now < nw then 6 else 0
theorem tf_zero {nw now : Int} (h : tf nw now = 0) : 0 ≤ now ∧ now ≤ 1000000 ∧ nw ≤ now := by
  unfold tf at h
  split at h
  · omega
  · split at h <;> omega
theorem tf_ok {nw now : Int} (h0 : 0 ≤ now) (h1 : now ≤ 1000000) (h2 : nw ≤ now) : tf nw now = 0 := by
  unfold tf
  rw [if_neg (by omega), if_neg (by omega)]
theorem tf_le (nw now : Int) : tf nw now ≤ 6 := by unfold tf; split <;> (try split) <;> omega
/-- what is wrong with Open -/
def oF (s : Lk) (now : Int) : Nat := if tf s.nw now ≠ 0 then tf s.nw now else if s.st = 2 then 6 else 0
/-- what is wrong with a message -/
def mf (m : List Int) : Nat := if m.length ≠ 3 then 3 else if m.getD 0 0 < 1 ∨ 3 < m.getD 0 0 ∨ m.getD 1 0 < 1 ∨ 1000000 < m.getD 1 0 ∨ m.getD 2 0 < 0 ∨ 1000000 < m.getD 2 0 then 1 else 0
/-- what is wrong with Hear -/
def hF (s : Lk) (m : List Int) (now : Int) : Nat := if tf s.nw now ≠ 0 then tf s.nw now else mf m
theorem oF_le (s : Lk) (now : Int) : oF s now ≤ 6 := by have := tf_le s.nw now; unfold oF; split <;> (try split) <;> omega
theorem mf_le (m : List Int) : mf m ≤ 3 := by unfold mf; split <;> (try split) <;> omega
theorem hF_le (s : Lk) (m : List Int) (now : Int) : hF s m now ≤ 6 := by have := tf_le s.nw now; have := mf_le m; unfold hF; split <;> omega

/-- behind Open, with no fault -/
def opn (s : Lk) (now : Int) : Lk × List Int := (⟨now, s.me, 1, s.ot, s.hd, now⟩, [1, s.me, s.ot])
/-- a message that is meant for this one: kind k, of the time f -/
def ans (s : Lk) (k f now : Int) : Lk × List Int :=
  if f < s.ot ∨ (k = 3 ∧ f ≠ s.ot) then (⟨now, s.me, s.st, s.ot, s.hd, s.sd⟩, [])
  else if k = 1 then (⟨now, s.me, 2, f, now, now⟩, [2, s.me, f])
  else if f = s.ot then (⟨now, s.me, 2, f, now, s.sd⟩, [])
  else (⟨now, s.me, 2, f, now, now⟩, [3, s.me, f])
/-- behind Hear, with no fault -/
def her (s : Lk) (k f y now : Int) : Lk × List Int :=
  if k ≠ 1 ∧ y ≠ s.me then (⟨now, s.me, s.st, s.ot, s.hd, s.sd⟩, []) else ans s k f now
/-- behind Tick, with no fault -/
def tck (s : Lk) (now : Int) : Lk × List Int :=
  if s.st = 2 ∧ 30 ≤ now - s.hd then (⟨now, s.me, 0, 0, s.hd, s.sd⟩, [])
  else if s.st = 0 ∨ now - s.sd < 10 then (⟨now, s.me, s.st, s.ot, s.hd, s.sd⟩, [])
  else if s.st = 2 then (⟨now, s.me, s.st, s.ot, s.hd, now⟩, [3, s.me, s.ot])
  else (⟨now, s.me, s.st, s.ot, s.hd, now⟩, [1, s.me, s.ot])
/-- whatever is given -/
def oR (s : Lk) (now : Int) : Lk × List Int := if oF s now = 0 then opn s now else (s, [])
def hR (s : Lk) (m : List Int) (now : Int) : Lk × List Int := if hF s m now = 0 then her s (m.getD 0 0) (m.getD 1 0) (m.getD 2 0) now else (s, [])
def tR (s : Lk) (now : Int) : Lk × List Int := if tf s.nw now = 0 then tck s now else (s, [])

theorem inv_opn {s : Lk} (h : Inv s) {now : Int} (hf : oF s now = 0) : Inv (opn s now).1 := by
  obtain ⟨a0, a1, a2, a3, a4, a5, a6, a7, a8, a9, b0, b1⟩ := h
  unfold oF at hf
  split at hf
  · omega
  · rename_i q
    obtain ⟨t0, t1, t2⟩ := tf_zero (Decidable.byContradiction q)
    have ht : s.st ≠ 2 := by intro e; rw [if_pos e] at hf; omega
    have := a6 ht
    constructor <;> simp [opn] <;> omega
theorem mf_zero {m : List Int} (h : mf m = 0) : m.length = 3 ∧ 1 ≤ m.getD 0 0 ∧ m.getD 0 0 ≤ 3 ∧ 1 ≤ m.getD 1 0 ∧ m.getD 1 0 ≤ 1000000 ∧ 0 ≤ m.getD 2 0 ∧ m.getD 2 0 ≤ 1000000 := by
  unfold mf at h
  split at h
  · omega
  · split at h
    · omega
    · rename_i q1 q2
      generalize m.getD 0 0 = x at *
      generalize m.getD 1 0 = y at *
      generalize m.getD 2 0 = z at *
      omega
theorem hF_zero {s : Lk} {m : List Int} {now : Int} (h : hF s m now = 0) : tf s.nw now = 0 ∧ mf m = 0 := by
  unfold hF at h
  split at h
  · omega
  · rename_i q
    exact ⟨Decidable.byContradiction q, h⟩
theorem inv_same {s : Lk} (h : Inv s) {now : Int} (h0 : s.nw ≤ now) (h1 : now ≤ 1000000) : Inv ⟨now, s.me, s.st, s.ot, s.hd, s.sd⟩ := by
  obtain ⟨a0, a1, a2, a3, a4, a5, a6, a7, a8, a9, b0, b1⟩ := h
  constructor <;> simp only <;> first | assumption | omega
theorem inv_ans {s : Lk} (h : Inv s) {k f now : Int} (h0 : s.nw ≤ now) (h1 : now ≤ 1000000) (f0 : 1 ≤ f) (f1 : f ≤ 1000000) : Inv (ans s k f now).1 := by
  have h' := inv_same h h0 h1
  obtain ⟨a0, a1, a2, a3, a4, a5, a6, a7, a8, a9, b0, b1⟩ := h
  unfold ans
  split
  · exact h'
  · split
    · constructor <;> simp only <;> omega
    · split <;> (constructor <;> simp only <;> omega)
theorem inv_her {s : Lk} (h : Inv s) {k f y now : Int} (h0 : s.nw ≤ now) (h1 : now ≤ 1000000) (f0 : 1 ≤ f) (f1 : f ≤ 1000000) : Inv (her s k f y now).1 := by
  unfold her
  split
  · exact inv_same h h0 h1
  · exact inv_ans h h0 h1 f0 f1
theorem inv_tck {s : Lk} (h : Inv s) {now : Int} (h0 : s.nw ≤ now) (h1 : now ≤ 1000000) : Inv (tck s now).1 := by
  have h' := inv_same h h0 h1
  obtain ⟨a0, a1, a2, a3, a4, a5, a6, a7, a8, a9, b0, b1⟩ := h
  unfold tck
  split
  · constructor <;> simp only <;> first | assumption | (intro e; omega) | simp | omega
  · split
    · exact h'
    · split
      · constructor <;> simp only <;> first | assumption | omega
      · constructor <;> simp only <;> first | assumption | omega
theorem inv_oR {s : Lk} (h : Inv s) (now : Int) : Inv (oR s now).1 := by
  unfold oR
  split
  · rename_i q; exact inv_opn h q
  · exact h
theorem inv_hR {s : Lk} (h : Inv s) (m : List Int) (now : Int) : Inv (hR s m now).1 := by
  unfold hR
  split
  · rename_i q
    obtain ⟨q1, q2⟩ := hF_zero q
    obtain ⟨t0, t1, t2⟩ := tf_zero q1
    obtain ⟨_, _, _, g1, g2, _⟩ := mf_zero q2
    exact inv_her h t2 t1 g1 g2
  · exact h
theorem inv_tR {s : Lk} (h : Inv s) (now : Int) : Inv (tR s now).1 := by
  unfold tR
  split
  · rename_i q
    obtain ⟨t0, t1, t2⟩ := tf_zero q
    exact inv_tck h t2 t1
  · exact h
end Go.Proofs.Ytfdbfelcokockai.LK
