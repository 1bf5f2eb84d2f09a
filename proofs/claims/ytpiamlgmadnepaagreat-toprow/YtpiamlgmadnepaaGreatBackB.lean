/-
  What the function Pairs of package back returns of any numbers, and what it makes. It changes nothing that was there.
-/
import Derived.Test.YtpiamlgmadnepaaGreatBackA
import Derived.Deep.LoopGhost
import Derived.Deep.CutRange
namespace Go.Proofs.YtpiamlgmadnepaaGreat.Back
open Go.ChangeShapes Go.WideShapes Go.ChangeAt Go.RowKit Go.Sort Go.Lib Go.Proofs.YtpiamlgmadnepaaGreat.BM Go.Proofs.YtpiamlgmadnepaaGreat.Mem
set_option linter.unusedVariables false

theorem ofInt_i64 (a : Nat) (ha : a < 9223372036854775808) : (BitVec.ofInt 64 (a : Int)).toNat = a := by
  rw [BitVec.ofInt_natCast, BitVec.toNat_ofNat]; exact Nat.mod_eq_of_lt (by omega)
theorem i64_or_nat (a b : Nat) (ha : a < 9223372036854775808) (hb : b < 9223372036854775808) : bits .or .i64 (a : Int) (b : Int) = ((a ||| b : Nat) : Int) := by
  have hx : a ||| b < 2 ^ 63 := Nat.or_lt_two_pow (by omega) (by omega)
  show IntKind.i64.wrap ((BitVec.ofInt 64 (a : Int) ||| BitVec.ofInt 64 (b : Int)).toNat : Int) = _
  rw [BitVec.toNat_or, ofInt_i64 a ha, ofInt_i64 b hb, IntKind.wrap_i64]
  omega
/-- a bit more in a mask -/
theorem mask_bits (m d : Nat) (hm : m < 65536) (hd : d < 16) : bits .or .i64 (m : Int) (2 ^ d) = ((m ||| 2 ^ d : Nat) : Int) := by
  have h16 : (2 : Nat) ^ d < 65536 := show (2 : Nat) ^ d < 2 ^ 16 from Nat.pow_lt_pow_right (by decide) hd
  have e2 : (2 : Int) ^ d = ((2 ^ d : Nat) : Int) := by rw [Int.natCast_pow]; rfl
  rw [e2, i64_or_nat _ _ (by omega) (by omega)]

/-- the fault of numbers that are to be pairs -/
def pfault (L : List Int) : Nat := if 200 < L.length then 4 else if L.any (fun x => !inR x) then 1 else 0
def prsOf (L : List Int) : List (Int × Nat) := if pfault L = 0 then pairs (norm L) else []
def pr (l : List (Int × Nat)) : List (Int × Int) := l.map fun p => (p.1, (p.2 : Int))
theorem pr_len (l : List (Int × Nat)) : (pr l).length = l.length := by simp [pr]
theorem pr_app (l k : List (Int × Nat)) : pr (l ++ k) = pr l ++ pr k := by simp [pr]
theorem pc_set (K : List (Int × Int)) (b m m' : Int) : (pc (K ++ [(b, m)])).set (K.length * 2 + 1) (.int .i64 m') = pc (K ++ [(b, m')]) := by
  rw [pc_app, pc_app, pc_one, pc_one, List.set_append_right _ _ (by rw [pc_len]; omega), pc_len, show K.length * 2 + 1 - K.length * 2 = 1 by omega]
  rfl
theorem in_range {L : List Int} (h : L.any (fun x => !inR x) = false) : ∀ x ∈ L, 0 ≤ x ∧ x ≤ 65535 := by
  intro x hx
  have := List.any_eq_false.1 h x hx
  simpa [inR] using this

/-- where Pairs stands: so many numbers are told -/
structure PSt (w wr : World) (l : List (Int × Nat)) (v : Value) : Prop where
  below : Below w.heap.size w wr
  own : wr.ownsRow w.heap.size 297 2 v l.length (pc (pr l))
theorem PSt.shape {w wr : World} {K : List (Int × Nat)} {b : Int} {m : Nat} {v : Value} (h : PSt w wr (K ++ [(b, m)]) v) :
    ∃ g cap, v = .slice (some ⟨g, 0, none⟩) (K.length + 1) cap ∧ wr.cell? ⟨g, K.length * 2, none⟩ = some (.int .i64 b) ∧ wr.cell? ⟨g, K.length * 2 + 1, none⟩ = some (.int .i64 (m : Int)) ∧ wr.frozen? ⟨g, K.length * 2 + 1, none⟩ = false ∧
      PSt w wr (K ++ [(b, m)]) (.slice (some ⟨g, 0, none⟩) (K.length + 1) cap) := by
  have ho := h.own
  rw [List.length_append, List.length_singleton] at ho
  rcases ho.2 with ⟨_, h0⟩ | ⟨g, cap, cur, rfl, rest⟩
  · omega
  · have e : pc (pr (K ++ [(b, m)])) = pc (pr K) ++ [.int .i64 b, .int .i64 (m : Int)] := by rw [pr_app, pc_app]; rfl
    refine ⟨g, cap, rfl, ?_, ?_, ho.frozenAt _, h⟩
    · rw [ho.cellAt _ (by omega), e, List.getElem?_append_right (by rw [pc_len, pr_len]; omega), pc_len, pr_len, Nat.sub_self]; rfl
    · rw [ho.cellAt _ (by omega), e, List.getElem?_append_right (by rw [pc_len, pr_len]; omega), pc_len, pr_len, show K.length * 2 + 1 - K.length * 2 = 1 by omega]; rfl
theorem PSt.near {w wr : World} {K : List (Int × Nat)} {b : Int} {m m' : Nat} {g cap : Nat} (h : PSt w wr (K ++ [(b, m)]) (.slice (some ⟨g, 0, none⟩) (K.length + 1) cap)) :
    PSt w (wr.setCell ⟨g, K.length * 2 + 1, none⟩ (.int .i64 (m' : Int))) (K ++ [(b, m')]) (.slice (some ⟨g, 0, none⟩) (K.length + 1) cap) := by
  have ho := h.own
  rw [List.length_append, List.length_singleton] at ho
  have hg := (ho.lt g rfl).1
  obtain ⟨h1, h2⟩ := ho.stored (K.length * 2 + 1) (.int .i64 (m' : Int))
  refine ⟨h.below.setCell hg _, ?_⟩
  rw [List.length_append, List.length_singleton]
  have e : (pc (pr (K ++ [(b, m)]))).set (K.length * 2 + 1) (.int .i64 (m' : Int)) = pc (pr (K ++ [(b, m')])) := by
    have := pc_set (pr K) b (m : Int) (m' : Int)
    rw [pr_len] at this
    rw [pr_app, pr_app]
    exact this
  rw [← e]
  exact h1
theorem PSt.far {w wr w' : World} {l : List (Int × Nat)} {v v' : Value} {O : Obj} (h : PSt w wr l v) {n : Int} (ho : w'.ownsRow w.heap.size 297 2 v' (l.length + 1) (pc (pr l) ++ [.int .i64 n, .int .i64 0])) (hg : (wr.alloc O).grownBy w' v.ownBlock) : PSt w w' (l ++ [(n, 0)]) v' := by
  refine ⟨(h.below.alloc h.below.size _).grown hg (by have := h.below.size; simp; omega) (fun j hj => (h.own.lt j hj).1), ?_⟩
  rw [List.length_append, List.length_singleton, pr_app, pc_app]
  exact ho
theorem lit2 {w : World} {T : TypeId} (c0 c1 : Value) : ∀ j u, [c0, c1][j]? = some u → (w.alloc (.cells #[c0, c1] T)).cell? ((⟨w.heap.size, 0, none⟩ : Addr).add j) = some u := by
  intro j u hu
  rw [Addr.add_lit, World.cell?_alloc_mark, Nat.zero_add, ← hu]
  exact List.getElem?_toArray

set_option maxHeartbeats 1000000 in
set_option maxRecDepth 100000 in
theorem pairs_bad (a : Option Addr) (n cap : Nat) (L : List Int) (w : World) (h : IArg w a n L) (hf : pfault L ≠ 0) :
    Calls Tryz.prog 204 #[.slice a n cap] w fun e w' => e = .returned (.tuple #[.slice none 0 0, errv (pfault L)]) ∧ Below w.heap.size w w' := by
  have hl := h.2.1
  have hb := h.2.2
  by_cases p : 200 < n
  · have e : pfault L = 4 := by unfold pfault; rw [if_pos (by omega)]
    rw [e]
    clear h hf e
    have d : decide (200 < (n : Int)) = true := by simp; omega
    go_enter Tryz.func204, Tryz.ntmps204
    go_wp2_with fail
    go_ret2
    exact ⟨rfl, Below.refl _ _⟩
  · have C := cont_calls a n cap L w h
    have d : decide (200 < (n : Int)) = false := by simp; omega
    have e : L.any (fun x => !inR x) = true ∧ pfault L = 1 := by
      unfold pfault at hf ⊢
      rw [if_neg (by omega)] at hf ⊢
      by_cases q : L.any (fun x => !inR x) = true
      · exact ⟨q, if_pos q⟩
      · rw [if_neg q] at hf; exact absurd rfl hf
    rw [e.1] at C
    rw [e.2]
    have HC := hidden C
    clear C h hf e
    go_enter Tryz.func204, Tryz.ntmps204
    go_wp2_with fail
    refine HC.out.mono ?_
    rintro e w' ⟨rfl, q, rfl⟩
    go_wp2_with fail
    go_ret2
    exact ⟨rfl, below_drewN' (Below.refl _ _) q⟩
end Go.Proofs.YtpiamlgmadnepaaGreat.Back

