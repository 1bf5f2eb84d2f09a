/-
  What Fair, New and Report return, in one row each, whatever is given; what the function Error of package choirsame returns of an error that is told; rows of two numbers each in memory.
-/
import Derived.Test.YtdoljkiklnaioagDoorRateA
import Derived.Test.YtdoljkiklnaioagDoorRateD
import Derived.Test.YtdoljkiklnaioagDoorRRate2
import Derived.Test.YtdoljkiklnaioagDoorTold
namespace Go.Proofs.YtdoljkiklnaioagDoor.Rate
open Go.ChangeShapes Go.WideShapes Go.ChangeAt Go.RowKit Go.Proofs.YtdoljkiklnaioagDoor.Mem Go.Proofs.YtdoljkiklnaioagDoor.RT
set_option linter.unusedVariables false

/-- an error of a number is the one told -/
theorem told_f (f : Nat) (W : World) (hf : f ≤ 100) (hg : W.cell? ⟨0, 0, none⟩ = some (.iface 134 (.agg #[.pointer (some ⟨1, 25, none⟩)]))) :
    Calls Tryd.prog 13 #[errv f, .int .i64 (f : Int)] W fun e w' => e = .returned (.bool true) ∧ Below W.heap.size W w' := by
  by_cases h0 : f = 0
  · subst h0
    refine (Told.same_nil 0 W).mono ?_
    rintro e w' ⟨rfl, rfl⟩
    exact ⟨rfl, Below.refl _ _⟩
  · rw [errv_pos h0]
    refine (Told.same_err f f W (by omega) (by omega) hg).mono ?_
    rintro e w' ⟨rfl, hb⟩
    exact ⟨by simp, hb⟩
theorem rf_le (A : Int) (L : List Int) (k : Nat) : rf A L k ≤ 4 := by unfold rf; split <;> (try split) <;> omega
theorem cf_le (A : Int) (L : List Int) : cf A L ≤ 5 := by
  have := rf_le A L 4
  unfold cf
  split <;> (try split) <;> omega
theorem nf_le (r lo hi : Int) : nf r lo hi ≤ 3 := by unfold nf; split <;> (try split) <;> omega
theorem pf_le (a b : Int) : pf a b ≤ 1 := by unfold pf; split <;> omega
/-- the shares, or nothing where something is wrong -/
def tl (A : Int) (L : List Int) : List Int := if rf A L 200 = 0 then shr A L else []
theorem fair_u (A : Int) (a : Option Addr) (n cap : Nat) (L : List Int) (w : World) (hA : IArg w a n L) :
    Calls Tryd.prog 24 #[.int .i64 A, .slice a n cap] w fun e w' => ∃ va vc, e = .returned (.tuple #[.slice va (tl A L).length vc, errv (rf A L 200)]) ∧ IArg w' va (tl A L).length (tl A L) ∧ Below w.heap.size w w' := by
  have hl := hA.2.1
  refine (fair_calls A a n cap L w hA).mono ?_
  rintro e w' (⟨h0, v, rfl, h1, h2⟩ | ⟨h0, rfl, rfl⟩)
  · have e : tl A L = shr A L := by unfold tl; rw [if_pos h0]
    have hs : (shr A L).length = n := by unfold shr; rw [sh_len, hl]
    obtain ⟨va, vc, rfl, hI, _⟩ := own_ints h1 (by have := hA.2.2; omega)
    rw [e, hs]
    exact ⟨va, vc, by rw [h0]; rfl, hI, h2⟩
  · have e : tl A L = [] := by unfold tl; rw [if_neg h0]
    rw [e]
    exact ⟨none, 0, rfl, IArg.nil _ _, Below.refl _ _⟩
theorem want_u (A : Int) (a : Option Addr) (n cap : Nat) (L : List Int) (w : World) (hA : IArg w a n L) (h0 : rf A L 200 = 0) :
    Calls Tryd.prog 23 #[.int .i64 A, .slice a n cap] w fun e w' => ∃ va vc, e = .returned (.slice va (tl A L).length vc) ∧ IArg w' va (tl A L).length (tl A L) ∧ Below w.heap.size w w' := by
  have hl := hA.2.1
  obtain ⟨h1, hr, a0, a1⟩ := rf_zero h0
  refine (rfair_calls A a n cap L w hA hr (by omega) a0 a1).mono ?_
  rintro e w' ⟨v, rfl, h1, h2⟩
  have e : tl A L = shr A L := by unfold tl; rw [if_pos h0]
  have hs : (shr A L).length = n := by unfold shr; rw [sh_len, hl]
  obtain ⟨va, vc, rfl, hI, _⟩ := own_ints h1 (by omega)
  rw [e, hs]
  exact ⟨va, vc, rfl, hI, h2⟩
/-- the rate behind a Report, and what it gives -/
def rn (r lo hi a b : Int) : Int := if pf a b = 0 then rp r lo hi a b else r
def rv (r lo hi a b : Int) : Int := if pf a b = 0 then rp r lo hi a b else 0
theorem inv_rn {r lo hi : Int} (h : Inv r lo hi) (a b : Int) : Inv (rn r lo hi a b) lo hi := by
  unfold rn
  split
  · exact inv_rp h a b
  · exact h
theorem report_u (g : Nat) (r lo hi a b : Int) (w : World) (hg : GAt w g r lo hi) (hI : Inv r lo hi) :
    Calls Tryd.prog 27 #[.pointer (some ⟨g, 0, none⟩), .int .i64 a, .int .i64 b] w fun e w' => e = .returned (.tuple #[.int .i64 (rv r lo hi a b), errv (pf a b)]) ∧ GAt w' g (rn r lo hi a b) lo hi ∧ Only [g] w w' := by
  by_cases h : pf a b = 0
  · refine (report_ok g r lo hi a b w hg hI h).mono ?_
    rintro e w' ⟨rfl, h1, h2⟩
    unfold rv rn
    rw [if_pos h, if_pos h, h]
    exact ⟨rfl, h1, h2⟩
  · refine (report_one g r lo hi a b w h).mono ?_
    rintro e w' ⟨rfl, rfl⟩
    have e : pf a b = 1 := by have := pf_le a b; omega
    unfold rv rn
    rw [if_neg h, if_neg h, e]
    exact ⟨rfl, hg, Only.refl _ _⟩
/-- rows of two numbers each -/
def TArg (w : World) (a : Option Addr) (n : Nat) (l : List (Int × Int)) : Prop :=
  (∀ j, j < l.length → ∃ b o, a = some ⟨b, o, none⟩ ∧ w.cell? ⟨b, o + j * 2, none⟩ = some (.int .i64 (l.getD j (0, 0)).1) ∧ w.cell? ⟨b, o + j * 2 + 1, none⟩ = some (.int .i64 (l.getD j (0, 0)).2)) ∧ l.length = n ∧ n ≤ 9223372036854775807
theorem TArg.below {w w' : World} {a : Option Addr} {n : Nat} {l : List (Int × Int)} (h : TArg w a n l) (hb : Below w.heap.size w w') : TArg w' a n l := by
  refine ⟨fun j hj => ?_, h.2⟩
  obtain ⟨b, o, e, h1, h2⟩ := h.1 j hj
  exact ⟨b, o, e, (hb.cell (p := ⟨b, o + j * 2, none⟩) (World.block_lt_of_cell? w _ h1)).trans h1, (hb.cell (p := ⟨b, o + j * 2 + 1, none⟩) (World.block_lt_of_cell? w _ h2)).trans h2⟩
theorem TArg.nil (w : World) (a : Option Addr) : TArg w a 0 [] := ⟨fun j h => absurd h (by simp), rfl, by omega⟩
end Go.Proofs.YtdoljkiklnaioagDoor.Rate
