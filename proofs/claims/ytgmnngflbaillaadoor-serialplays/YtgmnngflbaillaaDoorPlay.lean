/-
  One step of a window and of the reference's window, side by side: what both return of any number is the same, and both go on alike. Their condition: the two windows stand for the same numbers.
-/
import Derived.Test.YtgmnngflbaillaaDoorTold
import Derived.Test.YtgmnngflbaillaaDoorWin
import Derived.Test.YtgmnngflbaillaaDoorRWin
namespace Go.Proofs.YtgmnngflbaillaaDoor.Play
open Go.ChangeShapes Go.WideShapes Go.ChangeAt Go.RowKit Go.Proofs.YtgmnngflbaillaaDoor.Win Go.Proofs.YtgmnngflbaillaaDoor.RWin
set_option linter.unusedVariables false

def far (y : Int) : Bool := decide (y < 0 ∨ 1099511627776 < y)
def old (n T y : Int) : Bool := decide (y ≤ T - n)
def up (T y : Int) : Bool := decide (T < y)
def stX (n T : Int) (L : List Int) (y : Int) : Bool := if far y then false else if old n T y then false else if up T y then true else !hasR n T L y
def stE (n T y : Int) : Int := if far y then 1 else if old n T y then 6 else 0
def stT (n T y : Int) : Int := if far y then T else if old n T y then T else if up T y then y else T
def stS (n T : Int) (s : Nat) (y : Int) : Nat := if far y then s else if old n T y then s else if up T y then riseS s (y - T).toNat else s ||| 2 ^ (T - y).toNat
def stL (n T : Int) (L : List Int) (y : Int) : List Int := if far y then L else if old n T y then L else if up T y then L ++ [y] else if hasR n T L y then L else L ++ [y]
def errV (e : Int) : Value := if e = 0 then .nilIface else .iface 44 (.int .i64 e)

theorem far_yes {y : Int} (h : y < 0 ∨ 1099511627776 < y) : far y = true := by simpa [far] using h
theorem far_no {y : Int} (h0 : 0 ≤ y) (h1 : y ≤ 1099511627776) : far y = false := by simp [far]; omega
theorem old_yes {n T y : Int} (h : y ≤ T - n) : old n T y = true := by simpa [old] using h
theorem old_no {n T y : Int} (h : T - n < y) : old n T y = false := by simp [old]; omega
theorem up_yes {T y : Int} (h : T < y) : up T y = true := by simpa [up] using h
theorem up_no {T y : Int} (h : y ≤ T) : up T y = false := by simp [up]; omega

theorem hasR_up {n T : Int} {s : Nat} {L : List Int} (h : Inv n T s L) {y : Int} (hy : T < y) : hasR n T L y = false := by
  unfold hasR
  rw [Bool.and_eq_false_iff]
  left
  simp only [decide_eq_false_iff_not]
  intro hm
  have := h.2.2.2.2.2.1 y hm
  omega

theorem inv_step {n T : Int} {s : Nat} {L : List Int} (h : Inv n T s L) (y : Int) : Inv n (stT n T y) (stS n T s y) (stL n T L y) := by
  by_cases hf : y < 0 ∨ 1099511627776 < y
  · simpa [stT, stS, stL, far_yes hf] using h
  · have hf' := far_no (y := y) (by omega) (by omega)
    by_cases ho : y ≤ T - n
    · simpa [stT, stS, stL, hf', old_yes ho] using h
    · have ho' := old_no (n := n) (T := T) (y := y) (by omega)
      by_cases hu : T < y
      · simpa [stT, stS, stL, hf', ho', up_yes hu] using inv_rise h y hu (by omega) (by omega)
      · have := inv_add h y (by omega) (by omega) (by omega)
        simpa [stT, stS, stL, hf', ho', up_no (T := T) (y := y) (by omega)] using this
theorem stL_len (n T : Int) (L : List Int) (y : Int) : (stL n T L y).length ≤ L.length + 1 := by
  unfold stL
  repeat' split
  all_goals simp

theorem add_calls (b : Nat) (n T y : Int) (s : Nat) (L : List Int) (w : World) (hB : w.heap[b]? = some (.cells #[.int .i64 n, .int .i64 T, .int .u64 s] 48 (0, 0))) (hI : Inv n T s L) :
    Calls Tryd.prog 14 #[.pointer (some ⟨b, 0, none⟩), .int .i64 y] w fun e w' => e = .returned (.tuple #[.bool (stX n T L y), errV (stE n T y)]) ∧
      w'.heap[b]? = some (.cells #[.int .i64 n, .int .i64 (stT n T y), .int .u64 (stS n T s y)] 48 (0, 0)) ∧ Only [b] w w' := by
  obtain ⟨h0, h1, h2⟩ := cells3 hB
  obtain ⟨i1, i2, i3, i4, i5, i6, i7⟩ := id hI
  by_cases hf : y < 0 ∨ 1099511627776 < y
  · have hf' := far_yes hf
    refine (add_long b y w hf).mono ?_
    rintro e w' ⟨rfl, rfl⟩
    refine ⟨by simp [stX, stE, hf', errV], ?_, Only.refl _ _⟩
    simpa [stT, stS, hf'] using hB
  · have hf' := far_no (y := y) (by omega) (by omega)
    by_cases ho : y ≤ T - n
    · have ho' := old_yes ho
      refine (add_old b n T y w h0 h1 i1 i2 i3 i4 (by omega) (by omega) (by omega)).mono ?_
      rintro e w' ⟨rfl, k, rfl⟩
      refine ⟨by simp [stX, stE, hf', ho', errV], ?_, (Only.refl _ _).drewN _⟩
      simpa [stT, stS, hf', ho'] using hB
    · have ho' := old_no (n := n) (T := T) (y := y) (by omega)
      by_cases hu : T < y
      · have hu' := up_yes hu
        refine (add_rise b n T y s w h0 h1 h2 (free3 hB 1) (free3 hB 2) i1 i2 i3 hu (by omega) (by omega)).mono ?_
        rintro e w' ⟨rfl, k, rfl⟩
        refine ⟨by simp [stX, stE, hf', ho', hu', errV], ?_, (((Only.refl _ _).setCell (by simp) _).setCell (by simp) _).drewN _⟩
        have := set3 (set3 hB 2 (.int .u64 (riseS s (y - T).toNat))) 1 (.int .i64 y)
        simpa [stT, stS, hf', ho', hu'] using this
      · have hu' := up_no (T := T) (y := y) (by omega)
        refine (add_in b n T y s w h0 h1 h2 (free3 hB 2) i1 i2 i3 (by omega) i4 (by omega) (by omega) i5).mono ?_
        rintro e w' ⟨rfl, k, rfl⟩
        refine ⟨by simp [stX, stE, hf', ho', hu', errV, has_same hI], ?_, ((Only.refl _ _).setCell (by simp) _).drewN _⟩
        have := set3 hB 2 (.int .u64 ((s ||| 2 ^ (T - y).toNat : Nat) : Int))
        simpa [stT, stS, hf', ho', hu'] using this

theorem radd_calls (b base : Nat) (n T y : Int) (s : Nat) (v : Value) (L : List Int) (w : World) (hB : w.heap[b]? = some (.cells #[.int .i64 n, .int .i64 T, v] 37 (0, 0)))
    (ho : w.ownsRow base 3 1 v L.length (L.map (Value.int .i64))) (hbase : base ≤ w.heap.size) (hL : L.length ≤ 1000) (hI : Inv n T s L) :
    Calls Tryd.prog 13 #[.pointer (some ⟨b, 0, none⟩), .int .i64 y] w fun e w' => e = .returned (.tuple #[.bool (stX n T L y), .int .i64 (stE n T y)]) ∧
      ∃ v', w'.heap[b]? = some (.cells #[.int .i64 n, .int .i64 (stT n T y), v'] 37 (0, 0)) ∧ w'.ownsRow base 3 1 v' (stL n T L y).length ((stL n T L y).map (Value.int .i64)) ∧ Only (b :: v.ownBlock.toList) w w' := by
  obtain ⟨h0, h1, h2⟩ := cells3 hB
  obtain ⟨i1, i2, i3, i4, i5, i6, i7⟩ := id hI
  by_cases hf : y < 0 ∨ 1099511627776 < y
  · have hf' := far_yes hf
    refine (radd_long b y w hf).mono ?_
    rintro e w' ⟨rfl, rfl⟩
    refine ⟨by simp [stX, stE, hf'], v, ?_, ?_, Only.refl _ _⟩
    · simpa [stT, hf'] using hB
    · simpa [stL, hf'] using ho
  · have hf' := far_no (y := y) (by omega) (by omega)
    by_cases hold : y ≤ T - n
    · have ho' := old_yes hold
      refine (radd_old b n T y w h0 h1 i1 i2 i3 i4 (by omega) (by omega) hold).mono ?_
      rintro e w' ⟨rfl, k, rfl⟩
      refine ⟨by simp [stX, stE, hf', ho'], v, ?_, ?_, (Only.refl _ _).drewN _⟩
      · simpa [stT, hf', ho'] using hB
      · rw [show stL n T L y = L by simp [stL, hf', ho']]; exact ho
    · have ho' := old_no (n := n) (T := T) (y := y) (by omega)
      by_cases hh : hasR n T L y = true
      · have hyT : y ≤ T := by
          by_cases hu : T < y
          · rw [hasR_up hI hu] at hh; cases hh
          · omega
        have hu' := up_no (T := T) (y := y) hyT
        refine (radd_has b base n T y v L w h0 h1 h2 ho hL i1 i2 i3 i4 (by omega) hyT (by omega) hh).mono ?_
        rintro e w' ⟨rfl, k, rfl⟩
        refine ⟨by simp [stX, stE, hf', ho', hu', hh], v, ?_, ?_, (Only.refl _ _).drewN _⟩
        · simpa [stT, hf', ho', hu'] using hB
        · rw [show stL n T L y = L by simp [stL, hf', ho', hu', hh]]; exact ho
      · have hh' : hasR n T L y = false := by simpa using hh
        refine (radd_new b base n T y v L w hB ho hbase hL i1 i2 i3 i4 (by omega) (by omega) (by omega) hh' (if T < y then y else T) rfl).mono ?_
        rintro e w' ⟨rfl, v', g1, g2, g3⟩
        by_cases hu : T < y
        · have hu' := up_yes hu
          refine ⟨by simp [stX, stE, hf', ho', hu'], v', ?_, ?_, g3⟩
          · simpa [stT, hf', ho', hu', hu] using g1
          · simpa [stL, hf', ho', hu'] using g2
        · have hu' := up_no (T := T) (y := y) (by omega)
          refine ⟨by simp [stX, stE, hf', ho', hu', hh'], v', ?_, ?_, g3⟩
          · simpa [stT, hf', ho', hu', hu] using g1
          · simpa [stL, hf', ho', hu', hh'] using g2

theorem same_calls (n T y : Int) (w : World) (hg : w.cell? ⟨0, 0, none⟩ = some (.iface 66 (.agg #[.pointer (some ⟨1, 25, none⟩)]))) :
    Calls Tryd.prog 9 #[errV (stE n T y), .int .i64 (stE n T y)] w fun ev w' => ev = .returned (.bool true) ∧ Below w.heap.size w w' := by
  by_cases hf : far y = true
  · simp only [stE, hf, if_true, errV]
    refine (Told.same_err 1 1 w (by decide) (by decide) hg).mono ?_
    rintro e w' ⟨rfl, h⟩
    exact ⟨rfl, h⟩
  · by_cases ho : old n T y = true
    · simp only [stE, hf, ho, if_true, errV]
      refine (Told.same_err 6 6 w (by decide) (by decide) hg).mono ?_
      rintro e w' ⟨rfl, h⟩
      exact ⟨rfl, h⟩
    · simp only [stE, hf, ho, errV]
      refine (Told.same_nil 0 w).mono ?_
      rintro e w' ⟨rfl, rfl⟩
      exact ⟨rfl, Below.refl _ _⟩

theorem hasS (b : Nat) (n T y : Int) (s : Nat) (L : List Int) (w : World) (h0 : w.cell? ⟨b, 0, none⟩ = some (.int .i64 n)) (h1 : w.cell? ⟨b, 1, none⟩ = some (.int .i64 T)) (h2 : w.cell? ⟨b, 2, none⟩ = some (.int .u64 s)) (hI : Inv n T s L) :
    Calls Tryd.prog 16 #[.pointer (some ⟨b, 0, none⟩), .int .i64 y] w fun e w' => e = .returned (.bool (hasR n T L y)) ∧ ∃ k, w' = w.drewN k := by
  obtain ⟨i1, i2, i3, i4, i5, i6, i7⟩ := id hI
  rw [← has_same hI]
  exact has_calls b n T y s w h0 h1 h2 i1 i2 i3 i4 i5
end Go.Proofs.YtgmnngflbaillaaDoor.Play
