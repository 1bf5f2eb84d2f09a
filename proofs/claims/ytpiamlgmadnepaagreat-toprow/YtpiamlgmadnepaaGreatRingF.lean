/-
  What Put and Get of package ring return, whatever they are given, and what they leave in memory: one row each. Their condition: the ring keeps packets that a ring may keep.
-/
import Derived.Test.YtpiamlgmadnepaaGreatRingE
namespace Go.Proofs.YtpiamlgmadnepaaGreat.Ring
open Go.ChangeShapes Go.WideShapes Go.ChangeAt Go.RowKit Go.Maps Go.Proofs.YtpiamlgmadnepaaGreat.PM Go.Proofs.YtpiamlgmadnepaaGreat.Mem Go.Proofs.YtpiamlgmadnepaaGreat.Pack Go.Proofs.YtpiamlgmadnepaaGreat.RM
set_option linter.unusedVariables false

theorem put_calls (b mb : Nat) (n T y s t l q : Int) (st : Bool) (a : Option Addr) (m cap : Nat) (L : List Nat) (M : Its) (w : World) (hR : RingAt w b mb n T M) (hI : RM.Inv n T M) (hA : Arg w a m L) (hN : a = none → m = 0 ∧ cap = 0) :
    Calls Tryz.prog 159 #[.pointer (some ⟨b, 0, none⟩), .int .i64 y, .agg #[.int .i64 s, .int .i64 t, .int .i64 l, .int .i64 q, .bool st, .slice a m cap]] w fun e w' => e = .returned (.tuple #[.bool (px n T y M (fault s t l q m)), errv (pf n T y (fault s t l q m))]) ∧
      RingAt w' b mb n (pT n T y M (fault s t l q m)) (pM n T y M (fault s t l q m) ⟨s, t, l, q, st, L, .slice a m cap⟩) ∧ Only [b, mb] w w' := by
  have same : ∀ w', px n T y M (fault s t l q m) = false → Below w.heap.size w w' → RingAt w' b mb n (pT n T y M (fault s t l q m)) (pM n T y M (fault s t l q m) ⟨s, t, l, q, st, L, .slice a m cap⟩) ∧ Only [b, mb] w w' := by
    intro w' hx hb
    unfold pT pM
    rw [hx]
    exact ⟨hR.below hb, Only.of_below hb _⟩
  by_cases hf : y < 0 ∨ 1099511627776 < y
  · have e1 : pf n T y (fault s t l q m) = 1 := by unfold pf; rw [if_pos hf]
    have e2 : px n T y M (fault s t l q m) = false := by simp [px, e1]
    refine (put_long b y s t l q st (.slice a m cap) w hf).mono ?_
    rintro e w' ⟨rfl, hb⟩
    exact ⟨by rw [e1, e2], same w' e2 hb⟩
  by_cases hc : fault s t l q m = 0
  case neg =>
    have e1 : pf n T y (fault s t l q m) = fault s t l q m := by unfold pf; rw [if_neg hf, if_pos hc]
    have e2 : px n T y M (fault s t l q m) = false := by simp [px, e1, hc]
    refine (put_bad b y s t l q st a m cap w (by omega) (by omega) hc).mono ?_
    rintro e w' ⟨rfl, hb⟩
    exact ⟨by rw [e1, e2], same w' e2 hb⟩
  by_cases ho : y ≤ T - n
  · have e1 : pf n T y (fault s t l q m) = 6 := by unfold pf; rw [if_neg hf, if_neg (by omega), if_pos ho]
    have e2 : px n T y M (fault s t l q m) = false := by simp [px, e1]
    refine (put_gone b mb n T y s t l q st a m cap M w hR hI (by omega) (by omega) hc ho).mono ?_
    rintro e w' ⟨rfl, hb⟩
    exact ⟨by rw [e1, e2], same w' e2 hb⟩
  have e1 : pf n T y (fault s t l q m) = 0 := pf_mk (by omega) (by omega) hc (by omega)
  by_cases hh : has M y = true
  · have e2 : px n T y M (fault s t l q m) = false := by simp [px, hh]
    obtain ⟨i, hi, rfl⟩ := has_iff.1 hh
    refine (put_has b mb n T s t l q st a m cap M w hR hI i hi hc).mono ?_
    rintro e w' ⟨rfl, hb⟩
    exact ⟨by rw [e1, e2]; rfl, same w' e2 hb⟩
  · have hh' : has M y = false := by simpa using hh
    have e2 : px n T y M (fault s t l q m) = true := by simp [px, e1, hh']
    refine (put_new b mb n T y s t l q st a m cap L M w hR hI hA hN (by omega) (by omega) hc (by omega) hh').mono ?_
    rintro e w' ⟨rfl, h1, h2⟩
    refine ⟨by rw [e1, e2]; rfl, ?_, h2⟩
    unfold pT pM
    rw [e2]
    exact h1

/-- the packet of a number -/
def find (M : Its) (y : Int) : Option Pk := (M.find? fun i => i.1 == y).map Prod.snd
theorem find_none {M : Its} {y : Int} (h : has M y = false) : find M y = none := by
  unfold find
  rw [Option.map_eq_none_iff, List.find?_eq_none]
  intro i hi
  have := has_no h i hi
  simpa using this
theorem find_some {M : Its} {y : Int} (h : has M y = true) : ∃ i ∈ M, i.1 = y ∧ find M y = some i.2 := by
  obtain ⟨i, hi, e⟩ := has_iff.1 h
  cases hf : M.find? (fun i => i.1 == y) with
  | none => exact absurd (List.find?_eq_none.1 hf i hi) (by simp [e])
  | some j => exact ⟨j, List.mem_of_find?_eq_some hf, by simpa using List.find?_some hf, by simp [find, hf]⟩
/-- what comes of a number: its packet, or an empty one -/
def got (M : Its) (y : Int) : Pk := (find M y).getD ⟨0, 0, 0, 0, false, [], .slice none 0 0⟩
def gf (M : Its) (y : Int) : Nat := if has M y then 0 else 5
theorem get_calls (b mb : Nat) (n T y : Int) (M : Its) (w : World) (hR : RingAt w b mb n T M) (hw : (Lit.int .i64 y).wf = true) :
    Calls Tryz.prog 186 #[.pointer (some ⟨b, 0, none⟩), .int .i64 y] w fun e w' => ∃ a m c, e = .returned (.tuple #[.agg #[.int .i64 (got M y).s, .int .i64 (got M y).t, .int .i64 (got M y).l, .int .i64 (got M y).q, .bool (got M y).st, .slice a m c], errv (gf M y)]) ∧ Arg w' a m (got M y).L ∧ Below w.heap.size w w' := by
  by_cases hh : has M y = true
  · obtain ⟨i, hi, rfl, hf⟩ := find_some hh
    refine (get_has b mb n T M w hR i hi hw).mono ?_
    rintro e w' ⟨a, m, c, rfl, hA, hb⟩
    refine ⟨a, m, c, ?_, ?_, hb⟩
    · simp [got, hf, gf, hh, errv]
    · simpa [got, hf] using hA
  · have hh' : has M y = false := by simpa using hh
    refine (get_none b mb n T y M w hR hh' hw).mono ?_
    rintro e w' ⟨rfl, hb⟩
    refine ⟨none, 0, 0, ?_, ?_, hb⟩
    · simp [got, find_none hh', gf, hh']
    · have e : (got M y).L = [] := by simp [got, find_none hh']
      rw [e]
      exact ⟨Bys.nil _ _, rfl, by omega⟩
end Go.Proofs.YtpiamlgmadnepaaGreat.Ring

