/-
  What the law NodePlans returns. Its condition: package errors' variable errorType is as it was laid.
-/
import Derived.Test.YtijfocggdjjnjaiGreatDoorNodeL
import Derived.Test.YtijfocggdjjnjaiGreatDoorTold
import Derived.Deep.CutRange
import Derived.Deep.LoopGhost
namespace Go.Proofs.YtijfocggdjjnjaiGreatDoor.ND
open Go.ChangeShapes Go.WideShapes Go.ChangeAt Go.RowKit Go.Maps Go.Proofs.YtijfocggdjjnjaiGreatDoor.Mem Go.Proofs.YtijfocggdjjnjaiGreatDoor.NO
set_option linter.unusedVariables false

/-- an error of a number is the one told -/
theorem told_f (f : Nat) (W : World) (hf : f ≤ 100) (hg : W.cell? ⟨0, 0, none⟩ = some (.iface 208 (.agg #[.pointer (some ⟨1, 25, none⟩)]))) :
    Calls Tryz.prog 9 #[errv f, .int .i64 (f : Int)] W fun e w' => e = .returned (.bool true) ∧ Below W.heap.size W w' := by
  by_cases h0 : f = 0
  · subst h0
    refine (Told.same_nil 0 W).mono ?_
    rintro e w' ⟨rfl, rfl⟩
    exact ⟨rfl, Below.refl _ _⟩
  · rw [errv_pos h0]
    refine (Told.same_err f f W (by omega) (by omega) hg).mono ?_
    rintro e w' ⟨rfl, hb⟩
    exact ⟨by simp, hb⟩
/-- what was there ahead of all is as it was -/
theorem below_chg {B : Nat} {w W W' : World} {o : Nat → Tg} {n : Nat} (hb : Below B w W) (hs : B ≤ W.heap.size) (hc : Chg o (mine n) W W') (ho : ∀ k, k < B → (o k).n ≠ n) : Below B w W' := by
  obtain ⟨bs, h1, h2, _⟩ := hc
  refine ⟨h1.1.trans hb.os, h1.2.1.trans hb.tape, h1.2.2.1.trans hb.output, Nat.le_trans hb.size h1.2.2.2.1, fun k hk => ?_⟩
  exact (h1.2.2.2.2 k (by omega) (fun hx => ho k hk (h2 k hx))).trans (hb.block k hk)
/-- the world under way: this node alone, and what was there is as it was -/
structure One (w W : World) (b : Nat) (N : Nd) : Prop where
  bel : Below w.heap.size w W
  at' : ∃ o P, NAt W o 1 b P N ∧ ∀ k, k < w.heap.size → (o k).n = 0
theorem One.of_made {w W W' : World} {e : Ending} {N : Nd} (hb : Below w.heap.size w W) (h : Made W W' (fun _ => nobody) 1 e N) : ∃ b, e = .returned (.tuple #[.pointer (some ⟨b, 0, none⟩), .nilIface]) ∧ One w W' b N := by
  obtain ⟨b, rfl, o', P, h1, h2, h3⟩ := h
  have hs := hb.size
  exact ⟨b, rfl, hb.trans (h3.mono hs), o', P, h1, fun k hk => by rw [h2 k (by omega)]⟩
theorem One.below {w W W' : World} {b : Nat} {N : Nd} (h : One w W b N) (hb : Below W.heap.size W W') : One w W' b N := by
  obtain ⟨o, P, h1, h2⟩ := h.at'
  exact ⟨h.bel.trans (hb.mono h.bel.size), o, P, h1.below hb, h2⟩
theorem One.done {w W W' : World} {b : Nat} {N N' : Nd} (h : One w W b N) (hd : ∀ o P, NAt W o 1 b P N → (∀ k, k < w.heap.size → (o k).n = 0) → Done W W' o 1 b N') : One w W' b N' := by
  obtain ⟨o, P, h1, h2⟩ := h.at'
  obtain ⟨o', P', q1, q2, q3⟩ := hd o P h1 h2
  have hs := h.bel.size
  exact ⟨below_chg h.bel hs q3 (fun k hk => by rw [h2 k hk]; omega), o', P', q1, fun k hk => by rw [q2 k (by omega)]; exact h2 k hk⟩
theorem One.arg {w W : World} {b : Nat} {N : Nd} (h : One w W b N) {a : Option Addr} {m : Nat} {K : List Int} (hK : Gaps.IArg w a m K) : Gaps.IArg W a m K := hK.below h.bel
/-- Plan, whatever it is told -/
def Planned (w W' : World) (b : Nat) (N : Nd) (f : Nat) (N' : Nd) : Prop := (f = 0 → One w W' b N') ∧ (f ≠ 0 → One w W' b N)
theorem One.plan {w W : World} {b : Nat} {N : Nd} (h : One w W b N) (tk pa ep : Int) (a : Option Addr) (m cap : Nat) (K : List Int) (hK : Gaps.IArg w a m K) (hno : a = none → m = 0 ∧ cap = 0) (hI : SInv N.sb N.ls) (hall : ∀ x ∈ N.sb, x.2.tk = tk) :
    Calls Tryz.prog 8 #[.pointer (some ⟨b, 0, none⟩), .int .i64 tk, .int .i64 pa, .slice a m cap, .int .i64 ep] W fun e w' => e = .returned (errv (pF N tk pa K ep)) ∧ Planned w w' b N (pF N tk pa K ep) (N.plan tk pa K ep) := by
  obtain ⟨o, P, h1, h2⟩ := h.at'
  by_cases hf : pF N tk pa K ep = 0
  · refine (plan_ok 1 b o P N tk pa ep a m cap K W (by omega) h1 hI hall (h.arg hK) hno (by
      intro ad e hm
      obtain ⟨b', o', e', hc⟩ := hK.1 0 (by have := hK.2.1; omega)
      rw [e] at e'
      cases e'
      rw [h2 _ (World.block_lt_of_cell? w ⟨b', o' + 0, none⟩ hc)]
      omega) hf).mono ?_
    rintro e w' ⟨rfl, o', P', q1, q2, q3⟩
    rw [hf]
    have hs := h.bel.size
    exact ⟨rfl, fun _ => ⟨below_chg h.bel hs q3 (fun k hk => by rw [h2 k hk]; omega), o', P', q1, fun k hk => by rw [q2 k (by omega)]; exact h2 k hk⟩, fun h => absurd rfl h⟩
  · refine (plan_bad 1 b o P N tk pa ep a m cap K W h1 (h.arg hK) hf).mono ?_
    rintro e w' ⟨rfl, hb⟩
    exact ⟨rfl, fun h => absurd h hf, fun _ => h.below hb⟩
theorem One.sub {w W : World} {b : Nat} {N : Nd} (h : One w W b N) (tk mo : Int) (hI : SInv N.sb N.ls) (hls : N.ls < 1000000) (hf : sF N tk mo = 0) :
    Calls Tryz.prog 10 #[.pointer (some ⟨b, 0, none⟩), .int .i64 tk, .int .i64 mo] W fun e w' => e = .returned (.tuple #[.int .i64 (N.ls + 1), .nilIface]) ∧ One w w' b (N.subs tk mo) := by
  obtain ⟨o, P, h1, h2⟩ := h.at'
  refine (sub_ok 1 b o P N tk mo W (by omega) h1 hI hls hf).mono ?_
  rintro e w' ⟨rfl, o', P', q1, q2, q3⟩
  have hs := h.bel.size
  exact ⟨rfl, below_chg h.bel hs q3 (fun k hk => by rw [h2 k hk]; omega), o', P', q1, fun k hk => by rw [q2 k (by omega)]; exact h2 k hk⟩
theorem One.noLetters {w W : World} {b : Nat} {N : Nd} (h : One w W b N) (hl : N.lt = []) :
    Calls Tryz.prog 11 #[.pointer (some ⟨b, 0, none⟩)] W fun e w' => ∃ a c, e = .returned (.slice a 0 c) ∧ Below w.heap.size w w' := by
  obtain ⟨o, P, h1, h2⟩ := h.at'
  refine (out_calls 1 b o P N W (by omega) h1).mono ?_
  rintro e w' ⟨lv, o', P', rfl, q1, q2, q3, q4, q5⟩
  obtain ⟨X, r1, r2, r3⟩ := q2
  rw [hl] at r1
  have hX : X = [] := List.map_eq_nil_iff.1 r1
  subst hX
  have hb := below_chg h.bel h.bel.size q5 (fun k hk => by rw [h2 k hk]; omega)
  rcases r2.2 with ⟨rfl, _⟩ | ⟨g, cap, cur, rfl, _⟩
  · exact ⟨_, _, rfl, hb⟩
  · exact ⟨_, _, rfl, hb⟩
theorem One.sendNone {w W : World} {b : Nat} {N : Nd} (h : One w W b N) (tk now s t l q : Int) (st : Bool) (bv : Value) (hnow : GM.tf N.nw now = 0) (hT : okT tk = true) (hx : N.at tk = none) :
    Calls Tryz.prog 7 #[.pointer (some ⟨b, 0, none⟩), .int .i64 tk, .agg #[.int .i64 s, .int .i64 t, .int .i64 l, .int .i64 q, .bool st, bv], .int .i64 now] W fun e w' => e = .returned (errv 5) ∧ One w w' b N := by
  obtain ⟨o, P, h1, h2⟩ := h.at'
  refine (send_none 1 b o P N tk now s t l q st bv W h1 hnow hT hx).mono ?_
  rintro e w' ⟨rfl, hb⟩
  exact ⟨rfl, h.below hb⟩
theorem One.sendState {w W : World} {b : Nat} {N : Nd} (h : One w W b N) (tk now s t l q : Int) (st : Bool) (bv : Value) (hnow : GM.tf N.nw now = 0) (hT : okT tk = true) {t' : Tr} (hx : N.at tk = some t') (hpa : t'.pa ≠ -1) :
    Calls Tryz.prog 7 #[.pointer (some ⟨b, 0, none⟩), .int .i64 tk, .agg #[.int .i64 s, .int .i64 t, .int .i64 l, .int .i64 q, .bool st, bv], .int .i64 now] W fun e w' => e = .returned (errv 6) ∧ One w w' b N := by
  obtain ⟨o, P, h1, h2⟩ := h.at'
  refine (send_state 1 b o P N tk now s t l q st bv W h1 hnow hT hx hpa).mono ?_
  rintro e w' ⟨rfl, hb⟩
  exact ⟨rfl, h.below hb⟩
theorem sinv_nil : SInv [] 0 := ⟨List.Pairwise.nil, by simp, by simp, by omega, by omega⟩
/-- the first part of what is wrong with a plan -/
def f1 (id tk pa ep : Int) : Nat := if tk < 1 ∨ 8 < tk ∨ pa < -1 ∨ 15 < pa ∨ pa = id ∨ ep < 0 ∨ 65535 < ep then 1 else 0
def f2 (id tk pa ep : Int) (K : List Int) : Nat := if f1 id tk pa ep = 0 then (if K.any (badk id pa) then 1 else 0) else 1
def f3 (id tk pa ep : Int) (K : List Int) : Nat := if f2 id tk pa ep K = 0 then (if twc K then 7 else 0) else 1
theorem f3_pF {id tk pa ep : Int} {K : List Int} (hid : okN id = true) : pF (nd0 id) tk pa K ep = f3 id tk pa ep K := by
  have hid' : 0 ≤ id ∧ id ≤ 15 := by simpa [okN] using hid
  have e0 : (nd0 id).id = id := rfl
  have e1 : old ((nd0 id).at tk) ep = false := rfl
  unfold f3 f2 f1 pF
  rw [e0, e1]
  by_cases hT : okT tk = true
  · have hT' : 1 ≤ tk ∧ tk ≤ 8 := by simpa [okT] using hT
    rw [if_neg (by simp [hT])]
    by_cases hp : pa ≠ -1 ∧ oth id pa = false
    · have : pa < -1 ∨ 15 < pa ∨ pa = id := by
        obtain ⟨p1, p2⟩ := hp
        simp only [oth, okN, Bool.and_eq_false_iff, decide_eq_false_iff_not] at p2
        omega
      rw [if_pos hp, if_pos (show tk < 1 ∨ 8 < tk ∨ pa < -1 ∨ 15 < pa ∨ pa = id ∨ ep < 0 ∨ 65535 < ep by omega)]
      simp
    · have : ¬ (pa < -1 ∨ 15 < pa ∨ pa = id) := by
        intro h
        refine hp ⟨by omega, ?_⟩
        simp only [oth, okN, Bool.and_eq_false_iff, decide_eq_false_iff_not]
        omega
      rw [if_neg hp]
      by_cases he : ep < 0 ∨ 65535 < ep
      · rw [if_pos he, if_pos (show tk < 1 ∨ 8 < tk ∨ pa < -1 ∨ 15 < pa ∨ pa = id ∨ ep < 0 ∨ 65535 < ep by omega)]
        simp
      · rw [if_neg he, if_neg (show ¬ (tk < 1 ∨ 8 < tk ∨ pa < -1 ∨ 15 < pa ∨ pa = id ∨ ep < 0 ∨ 65535 < ep) by omega)]
        by_cases ha : K.any (badk id pa) = true
        · simp [ha]
        · simp [ha]
  · have hT' : ¬ (1 ≤ tk ∧ tk ≤ 8) := by simpa [okT] using hT
    rw [if_pos (by simpa using hT), if_pos (show tk < 1 ∨ 8 < tk ∨ pa < -1 ∨ 15 < pa ∨ pa = id ∨ ep < 0 ∨ 65535 < ep by omega)]
    simp
theorem f3_le (id tk pa ep : Int) (K : List Int) : f3 id tk pa ep K ≤ 7 := by
  unfold f3
  split
  · split <;> omega
  · omega
end Go.Proofs.YtijfocggdjjnjaiGreatDoor.ND

