/-
  One loft, whatever comes to it: what becomes of a subscriber, as functions. Of numbers and lists alone; no walk.
-/
import Derived.Test.YtpiamlgmadnepaaGreatSubR
import Derived.Test.YtpiamlgmadnepaaGreatOrderG
import Derived.Test.YtpiamlgmadnepaaGreatNRepA
namespace Go.Proofs.YtpiamlgmadnepaaGreat.ND
open Go.ChangeShapes Go.WideShapes Go.ChangeAt Go.RowKit Go.Maps Go.Proofs.YtpiamlgmadnepaaGreat.Mem Go.Proofs.YtpiamlgmadnepaaGreat.NO
set_option linter.unusedVariables false

/-! how many are handed out -/
/-- the greatest number of what has waited long enough, -1: there is none -/
def odF (now : Int) : OM.Its → Int
  | [] => -1
  | i :: M => if OM.late 10 now i = true ∧ odF now M < i.n then i.n else odF now M
theorem odF_od (now : Int) (M : OM.Its) (h : ∀ i ∈ M, 0 ≤ i.n) : OM.Od 10 now M (odF now M) := by
  induction M with
  | nil => exact ⟨by unfold odF; omega, by simp, .inl rfl⟩
  | cons a M ih =>
    obtain ⟨h1, h2, h3⟩ := ih (fun i hi => h i (by simp [hi]))
    have ha := h a (by simp)
    by_cases c : OM.late 10 now a = true ∧ odF now M < a.n
    · rw [show odF now (a :: M) = a.n from if_pos c]
      refine ⟨by omega, ?_, .inr ⟨a, by simp, c.1, rfl⟩⟩
      intro i hi hl
      rcases List.mem_cons.1 hi with rfl | hi
      · omega
      · have := h2 i hi hl; omega
    · rw [show odF now (a :: M) = odF now M from if_neg c]
      refine ⟨h1, ?_, ?_⟩
      · intro i hi hl
        rcases List.mem_cons.1 hi with rfl | hi
        · have : ¬ odF now M < i.n := fun h => c ⟨hl, h⟩
          omega
        · exact h2 i hi hl
      · rcases h3 with h3 | ⟨i, hi, h3⟩
        · exact .inl h3
        · exact .inr ⟨i, by simp [hi], h3⟩
/-- how many from x on, no more than f -/
def cnt (M : OM.Its) (od : Int) : Nat → Int → Nat
  | 0, _ => 0
  | f + 1, x => if OM.goes M od x = true then cnt M od f (x + 1) + 1 else 0
theorem cnt_stop {M : OM.Its} {od : Int} (f : Nat) : ∀ (K : Nat) (x : Int), K ≤ f → OM.Stop M od x K → cnt M od f x = K := by
  induction f with
  | zero => intro K x hK _; unfold cnt; omega
  | succ f ih =>
    intro K x hK h
    unfold cnt
    cases K with
    | zero =>
      have := h.stop
      rw [show x + ((0 : Nat) : Int) = x by omega] at this
      rw [if_neg (by rw [this]; simp)]
    | succ K =>
      have h0 := h.all 0 (by omega)
      rw [show x + ((0 : Nat) : Int) = x by omega] at h0
      have h1 : OM.Stop M od (x + 1) K := by
        refine ⟨fun j hj => ?_, ?_⟩
        · have := h.all (j + 1) (by omega)
          rwa [show x + ((j + 1 : Nat) : Int) = x + 1 + (j : Int) by omega] at this
        · have := h.stop
          rwa [show x + ((K + 1 : Nat) : Int) = x + 1 + (K : Int) by omega] at this
      rw [if_pos h0, ih K (x + 1) (by omega) h1]
/-- how many a subscriber is handed out now -/
def Sb.popK (s : Sb) (now : Int) : Nat := cnt s.oM (odF now s.oM) 200 s.ox
theorem popK_many {s : Sb} {now : Int} (h : OM.Inv s.on s.ox s.oM) (ht : OM.tf s.on now = 0) : Order.Many 10 s.on s.ox now s.oM (s.popK now) := by
  have ho := odF_od now s.oM (fun i hi => (h.mem i hi).1)
  obtain ⟨K, hK, hs⟩ := OM.stop_ex h ho
  have e : s.popK now = K := cnt_stop 200 K s.ox hK hs
  rw [e]
  exact ⟨hK, fun _ => ⟨_, ho, hs⟩, fun h => absurd ht h⟩
/-- behind a Pop -/
def Sb.popd (s : Sb) (now : Int) : Sb := s.pop now (s.popK now)
/-- behind a Push, and the Pop behind it -/
def Sb.push (s : Sb) (y now : Int) (p : Pk) : Sb := (s.pushed y now p).popd now
/-- behind Gone -/
def Sb.gone (s : Sb) (y now : Int) : Sb := { s with on := OM.gW s.on s.ox y now, oM := OM.gM s.on s.ox y now s.oM }

/-! what holds of a subscriber -/
structure SbOk (nw : Int) (s : Sb) : Prop where
  oi : OM.Inv s.on s.ox s.oM
  ui : UM.Inv 0 s.uk s.uT s.uo
  on : s.on ≤ nw
  uk : (s.uk : Int) ≤ s.ox + 1
  gt : (s.got.length : Int) ≤ s.ox + 1
theorem SbOk.sbi {nw : Int} {s : Sb} (h : SbOk nw s) : SbI s := ⟨h.oi, h.ui⟩
theorem item_same' (s : Sb) (i : OM.Kp) : (s.item i).on = s.on ∧ (s.item i).ox = s.ox ∧ (s.item i).oM = s.oM ∧ (s.item i).tk = s.tk ∧ (s.item i).mo = s.mo ∧ (s.item i).uk ≤ s.uk + 1 ∧ (s.item i).got.length ≤ s.got.length + 1 := by
  unfold Sb.item
  split
  · exact ⟨rfl, rfl, rfl, rfl, rfl, Nat.le_refl _, by simp⟩
  · exact ⟨rfl, rfl, rfl, rfl, rfl, Nat.le_succ _, Nat.le_succ _⟩
theorem fold_same' (I : OM.Its) : ∀ s : Sb, (I.foldl Sb.item s).on = s.on ∧ (I.foldl Sb.item s).ox = s.ox ∧ (I.foldl Sb.item s).oM = s.oM ∧ (I.foldl Sb.item s).tk = s.tk ∧ (I.foldl Sb.item s).mo = s.mo ∧ (I.foldl Sb.item s).uk ≤ s.uk + I.length ∧ (I.foldl Sb.item s).got.length ≤ s.got.length + I.length := by
  induction I with
  | nil => intro s; exact ⟨rfl, rfl, rfl, rfl, rfl, Nat.le_refl _, Nat.le_refl _⟩
  | cons i I ih =>
    intro s
    obtain ⟨a1, a2, a3, a4, a5, a6, a7⟩ := item_same' s i
    obtain ⟨b1, b2, b3, b4, b5, b6, b7⟩ := ih (s.item i)
    simp only [List.foldl_cons, List.length_cons]
    exact ⟨b1.trans a1, b2.trans a2, b3.trans a3, b4.trans a4, b5.trans a5, by omega, by omega⟩
/-- what a Pop needs, and what it leaves -/
theorem SbOk.pop {nw now : Int} {s : Sb} (h : SbOk nw s) (ht : OM.tf s.on now = 0) : s.uk + s.popK now ≤ 2199023255551 ∧ s.got.length + s.popK now ≤ 2199023255551 ∧ SbOk now (s.popd now) ∧ (s.popd now).tk = s.tk ∧ (s.popd now).mo = s.mo := by
  have hm := popK_many h.oi ht
  have hi := Order.inv_many h.oi hm
  have x2 := hi.x2
  have hu := h.uk
  have hg := h.gt
  have k1 : s.uk + s.popK now ≤ 2199023255551 := by omega
  have k2 : s.got.length + s.popK now ≤ 2199023255551 := by omega
  obtain ⟨b1, b2, b3, b4, b5, b6, b7⟩ := fold_same' (OM.takes s.oM s.ox (s.popK now)) (s.popped now (s.popK now))
  have hl := OM.takes_len s.oM s.ox (s.popK now)
  have e1 : (s.popd now).on = now := b1.trans (by unfold Sb.popped; exact if_pos ht)
  have e2 : (s.popd now).ox = s.ox + (s.popK now : Int) := b2
  refine ⟨k1, k2, ⟨?_, ?_, ?_, ?_, ?_⟩, b4, b5⟩
  · rw [show (s.popd now).on = Order.qW s.on now from b1, e2, show (s.popd now).oM = OM.rest s.oM (s.ox + (s.popK now : Int)) from b3]
    exact hi
  · exact fold_inv (s := s.popped now (s.popK now)) h.ui (by rw [hl]; exact k1)
  · rw [e1]
    exact Int.le_refl _
  · rw [e2]
    have : (s.popd now).uk ≤ s.uk + s.popK now := by rw [hl] at b6; exact b6
    omega
  · rw [e2]
    have : (s.popd now).got.length ≤ s.got.length + s.popK now := by rw [hl] at b7; exact b7
    omega
theorem SbOk.mono {nw nw' : Int} {s : Sb} (h : SbOk nw s) (hn : nw ≤ nw') : SbOk nw' s := ⟨h.oi, h.ui, Int.le_trans h.on hn, h.uk, h.gt⟩
theorem pX_ge {nw nx y now : Int} {f : Nat} (h : -1 ≤ nx) : nx ≤ OM.pX nw nx y now f := by
  unfold OM.pX
  split
  · rename_i e
    obtain ⟨_, h0, _⟩ := OM.pf_zero e
    unfold OM.fx
    split <;> omega
  · exact Int.le_refl _
theorem SbOk.pushed {nw now y : Int} {p : Pk} {s : Sb} (h : SbOk nw s) (ht : OM.tf s.on now = 0) : SbOk now (s.pushed y now p) ∧ OM.tf (s.pushed y now p).on now = 0 := by
  have hx := pX_ge (nw := s.on) (y := y) (now := now) (f := PM.fault p.s p.t p.l p.q p.L.length) h.oi.x1
  have t' := pushed_tf (y := y) (p := p) ht
  refine ⟨⟨OM.inv_push h.oi _ _, h.ui, (OM.tf_zero t').2.2, ?_, ?_⟩, t'⟩
  · have := h.uk
    show (s.uk : Int) ≤ OM.pX _ _ _ _ _ + 1
    omega
  · have := h.gt
    show (s.got.length : Int) ≤ OM.pX _ _ _ _ _ + 1
    omega
theorem SbOk.push {nw now y : Int} {p : Pk} {s : Sb} (h : SbOk nw s) (ht : OM.tf s.on now = 0) : SbOk now (s.push y now p) ∧ (s.push y now p).tk = s.tk ∧ (s.push y now p).mo = s.mo := by
  obtain ⟨h1, h2⟩ := h.pushed (y := y) (p := p) ht
  obtain ⟨_, _, h3, h4, h5⟩ := h1.pop h2
  exact ⟨h3, h4, h5⟩
theorem gone_tf {s : Sb} {y now : Int} (ht : OM.tf s.on now = 0) : OM.tf (s.gone y now).on now = 0 := by
  show OM.tf (OM.gW s.on s.ox y now) now = 0
  unfold OM.gW
  split
  · obtain ⟨h1, h2, _⟩ := OM.tf_zero ht
    unfold OM.tf
    rw [if_neg (by omega), if_neg (by omega)]
  · exact ht
theorem SbOk.gone {nw now y : Int} {s : Sb} (h : SbOk nw s) (ht : OM.tf s.on now = 0) : SbOk now (s.gone y now) :=
  ⟨OM.inv_gone h.oi, h.ui, (OM.tf_zero (gone_tf ht)).2.2, h.uk, h.gt⟩
theorem SbOk.start (tk mo : Int) : SbOk 0 (s0 tk mo) :=
  ⟨OM.inv_start, UM.inv_start (by omega) (by omega) (show (0 : Int) ≤ 0 by omega) (show (0 : Int) ≤ 4294967295 by omega), Int.le_refl _, by show (0 : Int) ≤ -1 + 1; omega, by show (0 : Int) ≤ -1 + 1; omega⟩
end Go.Proofs.YtpiamlgmadnepaaGreat.ND

