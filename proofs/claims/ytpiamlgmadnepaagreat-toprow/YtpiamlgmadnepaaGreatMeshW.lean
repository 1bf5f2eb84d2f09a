/-
  Packets on their way down: that all land, and that then all have come. What a tick does where nothing lacks. Of numbers and lists alone; no walk.
-/
import Derived.Test.YtpiamlgmadnepaaGreatMeshV
namespace Go.Proofs.YtpiamlgmadnepaaGreat.MS
open Go.ChangeShapes Go.WideShapes Go.ChangeAt Go.RowKit Go.Maps Go.Proofs.YtpiamlgmadnepaaGreat.Mem Go.Proofs.YtpiamlgmadnepaaGreat.NO Go.Proofs.YtpiamlgmadnepaaGreat.ND
set_option linter.unusedVariables false

def sumN (f : Nat → Nat) : Nat → Nat
  | 0 => 0
  | m + 1 => sumN f m + f m
theorem sumN_congr {f g : Nat → Nat} : ∀ m, (∀ q, q < m → g q = f q) → sumN g m = sumN f m
  | 0, _ => rfl
  | m + 1, h => by rw [sumN, sumN, sumN_congr m (fun q hq => h q (by omega)), h m (by omega)]
theorem sumN_inc {f g : Nat → Nat} {q0 : Nat} (h0 : g q0 = f q0 + 1) : ∀ m, q0 < m → (∀ q, q < m → q ≠ q0 → g q = f q) → sumN g m = sumN f m + 1
  | 0, h, _ => by omega
  | m + 1, h, hq => by
    by_cases c : q0 = m
    · subst c
      rw [sumN, sumN, sumN_congr q0 (fun q hq' => hq q (by omega) (by omega)), h0]
      omega
    · rw [sumN, sumN, sumN_inc h0 m (by omega) (fun q hq' => hq q (by omega)), hq m (by omega) (by omega)]
      omega
theorem sumN_le {f : Nat → Nat} {b : Nat} : ∀ m, (∀ q, q < m → f q ≤ b) → sumN f m ≤ m * b
  | 0, _ => by simp [sumN]
  | m + 1, h => by
    rw [sumN, Nat.succ_mul]
    have := sumN_le m (fun q hq => h q (by omega))
    have := h m (by omega)
    omega
theorem len_sum : ∀ X : List Fy, (∀ x ∈ X, x.k < 8 ∧ x.v < 16) → X.length = sumN (fun q => (X.filter (Fy.is (q / 16) (q % 16))).length) 128
  | [], _ => by
    have : ∀ m, sumN (fun _ => 0) m = 0 := fun m => by induction m with
      | zero => rfl
      | succ m ih => rw [sumN, ih]
    exact ((sumN_congr (f := fun _ => 0) 128 (fun q hq => rfl)).trans (this 128)).symm
  | x :: X, h => by
    obtain ⟨h1, h2⟩ := h x (List.mem_cons_self ..)
    have ih := len_sum X (fun y hy => h y (List.mem_cons_of_mem _ hy))
    rw [List.length_cons, ih]
    refine (sumN_inc (q0 := x.k * 16 + x.v) ?_ 128 (by omega) ?_).symm
    · have e1 : (x.k * 16 + x.v) / 16 = x.k := by omega
      have e2 : (x.k * 16 + x.v) % 16 = x.v := by omega
      simp only [e1, e2]
      rw [List.filter_cons_of_pos (by simp [Fy.is]), List.length_cons]
    · intro q hq hne
      rw [List.filter_cons_of_neg]
      simp only [Fy.is, decide_eq_true_eq]
      rintro ⟨a, b⟩
      omega
theorem Pipe.n16 {Q : Plan} {h : Nat → Nat → Nat} {X : List Fy} {M : Ms} (hP : Pipe Q h X M) : Q.n ≤ 16 := by rw [← hP.n]; exact hP.ok.n16
theorem Pipe.few {Q : Plan} (hQ : Q.Ok) {h : Nat → Nat → Nat} {X : List Fy} {M : Ms} (hP : Pipe Q h X M) : M.fl.length ≤ 128000 := by
  have h16 := hP.n16
  rw [hP.fl, List.length_map, len_sum X (fun x hx => ⟨(hP.xs x hx).1, by have := (hP.xs x hx).2.1; omega⟩)]
  have : ∀ q, q < 128 → (X.filter (Fy.is (q / 16) (q % 16))).length ≤ 1000 := by
    intro q hq
    cases e : X.filter (Fy.is (q / 16) (q % 16)) with
    | nil => simp
    | cons y Y =>
      have hy : y ∈ X.filter (Fy.is (q / 16) (q % 16)) := by rw [e]; exact List.mem_cons_self ..
      obtain ⟨y1, y2⟩ := List.mem_filter.1 hy
      obtain ⟨a, b⟩ : y.k = q / 16 ∧ y.v = q % 16 := by simpa [Fy.is] using y2
      obtain ⟨z1, z2, z3, z4⟩ := hP.xs y y1
      obtain ⟨f1, f2⟩ := hP.fi y.k z1 z3 y.v z2 (TM.dg (Q.p y.k) y.v).toNat (by omega)
      rw [a, b] at f2
      have := congrArg List.length f2
      rw [List.length_map, List.length_range', e] at this
      rw [this]
      have := hP.le (q / 16) (by omega) (TM.dg (Q.p (q / 16)) (q % 16)).toNat
      have := hQ.mx (q / 16)
      omega
  exact sumN_le 128 this
/-- how much is still to be heard -/
def left (Q : Plan) (h : Nat → Nat → Nat) : Nat := sumN (fun q => Q.mx (q / 16) - h (q / 16) (q % 16)) 128
theorem left_up {Q : Plan} {h : Nat → Nat → Nat} {k v : Nat} (hk : k < 8) (hv : v < 16) (hi : h k v < Q.mx k) : left Q (upH h k v) < left Q h := by
  have : left Q h = left Q (upH h k v) + 1 := by
    refine sumN_inc (q0 := k * 16 + v) ?_ 128 (by omega) ?_
    · have e1 : (k * 16 + v) / 16 = k := by omega
      have e2 : (k * 16 + v) % 16 = v := by omega
      simp only [e1, e2, upH_at]
      omega
    · intro q hq hne
      rw [upH_ne h (by omega)]
  omega
/-- what is kept while all land -/
def PipeI (Q : Plan) (C : (Nat → Nat → Nat) → Prop) (R : Ms → Prop) (g : Nat) (M : Ms) : Prop := ∃ h X, Pipe Q h X M ∧ C h ∧ R M ∧ left Q h = g
theorem pipe_lt {Q : Plan} {h : Nat → Nat → Nat} {X : List Fy} {x : Fy} {M : Ms} (hQ : Q.Ok) (hP : Pipe Q h (x :: X) M) : h x.k x.v < Q.mx x.k := by
  obtain ⟨hk, hv, hon, hpa⟩ := hP.xs _ (List.mem_cons_self ..)
  obtain ⟨f1, f2⟩ := hP.fi x.k hk hon x.v hv (TM.dg (Q.p x.k) x.v).toNat (by omega)
  rw [List.filter_cons_of_pos (by simp [Fy.is]), List.map_cons] at f2
  have := congrArg List.length f2
  rw [List.length_cons, List.length_range'] at this
  have := hP.le x.k hk (TM.dg (Q.p x.k) x.v).toNat
  omega
theorem pipe_falls {Q : Plan} (hQ : Q.Ok) (C : (Nat → Nat → Nat) → Prop) (hC : ∀ h k v, v ≠ Q.rt k → C h → C (upH h k v)) (R : Ms → Prop) (hR : ∀ M i f m bv, R M → R (M.land i f m bv)) : Falls (PipeI Q C R) := by
  refine ⟨?_, ?_⟩
  · rintro g M ⟨h, X, hP, _⟩
    exact ⟨hP.ok, Nat.le_trans (hP.few hQ) (by omega)⟩
  · rintro g M f F ⟨h, X, hP, hc, hr, rfl⟩ hf
    have hfl := hP.fl
    cases X with
    | nil => rw [hf] at hfl; cases hfl
    | cons x X =>
      rw [hf, List.map_cons] at hfl
      injection hfl with hf1 hf2
      subst hf1
      obtain ⟨m, hL, hm⟩ := hP.land hQ
      refine ⟨m, hL, fun bv => ⟨left Q (upH h x.k x.v), left_up (hP.xs _ (List.mem_cons_self ..)).1 ?_ (pipe_lt hQ hP), _, _, hm bv, hC _ _ _ ?_ hc, hR _ _ _ _ _ hr, rfl⟩⟩
      · have := (hP.xs _ (List.mem_cons_self ..)).2.1
        have := hP.n16
        omega
      · intro e
        obtain ⟨z1, z2, z3, z4⟩ := hP.xs _ (List.mem_cons_self ..)
        have := (hQ.tr x.k z1 z3).root_pa
        rw [← e] at this
        omega
/-- when nothing flies all have heard all -/
theorem Pipe.all {Q : Plan} (hQ : Q.Ok) {h : Nat → Nat → Nat} {M : Ms} (hP : Pipe Q h [] M) {k : Nat} (hk : k < 8) (hon : Q.on k = true) : ∀ (g v : Nat), v < Q.n → 0 ≤ TM.dg (Q.d k) v → (TM.dg (Q.d k) v).toNat ≤ g → h k v = h k (Q.rt k) := by
  intro g
  induction g with
  | zero =>
    intro v hv hd hg
    by_cases c : v = Q.rt k
    · rw [c]
    · rcases (hQ.tr k hk hon).pa hv with e | ⟨u, e, h1, h2, h3, h4⟩
      · obtain ⟨u, e', _⟩ := (hQ.tr k hk hon).up hv hd c
        omega
      · omega
  | succ g ih =>
    intro v hv hd hg
    by_cases c : v = Q.rt k
    · rw [c]
    · obtain ⟨u', e', _⟩ := (hQ.tr k hk hon).up hv hd c
      rcases (hQ.tr k hk hon).pa hv with e | ⟨u, e, h1, h2, h3, h4⟩
      · omega
      · obtain ⟨f1, f2⟩ := hP.fi k hk hon v hv u e
        have := congrArg List.length f2
        simp only [List.filter_nil, List.map_nil, List.length_nil, List.length_range'] at this
        rw [← ih u h1 h4 (by omega)]
        omega
end Go.Proofs.YtpiamlgmadnepaaGreat.MS

