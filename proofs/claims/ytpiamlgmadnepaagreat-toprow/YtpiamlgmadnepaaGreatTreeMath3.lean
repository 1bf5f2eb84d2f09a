/-
  Ways up, step by step; that the parents of least ways are parents; what a way and all of them cost. Numbers and lists alone; no program.
-/
import Derived.Test.YtpiamlgmadnepaaGreatTreeMath2
set_option linter.unusedVariables false
namespace Go.Proofs.YtpiamlgmadnepaaGreat.TM

theorem dg_cons_zero (x : Int) (V : List Int) : dg (x :: V) 0 = x := rfl
theorem dg_cons_succ (x : Int) (V : List Int) (j : Nat) : dg (x :: V) (j + 1) = dg V j := rfl
/-- a way up -/
structure UpW (P : List Int) (x : Nat) (V : List Int) : Prop where
  pos : 1 ≤ V.length
  first : dg V 0 = (x : Int)
  next : ∀ j, j + 1 < V.length → ∃ v u : Nat, v < P.length ∧ u < P.length ∧ dg V j = (v : Int) ∧ dg V (j + 1) = (u : Int) ∧ dg P v = (u : Int)
  last : ∃ v : Nat, v < P.length ∧ dg V (V.length - 1) = (v : Int) ∧ dg P v = -1
theorem wu_up {P : List Int} (hR : Rng P) : ∀ (k x : Nat), x < P.length → anc P k (x : Int) = -1 → UpW P x (wu P k (x : Int)) := by
  intro k
  induction k with
  | zero => intro x hx h; rw [anc] at h; omega
  | succ k ih =>
    intro x hx h
    rw [anc] at h
    rw [wu, if_neg (by omega)]
    rcases pa_rng hR x with e | ⟨y, e, hy⟩
    · rw [e, wu_neg]
      rw [pa_nat] at e
      exact ⟨by simp, rfl, fun j hj => by simp at hj, x, hx, rfl, e⟩
    · rw [e] at h ⊢
      have h1 := ih y hy h
      rw [pa_nat] at e
      refine ⟨by simp, rfl, fun j hj => ?_, ?_⟩
      · cases j with
        | zero => exact ⟨x, y, hx, hy, rfl, by rw [dg_cons_succ]; exact h1.first, e⟩
        | succ j =>
          rw [dg_cons_succ, dg_cons_succ]
          exact h1.next j (by simpa using hj)
      · obtain ⟨v, hv, e1, e2⟩ := h1.last
        refine ⟨v, hv, ?_, e2⟩
        have := h1.pos
        rw [List.length_cons, show (wu P k (y : Int)).length + 1 - 1 = ((wu P k (y : Int)).length - 1) + 1 by omega, dg_cons_succ]
        exact e1
theorem dg_rev {L : List Int} {x : Nat} (h : x < L.length) : dg L.reverse x = dg L (L.length - 1 - x) := by
  simp [dg, List.getD_eq_getElem?_getD, List.getElem?_reverse h]
/-- a way down: from the top to x -/
structure DnW (P : List Int) (x : Nat) (W : List Int) : Prop where
  pos : 1 ≤ W.length
  last : dg W (W.length - 1) = (x : Int)
  next : ∀ i, 1 ≤ i → i < W.length → ∃ u v : Nat, u < P.length ∧ v < P.length ∧ dg W (i - 1) = (u : Int) ∧ dg W i = (v : Int) ∧ dg P v = (u : Int)
  top : ∃ v : Nat, v < P.length ∧ dg W 0 = (v : Int) ∧ dg P v = -1
theorem UpW.down {P : List Int} {x : Nat} {V : List Int} (h : UpW P x V) : DnW P x V.reverse := by
  have hp := h.pos
  refine ⟨by simpa using hp, ?_, fun i h1 h2 => ?_, ?_⟩
  · rw [List.length_reverse, dg_rev (by omega), show V.length - 1 - (V.length - 1) = 0 by omega]; exact h.first
  · rw [List.length_reverse] at h2
    obtain ⟨v, u, hv, hu, e1, e2, e3⟩ := h.next (V.length - 1 - i) (by omega)
    refine ⟨u, v, hu, hv, ?_, ?_, e3⟩
    · rw [dg_rev (by omega), show V.length - 1 - (i - 1) = V.length - 1 - i + 1 by omega]; exact e2
    · rw [dg_rev (by omega)]; exact e1
  · obtain ⟨v, hv, e1, e2⟩ := h.last
    exact ⟨v, hv, by rw [dg_rev (by omega)]; exact e1, e2⟩
/-- the parents of least ways are parents -/
theorem pars_ok {L : List Ed} {n root : Nat} {d P : List Int} (hF : Fit n L) (hD : IsDist L n root d) (hr : root < n) (hP : IsPars L d n P) : Ok P := by
  have hl := hP.len
  have hR : Rng P := fun i hi => by have := hP.range (i := i) (by omega); omega
  refine ⟨by rw [hl]; exact hF.hi, hR, fun x hx => ?_⟩
  have key : ∀ k x : Nat, x < n → dg d x < (k : Int) → anc P (k + 1) (x : Int) = -1 := by
    intro k
    induction k with
    | zero =>
      intro x hx hk
      rw [anc, anc, pa_nat]
      by_cases q : 0 ≤ dg P x
      · obtain ⟨_, _, _, _, _, _, h6, _⟩ := par_facts hD hr hP hx q
        omega
      · have := hP.range hx; omega
    | succ k ih =>
      intro x hx hk
      rw [anc, pa_nat]
      by_cases q : 0 ≤ dg P x
      · obtain ⟨y, e, hy, h3, h4, _, _, _⟩ := par_facts hD hr hP hx q
        rw [e]
        exact ih y hy (by omega)
      · have e : dg P x = -1 := by have := hP.range hx; omega
        rw [e, anc_neg]
  exact anc_all hR _ x hx (key ((dg d x).toNat + 1) x (by omega) (by omega))
theorem DnW.root {L : List Ed} {n root x : Nat} {d P W : List Int} (hD : IsDist L n root d) (hr : root < n) (hP : IsPars L d n P) (h : DnW P x W) (h0 : 0 ≤ dg d x) : dg W 0 = (root : Int) := by
  have hl := hP.len
  have key : ∀ i, i < W.length → ∃ v : Nat, v < n ∧ dg W (W.length - 1 - i) = (v : Int) ∧ 0 ≤ dg d v := by
    intro i
    induction i with
    | zero =>
      intro _
      rw [Nat.sub_zero]
      rcases Nat.lt_or_ge x n with q | q
      · exact ⟨x, q, h.last, h0⟩
      · rw [dg_out (by rw [hD.len]; exact q)] at h0; omega
    | succ i ih =>
      intro hi
      obtain ⟨v, hv, e, h1⟩ := ih (by omega)
      obtain ⟨u, v', hu, hv', e1, e2, e3⟩ := h.next (W.length - 1 - i) (by omega) (by omega)
      rw [e] at e2
      obtain rfl : v = v' := by omega
      obtain ⟨k, q1, q2, _, _, q5, _⟩ := par_facts hD hr hP hv (by omega)
      refine ⟨u, by omega, by rw [show W.length - 1 - (i + 1) = W.length - 1 - i - 1 by omega]; exact e1, ?_⟩
      obtain rfl : k = u := by omega
      exact q5
  have hp := h.pos
  obtain ⟨v, hv, e, h1⟩ := key (W.length - 1) (by omega)
  rw [show W.length - 1 - (W.length - 1) = 0 by omega] at e
  obtain ⟨v', hv', e1, e2⟩ := h.top
  rw [e] at e1
  obtain rfl : v = v' := by omega
  rw [e]
  by_cases q : v = root
  · rw [q]
  · have := par_some hD hP hv h1 q
    omega
theorem DnW.one {L : List Ed} {n root x : Nat} {d P W : List Int} (hD : IsDist L n root d) (hr : root < n) (hP : IsPars L d n P) (h : DnW P x W) (h0 : dg d x < 0) : W.length = 1 := by
  have hp := h.pos
  by_cases q : W.length = 1
  · exact q
  · obtain ⟨u, v, hu, hv, e1, e2, e3⟩ := h.next (W.length - 1) (by omega) (by omega)
    have := h.last
    rw [this] at e2
    obtain rfl : x = v := by omega
    obtain ⟨k, _, _, _, _, _, q6, _⟩ := par_facts hD hr hP (by rw [← hP.len]; exact hv) (by omega)
    omega
/-- a step of a way -/
theorem DnW.step {L : List Ed} {n root x : Nat} {d P W : List Int} (hD : IsDist L n root d) (hr : root < n) (hP : IsPars L d n P) (h : DnW P x W) {i : Nat} (h1 : 1 ≤ i) (hi : i < W.length) :
    ∃ u v : Nat, u < n ∧ v < n ∧ dg W (i - 1) = (u : Int) ∧ dg W i = (v : Int) ∧ dg P v = (u : Int) ∧ 0 < cst L u v ∧ dg d u + cst L u v = dg d v ∧ 0 ≤ dg d u := by
  obtain ⟨u, v, hu, hv, e1, e2, e3⟩ := h.next i h1 hi
  obtain ⟨k, q1, q2, q3, q4, q5, _⟩ := par_facts hD hr hP (by rw [← hP.len]; exact hv) (by omega)
  obtain rfl : k = u := by omega
  exact ⟨k, v, q2, by rw [← hP.len]; exact hv, e1, e2, e3, q3, q4, q5⟩
/-- what the first j cost together, by how far they are -/
def sd (d P : List Int) : Nat → Int
  | 0 => 0
  | j + 1 => sd d P j + (if dg P j < 0 then 0 else dg d j - dg d (dg P j).toNat)
theorem sm_sd {L : List Ed} {n root : Nat} {d P : List Int} (hD : IsDist L n root d) (hr : root < n) (hP : IsPars L d n P) : ∀ j, j ≤ n → sm L P j = sd d P j ∧ lk L P j = false
  | 0, _ => ⟨rfl, rfl⟩
  | j + 1, hj => by
    obtain ⟨h1, h2⟩ := sm_sd hD hr hP j (by omega)
    rw [sm, sd, lk, h1, h2]
    by_cases q : 0 ≤ dg P j
    · obtain ⟨k, e, _, q3, q4, _⟩ := par_facts hD hr hP (i := j) (by omega) q
      rw [e]
      have := cst_comm L j k
      rw [if_neg (by omega), if_neg (by omega), Int.toNat_natCast]
      refine ⟨by omega, ?_⟩
      rw [this]
      simp
      omega
    · rw [if_pos (by omega), if_pos (by omega)]
      simp
      omega
theorem cost_built {L : List Ed} {n root : Nat} {d P : List Int} (hF : Fit n L) (hD : IsDist L n root d) (hr : root < n) (hP : IsPars L d n P) : cf n L P = 0 ∧ cv n L P = sd d P n := by
  have hO := pars_ok hF hD hr hP
  have hs := sm_sd hD hr hP n (by omega)
  have e : cf n L P = 0 := by
    unfold cf
    rw [if_neg (by simpa using ef_zero.2 ⟨by omega, by simpa using hF⟩), if_neg (by simpa using pf_zero.2 hO), if_neg (by rw [hP.len]; simp), hP.len, hs.2, if_neg (by simp)]
  exact ⟨e, by unfold cv; rw [if_pos e, hP.len, hs.1]⟩
end Go.Proofs.YtpiamlgmadnepaaGreat.TM

