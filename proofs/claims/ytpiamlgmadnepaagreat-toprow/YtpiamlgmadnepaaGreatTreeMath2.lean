/-
  How least ways are found: from the nearest node to the next nearest; by making them shorter as long as they can be; whose parent is whose; ways up, kids, and what they cost. Numbers and lists alone; no program.
-/
import Derived.Test.YtpiamlgmadnepaaGreatTreeMath
set_option linter.unusedVariables false
namespace Go.Proofs.YtpiamlgmadnepaaGreat.TM

def upd {α : Type} (F : Nat → α) (y : Nat) (v : α) : Nat → α := fun j => if j = y then v else F j
/-- how far a node is behind a look from f -/
def nv (L : List Ed) (d : List Int) (f x : Nat) : Int := if 0 < cst L f x ∧ (dg d x = -1 ∨ dg d f + cst L f x < dg d x) then dg d f + cst L f x else dg d x
/-- S are done -/
structure DInv (L : List Ed) (n root : Nat) (d : List Int) (S : Nat → Bool) : Prop where
  len : d.length = n
  rt : dg d root = 0
  ach : ∀ x, x < n → dg d x = -1 ∨ Way L n root x (dg d x)
  pos : ∀ x, x < n → S x = true → 0 ≤ dg d x
  rel : ∀ x, x < n → S x = true → ∀ y, y < n → 0 < cst L x y → 0 ≤ dg d y ∧ dg d y ≤ dg d x + cst L x y
  ord : ∀ x, x < n → ∀ y, y < n → S x = true → S y = false → 0 ≤ dg d y → dg d x ≤ dg d y
  bd : ∀ x, x < n → dg d x ≤ 1000000 * (cn S n : Int)
theorem DInv.low {L : List Ed} {n root : Nat} {d : List Int} {S : Nat → Bool} (h : DInv L n root d S) {x : Nat} (hx : x < n) : dg d x = -1 ∨ 0 ≤ dg d x := by
  rcases h.ach x hx with q | q
  · exact .inl q
  · exact .inr q.nonneg
theorem dinv_start (L : List Ed) {n root : Nat} (hr : root < n) : DInv L n root ((List.replicate n (-1)).set root 0) (fun _ => false) := by
  have e : ∀ x, dg ((List.replicate n (-1)).set root 0) x = if x = root then 0 else -1 := fun x => by
    rw [dg_set (by simpa using hr), dg_rep]
  refine ⟨by simp, by rw [e, if_pos rfl], fun x hx => ?_, fun x _ h => by simp at h, fun x _ h => by simp at h, fun x _ y _ h => by simp at h, fun x _ => ?_⟩
  · rw [e]
    by_cases q : x = root
    · subst q; rw [if_pos rfl]; exact .inr (Way.here _ _ _)
    · rw [if_neg q]; exact .inl rfl
  · rw [e]; split <;> omega
/-- the nearest of the first j that are not done -/
def NearTo (d : List Int) (S : Nat → Bool) (j : Nat) (f : Int) : Prop := (f = -1 ∧ ∀ x, x < j → dg d x ≠ -1 → S x = true) ∨ ∃ k : Nat, f = (k : Int) ∧ k < j ∧ dg d k ≠ -1 ∧ S k = false ∧ ∀ y, y < j → S y = false → dg d y ≠ -1 → dg d k ≤ dg d y
theorem near_start (d : List Int) (S : Nat → Bool) : NearTo d S 0 (-1) := .inl ⟨rfl, fun x hx => absurd hx (by omega)⟩
theorem near_skip {d : List Int} {S : Nat → Bool} {j : Nat} {f : Int} (h : NearTo d S j f) (hj : dg d j = -1 ∨ S j = true) : NearTo d S (j + 1) f := by
  rcases h with ⟨h1, h2⟩ | ⟨k, h1, h2, h3, h4, h5⟩
  · refine .inl ⟨h1, fun x hx hn => ?_⟩
    by_cases e : x = j
    · subst e; rcases hj with q | q
      · exact absurd q hn
      · exact q
    · exact h2 x (by omega) hn
  · refine .inr ⟨k, h1, by omega, h3, h4, fun y hy hs hn => ?_⟩
    by_cases e : y = j
    · subst e; rcases hj with q | q
      · exact absurd q hn
      · rw [hs] at q; simp at q
    · exact h5 y (by omega) hs hn
theorem near_first {d : List Int} {S : Nat → Bool} {j : Nat} (h : NearTo d S j (-1)) (h1 : dg d j ≠ -1) (h2 : S j = false) : NearTo d S (j + 1) (j : Int) := by
  rcases h with ⟨_, h3⟩ | ⟨k, h3, _⟩
  · refine .inr ⟨j, rfl, by omega, h1, h2, fun y hy hs hn => ?_⟩
    by_cases e : y = j
    · subst e; omega
    · have := h3 y (by omega) hn; rw [hs] at this; simp at this
  · omega
theorem near_less {d : List Int} {S : Nat → Bool} {j k : Nat} (h : NearTo d S j (k : Int)) (h1 : dg d j ≠ -1) (h2 : S j = false) (hl : dg d j < dg d k) : NearTo d S (j + 1) (j : Int) := by
  rcases h with ⟨h3, _⟩ | ⟨k', h3, h4, h5, h6, h7⟩
  · omega
  · have e : k' = k := by omega
    subst e
    refine .inr ⟨j, rfl, by omega, h1, h2, fun y hy hs hn => ?_⟩
    by_cases e : y = j
    · subst e; omega
    · have := h7 y (by omega) hs hn; omega
theorem near_stay {d : List Int} {S : Nat → Bool} {j k : Nat} (h : NearTo d S j (k : Int)) (hl : ¬ dg d j < dg d k) : NearTo d S (j + 1) (k : Int) := by
  rcases h with ⟨h3, _⟩ | ⟨k', h3, h4, h5, h6, h7⟩
  · omega
  · have e : k' = k := by omega
    subst e
    refine .inr ⟨k', rfl, by omega, h5, h6, fun y hy hs hn => ?_⟩
    by_cases e : y = j
    · subst e; omega
    · exact h7 y (by omega) hs hn
theorem near_cases {d : List Int} {S : Nat → Bool} {j : Nat} {f : Int} (h : NearTo d S j f) : f = -1 ∨ ∃ k : Nat, f = (k : Int) ∧ k < j := by
  rcases h with ⟨h, _⟩ | ⟨k, h, h2, _⟩
  · exact .inl h
  · exact .inr ⟨k, h, h2⟩
theorem nv_self {n : Nat} {L : List Ed} (hF : ∀ e ∈ L, okE n e = true) (d : List Int) (f : Nat) : nv L d f f = dg d f := by
  unfold nv; rw [cst_self hF, if_neg (by omega)]
theorem dinv_next {L : List Ed} {n root k : Nat} {d c : List Int} {S : Nat → Bool} (hF : ∀ e ∈ L, okE n e = true) (h : DInv L n root d S) (hk : k < n) (hr : root < n) (hN : NearTo d S n (k : Int)) (hl : c.length = n) (hc : ∀ x, x < n → dg c x = nv L d k x) :
    DInv L n root c (upd S k true) ∧ cn S n < cn (upd S k true) n := by
  obtain ⟨h5, h6, h7⟩ : dg d k ≠ -1 ∧ S k = false ∧ ∀ y, y < n → S y = false → dg d y ≠ -1 → dg d k ≤ dg d y := by
    rcases hN with ⟨h3, _⟩ | ⟨k', h3, h4, h5, h6, h7⟩
    · omega
    · have e : k' = k := by omega
      subst e; exact ⟨h5, h6, h7⟩
  have hk0 : 0 ≤ dg d k := by rcases h.low hk with q | q <;> omega
  have hup : ∀ x, upd S k true x = true ↔ x = k ∨ S x = true := fun x => by
    unfold upd; split
    · rename_i q; simp [q]
    · rename_i q; simp [q]
  have hnup : ∀ x, upd S k true x = false ↔ x ≠ k ∧ S x = false := fun x => by
    unfold upd; split
    · rename_i q; simp [q]
    · rename_i q; simp [q]
  have hcn : cn S n < cn (upd S k true) n := cn_more (fun x _ hs => (hup x).2 (.inr hs)) hk h6 ((hup k).2 (.inl rfl))
  have old : ∀ x, x < n → S x = true → nv L d k x = dg d x := fun x hx hs => by
    have h1 := h.ord x hx k hk hs h6 hk0
    have h2 := h.pos x hx hs
    unfold nv
    rw [if_neg]
    omega
  have ck : nv L d k k = dg d k := nv_self hF d k
  have hge : ∀ y, y < n → 0 ≤ dg d y → 0 ≤ nv L d k y ∧ nv L d k y ≤ dg d y := fun y hy h0 => by
    unfold nv; split <;> omega
  have hcr := fun y : Nat => cst_range hF (k : Int) (y : Int)
  refine ⟨⟨hl, ?_, ?_, ?_, ?_, ?_, ?_⟩, hcn⟩
  · rw [hc root hr]
    have := h.rt
    unfold nv; rw [if_neg]; · exact this
    omega
  · intro x hx
    rw [hc x hx]
    unfold nv
    split
    · rename_i q
      right
      rcases h.ach k hk with w | w
      · omega
      · exact w.step hk q.1
    · exact h.ach x hx
  · intro x hx hs
    rw [hc x hx]
    rcases (hup x).1 hs with e | e
    · subst e; omega
    · rw [old x hx e]; exact h.pos x hx e
  · intro x hx hs y hy hxy
    rw [hc x hx, hc y hy]
    rcases (hup x).1 hs with e | e
    · subst e
      rw [ck]
      rcases h.low hy with q | q <;> (unfold nv; split <;> omega)
    · rw [old x hx e]
      obtain ⟨h1, h2⟩ := h.rel x hx e y hy hxy
      have := hge y hy h1
      omega
  · intro x hx y hy hs hn h0
    rw [hc y hy] at h0 ⊢
    rw [hc x hx]
    obtain ⟨n1, n2⟩ := (hnup y).1 hn
    have hlow : dg d k ≤ nv L d k y := by
      unfold nv at h0 ⊢
      have := hcr y
      split
      · omega
      · rename_i q
        rw [if_neg q] at h0
        exact h7 y hy n2 (by omega)
    rcases (hup x).1 hs with e | e
    · subst e; rw [ck]; exact hlow
    · rw [old x hx e]
      have := h.ord x hx k hk e h6 hk0
      omega
  · intro x hx
    rw [hc x hx]
    have h1 := h.bd x hx
    have h2 := h.bd k hk
    have h3 := hcr x
    have h4 : (cn S n : Int) + 1 ≤ cn (upd S k true) n := by omega
    unfold nv
    split <;> omega
theorem dinv_end {L : List Ed} {n root : Nat} {d : List Int} {S : Nat → Bool} (h : DInv L n root d S) (hr : root < n) (hN : NearTo d S n (-1)) : IsDist L n root d ∧ ∀ x, dg d x ≤ 16000000 ∨ 16 < n := by
  have hall : ∀ x, x < n → dg d x ≠ -1 → S x = true := by
    rcases hN with ⟨_, h3⟩ | ⟨k, h3, _⟩
    · exact h3
    · omega
  refine ⟨isDist_of h.len hr h.rt h.ach fun x hx h0 y hy hc => h.rel x hx (hall x hx (by omega)) y hy hc, fun x => ?_⟩
  by_cases q : x < n
  · have := h.bd x q
    have := cn_le S n
    omega
  · rw [dg_out (by rw [h.len]; omega)]; omega

/-- does a least way to i come from f -/
def good (L : List Ed) (d : List Int) (i f : Nat) : Prop := 0 < cst L f i ∧ dg d f + cst L f i = dg d i
/-- p is i's parent, of the first m nodes -/
def IsPar (L : List Ed) (d : List Int) (m i : Nat) (p : Int) : Prop := (p = -1 ∧ ∀ f, f < m → ¬ good L d i f) ∨ ∃ k : Nat, p = (k : Int) ∧ k < m ∧ good L d i k ∧ ∀ f, f < k → ¬ good L d i f
theorem IsPar.uniq {L : List Ed} {d : List Int} {m i : Nat} {p q : Int} (h : IsPar L d m i p) (g : IsPar L d m i q) : p = q := by
  rcases h with ⟨a1, a2⟩ | ⟨k, a1, a2, a3, a4⟩ <;> rcases g with ⟨b1, b2⟩ | ⟨k', b1, b2, b3, b4⟩
  · omega
  · exact absurd b3 (a2 k' b2)
  · exact absurd a3 (b2 k a2)
  · rcases Nat.lt_trichotomy k k' with q | q | q
    · exact absurd a3 (b4 k q)
    · omega
    · exact absurd b3 (a4 k' q)
structure IsPars (L : List Ed) (d : List Int) (n : Nat) (P : List Int) : Prop where
  len : P.length = n
  is : ∀ i, i < n → IsPar L d n i (dg P i)
theorem IsPars.uniq {L : List Ed} {d : List Int} {n : Nat} {P Q : List Int} (h : IsPars L d n P) (g : IsPars L d n Q) : P = Q :=
  dg_ext (by rw [h.len, g.len]) fun x hx => (h.is x (by rw [h.len] at hx; exact hx)).uniq (g.is x (by rw [h.len] at hx; exact hx))
theorem IsPars.range {L : List Ed} {d : List Int} {n : Nat} {P : List Int} (h : IsPars L d n P) {i : Nat} (hi : i < n) : -1 ≤ dg P i ∧ dg P i < n := by
  rcases h.is i hi with ⟨a1, a2⟩ | ⟨k, a1, a2, a3, a4⟩ <;> omega
/-- who has a parent is that much further -/
theorem IsPars.par {L : List Ed} {d : List Int} {n : Nat} {P : List Int} (h : IsPars L d n P) {i : Nat} (hi : i < n) (h0 : 0 ≤ dg P i) : ∃ k : Nat, dg P i = (k : Int) ∧ k < n ∧ 0 < cst L k i ∧ dg d k + cst L k i = dg d i := by
  rcases h.is i hi with ⟨a1, a2⟩ | ⟨k, a1, a2, a3, a4⟩
  · omega
  · exact ⟨k, a1, a2, a3.1, a3.2⟩
theorem good_facts {L : List Ed} {n root i f : Nat} {d : List Int} (hD : IsDist L n root d) (hr : root < n) (hi : i < n) (hf : f < n) (hg : good L d i f) : i ≠ root ∧ 0 ≤ dg d i ∧ 0 ≤ dg d f := by
  obtain ⟨h1, h2⟩ := hg
  have l1 := hD.low i
  have l2 := hD.low f
  have h3 : 0 ≤ dg d i := by omega
  have h4 : 0 ≤ dg d f := (hD.rel hi hf h3 (by rw [cst_comm]; exact h1)).1
  refine ⟨?_, h3, h4⟩
  rintro rfl
  have := hD.root hi
  omega
theorem par_some {L : List Ed} {n root i : Nat} {d P : List Int} (hD : IsDist L n root d) (hP : IsPars L d n P) (hi : i < n) (h0 : 0 ≤ dg d i) (hne : i ≠ root) : 0 ≤ dg P i := by
  obtain ⟨x, hx, _, h1, h2⟩ := hD.pred hi h0 hne
  rcases hP.is i hi with ⟨a1, a2⟩ | ⟨k, a1, _⟩
  · exact absurd ⟨h1, h2⟩ (a2 x hx)
  · omega
theorem par_facts {L : List Ed} {n root i : Nat} {d P : List Int} (hD : IsDist L n root d) (hr : root < n) (hP : IsPars L d n P) (hi : i < n) (h0 : 0 ≤ dg P i) : ∃ k : Nat, dg P i = (k : Int) ∧ k < n ∧ 0 < cst L k i ∧ dg d k + cst L k i = dg d i ∧ 0 ≤ dg d k ∧ 0 ≤ dg d i ∧ i ≠ root := by
  obtain ⟨k, h1, h2, h3, h4⟩ := hP.par hi h0
  have := good_facts hD hr hi h2 ⟨h3, h4⟩
  exact ⟨k, h1, h2, h3, h4, this.2.2, this.2.1, this.1⟩

/-- whose way up goes on -/
def pa (P : List Int) (x : Int) : Int := if x < 0 then -1 else dg P x.toNat
def anc (P : List Int) : Nat → Int → Int
  | 0, x => x
  | k + 1, x => anc P k (pa P x)
theorem pa_neg (P : List Int) : pa P (-1) = -1 := by simp [pa]
theorem pa_nat (P : List Int) (x : Nat) : pa P (x : Int) = dg P x := by
  unfold pa; rw [if_neg (by omega)]; rfl
theorem anc_neg (P : List Int) (k : Nat) : anc P k (-1) = -1 := by
  induction k with
  | zero => rfl
  | succ k ih => rw [anc, pa_neg, ih]
theorem anc_out (P : List Int) (k : Nat) (x : Int) : anc P (k + 1) x = pa P (anc P k x) := by
  induction k generalizing x with
  | zero => rfl
  | succ k ih => rw [anc, ih]; rfl
theorem anc_up (P : List Int) {k : Nat} {x : Int} (h : anc P k x = -1) : anc P (k + 1) x = -1 := by rw [anc_out, h, pa_neg]
theorem anc_mono (P : List Int) {k m : Nat} {x : Int} (h : anc P k x = -1) (hm : k ≤ m) : anc P m x = -1 := by
  induction hm with
  | refl => exact h
  | step _ ih => exact anc_up P ih
/-- parents are nodes, or -1 -/
def Rng (P : List Int) : Prop := ∀ i, i < P.length → -1 ≤ dg P i ∧ dg P i < P.length
theorem pa_rng {P : List Int} (h : Rng P) (x : Nat) : pa P (x : Int) = -1 ∨ ∃ y : Nat, pa P (x : Int) = (y : Int) ∧ y < P.length := by
  rw [pa_nat]
  rcases Nat.lt_or_ge x P.length with q | q
  · have := h x q
    by_cases e : dg P x = -1
    · exact .inl e
    · exact .inr ⟨(dg P x).toNat, by omega, by omega⟩
  · exact .inl (dg_out q)
theorem anc_rng {P : List Int} (h : Rng P) {x : Nat} (hx : x < P.length) (k : Nat) : anc P k (x : Int) = -1 ∨ ∃ y : Nat, anc P k (x : Int) = (y : Int) ∧ y < P.length := by
  induction k with
  | zero => exact .inr ⟨x, rfl, hx⟩
  | succ k ih =>
    rw [anc_out]
    rcases ih with q | ⟨y, q, hy⟩
    · rw [q, pa_neg]; exact .inl rfl
    · rw [q]; exact pa_rng h y
theorem anc_count {P : List Int} (h : Rng P) : ∀ k : Nat, (∃ x : Nat, x < P.length ∧ anc P (k + 1) (x : Int) = -1 ∧ anc P k (x : Int) ≠ -1) → k ≤ cn (fun x => decide (anc P k (x : Int) = -1)) P.length := by
  intro k
  induction k with
  | zero => intro _; omega
  | succ k ih =>
    rintro ⟨x, hx, h1, h2⟩
    rcases pa_rng h x with e | ⟨y, e, hy⟩
    · refine absurd ?_ h2
      rw [anc, e, anc_neg]
    · rw [anc, e] at h1 h2
      have h3 := ih ⟨y, hy, h1, h2⟩
      have := cn_more (S := fun x : Nat => decide (anc P k (x : Int) = -1)) (T := fun x : Nat => decide (anc P (k + 1) (x : Int) = -1)) (n := P.length) (y := y)
        (fun z _ hz => by simp at hz ⊢; exact anc_up P hz) hy (by simp; exact h2) (by simp; exact h1)
      omega
theorem anc_stop {P : List Int} (h : Rng P) {x : Nat} (hx : x < P.length) (h1 : anc P (P.length + 1) (x : Int) = -1) : anc P P.length (x : Int) = -1 := by
  by_cases q : anc P P.length (x : Int) = -1
  · exact q
  · have h2 := anc_count h P.length ⟨x, hx, h1, q⟩
    have := cn_lt (S := fun z : Nat => decide (anc P P.length (z : Int) = -1)) hx (by simp; exact q)
    omega
/-- a way up that ends does so in as many steps as there are nodes -/
theorem anc_all {P : List Int} (h : Rng P) : ∀ (k x : Nat), x < P.length → anc P k (x : Int) = -1 → anc P P.length (x : Int) = -1 := by
  intro k
  induction k with
  | zero => intro x hx h1; rw [anc] at h1; omega
  | succ k ih =>
    intro x hx h1
    rw [anc] at h1
    rcases pa_rng h x with e | ⟨y, e, hy⟩
    · refine anc_mono P (k := 1) ?_ (by omega)
      rw [anc, e]; rfl
    · rw [e] at h1
      refine anc_stop h hx ?_
      rw [anc, e]
      exact ih y hy h1
/-- does a way up end -/
def en (P : List Int) (x : Nat) : Bool := decide (anc P P.length (x : Int) = -1)
/-- is one no parent -/
def bad (P : List Int) (p : Int) : Bool := !decide (p = -1) && !isn P.length p
/-- the fault of parents -/
def pf (P : List Int) : Nat := if 16 < P.length then 4 else if P.any (bad P) = true then 1 else if (List.range P.length).any (fun x => !en P x) = true then 3 else 0
theorem pf_le (P : List Int) : pf P ≤ 100 := by
  unfold pf
  repeat' split
  all_goals omega
structure Ok (P : List Int) : Prop where
  len : P.length ≤ 16
  rng : Rng P
  ends : ∀ x, x < P.length → anc P P.length (x : Int) = -1
theorem bad_rng {P : List Int} : P.any (bad P) = false ↔ Rng P := by
  constructor
  · intro h i hi
    have h1 := (List.any_eq_false.1 h) _ (List.getElem_mem hi)
    have e : dg P i = P[i] := by simp [dg, List.getD_eq_getElem?_getD, List.getElem?_eq_getElem hi]
    rw [← e] at h1
    simp [bad, isn] at h1
    by_cases q : dg P i = -1
    · omega
    · have := h1 q; omega
  · intro h
    rw [List.any_eq_false]
    intro p hp
    obtain ⟨i, hi, e⟩ := List.mem_iff_getElem.1 hp
    have e : dg P i = p := by simp [dg, List.getD_eq_getElem?_getD, List.getElem?_eq_getElem hi, e]
    have := h i hi
    rw [e] at this
    simp [bad, isn]
    omega
theorem pf_zero {P : List Int} : pf P = 0 ↔ Ok P := by
  unfold pf
  by_cases h1 : 16 < P.length
  · rw [if_pos h1]
    constructor
    · intro q; omega
    · intro q; have := q.len; omega
  · rw [if_neg h1]
    cases h2 : P.any (bad P) with
    | true =>
      rw [if_pos rfl]
      constructor
      · intro q; omega
      · intro q; rw [bad_rng.2 q.rng] at h2; simp at h2
    | false =>
      rw [if_neg (by simp)]
      cases h3 : (List.range P.length).any (fun x => !en P x) with
      | true =>
        rw [if_pos rfl]
        constructor
        · intro q; omega
        · intro q
          obtain ⟨x, hx, h4⟩ := List.any_eq_true.1 h3
          have := q.ends x (by simpa using hx)
          simp [en, this] at h4
      | false =>
        rw [if_neg (by simp)]
        refine ⟨fun _ => ⟨by omega, bad_rng.1 h2, fun x hx => ?_⟩, fun _ => rfl⟩
        have := (List.any_eq_false.1 h3) x (by simpa using hx)
        simpa [en] using this
/-- the way up, of at most so many -/
def wu (P : List Int) : Nat → Int → List Int
  | 0, _ => []
  | k + 1, x => if x < 0 then [] else x :: wu P k (pa P x)
theorem wu_neg (P : List Int) (k : Nat) : wu P k (-1) = [] := by
  cases k with
  | zero => rfl
  | succ k => rw [wu, if_pos (by omega)]
theorem wu_le (P : List Int) (k : Nat) (x : Int) : (wu P k x).length ≤ k := by
  induction k generalizing x with
  | zero => simp [wu]
  | succ k ih =>
    rw [wu]; split
    · simp
    · have := ih (pa P x); simp; omega
theorem wu_step {P : List Int} {k : Nat} {x : Int} (hx : 0 ≤ x) (h : anc P k x = -1) : ∃ m, k = m + 1 ∧ wu P k x = x :: wu P m (pa P x) ∧ anc P m (pa P x) = -1 := by
  cases k with
  | zero => rw [anc] at h; omega
  | succ k => exact ⟨k, rfl, by rw [wu, if_neg (by omega)], h⟩
/-- the kids of x among the first j -/
def kd (P : List Int) (x : Int) (j : Nat) : List Int := ((List.range j).filter fun i => decide (dg P i = x)).map Int.ofNat
theorem kd_zero (P : List Int) (x : Int) : kd P x 0 = [] := rfl
theorem kd_step (P : List Int) (x : Int) (j : Nat) : kd P x (j + 1) = if dg P j = x then kd P x j ++ [(j : Int)] else kd P x j := by
  unfold kd
  rw [List.range_succ, List.filter_append, List.map_append]
  by_cases h : dg P j = x
  · rw [if_pos h]; simp [h]
  · rw [if_neg h]; simp [h]
theorem kd_len (P : List Int) (x : Int) (j : Nat) : (kd P x j).length ≤ j := by
  induction j with
  | zero => simp [kd]
  | succ j ih =>
    rw [kd_step]; split
    · rw [List.length_append, List.length_singleton]; omega
    · omega
theorem kd_mem {P : List Int} {x : Int} {j i : Nat} (hi : i < j) (h : dg P i = x) : (i : Int) ∈ kd P x j := by
  unfold kd
  simp only [List.mem_map, List.mem_filter, List.mem_range]
  exact ⟨i, ⟨hi, by simpa using h⟩, rfl⟩
/-- what the first j cost together -/
def sm (L : List Ed) (P : List Int) : Nat → Int
  | 0 => 0
  | j + 1 => sm L P j + (if dg P j < 0 then 0 else cst L j (dg P j))
/-- is an edge lacking among the first j -/
def lk (L : List Ed) (P : List Int) : Nat → Bool
  | 0 => false
  | j + 1 => lk L P j || (decide (0 ≤ dg P j) && decide (cst L j (dg P j) = 0))
theorem sm_range {n : Nat} {L : List Ed} (hF : ∀ e ∈ L, okE n e = true) (P : List Int) (j : Nat) : 0 ≤ sm L P j ∧ sm L P j ≤ 1000000 * (j : Int) := by
  induction j with
  | zero => simp [sm]
  | succ j ih =>
    rw [sm]
    have := cst_range hF j (dg P j)
    split <;> omega
theorem lk_mono {L : List Ed} {P : List Int} {j m : Nat} (h : lk L P j = true) (hm : j ≤ m) : lk L P m = true := by
  induction hm with
  | refl => exact h
  | step _ ih => rw [lk, ih]; rfl
/-- the fault of Cost -/
def cf (n : Int) (L : List Ed) (P : List Int) : Nat := if ef n L ≠ 0 then ef n L else if pf P ≠ 0 then pf P else if (P.length : Int) ≠ n then 3 else if lk L P P.length = true then 5 else 0
/-- what Cost gives -/
def cv (n : Int) (L : List Ed) (P : List Int) : Int := if cf n L P = 0 then sm L P P.length else 0
theorem cf_le (n : Int) (L : List Ed) (P : List Int) : cf n L P ≤ 100 := by
  have := ef_le n L
  have := pf_le P
  unfold cf
  repeat' split
  all_goals omega
/-- the fault of a node below parents -/
def bf (P : List Int) (x : Int) : Nat := if pf P ≠ 0 then pf P else if isn P.length x = false then 1 else 0
/-- the fault of Build -/
def lf (n : Int) (L : List Ed) (r : Int) : Nat := if ef n L ≠ 0 then ef n L else if isn n r = false then 1 else 0
theorem bf_le (P : List Int) (x : Int) : bf P x ≤ 100 := by
  have := pf_le P
  unfold bf
  repeat' split
  all_goals omega
theorem lf_le (n : Int) (L : List Ed) (r : Int) : lf n L r ≤ 100 := by
  have := ef_le n L
  unfold lf
  repeat' split
  all_goals omega
theorem bf_zero {P : List Int} {x : Int} (h : bf P x = 0) : Ok P ∧ ∃ k : Nat, x = (k : Int) ∧ k < P.length := by
  unfold bf at h
  split at h
  · rename_i q; exact absurd h q
  · rename_i q
    split at h
    · omega
    · rename_i q2
      refine ⟨pf_zero.1 (by simpa using q), x.toNat, ?_⟩
      simp [isn] at q2
      omega
theorem bf_of {P : List Int} {k : Nat} (h : Ok P) (hk : k < P.length) : bf P (k : Int) = 0 := by
  unfold bf
  rw [if_neg (by simpa using pf_zero.2 h), if_neg (by simp [isn, hk])]
theorem lf_zero {n r : Int} {L : List Ed} (h : lf n L r = 0) : ∃ m k : Nat, n = (m : Int) ∧ r = (k : Int) ∧ k < m ∧ Fit m L := by
  unfold lf at h
  split at h
  · rename_i q; exact absurd h q
  · rename_i q
    split at h
    · omega
    · rename_i q2
      obtain ⟨h0, hF⟩ := ef_zero.1 (by simpa using q)
      simp [isn] at q2
      exact ⟨n.toNat, r.toNat, by omega, by omega, by omega, hF⟩
end Go.Proofs.YtpiamlgmadnepaaGreat.TM

