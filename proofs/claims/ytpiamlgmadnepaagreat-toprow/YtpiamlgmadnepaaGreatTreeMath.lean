/-
  Edges, least ways and parents, as numbers and lists: what is wrong with some, how long the edge between two nodes is, which ways are least, whose parent is whose. No program.
-/
import Derived.WalkKit
set_option linter.unusedVariables false
namespace Go.Proofs.YtpiamlgmadnepaaGreat.TM

/-- an edge: its two nodes, its cost -/
structure Ed where
  a : Int
  b : Int
  c : Int
/-- none -/
def zz : Ed := ⟨0, 0, 0⟩
/-- is it one of n nodes -/
def isn (n x : Int) : Bool := decide (0 ≤ x ∧ x < n)
/-- may an edge be -/
def okE (n : Int) (e : Ed) : Bool := decide (0 ≤ e.a ∧ e.a < n ∧ 0 ≤ e.b ∧ e.b < n ∧ e.a ≠ e.b ∧ 1 ≤ e.c ∧ e.c ≤ 1000000)
theorem okE_iff {n : Int} {e : Ed} : okE n e = true ↔ 0 ≤ e.a ∧ e.a < n ∧ 0 ≤ e.b ∧ e.b < n ∧ e.a ≠ e.b ∧ 1 ≤ e.c ∧ e.c ≤ 1000000 := by simp [okE]
/-- have two edges the same two nodes -/
def two (e f : Ed) : Bool := decide ((e.a = f.a ∧ e.b = f.b) ∨ (e.a = f.b ∧ e.b = f.a))
theorem two_iff {e f : Ed} : two e f = true ↔ (e.a = f.a ∧ e.b = f.b) ∨ (e.a = f.b ∧ e.b = f.a) := by simp [two]
/-- the fault of edges behind others -/
def ck (n : Int) : List Ed → List Ed → Nat
  | _, [] => 0
  | A, e :: r => if okE n e = false then 1 else if A.any (fun f => two f e) = true then 7 else ck n (A ++ [e]) r
/-- the fault of edges -/
def ef (n : Int) (L : List Ed) : Nat := if n < 1 ∨ 16 < n then 1 else if 200 < L.length then 4 else ck n [] L
theorem ck_le (n : Int) (A L : List Ed) : ck n A L ≤ 100 := by
  induction L generalizing A with
  | nil => simp [ck]
  | cons e r ih =>
    rw [ck]
    repeat' split
    · omega
    · omega
    · exact ih _
theorem ef_le (n : Int) (L : List Ed) : ef n L ≤ 100 := by
  unfold ef
  repeat' split
  · omega
  · omega
  · exact ck_le _ _ _
/-- right edges -/
structure Fit (n : Nat) (L : List Ed) : Prop where
  lo : 1 ≤ n
  hi : n ≤ 16
  len : L.length ≤ 200
  ok : ∀ e ∈ L, okE n e = true
  uq : L.Pairwise fun e f => two e f = false
theorem ck_zero {n : Int} {A L : List Ed} : ck n A L = 0 ↔ (∀ e ∈ L, okE n e = true) ∧ (∀ e ∈ L, ∀ f ∈ A, two f e = false) ∧ L.Pairwise fun e f => two e f = false := by
  induction L generalizing A with
  | nil => simp [ck]
  | cons e r ih =>
    rw [ck]
    cases h : okE n e with
    | false =>
      rw [if_pos rfl]
      constructor
      · intro q; omega
      · intro q; have := q.1 e (by simp); rw [h] at this; simp at this
    | true =>
      rw [if_neg (by simp)]
      by_cases h1 : A.any (fun f => two f e) = true
      · rw [if_pos h1]
        constructor
        · intro q; omega
        · intro q
          obtain ⟨f, hf, h2⟩ := List.any_eq_true.1 h1
          have := q.2.1 e (by simp) f hf
          rw [h2] at this; simp at this
      · rw [if_neg h1, ih]
        have h3 : ∀ f ∈ A, two f e = false := fun f hf => by
          cases q : two f e with
          | false => rfl
          | true => exact absurd (List.any_eq_true.2 ⟨f, hf, q⟩) h1
        constructor
        · rintro ⟨p1, p2, p3⟩
          refine ⟨fun x hx => ?_, fun x hx f hf => ?_, List.pairwise_cons.2 ⟨fun x hx => p2 x hx e (by simp), p3⟩⟩
          · rcases List.mem_cons.1 hx with rfl | hx
            · exact h
            · exact p1 x hx
          · rcases List.mem_cons.1 hx with rfl | hx
            · exact h3 f hf
            · exact p2 x hx f (by simp [hf])
        · rintro ⟨p1, p2, p3⟩
          obtain ⟨p4, p5⟩ := List.pairwise_cons.1 p3
          refine ⟨fun x hx => p1 x (by simp [hx]), fun x hx f hf => ?_, p5⟩
          rcases List.mem_append.1 hf with hf | hf
          · exact p2 x (by simp [hx]) f hf
          · simp at hf; subst hf; exact p4 x hx
theorem ef_zero {n : Int} {L : List Ed} : ef n L = 0 ↔ 0 ≤ n ∧ Fit n.toNat L := by
  unfold ef
  by_cases h : n < 1 ∨ 16 < n
  · rw [if_pos h]
    constructor
    · intro q; omega
    · rintro ⟨q, q2⟩; have := q2.lo; have := q2.hi; omega
  · rw [if_neg h]
    by_cases h2 : 200 < L.length
    · rw [if_pos h2]
      constructor
      · intro q; omega
      · rintro ⟨q, q2⟩; have := q2.len; omega
    · rw [if_neg h2, ck_zero]
      have e : ((n.toNat : Nat) : Int) = n := by omega
      constructor
      · rintro ⟨p1, _, p3⟩
        exact ⟨by omega, by omega, by omega, by omega, by rw [e]; exact p1, p3⟩
      · rintro ⟨_, p⟩
        exact ⟨by have := p.ok; rwa [e] at this, by simp, p.uq⟩

/-- does an edge join two nodes -/
def jn (e : Ed) (x y : Int) : Bool := decide ((e.a = x ∧ e.b = y) ∨ (e.b = x ∧ e.a = y))
theorem jn_iff {e : Ed} {x y : Int} : jn e x y = true ↔ (e.a = x ∧ e.b = y) ∨ (e.b = x ∧ e.a = y) := by simp [jn]
theorem jn_comm (e : Ed) (x y : Int) : jn e x y = jn e y x := by
  unfold jn
  rw [decide_eq_decide]
  constructor <;> rintro (⟨h1, h2⟩ | ⟨h1, h2⟩)
  · exact .inr ⟨h2, h1⟩
  · exact .inl ⟨h2, h1⟩
  · exact .inr ⟨h2, h1⟩
  · exact .inl ⟨h2, h1⟩
/-- how long the edge between two is (0: there is none) -/
def cst (L : List Ed) (x y : Int) : Int := L.foldl (fun c e => if jn e x y = true then e.c else c) 0
theorem cst_nil (x y : Int) : cst [] x y = 0 := rfl
theorem cst_snoc (L : List Ed) (e : Ed) (x y : Int) : cst (L ++ [e]) x y = if jn e x y = true then e.c else cst L x y := by simp [cst, List.foldl_append]
theorem take_succ {L : List Ed} {j : Nat} (h : j < L.length) : L.take (j + 1) = L.take j ++ [L.getD j zz] := by
  rw [← List.take_append_getElem h, List.getD_eq_getElem?_getD, List.getElem?_eq_getElem h]; rfl
theorem drop_cons {L : List Ed} {j : Nat} (h : j < L.length) : L.drop j = L.getD j zz :: L.drop (j + 1) := by
  rw [List.drop_eq_getElem_cons h, List.getD_eq_getElem?_getD, List.getElem?_eq_getElem h]
  rfl
theorem getD_mem {L : List Ed} {j : Nat} (h : j < L.length) : L.getD j zz ∈ L := by
  rw [List.getD_eq_getElem?_getD, List.getElem?_eq_getElem h]; exact List.getElem_mem h
theorem cst_take {L : List Ed} {j : Nat} (h : j < L.length) (x y : Int) : cst (L.take (j + 1)) x y = if jn (L.getD j zz) x y = true then (L.getD j zz).c else cst (L.take j) x y := by
  rw [take_succ h, cst_snoc]
theorem cst_comm (L : List Ed) (x y : Int) : cst L x y = cst L y x := by
  unfold cst
  simp only [jn_comm _ x y]
theorem fold_cases (x y : Int) (L : List Ed) (c0 : Int) : (L.foldl (fun c e => if jn e x y = true then e.c else c) c0 = c0 ∧ ∀ e ∈ L, jn e x y = false) ∨ ∃ e ∈ L, jn e x y = true ∧ L.foldl (fun c e => if jn e x y = true then e.c else c) c0 = e.c := by
  induction L generalizing c0 with
  | nil => simp
  | cons e r ih =>
    rw [List.foldl_cons]
    cases h : jn e x y with
    | true =>
      rw [if_pos rfl]
      rcases ih e.c with ⟨h1, h2⟩ | ⟨f, h1, h2, h3⟩
      · exact .inr ⟨e, by simp, h, h1⟩
      · exact .inr ⟨f, by simp [h1], h2, h3⟩
    | false =>
      rw [if_neg (by simp)]
      rcases ih c0 with ⟨h1, h2⟩ | ⟨f, h1, h2, h3⟩
      · refine .inl ⟨h1, fun f hf => ?_⟩
        rcases List.mem_cons.1 hf with rfl | hf
        · exact h
        · exact h2 f hf
      · exact .inr ⟨f, by simp [h1], h2, h3⟩
theorem cst_cases (L : List Ed) (x y : Int) : (cst L x y = 0 ∧ ∀ e ∈ L, jn e x y = false) ∨ ∃ e ∈ L, jn e x y = true ∧ cst L x y = e.c := fold_cases x y L 0
theorem uq_eq {L : List Ed} (h : L.Pairwise fun e f => two e f = false) {e f : Ed} (he : e ∈ L) (hf : f ∈ L) (ht : two e f = true) (ht' : two f e = true) : e = f := by
  induction L with
  | nil => simp at he
  | cons x r ih =>
    obtain ⟨p1, p2⟩ := List.pairwise_cons.1 h
    rcases List.mem_cons.1 he with e1 | e1
    · rcases List.mem_cons.1 hf with f1 | f1
      · rw [e1, f1]
      · subst e1; have := p1 f f1; rw [ht] at this; simp at this
    · rcases List.mem_cons.1 hf with f1 | f1
      · subst f1; have := p1 e e1; rw [ht'] at this; simp at this
      · exact ih p2 e1 f1
theorem jn_two {e f : Ed} {x y : Int} (h1 : jn e x y = true) (h2 : jn f x y = true) : two e f = true := by
  rw [jn_iff] at h1 h2
  rw [two_iff]
  rcases h1 with ⟨a1, a2⟩ | ⟨a1, a2⟩ <;> rcases h2 with ⟨b1, b2⟩ | ⟨b1, b2⟩ <;> rw [a1, a2, b1, b2] <;> simp
theorem cst_mem {n : Nat} {L : List Ed} (hF : Fit n L) {e : Ed} (he : e ∈ L) {x y : Int} (hj : jn e x y = true) : cst L x y = e.c := by
  rcases cst_cases L x y with ⟨_, h⟩ | ⟨f, hf, h1, h2⟩
  · have := h e he; rw [hj] at this; simp at this
  · rw [h2, uq_eq hF.uq hf he (jn_two h1 hj) (jn_two hj h1)]
theorem cst_range {n : Nat} {L : List Ed} (hF : ∀ e ∈ L, okE n e = true) (x y : Int) : 0 ≤ cst L x y ∧ cst L x y ≤ 1000000 ∧ (0 < cst L x y → 0 ≤ x ∧ x < n ∧ 0 ≤ y ∧ y < n ∧ x ≠ y) := by
  rcases cst_cases L x y with ⟨h, _⟩ | ⟨e, he, h1, h2⟩
  · rw [h]; exact ⟨by omega, by omega, fun q => absurd q (by omega)⟩
  · have := okE_iff.1 (hF e he)
    rw [jn_iff] at h1
    rw [h2]
    refine ⟨by omega, by omega, fun _ => ?_⟩
    rcases h1 with ⟨a1, a2⟩ | ⟨a1, a2⟩ <;> (rw [← a1, ← a2]; omega)
theorem cst_self {n : Nat} {L : List Ed} (hF : ∀ e ∈ L, okE n e = true) (x : Int) : cst L x x = 0 := by
  obtain ⟨h1, _, h3⟩ := cst_range hF x x
  rcases Int.lt_or_eq_of_le h1 with h | h
  · exact absurd rfl (h3 h).2.2.2.2
  · exact h.symm

/-- how far a node is -/
def dg (d : List Int) (x : Nat) : Int := d.getD x (-1)
theorem dg_ext {d e : List Int} (hl : d.length = e.length) (h : ∀ x, x < d.length → dg d x = dg e x) : d = e := by
  apply List.ext_getElem hl
  intro i h1 h2
  have := h i h1
  simpa [dg, List.getD_eq_getElem?_getD, List.getElem?_eq_getElem h1, List.getElem?_eq_getElem h2] using this
theorem dg_out {d : List Int} {x : Nat} (h : d.length ≤ x) : dg d x = -1 := by
  simp [dg, List.getD_eq_getElem?_getD, List.getElem?_eq_none h]
theorem dg_set {d : List Int} {y : Nat} (hy : y < d.length) (v : Int) (x : Nat) : dg (d.set y v) x = if x = y then v else dg d x := by
  unfold dg
  rw [List.getD_eq_getElem?_getD, List.getElem?_set]
  by_cases h : y = x
  · subst h; rw [if_pos rfl, if_pos hy, if_pos rfl]; rfl
  · rw [if_neg h, if_neg (fun q => h q.symm), List.getD_eq_getElem?_getD]
theorem dg_rep (n : Nat) (x : Nat) : dg (List.replicate n (-1)) x = -1 := by
  unfold dg
  rw [List.getD_eq_getElem?_getD, List.getElem?_replicate]
  split <;> rfl

/-- a way of so many steps from root, and how long it is -/
def wayN (L : List Ed) (n root : Nat) : Nat → Nat → Int → Prop
  | 0, x, s => x = root ∧ s = 0
  | k + 1, y, s => ∃ x : Nat, x < n ∧ 0 < cst L x y ∧ wayN L n root k x (s - cst L x y)
def Way (L : List Ed) (n root x : Nat) (s : Int) : Prop := ∃ k, wayN L n root k x s
theorem Way.here (L : List Ed) (n root : Nat) : Way L n root root 0 := ⟨0, rfl, rfl⟩
theorem Way.step {L : List Ed} {n root x y : Nat} {s : Int} (h : Way L n root x s) (hx : x < n) (hc : 0 < cst L x y) : Way L n root y (s + cst L x y) := by
  obtain ⟨k, hk⟩ := h
  refine ⟨k + 1, x, hx, hc, ?_⟩
  rw [show s + cst L x y - cst L x y = s by omega]
  exact hk
theorem wayN_nonneg {L : List Ed} {n root : Nat} : ∀ (k x : Nat) (s : Int), wayN L n root k x s → 0 ≤ s
  | 0, x, s, h => by have := h.2; omega
  | k + 1, y, s, ⟨x, _, hc, h⟩ => by have := wayN_nonneg k x _ h; omega
theorem Way.nonneg {L : List Ed} {n root x : Nat} {s : Int} (h : Way L n root x s) : 0 ≤ s := by
  obtain ⟨k, hk⟩ := h
  exact wayN_nonneg k x s hk
/-- d tells of each node how far it is -/
structure IsDist (L : List Ed) (n root : Nat) (d : List Int) : Prop where
  len : d.length = n
  is : ∀ x, x < n → (dg d x = -1 ∧ ∀ s, ¬ Way L n root x s) ∨ (Way L n root x (dg d x) ∧ ∀ s, Way L n root x s → dg d x ≤ s)
theorem isDist_of {L : List Ed} {n root : Nat} {d : List Int} (hl : d.length = n) (hr : root < n) (h0 : dg d root = 0) (ha : ∀ x, x < n → dg d x = -1 ∨ Way L n root x (dg d x))
    (hrel : ∀ x, x < n → 0 ≤ dg d x → ∀ y, y < n → 0 < cst L x y → 0 ≤ dg d y ∧ dg d y ≤ dg d x + cst L x y) : IsDist L n root d := by
  have key : ∀ k x s, x < n → wayN L n root k x s → 0 ≤ dg d x ∧ dg d x ≤ s := by
    intro k
    induction k with
    | zero => rintro x s hx ⟨rfl, rfl⟩; omega
    | succ k ih =>
      rintro y s hy ⟨x, hx, hc, hw⟩
      obtain ⟨h1, h2⟩ := ih x _ hx hw
      have := hrel x hx h1 y hy hc
      omega
  refine ⟨hl, fun x hx => ?_⟩
  rcases ha x hx with h | h
  · refine .inl ⟨h, ?_⟩
    rintro s ⟨k, hk⟩
    have := key k x s hx hk
    omega
  · refine .inr ⟨h, ?_⟩
    rintro s ⟨k, hk⟩
    exact (key k x s hx hk).2
theorem IsDist.uniq {L : List Ed} {n root : Nat} {d e : List Int} (h : IsDist L n root d) (g : IsDist L n root e) : d = e := by
  refine dg_ext (by rw [h.len, g.len]) fun x hx => ?_
  rw [h.len] at hx
  rcases h.is x hx with ⟨a1, a2⟩ | ⟨a1, a2⟩ <;> rcases g.is x hx with ⟨b1, b2⟩ | ⟨b1, b2⟩
  · rw [a1, b1]
  · exact absurd b1 (a2 _)
  · exact absurd a1 (b2 _)
  · have := a2 _ b1; have := b2 _ a1; omega
theorem IsDist.low {L : List Ed} {n root : Nat} {d : List Int} (h : IsDist L n root d) (x : Nat) : -1 ≤ dg d x := by
  rcases Nat.lt_or_ge x n with hx | hx
  · rcases h.is x hx with ⟨a1, _⟩ | ⟨a1, _⟩
    · omega
    · have := a1.nonneg; omega
  · rw [dg_out (by rw [h.len]; exact hx)]; omega
theorem IsDist.way {L : List Ed} {n root : Nat} {d : List Int} (h : IsDist L n root d) {x : Nat} (hx : x < n) (h0 : 0 ≤ dg d x) : Way L n root x (dg d x) := by
  rcases h.is x hx with ⟨a1, _⟩ | ⟨a1, _⟩
  · omega
  · exact a1
theorem IsDist.le {L : List Ed} {n root : Nat} {d : List Int} (h : IsDist L n root d) {x : Nat} (hx : x < n) {s : Int} (hw : Way L n root x s) : 0 ≤ dg d x ∧ dg d x ≤ s := by
  rcases h.is x hx with ⟨_, a2⟩ | ⟨a1, a2⟩
  · exact absurd hw (a2 s)
  · exact ⟨a1.nonneg, a2 s hw⟩
theorem IsDist.root {L : List Ed} {n root : Nat} {d : List Int} (h : IsDist L n root d) (hr : root < n) : dg d root = 0 := by
  have := h.le hr (Way.here L n root); omega
theorem IsDist.rel {L : List Ed} {n root : Nat} {d : List Int} (h : IsDist L n root d) {x y : Nat} (hx : x < n) (hy : y < n) (h0 : 0 ≤ dg d x) (hc : 0 < cst L x y) : 0 ≤ dg d y ∧ dg d y ≤ dg d x + cst L x y :=
  h.le hy ((h.way hx h0).step hx hc)
/-- whence a least way comes -/
theorem IsDist.pred {L : List Ed} {n root : Nat} {d : List Int} (h : IsDist L n root d) {y : Nat} (hy : y < n) (h0 : 0 ≤ dg d y) (hne : y ≠ root) : ∃ x, x < n ∧ 0 ≤ dg d x ∧ 0 < cst L x y ∧ dg d x + cst L x y = dg d y := by
  obtain ⟨k, hk⟩ := h.way hy h0
  cases k with
  | zero => exact absurd hk.1 hne
  | succ k =>
    obtain ⟨x, hx, hc, hw⟩ := hk
    obtain ⟨h1, h2⟩ := h.le hx ⟨k, hw⟩
    have := h.rel hx hy h1 hc
    exact ⟨x, hx, h1, hc, by omega⟩
theorem least_nat (p : Int → Prop) (hp : ∀ s, p s → 0 ≤ s) (h : ∃ s, p s) : ∃ s, p s ∧ ∀ t, p t → s ≤ t := by
  have key : ∀ k : Nat, ∀ s, p s → s ≤ (k : Int) → ∃ s, p s ∧ ∀ t, p t → s ≤ t := by
    intro k
    induction k with
    | zero => intro s hs hk; exact ⟨s, hs, fun t ht => by have := hp t ht; omega⟩
    | succ k ih =>
      intro s hs hk
      by_cases q : ∃ t, p t ∧ t ≤ (k : Int)
      · obtain ⟨t, ht, hle⟩ := q; exact ih t ht hle
      · refine ⟨s, hs, fun t ht => ?_⟩
        rcases Int.lt_or_le (k : Int) t with h' | h'
        · omega
        · exact absurd ⟨t, ht, h'⟩ q
  obtain ⟨s, hs⟩ := h
  exact key s.toNat s hs (by have := hp s hs; omega)
/-- there is one -/
theorem isDist_exists (L : List Ed) (n root : Nat) : ∃ d, IsDist L n root d := by
  have key : ∀ x, ∃ v : Int, (v = -1 ∧ ∀ s, ¬ Way L n root x s) ∨ (Way L n root x v ∧ ∀ s, Way L n root x s → v ≤ s) := by
    intro x
    by_cases q : ∃ s, Way L n root x s
    · obtain ⟨s, h1, h2⟩ := least_nat _ (fun s hs => Way.nonneg hs) q
      exact ⟨s, .inr ⟨h1, h2⟩⟩
    · exact ⟨-1, .inl ⟨rfl, fun s hs => q ⟨s, hs⟩⟩⟩
  have lists : ∀ m : Nat, ∃ d : List Int, d.length = m ∧ ∀ x, x < m → (dg d x = -1 ∧ ∀ s, ¬ Way L n root x s) ∨ (Way L n root x (dg d x) ∧ ∀ s, Way L n root x s → dg d x ≤ s) := by
    intro m
    induction m with
    | zero => exact ⟨[], rfl, fun x hx => absurd hx (by omega)⟩
    | succ m ih =>
      obtain ⟨d, hl, hd⟩ := ih
      obtain ⟨v, hv⟩ := key m
      refine ⟨d ++ [v], by simp [hl], fun x hx => ?_⟩
      by_cases e : x < m
      · have : dg (d ++ [v]) x = dg d x := by unfold dg; rw [List.getD_eq_getElem?_getD, List.getElem?_append_left (by omega), List.getD_eq_getElem?_getD]
        rw [this]; exact hd x e
      · have e : x = m := by omega
        subst e
        have : dg (d ++ [v]) x = v := by unfold dg; rw [List.getD_eq_getElem?_getD, List.getElem?_append_right (by omega)]; simp [hl]
        rw [this]; exact hv
  obtain ⟨d, hl, hd⟩ := lists n
  exact ⟨d, hl, hd⟩

/-- how many of the first n are among S -/
def cn (S : Nat → Bool) : Nat → Nat
  | 0 => 0
  | n + 1 => cn S n + (if S n = true then 1 else 0)
theorem cn_le (S : Nat → Bool) (n : Nat) : cn S n ≤ n := by
  induction n with
  | zero => simp [cn]
  | succ n ih => rw [cn]; split <;> omega
theorem cn_mono {S T : Nat → Bool} {n : Nat} (h : ∀ x, x < n → S x = true → T x = true) : cn S n ≤ cn T n := by
  induction n with
  | zero => simp [cn]
  | succ n ih =>
    have := ih fun x hx => h x (by omega)
    rw [cn, cn]
    by_cases q : S n = true
    · rw [if_pos q, if_pos (h n (by omega) q)]; omega
    · rw [if_neg q]; split <;> omega
theorem cn_more {S T : Nat → Bool} {n y : Nat} (h : ∀ x, x < n → S x = true → T x = true) (hy : y < n) (h1 : S y = false) (h2 : T y = true) : cn S n < cn T n := by
  induction n with
  | zero => omega
  | succ n ih =>
    rw [cn, cn]
    by_cases q : y = n
    · subst q
      have := cn_mono (S := S) (T := T) (n := y) fun x hx => h x (by omega)
      rw [if_neg (by rw [h1]; simp), if_pos h2]; omega
    · have := ih (fun x hx => h x (by omega)) (by omega)
      by_cases q : S n = true
      · rw [if_pos q, if_pos (h n (by omega) q)]; omega
      · rw [if_neg q]; split <;> omega
theorem cn_lt {S : Nat → Bool} {n y : Nat} (hy : y < n) (h1 : S y = false) : cn S n < n :=
  Nat.lt_of_lt_of_le (cn_more (T := fun _ => true) (fun _ _ _ => rfl) hy h1 rfl) (cn_le _ _)
end Go.Proofs.YtpiamlgmadnepaaGreat.TM

