/-
  Views as lists of members: what is wrong with one, whom it has, what two come to. Of numbers and lists alone; no program.
-/
import Derived.WalkKit
set_option linter.unusedVariables false
namespace Go.Proofs.YtlahlgoknolniafDoor.VM

/-- a member: its node, its version, whether it is up -/
structure Mb where
  n : Int
  v : Int
  u : Bool
/-- none -/
def zz : Mb := ⟨0, 0, false⟩
/-- is one another one -/
def mne (x y : Mb) : Bool := !(decide (x.n = y.n) && decide (x.v = y.v) && (x.u == y.u))
theorem mne_self (x : Mb) : mne x x = false := by simp [mne]
theorem mne_false {x y : Mb} : mne x y = false ↔ x = y := by
  obtain ⟨a, b, c⟩ := x
  obtain ⟨d, e, f⟩ := y
  simp [mne, and_assoc]
theorem mne_ne {x y : Mb} (h : x ≠ y) : mne x y = true := by
  cases e : mne x y with
  | true => rfl
  | false => exact absurd (mne_false.1 e) h
/-- by node, rising -/
def Rises (L : List Mb) : Prop := L.Pairwise fun x y => x.n < y.n
/-- the one of a node -/
def lk : List Mb → Int → Option Mb
  | [], _ => none
  | x :: r, k => if x.n = k then some x else lk r k
theorem lk_node {L : List Mb} {k : Int} {x : Mb} (h : lk L k = some x) : x.n = k := by
  induction L with
  | nil => simp [lk] at h
  | cons y r ih =>
    rw [lk] at h
    split at h
    · simp only [Option.some.injEq] at h; subst h; assumption
    · exact ih h
theorem lk_mem {L : List Mb} {k : Int} {x : Mb} (h : lk L k = some x) : x ∈ L := by
  induction L with
  | nil => simp [lk] at h
  | cons y r ih =>
    rw [lk] at h
    split at h
    · simp only [Option.some.injEq] at h; subst h; simp
    · exact List.mem_cons_of_mem _ (ih h)
theorem lk_none {L : List Mb} {k : Int} (h : ∀ x ∈ L, x.n ≠ k) : lk L k = none := by
  induction L with
  | nil => rfl
  | cons y r ih =>
    rw [lk, if_neg (h y (by simp))]
    exact ih fun x hx => h x (List.mem_cons_of_mem _ hx)
theorem lk_of_mem {L : List Mb} (hr : Rises L) {x : Mb} (h : x ∈ L) : lk L x.n = some x := by
  induction L with
  | nil => simp at h
  | cons y r ih =>
    have hp := List.pairwise_cons.1 hr
    rw [lk]
    rcases List.mem_cons.1 h with rfl | h
    · rw [if_pos rfl]
    · rw [if_neg (by have := hp.1 x h; omega)]
      exact ih hp.2 h
theorem rises_ext {A B : List Mb} (ha : Rises A) (hb : Rises B) (h : ∀ k, lk A k = lk B k) : A = B := by
  induction A generalizing B with
  | nil =>
    cases B with
    | nil => rfl
    | cons b s => have := h b.n; simp [lk] at this
  | cons a r ih =>
    cases B with
    | nil => have := h a.n; simp [lk] at this
    | cons b s =>
      have pa := List.pairwise_cons.1 ha
      have pb := List.pairwise_cons.1 hb
      have e : a = b := by
        rcases Int.lt_trichotomy a.n b.n with hl | hl | hl
        · have h1 := h a.n
          rw [lk, if_pos rfl, lk_none (L := b :: s)] at h1
          · simp at h1
          · intro x hx
            rcases List.mem_cons.1 hx with rfl | hx
            · omega
            · have := pb.1 x hx; omega
        · have h1 := h a.n
          rw [lk, if_pos rfl, lk, if_pos hl.symm] at h1
          simpa using h1
        · have h1 := h b.n
          rw [lk_none (L := a :: r), lk, if_pos rfl] at h1
          · simp at h1
          · intro x hx
            rcases List.mem_cons.1 hx with rfl | hx
            · omega
            · have := pa.1 x hx; omega
      subst e
      congr 1
      refine ih pa.2 pb.2 fun k => ?_
      by_cases hk : a.n = k
      · subst hk
        rw [lk_none fun x hx => by have := pa.1 x hx; omega, lk_none fun x hx => by have := pb.1 x hx; omega]
      · have h1 := h k
        rwa [lk, if_neg hk, lk, if_neg hk] at h1

/-- may a member be -/
def okm (m : Mb) : Bool := decide (0 ≤ m.n ∧ m.n ≤ 15 ∧ 1 ≤ m.v ∧ m.v ≤ 1000000)
theorem okm_iff {m : Mb} : okm m = true ↔ 0 ≤ m.n ∧ m.n ≤ 15 ∧ 1 ≤ m.v ∧ m.v ≤ 1000000 := by simp [okm]
/-- the fault of members behind one of node a -/
def ck : Int → List Mb → Nat
  | _, [] => 0
  | a, m :: r => if okm m = false then 1 else if m.n ≤ a then 3 else ck m.n r
/-- the fault of a view -/
def vf (L : List Mb) : Nat := if 16 < L.length then 4 else ck (-1) L
theorem ck_le (a : Int) (L : List Mb) : ck a L ≤ 100 := by
  induction L generalizing a with
  | nil => simp [ck]
  | cons m r ih =>
    rw [ck]
    repeat' split
    · omega
    · omega
    · exact ih _
theorem vf_le (L : List Mb) : vf L ≤ 100 := by
  unfold vf
  split
  · omega
  · exact ck_le _ _
/-- a right view -/
structure Fit (L : List Mb) : Prop where
  len : L.length ≤ 16
  ok : ∀ m ∈ L, okm m = true
  ris : Rises L
theorem ck_zero {a : Int} {L : List Mb} : ck a L = 0 ↔ (∀ m ∈ L, okm m = true) ∧ (∀ m ∈ L, a < m.n) ∧ Rises L := by
  induction L generalizing a with
  | nil => simp [ck, Rises]
  | cons m r ih =>
    rw [ck]
    cases e : okm m with
    | false =>
      rw [if_pos rfl]
      constructor
      · intro h; omega
      · intro h; have := h.1 m (by simp); rw [e] at this; simp at this
    | true =>
      rw [if_neg (by simp)]
      by_cases h1 : m.n ≤ a
      · rw [if_pos h1]
        constructor
        · intro h; omega
        · intro h; have := h.2.1 m (by simp); omega
      · rw [if_neg h1, ih]
        constructor
        · rintro ⟨a1, a2, a3⟩
          refine ⟨fun x hx => ?_, fun x hx => ?_, List.pairwise_cons.2 ⟨a2, a3⟩⟩
          · rcases List.mem_cons.1 hx with rfl | hx
            · exact e
            · exact a1 x hx
          · rcases List.mem_cons.1 hx with rfl | hx
            · omega
            · have := a2 x hx; omega
        · rintro ⟨a1, a2, a3⟩
          have p := List.pairwise_cons.1 a3
          exact ⟨fun x hx => a1 x (List.mem_cons_of_mem _ hx), p.1, p.2⟩
theorem fit_iff {L : List Mb} : vf L = 0 ↔ Fit L := by
  unfold vf
  constructor
  · intro h
    split at h
    · omega
    · obtain ⟨a, b, c⟩ := ck_zero.1 h
      exact ⟨by omega, a, c⟩
  · intro h
    rw [if_neg (by have := h.len; omega)]
    exact ck_zero.2 ⟨h.ok, fun m hm => by have := okm_iff.1 (h.ok m hm); omega, h.ris⟩
theorem few {L : List Mb} {a : Nat} (hr : Rises L) (h : ∀ m ∈ L, (a : Int) ≤ m.n ∧ m.n ≤ 15) (ha : a ≤ 16) : L.length ≤ 16 - a := by
  induction L generalizing a with
  | nil => simp
  | cons m r ih =>
    have p := List.pairwise_cons.1 hr
    have hm := h m (by simp)
    have := ih (a := m.n.toNat + 1) p.2 (fun x hx => by have := p.1 x hx; have := (h x (List.mem_cons_of_mem _ hx)).2; omega) (by omega)
    simp only [List.length_cons]
    omega
theorem Fit.mk2 {L : List Mb} (hr : Rises L) (ho : ∀ m ∈ L, okm m = true) : Fit L :=
  ⟨by have := few (a := 0) hr (fun m hm => by have := okm_iff.1 (ho m hm); omega) (by omega); omega, ho, hr⟩
theorem Fit.nil : Fit [] := Fit.mk2 List.Pairwise.nil (by simp)
theorem Fit.sub {L K : List Mb} (h : Fit L) (hs : K.Sublist L) : Fit K := Fit.mk2 (List.Pairwise.sublist hs h.ris) fun m hm => h.ok m (hs.subset hm)
theorem Fit.low {L : List Mb} (h : Fit L) {k : Int} (hk : k < 0 ∨ 15 < k) : lk L k = none :=
  lk_none fun x hx => by have := okm_iff.1 (h.ok x hx); omega

/-- where a node is, or would be -/
def pl : List Mb → Int → Nat
  | [], _ => 0
  | x :: r, k => if x.n < k then pl r k + 1 else 0
theorem pl_le (L : List Mb) (k : Int) : pl L k ≤ L.length := by
  induction L with
  | nil => simp [pl]
  | cons x r ih =>
    rw [pl]
    split
    · simp; exact ih
    · omega
theorem pl_of {L : List Mb} {k : Int} {i : Nat} (hi : i ≤ L.length) (h1 : ∀ t, t < i → (L.getD t zz).n < k) (h2 : ∀ t, i ≤ t → t < L.length → k ≤ (L.getD t zz).n) : pl L k = i := by
  induction L generalizing i with
  | nil => simp at hi; simp [pl, hi]
  | cons x r ih =>
    rw [pl]
    cases i with
    | zero =>
      have := h2 0 (by omega) (by simp)
      simp at this
      rw [if_neg (by omega)]
    | succ i =>
      have := h1 0 (by omega)
      simp at this
      rw [if_pos this, ih (by simpa using hi) (fun t ht => by simpa using h1 (t + 1) (by omega)) (fun t h3 h4 => by simpa using h2 (t + 1) (by omega) (by simpa using h4))]
/-- is it there -/
def fd (L : List Mb) (k : Int) : Bool := decide (pl L k < L.length) && decide ((L.getD (pl L k) zz).n = k)
theorem lk_fd {L : List Mb} (hr : Rises L) (k : Int) : lk L k = if fd L k then some (L.getD (pl L k) zz) else none := by
  induction L with
  | nil => simp [lk, fd]
  | cons x r ih =>
    have p := List.pairwise_cons.1 hr
    have ih := ih p.2
    rw [lk]
    by_cases h1 : x.n = k
    · have e : pl (x :: r) k = 0 := by rw [pl, if_neg (by omega)]
      rw [if_pos h1, fd, e]
      simp [h1]
    · rw [if_neg h1]
      by_cases h2 : x.n < k
      · have e : pl (x :: r) k = pl r k + 1 := by rw [pl, if_pos h2]
        rw [ih, fd, fd, e]
        simp
      · have e : pl (x :: r) k = 0 := by rw [pl, if_neg h2]
        rw [lk_none fun y hy => by have := p.1 y hy; omega, fd, e]
        simp [h1]
theorem fd_some {L : List Mb} (hr : Rises L) {k : Int} {x : Mb} (h : lk L k = some x) : fd L k = true ∧ L.getD (pl L k) zz = x ∧ pl L k < L.length := by
  rw [lk_fd hr] at h
  split at h
  · rename_i hf
    refine ⟨hf, by simpa using h, ?_⟩
    unfold fd at hf
    simp only [Bool.and_eq_true, decide_eq_true_eq] at hf
    exact hf.1
  · simp at h
theorem fd_none {L : List Mb} (hr : Rises L) {k : Int} (h : lk L k = none) : fd L k = false := by
  rw [lk_fd hr] at h
  cases e : fd L k with
  | false => rfl
  | true => rw [e] at h; simp at h

/-- a view with a member in it -/
def put : List Mb → Mb → List Mb
  | [], m => [m]
  | x :: r, m => if x.n < m.n then x :: put r m else if x.n = m.n then m :: r else m :: x :: r
theorem put_in {L : List Mb} {m : Mb} (h : fd L m.n = true) : put L m = L.set (pl L m.n) m := by
  induction L with
  | nil => simp [fd] at h
  | cons x r ih =>
    rw [put]
    by_cases h1 : x.n < m.n
    · have e : pl (x :: r) m.n = pl r m.n + 1 := by rw [pl, if_pos h1]
      rw [if_pos h1, e, List.set_cons_succ, ih]
      unfold fd at h ⊢
      rw [e] at h
      simpa using h
    · have e : pl (x :: r) m.n = 0 := by rw [pl, if_neg h1]
      unfold fd at h
      rw [e] at h
      simp at h
      rw [if_neg h1, if_pos h, e, List.set_cons_zero]
theorem put_new {L : List Mb} {m : Mb} (h : fd L m.n = false) : put L m = L.take (pl L m.n) ++ m :: L.drop (pl L m.n) := by
  induction L with
  | nil => rfl
  | cons x r ih =>
    rw [put]
    by_cases h1 : x.n < m.n
    · have e : pl (x :: r) m.n = pl r m.n + 1 := by rw [pl, if_pos h1]
      rw [if_pos h1, e, List.take_succ_cons, List.drop_succ_cons, ih]
      · rfl
      · unfold fd at h ⊢
        rw [e] at h
        simpa using h
    · have e : pl (x :: r) m.n = 0 := by rw [pl, if_neg h1]
      unfold fd at h
      rw [e] at h
      simp at h
      rw [if_neg h1, if_neg h, e]
      rfl
theorem put_mem {L : List Mb} {m x : Mb} (h : x ∈ put L m) : x = m ∨ x ∈ L := by
  induction L with
  | nil => simp [put] at h; exact .inl h
  | cons y r ih =>
    rw [put] at h
    split at h
    · rcases List.mem_cons.1 h with rfl | h
      · exact .inr (by simp)
      · rcases ih h with h | h
        · exact .inl h
        · exact .inr (List.mem_cons_of_mem _ h)
    · split at h
      · rcases List.mem_cons.1 h with rfl | h
        · exact .inl rfl
        · exact .inr (List.mem_cons_of_mem _ h)
      · rcases List.mem_cons.1 h with rfl | h
        · exact .inl rfl
        · exact .inr h
theorem put_ris {L : List Mb} (hr : Rises L) (m : Mb) : Rises (put L m) := by
  induction L with
  | nil => exact List.pairwise_singleton ..
  | cons y r ih =>
    have p := List.pairwise_cons.1 hr
    rw [put]
    split
    · refine List.pairwise_cons.2 ⟨fun x hx => ?_, ih p.2⟩
      rcases put_mem hx with rfl | hx
      · assumption
      · exact p.1 x hx
    · split
      · refine List.pairwise_cons.2 ⟨fun x hx => ?_, p.2⟩
        have := p.1 x hx; omega
      · refine List.pairwise_cons.2 ⟨fun x hx => ?_, hr⟩
        rcases List.mem_cons.1 hx with rfl | hx
        · omega
        · have := p.1 x hx; omega
theorem lk_put {L : List Mb} (hr : Rises L) (m : Mb) (k : Int) : lk (put L m) k = if m.n = k then some m else lk L k := by
  induction L with
  | nil => rfl
  | cons y r ih =>
    have p := List.pairwise_cons.1 hr
    have ih := ih p.2
    rw [put]
    by_cases h1 : y.n < m.n
    · rw [if_pos h1, lk, ih, lk]
      by_cases h2 : y.n = k
      · rw [if_pos h2, if_neg (by omega), if_pos h2]
      · rw [if_neg h2, if_neg h2]
    · rw [if_neg h1]
      by_cases h2 : y.n = m.n
      · rw [if_pos h2, lk, lk]
        by_cases h3 : m.n = k
        · rw [if_pos h3, if_pos h3]
        · rw [if_neg h3, if_neg h3, if_neg (by omega)]
      · rw [if_neg h2, lk]
theorem Fit.put {L : List Mb} (h : Fit L) {m : Mb} (hm : okm m = true) : Fit (put L m) :=
  Fit.mk2 (put_ris h.ris m) fun x hx => by
    rcases put_mem hx with rfl | hx
    · exact hm
    · exact h.ok x hx

/-- is one newer than another one of its node -/
def ov (m x : Mb) : Bool := if m.v = x.v then x.u && !m.u else decide (x.v < m.v)
/-- would it be put into a view -/
def nw (a : List Mb) (m : Mb) : Bool := match lk a m.n with
  | none => true
  | some x => ov m x
theorem nw_none {a : List Mb} {m : Mb} (h : lk a m.n = none) : nw a m = true := by simp [nw, h]
theorem nw_some {a : List Mb} {m x : Mb} (h : lk a m.n = some x) : nw a m = ov m x := by simp [nw, h]
/-- those of b that are newer -/
def newer (a b : List Mb) : List Mb := b.filter (nw a)
/-- what two views come to -/
def mrg (a b : List Mb) : List Mb := (newer a b).foldl put a
/-- the later word of two -/
def mg : Option Mb → Option Mb → Option Mb
  | none, y => y
  | some x, none => some x
  | some x, some y => if ov y x then some y else some x
theorem lk_filter {L : List Mb} (hr : Rises L) (p : Mb → Bool) (k : Int) : lk (L.filter p) k = (lk L k).filter p := by
  induction L with
  | nil => rfl
  | cons y r ih =>
    have pp := List.pairwise_cons.1 hr
    have ih := ih pp.2
    rw [lk]
    by_cases h1 : y.n = k
    · rw [if_pos h1]
      cases e : p y with
      | true => rw [List.filter_cons_of_pos e, lk, if_pos h1]; simp [Option.filter, e]
      | false =>
        rw [List.filter_cons_of_neg (by simp [e]), ih, lk_none fun x hx => by have := pp.1 x hx; omega]
        simp [Option.filter, e]
    · rw [if_neg h1, ← ih]
      cases e : p y with
      | true => rw [List.filter_cons_of_pos e, lk, if_neg h1]
      | false => rw [List.filter_cons_of_neg (by simp [e])]
theorem fold_ris (T : List Mb) {a : List Mb} (hr : Rises a) : Rises (T.foldl put a) := by
  induction T generalizing a with
  | nil => exact hr
  | cons t T ih => exact ih (put_ris hr t)
theorem fold_mem (T : List Mb) {a : List Mb} {x : Mb} (h : x ∈ T.foldl put a) : x ∈ T ∨ x ∈ a := by
  induction T generalizing a with
  | nil => exact .inr h
  | cons t T ih =>
    rcases ih h with h | h
    · exact .inl (List.mem_cons_of_mem _ h)
    · rcases put_mem h with rfl | h
      · exact .inl (by simp)
      · exact .inr h
theorem lk_fold (T : List Mb) (ht : Rises T) {a : List Mb} (hr : Rises a) (k : Int) : lk (T.foldl put a) k = (lk T k).or (lk a k) := by
  induction T generalizing a with
  | nil => simp [lk]
  | cons t T ih =>
    have p := List.pairwise_cons.1 ht
    rw [List.foldl_cons, ih p.2 (put_ris hr t), lk_put hr, lk]
    by_cases h1 : t.n = k
    · rw [if_pos h1, if_pos h1, lk_none fun x hx => by have := p.1 x hx; omega]
      rfl
    · rw [if_neg h1, if_neg h1]
theorem newer_sub (a b : List Mb) : (newer a b).Sublist b := List.filter_sublist
theorem lk_newer {a b : List Mb} (hb : Rises b) (k : Int) : lk (newer a b) k = (lk b k).filter (nw a) := lk_filter hb _ k
theorem lk_mrg {a b : List Mb} (ha : Rises a) (hb : Rises b) (k : Int) : lk (mrg a b) k = mg (lk a k) (lk b k) := by
  unfold mrg
  rw [lk_fold _ (List.Pairwise.sublist (newer_sub a b) hb) ha, lk_newer hb]
  cases e : lk b k with
  | none => cases lk a k <;> rfl
  | some y =>
    have hy := lk_node e
    cases e2 : lk a k with
    | none =>
      have : nw a y = true := nw_none (by rw [hy]; exact e2)
      simp [Option.filter, this, mg]
    | some x =>
      have h1 : nw a y = ov y x := nw_some (by rw [hy]; exact e2)
      simp only [Option.filter, h1, mg]
      cases ov y x <;> rfl
theorem fit_newer {a b : List Mb} (hb : Fit b) : Fit (newer a b) := hb.sub (newer_sub a b)
theorem fit_mrg {a b : List Mb} (ha : Fit a) (hb : Fit b) : Fit (mrg a b) :=
  Fit.mk2 (fold_ris _ ha.ris) fun x hx => by
    rcases fold_mem _ hx with h | h
    · exact hb.ok x ((newer_sub a b).subset h)
    · exact ha.ok x h
theorem mg_none (x : Option Mb) : mg x none = x := by cases x <;> rfl
theorem mg_self (x : Option Mb) : mg x x = x := by
  cases x with
  | none => rfl
  | some x => simp [mg]
theorem mg_comm {x y : Option Mb} {k : Int} (hx : ∀ z, x = some z → z.n = k) (hy : ∀ z, y = some z → z.n = k) : mg x y = mg y x := by
  cases x with
  | none => rw [mg_none]; rfl
  | some x =>
    cases y with
    | none => rfl
    | some y =>
      have h1 := hx x rfl
      have h2 := hy y rfl
      obtain ⟨a, b, c⟩ := x
      obtain ⟨d, e, f⟩ := y
      simp only at h1 h2
      subst h1 h2
      rcases Int.lt_trichotomy b e with h | h | h
      · have e1 : ov ⟨d, e, f⟩ ⟨d, b, c⟩ = true := by unfold ov; rw [if_neg (by simp only; omega)]; simpa using h
        have e2 : ov ⟨d, b, c⟩ ⟨d, e, f⟩ = false := by unfold ov; rw [if_neg (by simp only; omega)]; simp; omega
        simp [mg, e1, e2]
      · subst h
        cases c <;> cases f <;> simp [mg, ov]
      · have e1 : ov ⟨d, e, f⟩ ⟨d, b, c⟩ = false := by unfold ov; rw [if_neg (by simp only; omega)]; simp; omega
        have e2 : ov ⟨d, b, c⟩ ⟨d, e, f⟩ = true := by unfold ov; rw [if_neg (by simp only; omega)]; simpa using h
        simp [mg, e1, e2]
theorem ov_trans {x y z : Mb} (h1 : ov y x = true) (h2 : ov z y = true) : ov z x = true := by
  unfold ov at *
  split at h1 <;> split at h2
  · rw [Bool.and_eq_true] at h1 h2
    simp_all
  · rw [if_neg (by simp at h2; omega)]; simp at h2 ⊢; omega
  · rw [if_neg (by simp at h1; omega)]; simp at h1 ⊢; omega
  · rw [if_neg (by simp at h1 h2; omega)]; simp at h1 h2 ⊢; omega
theorem ov_back {x y z : Mb} (h1 : ov y x = false) (h2 : ov z y = false) : ov z x = false := by
  unfold ov at *
  split at h1 <;> split at h2
  · rw [if_pos (by omega)]
    obtain ⟨x1, x2, x3⟩ := x
    obtain ⟨y1, y2, y3⟩ := y
    obtain ⟨z1, z2, z3⟩ := z
    cases x3 <;> cases y3 <;> cases z3 <;> simp_all
  · rw [if_neg (by simp at h2; omega)]; simp at h2 ⊢; omega
  · rw [if_neg (by simp at h1; omega)]; simp at h1 ⊢; omega
  · rw [if_neg (by simp at h1 h2; omega)]; simp at h1 h2 ⊢; omega
theorem mg_assoc (x y z : Option Mb) : mg (mg x y) z = mg x (mg y z) := by
  cases x with
  | none => rfl
  | some x =>
    cases y with
    | none => rfl
    | some y =>
      cases z with
      | none => rw [mg_none]; rfl
      | some z =>
        simp only [mg]
        cases h1 : ov y x <;> cases h2 : ov z y
        · have := ov_back h1 h2
          simp [this, h1]
        · simp
        · simp [h1, h2]
        · have := ov_trans h1 h2
          simp [h2, this]
theorem mrg_comm {a b : List Mb} (ha : Fit a) (hb : Fit b) : mrg a b = mrg b a :=
  rises_ext (fit_mrg ha hb).ris (fit_mrg hb ha).ris fun k => by
    rw [lk_mrg ha.ris hb.ris, lk_mrg hb.ris ha.ris]
    exact mg_comm (fun z h => lk_node h) (fun z h => lk_node h)
theorem mrg_again {a b : List Mb} (ha : Fit a) (hb : Fit b) : mrg (mrg a b) a = mrg a b :=
  rises_ext (fit_mrg (fit_mrg ha hb) ha).ris (fit_mrg ha hb).ris fun k => by
    rw [lk_mrg (fit_mrg ha hb).ris ha.ris, lk_mrg ha.ris hb.ris, mg_comm (k := k) (x := lk a k) (fun z h => lk_node h) (fun z h => lk_node h), mg_assoc, mg_self]
theorem mrg_newer {a b : List Mb} (ha : Fit a) (hb : Fit b) : mrg a (newer a b) = mrg a b :=
  rises_ext (fit_mrg ha (fit_newer hb)).ris (fit_mrg ha hb).ris fun k => by
    rw [lk_mrg ha.ris (fit_newer hb).ris, lk_mrg ha.ris hb.ris, lk_newer hb.ris]
    cases e : lk b k with
    | none => rfl
    | some y =>
      have hy := lk_node e
      cases e2 : lk a k with
      | none =>
        have : nw a y = true := nw_none (by rw [hy]; exact e2)
        simp [Option.filter, this]
      | some x =>
        have h1 : nw a y = ov y x := nw_some (by rw [hy]; exact e2)
        simp only [Option.filter, h1, mg]
        cases h : ov y x <;> simp [h]
theorem mrg_assoc {a b c : List Mb} (ha : Fit a) (hb : Fit b) (hc : Fit c) : mrg (mrg a b) c = mrg a (mrg b c) :=
  rises_ext (fit_mrg (fit_mrg ha hb) hc).ris (fit_mrg ha (fit_mrg hb hc)).ris fun k => by
    rw [lk_mrg (fit_mrg ha hb).ris hc.ris, lk_mrg ha.ris hb.ris, lk_mrg ha.ris (fit_mrg hb hc).ris, lk_mrg hb.ris hc.ris, mg_assoc]

/-- the fault of two views -/
def mf (a b : List Mb) : Nat := if vf a = 0 then vf b else vf a
theorem mf_le (a b : List Mb) : mf a b ≤ 100 := by unfold mf; split <;> exact vf_le _
theorem mf_fit {a b : List Mb} : mf a b = 0 ↔ Fit a ∧ Fit b := by
  unfold mf
  constructor
  · intro h
    split at h
    · exact ⟨fit_iff.1 ‹_›, fit_iff.1 h⟩
    · exact absurd h ‹_›
  · rintro ⟨ha, hb⟩
    rw [if_pos (fit_iff.2 ha)]
    exact fit_iff.2 hb
/-- what is merged, where it may be -/
def mgd (a b : List Mb) : List Mb := if mf a b = 0 then mrg a b else []
def nwd (a b : List Mb) : List Mb := if mf a b = 0 then newer a b else []
/-- those that are up -/
def alv (L : List Mb) : List Int := (L.filter (·.u)).map (·.n)
def ald (L : List Mb) : List Int := if vf L = 0 then alv L else []
/-- the version of a node: 0 if it is not there -/
def ver (L : List Mb) (k : Int) : Int := match lk L k with
  | none => 0
  | some x => x.v
theorem ver_none {L : List Mb} {k : Int} (h : lk L k = none) : ver L k = 0 := by simp [ver, h]
theorem ver_some {L : List Mb} {k : Int} {x : Mb} (h : lk L k = some x) : ver L k = x.v := by simp [ver, h]
theorem ver_bd {L : List Mb} (h : Fit L) (k : Int) : 0 ≤ ver L k ∧ ver L k ≤ 1000000 := by
  cases e : lk L k with
  | none => rw [ver_none e]; omega
  | some x => rw [ver_some e]; have := okm_iff.1 (h.ok x (lk_mem e)); omega
/-- the fault of telling a node anew -/
def bf (L : List Mb) (k : Int) : Nat := if vf L = 0 then (if 0 ≤ k ∧ k ≤ 15 then (if ver L k = 1000000 then 4 else 0) else 1) else vf L
theorem bf_le (L : List Mb) (k : Int) : bf L k ≤ 100 := by
  unfold bf
  split
  · repeat' split
    all_goals omega
  · exact vf_le _
/-- a node told anew -/
def bm (L : List Mb) (k : Int) (up : Bool) : Mb := ⟨k, 1 + ver L k, up⟩
def bmp (L : List Mb) (k : Int) (up : Bool) : List Mb := if bf L k = 0 then put L (bm L k up) else []
theorem bf_zero {L : List Mb} {k : Int} (h : bf L k = 0) : Fit L ∧ 0 ≤ k ∧ k ≤ 15 ∧ ver L k < 1000000 := by
  unfold bf at h
  split at h
  · rename_i h0
    split at h
    · split at h
      · omega
      · have := ver_bd (fit_iff.1 h0) k
        exact ⟨fit_iff.1 h0, by omega, by omega, by omega⟩
    · omega
  · exact absurd h ‹_›
theorem bm_ok {L : List Mb} {k : Int} (up : Bool) (h : bf L k = 0) : okm (bm L k up) = true := by
  obtain ⟨h0, h1, h2, h3⟩ := bf_zero h
  have := ver_bd h0 k
  exact okm_iff.2 ⟨h1, h2, by show 1 ≤ 1 + ver L k; omega, by show 1 + ver L k ≤ 1000000; omega⟩
theorem ov_bm {L : List Mb} {k : Int} (up : Bool) {x : Mb} (h : lk L k = some x) : ov (bm L k up) x = true ∧ ov x (bm L k up) = false := by
  have := ver_some h
  constructor
  · unfold ov bm
    rw [if_neg (by show ¬ (1 + ver L k = x.v); omega)]
    simp; omega
  · unfold ov bm
    rw [if_neg (by show ¬ (x.v = 1 + ver L k); omega)]
    simp; omega
theorem put_fit {L : List Mb} {k : Int} (up : Bool) (h : bf L k = 0) : Fit (put L (bm L k up)) := (bf_zero h).1.put (bm_ok up h)
/-- the one told anew alone makes of a view what it is put into -/
theorem mrg_one {L : List Mb} {k : Int} (up : Bool) (h : bf L k = 0) : mrg L [bm L k up] = put L (bm L k up) := by
  have hf := (bf_zero h).1
  have h1 : Fit [bm L k up] := Fit.nil.put (bm_ok up h)
  refine rises_ext (fit_mrg hf h1).ris (put_fit up h).ris fun j => ?_
  rw [lk_mrg hf.ris h1.ris, lk_put hf.ris, lk, lk]
  by_cases e : (bm L k up).n = j
  · rw [if_pos e, if_pos e]
    have ek : k = j := e
    subst ek
    cases e2 : lk L k with
    | none => rfl
    | some x => simp [mg, (ov_bm up e2).1]
  · rw [if_neg e, if_neg e, mg_none]
theorem mrg_up {L : List Mb} {k : Int} (up : Bool) (h : bf L k = 0) : mrg L (put L (bm L k up)) = put L (bm L k up) := by
  have hf := (bf_zero h).1
  have h1 := put_fit up h
  refine rises_ext (fit_mrg hf h1).ris h1.ris fun j => ?_
  rw [lk_mrg hf.ris h1.ris, lk_put hf.ris]
  by_cases e : (bm L k up).n = j
  · rw [if_pos e]
    have ek : k = j := e
    subst ek
    cases e2 : lk L k with
    | none => rfl
    | some x => simp [mg, (ov_bm up e2).1]
  · rw [if_neg e, mg_self]
theorem newer_up {L : List Mb} {k : Int} (up : Bool) (h : bf L k = 0) : newer L (put L (bm L k up)) = [bm L k up] := by
  have hf := (bf_zero h).1
  have h1 := put_fit up h
  refine rises_ext (fit_newer h1).ris (Fit.nil.put (bm_ok up h)).ris fun j => ?_
  rw [lk_newer h1.ris, lk_put hf.ris, lk, lk]
  by_cases e : (bm L k up).n = j
  · rw [if_pos e, if_pos e]
    have ek : k = j := e
    subst ek
    have : nw L (bm L k up) = true := by
      cases e2 : lk L k with
      | none => exact nw_none e2
      | some x => rw [nw_some (x := x) e2]; exact (ov_bm up e2).1
    simp [Option.filter, this]
  · rw [if_neg e, if_neg e]
    cases e2 : lk L j with
    | none => rfl
    | some x =>
      have hx := lk_node e2
      have : nw L x = false := by
        rw [nw_some (x := x) (by rw [hx]; exact e2)]
        simp [ov]
      simp [Option.filter, this]
theorem alv_mem {L : List Mb} (h : Fit L) (k : Int) : k ∈ alv L ↔ ∃ x, lk L k = some x ∧ x.u = true := by
  unfold alv
  simp only [List.mem_map, List.mem_filter]
  constructor
  · rintro ⟨x, ⟨h1, h2⟩, rfl⟩
    exact ⟨x, lk_of_mem h.ris h1, h2⟩
  · rintro ⟨x, h1, h2⟩
    exact ⟨x, ⟨lk_mem h1, h2⟩, lk_node h1⟩
theorem alv_up {L : List Mb} {k : Int} (up : Bool) (h : bf L k = 0) : k ∈ alv (put L (bm L k up)) ↔ up = true := by
  rw [alv_mem (put_fit up h), lk_put (bf_zero h).1.ris, if_pos (show (bm L k up).n = k from rfl)]
  constructor
  · rintro ⟨x, h1, h2⟩
    simp only [Option.some.injEq] at h1
    subst h1
    exact h2
  · intro h
    exact ⟨_, rfl, h⟩

/-- the reference's merge, node by node -/
def rmn (a b : List Mb) : Nat → List Mb
  | 0 => []
  | j + 1 => rmn a b j ++ (mg (lk a (j : Int)) (lk b (j : Int))).toList
theorem mg_node {a b : List Mb} {k : Int} {x : Mb} (h : mg (lk a k) (lk b k) = some x) : x.n = k := by
  cases e1 : lk a k with
  | none => rw [e1] at h; exact lk_node h
  | some y =>
    cases e2 : lk b k with
    | none => rw [e1, e2] at h; simp only [mg, Option.some.injEq] at h; subst h; exact lk_node e1
    | some z =>
      rw [e1, e2] at h
      simp only [mg] at h
      split at h
      · simp only [Option.some.injEq] at h; subst h; exact lk_node e2
      · simp only [Option.some.injEq] at h; subst h; exact lk_node e1
theorem rmn_mem {a b : List Mb} {j : Nat} {x : Mb} (h : x ∈ rmn a b j) : 0 ≤ x.n ∧ x.n < (j : Int) := by
  induction j with
  | zero => simp [rmn] at h
  | succ j ih =>
    rw [rmn, List.mem_append] at h
    rcases h with h | h
    · have := ih h; omega
    · rw [Option.mem_toList] at h
      have := mg_node h
      omega
theorem rmn_len (a b : List Mb) (j : Nat) : (rmn a b j).length ≤ j := by
  induction j with
  | zero => simp [rmn]
  | succ j ih =>
    rw [rmn, List.length_append]
    have : (mg (lk a (j : Int)) (lk b (j : Int))).toList.length ≤ 1 := by cases mg (lk a (j : Int)) (lk b (j : Int)) <;> simp
    omega
theorem rmn_ris (a b : List Mb) (j : Nat) : Rises (rmn a b j) := by
  induction j with
  | zero => exact List.Pairwise.nil
  | succ j ih =>
    rw [rmn]
    refine List.pairwise_append.2 ⟨ih, ?_, fun x hx y hy => ?_⟩
    · cases mg (lk a (j : Int)) (lk b (j : Int)) with
      | none => exact List.Pairwise.nil
      | some z => exact List.pairwise_singleton ..
    · rw [Option.mem_toList] at hy
      have := mg_node hy
      have := rmn_mem hx
      omega
theorem lk_append (A B : List Mb) (k : Int) : lk (A ++ B) k = (lk A k).or (lk B k) := by
  induction A with
  | nil => simp [lk]
  | cons x r ih =>
    rw [List.cons_append, lk, lk, ih]
    split <;> rfl
theorem lk_rmn (a b : List Mb) (j : Nat) (k : Int) : lk (rmn a b j) k = if 0 ≤ k ∧ k < (j : Int) then mg (lk a k) (lk b k) else none := by
  induction j with
  | zero => rw [if_neg (by omega)]; rfl
  | succ j ih =>
    rw [rmn, lk_append, ih]
    by_cases h1 : 0 ≤ k ∧ k < (j : Int)
    · rw [if_pos h1, if_pos (by omega), lk_none (L := (mg (lk a (j : Int)) (lk b (j : Int))).toList)]
      · cases mg (lk a k) (lk b k) <;> rfl
      · intro x hx
        rw [Option.mem_toList] at hx
        have := mg_node hx
        omega
    · rw [if_neg h1]
      by_cases h2 : k = (j : Int)
      · subst h2
        rw [if_pos (by omega)]
        cases e : mg (lk a (j : Int)) (lk b (j : Int)) with
        | none => rfl
        | some z =>
          have := mg_node e
          simp [Option.toList, lk, this]
      · rw [if_neg (by omega), lk_none]
        · rfl
        · intro x hx
          rw [Option.mem_toList] at hx
          have := mg_node hx
          omega
theorem rmn_all {a b : List Mb} (ha : Fit a) (hb : Fit b) : rmn a b 16 = mrg a b := by
  refine rises_ext (rmn_ris a b 16) (fit_mrg ha hb).ris fun k => ?_
  rw [lk_rmn, lk_mrg ha.ris hb.ris]
  by_cases h : 0 ≤ k ∧ k < ((16 : Nat) : Int)
  · rw [if_pos h]
  · rw [if_neg h, ha.low (by omega), hb.low (by omega)]
    rfl
/-- is it not just so in a view -/
def nz (a : List Mb) (m : Mb) : Bool := match lk a m.n with
  | none => true
  | some x => mne x m
theorem nz_none {a : List Mb} {m : Mb} (h : lk a m.n = none) : nz a m = true := by simp [nz, h]
theorem nz_some {a : List Mb} {m x : Mb} (h : lk a m.n = some x) : nz a m = mne x m := by simp [nz, h]
theorem nz_newer {a b : List Mb} (ha : Fit a) (hb : Fit b) : (mrg a b).filter (nz a) = newer a b := by
  refine rises_ext (List.Pairwise.filter _ (fit_mrg ha hb).ris) (fit_newer hb).ris fun k => ?_
  rw [lk_filter (fit_mrg ha hb).ris, lk_mrg ha.ris hb.ris, lk_newer hb.ris]
  cases e1 : lk a k with
  | none =>
    cases e2 : lk b k with
    | none => rfl
    | some y =>
      have hy := lk_node e2
      have h1 : nz a y = true := nz_none (by rw [hy]; exact e1)
      have h2 : nw a y = true := nw_none (by rw [hy]; exact e1)
      simp [mg, Option.filter, h1, h2]
  | some x =>
    have hx := lk_node e1
    have h0 : nz a x = false := by rw [nz_some (x := x) (by rw [hx]; exact e1)]; exact mne_self x
    cases e2 : lk b k with
    | none => simp [mg, Option.filter, h0]
    | some y =>
      have hy := lk_node e2
      have h2 : nw a y = ov y x := nw_some (by rw [hy]; exact e1)
      have h3 : nz a y = mne x y := nz_some (by rw [hy]; exact e1)
      cases e3 : ov y x with
      | false => simp [mg, Option.filter, e3, h0, h2]
      | true =>
        have : x ≠ y := fun e => by subst e; simp [ov] at e3
        simp [mg, Option.filter, e3, h2, h3, mne_ne this]
end Go.Proofs.YtlahlgoknolniafDoor.VM
