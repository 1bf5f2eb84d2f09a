/-
  Packets on their way down, when nothing is lost: each loft has heard the first so many, and what flies to it are the next ones, in their order. Of numbers and lists alone; no walk.
-/
import Derived.Test.YtpiamlgmadnepaaGreatMeshT
namespace Go.Proofs.YtpiamlgmadnepaaGreat.MS
open Go.ChangeShapes Go.WideShapes Go.ChangeAt Go.RowKit Go.Maps Go.Proofs.YtpiamlgmadnepaaGreat.Mem Go.Proofs.YtpiamlgmadnepaaGreat.NO Go.Proofs.YtpiamlgmadnepaaGreat.ND
set_option linter.unusedVariables false

/-- who sends what -/
structure Plan where
  n : Nat
  now : Int
  E : List TM.Ed
  on : Nat → Bool
  rt : Nat → Nat
  p : Nat → List Int
  d : Nat → List Int
  sq : Nat → Nat
  pk : Nat → Nat → Pk
  mx : Nat → Nat
  B : Nat → List (Int × Sb)
def Plan.at (Q : Plan) (k v : Nat) : Bool := Q.on k && decide (0 ≤ TM.dg (Q.d k) v)
theorem Plan.at_iff {Q : Plan} {k v : Nat} : Q.at k v = true ↔ Q.on k = true ∧ 0 ≤ TM.dg (Q.d k) v := by
  unfold Plan.at
  simp
/-- the packet may be -/
structure PkOk (s i : Nat) (p : Pk) : Prop where
  num : p.s = ((s + i : Nat) : Int)
  lt : s + i ≤ 65535
  f : PM.fault p.s p.t p.l p.q p.L.length = 0
  b : ∀ c ∈ p.L, c < 256
structure Plan.Ok (Q : Plan) : Prop where
  tr : ∀ k, k < 8 → Q.on k = true → Trees Q.n (Q.rt k) Q.E (Q.p k) (Q.d k)
  pk : ∀ k, k < 8 → ∀ i, i < Q.mx k → PkOk (Q.sq k) i (Q.pk k i)
  mx : ∀ k, Q.mx k ≤ 1000
def pbyP (p : Pk) : List Nat := pby p.s p.t p.l p.q p.st p.L
/-- the bytes of a packet from a loft -/
def Plan.byt (Q : Plan) (k u i : Nat) : List Nat := fby ((k : Int) + 1) (Q.rt k : Int) 1 (dp (Q.p k) Q.n u : Int) (pbyP (Q.pk k i))
/-- what flies: of track k, to v, the i-th -/
structure Fy where
  k : Nat
  v : Nat
  i : Nat
def Plan.frm (Q : Plan) (x : Fy) : Fl := ⟨TM.dg (Q.p x.k) x.v, (x.v : Int), Q.byt x.k (TM.dg (Q.p x.k) x.v).toNat x.i⟩
def Fy.is (k v : Nat) (x : Fy) : Bool := decide (x.k = k ∧ x.v = v)
def trk1 (tk : Int) : Nat := (tk - 1).toNat
def Plan.sub (Q : Plan) (h : Nat → Nat → Nat) (v : Nat) (x : Int × Sb) : Int × Sb := (x.1, rowsN x.2 Q.now (Q.sq (trk1 x.2.tk)) (Q.pk (trk1 x.2.tk)) (h (trk1 x.2.tk) v))
structure Pipe (Q : Plan) (h : Nat → Nat → Nat) (X : List Fy) (M : Ms) : Prop where
  ok : MOk M
  n : M.n = Q.n
  nw : M.nw = Q.now
  tr : ∀ v, v < Q.n → ∀ k, k < 8 → Q.at k v = true → ∃ t, (M.nd v).tr k = some t ∧ TrH k (Q.p k) Q.n v (Q.sq k) (h k v) t
  no : ∀ v, v < Q.n → ∀ k, k < 8 → Q.at k v = false → (M.nd v).tr k = none
  sb : ∀ v, v < Q.n → (M.nd v).sb = (Q.B v).map (Q.sub h v)
  sr : ∀ v, v < Q.n → ∀ x ∈ Q.B v, SbR (Q.sq (trk1 x.2.tk)) (h (trk1 x.2.tk) v) (Q.sub h v x).2
  fl : M.fl = X.map Q.frm
  xs : ∀ x ∈ X, x.k < 8 ∧ x.v < Q.n ∧ Q.on x.k = true ∧ 0 ≤ TM.dg (Q.p x.k) x.v
  fi : ∀ k, k < 8 → Q.on k = true → ∀ v, v < Q.n → ∀ u : Nat, TM.dg (Q.p k) v = (u : Int) → h k v ≤ h k u ∧ (X.filter (Fy.is k v)).map Fy.i = List.range' (h k v) (h k u - h k v)
  le : ∀ k, k < 8 → ∀ v, h k v ≤ Q.mx k
  ls : ∀ v, v < Q.n → (M.nd v).ls = ((Q.B v).length : Int)
def upH (h : Nat → Nat → Nat) (k v : Nat) : Nat → Nat → Nat := fun k' v' => if k' = k ∧ v' = v then h k v + 1 else h k' v'
theorem upH_at (h : Nat → Nat → Nat) (k v : Nat) : upH h k v k v = h k v + 1 := if_pos ⟨rfl, rfl⟩
theorem upH_ne (h : Nat → Nat → Nat) {k v k' v' : Nat} (hn : ¬ (k' = k ∧ v' = v)) : upH h k v k' v' = h k' v' := if_neg hn
/-- a loft takes the next packet -/
theorem tookG_yes {N : Nd} {i : Nat} {t : Tr} {p : RM.Pk} {og hp now : Int} (hB : GM.hB t.gn t.gT t.gM (num t.rT p.s) now = true) (hF : FM.ffault t.tk og t.ep hp (pby p.s p.t p.l p.q p.st p.L) = 0) :
    N.tookG i t p og hp now = { N with tr := updR N.tr i ((t.heard (num t.rT p.s) now).keep (num t.rT p.s) p (og, hp)), lt := N.lt ++ t.kids.map (fun c => (c, fby t.tk og t.ep hp (pby p.s p.t p.l p.q p.st p.L))), sb := selS t.tk (fun s => s.push (num t.rT p.s) now (ppk p)) N.sb } := by
  unfold Nd.tookG
  rw [if_pos hB]
  unfold downs
  rw [if_pos hF]
theorem frame_ok {Q : Plan} (hQ : Q.Ok) {k u i : Nat} (hk : k < 8) (ho : Q.on k = true) (hi : i < Q.mx k) : FM.ffault ((k : Int) + 1) (Q.rt k : Int) 1 (dp (Q.p k) Q.n u : Int) (pbyP (Q.pk k i)) = 0 := by
  have hT := hQ.tr k hk ho
  have h16 := hT.fit.hi
  have hr := hT.rn
  have hd := dp_le (Q.p k) Q.n u
  unfold FM.ffault
  rw [if_pos (by unfold FM.nums; omega)]
  exact pby_rfault (hQ.pk k hk i hi).f
theorem kids_is {Q : Plan} {k v : Nat} {c : Int} (h : c ∈ TM.kd (Q.p k) (v : Int) Q.n) : ∃ j : Nat, c = (j : Int) ∧ j < Q.n ∧ TM.dg (Q.p k) j = (v : Int) := kd_is h
/-- what flies from a loft that has taken the i-th -/
def Plan.news (Q : Plan) (k v i : Nat) : List Fy := ((List.range Q.n).filter fun j => decide (TM.dg (Q.p k) j = (v : Int))).map fun c => ⟨k, c, i⟩
theorem news_frm (Q : Plan) (k v i : Nat) : (Q.news k v i).map Q.frm = (TM.kd (Q.p k) (v : Int) Q.n).map fun c => (⟨(v : Int), c, Q.byt k v i⟩ : Fl) := by
  unfold Plan.news TM.kd
  rw [List.map_map, List.map_map]
  refine List.map_congr_left ?_
  intro j hj
  have hp : TM.dg (Q.p k) j = (v : Int) := by simpa using (List.mem_filter.1 hj).2
  show Q.frm ⟨k, j, i⟩ = _
  unfold Plan.frm
  simp only [hp, Int.toNat_natCast]
  rfl
theorem news_mem {Q : Plan} {k v i : Nat} {x : Fy} (h : x ∈ Q.news k v i) : x.k = k ∧ x.v < Q.n ∧ TM.dg (Q.p k) x.v = (v : Int) ∧ x.i = i := by
  unfold Plan.news at h
  obtain ⟨j, hj, rfl⟩ := List.mem_map.1 h
  obtain ⟨h1, h2⟩ := List.mem_filter.1 hj
  exact ⟨rfl, by simpa using h1, by simpa using h2, rfl⟩
theorem filter_one (n c : Nat) (q : Nat → Bool) (hc : c < n) (hq : q c = true) : ((List.range n).filter q).filter (fun j => decide (j = c)) = [c] := by
  rw [List.filter_filter]
  have e : (fun a => decide (a = c) && q a) = fun a => decide (a = c) := by
    funext a
    by_cases h : a = c
    · subst h; simp [hq]
    · simp [h]
  rw [e]
  induction n with
  | zero => omega
  | succ n ih =>
    rw [List.range_succ, List.filter_append]
    by_cases h : c = n
    · subst h
      have : (List.range c).filter (fun a => decide (a = c)) = [] := by
        rw [List.filter_eq_nil_iff]
        intro a ha
        have : a < c := by simpa using ha
        simp
        omega
      rw [this]
      simp
    · rw [ih (by omega)]
      simp
      omega
theorem news_filter (Q : Plan) (k v i k' v' : Nat) (hv : v' < Q.n) : ((Q.news k v i).filter (Fy.is k' v')).map Fy.i = if k' = k ∧ TM.dg (Q.p k) v' = (v : Int) then [i] else [] := by
  by_cases c : k' = k ∧ TM.dg (Q.p k) v' = (v : Int)
  · rw [if_pos c]
    obtain ⟨rfl, hp⟩ := c
    unfold Plan.news
    rw [List.filter_map]
    have e : (Fy.is k' v' ∘ fun c => (⟨k', c, i⟩ : Fy)) = fun j => decide (j = v') := by
      funext j
      simp [Fy.is]
    rw [e, filter_one Q.n v' _ hv (by simpa using hp)]
    rfl
  · rw [if_neg c]
    have : (Q.news k v i).filter (Fy.is k' v') = [] := by
      rw [List.filter_eq_nil_iff]
      intro x hx
      obtain ⟨h1, h2, h3, h4⟩ := news_mem hx
      simp only [Fy.is, decide_eq_true_eq]
      rintro ⟨rfl, rfl⟩
      exact c ⟨h1, h1 ▸ h3⟩
    rw [this]
    rfl
/-- the row of what flies, one step on -/
theorem fi_step {Q : Plan} {h : Nat → Nat → Nat} {A : List Fy} {k v : Nat} (hv : v < Q.n) (hT : ∀ k, k < 8 → Q.on k = true → Trees Q.n (Q.rt k) Q.E (Q.p k) (Q.d k))
    (h1 : ∀ k', k' < 8 → Q.on k' = true → ∀ v', v' < Q.n → ¬ (k' = k ∧ v' = v) → ∀ u : Nat, TM.dg (Q.p k') v' = (u : Int) → h k' v' ≤ h k' u ∧ (A.filter (Fy.is k' v')).map Fy.i = List.range' (h k' v') (h k' u - h k' v'))
    (h2 : ∀ u : Nat, TM.dg (Q.p k) v = (u : Int) → h k v + 1 ≤ h k u ∧ (A.filter (Fy.is k v)).map Fy.i = List.range' (h k v + 1) (h k u - (h k v + 1))) :
    ∀ k', k' < 8 → Q.on k' = true → ∀ v', v' < Q.n → ∀ u : Nat, TM.dg (Q.p k') v' = (u : Int) → upH h k v k' v' ≤ upH h k v k' u ∧ ((A ++ Q.news k v (h k v)).filter (Fy.is k' v')).map Fy.i = List.range' (upH h k v k' v') (upH h k v k' u - upH h k v k' v') := by
  intro k' hk' ho v' hv' u hu
  obtain ⟨d1, d2, d3, d4, d5⟩ := (hT k' hk' ho).down hv' hu
  rw [List.filter_append, List.map_append, news_filter Q k v (h k v) k' v' hv']
  by_cases c : k' = k ∧ v' = v
  · obtain ⟨rfl, rfl⟩ := c
    obtain ⟨g1, g2⟩ := h2 u hu
    rw [upH_at, upH_ne h (by omega), if_neg (by omega), g2, List.append_nil]
    exact ⟨g1, rfl⟩
  · obtain ⟨g1, g2⟩ := h1 k' hk' ho v' hv' c u hu
    rw [upH_ne h c]
    by_cases c2 : k' = k ∧ u = v
    · obtain ⟨rfl, rfl⟩ := c2
      rw [upH_at, if_pos ⟨rfl, hu⟩, g2]
      refine ⟨by omega, ?_⟩
      rw [show h k' u + 1 - h k' v' = (h k' u - h k' v') + 1 by omega, List.range'_concat]
      congr 2
      omega
    · rw [upH_ne h c2, if_neg (fun q => c2 ⟨q.1, by have := q.2; rw [← q.1] at this; omega⟩), g2, List.append_nil]
      exact ⟨g1, rfl⟩
/-- a loft behind the next packet of a track -/
def nextsN (N : Nd) (k : Nat) (t : Tr) (p : RM.Pk) (wy : Int × Int) (now : Int) : Nd := { N with nw := now, tr := updR N.tr k ((t.heard (num t.rT p.s) now).keep (num t.rT p.s) p wy), lt := [], sb := selS t.tk (fun s => s.push (num t.rT p.s) now (ppk p)) N.sb }
theorem nexts_sb (N : Nd) (k : Nat) (t : Tr) (p : RM.Pk) (wy : Int × Int) (now : Int) : (nextsN N k t p wy now).sb = selS t.tk (fun s => s.push (num t.rT p.s) now (ppk p)) N.sb := rfl
theorem Pipe.step {Q : Plan} (hQ : Q.Ok) {h : Nat → Nat → Nat} {X : List Fy} {M : Ms} (hP : Pipe Q h X M) {k v : Nat} (hk : k < 8) (hv : v < Q.n) (hat : Q.at k v = true) {t : Tr} (ht : (M.nd v).tr k = some t) (hi : h k v < Q.mx k) {p : RM.Pk} (hp : ppk p = Q.pk k (h k v)) {wy : Int × Int} {X2 : List Fy} {M2 : Ms}
    (e0 : MOk M2) (e1 : M2.n = M.n) (e2 : M2.nw = M.nw) (e3 : M2.nd = updN M.nd v (nextsN (M.nd v) k t p wy M.nw)) (e4 : M2.fl = X2.map Q.frm)
    (hx : ∀ x ∈ X2, x.k < 8 ∧ x.v < Q.n ∧ Q.on x.k = true ∧ 0 ≤ TM.dg (Q.p x.k) x.v)
    (hf : ∀ k', k' < 8 → Q.on k' = true → ∀ v', v' < Q.n → ∀ u : Nat, TM.dg (Q.p k') v' = (u : Int) → upH h k v k' v' ≤ upH h k v k' u ∧ (X2.filter (Fy.is k' v')).map Fy.i = List.range' (upH h k v k' v') (upH h k v k' u - upH h k v k' v')) : Pipe Q (upH h k v) X2 M2 := by
  have hvn : v < M.n := by rw [hP.n]; exact hv
  obtain ⟨kN, kL, kW, kI⟩ := hP.ok.nd v hvn
  obtain ⟨t', ht', hH⟩ := hP.tr v hv k hk hat
  rw [ht] at ht'
  cases ht'
  have hO : TrOk Q.n (M.nd v).nw k t := by rw [← hP.n]; exact kN.tr k hk t ht
  have hpk := hQ.pk k hk (h k v) hi
  rw [← hp] at hpk
  obtain ⟨n1, n2, n3⟩ := hH.hear hO kW hP.ok.nw.2 hpk.lt p hpk.num wy
  refine ⟨e0, e1.trans hP.n, e2.trans hP.nw, ?_, ?_, ?_, ?_, e4, hx, hf, ?_, ?_⟩
  · intro v' hv' k' hk' ha'
    obtain ⟨t', g1, g2⟩ := hP.tr v' hv' k' hk' ha'
    rw [e3]
    by_cases c : v' = v
    · subst c
      rw [updN_at]
      by_cases c2 : k' = k
      · subst c2
        rw [upH_at]
        exact ⟨_, by show updR (M.nd v').tr k' _ k' = _; exact if_pos rfl, n3⟩
      · rw [upH_ne h (fun q => c2 q.1)]
        exact ⟨t', by show updR (M.nd v').tr k _ k' = _; rw [show updR (M.nd v').tr k _ k' = (M.nd v').tr k' from if_neg c2]; exact g1, g2⟩
    · rw [updN_ne _ _ c, upH_ne h (fun q => c q.2)]
      exact ⟨t', g1, g2⟩
  · intro v' hv' k' hk' ha'
    have g1 := hP.no v' hv' k' hk' ha'
    rw [e3]
    by_cases c : v' = v
    · subst c
      rw [updN_at]
      by_cases c2 : k' = k
      · subst c2
        rw [hat] at ha'
        cases ha'
      · show updR (M.nd v').tr k _ k' = _
        rw [show updR (M.nd v').tr k _ k' = (M.nd v').tr k' from if_neg c2]
        exact g1
    · rw [updN_ne _ _ c]
      exact g1
  · intro v' hv'
    rw [e3]
    by_cases c : v' = v
    · subst c
      rw [updN_at]
      rw [nexts_sb, hP.sb v' hv']
      unfold selS
      rw [List.map_map]
      refine List.map_congr_left ?_
      intro x hx
      have htm := rowsN_tm x.2 Q.now (Q.sq (trk1 x.2.tk)) (Q.pk (trk1 x.2.tk)) (h (trk1 x.2.tk) v')
      show (if (Q.sub h v' x).2.tk = t.tk then ((Q.sub h v' x).1, (Q.sub h v' x).2.push (num t.rT p.s) M.nw (ppk p)) else Q.sub h v' x) = Q.sub (upH h k v') v' x
      have e5 : (Q.sub h v' x).2.tk = x.2.tk := htm.1
      rw [e5, hH.tk]
      by_cases c2 : x.2.tk = (k : Int) + 1
      · have c3 : trk1 x.2.tk = k := by unfold trk1; omega
        rw [if_pos c2]
        unfold Plan.sub
        rw [c3, upH_at, n1, hp, hP.nw]
        rfl
      · rw [if_neg c2]
        obtain ⟨_, k', q1, q2, _⟩ := kN.sb (Q.sub h v' x) (by rw [hP.sb v' hv']; exact List.mem_map.2 ⟨x, hx, rfl⟩)
        rw [e5] at q2
        unfold Plan.sub
        rw [upH_ne h (fun q => c2 (by have := q.1; unfold trk1 at this; omega))]
    · rw [updN_ne _ _ c, hP.sb v' hv']
      refine List.map_congr_left ?_
      intro x hx
      unfold Plan.sub
      rw [upH_ne h (fun q => c q.2)]
  · intro v' hv' x hx
    have g := hP.sr v' hv' x hx
    have hm : Q.sub h v' x ∈ (M.nd v').sb := by rw [hP.sb v' hv']; exact List.mem_map.2 ⟨x, hx, rfl⟩
    by_cases c : trk1 x.2.tk = k ∧ v' = v
    · obtain ⟨c1, rfl⟩ := c
      have gS := (kN.sb _ hm).1
      unfold Plan.sub at g gS ⊢
      rw [c1] at g gS ⊢
      rw [upH_at]
      have := (g.push gS kW hP.ok.nw.2 hpk.lt (ppk p) hpk.f).2
      rw [hp, hP.nw] at this
      exact this
    · unfold Plan.sub at g ⊢
      rw [upH_ne h c]
      exact g
  · intro k' hk' v'
    by_cases c : k' = k ∧ v' = v
    · obtain ⟨rfl, rfl⟩ := c
      rw [upH_at]
      omega
    · rw [upH_ne h c]
      exact hP.le k' hk' v'
  · intro v' hv'
    rw [e3, ← hP.ls v' hv']
    by_cases c : v' = v
    · subst c
      rw [updN_at]
      rfl
    · rw [updN_ne _ _ c]
end Go.Proofs.YtpiamlgmadnepaaGreat.MS

