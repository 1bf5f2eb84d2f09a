/-
  One loft, whatever comes to it: what becomes of a track, of a node, as functions; and what holds of a node ever on. Of numbers and lists alone; no walk.
-/
import Derived.Test.YtpiamlgmadnepaaGreatGenA
import Derived.Test.YtpiamlgmadnepaaGreatNodeW
namespace Go.Proofs.YtpiamlgmadnepaaGreat.ND
open Go.ChangeShapes Go.WideShapes Go.ChangeAt Go.RowKit Go.Maps Go.Proofs.YtpiamlgmadnepaaGreat.Mem Go.Proofs.YtpiamlgmadnepaaGreat.NO
set_option linter.unusedVariables false

/-! what holds of a track, of a node; n is how many nodes there are -/
structure TrOk (n : Nat) (nw : Int) (i : Nat) (t : Tr) : Prop where
  tk : t.tk = (i : Int) + 1
  ep : 0 ≤ t.ep ∧ t.ep ≤ 65535
  pa : t.pa = -1 ∨ (0 ≤ t.pa ∧ t.pa < n)
  kd : ∀ k ∈ t.kids, 0 ≤ k ∧ k < n
  kl : t.kids.length ≤ 16
  gi : GM.Inv 3 3 t.gn t.gT t.gM
  gn : t.gn ≤ nw
  gg : t.gG = []
  ri : RM.Inv 64 t.rT t.rM
  rf : ∀ x ∈ t.rM, PM.fault x.2.s x.2.t x.2.l x.2.q x.2.L.length = 0
structure NdOk (n : Nat) (N : Nd) : Prop where
  nw : 0 ≤ N.nw ∧ N.nw ≤ 1000000
  id : 0 ≤ N.id ∧ N.id ≤ 15
  tr : ∀ i, i < 8 → ∀ t, N.tr i = some t → TrOk n N.nw i t
  si : SInv N.sb N.ls
  sb : ∀ x ∈ N.sb, SbOk N.nw x.2 ∧ ∃ k : Nat, k < 8 ∧ x.2.tk = (k : Int) + 1 ∧ (N.tr k).isSome = true
  pn : 0 ≤ N.pn ∧ N.pn ≤ N.nw
  pl : PU.Inv N.pL
  pw : ∀ x ∈ N.pL, x.a = N.id
  ak : PU.AInv 10 N.pn N.ak
theorem TrOk.mono {n : Nat} {nw nw' : Int} {i : Nat} {t : Tr} (h : TrOk n nw i t) (hn : nw ≤ nw') : TrOk n nw' i t := ⟨h.tk, h.ep, h.pa, h.kd, h.kl, h.gi, Int.le_trans h.gn hn, h.gg, h.ri, h.rf⟩
theorem NdOk.later {n : Nat} {N : Nd} (h : NdOk n N) {now : Int} (h0 : N.nw ≤ now) (h1 : now ≤ 1000000) : NdOk n { N with nw := now } :=
  ⟨⟨by have := h.nw; show 0 ≤ now; omega, h1⟩, h.id, fun i hi t ht => (h.tr i hi t ht).mono h0, h.si, fun x hx => ⟨(h.sb x hx).1.mono h0, (h.sb x hx).2⟩, ⟨h.pn.1, by have := h.pn.2; show N.pn ≤ now; omega⟩, h.pl, h.pw, h.ak⟩
theorem NdOk.letters {n : Nat} {N : Nd} (h : NdOk n N) (L : List (Int × List Nat)) : NdOk n { N with lt := L } := ⟨h.nw, h.id, h.tr, h.si, h.sb, h.pn, h.pl, h.pw, h.ak⟩
theorem tf_le {nw now : Int} (h0 : 0 ≤ nw) (h : nw ≤ now) (h1 : now ≤ 1000000) : OM.tf nw now = 0 := by
  unfold OM.tf
  rw [if_neg (by omega), if_neg (by omega)]
theorem gtf_le {nw now : Int} (h0 : 0 ≤ nw) (h : nw ≤ now) (h1 : now ≤ 1000000) : GM.tf nw now = 0 := by
  unfold GM.tf
  rw [if_neg (by omega), if_neg (by omega)]
/-- the wants of one alone are no more than there are tracks -/
theorem pl_len {L : PU.Wts} {a : Int} (h : PU.Inv L) (ha : ∀ x ∈ L, x.a = a) : L.length ≤ 8 := by
  have hn : (L.map fun x => (x.b - 1).toNat).Nodup := by
    have : L.Pairwise fun x y => (x.b - 1).toNat ≠ (y.b - 1).toNat := by
      refine List.Pairwise.imp_of_mem ?_ h.uq
      intro x y hx hy hne e
      have h1 := h.mem x hx
      have h2 := h.mem y hy
      unfold PU.Ok at h1 h2
      exact hne ⟨(ha x hx).trans (ha y hy).symm, by omega⟩
    rw [List.nodup_iff_pairwise_ne]
    exact List.pairwise_map.2 this
  have hs : ∀ k ∈ L.map fun x => (x.b - 1).toNat, k ∈ List.range 8 := by
    intro k hk
    obtain ⟨x, hx, rfl⟩ := List.mem_map.1 hk
    have h1 := h.mem x hx
    unfold PU.Ok at h1
    rw [List.mem_range]
    omega
  have := List.Nodup.length_le_of_subset (l₂ := List.range 8) hn hs
  simpa using this

/-! a packet comes -/
/-- f becomes of who subscribes to a track -/
def selS (tk : Int) (f : Sb → Sb) (l : List (Int × Sb)) : List (Int × Sb) := l.map fun x => if x.2.tk = tk then (x.1, f x.2) else x
theorem selS_ids (tk : Int) (f : Sb → Sb) (l : List (Int × Sb)) : ids (selS tk f l) = ids l := by
  unfold ids selS
  rw [List.map_map]
  refine List.map_congr_left fun x _ => ?_
  show (if x.2.tk = tk then (x.1, f x.2) else x).1 = x.1
  split <;> rfl
theorem selS_len (tk : Int) (f : Sb → Sb) (l : List (Int × Sb)) : (selS tk f l).length = l.length := by simp [selS]
theorem selS_mem {tk : Int} {f : Sb → Sb} {l : List (Int × Sb)} {x : Int × Sb} (h : x ∈ selS tk f l) : ∃ y ∈ l, x.1 = y.1 ∧ ((y.2.tk = tk ∧ x.2 = f y.2) ∨ (y.2.tk ≠ tk ∧ x.2 = y.2)) := by
  obtain ⟨y, hy, rfl⟩ := List.mem_map.1 h
  refine ⟨y, hy, ?_⟩
  by_cases c : y.2.tk = tk
  · rw [if_pos c]
    exact ⟨rfl, .inl ⟨c, rfl⟩⟩
  · rw [if_neg c]
    exact ⟨rfl, .inr ⟨c, rfl⟩⟩
theorem SInv.selS {tk ls : Int} {f : Sb → Sb} {l : List (Int × Sb)} (h : SInv l ls) (hf : ∀ s, (f s).mo = s.mo) : SInv (selS tk f l) ls := by
  refine ⟨by rw [selS_ids]; exact h.ris, ?_, by rw [selS_len]; exact h.len, h.ls0, h.ls1⟩
  intro x hx
  obtain ⟨y, hy, e1, e2⟩ := selS_mem hx
  have := h.mem y hy
  rcases e2 with ⟨_, e2⟩ | ⟨_, e2⟩
  · rw [e1, e2, hf]; exact this
  · rw [e1, e2]; exact this
abbrev ppk (p : RM.Pk) : Pk := ⟨p.s, p.t, p.l, p.q, p.st, p.L⟩
/-- a packet of the i-th track comes, by og, with so many hops -/
def Nd.tookG (N : Nd) (i : Nat) (t : Tr) (p : RM.Pk) (og h now : Int) : Nd :=
  if GM.hB t.gn t.gT t.gM (num t.rT p.s) now then
    { N with tr := updR N.tr i ((t.heard (num t.rT p.s) now).keep (num t.rT p.s) p (og, h)), lt := N.lt ++ downs t.kids (FM.ffault t.tk og t.ep h (pby p.s p.t p.l p.q p.st p.L)) (fby t.tk og t.ep h (pby p.s p.t p.l p.q p.st p.L)), sb := selS t.tk (fun s => s.push (num t.rT p.s) now (ppk p)) N.sb }
  else { N with tr := updR N.tr i (t.heard (num t.rT p.s) now) }
theorem TrOk.heard {n : Nat} {nw now y : Int} {i : Nat} {t : Tr} (h : TrOk n nw i t) (h0 : nw ≤ now) (h1 : now ≤ 1000000) : TrOk n now i (t.heard y now) := by
  refine ⟨h.tk, h.ep, h.pa, h.kd, h.kl, GM.inv_hear2 h.gi, ?_, h.gg, h.ri, h.rf⟩
  show GM.hN t.gn t.gT t.gM y now ≤ now
  unfold GM.hN
  have := h.gn
  split <;> omega
theorem TrOk.keep {n : Nat} {nw y : Int} {i : Nat} {t : Tr} {p : RM.Pk} {wy : Int × Int} (h : TrOk n nw i t) (hf : PM.fault p.s p.t p.l p.q p.L.length = 0) : TrOk n nw i (t.keep y p wy) := by
  have hR := RM.inv_step (y := y) h.ri 0 p
  cases hp : RM.px 64 t.rT y t.rM 0 with
  | false =>
    rw [Tr.keep_no hp]
    exact h
  | true =>
    rw [Tr.keep_yes hp]
    unfold RM.pT RM.pM at hR
    rw [if_pos hp, if_pos hp] at hR
    refine ⟨h.tk, h.ep, h.pa, h.kd, h.kl, h.gi, h.gn, h.gg, hR, ?_⟩
    intro x hx
    rcases List.mem_append.1 hx with hx | hx
    · exact h.rf x (List.mem_filter.1 hx).1
    · rw [List.mem_singleton] at hx
      rw [hx]
      exact hf
theorem updR_some {f : Nat → Option Tr} {i : Nat} {a t : Tr} {k : Nat} (h : updR f i a k = some t) : (k = i ∧ t = a) ∨ (k ≠ i ∧ f k = some t) := by
  unfold updR at h
  split at h
  · rename_i e
    exact .inl ⟨e, (Option.some.inj h).symm⟩
  · rename_i e
    exact .inr ⟨e, h⟩
theorem updR_is {f : Nat → Option Tr} {i : Nat} {a : Tr} {k : Nat} (h : (f k).isSome = true) : (updR f i a k).isSome = true := by
  unfold updR
  split
  · rfl
  · exact h
theorem NdOk.setT {n : Nat} {N : Nd} (h : NdOk n N) {i : Nat} {t : Tr} (ht : TrOk n N.nw i t) : NdOk n { N with tr := updR N.tr i t } := by
  refine ⟨h.nw, h.id, ?_, h.si, ?_, h.pn, h.pl, h.pw, h.ak⟩
  · intro k hk t' ht'
    rcases updR_some ht' with ⟨rfl, rfl⟩ | ⟨_, e⟩
    · exact ht
    · exact h.tr k hk t' e
  · intro x hx
    obtain ⟨h1, k, hk, e, h2⟩ := h.sb x hx
    exact ⟨h1, k, hk, e, updR_is h2⟩
theorem NdOk.setS {n : Nat} {N : Nd} (h : NdOk n N) {tk : Int} {f : Sb → Sb} (hf : ∀ s, SbOk N.nw s → SbOk N.nw (f s)) (h1 : ∀ s, (f s).mo = s.mo) (h2 : ∀ s, (f s).tk = s.tk) : NdOk n { N with sb := selS tk f N.sb } := by
  refine ⟨h.nw, h.id, h.tr, h.si.selS h1, ?_, h.pn, h.pl, h.pw, h.ak⟩
  intro x hx
  obtain ⟨y, hy, e1, e2⟩ := selS_mem hx
  obtain ⟨k1, k, hk, e, k2⟩ := h.sb y hy
  rcases e2 with ⟨_, e2⟩ | ⟨_, e2⟩
  · rw [e2]
    exact ⟨hf _ k1, k, hk, (h2 _).trans e, k2⟩
  · rw [e2]
    exact ⟨k1, k, hk, e, k2⟩
theorem popd_tm (s : Sb) (now : Int) : (s.popd now).tk = s.tk ∧ (s.popd now).mo = s.mo := by
  obtain ⟨_, _, _, b4, b5, _, _⟩ := fold_same' (OM.takes s.oM s.ox (s.popK now)) (s.popped now (s.popK now))
  exact ⟨b4, b5⟩
theorem push_tm (s : Sb) (y now : Int) (p : Pk) : (s.push y now p).tk = s.tk ∧ (s.push y now p).mo = s.mo := popd_tm _ _
theorem NdOk.took {n : Nat} {N : Nd} (h : NdOk n N) {i : Nat} {t : Tr} (hi : i < 8) (ht : N.tr i = some t) {p : RM.Pk} {og hp : Int} (hf : PM.fault p.s p.t p.l p.q p.L.length = 0) : NdOk n (N.tookG i t p og hp N.nw) := by
  have hT := (h.tr i hi t ht).heard (y := num t.rT p.s) (Int.le_refl _) h.nw.2
  unfold Nd.tookG
  split
  · have h1 := h.setT (hT.keep (y := num t.rT p.s) (wy := (og, hp)) hf)
    have h2 := h1.setS (tk := t.tk) (f := fun s => s.push (num t.rT p.s) N.nw (ppk p)) (fun s hs => (hs.push (tf_le hs.oi.c1 hs.on h.nw.2)).1) (fun s => (push_tm s _ _ _).2) (fun s => (push_tm s _ _ _).1)
    exact h2.letters _
  · exact h.setT hT

/-! what is said back comes -/
/-- what goes again to a kid, of some numbers -/
def againL (t : Tr) (kd : Int) (q : Int) : List (Int × List Nat) :=
  match t.rM.find? fun i => i.1 == num t.rT q with
  | some i => if FM.ffault t.tk (t.wy i.1).1 t.ep (t.wy i.1).2 (pby i.2.s i.2.t i.2.l i.2.q i.2.st i.2.L) = 0 then [(kd, fby t.tk (t.wy i.1).1 t.ep (t.wy i.1).2 (pby i.2.s i.2.t i.2.l i.2.q i.2.st i.2.L))] else []
  | none => []
theorem againL_len (t : Tr) (kd q : Int) : (againL t kd q).length ≤ 1 := by
  unfold againL
  split
  · split <;> simp
  · simp
/-- one thing that goes between lofts -/
inductive Msg where
  | fr (tk og ep h : Int) (p : Pk)
  | lost (tk : Int) (L : List Int)
  | key (tk v : Int)
def Msg.by : Msg → List Nat
  | .fr tk og ep h p => fby tk og ep h (pby p.s p.t p.l p.q p.st p.L)
  | .lost tk L => Back.ebytes 1 tk L 0
  | .key tk v => Back.ebytes 2 tk [] v
def Msg.ok : Msg → Prop
  | .fr tk og ep h p => 1 ≤ tk ∧ tk ≤ 8 ∧ FM.ffault tk og ep h (pby p.s p.t p.l p.q p.st p.L) = 0 ∧ PM.fault p.s p.t p.l p.q p.L.length = 0 ∧ ∀ c ∈ p.L, c < 256
  | .lost tk L => Back.efault 1 tk L 0 = 0 ∧ L.length ≤ 200
  | .key tk v => Back.efault 2 tk [] v = 0
/-- a packet where its Body lies -/
abbrev Pk.lies (p : Pk) (bv : Value) : RM.Pk := ⟨p.s, p.t, p.l, p.q, p.st, p.L, bv⟩
/-- what becomes of a node that hears something, of somebody -/
def Nd.hear (N : Nd) (fr : Int) (now : Int) (bv : Value) : Msg → Nd
  | .fr tk og ep h p => match N.at tk with
    | none => N
    | some t => if hrF t fr ep = 0 then { N.tookG (tk - 1).toNat t (p.lies bv) og (h + 1) now with nw := now } else N
  | .lost tk L => match N.at tk with
    | none => N
    | some t => if fr ∈ t.kids then { N with lt := N.lt ++ L.flatMap (againL t fr), nw := now } else N
  | .key tk v => match N.at tk with
    | none => N
    | some t => if fr ∈ t.kids then { N with lt := N.lt ++ (if t.pa = -1 then [] else [(t.pa, Back.ebytes 2 tk [] v)]), nw := now } else N

/-! time goes on -/
/-- what is lacking is asked for, and what is given up is gone -/
def Nd.askG (N : Nd) (i : Nat) (now : Int) : Nd :=
  match N.tr i with
  | none => N
  | some t => if t.pa = -1 then N else
    { N with tr := updR N.tr i { t with gn := now, gM := GM.dM 3 3 now t.gM, gG := [] }, lt := N.lt ++ (if GM.dueL 3 3 now t.gM = [] then [] else [(t.pa, Back.ebytes 1 t.tk (BM.norm (sq (GM.dueL 3 3 now t.gM))) 0)]), sb := selS t.tk (fun s => (GM.gaveL 3 3 now t.gM).foldl (fun s y => s.gone y now) s) N.sb }
def Sb.wants (s : Sb) : Bool := LM.wants s.mo s.ln s.br
/-- a start is asked for -/
def Nd.askS (N : Nd) (now : Int) (s : Sb) : Nd :=
  match N.at s.tk with
  | none => N
  | some t => if s.wants = false ∨ t.pa = -1 then N else
    { N with pn := PU.aN (PU.put N.pL ⟨N.id, s.tk, s.mo⟩) N.pn s.tk now, ak := PU.aK (PU.put N.pL ⟨N.id, s.tk, s.mo⟩) 10 N.pn N.ak s.tk now, pL := PU.put N.pL ⟨N.id, s.tk, s.mo⟩, lt := N.lt ++ (if PU.aB (PU.put N.pL ⟨N.id, s.tk, s.mo⟩) 10 N.pn N.ak s.tk now = true then [(t.pa, Back.ebytes 2 s.tk [] s.mo)] else []) }
/-- so many tracks ask for what they lack -/
def Nd.asksG (N : Nd) (now : Int) : Nat → Nd
  | 0 => N
  | k + 1 => (N.asksG now k).askG k now
def popS (now : Int) (l : List (Int × Sb)) : List (Int × Sb) := l.map fun x => (x.1, x.2.popd now)
def Nd.pops (N : Nd) (now : Int) : Nd := { N with sb := popS now N.sb }
def Nd.starts (N : Nd) (now : Int) (l : List (Int × Sb)) : Nd := l.foldl (fun N x => N.askS now x.2) N
def Nd.tick (N : Nd) (now : Int) : Nd := ((({ N with nw := now } : Nd).asksG now 8).pops now).starts now (((({ N with nw := now } : Nd).asksG now 8).pops now).sb)
end Go.Proofs.YtpiamlgmadnepaaGreat.ND

