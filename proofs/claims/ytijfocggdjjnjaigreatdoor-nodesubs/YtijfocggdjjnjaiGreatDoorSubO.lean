/-
  What a subscriber and a track of the law NodeSubs are behind so many packets. Of numbers and lists alone; no walk.
-/
import Derived.Test.YtijfocggdjjnjaiGreatDoorSubU
namespace Go.Proofs.YtijfocggdjjnjaiGreatDoor.ND
open Go.ChangeShapes Go.WideShapes Go.ChangeAt Go.RowKit Go.Maps Go.Proofs.YtijfocggdjjnjaiGreatDoor.Mem Go.Proofs.YtijfocggdjjnjaiGreatDoor.NO
set_option linter.unusedVariables false

theorem item_same (s : Sb) (i : OM.Kp) : (s.item i).on = s.on ∧ (s.item i).ox = s.ox ∧ (s.item i).oM = s.oM ∧ (s.item i).tk = s.tk ∧ (s.item i).mo = s.mo := by
  unfold Sb.item
  split <;> exact ⟨rfl, rfl, rfl, rfl, rfl⟩
theorem fold_same (I : OM.Its) : ∀ s : Sb, (I.foldl Sb.item s).on = s.on ∧ (I.foldl Sb.item s).ox = s.ox ∧ (I.foldl Sb.item s).oM = s.oM ∧ (I.foldl Sb.item s).tk = s.tk ∧ (I.foldl Sb.item s).mo = s.mo := by
  induction I with
  | nil => intro s; exact ⟨rfl, rfl, rfl, rfl, rfl⟩
  | cons i I ih =>
    intro s
    obtain ⟨h1, h2, h3, h4, h5⟩ := ih (s.item i)
    obtain ⟨k1, k2, k3, k4, k5⟩ := item_same s i
    simp only [List.foldl_cons]
    exact ⟨h1.trans k1, h2.trans k2, h3.trans k3, h4.trans k4, h5.trans k5⟩
/-- a subscriber behind i packets -/
structure SV (s : Sb) (i : Nat) : Prop where
  inv : SbI s
  on : s.on = 0
  tk : s.tk = 1
  mo : 0 ≤ s.mo ∧ s.mo ≤ 3
  ox : (s.ox = -1 ∧ s.oM = [] ∧ s.uk = 0 ∧ s.got = []) ∨ (65536 ≤ s.ox ∧ s.ox ≤ 65536 + (i : Int) ∧ (s.uk : Int) ≤ s.ox - 65536 ∧ (s.got.length : Int) ≤ s.ox - 65536)
  mem : ∀ m ∈ s.oM, m.n < 65536 + (i : Int) ∧ m.a = 0
theorem SV.start (mo : Int) (h0 : 0 ≤ mo) (h1 : mo ≤ 3) : SV (s0 1 mo) 0 := ⟨⟨OM.inv_start, UM.inv_start (by show (0 : Int) ≤ 0; omega) (by show (0 : Int) ≤ _; omega) (by show (0 : Int) ≤ 0; omega) (by show (0 : Int) ≤ _; omega)⟩, rfl, rfl, ⟨h0, h1⟩, .inl ⟨rfl, rfl, rfl, rfl⟩, by intro m hm; cases hm⟩
theorem SV.more {s : Sb} {i : Nat} (h : SV s i) : SV s (i + 1) := by
  refine ⟨h.inv, h.on, h.tk, h.mo, ?_, fun m hm => ⟨by have := (h.mem m hm).1; omega, (h.mem m hm).2⟩⟩
  rcases h.ox with e | e
  · exact .inl e
  · exact .inr ⟨e.1, by omega, e.2.2.1, e.2.2.2⟩
theorem od_none {M : OM.Its} {od : Int} (h : OM.Od 10 0 M od) (hm : ∀ m ∈ M, m.a = 0) : od = -1 := by
  rcases h.one with e | ⟨i, hi, hl, _⟩
  · exact e
  · have := hm i hi
    unfold OM.late at hl
    simp only [decide_eq_true_eq] at hl
    omega
theorem SV.step {s : Sb} {i : Nat} (h : SV s i) (hi : i < 20) (p : Pk) (hf : PM.fault p.s p.t p.l p.q p.L.length = 0) :
    ∃ K, Order.Many 10 (s.pushed (65536 + (i : Int)) 0 p).on (s.pushed (65536 + (i : Int)) 0 p).ox 0 (s.pushed (65536 + (i : Int)) 0 p).oM K ∧ s.uk + K ≤ 999 ∧ s.got.length + K ≤ 1000000 ∧ SV ((s.pushed (65536 + (i : Int)) 0 p).pop 0 K) (i + 1) := by
  have htf : OM.tf s.on 0 = 0 := by rw [h.on]; decide
  have hfar : OM.far s.ox (65536 + (i : Int)) = false := by
    unfold OM.far
    rcases h.ox with ⟨e, _⟩ | e
    · simp [e]
    · simp
      intro _
      omega
  have hpf : OM.pf s.on s.ox (65536 + (i : Int)) 0 (PM.fault p.s p.t p.l p.q p.L.length) = 0 := OM.pf_mk htf (by omega) (by omega) hf hfar
  obtain ⟨s1, hs1⟩ : ∃ s1, s.pushed (65536 + (i : Int)) 0 p = s1 := ⟨_, rfl⟩
  have hI1 : SbI s1 := by rw [← hs1]; exact pushed_inv h.inv
  have e1 : s1.on = 0 := by rw [← hs1]; show OM.pW _ _ _ _ _ = 0; unfold OM.pW; rw [if_pos hpf]
  have e2 : s1.ox = OM.fx s.ox (65536 + (i : Int)) := by rw [← hs1]; show OM.pX _ _ _ _ _ = _; unfold OM.pX; rw [if_pos hpf]
  have e3 : s1.uk = s.uk ∧ s1.got = s.got ∧ s1.tk = s.tk ∧ s1.mo = s.mo := by rw [← hs1]; exact ⟨rfl, rfl, rfl, rfl⟩
  have hx1 : 65536 ≤ s1.ox ∧ s1.ox ≤ 65536 + (i : Int) ∧ (s1.uk : Int) ≤ s1.ox - 65536 ∧ (s1.got.length : Int) ≤ s1.ox - 65536 := by
    rw [e2, e3.1, e3.2.1]
    unfold OM.fx
    rcases h.ox with ⟨q1, q2, q3, q4⟩ | q
    · rw [if_pos q1, q3, q4]
      simp
      omega
    · rw [if_neg (by omega)]
      exact q
  have hm1 : ∀ m ∈ s1.oM, m.n < 65536 + ((i + 1 : Nat) : Int) ∧ m.a = 0 := by
    rw [← hs1]
    intro m hm
    have hm' : m ∈ OM.pM s.on s.ox (65536 + (i : Int)) 0 s.oM (PM.fault p.s p.t p.l p.q p.L.length) ⟨p.s, p.t, p.l, p.q, p.st, p.L, .slice none 0 0⟩ := hm
    unfold OM.pM at hm'
    split at hm'
    · rcases List.mem_append.1 hm' with hm' | hm'
      · have := h.mem m hm'; omega
      · simp only [List.mem_singleton] at hm'
        subst hm'
        exact ⟨by simp only; omega, rfl⟩
    · have := h.mem m hm'; omega
  obtain ⟨K, hK⟩ := Order.many_ex 10 (now := 0) hI1.oi
  obtain ⟨od, hod, hst⟩ := hK.yes (by rw [e1]; decide)
  have hod1 := od_none hod (fun m hm => (hm1 m hm).2)
  subst hod1
  have hKb : s1.ox + (K : Int) ≤ 65536 + ((i + 1 : Nat) : Int) := by
    by_cases hK0 : K = 0
    · omega
    · have hg := hst.all (K - 1) (by omega)
      unfold OM.goes at hg
      have hd : decide (s1.ox + ((K - 1 : Nat) : Int) < -1) = false := by simp; omega
      rw [hd, Bool.or_false] at hg
      obtain ⟨m, hm, hmn⟩ := OM.has_iff.1 hg
      have := (hm1 m hm).1
      omega
  have hu := fold_uk (OM.takes s1.oM s1.ox K) (s1.popped 0 K)
  rw [OM.takes_len] at hu
  have hu0 : (s1.popped 0 K).uk = s1.uk ∧ (s1.popped 0 K).got = s1.got := ⟨rfl, rfl⟩
  rw [hu0.1, hu0.2] at hu
  have hsm := fold_same (OM.takes s1.oM s1.ox K) (s1.popped 0 K)
  obtain ⟨s2, hs2⟩ : ∃ s2, (OM.takes s1.oM s1.ox K).foldl Sb.item (s1.popped 0 K) = s2 := ⟨_, rfl⟩
  have hs2' : s1.pop 0 K = s2 := hs2
  have hui : UM.Inv 0 s2.uk s2.uT s2.uo := by rw [← hs2]; exact fold_inv (s := s1.popped 0 K) hI1.ui (by rw [OM.takes_len]; show s1.uk + K ≤ 999; omega)
  rw [hs2] at hu hsm
  obtain ⟨g1, g2, g3, g4, g5⟩ := hsm
  have hoi := Order.inv_many hI1.oi hK
  have e4 : Order.qW s1.on 0 = 0 := by rw [e1]; decide
  rw [hs1]
  have hgl : s1.got.length = s.got.length := by rw [e3.2.1]
  have hul : s1.uk = s.uk := e3.1
  refine ⟨K, hK, by omega, by omega, ?_⟩
  rw [hs2']
  have p1 : (s1.popped 0 K).on = 0 := e4
  have p2 : (s1.popped 0 K).ox = s1.ox + (K : Int) := rfl
  have p3 : (s1.popped 0 K).oM = OM.rest s1.oM (s1.ox + (K : Int)) := rfl
  refine ⟨⟨?_, hui⟩, g1.trans p1, g4.trans (e3.2.2.1.trans h.tk), ?_, .inr ⟨?_, ?_, ?_, ?_⟩, ?_⟩
  · rw [g1, g2, g3]
    exact hoi
  · rw [g5]
    show 0 ≤ s1.mo ∧ s1.mo ≤ 3
    rw [e3.2.2.2]
    exact h.mo
  · rw [g2, p2]; omega
  · rw [g2, p2]; exact hKb
  · rw [g2, p2]; omega
  · rw [g2, p2]; omega
  · intro m hm
    rw [g3, p3] at hm
    exact hm1 m (List.mem_filter.1 hm).1
/-- its track behind i packets -/
structure TV (t : Tr) (i : Nat) : Prop where
  tk : t.tk = 1
  pa : t.pa = -1
  kid : t.kids = []
  gI : GM.Inv 3 3 t.gn t.gT t.gM
  rI : RM.Inv 64 t.rT t.rM
  rT : t.rT = -1 ∨ (65536 ≤ t.rT ∧ t.rT < 65536 + (i : Int))
theorem TV.num {t : Tr} {i : Nat} (h : TV t i) (hi : i < 20) : num t.rT (i : Int) = 65536 + (i : Int) := by
  unfold ND.num
  rcases h.rT with e | e
  · rw [e]; rfl
  · rw [if_neg (by omega)]
    unfold Ser.unw Ser.bey
    split <;> omega
theorem TV.more {t : Tr} {i : Nat} (h : TV t i) : TV t (i + 1) := ⟨h.tk, h.pa, h.kid, h.gI, h.rI, by rcases h.rT with e | e; exact .inl e; exact .inr ⟨e.1, by omega⟩⟩
theorem TV.heard {t : Tr} {i : Nat} (h : TV t i) (y : Int) : TV (t.heard y 0) i := ⟨h.tk, h.pa, h.kid, GM.inv_hear2 h.gI, h.rI, h.rT⟩
theorem TV.keep {t : Tr} {i : Nat} (h : TV t i) (p : RM.Pk) (wy : Int × Int) : TV (t.keep (65536 + (i : Int)) p wy) (i + 1) := by
  have hR := RM.inv_step (y := 65536 + (i : Int)) h.rI 0 p
  cases hp : RM.px 64 t.rT (65536 + (i : Int)) t.rM 0 with
  | false =>
    rw [Tr.keep_no hp]
    exact h.more
  | true =>
    rw [Tr.keep_yes hp]
    unfold RM.pT RM.pM at hR
    rw [if_pos hp, if_pos hp] at hR
    refine ⟨h.tk, h.pa, h.kid, h.gI, hR, .inr ?_⟩
    show 65536 ≤ RM.top t.rT (65536 + (i : Int)) ∧ RM.top t.rT (65536 + (i : Int)) < _
    unfold RM.top
    rcases h.rT with e | e
    · rw [if_pos (by omega)]; omega
    · split <;> omega
/-- the node behind i packets -/
structure NS (N : Nd) (X : List Int) (s : Sb) (t : Tr) (i : Nat) : Prop where
  nw : N.nw = 0
  tr : N.tr 0 = some t
  tv : TV t i
  sb : N.sb = X.map fun x => (x, s)
  sv : SV s i
  si : SInv N.sb N.ls
  lt : N.lt = []
theorem sinv_alike {X : List Int} {s s' : Sb} {ls : Int} (h : SInv (X.map fun x => (x, s)) ls) (hm : 0 ≤ s'.mo ∧ s'.mo ≤ 3) : SInv (X.map fun x => (x, s')) ls := by
  have hid : ∀ z : Sb, ids (X.map fun x => (x, z)) = X := fun z => by unfold ids; rw [List.map_map]; exact List.map_id X
  refine ⟨?_, ?_, ?_, h.ls0, h.ls1⟩
  · have := h.ris; rw [hid] at this ⊢; exact this
  · intro y hy
    obtain ⟨x, hx, rfl⟩ := List.mem_map.1 hy
    have := h.mem (x, s) (List.mem_map.2 ⟨x, hx, rfl⟩)
    exact ⟨this.1, this.2.1, hm⟩
  · have := h.len; rw [List.length_map] at this ⊢; exact this
/-- behind one more packet -/
theorem NS.took {N : Nd} {X : List Int} {s : Sb} {t : Tr} {i K : Nat} {p : RM.Pk} (h : NS N X s t i) (hi : i < 20) (hs : p.s = (i : Int)) (h2 : SV ((s.pushed (65536 + (i : Int)) 0 ⟨p.s, p.t, p.l, p.q, p.st, p.L⟩).pop 0 K) (i + 1)) : ∃ s' t', NS (({ N with nw := 0 } : Nd).tookS 0 t X s p N.id 1 0 K) X s' t' (i + 1) := by
  have hnum : num t.rT p.s = 65536 + (i : Int) := by rw [hs]; exact h.tv.num hi
  unfold Nd.tookS
  rw [hnum]
  split
  · exact ⟨_, _, rfl, by show updR N.tr 0 _ 0 = _; exact updR_at _ _ _, (h.tv.heard _).keep _ _, rfl, h2, by have := h.si; rw [h.sb] at this; exact sinv_alike this h2.mo, h.lt⟩
  · exact ⟨s, _, rfl, by show updR N.tr 0 _ 0 = _; exact updR_at _ _ _, (h.tv.heard _).more, h.sb, h.sv.more, h.si, h.lt⟩
end Go.Proofs.YtijfocggdjjnjaiGreatDoor.ND

