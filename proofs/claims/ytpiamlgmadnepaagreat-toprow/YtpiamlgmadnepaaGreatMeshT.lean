/-
  What a loft keeps of packets that follow each other, and what a subscriber gets of them. Of numbers and lists alone; no walk.
-/
import Derived.Test.YtpiamlgmadnepaaGreatMeshS
namespace Go.Proofs.YtpiamlgmadnepaaGreat.MS
open Go.ChangeShapes Go.WideShapes Go.ChangeAt Go.RowKit Go.Maps Go.Proofs.YtpiamlgmadnepaaGreat.Mem Go.Proofs.YtpiamlgmadnepaaGreat.NO Go.Proofs.YtpiamlgmadnepaaGreat.ND
set_option linter.unusedVariables false

theorem has_over {T y : Int} {M : RM.Its} (h : RM.Inv 64 T M) (hy : T < y) : RM.has M y = false := by
  unfold RM.has
  rw [List.any_eq_false]
  intro i hi
  have := (h.mem i hi).2.1
  simp
  omega
theorem px_over {T y : Int} {M : RM.Its} (h : RM.Inv 64 T M) (hy : T < y) (h0 : 0 ≤ y) (h1 : y ≤ 1099511627776) : RM.px 64 T y M 0 = true := by
  unfold RM.px
  rw [RM.pf_mk h0 h1 rfl (by omega), has_over h hy]
  rfl
/-- the greatest number behind h packets, the first of which is s -/
def top (s h : Nat) : Int := if h = 0 then -1 else 65535 + (s : Int) + (h : Int)
theorem top_zero (s : Nat) : top s 0 = -1 := rfl
theorem top_succ (s h : Nat) : top s (h + 1) = 65536 + (s : Int) + (h : Int) := by
  unfold top
  rw [if_neg (by omega)]
  omega
theorem top_lt (s h : Nat) : top s h < 65536 + (s : Int) + (h : Int) := by
  unfold top
  split <;> omega
theorem num_next (s h : Nat) : num (top s h) ((s + h : Nat) : Int) = 65536 + (s : Int) + (h : Int) := by
  unfold top num
  by_cases c : h = 0
  · subst c
    rw [if_pos rfl, if_pos (by omega)]
    omega
  · rw [if_neg c, if_neg (by omega)]
    unfold Ser.unw Ser.bey
    split <;> omega
structure TrH (k : Nat) (p : List Int) (n v s h : Nat) (t : Tr) : Prop where
  tk : t.tk = (k : Int) + 1
  ep : t.ep = 1
  pa : t.pa = TM.dg p v
  kids : t.kids = TM.kd p (v : Int) n
  gM : t.gM = []
  gT : t.gT = top s h
  rT : t.rT = top s h
theorem TrH.start (k : Nat) (p : List Int) (n v s : Nat) : TrH k p n v s 0 (trk k p n v) := ⟨rfl, rfl, rfl, rfl, rfl, rfl, rfl⟩
theorem TrH.hear {k : Nat} {p : List Int} {n v s h : Nat} {t : Tr} {nw now : Int} (hT : TrH k p n v s h t) (hO : TrOk n nw k t) (h0 : nw ≤ now) (h1 : now ≤ 1000000) (hb : s + h ≤ 65535) (pk : RM.Pk) (hs : pk.s = ((s + h : Nat) : Int)) (wy : Int × Int) :
    num t.rT pk.s = 65536 + (s : Int) + (h : Int) ∧ GM.hB t.gn t.gT t.gM (num t.rT pk.s) now = true ∧ TrH k p n v s (h + 1) ((t.heard (num t.rT pk.s) now).keep (num t.rT pk.s) pk wy) := by
  have e1 : num t.rT pk.s = 65536 + (s : Int) + (h : Int) := by rw [hT.rT, hs]; exact num_next s h
  have hlt := top_lt s h
  have hlo : GM.lo (top s h) (65536 + (s : Int) + (h : Int)) = 0 := by
    unfold GM.lo top
    by_cases c : h = 0
    · rw [if_pos c, if_pos (.inl rfl)]
    · rw [if_neg c]
      split <;> omega
  have hf : GM.hf t.gn t.gT t.gM (65536 + (s : Int) + (h : Int)) now = 0 := by
    have htf := gtf_le hO.gi.n1 (Int.le_trans hO.gn h0) h1
    unfold GM.hf
    rw [hT.gT, hT.gM, hlo]
    rw [if_neg (by omega), if_neg (by omega), if_neg (by simp)]
  rw [e1]
  have hx := px_over hO.ri (y := 65536 + (s : Int) + (h : Int)) (by rw [hT.rT]; exact hlt) (by omega) (by omega)
  refine ⟨rfl, ?_, ?_⟩
  · unfold GM.hB GM.hx
    rw [hf, hT.gT]
    simp [hlt]
  · rw [Tr.keep_yes (t := t.heard (65536 + (s : Int) + (h : Int)) now) hx]
    refine ⟨hT.tk, hT.ep, hT.pa, hT.kids, ?_, ?_, ?_⟩
    · show GM.hL t.gn t.gT t.gM (65536 + (s : Int) + (h : Int)) now = []
      unfold GM.hL GM.hM
      rw [if_pos hf, hT.gT, hT.gM, if_pos hlt, hlo]
      rfl
    · show GM.hU t.gn t.gT t.gM (65536 + (s : Int) + (h : Int)) now = _
      unfold GM.hU GM.hT
      rw [if_pos hf, hT.gT, if_pos hlt, top_succ]
    · show RM.top t.rT (65536 + (s : Int) + (h : Int)) = _
      unfold RM.top
      rw [hT.rT, if_pos hlt, top_succ]
/-- a subscriber to whom all has been handed out -/
structure SbR (s h : Nat) (x : Sb) : Prop where
  oM : x.oM = []
  ox : x.ox = if h = 0 then -1 else 65536 + (s : Int) + (h : Int)
theorem SbR.start (s : Nat) (tk mo : Int) : SbR s 0 (s0 tk mo) := ⟨rfl, rfl⟩
/-- the item of a packet -/
def kpk (y now : Int) (p : Pk) : OM.Kp := ⟨y, false, ⟨p.s, p.t, p.l, p.q, p.st, p.L, .slice none 0 0⟩, now⟩
theorem cnt_one {y now : Int} {p : Pk} (h0 : 0 ≤ y) : cnt [kpk y now p] (odF now [kpk y now p]) 200 y = 1 := by
  have e0 : odF now [kpk y now p] = -1 := by
    unfold odF
    rw [if_neg]
    · rfl
    · rintro ⟨h, _⟩
      simp [OM.late, kpk] at h
  rw [e0]
  have g1 : OM.goes [kpk y now p] (-1) y = true := by simp [OM.goes, OM.has, kpk]
  have g2 : OM.goes [kpk y now p] (-1) (y + 1) = false := by
    simp [OM.goes, OM.has, kpk]
    omega
  rw [show (200 : Nat) = 198 + 1 + 1 from rfl, cnt, if_pos g1, cnt, if_neg (by rw [g2]; simp)]
theorem SbR.push {s h : Nat} {x : Sb} {nw now : Int} (hR : SbR s h x) (hO : SbOk nw x) (h0 : nw ≤ now) (h1 : now ≤ 1000000) (hb : s + h ≤ 65535) (p : Pk) (hf : PM.fault p.s p.t p.l p.q p.L.length = 0) :
    x.push (65536 + (s : Int) + (h : Int)) now p = ({ x with on := now, ox := 65536 + (s : Int) + (h : Int) + 1, oM := [] } : Sb).item (kpk (65536 + (s : Int) + (h : Int)) now p) ∧ SbR s (h + 1) (x.push (65536 + (s : Int) + (h : Int)) now p) := by
  have htf := tf_le hO.oi.c1 (Int.le_trans hO.on h0) h1
  obtain ⟨y, hy⟩ : ∃ y : Int, 65536 + (s : Int) + (h : Int) = y := ⟨_, rfl⟩
  have hy0 : 0 ≤ y := by omega
  have hy1 : y ≤ 1099511627776 := by omega
  have hfx : OM.fx x.ox y = y := by
    unfold OM.fx
    rw [hR.ox]
    by_cases c : h = 0
    · rw [if_pos c, if_pos rfl]
    · rw [if_neg c, if_neg (by omega)]
      omega
  have hfar : OM.far x.ox y = false := by
    unfold OM.far
    rw [hR.ox]
    by_cases c : h = 0
    · rw [if_pos c]
      simp
    · rw [if_neg c, show y - (65536 + (s : Int) + (h : Int)) = 0 by omega]
      simp
  have hpf : OM.pf x.on x.ox y now (PM.fault p.s p.t p.l p.q p.L.length) = 0 := OM.pf_mk htf hy0 hy1 hf hfar
  have hpx : OM.px x.on x.ox y now x.oM (PM.fault p.s p.t p.l p.q p.L.length) = true := by
    unfold OM.px OM.kx
    rw [hpf, hfx, hR.oM]
    simp [OM.has]
  have e1 : x.pushed y now p = { x with on := now, ox := y, oM := [kpk y now p] } := by
    unfold Sb.pushed OM.pW OM.pX OM.pM
    rw [if_pos hpf, if_pos hpf, if_pos hpx, hfx, hR.oM]
    rfl
  have e2 : (x.pushed y now p).popK now = 1 := by
    rw [e1]
    exact cnt_one hy0
  have e3 : x.push y now p = ({ x with on := now, ox := y + 1, oM := [] } : Sb).item (kpk y now p) := by
    unfold Sb.push Sb.popd
    rw [e2, e1]
    have t1 : OM.takes [kpk y now p] y 1 = [kpk y now p] := by
      simp [OM.takes, OM.itm, kpk, List.range_succ]
    have t2 : OM.rest [kpk y now p] (y + 1) = [] := by
      simp [OM.rest, kpk]
      omega
    have t3 : Order.qW now now = now := by unfold Order.qW; split <;> rfl
    unfold Sb.pop Sb.popped
    show ((OM.takes [kpk y now p] y 1).foldl Sb.item ({ x with on := Order.qW now now, ox := y + ((1 : Nat) : Int), oM := OM.rest [kpk y now p] (y + ((1 : Nat) : Int)) } : Sb)) = _
    rw [t1, show y + ((1 : Nat) : Int) = y + 1 from rfl, t2, t3]
    rfl
  rw [hy, e3]
  obtain ⟨i1, i2, i3, i4⟩ := item_same' ({ x with on := now, ox := y + 1, oM := [] } : Sb) (kpk y now p)
  refine ⟨rfl, i3, ?_⟩
  rw [i2, if_neg (by omega)]
  show y + 1 = _
  omega
/-- what a subscriber is behind so many packets in a row -/
def rowsN (x : Sb) (now : Int) (s : Nat) (S : Nat → Pk) : Nat → Sb
  | 0 => x
  | h + 1 => (rowsN x now s S h).push (65536 + (s : Int) + (h : Int)) now (S h)
theorem rowsN_tm (x : Sb) (now : Int) (s : Nat) (S : Nat → Pk) : ∀ h, (rowsN x now s S h).tk = x.tk ∧ (rowsN x now s S h).mo = x.mo
  | 0 => ⟨rfl, rfl⟩
  | h + 1 => by
    have ih := rowsN_tm x now s S h
    have e := push_tm (rowsN x now s S h) (65536 + (s : Int) + (h : Int)) now (S h)
    exact ⟨e.1.trans ih.1, e.2.trans ih.2⟩
theorem wu_same {P : List Int} : ∀ (k : Nat) (x : Int), TM.anc P k x = -1 → TM.wu P (k + 1) x = TM.wu P k x
  | 0, x, h => by
    have : x = -1 := h
    subst this
    rfl
  | k + 1, x, h => by
    rw [TM.wu]
    by_cases c : x < 0
    · rw [if_pos c, TM.wu, if_pos c]
    · rw [if_neg c, wu_same k (TM.pa P x) h]
      conv => rhs; rw [TM.wu, if_neg c]
/-- how far down a loft is: 1 where the track begins -/
def dp (p : List Int) (n v : Nat) : Nat := (TM.wu p n (v : Int)).length
theorem dp_le (p : List Int) (n v : Nat) : dp p n v ≤ n := TM.wu_le p n (v : Int)
theorem Trees.anc {n r : Nat} {E : List TM.Ed} {p d : List Int} (h : Trees n r E p d) {v : Nat} (hv : v < n) : TM.anc p n (v : Int) = -1 := by
  have := h.ok.ends v (by rw [h.lenp]; exact hv)
  rwa [h.lenp] at this
theorem Trees.dp_root {n r : Nat} {E : List TM.Ed} {p d : List Int} (h : Trees n r E p d) {v : Nat} (hv : v < n) (hp : TM.dg p v = -1) : dp p n v = 1 := by
  obtain ⟨m, e, e2, e3⟩ := TM.wu_step (P := p) (k := n) (x := (v : Int)) (by omega) (h.anc hv)
  unfold dp
  rw [e2, TM.pa_nat, hp, TM.wu_neg]
  rfl
theorem Trees.dp_step {n r : Nat} {E : List TM.Ed} {p d : List Int} (h : Trees n r E p d) {v u : Nat} (hv : v < n) (hu : u < n) (hp : TM.dg p v = (u : Int)) : dp p n v = dp p n u + 1 := by
  obtain ⟨m, e, e2, e3⟩ := TM.wu_step (P := p) (k := n) (x := (v : Int)) (by omega) (h.anc hv)
  rw [TM.pa_nat, hp] at e2 e3
  unfold dp
  rw [e2, List.length_cons]
  have := wu_same m (u : Int) e3
  rw [← e] at this
  rw [this]
theorem Trees.root_pa {n r : Nat} {E : List TM.Ed} {p d : List Int} (h : Trees n r E p d) : TM.dg p r = -1 := by
  rcases h.pa h.rn with e | ⟨k, e, h1, h2, h3, h4⟩
  · exact e
  · have := h.dist.root h.rn
    omega
theorem Trees.root_d {n r : Nat} {E : List TM.Ed} {p d : List Int} (h : Trees n r E p d) : TM.dg d r = 0 := h.dist.root h.rn
theorem Trees.up {n r : Nat} {E : List TM.Ed} {p d : List Int} (h : Trees n r E p d) {v : Nat} (hv : v < n) (hd : 0 ≤ TM.dg d v) (hne : v ≠ r) : ∃ u : Nat, TM.dg p v = (u : Int) ∧ u < n ∧ 0 ≤ TM.dg d u ∧ u ≠ v := by
  have := TM.par_some h.dist h.pars hv hd hne
  rcases h.pa hv with e | ⟨k, e, h1, h2, h3, h4⟩
  · omega
  · exact ⟨k, e, h1, h4, h2⟩
theorem Trees.down {n r : Nat} {E : List TM.Ed} {p d : List Int} (h : Trees n r E p d) {v u : Nat} (hv : v < n) (hp : TM.dg p v = (u : Int)) : 0 ≤ TM.dg d v ∧ v ≠ r ∧ u < n ∧ 0 ≤ TM.dg d u ∧ v ≠ u := by
  obtain ⟨k, e, h1, h2, h3, h4, h5, h6⟩ := TM.par_facts h.dist h.rn h.pars hv (by omega)
  have : k = u := by omega
  subst this
  exact ⟨h5, h6, h1, h4, fun e => by subst e; omega⟩
end Go.Proofs.YtpiamlgmadnepaaGreat.MS

