/-
  What two nodes keep of packets that follow each other. Of numbers and lists alone; no walk.
-/
import Derived.Test.YtijfocggdjjnjaiGreatNodeV
namespace Go.Proofs.YtijfocggdjjnjaiGreat.ND
open Go.ChangeShapes Go.WideShapes Go.ChangeAt Go.RowKit Go.Maps Go.Proofs.YtijfocggdjjnjaiGreat.Mem Go.Proofs.YtijfocggdjjnjaiGreat.NO
set_option linter.unusedVariables false

/-- the packet of a number -/
def rL (n : Nat) : List Nat := [n % 256, n / 256 % 256]
def rp (n : Nat) (bv : Value) : RM.Pk := ⟨(n : Int), (n : Int), 0, 0, true, rL n, bv⟩
theorem rL_lt (n : Nat) : ∀ c ∈ rL n, c < 256 := by
  intro c hc
  simp only [rL, List.mem_cons, List.not_mem_nil, or_false] at hc
  omega
theorem rp_fault {n : Nat} (h : n ≤ 1000) : PM.fault (n : Int) (n : Int) 0 0 2 = 0 := by
  unfold PM.fault
  rw [if_pos (by omega), if_pos (by omega)]
theorem rp_pby_lt {n : Nat} (h : n ≤ 1000) : ∀ c ∈ pby (n : Int) (n : Int) 0 0 true (rL n), c < 256 := by
  intro c hc
  unfold pby at hc
  rcases List.mem_append.1 hc with hc | hc
  · exact PM.head_lt true (by omega) (by omega) (by omega) (by omega) c hc
  · exact rL_lt n c hc
/-- its frame -/
def rF (h : Int) (n : Nat) : List Nat := fby 1 1 1 h (pby (n : Int) (n : Int) 0 0 true (rL n))
theorem rF_fault {n : Nat} {h : Int} (hn : n ≤ 1000) (h1 : 0 ≤ h) (h2 : h ≤ 64) : FM.ffault 1 1 1 h (pby (n : Int) (n : Int) 0 0 true (rL n)) = 0 := by
  unfold FM.ffault
  rw [if_pos (by unfold FM.nums; omega)]
  exact pby_rfault (rp_fault hn)
theorem num_near {s n : Nat} (h : n ≤ s + 100) (h' : s ≤ n + 100) : num (65536 + (s : Int)) (n : Int) = 65536 + (n : Int) := by
  unfold num
  rw [if_neg (by omega)]
  unfold Ser.unw Ser.bey
  split <;> omega
/-- a track, but for what it keeps -/
structure TI (t : Tr) (pa : Int) (K : List Int) (s : Nat) (M : GM.Its) (nw : Int) : Prop where
  tk : t.tk = 1
  ep : t.ep = 1
  pa : t.pa = pa
  kids : t.kids = K
  gn : t.gn = nw
  gT : t.gT = 65536 + (s : Int)
  gM : t.gM = M
  gG : t.gG = []
  rT : t.rT = 65536 + (s : Int)
  gI : GM.Inv 3 3 t.gn t.gT t.gM
  rI : RM.Inv 64 t.rT t.rM
/-- what it keeps -/
structure RH (t : Tr) (s : Nat) : Prop where
  mem : ∀ i ∈ t.rM, ∃ n : Nat, i.1 = 65536 + (n : Int) ∧ (∃ bv, i.2 = rp n bv) ∧ t.wy i.1 = (1, 1)
  has : ∀ n : Nat, 5 ≤ n → n ≤ s → s < n + 64 → RM.has t.rM (65536 + (n : Int)) = true
theorem has_above {T y : Int} {M : RM.Its} (h : RM.Inv 64 T M) (hy : T < y) : RM.has M y = false := by
  cases hh : RM.has M y with
  | false => rfl
  | true =>
    obtain ⟨i, hi, e⟩ := RM.has_iff.1 hh
    have := (h.mem i hi).2.1
    omega
theorem px_above {T y : Int} {M : RM.Its} (h : RM.Inv 64 T M) (hy : T < y) (h0 : 0 ≤ y) (h1 : y ≤ 1099511627776) : RM.px 64 T y M 0 = true := by
  unfold RM.px
  rw [RM.pf_mk h0 h1 rfl (by omega), has_above h hy]
  rfl
theorem lo_at {T y : Int} (h0 : 0 ≤ T) (h1 : T < y) : GM.lo T y = y - T - 1 := by unfold GM.lo; rw [if_neg (by omega)]
theorem hf_near {nw T y now : Int} {M : GM.Its} (ht : GM.tf nw now = 0) (h0 : 0 ≤ T) (h1 : 0 ≤ y) (h2 : y ≤ T + 100) (h3 : T ≤ 1000000) (hl : M.length ≤ 1) : GM.hf nw T M y now = 0 := by
  have hlo : GM.lo T y ≤ 100 := by unfold GM.lo; split <;> omega
  unfold GM.hf
  rw [if_neg (by omega), if_neg (by omega), if_neg (by omega)]
/-- one that is above all that came -/
theorem TI.hear {t : Tr} {pa nw now : Int} {K : List Int} {s n : Nat} {M : GM.Its} (h : TI t pa K s M nw) (hs : s < n) (hn : n ≤ s + 2) (hb : s ≤ 1000) (hl : M.length ≤ 1) (hnow : GM.tf nw now = 0) (p : RM.Pk) (wy : Int × Int) :
    GM.hB t.gn t.gT t.gM (num t.rT (n : Int)) now = true ∧ TI ((t.heard (num t.rT (n : Int)) now).keep (num t.rT (n : Int)) p wy) pa K n (M ++ GM.fresh (65536 + (s : Int)) (n - s - 1)) now ∧ (t.heard (num t.rT (n : Int)) now).keep (num t.rT (n : Int)) p wy = { t.heard (65536 + (n : Int)) now with rT := 65536 + (n : Int), rM := RM.keeps 64 (65536 + (n : Int)) t.rM ++ [(65536 + (n : Int), p)], wy := fun x => if x = 65536 + (n : Int) then wy else t.wy x } := by
  have e1 : num t.rT (n : Int) = 65536 + (n : Int) := by rw [h.rT]; exact num_near (by omega) (by omega)
  have hf : GM.hf t.gn t.gT t.gM (65536 + (n : Int)) now = 0 := by
    rw [h.gn, h.gT, h.gM]
    exact hf_near hnow (by omega) (by omega) (by omega) (by omega) hl
  have hx := px_above h.rI (y := 65536 + (n : Int)) (by rw [h.rT]; omega) (by omega) (by omega)
  have et : RM.top t.rT (65536 + (n : Int)) = 65536 + (n : Int) := by unfold RM.top; rw [if_pos (by rw [h.rT]; omega)]
  have hk : (t.heard (65536 + (n : Int)) now).keep (65536 + (n : Int)) p wy = { t.heard (65536 + (n : Int)) now with rT := 65536 + (n : Int), rM := RM.keeps 64 (65536 + (n : Int)) t.rM ++ [(65536 + (n : Int), p)], wy := fun x => if x = 65536 + (n : Int) then wy else t.wy x } := by
    rw [Tr.keep_yes (t := t.heard (65536 + (n : Int)) now) hx]
    show ({ t.heard (65536 + (n : Int)) now with rT := RM.top t.rT (65536 + (n : Int)), rM := RM.keeps 64 (RM.top t.rT (65536 + (n : Int))) t.rM ++ [(65536 + (n : Int), p)], wy := fun x => if x = 65536 + (n : Int) then wy else t.wy x } : Tr) = _
    rw [et]
  have hI := GM.inv_hear2 (y := 65536 + (n : Int)) (now := now) h.gI
  have hR := RM.inv_put h.rI p (y := 65536 + (n : Int)) (by omega) (by omega) (by rw [h.rT]; omega) (has_above h.rI (by rw [h.rT]; omega))
  rw [et] at hR
  rw [e1, hk]
  have hM : GM.hL t.gn t.gT t.gM (65536 + (n : Int)) now = M ++ GM.fresh (65536 + (s : Int)) (n - s - 1) := by
    unfold GM.hL GM.hM
    rw [if_pos hf, h.gT, h.gM, if_pos (by omega), lo_at (by omega) (by omega)]
    congr 2
    omega
  have hU : GM.hU t.gn t.gT t.gM (65536 + (n : Int)) now = 65536 + (n : Int) := by
    unfold GM.hU GM.hT
    rw [if_pos hf, h.gT, if_pos (by omega)]
  have hN : GM.hN t.gn t.gT t.gM (65536 + (n : Int)) now = now := by
    unfold GM.hN
    rw [if_pos hf]
  refine ⟨?_, ⟨h.tk, h.ep, h.pa, h.kids, hN, hU, hM, h.gG, rfl, hI, hR⟩, rfl⟩
  unfold GM.hB GM.hx
  rw [hf, h.gT]
  have : (65536 + (s : Int)) < 65536 + (n : Int) := by omega
  simp [this]
/-- one that was lacking -/
theorem TI.late {t : Tr} {pa nw now : Int} {K : List Int} {s n : Nat} {x : GM.Lk} (h : TI t pa K s [x] nw) (hx : x.n = 65536 + (n : Int)) (hs : n < s) (hn : s ≤ n + 100) (hb : s ≤ 1000) (hnow : GM.tf nw now = 0) (p : RM.Pk) (wy : Int × Int) :
    GM.hB t.gn t.gT t.gM (num t.rT (n : Int)) now = true ∧ TI ((t.heard (num t.rT (n : Int)) now).keep (num t.rT (n : Int)) p wy) pa K s [] now := by
  have e1 : num t.rT (n : Int) = 65536 + (n : Int) := by rw [h.rT]; exact num_near (by omega) (by omega)
  have hf : GM.hf t.gn t.gT t.gM (65536 + (n : Int)) now = 0 := by
    rw [h.gn, h.gT, h.gM]
    exact hf_near hnow (by omega) (by omega) (by omega) (by omega) (by simp)
  have hI := GM.inv_hear2 (y := 65536 + (n : Int)) (now := now) h.gI
  have hM : GM.hL t.gn t.gT t.gM (65536 + (n : Int)) now = [] := by
    unfold GM.hL GM.hM
    rw [if_pos hf, h.gT, h.gM, if_neg (by omega)]
    simp [hx]
  have hU : GM.hU t.gn t.gT t.gM (65536 + (n : Int)) now = 65536 + (s : Int) := by
    unfold GM.hU GM.hT
    rw [if_pos hf, h.gT, if_neg (by omega)]
  have hN : GM.hN t.gn t.gT t.gM (65536 + (n : Int)) now = now := by
    unfold GM.hN
    rw [if_pos hf]
  rw [e1]
  refine ⟨?_, ?_⟩
  · unfold GM.hB GM.hx GM.has
    rw [hf, h.gM]
    simp [hx]
  · have hR := RM.inv_step (y := 65536 + (n : Int)) h.rI 0 p
    cases hp : RM.px 64 t.rT (65536 + (n : Int)) t.rM 0 with
    | false =>
      rw [Tr.keep_no (t := t.heard (65536 + (n : Int)) now) hp]
      exact ⟨h.tk, h.ep, h.pa, h.kids, hN, hU, hM, h.gG, h.rT, hI, h.rI⟩
    | true =>
      rw [Tr.keep_yes (t := t.heard (65536 + (n : Int)) now) hp]
      have et : RM.top t.rT (65536 + (n : Int)) = 65536 + (s : Int) := by unfold RM.top; rw [if_neg (by rw [h.rT]; omega), h.rT]
      unfold RM.pT RM.pM at hR
      rw [if_pos hp, if_pos hp] at hR
      exact ⟨h.tk, h.ep, h.pa, h.kids, hN, hU, hM, h.gG, et, hI, hR⟩
theorem RH.step {t : Tr} {pa nw now : Int} {K : List Int} {s : Nat} {M : GM.Its} (hR : RH t s) (h : TI t pa K s M nw) (hb : s ≤ 1000) (hl : M.length ≤ 1) (hnow : GM.tf nw now = 0) (bv : Value) :
    RH ((t.heard (num t.rT ((s + 1 : Nat) : Int)) now).keep (num t.rT ((s + 1 : Nat) : Int)) (rp (s + 1) bv) (1, 1)) (s + 1) := by
  rw [(h.hear (n := s + 1) (by omega) (by omega) hb hl hnow (rp (s + 1) bv) (1, 1)).2.2]
  refine ⟨?_, ?_⟩
  · intro i hi
    rcases List.mem_append.1 hi with hi | hi
    · obtain ⟨n, e1, e2, e3⟩ := hR.mem i (List.mem_filter.1 hi).1
      refine ⟨n, e1, e2, ?_⟩
      show (if i.1 = 65536 + ((s + 1 : Nat) : Int) then (1, 1) else t.wy i.1) = (1, 1)
      rw [e3]
      split <;> rfl
    · simp only [List.mem_singleton] at hi
      subst hi
      refine ⟨s + 1, rfl, ⟨bv, rfl⟩, ?_⟩
      show (if 65536 + ((s + 1 : Nat) : Int) = 65536 + ((s + 1 : Nat) : Int) then ((1 : Int), (1 : Int)) else _) = (1, 1)
      rw [if_pos rfl]
  · intro n h5 hn h64
    refine RM.has_iff.2 ?_
    by_cases c : n = s + 1
    · subst c
      exact ⟨_, List.mem_append.2 (.inr (List.mem_singleton.2 rfl)), rfl⟩
    · obtain ⟨i, hi, e⟩ := RM.has_iff.1 (hR.has n h5 (by omega) (by omega))
      exact ⟨i, List.mem_append.2 (.inl (List.mem_filter.2 ⟨hi, by simp; omega⟩)), e⟩
/-- the first of all -/
theorem TI.first (pa : Int) (K : List Int) (p : RM.Pk) (wy : Int × Int) :
    GM.hB ((tr0 1 1).to pa K).gn ((tr0 1 1).to pa K).gT ((tr0 1 1).to pa K).gM (num ((tr0 1 1).to pa K).rT 5) 0 = true ∧ TI ((((tr0 1 1).to pa K).heard (num ((tr0 1 1).to pa K).rT 5) 0).keep (num ((tr0 1 1).to pa K).rT 5) p wy) pa K 5 [] 0 ∧ (((tr0 1 1).to pa K).heard (num ((tr0 1 1).to pa K).rT 5) 0).keep (num ((tr0 1 1).to pa K).rT 5) p wy = { ((tr0 1 1).to pa K).heard 65541 0 with rT := 65541, rM := [(65541, p)], wy := fun x => if x = 65541 then wy else (0, 0) } := by
  have e1 : num ((tr0 1 1).to pa K).rT 5 = 65541 := rfl
  rw [e1]
  have hf : GM.hf 0 (-1) [] 65541 0 = 0 := by decide
  have hI0 := GM.inv_start (ag := 3) (tr := 3) (by omega) (by omega) (by omega) (by omega)
  have hI := GM.inv_hear2 (y := 65541) (now := 0) hI0
  have hR0 := RM.inv_start (n := 64) (by omega) (by omega)
  have hx : RM.px 64 (-1) 65541 [] 0 = true := by decide
  have hR := RM.inv_put hR0 p (y := 65541) (by omega) (by omega) (by omega) rfl
  have hk : (((tr0 1 1).to pa K).heard 65541 0).keep 65541 p wy = { ((tr0 1 1).to pa K).heard 65541 0 with rT := 65541, rM := [(65541, p)], wy := fun x => if x = 65541 then wy else (0, 0) } := by
    rw [Tr.keep_yes (t := ((tr0 1 1).to pa K).heard 65541 0) hx]
    rfl
  refine ⟨by show GM.hB 0 (-1) [] 65541 0 = true; decide, ?_, hk⟩
  rw [hk]
  exact ⟨rfl, rfl, rfl, rfl, rfl, rfl, rfl, rfl, rfl, hI, hR⟩
theorem RH.first (pa : Int) (K : List Int) (bv : Value) : RH ((((tr0 1 1).to pa K).heard (num ((tr0 1 1).to pa K).rT 5) 0).keep (num ((tr0 1 1).to pa K).rT 5) (rp 5 bv) (1, 1)) 5 := by
  rw [(TI.first pa K (rp 5 bv) (1, 1)).2.2]
  refine ⟨?_, ?_⟩
  · intro i hi
    simp only [List.mem_singleton] at hi
    subst hi
    exact ⟨5, rfl, ⟨bv, rfl⟩, rfl⟩
  · intro n h5 hn _
    obtain rfl : n = 5 := by omega
    rfl
theorem took_yes {N : Nd} {i : Nat} {t : Tr} {p : RM.Pk} {og h now : Int} (hB : GM.hB t.gn t.gT t.gM (num t.rT p.s) now = true) :
    N.took i t p og h now = { N with tr := updR N.tr i ((t.heard (num t.rT p.s) now).keep (num t.rT p.s) p (og, h)), lt := N.lt ++ downs t.kids (FM.ffault t.tk og t.ep h (pby p.s p.t p.l p.q p.st p.L)) (fby t.tk og t.ep h (pby p.s p.t p.l p.q p.st p.L)) } := by
  unfold Nd.took
  rw [if_pos hB]
/-- a node of which nothing but track 1 is planned, at rest -/
structure NI (N : Nd) (id : Int) (nw : Int) (t : Tr) : Prop where
  id : N.id = id
  nw : N.nw = nw
  tr : N.tr 0 = some t
  no : ∀ i, i ≠ 0 → N.tr i = none
  sb : N.sb = []
  ls : N.ls = 0
  lt : N.lt = []
end Go.Proofs.YtijfocggdjjnjaiGreat.ND

