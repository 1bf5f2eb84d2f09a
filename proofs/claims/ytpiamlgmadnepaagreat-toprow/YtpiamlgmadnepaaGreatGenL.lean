/-
  A node behind a Tick is such as it may be. Of numbers and lists alone; no walk.
-/
import Derived.Test.YtpiamlgmadnepaaGreatGenK
namespace Go.Proofs.YtpiamlgmadnepaaGreat.ND
open Go.ChangeShapes Go.WideShapes Go.ChangeAt Go.RowKit Go.Maps Go.Proofs.YtpiamlgmadnepaaGreat.Mem Go.Proofs.YtpiamlgmadnepaaGreat.NO
set_option linter.unusedVariables false

theorem SbOk.gones {nw now : Int} (h1 : now ≤ 1000000) : ∀ (G : List Int) (s : Sb), SbOk nw s → nw ≤ now → SbOk now (G.foldl (fun s y => s.gone y now) s)
  | [], s, h, hn => h.mono hn
  | y :: G, s, h, hn => by
    rw [List.foldl_cons]
    exact SbOk.gones h1 G _ (h.gone (tf_le h.oi.c1 (Int.le_trans h.on hn) h1)) (Int.le_refl _)
theorem gones_tm (now : Int) : ∀ (G : List Int) (s : Sb), (G.foldl (fun s y => s.gone y now) s).tk = s.tk ∧ (G.foldl (fun s y => s.gone y now) s).mo = s.mo
  | [], s => ⟨rfl, rfl⟩
  | y :: G, s => gones_tm now G (s.gone y now)
theorem NdOk.askG {n : Nat} {N : Nd} (h : NdOk n N) {i : Nat} (hi : i < 8) : NdOk n (N.askG i N.nw) := by
  unfold Nd.askG
  cases ht : N.tr i with
  | none => exact h
  | some t =>
    simp only []
    split
    · exact h
    · have hT := h.tr i hi t ht
      have h2 := h.nw.2
      have hT' : TrOk n N.nw i { t with gn := N.nw, gM := GM.dM 3 3 N.nw t.gM, gG := [] } := ⟨hT.tk, hT.ep, hT.pa, hT.kd, hT.kl, GM.inv_due hT.gi (gtf_le hT.gi.n1 hT.gn h2), Int.le_refl _, rfl, hT.ri, hT.rf⟩
      have k1 := h.setT hT'
      have k2 := k1.setS (tk := t.tk) (f := fun s => (GM.gaveL 3 3 N.nw t.gM).foldl (fun s y => s.gone y N.nw) s) (fun s hs => SbOk.gones h2 _ s hs (Int.le_refl _)) (fun s => (gones_tm _ _ s).2) (fun s => (gones_tm _ _ s).1)
      exact k2.letters _
theorem askG_nw (N : Nd) (i : Nat) (now : Int) : (N.askG i now).nw = N.nw ∧ (N.askG i now).id = N.id ∧ (N.askG i now).ls = N.ls ∧ (N.askG i now).pn = N.pn ∧ (N.askG i now).ak = N.ak ∧ (N.askG i now).pL = N.pL ∧ (∀ k, k ≠ i → (N.askG i now).tr k = N.tr k) ∧ (N.askG i now).lt.length ≤ N.lt.length + 1 := by
  unfold Nd.askG
  split
  · exact ⟨rfl, rfl, rfl, rfl, rfl, rfl, fun _ _ => rfl, Nat.le_succ _⟩
  · split
    · exact ⟨rfl, rfl, rfl, rfl, rfl, rfl, fun _ _ => rfl, Nat.le_succ _⟩
    · refine ⟨rfl, rfl, rfl, rfl, rfl, rfl, fun k hk => ?_, ?_⟩
      · show updR N.tr i _ k = N.tr k
        unfold updR
        rw [if_neg hk]
      · show (N.lt ++ _).length ≤ _
        rw [List.length_append]
        split <;> simp
theorem asksG_nw (N : Nd) (now : Int) : ∀ j, (N.asksG now j).nw = N.nw ∧ (N.asksG now j).id = N.id ∧ (N.asksG now j).ls = N.ls ∧ (N.asksG now j).pn = N.pn ∧ (N.asksG now j).ak = N.ak ∧ (N.asksG now j).pL = N.pL ∧ (∀ k, j ≤ k → (N.asksG now j).tr k = N.tr k) ∧ (N.asksG now j).lt.length ≤ N.lt.length + j
  | 0 => ⟨rfl, rfl, rfl, rfl, rfl, rfl, fun _ _ => rfl, Nat.le_refl _⟩
  | j + 1 => by
    obtain ⟨a1, a2, a3, a4, a5, a6, a7, a8⟩ := asksG_nw N now j
    obtain ⟨b1, b2, b3, b4, b5, b6, b7, b8⟩ := askG_nw (N.asksG now j) j now
    show ((N.asksG now j).askG j now).nw = N.nw ∧ ((N.asksG now j).askG j now).id = N.id ∧ ((N.asksG now j).askG j now).ls = N.ls ∧ ((N.asksG now j).askG j now).pn = N.pn ∧ ((N.asksG now j).askG j now).ak = N.ak ∧ ((N.asksG now j).askG j now).pL = N.pL ∧ (∀ k, j + 1 ≤ k → ((N.asksG now j).askG j now).tr k = N.tr k) ∧ ((N.asksG now j).askG j now).lt.length ≤ N.lt.length + (j + 1)
    exact ⟨b1.trans a1, b2.trans a2, b3.trans a3, b4.trans a4, b5.trans a5, b6.trans a6, fun k hk => (b7 k (by omega)).trans (a7 k (by omega)), by omega⟩
theorem NdOk.asksG {n : Nat} {N : Nd} (h : NdOk n N) : ∀ j, j ≤ 8 → NdOk n (N.asksG N.nw j)
  | 0, _ => h
  | j + 1, hj => by
    have k := NdOk.asksG h j (by omega)
    have e := (asksG_nw N N.nw j).1
    have := k.askG (i := j) (by omega)
    rw [e] at this
    exact this
theorem popS_ids (now : Int) (l : List (Int × Sb)) : ids (popS now l) = ids l := by
  unfold ids popS
  rw [List.map_map]
  rfl
theorem NdOk.pops {n : Nat} {N : Nd} (h : NdOk n N) : NdOk n (N.pops N.nw) := by
  refine ⟨h.nw, h.id, h.tr, ⟨?_, ?_, ?_, h.si.ls0, h.si.ls1⟩, ?_, h.pn, h.pl, h.pw, h.ak⟩
  · show (ids (popS N.nw N.sb)).Pairwise _
    rw [popS_ids]
    exact h.si.ris
  · intro x hx
    obtain ⟨y, hy, rfl⟩ := List.mem_map.1 hx
    have := h.si.mem y hy
    show 1 ≤ y.1 ∧ y.1 ≤ N.ls ∧ 0 ≤ (y.2.popd N.nw).mo ∧ (y.2.popd N.nw).mo ≤ 3
    rw [(popd_tm y.2 N.nw).2]
    exact this
  · show (popS N.nw N.sb).length ≤ 20
    unfold popS
    rw [List.length_map]
    exact h.si.len
  · intro x hx
    obtain ⟨y, hy, rfl⟩ := List.mem_map.1 hx
    obtain ⟨k1, k, hk, e, k2⟩ := h.sb y hy
    refine ⟨(k1.pop (tf_le k1.oi.c1 k1.on h.nw.2)).2.2.1, k, hk, ?_, k2⟩
    show (y.2.popd N.nw).tk = _
    rw [(popd_tm y.2 N.nw).1]
    exact e
theorem NdOk.askS {n : Nat} {N : Nd} (h : NdOk n N) {x : Int × Sb} (hx : 1 ≤ x.2.tk ∧ x.2.tk ≤ 8 ∧ 0 ≤ x.2.mo ∧ x.2.mo ≤ 3) : NdOk n (N.askS N.nw x.2) := by
  unfold Nd.askS
  split
  · exact h
  · split
    · exact h
    · have hi := h.id
      have hok : PU.Ok ⟨N.id, x.2.tk, x.2.mo⟩ := by unfold PU.Ok; simp only []; omega
      refine ⟨h.nw, h.id, h.tr, h.si, h.sb, ?_, PU.inv_put h.pl hok, ?_, PU.ainv_ask h.ak⟩
      · have h1 := h.pn
        have h2 := h.nw
        show 0 ≤ PU.aN _ N.pn x.2.tk N.nw ∧ PU.aN _ N.pn x.2.tk N.nw ≤ N.nw
        unfold PU.aN
        split <;> omega
      · intro y hy
        rcases PU.mem_put.1 hy with h1 | rfl
        · exact h.pw y h1.1
        · rfl
theorem askS_nw (N : Nd) (now : Int) (s : Sb) : (N.askS now s).nw = N.nw ∧ (N.askS now s).id = N.id ∧ (N.askS now s).tr = N.tr ∧ (N.askS now s).sb = N.sb ∧ (N.askS now s).ls = N.ls ∧ (N.askS now s).lt.length ≤ N.lt.length + 1 := by
  unfold Nd.askS
  split
  · exact ⟨rfl, rfl, rfl, rfl, rfl, Nat.le_succ _⟩
  · split
    · exact ⟨rfl, rfl, rfl, rfl, rfl, Nat.le_succ _⟩
    · refine ⟨rfl, rfl, rfl, rfl, rfl, ?_⟩
      show (N.lt ++ _).length ≤ _
      rw [List.length_append]
      split <;> simp
theorem starts_nw (now : Int) : ∀ (l : List (Int × Sb)) (N : Nd), (N.starts now l).nw = N.nw ∧ (N.starts now l).id = N.id ∧ (N.starts now l).tr = N.tr ∧ (N.starts now l).sb = N.sb ∧ (N.starts now l).ls = N.ls ∧ (N.starts now l).lt.length ≤ N.lt.length + l.length
  | [], N => ⟨rfl, rfl, rfl, rfl, rfl, Nat.le_refl _⟩
  | x :: l, N => by
    obtain ⟨a1, a2, a3, a4, a5, a6⟩ := askS_nw N now x.2
    obtain ⟨b1, b2, b3, b4, b5, b6⟩ := starts_nw now l (N.askS now x.2)
    show ((N.askS now x.2).starts now l).nw = _ ∧ ((N.askS now x.2).starts now l).id = _ ∧ ((N.askS now x.2).starts now l).tr = _ ∧ ((N.askS now x.2).starts now l).sb = _ ∧ ((N.askS now x.2).starts now l).ls = _ ∧ ((N.askS now x.2).starts now l).lt.length ≤ _
    simp only [List.length_cons]
    exact ⟨b1.trans a1, b2.trans a2, b3.trans a3, b4.trans a4, b5.trans a5, by omega⟩
theorem NdOk.starts {n : Nat} : ∀ (l : List (Int × Sb)) (N : Nd), NdOk n N → (∀ x ∈ l, 1 ≤ x.2.tk ∧ x.2.tk ≤ 8 ∧ 0 ≤ x.2.mo ∧ x.2.mo ≤ 3) → NdOk n (N.starts N.nw l)
  | [], N, h, _ => h
  | x :: l, N, h, hl => by
    have k := NdOk.starts l _ (h.askS (hl x (by simp))) (fun y hy => hl y (by simp [hy]))
    rw [(askS_nw N N.nw x.2).1] at k
    exact k
theorem starts_snoc (N : Nd) (now : Int) (l : List (Int × Sb)) (x : Int × Sb) : N.starts now (l ++ [x]) = (N.starts now l).askS now x.2 := by
  unfold Nd.starts
  rw [List.foldl_append]
  rfl
theorem sb_tm {n : Nat} {N : Nd} (h : NdOk n N) : ∀ x ∈ N.sb, 1 ≤ x.2.tk ∧ x.2.tk ≤ 8 ∧ 0 ≤ x.2.mo ∧ x.2.mo ≤ 3 := by
  intro x hx
  obtain ⟨_, k, hk, e, _⟩ := h.sb x hx
  have := h.si.mem x hx
  omega
theorem NdOk.tick {n : Nat} {N : Nd} (h : NdOk n N) {now : Int} (h0 : N.nw ≤ now) (h1 : now ≤ 1000000) : NdOk n (N.tick now) := by
  have k1 := h.later h0 h1
  have k2 := k1.asksG 8 (Nat.le_refl _)
  have e2 : ((({ N with nw := now } : Nd).asksG now 8)).nw = now := (asksG_nw ({ N with nw := now } : Nd) now 8).1
  have k3 := k2.pops
  rw [show ({ N with nw := now } : Nd).nw = now from rfl, e2] at k3
  have k4 := NdOk.starts _ _ k3 (sb_tm k3)
  rw [show (((({ N with nw := now } : Nd).asksG now 8)).pops now).nw = now from e2] at k4
  exact k4
/-- nothing is given up now -/
def NoGive (N : Nd) (now : Int) : Prop := ∀ i, i < 8 → ∀ t, N.tr i = some t → t.pa ≠ -1 → GM.gaveL 3 3 now t.gM = []
end Go.Proofs.YtpiamlgmadnepaaGreat.ND

