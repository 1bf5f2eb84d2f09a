/-
  What take of package node leaves in memory, where nobody subscribes. Its condition: the node is such as it may be.
-/
import Derived.Test.YtpiamlgmadnepaaGreatNodeS
import Derived.Test.YtpiamlgmadnepaaGreatGapsE
import Derived.Deep.CutBlock
namespace Go.Proofs.YtpiamlgmadnepaaGreat.ND
open Go.ChangeShapes Go.WideShapes Go.ChangeAt Go.RowKit Go.Maps Go.Proofs.YtpiamlgmadnepaaGreat.Mem Go.Proofs.YtpiamlgmadnepaaGreat.NO
set_option linter.unusedVariables false

/-- a track that has heard a number -/
def Tr.heard (t : Tr) (y now : Int) : Tr := { t with gn := GM.hN t.gn t.gT t.gM y now, gT := GM.hU t.gn t.gT t.gM y now, gM := GM.hL t.gn t.gT t.gM y now }
theorem TrAt.heard {w w' : World} {P : TP} {t : Tr} {nn uu : Int} {ll : GM.Its} (h : TrAt w P t) (hG : Gaps.GapsAt w' P.g P.gm 3 3 nn uu ll P.gv t.gG) (ho : Only [P.g, P.gm] w w') : TrAt w' P { t with gn := nn, gT := uu, gM := ll } := by
  have s := h.sepG
  have m : ∀ k, k ∈ P.p :: P.wm :: P.r :: P.rm :: kblk P.ka t.kids → k ∉ [P.g, P.gm] := fun k hk hm => s k hk (by simp only [Gaps.blks]; simp at hm; rcases hm with hm | hm <;> simp [hm])
  have nb : ∀ k ∈ [P.g, P.gm], ∀ cs fr, w.heap[k]? ≠ some (.cells cs 5 fr) := by
    intro k hk cs fr
    simp only [List.mem_cons, List.not_mem_nil, or_false] at hk
    rcases hk with rfl | rfl
    · rw [h.gap.box]; simp
    · obtain ⟨D, h1, _, _⟩ := h.gap.map
      obtain ⟨es, c, hm⟩ := RM.map_block h1
      rw [hm]; simp
  obtain ⟨D, h1, h2, h3⟩ := h.way
  exact ⟨(ho.2.2.2.2 _ (lt_of_block h.box) (m _ (by simp))).trans h.box, iarg_only h.kid ho (fun k hk => m k (by simp [hk])), h.kno, hG, h.rng.only ho (m _ (by simp)) (m _ (by simp)) nb, ⟨D, map_only h1 ho (m _ (by simp)), h2, h3⟩, h.ap, h.kap⟩
theorem nobT {w : World} {P : TP} {t : Tr} (h : TrAt w P t) : Nob w [P.g, P.gm] := by
  obtain ⟨D, h1, _, _⟩ := h.gap.map
  intro k hk
  simp only [List.mem_cons, List.not_mem_nil, or_false] at hk
  rcases hk with rfl | rfl
  · exact nobAt_cells h.gap.box (by decide)
  · exact nobAt_map (RM.map_block h1)
theorem tblks_same {P : TP} {t t' : Tr} (h : t'.kids = t.kids) : tblks P t' = tblks P t := by unfold tblks; rw [h]
theorem updT_self (f : Nat → TP) (i : Nat) : updT f i (f i) = f := by
  funext k
  unfold updT
  split
  · rename_i e; rw [e]
  · rfl
theorem updR_twice (f : Nat → Option Tr) (i : Nat) (a b : Tr) : updR (updR f i a) i b = updR f i b := by
  funext k
  unfold updR
  split <;> rfl
theorem updR_at (f : Nat → Option Tr) (i : Nat) (a : Tr) : updR f i a i = some a := by simp [updR]
/-- a track that changes in its own blocks alone -/
theorem NAt.trk1 {w w' : World} {o : Nat → Tg} {n b : Nat} {P : NP} {N : Nd} (h : NAt w o n b P N) (hn : n ≠ 0) {i : Nat} (hi : i < 8) {t t' : Tr} (ht : N.tr i = some t) {bs : List Nat} (ho : Only bs w w') (hb : ∀ k ∈ bs, k ∈ tblks (P.tp i) t) (hnb : Nob w bs) (hl : TrAt w' (P.tp i) t') (hk : t'.kids = t.kids) :
    NAt w' o n b P { N with tr := updR N.tr i t' } ∧ Chg o (fun g => g = ⟨n, 3, i⟩) w w' := by
  obtain ⟨k1, k2⟩ := h.trs i hi t ht
  have hc : Chg o (fun g => g = ⟨n, 3, i⟩) w w' := Chg.of_only ho (fun k hkk => k2 k (hb k hkk)) hnb
  have := h.trk hn hi hc (Ext.refl _ _) ht (Q := P.tp i) rfl hl (by rw [tblks_same hk]; exact k2)
  rw [updT_self] at this
  exact ⟨this, hc⟩
/-- what goes to the kids -/
def downs (K : List Int) (f : Nat) (F : List Nat) : List (Int × List Nat) := if f = 0 then K.map fun k => (k, F) else []
/-- a node behind take -/
def Nd.took (N : Nd) (i : Nat) (t : Tr) (p : RM.Pk) (og h now : Int) : Nd :=
  if GM.hB t.gn t.gT t.gM (num t.rT p.s) now then
    { N with tr := updR N.tr i ((t.heard (num t.rT p.s) now).keep (num t.rT p.s) p (og, h)), lt := N.lt ++ downs t.kids (FM.ffault t.tk og t.ep h (pby p.s p.t p.l p.q p.st p.L)) (fby t.tk og t.ep h (pby p.s p.t p.l p.q p.st p.L)) }
  else { N with tr := updR N.tr i (t.heard (num t.rT p.s) now) }
/-- under way: j kids have got it -/
def KSt (w1 wr : World) (o1 : Nat → Tg) (n b : Nat) (P : NP) (N : Nd) (K : List Int) (f : Nat) (F : List Nat) (j : Nat) : Prop :=
  Wrote w1 wr o1 n b P { N with lt := N.lt ++ downs (K.take j) f F }
theorem downs_nil (f : Nat) (F : List Nat) : downs [] f F = [] := by unfold downs; split <;> rfl
theorem downs_len (K : List Int) (f : Nat) (F : List Nat) : (downs K f F).length ≤ K.length := by unfold downs; split <;> simp
theorem downs_step {K : List Int} {f : Nat} {F : List Nat} {j : Nat} (hj : j < K.length) : downs (K.take (j + 1)) f F = downs (K.take j) f F ++ (if f = 0 then [(K.getD j 0, F)] else []) := by
  unfold downs
  split
  · rw [List.take_add_one, List.getElem?_eq_getElem hj, List.map_append, List.getD_eq_getElem?_getD, List.getElem?_eq_getElem hj]
    rfl
  · rfl
theorem KSt.step {w1 wr w2 : World} {o1 : Nat → Tg} {n b : Nat} {P : NP} {N : Nd} {K : List Int} {f : Nat} {F : List Nat} {j : Nat} (hj : j < K.length) (h : KSt w1 wr o1 n b P N K f F j)
    (hs : ∀ oj lv, NAt wr oj n b { P with lv := lv } { N with lt := N.lt ++ downs (K.take j) f F } → Wrote wr w2 oj n b { P with lv := lv } { N with lt := if f = 0 then (N.lt ++ downs (K.take j) f F) ++ [(K.getD j 0, F)] else N.lt ++ downs (K.take j) f F }) : KSt w1 w2 o1 n b P N K f F (j + 1) := by
  obtain ⟨oj, lv, h1, h2, h3⟩ := h
  obtain ⟨o', lv', g1, g2, g3⟩ := hs oj lv h1
  have e : N.lt ++ downs (K.take (j + 1)) f F = if f = 0 then (N.lt ++ downs (K.take j) f F) ++ [(K.getD j 0, F)] else N.lt ++ downs (K.take j) f F := by
    rw [downs_step hj]
    split
    · rw [List.append_assoc]
    · simp
  refine ⟨o', lv', ?_, h2.trans g2 h3.size, h3.trans g3 h2⟩
  rw [e]
  exact g1
theorem lets_body {w w' : World} {o : Nat → Tg} {n : Nat} (hn : n ≠ 0) (hc : Chg o (mine n) w w') {k : Nat} {x : Obj} (hx : w.heap[k]? = some x) (hk : (o k).n = 0) : w'.heap[k]? = some x :=
  hc.block hx (fun hm => hn (by unfold mine at hm; rw [hk] at hm; exact hm.symm))
end Go.Proofs.YtpiamlgmadnepaaGreat.ND

