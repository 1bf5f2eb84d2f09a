/-
  A node in memory, with one thing of it changed. Of worlds alone; no walk.
-/
import Derived.Test.YtpiamlgmadnepaaGreatNodeF
namespace Go.Proofs.YtpiamlgmadnepaaGreat.ND
open Go.ChangeShapes Go.WideShapes Go.ChangeAt Go.RowKit Go.Maps Go.Proofs.YtpiamlgmadnepaaGreat.Mem Go.Proofs.YtpiamlgmadnepaaGreat.NO
set_option linter.unusedVariables false

section
variable {w w' : World} {o o' : Nat → Tg} {n b : Nat} {P : NP} {N : Nd} {S : Tg → Prop}
theorem NAt.box' (h : NAt w o n b P N) (hc : Chg o S w w') (hs : ¬ S ⟨n, 0, 0⟩) : ∃ cs, w'.heap[b]? = some (.cells cs 157 (0, 0)) ∧ NCells cs P N := by
  obtain ⟨cs, h1, h2⟩ := h.box
  exact ⟨cs, hc.block h1 (by rw [h.tag]; exact hs), h2⟩
theorem NAt.tag' (h : NAt w o n b P N) (he : Ext w o o') : o' b = ⟨n, 0, 0⟩ := (he _ h.lt).trans h.tag
theorem NAt.trs' (h : NAt w o n b P N) (hc : Chg o S w w') (he : Ext w o o') {i : Nat} (hi : i < 8) (hs : ¬ S ⟨n, 3, i⟩) : ∀ t, N.tr i = some t → TrAt w' (P.tp i) t ∧ Own o' ⟨n, 3, i⟩ (tblks (P.tp i) t) := by
  intro t ht
  obtain ⟨k1, k2⟩ := h.trs i hi t ht
  exact ⟨k1.chg hc k2 hs, k2.ext he k1.lt⟩
theorem NAt.sbm' (h : NAt w o n b P N) (hc : Chg o S w w') (hs : ¬ S ⟨n, 0, 1⟩) : ∃ D, w'.ownsMap Tryz.prog 3 ptR P.sm N.sb.length D ∧ SM D (ids N.sb) fun x => (P.sp x).s := by
  obtain ⟨D, h3, h4⟩ := h.sbm
  exact ⟨D, map_chg h3 hc (by rw [h.smt]; exact hs), h4⟩
theorem NAt.smt' (h : NAt w o n b P N) (he : Ext w o o') : o' P.sm = ⟨n, 0, 1⟩ := by
  obtain ⟨D, h3, h4⟩ := h.sbm
  exact (he _ h3.lt).trans h.smt
theorem NAt.sbs' (h : NAt w o n b P N) (hc : Chg o S w w') (he : Ext w o o') (h0 : ∀ g, S g → g.n ≠ 0) {x : Int × Sb} (hx : x ∈ N.sb) (hs : ¬ S ⟨n, 4, x.1⟩) : SbAt w' o' (P.sp x.1) x.2 ∧ Own o' ⟨n, 4, x.1⟩ (sblks (P.sp x.1)) := by
  obtain ⟨k1, k2⟩ := h.sbs x hx
  exact ⟨k1.chg hc k2 hs h0 he, k2.ext he k1.lt⟩
theorem NAt.pul' (h : NAt w o n b P N) (hc : Chg o S w w') (hs : ¬ S ⟨n, 2, 0⟩) : Pull.PullAt w' P.pb P.pm 10 N.pn (fun _ => -1) N.ak N.pL := pull_chg h.pul hc h.put hs
theorem NAt.put' (h : NAt w o n b P N) (he : Ext w o o') : Own o' ⟨n, 2, 0⟩ (Pull.pblks P.pb P.pm) := h.put.ext he h.pul.blt
theorem NAt.ltr' (h : NAt w o n b P N) (hc : Chg o S w w') (he : Ext w o o') (h0 : ∀ g, S g → g.n ≠ 0) (hs : ¬ S ⟨n, 1, 0⟩) : LetAt w' o' P.lv N.lt := h.ltr.chg hc h.ltt hs h0 he
theorem NAt.ltt' (h : NAt w o n b P N) (he : Ext w o o') : Own o' ⟨n, 1, 0⟩ P.lv.ownBlock.toList := h.ltt.ext he h.ltr.lt
end
theorem nobN {w : World} {o : Nat → Tg} {n b : Nat} {P : NP} {N : Nd} (h : NAt w o n b P N) : NobAt w b := by
  obtain ⟨cs, h1, _⟩ := h.box
  exact nobAt_cells h1 (by decide)
/-- a cell of the node's own changes -/
theorem NAt.chgB {w : World} {o : Nat → Tg} {n b : Nat} {P : NP} {N : Nd} (h : NAt w o n b P N) (j : Nat) (u : Value) : Chg o (fun g => g = ⟨n, 0, 0⟩) w (w.setCell ⟨b, j, none⟩ u) :=
  Chg.of_only (bs := [b]) ((Only.refl _ _).setCell (by simp) _) (by intro k hk; simp at hk; rw [hk]; exact h.tag) (by intro k hk; simp at hk; rw [hk]; exact nobN h)
theorem NAt.setb {w : World} {o : Nat → Tg} {n b : Nat} {P : NP} {N : Nd} (h : NAt w o n b P N) (hn : n ≠ 0) (j : Nat) (u : Value) {N' : Nd} (hc : ∀ cs : Array Value, NCells cs P N → NCells (cs.setIfInBounds j u) P N') (e1 : N'.tr = N.tr) (e2 : N'.sb = N.sb) (e3 : N'.pn = N.pn) (e4 : N'.ak = N.ak) (e5 : N'.pL = N.pL) (e6 : N'.lt = N.lt) : NAt (w.setCell ⟨b, j, none⟩ u) o n b P N' := by
  have hg := h.chgB j u
  have he := Ext.refl w o
  have h0 : ∀ g : Tg, g = ⟨n, 0, 0⟩ → g.n ≠ 0 := by rintro g rfl; exact hn
  obtain ⟨cs, h1, h2⟩ := h.box
  refine ⟨⟨_, heap_setCell_same w b j _ _ u h1, hc cs h2⟩, h.tag, ?_, ?_, h.smt, ?_, ?_, h.put, ?_, h.ltt⟩
  · rw [e1]
    intro i hi
    exact h.trs' hg he hi (by simp)
  · rw [e2]
    exact h.sbm' hg (by simp)
  · rw [e2]
    intro x hx
    exact h.sbs' hg he h0 hx (by simp)
  · rw [e3, e4, e5]
    exact h.pul' hg (by simp)
  · rw [e6]
    exact h.ltr' hg he h0 (by simp)
theorem NCells.setN {cs : Array Value} {P : NP} {N : Nd} (h : NCells cs P N) (x : Int) : NCells (cs.setIfInBounds 0 (.int .i64 x)) P { N with nw := x } := by
  have hz := h.sz
  refine ⟨by simpa using hz, by rw [Array.getElem?_setIfInBounds, if_pos rfl, if_pos (by omega)], ?_, ?_, ?_, ?_, ?_, ?_⟩
  · rw [Array.getElem?_setIfInBounds, if_neg (by omega)]; exact h.c1
  · intro i hi; rw [Array.getElem?_setIfInBounds, if_neg (by omega)]; exact h.ct i hi
  · rw [Array.getElem?_setIfInBounds, if_neg (by omega)]; exact h.c10
  · rw [Array.getElem?_setIfInBounds, if_neg (by omega)]; exact h.c11
  · rw [Array.getElem?_setIfInBounds, if_neg (by omega)]; exact h.c12
  · rw [Array.getElem?_setIfInBounds, if_neg (by omega)]; exact h.c13
theorem NCells.setS {cs : Array Value} {P : NP} {N : Nd} (h : NCells cs P N) (x : Int) : NCells (cs.setIfInBounds 11 (.int .i64 x)) P { N with ls := x } := by
  have hz := h.sz
  refine ⟨by simpa using hz, ?_, ?_, ?_, ?_, by rw [Array.getElem?_setIfInBounds, if_pos rfl, if_pos (by omega)], ?_, ?_⟩
  · rw [Array.getElem?_setIfInBounds, if_neg (by omega)]; exact h.c0
  · rw [Array.getElem?_setIfInBounds, if_neg (by omega)]; exact h.c1
  · intro i hi; rw [Array.getElem?_setIfInBounds, if_neg (by omega)]; exact h.ct i hi
  · rw [Array.getElem?_setIfInBounds, if_neg (by omega)]; exact h.c10
  · rw [Array.getElem?_setIfInBounds, if_neg (by omega)]; exact h.c12
  · rw [Array.getElem?_setIfInBounds, if_neg (by omega)]; exact h.c13
theorem NAt.setN {w : World} {o : Nat → Tg} {n b : Nat} {P : NP} {N : Nd} (h : NAt w o n b P N) (hn : n ≠ 0) (x : Int) : NAt (w.setCell ⟨b, 0, none⟩ (.int .i64 x)) o n b P { N with nw := x } :=
  h.setb hn 0 _ (fun cs hc => hc.setN x) rfl rfl rfl rfl rfl rfl
theorem NAt.setS {w : World} {o : Nat → Tg} {n b : Nat} {P : NP} {N : Nd} (h : NAt w o n b P N) (hn : n ≠ 0) (x : Int) : NAt (w.setCell ⟨b, 11, none⟩ (.int .i64 x)) o n b P { N with ls := x } :=
  h.setb hn 11 _ (fun cs hc => hc.setS x) rfl rfl rfl rfl rfl rfl
/-- another list of letters -/
theorem NAt.setL {w : World} {o : Nat → Tg} {n b : Nat} {P : NP} {N : Nd} (h : NAt w o n b P N) (hn : n ≠ 0) {lv : Value} {L : List (Int × List Nat)} (hl : LetAt w o lv L) (ht : Own o ⟨n, 1, 0⟩ lv.ownBlock.toList) : NAt (w.setCell ⟨b, 13, none⟩ lv) o n b { P with lv := lv } { N with lt := L } := by
  have hg := h.chgB 13 lv
  have he := Ext.refl w o
  have h0 : ∀ g : Tg, g = ⟨n, 0, 0⟩ → g.n ≠ 0 := by rintro g rfl; exact hn
  obtain ⟨cs, h1, h2⟩ := h.box
  have hz := h2.sz
  refine ⟨⟨_, heap_setCell_same w b 13 _ _ lv h1, ?_⟩, h.tag, fun i hi => h.trs' hg he hi (by simp), h.sbm' hg (by simp), h.smt, fun x hx => h.sbs' hg he h0 hx (by simp), h.pul' hg (by simp), h.put, hl.chg hg ht (by simp) h0 he, ht⟩
  refine ⟨by simpa using hz, ?_, ?_, ?_, ?_, ?_, ?_, by rw [Array.getElem?_setIfInBounds, if_pos rfl, if_pos (by omega)]⟩
  · rw [Array.getElem?_setIfInBounds, if_neg (by omega)]; exact h2.c0
  · rw [Array.getElem?_setIfInBounds, if_neg (by omega)]; exact h2.c1
  · intro i hi; rw [Array.getElem?_setIfInBounds, if_neg (by omega)]; exact h2.ct i hi
  · rw [Array.getElem?_setIfInBounds, if_neg (by omega)]; exact h2.c10
  · rw [Array.getElem?_setIfInBounds, if_neg (by omega)]; exact h2.c11
  · rw [Array.getElem?_setIfInBounds, if_neg (by omega)]; exact h2.c12
def updT (f : Nat → TP) (i : Nat) (x : TP) : Nat → TP := fun k => if k = i then x else f k
def updR (f : Nat → Option Tr) (i : Nat) (x : Tr) : Nat → Option Tr := fun k => if k = i then some x else f k
def updS (f : Int → SP) (i : Int) (x : SP) : Int → SP := fun k => if k = i then x else f k
/-- a track that was made -/
theorem NAt.setT {w : World} {o : Nat → Tg} {n b : Nat} {P : NP} {N : Nd} (h : NAt w o n b P N) (hn : n ≠ 0) {i : Nat} (hi : i < 8) {Q : TP} {t : Tr} (hl : TrAt w Q t) (ht : Own o ⟨n, 3, i⟩ (tblks Q t)) : NAt (w.setCell ⟨b, 2 + i, none⟩ (.pointer (some ⟨Q.p, 0, none⟩))) o n b { P with tp := updT P.tp i Q } { N with tr := updR N.tr i t } := by
  have hg := h.chgB (2 + i) (.pointer (some ⟨Q.p, 0, none⟩))
  have he := Ext.refl w o
  have h0 : ∀ g : Tg, g = ⟨n, 0, 0⟩ → g.n ≠ 0 := by rintro g rfl; exact hn
  obtain ⟨cs, h1, h2⟩ := h.box
  have hz := h2.sz
  refine ⟨⟨_, heap_setCell_same w b (2 + i) _ _ _ h1, ?_⟩, h.tag, ?_, h.sbm' hg (by simp), h.smt, fun x hx => h.sbs' hg he h0 hx (by simp), h.pul' hg (by simp), h.put, h.ltr' hg he h0 (by simp), h.ltt⟩
  · refine ⟨by simpa using hz, ?_, ?_, ?_, ?_, ?_, ?_, ?_⟩
    · rw [Array.getElem?_setIfInBounds, if_neg (by omega)]; exact h2.c0
    · rw [Array.getElem?_setIfInBounds, if_neg (by omega)]; exact h2.c1
    · intro j hj
      by_cases e : j = i
      · subst e
        rw [Array.getElem?_setIfInBounds, if_pos rfl, if_pos (by omega)]
        simp [updR, updT, tpv]
      · rw [Array.getElem?_setIfInBounds, if_neg (by omega), h2.ct j hj]
        simp [updR, updT, e]
    · rw [Array.getElem?_setIfInBounds, if_neg (by omega)]; exact h2.c10
    · rw [Array.getElem?_setIfInBounds, if_neg (by omega)]; exact h2.c11
    · rw [Array.getElem?_setIfInBounds, if_neg (by omega)]; exact h2.c12
    · rw [Array.getElem?_setIfInBounds, if_neg (by omega)]; exact h2.c13
  · intro j hj u hu
    by_cases e : j = i
    · subst e
      simp only [updR, if_pos] at hu
      cases hu
      simp only [updT, if_pos]
      exact ⟨hl.chg hg ht (by simp), ht⟩
    · simp only [updR, if_neg e] at hu
      simp only [updT, if_neg e]
      exact h.trs' hg he hj (by simp) u hu
/-- a track changes -/
theorem NAt.trk {w w' : World} {o o' : Nat → Tg} {n b : Nat} {P : NP} {N : Nd} (h : NAt w o n b P N) (hn : n ≠ 0) {i : Nat} (hi : i < 8) (hc : Chg o (fun g => g = ⟨n, 3, i⟩) w w') (he : Ext w o o') {Q : TP} {t t' : Tr} (ht : N.tr i = some t) (hp : Q.p = (P.tp i).p) (hl : TrAt w' Q t') (ho : Own o' ⟨n, 3, i⟩ (tblks Q t')) :
    NAt w' o' n b { P with tp := updT P.tp i Q } { N with tr := updR N.tr i t' } := by
  have h0 : ∀ g : Tg, g = ⟨n, 3, i⟩ → g.n ≠ 0 := by rintro g rfl; exact hn
  obtain ⟨cs, h1, h2⟩ := h.box' hc (by simp)
  refine ⟨⟨cs, h1, ⟨h2.sz, h2.c0, h2.c1, ?_, h2.c10, h2.c11, h2.c12, h2.c13⟩⟩, h.tag' he, ?_, h.sbm' hc (by simp), h.smt' he, fun x hx => h.sbs' hc he h0 hx (by simp), h.pul' hc (by simp), h.put' he, h.ltr' hc he h0 (by simp), h.ltt' he⟩
  · intro j hj
    rw [h2.ct j hj]
    by_cases e : j = i
    · subst e
      rw [ht]
      simp [updR, updT, tpv, hp]
    · simp [updR, updT, e]
  · intro j hj u hu
    by_cases e : j = i
    · subst e
      simp only [updR, if_pos] at hu
      cases hu
      simp only [updT, if_pos]
      exact ⟨hl, ho⟩
    · simp only [updR, if_neg e] at hu
      simp only [updT, if_neg e]
      exact h.trs' hc he hj (by simp; omega) u hu
/-- a subscriber changes -/
theorem NAt.sub {w w' : World} {o o' : Nat → Tg} {n b : Nat} {P : NP} {N : Nd} (h : NAt w o n b P N) (hn : n ≠ 0) {A B : List (Int × Sb)} {x : Int} {s s' : Sb} (hs : N.sb = A ++ (x, s) :: B) (hr : (ids N.sb).Pairwise fun a b => a < b) (hc : Chg o (fun g => g = ⟨n, 4, x⟩) w w') (he : Ext w o o') {Q : SP} (hp : Q.s = (P.sp x).s) (hl : SbAt w' o' Q s') (ho : Own o' ⟨n, 4, x⟩ (sblks Q)) :
    NAt w' o' n b { P with sp := updS P.sp x Q } { N with sb := A ++ (x, s') :: B } := by
  have h0 : ∀ g : Tg, g = ⟨n, 4, x⟩ → g.n ≠ 0 := by rintro g rfl; exact hn
  obtain ⟨cs, h1, h2⟩ := h.box' hc (by simp)
  have hid : ids (A ++ (x, s') :: B) = ids N.sb := by rw [hs]; simp [ids]
  have hln : (A ++ (x, s') :: B).length = N.sb.length := by rw [hs]; simp
  have hne : ∀ y ∈ A ++ B, y.1 ≠ x := by
    intro y hy e
    rw [hs] at hr
    simp only [ids, List.map_append, List.map_cons, List.pairwise_append, List.pairwise_cons] at hr
    obtain ⟨_, ⟨h4, _⟩, h5⟩ := hr
    rcases List.mem_append.1 hy with hy | hy
    · have := h5 y.1 (List.mem_map.2 ⟨y, hy, rfl⟩) x (by simp)
      omega
    · have := h4 y.1 (List.mem_map.2 ⟨y, hy, rfl⟩)
      omega
  refine ⟨⟨cs, h1, ⟨h2.sz, h2.c0, h2.c1, h2.ct, h2.c10, h2.c11, h2.c12, h2.c13⟩⟩, h.tag' he, fun i hi => h.trs' hc he hi (by simp), ?_, h.smt' he, ?_, h.pul' hc (by simp), h.put' he, h.ltr' hc he h0 (by simp), h.ltt' he⟩
  · obtain ⟨D, k1, k2⟩ := h.sbm' hc (by simp)
    rw [hln, hid]
    refine ⟨D, k1, k2.ext ?_⟩
    intro y hy
    show _ = (updS P.sp x Q y).s
    unfold updS
    split
    · rename_i e; rw [e, hp]
    · rfl
  · intro y hy
    have hin : y = (x, s') ∨ y ∈ A ++ B := by
      rcases List.mem_append.1 hy with hy | hy
      · exact .inr (List.mem_append.2 (.inl hy))
      · rcases List.mem_cons.1 hy with hy | hy
        · exact .inl hy
        · exact .inr (List.mem_append.2 (.inr hy))
    rcases hin with rfl | hy
    · simp only [updS, if_pos]
      exact ⟨hl, ho⟩
    · have e := hne y hy
      have hy' : y ∈ N.sb := by
        rw [hs]
        rcases List.mem_append.1 hy with hy | hy
        · exact List.mem_append.2 (.inl hy)
        · exact List.mem_append.2 (.inr (List.mem_cons.2 (.inr hy)))
      simp only [updS, if_neg e]
      exact h.sbs' hc he h0 hy' (by simp [e])
/-- one of the node's own was changed, and nothing else -/
theorem chg_mine {o : Nat → Tg} {n : Nat} {w w' : World} {c : Nat} {j : Int} (h : Chg o (fun g => g = ⟨n, c, j⟩) w w') : Chg o (mine n) w w' := h.mono (by rintro t rfl; rfl)
end Go.Proofs.YtpiamlgmadnepaaGreat.ND

