/-
  NodeT, NodeU in one text.
-/
import Derived.Test.YtijfocggdjjnjaiGreatDoorNodeS
import Derived.Test.YtijfocggdjjnjaiGreatDoorGapsAll
import Derived.Deep.CutBlock

/-
  What take of package node leaves in memory, where nobody subscribes. Its condition: the node is such as it may be.
-/
namespace Go.Proofs.YtijfocggdjjnjaiGreatDoor.ND
open Go.ChangeShapes Go.WideShapes Go.ChangeAt Go.RowKit Go.Maps Go.Proofs.YtijfocggdjjnjaiGreatDoor.Mem Go.Proofs.YtijfocggdjjnjaiGreatDoor.NO
set_option linter.unusedVariables false

/-- a track that has heard a number -/
def Tr.heard (t : Tr) (y now : Int) : Tr := { t with gn := GM.hN t.gn t.gT t.gM y now, gT := GM.hU t.gn t.gT t.gM y now, gM := GM.hL t.gn t.gT t.gM y now }
theorem TrAt.heard {w w' : World} {P : TP} {t : Tr} {nn uu : Int} {ll : GM.Its} (h : TrAt w P t) (hG : Gaps.GapsAt w' P.g P.gm 3 3 nn uu ll P.gv t.gG) (ho : Only [P.g, P.gm] w w') : TrAt w' P { t with gn := nn, gT := uu, gM := ll } := by
  have s := h.sepG
  have m : ∀ k, k ∈ P.p :: P.wm :: P.r :: P.rm :: kblk P.ka t.kids → k ∉ [P.g, P.gm] := fun k hk hm => s k hk (by simp only [Gaps.blks]; simp at hm; rcases hm with hm | hm <;> simp [hm])
  have nb : ∀ k ∈ [P.g, P.gm], ∀ cs fr, w.heap[k]? ≠ some (.cells cs 5 fr) := by
    intro k hk cs fr
    simp only [List.mem_cons, List.not_mem_nil, or_false] at hk
    rcases hk with rfl | rfl
    · rw [h.gap.box]; simp
    · obtain ⟨D, h1, _, _⟩ := h.gap.map
      obtain ⟨es, c, hm⟩ := RM.map_block h1
      rw [hm]; simp
  obtain ⟨D, h1, h2, h3⟩ := h.way
  exact ⟨(ho.2.2.2.2 _ (lt_of_block h.box) (m _ (by simp))).trans h.box, iarg_only h.kid ho (fun k hk => m k (by simp [hk])), h.kno, hG, h.rng.only ho (m _ (by simp)) (m _ (by simp)) nb, ⟨D, map_only h1 ho (m _ (by simp)), h2, h3⟩, h.ap, h.kap⟩
theorem nobT {w : World} {P : TP} {t : Tr} (h : TrAt w P t) : Nob w [P.g, P.gm] := by
  obtain ⟨D, h1, _, _⟩ := h.gap.map
  intro k hk
  simp only [List.mem_cons, List.not_mem_nil, or_false] at hk
  rcases hk with rfl | rfl
  · exact nobAt_cells h.gap.box (by decide)
  · exact nobAt_map (RM.map_block h1)
theorem tblks_same {P : TP} {t t' : Tr} (h : t'.kids = t.kids) : tblks P t' = tblks P t := by unfold tblks; rw [h]
theorem updT_self (f : Nat → TP) (i : Nat) : updT f i (f i) = f := by
  funext k
  unfold updT
  split
  · rename_i e; rw [e]
  · rfl
theorem updR_twice (f : Nat → Option Tr) (i : Nat) (a b : Tr) : updR (updR f i a) i b = updR f i b := by
  funext k
  unfold updR
  split <;> rfl
theorem updR_at (f : Nat → Option Tr) (i : Nat) (a : Tr) : updR f i a i = some a := by simp [updR]
/-- a track that changes in its own blocks alone -/
theorem NAt.trk1 {w w' : World} {o : Nat → Tg} {n b : Nat} {P : NP} {N : Nd} (h : NAt w o n b P N) (hn : n ≠ 0) {i : Nat} (hi : i < 8) {t t' : Tr} (ht : N.tr i = some t) {bs : List Nat} (ho : Only bs w w') (hb : ∀ k ∈ bs, k ∈ tblks (P.tp i) t) (hnb : Nob w bs) (hl : TrAt w' (P.tp i) t') (hk : t'.kids = t.kids) :
    NAt w' o n b P { N with tr := updR N.tr i t' } ∧ Chg o (fun g => g = ⟨n, 3, i⟩) w w' := by
  obtain ⟨k1, k2⟩ := h.trs i hi t ht
  have hc : Chg o (fun g => g = ⟨n, 3, i⟩) w w' := Chg.of_only ho (fun k hkk => k2 k (hb k hkk)) hnb
  have := h.trk hn hi hc (Ext.refl _ _) ht (Q := P.tp i) rfl hl (by rw [tblks_same hk]; exact k2)
  rw [updT_self] at this
  exact ⟨this, hc⟩
/-- what goes to the kids -/
def downs (K : List Int) (f : Nat) (F : List Nat) : List (Int × List Nat) := if f = 0 then K.map fun k => (k, F) else []
/-- a node behind take -/
def Nd.took (N : Nd) (i : Nat) (t : Tr) (p : RM.Pk) (og h now : Int) : Nd :=
  if GM.hB t.gn t.gT t.gM (num t.rT p.s) now then
    { N with tr := updR N.tr i ((t.heard (num t.rT p.s) now).keep (num t.rT p.s) p (og, h)), lt := N.lt ++ downs t.kids (FM.ffault t.tk og t.ep h (pby p.s p.t p.l p.q p.st p.L)) (fby t.tk og t.ep h (pby p.s p.t p.l p.q p.st p.L)) }
  else { N with tr := updR N.tr i (t.heard (num t.rT p.s) now) }
/-- under way: j kids have got it -/
def KSt (w1 wr : World) (o1 : Nat → Tg) (n b : Nat) (P : NP) (N : Nd) (K : List Int) (f : Nat) (F : List Nat) (j : Nat) : Prop :=
  Wrote w1 wr o1 n b P { N with lt := N.lt ++ downs (K.take j) f F }
theorem downs_nil (f : Nat) (F : List Nat) : downs [] f F = [] := by unfold downs; split <;> rfl
theorem downs_len (K : List Int) (f : Nat) (F : List Nat) : (downs K f F).length ≤ K.length := by unfold downs; split <;> simp
theorem downs_step {K : List Int} {f : Nat} {F : List Nat} {j : Nat} (hj : j < K.length) : downs (K.take (j + 1)) f F = downs (K.take j) f F ++ (if f = 0 then [(K.getD j 0, F)] else []) := by
  unfold downs
  split
  · rw [List.take_add_one, List.getElem?_eq_getElem hj, List.map_append, List.getD_eq_getElem?_getD, List.getElem?_eq_getElem hj]
    rfl
  · rfl
theorem KSt.step {w1 wr w2 : World} {o1 : Nat → Tg} {n b : Nat} {P : NP} {N : Nd} {K : List Int} {f : Nat} {F : List Nat} {j : Nat} (hj : j < K.length) (h : KSt w1 wr o1 n b P N K f F j)
    (hs : ∀ oj lv, NAt wr oj n b { P with lv := lv } { N with lt := N.lt ++ downs (K.take j) f F } → Wrote wr w2 oj n b { P with lv := lv } { N with lt := if f = 0 then (N.lt ++ downs (K.take j) f F) ++ [(K.getD j 0, F)] else N.lt ++ downs (K.take j) f F }) : KSt w1 w2 o1 n b P N K f F (j + 1) := by
  obtain ⟨oj, lv, h1, h2, h3⟩ := h
  obtain ⟨o', lv', g1, g2, g3⟩ := hs oj lv h1
  have e : N.lt ++ downs (K.take (j + 1)) f F = if f = 0 then (N.lt ++ downs (K.take j) f F) ++ [(K.getD j 0, F)] else N.lt ++ downs (K.take j) f F := by
    rw [downs_step hj]
    split
    · rw [List.append_assoc]
    · simp
  refine ⟨o', lv', ?_, h2.trans g2 h3.size, h3.trans g3 h2⟩
  rw [e]
  exact g1
theorem lets_body {w w' : World} {o : Nat → Tg} {n : Nat} (hn : n ≠ 0) (hc : Chg o (mine n) w w') {k : Nat} {x : Obj} (hx : w.heap[k]? = some x) (hk : (o k).n = 0) : w'.heap[k]? = some x :=
  hc.block hx (fun hm => hn (by unfold mine at hm; rw [hk] at hm; exact hm.symm))

theorem keep_tk (t : Tr) (y : Int) (p : RM.Pk) (wy : Int × Int) : (t.keep y p wy).tk = t.tk ∧ (t.keep y p wy).ep = t.ep ∧ (t.keep y p wy).pa = t.pa ∧ (t.keep y p wy).kids = t.kids := by
  unfold Tr.keep
  split <;> exact ⟨rfl, rfl, rfl, rfl⟩
theorem kst_next {w1 wr w2 : World} {o1 oj : Nat → Tg} {n b : Nat} {P : NP} {lv : Value} {N : Nd} {K : List Int} {f : Nat} {F : List Nat} {j : Nat} (hj : j < K.length) (h2 : Ext w1 o1 oj) (h3 : Chg o1 (lets n) w1 wr) (hw : Wrote wr w2 oj n b { P with lv := lv } { N with lt := if f = 0 then (N.lt ++ downs (K.take j) f F) ++ [(K.getD j 0, F)] else N.lt ++ downs (K.take j) f F }) : KSt w1 w2 o1 n b P N K f F (j + 1) := by
  obtain ⟨o', lv', g1, g2, g3⟩ := hw
  have e : N.lt ++ downs (K.take (j + 1)) f F = if f = 0 then (N.lt ++ downs (K.take j) f F) ++ [(K.getD j 0, F)] else N.lt ++ downs (K.take j) f F := by
    rw [downs_step hj]
    split
    · rw [List.append_assoc]
    · simp
  refine ⟨o', lv', ?_, h2.trans g2 h3.size, h3.trans g3 h2⟩
  rw [e]
  exact g1
set_option maxHeartbeats 4000000 in
set_option maxRecDepth 100000 in
theorem take_none (n b i : Nat) (o : Nat → Tg) (P : NP) (N : Nd) (tr : Tr) (s t l q og h now : Int) (st : Bool) (a : Option Addr) (m cap : Nat) (L : List Nat) (w : World) (hn : n ≠ 0) (hN : NAt w o n b P N) (hi : i < 8) (ht : N.tr i = some tr) (hG : GM.Inv 3 3 tr.gn tr.gT tr.gM) (hR : RM.Inv 64 tr.rT tr.rM) (hA : Arg w a m L) (hno : a = none → m = 0 ∧ cap = 0) (hf : PM.fault s t l q m = 0) (hF : 0 < m → ∀ ad, a = some ad → (o ad.block).n = 0) (hsb : N.sb = []) (hls : SInv N.sb N.ls) (hl : N.lt.length + tr.kids.length ≤ 1000000) :
    Calls Tryz.prog 25 #[.pointer (some ⟨b, 0, none⟩), .pointer (some ⟨(P.tp i).p, 0, none⟩), .agg #[.int .i64 s, .int .i64 t, .int .i64 l, .int .i64 q, .bool st, .slice a m cap], .agg #[.int .i64 og, .int .i64 h], .int .i64 now] w fun e w' => e = .returned (.tuple #[]) ∧ Done w w' o n b (N.took i tr ⟨s, t, l, q, st, L, .slice a m cap⟩ og h now) := by
  obtain ⟨W0, hW0⟩ : ∃ W0, (w.alloc (.cells #[.int .i64 s, .int .i64 t, .int .i64 l, .int .i64 q, .bool st, .slice a m cap] 31)).alloc (.cells #[.int .i64 og, .int .i64 h] 79) = W0 := ⟨_, rfl⟩
  have hB0 : Below w.heap.size w W0 := by rw [← hW0]; exact below2 w _ _
  have hby : W0.heap[w.heap.size + 1]? = some (.cells #[.int .i64 og, .int .i64 h] 79 (0, 0)) := by
    rw [← hW0]
    have := heap_alloc_new (w.alloc (.cells #[.int .i64 s, .int .i64 t, .int .i64 l, .int .i64 q, .bool st, .slice a m cap] 31)) (.cells #[.int .i64 og, .int .i64 h] 79)
    simpa using this
  have hbx : W0.heap[w.heap.size]? = some (.cells #[.int .i64 s, .int .i64 t, .int .i64 l, .int .i64 q, .bool st, .slice a m cap] 31 (0, 0)) := by
    rw [← hW0]
    exact (Below.heap_alloc _ _ _ (by simp)).trans (heap_alloc_new w _)
  obtain ⟨o0, ho0⟩ : ∃ o0, grow o w nobody = o0 := ⟨_, rfl⟩
  have he0 : Ext w o o0 := by rw [← ho0]; exact grow_ext o w nobody
  have hob : (o0 w.heap.size).n = 0 := by rw [← ho0, grow_new (Nat.le_refl _)]
  have hoy : (o0 (w.heap.size + 1)).n = 0 := by rw [← ho0, grow_new (by omega)]
  have hN0 : NAt W0 o0 n b P N := hN.chg (S := fun _ => False) (Chg.of_below hB0 _ _) (fun g hg => hg.elim) he0
  have hT0 := (hN0.trs i hi tr ht).1
  have hFar : ∀ (S : Tg → Prop), (∀ g, S g → g.n ≠ 0) → Far o0 S a m := by
    intro S hS hm ad e hs
    obtain ⟨b', o1, e', hc⟩ := hA.1.2 0 (by have := hA.2.1; omega)
    have hl' := World.block_lt_of_cell? w ⟨b', o1 + 0, none⟩ hc
    have hz := hF hm ad e
    rw [e] at e'
    cases e'
    rw [he0 _ hl'] at hs
    exact hS _ hs hz
  have hA0 := hA.below hB0
  -- what the boxes read as wherever they are as they were
  have hbox : ∀ W : World, W.heap[w.heap.size]? = W0.heap[w.heap.size]? → W.cell? ⟨w.heap.size, 0, none⟩ = some (.int .i64 s) ∧ W.cell? ⟨w.heap.size, 1, none⟩ = some (.int .i64 t) ∧ W.cell? ⟨w.heap.size, 2, none⟩ = some (.int .i64 l) ∧ W.cell? ⟨w.heap.size, 3, none⟩ = some (.int .i64 q) ∧ W.cell? ⟨w.heap.size, 4, none⟩ = some (.bool st) ∧ W.cell? ⟨w.heap.size, 5, none⟩ = some (.slice a m cap) := by
    intro W e
    have := e.trans hbx
    refine ⟨?_, ?_, ?_, ?_, ?_, ?_⟩ <;> simp [World.cell?, this]
  have hway : ∀ W : World, W.heap[w.heap.size + 1]? = W0.heap[w.heap.size + 1]? → W.cell? ⟨w.heap.size + 1, 0, none⟩ = some (.int .i64 og) ∧ W.cell? ⟨w.heap.size + 1, 1, none⟩ = some (.int .i64 h) := by
    intro W e
    have := e.trans hby
    constructor <;> simp [World.cell?, this]
  have hstay : ∀ W, Chg o0 (mine n) W0 W → W.heap[w.heap.size]? = W0.heap[w.heap.size]? ∧ W.heap[w.heap.size + 1]? = W0.heap[w.heap.size + 1]? ∧ Arg W a m L := by
    intro W hc
    exact ⟨(lets_body hn hc hbx hob).trans hbx.symm, (lets_body hn hc hby hoy).trans hby.symm, hc.arg hA0 (hFar _ (by intro g hg; unfold mine at hg; omega))⟩
  have CN := hidden (numberOf_calls (P.tp i).p (P.tp i).r (P.tp i).rm tr.rT tr.rM s W0 (by simp [World.cell?, hT0.box]) hT0.rng hR (by obtain ⟨_, _, _, _, rfl, _, _, _, h1, _⟩ := PM.fault_zero hf; omega) (by obtain ⟨_, _, _, _, rfl, _, _, _, h1, _⟩ := PM.fault_zero hf; omega))
  obtain ⟨y, hy⟩ : ∃ y, num tr.rT s = y := ⟨_, rfl⟩
  rw [hy] at CN
  have CH := hidden (Gaps.hear_calls (P.tp i).g (P.tp i).gm 3 3 tr.gn tr.gT y now tr.gM (P.tp i).gv tr.gG W0 hT0.gap hG)
  have c4 : W0.cell? ⟨(P.tp i).p, 4, none⟩ = some (.pointer (some ⟨(P.tp i).g, 0, none⟩)) := by simp [World.cell?, hT0.box]
  -- behind Hear
  have HH : Hid (∀ w1, Gaps.GapsAt w1 (P.tp i).g (P.tp i).gm 3 3 (GM.hN tr.gn tr.gT tr.gM y now) (GM.hU tr.gn tr.gT tr.gM y now) (GM.hL tr.gn tr.gT tr.gM y now) (P.tp i).gv tr.gG → Only [(P.tp i).g, (P.tp i).gm] W0 w1 → NAt w1 o0 n b P { N with tr := updR N.tr i (tr.heard y now) } ∧ Chg o0 (mine n) W0 w1) := by
    refine hidden ?_
    intro w1 g1 g2
    have := hN0.trk1 hn hi ht g2 (by intro k hk; simp at hk; rcases hk with rfl | rfl <;> simp [tblks, Gaps.blks]) (nobT hT0) (hT0.heard g1 g2) rfl
    exact ⟨this.1, chg_mine this.2⟩
  obtain ⟨R, hRes⟩ : ∃ R, N.took i tr ⟨s, t, l, q, st, L, .slice a m cap⟩ og h now = R := ⟨_, rfl⟩
  rw [hRes]
  unfold Nd.took at hRes
  simp only [hy] at hRes
  have HBx := hidden hbox
  have HWy := hidden hway
  have HSt := hidden hstay
  have HW := hidden hW0
  have HB0 := hidden hB0
  have HE0 := hidden he0
  have HRI := hidden hR
  have HFr := hidden hFar
  have HNo := hidden hno
  have HFl := hidden hf
  have HSB := hidden hsb
  have HLS := hidden hls
  have HL := hidden hl
  obtain ⟨pb, hpb⟩ : ∃ pb, w.heap.size = pb := ⟨_, rfl⟩
  rw [hpb] at HBx HWy HSt
  obtain ⟨x0, x1, x2, x3, x4, x5⟩ := HBx.out W0 rfl
  obtain ⟨pp, hpp⟩ : ∃ pp, (P.tp i).p = pp := ⟨_, rfl⟩
  have HPP := hidden hpp
  rw [hpp] at CN c4
  rw [hpp]
  obtain ⟨gb, hgb⟩ : ∃ gb, (P.tp i).g = gb := ⟨_, rfl⟩
  rw [hgb] at CH c4
  have HGB := hidden hgb
  obtain ⟨hb, hhb⟩ : ∃ hb, GM.hB tr.gn tr.gT tr.gM y now = hb := ⟨_, rfl⟩
  obtain ⟨fe, hfe⟩ : ∃ fe, GM.hf tr.gn tr.gT tr.gM y now = fe := ⟨_, rfl⟩
  rw [hhb, hfe] at CH
  rw [hhb] at hRes
  have HFE : Hid (hb = true → fe = 0) := by
    refine hidden ?_
    intro e
    rw [e] at hhb
    unfold GM.hB at hhb
    simp at hhb
    rw [← hfe]
    exact hhb.1
  have HRes := hidden hRes
  have q1 := cmp_ne fe
  have q2 := grd_ne fe
  clear hN hG hR hA hno hf hF hsb hls hl hW0 hB0 hby hbx ho0 he0 hob hoy hN0 hT0 hFar hA0 hbox hway hstay hy hpp hgb hhb hfe hRes ht
  go_enter Tryz.func25, Tryz.ntmps25
  go_upto_region 1 with fail
  rw [HW.out]
  go_wp2_with fail
  refine CN.out.mono ?_
  rintro e w0 ⟨rfl, hw0⟩
  obtain rfl : W0 = w0 := hw0.symm
  go_wp2_with fail
  refine CH.out.mono ?_
  rintro e w1 ⟨rfl, hg1, ho1⟩
  have hN1 := HH.out w1 (by rw [HGB.out]; exact hg1) (by rw [HGB.out]; exact ho1)
  have HN1 := hidden hN1
  rw [show Gaps.errv fe = errv fe from rfl]
  clear hg1 ho1 hN1 HH CH CN
  cases hb with
  | false =>
    have HD : Hid (Done w w1 o n b R) := by
      rw [← HRes.out]
      exact hidden ⟨o0, P, HN1.out.1, HE0.out, (Chg.of_below HB0.out _ _).trans HN1.out.2 HE0.out⟩
    by_cases hp0 : fe = 0
    · have d0 : decide (fe = 0) = true := by simpa using hp0
      clear hp0
      go_wp2_with fail
      (try simp only [Exit.inBlock, Exit.then])
      refine bodyPost_ret (results_none rfl _ _ _) rfl ?_
      exact ⟨rfl, HD.out⟩
    · have d0 : decide (fe = 0) = false := by simpa using hp0
      clear hp0
      go_wp2_with fail
      (try simp only [Exit.inBlock, Exit.then])
      refine bodyPost_ret (results_none rfl _ _ _) rfl ?_
      exact ⟨rfl, HD.out⟩
  | true =>
    have d0 : decide (fe = 0) = true := by simpa using HFE.out rfl
    obtain ⟨hs1, hs2, hA1⟩ := HSt.out w1 HN1.out.2
    obtain ⟨z0, z1, z2, z3, z4, z5⟩ := HBx.out w1 hs1
    obtain ⟨v0, v1⟩ := HWy.out w1 hs2
    have hT1 := (HN1.out.1.trs i hi (tr.heard y now) (updR_at _ _ _)).1
    have hO1 := (HN1.out.1.trs i hi (tr.heard y now) (updR_at _ _ _)).2
    have CKp := hidden (keep_calls (P.tp i) (tr.heard y now) y s t l q st a m cap L og h w1 hT1 HRI.out hA1 HNo.out HFl.out (by
      intro ad e hm hmem
      have hz := HFr.out (fun g => g = ⟨n, 3, i⟩) (by rintro g rfl; exact hn) hm ad e
      exact hz (hO1 ad.block (by simp only [List.mem_cons, List.not_mem_nil, or_false] at hmem; simp only [tblks, List.mem_cons]; rcases hmem with h | h | h <;> simp [h]))))
    have HK : Hid (∀ w2, TrAt w2 (P.tp i) ((tr.heard y now).keep y ⟨s, t, l, q, st, L, .slice a m cap⟩ (og, h)) → Only [(P.tp i).r, (P.tp i).rm, (P.tp i).wm] w1 w2 → NAt w2 o0 n b P { N with tr := updR N.tr i ((tr.heard y now).keep y ⟨s, t, l, q, st, L, .slice a m cap⟩ (og, h)) } ∧ Chg o0 (mine n) W0 w2) := by
      refine hidden ?_
      intro w2 g1 g2
      have := HN1.out.1.trk1 hn hi (updR_at _ _ _) g2 (by intro k hk; simp at hk; rcases hk with rfl | rfl | rfl <;> simp [tblks]) (nobR hT1) g1 (keep_tk _ _ _ _).2.2.2
      rw [show ({ N with tr := updR N.tr i (tr.heard y now) } : Nd).tr = updR N.tr i (tr.heard y now) from rfl, updR_twice] at this
      exact ⟨this.1, HN1.out.2.trans' (chg_mine this.2)⟩
    rw [HPP.out] at CKp
    clear hs1 hs2 hA1 hT1 hO1 x0 x1 x2 x3 x4 x5 c4
    go_wp2_with fail
    refine CKp.out.mono ?_
    rintro e w2 ⟨rfl, hk1, hk2⟩
    have hN2 := HK.out w2 hk1 hk2
    have HN2 := hidden hN2
    obtain ⟨T2, hT2⟩ : ∃ T2, (tr.heard y now).keep y ⟨s, t, l, q, st, L, .slice a m cap⟩ (og, h) = T2 := ⟨_, rfl⟩
    have e2 := keep_tk (tr.heard y now) y ⟨s, t, l, q, st, L, .slice a m cap⟩ (og, h)
    rw [hT2] at e2 HN2
    obtain ⟨e21, e22, e23, e24⟩ := e2
    obtain ⟨N2, hN2e⟩ : ∃ N2 : Nd, { N with tr := updR N.tr i T2 } = N2 := ⟨_, rfl⟩
    rw [hN2e] at HN2
    have ht2 : N2.tr i = some T2 := by rw [← hN2e]; exact updR_at _ _ _
    have hTb := (HN2.out.1.trs i hi T2 ht2).1
    have c3 : w2.cell? ⟨pp, 3, none⟩ = some (.slice (P.tp i).ka T2.kids.length (P.tp i).kc) := by rw [← HPP.out]; simp [World.cell?, hTb.box]
    rw [e24] at c3
    have HE2 := hidden (And.intro e21 (And.intro e22 (And.intro e23 e24)))
    have HT2 := hidden hT2
    have HN2e := hidden hN2e
    have Ht2 := hidden ht2
    obtain ⟨ka, hka⟩ : ∃ ka, (P.tp i).ka = ka := ⟨_, rfl⟩
    obtain ⟨kc, hkc⟩ : ∃ kc, (P.tp i).kc = kc := ⟨_, rfl⟩
    have hkids : (tr.heard y now).kids = tr.kids := rfl
    rw [hkids] at c3
    obtain ⟨K, hKK⟩ : ∃ K, tr.kids = K := ⟨_, rfl⟩
    obtain ⟨kl, hkl⟩ : ∃ kl, K.length = kl := ⟨_, rfl⟩
    rw [hka, hkc, hKK, hkl] at c3
    have HKA := hidden hka
    have HKK := hidden hKK
    have HKL := hidden hkl
    have hklb : kl ≤ 1000000 := by have := HL.out; rw [hKK, hkl] at this; omega
    obtain ⟨f, hff⟩ : ∃ f, FM.ffault tr.tk og tr.ep h (pby s t l q st L) = f := ⟨_, rfl⟩
    obtain ⟨F, hFF⟩ : ∃ F, fby tr.tk og tr.ep h (pby s t l q st L) = F := ⟨_, rfl⟩
    have HFF := hidden (And.intro hff hFF)
    have HK0 : Hid (KSt w2 w2 o0 n b P N2 K f F 0) := by
      refine hidden ⟨o0, P.lv, ?_, Ext.refl _ _, Chg.refl _ _ _⟩
      rw [List.take_zero, downs_nil, List.append_nil]
      exact HN2.out.1
    clear hk1 hk2 hN2 hT2 e21 e22 e23 e24 hN2e ht2 hTb hka hkc hkids hKK hkl hff hFF HK CKp z0 z1 z2 z3 z4 z5 v0 v1
    go_wp2_with fail
    go_loopg [47] kl (fun gh x wr => ∃ j : Nat, j + gh = kl ∧ x = .int .i64 (j : Int) ∧ Hid (KSt w2 wr o0 n b P N2 K f F j))
    case atStart => exact ⟨0, by omega, rfl, HK0⟩
    case round =>
      obtain ⟨j, hjg, rfl, HS⟩ := hrel
      have hcr : Chg o0 (mine n) W0 wr := by
        obtain ⟨oj, lv, h1, h2, h3⟩ := HS.out
        exact HN2.out.2.trans' (lets_mine h3)
      have HCR := hidden hcr
      clear hcr
      by_cases hj : j < kl
      · have hjz : (j : Int) < (kl : Int) := by omega
        obtain ⟨hs1, hs2, hAr⟩ := HSt.out wr HCR.out
        obtain ⟨z0, z1, z2, z3, z4, z5⟩ := HBx.out wr hs1
        obtain ⟨v0, v1⟩ := HWy.out wr hs2
        obtain ⟨oj, lv, h1, h2, h3⟩ := HS.out
        have hTr := (h1.trs i hi T2 Ht2.out).1
        have hkid := hTr.kid
        rw [HE2.out.2.2.2, show (tr.heard y now).kids = tr.kids from rfl, HKK.out, HKL.out] at hkid
        rw [show (({ P with lv := lv } : NP).tp i).ka = (P.tp i).ka from rfl, HKA.out] at hkid
        obtain ⟨ba, oa, rfl, hcs⟩ := hkid.at (by omega)
        have c0 := hcs j hj
        have hjl : j < K.length := by rw [HKL.out]; exact hj
        have CSd := sendDown_calls n b i oj { P with lv := lv } _ T2 (K.getD j 0) s t l q og h st a m cap L wr hn h1 hi Ht2.out hAr HNo.out HFl.out (by
          have g1 := downs_len (K.take j) f F
          have hnl : N2.lt = N.lt := by rw [← HN2e.out]
          show (N2.lt ++ downs (K.take j) f F).length ≤ 1000000
          rw [List.length_append, hnl]
          have g2 : (K.take j).length ≤ K.length := by rw [List.length_take]; omega
          have g3 := HL.out
          rw [HKK.out] at g3
          omega)
        rw [HE2.out.1, HE2.out.2.1, show (tr.heard y now).tk = tr.tk from rfl, show (tr.heard y now).ep = tr.ep from rfl, HFF.out.1, HFF.out.2] at CSd
        have CS : Hid (Calls Tryz.prog 42 #[.pointer (some ⟨b, 0, none⟩), .int .i64 (K.getD j 0), .pointer (some ⟨pp, 0, none⟩), .agg #[.int .i64 s, .int .i64 t, .int .i64 l, .int .i64 q, .bool st, .slice a m cap], .agg #[.int .i64 og, .int .i64 h]] wr fun e w' => e = .returned (.tuple #[]) ∧ Hid (KSt w2 w' o0 n b P N2 K f F (j + 1))) := by
          rw [show (({ P with lv := lv } : NP).tp i).p = (P.tp i).p from rfl, HPP.out] at CSd
          refine hidden (CSd.mono ?_)
          rintro e w' ⟨rfl, hW⟩
          exact ⟨rfl, kst_next hjl h2 h3 hW⟩
        obtain ⟨kx, hkx⟩ : ∃ kx, K.getD j 0 = kx := ⟨_, rfl⟩
        rw [hkx] at CS c0
        clear hs1 hs2 hAr h1 h2 h3 hTr hkid hcs hjl CSd hkx
        go_wp2_with fail
        refine CS.out.mono ?_
        rintro e w3 ⟨rfl, HK3⟩
        go_wp2_with fail
        go_roundg (kl - (j + 1))
        case measure => omega
        case rel => exact ⟨j + 1, by omega, by go_num, HK3⟩
      · have hjz : ¬ (j : Int) < (kl : Int) := by omega
        obtain rfl : kl = j := by omega
        obtain ⟨oj, lv, h1, h2, h3⟩ := HS.out
        have hTr := (h1.trs i hi T2 Ht2.out).1
        have c0 : wr.cell? ⟨pp, 0, none⟩ = some (.int .i64 T2.tk) := by rw [← HPP.out]; simp [World.cell?, show wr.heap[(P.tp i).p]? = _ from hTr.box]
        have hsb2 : N2.sb = [] := by rw [← HN2e.out]; exact HSB.out
        have hls2 : N2.ls = N.ls := by rw [← HN2e.out]
        have CSu := subsOf_all n b oj { P with lv := lv } _ T2.tk wr h1 (by show SInv N2.sb N2.ls; rw [hsb2, hls2, ← HSB.out]; exact HLS.out) (by intro x hx; rw [show ({ N2 with lt := N2.lt ++ downs (K.take kl) f F } : Nd).sb = N2.sb from rfl, hsb2] at hx; simp at hx)
        have CU : Hid (Calls Tryz.prog 43 #[.pointer (some ⟨b, 0, none⟩), .int .i64 T2.tk] wr fun e w' => ∃ a cap, e = .returned (.slice a 0 cap) ∧ Hid (Done w w' o n b R)) := by
          refine hidden (CSu.mono ?_)
          rintro e w' ⟨a', cap', rfl, _, _, hb⟩
          refine ⟨a', cap', by rw [show ({ N2 with lt := N2.lt ++ downs (K.take kl) f F } : Nd).sb = N2.sb from rfl, hsb2]; rfl, hidden ⟨oj, { P with lv := lv }, ?_, ?_, ?_⟩⟩
          · have hfin := h1.below hb
            have hR := HRes.out
            rw [if_pos trivial] at hR
            rw [← hR]
            have ek : K.take kl = K := List.take_of_length_le (by rw [HKL.out]; exact Nat.le_refl _)
            rw [ek] at hfin
            have eN : ({ N2 with lt := N2.lt ++ downs K f F } : Nd) = { N with tr := updR N.tr i ((tr.heard y now).keep y ⟨s, t, l, q, st, L, .slice a m cap⟩ (og, h)), lt := N.lt ++ downs tr.kids (FM.ffault tr.tk og tr.ep h (pby s t l q st L)) (fby tr.tk og tr.ep h (pby s t l q st L)) } := by
              rw [← HN2e.out, HFF.out.1, HFF.out.2, HKK.out, HT2.out]
            rw [eN] at hfin
            exact hfin
          · exact fun k hk => by rw [h2 k (by have := HN2.out.2.size; have := HB0.out.size; omega)]; exact HE0.out k hk
          · exact ((Chg.of_below HB0.out _ _).trans HCR.out HE0.out).trans (Chg.of_below hb o0 _) HE0.out
        obtain ⟨tk2, htk2⟩ : ∃ tk2, T2.tk = tk2 := ⟨_, rfl⟩
        rw [htk2] at CU c0
        clear h1 h2 h3 hTr hsb2 hls2 CSu htk2
        go_wp2_with fail
        refine CU.out.mono ?_
        rintro e w3 ⟨sa, sc, rfl, HD⟩
        go_wp2_with fail
        go_loopg [65] 0 (fun gh x wr => x = .int .i64 0 ∧ w3 = wr)
        case atStart => exact ⟨rfl, rfl⟩
        case round =>
          obtain ⟨rfl, rfl⟩ := hrel
          go_wp2_with fail
          go_end0
          exact ⟨rfl, HD.out⟩
end Go.Proofs.YtijfocggdjjnjaiGreatDoor.ND
