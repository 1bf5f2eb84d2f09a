/-
  What take of package node leaves in memory, where all who subscribe are alike and nobody is a kid. Its condition: the node is such as it may be.
-/
import Derived.Test.YtijfocggdjjnjaiGreatDoorNodeTU
import Derived.Test.YtijfocggdjjnjaiGreatDoorSubAll
namespace Go.Proofs.YtijfocggdjjnjaiGreatDoor.ND
open Go.ChangeShapes Go.WideShapes Go.ChangeAt Go.RowKit Go.Maps Go.Proofs.YtijfocggdjjnjaiGreatDoor.Mem Go.Proofs.YtijfocggdjjnjaiGreatDoor.NO
set_option linter.unusedVariables false

/-- who subscribes to a track that has no kids, what it is pushed, and how many go out then -/
structure Alike (tr : Tr) (s : Sb) (p : Pk) (y now : Int) (K : Nat) : Prop where
  kid : tr.kids = []
  tk : s.tk = tr.tk
  inv : SbI s
  tf : OM.tf s.on now = 0
  many : Order.Many 10 (s.pushed y now p).on (s.pushed y now p).ox now (s.pushed y now p).oM K
  uk : s.uk + K ≤ 999
  got : s.got.length + K ≤ 1000000
/-- a node behind take, where all who subscribe are alike -/
def Nd.tookS (N : Nd) (i : Nat) (t : Tr) (X : List Int) (sS : Sb) (p : RM.Pk) (og h now : Int) (K : Nat) : Nd :=
  if GM.hB t.gn t.gT t.gM (num t.rT p.s) now then
    { N with tr := updR N.tr i ((t.heard (num t.rT p.s) now).keep (num t.rT p.s) p (og, h)), sb := X.map fun x => (x, (sS.pushed (num t.rT p.s) now ⟨p.s, p.t, p.l, p.q, p.st, p.L⟩).pop now K) }
  else { N with tr := updR N.tr i (t.heard (num t.rT p.s) now) }
/-- under way: j of them have got it -/
def SSt (w wx : World) (o : Nat → Tg) (n b : Nat) (P : NP) (N : Nd) (X : List Int) (s s' : Sb) (ra : Option Addr) (j : Nat) : Prop := ∃ oj Pj, NAt wx oj n b Pj { N with sb := ((X.take j).map fun x => (x, s')) ++ (X.drop j).map fun x => (x, s) } ∧ (∀ x, (Pj.sp x).s = (P.sp x).s) ∧ Ext w o oj ∧ Chg o (mine n) w wx ∧ PArg wx ra (fun x => (P.sp x).s) X ∧ ∀ ad, ra = some ad → (oj ad.block).n = 0
theorem SSt.chg {w wx : World} {o : Nat → Tg} {n b : Nat} {P : NP} {N : Nd} {X : List Int} {s s' : Sb} {ra : Option Addr} {j : Nat} (h : SSt w wx o n b P N X s s' ra j) : Chg o (mine n) w wx := by
  obtain ⟨_, _, _, _, _, h, _⟩ := h
  exact h
theorem SSt.row {w wx : World} {o : Nat → Tg} {n b : Nat} {P : NP} {N : Nd} {X : List Int} {s s' : Sb} {ra : Option Addr} {j : Nat} (h : SSt w wx o n b P N X s s' ra j) (hn : 0 < X.length) : ∃ rb, ra = some ⟨rb, 0, none⟩ ∧ ∀ j, j < X.length → wx.cell? ⟨rb, j, none⟩ = some (.pointer (some ⟨(P.sp (X.getD j 0)).s, 0, none⟩)) := by
  obtain ⟨_, _, _, _, _, _, h, _⟩ := h
  exact h.at hn
theorem h2'' {w1 w2 : World} {o0 oj : Nat → Tg} {S : Tg → Prop} (h : Ext w2 o0 oj) (hc : Chg o0 S w1 w2) : Ext w1 o0 oj := fun k hk => h k (by have := hc.size; omega)
theorem split_at {X : List Int} {j : Nat} (hj : j < X.length) : X.drop j = X.getD j 0 :: X.drop (j + 1) ∧ X.take (j + 1) = X.take j ++ [X.getD j 0] := by
  have e : X.getD j 0 = X[j] := by rw [List.getD_eq_getElem?_getD, List.getElem?_eq_getElem hj]; rfl
  rw [e]
  exact ⟨List.drop_eq_getElem_cons hj, by rw [List.take_append_getElem hj]⟩
theorem SSt.push {w wx : World} {o : Nat → Tg} {n b : Nat} {P : NP} {N : Nd} {X : List Int} {s : Sb} {ra : Option Addr} {j : Nat} {tr : Tr} {ps pt pl pq y now : Int} {pst : Bool} {a : Option Addr} {m cap K : Nat} {L : List Nat} (h : SSt w wx o n b P N X s ((s.pushed y now ⟨ps, pt, pl, pq, pst, L⟩).pop now K) ra j) (hn : n ≠ 0) (hris : X.Pairwise fun a b => a < b) (hj : j < X.length) (hX : Alike tr s ⟨ps, pt, pl, pq, pst, L⟩ y now K) (hA : Arg wx a m L) (hno : a = none → m = 0 ∧ cap = 0) :
    Calls Tryz.prog 44 #[.pointer (some ⟨(P.sp (X.getD j 0)).s, 0, none⟩), .int .i64 y, .agg #[.int .i64 ps, .int .i64 pt, .int .i64 pl, .int .i64 pq, .bool pst, .slice a m cap], .int .i64 now] wx fun e w' => e = .returned (.tuple #[]) ∧ Hid (SSt w w' o n b P N X s ((s.pushed y now ⟨ps, pt, pl, pq, pst, L⟩).pop now K) ra (j + 1)) := by
  obtain ⟨oj, Pj, g1, g2, g3, g4, g5, g6⟩ := h
  obtain ⟨e1, e2⟩ := split_at hj
  obtain ⟨x, hx⟩ : ∃ x, X.getD j 0 = x := ⟨_, rfl⟩
  rw [hx] at e1 e2
  rw [hx]
  have hsb : ({ N with sb := ((X.take j).map fun x => (x, (s.pushed y now ⟨ps, pt, pl, pq, pst, L⟩).pop now K)) ++ (X.drop j).map fun x => (x, s) } : Nd).sb = ((X.take j).map fun x => (x, (s.pushed y now ⟨ps, pt, pl, pq, pst, L⟩).pop now K)) ++ (x, s) :: (X.drop (j + 1)).map fun x => (x, s) := by rw [e1]; rfl
  obtain ⟨k1, k2⟩ := g1.sbs (x, s) (by rw [hsb]; simp)
  rw [← g2 x]
  refine (spush_calls n x oj (Pj.sp x) s y now ps pt pl pq pst a m cap L K wx hn k1 k2 hX.inv hA hno hX.tf hX.many hX.uk hX.got).mono ?_
  rintro e w' ⟨rfl, o', Q, r1, r2, r3, r4, r5⟩
  refine ⟨rfl, hidden ⟨o', { Pj with sp := updS Pj.sp x Q }, ?_, ?_, ?_, g4.trans (chg_mine r5) g3, ?_, ?_⟩⟩
  · have hr : (ids ({ N with sb := ((X.take j).map fun x => (x, (s.pushed y now ⟨ps, pt, pl, pq, pst, L⟩).pop now K)) ++ (X.drop j).map fun x => (x, s) } : Nd).sb).Pairwise fun a b => a < b := by
      have hid : ids ({ N with sb := ((X.take j).map fun x => (x, (s.pushed y now ⟨ps, pt, pl, pq, pst, L⟩).pop now K)) ++ (X.drop j).map fun x => (x, s) } : Nd).sb = X := by
        show ids (((X.take j).map fun x => (x, (s.pushed y now ⟨ps, pt, pl, pq, pst, L⟩).pop now K)) ++ (X.drop j).map fun x => (x, s)) = X
        unfold ids
        rw [List.map_append, List.map_map, List.map_map]
        have h1 : ∀ (Y : List Int) (z : Sb), Y.map (Prod.fst ∘ fun x => (x, z)) = Y := fun Y z => List.map_id Y
        rw [h1, h1, List.take_append_drop]
      rw [hid]
      exact hris
    have := g1.sub hn hsb hr r5 r4 r2 r1 r3
    rw [e2, List.map_append, List.append_assoc]
    exact this
  · intro z
    show (updS Pj.sp x Q z).s = _
    unfold updS
    split
    · rename_i e; rw [e, r2]; exact g2 x
    · exact g2 z
  · exact g3.trans r4 g4.size
  · obtain ⟨bs, q1, q2, q3⟩ := r5
    exact g5.only q1 (fun ad e hk => by have h1 := g6 ad e; have h2 := q2 _ hk; rw [h2] at h1; exact hn h1)
  · intro ad e
    obtain ⟨rb, e', hc⟩ := g5 0 (by omega)
    rw [r4 _ (by rw [e] at e'; cases e'; exact World.block_lt_of_cell? wx ⟨rb, 0, none⟩ hc)]
    exact g6 ad e
set_option maxHeartbeats 4000000 in
set_option maxRecDepth 100000 in
theorem take_subs (n b i : Nat) (o : Nat → Tg) (P : NP) (N : Nd) (tr : Tr) (s t l q og h now : Int) (st : Bool) (a : Option Addr) (m cap : Nat) (L : List Nat) (w : World) (hn : n ≠ 0) (hN : NAt w o n b P N) (hi : i < 8) (ht : N.tr i = some tr) (hG : GM.Inv 3 3 tr.gn tr.gT tr.gM) (hR : RM.Inv 64 tr.rT tr.rM) (hA : Arg w a m L) (hno : a = none → m = 0 ∧ cap = 0) (hf : PM.fault s t l q m = 0) (hF : 0 < m → ∀ ad, a = some ad → (o ad.block).n = 0) (X : List Int) (sS : Sb) (KK : Nat) (hsb : N.sb = X.map fun x => (x, sS)) (hls : SInv N.sb N.ls) (hl : N.lt.length + tr.kids.length ≤ 1000000) (hX : Alike tr sS ⟨s, t, l, q, st, L⟩ (num tr.rT s) now KK) :
    Calls Tryz.prog 25 #[.pointer (some ⟨b, 0, none⟩), .pointer (some ⟨(P.tp i).p, 0, none⟩), .agg #[.int .i64 s, .int .i64 t, .int .i64 l, .int .i64 q, .bool st, .slice a m cap], .agg #[.int .i64 og, .int .i64 h], .int .i64 now] w fun e w' => e = .returned (.tuple #[]) ∧ Done w w' o n b (N.tookS i tr X sS ⟨s, t, l, q, st, L, .slice a m cap⟩ og h now KK) := by
  obtain ⟨W0, hW0⟩ : ∃ W0, (w.alloc (.cells #[.int .i64 s, .int .i64 t, .int .i64 l, .int .i64 q, .bool st, .slice a m cap] 31)).alloc (.cells #[.int .i64 og, .int .i64 h] 79) = W0 := ⟨_, rfl⟩
  have hB0 : Below w.heap.size w W0 := by rw [← hW0]; exact below2 w _ _
  have hby : W0.heap[w.heap.size + 1]? = some (.cells #[.int .i64 og, .int .i64 h] 79 (0, 0)) := by
    rw [← hW0]
    have := heap_alloc_new (w.alloc (.cells #[.int .i64 s, .int .i64 t, .int .i64 l, .int .i64 q, .bool st, .slice a m cap] 31)) (.cells #[.int .i64 og, .int .i64 h] 79)
    simpa using this
  have hbx : W0.heap[w.heap.size]? = some (.cells #[.int .i64 s, .int .i64 t, .int .i64 l, .int .i64 q, .bool st, .slice a m cap] 31 (0, 0)) := by
    rw [← hW0]
    exact (Below.heap_alloc _ _ _ (by simp)).trans (heap_alloc_new w _)
  obtain ⟨o0, ho0⟩ : ∃ o0, grow o w nobody = o0 := ⟨_, rfl⟩
  have he0 : Ext w o o0 := by rw [← ho0]; exact grow_ext o w nobody
  have hob : (o0 w.heap.size).n = 0 := by rw [← ho0, grow_new (Nat.le_refl _)]
  have hoy : (o0 (w.heap.size + 1)).n = 0 := by rw [← ho0, grow_new (by omega)]
  have hN0 : NAt W0 o0 n b P N := hN.chg (S := fun _ => False) (Chg.of_below hB0 _ _) (fun g hg => hg.elim) he0
  have hT0 := (hN0.trs i hi tr ht).1
  have hFar : ∀ (S : Tg → Prop), (∀ g, S g → g.n ≠ 0) → Far o0 S a m := by
    intro S hS hm ad e hs
    obtain ⟨b', o1, e', hc⟩ := hA.1.2 0 (by have := hA.2.1; omega)
    have hl' := World.block_lt_of_cell? w ⟨b', o1 + 0, none⟩ hc
    have hz := hF hm ad e
    rw [e] at e'
    cases e'
    rw [he0 _ hl'] at hs
    exact hS _ hs hz
  have hA0 := hA.below hB0
  -- what the boxes read as wherever they are as they were
  have hbox : ∀ W : World, W.heap[w.heap.size]? = W0.heap[w.heap.size]? → W.cell? ⟨w.heap.size, 0, none⟩ = some (.int .i64 s) ∧ W.cell? ⟨w.heap.size, 1, none⟩ = some (.int .i64 t) ∧ W.cell? ⟨w.heap.size, 2, none⟩ = some (.int .i64 l) ∧ W.cell? ⟨w.heap.size, 3, none⟩ = some (.int .i64 q) ∧ W.cell? ⟨w.heap.size, 4, none⟩ = some (.bool st) ∧ W.cell? ⟨w.heap.size, 5, none⟩ = some (.slice a m cap) := by
    intro W e
    have := e.trans hbx
    refine ⟨?_, ?_, ?_, ?_, ?_, ?_⟩ <;> simp [World.cell?, this]
  have hway : ∀ W : World, W.heap[w.heap.size + 1]? = W0.heap[w.heap.size + 1]? → W.cell? ⟨w.heap.size + 1, 0, none⟩ = some (.int .i64 og) ∧ W.cell? ⟨w.heap.size + 1, 1, none⟩ = some (.int .i64 h) := by
    intro W e
    have := e.trans hby
    constructor <;> simp [World.cell?, this]
  have hstay : ∀ W, Chg o0 (mine n) W0 W → W.heap[w.heap.size]? = W0.heap[w.heap.size]? ∧ W.heap[w.heap.size + 1]? = W0.heap[w.heap.size + 1]? ∧ Arg W a m L := by
    intro W hc
    exact ⟨(lets_body hn hc hbx hob).trans hbx.symm, (lets_body hn hc hby hoy).trans hby.symm, hc.arg hA0 (hFar _ (by intro g hg; unfold mine at hg; omega))⟩
  have CN := hidden (numberOf_calls (P.tp i).p (P.tp i).r (P.tp i).rm tr.rT tr.rM s W0 (by simp [World.cell?, hT0.box]) hT0.rng hR (by obtain ⟨_, _, _, _, rfl, _, _, _, h1, _⟩ := PM.fault_zero hf; omega) (by obtain ⟨_, _, _, _, rfl, _, _, _, h1, _⟩ := PM.fault_zero hf; omega))
  obtain ⟨y, hy⟩ : ∃ y, num tr.rT s = y := ⟨_, rfl⟩
  rw [hy] at CN
  have CH := hidden (Gaps.hear_calls (P.tp i).g (P.tp i).gm 3 3 tr.gn tr.gT y now tr.gM (P.tp i).gv tr.gG W0 hT0.gap hG)
  have c4 : W0.cell? ⟨(P.tp i).p, 4, none⟩ = some (.pointer (some ⟨(P.tp i).g, 0, none⟩)) := by simp [World.cell?, hT0.box]
  -- behind Hear
  have HH : Hid (∀ w1, Gaps.GapsAt w1 (P.tp i).g (P.tp i).gm 3 3 (GM.hN tr.gn tr.gT tr.gM y now) (GM.hU tr.gn tr.gT tr.gM y now) (GM.hL tr.gn tr.gT tr.gM y now) (P.tp i).gv tr.gG → Only [(P.tp i).g, (P.tp i).gm] W0 w1 → NAt w1 o0 n b P { N with tr := updR N.tr i (tr.heard y now) } ∧ Chg o0 (mine n) W0 w1) := by
    refine hidden ?_
    intro w1 g1 g2
    have := hN0.trk1 hn hi ht g2 (by intro k hk; simp at hk; rcases hk with rfl | rfl <;> simp [tblks, Gaps.blks]) (nobT hT0) (hT0.heard g1 g2) rfl
    exact ⟨this.1, chg_mine this.2⟩
  obtain ⟨R, hRes⟩ : ∃ R, N.tookS i tr X sS ⟨s, t, l, q, st, L, .slice a m cap⟩ og h now KK = R := ⟨_, rfl⟩
  rw [hRes]
  unfold Nd.tookS at hRes
  simp only [hy] at hRes
  rw [hy] at hX
  have HAl := hidden hX
  have HBx := hidden hbox
  have HWy := hidden hway
  have HSt := hidden hstay
  have HW := hidden hW0
  have HB0 := hidden hB0
  have HE0 := hidden he0
  have HRI := hidden hR
  have HFr := hidden hFar
  have HNo := hidden hno
  have HFl := hidden hf
  have HSB := hidden hsb
  have HLS := hidden hls
  have HL := hidden hl
  obtain ⟨pb, hpb⟩ : ∃ pb, w.heap.size = pb := ⟨_, rfl⟩
  rw [hpb] at HBx HWy HSt
  obtain ⟨x0, x1, x2, x3, x4, x5⟩ := HBx.out W0 rfl
  obtain ⟨pp, hpp⟩ : ∃ pp, (P.tp i).p = pp := ⟨_, rfl⟩
  have HPP := hidden hpp
  rw [hpp] at CN c4
  rw [hpp]
  obtain ⟨gb, hgb⟩ : ∃ gb, (P.tp i).g = gb := ⟨_, rfl⟩
  rw [hgb] at CH c4
  have HGB := hidden hgb
  obtain ⟨hb, hhb⟩ : ∃ hb, GM.hB tr.gn tr.gT tr.gM y now = hb := ⟨_, rfl⟩
  obtain ⟨fe, hfe⟩ : ∃ fe, GM.hf tr.gn tr.gT tr.gM y now = fe := ⟨_, rfl⟩
  rw [hhb, hfe] at CH
  rw [hhb] at hRes
  have HFE : Hid (hb = true → fe = 0) := by
    refine hidden ?_
    intro e
    rw [e] at hhb
    unfold GM.hB at hhb
    simp at hhb
    rw [← hfe]
    exact hhb.1
  have HRes := hidden hRes
  have q1 := cmp_ne fe
  have q2 := grd_ne fe
  clear hN hG hR hA hno hf hF hsb hls hl hX hW0 hB0 hby hbx ho0 he0 hob hoy hN0 hT0 hFar hA0 hbox hway hstay hy hpp hgb hhb hfe hRes ht
  go_enter Tryz.func25, Tryz.ntmps25
  go_upto_region 1 with fail
  rw [HW.out]
  go_wp2_with fail
  refine CN.out.mono ?_
  rintro e w0 ⟨rfl, hw0⟩
  obtain rfl : W0 = w0 := hw0.symm
  go_wp2_with fail
  refine CH.out.mono ?_
  rintro e w1 ⟨rfl, hg1, ho1⟩
  have hN1 := HH.out w1 (by rw [HGB.out]; exact hg1) (by rw [HGB.out]; exact ho1)
  have HN1 := hidden hN1
  rw [show Gaps.errv fe = errv fe from rfl]
  clear hg1 ho1 hN1 HH CH CN
  cases hb with
  | false =>
    have HD : Hid (Done w w1 o n b R) := by
      rw [← HRes.out]
      exact hidden ⟨o0, P, HN1.out.1, HE0.out, (Chg.of_below HB0.out _ _).trans HN1.out.2 HE0.out⟩
    by_cases hp0 : fe = 0
    · have d0 : decide (fe = 0) = true := by simpa using hp0
      clear hp0
      go_wp2_with fail
      (try simp only [Exit.inBlock, Exit.then])
      refine bodyPost_ret (results_none rfl _ _ _) rfl ?_
      exact ⟨rfl, HD.out⟩
    · have d0 : decide (fe = 0) = false := by simpa using hp0
      clear hp0
      go_wp2_with fail
      (try simp only [Exit.inBlock, Exit.then])
      refine bodyPost_ret (results_none rfl _ _ _) rfl ?_
      exact ⟨rfl, HD.out⟩
  | true =>
    have d0 : decide (fe = 0) = true := by simpa using HFE.out rfl
    obtain ⟨hs1, hs2, hA1⟩ := HSt.out w1 HN1.out.2
    obtain ⟨z0, z1, z2, z3, z4, z5⟩ := HBx.out w1 hs1
    obtain ⟨v0, v1⟩ := HWy.out w1 hs2
    have hT1 := (HN1.out.1.trs i hi (tr.heard y now) (updR_at _ _ _)).1
    have hO1 := (HN1.out.1.trs i hi (tr.heard y now) (updR_at _ _ _)).2
    have CKp := hidden (keep_calls (P.tp i) (tr.heard y now) y s t l q st a m cap L og h w1 hT1 HRI.out hA1 HNo.out HFl.out (by
      intro ad e hm hmem
      have hz := HFr.out (fun g => g = ⟨n, 3, i⟩) (by rintro g rfl; exact hn) hm ad e
      exact hz (hO1 ad.block (by simp only [List.mem_cons, List.not_mem_nil, or_false] at hmem; simp only [tblks, List.mem_cons]; rcases hmem with h | h | h <;> simp [h]))))
    have HK : Hid (∀ w2, TrAt w2 (P.tp i) ((tr.heard y now).keep y ⟨s, t, l, q, st, L, .slice a m cap⟩ (og, h)) → Only [(P.tp i).r, (P.tp i).rm, (P.tp i).wm] w1 w2 → NAt w2 o0 n b P { N with tr := updR N.tr i ((tr.heard y now).keep y ⟨s, t, l, q, st, L, .slice a m cap⟩ (og, h)) } ∧ Chg o0 (mine n) W0 w2) := by
      refine hidden ?_
      intro w2 g1 g2
      have := HN1.out.1.trk1 hn hi (updR_at _ _ _) g2 (by intro k hk; simp at hk; rcases hk with rfl | rfl | rfl <;> simp [tblks]) (nobR hT1) g1 (keep_tk _ _ _ _).2.2.2
      rw [show ({ N with tr := updR N.tr i (tr.heard y now) } : Nd).tr = updR N.tr i (tr.heard y now) from rfl, updR_twice] at this
      exact ⟨this.1, HN1.out.2.trans' (chg_mine this.2)⟩
    rw [HPP.out] at CKp
    clear hs1 hs2 hA1 hT1 hO1 x0 x1 x2 x3 x4 x5 c4
    go_wp2_with fail
    refine CKp.out.mono ?_
    rintro e w2 ⟨rfl, hk1, hk2⟩
    have hN2 := HK.out w2 hk1 hk2
    have HN2 := hidden hN2
    obtain ⟨T2, hT2⟩ : ∃ T2, (tr.heard y now).keep y ⟨s, t, l, q, st, L, .slice a m cap⟩ (og, h) = T2 := ⟨_, rfl⟩
    have e2 := keep_tk (tr.heard y now) y ⟨s, t, l, q, st, L, .slice a m cap⟩ (og, h)
    rw [hT2] at e2 HN2
    obtain ⟨e21, e22, e23, e24⟩ := e2
    obtain ⟨N2, hN2e⟩ : ∃ N2 : Nd, { N with tr := updR N.tr i T2 } = N2 := ⟨_, rfl⟩
    rw [hN2e] at HN2
    have ht2 : N2.tr i = some T2 := by rw [← hN2e]; exact updR_at _ _ _
    have hTb := (HN2.out.1.trs i hi T2 ht2).1
    have c3 : w2.cell? ⟨pp, 3, none⟩ = some (.slice (P.tp i).ka T2.kids.length (P.tp i).kc) := by rw [← HPP.out]; simp [World.cell?, hTb.box]
    rw [e24] at c3
    have HE2 := hidden (And.intro e21 (And.intro e22 (And.intro e23 e24)))
    have HT2 := hidden hT2
    have HN2e := hidden hN2e
    have Ht2 := hidden ht2
    obtain ⟨ka, hka⟩ : ∃ ka, (P.tp i).ka = ka := ⟨_, rfl⟩
    obtain ⟨kc, hkc⟩ : ∃ kc, (P.tp i).kc = kc := ⟨_, rfl⟩
    have hkids : (tr.heard y now).kids = tr.kids := rfl
    rw [hkids] at c3
    obtain ⟨K, hKK⟩ : ∃ K, tr.kids = K := ⟨_, rfl⟩
    obtain ⟨kl, hkl⟩ : ∃ kl, K.length = kl := ⟨_, rfl⟩
    rw [hka, hkc, hKK, hkl] at c3
    have HKA := hidden hka
    have HKK := hidden hKK
    have HKL := hidden hkl
    have hklb : kl ≤ 1000000 := by have := HL.out; rw [hKK, hkl] at this; omega
    obtain ⟨f, hff⟩ : ∃ f, FM.ffault tr.tk og tr.ep h (pby s t l q st L) = f := ⟨_, rfl⟩
    obtain ⟨F, hFF⟩ : ∃ F, fby tr.tk og tr.ep h (pby s t l q st L) = F := ⟨_, rfl⟩
    have HFF := hidden (And.intro hff hFF)
    have HK0 : Hid (KSt w2 w2 o0 n b P N2 K f F 0) := by
      refine hidden ⟨o0, P.lv, ?_, Ext.refl _ _, Chg.refl _ _ _⟩
      rw [List.take_zero, downs_nil, List.append_nil]
      exact HN2.out.1
    clear hk1 hk2 hN2 hT2 e21 e22 e23 e24 hN2e ht2 hTb hka hkc hkids hKK hkl hff hFF HK CKp z0 z1 z2 z3 z4 z5 v0 v1
    go_wp2_with fail
    go_loopg [47] kl (fun gh x wr => ∃ j : Nat, j + gh = kl ∧ x = .int .i64 (j : Int) ∧ Hid (KSt w2 wr o0 n b P N2 K f F j))
    case atStart => exact ⟨0, by omega, rfl, HK0⟩
    case round =>
      obtain ⟨j, hjg, rfl, HS⟩ := hrel
      have hcr : Chg o0 (mine n) W0 wr := by
        obtain ⟨oj, lv, h1, h2, h3⟩ := HS.out
        exact HN2.out.2.trans' (lets_mine h3)
      have HCR := hidden hcr
      clear hcr
      by_cases hj : j < kl
      · have hjz : (j : Int) < (kl : Int) := by omega
        obtain ⟨hs1, hs2, hAr⟩ := HSt.out wr HCR.out
        obtain ⟨z0, z1, z2, z3, z4, z5⟩ := HBx.out wr hs1
        obtain ⟨v0, v1⟩ := HWy.out wr hs2
        obtain ⟨oj, lv, h1, h2, h3⟩ := HS.out
        have hTr := (h1.trs i hi T2 Ht2.out).1
        have hkid := hTr.kid
        rw [HE2.out.2.2.2, show (tr.heard y now).kids = tr.kids from rfl, HKK.out, HKL.out] at hkid
        rw [show (({ P with lv := lv } : NP).tp i).ka = (P.tp i).ka from rfl, HKA.out] at hkid
        obtain ⟨ba, oa, rfl, hcs⟩ := hkid.at (by omega)
        have c0 := hcs j hj
        have hjl : j < K.length := by rw [HKL.out]; exact hj
        have CSd := sendDown_calls n b i oj { P with lv := lv } _ T2 (K.getD j 0) s t l q og h st a m cap L wr hn h1 hi Ht2.out hAr HNo.out HFl.out (by
          have g1 := downs_len (K.take j) f F
          have hnl : N2.lt = N.lt := by rw [← HN2e.out]
          show (N2.lt ++ downs (K.take j) f F).length ≤ 1000000
          rw [List.length_append, hnl]
          have g2 : (K.take j).length ≤ K.length := by rw [List.length_take]; omega
          have g3 := HL.out
          rw [HKK.out] at g3
          omega)
        rw [HE2.out.1, HE2.out.2.1, show (tr.heard y now).tk = tr.tk from rfl, show (tr.heard y now).ep = tr.ep from rfl, HFF.out.1, HFF.out.2] at CSd
        have CS : Hid (Calls Tryz.prog 42 #[.pointer (some ⟨b, 0, none⟩), .int .i64 (K.getD j 0), .pointer (some ⟨pp, 0, none⟩), .agg #[.int .i64 s, .int .i64 t, .int .i64 l, .int .i64 q, .bool st, .slice a m cap], .agg #[.int .i64 og, .int .i64 h]] wr fun e w' => e = .returned (.tuple #[]) ∧ Hid (KSt w2 w' o0 n b P N2 K f F (j + 1))) := by
          rw [show (({ P with lv := lv } : NP).tp i).p = (P.tp i).p from rfl, HPP.out] at CSd
          refine hidden (CSd.mono ?_)
          rintro e w' ⟨rfl, hW⟩
          exact ⟨rfl, kst_next hjl h2 h3 hW⟩
        obtain ⟨kx, hkx⟩ : ∃ kx, K.getD j 0 = kx := ⟨_, rfl⟩
        rw [hkx] at CS c0
        clear hs1 hs2 hAr h1 h2 h3 hTr hkid hcs hjl CSd hkx
        go_wp2_with fail
        refine CS.out.mono ?_
        rintro e w3 ⟨rfl, HK3⟩
        go_wp2_with fail
        go_roundg (kl - (j + 1))
        case measure => omega
        case rel => exact ⟨j + 1, by omega, by go_num, HK3⟩
      · have hjz : ¬ (j : Int) < (kl : Int) := by omega
        obtain rfl : kl = j := by omega
        obtain ⟨oj, lv, h1, h2, h3⟩ := HS.out
        have hTr := (h1.trs i hi T2 Ht2.out).1
        have c0 : wr.cell? ⟨pp, 0, none⟩ = some (.int .i64 T2.tk) := by rw [← HPP.out]; simp [World.cell?, show wr.heap[(P.tp i).p]? = _ from hTr.box]
        have hK0 : K = [] := by rw [← HKK.out]; exact HAl.out.kid
        have eN0 : ({ N2 with lt := N2.lt ++ downs (K.take kl) f F } : Nd) = N2 := by rw [hK0, List.take_nil, downs_nil, List.append_nil]
        rw [eN0] at h1
        have hsb2 : N2.sb = X.map fun x => (x, sS) := by rw [← HN2e.out]; exact HSB.out
        have hls2 : SInv N2.sb N2.ls := by rw [← HN2e.out]; exact HLS.out
        have hidX : ids N2.sb = X := by rw [hsb2]; unfold ids; rw [List.map_map]; exact List.map_id _
        have hris : X.Pairwise fun a b => a < b := by rw [← hidX]; exact hls2.ris
        have hlen : N2.sb.length = X.length := by rw [hsb2, List.length_map]
        have hX20 : X.length ≤ 20 := by rw [← hlen]; exact hls2.len
        have CSu := subsOf_all n b oj { P with lv := lv } N2 T2.tk wr h1 hls2 (by
          intro z hz
          rw [hsb2] at hz
          obtain ⟨z', _, rfl⟩ := List.mem_map.1 hz
          rw [HE2.out.1]
          exact HAl.out.tk)
        rw [hidX, hlen] at CSu
        obtain ⟨s2, hs2⟩ : ∃ s2, (sS.pushed y now ⟨s, t, l, q, st, L⟩).pop now KK = s2 := ⟨_, rfl⟩
        have CU : Hid (Calls Tryz.prog 43 #[.pointer (some ⟨b, 0, none⟩), .int .i64 T2.tk] wr fun e w' => ∃ a cap, e = .returned (.slice a X.length cap) ∧ Hid (SSt W0 w' o0 n b P N2 X sS s2 a 0)) := by
          refine hidden (CSu.mono ?_)
          rintro e w' ⟨a', cap', rfl, hPA, hfr, hb⟩
          refine ⟨a', cap', rfl, hidden ⟨grow oj wr nobody, { P with lv := lv }, ?_, fun _ => rfl, ?_, HCR.out.trans' (Chg.of_below hb o0 _), hPA, fun ad e => grow_zero (hfr ad e)⟩⟩
          · have hN3 := h1.chg (S := fun _ => False) (Chg.of_below hb _ _) (fun g hg => hg.elim) (grow_ext oj wr nobody)
            rw [List.take_zero, List.drop_zero, List.map_nil, List.nil_append, ← hsb2]
            exact hN3
          · exact (h2'' h2 HN2.out.2).trans (grow_ext _ _ _) HCR.out.size
        have HPush : Hid (∀ wx j (hj : j < X.length) ra, SSt W0 wx o0 n b P N2 X sS s2 ra j → Calls Tryz.prog 44 #[.pointer (some ⟨(P.sp (X.getD j 0)).s, 0, none⟩), .int .i64 y, .agg #[.int .i64 s, .int .i64 t, .int .i64 l, .int .i64 q, .bool st, .slice a m cap], .int .i64 now] wx fun e w' => e = .returned (.tuple #[]) ∧ Hid (SSt W0 w' o0 n b P N2 X sS s2 ra (j + 1))) := by
          refine hidden ?_
          intro wx j hj ra hS
          have hcx := hS.chg
          rw [← hs2]
          rw [← hs2] at hS
          exact hS.push hn hris hj HAl.out (HSt.out wx hcx).2.2 HNo.out
        have HFin : Hid (∀ wx ra, SSt W0 wx o0 n b P N2 X sS s2 ra X.length → Done w wx o n b R) := by
          refine hidden ?_
          rintro wx ra ⟨oj', Pj, g1, g2, g3, g4, g5, g6⟩
          refine ⟨oj', Pj, ?_, fun k hk => by rw [g3 k (by have := HB0.out.size; omega)]; exact HE0.out k hk, (Chg.of_below HB0.out _ _).trans g4 HE0.out⟩
          rw [List.take_length, List.drop_length, List.map_nil, List.append_nil] at g1
          have hR := HRes.out
          rw [if_pos trivial, HT2.out, hs2] at hR
          rw [← hR]
          rw [← HN2e.out] at g1
          exact g1
        have HB3 : Hid (∀ wx ra j, SSt W0 wx o0 n b P N2 X sS s2 ra j → (wx.cell? ⟨pb, 0, none⟩ = some (.int .i64 s) ∧ wx.cell? ⟨pb, 1, none⟩ = some (.int .i64 t) ∧ wx.cell? ⟨pb, 2, none⟩ = some (.int .i64 l) ∧ wx.cell? ⟨pb, 3, none⟩ = some (.int .i64 q) ∧ wx.cell? ⟨pb, 4, none⟩ = some (.bool st) ∧ wx.cell? ⟨pb, 5, none⟩ = some (.slice a m cap))) := by
          refine hidden ?_
          intro wx ra j hS
          exact HBx.out wx (HSt.out wx hS.chg).1
        obtain ⟨tk2, htk2⟩ : ∃ tk2, T2.tk = tk2 := ⟨_, rfl⟩
        rw [htk2] at CU c0
        obtain ⟨XL, hXL⟩ : ∃ XL, X.length = XL := ⟨_, rfl⟩
        rw [hXL] at CU HPush HFin hX20
        have HXL := hidden hXL
        clear h1 h2 h3 hTr hsb2 hls2 CSu htk2 hK0 eN0 hidX hris hlen hs2 hXL
        go_wp2_with fail
        refine CU.out.mono ?_
        rintro e w3 ⟨sa, sc, rfl, HD⟩
        clear CU c0
        go_wp2_with fail
        go_loopg [65] XL (fun gh z wx => ∃ j : Nat, j + gh = XL ∧ z = .int .i64 (j : Int) ∧ Hid (SSt W0 wx o0 n b P N2 X sS s2 sa j))
        case atStart => exact ⟨0, by omega, rfl, HD⟩
        case round =>
          obtain ⟨j, hjg, rfl, HS⟩ := hrel
          by_cases hj : j < XL
          · have hjz : (j : Int) < (XL : Int) := by omega
            obtain ⟨z0, z1, z2, z3, z4, z5⟩ := HB3.out wr sa j HS.out
            obtain ⟨rb, rfl, hcs⟩ := HS.out.row (by rw [HXL.out]; omega)
            have c0 := hcs j (by rw [HXL.out]; exact hj)
            have CPu := hidden (HPush.out wr j hj _ HS.out)
            obtain ⟨sp, hsp⟩ : ∃ sp, (P.sp (X.getD j 0)).s = sp := ⟨_, rfl⟩
            rw [hsp] at CPu c0
            clear hcs hsp HS
            go_wp2_with fail
            refine CPu.out.mono ?_
            rintro e w4 ⟨rfl, HS4⟩
            go_wp2_with fail
            go_roundg (XL - (j + 1))
            case measure => omega
            case rel => exact ⟨j + 1, by omega, by go_num, HS4⟩
          · have hjz : ¬ (j : Int) < (XL : Int) := by omega
            obtain rfl : j = XL := by omega
            have HDn := hidden (HFin.out wr sa HS.out)
            clear HS HFin HPush HB3
            go_wp2_with fail
            go_end0
            exact ⟨rfl, HDn.out⟩
end Go.Proofs.YtijfocggdjjnjaiGreatDoor.ND

