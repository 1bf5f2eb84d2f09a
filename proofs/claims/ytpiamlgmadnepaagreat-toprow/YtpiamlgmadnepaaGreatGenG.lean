/-
  What sendAgain of package node leaves in memory, of any numbers. Its condition: the node is such as it may be.
-/
import Derived.Test.YtpiamlgmadnepaaGreatGenF
import Derived.Test.YtpiamlgmadnepaaGreatNRepC
import Derived.Deep.RegionHeld3
namespace Go.Proofs.YtpiamlgmadnepaaGreat.Ring
open Go.ChangeShapes Go.WideShapes Go.ChangeAt Go.RowKit Go.Maps Go.Proofs.YtpiamlgmadnepaaGreat.PM Go.Proofs.YtpiamlgmadnepaaGreat.Mem Go.Proofs.YtpiamlgmadnepaaGreat.Pack Go.Proofs.YtpiamlgmadnepaaGreat.RM
set_option linter.unusedVariables false

set_option maxHeartbeats 1000000 in
set_option maxRecDepth 100000 in
theorem get_has2 (b mb : Nat) (n T : Int) (M : Its) (w : World) (h : RingAt w b mb n T M) (i : Int × Pk) (hi : i ∈ M) (hw : (Lit.int .i64 i.1).wf = true) :
    Calls Tryz.prog 186 #[.pointer (some ⟨b, 0, none⟩), .int .i64 i.1] w fun e w' => ∃ a m c, e = .returned (.tuple #[.agg #[.int .i64 i.2.s, .int .i64 i.2.t, .int .i64 i.2.l, .int .i64 i.2.q, .bool i.2.st, .slice a m c], .nilIface]) ∧ Arg w' a m i.2.L ∧ (a = none → m = 0 ∧ c = 0) ∧ Below w.heap.size w w' := by
  have hR : RingAt (w.alloc (.cells #[.int .i64 0, .int .i64 0, .int .i64 0, .int .i64 0, .bool false, .slice none 0 0] 38)) b mb n T M := h.below ((Below.refl _ _).alloc (Nat.le_refl _) _)
  obtain ⟨a, m, c, hl, ho, hb, hm⟩ := look_has hR hi hw
  obtain ⟨c0, c1, c2⟩ := hR.cells
  have HO := hidden ho
  have HL := hidden hb
  clear hR h hi ho hb
  generalize i.2.s = s at *
  generalize i.2.t = t at *
  generalize i.2.l = l at *
  generalize i.2.q = q at *
  generalize i.2.st = st at *
  generalize i.2.L = L at *
  generalize i.1 = y at *
  clear i
  go_enter Tryz.func186, Tryz.ntmps186
  go_wp2_with fail
  obtain ⟨a0, k0, e0, hA, hN, _, _⟩ := own_slice (L := L) (HO.out.alloc (.cells #[.int .i64 s, .int .i64 t, .int .i64 l, .int .i64 q, .bool st, .slice a m c] 38)) HL.out (by omega)
  cases e0
  refine (apart_calls s t l q st a m c L _ hA hN hm).mono ?_
  rintro e w1 ⟨a', c', rfl, hown, hb1⟩
  have hy : w1.heap[w.heap.size]? = some (.cells #[.int .i64 0, .int .i64 0, .int .i64 0, .int .i64 0, .bool false, .slice none 0 0] 38 (0, 0)) :=
    (hb1.block _ (by simp; omega)).trans (((Box.new w 0 0 0 0 false (.slice none 0 0)).alloc _))
  have HY := hidden hy
  have HO1 := hidden hown
  have HB1 : Hid (Below w.heap.size w w1) := (((Below.refl _ _).alloc (Nat.le_refl _) _).alloc (by simp) _).trans (hb1.mono (by simp; omega))
  clear hy hown hb1 hA hN HO hl c0 c1 c2
  obtain ⟨⟨d0, d1, d2, d3, d4, d5⟩, g0, g1, g2, g3, g4, g5⟩ := open6 HY.out
  go_wp2_with fail
  have ho : Only [w.heap.size] w1 _ := only6 (g := w.heap.size) (Only.refl _ w1) (by simp) (.int .i64 s) (.int .i64 t) (.int .i64 l) (.int .i64 q) (.bool st) (.slice a' m c')
  refine bodyPost_ret (res_pk (g := w.heap.size) rfl rfl (box6 HY.out s t l q st _)) rfl ?_
  obtain ⟨a2, k2, e2, hA2, hno2, _⟩ := own_slice (L := L) (ho.owns HO1.out (fun k hk hc => by
    simp at hc
    subst hc
    rcases HO1.out.2 with ⟨hn, _⟩ | ⟨g, cap, cur, e, _, hgg, _⟩
    · rw [hn] at hk; simp [Value.ownBlock] at hk
    · rw [e] at hk
      simp [Value.ownBlock] at hk
      subst hk
      rw [HY.out] at hgg
      simp at hgg)) HL.out (by omega)
  cases e2
  exact ⟨a', m, c', rfl, hA2, hno2, HB1.out.trans (ho.below HB1.out.size (by simp))⟩
end Go.Proofs.YtpiamlgmadnepaaGreat.Ring
namespace Go.Proofs.YtpiamlgmadnepaaGreat.ND
open Go.ChangeShapes Go.WideShapes Go.ChangeAt Go.RowKit Go.Maps Go.Lib Go.Proofs.YtpiamlgmadnepaaGreat.Mem Go.Proofs.YtpiamlgmadnepaaGreat.NO
set_option linter.unusedVariables false

theorem iarg_chg {w w' : World} {o : Nat → Tg} {S : Tg → Prop} {a : Option Addr} {m : Nat} {L : List Int} (h : Back.IArg w a m L) (hc : Chg o S w w') (hS : ∀ g, S g → g.n ≠ 0) (hz : ∀ ad, a = some ad → 0 < m → (o ad.block).n = 0) : Back.IArg w' a m L := by
  obtain ⟨bs, q1, q2, q3⟩ := hc
  refine ⟨fun j hj => ?_, h.2⟩
  obtain ⟨b', o', e, hc⟩ := h.1 j hj
  have hnb : b' ∉ bs := fun hx => hS _ (q2 _ hx) (hz _ e (by have := h.2.1; omega))
  exact ⟨b', o', e, (cell_same (q1.2.2.2.2 b' (World.block_lt_of_cell? w ⟨b', o' + j, none⟩ hc) hnb) _).trans hc⟩
theorem Wrote.below {w w1 w2 : World} {o : Nat → Tg} {n b : Nat} {P : NP} {N : Nd} (h : Wrote w w1 o n b P N) (hb : Below w1.heap.size w1 w2) : Wrote w w2 o n b P N := by
  obtain ⟨o', lv, h1, h2, h3⟩ := h
  exact ⟨o', lv, h1.below hb, h2, h3.trans' (Chg.of_below hb _ _)⟩
theorem find_has {M : RM.Its} (h1 : M.Pairwise fun a b => a.1 ≠ b.1) {x : Int × RM.Pk} (hx : x ∈ M) : (M.find? fun i => i.1 == x.1) = some x := by
  induction M with
  | nil => cases hx
  | cons a M ih =>
    obtain ⟨k1, k2⟩ := List.pairwise_cons.1 h1
    rw [List.find?_cons]
    rcases List.mem_cons.1 hx with rfl | hx
    · simp
    · have := k1 x hx
      rw [show (a.1 == x.1) = false by simpa using this]
      exact ih k2 hx
theorem find_not {M : RM.Its} {y : Int} (h : RM.has M y = false) : (M.find? fun i => i.1 == y) = none := by
  rw [List.find?_eq_none]
  intro x hx
  simpa using RM.has_no h x hx
theorem unw_rng {T q : Int} (h0 : 0 ≤ q) (h1 : q ≤ 65535) (hT : -1 ≤ T) (hT2 : T ≤ 1099511627776) : -9223372036854775808 ≤ num T q ∧ num T q ≤ 9223372036854775807 := by
  unfold num Ser.unw Ser.bey
  split
  · omega
  · (try simp only [])
    split <;> omega
set_option maxHeartbeats 4000000 in
set_option maxRecDepth 100000 in
/-- what is kept of some numbers goes again -/
theorem again_any (n b i : Nat) (o : Nat → Tg) (P : NP) (N : Nd) (tr : Tr) (kd : Int) (a : Option Addr) (nn cap : Nat) (L : List Int) (w : World) (hn : n ≠ 0) (hN : NAt w o n b P N) (hi : i < 8) (ht : N.tr i = some tr) (hR : RM.Inv 64 tr.rT tr.rM) (hrf : ∀ x ∈ tr.rM, PM.fault x.2.s x.2.t x.2.l x.2.q x.2.L.length = 0) (hA : Back.IArg w a nn L) (hz : ∀ ad, a = some ad → 0 < nn → (o ad.block).n = 0) (hL : ∀ q ∈ L, 0 ≤ q ∧ q ≤ 65535) (hnn : nn ≤ 1000) (hl : N.lt.length ≤ 1000) :
    Calls Tryz.prog 151 #[.pointer (some ⟨b, 0, none⟩), .int .i64 kd, .pointer (some ⟨(P.tp i).p, 0, none⟩), .slice a nn cap] w fun e w' => e = .returned (.tuple #[]) ∧ Wrote w w' o n b P { N with lt := N.lt ++ L.flatMap (againL tr kd) } := by
  have hlen := hA.2.1
  -- what stands at a round's start
  obtain ⟨St, hSt⟩ : ∃ St : World → Nat → Prop, (fun wr j => Wrote w wr o n b P { N with lt := N.lt ++ (L.take j).flatMap (againL tr kd) }) = St := ⟨_, rfl⟩
  have hSte : ∀ wr j, St wr j ↔ Wrote w wr o n b P { N with lt := N.lt ++ (L.take j).flatMap (againL tr kd) } := fun wr j => by rw [← hSt]
  have HCell : Hid (∀ wr j, St wr j → j < nn → ∃ ba oa, a = some ⟨ba, oa, none⟩ ∧ wr.cell? ⟨ba, oa + j, none⟩ = some (.int .i64 (L.getD j 0))) := by
    refine hidden ?_
    intro wr j hs hj
    obtain ⟨o', lv, h1, h2, h3⟩ := (hSte wr j).1 hs
    have := iarg_chg hA (lets_mine h3) (by intro g hg; unfold mine at hg; omega) hz
    obtain ⟨ba, oa, e, hcs⟩ := this.at (by omega)
    exact ⟨ba, oa, e, hcs j hj⟩
  have hstep : ∀ j, j < nn → (L.take (j + 1)).flatMap (againL tr kd) = (L.take j).flatMap (againL tr kd) ++ againL tr kd (L.getD j 0) := by
    intro j hj
    rw [split_atG (by omega), List.flatMap_append]
    simp
  have hmem : ∀ j, j < nn → 0 ≤ L.getD j 0 ∧ L.getD j 0 ≤ 65535 := by
    intro j hj
    have : j < L.length := by omega
    exact hL _ (by rw [List.getD_eq_getElem?_getD, List.getElem?_eq_getElem this]; exact List.getElem_mem this)
  have hsmall : ∀ j, ((L.take j).flatMap (againL tr kd)).length ≤ j := by
    intro j
    have g : ∀ X : List Int, (X.flatMap (againL tr kd)).length ≤ X.length := by
      intro X
      induction X with
      | nil => simp
      | cons x X ih => simp only [List.flatMap_cons, List.length_append, List.length_cons]; have := againL_len tr kd x; omega
    have := g (L.take j)
    rw [List.length_take] at this
    omega
  have HNum : Hid (∀ wr j, St wr j → j < nn → Calls Tryz.prog 122 #[.pointer (some ⟨(P.tp i).p, 0, none⟩), .int .i64 (L.getD j 0)] wr fun e w' => e = .returned (.int .i64 (num tr.rT (L.getD j 0))) ∧ w' = wr) := by
    refine hidden ?_
    intro wr j hs hj
    obtain ⟨o', lv, h1, h2, h3⟩ := (hSte wr j).1 hs
    have hT := (h1.trs i hi tr ht).1
    exact numberOf_calls (P.tp i).p (P.tp i).r (P.tp i).rm tr.rT tr.rM _ wr (by simp [World.cell?, show wr.heap[(P.tp i).p]? = _ from hT.box]) hT.rng hR (hmem j hj).1 (hmem j hj).2
  have HC5 : Hid (∀ wr j, St wr j → wr.cell? ⟨(P.tp i).p, 5, none⟩ = some (.pointer (some ⟨(P.tp i).r, 0, none⟩))) := by
    refine hidden ?_
    intro wr j hs
    obtain ⟨o', lv, h1, h2, h3⟩ := (hSte wr j).1 hs
    have hT := (h1.trs i hi tr ht).1
    simp [World.cell?, show wr.heap[(P.tp i).p]? = _ from hT.box]
  have hwf : ∀ j, j < nn → (Lit.int .i64 (num tr.rT (L.getD j 0))).wf = true := fun j hj => by
    obtain ⟨h1, h2⟩ := unw_rng (T := tr.rT) (hmem j hj).1 (hmem j hj).2 hR.t1 hR.t2
    exact wf_of h1 h2
  have HNone : Hid (∀ wr j, St wr j → j < nn → RM.has tr.rM (num tr.rT (L.getD j 0)) = false → Calls Tryz.prog 186 #[.pointer (some ⟨(P.tp i).r, 0, none⟩), .int .i64 (num tr.rT (L.getD j 0))] wr fun e w' => e = .returned (.tuple #[.agg #[.int .i64 0, .int .i64 0, .int .i64 0, .int .i64 0, .bool false, .slice none 0 0], Pack.errv 5]) ∧ Hid (∀ w2, Below w'.heap.size w' w2 → St w2 (j + 1))) := by
    refine hidden ?_
    intro wr j hs hj hh
    have hs' := (hSte wr j).1 hs
    obtain ⟨o', lv, h1, h2, h3⟩ := (hSte wr j).1 hs
    have hT := (h1.trs i hi tr ht).1
    refine (Ring.get_none (P.tp i).r (P.tp i).rm 64 tr.rT _ tr.rM wr hT.rng hh (hwf j hj)).mono ?_
    rintro e w' ⟨rfl, hb⟩
    refine ⟨rfl, hidden fun w2 hb2 => (hSte _ _).2 ?_⟩
    rw [hstep j hj, show againL tr kd (L.getD j 0) = [] by unfold againL; rw [find_not hh], List.append_nil]
    exact (hs'.below hb).below hb2
  have HHas : Hid (∀ wr j, St wr j → j < nn → RM.has tr.rM (num tr.rT (L.getD j 0)) = true → ∃ (p : RM.Pk) (og h : Int), Calls Tryz.prog 186 #[.pointer (some ⟨(P.tp i).r, 0, none⟩), .int .i64 (num tr.rT (L.getD j 0))] wr fun e w' => ∃ a1 m1 c1, e = .returned (.tuple #[.agg #[.int .i64 p.s, .int .i64 p.t, .int .i64 p.l, .int .i64 p.q, .bool p.st, .slice a1 m1 c1], .nilIface]) ∧
      Hid (∀ W, W = (w'.alloc (.cells #[.int .i64 p.s, .int .i64 p.t, .int .i64 p.l, .int .i64 p.q, .bool p.st, .slice a1 m1 c1] 38)).drew → AgS W w'.heap.size (P.tp i).p (P.tp i).wm p a1 m1 c1 (num tr.rT (L.getD j 0)) og h ∧
        Calls Tryz.prog 124 #[.pointer (some ⟨b, 0, none⟩), .int .i64 kd, .pointer (some ⟨(P.tp i).p, 0, none⟩), .agg #[.int .i64 p.s, .int .i64 p.t, .int .i64 p.l, .int .i64 p.q, .bool p.st, .slice a1 m1 c1], .agg #[.int .i64 og, .int .i64 h]] W fun e w2 => e = .returned (.tuple #[]) ∧ AgS w2 w'.heap.size (P.tp i).p (P.tp i).wm p a1 m1 c1 (num tr.rT (L.getD j 0)) og h ∧ Hid (St w2 (j + 1)))) := by
    refine hidden ?_
    intro wr j hs hj hh
    obtain ⟨o', lv, h1, h2, h3⟩ := (hSte wr j).1 hs
    have hT := (h1.trs i hi tr ht).1
    obtain ⟨x, hx, hxy⟩ := RM.has_iff.1 hh
    obtain ⟨y, hy⟩ : ∃ y, num tr.rT (L.getD j 0) = y := ⟨_, rfl⟩
    have hw := hwf j hj
    rw [hy] at hxy hw ⊢
    obtain ⟨y', p⟩ := x
    obtain rfl : y' = y := hxy
    refine ⟨p, (tr.wy y').1, (tr.wy y').2, (Ring.get_has2 (P.tp i).r (P.tp i).rm 64 tr.rT tr.rM wr hT.rng (y', p) hx hw).mono ?_⟩
    rintro e w1 ⟨a1, m1, c1, rfl, hA1, hno1, hb1⟩
    refine ⟨a1, m1, c1, rfl, hidden ?_⟩
    rintro W rfl
    obtain ⟨W, hW⟩ : ∃ W, (w1.alloc (.cells #[.int .i64 p.s, .int .i64 p.t, .int .i64 p.l, .int .i64 p.q, .bool p.st, .slice a1 m1 c1] 38)).drew = W := ⟨_, rfl⟩
    rw [hW]
    have hB1 : Below w1.heap.size w1 W := by rw [← hW]; exact ((Below.refl _ _).alloc (Nat.le_refl _) _).drew
    have hbx : W.heap[w1.heap.size]? = some (.cells #[.int .i64 p.s, .int .i64 p.t, .int .i64 p.l, .int .i64 p.q, .bool p.st, .slice a1 m1 c1] 38 (0, 0)) := by rw [← hW]; exact heap_alloc_new w1 _
    have hBW : Below wr.heap.size wr W := hb1.trans (hB1.mono hb1.size)
    obtain ⟨o0, ho0⟩ : ∃ o0, grow o' wr nobody = o0 := ⟨_, rfl⟩
    have he0 : Ext wr o' o0 := by rw [← ho0]; exact grow_ext o' wr nobody
    have hob : (o0 w1.heap.size).n = 0 := by rw [← ho0, grow_new hb1.size]
    have hNW := h1.chg (S := fun _ => False) (Chg.of_below hBW _ _) (fun g hg => hg.elim) he0
    have hA2 := hA1.below hB1
    have hm := hA2.2.1
    have gag := ags hNW hi ht hbx hx (Prod.ext rfl rfl : tr.wy y' = ((tr.wy y').1, (tr.wy y').2)) hw
    refine ⟨gag, ?_⟩
    have C := sendDown_calls n b i o0 { P with lv := lv } _ tr kd p.s p.t p.l p.q (tr.wy y').1 (tr.wy y').2 p.st a1 m1 c1 p.L W hn hNW hi ht hA2 hno1 (by rw [← hm]; exact hrf _ hx) (by
      show (N.lt ++ (L.take j).flatMap (againL tr kd)).length ≤ 1000000
      rw [List.length_append]
      have := hsmall j
      omega)
    refine C.mono ?_
    rintro e w2 ⟨rfl, o2, lv2, q1, q2, q3⟩
    have hbx' := lets_body hn (lets_mine q3) hbx hob
    have g2 := ags (tr := tr) q1 hi ht hbx' hx (Prod.ext rfl rfl : tr.wy y' = ((tr.wy y').1, (tr.wy y').2)) hw
    refine ⟨rfl, g2, hidden ((hSte _ _).2 ⟨o2, lv2, ?_, ?_, ?_⟩)⟩
    · have e : ({ N with lt := N.lt ++ (L.take (j + 1)).flatMap (againL tr kd) } : Nd) = { ({ N with lt := N.lt ++ (L.take j).flatMap (againL tr kd) } : Nd) with lt := if FM.ffault tr.tk (tr.wy y').1 tr.ep (tr.wy y').2 (pby p.s p.t p.l p.q p.st p.L) = 0 then (N.lt ++ (L.take j).flatMap (againL tr kd)) ++ [(kd, fby tr.tk (tr.wy y').1 tr.ep (tr.wy y').2 (pby p.s p.t p.l p.q p.st p.L))] else N.lt ++ (L.take j).flatMap (againL tr kd) } := by
        rw [hstep j hj]
        unfold againL
        rw [hy, find_has hR.one hx]
        simp only []
        split
        · rw [List.append_assoc]
        · rw [List.append_nil]
      rw [e]
      exact q1
    · exact (h2.trans he0 h3.size).trans q2 (by have := h3.size; have := hBW.size; omega)
    · exact (h3.trans (Chg.of_below hBW _ _) h2).trans q3 (h2.trans he0 h3.size)
  have HFin : Hid (∀ wr, St wr nn → Wrote w wr o n b P { N with lt := N.lt ++ L.flatMap (againL tr kd) }) := by
    refine hidden ?_
    intro wr hs
    have := (hSte wr nn).1 hs
    rwa [List.take_of_length_le (by omega)] at this
  have HS0 : Hid (St w 0) := by
    refine hidden ((hSte w 0).2 ⟨o, P.lv, ?_, Ext.refl _ _, Chg.refl _ _ _⟩)
    rw [List.take_zero, List.flatMap_nil, List.append_nil]
    exact hN
  obtain ⟨R, hRes⟩ : ∃ R : Nd, { N with lt := N.lt ++ L.flatMap (againL tr kd) } = R := ⟨_, rfl⟩
  rw [hRes] at HFin ⊢
  obtain ⟨pp, hpp⟩ : ∃ pp, (P.tp i).p = pp := ⟨_, rfl⟩
  obtain ⟨rb, hrb⟩ : ∃ rb, (P.tp i).r = rb := ⟨_, rfl⟩
  obtain ⟨wm, hwm⟩ : ∃ wm, (P.tp i).wm = wm := ⟨_, rfl⟩
  rw [hpp] at HNum HC5 HHas
  rw [hrb] at HC5 HNone HHas
  rw [hwm] at HHas
  rw [hpp]
  obtain ⟨T, hT⟩ : ∃ T, tr.rT = T := ⟨_, rfl⟩
  obtain ⟨M, hM⟩ : ∃ M, tr.rM = M := ⟨_, rfl⟩
  rw [hT] at HNum HNone HHas
  rw [hM] at HNone HHas
  unfold AgS at HHas
  clear hN ht hR hrf hA hz hL hl hlen hSt hSte hstep hmem hsmall hwf hRes hpp hrb hwm hT hM
  go_enter Tryz.func151, Tryz.ntmps151
  go_wp2_with fail
  go_loopg [15] nn (fun gh x wr => ∃ j : Nat, j + gh = nn ∧ x = .int .i64 (j : Int) ∧ Hid (St wr j))
  case atStart => exact ⟨0, by omega, rfl, HS0⟩
  case round =>
    obtain ⟨j, hjg, rfl, HS⟩ := hrel
    by_cases hj : j < nn
    · have hjz : (j : Int) < (nn : Int) := by omega
      obtain ⟨ba, oa, rfl, c0⟩ := HCell.out wr j HS.out hj
      have CN := hidden (HNum.out wr j HS.out hj)
      have c5 := HC5.out wr j HS.out
      have CO := hidden (HNone.out wr j HS.out hj)
      have CG := hidden (HHas.out wr j HS.out hj)
      obtain ⟨q, hq⟩ : ∃ q, L.getD j 0 = q := ⟨_, rfl⟩
      rw [hq] at CN CO CG c0
      obtain ⟨y, hy⟩ : ∃ y, num T q = y := ⟨_, rfl⟩
      rw [hy] at CN CO CG
      clear hq hy HCell HNum HNone HHas HC5 HFin HS0 HS
      go_wp2_with fail
      refine CN.out.mono ?_
      rintro e w0 ⟨rfl, hw0⟩
      obtain rfl : wr = w0 := hw0.symm
      cases hh : RM.has M y with
      | false =>
        have C := hidden (CO.out hh)
        have z1 : ∀ w, (binOp .eql 25 (Pack.errv 5) .nilIface).run Tryz.prog w = .ok (.bool false) w := fun w => cmp_eq 5 w
        have z2 : ∀ o1 w, (eqGuard .eql 25 o1 (.const .nilIface) (Pack.errv 5) .nilIface).run Tryz.prog w = .ok () w := fun o1 w => grd_eq 5 o1 w
        obtain ⟨ev, hev⟩ : ∃ ev, Pack.errv 5 = ev := ⟨_, rfl⟩
        rw [hev] at C z1 z2
        clear CO CG hh hev CN
        go_wp2_with fail
        refine C.out.mono ?_
        rintro e w1 ⟨rfl, HB⟩
        clear C
        go_wp2_with fail
        go_roundg (nn - (j + 1))
        case measure => omega
        case rel => exact ⟨j + 1, by omega, by go_num, hidden (HB.out _ ((Below.refl _ _).alloc (Nat.le_refl _) _))⟩
      | true =>
        obtain ⟨p, og, h, C0⟩ := CG.out hh
        have C := hidden C0
        obtain ⟨ps, hps⟩ : ∃ z, p.s = z := ⟨_, rfl⟩
        obtain ⟨pt, hpt⟩ : ∃ z, p.t = z := ⟨_, rfl⟩
        obtain ⟨pl, hpl⟩ : ∃ z, p.l = z := ⟨_, rfl⟩
        obtain ⟨pq, hpq⟩ : ∃ z, p.q = z := ⟨_, rfl⟩
        obtain ⟨pst, hpst⟩ : ∃ z, p.st = z := ⟨_, rfl⟩
        rw [hps, hpt, hpl, hpq, hpst] at C
        clear CO CG hh C0 CN hps hpt hpl hpq hpst
        go_wp2_with fail
        refine C.out.mono ?_
        rintro e w1 ⟨a1, m1, c1, rfl, HB⟩
        clear C c5 c0
        obtain ⟨W1, hW1⟩ : ∃ W1, w1.alloc (.cells #[.int .i64 ps, .int .i64 pt, .int .i64 pl, .int .i64 pq, .bool pst, .slice a1 m1 c1] 38) = W1 := ⟨_, rfl⟩
        obtain ⟨S0, C0⟩ := HB.out W1.drew (by rw [← hW1])
        obtain ⟨pb, hpb⟩ : ∃ pb, w1.heap.size = pb := ⟨_, rfl⟩
        rw [hpb] at S0 C0
        have HC := hidden C0
        have HW1 := hidden hW1
        clear hW1 C0 HB
        go_upto_region 6 with fail
        first | rw [HW1.out] | skip
        clear hpb
        go_region_held3 (fun w' => (w'.cell? ⟨pb, 0, none⟩ = some (.int .i64 ps) ∧ w'.cell? ⟨pb, 1, none⟩ = some (.int .i64 pt) ∧ w'.cell? ⟨pb, 2, none⟩ = some (.int .i64 pl) ∧ w'.cell? ⟨pb, 3, none⟩ = some (.int .i64 pq) ∧ w'.cell? ⟨pb, 4, none⟩ = some (.bool pst) ∧ w'.cell? ⟨pb, 5, none⟩ = some (.slice a1 m1 c1)) ∧ w'.cell? ⟨pp, 6, none⟩ = some (.map (some wm)) ∧ (Instr.lookup 172 (.map (some wm)) (.int .i64 y) false).run Tryz.prog w' = .ok (.agg #[.int .i64 og, .int .i64 h]) w') (with_reducible assumption) (first | (go_at_call 124; refine HC.out.mono ?_; rintro e w4 ⟨rfl, hS4, HD⟩))
        go_wp2_with fail
        go_roundg (nn - (j + 1))
        case measure => omega
        case rel => exact ⟨j + 1, by omega, by go_num, HD⟩
    · have hjz : ¬ (j : Int) < (nn : Int) := by omega
      obtain rfl : nn = j := by omega
      have HD := hidden (HFin.out wr HS.out)
      clear HCell HNum HNone HHas HC5 HFin HS0 HS
      go_wp2_with fail
      go_end0
      exact ⟨rfl, HD.out⟩
end Go.Proofs.YtpiamlgmadnepaaGreat.ND

