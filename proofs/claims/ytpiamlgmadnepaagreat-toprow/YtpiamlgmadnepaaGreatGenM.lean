/-
  What Tick of package node returns and leaves in memory, where nothing is given up. Its condition: the node is such as it may be.
-/
import Derived.Test.YtpiamlgmadnepaaGreatGenL
namespace Go.Proofs.YtpiamlgmadnepaaGreat.ND
open Go.ChangeShapes Go.WideShapes Go.ChangeAt Go.RowKit Go.Maps Go.Lib Go.Proofs.YtpiamlgmadnepaaGreat.Mem Go.Proofs.YtpiamlgmadnepaaGreat.NO
set_option linter.unusedVariables false

/-- an element of a row of eight pointers -/
theorem arr_any (q : Nat → Option Addr) (j : Nat) (hj : j < 8) (w : World) :
    (Instr.index 154 (.agg #[.pointer (q 0), .pointer (q 1), .pointer (q 2), .pointer (q 3), .pointer (q 4), .pointer (q 5), .pointer (q 6), .pointer (q 7)]) (.int .i64 (j : Int))).run Tryz.prog w = .ok (.pointer (q j)) w := by
  rcases upto8 hj with rfl | rfl | rfl | rfl | rfl | rfl | rfl | rfl <;> kernel_rfl
def qp (N : Nd) (P : NP) (i : Nat) : Option Addr := match N.tr i with
  | none => none
  | some _ => some ⟨(P.tp i).p, 0, none⟩
theorem tpv_qp (N : Nd) (P : NP) (i : Nat) : tpv (N.tr i) (P.tp i) = .pointer (qp N P i) := by
  unfold tpv qp
  cases N.tr i <;> rfl
theorem DoneP.trans {w w1 w2 : World} {o : Nat → Tg} {n b : Nat} {P : NP} {N1 N2 : Nd} (h1 : DoneP w w1 o n b P N1) (h2 : ∀ o1 P1, NAt w1 o1 n b P1 N1 → (∀ x, (P1.sp x).s = (P.sp x).s) → (∀ i, (P1.tp i).p = (P.tp i).p) → DoneP w1 w2 o1 n b P1 N2) : DoneP w w2 o n b P N2 := by
  obtain ⟨o1, P1, a1, a2, a3, a4, a5⟩ := h1
  obtain ⟨o2, P2, b1, b2, b3, b4, b5⟩ := h2 o1 P1 a1 a2 a3
  exact ⟨o2, P2, b1, fun x => (b2 x).trans (a2 x), fun i => (b3 i).trans (a3 i), a4.trans b4 a5.size, a5.trans b5 a4⟩
/-- one step of the tracks' round -/
theorem asks_none {N : Nd} {now : Int} {j : Nat} (h : N.tr j = none ∨ ∃ t, N.tr j = some t ∧ t.pa = -1) : N.asksG now (j + 1) = N.asksG now j := by
  have e := (asksG_nw N now j).2.2.2.2.2.2.1 j (Nat.le_refl _)
  show (N.asksG now j).askG j now = _
  unfold Nd.askG
  rcases h with h | ⟨t, h, hp⟩
  · rw [e, h]
  · rw [e, h]
    simp only []
    rw [if_pos hp]
theorem asks_sb {N : Nd} {now : Int} (hg : NoGive N now) : ∀ j, j ≤ 8 → (N.asksG now j).sb = N.sb
  | 0, _ => rfl
  | j + 1, hj => by
    have ih := asks_sb hg j (by omega)
    have e := (asksG_nw N now j).2.2.2.2.2.2.1 j (Nat.le_refl _)
    show ((N.asksG now j).askG j now).sb = _
    unfold Nd.askG
    cases ht : N.tr j with
    | none => rw [e, ht]; exact ih
    | some t =>
      rw [e, ht]
      simp only []
      split
      · exact ih
      · rename_i hpa
        simp only [hg j (by omega) t ht hpa, List.foldl_nil, selS_id]
        exact ih
/-- under way among those who may want a start -/
def WSt (w wx : World) (o : Nat → Tg) (n b : Nat) (P : NP) (N : Nd) (now : Int) (ra : Option Addr) (j : Nat) : Prop := ∃ oj Pj, NAt wx oj n b Pj (N.starts now (N.sb.take j)) ∧ (∀ x, (Pj.sp x).s = (P.sp x).s) ∧ Ext w o oj ∧ Chg o (mine n) w wx ∧ PArg wx ra (fun x => (P.sp x).s) (ids N.sb) ∧ ∀ ad, ra = some ad → (oj ad.block).n = 0
theorem ids_get {l : List (Int × Sb)} {j : Nat} (hj : j < l.length) : (ids l).getD j 0 = l[j].1 := by
  rw [List.getD_eq_getElem?_getD, List.getElem?_eq_getElem (by rw [ids_len]; exact hj)]
  simp [ids]
theorem WSt.skip {w wx w' : World} {o : Nat → Tg} {n b : Nat} {P : NP} {N : Nd} {now : Int} {ra : Option Addr} {j : Nat} (h : WSt w wx o n b P N now ra j) (hj : j < N.sb.length) (hw : N.sb[j].2.wants = false) (hk : ∃ k, w' = wx.drewN k) : WSt w w' o n b P N now ra (j + 1) := by
  obtain ⟨oj, Pj, g1, g2, g3, g4, g5, g6⟩ := h
  obtain ⟨k, rfl⟩ := hk
  have e : N.starts now (N.sb.take (j + 1)) = N.starts now (N.sb.take j) := by
    rw [← List.take_append_getElem hj, starts_snoc]
    unfold Nd.askS
    split
    · rfl
    · rw [if_pos (.inl hw)]
  refine ⟨oj, Pj, ?_, g2, g3, g4, g5, g6⟩
  rw [e]
  exact g1.below (below_drewN' (Below.refl _ _))
theorem WSt.ask {w wx w1 : World} {o : Nat → Tg} {nn n b : Nat} {P : NP} {N : Nd} {now : Int} {ra : Option Addr} {j : Nat} (hn : n ≠ 0) (hK : NdOk nn N) (hnw : N.nw = now) (hl : N.lt.length ≤ 500) (h : WSt w wx o n b P N now ra j) (hj : j < N.sb.length) (hw : N.sb[j].2.wants = true) (hk : ∃ k, w1 = wx.drewN k) :
    Calls Tryz.prog 121 #[.pointer (some ⟨b, 0, none⟩), .pointer (some ⟨(P.sp ((ids N.sb).getD j 0)).s, 0, none⟩), .int .i64 now] w1 fun e w' => e = .returned (.tuple #[]) ∧ Hid (WSt w w' o n b P N now ra (j + 1)) := by
  obtain ⟨oj, Pj, g1, g2, g3, g4, g5, g6⟩ := h
  obtain ⟨k, rfl⟩ := hk
  obtain ⟨a1, a2, a3, a4, a5, a6⟩ := starts_nw now (N.sb.take j) N
  have hKj : NdOk nn (N.starts now (N.sb.take j)) := by
    have := NdOk.starts (N.sb.take j) N hK (fun x hx => sb_tm hK x (List.mem_of_mem_take hx))
    rwa [hnw] at this
  obtain ⟨_, i, hi, e, hs⟩ := hK.sb N.sb[j] (List.getElem_mem hj)
  obtain ⟨t, ht⟩ := Option.isSome_iff_exists.1 hs
  have h2 := hK.nw.2
  have hlen : (N.sb.take j).length ≤ 20 := by rw [List.length_take]; have := hK.si.len; omega
  have C := askS_calls nn n b i oj Pj _ t N.sb[j].1 N.sb[j].2 now (wx.drewN k) hn (g1.below (below_drewN' (Below.refl _ _))) hKj (by rw [a4]; exact List.getElem_mem hj) hi e (by rw [a3]; exact ht) hw (by have := hKj.pn.2; omega) (by omega) (by omega)
  rw [ids_get hj, ← g2]
  refine C.mono ?_
  rintro e' w' ⟨rfl, o', P', q1, q2, q3, q4, q5⟩
  have hc : Chg oj (mine n) wx w' := (Chg.of_below (below_drewN' (Below.refl _ _)) oj _).trans' q5
  refine ⟨rfl, hidden ⟨o', P', ?_, fun x => (q2 x).trans (g2 x), ?_, g4.trans hc g3, ?_, ?_⟩⟩
  · rw [← List.take_append_getElem hj, starts_snoc]
    exact q1
  · exact g3.trans (fun k' hk' => q4 k' hk') g4.size
  · obtain ⟨bs, r1, r2, r3⟩ := hc
    exact g5.only r1 (fun ad e hk => by have h1 := g6 ad e; have h3 : (oj ad.block).n = n := r2 _ hk; omega)
  · intro ad e
    obtain ⟨rb, e', hc'⟩ := g5 0 (by rw [ids_len]; omega)
    rw [q4 _ (by rw [e] at e'; cases e'; exact World.block_lt_of_cell? wx ⟨rb, 0, none⟩ hc')]
    exact g6 ad e
set_option maxHeartbeats 8000000 in
set_option maxRecDepth 100000 in
theorem tick_any (nn n b : Nat) (o : Nat → Tg) (P : NP) (N : Nd) (now : Int) (w : World) (hn : n ≠ 0) (hN : NAt w o n b P N) (hK : NdOk nn N) (h0 : N.nw ≤ now) (h1 : now ≤ 1000000) (hgv : NoGive N now) (hl : N.lt.length ≤ 100) :
    Calls Tryz.prog 91 #[.pointer (some ⟨b, 0, none⟩), .int .i64 now] w fun e w' => e = .returned .nilIface ∧ Done w w' o n b (N.tick now) := by
  have hnow := gtf_le hK.nw.1 h0 h1
  have CA := hidden (Gaps.at_calls N.nw now w)
  rw [if_pos hnow, hnow] at CA
  obtain ⟨N1, hN1⟩ : ∃ N1 : Nd, { N with nw := now } = N1 := ⟨_, rfl⟩
  have hK1 : NdOk nn N1 := by rw [← hN1]; exact hK.later h0 h1
  have hnw1 : N1.nw = now := by rw [← hN1]
  have hg1 : NoGive N1 now := by rw [← hN1]; exact hgv
  have hl1 : N1.lt.length ≤ 100 := by rw [← hN1]; exact hl
  have htr1 : N1.tr = N.tr := by rw [← hN1]
  -- behind the clock
  have HA : Hid (∀ W, Below w.heap.size w W → W.cell? ⟨b, 0, none⟩ = some (.int .i64 N.nw) ∧ W.frozen? ⟨b, 0, none⟩ = false ∧ (∀ i, i < 8 → (W.setCell ⟨b, 0, none⟩ (.int .i64 now)).cell? ⟨b, 2 + i, none⟩ = some (.pointer (qp N P i))) ∧ DoneP w (W.setCell ⟨b, 0, none⟩ (.int .i64 now)) o n b P (N1.asksG now 0)) := by
    refine hidden ?_
    intro W hBW
    have hNW : NAt W o n b P N := hN.below hBW
    have hNs := hNW.setN hn now
    have hcs := chg_mine (hNW.chgB 0 (.int .i64 now))
    refine ⟨hNW.cells.1, hNW.free 0, fun i hi => ?_, o, P, ?_, fun _ => rfl, fun _ => rfl, Ext.refl _ _, (Chg.of_below hBW _ _).trans' hcs⟩
    · rw [hNs.track hi]
      show some (tpv (N.tr i) (P.tp i)) = _
      rw [tpv_qp]
    · show NAt _ o n b P N1
      rw [← hN1]
      exact hNs
  -- a track's pa
  have HPa : Hid (∀ W j t, j < 8 → DoneP w W o n b P (N1.asksG now j) → N.tr j = some t → W.cell? ⟨(P.tp j).p, 2, none⟩ = some (.int .i64 t.pa)) := by
    refine hidden ?_
    rintro W j t hj ⟨o', P', a1, a2, a3, a4, a5⟩ ht
    have e := (asksG_nw N1 now j).2.2.2.2.2.2.1 j (Nat.le_refl _)
    have bx := (a1.trs j hj t (by rw [e, htr1]; exact ht)).1.box
    rw [a3] at bx
    simp [World.cell?, bx]
  have HAsk : Hid (∀ W j t, j < 8 → DoneP w W o n b P (N1.asksG now j) → N.tr j = some t → t.pa ≠ -1 → Calls Tryz.prog 118 #[.pointer (some ⟨b, 0, none⟩), .pointer (some ⟨(P.tp j).p, 0, none⟩), .int .i64 now] W fun e w' => e = .returned (.tuple #[]) ∧ Hid (DoneP w w' o n b P (N1.asksG now (j + 1)))) := by
    refine hidden ?_
    intro W j t hj hD ht hpa
    have hD' := hD
    obtain ⟨o', P', a1, a2, a3, a4, a5⟩ := hD
    have hq := asksG_nw N1 now j
    have e := hq.2.2.2.2.2.2.1 j (Nat.le_refl _)
    have e' : (N1.asksG now j).tr j = some t := by rw [e, htr1]; exact ht
    have hKj : NdOk nn (N1.asksG now j) := by have := hK1.asksG j (by omega); rwa [hnw1] at this
    have hT := hKj.tr j hj t e'
    have hgn : GM.tf t.gn now = 0 := gtf_le hT.gi.n1 (by have := hT.gn; rw [hq.1, hnw1] at this; exact this) h1
    have hgl := hgv j hj t ht hpa
    have C := askG_calls n b j o' P' _ t now W hn a1 hj e' hT.gi hgn hpa hT.gg hgl (fun hd => ⟨(due_ok hT hj hd).1, (due_ok hT hj hd).2.2⟩) (by have := hq.2.2.2.2.2.2.2; omega)
    rw [a3] at C
    refine C.mono ?_
    rintro e w' ⟨rfl, hd⟩
    rw [← asked_is e' hpa hgl] at hd
    obtain ⟨o2, P2, b1, b2, b3, b4, b5⟩ := hd
    exact ⟨rfl, hidden ⟨o2, P2, b1, fun x => (b2 x).trans (a2 x), fun i => (b3 i).trans (a3 i), a4.trans b4 a5.size, a5.trans b5 a4⟩⟩
  have HNo : Hid (∀ W j, j < 8 → DoneP w W o n b P (N1.asksG now j) → (N.tr j = none ∨ ∃ t, N.tr j = some t ∧ t.pa = -1) → DoneP w W o n b P (N1.asksG now (j + 1))) := by
    refine hidden ?_
    intro W j hj hD hx
    rw [asks_none (by rw [htr1]; exact hx)]
    exact hD
  -- who subscribes
  obtain ⟨N2, hN2⟩ : ∃ N2, N1.asksG now 8 = N2 := ⟨_, rfl⟩
  have hK2 : NdOk nn N2 := by rw [← hN2]; have := hK1.asksG 8 (Nat.le_refl _); rwa [hnw1] at this
  have hq2 := asksG_nw N1 now 8
  rw [hN2, hnw1] at hq2
  obtain ⟨N3, hN3⟩ : ∃ N3, N2.pops now = N3 := ⟨_, rfl⟩
  have hK3 : NdOk nn N3 := by rw [← hN3]; have := hK2.pops; rwa [hq2.1] at this
  have hnw3 : N3.nw = now := by rw [← hN3]; exact hq2.1
  have hl3 : N3.lt.length ≤ 500 := by rw [← hN3]; show N2.lt.length ≤ 500; omega
  have hids : ids N3.sb = ids N2.sb := by rw [← hN3]; exact popS_ids _ _
  obtain ⟨nl, hnl⟩ : ∃ nl, (ids N2.sb).length = nl := ⟨_, rfl⟩
  have hnl20 : nl ≤ 20 := by rw [← hnl, ids_len]; exact hK2.si.len
  have hnl3 : N3.sb.length = nl := by rw [← ids_len, hids]; exact hnl
  have HSb : Hid (∀ W, DoneP w W o n b P (N1.asksG now 8) → Calls Tryz.prog 119 #[.pointer (some ⟨b, 0, none⟩)] W fun e w' => ∃ a c P2, e = .returned (.slice a nl c) ∧ Hid (SStG w w' o n b P2 N2 (ids N2.sb) (fun s => s.popd now) a 0)) := by
    refine hidden ?_
    rintro W ⟨o', P', q1, _, _, q2, q3⟩
    rw [hN2] at q1
    refine (allSubs_calls n b o' P' N2 W q1 hK2.si).mono ?_
    rintro e w' ⟨v, rfl, hv, hb⟩
    rw [← ids_len] at hv
    obtain ⟨a, cap, rfl, hP, hf⟩ := own_parg hv
    rw [hnl]
    refine ⟨a, cap, P', rfl, hidden ⟨grow o' W nobody, P', ?_, fun _ => rfl, q2.trans (grow_ext _ _ _) q3.size, q3.trans' (Chg.of_below hb _ _), hP, fun ad e => grow_zero (hf ad e).1⟩⟩
    rw [List.take_zero, stg_nil]
    exact q1.chg (S := fun _ => False) (Chg.of_below hb _ _) (fun g hg => hg.elim) (grow_ext _ _ _)
  have HPop : Hid (∀ W P2 j ra, j < nl → SStG w W o n b P2 N2 (ids N2.sb) (fun s => s.popd now) ra j → Calls Tryz.prog 120 #[.pointer (some ⟨(P2.sp ((ids N2.sb).getD j 0)).s, 0, none⟩), .int .i64 now] W fun e w' => e = .returned (.tuple #[]) ∧ Hid (SStG w w' o n b P2 N2 (ids N2.sb) (fun s => s.popd now) ra (j + 1))) := by
    refine hidden ?_
    intro W P2 j ra hj hS
    refine hS.step (F := 120) (mk := fun p => #[p, .int .i64 now]) hn hK2.si.ris (List.Sublist.refl _) (by omega) ?_
    intro x oj Q s hm hat hown
    have k1 := (hK2.sb (x, s) hm).1
    simp only at k1
    have kt : OM.tf s.on now = 0 := tf_le k1.oi.c1 (by have := k1.on; rw [hq2.1] at this; exact this) h1
    obtain ⟨p1, p2, _⟩ := k1.pop kt
    exact spop_calls n x oj Q s now _ W hn hat hown k1.sbi kt (popK_many k1.oi kt) p1 p2
  have HMid : Hid (∀ W P2 ra, SStG w W o n b P2 N2 (ids N2.sb) (fun s => s.popd now) ra nl → WSt w W o n b P2 N3 now ra 0) := by
    refine hidden ?_
    rintro W P2 ra ⟨oj, Pj, g1, g2, g3, g4, g5, g6⟩
    rw [← hnl, List.take_length, stg_all] at g1
    refine ⟨oj, Pj, ?_, g2, g3, g4, by rw [hids]; exact g5, g6⟩
    rw [List.take_zero, ← hN3]
    exact g1
  have HWn : Hid (∀ W P2 j ra, j < nl → WSt w W o n b P2 N3 now ra j → ∃ lb, W.cell? ⟨(P2.sp ((ids N3.sb).getD j 0)).s, 3, none⟩ = some (.pointer (some ⟨lb, 0, none⟩)) ∧ ∃ v : Bool, Calls Tryz.prog 108 #[.pointer (some ⟨lb, 0, none⟩)] W fun e w' => e = .returned (.bool v) ∧ Hid ((v = false → WSt w w' o n b P2 N3 now ra (j + 1)) ∧ (v = true → Calls Tryz.prog 121 #[.pointer (some ⟨b, 0, none⟩), .pointer (some ⟨(P2.sp ((ids N3.sb).getD j 0)).s, 0, none⟩), .int .i64 now] w' fun e w2 => e = .returned (.tuple #[]) ∧ Hid (WSt w w2 o n b P2 N3 now ra (j + 1))))) := by
    refine hidden ?_
    intro W P2 j ra hj hS
    have hj3 : j < N3.sb.length := by omega
    have hS' := hS
    obtain ⟨oj, Pj, g1, g2, g3, g4, g5, g6⟩ := hS
    have hm : N3.sb[j] ∈ (N3.starts now (N3.sb.take j)).sb := by rw [(starts_nw now (N3.sb.take j) N3).2.2.2.1]; exact List.getElem_mem hj3
    have ha := (g1.sbs _ hm).1
    have bx := ha.box
    rw [g2] at bx
    refine ⟨(Pj.sp N3.sb[j].1).lb, by rw [ids_get hj3]; simp [World.cell?, bx], N3.sb[j].2.wants, ?_⟩
    refine (Layer.wants_calls _ _ _ _ _ W ha.lay).mono ?_
    rintro e w' ⟨rfl, hk⟩
    exact ⟨rfl, hidden ⟨fun hv => hS'.skip hj3 hv hk, fun hv => hS'.ask hn hK3 hnw3 hl3 hj3 hv hk⟩⟩
  have HRow : Hid (∀ W P2 j ra, j < nl → SStG w W o n b P2 N2 (ids N2.sb) (fun s => s.popd now) ra j → ∃ rb, ra = some ⟨rb, 0, none⟩ ∧ W.cell? ⟨rb, j, none⟩ = some (.pointer (some ⟨(P2.sp ((ids N2.sb).getD j 0)).s, 0, none⟩))) := by
    refine hidden ?_
    intro W P2 j ra hj hS
    obtain ⟨rb, e, hc⟩ := hS.row (by omega)
    exact ⟨rb, e, hc j (by omega)⟩
  have HRow2 : Hid (∀ W P2 j ra, j < nl → WSt w W o n b P2 N3 now ra j → ∃ rb, ra = some ⟨rb, 0, none⟩ ∧ W.cell? ⟨rb, j, none⟩ = some (.pointer (some ⟨(P2.sp ((ids N3.sb).getD j 0)).s, 0, none⟩))) := by
    refine hidden ?_
    rintro W P2 j ra hj ⟨oj, Pj, g1, g2, g3, g4, g5, g6⟩
    obtain ⟨rb, e, hc⟩ := g5.at (by rw [ids_len]; omega)
    exact ⟨rb, e, hc j (by rw [ids_len]; omega)⟩
  have HFin : Hid (∀ W P2 ra, WSt w W o n b P2 N3 now ra nl → Done w W o n b (N.tick now)) := by
    refine hidden ?_
    rintro W P2 ra ⟨oj, Pj, g1, g2, g3, g4, g5, g6⟩
    rw [← hnl3, List.take_length] at g1
    refine ⟨oj, Pj, ?_, g3, g4⟩
    have e : N.tick now = N3.starts now N3.sb := by
      unfold Nd.tick
      rw [hN1, hN2, hN3]
    rw [e]
    exact g1
  obtain ⟨R, hRes⟩ : ∃ R, N.tick now = R := ⟨_, rfl⟩
  rw [hRes] at HFin ⊢
  have c0 := hN.cells.1
  obtain ⟨nw, hnw⟩ : ∃ nw, N.nw = nw := ⟨_, rfl⟩
  rw [hnw] at c0 CA HA
  obtain ⟨D1, hD1⟩ : ∃ D1 : World → Nat → Prop, (fun W j => DoneP w W o n b P (N1.asksG now j)) = D1 := ⟨_, rfl⟩
  have hD1e : ∀ W j, DoneP w W o n b P (N1.asksG now j) = D1 W j := fun W j => by rw [← hD1]
  simp only [hD1e] at HA HPa HAsk HNo HSb
  obtain ⟨D2, hD2⟩ : ∃ D2 : World → NP → Option Addr → Nat → Prop, (fun W P2 ra j => SStG w W o n b P2 N2 (ids N2.sb) (fun s => s.popd now) ra j) = D2 := ⟨_, rfl⟩
  have hD2e : ∀ W P2 ra j, SStG w W o n b P2 N2 (ids N2.sb) (fun s => s.popd now) ra j = D2 W P2 ra j := fun W P2 ra j => by rw [← hD2]
  simp only [hD2e] at HSb HPop HMid HRow
  obtain ⟨D3, hD3⟩ : ∃ D3 : World → NP → Option Addr → Nat → Prop, (fun W P2 ra j => WSt w W o n b P2 N3 now ra j) = D3 := ⟨_, rfl⟩
  have hD3e : ∀ W P2 ra j, WSt w W o n b P2 N3 now ra j = D3 W P2 ra j := fun W P2 ra j => by rw [← hD3]
  simp only [hD3e] at HMid HWn HRow2 HFin
  clear hN hK h0 h1 hgv hl hnow hN1 hK1 hnw1 hg1 hl1 htr1 hN2 hK2 hq2 hN3 hK3 hnw3 hl3 hids hnl hnl3 hRes hnw hD1 hD1e hD2 hD2e hD3 hD3e
  go_enter Tryz.func91, Tryz.ntmps91
  go_wp2_with fail
  refine CA.out.mono ?_
  rintro e w1 ⟨rfl, hb1⟩
  rw [show Gaps.errv 0 = Value.nilIface from rfl]
  obtain ⟨W1, hW1⟩ : ∃ W1, w1.alloc (.cells #[.int .i64 now] 89) = W1 := ⟨_, rfl⟩
  have hB1 : Below w.heap.size w W1 := by rw [← hW1]; exact hb1.alloc hb1.size _
  have hbk : W1.heap[w1.heap.size]? = some (.cells #[.int .i64 now] 89 (0, 0)) := by rw [← hW1]; exact heap_alloc_new w1 _
  have ck : W1.cell? ⟨w1.heap.size, 0, none⟩ = some (.int .i64 now) := by simp [World.cell?, hbk]
  obtain ⟨g0, g1, tall, hD0⟩ := HA.out W1 hB1
  obtain ⟨w2, hw2⟩ : ∃ w2, W1.setCell ⟨b, 0, none⟩ (.int .i64 now) = w2 := ⟨_, rfl⟩
  rw [hw2] at tall hD0
  obtain ⟨q, hq⟩ : ∃ q : Nat → Option Addr, qp N P = q := ⟨_, rfl⟩
  rw [hq] at tall
  have t0 : w2.cell? ⟨b, 2, none⟩ = some (.pointer (q 0)) := tall 0 (by omega)
  have t1 : w2.cell? ⟨b, 3, none⟩ = some (.pointer (q 1)) := tall 1 (by omega)
  have t2 : w2.cell? ⟨b, 4, none⟩ = some (.pointer (q 2)) := tall 2 (by omega)
  have t3 : w2.cell? ⟨b, 5, none⟩ = some (.pointer (q 3)) := tall 3 (by omega)
  have t4 : w2.cell? ⟨b, 6, none⟩ = some (.pointer (q 4)) := tall 4 (by omega)
  have t5 : w2.cell? ⟨b, 7, none⟩ = some (.pointer (q 5)) := tall 5 (by omega)
  have t6 : w2.cell? ⟨b, 8, none⟩ = some (.pointer (q 6)) := tall 6 (by omega)
  have t7 : w2.cell? ⟨b, 9, none⟩ = some (.pointer (q 7)) := tall 7 (by omega)
  have HD0 := hidden hD0
  have HQ := hidden hq
  obtain ⟨cb, hcb⟩ : ∃ cb, w1.heap.size = cb := ⟨_, rfl⟩
  rw [hcb] at ck
  have HW1 := hidden hW1
  have HW2 := hidden hw2
  clear hb1 hW1 hB1 hbk CA HA c0 hw2 tall hD0 hq
  go_upto_region 4 with fail
  first | rw [HW1.out] | skip
  clear hcb
  go_upto_region 5 with fail
  rw [HW2.out]
  clear g0 g1 ck
  go_wp2_with fail
  go_loopg [34] 8 (fun g x wr => ∃ j : Nat, j + g = 8 ∧ x = .int .i64 (j : Int) ∧ Hid (D1 wr j))
  case atStart => exact ⟨0, by omega, rfl, HD0⟩
  case round =>
    obtain ⟨j, hjg, rfl, HD⟩ := hrel
    clear t0 t1 t2 t3 t4 t5 t6 t7
    by_cases hj : j < 8
    · have hjz : (j : Int) < 8 := by omega
      have ia := fun W => arr_any q j hj W
      cases ht : N.tr j with
      | none =>
        have hqj : q j = none := by rw [← HQ.out]; unfold qp; rw [ht]
        rw [hqj] at ia
        have HDn := hidden (HNo.out wr j hj HD.out (.inl ht))
        clear HD ht hqj
        go_wp2_with fail
        go_roundg (8 - (j + 1))
        case measure => omega
        case rel => exact ⟨j + 1, by omega, by go_num, HDn⟩
      | some t =>
        have hqj : q j = some ⟨(P.tp j).p, 0, none⟩ := by rw [← HQ.out]; unfold qp; rw [ht]
        rw [hqj] at ia
        have cp := HPa.out wr j t hj HD.out ht
        by_cases hpa : t.pa = -1
        · rw [hpa] at cp
          have HDn := hidden (HNo.out wr j hj HD.out (.inr ⟨t, ht, hpa⟩))
          obtain ⟨pp, hpp⟩ : ∃ pp, (P.tp j).p = pp := ⟨_, rfl⟩
          rw [hpp] at ia cp
          clear HD ht hqj hpa hpp
          go_wp2_with fail
          go_roundg (8 - (j + 1))
          case measure => omega
          case rel => exact ⟨j + 1, by omega, by go_num, HDn⟩
        · have CK := hidden (HAsk.out wr j t hj HD.out ht hpa)
          obtain ⟨pp, hpp⟩ : ∃ pp, (P.tp j).p = pp := ⟨_, rfl⟩
          obtain ⟨pa, hpa'⟩ : ∃ pa, t.pa = pa := ⟨_, rfl⟩
          rw [hpp] at ia cp CK
          rw [hpa'] at cp hpa
          have e1 : (pa != -1) = true := by simpa using hpa
          clear HD ht hqj hpa hpp hpa'
          go_wp2_with fail
          refine CK.out.mono ?_
          rintro e w3 ⟨rfl, HD3⟩
          go_wp2_with fail
          go_roundg (8 - (j + 1))
          case measure => omega
          case rel => exact ⟨j + 1, by omega, by go_num, HD3⟩
    · obtain rfl : j = 8 := by omega
      have CB := hidden (HSb.out wr HD.out)
      clear HSb HD HPa HAsk HNo
      go_wp2_with fail
      refine CB.out.mono ?_
      rintro e w4 ⟨a4, c4, P2, rfl, HD4⟩
      clear CB
      go_wp2_with fail
      go_loopg [55] nl (fun g x wx => ∃ j : Nat, j + g = nl ∧ x = .int .i64 (j : Int) ∧ Hid (D2 wx P2 a4 j))
      case atStart => exact ⟨0, by omega, rfl, HD4⟩
      case round =>
        obtain ⟨j, hjg, rfl, HD⟩ := hrel
        by_cases hj : j < nl
        · have hjz : (j : Int) < (nl : Int) := by omega
          obtain ⟨rb, rfl, c0⟩ := HRow.out wr P2 j a4 hj HD.out
          have CP := hidden (HPop.out wr P2 j _ hj HD.out)
          obtain ⟨sp, hsp⟩ : ∃ sp, (P2.sp ((ids N2.sb).getD j 0)).s = sp := ⟨_, rfl⟩
          rw [hsp] at c0 CP
          clear hsp HD
          go_wp2_with fail
          refine CP.out.mono ?_
          rintro e w5 ⟨rfl, HD5⟩
          go_wp2_with fail
          go_roundg (nl - (j + 1))
          case measure => omega
          case rel => exact ⟨j + 1, by omega, by go_num, HD5⟩
        · have hjz : ¬ (j : Int) < (nl : Int) := by omega
          obtain rfl : nl = j := by omega
          have HD6 := hidden (HMid.out wr P2 a4 HD.out)
          clear HD HRow HPop HMid
          go_wp2_with fail
          go_loopg [65] nl (fun g x wx => ∃ j : Nat, j + g = nl ∧ x = .int .i64 (j : Int) ∧ Hid (D3 wx P2 a4 j))
          case atStart => exact ⟨0, by omega, rfl, HD6⟩
          case round =>
            obtain ⟨j, hjg2, rfl, HD⟩ := hrel
            by_cases hj3 : j < nl
            · have hjz3 : (j : Int) < (nl : Int) := by omega
              obtain ⟨rb, rfl, c0⟩ := HRow2.out wr P2 j a4 hj3 HD.out
              obtain ⟨lb, cl, v, CW0⟩ := HWn.out wr P2 j _ hj3 HD.out
              have CW := hidden CW0
              obtain ⟨sp, hsp⟩ : ∃ sp, (P2.sp ((ids N3.sb).getD j 0)).s = sp := ⟨_, rfl⟩
              rw [hsp] at c0 cl CW
              clear hsp HD CW0
              go_wp2_with fail
              refine CW.out.mono ?_
              rintro e w5 ⟨rfl, HD5⟩
              cases v with
              | false =>
                have HS := hidden (HD5.out.1 rfl)
                clear HD5 CW
                go_wp2_with fail
                go_roundg (nl - (j + 1))
                case measure => omega
                case rel => exact ⟨j + 1, by omega, by go_num, HS⟩
              | true =>
                have CS := hidden (HD5.out.2 rfl)
                clear HD5 CW
                go_wp2_with fail
                refine CS.out.mono ?_
                rintro e w6 ⟨rfl, HS⟩
                go_wp2_with fail
                go_roundg (nl - (j + 1))
                case measure => omega
                case rel => exact ⟨j + 1, by omega, by go_num, HS⟩
            · have hjz3 : ¬ (j : Int) < (nl : Int) := by omega
              obtain rfl : nl = j := by omega
              have HDn := hidden (HFin.out wr P2 a4 HD.out)
              clear HD HRow2 HWn HFin
              go_wp2_with fail
              go_ret
              exact ⟨rfl, HDn.out⟩
end Go.Proofs.YtpiamlgmadnepaaGreat.ND

