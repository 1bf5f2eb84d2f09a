/-
  What take of package node leaves in memory, whoever subscribes, whatever kids there are. Its condition: the node is such as it may be.
-/
import Derived.Test.YtpiamlgmadnepaaGreatNodeU
import Derived.Test.YtpiamlgmadnepaaGreatSubR
import Derived.Test.YtpiamlgmadnepaaGreatGenC
import Derived.Test.YtpiamlgmadnepaaGreatGenD
namespace Go.Proofs.YtpiamlgmadnepaaGreat.ND
open Go.ChangeShapes Go.WideShapes Go.ChangeAt Go.RowKit Go.Maps Go.Proofs.YtpiamlgmadnepaaGreat.Mem Go.Proofs.YtpiamlgmadnepaaGreat.NO
set_option linter.unusedVariables false

theorem extG {w1 w2 : World} {o0 oj : Nat → Tg} {S : Tg → Prop} (h : Ext w2 o0 oj) (hc : Chg o0 S w1 w2) : Ext w1 o0 oj := fun k hk => h k (by have := hc.size; omega)
/-- f becomes of those who have these numbers -/
def stg (f : Sb → Sb) (Y : List Int) (l : List (Int × Sb)) : List (Int × Sb) := l.map fun x => if x.1 ∈ Y then (x.1, f x.2) else x
theorem stg_nil (f : Sb → Sb) (l : List (Int × Sb)) : stg f [] l = l := by
  unfold stg
  simp
theorem stg_ids (f : Sb → Sb) (Y : List Int) (l : List (Int × Sb)) : ids (stg f Y l) = ids l := by
  unfold ids stg
  rw [List.map_map]
  refine List.map_congr_left fun x _ => ?_
  show (if x.1 ∈ Y then (x.1, f x.2) else x).1 = x.1
  split <;> rfl
theorem stg_split {f : Sb → Sb} {Y : List Int} {l : List (Int × Sb)} (hr : (ids l).Pairwise fun a b => a < b) {x : Int} {s : Sb} (hx : (x, s) ∈ l) (hY : x ∉ Y) : ∃ A B, stg f Y l = A ++ (x, s) :: B ∧ stg f (Y ++ [x]) l = A ++ (x, f s) :: B := by
  obtain ⟨A, B, rfl⟩ := List.append_of_mem hx
  have hr' : (ids A ++ x :: ids B).Pairwise fun a b => a < b := by
    have := hr
    unfold ids at this ⊢
    rwa [List.map_append, List.map_cons] at this
  obtain ⟨_, h2, h3⟩ := List.pairwise_append.1 hr'
  have hA : ∀ y ∈ A, y.1 ≠ x := fun y hy e => by
    have := h3 y.1 (List.mem_map.2 ⟨y, hy, rfl⟩) x (by simp)
    omega
  have hB : ∀ y ∈ B, y.1 ≠ x := fun y hy e => by
    have := (List.pairwise_cons.1 h2).1 y.1 (List.mem_map.2 ⟨y, hy, rfl⟩)
    omega
  have same : ∀ C : List (Int × Sb), (∀ y ∈ C, y.1 ≠ x) → stg f (Y ++ [x]) C = stg f Y C := by
    intro C hC
    refine List.map_congr_left fun y hy => ?_
    have := hC y hy
    simp [this]
  refine ⟨stg f Y A, stg f Y B, ?_, ?_⟩
  · unfold stg
    rw [List.map_append, List.map_cons, if_neg hY]
  · rw [show stg f (Y ++ [x]) (A ++ (x, s) :: B) = stg f (Y ++ [x]) A ++ (if x ∈ Y ++ [x] then (x, f s) else (x, s)) :: stg f (Y ++ [x]) B by unfold stg; rw [List.map_append, List.map_cons], same A hA, same B hB, if_pos (by simp)]
theorem stg_sel {f : Sb → Sb} {tk : Int} {l : List (Int × Sb)} (hr : (ids l).Pairwise fun a b => a < b) : stg f (fil (trackOf l) tk (ids l)) l = selS tk f l := by
  unfold stg selS
  refine List.map_congr_left fun x hx => ?_
  have e := trackOf_is hr x hx
  have hm : x.1 ∈ fil (trackOf l) tk (ids l) ↔ x.2.tk = tk := by
    unfold fil
    rw [List.mem_filter, e]
    simp only [decide_eq_true_eq]
    exact ⟨fun h => h.2, fun h => ⟨List.mem_map.2 ⟨x, hx, rfl⟩, h⟩⟩
  by_cases c : x.2.tk = tk
  · rw [if_pos (hm.2 c), if_pos c]
  · rw [if_neg (fun h => c (hm.1 h)), if_neg c]
theorem stg_all {f : Sb → Sb} {l : List (Int × Sb)} : stg f (ids l) l = l.map fun x => (x.1, f x.2) := by
  unfold stg
  refine List.map_congr_left fun x hx => ?_
  rw [if_pos (show x.1 ∈ ids l from List.mem_map.2 ⟨x, hx, rfl⟩)]
theorem split_atG {X : List Int} {j : Nat} (hj : j < X.length) : X.take (j + 1) = X.take j ++ [X.getD j 0] := by
  have e : X.getD j 0 = X[j] := by rw [List.getD_eq_getElem?_getD, List.getElem?_eq_getElem hj]; rfl
  rw [e, List.take_append_getElem hj]
theorem not_ahead {X : List Int} (hr : X.Pairwise fun a b => a < b) {j : Nat} (hj : j < X.length) : X.getD j 0 ∉ X.take j := by
  intro hm
  have h : (X.take (j + 1)).Pairwise fun a b => a < b := hr.sublist (List.take_sublist _ _)
  rw [split_atG hj] at h
  have := (List.pairwise_append.1 h).2.2 _ hm _ (List.mem_singleton.2 rfl)
  omega
/-- under way: it has become of j of them -/
def SStG (w wx : World) (o : Nat → Tg) (n b : Nat) (P : NP) (N : Nd) (X : List Int) (f : Sb → Sb) (ra : Option Addr) (j : Nat) : Prop := ∃ oj Pj, NAt wx oj n b Pj { N with sb := stg f (X.take j) N.sb } ∧ (∀ x, (Pj.sp x).s = (P.sp x).s) ∧ Ext w o oj ∧ Chg o (mine n) w wx ∧ PArg wx ra (fun x => (P.sp x).s) X ∧ ∀ ad, ra = some ad → (oj ad.block).n = 0
theorem SStG.chg {w wx : World} {o : Nat → Tg} {n b : Nat} {P : NP} {N : Nd} {X : List Int} {f : Sb → Sb} {ra : Option Addr} {j : Nat} (h : SStG w wx o n b P N X f ra j) : Chg o (mine n) w wx := by
  obtain ⟨_, _, _, _, _, h, _⟩ := h
  exact h
theorem SStG.row {w wx : World} {o : Nat → Tg} {n b : Nat} {P : NP} {N : Nd} {X : List Int} {f : Sb → Sb} {ra : Option Addr} {j : Nat} (h : SStG w wx o n b P N X f ra j) (hn : 0 < X.length) : ∃ rb, ra = some ⟨rb, 0, none⟩ ∧ ∀ j, j < X.length → wx.cell? ⟨rb, j, none⟩ = some (.pointer (some ⟨(P.sp (X.getD j 0)).s, 0, none⟩)) := by
  obtain ⟨_, _, _, _, _, _, h, _⟩ := h
  exact h.at hn
theorem SStG.step {w wx : World} {o : Nat → Tg} {n b : Nat} {P : NP} {N : Nd} {X : List Int} {f : Sb → Sb} {ra : Option Addr} {j : Nat} {F : Nat} {mk : Value → Array Value} (h : SStG w wx o n b P N X f ra j) (hn : n ≠ 0) (hris : (ids N.sb).Pairwise fun a b => a < b) (hXs : X.Sublist (ids N.sb)) (hj : j < X.length)
    (hC : ∀ (x : Int) (oj : Nat → Tg) (Q : SP) (s : Sb), (x, s) ∈ N.sb → SbAt wx oj Q s → Own oj ⟨n, 4, x⟩ (sblks Q) → Calls Tryz.prog F (mk (.pointer (some ⟨Q.s, 0, none⟩))) wx fun e w' => e = .returned (.tuple #[]) ∧ SbS wx w' oj n x Q (f s)) :
    Calls Tryz.prog F (mk (.pointer (some ⟨(P.sp (X.getD j 0)).s, 0, none⟩))) wx fun e w' => e = .returned (.tuple #[]) ∧ Hid (SStG w w' o n b P N X f ra (j + 1)) := by
  obtain ⟨oj, Pj, g1, g2, g3, g4, g5, g6⟩ := h
  have e2 := split_atG hj
  have hna := not_ahead (hris.sublist hXs) hj
  have hmX : X.getD j 0 ∈ X := by rw [List.getD_eq_getElem?_getD, List.getElem?_eq_getElem hj]; exact List.getElem_mem hj
  obtain ⟨x, hx⟩ : ∃ x, X.getD j 0 = x := ⟨_, rfl⟩
  rw [hx] at e2 hna hmX
  rw [hx]
  obtain ⟨y, hy, hyx⟩ := List.mem_map.1 (hXs.subset hmX)
  obtain ⟨x', s⟩ := y
  obtain rfl : x' = x := hyx
  obtain ⟨A, B, q1, q2⟩ := stg_split (f := f) hris hy hna
  have hsb : ({ N with sb := stg f (X.take j) N.sb } : Nd).sb = A ++ (x', s) :: B := q1
  obtain ⟨k1, k2⟩ := g1.sbs (x', s) (by rw [hsb]; simp)
  rw [← g2 x']
  refine (hC x' oj (Pj.sp x') s hy k1 k2).mono ?_
  rintro e w' ⟨rfl, o', Q, r1, r2, r3, r4, r5⟩
  refine ⟨rfl, hidden ⟨o', { Pj with sp := updS Pj.sp x' Q }, ?_, ?_, ?_, g4.trans (chg_mine r5) g3, ?_, ?_⟩⟩
  · have := g1.sub hn hsb (by rw [show ({ N with sb := stg f (X.take j) N.sb } : Nd).sb = stg f (X.take j) N.sb from rfl, stg_ids]; exact hris) r5 r4 r2 r1 r3
    rw [e2, q2]
    exact this
  · intro z
    show (updS Pj.sp x' Q z).s = _
    unfold updS
    split
    · rename_i e; rw [e, r2]; exact g2 x'
    · exact g2 z
  · exact g3.trans r4 g4.size
  · obtain ⟨bs, q1, q2, q3⟩ := r5
    exact g5.only q1 (fun ad e hk => by have h1 := g6 ad e; have h2 := q2 _ hk; rw [h2] at h1; exact hn h1)
  · intro ad e
    obtain ⟨rb, e', hc⟩ := g5 0 (by omega)
    rw [r4 _ (by rw [e] at e'; cases e'; exact World.block_lt_of_cell? wx ⟨rb, 0, none⟩ hc)]
    exact g6 ad e
set_option maxHeartbeats 4000000 in
set_option maxRecDepth 100000 in
theorem take_any (n b i : Nat) (o : Nat → Tg) (P : NP) (N : Nd) (tr : Tr) (s t l q og h now : Int) (st : Bool) (a : Option Addr) (m cap : Nat) (L : List Nat) (w : World) (hn : n ≠ 0) (hN : NAt w o n b P N) (hi : i < 8) (ht : N.tr i = some tr) (hG : GM.Inv 3 3 tr.gn tr.gT tr.gM) (hR : RM.Inv 64 tr.rT tr.rM) (hA : Arg w a m L) (hno : a = none → m = 0 ∧ cap = 0) (hf : PM.fault s t l q m = 0) (hF : 0 < m → ∀ ad, a = some ad → (o ad.block).n = 0) (nw : Int) (hsb : ∀ x ∈ N.sb, SbOk nw x.2 ∧ OM.tf x.2.on now = 0) (hls : SInv N.sb N.ls) (hl : N.lt.length + tr.kids.length ≤ 1000000) :
    Calls Tryz.prog 92 #[.pointer (some ⟨b, 0, none⟩), .pointer (some ⟨(P.tp i).p, 0, none⟩), .agg #[.int .i64 s, .int .i64 t, .int .i64 l, .int .i64 q, .bool st, .slice a m cap], .agg #[.int .i64 og, .int .i64 h], .int .i64 now] w fun e w' => e = .returned (.tuple #[]) ∧ Done w w' o n b (N.tookG i tr ⟨s, t, l, q, st, L, .slice a m cap⟩ og h now) := by
  obtain ⟨W0, hW0⟩ : ∃ W0, (w.alloc (.cells #[.int .i64 s, .int .i64 t, .int .i64 l, .int .i64 q, .bool st, .slice a m cap] 38)).alloc (.cells #[.int .i64 og, .int .i64 h] 177) = W0 := ⟨_, rfl⟩
  have hB0 : Below w.heap.size w W0 := by rw [← hW0]; exact below2 w _ _
  have hby : W0.heap[w.heap.size + 1]? = some (.cells #[.int .i64 og, .int .i64 h] 177 (0, 0)) := by
    rw [← hW0]
    have := heap_alloc_new (w.alloc (.cells #[.int .i64 s, .int .i64 t, .int .i64 l, .int .i64 q, .bool st, .slice a m cap] 38)) (.cells #[.int .i64 og, .int .i64 h] 177)
    simpa using this
  have hbx : W0.heap[w.heap.size]? = some (.cells #[.int .i64 s, .int .i64 t, .int .i64 l, .int .i64 q, .bool st, .slice a m cap] 38 (0, 0)) := by
    rw [← hW0]
    exact (Below.heap_alloc _ _ _ (by simp)).trans (heap_alloc_new w _)
  obtain ⟨o0, ho0⟩ : ∃ o0, grow o w nobody = o0 := ⟨_, rfl⟩
  have he0 : Ext w o o0 := by rw [← ho0]; exact grow_ext o w nobody
  have hob : (o0 w.heap.size).n = 0 := by rw [← ho0, grow_new (Nat.le_refl _)]
  have hoy : (o0 (w.heap.size + 1)).n = 0 := by rw [← ho0, grow_new (by omega)]
  have hN0 : NAt W0 o0 n b P N := hN.chg (S := fun _ => False) (Chg.of_below hB0 _ _) (fun g hg => hg.elim) he0
  have hT0 := (hN0.trs i hi tr ht).1
  have hFar : ∀ (S : Tg → Prop), (∀ g, S g → g.n ≠ 0) → Far o0 S a m := by
    intro S hS hm ad e hs
    obtain ⟨b', o1, e', hc⟩ := hA.1.2 0 (by have := hA.2.1; omega)
    have hl' := World.block_lt_of_cell? w ⟨b', o1 + 0, none⟩ hc
    have hz := hF hm ad e
    rw [e] at e'
    cases e'
    rw [he0 _ hl'] at hs
    exact hS _ hs hz
  have hA0 := hA.below hB0
  -- what the boxes read as wherever they are as they were
  have hbox : ∀ W : World, W.heap[w.heap.size]? = W0.heap[w.heap.size]? → W.cell? ⟨w.heap.size, 0, none⟩ = some (.int .i64 s) ∧ W.cell? ⟨w.heap.size, 1, none⟩ = some (.int .i64 t) ∧ W.cell? ⟨w.heap.size, 2, none⟩ = some (.int .i64 l) ∧ W.cell? ⟨w.heap.size, 3, none⟩ = some (.int .i64 q) ∧ W.cell? ⟨w.heap.size, 4, none⟩ = some (.bool st) ∧ W.cell? ⟨w.heap.size, 5, none⟩ = some (.slice a m cap) := by
    intro W e
    have := e.trans hbx
    refine ⟨?_, ?_, ?_, ?_, ?_, ?_⟩ <;> simp [World.cell?, this]
  have hway : ∀ W : World, W.heap[w.heap.size + 1]? = W0.heap[w.heap.size + 1]? → W.cell? ⟨w.heap.size + 1, 0, none⟩ = some (.int .i64 og) ∧ W.cell? ⟨w.heap.size + 1, 1, none⟩ = some (.int .i64 h) := by
    intro W e
    have := e.trans hby
    constructor <;> simp [World.cell?, this]
  have hstay : ∀ W, Chg o0 (mine n) W0 W → W.heap[w.heap.size]? = W0.heap[w.heap.size]? ∧ W.heap[w.heap.size + 1]? = W0.heap[w.heap.size + 1]? ∧ Arg W a m L := by
    intro W hc
    exact ⟨(lets_body hn hc hbx hob).trans hbx.symm, (lets_body hn hc hby hoy).trans hby.symm, hc.arg hA0 (hFar _ (by intro g hg; unfold mine at hg; omega))⟩
  have CN := hidden (numberOf_calls (P.tp i).p (P.tp i).r (P.tp i).rm tr.rT tr.rM s W0 (by simp [World.cell?, hT0.box]) hT0.rng hR (by obtain ⟨_, _, _, _, rfl, _, _, _, h1, _⟩ := PM.fault_zero hf; omega) (by obtain ⟨_, _, _, _, rfl, _, _, _, h1, _⟩ := PM.fault_zero hf; omega))
  obtain ⟨y, hy⟩ : ∃ y, num tr.rT s = y := ⟨_, rfl⟩
  rw [hy] at CN
  have CH := hidden (Gaps.hear_calls (P.tp i).g (P.tp i).gm 3 3 tr.gn tr.gT y now tr.gM (P.tp i).gv tr.gG W0 hT0.gap hG)
  have c4 : W0.cell? ⟨(P.tp i).p, 4, none⟩ = some (.pointer (some ⟨(P.tp i).g, 0, none⟩)) := by simp [World.cell?, hT0.box]
  -- behind Hear
  have HH : Hid (∀ w1, Gaps.GapsAt w1 (P.tp i).g (P.tp i).gm 3 3 (GM.hN tr.gn tr.gT tr.gM y now) (GM.hU tr.gn tr.gT tr.gM y now) (GM.hL tr.gn tr.gT tr.gM y now) (P.tp i).gv tr.gG → Only [(P.tp i).g, (P.tp i).gm] W0 w1 → NAt w1 o0 n b P { N with tr := updR N.tr i (tr.heard y now) } ∧ Chg o0 (mine n) W0 w1) := by
    refine hidden ?_
    intro w1 g1 g2
    have := hN0.trk1 hn hi ht g2 (by intro k hk; simp at hk; rcases hk with rfl | rfl <;> simp [tblks, Gaps.blks]) (nobT hT0) (hT0.heard g1 g2) rfl
    exact ⟨this.1, chg_mine this.2⟩
  obtain ⟨R, hRes⟩ : ∃ R, N.tookG i tr ⟨s, t, l, q, st, L, .slice a m cap⟩ og h now = R := ⟨_, rfl⟩
  rw [hRes]
  unfold Nd.tookG at hRes
  simp only [hy] at hRes
  have HBx := hidden hbox
  have HWy := hidden hway
  have HSt := hidden hstay
  have HW := hidden hW0
  have HB0 := hidden hB0
  have HE0 := hidden he0
  have HRI := hidden hR
  have HFr := hidden hFar
  have HNo := hidden hno
  have HFl := hidden hf
  have HSB := hidden hsb
  have HLS := hidden hls
  have HL := hidden hl
  obtain ⟨pb, hpb⟩ : ∃ pb, w.heap.size = pb := ⟨_, rfl⟩
  rw [hpb] at HBx HWy HSt
  obtain ⟨x0, x1, x2, x3, x4, x5⟩ := HBx.out W0 rfl
  obtain ⟨pp, hpp⟩ : ∃ pp, (P.tp i).p = pp := ⟨_, rfl⟩
  have HPP := hidden hpp
  rw [hpp] at CN c4
  rw [hpp]
  obtain ⟨gb, hgb⟩ : ∃ gb, (P.tp i).g = gb := ⟨_, rfl⟩
  rw [hgb] at CH c4
  have HGB := hidden hgb
  obtain ⟨hb, hhb⟩ : ∃ hb, GM.hB tr.gn tr.gT tr.gM y now = hb := ⟨_, rfl⟩
  obtain ⟨fe, hfe⟩ : ∃ fe, GM.hf tr.gn tr.gT tr.gM y now = fe := ⟨_, rfl⟩
  rw [hhb, hfe] at CH
  rw [hhb] at hRes
  have HFE : Hid (hb = true → fe = 0) := by
    refine hidden ?_
    intro e
    rw [e] at hhb
    unfold GM.hB at hhb
    simp at hhb
    rw [← hfe]
    exact hhb.1
  have HRes := hidden hRes
  have q1 := cmp_ne fe
  have q2 := grd_ne fe
  clear hN hG hR hA hno hf hF hsb hls hl hW0 hB0 hby hbx ho0 he0 hob hoy hN0 hT0 hFar hA0 hbox hway hstay hy hpp hgb hhb hfe hRes ht
  go_enter Tryz.func92, Tryz.ntmps92
  go_upto_region 1 with fail
  rw [HW.out]
  go_wp2_with fail
  refine CN.out.mono ?_
  rintro e w0 ⟨rfl, hw0⟩
  obtain rfl : W0 = w0 := hw0.symm
  go_wp2_with fail
  refine CH.out.mono ?_
  rintro e w1 ⟨rfl, hg1, ho1⟩
  have hN1 := HH.out w1 (by rw [HGB.out]; exact hg1) (by rw [HGB.out]; exact ho1)
  have HN1 := hidden hN1
  rw [show Gaps.errv fe = errv fe from rfl]
  clear hg1 ho1 hN1 HH CH CN
  cases hb with
  | false =>
    have HD : Hid (Done w w1 o n b R) := by
      rw [← HRes.out]
      exact hidden ⟨o0, P, HN1.out.1, HE0.out, (Chg.of_below HB0.out _ _).trans HN1.out.2 HE0.out⟩
    by_cases hp0 : fe = 0
    · have d0 : decide (fe = 0) = true := by simpa using hp0
      clear hp0
      go_wp2_with fail
      (try simp only [Exit.inBlock, Exit.then])
      refine bodyPost_ret (results_none rfl _ _ _) rfl ?_
      exact ⟨rfl, HD.out⟩
    · have d0 : decide (fe = 0) = false := by simpa using hp0
      clear hp0
      go_wp2_with fail
      (try simp only [Exit.inBlock, Exit.then])
      refine bodyPost_ret (results_none rfl _ _ _) rfl ?_
      exact ⟨rfl, HD.out⟩
  | true =>
    have d0 : decide (fe = 0) = true := by simpa using HFE.out rfl
    obtain ⟨hs1, hs2, hA1⟩ := HSt.out w1 HN1.out.2
    obtain ⟨z0, z1, z2, z3, z4, z5⟩ := HBx.out w1 hs1
    obtain ⟨v0, v1⟩ := HWy.out w1 hs2
    have hT1 := (HN1.out.1.trs i hi (tr.heard y now) (updR_at _ _ _)).1
    have hO1 := (HN1.out.1.trs i hi (tr.heard y now) (updR_at _ _ _)).2
    have CKp := hidden (keep_calls (P.tp i) (tr.heard y now) y s t l q st a m cap L og h w1 hT1 HRI.out hA1 HNo.out HFl.out (by
      intro ad e hm hmem
      have hz := HFr.out (fun g => g = ⟨n, 3, i⟩) (by rintro g rfl; exact hn) hm ad e
      exact hz (hO1 ad.block (by simp only [List.mem_cons, List.not_mem_nil, or_false] at hmem; simp only [tblks, List.mem_cons]; rcases hmem with h | h | h <;> simp [h]))))
    have HK : Hid (∀ w2, TrAt w2 (P.tp i) ((tr.heard y now).keep y ⟨s, t, l, q, st, L, .slice a m cap⟩ (og, h)) → Only [(P.tp i).r, (P.tp i).rm, (P.tp i).wm] w1 w2 → NAt w2 o0 n b P { N with tr := updR N.tr i ((tr.heard y now).keep y ⟨s, t, l, q, st, L, .slice a m cap⟩ (og, h)) } ∧ Chg o0 (mine n) W0 w2) := by
      refine hidden ?_
      intro w2 g1 g2
      have := HN1.out.1.trk1 hn hi (updR_at _ _ _) g2 (by intro k hk; simp at hk; rcases hk with rfl | rfl | rfl <;> simp [tblks]) (nobR hT1) g1 (keep_tk _ _ _ _).2.2.2
      rw [show ({ N with tr := updR N.tr i (tr.heard y now) } : Nd).tr = updR N.tr i (tr.heard y now) from rfl, updR_twice] at this
      exact ⟨this.1, HN1.out.2.trans' (chg_mine this.2)⟩
    rw [HPP.out] at CKp
    clear hs1 hs2 hA1 hT1 hO1 x0 x1 x2 x3 x4 x5 c4
    go_wp2_with fail
    refine CKp.out.mono ?_
    rintro e w2 ⟨rfl, hk1, hk2⟩
    have hN2 := HK.out w2 hk1 hk2
    have HN2 := hidden hN2
    obtain ⟨T2, hT2⟩ : ∃ T2, (tr.heard y now).keep y ⟨s, t, l, q, st, L, .slice a m cap⟩ (og, h) = T2 := ⟨_, rfl⟩
    have e2 := keep_tk (tr.heard y now) y ⟨s, t, l, q, st, L, .slice a m cap⟩ (og, h)
    rw [hT2] at e2 HN2
    obtain ⟨e21, e22, e23, e24⟩ := e2
    obtain ⟨N2, hN2e⟩ : ∃ N2 : Nd, { N with tr := updR N.tr i T2 } = N2 := ⟨_, rfl⟩
    rw [hN2e] at HN2
    have ht2 : N2.tr i = some T2 := by rw [← hN2e]; exact updR_at _ _ _
    have hTb := (HN2.out.1.trs i hi T2 ht2).1
    have c3 : w2.cell? ⟨pp, 3, none⟩ = some (.slice (P.tp i).ka T2.kids.length (P.tp i).kc) := by rw [← HPP.out]; simp [World.cell?, hTb.box]
    rw [e24] at c3
    have HE2 := hidden (And.intro e21 (And.intro e22 (And.intro e23 e24)))
    have HT2 := hidden hT2
    have HN2e := hidden hN2e
    have Ht2 := hidden ht2
    obtain ⟨ka, hka⟩ : ∃ ka, (P.tp i).ka = ka := ⟨_, rfl⟩
    obtain ⟨kc, hkc⟩ : ∃ kc, (P.tp i).kc = kc := ⟨_, rfl⟩
    have hkids : (tr.heard y now).kids = tr.kids := rfl
    rw [hkids] at c3
    obtain ⟨K, hKK⟩ : ∃ K, tr.kids = K := ⟨_, rfl⟩
    obtain ⟨kl, hkl⟩ : ∃ kl, K.length = kl := ⟨_, rfl⟩
    rw [hka, hkc, hKK, hkl] at c3
    have HKA := hidden hka
    have HKK := hidden hKK
    have HKL := hidden hkl
    have hklb : kl ≤ 1000000 := by have := HL.out; rw [hKK, hkl] at this; omega
    obtain ⟨f, hff⟩ : ∃ f, FM.ffault tr.tk og tr.ep h (pby s t l q st L) = f := ⟨_, rfl⟩
    obtain ⟨F, hFF⟩ : ∃ F, fby tr.tk og tr.ep h (pby s t l q st L) = F := ⟨_, rfl⟩
    have HFF := hidden (And.intro hff hFF)
    have HK0 : Hid (KSt w2 w2 o0 n b P N2 K f F 0) := by
      refine hidden ⟨o0, P.lv, ?_, Ext.refl _ _, Chg.refl _ _ _⟩
      rw [List.take_zero, downs_nil, List.append_nil]
      exact HN2.out.1
    clear hk1 hk2 hN2 hT2 e21 e22 e23 e24 hN2e ht2 hTb hka hkc hkids hKK hkl hff hFF HK CKp z0 z1 z2 z3 z4 z5 v0 v1
    go_wp2_with fail
    go_loopg [47] kl (fun gh x wr => ∃ j : Nat, j + gh = kl ∧ x = .int .i64 (j : Int) ∧ Hid (KSt w2 wr o0 n b P N2 K f F j))
    case atStart => exact ⟨0, by omega, rfl, HK0⟩
    case round =>
      obtain ⟨j, hjg, rfl, HS⟩ := hrel
      have hcr : Chg o0 (mine n) W0 wr := by
        obtain ⟨oj, lv, h1, h2, h3⟩ := HS.out
        exact HN2.out.2.trans' (lets_mine h3)
      have HCR := hidden hcr
      clear hcr
      by_cases hj : j < kl
      · have hjz : (j : Int) < (kl : Int) := by omega
        obtain ⟨hs1, hs2, hAr⟩ := HSt.out wr HCR.out
        obtain ⟨z0, z1, z2, z3, z4, z5⟩ := HBx.out wr hs1
        obtain ⟨v0, v1⟩ := HWy.out wr hs2
        obtain ⟨oj, lv, h1, h2, h3⟩ := HS.out
        have hTr := (h1.trs i hi T2 Ht2.out).1
        have hkid := hTr.kid
        rw [HE2.out.2.2.2, show (tr.heard y now).kids = tr.kids from rfl, HKK.out, HKL.out] at hkid
        rw [show (({ P with lv := lv } : NP).tp i).ka = (P.tp i).ka from rfl, HKA.out] at hkid
        obtain ⟨ba, oa, rfl, hcs⟩ := hkid.at (by omega)
        have c0 := hcs j hj
        have hjl : j < K.length := by rw [HKL.out]; exact hj
        have CSd := sendDown_calls n b i oj { P with lv := lv } _ T2 (K.getD j 0) s t l q og h st a m cap L wr hn h1 hi Ht2.out hAr HNo.out HFl.out (by
          have g1 := downs_len (K.take j) f F
          have hnl : N2.lt = N.lt := by rw [← HN2e.out]
          show (N2.lt ++ downs (K.take j) f F).length ≤ 1000000
          rw [List.length_append, hnl]
          have g2 : (K.take j).length ≤ K.length := by rw [List.length_take]; omega
          have g3 := HL.out
          rw [HKK.out] at g3
          omega)
        rw [HE2.out.1, HE2.out.2.1, show (tr.heard y now).tk = tr.tk from rfl, show (tr.heard y now).ep = tr.ep from rfl, HFF.out.1, HFF.out.2] at CSd
        have CS : Hid (Calls Tryz.prog 124 #[.pointer (some ⟨b, 0, none⟩), .int .i64 (K.getD j 0), .pointer (some ⟨pp, 0, none⟩), .agg #[.int .i64 s, .int .i64 t, .int .i64 l, .int .i64 q, .bool st, .slice a m cap], .agg #[.int .i64 og, .int .i64 h]] wr fun e w' => e = .returned (.tuple #[]) ∧ Hid (KSt w2 w' o0 n b P N2 K f F (j + 1))) := by
          rw [show (({ P with lv := lv } : NP).tp i).p = (P.tp i).p from rfl, HPP.out] at CSd
          refine hidden (CSd.mono ?_)
          rintro e w' ⟨rfl, hW⟩
          exact ⟨rfl, kst_next hjl h2 h3 hW⟩
        obtain ⟨kx, hkx⟩ : ∃ kx, K.getD j 0 = kx := ⟨_, rfl⟩
        rw [hkx] at CS c0
        clear hs1 hs2 hAr h1 h2 h3 hTr hkid hcs hjl CSd hkx
        go_wp2_with fail
        refine CS.out.mono ?_
        rintro e w3 ⟨rfl, HK3⟩
        go_wp2_with fail
        go_roundg (kl - (j + 1))
        case measure => omega
        case rel => exact ⟨j + 1, by omega, by go_num, HK3⟩
      · have hjz : ¬ (j : Int) < (kl : Int) := by omega
        obtain rfl : kl = j := by omega
        obtain ⟨oj, lv, h1, h2, h3⟩ := HS.out
        have hTr := (h1.trs i hi T2 Ht2.out).1
        have c0 : wr.cell? ⟨pp, 0, none⟩ = some (.int .i64 T2.tk) := by rw [← HPP.out]; simp [World.cell?, show wr.heap[(P.tp i).p]? = _ from hTr.box]
        obtain ⟨N3, hN3⟩ : ∃ N3 : Nd, { N2 with lt := N2.lt ++ downs (K.take kl) f F } = N3 := ⟨_, rfl⟩
        rw [hN3] at h1
        have hsb3 : N3.sb = N.sb := by rw [← hN3, ← HN2e.out]
        have hls3 : SInv N3.sb N3.ls := by rw [hsb3, ← hN3, ← HN2e.out]; exact HLS.out
        have CSu := subsOf_any n b oj { P with lv := lv } N3 (trackOf N3.sb) T2.tk wr h1 hls3 (trackOf_is hls3.ris)
        obtain ⟨X, hX⟩ : ∃ X, fil (trackOf N3.sb) T2.tk (ids N3.sb) = X := ⟨_, rfl⟩
        rw [hX] at CSu
        have hXs : X.Sublist (ids N3.sb) := by rw [← hX]; exact List.filter_sublist
        have hX20 : X.length ≤ 20 := Nat.le_trans hXs.length_le (by rw [ids_len]; exact hls3.len)
        obtain ⟨fS, hfS⟩ : ∃ fS : Sb → Sb, (fun s' : Sb => s'.push y now ⟨s, t, l, q, st, L⟩) = fS := ⟨_, rfl⟩
        have CU : Hid (Calls Tryz.prog 125 #[.pointer (some ⟨b, 0, none⟩), .int .i64 T2.tk] wr fun e w' => ∃ a cap, e = .returned (.slice a X.length cap) ∧ Hid (SStG W0 w' o0 n b P N3 X fS a 0)) := by
          refine hidden (CSu.mono ?_)
          rintro e w' ⟨a', cap', rfl, hPA, hfr, hb⟩
          refine ⟨a', cap', rfl, hidden ⟨grow oj wr nobody, { P with lv := lv }, ?_, fun _ => rfl, ?_, HCR.out.trans' (Chg.of_below hb o0 _), hPA, fun ad e => grow_zero (hfr ad e)⟩⟩
          · have hN4 := h1.chg (S := fun _ => False) (Chg.of_below hb _ _) (fun g hg => hg.elim) (grow_ext oj wr nobody)
            rw [List.take_zero, stg_nil]
            exact hN4
          · exact (extG h2 HN2.out.2).trans (grow_ext _ _ _) HCR.out.size
        have HPush : Hid (∀ wx j (hj : j < X.length) ra, SStG W0 wx o0 n b P N3 X fS ra j → Calls Tryz.prog 126 #[.pointer (some ⟨(P.sp (X.getD j 0)).s, 0, none⟩), .int .i64 y, .agg #[.int .i64 s, .int .i64 t, .int .i64 l, .int .i64 q, .bool st, .slice a m cap], .int .i64 now] wx fun e w' => e = .returned (.tuple #[]) ∧ Hid (SStG W0 w' o0 n b P N3 X fS ra (j + 1))) := by
          refine hidden ?_
          intro wx j hj ra hS
          have hAx := (HSt.out wx hS.chg).2.2
          refine hS.step (F := 126) (mk := fun p => #[p, .int .i64 y, .agg #[.int .i64 s, .int .i64 t, .int .i64 l, .int .i64 q, .bool st, .slice a m cap], .int .i64 now]) hn hls3.ris hXs hj ?_
          intro x oj' Q s' hm hat hown
          obtain ⟨k1, k2⟩ := HSB.out (x, s') (by rw [← hsb3]; exact hm)
          obtain ⟨m1, m2⟩ := k1.pushed (y := y) (p := ⟨s, t, l, q, st, L⟩) k2
          obtain ⟨p1, p2, _⟩ := m1.pop m2
          rw [← hfS]
          exact spush_calls n x oj' Q s' y now s t l q st a m cap L _ wx hn hat hown k1.sbi hAx HNo.out k2 (popK_many m1.oi m2) p1 p2
        have HFin : Hid (∀ wx ra, SStG W0 wx o0 n b P N3 X fS ra X.length → Done w wx o n b R) := by
          refine hidden ?_
          rintro wx ra ⟨oj', Pj, g1, g2, g3, g4, g5, g6⟩
          refine ⟨oj', Pj, ?_, fun k hk => by rw [g3 k (by have := HB0.out.size; omega)]; exact HE0.out k hk, (Chg.of_below HB0.out _ _).trans g4 HE0.out⟩
          rw [List.take_length, ← hX, stg_sel hls3.ris] at g1
          have hR := HRes.out
          rw [if_pos trivial, HT2.out] at hR
          rw [← hR]
          have ek : K.take kl = K := List.take_of_length_le (by rw [HKL.out]; exact Nat.le_refl _)
          have eN : ({ N3 with sb := selS T2.tk fS N3.sb } : Nd) = { N with tr := updR N.tr i T2, lt := N.lt ++ downs tr.kids (FM.ffault tr.tk og tr.ep h (pby s t l q st L)) (fby tr.tk og tr.ep h (pby s t l q st L)), sb := selS tr.tk (fun s' => s'.push y now (ppk ⟨s, t, l, q, st, L, .slice a m cap⟩)) N.sb } := by
            rw [hsb3, HE2.out.1, ← hfS, ← hN3, ← HN2e.out, HFF.out.1, HFF.out.2, HKK.out, ek]
            rfl
          rw [← eN]
          exact g1
        have HB3 : Hid (∀ wx ra j, SStG W0 wx o0 n b P N3 X fS ra j → (wx.cell? ⟨pb, 0, none⟩ = some (.int .i64 s) ∧ wx.cell? ⟨pb, 1, none⟩ = some (.int .i64 t) ∧ wx.cell? ⟨pb, 2, none⟩ = some (.int .i64 l) ∧ wx.cell? ⟨pb, 3, none⟩ = some (.int .i64 q) ∧ wx.cell? ⟨pb, 4, none⟩ = some (.bool st) ∧ wx.cell? ⟨pb, 5, none⟩ = some (.slice a m cap))) := by
          refine hidden ?_
          intro wx ra j hS
          exact HBx.out wx (HSt.out wx hS.chg).1
        obtain ⟨tk2, htk2⟩ : ∃ tk2, T2.tk = tk2 := ⟨_, rfl⟩
        rw [htk2] at CU c0
        obtain ⟨XL, hXL⟩ : ∃ XL, X.length = XL := ⟨_, rfl⟩
        rw [hXL] at CU HPush HFin hX20
        have HXL := hidden hXL
        clear h1 h2 h3 hTr hsb3 hls3 CSu htk2 hX hXs hN3 hfS hXL
        go_wp2_with fail
        refine CU.out.mono ?_
        rintro e w3 ⟨sa, sc, rfl, HD⟩
        clear CU c0
        go_wp2_with fail
        go_loopg [65] XL (fun gh z wx => ∃ j : Nat, j + gh = XL ∧ z = .int .i64 (j : Int) ∧ Hid (SStG W0 wx o0 n b P N3 X fS sa j))
        case atStart => exact ⟨0, by omega, rfl, HD⟩
        case round =>
          obtain ⟨j, hjg, rfl, HS⟩ := hrel
          by_cases hj : j < XL
          · have hjz : (j : Int) < (XL : Int) := by omega
            obtain ⟨z0, z1, z2, z3, z4, z5⟩ := HB3.out wr sa j HS.out
            obtain ⟨rb, rfl, hcs⟩ := HS.out.row (by rw [HXL.out]; omega)
            have c0 := hcs j (by rw [HXL.out]; exact hj)
            have CPu := hidden (HPush.out wr j hj _ HS.out)
            obtain ⟨sp, hsp⟩ : ∃ sp, (P.sp (X.getD j 0)).s = sp := ⟨_, rfl⟩
            rw [hsp] at CPu c0
            clear hcs hsp HS
            go_wp2_with fail
            refine CPu.out.mono ?_
            rintro e w4 ⟨rfl, HS4⟩
            go_wp2_with fail
            go_roundg (XL - (j + 1))
            case measure => omega
            case rel => exact ⟨j + 1, by omega, by go_num, HS4⟩
          · have hjz : ¬ (j : Int) < (XL : Int) := by omega
            obtain rfl : j = XL := by omega
            have HDn := hidden (HFin.out wr sa HS.out)
            clear HS HFin HPush HB3
            go_wp2_with fail
            go_end0
            exact ⟨rfl, HDn.out⟩
end Go.Proofs.YtpiamlgmadnepaaGreat.ND

