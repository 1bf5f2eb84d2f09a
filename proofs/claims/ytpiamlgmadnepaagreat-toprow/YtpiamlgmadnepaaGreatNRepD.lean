/-
  What askForLost of package node leaves in memory, where nothing is given up. Its condition: the node is such as it may be.
-/
import Derived.Test.YtpiamlgmadnepaaGreatNRepC
namespace Go.Proofs.YtpiamlgmadnepaaGreat.ND
open Go.ChangeShapes Go.WideShapes Go.ChangeAt Go.RowKit Go.Maps Go.Lib Go.Proofs.YtpiamlgmadnepaaGreat.Mem Go.Proofs.YtpiamlgmadnepaaGreat.NO
set_option linter.unusedVariables false

theorem nobG {w : World} {P : TP} {t : Tr} (h : TrAt w P t) : Nob w (Gaps.blks P.g P.gm P.gv) := by
  obtain ⟨D, h1, _, _⟩ := h.gap.map
  intro k hk
  simp only [Gaps.blks, List.mem_cons, Option.mem_toList] at hk
  rcases hk with rfl | rfl | hk
  · exact nobAt_cells h.gap.box (by decide)
  · exact nobAt_map (RM.map_block h1)
  · obtain ⟨cs, hc⟩ := Gaps.own_block h.gap.row hk
    exact nobAt_cells hc (by decide)
/-- Gaps has changed, and nothing else of the track -/
theorem TrAt.gaps {w w' : World} {P : TP} {t : Tr} {nn uu : Int} {ll : GM.Its} {gv2 : Value} {G2 : List Int} (h : TrAt w P t) (hG : Gaps.GapsAt w' P.g P.gm 3 3 nn uu ll gv2 G2) (ho : Only (Gaps.blks P.g P.gm P.gv) w w') (hfr : ∀ j, gv2.ownBlock = some j → P.gv.ownBlock = some j ∨ w.heap.size ≤ j) : TrAt w' { P with gv := gv2 } { t with gn := nn, gT := uu, gM := ll, gG := G2 } := by
  have m := h.sepG
  obtain ⟨D, h1, h2, h3⟩ := h.way
  refine ⟨(ho.2.2.2.2 _ (lt_of_block h.box) (m _ (by simp))).trans h.box, iarg_only h.kid ho (fun k hk => m k (by simp [hk])), h.kno, hG, h.rng.only ho (m _ (by simp)) (m _ (by simp)) (nobG h), ⟨D, map_only h1 ho (m _ (by simp)), h2, h3⟩, h.ap, ?_⟩
  intro k hk
  obtain ⟨k1, k2, k3, k4, k5⟩ := h.kap k hk
  refine ⟨k1, k2, k3, k4, ?_⟩
  intro hm
  simp only [Gaps.blks, List.mem_cons, Option.mem_toList] at hm k5
  rcases hm with e | e | e
  · exact k5 (.inl e)
  · exact k5 (.inr (.inl e))
  · rcases hfr k e with e | e
    · exact k5 (.inr (.inr e))
    · have := iarg_lt h.kid k hk
      omega
/-- a track's Gaps changes -/
theorem NAt.gaps {w w' : World} {o : Nat → Tg} {n b : Nat} {P : NP} {N : Nd} (h : NAt w o n b P N) (hn : n ≠ 0) {i : Nat} (hi : i < 8) {t : Tr} (ht : N.tr i = some t) {nn uu : Int} {ll : GM.Its} {gv2 : Value} {G2 : List Int} (hG : Gaps.GapsAt w' (P.tp i).g (P.tp i).gm 3 3 nn uu ll gv2 G2) (ho : Only (Gaps.blks (P.tp i).g (P.tp i).gm (P.tp i).gv) w w') (hfr : ∀ j, gv2.ownBlock = some j → (P.tp i).gv.ownBlock = some j ∨ w.heap.size ≤ j) :
    NAt w' (grow o w ⟨n, 3, i⟩) n b { P with tp := updT P.tp i { P.tp i with gv := gv2 } } { N with tr := updR N.tr i { t with gn := nn, gT := uu, gM := ll, gG := G2 } } ∧ Chg o (mine n) w w' := by
  obtain ⟨k1, k2⟩ := h.trs i hi t ht
  have hc : Chg o (fun g => g = ⟨n, 3, i⟩) w w' := Chg.of_only ho (fun k hk => k2 k (by simp only [tblks, List.mem_cons, List.mem_append]; simp [hk])) (nobG k1)
  refine ⟨h.trk hn hi hc (grow_ext o w _) ht rfl (k1.gaps hG ho hfr) ?_, chg_mine hc⟩
  intro k hk
  have hold : ∀ k, k ∈ tblks (P.tp i) t → grow o w ⟨n, 3, i⟩ k = ⟨n, 3, i⟩ := fun k hk => (grow_ext o w _ k (k1.lt k hk)).trans (k2 k hk)
  simp only [tblks, Gaps.blks, List.mem_cons, List.mem_append, Option.mem_toList] at hk
  have hin : ∀ k, (k = (P.tp i).p ∨ k = (P.tp i).wm ∨ k = (P.tp i).r ∨ k = (P.tp i).rm ∨ (k = (P.tp i).g ∨ k = (P.tp i).gm ∨ (P.tp i).gv.ownBlock = some k) ∨ k ∈ kblk (P.tp i).ka t.kids) → k ∈ tblks (P.tp i) t := by
    intro k hk
    simp only [tblks, Gaps.blks, List.mem_cons, List.mem_append, Option.mem_toList]
    exact hk
  rcases hk with e | e | e | e | (e | e | e) | e
  · exact hold k (hin k (.inl e))
  · exact hold k (hin k (.inr (.inl e)))
  · exact hold k (hin k (.inr (.inr (.inl e))))
  · exact hold k (hin k (.inr (.inr (.inr (.inl e)))))
  · exact hold k (hin k (.inr (.inr (.inr (.inr (.inl (.inl e)))))))
  · exact hold k (hin k (.inr (.inr (.inr (.inr (.inl (.inr (.inl e))))))))
  · rcases hfr k e with e | e
    · exact hold k (hin k (.inr (.inr (.inr (.inr (.inl (.inr (.inr e))))))))
    · exact grow_new e
  · exact hold k (hin k (.inr (.inr (.inr (.inr (.inr e))))))
/-- under way in askForLost: the track's Gaps is asked, what is due is said -/
def Mid (w w' : World) (o : Nat → Tg) (n b i pp : Nat) (N : Nd) : Prop := ∃ o' P', NAt w' o' n b P' N ∧ (P'.tp i).p = pp ∧ Ext w o o' ∧ Chg o (mine n) w w'
/-- behind askForLost -/
def Nd.asked (N : Nd) (i : Nat) (t : Tr) (now : Int) : Nd :=
  { N with tr := updR N.tr i { t with gn := now, gM := GM.dM 3 3 now t.gM, gG := [] }, lt := N.lt ++ (if GM.dueL 3 3 now t.gM = [] then [] else [(t.pa, Back.ebytes 1 t.tk (BM.norm (sq (GM.dueL 3 3 now t.gM))) 0)]) }
set_option maxHeartbeats 2000000 in
set_option maxRecDepth 100000 in
theorem ask_calls (n b i : Nat) (o : Nat → Tg) (P : NP) (N : Nd) (tr : Tr) (now : Int) (w : World) (hn : n ≠ 0) (hN : NAt w o n b P N) (hi : i < 8) (ht : N.tr i = some tr) (hG : GM.Inv 3 3 tr.gn tr.gT tr.gM) (htf : GM.tf tr.gn now = 0) (hpa : tr.pa ≠ -1) (hgG : tr.gG = []) (hgv : GM.gaveL 3 3 now tr.gM = []) (hef : GM.dueL 3 3 now tr.gM ≠ [] → Back.efault 1 tr.tk (BM.norm (sq (GM.dueL 3 3 now tr.gM))) 0 = 0 ∧ (Back.ebytes 1 tr.tk (BM.norm (sq (GM.dueL 3 3 now tr.gM))) 0).length ≤ 2000) (hl : N.lt.length ≤ 1000000) :
    Calls Tryz.prog 118 #[.pointer (some ⟨b, 0, none⟩), .pointer (some ⟨(P.tp i).p, 0, none⟩), .int .i64 now] w fun e w' => e = .returned (.tuple #[]) ∧ Done w w' o n b (N.asked i tr now) := by
  have hT := (hN.trs i hi tr ht).1
  have hgap := hT.gap
  rw [hgG] at hgap
  have hlen := hG.len
  have CD := Gaps.due_ok (P.tp i).g (P.tp i).gm 3 3 tr.gn tr.gT now tr.gM (P.tp i).gv [] w hgap hG htf (by simp; omega)
  rw [hgv, List.append_nil] at CD
  have hdn := GM.due_len 3 3 now tr.gM
  have hdm : ∀ y ∈ GM.dueL 3 3 now tr.gM, 0 ≤ y ∧ y ≤ 1099511627776 := by
    intro y hy
    obtain ⟨x, hx, rfl⟩ := List.mem_map.1 hy
    have := hG.mem x (List.mem_filter.1 hx).1
    have := hG.t2
    omega
  have c4 : w.cell? ⟨(P.tp i).p, 4, none⟩ = some (.pointer (some ⟨(P.tp i).g, 0, none⟩)) := by simp [World.cell?, hT.box]
  obtain ⟨D, hD⟩ : ∃ D, GM.dueL 3 3 now tr.gM = D := ⟨_, rfl⟩
  obtain ⟨R, hRes⟩ : ∃ R, N.asked i tr now = R := ⟨_, rfl⟩
  rw [hRes]
  unfold Nd.asked at hRes
  rw [hD] at CD hdn hdm hef hRes
  -- the track behind Due
  obtain ⟨T2, hT2⟩ : ∃ T2 : Tr, { tr with gn := now, gM := GM.dM 3 3 now tr.gM, gG := [] } = T2 := ⟨_, rfl⟩
  rw [hT2] at hRes
  have e2 : T2.tk = tr.tk ∧ T2.pa = tr.pa ∧ T2.gT = tr.gT := by rw [← hT2]; exact ⟨rfl, rfl, rfl⟩
  have g2 : T2.gn = now ∧ T2.gM = GM.dM 3 3 now tr.gM ∧ T2.gG = [] := by rw [← hT2]; exact ⟨rfl, rfl, rfl⟩
  -- behind Due
  have HDue : Hid (Calls Tryz.prog 29 #[.pointer (some ⟨(P.tp i).g, 0, none⟩), .int .i64 now] w fun e w1 => ∃ a c, e = .returned (.tuple #[.slice a D.length c, .nilIface]) ∧ Back.IArg w1 a D.length D ∧ Hid (Mid w w1 o n b i (P.tp i).p { N with tr := updR N.tr i T2 })) := by
    refine hidden (CD.mono ?_)
    rintro e w1 ⟨dv, rfl, gv2, q1, q2, q3, q4⟩
    obtain ⟨a, c, rfl, hA, _⟩ := Gaps.own_ints q2 (by omega)
    obtain ⟨hg1, hg2⟩ := hN.gaps hn hi ht q1 q4 (fun j hj => (q3 j hj).1)
    rw [show ({ tr with gn := now, gT := tr.gT, gM := GM.dM 3 3 now tr.gM, gG := [] } : Tr) = T2 from hT2] at hg1
    exact ⟨a, c, rfl, hA, hidden ⟨_, _, hg1, by simp [updT], grow_ext o w _, hg2⟩⟩
  -- seqsOf and sayUp
  have HSq : Hid (∀ W a c, Back.IArg W a D.length D → Mid w W o n b i (P.tp i).p { N with tr := updR N.tr i T2 } → D ≠ [] → Calls Tryz.prog 153 #[.slice a D.length c] W fun e w2 => ∃ a' m' c', e = .returned (.slice a' m' c') ∧ w2.cell? ⟨(P.tp i).p, 0, none⟩ = some (.int .i64 tr.tk) ∧ Hid (Back.IArg w2 a' m' (BM.norm (sq D)) ∧ (a' = none → m' = 0 ∧ c' = 0) ∧ Mid w w2 o n b i (P.tp i).p { N with tr := updR N.tr i T2 })) := by
    refine hidden ?_
    intro W a c hA hM hne
    refine (seqs_calls a D.length c D W hA hdm (by omega)).mono ?_
    rintro e w2 ⟨v', rfl, hv, hb⟩
    obtain ⟨a', c', rfl, hA', hno', _⟩ := Back.own_ints hv (by
      have := BM.norm_len (sq D)
      have e : (sq D).length = D.length := by simp [sq]
      omega)
    obtain ⟨o', P', m1, m2, m3, m4⟩ := hM
    have m1' := m1.below hb
    have hb2 := (m1'.trs i hi T2 (updR_at _ _ _)).1.box
    rw [m2] at hb2
    exact ⟨a', _, c', rfl, by rw [← e2.1]; simp [World.cell?, hb2], hidden ⟨hA', hno', o', P', m1', m2, m3, m4.trans' (Chg.of_below hb _ _)⟩⟩
  have HSay : Hid (∀ W a' m' c', Hid (Back.IArg W a' m' (BM.norm (sq D)) ∧ (a' = none → m' = 0 ∧ c' = 0) ∧ Mid w W o n b i (P.tp i).p { N with tr := updR N.tr i T2 }) → D ≠ [] → Calls Tryz.prog 152 #[.pointer (some ⟨b, 0, none⟩), .pointer (some ⟨(P.tp i).p, 0, none⟩), .agg #[.int .i64 1, .int .i64 tr.tk, .slice a' m' c', .int .i64 0]] W fun e w3 => e = .returned (.tuple #[]) ∧ w3.cell? ⟨(P.tp i).p, 0, none⟩ = some (.int .i64 tr.tk) ∧ Hid (Mid w w3 o n b i (P.tp i).p R)) := by
    refine hidden ?_
    intro W a' m' c' hS hne
    obtain ⟨hA', hno', o', P', m1, m2, m3, m4⟩ := hS.out
    obtain ⟨f1, f2⟩ := hef hne
    have C := sayUp_calls n b i o' P' { N with tr := updR N.tr i T2 } T2 1 tr.tk 0 a' m' c' _ W hn m1 hi (updR_at _ _ _) (by rw [e2.2.1]; exact hpa) hA' hno' f1 f2 hl
    rw [m2] at C
    refine C.mono ?_
    rintro e w3 ⟨rfl, o3, lv, q1, q2, q3⟩
    have hR : ({ ({ N with tr := updR N.tr i T2 } : Nd) with lt := N.lt ++ [(T2.pa, Back.ebytes 1 tr.tk (BM.norm (sq D)) 0)] } : Nd) = R := by
      rw [← hRes, if_neg hne, e2.2.1]
    have q1' : NAt w3 o3 n b { P' with lv := lv } R := by rw [← hR]; exact q1
    have hb3 := (q1'.trs i hi T2 (by rw [← hRes]; exact updR_at _ _ _)).1.box
    have m2' : (({ P' with lv := lv } : NP).tp i).p = (P.tp i).p := m2
    rw [m2'] at hb3
    exact ⟨rfl, by rw [← e2.1]; simp [World.cell?, hb3], hidden ⟨o3, _, q1', m2, m3.trans q2 m4.size, m4.trans (lets_mine q3) m3⟩⟩
  -- GaveUp
  have HGv : Hid (∀ W, Mid w W o n b i (P.tp i).p R → ∃ g, W.cell? ⟨(P.tp i).p, 4, none⟩ = some (.pointer (some ⟨g, 0, none⟩)) ∧ Calls Tryz.prog 30 #[.pointer (some ⟨g, 0, none⟩)] W fun e w4 => ∃ a c, e = .returned (.slice a 0 c) ∧ Hid (Done w w4 o n b R)) := by
    refine hidden ?_
    rintro W ⟨o', P', m1, m2, m3, m4⟩
    have hti : R.tr i = some T2 := by rw [← hRes]; exact updR_at _ _ _
    have hTW := (m1.trs i hi T2 hti).1
    have hb2 := hTW.box
    rw [m2] at hb2
    have hgap2 := hTW.gap
    rw [g2.2.2] at hgap2
    refine ⟨(P'.tp i).g, by simp [World.cell?, hb2], ?_⟩
    refine (Gaps.gaveUp_calls (P'.tp i).g (P'.tp i).gm 3 3 _ _ _ (P'.tp i).gv [] W hgap2 (by simp)).mono ?_
    rintro e w4 ⟨rfl, q1, q2, q3⟩
    obtain ⟨a, c, hv, _⟩ := Gaps.own_ints (L := []) (by simpa using q2) (by simp)
    obtain ⟨hg1, hg2⟩ := m1.gaps hn hi hti q1 q3 (fun j hj => by simp [Value.ownBlock] at hj)
    have e : ({ R with tr := updR R.tr i { T2 with gn := T2.gn, gT := T2.gT, gM := T2.gM, gG := [] } } : Nd) = R := by
      have e1 : ({ T2 with gn := T2.gn, gT := T2.gT, gM := T2.gM, gG := [] } : Tr) = T2 := by
        have := g2.2.2
        cases T2
        simp only at this
        rw [this]
      rw [e1]
      have e3 : updR R.tr i T2 = R.tr := by
        funext k
        unfold updR
        split
        · rename_i h; rw [h, hti]
        · rfl
      rw [e3]
    rw [e] at hg1
    exact ⟨a, c, by rw [hv], hidden ⟨_, _, hg1, m3.trans (grow_ext o' W _) m4.size, m4.trans hg2 m3⟩⟩
  have HEq : Hid (D = [] → ({ N with tr := updR N.tr i T2 } : Nd) = R) := by
    refine hidden ?_
    intro h0
    rw [← hRes, if_pos h0, List.append_nil]
  have HTk : Hid (∀ W, Mid w W o n b i (P.tp i).p { N with tr := updR N.tr i T2 } → W.cell? ⟨(P.tp i).p, 0, none⟩ = some (.int .i64 tr.tk)) := by
    refine hidden ?_
    rintro W ⟨o', P', m1, m2, m3, m4⟩
    have hb2 := (m1.trs i hi T2 (updR_at _ _ _)).1.box
    rw [m2] at hb2
    rw [← e2.1]
    simp [World.cell?, hb2]
  obtain ⟨N1, hN1⟩ : ∃ N1 : Nd, { N with tr := updR N.tr i T2 } = N1 := ⟨_, rfl⟩
  rw [hN1] at HDue HSq HSay HEq HTk
  obtain ⟨pp, hpp⟩ : ∃ pp, (P.tp i).p = pp := ⟨_, rfl⟩
  obtain ⟨gb, hgb⟩ : ∃ gb, (P.tp i).g = gb := ⟨_, rfl⟩
  rw [hpp] at HDue HSq HSay HGv HTk c4
  rw [hgb] at HDue c4
  rw [hpp]
  obtain ⟨tk, htk⟩ : ∃ tk, tr.tk = tk := ⟨_, rfl⟩
  rw [htk] at HSq HSay HTk
  obtain ⟨dl, hdl⟩ : ∃ dl, D.length = dl := ⟨_, rfl⟩
  have HDL := hidden hdl
  rw [hdl] at HDue HSq hdn
  clear hN ht hG htf hpa hgG hgv hef hl hT hgap hlen CD hdm hD hRes hT2 e2 g2 hN1 hpp hgb htk hdl
  go_enter Tryz.func118, Tryz.ntmps118
  go_wp2_with fail
  refine HDue.out.mono ?_
  rintro e w1 ⟨a, c, rfl, hA1, HM1⟩
  by_cases h0 : dl = 0
  · have hD0 : D = [] := List.eq_nil_of_length_eq_zero (by rw [HDL.out]; exact h0)
    have HMR : Hid (Mid w w1 o n b i pp R) := by
      have := HM1.out
      rw [HEq.out hD0] at this
      exact hidden this
    subst h0
    obtain ⟨g, c4', CG⟩ := HGv.out w1 HMR.out
    have HCG := hidden CG
    clear hA1 HM1 hD0 HSq HSay HTk HDue c4 CG
    go_wp2_with fail
    refine HCG.out.mono ?_
    rintro e w4 ⟨a4, c5, rfl, HD4⟩
    go_wp2_with fail
    go_loopg [42] 0 (fun g x wr => x = .int .i64 0 ∧ w4 = wr)
    case atStart => exact ⟨rfl, rfl⟩
    case round =>
      obtain ⟨rfl, rfl⟩ := hrel
      go_wp2_with fail
      go_end0
      exact ⟨rfl, HD4.out⟩
  · have hne : D ≠ [] := by
      intro e
      have := HDL.out
      rw [e] at this
      simp at this
      omega
    have hpos : (0 : Int) < (dl : Int) := by omega
    have hd1 : decide ((0 : Int) < (dl : Int)) = true := by simpa using hpos
    have HS1 := HSq.out w1.drew a c (hA1.below ((Below.refl _ _).drew)) (by
      obtain ⟨o', P', m1, m2, m3, m4⟩ := HM1.out
      exact ⟨o', P', m1.below ((Below.refl _ _).drew), m2, m3, m4.trans' (Chg.of_below ((Below.refl _ _).drew) _ _)⟩) hne
    have HC1 := hidden HS1
    have hS0 : w1.drew.cell? ⟨pp, 0, none⟩ = some (.int .i64 tk) := HTk.out w1 HM1.out
    have HC2 := hidden (fun W a' m' c' h => HSay.out W a' m' c' h hne)
    clear hA1 HM1 HS1 HSq HSay HTk HDue c4 hne h0
    go_upto_region 3 with fail
    go_region_held3 (fun w' => w'.cell? ⟨pp, 0, none⟩ = some (.int .i64 tk)) (with_reducible assumption) (first | (go_at_call 153; refine HC1.out.mono ?_; rintro e w2 ⟨a2, m2, c2, rfl, hS2, HX2⟩) | (go_at_call 152; refine (HC2.out _ _ _ _ (by with_reducible assumption)).mono ?_; rintro e w3 ⟨rfl, hS3, HM3⟩))
    obtain ⟨g, c4', CG⟩ := HGv.out w3 HM3.out
    have HCG := hidden CG
    clear HM3 CG
    go_wp2_with fail
    refine HCG.out.mono ?_
    rintro e w4 ⟨a4, c5, rfl, HD4⟩
    go_wp2_with fail
    go_loopg [42] 0 (fun g x wr => x = .int .i64 0 ∧ w4 = wr)
    case atStart => exact ⟨rfl, rfl⟩
    case round =>
      obtain ⟨rfl, rfl⟩ := hrel
      go_wp2_with fail
      go_end0
      exact ⟨rfl, HD4.out⟩
end Go.Proofs.YtpiamlgmadnepaaGreat.ND

