/-
  What askForLost of package node leaves in memory, where nothing is given up; and where the tracks lie then. Its condition: the node is such as it may be.
-/
import Derived.Test.YtpiamlgmadnepaaGreatGenJ
import Derived.Test.YtpiamlgmadnepaaGreatNRepD
namespace Go.Proofs.YtpiamlgmadnepaaGreat.ND
open Go.ChangeShapes Go.WideShapes Go.ChangeAt Go.RowKit Go.Maps Go.Lib Go.Proofs.YtpiamlgmadnepaaGreat.Mem Go.Proofs.YtpiamlgmadnepaaGreat.NO
set_option linter.unusedVariables false

def MidP (w w' : World) (o : Nat → Tg) (n b i pp : Nat) (P : NP) (N : Nd) : Prop := ∃ o' P', NAt w' o' n b P' N ∧ (P'.tp i).p = pp ∧ Ext w o o' ∧ Chg o (mine n) w w' ∧ (∀ j, (P'.tp j).p = (P.tp j).p) ∧ ∀ x, (P'.sp x).s = (P.sp x).s
theorem updT_p (f : Nat → TP) (i : Nat) (g : Value) : ∀ j, (updT f i { f i with gv := g } j).p = (f j).p := by
  intro j
  unfold updT
  split
  · rename_i e; rw [e]
  · rfl
set_option maxHeartbeats 2000000 in
set_option maxRecDepth 100000 in
theorem askG_calls (n b i : Nat) (o : Nat → Tg) (P : NP) (N : Nd) (tr : Tr) (now : Int) (w : World) (hn : n ≠ 0) (hN : NAt w o n b P N) (hi : i < 8) (ht : N.tr i = some tr) (hG : GM.Inv 3 3 tr.gn tr.gT tr.gM) (htf : GM.tf tr.gn now = 0) (hpa : tr.pa ≠ -1) (hgG : tr.gG = []) (hgv : GM.gaveL 3 3 now tr.gM = []) (hef : GM.dueL 3 3 now tr.gM ≠ [] → Back.efault 1 tr.tk (BM.norm (sq (GM.dueL 3 3 now tr.gM))) 0 = 0 ∧ (Back.ebytes 1 tr.tk (BM.norm (sq (GM.dueL 3 3 now tr.gM))) 0).length ≤ 2000) (hl : N.lt.length ≤ 1000000) :
    Calls Tryz.prog 118 #[.pointer (some ⟨b, 0, none⟩), .pointer (some ⟨(P.tp i).p, 0, none⟩), .int .i64 now] w fun e w' => e = .returned (.tuple #[]) ∧ DoneP w w' o n b P (N.asked i tr now) := by
  have hT := (hN.trs i hi tr ht).1
  have hgap := hT.gap
  rw [hgG] at hgap
  have hlen := hG.len
  have CD := Gaps.due_ok (P.tp i).g (P.tp i).gm 3 3 tr.gn tr.gT now tr.gM (P.tp i).gv [] w hgap hG htf (by simp; omega)
  rw [hgv, List.append_nil] at CD
  have hdn := GM.due_len 3 3 now tr.gM
  have hdm : ∀ y ∈ GM.dueL 3 3 now tr.gM, 0 ≤ y ∧ y ≤ 1099511627776 := by
    intro y hy
    obtain ⟨x, hx, rfl⟩ := List.mem_map.1 hy
    have := hG.mem x (List.mem_filter.1 hx).1
    have := hG.t2
    omega
  have c4 : w.cell? ⟨(P.tp i).p, 4, none⟩ = some (.pointer (some ⟨(P.tp i).g, 0, none⟩)) := by simp [World.cell?, hT.box]
  obtain ⟨D, hD⟩ : ∃ D, GM.dueL 3 3 now tr.gM = D := ⟨_, rfl⟩
  obtain ⟨R, hRes⟩ : ∃ R, N.asked i tr now = R := ⟨_, rfl⟩
  rw [hRes]
  unfold Nd.asked at hRes
  rw [hD] at CD hdn hdm hef hRes
  -- the track behind Due
  obtain ⟨T2, hT2⟩ : ∃ T2 : Tr, { tr with gn := now, gM := GM.dM 3 3 now tr.gM, gG := [] } = T2 := ⟨_, rfl⟩
  rw [hT2] at hRes
  have e2 : T2.tk = tr.tk ∧ T2.pa = tr.pa ∧ T2.gT = tr.gT := by rw [← hT2]; exact ⟨rfl, rfl, rfl⟩
  have g2 : T2.gn = now ∧ T2.gM = GM.dM 3 3 now tr.gM ∧ T2.gG = [] := by rw [← hT2]; exact ⟨rfl, rfl, rfl⟩
  -- behind Due
  have HDue : Hid (Calls Tryz.prog 29 #[.pointer (some ⟨(P.tp i).g, 0, none⟩), .int .i64 now] w fun e w1 => ∃ a c, e = .returned (.tuple #[.slice a D.length c, .nilIface]) ∧ Back.IArg w1 a D.length D ∧ Hid (MidP w w1 o n b i (P.tp i).p P { N with tr := updR N.tr i T2 })) := by
    refine hidden (CD.mono ?_)
    rintro e w1 ⟨dv, rfl, gv2, q1, q2, q3, q4⟩
    obtain ⟨a, c, rfl, hA, _⟩ := Gaps.own_ints q2 (by omega)
    obtain ⟨hg1, hg2⟩ := hN.gaps hn hi ht q1 q4 (fun j hj => (q3 j hj).1)
    rw [show ({ tr with gn := now, gT := tr.gT, gM := GM.dM 3 3 now tr.gM, gG := [] } : Tr) = T2 from hT2] at hg1
    exact ⟨a, c, rfl, hA, hidden ⟨_, _, hg1, by simp [updT], grow_ext o w _, hg2, updT_p _ _ _, fun _ => rfl⟩⟩
  -- seqsOf and sayUp
  have HSq : Hid (∀ W a c, Back.IArg W a D.length D → MidP w W o n b i (P.tp i).p P { N with tr := updR N.tr i T2 } → D ≠ [] → Calls Tryz.prog 153 #[.slice a D.length c] W fun e w2 => ∃ a' m' c', e = .returned (.slice a' m' c') ∧ w2.cell? ⟨(P.tp i).p, 0, none⟩ = some (.int .i64 tr.tk) ∧ Hid (Back.IArg w2 a' m' (BM.norm (sq D)) ∧ (a' = none → m' = 0 ∧ c' = 0) ∧ MidP w w2 o n b i (P.tp i).p P { N with tr := updR N.tr i T2 })) := by
    refine hidden ?_
    intro W a c hA hM hne
    refine (seqs_calls a D.length c D W hA hdm (by omega)).mono ?_
    rintro e w2 ⟨v', rfl, hv, hb⟩
    obtain ⟨a', c', rfl, hA', hno', _⟩ := Back.own_ints hv (by
      have := BM.norm_len (sq D)
      have e : (sq D).length = D.length := by simp [sq]
      omega)
    obtain ⟨o', P', m1, m2, m3, m4, mq⟩ := hM
    have m1' := m1.below hb
    have hb2 := (m1'.trs i hi T2 (updR_at _ _ _)).1.box
    rw [m2] at hb2
    exact ⟨a', _, c', rfl, by rw [← e2.1]; simp [World.cell?, hb2], hidden ⟨hA', hno', o', P', m1', m2, m3, m4.trans' (Chg.of_below hb _ _), mq⟩⟩
  have HSay : Hid (∀ W a' m' c', Hid (Back.IArg W a' m' (BM.norm (sq D)) ∧ (a' = none → m' = 0 ∧ c' = 0) ∧ MidP w W o n b i (P.tp i).p P { N with tr := updR N.tr i T2 }) → D ≠ [] → Calls Tryz.prog 152 #[.pointer (some ⟨b, 0, none⟩), .pointer (some ⟨(P.tp i).p, 0, none⟩), .agg #[.int .i64 1, .int .i64 tr.tk, .slice a' m' c', .int .i64 0]] W fun e w3 => e = .returned (.tuple #[]) ∧ w3.cell? ⟨(P.tp i).p, 0, none⟩ = some (.int .i64 tr.tk) ∧ Hid (MidP w w3 o n b i (P.tp i).p P R)) := by
    refine hidden ?_
    intro W a' m' c' hS hne
    obtain ⟨hA', hno', o', P', m1, m2, m3, m4, mq⟩ := hS.out
    obtain ⟨f1, f2⟩ := hef hne
    have C := sayUp_calls n b i o' P' { N with tr := updR N.tr i T2 } T2 1 tr.tk 0 a' m' c' _ W hn m1 hi (updR_at _ _ _) (by rw [e2.2.1]; exact hpa) hA' hno' f1 f2 hl
    rw [m2] at C
    refine C.mono ?_
    rintro e w3 ⟨rfl, o3, lv, q1, q2, q3⟩
    have hR : ({ ({ N with tr := updR N.tr i T2 } : Nd) with lt := N.lt ++ [(T2.pa, Back.ebytes 1 tr.tk (BM.norm (sq D)) 0)] } : Nd) = R := by
      rw [← hRes, if_neg hne, e2.2.1]
    have q1' : NAt w3 o3 n b { P' with lv := lv } R := by rw [← hR]; exact q1
    have hb3 := (q1'.trs i hi T2 (by rw [← hRes]; exact updR_at _ _ _)).1.box
    have m2' : (({ P' with lv := lv } : NP).tp i).p = (P.tp i).p := m2
    rw [m2'] at hb3
    exact ⟨rfl, by rw [← e2.1]; simp [World.cell?, hb3], hidden ⟨o3, _, q1', m2, m3.trans q2 m4.size, m4.trans (lets_mine q3) m3, mq⟩⟩
  -- GaveUp
  have HGv : Hid (∀ W, MidP w W o n b i (P.tp i).p P R → ∃ g, W.cell? ⟨(P.tp i).p, 4, none⟩ = some (.pointer (some ⟨g, 0, none⟩)) ∧ Calls Tryz.prog 30 #[.pointer (some ⟨g, 0, none⟩)] W fun e w4 => ∃ a c, e = .returned (.slice a 0 c) ∧ Hid (DoneP w w4 o n b P R)) := by
    refine hidden ?_
    rintro W ⟨o', P', m1, m2, m3, m4, mq⟩
    have hti : R.tr i = some T2 := by rw [← hRes]; exact updR_at _ _ _
    have hTW := (m1.trs i hi T2 hti).1
    have hb2 := hTW.box
    rw [m2] at hb2
    have hgap2 := hTW.gap
    rw [g2.2.2] at hgap2
    refine ⟨(P'.tp i).g, by simp [World.cell?, hb2], ?_⟩
    refine (Gaps.gaveUp_calls (P'.tp i).g (P'.tp i).gm 3 3 _ _ _ (P'.tp i).gv [] W hgap2 (by simp)).mono ?_
    rintro e w4 ⟨rfl, q1, q2, q3⟩
    obtain ⟨a, c, hv, _⟩ := Gaps.own_ints (L := []) (by simpa using q2) (by simp)
    obtain ⟨hg1, hg2⟩ := m1.gaps hn hi hti q1 q3 (fun j hj => by simp [Value.ownBlock] at hj)
    have e : ({ R with tr := updR R.tr i { T2 with gn := T2.gn, gT := T2.gT, gM := T2.gM, gG := [] } } : Nd) = R := by
      have e1 : ({ T2 with gn := T2.gn, gT := T2.gT, gM := T2.gM, gG := [] } : Tr) = T2 := by
        have := g2.2.2
        cases T2
        simp only at this
        rw [this]
      rw [e1]
      have e3 : updR R.tr i T2 = R.tr := by
        funext k
        unfold updR
        split
        · rename_i h; rw [h, hti]
        · rfl
      rw [e3]
    rw [e] at hg1
    exact ⟨a, c, by rw [hv], hidden ⟨_, _, hg1, mq.2, fun j => (updT_p _ _ _ j).trans (mq.1 j), m3.trans (grow_ext o' W _) m4.size, m4.trans hg2 m3⟩⟩
  have HEq : Hid (D = [] → ({ N with tr := updR N.tr i T2 } : Nd) = R) := by
    refine hidden ?_
    intro h0
    rw [← hRes, if_pos h0, List.append_nil]
  have HTk : Hid (∀ W, MidP w W o n b i (P.tp i).p P { N with tr := updR N.tr i T2 } → W.cell? ⟨(P.tp i).p, 0, none⟩ = some (.int .i64 tr.tk)) := by
    refine hidden ?_
    rintro W ⟨o', P', m1, m2, m3, m4, mq⟩
    have hb2 := (m1.trs i hi T2 (updR_at _ _ _)).1.box
    rw [m2] at hb2
    rw [← e2.1]
    simp [World.cell?, hb2]
  obtain ⟨N1, hN1⟩ : ∃ N1 : Nd, { N with tr := updR N.tr i T2 } = N1 := ⟨_, rfl⟩
  rw [hN1] at HDue HSq HSay HEq HTk
  obtain ⟨pp, hpp⟩ : ∃ pp, (P.tp i).p = pp := ⟨_, rfl⟩
  obtain ⟨gb, hgb⟩ : ∃ gb, (P.tp i).g = gb := ⟨_, rfl⟩
  rw [hpp] at HDue HSq HSay HGv HTk c4
  rw [hgb] at HDue c4
  rw [hpp]
  obtain ⟨tk, htk⟩ : ∃ tk, tr.tk = tk := ⟨_, rfl⟩
  rw [htk] at HSq HSay HTk
  obtain ⟨dl, hdl⟩ : ∃ dl, D.length = dl := ⟨_, rfl⟩
  have HDL := hidden hdl
  rw [hdl] at HDue HSq hdn
  clear hN ht hG htf hpa hgG hgv hef hl hT hgap hlen CD hdm hD hRes hT2 e2 g2 hN1 hpp hgb htk hdl
  go_enter Tryz.func118, Tryz.ntmps118
  go_wp2_with fail
  refine HDue.out.mono ?_
  rintro e w1 ⟨a, c, rfl, hA1, HM1⟩
  by_cases h0 : dl = 0
  · have hD0 : D = [] := List.eq_nil_of_length_eq_zero (by rw [HDL.out]; exact h0)
    have HMR : Hid (MidP w w1 o n b i pp P R) := by
      have := HM1.out
      rw [HEq.out hD0] at this
      exact hidden this
    subst h0
    obtain ⟨g, c4', CG⟩ := HGv.out w1 HMR.out
    have HCG := hidden CG
    clear hA1 HM1 hD0 HSq HSay HTk HDue c4 CG
    go_wp2_with fail
    refine HCG.out.mono ?_
    rintro e w4 ⟨a4, c5, rfl, HD4⟩
    go_wp2_with fail
    go_loopg [42] 0 (fun g x wr => x = .int .i64 0 ∧ w4 = wr)
    case atStart => exact ⟨rfl, rfl⟩
    case round =>
      obtain ⟨rfl, rfl⟩ := hrel
      go_wp2_with fail
      go_end0
      exact ⟨rfl, HD4.out⟩
  · have hne : D ≠ [] := by
      intro e
      have := HDL.out
      rw [e] at this
      simp at this
      omega
    have hpos : (0 : Int) < (dl : Int) := by omega
    have hd1 : decide ((0 : Int) < (dl : Int)) = true := by simpa using hpos
    have HS1 := HSq.out w1.drew a c (hA1.below ((Below.refl _ _).drew)) (by
      obtain ⟨o', P', m1, m2, m3, m4, mq⟩ := HM1.out
      exact ⟨o', P', m1.below ((Below.refl _ _).drew), m2, m3, m4.trans' (Chg.of_below ((Below.refl _ _).drew) _ _), mq⟩) hne
    have HC1 := hidden HS1
    have hS0 : w1.drew.cell? ⟨pp, 0, none⟩ = some (.int .i64 tk) := HTk.out w1 HM1.out
    have HC2 := hidden (fun W a' m' c' h => HSay.out W a' m' c' h hne)
    clear hA1 HM1 HS1 HSq HSay HTk HDue c4 hne h0
    go_upto_region 3 with fail
    go_region_held3 (fun w' => w'.cell? ⟨pp, 0, none⟩ = some (.int .i64 tk)) (with_reducible assumption) (first | (go_at_call 153; refine HC1.out.mono ?_; rintro e w2 ⟨a2, m2, c2, rfl, hS2, HX2⟩) | (go_at_call 152; refine (HC2.out _ _ _ _ (by with_reducible assumption)).mono ?_; rintro e w3 ⟨rfl, hS3, HM3⟩))
    obtain ⟨g, c4', CG⟩ := HGv.out w3 HM3.out
    have HCG := hidden CG
    clear HM3 CG
    go_wp2_with fail
    refine HCG.out.mono ?_
    rintro e w4 ⟨a4, c5, rfl, HD4⟩
    go_wp2_with fail
    go_loopg [42] 0 (fun g x wr => x = .int .i64 0 ∧ w4 = wr)
    case atStart => exact ⟨rfl, rfl⟩
    case round =>
      obtain ⟨rfl, rfl⟩ := hrel
      go_wp2_with fail
      go_end0
      exact ⟨rfl, HD4.out⟩
/-- what is lacking makes a message that may be -/
theorem due_ok {n : Nat} {nw now : Int} {i : Nat} {t : Tr} (h : TrOk n nw i t) (hi : i < 8) (hd : GM.dueL 3 3 now t.gM ≠ []) : Back.efault 1 t.tk (BM.norm (sq (GM.dueL 3 3 now t.gM))) 0 = 0 ∧ (BM.norm (sq (GM.dueL 3 3 now t.gM))).length ≤ 200 ∧ (Back.ebytes 1 t.tk (BM.norm (sq (GM.dueL 3 3 now t.gM))) 0).length ≤ 2000 := by
  obtain ⟨L, hL⟩ : ∃ L, BM.norm (sq (GM.dueL 3 3 now t.gM)) = L := ⟨_, rfl⟩
  obtain ⟨hr, hm⟩ := BM.norm_of (sq (GM.dueL 3 3 now t.gM))
  have hlen := BM.norm_len (sq (GM.dueL 3 3 now t.gM))
  rw [hL] at hr hm hlen ⊢
  have hl : L.length ≤ 200 := by
    have h1 : (sq (GM.dueL 3 3 now t.gM)).length ≤ t.gM.length := by
      unfold sq GM.dueL GM.nums
      rw [List.length_map, List.length_map]
      exact List.length_filter_le _ _
    have := GM.Inv.len h.gi
    omega
  have hne : L ≠ [] := by
    intro e
    rw [e] at hm
    cases hq : GM.dueL 3 3 now t.gM with
    | nil => exact hd hq
    | cons y r =>
      have := (hm (y % 65536)).2 (by rw [hq]; simp [sq])
      simp at this
  have hb : ∀ x ∈ L, 0 ≤ x ∧ x ≤ 65535 := by
    intro x hx
    obtain ⟨y, _, rfl⟩ := List.mem_map.1 ((hm x).1 hx)
    omega
  have hp : Back.pfault L = 0 := by
    unfold Back.pfault
    rw [if_neg (by omega), if_neg]
    simp only [Bool.not_eq_true, List.any_eq_false]
    intro x hx
    have := hb x hx
    simp [Back.inR]
    omega
  refine ⟨?_, hl, ?_⟩
  · unfold Back.efault
    rw [if_pos]
    · exact hp
    · unfold Back.cfault Back.most
      have h1 : L.length ≠ 0 := by
        intro e
        exact hne (List.eq_nil_of_length_eq_zero e)
      have htk := h.tk
      rw [if_neg (by simp; omega), if_neg]
      simp only [Bool.or_eq_true, not_or, beq_iff_eq, decide_eq_decide, Bool.not_eq_true', decide_eq_false_iff_not, Decidable.not_not]
      exact ⟨by simp [h1], hr⟩
  · have := (Back.back_again hp).2.2.2.2.1
    unfold Back.ebytes Back.tail Back.pbytes
    simp only [List.length_cons, List.length_append]
    have e : ∀ l : List (Int × Nat), (l.flatMap fun p => Back.be 2 p.1.toNat ++ Back.be 2 p.2).length = 4 * l.length := by
      intro l
      induction l with
      | nil => rfl
      | cons a l ih => simp only [List.flatMap_cons, List.length_append, Back.be_len, ih, List.length_cons]; omega
    rw [e]
    simp
    omega
theorem selS_id (tk : Int) (l : List (Int × Sb)) : selS tk (fun s => s) l = l := by
  unfold selS
  rw [List.map_congr_left (g := id), List.map_id]
  intro x _
  show (if x.2.tk = tk then (x.1, x.2) else x) = x
  split <;> rfl
theorem asked_is {N : Nd} {i : Nat} {t : Tr} {now : Int} (ht : N.tr i = some t) (hpa : t.pa ≠ -1) (hgv : GM.gaveL 3 3 now t.gM = []) : N.askG i now = N.asked i t now := by
  unfold Nd.askG Nd.asked
  rw [ht]
  simp only []
  rw [if_neg hpa, hgv]
  simp only [List.foldl_nil]
  rw [selS_id]
end Go.Proofs.YtpiamlgmadnepaaGreat.ND

