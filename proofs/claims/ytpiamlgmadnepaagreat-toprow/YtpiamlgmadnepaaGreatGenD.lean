/-
  What Plan of package node returns, of a track that was not planned yet, and to which nobody subscribes: the node with it. Their condition: the node is such as it may be.
-/
import Derived.Test.YtpiamlgmadnepaaGreatNodeJ
import Derived.Test.YtpiamlgmadnepaaGreatGenB
namespace Go.Proofs.YtpiamlgmadnepaaGreat.ND
open Go.ChangeShapes Go.WideShapes Go.ChangeAt Go.RowKit Go.Maps Go.Proofs.YtpiamlgmadnepaaGreat.Mem Go.Proofs.YtpiamlgmadnepaaGreat.NO
set_option linter.unusedVariables false

/-- whose track it is, by number -/
def trackOf (l : List (Int × Sb)) (x : Int) : Int := match l.find? fun y => y.1 == x with
  | some y => y.2.tk
  | none => 0
theorem find_of {l : List (Int × Sb)} (h : (ids l).Pairwise fun a b => a < b) : ∀ x ∈ l, (l.find? fun y => y.1 == x.1) = some x := by
  induction l with
  | nil => intro x hx; cases hx
  | cons a l ih =>
    intro x hx
    have h' : (a.1 :: ids l).Pairwise fun a b => a < b := h
    obtain ⟨h1, h2⟩ := List.pairwise_cons.1 h'
    rw [List.find?_cons]
    rcases List.mem_cons.1 hx with rfl | hx
    · simp
    · have := h1 x.1 (List.mem_map.2 ⟨x, hx, rfl⟩)
      rw [show (a.1 == x.1) = false by simp; omega]
      exact ih h2 x hx
theorem trackOf_is {l : List (Int × Sb)} (h : (ids l).Pairwise fun a b => a < b) : ∀ x ∈ l, x.2.tk = trackOf l x.1 := by
  intro x hx
  unfold trackOf
  rw [find_of h x hx]
theorem beginSubs_none (n b : Nat) (o : Nat → Tg) (P : NP) (N : Nd) (tk : Int) (w : World) (hn : n ≠ 0) (h : NAt w o n b P N) (hI : SInv N.sb N.ls) (hall : ∀ x ∈ N.sb, x.2.tk ≠ tk) :
    Calls Tryz.prog 112 #[.pointer (some ⟨b, 0, none⟩), .int .i64 tk] w fun e w' => e = .returned .nilIface ∧ DoneS (cls n 4) w w' o n b N := by
  have C := hidden (subsOf_any n b o P N (trackOf N.sb) tk w h hI (trackOf_is hI.ris))
  have he : fil (trackOf N.sb) tk (ids N.sb) = [] := by
    unfold fil
    rw [List.filter_eq_nil_iff]
    intro x hx
    obtain ⟨y, hy, rfl⟩ := List.mem_map.1 hx
    rw [← trackOf_is hI.ris y hy]
    simpa using hall y hy
  rw [he] at C
  have HN := hidden h
  clear h hI hall he
  go_enter Tryz.func112, Tryz.ntmps112
  go_wp2_with fail
  refine C.out.mono ?_
  rintro e w1 ⟨a, cap, rfl, hP, hf, hb⟩
  have HS0 : Hid (DoneS (cls n 4) w w1 o n b N) := hidden ⟨o, P, HN.out.below hb, Ext.refl _ _, Chg.of_below hb _ _⟩
  simp only [List.length_nil]
  clear hP hf hb
  go_wp2_with fail
  go_loopg [12] 0 (fun gh x wr => gh = 0 ∧ x = .int .i64 0 ∧ wr = w1)
  case atStart => exact ⟨rfl, rfl, rfl⟩
  case round =>
    obtain ⟨-, rfl, rfl⟩ := hrel
    go_wp2_with fail
    go_ret
    exact ⟨rfl, HS0.out⟩
set_option maxHeartbeats 2000000 in
set_option maxRecDepth 100000 in
theorem plan_new (n b : Nat) (o : Nat → Tg) (P : NP) (N : Nd) (tk pa ep : Int) (a : Option Addr) (m cap : Nat) (K : List Int) (w : World) (hn : n ≠ 0) (hN : NAt w o n b P N) (hI : SInv N.sb N.ls) (hx0 : N.tr (tk - 1).toNat = none) (hall : ∀ x ∈ N.sb, x.2.tk ≠ tk) (hK : Gaps.IArg w a m K) (hno : a = none → m = 0 ∧ cap = 0) (hF : ∀ ad, a = some ad → 0 < m → (o ad.block).n ≠ n) (hf : pF N tk pa K ep = 0) :
    Calls Tryz.prog 85 #[.pointer (some ⟨b, 0, none⟩), .int .i64 tk, .int .i64 pa, .slice a m cap, .int .i64 ep] w fun e w' => e = .returned .nilIface ∧ Done w w' o n b ({ N with tr := updR N.tr (tk - 1).toNat ((tr0 tk ep).to pa K) }) := by
  have C := hidden (check_calls n b o P N tk pa ep a m cap K w hN hK)
  obtain ⟨z1, z2, z3, z4, _, _, z5, z6⟩ := pF_zero hf
  rw [hf, errv_zero] at C
  have hl := hK.2.1
  obtain ⟨k, hkk, hk1, hk2⟩ : ∃ k : Nat, k < 8 ∧ tk = (k : Int) + 1 ∧ (tk - 1).toNat = k := ⟨(tk - 1).toNat, by omega, by omega, rfl⟩
  have hk3 : wrap64 (tk - 1) = (k : Int) := by unfold wrap64; omega
  have hk4 : (k : Int) < 8 := by omega
  obtain ⟨R, hR⟩ : ∃ R, ({ N with tr := updR N.tr (tk - 1).toNat ((tr0 tk ep).to pa K) } : Nd) = R := ⟨_, rfl⟩
  rw [hR]
  unfold Nd.at at z5
  rw [hk2] at hR z5
  have hx : N.tr k = none := by rw [← hk2]; exact hx0
  clear hx0
  have CP := hidden (newP_calls tk ep)
  have HN := hidden hN
  have HI := hidden hI
  have HAl := hidden hall
  have HK := hidden hK
  have HNo := hidden hno
  have HF := hidden hF
  have hm : m ≤ 16 := by omega
  have HL := hidden hl
  clear hf z1 z2 z3 z4 hN hI hall hK hno hF hl hk1 hk2
  -- what follows the making
  have TAIL : Hid (∀ W oW PW (NW : Nd) t, NAt W oW n b PW NW → NW.tr k = some t → Ext w o oW → Chg o (mine n) w W → Calls Tryz.prog 113 #[.slice a m cap] W fun e w' => ∃ v, e = .returned v ∧ w'.ownsRow W.heap.size 3 1 v K.length (Gaps.ic K) ∧ Below W.heap.size W w') := by
    refine hidden ?_
    intro W oW PW NW t h1 h2 h3 h4
    have hKW : Gaps.IArg W a m K := by
      obtain ⟨bs, q1, q2, q3⟩ := h4
      refine ⟨fun j hj => ?_, HK.out.2⟩
      obtain ⟨b', o', e, hc⟩ := HK.out.1 j hj
      have hnb : b' ∉ bs := fun hx => HF.out _ e (by have := HL.out; omega) (q2 _ hx)
      exact ⟨b', o', e, (cell_same (q1.2.2.2.2 b' (World.block_lt_of_cell? w ⟨b', o' + j, none⟩ hc) hnb) _).trans hc⟩
    refine (clone_calls a m cap K W hKW HNo.out (by omega)).mono ?_
    rintro e w' ⟨v, rfl, q1, q2⟩
    rw [← HL.out] at q1
    exact ⟨v, rfl, q1, q2⟩
  go_enter Tryz.func85, Tryz.ntmps85
  go_wp2_with fail
  refine C.out.mono ?_
  rintro e w1 ⟨rfl, hb1⟩
  have hN1 := HN.out.below hb1
  have HB1 := hidden hb1
  have ct := hN1.track hkk
  clear hb1 C
  rw [hx] at ct
  simp only [tpv] at ct
  have HN1 := hidden hN1
  clear hN1
  go_wp2_with fail
  refine (CP.out _).mono ?_
  rintro e w2 ⟨Q, rfl, hT, hnew, hb2⟩
  have hN2 := HN1.out.below hb2
  have CB := hidden (beginSubs_none n b (grow o w1 ⟨n, 3, k⟩) P N tk w2 hn (HN1.out.chg (S := fun _ => False) (Chg.of_below hb2 _ _) (fun g hg => hg.elim) (grow_ext o w1 _)) HI.out HAl.out)
  have HT := hidden hT
  have HNew := hidden hnew
  have HB2 := hidden hb2
  clear hT hnew hb2 hN2
  go_wp2_with fail
  refine CB.out.mono ?_
  rintro e w3 ⟨rfl, hD⟩
  have HD := hidden hD
  clear hD
  obtain ⟨o3, P3, hN3, he3, hc3⟩ := HD.out
  have HO2 : Own (grow o w1 ⟨n, 3, k⟩) ⟨n, 3, k⟩ (tblks Q (tr0 tk ep)) := fun j hj => grow_new (HNew.out j hj)
  have hT3 := HT.out.chg hc3 HO2 (by simp [cls])
  have hO3 := HO2.ext he3 HT.out.lt
  have c5 := hN3.track hkk
  have f5 := hN3.free (2 + k)
  have hN4 := hN3.setT hn hkk hT3 hO3
  have he4' : Ext w1 o o3 := Ext.trans (grow_ext o w1 _) he3 HB2.out.size
  have he4 : Ext w o o3 := fun j hj => he4' j (by have := HB1.out.size; omega)
  have hc4 : Chg o (mine n) w (w3.setCell ⟨b, 2 + k, none⟩ (.pointer (some ⟨Q.p, 0, none⟩))) := by
    have q1 : Chg o (mine n) w w2 := (Chg.of_below HB1.out _ _).trans' (Chg.of_below HB2.out _ _)
    have q2 : Chg (grow o w1 ⟨n, 3, k⟩) (mine n) w2 w3 := cls_mine hc3
    have q3 := q1.trans q2 (fun j hj => by rw [grow_old (by have := HB1.out.size; omega)])
    exact q3.trans (chg_mine (hN3.chgB (2 + k) _)) he4
  have hin : ({ N with tr := updR N.tr k (tr0 tk ep) } : Nd).tr k = some (tr0 tk ep) := by simp [updR]
  have CK := hidden (TAIL.out _ o3 _ _ (tr0 tk ep) hN4 hin he4 hc4)
  have TT := hidden (fun w2 v h1 h2 => plan_tail (w2 := w2) (v := v) hn hN4 hkk hin pa K h1 h2 (by omega))
  have HG := hidden (hN4.trs k hkk _ hin).1
  have hqp : (updT P3.tp k Q k).p = Q.p := by simp [updT]
  obtain ⟨qp, hqq⟩ : ∃ qp, Q.p = qp := ⟨_, rfl⟩
  have HQ : Hid ((updT P3.tp k Q k).p = qp) := hqp.trans hqq
  have TT2 : Hid (∀ w2 v, w2.ownsRow (w3.setCell ⟨b, 2 + k, none⟩ (.pointer (some ⟨Q.p, 0, none⟩))).heap.size 3 1 v K.length (Gaps.ic K) → Below (w3.setCell ⟨b, 2 + k, none⟩ (.pointer (some ⟨Q.p, 0, none⟩))).heap.size (w3.setCell ⟨b, 2 + k, none⟩ (.pointer (some ⟨Q.p, 0, none⟩))) w2 → Done w ((w2.setCell ⟨qp, 2, none⟩ (.int .i64 pa)).setCell ⟨qp, 3, none⟩ v) o n b R) := by
    refine hidden ?_
    intro w2' v h1 h2
    have hd := TT.out w2' v h1 h2
    obtain ⟨o', P', q1, q2, q3⟩ := hd
    rw [show ({ P3 with tp := updT P3.tp k Q } : NP).tp k = updT P3.tp k Q k from rfl, HQ.out] at q1 q3
    refine ⟨o', P', ?_, he4.trans q2 hc4.size, hc4.trans q3 he4⟩
    rw [← hR]
    have e : updR (updR N.tr k (tr0 tk ep)) k ((tr0 tk ep).to pa K) = updR N.tr k ((tr0 tk ep).to pa K) := by
      funext j
      unfold updR
      split <;> rfl
    rw [← e]
    exact q1
  rw [hqq] at CK HG TT2 hN4 hc4
  obtain ⟨w4, hw4⟩ : ∃ w4, w3.setCell ⟨b, 2 + k, none⟩ (.pointer (some ⟨qp, 0, none⟩)) = w4 := ⟨_, rfl⟩
  rw [hw4] at CK HG TT2
  have HW4 := hidden hw4
  obtain ⟨cv, hcv⟩ : ∃ cv, tpv (N.tr k) (P3.tp k) = cv := ⟨_, rfl⟩
  have c5' : w3.cell? ⟨b, 2 + k, none⟩ = some cv := by rw [← hcv]; exact c5
  clear TT hN4 hc4 hin hqp hT3 hO3 hN3 he3 hc3 c5 hcv hw4
  rw [hqq]
  clear hqq
  go_upto_region 13 with fail
  rw [HW4.out]
  go_wp2_with fail
  refine CK.out.mono ?_
  rintro e w5 ⟨v, rfl, hr5, hb5⟩
  have bxq := HG.out.box
  rw [show (({ P3 with tp := updT P3.tp k Q } : NP).tp k).p = qp from HQ.out] at bxq
  have bx5 := (hb5.block qp (lt_of_block bxq)).trans bxq
  have c2 : w5.cell? ⟨qp, 2, none⟩ = some (.int .i64 0) := by simp [World.cell?, bx5, tr0]
  obtain ⟨v3, c3⟩ : ∃ v3, w5.cell? ⟨qp, 3, none⟩ = some v3 := by simp [World.cell?, bx5]
  have f2 : w5.frozen? ⟨qp, 2, none⟩ = false := by simp [World.frozen?, bx5]
  have f3 : w5.frozen? ⟨qp, 3, none⟩ = false := by simp [World.frozen?, bx5]
  obtain ⟨va, vc, rfl, _⟩ := Gaps.own_ints hr5 (by omega)
  have HD5 := hidden (TT2.out w5 _ hr5 hb5)
  clear bxq bx5 hr5 hb5 TT2 CK
  go_wp2_with fail
  go_ret
  exact ⟨rfl, HD5.out⟩
end Go.Proofs.YtpiamlgmadnepaaGreat.ND

