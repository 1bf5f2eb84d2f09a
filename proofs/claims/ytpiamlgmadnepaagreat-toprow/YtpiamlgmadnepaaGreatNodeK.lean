/-
  What Sub and Out of package node return, and what they leave in memory; what Send refuses. Their condition: the node is such as it may be.
-/
import Derived.Test.YtpiamlgmadnepaaGreatNodeJ
namespace Go.Proofs.YtpiamlgmadnepaaGreat.ND
open Go.ChangeShapes Go.WideShapes Go.ChangeAt Go.RowKit Go.Maps Go.Proofs.YtpiamlgmadnepaaGreat.Mem Go.Proofs.YtpiamlgmadnepaaGreat.NO
set_option linter.unusedVariables false

/-- a new subscriber -/
def s0 (tk mo : Int) : Sb := ⟨tk, mo, 0, -1, [], -1, -1, false, 0, 0, 0, 0, []⟩
def sF (N : Nd) (tk mo : Int) : Nat := if okT tk = false then 1 else if mo < 0 ∨ 3 < mo then 1 else if (N.at tk).isNone then 5 else if 20 ≤ N.sb.length then 4 else 0
def Nd.subs (N : Nd) (tk mo : Int) : Nd := { N with ls := N.ls + 1, sb := N.sb ++ [(N.ls + 1, s0 tk mo)] }
/-- one more subscriber -/
theorem NAt.addS {w w' : World} {o : Nat → Tg} {n b : Nat} {P : NP} {N : Nd} (h : NAt w o n b P N) (hn : n ≠ 0) {x : Int} {s : Sb} {Q : SP} (hx : ∀ y ∈ ids N.sb, y < x) (hr : (ids N.sb).Pairwise fun a b => a < b) (hl : SbAt w o Q s) (ho : Own o ⟨n, 4, x⟩ (sblks Q)) {D : DataW Value} {m : Nat} (hD : w.ownsMap Tryz.prog 3 ptR P.sm N.sb.length D ∧ SM D (ids N.sb) fun x => (P.sp x).s) (hm : w'.ownsMap Tryz.prog 3 ptR P.sm m (D.put (GM.key x) (.held (.pointer (some ⟨Q.s, 0, none⟩))))) (ho' : Only [P.sm] w w') :
    NAt w' o n b { P with sp := updS P.sp x Q } { N with sb := N.sb ++ [(x, s)] } := by
  have hc : Chg o (fun g => g = ⟨n, 0, 1⟩) w w' := Chg.of_only ho' (by intro k hk; simp at hk; rw [hk]; exact h.smt) (by intro k hk; simp at hk; rw [hk]; exact nobAt_map (RM.map_block hD.1))
  have he := Ext.refl w o
  have h0 : ∀ g : Tg, g = ⟨n, 0, 1⟩ → g.n ≠ 0 := by rintro g rfl; exact hn
  obtain ⟨cs, h1, h2⟩ := h.box' hc (by simp)
  have hnx : x ∉ ids N.sb := fun hh => by have := hx x hh; omega
  have hids : ids (N.sb ++ [(x, s)]) = ids N.sb ++ [x] := by simp [ids]
  have hS := hD.2.put hD.1.isMap hnx Q.s
  have hris : (ids N.sb ++ [x]).Pairwise fun a b => a < b := by
    rw [List.pairwise_append]
    exact ⟨hr, by simp, fun y hy z hz => by simp at hz; rw [hz]; exact hx y hy⟩
  refine ⟨⟨cs, h1, ⟨h2.sz, h2.c0, h2.c1, h2.ct, h2.c10, h2.c11, h2.c12, h2.c13⟩⟩, h.tag, fun i hi => h.trs' hc he hi (by simp), ?_, h.smt, ?_, h.pul' hc (by simp), h.put, h.ltr' hc he h0 (by simp), h.ltt⟩
  · have hsz := hS.keys.size (hm.entries law3) (ris_lk hris).apart
    have ht := RM.tight hm
    rw [hsz, List.length_map] at ht
    rw [show (N.sb ++ [(x, s)]).length = (ids N.sb ++ [x]).length from by simp [ids], hids]
    refine ⟨_, ht, hS.ext ?_⟩
    intro y hy
    show (if y = x then Q.s else (P.sp y).s) = (updS P.sp x Q y).s
    unfold updS
    split <;> rfl
  · intro y hy
    rcases List.mem_append.1 hy with hy | hy
    · have e : y.1 ≠ x := by have := hx y.1 (List.mem_map.2 ⟨y, hy, rfl⟩); omega
      simp only [updS, if_neg e]
      exact h.sbs' hc he h0 hy (by simp)
    · simp only [List.mem_singleton] at hy
      subst hy
      simp only [updS, if_pos]
      exact ⟨hl.chg hc ho (by simp) h0 he, ho⟩
set_option maxHeartbeats 1000000 in
theorem sub_bad (n b : Nat) (o : Nat → Tg) (P : NP) (N : Nd) (tk mo : Int) (w : World) (hN : NAt w o n b P N) (hI : SInv N.sb N.ls) (hf : sF N tk mo ≠ 0) :
    Calls Tryz.prog 40 #[.pointer (some ⟨b, 0, none⟩), .int .i64 tk, .int .i64 mo] w fun e w' => e = .returned (.tuple #[.int .i64 0, errv (sF N tk mo)]) ∧ Below w.heap.size w w' := by
  have CT := hidden (isTrack_calls tk)
  obtain ⟨f, hff⟩ : ∃ f, sF N tk mo = f := ⟨_, rfl⟩
  rw [hff] at hf
  rw [hff]
  unfold sF at hff
  cases hT : okT tk with
  | false =>
    rw [hT] at CT
    rw [if_pos hT] at hff
    subst hff
    clear hT hN hI hf
    go_enter Tryz.func40, Tryz.ntmps40
    go_wp2_with fail
    refine (CT.out _).mono ?_
    rintro e w1 ⟨rfl, rfl⟩
    go_wp2_with fail
    go_ret2
    exact ⟨rfl, Below.refl _ _⟩
  | true =>
    rw [if_neg (by simp [hT])] at hff
    rw [hT] at CT
    obtain ⟨k, hkk, hk1, hk2⟩ : ∃ k : Nat, k < 8 ∧ tk = (k : Int) + 1 ∧ (tk - 1).toNat = k := ⟨(tk - 1).toNat, by simp [okT] at hT; omega, by simp [okT] at hT; omega, rfl⟩
    clear hT
    have hk3 : wrap64 (tk - 1) = (k : Int) := by unfold wrap64; omega
    have hk4 : (k : Int) < 8 := by omega
    by_cases m0 : mo < 0
    · rw [if_pos (.inl m0)] at hff
      subst hff
      have m0' : decide (mo < 0) = true := by simpa using m0
      clear m0 hN hI hf hk1 hk2
      go_enter Tryz.func40, Tryz.ntmps40
      go_wp2_with fail
      refine (CT.out _).mono ?_
      rintro e w1 ⟨rfl, rfl⟩
      go_wp2_with fail
      go_ret2
      exact ⟨rfl, Below.refl _ _⟩
    have m0' : decide (mo < 0) = false := by simpa using m0
    by_cases m1 : 3 < mo
    · rw [if_pos (.inr m1)] at hff
      subst hff
      have m1' : decide (3 < mo) = true := by simpa using m1
      clear m0 m1 hN hI hf hk1 hk2
      go_enter Tryz.func40, Tryz.ntmps40
      go_wp2_with fail
      refine (CT.out _).mono ?_
      rintro e w1 ⟨rfl, rfl⟩
      go_wp2_with fail
      go_ret2
      exact ⟨rfl, Below.refl _ _⟩
    have m1' : decide (3 < mo) = false := by simpa using m1
    rw [if_neg (by omega)] at hff
    clear m0 m1
    have ct := hN.track hkk
    unfold Nd.at at hff
    rw [hk2] at hff
    cases hx : N.tr k with
    | none =>
      rw [hx] at ct
      rw [if_pos (by rw [hx]; rfl)] at hff
      subst hff
      simp only [tpv] at ct
      clear hx hN hI hf hk1 hk2
      go_enter Tryz.func40, Tryz.ntmps40
      go_wp2_with fail
      refine (CT.out _).mono ?_
      rintro e w1 ⟨rfl, rfl⟩
      go_wp2_with fail
      go_ret2
      exact ⟨rfl, Below.refl _ _⟩
    | some t =>
      rw [hx] at ct
      rw [if_neg (by rw [hx]; simp)] at hff
      simp only [tpv] at ct
      have hge : 20 ≤ N.sb.length := by
        by_cases c : 20 ≤ N.sb.length
        · exact c
        · rw [if_neg c] at hff; omega
      rw [if_pos hge] at hff
      subst hff
      obtain ⟨D, hown, hS⟩ := hN.sbm
      have hsz : Maps.size D = N.sb.length := by
        have := hS.keys.size (hown.entries law3) (ris_lk hI.ris).apart
        rwa [List.length_map, ids_len] at this
      have c10 := hN.cells.2.2.1
      have hlen : ∀ ty, (Builtin.len_ #[152] ty #[.map (some P.sm)]).run Tryz.prog w = .ok (.int .i64 (N.sb.length : Nat)) w := fun ty => by rw [← hsz]; exact hown.len Tryz.underlying152 ty
      obtain ⟨nl, hnl⟩ : ∃ nl, N.sb.length = nl := ⟨_, rfl⟩
      rw [hnl] at hlen hge
      have hge' : decide ((20 : Int) ≤ (nl : Int)) = true := by simp; omega
      have hge2 : decide (20 ≤ nl) = true := by simpa using hge
      obtain ⟨pp, hpp⟩ : ∃ pp, (P.tp k).p = pp := ⟨_, rfl⟩
      obtain ⟨sm, hsm⟩ : ∃ sm, P.sm = sm := ⟨_, rfl⟩
      rw [hpp] at ct
      rw [hsm] at c10 hlen
      clear hx hN hI hf hk1 hk2 hown hS hsz hnl hpp hsm hge
      go_enter Tryz.func40, Tryz.ntmps40
      go_wp2_with fail
      refine (CT.out _).mono ?_
      rintro e w1 ⟨rfl, rfl⟩
      go_wp2_with fail
      go_ret2
      exact ⟨rfl, Below.refl _ _⟩
/-- what Sub's last rows leave -/
theorem sub_tail {w w2 : World} {o : Nat → Tg} {n b : Nat} {P : NP} {N : Nd} {tk mo : Int} {ob om lb ub : Nat} (hn : n ≠ 0) (h : NAt w o n b P N) (hI : SInv N.sb N.ls) (hls : N.ls < 1000000) (hB : Begun (w.alloc (.cells #[.int .i64 tk, .int .i64 mo, .pointer none, .pointer none, .pointer none, .slice none 0 0] 162)) w2 w.heap.size tk mo (.slice none 0 0) ob om lb ub) :
    NAt w2 (grow o w ⟨n, 4, N.ls + 1⟩) n b P N ∧ Below w.heap.size w w2 ∧ ∃ w4, (Instr.mapUpdate 152 (.map (some P.sm)) (.int .i64 (N.ls + 1)) (.pointer (some ⟨w.heap.size, 0, none⟩))).run Tryz.prog (w2.setCell ⟨b, 11, none⟩ (.int .i64 (N.ls + 1))).drew = .ok () w4 ∧ w4.cell? ⟨b, 11, none⟩ = some (.int .i64 (N.ls + 1)) ∧ Done w w4 o n b (N.subs tk mo) := by
  have hs1 : (w.alloc (.cells #[.int .i64 tk, .int .i64 mo, .pointer none, .pointer none, .pointer none, .slice none 0 0] 162)).heap.size = w.heap.size + 1 := by simp
  have hbel : Below w.heap.size w w2 := ((Below.refl _ _).alloc (Nat.le_refl _) _).trans (hB.only.below (by omega) (by simp))
  obtain ⟨n1, n2, n3, n4⟩ := hB.new
  rw [hs1] at n1 n2 n3 n4
  have he := grow_ext o w ⟨n, 4, N.ls + 1⟩
  have hc2 : Chg o (fun _ => False) w w2 := Chg.of_below hbel _ _
  have hN2 : NAt w2 (grow o w ⟨n, 4, N.ls + 1⟩) n b P N := h.chg hc2 (fun g hg => hg.elim) he
  have hN3 := hN2.setS hn (N.ls + 1)
  have hc3 := hN2.chgB 11 (.int .i64 (N.ls + 1))
  have hSb2 : SbAt w2 (grow o w ⟨n, 4, N.ls + 1⟩) ⟨w.heap.size, ob, om, lb, ub, .slice none 0 0⟩ (s0 tk mo) := ⟨hB.box, ⟨[], rfl, hB.ord⟩, hB.lay, hB.out, GotAt.nil _ _⟩
  have hOw : Own (grow o w ⟨n, 4, N.ls + 1⟩) ⟨n, 4, N.ls + 1⟩ (sblks ⟨w.heap.size, ob, om, lb, ub, .slice none 0 0⟩) := by
    intro k hk
    simp [sblks, Value.ownBlock] at hk
    rcases hk with rfl | rfl | rfl | rfl | rfl <;> exact grow_new (by omega)
  have hSb3 := hSb2.chg hc3 hOw (by simp) (by rintro g rfl; exact hn) (Ext.refl _ _)
  have hN3d : NAt (w2.setCell ⟨b, 11, none⟩ (.int .i64 (N.ls + 1))).drew (grow o w ⟨n, 4, N.ls + 1⟩) n b P { N with ls := N.ls + 1 } := hN3.below ((Below.refl _ _).drew)
  have hSb3d : SbAt (w2.setCell ⟨b, 11, none⟩ (.int .i64 (N.ls + 1))).drew (grow o w ⟨n, 4, N.ls + 1⟩) ⟨w.heap.size, ob, om, lb, ub, .slice none 0 0⟩ (s0 tk mo) := hSb3.chg (S := fun _ => False) (Chg.of_below ((Below.refl _ _).drew) _ _) hOw (fun hg => hg) (fun g hg => hg.elim) (Ext.refl _ _)
  obtain ⟨D, hown, hS⟩ := hN3d.sbm
  have hl := hI.len
  have l0 := hI.ls0
  obtain ⟨w4, hrun, hown4, hturn⟩ := hown.store law3 Tryz.underlying152 (by unfold maxLen; simp only; omega) (keyOf3 (wf_of (y := N.ls + 1) (by omega) (by omega))) (ptR_mk (some ⟨w.heap.size, 0, none⟩))
  have ho4 : Only [P.sm] (w2.setCell ⟨b, 11, none⟩ (.int .i64 (N.ls + 1))).drew w4 := (Only.refl _ _).grown hturn.grown (by simp)
  have hN4 := hN3d.addS hn (x := N.ls + 1) (s := s0 tk mo) (Q := ⟨w.heap.size, ob, om, lb, ub, .slice none 0 0⟩) (by
    intro y hy
    obtain ⟨z, hz, rfl⟩ := List.mem_map.1 hy
    have := hI.mem z hz
    omega) hI.ris hSb3d hOw ⟨hown, hS⟩ hown4 ho4
  refine ⟨hN2, hbel, w4, hrun, hN4.cells.2.2.2.1, grow o w ⟨n, 4, N.ls + 1⟩, _, hN4, he, ?_⟩
  have q1 : Chg o (mine n) w w2 := hc2.mono (fun g hg => hg.elim)
  have q2 : Chg (grow o w ⟨n, 4, N.ls + 1⟩) (mine n) w2 (w2.setCell ⟨b, 11, none⟩ (.int .i64 (N.ls + 1))).drew := (chg_mine hc3).trans' (Chg.of_below ((Below.refl _ _).drew) _ _)
  have q3 : Chg (grow o w ⟨n, 4, N.ls + 1⟩) (mine n) (w2.setCell ⟨b, 11, none⟩ (.int .i64 (N.ls + 1))).drew w4 := Chg.of_only ho4 (by intro k hk; simp at hk; rw [hk, hN3d.smt]; rfl) (by intro k hk; simp at hk; rw [hk]; exact nobAt_map (RM.map_block hown))
  exact q1.trans (q2.trans' q3) he
set_option maxHeartbeats 1000000 in
theorem sub_ok (n b : Nat) (o : Nat → Tg) (P : NP) (N : Nd) (tk mo : Int) (w : World) (hn : n ≠ 0) (hN : NAt w o n b P N) (hI : SInv N.sb N.ls) (hls : N.ls < 1000000) (hf : sF N tk mo = 0) :
    Calls Tryz.prog 40 #[.pointer (some ⟨b, 0, none⟩), .int .i64 tk, .int .i64 mo] w fun e w' => e = .returned (.tuple #[.int .i64 (N.ls + 1), .nilIface]) ∧ Done w w' o n b (N.subs tk mo) := by
  have CT := hidden (isTrack_calls tk)
  unfold sF at hf
  split at hf
  · omega
  rename_i hT
  have hT : okT tk = true := by simpa using hT
  split at hf
  · omega
  rename_i hm
  split at hf
  · omega
  rename_i hx
  split at hf
  · omega
  rename_i hge
  rw [hT] at CT
  obtain ⟨k, hkk, hk1, hk2⟩ : ∃ k : Nat, k < 8 ∧ tk = (k : Int) + 1 ∧ (tk - 1).toNat = k := ⟨(tk - 1).toNat, by simp [okT] at hT; omega, by simp [okT] at hT; omega, rfl⟩
  clear hT
  have hk3 : wrap64 (tk - 1) = (k : Int) := by unfold wrap64; omega
  have hk4 : (k : Int) < 8 := by omega
  have m0 : decide (mo < 0) = false := by simp; omega
  have m1 : decide (3 < mo) = false := by simp; omega
  have ct := hN.track hkk
  unfold Nd.at at hx
  rw [hk2] at hx
  obtain ⟨t, ht⟩ : ∃ t, N.tr k = some t := by
    cases h : N.tr k with
    | none => rw [h] at hx; exact absurd rfl hx
    | some t => exact ⟨t, rfl⟩
  rw [ht] at ct
  simp only [tpv] at ct
  obtain ⟨D, hown, hS⟩ := hN.sbm
  have hsz : Maps.size D = N.sb.length := by
    have := hS.keys.size (hown.entries law3) (ris_lk hI.ris).apart
    rwa [List.length_map, ids_len] at this
  have c10 := hN.cells.2.2.1
  have hlen : ∀ ty, (Builtin.len_ #[152] ty #[.map (some P.sm)]).run Tryz.prog w = .ok (.int .i64 (N.sb.length : Nat)) w := fun ty => by rw [← hsz]; exact hown.len Tryz.underlying152 ty
  obtain ⟨nl, hnl⟩ : ∃ nl, N.sb.length = nl := ⟨_, rfl⟩
  rw [hnl] at hlen hge
  have hge' : decide ((20 : Int) ≤ (nl : Int)) = false := by simp; omega
  have hge2 : decide (20 ≤ nl) = false := by simpa using hge
  obtain ⟨pp, hpp⟩ : ∃ pp, (P.tp k).p = pp := ⟨_, rfl⟩
  rw [hpp] at ct
  have CB := hidden (begin_calls w.heap.size tk mo (.pointer none) (.pointer none) (.pointer none) (.slice none 0 0) (w.alloc (.cells #[.int .i64 tk, .int .i64 mo, .pointer none, .pointer none, .pointer none, .slice none 0 0] 162)) (heap_alloc_new w _) (by omega) (by omega))
  have TL := hidden (fun w2 ob om lb ub (h : Begun _ w2 w.heap.size tk mo (.slice none 0 0) ob om lb ub) => sub_tail hn hN hI hls h)
  obtain ⟨R, hR⟩ : ∃ R, N.subs tk mo = R := ⟨_, rfl⟩
  obtain ⟨sm, hsm⟩ : ∃ sm, P.sm = sm := ⟨_, rfl⟩
  obtain ⟨ls, hlse⟩ : ∃ ls, N.ls = ls := ⟨_, rfl⟩
  have l0 := hI.ls0
  rw [hlse] at l0 hls ⊢
  rw [hR] at TL ⊢
  rw [hsm] at c10 hlen TL
  rw [hlse] at TL
  have hwr : wrap64 (ls + 1) = ls + 1 := by unfold wrap64; omega
  have HSM := hidden hsm
  have HLS := hidden hlse
  have HN := hidden hN
  clear hm hx hge hk1 hk2 ht hown hS hsz hnl hpp hN hI hR hsm hlse hls
  go_enter Tryz.func40, Tryz.ntmps40
  go_wp2_with fail
  refine (CT.out _).mono ?_
  rintro e w1 ⟨rfl, rfl⟩
  go_wp2_with fail
  refine CB.out.mono ?_
  rintro e w2 ⟨ob, om, lb, ub, rfl, hB⟩
  obtain ⟨hN2, hb2, w4, hrun, c4, hD⟩ := TL.out w2 ob om lb ub hB
  have c11 := hN2.cells.2.2.2.1
  rw [HLS.out] at c11
  have f11 := hN2.free 11
  have hN3 := hN2.setS (N := N) hn (ls + 1)
  have d10 := hN3.cells.2.2.1
  have d11 := hN3.cells.2.2.2.1
  rw [HSM.out] at d10
  simp only at d11
  have HD := hidden hD
  obtain ⟨w3, hw3⟩ : ∃ w3, w2.setCell ⟨b, 11, none⟩ (.int .i64 (ls + 1)) = w3 := ⟨_, rfl⟩
  rw [hw3] at hrun d10 d11
  have HW3 := hidden hw3
  have d10' : w3.drew.cell? ⟨b, 10, none⟩ = some (.map (some sm)) := d10
  have d11' : w3.drew.cell? ⟨b, 11, none⟩ = some (.int .i64 (ls + 1)) := d11
  have hbz : b < w2.heap.size := hN2.lt
  clear hB hN2 hb2 hD hN3 hw3 TL CB CT
  go_upto_region 12 with fail
  rw [HW3.out]
  clear c11 f11
  go_region
  go_wp2_with fail
  go_ret2
  exact ⟨rfl, HD.out⟩

/-- what Out gives: the letters, and none are left -/
def Sent (w w' : World) (o : Nat → Tg) (n b : Nat) (N : Nd) (e : Ending) : Prop :=
  ∃ lv o' P, e = .returned lv ∧ NAt w' o' n b P { N with lt := [] } ∧ LetAt w' o' lv N.lt ∧ Own o' nobody lv.ownBlock.toList ∧ (∀ k, k < w.heap.size → o' k = o k ∨ (o k = ⟨n, 1, 0⟩ ∧ o' k = nobody)) ∧ Chg o (mine n) w w'
theorem out_calls (n b : Nat) (o : Nat → Tg) (P : NP) (N : Nd) (w : World) (hn : n ≠ 0) (h : NAt w o n b P N) :
    Calls Tryz.prog 94 #[.pointer (some ⟨b, 0, none⟩)] w fun e w' => Sent w w' o n b N e := by
  have c13 := h.cells.2.2.2.2.2
  have f13 := h.free 13
  have HP : Hid (Sent w (w.setCell ⟨b, 13, none⟩ (.slice none 0 0)) o n b N (.returned P.lv)) := by
    have hg := h.chgB 13 (.slice none 0 0)
    have h0 : ∀ g : Tg, g = ⟨n, 0, 0⟩ → g.n ≠ 0 := by rintro g rfl; exact hn
    have h1 := h.setL hn (LetAt.nil w o) (by intro k hk; simp [Value.ownBlock] at hk)
    have hl := h.ltr.chg hg h.ltt (by simp) h0 (Ext.refl _ _)
    have hoff : ∀ k, k ∈ P.lv.ownBlock.toList → o k = ⟨n, 1, 0⟩ := h.ltt
    let o' : Nat → Tg := fun k => if k ∈ P.lv.ownBlock.toList then nobody else o k
    have hkeep : ∀ k, o k ≠ ⟨n, 1, 0⟩ → o' k = o k := fun k hk => if_neg (fun hm => hk (hoff k hm))
    have hOwn : ∀ g bs, g ≠ ⟨n, 1, 0⟩ → Own o g bs → Own o' g bs := fun g bs hgn ho k hk => (hkeep k (by rw [ho k hk]; exact hgn)).trans (ho k hk)
    have hBody : ∀ W v L, BodyAt W o v L → BodyAt W o' v L := by
      rintro W v L ⟨a, m, c, rfl, hA, hF⟩
      refine ⟨a, m, c, rfl, hA, fun hm ad e => ?_⟩
      have := hF hm ad e
      rw [hkeep _ (by intro hx; rw [hx] at this; exact hn this)]
      exact this
    refine ⟨P.lv, o', _, rfl, ⟨h1.box, ?_, ?_, h1.sbm, ?_, ?_, h1.pul, hOwn _ _ (by simp) h1.put, LetAt.nil _ _, by intro k hk; simp [Value.ownBlock] at hk⟩, ?_, ?_, ?_, chg_mine hg⟩
    · rw [hkeep b (by rw [h.tag]; simp)]; exact h1.tag
    · intro i hi t ht
      obtain ⟨q1, q2⟩ := h1.trs i hi t ht
      exact ⟨q1, hOwn _ _ (by simp) q2⟩
    · rw [hkeep P.sm (by rw [h.smt]; simp)]; exact h1.smt
    · intro x hx
      obtain ⟨q1, q2⟩ := h1.sbs x hx
      refine ⟨⟨q1.box, q1.ord, q1.lay, q1.out, ?_⟩, hOwn _ _ (by simp) q2⟩
      obtain ⟨X, r1, r2, r3⟩ := q1.got
      exact ⟨X, r1, r2, fun y hy => hBody _ _ _ (r3 y hy)⟩
    · obtain ⟨X, r1, r2, r3⟩ := hl
      exact ⟨X, r1, r2, fun y hy => ⟨hBody _ _ _ (r3 y hy).1, (r3 y hy).2⟩⟩
    · intro k hk
      exact if_pos hk
    · intro k hk
      by_cases hm : k ∈ P.lv.ownBlock.toList
      · exact .inr ⟨hoff k hm, if_pos hm⟩
      · exact .inl (if_neg hm)
  obtain ⟨X, _, hr, _⟩ := h.ltr
  obtain ⟨la, ln, lc, hlv⟩ : ∃ a m c, P.lv = .slice a m c := by
    rcases hr.2 with ⟨e, _⟩ | ⟨g, cap, cur, e, _⟩
    · exact ⟨_, _, _, e⟩
    · exact ⟨_, _, _, e⟩
  rw [hlv] at c13 HP
  clear h hr hlv
  go_enter Tryz.func94, Tryz.ntmps94
  go_wp2_with fail
  go_ret
  exact HP.out
end Go.Proofs.YtpiamlgmadnepaaGreat.ND

