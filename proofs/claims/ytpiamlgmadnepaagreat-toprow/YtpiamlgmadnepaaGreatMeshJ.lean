/-
  What Land of package mesh returns, and what it leaves in memory. Its condition: the lofts are such as they may be.
-/
import Derived.Test.YtpiamlgmadnepaaGreatMeshI
namespace Go.Proofs.YtpiamlgmadnepaaGreat.MS
open Go.ChangeShapes Go.WideShapes Go.ChangeAt Go.RowKit Go.Maps Go.Proofs.YtpiamlgmadnepaaGreat.Mem Go.Proofs.YtpiamlgmadnepaaGreat.NO Go.Proofs.YtpiamlgmadnepaaGreat.ND
set_option linter.unusedVariables false

/-- lofts that may be -/
structure MOk (M : Ms) : Prop where
  n1 : 1 ≤ M.n
  n16 : M.n ≤ 16
  nw : 0 ≤ M.nw ∧ M.nw ≤ 1000000
  nd : ∀ i, i < M.n → NdOk M.n (M.nd i) ∧ (M.nd i).lt = [] ∧ (M.nd i).nw ≤ M.nw ∧ (M.nd i).id = (i : Int)
theorem downs_le (K : List Int) (f : Nat) (F : List Nat) : (downs K f F).length ≤ K.length := downs_len K f F
theorem took_lt {N : Nd} {i : Nat} {t : Tr} {p : RM.Pk} {og h now : Int} : (N.tookG i t p og h now).lt.length ≤ N.lt.length + t.kids.length := by
  unfold Nd.tookG
  split
  · show (N.lt ++ _).length ≤ _
    rw [List.length_append]
    have := downs_len t.kids (FM.ffault t.tk og t.ep h (pby p.s p.t p.l p.q p.st p.L)) (fby t.tk og t.ep h (pby p.s p.t p.l p.q p.st p.L))
    omega
  · exact Nat.le_add_right _ _
theorem again_len (t : Tr) (kd : Int) (L : List Int) : (L.flatMap (againL t kd)).length ≤ L.length := by
  induction L with
  | nil => simp
  | cons x L ih => simp only [List.flatMap_cons, List.length_append, List.length_cons]; have := againL_len t kd x; omega
theorem hear_lt {n : Nat} {N : Nd} (h : NdOk n N) {fr now : Int} {bv : Value} {m : Msg} (hm : m.ok) (hf : Fits N fr m) : (N.hear fr now bv m).lt.length ≤ N.lt.length + 200 := by
  cases m with
  | fr tk og ep hp p =>
    obtain ⟨m1, m2, _⟩ := hm
    obtain ⟨t, ht⟩ := hf
    obtain ⟨i, hi, _, ei, hti⟩ := at_nat m1 m2 ht
    have hk := (h.tr i hi t hti).kl
    rw [hear_fr ht]
    split
    · show (N.tookG _ t _ og (hp + 1) now).lt.length ≤ _
      have := took_lt (N := N) (i := (tk - 1).toNat) (t := t) (p := p.lies bv) (og := og) (h := hp + 1) (now := now)
      omega
    · omega
  | lost tk L =>
    obtain ⟨t, ht, hk⟩ := hf
    rw [hear_lost ht hk]
    show (N.lt ++ _).length ≤ _
    rw [List.length_append]
    have := again_len t fr L
    have := hm.2
    omega
  | key tk v =>
    obtain ⟨t, ht, hk⟩ := hf
    rw [hear_key ht hk]
    show (N.lt ++ _).length ≤ _
    rw [List.length_append]
    split <;> simp
theorem NdOk.hear {n : Nat} {N : Nd} (h : NdOk n N) {fr now : Int} {bv : Value} {m : Msg} (hm : m.ok) (hf : Fits N fr m) (h0 : N.nw ≤ now) (h1 : now ≤ 1000000) : NdOk n (N.hear fr now bv m) := by
  cases m with
  | fr tk og ep hp p =>
    obtain ⟨m1, m2, m3, m4, m5⟩ := hm
    obtain ⟨t, ht⟩ := hf
    obtain ⟨i, hi, _, ei, hti⟩ := at_nat m1 m2 ht
    rw [hear_fr ht]
    split
    · have k := (h.later h0 h1).took hi (t := t) hti (p := p.lies bv) (og := og) (hp := hp + 1) m4
      rw [ei]
      have e : ({ N.tookG i t (p.lies bv) og (hp + 1) now with nw := now } : Nd) = ({ N with nw := now } : Nd).tookG i t (p.lies bv) og (hp + 1) now := by
        unfold Nd.tookG
        split <;> rfl
      rw [e]
      exact k
    · exact h
  | lost tk L =>
    obtain ⟨t, ht, hk⟩ := hf
    rw [hear_lost ht hk]
    exact (h.later h0 h1).letters _
  | key tk v =>
    obtain ⟨t, ht, hk⟩ := hf
    rw [hear_key ht hk]
    exact (h.later h0 h1).letters _
theorem hear_id {N : Nd} {fr now : Int} {bv : Value} {m : Msg} : (N.hear fr now bv m).id = N.id := by
  cases m with
  | fr tk og ep hp p =>
    simp only [Nd.hear]
    split
    · rfl
    · split
      · show (N.tookG _ _ _ _ _ _).id = _
        unfold Nd.tookG
        split <;> rfl
      · rfl
  | lost tk L =>
    simp only [Nd.hear]
    split
    · rfl
    · split <;> rfl
  | key tk v =>
    simp only [Nd.hear]
    split
    · rfl
    · split <;> rfl
theorem hear_nw {N : Nd} {fr now : Int} {bv : Value} {m : Msg} (h : N.nw ≤ now) : (N.hear fr now bv m).nw ≤ now := by
  cases m with
  | fr tk og ep hp p =>
    simp only [Nd.hear]
    split
    · exact h
    · split
      · exact Int.le_refl _
      · exact h
  | lost tk L =>
    simp only [Nd.hear]
    split
    · exact h
    · split
      · exact Int.le_refl _
      · exact h
  | key tk v =>
    simp only [Nd.hear]
    split
    · exact h
    · split
      · exact Int.le_refl _
      · exact h
/-- what flies as the i-th lands -/
def Ms.land (M : Ms) (i : Nat) (f : Fl) (m : Msg) (bv : Value) : Ms := ({ M with fl := M.fl.eraseIdx i, nd := updN M.nd f.tw.toNat ((M.nd f.tw.toNat).hear f.fr M.nw bv m) } : Ms).out f.tw.toNat
/-- something that may land -/
structure Lands (M : Ms) (f : Fl) (m : Msg) : Prop where
  t0 : 0 ≤ f.tw
  tn : f.tw < M.n
  by' : f.B = m.by
  ok : m.ok
  fit : Fits (M.nd f.tw.toNat) f.fr m
theorem MOk.out {M : Ms} {i : Nat} (hi : i < M.n) (h1 : 1 ≤ M.n) (h16 : M.n ≤ 16) (hw : 0 ≤ M.nw ∧ M.nw ≤ 1000000) (hn : ∀ j, j < M.n → NdOk M.n (M.nd j) ∧ (j ≠ i → (M.nd j).lt = []) ∧ (M.nd j).nw ≤ M.nw ∧ (M.nd j).id = (j : Int)) : MOk (M.out i) := by
  refine ⟨h1, h16, hw, ?_⟩
  intro j hj
  obtain ⟨k1, k2, k3, k4⟩ := hn j hj
  show NdOk M.n (updN M.nd i _ j) ∧ (updN M.nd i _ j).lt = [] ∧ (updN M.nd i _ j).nw ≤ M.nw ∧ (updN M.nd i _ j).id = _
  by_cases c : j = i
  · subst c
    rw [updN_at]
    exact ⟨k1.letters _, rfl, k3, k4⟩
  · rw [updN_ne _ _ c]
    exact ⟨k1, k2 c, k3, k4⟩
theorem MOk.land {M : Ms} (h : MOk M) {i : Nat} {f : Fl} {m : Msg} (hL : Lands M f m) (bv : Value) : MOk (M.land i f m bv) := by
  have ht : f.tw.toNat < M.n := by have := hL.t0; have := hL.tn; omega
  refine MOk.out (M := { M with fl := M.fl.eraseIdx i, nd := updN M.nd f.tw.toNat ((M.nd f.tw.toNat).hear f.fr M.nw bv m) }) ht h.n1 h.n16 h.nw ?_
  intro j hj
  obtain ⟨k1, k2, k3, k4⟩ := h.nd j hj
  show NdOk M.n (updN M.nd _ _ j) ∧ (j ≠ _ → (updN M.nd _ _ j).lt = []) ∧ (updN M.nd _ _ j).nw ≤ M.nw ∧ (updN M.nd _ _ j).id = _
  by_cases c : j = f.tw.toNat
  · subst c
    rw [updN_at]
    exact ⟨NdOk.hear k1 hL.ok hL.fit k3 h.nw.2, fun e => absurd rfl e, hear_nw k3, hear_id.trans k4⟩
  · rw [updN_ne _ _ c]
    exact ⟨k1, fun _ => k2, k3, k4⟩
theorem land_no (b : Nat) (o : Nat → Tg) (P : MP) (M : Ms) (i : Int) (w : World) (h : MAt w o b P M) (hi : i < 0 ∨ (M.fl.length : Int) ≤ i) :
    Calls Tryz.prog 41 #[.pointer (some ⟨b, 0, none⟩), .int .i64 i] w fun e w' => e = .returned (errv 1) ∧ Below w.heap.size w w' := by
  have C := hidden (take_no b o P M i w h hi)
  have q1 := cmp_ne 1
  have q2 := grd_ne 1
  rw [show decide (1 = 0) = false from rfl, Bool.not_false] at q1
  obtain ⟨ev, hev⟩ : ∃ ev, errv 1 = ev := ⟨_, rfl⟩
  rw [hev] at C q1 q2 ⊢
  clear h hi hev
  go_enter Tryz.func41, Tryz.ntmps41
  go_wp2_with fail
  refine C.out.mono ?_
  rintro e w1 ⟨rfl, hb⟩
  have HB := hidden hb
  clear hb C
  go_wp2_with fail
  go_ret
  exact ⟨rfl, HB.out.alloc HB.out.size _⟩
set_option maxHeartbeats 4000000 in
set_option maxRecDepth 100000 in
theorem land_calls (b : Nat) (o : Nat → Tg) (P : MP) (M : Ms) (i : Nat) (f : Fl) (m : Msg) (w : World) (h : MAt w o b P M) (hK : MOk M) (hf : M.fl[i]? = some f) (hL : Lands M f m) (hl : M.fl.length ≤ 500000) :
    Calls Tryz.prog 41 #[.pointer (some ⟨b, 0, none⟩), .int .i64 (i : Int)] w fun e w' => e = .returned .nilIface ∧ ∃ bv, MDone w w' o b (M.land i f m bv) := by
  have h16 := h.n16
  obtain ⟨t, ht⟩ : ∃ t : Nat, f.tw = (t : Int) := ⟨f.tw.toNat, by have := hL.t0; omega⟩
  have htN : f.tw.toNat = t := by rw [ht]; rfl
  have htn : t < M.n := by have := hL.tn; omega
  obtain ⟨kN, kL, kW, kI⟩ := hK.nd t htn
  have hfit : Fits (M.nd t) f.fr m := by have := hL.fit; rwa [htN] at this
  have CT := take_calls b o P M i f w h hf
  obtain ⟨M1, hM1⟩ : ∃ M1 : Ms, { M with fl := M.fl.eraseIdx i } = M1 := ⟨_, rfl⟩
  obtain ⟨rb, rc, hnv, _⟩ := h.nptr htn
  -- behind take: the box of what flew, and what stands there
  obtain ⟨A1, hA1⟩ : ∃ A1 : World → Nat → Value → World → Prop, (fun w2 pb bv W => ∃ o1 P1, MAt W o1 b P1 M1 ∧ P1.nv = P.nv ∧ P1.nb = P.nb ∧ BodyAt W o1 bv f.B ∧ Cap bv ∧ Keep w o o1 ∧ Chg o meshy w W ∧ FBox W pb f.fr f.tw bv ∧ o1 pb = nobody) = A1 := ⟨_, rfl⟩
  have hA1e : ∀ w2 pb bv W, A1 w2 pb bv W ↔ ∃ o1 P1, MAt W o1 b P1 M1 ∧ P1.nv = P.nv ∧ P1.nb = P.nb ∧ BodyAt W o1 bv f.B ∧ Cap bv ∧ Keep w o o1 ∧ Chg o meshy w W ∧ FBox W pb f.fr f.tw bv ∧ o1 pb = nobody := fun w2 pb bv W => by rw [← hA1]
  have HT : Hid (Calls Tryz.prog 88 #[.pointer (some ⟨b, 12, none⟩), .int .i64 (i : Int)] w fun e w' => ∃ a k c, e = .returned (.tuple #[.agg #[.int .i64 f.fr, .int .i64 f.tw, .slice a k c], .nilIface]) ∧ Hid (∀ W, W = (w'.alloc (.cells #[.int .i64 f.fr, .int .i64 f.tw, .slice a k c] 167)).drew → A1 w' w'.heap.size (.slice a k c) W)) := by
    refine hidden (CT.mono ?_)
    rintro e w' ⟨a, k, c, rfl, o1, v1, g1, g2, g3, g4, g5⟩
    refine ⟨a, k, c, rfl, hidden ?_⟩
    rintro W rfl
    have hb : Below w'.heap.size w' (w'.alloc (.cells #[.int .i64 f.fr, .int .i64 f.tw, .slice a k c] 167)).drew := ((Below.refl _ _).alloc (Nat.le_refl _) _).drew
    rw [hM1] at g1
    refine (hA1e _ _ _ _).2 ⟨grow o1 w' nobody, _, g1.grow hb nobody, rfl, rfl, g2.chg (S := fun _ => False) (Chg.of_below hb _ _) (fun g hg => hg.elim) (grow_ext _ _ _), g3, Keep.of_ext (g4.trans (grow_ext _ _ _) g5.size), (ftag_meshy g5).trans' (Chg.of_below hb _ _), heap_alloc_new w' _, grow_new (Nat.le_refl _)⟩
  have hn1 : M1.n = M.n := by rw [← hM1]
  have hS : ∀ w2 pb bv W, A1 w2 pb bv W → W.cell? ⟨b, 1, none⟩ = some (.slice (some ⟨rb, 0, none⟩) M.n rc) ∧ W.cell? ⟨rb, t, none⟩ = some (.pointer (some ⟨P.nb t, 0, none⟩)) ∧ W.cell? ⟨pb, 0, none⟩ = some (.int .i64 f.fr) ∧ W.cell? ⟨pb, 1, none⟩ = some (.int .i64 (t : Int)) ∧ W.cell? ⟨pb, 2, none⟩ = some bv := by
    intro w2 pb bv W hA
    obtain ⟨o1, P1, g1, g2, g3, _, _, _, _, g4, _⟩ := (hA1e _ _ _ _).1 hA
    obtain ⟨rb', rc', e, hc⟩ := g1.nptr (i := t) (by rw [hn1]; exact htn)
    have c1 := g1.cells.2.1
    rw [g2, hnv] at c1 e
    rw [hn1] at e
    cases e
    have hct := hc t (by rw [hn1]; exact htn)
    rw [g3] at hct
    obtain ⟨x0, x1, x2⟩ := g4.cells
    rw [ht] at x1
    exact ⟨c1, hct, x0, x1, x2⟩
  have HNow : Hid (∀ w2 pb bv W, A1 w2 pb bv W → Calls Tryz.prog 46 #[.pointer (some ⟨b, 0, none⟩)] W fun e w' => e = .returned (.int .i64 M.nw) ∧ (w'.cell? ⟨b, 1, none⟩ = some (.slice (some ⟨rb, 0, none⟩) M.n rc) ∧ w'.cell? ⟨rb, t, none⟩ = some (.pointer (some ⟨P.nb t, 0, none⟩)) ∧ w'.cell? ⟨pb, 0, none⟩ = some (.int .i64 f.fr) ∧ w'.cell? ⟨pb, 1, none⟩ = some (.int .i64 (t : Int)) ∧ w'.cell? ⟨pb, 2, none⟩ = some bv) ∧ Hid (A1 w2 pb bv w' ∧ True)) := by
    refine hidden ?_
    intro w2 pb bv W hA
    obtain ⟨o1, P1, g1, g2, g3, g4, g5, g6, g7, g8, g9⟩ := (hA1e _ _ _ _).1 hA
    refine (now_calls b o1 P1 M1 W g1).mono ?_
    rintro e w' ⟨rfl, hb⟩
    have hA' : A1 w2 pb bv w' := (hA1e _ _ _ _).2 ⟨grow o1 W nobody, P1, g1.grow hb nobody, g2, g3, g4.chg (S := fun _ => False) (Chg.of_below hb _ _) (fun g hg => hg.elim) (grow_ext _ _ _), g5, g6.trans (Keep.of_ext (grow_ext o1 W nobody)) g7.size, Chg.keep g7 (Chg.of_below hb o1 _) g6, (hb.block pb (lt_of_block g8)).trans g8, by rw [grow_old (lt_of_block g8)]; exact g9⟩
    exact ⟨by rw [← hM1], hS _ _ _ _ hA', hidden ⟨hA', trivial⟩⟩
  -- behind Hear
  obtain ⟨A2, hA2⟩ : ∃ A2 : World → Prop, (fun W => ∃ bv, MDone w W o b { M1 with nd := updN M1.nd t ((M.nd t).hear f.fr M.nw bv m) }) = A2 := ⟨_, rfl⟩
  have hA2e : ∀ W, A2 W ↔ ∃ bv, MDone w W o b { M1 with nd := updN M1.nd t ((M.nd t).hear f.fr M.nw bv m) } := fun W => by rw [← hA2]
  have HHear : Hid (∀ w2 pb a k c W, Hid (A1 w2 pb (.slice a k c) W ∧ True) → Calls Tryz.prog 89 #[.pointer (some ⟨P.nb t, 0, none⟩), .int .i64 f.fr, .slice a k c, .int .i64 M.nw] W fun e w' => ∃ ef, e = .returned (errv ef) ∧ (w'.cell? ⟨b, 1, none⟩ = some (.slice (some ⟨rb, 0, none⟩) M.n rc) ∧ w'.cell? ⟨rb, t, none⟩ = some (.pointer (some ⟨P.nb t, 0, none⟩)) ∧ w'.cell? ⟨pb, 0, none⟩ = some (.int .i64 f.fr) ∧ w'.cell? ⟨pb, 1, none⟩ = some (.int .i64 (t : Int)) ∧ w'.cell? ⟨pb, 2, none⟩ = some (.slice a k c)) ∧ Hid (A2 w')) := by
    refine hidden ?_
    intro w2 pb a k c W hA0
    have hA := hA0.out.1
    obtain ⟨o1, P1, g1, g2, g3, g4, g5, g6, g7, g8, g9⟩ := (hA1e _ _ _ _).1 hA
    have hnd1 : M1.nd = M.nd := by rw [← hM1]
    have gN := g1.nds t (by rw [hn1]; exact htn)
    rw [hnd1] at gN
    obtain ⟨a', m', c', ev, hAr, hz⟩ := g4
    cases ev
    have hcp := g5 a k c rfl
    have C := hear_msg M.n (t + 1) (P1.nb t) o1 (P1.np t) (M.nd t) f.fr M.nw m a k c W (by omega) gN kN (by rw [kL]; simp) kW hK.nw.2 hL.ok hfit (by rw [← hL.by']; exact hAr) hcp.1
    rw [g3] at C
    refine C.mono ?_
    rintro e w' ⟨ef, bv, rfl, hd⟩
    rw [← g3] at hd
    obtain ⟨o2, P2, r1, r2, r3, r4, r5, r6, r7⟩ := g1.node (i := t) (by rw [hn1]; exact htn) hd
    have hb8 : FBox w' pb f.fr f.tw (.slice a k c) := r7.block g8 (by rw [g9]; unfold mine; show ¬ (0 = t + 1); omega)
    refine ⟨ef, rfl, ?_, hidden ((hA2e _).2 ⟨bv, o2, P2, r1, g6.trans (Keep.of_ext r6) g7.size, Chg.keep g7 (mine_meshy r7 (by omega) (by omega)) g6⟩)⟩
    obtain ⟨rb', rc', e, hc⟩ := r1.nptr (i := t) (show t < M1.n by rw [hn1]; exact htn)
    have c1 := r1.cells.2.1
    rw [r3, g2, hnv] at c1
    rw [r3, g2, hnv, show ({ M1 with nd := updN M1.nd t ((M.nd t).hear f.fr M.nw bv m) } : Ms).n = M.n from hn1] at e
    cases e
    have hct := hc t (show t < M1.n by rw [hn1]; exact htn)
    rw [r2, g3] at hct
    obtain ⟨x0, x1, x2⟩ := hb8.cells
    rw [ht] at x1
    exact ⟨c1, hct, x0, x1, x2⟩
  have HOut : Hid (∀ W, A2 W → Calls Tryz.prog 47 #[.pointer (some ⟨b, 0, none⟩), .int .i64 (t : Int)] W fun e w' => e = .returned (.tuple #[]) ∧ Hid (∃ bv, MDone w w' o b (M.land i f m bv))) := by
    refine hidden ?_
    intro W hA
    obtain ⟨bv, o2, P2, r1, r2, r3⟩ := (hA2e _).1 hA
    have hle := hear_lt (n := M.n) kN (fr := f.fr) (now := M.nw) (bv := bv) hL.ok hfit
    refine (letOut_calls b t o2 P2 _ W r1 (show t < M1.n by rw [hn1]; exact htn) (by
      show M1.fl.length + (updN M1.nd t ((M.nd t).hear f.fr M.nw bv m) t).lt.length ≤ _
      rw [updN_at, ← hM1]
      show (M.fl.eraseIdx i).length + _ ≤ _
      rw [kL] at hle
      have := List.length_eraseIdx_le M.fl i
      simp at hle
      omega)).mono ?_
    rintro e w' ⟨rfl, hd⟩
    obtain ⟨o3, P3, s1, s2, s3⟩ := hd
    refine ⟨rfl, hidden ⟨bv, o3, P3, ?_, r2.trans s2 r3.size, Chg.keep r3 s3 r2⟩⟩
    unfold Ms.land
    rw [htN]
    rw [← hM1] at s1
    exact s1
  obtain ⟨fr, hfr⟩ : ∃ z, f.fr = z := ⟨_, rfl⟩
  obtain ⟨nw, hnw⟩ : ∃ z, M.nw = z := ⟨_, rfl⟩
  obtain ⟨nn, hnn⟩ : ∃ z, M.n = z := ⟨_, rfl⟩
  obtain ⟨nb, hnb⟩ : ∃ z, P.nb t = z := ⟨_, rfl⟩
  rw [ht] at HT
  rw [hfr] at HT HNow HHear hS
  rw [hnw] at HNow HHear
  rw [hnn] at HNow HHear hS htn
  rw [hnb] at HNow HHear hS
  have HS := hidden hS
  obtain ⟨R, hR⟩ : ∃ R : World → Prop, (fun W => ∃ bv, MDone w W o b (M.land i f m bv)) = R := ⟨_, rfl⟩
  have hRe : ∀ W, (∃ bv, MDone w W o b (M.land i f m bv)) = R W := fun W => by rw [← hR]
  simp only [hRe] at HOut ⊢
  have htz : (t : Int) < (nn : Int) := by omega
  clear h hK hf hL hl h16 htN kN kL kW kI hfit CT hM1 hnv hA1 hA1e hn1 hS hA2 hA2e hfr hnw hnn hnb hR hRe htn ht
  go_enter Tryz.func41, Tryz.ntmps41
  go_wp2_with fail
  refine HT.out.mono ?_
  rintro e w1 ⟨a, k, c, rfl, HA0⟩
  obtain ⟨W1, hW1⟩ : ∃ W1, w1.alloc (.cells #[.int .i64 fr, .int .i64 (t : Int), .slice a k c] 167) = W1 := ⟨_, rfl⟩
  have hAd := HA0.out W1.drew (by rw [← hW1])
  obtain ⟨pb, hpb⟩ : ∃ pb, w1.heap.size = pb := ⟨_, rfl⟩
  rw [hpb] at hAd
  have S0 := HS.out _ _ _ _ hAd
  have HAd := hidden hAd
  have HW1 := hidden hW1
  have CN := hidden (HNow.out w1 pb (.slice a k c) W1.drew hAd)
  have CH := hidden (HHear.out w1 pb a k c)
  clear HA0 hAd hW1 HT HNow HHear HS
  go_upto_region 4 with fail
  first | rw [HW1.out] | skip
  clear hpb
  go_region_held3 (fun w' => w'.cell? ⟨b, 1, none⟩ = some (.slice (some ⟨rb, 0, none⟩) nn rc) ∧ w'.cell? ⟨rb, t, none⟩ = some (.pointer (some ⟨nb, 0, none⟩)) ∧ w'.cell? ⟨pb, 0, none⟩ = some (.int .i64 fr) ∧ w'.cell? ⟨pb, 1, none⟩ = some (.int .i64 (t : Int)) ∧ w'.cell? ⟨pb, 2, none⟩ = some (.slice a k c)) (with_reducible assumption) (first | (go_at_call 46; refine CN.out.mono ?_; rintro e w4 ⟨rfl, hS4, HD4⟩) | (go_at_call 89; refine (CH.out _ (by with_reducible assumption)).mono ?_; rintro e w5 ⟨ef, rfl, hS5, HD5⟩))
  obtain ⟨x1, x2, x3, x4, x5⟩ := hS5
  have CO := hidden (HOut.out w5 HD5.out)
  clear HOut HD5
  go_wp2_with fail
  refine CO.out.mono ?_
  rintro e w6 ⟨rfl, HR⟩
  go_wp2_with fail
  go_ret
  exact ⟨rfl, HR.out⟩
end Go.Proofs.YtpiamlgmadnepaaGreat.MS

