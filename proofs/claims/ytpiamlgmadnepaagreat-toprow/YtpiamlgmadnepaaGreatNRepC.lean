/-
  What hearBack of package node returns, and what it leaves in memory. Its condition: the node is such as it may be.
-/
import Derived.Test.YtpiamlgmadnepaaGreatNRepB
namespace Go.Proofs.YtpiamlgmadnepaaGreat.ND
open Go.ChangeShapes Go.WideShapes Go.ChangeAt Go.RowKit Go.Maps Go.Lib Go.Proofs.YtpiamlgmadnepaaGreat.Mem Go.Proofs.YtpiamlgmadnepaaGreat.NO
set_option linter.unusedVariables false

set_option maxRecDepth 100000 in
/-- bytes that say nothing back -/
theorem hearBack_bad (b : Nat) (fr : Int) (a : Option Addr) (m cap : Nat) (B : List Nat) (w : World) (hA : Arg w a m B) (hc : m ≤ cap) (hf : Back.rfault B ≠ 0) :
    Calls Tryz.prog 117 #[.pointer (some ⟨b, 0, none⟩), .int .i64 fr, .slice a m cap] w fun e w' => e = .returned (errv (Back.rfault B)) ∧ Below w.heap.size w w' := by
  have CR := hidden (Back.read_gen a m cap B w hA hc)
  obtain ⟨f, hff⟩ : ∃ f, Back.rfault B = f := ⟨_, rfl⟩
  rw [hff] at CR hf
  rw [hff]
  have q1 := cmp_ne f
  have q2 := grd_ne f
  have d0 : decide (f = 0) = false := by simpa using hf
  clear hA hc hff hf
  go_enter Tryz.func117, Tryz.ntmps117
  go_wp2_with fail
  refine CR.out.mono ?_
  rintro e w1 ⟨k', t', a', m', c', u', rfl, _, hb1, _, _⟩
  rw [show Back.errv f = errv f from rfl]
  have HB := hidden hb1
  clear hb1 CR
  go_wp2_with fail
  go_ret
  exact ⟨rfl, HB.out.alloc HB.out.size _⟩
/-- what is read of bytes that say something: its Track is one that may be -/
theorem said_track {k t : Nat} {r : List Nat} (h : Back.sfault k t r = 0) : 1 ≤ t ∧ t ≤ 8 := by
  obtain ⟨_, h2, _⟩ := Back.sfault_zero h
  obtain ⟨h3, _⟩ := Back.efault_zero h2
  obtain ⟨_, h4, h5, _⟩ := Back.cfault_zero h3
  omega
set_option maxHeartbeats 1000000 in
set_option maxRecDepth 100000 in
/-- from somebody who is no kid -/
theorem hearBack_no (n b : Nat) (o : Nat → Tg) (P : NP) (N : Nd) (fr : Int) (a : Option Addr) (m cap : Nat) (B : List Nat) (w : World) (hN : NAt w o n b P N) (hA : Arg w a m B) (hc : m ≤ cap) (hf : Back.rfault B = 0) (hno : ∀ i, i < 8 → ∀ t, N.tr i = some t → fr ∉ t.kids) :
    Calls Tryz.prog 117 #[.pointer (some ⟨b, 0, none⟩), .int .i64 fr, .slice a m cap] w fun e w' => ∃ f, f ≠ 0 ∧ e = .returned (errv f) ∧ Below w.heap.size w w' := by
  have CR := hidden (Back.read_gen a m cap B w hA hc)
  rw [hf] at CR
  have HN := hidden hN
  have HNo := hidden hno
  have HF := hidden hf
  clear hA hc hf hN hno
  go_enter Tryz.func117, Tryz.ntmps117
  go_wp2_with fail
  refine CR.out.mono ?_
  rintro e w1 ⟨k', t', a', m', c', u', rfl, _, hb1, _, hz⟩
  rw [show Back.errv 0 = Value.nilIface from rfl]
  obtain ⟨k, hk8, rfl⟩ : ∃ k : Nat, k < 8 ∧ t' = (k : Int) + 1 := by
    obtain ⟨kk, tt, r, _, _, hs, _, ht, _, _⟩ := hz HF.out
    obtain ⟨s1, s2⟩ := said_track hs
    exact ⟨tt - 1, by omega, by omega⟩
  have hk3 : wrap64 ((k : Int) + 1 - 1) = (k : Int) := by unfold wrap64; omega
  have hk5 : wrap64 (k : Int) = (k : Int) := by unfold wrap64; omega
  have hk4 : (k : Int) < 8 := by omega
  obtain ⟨W1, hW1⟩ : ∃ W1, w1.alloc (.cells #[.int .i64 k', .int .i64 ((k : Int) + 1), .slice a' m' c', .int .i64 u'] 242) = W1 := ⟨_, rfl⟩
  have hB1 : Below w1.heap.size w1 W1 := by rw [← hW1]; exact (Below.refl _ _).alloc (Nat.le_refl _) _
  have hbx : W1.heap[w1.heap.size]? = some (.cells #[.int .i64 k', .int .i64 ((k : Int) + 1), .slice a' m' c', .int .i64 u'] 242 (0, 0)) := by rw [← hW1]; exact heap_alloc_new w1 _
  have f1 : W1.cell? ⟨w1.heap.size, 1, none⟩ = some (.int .i64 ((k : Int) + 1)) := by simp [World.cell?, hbx]
  have hBt : Below w.heap.size w W1 := hb1.trans (hB1.mono hb1.size)
  have hN1 := HN.out.below hBt
  have ct := hN1.track hk8
  obtain ⟨pb, hpb⟩ : ∃ pb, w1.heap.size = pb := ⟨_, rfl⟩
  rw [hpb] at f1
  have HB := hidden hBt
  have HW1 := hidden hW1
  have HN1 := hidden hN1
  clear hb1 hB1 hbx hBt hW1 hN1 hz CR
  go_upto_region 4 with fail
  first | rw [HW1.out] | skip
  clear hpb
  cases htr : N.tr k with
  | none =>
    rw [htr] at ct
    simp only [tpv] at ct
    clear htr
    go_quiet (fail)
    go_wp2_with fail
    go_ret
    exact ⟨5, by omega, rfl, below_drewN' HB.out⟩
  | some tr =>
    rw [htr] at ct
    simp only [tpv] at ct
    have hT := (HN1.out.trs k hk8 tr htr).1
    have c3 : W1.cell? ⟨(P.tp k).p, 3, none⟩ = some (.slice (P.tp k).ka tr.kids.length (P.tp k).kc) := by simp [World.cell?, hT.box]
    have CC := fun j => contains_calls (P.tp k).ka tr.kids.length (P.tp k).kc tr.kids fr (W1.drewN j) ⟨fun z hz => hT.kid.1 z hz, hT.kid.2⟩
    rw [decide_eq_false (HNo.out k hk8 tr htr)] at CC
    have HC := hidden CC
    obtain ⟨pp, hpp⟩ : ∃ pp, (P.tp k).p = pp := ⟨_, rfl⟩
    obtain ⟨ka, hka⟩ : ∃ ka, (P.tp k).ka = ka := ⟨_, rfl⟩
    obtain ⟨kc, hkc⟩ : ∃ kc, (P.tp k).kc = kc := ⟨_, rfl⟩
    obtain ⟨kl, hkl⟩ : ∃ kl, tr.kids.length = kl := ⟨_, rfl⟩
    rw [hpp] at ct c3
    rw [hka, hkc, hkl] at c3 HC
    clear htr hT CC hpp hka hkc hkl
    go_quiet (fail)
    go_wp2_with fail
    refine (HC.out _).mono ?_
    rintro e w2 ⟨rfl, rfl⟩
    go_wp2_with fail
    go_ret
    exact ⟨6, by omega, rfl, below_drewN' HB.out⟩
theorem k_facts {i : Nat} (hi : i < 8) : wrap64 ((i : Int) + 1 - 1) = (i : Int) ∧ wrap64 (i : Int) = (i : Int) ∧ (i : Int) < 8 := by
  unfold wrap64
  omega
set_option maxHeartbeats 1000000 in
set_option maxRecDepth 100000 in
/-- from a kid who lacks one that is kept -/
theorem hearBack_lost (n b i : Nat) (o : Nat → Tg) (P : NP) (N : Nd) (tr : Tr) (fr q y og h : Int) (p : RM.Pk) (a : Option Addr) (m cap : Nat) (w : World) (hn : n ≠ 0) (hN : NAt w o n b P N) (hi : i < 8) (ht : N.tr i = some tr) (hR : RM.Inv 64 tr.rT tr.rM) (hA : Arg w a m (Back.ebytes 1 ((i : Int) + 1) [q] 0)) (hc : m ≤ cap) (hef : Back.efault 1 ((i : Int) + 1) [q] 0 = 0) (hkid : fr ∈ tr.kids) (h0 : 0 ≤ q) (h1 : q ≤ 65535) (hy : num tr.rT q = y) (hp : (y, p) ∈ tr.rM) (hw : tr.wy y = (og, h)) (hf : PM.fault p.s p.t p.l p.q p.L.length = 0) (hL : 0 < p.L.length) (hff : FM.ffault tr.tk og tr.ep h (pby p.s p.t p.l p.q p.st p.L) = 0) (hl : N.lt.length ≤ 1000000) :
    Calls Tryz.prog 117 #[.pointer (some ⟨b, 0, none⟩), .int .i64 fr, .slice a m cap] w fun e w' => e = .returned .nilIface ∧ Done w w' o n b { N with lt := N.lt ++ [(fr, fby tr.tk og tr.ep h (pby p.s p.t p.l p.q p.st p.L))] } := by
  obtain ⟨k1, t1, r, e1, e2, e3, e4, e5, e6, e7⟩ := Back.again hef
  have hk1 : k1 = 1 := by omega
  have ht1 : t1 = i + 1 := by omega
  subst hk1
  subst ht1
  rw [e3] at hA
  have hrf : Back.rfault (1 :: (i + 1) :: r) = 0 := (Back.rfault_two 1 (i + 1) r e4).trans e5
  have CR := hidden (Back.read_gen a m cap _ w hA hc)
  rw [hrf] at CR
  obtain ⟨o0, ho0⟩ : ∃ o0, grow o w nobody = o0 := ⟨_, rfl⟩
  have he0 : Ext w o o0 := by rw [← ho0]; exact grow_ext o w nobody
  obtain ⟨R, hRes⟩ : ∃ R : Nd, { N with lt := N.lt ++ [(fr, fby tr.tk og tr.ep h (pby p.s p.t p.l p.q p.st p.L))] } = R := ⟨_, rfl⟩
  rw [hRes]
  have HS : Hid (∀ W a' c', Below w.heap.size w W → Back.IArg W a' 1 [q] → Calls Tryz.prog 151 #[.pointer (some ⟨b, 0, none⟩), .int .i64 fr, .pointer (some ⟨(P.tp i).p, 0, none⟩), .slice a' 1 c'] W fun e w' => e = .returned (.tuple #[]) ∧ Hid (Done w w' o n b R)) := by
    refine hidden ?_
    intro W a' c' hBW hIA
    have hNW : NAt W o0 n b P N := hN.chg (S := fun _ => False) (Chg.of_below hBW _ _) (fun g hg => hg.elim) he0
    have C := again_one n b i o0 P N tr fr q y og h p a' c' W hn hNW hi ht hR hIA h0 h1 hy hp hw hf hL hff hl
    rw [hRes] at C
    refine C.mono ?_
    rintro e w' ⟨rfl, o', lv, q1, q2, q3⟩
    exact ⟨rfl, hidden ⟨o', _, q1, he0.trans q2 hBW.size, (Chg.of_below hBW _ _).trans (lets_mine q3) he0⟩⟩
  have HN := hidden hN
  have HTr := hidden ht
  have HK := hidden hkid
  have HZ := hidden (And.intro hrf (And.intro e6 e7))
  obtain ⟨hk3, hk5, hk4⟩ := k_facts hi
  have hi8 := hi
  clear hN ht hR hA hc hef hkid h0 h1 hy hp hw hf hL hff hl e1 e2 e3 e4 e5 e6 e7 hrf ho0 he0 hRes hi
  go_enter Tryz.func117, Tryz.ntmps117
  go_wp2_with fail
  refine CR.out.mono ?_
  rintro e w1 ⟨k', t', a', m', c', u', rfl, _, hb1, _, hz⟩
  rw [show Back.errv 0 = Value.nilIface from rfl]
  obtain ⟨rfl, rfl, rfl, hIA⟩ : k' = 1 ∧ t' = (i : Int) + 1 ∧ m' = 1 ∧ Back.IArg w1 a' m' [q] := by
    obtain ⟨kk, tt, rr, hcons, _, _, hk', ht', _, hIA⟩ := hz HZ.out.1
    cases hcons
    rw [HZ.out.2.1] at hIA
    exact ⟨by rw [hk']; rfl, by rw [ht']; omega, hIA.2.1.symm, hIA⟩
  obtain ⟨W1, hW1⟩ : ∃ W1, w1.alloc (.cells #[.int .i64 1, .int .i64 ((i : Int) + 1), .slice a' 1 c', .int .i64 u'] 242) = W1 := ⟨_, rfl⟩
  have hB1 : Below w1.heap.size w1 W1 := by rw [← hW1]; exact (Below.refl _ _).alloc (Nat.le_refl _) _
  have hbx : W1.heap[w1.heap.size]? = some (.cells #[.int .i64 1, .int .i64 ((i : Int) + 1), .slice a' 1 c', .int .i64 u'] 242 (0, 0)) := by rw [← hW1]; exact heap_alloc_new w1 _
  have f0 : W1.cell? ⟨w1.heap.size, 0, none⟩ = some (.int .i64 1) := by simp [World.cell?, hbx]
  have f1 : W1.cell? ⟨w1.heap.size, 1, none⟩ = some (.int .i64 ((i : Int) + 1)) := by simp [World.cell?, hbx]
  have f2 : W1.cell? ⟨w1.heap.size, 2, none⟩ = some (.slice a' 1 c') := by simp [World.cell?, hbx]
  have hBt : Below w.heap.size w W1 := hb1.trans (hB1.mono hb1.size)
  have hN1 := HN.out.below hBt
  have ct := hN1.track hi8
  have hT := (hN1.trs i hi8 tr HTr.out).1
  have c3 : W1.cell? ⟨(P.tp i).p, 3, none⟩ = some (.slice (P.tp i).ka tr.kids.length (P.tp i).kc) := by simp [World.cell?, hT.box]
  have CC := fun j => contains_calls (P.tp i).ka tr.kids.length (P.tp i).kc tr.kids fr (W1.drewN j) ⟨fun z hz => hT.kid.1 z hz, hT.kid.2⟩
  rw [decide_eq_true HK.out] at CC
  have HC := hidden CC
  have CS := hidden (fun j => HS.out (W1.drewN j) a' c' (below_drewN' hBt) ((hIA.below hB1).below (below_drewN' (Below.refl _ _))))
  rw [HTr.out] at ct
  simp only [tpv] at ct
  obtain ⟨pb, hpb⟩ : ∃ pb, w1.heap.size = pb := ⟨_, rfl⟩
  rw [hpb] at f0 f1 f2
  obtain ⟨pp, hpp⟩ : ∃ pp, (P.tp i).p = pp := ⟨_, rfl⟩
  obtain ⟨ka, hka⟩ : ∃ ka, (P.tp i).ka = ka := ⟨_, rfl⟩
  obtain ⟨kc, hkc⟩ : ∃ kc, (P.tp i).kc = kc := ⟨_, rfl⟩
  obtain ⟨kl, hkl⟩ : ∃ kl, tr.kids.length = kl := ⟨_, rfl⟩
  rw [hpp] at ct c3 CS
  rw [hka, hkc, hkl] at c3 HC
  have HW1 := hidden hW1
  clear hb1 hB1 hbx hBt hW1 hN1 hz CR hT CC hpp hka hkc hkl hIA HS
  go_upto_region 4 with fail
  first | rw [HW1.out] | skip
  clear hpb
  go_quiet (fail)
  go_wp2_with fail
  refine (HC.out _).mono ?_
  rintro e w2 ⟨rfl, rfl⟩
  go_wp2_with fail
  refine (CS.out _).mono ?_
  rintro e w3 ⟨rfl, HD⟩
  go_wp2_with fail
  go_ret
  exact ⟨rfl, HD.out⟩
end Go.Proofs.YtpiamlgmadnepaaGreat.ND

