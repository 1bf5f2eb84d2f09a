/-
  What Hear of package node leaves in memory, of whatever may come: a frame, what is lacking, a start that is asked for. Its condition: the node is such as it may be.
-/
import Derived.Test.YtpiamlgmadnepaaGreatGenH
namespace Go.Proofs.YtpiamlgmadnepaaGreat.ND
open Go.ChangeShapes Go.WideShapes Go.ChangeAt Go.RowKit Go.Maps Go.Lib Go.Proofs.YtpiamlgmadnepaaGreat.Mem Go.Proofs.YtpiamlgmadnepaaGreat.NO
set_option linter.unusedVariables false

/-- the track is planned; what is said back comes of a kid -/
def Fits (N : Nd) (fr : Int) : Msg → Prop
  | .fr tk _ _ _ _ => ∃ t, N.at tk = some t
  | .lost tk _ => ∃ t, N.at tk = some t ∧ fr ∈ t.kids
  | .key tk _ => ∃ t, N.at tk = some t ∧ fr ∈ t.kids
theorem at_nat {N : Nd} {tk : Int} {t : Tr} (h1 : 1 ≤ tk) (h2 : tk ≤ 8) (h : N.at tk = some t) : ∃ k : Nat, k < 8 ∧ tk = (k : Int) + 1 ∧ (tk - 1).toNat = k ∧ N.tr k = some t := by
  refine ⟨(tk - 1).toNat, by omega, by omega, rfl, h⟩
theorem done_below {w w' : World} {o : Nat → Tg} {n b : Nat} {P : NP} {N : Nd} (hN : NAt w o n b P N) (hb : Below w.heap.size w w') : Done w w' o n b N := ⟨o, P, hN.below hb, Ext.refl _ _, Chg.of_below hb _ _⟩
theorem sb_all {n : Nat} {N : Nd} (h : NdOk n N) {now : Int} (h0 : N.nw ≤ now) (h1 : now ≤ 1000000) : ∀ x ∈ N.sb, SbOk N.nw x.2 ∧ OM.tf x.2.on now = 0 := fun x hx => by
  have := (h.sb x hx).1
  exact ⟨this, tf_le this.oi.c1 (Int.le_trans this.on h0) h1⟩
theorem head_one {tk : Int} {L : List Int} {u : Int} : (Back.ebytes 1 tk L u).head? ≠ some 70 := by simp [Back.ebytes]
theorem head_two {tk : Int} {L : List Int} {u : Int} : (Back.ebytes 2 tk L u).head? ≠ some 70 := by simp [Back.ebytes]
theorem hear_fr {N : Nd} {fr now : Int} {bv : Value} {tk og ep h : Int} {p : Pk} {t : Tr} (ht : N.at tk = some t) : N.hear fr now bv (.fr tk og ep h p) = if hrF t fr ep = 0 then { N.tookG (tk - 1).toNat t (p.lies bv) og (h + 1) now with nw := now } else N := by simp only [Nd.hear, ht]
theorem hear_lost {N : Nd} {fr now : Int} {bv : Value} {tk : Int} {L : List Int} {t : Tr} (ht : N.at tk = some t) (hk : fr ∈ t.kids) : N.hear fr now bv (.lost tk L) = { N with lt := N.lt ++ L.flatMap (againL t fr), nw := now } := by simp only [Nd.hear, ht, if_pos hk]
theorem hear_key {N : Nd} {fr now : Int} {bv : Value} {tk v : Int} {t : Tr} (ht : N.at tk = some t) (hk : fr ∈ t.kids) : N.hear fr now bv (.key tk v) = { N with lt := N.lt ++ (if t.pa = -1 then [] else [(t.pa, Back.ebytes 2 tk [] v)]), nw := now } := by simp only [Nd.hear, ht, if_pos hk]
theorem hear_msg (nn n b : Nat) (o : Nat → Tg) (P : NP) (N : Nd) (fr now : Int) (m : Msg) (a : Option Addr) (k cap : Nat) (w : World) (hn : n ≠ 0) (hN : NAt w o n b P N) (hK : NdOk nn N) (hl : N.lt.length ≤ 500) (h0 : N.nw ≤ now) (h1 : now ≤ 1000000) (hm : m.ok) (hf : Fits N fr m) (hA : Arg w a k m.by) (hc : k ≤ cap) :
    Calls Tryz.prog 89 #[.pointer (some ⟨b, 0, none⟩), .int .i64 fr, .slice a k cap, .int .i64 now] w fun e w' => ∃ f bv, e = .returned (errv f) ∧ Done w w' o n b (N.hear fr now bv m) := by
  have hnow := gtf_le hK.nw.1 h0 h1
  cases m with
  | fr tk og ep h p =>
    obtain ⟨m1, m2, m3, m4, m5⟩ := hm
    obtain ⟨t, ht⟩ := hf
    obtain ⟨i, hi, rfl, ei, hti⟩ := at_nat m1 m2 ht
    have hT := hK.tr i hi t hti
    have hkl := hT.kl
    refine (hear_frameG n b i o P N t fr now og ep h p.s p.t p.l p.q p.st a k cap p.L w hn hN hi hti hnow hT.gi hT.ri hA hc m3 m4 m5 N.nw (sb_all hK h0 h1) hK.si (by omega)).mono ?_
    rintro e w' ⟨rfl, hg⟩
    by_cases hr : hrF t fr ep = 0
    · obtain ⟨bv, hd⟩ := hg.1 hr
      refine ⟨_, bv, rfl, ?_⟩
      rw [hear_fr ht, if_pos hr, ei]
      exact hd
    · refine ⟨_, .pointer none, rfl, ?_⟩
      rw [hear_fr ht, if_neg hr]
      exact done_below hN (hg.2 hr)
  | lost tk L =>
    obtain ⟨m1, m2⟩ := hm
    obtain ⟨t, ht, hkid⟩ := hf
    obtain ⟨_, q1, q2, _⟩ := Back.cfault_zero (Back.efault_zero m1).1
    obtain ⟨i, hi, rfl, ei, hti⟩ := at_nat q1 q2 ht
    have hT := hK.tr i hi t hti
    obtain ⟨R, hR⟩ : ∃ R : Nd, { N with lt := N.lt ++ L.flatMap (againL t fr) } = R := ⟨_, rfl⟩
    refine (hear_gen n b o P N fr now a k cap _ w (fun f N' => f = 0 ∧ N' = R) hn hN hnow hA (fun W _ hx => absurd hx head_one) ?_).mono ?_
    · intro W hBW _
      have hNW : NAt W (grow o w nobody) n b P N := hN.chg (S := fun _ => False) (Chg.of_below hBW _ _) (fun g hg => hg.elim) (grow_ext o w nobody)
      have C := hearBack_lostG n b i (grow o w nobody) P N t fr L a k cap W hn hNW hi hti hT.ri (hA.below hBW) hc m1 hkid hT.rf (by omega)
      refine C.mono ?_
      rintro e w' ⟨rfl, hd⟩
      rw [hR] at hd
      exact ⟨0, rfl, fun _ => ⟨R, ⟨rfl, rfl⟩, hd⟩, fun hx => absurd rfl hx⟩
    · rintro e w' ⟨f, rfl, g1, g2⟩
      by_cases hx : f = 0
      · obtain ⟨N', ⟨_, rfl⟩, hd⟩ := g1 hx
        refine ⟨f, .pointer none, rfl, ?_⟩
        rw [hear_lost ht hkid]
        rw [← hR] at hd
        exact hd
      · exact absurd (g2 hx).1.1 hx
  | key tk v =>
    obtain ⟨t, ht, hkid⟩ := hf
    obtain ⟨_, q1, q2, _⟩ := Back.cfault_zero (Back.efault_zero hm).1
    obtain ⟨i, hi, rfl, ei, hti⟩ := at_nat q1 q2 ht
    have hT := hK.tr i hi t hti
    obtain ⟨R, hR⟩ : ∃ R : Nd, { N with lt := N.lt ++ (if t.pa = -1 then [] else [(t.pa, Back.ebytes 2 ((i : Int) + 1) [] v)]) } = R := ⟨_, rfl⟩
    refine (hear_gen n b o P N fr now a k cap _ w (fun f N' => f = 0 ∧ N' = R) hn hN hnow hA (fun W _ hx => absurd hx head_two) ?_).mono ?_
    · intro W hBW _
      have hNW : NAt W (grow o w nobody) n b P N := hN.chg (S := fun _ => False) (Chg.of_below hBW _ _) (fun g hg => hg.elim) (grow_ext o w nobody)
      have C := hearBack_keyG n b i (grow o w nobody) P N t fr v a k cap W hn hNW hi hti (hA.below hBW) hc hm hkid (by omega)
      refine C.mono ?_
      rintro e w' ⟨rfl, hd⟩
      rw [hR] at hd
      exact ⟨0, rfl, fun _ => ⟨R, ⟨rfl, rfl⟩, hd⟩, fun hx => absurd rfl hx⟩
    · rintro e w' ⟨f, rfl, g1, g2⟩
      by_cases hx : f = 0
      · obtain ⟨N', ⟨_, rfl⟩, hd⟩ := g1 hx
        refine ⟨f, .pointer none, rfl, ?_⟩
        rw [hear_key ht hkid]
        rw [← hR] at hd
        exact hd
      · exact absurd (g2 hx).1.1 hx
end Go.Proofs.YtpiamlgmadnepaaGreat.ND

