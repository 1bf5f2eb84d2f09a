/-
  What the reference's function Places returns, in package audit's words. It changes nothing that was there.
-/
import Derived.Test.YtjnkgbdpacdgpaaDoorAuditS
import Derived.BigQuiet
namespace Go.Proofs.YtjnkgbdpacdgpaaDoor.Audit
open Go.ChangeShapes Go.WideShapes Go.ChangeAt Go.RowKit Go.Proofs.YtjnkgbdpacdgpaaDoor.PM Go.Proofs.YtjnkgbdpacdgpaaDoor.Mem Go.Proofs.YtjnkgbdpacdgpaaDoor.Pack Go.Proofs.YtjnkgbdpacdgpaaDoor.AU
set_option linter.unusedVariables false

/-- the places that the reference gives -/
def lk (S G : List Pk) (K : Nat) : List Int := if cfault S G K = 0 then pls S G K else []
/-- under way in Places: the places up to now; the packet that is looked for in its variable -/
structure PSt (w wr : World) (L : List Int) (v : Value) (xb : Nat) (p : Pk) : Prop where
  t : TSt w wr L v
  b : PBox wr xb p
theorem PSt.go {w wr wr' : World} {L : List Int} {v : Value} {xb : Nat} {p : Pk} (h : PSt w wr L v xb p) (hb : Below wr.heap.size wr wr') : PSt w wr' L v xb p := ⟨h.t.go hb, h.b.below hb⟩
set_option maxHeartbeats 8000000 in
set_option maxRecDepth 100000 in
theorem rplaces_calls (a : Option Addr) (n cap : Nat) (S : List Pk) (a2 : Option Addr) (m cap2 : Nat) (G : List Pk) (K : Nat) (w : World) (hS : PArg w a n S) (hG : PArg w a2 m G) (hK : Stop S G K) :
    Calls Tryd.prog 9 #[.slice a n cap, .slice a2 m cap2] w fun e w' => ∃ v, e = .returned (.tuple #[v, .int .i64 (cat S G K : Int), .int .i64 (cfault S G K : Int)]) ∧ w'.ownsRow w.heap.size 3 1 v (lk S G K).length (ic (lk S G K)) ∧ Below w.heap.size w w' := by
  have hl := hS.1
  have hm := hG.1
  have hn2 := hS.2.1
  have hm2 := hG.2.1
  have HS := hidden hS
  have HG := hidden hG
  have hlk : cfault S G K ≠ 0 → lk S G K = [] := fun h => by unfold lk; rw [if_neg h]
  by_cases h1 : 1000 < n
  · have e1 : cfault S G K = 4 := cfault_full (by omega)
    have e2 : cat S G K = 0 := by unfold cat; rw [if_neg (by omega)]
    rw [hlk (by omega), e1, e2]
    have d1 : decide (1000 < (n : Int)) = true := by simp; omega
    clear hS hG hK e1 e2 hlk
    go_enter Tryd.func9, Tryd.ntmps9
    go_wp2_with fail
    go_ret3
    exact ⟨_, rfl, World.ownsRow_nil _ _ _ _, Below.refl _ _⟩
  have d1 : decide (1000 < (n : Int)) = false := by simp; omega
  by_cases h2 : 1000 < m
  · have e1 : cfault S G K = 4 := cfault_full (by omega)
    have e2 : cat S G K = 0 := by unfold cat; rw [if_neg (by omega)]
    rw [hlk (by omega), e1, e2]
    have d2 : decide (1000 < (m : Int)) = true := by simp; omega
    clear hS hG hK e1 e2 hlk
    go_enter Tryd.func9, Tryd.ntmps9
    go_wp2_with fail
    go_ret3
    exact ⟨_, rfl, World.ownsRow_nil _ _ _ _, Below.refl _ _⟩
  have d2 : decide (1000 < (m : Int)) = false := by simp; omega
  have HK := hidden hK
  have HF5 : Hid (K < m → cfault S G K = 5 ∧ cat S G K = K ∧ lk S G K = []) := fun h => by
    have e1 : cfault S G K = 5 := cfault_none (by omega) (by omega)
    exact ⟨e1, by unfold cat; rw [if_pos e1], hlk (by omega)⟩
  have HF0 : Hid (¬ K < m → cfault S G K = 0 ∧ cat S G K = 0 ∧ lk S G K = pls S G K) := fun h => by
    have e1 : cfault S G K = 0 := cfault_ok (by omega) (by omega)
    exact ⟨e1, by unfold cat; rw [if_neg (by omega)], by unfold lk; rw [if_pos e1]⟩
  generalize cfault S G K = f at *
  generalize cat S G K = ct at *
  generalize lk S G K = LK at *
  obtain ⟨i0, hii, hz0, hz1, hz2⟩ := info_parts info3
  have HT0 : Hid (TSt w w (pls S G 0) (.slice none 0 0)) := ⟨Below.refl _ _, World.ownsRow_nil _ _ _ _⟩
  clear hS hG hK hlk
  go_enter Tryd.func9, Tryd.ntmps9
  go_wp2_with fail
  go_loopg [7, 8, 9] m (fun g u y x wr => ∃ (i nx : Nat) (v : Value), i + g = m ∧ i ≤ K ∧ v = u ∧ nx ≤ n ∧ y = .int .i64 (nx : Int) ∧ x = .int .i64 (i : Int) ∧ Hid (nxt S G i = nx) ∧ Hid (TSt w wr (pls S G i) v))
  case atStart => exact ⟨0, 0, _, by omega, by omega, rfl, by omega, rfl, rfl, rfl, HT0⟩
  case round =>
    obtain ⟨i, nx, v, hig, hiK, rfl, hnx, rfl, rfl, HX, HT⟩ := hrel
    clear HT0
    by_cases hi : i < m
    case neg =>
      have hiz : ¬ (i : Int) < (m : Int) := by omega
      have HKi : Hid (K = i) := by unfold Hid; have := HK.out.hk; omega
      have HE := hidden (HF0.out (by have := HKi.out; omega))
      go_wp2_with fail
      go_ret3
      exact ⟨v, by rw [HE.out.1, HE.out.2.1]; rfl, by rw [HE.out.2.2, HKi.out]; exact HT.out.own, HT.out.below⟩
    case pos =>
    have hiz : (i : Int) < (m : Int) := by omega
    obtain ⟨b, o, rfl, hcs⟩ := (HG.out.below HT.out.below).at (by omega)
    obtain ⟨⟨c0, c1, c2, c3, c4, c5⟩, hok⟩ := hcs i hi
    have hst := nxt_succ S G i
    have hpe := pl_eq S G i
    obtain ⟨p, hp⟩ : ∃ p, G.getD i noPk = p := ⟨_, rfl⟩
    rw [hp] at c0 c1 c2 c3 c4 c5 hok hst hpe
    clear hp hcs
    have hfl := fi_le (like p) (S.drop nx)
    rw [List.length_drop, hl] at hfl
    rw [HX.out] at hst hpe
    obtain ⟨F, hF⟩ : ∃ F, fi (like p) (S.drop nx) + nx = F := ⟨_, rfl⟩
    have HSt : Hid (nxt S G (i + 1) = F + 1) := by unfold Hid; omega
    have HPl : Hid (pl S G i = F) := by unfold Hid; omega
    have hFn : F ≤ n := by omega
    have hFx : nx ≤ F := by omega
    have HF := hidden hF
    obtain ⟨w1, hw1⟩ : ∃ w1, wr.alloc (.cells #[.int .i64 p.s, .int .i64 p.t, .int .i64 p.l, .int .i64 p.q, .bool p.st, .slice p.a p.m p.c] 27) = w1 := ⟨_, rfl⟩
    obtain ⟨xb, hxb⟩ : ∃ xb, wr.heap.size = xb := ⟨_, rfl⟩
    have HP1 : Hid (PSt w w1 (pls S G i) v xb p) := by
      have hb : Below wr.heap.size wr w1 := by rw [← hw1]; exact (Below.refl _ _).alloc (Nat.le_refl _) _
      refine ⟨HT.out.go hb, ?_, hok.below hb⟩
      rw [← hw1, ← hxb]
      exact Box.new wr _ _ _ _ _ _
    have HW1 := hidden hw1
    have HXb := hidden hxb
    clear hst hpe hF hok hfl hw1 hxb HT
    go_wp2_with fail
    rw [HXb.out, HW1.out]
    clear HXb HW1 c0 c1 c2 c3 c4 c5
    go_loopg [8] (n - nx) (fun g u wq => ∃ k : Nat, k + g = n ∧ u = .int .i64 (k : Int) ∧ Hid (fi (like p) (S.drop k) + k = F) ∧ Hid (PSt w wq (pls S G i) v xb p))
    case atStart => exact ⟨nx, by omega, rfl, HF, HP1⟩
    case round =>
    obtain ⟨k, hkg, rfl, HFk, HPk⟩ := hrel
    clear HP1
    obtain ⟨bx, hbx⟩ : ∃ bx, (decide (k < n) && !like p (S.getD k noPk)) = bx := ⟨_, rfl⟩
    have HBx := hidden hbx
    clear hbx
    go_upto_region 9 with fail
    go_cut [74] from 29 to 74 (fun cc wx => cc = .bool bx ∧ Hid (PSt w wx (pls S G i) v xb p))
    case first =>
      by_cases hk : k < n
      case neg =>
        have hkz : ¬ (k : Int) < (n : Int) := by omega
        have dk : decide ((k : Int) < (n : Int)) = false := by simpa using hkz
        have HB0 : Hid (bx = false) := by rw [← HBx.out, decide_eq_false hk]; rfl
        go_quiet (fail)
        go_wp2_with fail
        go_meet
        exact ⟨by rw [HB0.out], HPk.out.go (below_drewN (Below.refl _ _) _)⟩
      case pos =>
      have hkz : (k : Int) < (n : Int) := by omega
      have dk : decide ((k : Int) < (n : Int)) = true := by simpa using hkz
      obtain ⟨sb, so, rfl, hcs⟩ := (HS.out.below HPk.out.t.below).at (by omega)
      obtain ⟨⟨c0, c1, c2, c3, c4, c5⟩, hok⟩ := hcs k hk
      obtain ⟨x0, x1, x2, x3, x4, x5⟩ := HPk.out.b.1.cells
      have hpo := HPk.out.b.2
      have HBb : Hid (bx = !like p (S.getD k noPk)) := by rw [← HBx.out, decide_eq_true hk]; rfl
      generalize S.getD k noPk = o at *
      obtain ⟨os, ot, ol, oq, ost, oa, om, oc, oL⟩ := o
      obtain ⟨ps, pt, pl', pq, pst, pa, pm, pcc, pL⟩ := p
      have hlike : like ⟨ps, pt, pl', pq, pst, pa, pm, pcc, pL⟩ ⟨os, ot, ol, oq, ost, oa, om, oc, oL⟩ = (decide (pl' = ol) && (decide (pq = oq) && (decide (pst = ost) && decide (pL = oL)))) := rfl
      rw [hlike] at HBb
      simp only at c0 c1 c2 c3 c4 c5 x0 x1 x2 x3 x4 x5
      have k1 : ∀ nn, (convert 25 9 (.slice oa om oc)).run Tryd.prog (wr.drewN nn) = .ok (.string (str oL)) (wr.drewN nn) := fun nn => str_of (hok.below (below_drewN (Below.refl _ _) nn))
      have k2 : ∀ nn, (convert 25 9 (.slice pa pm pcc)).run Tryd.prog (wr.drewN nn) = .ok (.string (str pL)) (wr.drewN nn) := fun nn => str_of (hpo.below (below_drewN (Below.refl _ _) nn))
      have hs : ((str oL).toList == (str pL).toList) = decide (oL = pL) := str_eq hok.1.1 hpo.1.1
      have hs2 : decide (oL = pL) = decide (pL = oL) := by by_cases h : oL = pL <;> simp [h]; exact fun e => h e.symm
      rw [hs2] at hs
      have HStr := hidden hs
      generalize str oL = T1 at *
      generalize str pL = T2 at *
      clear hcs hok hpo hlike hs hs2
      by_cases h1 : ol = pl'
      case neg =>
        have e1 : (ol != pl') = true := by simpa using h1
        have HB0 : Hid (bx = true) := by rw [HBb.out, decide_eq_false (fun e => h1 e.symm)]; rfl
        clear h1
        go_quiet (fail)
        go_wp2_with fail
        go_meet
        exact ⟨by rw [HB0.out], HPk.out.go (below_drewN (Below.refl _ _) _)⟩
      case pos =>
      have e1 : (ol != pl') = false := by simpa using h1
      by_cases h2 : oq = pq
      case neg =>
        have e2 : (oq != pq) = true := by simpa using h2
        have HB0 : Hid (bx = true) := by rw [HBb.out, decide_eq_true h1.symm, decide_eq_false (fun e => h2 e.symm)]; rfl
        clear h1 h2
        go_quiet (fail)
        go_wp2_with fail
        go_meet
        exact ⟨by rw [HB0.out], HPk.out.go (below_drewN (Below.refl _ _) _)⟩
      case pos =>
      have e2 : (oq != pq) = false := by simpa using h2
      cases ost <;> cases pst
      · have HB0 : Hid (bx = !(T1.toList == T2.toList)) := by rw [HBb.out, decide_eq_true h1.symm, decide_eq_true h2.symm, HStr.out]; rfl
        clear h1 h2
        go_quiet (fail)
        go_wp2_with fail
        go_meet
        exact ⟨by rw [HB0.out], HPk.out.go (below_drewN (Below.refl _ _) _)⟩
      · have HB0 : Hid (bx = true) := by rw [HBb.out, decide_eq_true h1.symm, decide_eq_true h2.symm]; rfl
        clear h1 h2
        go_quiet (fail)
        go_wp2_with fail
        go_meet
        exact ⟨by rw [HB0.out], HPk.out.go (below_drewN (Below.refl _ _) _)⟩
      · have HB0 : Hid (bx = true) := by rw [HBb.out, decide_eq_true h1.symm, decide_eq_true h2.symm]; rfl
        clear h1 h2
        go_quiet (fail)
        go_wp2_with fail
        go_meet
        exact ⟨by rw [HB0.out], HPk.out.go (below_drewN (Below.refl _ _) _)⟩
      · have HB0 : Hid (bx = !(T1.toList == T2.toList)) := by rw [HBb.out, decide_eq_true h1.symm, decide_eq_true h2.symm, HStr.out]; rfl
        clear h1 h2
        go_quiet (fail)
        go_wp2_with fail
        go_meet
        exact ⟨by rw [HB0.out], HPk.out.go (below_drewN (Below.refl _ _) _)⟩
    case rest =>
    obtain ⟨rfl, HPc⟩ := hcut
    obtain ⟨wa, rfl⟩ : ∃ x, x = wc := ⟨_, rfl⟩
    clear HPk
    cases bx with
    | true =>
      have hb := HBx.out
      simp only [Bool.and_eq_true, decide_eq_true_eq, Bool.not_eq_true'] at hb
      have hkn : k < n := hb.1
      have HFn : Hid (fi (like p) (S.drop (k + 1)) + (k + 1) = F) := by
        have h := HFk.out
        rw [drop_cons (d := noPk) (by omega), fi, if_neg (by rw [hb.2]; simp)] at h
        unfold Hid
        omega
      clear hb
      go_wp2_with fail
      go_roundg (n - (k + 1))
      case measure => omega
      case rel => exact ⟨k + 1, by omega, by go_num, HFn, HPc⟩
    | false =>
    have hkF : k = F := by
      have hb := HBx.out
      have h := HFk.out
      by_cases hk : k < n
      · rw [decide_eq_true hk] at hb
        have hl2 : like p (S.getD k noPk) = true := by simpa using hb
        rw [drop_cons (d := noPk) (by omega), fi, if_pos hl2] at h
        omega
      · rw [List.drop_eq_nil_of_le (by omega), fi] at h
        omega
    subst hkF
    by_cases hkn : k = n
    · have dk : ((k : Int) == (n : Int)) = true := by simp; omega
      have HKi : Hid (K = i) := by
        unfold Hid
        rcases Nat.lt_or_ge i K with h | h
        · have := HK.out.lt h
          rw [HSt.out] at this
          omega
        · omega
      have HE := hidden (HF5.out (by have := HKi.out; omega))
      clear hkn
      go_wp2_with fail
      go_ret3
      exact ⟨_, by rw [HE.out.1, HE.out.2.1, HKi.out]; rfl, by rw [HE.out.2.2]; exact World.ownsRow_nil _ _ _ _, HPc.out.t.below⟩
    · have dk : ((k : Int) == (n : Int)) = false := by simp; omega
      have hKi : i < K := by
        rcases Nat.lt_or_ge i K with h | h
        · exact h
        · have e : K = i := by omega
          have := HK.out.he (by omega)
          rw [e, HSt.out] at this
          omega
      have hlen := pls_len S G i
      have hkn' : k < n := by omega
      clear hkn
      go_wp2_with (at_builtin; refine wpList_append_own _ rfl _ _ 23 rfl w.heap.size 3 i0 _ 1 8 Tryd.underlying23 hii hz0 hz1 hz2 rfl (by decide) _ (pls S G i).length (ic (pls S G i)) rfl (HPc.out.t.own.alloc _) ⟨wa.heap.size, 0, none⟩ 1 1 [.int .i64 (k : Int)] rfl rfl ?cc ?one ?b1 ?b2 ?b3 ?next)
      case cc => exact lit1 _
      case one => simp [Value.oneCell']
      case b1 => unfold maxLen; omega
      case b2 => omega
      case b3 => have := HPc.out.t.below.size; simp; omega
      case next =>
      intro v3 w' hown hgrow _
      have HTn : Hid (TSt w w' (pls S G (i + 1)) v3) := by
        have hs := HPc.out.t.below.size
        refine ⟨(HPc.out.t.below.alloc hs _).grown hgrow (by simp; omega) (fun j hj => (HPc.out.t.own.lt j hj).1), ?_⟩
        rw [pls_succ, List.length_append, HPl.out]
        have e : ic (pls S G i ++ [(k : Int)]) = ic (pls S G i) ++ [.int .i64 (k : Int)] := by simp [ic]
        rw [e, List.length_singleton, hlen]
        exact hown
      clear hown hgrow
      go_wp2_with fail
      go_roundg (m - (i + 1))
      case measure => omega
      case rel => exact ⟨i + 1, k + 1, v3, by omega, by omega, rfl, by omega, by go_num, by go_num, HSt, HTn⟩
end Go.Proofs.YtjnkgbdpacdgpaaDoor.Audit

