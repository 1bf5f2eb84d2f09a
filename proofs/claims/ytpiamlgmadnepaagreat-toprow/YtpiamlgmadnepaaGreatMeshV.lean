/-
  Packets on their way down: what lands, what is sent, and the end of it. Of numbers and lists alone; no walk.
-/
import Derived.Test.YtpiamlgmadnepaaGreatMeshU
namespace Go.Proofs.YtpiamlgmadnepaaGreat.MS
open Go.ChangeShapes Go.WideShapes Go.ChangeAt Go.RowKit Go.Maps Go.Proofs.YtpiamlgmadnepaaGreat.Mem Go.Proofs.YtpiamlgmadnepaaGreat.NO Go.Proofs.YtpiamlgmadnepaaGreat.ND
set_option linter.unusedVariables false

theorem updN_twice {α : Type} (f : Nat → α) (i : Nat) (x y : α) : updN (updN f i x) i y = updN f i y := by
  funext k
  by_cases c : k = i
  · subst c; rw [updN_at, updN_at]
  · rw [updN_ne _ _ c, updN_ne _ _ c, updN_ne _ _ c]
theorem out_is (M : Ms) (F : List Fl) (v : Nat) (N : Nd) : ({ M with fl := F, nd := updN M.nd v N } : Ms).out v = { M with fl := F ++ outs v N.lt, nd := updN M.nd v { N with lt := [] } } := by
  unfold Ms.out outs
  simp only [updN_at, updN_twice]
theorem Pipe.land {Q : Plan} (hQ : Q.Ok) {h : Nat → Nat → Nat} {X : List Fy} {x : Fy} {M : Ms} (hP : Pipe Q h (x :: X) M) :
    ∃ m, Lands M (Q.frm x) m ∧ ∀ bv, Pipe Q (upH h x.k x.v) (X ++ Q.news x.k x.v (h x.k x.v)) (M.land 0 (Q.frm x) m bv) := by
  obtain ⟨k, v, i⟩ := x
  obtain ⟨hk, hv, hon, hpa⟩ := hP.xs _ (List.mem_cons_self ..)
  simp only at hk hv hon hpa ⊢
  have hT := hQ.tr k hk hon
  obtain ⟨u, hu⟩ : ∃ u : Nat, TM.dg (Q.p k) v = (u : Int) := ⟨(TM.dg (Q.p k) v).toNat, by omega⟩
  obtain ⟨d1, d2, d3, d4, d5⟩ := hT.down hv hu
  obtain ⟨f1, f2⟩ := hP.fi k hk hon v hv u hu
  have his : Fy.is k v ⟨k, v, i⟩ = true := by simp [Fy.is]
  rw [List.filter_cons_of_pos his, List.map_cons] at f2
  obtain ⟨m, hm⟩ : ∃ m, h k u - h k v = m + 1 := by
    cases e : h k u - h k v with
    | zero => rw [e] at f2; simp at f2
    | succ m => exact ⟨m, rfl⟩
  rw [hm, List.range'_succ] at f2
  injection f2 with f3 f4
  have f3 : i = h k v := f3
  subst f3
  have hi : h k v < Q.mx k := by have := hP.le k hk u; omega
  have hat : Q.at k v = true := Plan.at_iff.2 ⟨hon, d1⟩
  obtain ⟨t, ht, hH⟩ := hP.tr v hv k hk hat
  have hvn : v < M.n := by rw [hP.n]; exact hv
  obtain ⟨kN, kL, kW, kI⟩ := hP.ok.nd v hvn
  have hpk := hQ.pk k hk (h k v) hi
  have hdp := hT.dp_step hv d3 hu
  have hkt : (((k : Int) + 1) - 1).toNat = k := by omega
  have hatt : (M.nd v).at ((k : Int) + 1) = some t := by unfold Nd.at; rw [hkt]; exact ht
  obtain ⟨pk, hpe⟩ : ∃ pk, Q.pk k (h k v) = pk := ⟨_, rfl⟩
  have hfrm : Q.frm ⟨k, v, h k v⟩ = ⟨(u : Int), (v : Int), Q.byt k u (h k v)⟩ := by
    unfold Plan.frm
    simp only [hu, Int.toNat_natCast]
  rw [hfrm]
  have hL : Lands M ⟨(u : Int), (v : Int), Q.byt k u (h k v)⟩ (.fr ((k : Int) + 1) (Q.rt k : Int) 1 (dp (Q.p k) Q.n u : Int) (Q.pk k (h k v))) := by
    refine ⟨?_, ?_, rfl, ⟨by omega, by omega, frame_ok hQ hk hon hi, hpk.f, hpk.b⟩, ?_⟩
    · show (0 : Int) ≤ (v : Int); omega
    · show (v : Int) < (M.n : Int); omega
    · exact ⟨t, by show (M.nd (v : Int).toNat).at _ = _; rw [Int.toNat_natCast]; exact hatt⟩
  refine ⟨_, hL, fun bv => ?_⟩
  have hmok := hP.ok.land (i := 0) hL bv
  have hO : TrOk Q.n (M.nd v).nw k t := by rw [← hP.n]; exact kN.tr k hk t ht
  rw [hpe] at hpk hmok ⊢
  obtain ⟨n1, n2, n3⟩ := hH.hear hO kW hP.ok.nw.2 hpk.lt (pk.lies bv) hpk.num ((Q.rt k : Int), (dp (Q.p k) Q.n u : Int) + 1)
  have hF : FM.ffault t.tk (Q.rt k : Int) t.ep ((dp (Q.p k) Q.n u : Int) + 1) (pby (pk.lies bv).s (pk.lies bv).t (pk.lies bv).l (pk.lies bv).q (pk.lies bv).st (pk.lies bv).L) = 0 := by
    have := frame_ok hQ (u := v) hk hon hi
    rw [hpe, hdp] at this
    rw [hH.tk, hH.ep]
    exact this
  have hr : hrF t (u : Int) 1 = 0 := by
    unfold hrF
    rw [if_neg]
    rw [hH.pa, hu, hH.ep]
    omega
  have e : M.land 0 ⟨(u : Int), (v : Int), Q.byt k u (h k v)⟩ (.fr ((k : Int) + 1) (Q.rt k : Int) 1 (dp (Q.p k) Q.n u : Int) pk) bv = { M with fl := (X ++ Q.news k v (h k v)).map Q.frm, nd := updN M.nd v (nextsN (M.nd v) k t (pk.lies bv) ((Q.rt k : Int), (dp (Q.p k) Q.n u : Int) + 1) M.nw) } := by
    unfold Ms.land
    simp only [Int.toNat_natCast]
    rw [hear_fr hatt, if_pos hr, hkt, tookG_yes n2 hF, out_is]
    have hfl : M.fl.eraseIdx 0 = X.map Q.frm := by rw [hP.fl]; rfl
    rw [hfl, List.map_append, news_frm]
    have hlt : outs v ((M.nd v).lt ++ t.kids.map fun c => (c, fby t.tk (Q.rt k : Int) t.ep ((dp (Q.p k) Q.n u : Int) + 1) (pby (pk.lies bv).s (pk.lies bv).t (pk.lies bv).l (pk.lies bv).q (pk.lies bv).st (pk.lies bv).L))) = (TM.kd (Q.p k) (v : Int) Q.n).map fun c => (⟨(v : Int), c, Q.byt k v (h k v)⟩ : Fl) := by
      unfold outs
      rw [kL, List.nil_append, List.map_map, hH.kids, hH.tk, hH.ep]
      refine List.map_congr_left ?_
      intro c hc
      show (⟨(v : Int), c, _⟩ : Fl) = ⟨(v : Int), c, _⟩
      congr 1
      unfold Plan.byt
      rw [hdp, hpe]
      rfl
    show ({ M with fl := X.map Q.frm ++ outs v ((M.nd v).lt ++ t.kids.map fun c => (c, fby t.tk (Q.rt k : Int) t.ep ((dp (Q.p k) Q.n u : Int) + 1) (pby (pk.lies bv).s (pk.lies bv).t (pk.lies bv).l (pk.lies bv).q (pk.lies bv).st (pk.lies bv).L))), nd := _ } : Ms) = _
    rw [hlt]
    rfl
  rw [e] at hmok ⊢
  refine hP.step hQ hk hv hat ht hi (p := pk.lies bv) hpe.symm hmok rfl rfl rfl rfl ?_ ?_
  · intro x hx
    rcases List.mem_append.1 hx with hx | hx
    · exact hP.xs x (List.mem_cons_of_mem _ hx)
    · obtain ⟨g1, g2, g3, g4⟩ := news_mem hx
      rw [g1]
      exact ⟨hk, g2, hon, by rw [g3]; omega⟩
  · refine fi_step hv hQ.tr ?_ ?_
    · intro k' hk' ho' v' hv' hne u' hu'
      obtain ⟨q1, q2⟩ := hP.fi k' hk' ho' v' hv' u' hu'
      rw [List.filter_cons_of_neg (by simp [Fy.is]; intro a b; exact hne ⟨a.symm, b.symm⟩)] at q2
      exact ⟨q1, q2⟩
    · intro u' hu'
      have : u' = u := by omega
      subst this
      refine ⟨by omega, ?_⟩
      rw [f4]
      congr 1
      omega
theorem Pipe.send {Q : Plan} (hQ : Q.Ok) {h : Nat → Nat → Nat} {X : List Fy} {M : Ms} (hP : Pipe Q h X M) {k : Nat} (hk : k < 8) (hon : Q.on k = true) (hi : h k (Q.rt k) < Q.mx k) {t : Tr} (ht : (M.nd (Q.rt k)).tr k = some t) {p : RM.Pk} (hp : ppk p = Q.pk k (h k (Q.rt k))) :
    Pipe Q (upH h k (Q.rt k)) (X ++ Q.news k (Q.rt k) (h k (Q.rt k))) (M.send k (Q.rt k) t p) := by
  obtain ⟨v, hve⟩ : ∃ v, Q.rt k = v := ⟨_, rfl⟩
  have hT := hQ.tr k hk hon
  have hv : v < Q.n := by rw [← hve]; exact hT.rn
  have hpv : TM.dg (Q.p k) v = -1 := by rw [← hve]; exact hT.root_pa
  have hd0 : TM.dg (Q.d k) v = 0 := by rw [← hve]; exact hT.root_d
  have hdp : dp (Q.p k) Q.n v = 1 := hT.dp_root hv hpv
  rw [hve] at hi ht hp ⊢
  have hat : Q.at k v = true := Plan.at_iff.2 ⟨hon, by omega⟩
  obtain ⟨t', ht', hH⟩ := hP.tr v hv k hk hat
  rw [ht] at ht'
  cases ht'
  have hvn : v < M.n := by rw [hP.n]; exact hv
  obtain ⟨kN, kL, kW, kI⟩ := hP.ok.nd v hvn
  have hpk := hQ.pk k hk (h k v) hi
  have hO : TrOk Q.n (M.nd v).nw k t := by rw [← hP.n]; exact kN.tr k hk t ht
  have hmok := hP.ok.send hk hvn ht (p := p) (by rw [← hp] at hpk; exact hpk.f)
  rw [← hp] at hpk
  obtain ⟨n1, n2, n3⟩ := hH.hear hO kW hP.ok.nw.2 hpk.lt p hpk.num ((v : Int), 1)
  have hF : FM.ffault t.tk (v : Int) t.ep 1 (pby p.s p.t p.l p.q p.st p.L) = 0 := by
    have := frame_ok hQ (u := v) hk hon hi
    rw [← hp, hdp, hve] at this
    rw [hH.tk, hH.ep]
    exact this
  have e : M.send k v t p = { M with fl := (X ++ Q.news k v (h k v)).map Q.frm, nd := updN M.nd v (nextsN (M.nd v) k t p ((v : Int), 1) M.nw) } := by
    unfold Ms.send
    rw [kI, tookG_yes n2 hF]
    have := out_is M M.fl v ({ ({ M.nd v with nw := M.nw } : Nd) with tr := updR (M.nd v).tr k ((t.heard (num t.rT p.s) M.nw).keep (num t.rT p.s) p ((v : Int), 1)), lt := (M.nd v).lt ++ t.kids.map (fun c => (c, fby t.tk (v : Int) t.ep 1 (pby p.s p.t p.l p.q p.st p.L))), sb := selS t.tk (fun s => s.push (num t.rT p.s) M.nw (ppk p)) (M.nd v).sb } : Nd)
    refine this.trans ?_
    rw [hP.fl, List.map_append, news_frm]
    have hlt : outs v ((M.nd v).lt ++ t.kids.map fun c => (c, fby t.tk (v : Int) t.ep 1 (pby p.s p.t p.l p.q p.st p.L))) = (TM.kd (Q.p k) (v : Int) Q.n).map fun c => (⟨(v : Int), c, Q.byt k v (h k v)⟩ : Fl) := by
      unfold outs
      rw [kL, List.nil_append, List.map_map, hH.kids, hH.tk, hH.ep]
      refine List.map_congr_left ?_
      intro c hc
      show (⟨(v : Int), c, _⟩ : Fl) = ⟨(v : Int), c, _⟩
      congr 1
      unfold Plan.byt
      rw [hdp, ← hp, hve]
      rfl
    show ({ M with fl := X.map Q.frm ++ outs v ((M.nd v).lt ++ t.kids.map fun c => (c, fby t.tk (v : Int) t.ep 1 (pby p.s p.t p.l p.q p.st p.L))), nd := _ } : Ms) = _
    rw [hlt]
    rfl
  rw [e] at hmok ⊢
  refine hP.step hQ hk hv hat ht hi hp hmok rfl rfl rfl rfl ?_ ?_
  · intro x hx
    rcases List.mem_append.1 hx with hx | hx
    · exact hP.xs x hx
    · obtain ⟨g1, g2, g3, g4⟩ := news_mem hx
      rw [g1]
      exact ⟨hk, g2, hon, by rw [g3]; omega⟩
  · refine fi_step hv hQ.tr ?_ ?_
    · intro k' hk' ho' v' hv' hne u' hu'
      exact hP.fi k' hk' ho' v' hv' u' hu'
    · intro u' hu'
      omega
end Go.Proofs.YtpiamlgmadnepaaGreat.MS

