/-
  A subscriber, behind what it is pushed and pops: as numbers and lists; and what of it changes in memory. Of lists and worlds alone; no walk.
-/
import Derived.Test.YtpiamlgmadnepaaGreatNodeH
import Derived.Test.YtpiamlgmadnepaaGreatOrderE
import Derived.Test.YtpiamlgmadnepaaGreatLayerC
import Derived.Test.YtpiamlgmadnepaaGreatOutC
namespace Go.Proofs.YtpiamlgmadnepaaGreat.ND
open Go.ChangeShapes Go.WideShapes Go.ChangeAt Go.RowKit Go.Maps Go.Proofs.YtpiamlgmadnepaaGreat.Mem Go.Proofs.YtpiamlgmadnepaaGreat.NO
set_option linter.unusedVariables false

/-- the fault of an item's packet -/
def ifl (i : OM.Kp) : Nat := PM.fault i.p.s i.p.t i.p.l i.p.q i.p.L.length
/-- does it go through -/
def Sb.thru (s : Sb) (i : OM.Kp) : Bool := LM.tkx s.mo s.ln s.la i.n s.br i.g (ifl i) i.p.l i.p.st
/-- behind Take -/
def Sb.laid (s : Sb) (i : OM.Kp) : Sb := { s with ln := LM.tkN s.mo s.ln s.la i.n s.br i.g (ifl i) i.p.l i.p.st, la := LM.tkL s.la i.n i.g (ifl i), br := LM.tkB s.mo s.ln s.la i.n s.br i.g (ifl i) i.p.l i.p.st }
/-- as it goes out -/
def Sb.outp (s : Sb) (i : OM.Kp) : Pk := ⟨UM.sq 0 s.uk, UM.nt s.uk s.uT s.uy s.uo i.p.l i.p.t, i.p.l, i.p.q, i.p.st, i.p.L⟩
/-- behind Next -/
def Sb.next (s : Sb) (i : OM.Kp) : Sb := { s with uk := s.uk + 1, uT := UM.nt s.uk s.uT s.uy s.uo i.p.l i.p.t, uy := i.p.l, uo := i.p.t }
/-- behind an item -/
def Sb.item (s : Sb) (i : OM.Kp) : Sb := if s.thru i then { (s.laid i).next i with got := s.got ++ [s.outp i] } else s.laid i
def Sb.popped (s : Sb) (now : Int) (K : Nat) : Sb := { s with on := Order.qW s.on now, ox := s.ox + (K : Int), oM := OM.rest s.oM (s.ox + (K : Int)) }
/-- behind Pop of so many -/
def Sb.pop (s : Sb) (now : Int) (K : Nat) : Sb := (OM.takes s.oM s.ox K).foldl Sb.item (s.popped now K)
/-- behind Push -/
def Sb.pushed (s : Sb) (y now : Int) (p : Pk) : Sb :=
  { s with on := OM.pW s.on s.ox y now (PM.fault p.s p.t p.l p.q p.L.length), ox := OM.pX s.on s.ox y now (PM.fault p.s p.t p.l p.q p.L.length), oM := OM.pM s.on s.ox y now s.oM (PM.fault p.s p.t p.l p.q p.L.length) ⟨p.s, p.t, p.l, p.q, p.st, p.L, .slice none 0 0⟩ }
theorem sk_n (i : OM.Kp) : (sk i).n = i.n := rfl
theorem has_sk (M : OM.Its) (y : Int) : OM.has (M.map sk) y = OM.has M y := by
  unfold OM.has
  rw [List.any_map]
  rfl
theorem itm_sk (M : OM.Its) (y : Int) : OM.itm (M.map sk) y = sk (OM.itm M y) := by
  unfold OM.itm
  rw [List.find?_map]
  have e : ((fun i : OM.Kp => i.n == y) ∘ sk) = fun i : OM.Kp => i.n == y := rfl
  rw [e]
  cases M.find? fun i => i.n == y <;> rfl
theorem takes_sk (M : OM.Its) (x : Int) (K : Nat) : OM.takes (M.map sk) x K = (OM.takes M x K).map sk := by
  unfold OM.takes
  rw [List.map_map]
  refine List.map_congr_left fun j _ => ?_
  exact itm_sk M _
theorem rest_sk (M : OM.Its) (x : Int) : OM.rest (M.map sk) x = (OM.rest M x).map sk := by
  unfold OM.rest
  rw [List.filter_map]
  rfl
theorem goes_sk (M : OM.Its) (od x : Int) : OM.goes (M.map sk) od x = OM.goes M od x := by unfold OM.goes; rw [has_sk]
theorem od_sk {wt now od : Int} {M : OM.Its} (h : OM.Od wt now (M.map sk) od) : OM.Od wt now M od := by
  refine ⟨h.low, fun i hi hl => h.all (sk i) (List.mem_map.2 ⟨i, hi, rfl⟩) hl, ?_⟩
  rcases h.one with e | ⟨i, hi, hl, e⟩
  · exact .inl e
  · obtain ⟨j, hj, rfl⟩ := List.mem_map.1 hi
    exact .inr ⟨j, hj, hl, e⟩
theorem many_sk {wt nw nx now : Int} {M : OM.Its} {K : Nat} (h : Order.Many wt nw nx now (M.map sk) K) : Order.Many wt nw nx now M K := by
  refine ⟨h.le, fun ht => ?_, h.no⟩
  obtain ⟨od, h1, h2⟩ := h.yes ht
  exact ⟨od, od_sk h1, fun j hj => by rw [← goes_sk]; exact h2.all j hj, by rw [← goes_sk]; exact h2.stop⟩
theorem inv_sk {nw nx : Int} {M : OM.Its} (h : OM.Inv nw nx (M.map sk)) : OM.Inv nw nx M := by
  refine ⟨h.c1, h.c2, h.x1, h.x2, fun i hi => h.mem (sk i) (List.mem_map.2 ⟨i, hi, rfl⟩), ?_, fun e => ?_⟩
  · have := h.one
    unfold OM.Apart at this
    rw [List.pairwise_map] at this
    exact this
  · have := h.non e
    exact List.map_eq_nil_iff.1 this
theorem pM_sk (nw nx y now : Int) (M : OM.Its) (f : Nat) (p : OM.Pk) : (OM.pM nw nx y now M f p).map sk = OM.pM nw nx y now (M.map sk) f ⟨p.s, p.t, p.l, p.q, p.st, p.L, .slice none 0 0⟩ := by
  unfold OM.pM OM.px OM.kx
  rw [has_sk]
  split
  · rw [List.map_append]
    rfl
  · rfl
theorem Sb.item_sk (s : Sb) (i : OM.Kp) : s.item (sk i) = s.item i := rfl
/-- what a subscriber may be -/
structure SbI (s : Sb) : Prop where
  oi : OM.Inv s.on s.ox s.oM
  ui : UM.Inv 0 s.uk s.uT s.uo
/-- two blocks of different sorts -/
theorem ne_sort {w : World} {a b : Nat} {c d : Array Value} {t u : TypeId} {f g : Nat × Nat} (h : w.heap[a]? = some (.cells c t f)) (k : w.heap[b]? = some (.cells d u g)) (hne : t ≠ u) : a ≠ b := by
  intro e
  rw [e, k] at h
  simp only [Option.some.injEq, Obj.cells.injEq] at h
  exact hne h.2.1.symm
theorem ne_map {w : World} {a b : Nat} {c : Array Value} {t : TypeId} {f : Nat × Nat} (h : w.heap[a]? = some (.cells c t f)) (k : ∃ es n, w.heap[b]? = some (.map es n)) : a ≠ b := by
  obtain ⟨es, n, k⟩ := k
  intro e
  rw [e, k] at h
  simp at h
theorem got_block {w : World} {base n g e s : Nat} {v : Value} {xs : List Value} (h : w.ownsRow base e s v n xs) (hg : v.ownBlock = some g) : ∃ cs, w.heap[g]? = some (.cells cs e (0, 0)) := by
  rcases h.2 with ⟨rfl, _⟩ | ⟨g', cap, cur, rfl, _, hb, _⟩
  · simp [Value.ownBlock] at hg
  · simp [Value.ownBlock] at hg
    subst hg
    exact ⟨_, hb⟩
structure SbSep (P : SP) : Prop where
  so : P.s ≠ P.ob
  sm : P.s ≠ P.om
  sl : P.s ≠ P.lb
  su : P.s ≠ P.ub
  om : P.ob ≠ P.om
  ol : P.ob ≠ P.lb
  ou : P.ob ≠ P.ub
  ml : P.om ≠ P.lb
  mu : P.om ≠ P.ub
  lu : P.lb ≠ P.ub
  gv : ∀ k, P.gv.ownBlock = some k → k ≠ P.s ∧ k ≠ P.ob ∧ k ≠ P.om ∧ k ≠ P.lb ∧ k ≠ P.ub
theorem SbAt.sep {w : World} {o : Nat → Tg} {P : SP} {s : Sb} (h : SbAt w o P s) : SbSep P := by
  obtain ⟨M', _, hO⟩ := h.ord
  obtain ⟨D, hm, _, _⟩ := hO.map
  have hM := RM.map_block hm
  refine ⟨ne_sort h.box hO.box (by decide), ne_map h.box hM, ne_sort h.box h.lay (by decide), ne_sort h.box h.out (by decide), ne_map hO.box hM, ne_sort hO.box h.lay (by decide), ne_sort hO.box h.out (by decide), fun e => ne_map h.lay hM e.symm, fun e => ne_map h.out hM e.symm, ne_sort h.lay h.out (by decide), fun k hk => ?_⟩
  obtain ⟨X, _, h2, _⟩ := h.got
  obtain ⟨cs, hc⟩ := got_block h2 hk
  exact ⟨ne_sort hc h.box (by decide), ne_sort hc hO.box (by decide), ne_map hc hM, ne_sort hc h.lay (by decide), ne_sort hc h.out (by decide)⟩
theorem SbAt.nob {w : World} {o : Nat → Tg} {P : SP} {s : Sb} (h : SbAt w o P s) : Nob w (sblks P) := by
  obtain ⟨M', _, hO⟩ := h.ord
  obtain ⟨D, hm, _, _⟩ := hO.map
  intro k hk
  simp only [sblks, List.mem_cons, Option.mem_toList] at hk
  rcases hk with rfl | rfl | rfl | rfl | rfl | hk
  · exact nobAt_cells h.box (by decide)
  · exact nobAt_cells hO.box (by decide)
  · exact nobAt_map (RM.map_block hm)
  · exact nobAt_cells h.lay (by decide)
  · exact nobAt_cells h.out (by decide)
  · obtain ⟨X, _, h2, _⟩ := h.got
    obtain ⟨cs, hc⟩ := got_block h2 hk
    exact nobAt_cells hc (by decide)
theorem BodyAt.own {w w' : World} {o o' : Nat → Tg} {v : Value} {L : List Nat} {bs : List Nat} (h : BodyAt w o v L) (ho : Only bs w w') (ht : ∀ k ∈ bs, (o k).n ≠ 0) (he : Ext w o o') : BodyAt w' o' v L := by
  obtain ⟨a, m, c, e, hA, hF⟩ := h
  refine ⟨a, m, c, e, ⟨⟨hA.1.1, fun j hj => ?_⟩, hA.2⟩, fun h0 ad e' => ?_⟩
  · obtain ⟨b', o', e', hc⟩ := hA.1.2 j hj
    have hl := World.block_lt_of_cell? w ⟨b', o' + j, none⟩ hc
    refine ⟨b', o', e', (cell_same (ho.2.2.2.2 b' hl (fun hk => ht b' hk ?_)) _).trans hc⟩
    exact hF (by have := hA.2.1; omega) _ e'
  · have := hF h0 ad e'
    obtain ⟨b', o1, e2, hcc⟩ := hA.1.2 0 (by have := hA.2.1; omega)
    rw [e'] at e2
    cases e2
    rw [he _ (World.block_lt_of_cell? w ⟨b', o1 + 0, none⟩ hcc)]
    exact this
theorem GotAt.own {w w' : World} {o o' : Nat → Tg} {gv : Value} {G : List Pk} {bs : List Nat} (h : GotAt w o gv G) (ho : Only bs w w') (hb : ∀ k, gv.ownBlock = some k → k ∉ bs) (ht : ∀ k ∈ bs, (o k).n ≠ 0) (he : Ext w o o') : GotAt w' o' gv G := by
  obtain ⟨X, h1, h2, h3⟩ := h
  exact ⟨X, h1, ho.owns h2 hb, fun x hx => (h3 x hx).own ho ht he⟩
theorem own_ne0 {o : Nat → Tg} {n : Nat} {x : Int} {bs cs : List Nat} (h : Own o ⟨n, 4, x⟩ bs) (hn : n ≠ 0) (hs : ∀ k ∈ cs, k ∈ bs) : ∀ k ∈ cs, (o k).n ≠ 0 := fun k hk => by rw [h k (hs k hk)]; exact hn
theorem only_chg1 {w w' : World} {o : Nat → Tg} {P : SP} {s : Sb} {n : Nat} {x : Int} {bs : List Nat} (ho : Only bs w w') (h : SbAt w o P s) (hO : Own o ⟨n, 4, x⟩ (sblks P)) (hs : ∀ k ∈ bs, k ∈ sblks P) : Chg o (fun g => g = ⟨n, 4, x⟩) w w' := Chg.of_only ho (fun k hk => hO k (hs k hk)) (h.nob.sub hs)
theorem SbAt.lay' {w w' : World} {o : Nat → Tg} {P : SP} {s : Sb} {n : Nat} {x ln la : Int} {br : Bool} (h : SbAt w o P s) (hn : n ≠ 0) (hO : Own o ⟨n, 4, x⟩ (sblks P)) (hl : Layer.LayerAt w' P.lb s.mo ln la br) (ho : Only [P.lb] w w') : SbAt w' o P { s with ln := ln, la := la, br := br } := by
  have q := h.sep
  have nb := (h.nob.sub (a := [P.lb]) (by simp [sblks])).old
  obtain ⟨M', e, hM⟩ := h.ord
  exact ⟨ho.block h.box (by simp; exact q.sl), ⟨M', e, hM.only ho (by simp; exact q.ol) (by simp; exact q.ml) nb⟩, hl, h.out.only ho (by simp; exact fun e => q.lu e.symm), h.got.own ho (fun k hk => by simp; exact (q.gv k hk).2.2.2.1) (own_ne0 hO hn (by simp [sblks])) (Ext.refl _ _)⟩
theorem SbAt.out' {w w' : World} {o : Nat → Tg} {P : SP} {s : Sb} {n : Nat} {x uT uy uo : Int} {uk : Nat} (h : SbAt w o P s) (hn : n ≠ 0) (hO : Own o ⟨n, 4, x⟩ (sblks P)) (hl : Out.OutAt w' P.ub 0 uk uT uy uo) (ho : Only [P.ub] w w') : SbAt w' o P { s with uk := uk, uT := uT, uy := uy, uo := uo } := by
  have q := h.sep
  have nb := (h.nob.sub (a := [P.ub]) (by simp [sblks])).old
  obtain ⟨M', e, hM⟩ := h.ord
  exact ⟨ho.block h.box (by simp; exact q.su), ⟨M', e, hM.only ho (by simp; exact q.ou) (by simp; exact q.mu) nb⟩, h.lay.only ho (by simp; exact q.lu), hl, h.got.own ho (fun k hk => by simp; exact (q.gv k hk).2.2.2.2) (own_ne0 hO hn (by simp [sblks])) (Ext.refl _ _)⟩
theorem SbAt.ord' {w w' : World} {o : Nat → Tg} {P : SP} {s : Sb} {n : Nat} {x nw nx : Int} {M : OM.Its} (h : SbAt w o P s) (hn : n ≠ 0) (hO : Own o ⟨n, 4, x⟩ (sblks P)) (hl : Order.OrderAt w' P.ob P.om 10 nw nx M) (ho : Only [P.ob, P.om] w w') : SbAt w' o P { s with on := nw, ox := nx, oM := M.map sk } := by
  have q := h.sep
  exact ⟨ho.block h.box (by simp; exact ⟨q.so, q.sm⟩), ⟨M, rfl, hl⟩, h.lay.only ho (by simp; exact ⟨fun e => q.ol e.symm, fun e => q.ml e.symm⟩), h.out.only ho (by simp; exact ⟨fun e => q.ou e.symm, fun e => q.mu e.symm⟩), h.got.own ho (fun k hk => by simp; exact ⟨(q.gv k hk).2.1, (q.gv k hk).2.2.1⟩) (own_ne0 hO hn (by simp [sblks])) (Ext.refl _ _)⟩
/-- nothing of it is changed -/
theorem SbAt.below {w w' : World} {o o' : Nat → Tg} {P : SP} {s : Sb} (h : SbAt w o P s) (hb : Below w.heap.size w w') (he : Ext w o o') : SbAt w' o' P s := by
  have ho := Only.of_below hb []
  obtain ⟨M', e, hM⟩ := h.ord
  exact ⟨ho.block h.box (by simp), ⟨M', e, hM.only ho (by simp) (by simp) (by simp)⟩, h.lay.only ho (by simp), h.out.only ho (by simp), h.got.own ho (by simp) (by simp) he⟩
end Go.Proofs.YtpiamlgmadnepaaGreat.ND

