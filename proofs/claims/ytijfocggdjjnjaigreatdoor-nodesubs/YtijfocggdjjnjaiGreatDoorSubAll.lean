/-
  SubM, SubP, SubQ, SubR in one text.
-/
import Derived.Test.YtijfocggdjjnjaiGreatDoorNodeH
import Derived.Test.YtijfocggdjjnjaiGreatDoorOrderAll
import Derived.Test.YtijfocggdjjnjaiGreatDoorLayOut
import Derived.Deep.AppendLies
import Derived.Test.YtijfocggdjjnjaiGreatDoorNodeS
import Derived.Deep.LoopGhost
import Derived.Deep.CutRange
import Derived.Deep.RegionHeld3
import Derived.Deep.RegionLaw

/-
  A subscriber, behind what it is pushed and pops: as numbers and lists; and what of it changes in memory. Of lists and worlds alone; no walk.
-/
namespace Go.Proofs.YtijfocggdjjnjaiGreatDoor.ND
open Go.ChangeShapes Go.WideShapes Go.ChangeAt Go.RowKit Go.Maps Go.Proofs.YtijfocggdjjnjaiGreatDoor.Mem Go.Proofs.YtijfocggdjjnjaiGreatDoor.NO
set_option linter.unusedVariables false

/-- the fault of an item's packet -/
def ifl (i : OM.Kp) : Nat := PM.fault i.p.s i.p.t i.p.l i.p.q i.p.L.length
/-- does it go through -/
def Sb.thru (s : Sb) (i : OM.Kp) : Bool := LM.tkx s.mo s.ln s.la i.n s.br i.g (ifl i) i.p.l i.p.st
/-- behind Take -/
def Sb.laid (s : Sb) (i : OM.Kp) : Sb := { s with ln := LM.tkN s.mo s.ln s.la i.n s.br i.g (ifl i) i.p.l i.p.st, la := LM.tkL s.la i.n i.g (ifl i), br := LM.tkB s.mo s.ln s.la i.n s.br i.g (ifl i) i.p.l i.p.st }
/-- as it goes out -/
def Sb.outp (s : Sb) (i : OM.Kp) : Pk := ⟨UM.sq 0 s.uk, UM.nt s.uk s.uT s.uy s.uo i.p.l i.p.t, i.p.l, i.p.q, i.p.st, i.p.L⟩
/-- behind Next -/
def Sb.next (s : Sb) (i : OM.Kp) : Sb := { s with uk := s.uk + 1, uT := UM.nt s.uk s.uT s.uy s.uo i.p.l i.p.t, uy := i.p.l, uo := i.p.t }
/-- behind an item -/
def Sb.item (s : Sb) (i : OM.Kp) : Sb := if s.thru i then { (s.laid i).next i with got := s.got ++ [s.outp i] } else s.laid i
def Sb.popped (s : Sb) (now : Int) (K : Nat) : Sb := { s with on := Order.qW s.on now, ox := s.ox + (K : Int), oM := OM.rest s.oM (s.ox + (K : Int)) }
/-- behind Pop of so many -/
def Sb.pop (s : Sb) (now : Int) (K : Nat) : Sb := (OM.takes s.oM s.ox K).foldl Sb.item (s.popped now K)
/-- behind Push -/
def Sb.pushed (s : Sb) (y now : Int) (p : Pk) : Sb :=
  { s with on := OM.pW s.on s.ox y now (PM.fault p.s p.t p.l p.q p.L.length), ox := OM.pX s.on s.ox y now (PM.fault p.s p.t p.l p.q p.L.length), oM := OM.pM s.on s.ox y now s.oM (PM.fault p.s p.t p.l p.q p.L.length) ⟨p.s, p.t, p.l, p.q, p.st, p.L, .slice none 0 0⟩ }
theorem sk_n (i : OM.Kp) : (sk i).n = i.n := rfl
theorem has_sk (M : OM.Its) (y : Int) : OM.has (M.map sk) y = OM.has M y := by
  unfold OM.has
  rw [List.any_map]
  rfl
theorem itm_sk (M : OM.Its) (y : Int) : OM.itm (M.map sk) y = sk (OM.itm M y) := by
  unfold OM.itm
  rw [List.find?_map]
  have e : ((fun i : OM.Kp => i.n == y) ∘ sk) = fun i : OM.Kp => i.n == y := rfl
  rw [e]
  cases M.find? fun i => i.n == y <;> rfl
theorem takes_sk (M : OM.Its) (x : Int) (K : Nat) : OM.takes (M.map sk) x K = (OM.takes M x K).map sk := by
  unfold OM.takes
  rw [List.map_map]
  refine List.map_congr_left fun j _ => ?_
  exact itm_sk M _
theorem rest_sk (M : OM.Its) (x : Int) : OM.rest (M.map sk) x = (OM.rest M x).map sk := by
  unfold OM.rest
  rw [List.filter_map]
  rfl
theorem goes_sk (M : OM.Its) (od x : Int) : OM.goes (M.map sk) od x = OM.goes M od x := by unfold OM.goes; rw [has_sk]
theorem od_sk {wt now od : Int} {M : OM.Its} (h : OM.Od wt now (M.map sk) od) : OM.Od wt now M od := by
  refine ⟨h.low, fun i hi hl => h.all (sk i) (List.mem_map.2 ⟨i, hi, rfl⟩) hl, ?_⟩
  rcases h.one with e | ⟨i, hi, hl, e⟩
  · exact .inl e
  · obtain ⟨j, hj, rfl⟩ := List.mem_map.1 hi
    exact .inr ⟨j, hj, hl, e⟩
theorem many_sk {wt nw nx now : Int} {M : OM.Its} {K : Nat} (h : Order.Many wt nw nx now (M.map sk) K) : Order.Many wt nw nx now M K := by
  refine ⟨h.le, fun ht => ?_, h.no⟩
  obtain ⟨od, h1, h2⟩ := h.yes ht
  exact ⟨od, od_sk h1, fun j hj => by rw [← goes_sk]; exact h2.all j hj, by rw [← goes_sk]; exact h2.stop⟩
theorem inv_sk {nw nx : Int} {M : OM.Its} (h : OM.Inv nw nx (M.map sk)) : OM.Inv nw nx M := by
  refine ⟨h.c1, h.c2, h.x1, h.x2, fun i hi => h.mem (sk i) (List.mem_map.2 ⟨i, hi, rfl⟩), ?_, fun e => ?_⟩
  · have := h.one
    unfold OM.Apart at this
    rw [List.pairwise_map] at this
    exact this
  · have := h.non e
    exact List.map_eq_nil_iff.1 this
theorem pM_sk (nw nx y now : Int) (M : OM.Its) (f : Nat) (p : OM.Pk) : (OM.pM nw nx y now M f p).map sk = OM.pM nw nx y now (M.map sk) f ⟨p.s, p.t, p.l, p.q, p.st, p.L, .slice none 0 0⟩ := by
  unfold OM.pM OM.px OM.kx
  rw [has_sk]
  split
  · rw [List.map_append]
    rfl
  · rfl
theorem Sb.item_sk (s : Sb) (i : OM.Kp) : s.item (sk i) = s.item i := rfl
/-- what a subscriber may be -/
structure SbI (s : Sb) : Prop where
  oi : OM.Inv s.on s.ox s.oM
  ui : UM.Inv 0 s.uk s.uT s.uo
/-- two blocks of different sorts -/
theorem ne_sort {w : World} {a b : Nat} {c d : Array Value} {t u : TypeId} {f g : Nat × Nat} (h : w.heap[a]? = some (.cells c t f)) (k : w.heap[b]? = some (.cells d u g)) (hne : t ≠ u) : a ≠ b := by
  intro e
  rw [e, k] at h
  simp only [Option.some.injEq, Obj.cells.injEq] at h
  exact hne h.2.1.symm
theorem ne_map {w : World} {a b : Nat} {c : Array Value} {t : TypeId} {f : Nat × Nat} (h : w.heap[a]? = some (.cells c t f)) (k : ∃ es n, w.heap[b]? = some (.map es n)) : a ≠ b := by
  obtain ⟨es, n, k⟩ := k
  intro e
  rw [e, k] at h
  simp at h
theorem got_block {w : World} {base n g e s : Nat} {v : Value} {xs : List Value} (h : w.ownsRow base e s v n xs) (hg : v.ownBlock = some g) : ∃ cs, w.heap[g]? = some (.cells cs e (0, 0)) := by
  rcases h.2 with ⟨rfl, _⟩ | ⟨g', cap, cur, rfl, _, hb, _⟩
  · simp [Value.ownBlock] at hg
  · simp [Value.ownBlock] at hg
    subst hg
    exact ⟨_, hb⟩
structure SbSep (P : SP) : Prop where
  so : P.s ≠ P.ob
  sm : P.s ≠ P.om
  sl : P.s ≠ P.lb
  su : P.s ≠ P.ub
  om : P.ob ≠ P.om
  ol : P.ob ≠ P.lb
  ou : P.ob ≠ P.ub
  ml : P.om ≠ P.lb
  mu : P.om ≠ P.ub
  lu : P.lb ≠ P.ub
  gv : ∀ k, P.gv.ownBlock = some k → k ≠ P.s ∧ k ≠ P.ob ∧ k ≠ P.om ∧ k ≠ P.lb ∧ k ≠ P.ub
theorem SbAt.sep {w : World} {o : Nat → Tg} {P : SP} {s : Sb} (h : SbAt w o P s) : SbSep P := by
  obtain ⟨M', _, hO⟩ := h.ord
  obtain ⟨D, hm, _, _⟩ := hO.map
  have hM := RM.map_block hm
  refine ⟨ne_sort h.box hO.box (by decide), ne_map h.box hM, ne_sort h.box h.lay (by decide), ne_sort h.box h.out (by decide), ne_map hO.box hM, ne_sort hO.box h.lay (by decide), ne_sort hO.box h.out (by decide), fun e => ne_map h.lay hM e.symm, fun e => ne_map h.out hM e.symm, ne_sort h.lay h.out (by decide), fun k hk => ?_⟩
  obtain ⟨X, _, h2, _⟩ := h.got
  obtain ⟨cs, hc⟩ := got_block h2 hk
  exact ⟨ne_sort hc h.box (by decide), ne_sort hc hO.box (by decide), ne_map hc hM, ne_sort hc h.lay (by decide), ne_sort hc h.out (by decide)⟩
theorem SbAt.nob {w : World} {o : Nat → Tg} {P : SP} {s : Sb} (h : SbAt w o P s) : Nob w (sblks P) := by
  obtain ⟨M', _, hO⟩ := h.ord
  obtain ⟨D, hm, _, _⟩ := hO.map
  intro k hk
  simp only [sblks, List.mem_cons, Option.mem_toList] at hk
  rcases hk with rfl | rfl | rfl | rfl | rfl | hk
  · exact nobAt_cells h.box (by decide)
  · exact nobAt_cells hO.box (by decide)
  · exact nobAt_map (RM.map_block hm)
  · exact nobAt_cells h.lay (by decide)
  · exact nobAt_cells h.out (by decide)
  · obtain ⟨X, _, h2, _⟩ := h.got
    obtain ⟨cs, hc⟩ := got_block h2 hk
    exact nobAt_cells hc (by decide)
theorem BodyAt.own {w w' : World} {o o' : Nat → Tg} {v : Value} {L : List Nat} {bs : List Nat} (h : BodyAt w o v L) (ho : Only bs w w') (ht : ∀ k ∈ bs, (o k).n ≠ 0) (he : Ext w o o') : BodyAt w' o' v L := by
  obtain ⟨a, m, c, e, hA, hF⟩ := h
  refine ⟨a, m, c, e, ⟨⟨hA.1.1, fun j hj => ?_⟩, hA.2⟩, fun h0 ad e' => ?_⟩
  · obtain ⟨b', o', e', hc⟩ := hA.1.2 j hj
    have hl := World.block_lt_of_cell? w ⟨b', o' + j, none⟩ hc
    refine ⟨b', o', e', (cell_same (ho.2.2.2.2 b' hl (fun hk => ht b' hk ?_)) _).trans hc⟩
    exact hF (by have := hA.2.1; omega) _ e'
  · have := hF h0 ad e'
    obtain ⟨b', o1, e2, hcc⟩ := hA.1.2 0 (by have := hA.2.1; omega)
    rw [e'] at e2
    cases e2
    rw [he _ (World.block_lt_of_cell? w ⟨b', o1 + 0, none⟩ hcc)]
    exact this
theorem GotAt.own {w w' : World} {o o' : Nat → Tg} {gv : Value} {G : List Pk} {bs : List Nat} (h : GotAt w o gv G) (ho : Only bs w w') (hb : ∀ k, gv.ownBlock = some k → k ∉ bs) (ht : ∀ k ∈ bs, (o k).n ≠ 0) (he : Ext w o o') : GotAt w' o' gv G := by
  obtain ⟨X, h1, h2, h3⟩ := h
  exact ⟨X, h1, ho.owns h2 hb, fun x hx => (h3 x hx).own ho ht he⟩
theorem own_ne0 {o : Nat → Tg} {n : Nat} {x : Int} {bs cs : List Nat} (h : Own o ⟨n, 4, x⟩ bs) (hn : n ≠ 0) (hs : ∀ k ∈ cs, k ∈ bs) : ∀ k ∈ cs, (o k).n ≠ 0 := fun k hk => by rw [h k (hs k hk)]; exact hn
theorem only_chg1 {w w' : World} {o : Nat → Tg} {P : SP} {s : Sb} {n : Nat} {x : Int} {bs : List Nat} (ho : Only bs w w') (h : SbAt w o P s) (hO : Own o ⟨n, 4, x⟩ (sblks P)) (hs : ∀ k ∈ bs, k ∈ sblks P) : Chg o (fun g => g = ⟨n, 4, x⟩) w w' := Chg.of_only ho (fun k hk => hO k (hs k hk)) (h.nob.sub hs)
theorem SbAt.lay' {w w' : World} {o : Nat → Tg} {P : SP} {s : Sb} {n : Nat} {x ln la : Int} {br : Bool} (h : SbAt w o P s) (hn : n ≠ 0) (hO : Own o ⟨n, 4, x⟩ (sblks P)) (hl : Layer.LayerAt w' P.lb s.mo ln la br) (ho : Only [P.lb] w w') : SbAt w' o P { s with ln := ln, la := la, br := br } := by
  have q := h.sep
  have nb := (h.nob.sub (a := [P.lb]) (by simp [sblks])).old
  obtain ⟨M', e, hM⟩ := h.ord
  exact ⟨ho.block h.box (by simp; exact q.sl), ⟨M', e, hM.only ho (by simp; exact q.ol) (by simp; exact q.ml) nb⟩, hl, h.out.only ho (by simp; exact fun e => q.lu e.symm), h.got.own ho (fun k hk => by simp; exact (q.gv k hk).2.2.2.1) (own_ne0 hO hn (by simp [sblks])) (Ext.refl _ _)⟩
theorem SbAt.out' {w w' : World} {o : Nat → Tg} {P : SP} {s : Sb} {n : Nat} {x uT uy uo : Int} {uk : Nat} (h : SbAt w o P s) (hn : n ≠ 0) (hO : Own o ⟨n, 4, x⟩ (sblks P)) (hl : Out.OutAt w' P.ub 0 uk uT uy uo) (ho : Only [P.ub] w w') : SbAt w' o P { s with uk := uk, uT := uT, uy := uy, uo := uo } := by
  have q := h.sep
  have nb := (h.nob.sub (a := [P.ub]) (by simp [sblks])).old
  obtain ⟨M', e, hM⟩ := h.ord
  exact ⟨ho.block h.box (by simp; exact q.su), ⟨M', e, hM.only ho (by simp; exact q.ou) (by simp; exact q.mu) nb⟩, h.lay.only ho (by simp; exact q.lu), hl, h.got.own ho (fun k hk => by simp; exact (q.gv k hk).2.2.2.2) (own_ne0 hO hn (by simp [sblks])) (Ext.refl _ _)⟩
theorem SbAt.ord' {w w' : World} {o : Nat → Tg} {P : SP} {s : Sb} {n : Nat} {x nw nx : Int} {M : OM.Its} (h : SbAt w o P s) (hn : n ≠ 0) (hO : Own o ⟨n, 4, x⟩ (sblks P)) (hl : Order.OrderAt w' P.ob P.om 10 nw nx M) (ho : Only [P.ob, P.om] w w') : SbAt w' o P { s with on := nw, ox := nx, oM := M.map sk } := by
  have q := h.sep
  exact ⟨ho.block h.box (by simp; exact ⟨q.so, q.sm⟩), ⟨M, rfl, hl⟩, h.lay.only ho (by simp; exact ⟨fun e => q.ol e.symm, fun e => q.ml e.symm⟩), h.out.only ho (by simp; exact ⟨fun e => q.ou e.symm, fun e => q.mu e.symm⟩), h.got.own ho (fun k hk => by simp; exact ⟨(q.gv k hk).2.1, (q.gv k hk).2.2.1⟩) (own_ne0 hO hn (by simp [sblks])) (Ext.refl _ _)⟩
/-- nothing of it is changed -/
theorem SbAt.below {w w' : World} {o o' : Nat → Tg} {P : SP} {s : Sb} (h : SbAt w o P s) (hb : Below w.heap.size w w') (he : Ext w o o') : SbAt w' o' P s := by
  have ho := Only.of_below hb []
  obtain ⟨M', e, hM⟩ := h.ord
  exact ⟨ho.block h.box (by simp), ⟨M', e, hM.only ho (by simp) (by simp) (by simp)⟩, h.lay.only ho (by simp), h.out.only ho (by simp), h.got.own ho (by simp) (by simp) he⟩

/-- under way in pop: the subscriber, and the items that Pop gave -/
structure PStA (w wr : World) (o oj : Nat → Tg) (n : Nat) (x : Int) (P Q : SP) (iv : Value) (I : OM.Its) (s : Sb) : Prop where
  at' : SbAt wr oj Q s
  same : Q.s = P.s ∧ Q.ob = P.ob ∧ Q.om = P.om ∧ Q.lb = P.lb ∧ Q.ub = P.ub
  own : Own oj ⟨n, 4, x⟩ (sblks Q)
  ext : Ext w o oj
  chg : Chg o (fun g => g = ⟨n, 4, x⟩) w wr
  row : wr.ownsRow 0 201 8 iv I.length (OM.flat OM.c8 I)
  bod : OM.Bodies wr I
  nob : ∀ k, iv.ownBlock = some k → (oj k).n = 0
theorem row_own {w w' : World} {o : Nat → Tg} {e s m : Nat} {iv : Value} {xs : List Value} {bs : List Nat} (h : w.ownsRow 0 e s iv m xs) (hz : ∀ k, iv.ownBlock = some k → (o k).n = 0) (ho : Only bs w w') (ht : ∀ k ∈ bs, (o k).n ≠ 0) : w'.ownsRow 0 e s iv m xs := ho.owns h (fun k hk hb => ht k hb (hz k hk))
/-- new memory, of nobody -/
theorem PStA.below {w wr w' : World} {o oj : Nat → Tg} {n : Nat} {x : Int} {P Q : SP} {iv : Value} {I : OM.Its} {s : Sb} (h : PStA w wr o oj n x P Q iv I s) (hb : Below wr.heap.size wr w') : PStA w w' o (grow oj wr nobody) n x P Q iv I s := by
  have ho := Only.of_below hb []
  have hs := h.chg.size
  refine ⟨h.at'.below hb (grow_ext _ _ _), h.same, h.own.ext (grow_ext _ _ _) h.at'.lt, h.ext.trans (grow_ext _ _ _) hs, h.chg.trans (Chg.of_below hb _ _) h.ext, ho.owns h.row (by simp), h.bod.only ho (by simp), fun k hk => ?_⟩
  rw [grow_old (own_lt h.row hk)]
  exact h.nob k hk
theorem grow_zero {oj : Nat → Tg} {wr : World} {k : Nat} (h : wr.heap.size ≤ k) : (grow oj wr nobody k).n = 0 := by rw [grow_new h]
/-- a block of its own is changed -/
theorem PStA.step {w wr w' : World} {o oj : Nat → Tg} {n : Nat} {x : Int} {P Q : SP} {iv : Value} {I : OM.Its} {s s' : Sb} {bs : List Nat} (h : PStA w wr o oj n x P Q iv I s) (hn : n ≠ 0) (ho : Only bs wr w') (hb : ∀ k ∈ bs, k ∈ sblks Q) (ha : SbAt w' oj Q s') : PStA w w' o oj n x P Q iv I s' := by
  have ht := own_ne0 h.own hn hb
  have nb := h.at'.nob.sub hb
  exact ⟨ha, h.same, h.own, h.ext, h.chg.trans (only_chg1 ho h.at' h.own hb) h.ext, row_own h.row h.nob ho ht, h.bod.only ho nb.old, h.nob⟩
/-- nobody's block stays -/
theorem PStA.keep {w wr w' : World} {o oj : Nat → Tg} {n : Nat} {x : Int} {P Q : SP} {iv : Value} {I : OM.Its} {s : Sb} {bs : List Nat} (h : PStA w wr o oj n x P Q iv I s) (hn : n ≠ 0) (ho : Only bs wr w') (hb : ∀ k ∈ bs, k ∈ sblks Q) {k : Nat} {y : Obj} (hk : wr.heap[k]? = some y) (hz : (oj k).n = 0) : w'.heap[k]? = some y := ho.block hk (fun hm => (own_ne0 h.own hn hb) k hm hz)
theorem body_arg {w : World} {p : OM.Pk} (h : OM.Body w p) : ∃ a m c, p.bv = .slice a m c ∧ Arg w a m p.L ∧ (a = none → m = 0 ∧ c = 0) ∧ m = p.L.length := by
  obtain ⟨a, m, c, e, ho, hL, hm⟩ := h
  obtain ⟨a', c', e', hA, hno, _⟩ := own_slice ho hL (by omega)
  simp only [Value.slice.injEq, true_and] at e'
  obtain ⟨rfl, rfl⟩ := e'
  exact ⟨a, m, c, e, hA, hno, hA.2.1.symm⟩
/-- the cells of an item's variable -/
def IB (w : World) (ib : Nat) (i : OM.Kp) (a : Option Addr) (m c : Nat) : Prop := w.heap[ib]? = some (.cells #[.int .i64 i.n, .bool i.g, .int .i64 i.p.s, .int .i64 i.p.t, .int .i64 i.p.l, .int .i64 i.p.q, .bool i.p.st, .slice a m c] 201 (0, 0))
def I8 (w : World) (ib : Nat) (i : OM.Kp) (a : Option Addr) (m c : Nat) : Prop := w.cell? ⟨ib, 0, none⟩ = some (.int .i64 i.n) ∧ w.cell? ⟨ib, 1, none⟩ = some (.bool i.g) ∧ w.cell? ⟨ib, 2, none⟩ = some (.int .i64 i.p.s) ∧ w.cell? ⟨ib, 3, none⟩ = some (.int .i64 i.p.t) ∧ w.cell? ⟨ib, 4, none⟩ = some (.int .i64 i.p.l) ∧ w.cell? ⟨ib, 5, none⟩ = some (.int .i64 i.p.q) ∧ w.cell? ⟨ib, 6, none⟩ = some (.bool i.p.st) ∧ w.cell? ⟨ib, 7, none⟩ = some (.slice a m c)
theorem IB.cells {w : World} {ib : Nat} {i : OM.Kp} {a : Option Addr} {m c : Nat} (h : IB w ib i a m c) : I8 w ib i a m c := by
  unfold IB at h
  refine ⟨?_, ?_, ?_, ?_, ?_, ?_, ?_, ?_⟩ <;> simp [World.cell?, h]
theorem SbAt.cells {w : World} {o : Nat → Tg} {P : SP} {s : Sb} (h : SbAt w o P s) : w.cell? ⟨P.s, 2, none⟩ = some (.pointer (some ⟨P.ob, 0, none⟩)) ∧ w.cell? ⟨P.s, 3, none⟩ = some (.pointer (some ⟨P.lb, 0, none⟩)) ∧ w.cell? ⟨P.s, 4, none⟩ = some (.pointer (some ⟨P.ub, 0, none⟩)) ∧ w.cell? ⟨P.s, 5, none⟩ = some P.gv := by
  refine ⟨?_, ?_, ?_, ?_⟩ <;> simp [World.cell?, h.box]
/-- a state, whoever's -/
def PSt (w wr : World) (o : Nat → Tg) (n : Nat) (x : Int) (P : SP) (iv : Value) (I : OM.Its) (s : Sb) : Prop := ∃ oj Q, PStA w wr o oj n x P Q iv I s
/-- and an item's variable, of nobody -/
def PStI (w wr : World) (o : Nat → Tg) (n : Nat) (x : Int) (P : SP) (iv : Value) (I : OM.Its) (s : Sb) (ib : Nat) (i : OM.Kp) (a : Option Addr) (m c : Nat) : Prop := ∃ oj Q, PStA w wr o oj n x P Q iv I s ∧ IB wr ib i a m c ∧ (oj ib).n = 0
/-- the item is read, and laid into its variable -/
theorem PSt.load {w wr : World} {o : Nat → Tg} {n : Nat} {x : Int} {P : SP} {iv : Value} {I : OM.Its} {s : Sb} (h : PSt w wr o n x P iv I s) {i : OM.Kp} {a : Option Addr} {m c : Nat} : PStI w (wr.alloc (.cells #[.int .i64 i.n, .bool i.g, .int .i64 i.p.s, .int .i64 i.p.t, .int .i64 i.p.l, .int .i64 i.p.q, .bool i.p.st, .slice a m c] 201)) o n x P iv I s wr.heap.size i a m c := by
  obtain ⟨oj, Q, h⟩ := h
  exact ⟨_, Q, h.below ((Below.refl _ _).alloc (Nat.le_refl _) _), heap_alloc_new wr _, grow_zero (Nat.le_refl _)⟩
theorem PStI.drew {w wr : World} {o : Nat → Tg} {n : Nat} {x : Int} {P : SP} {iv : Value} {I : OM.Its} {s : Sb} {ib : Nat} {i : OM.Kp} {a : Option Addr} {m c : Nat} (h : PStI w wr o n x P iv I s ib i a m c) : PStI w wr.drew o n x P iv I s ib i a m c := by
  obtain ⟨oj, Q, h, h1, h2⟩ := h
  refine ⟨_, Q, h.below ((Below.refl _ _).drew), h1, ?_⟩
  rw [grow_old (lt_of_block h1)]
  exact h2
theorem PStI.out {w wr : World} {o : Nat → Tg} {n : Nat} {x : Int} {P : SP} {iv : Value} {I : OM.Its} {s : Sb} {ib : Nat} {i : OM.Kp} {a : Option Addr} {m c : Nat} (h : PStI w wr o n x P iv I s ib i a m c) : PSt w wr o n x P iv I s := by
  obtain ⟨oj, Q, h, _⟩ := h
  exact ⟨oj, Q, h⟩
/-- what is read of them -/
theorem PStI.cells {w wr : World} {o : Nat → Tg} {n : Nat} {x : Int} {P : SP} {iv : Value} {I : OM.Its} {s : Sb} {ib : Nat} {i : OM.Kp} {a : Option Addr} {m c : Nat} (h : PStI w wr o n x P iv I s ib i a m c) : I8 wr ib i a m c ∧ wr.cell? ⟨P.s, 3, none⟩ = some (.pointer (some ⟨P.lb, 0, none⟩)) ∧ wr.cell? ⟨P.s, 4, none⟩ = some (.pointer (some ⟨P.ub, 0, none⟩)) := by
  obtain ⟨oj, Q, h, h1, _⟩ := h
  obtain ⟨c2, c3, c4, c5⟩ := h.at'.cells
  obtain ⟨e1, e2, e3, e4, e5⟩ := h.same
  rw [e1, e4] at c3
  rw [e1, e5] at c4
  exact ⟨h1.cells, c3, c4⟩
theorem PStI.take {w wr : World} {o : Nat → Tg} {n : Nat} {x : Int} {P : SP} {iv : Value} {I : OM.Its} {s : Sb} {ib : Nat} {i : OM.Kp} {a : Option Addr} {m c : Nat} (hn : n ≠ 0) (h : PStI w wr o n x P iv I s ib i a m c) (hm : m = i.p.L.length) :
    Calls Tryz.prog 106 #[.pointer (some ⟨P.lb, 0, none⟩), .agg #[.int .i64 i.n, .bool i.g, .int .i64 i.p.s, .int .i64 i.p.t, .int .i64 i.p.l, .int .i64 i.p.q, .bool i.p.st, .slice a m c]] wr fun e w' => e = .returned (.tuple #[.bool (s.thru i), errv (LM.tkf s.la i.n i.g (ifl i))]) ∧ (I8 w' ib i a m c ∧ w'.cell? ⟨P.s, 3, none⟩ = some (.pointer (some ⟨P.lb, 0, none⟩))) ∧ Hid (PStI w w' o n x P iv I (s.laid i) ib i a m c) := by
  obtain ⟨oj, Q, h, h1, h2⟩ := h
  have hlb : Q.lb = P.lb := h.same.2.2.2.1
  have C := Layer.take_calls Q.lb s.mo s.ln s.la i.n s.br i.g i.p.s i.p.t i.p.l i.p.q i.p.st a m c wr h.at'.lay
  rw [hlb, hm] at C
  rw [hm]
  refine C.mono ?_
  rintro e w' ⟨rfl, hl, ho⟩
  rw [← hlb] at hl ho
  have hq : PStI w w' o n x P iv I (s.laid i) ib i a i.p.L.length c := ⟨oj, Q, h.step hn ho (by simp [sblks]) (h.at'.lay' hn h.own hl ho), by have := h.keep hn ho (by simp [sblks]) h1 h2; rw [hm] at this; exact this, h2⟩
  have hc := hq.cells
  exact ⟨rfl, ⟨hc.1, hc.2.1⟩, hidden hq⟩
/-- a packet that goes out: its Body is nobody's -/
def PStB (w wr : World) (o : Nat → Tg) (n : Nat) (x : Int) (P : SP) (iv : Value) (I : OM.Its) (s : Sb) (v : Value) (L : List Nat) : Prop := ∃ oj Q, PStA w wr o oj n x P Q iv I s ∧ BodyAt wr oj v L
theorem PStI.next {w wr : World} {o : Nat → Tg} {n : Nat} {x : Int} {P : SP} {iv : Value} {I : OM.Its} {s : Sb} {ib : Nat} {i : OM.Kp} {a : Option Addr} {m c : Nat} (hn : n ≠ 0) (h : PStI w wr o n x P iv I s ib i a m c) (hi : i ∈ I) (hb : i.p.bv = .slice a m c) (hf : ifl i = 0) (hu : UM.Inv 0 s.uk s.uT s.uo) (hk : s.uk < 1000) :
    Calls Tryz.prog 107 #[.pointer (some ⟨P.ub, 0, none⟩), .agg #[.int .i64 i.p.s, .int .i64 i.p.t, .int .i64 i.p.l, .int .i64 i.p.q, .bool i.p.st, .slice a m c]] wr fun e w' => ∃ a' c', e = .returned (.tuple #[.agg #[.int .i64 (s.outp i).s, .int .i64 (s.outp i).t, .int .i64 i.p.l, .int .i64 i.p.q, .bool i.p.st, .slice a' m c'], .nilIface]) ∧ (I8 w' ib i a m c ∧ w'.cell? ⟨P.s, 4, none⟩ = some (.pointer (some ⟨P.ub, 0, none⟩))) ∧ Hid (PStB w w' o n x P iv I (s.next i) (.slice a' m c') i.p.L) := by
  obtain ⟨oj, Q, h, h1, h2⟩ := h
  have hub : Q.ub = P.ub := h.same.2.2.2.2
  obtain ⟨a2, m2, c2, e2, hA, hno, hm⟩ := body_arg (h.bod i hi)
  rw [hb] at e2
  cases e2
  have C := Out.next_ok Q.ub 0 s.uk s.uT s.uy s.uo i.p.s i.p.t i.p.l i.p.q i.p.st a m c i.p.L wr h.at'.out hu hk (by rw [hm]; exact hf) hA hno
  rw [hub] at C
  refine C.mono ?_
  rintro e w' ⟨a', c', rfl, hl, hA', hno', ho, hfr⟩
  rw [← hub] at hl ho
  have hq := h.step hn ho (by simp [sblks]) (h.at'.out' hn h.own hl ho)
  have hIB := h.keep hn ho (by simp [sblks]) h1 h2
  have hqI : PStI w w' o n x P iv I (s.next i) ib i a m c := ⟨oj, Q, hq, hIB, h2⟩
  have hc := hqI.cells
  refine ⟨a', c', rfl, ⟨hc.1, hc.2.2⟩, hidden ?_⟩
  -- the new blocks are nobody's
  have he : Ext wr oj (grow oj wr nobody) := grow_ext _ _ _
  have hsz := h.chg.size
  refine ⟨grow oj wr nobody, Q, ⟨?_, hq.same, h.own.ext he h.at'.lt, h.ext.trans he hsz, hq.chg, hq.row, hq.bod, fun k hk => by rw [he k (own_lt h.row hk)]; exact h.nob k hk⟩, a', m, c', rfl, hA', fun _ ad e => grow_zero (hfr ad e)⟩
  have ha := hq.at'
  refine ⟨ha.box, ha.ord, ha.lay, ha.out, ?_⟩
  exact h.at'.got.own ho (fun k hk => by simp; exact (h.at'.sep.gv k hk).2.2.2.2) (own_ne0 h.own hn (by simp [sblks])) he
theorem PStB.below {w wr w' : World} {o : Nat → Tg} {n : Nat} {x : Int} {P : SP} {iv : Value} {I : OM.Its} {s : Sb} {v : Value} {L : List Nat} (h : PStB w wr o n x P iv I s v L) (hb : Below wr.heap.size wr w') : PStB w w' o n x P iv I s v L := by
  obtain ⟨oj, Q, h, hB⟩ := h
  exact ⟨_, Q, h.below hb, hB.own (Only.of_below hb []) (by simp) (grow_ext _ _ _)⟩
theorem PSt.below {w wr w' : World} {o : Nat → Tg} {n : Nat} {x : Int} {P : SP} {iv : Value} {I : OM.Its} {s : Sb} (h : PSt w wr o n x P iv I s) (hb : Below wr.heap.size wr w') : PSt w w' o n x P iv I s := by
  obtain ⟨oj, Q, h⟩ := h
  exact ⟨_, Q, h.below hb⟩
/-- what append needs, and what it leaves -/
def Apd (w W : World) (o : Nat → Tg) (n : Nat) (x : Int) (P : SP) (iv : Value) (I : OM.Its) (s : Sb) (v : Value) (p : Pk) : Prop := ∃ gv : Value, ∃ xs : List Value, W.cell? ⟨P.s, 5, none⟩ = some gv ∧ W.frozen? ⟨P.s, 5, none⟩ = false ∧ (∃ ga gc, gv = .slice ga s.got.length gc) ∧ W.ownsRow 0 31 6 gv s.got.length xs ∧
  ∀ g cap w2, w2.ownsRow 0 31 6 (.slice (some ⟨g, 0, none⟩) (s.got.length + 1) cap) (s.got.length + 1) (xs ++ pc p v) → ((W.alloc (.cells (pc p v).toArray 31)).drew).grownBy w2 gv.ownBlock → (gv.ownBlock = some g ∨ g = W.heap.size + 1) → w2.cell? ⟨P.s, 5, none⟩ = some gv ∧ w2.frozen? ⟨P.s, 5, none⟩ = false ∧ PSt w (w2.setCell ⟨P.s, 5, none⟩ (.slice (some ⟨g, 0, none⟩) (s.got.length + 1) cap)) o n x P iv I { s with got := s.got ++ [p] }
theorem PStB.app {w W : World} {o : Nat → Tg} {n : Nat} {x : Int} {P : SP} {iv : Value} {I : OM.Its} {s : Sb} {v : Value} (hn : n ≠ 0) (p : Pk) (h : PStB w W o n x P iv I s v p.L) : Apd w W o n x P iv I s v p := by
  obtain ⟨oj, Q, h, hB⟩ := h
  obtain ⟨e1, e2, e3, e4, e5⟩ := h.same
  obtain ⟨c2, c3, c4, c5⟩ := h.at'.cells
  obtain ⟨X, x1, x2, x3⟩ := h.at'.got
  have hX : s.got.length = X.length := by rw [← x1, List.length_map]
  have q := h.at'.sep
  have hbox := h.at'.box
  rw [e1] at c5 hbox
  refine ⟨Q.gv, X.flatMap fun z => pc z.1 z.2, c5, by simp [World.frozen?, hbox], ?_, by rw [hX]; exact x2, ?_⟩
  · rcases x2.2 with ⟨e, h0⟩ | ⟨g, cap, cur, e, _⟩
    · exact ⟨none, 0, by rw [e, hX, h0]⟩
    · exact ⟨_, cap, by rw [e, hX]⟩
  intro g cap w2 hown hgrow hat
  have hO2 : Only Q.gv.ownBlock.toList W w2 := (((Only.refl _ W).alloc _).drew).grown hgrow (by intro k hk; simp [hk])
  have hin : ∀ k ∈ Q.gv.ownBlock.toList, k ∈ sblks Q := by intro k hk; simp only [sblks, List.mem_cons]; simp [hk]
  have hb2 : w2.heap[P.s]? = W.heap[P.s]? := hO2.2.2.2.2 _ (lt_of_block hbox) (fun hk => by have := (q.gv P.s (by simpa using hk)).1; exact this e1.symm)
  have hbox2 := hb2.trans hbox
  refine ⟨(cell_same hb2 5).trans c5, by simp [World.frozen?, hbox2], ?_⟩
  have hO3 : Only (P.s :: Q.gv.ownBlock.toList) W (w2.setCell ⟨P.s, 5, none⟩ (.slice (some ⟨g, 0, none⟩) (s.got.length + 1) cap)) := Only.setCell (hO2.mono (by intro k hk; simp [hk])) (by simp) _
  have hin3 : ∀ k ∈ P.s :: Q.gv.ownBlock.toList, k ∈ sblks Q := by
    intro k hk
    rcases List.mem_cons.1 hk with rfl | hk
    · rw [← e1]; simp [sblks]
    · exact hin k hk
  have ht := own_ne0 h.own hn hin3
  have hC : Chg oj (fun g => g = ⟨n, 4, x⟩) W (w2.setCell ⟨P.s, 5, none⟩ (.slice (some ⟨g, 0, none⟩) (s.got.length + 1) cap)) := only_chg1 hO3 h.at' h.own hin3
  have he : Ext W oj (grow oj W ⟨n, 4, x⟩) := grow_ext _ _ _
  have hgw : Q.gv.ownBlock = some g ∨ W.heap.size ≤ g := by
    rcases hat with h | h
    · exact .inl h
    · exact .inr (by omega)
  have hgs : g ≠ P.s := by
    rcases hgw with h | h
    · rw [← e1]; exact (q.gv g h).1
    · have := lt_of_block hbox; omega
  have hother : ∀ k, (k = Q.ob ∨ k = Q.om ∨ k = Q.lb ∨ k = Q.ub) → k ∉ P.s :: Q.gv.ownBlock.toList := by
    intro k hk hm
    rw [← e1] at hm
    rcases List.mem_cons.1 hm with hm | hm
    · rcases hk with rfl | rfl | rfl | rfl
      · exact q.so hm.symm
      · exact q.sm hm.symm
      · exact q.sl hm.symm
      · exact q.su hm.symm
    · have := q.gv k (by simpa using hm)
      rcases hk with e | e | e | e
      · exact this.2.1 e
      · exact this.2.2.1 e
      · exact this.2.2.2.1 e
      · exact this.2.2.2.2 e
  have nb := (h.at'.nob.sub hin3).old
  refine ⟨grow oj W ⟨n, 4, x⟩, { Q with gv := .slice (some ⟨g, 0, none⟩) (s.got.length + 1) cap }, ⟨?_, ⟨e1, e2, e3, e4, e5⟩, ?_, h.ext.trans he h.chg.size, h.chg.trans hC h.ext, row_own h.row h.nob hO3 ht, h.bod.only hO3 nb, fun k hk => by rw [he k (own_lt h.row hk)]; exact h.nob k hk⟩⟩
  · obtain ⟨M', eM, hM⟩ := h.at'.ord
    refine ⟨?_, ⟨M', eM, hM.only hO3 (hother _ (.inl rfl)) (hother _ (.inr (.inl rfl))) nb⟩, h.at'.lay.only hO3 (hother _ (.inr (.inr (.inl rfl)))), h.at'.out.only hO3 (hother _ (.inr (.inr (.inr rfl)))), ?_⟩
    · show (w2.setCell ⟨P.s, 5, none⟩ _).heap[Q.s]? = _
      rw [e1]
      exact heap_setCell_same w2 P.s 5 _ _ _ hbox2
    · refine ⟨X ++ [(p, v)], by rw [List.map_append, x1]; rfl, ?_, ?_⟩
      · have hs := ((Only.refl [P.s] w2).setCell (p := ⟨P.s, 5, none⟩) (by simp) (.slice (some ⟨g, 0, none⟩) (s.got.length + 1) cap)).owns hown (by intro k hk; simp [Value.ownBlock] at hk; subst hk; simp; exact hgs)
        rw [List.flatMap_append, List.length_append, ← hX]
        exact hs
      · intro z hz
        rcases List.mem_append.1 hz with hz | hz
        · exact (x3 z hz).own hO3 ht he
        · simp only [List.mem_singleton] at hz
          subst hz
          exact hB.own hO3 ht he
  · intro k hk
    simp only [sblks, List.mem_cons, Option.mem_toList, Value.ownBlock] at hk
    have hold : ∀ k, k ∈ sblks Q → grow oj W ⟨n, 4, x⟩ k = ⟨n, 4, x⟩ := fun k hk => (he k (h.at'.lt k hk)).trans (h.own k hk)
    rcases hk with e | e | e | e | e | e
    · exact hold k (by simp [sblks, e])
    · exact hold k (by simp [sblks, e])
    · exact hold k (by simp [sblks, e])
    · exact hold k (by simp [sblks, e])
    · exact hold k (by simp [sblks, e])
    · simp at e
      subst e
      rcases hgw with h' | h'
      · exact hold _ (by simp only [sblks, List.mem_cons]; simp [h'])
      · exact grow_new h'
/-- a variable of a packet -/
def Zb (w : World) (g : Nat) : Prop := w.heap[g]? = some (.cells #[.int .i64 0, .int .i64 0, .int .i64 0, .int .i64 0, .bool false, .slice none 0 0] 31 (0, 0))
/-- an item's variable, and one of a packet that is laid ahead of Next -/
structure PStJ (w wr : World) (o oj : Nat → Tg) (n : Nat) (x : Int) (P Q : SP) (iv : Value) (I : OM.Its) (s : Sb) (g : Nat) : Prop where
  st : PStA w wr o oj n x P Q iv I s
  tag : oj g = ⟨n, 4, x⟩
  apb : ∀ k ∈ sblks Q, k ≠ g
  api : ∀ k, iv.ownBlock = some k → k ≠ g
  new : w.heap.size ≤ g
/-- new memory, of its own -/
theorem PStA.mine {w wr w' : World} {o oj : Nat → Tg} {n : Nat} {x : Int} {P Q : SP} {iv : Value} {I : OM.Its} {s : Sb} (h : PStA w wr o oj n x P Q iv I s) (hb : Below wr.heap.size wr w') : PStA w w' o (grow oj wr ⟨n, 4, x⟩) n x P Q iv I s := by
  have ho := Only.of_below hb []
  have hs := h.chg.size
  refine ⟨h.at'.below hb (grow_ext _ _ _), h.same, h.own.ext (grow_ext _ _ _) h.at'.lt, h.ext.trans (grow_ext _ _ _) hs, h.chg.trans (Chg.of_below hb _ _) h.ext, ho.owns h.row (by simp), h.bod.only ho (by simp), fun k hk => ?_⟩
  rw [grow_old (own_lt h.row hk)]
  exact h.nob k hk
theorem PStI.ahead {w wr w' : World} {o : Nat → Tg} {n : Nat} {x : Int} {P : SP} {iv : Value} {I : OM.Its} {s : Sb} {ib : Nat} {i : OM.Kp} {a : Option Addr} {m c : Nat} (h : PStI w wr o n x P iv I s ib i a m c) (hb : Below wr.heap.size wr w') (hz : Zb w' wr.heap.size) : ∃ oj Q, PStJ w w' o oj n x P Q iv I s wr.heap.size ∧ IB w' ib i a m c ∧ (oj ib).n = 0 ∧ ib ≠ wr.heap.size := by
  obtain ⟨oj, Q, h, h1, h2⟩ := h
  have hl := lt_of_block h1
  refine ⟨_, Q, ⟨h.mine hb, grow_new (Nat.le_refl _), fun k hk => by have := h.at'.lt k hk; omega, fun k hk => by have := own_lt h.row hk; omega, h.chg.size⟩, (hb.block _ hl).trans h1, ?_, by omega⟩
  rw [grow_old hl]
  exact h2
/-- the packet's variable is written -/
def PStBJ (w wr : World) (o : Nat → Tg) (n : Nat) (x : Int) (P : SP) (iv : Value) (I : OM.Its) (s : Sb) (v : Value) (L : List Nat) (g : Nat) : Prop := ∃ oj Q, PStJ w wr o oj n x P Q iv I s g ∧ BodyAt wr oj v L ∧ Zb wr g
theorem PStBJ.write {w wr w' : World} {o : Nat → Tg} {n : Nat} {x : Int} {P : SP} {iv : Value} {I : OM.Its} {s : Sb} {v : Value} {L : List Nat} {g : Nat} (hn : n ≠ 0) (h : PStBJ w wr o n x P iv I s v L g) (ho : Only [g] wr w') : PStB w w' o n x P iv I s v L := by
  obtain ⟨oj, Q, h, hB, hz⟩ := h
  have ht : ∀ k ∈ [g], (oj k).n ≠ 0 := by intro k hk; simp at hk; rw [hk, h.tag]; exact hn
  have nb : Nob wr [g] := by intro k hk; simp at hk; rw [hk]; exact nobAt_cells hz (by decide)
  have hc : Chg oj (fun t => t = ⟨n, 4, x⟩) wr w' := Chg.of_only ho (by intro k hk; simp at hk; rw [hk]; exact h.tag) nb
  have hi : ∀ k ∈ sblks Q, k ∉ [g] := fun k hk => by simp; exact h.apb k hk
  obtain ⟨M', e, hM⟩ := h.st.at'.ord
  refine ⟨oj, Q, ⟨⟨ho.block h.st.at'.box (hi _ (by simp [sblks])), ⟨M', e, hM.only ho (hi _ (by simp [sblks])) (hi _ (by simp [sblks])) nb.old⟩, h.st.at'.lay.only ho (hi _ (by simp [sblks])), h.st.at'.out.only ho (hi _ (by simp [sblks])), h.st.at'.got.own ho (fun k hk => hi k (by simp only [sblks, List.mem_cons]; simp [hk])) ht (Ext.refl _ _)⟩, h.st.same, h.st.own, h.st.ext, h.st.chg.trans hc h.st.ext, ho.owns h.st.row (fun k hk => by simp; exact h.api k hk), h.st.bod.only ho nb.old, h.st.nob⟩, hB.own ho ht (Ext.refl _ _)⟩
/-- Next, where a variable is laid ahead of it -/
theorem PStI.nextJ {w wr w0 : World} {o oj : Nat → Tg} {n : Nat} {x : Int} {P Q : SP} {iv : Value} {I : OM.Its} {s : Sb} {ib g : Nat} {i : OM.Kp} {a : Option Addr} {m c : Nat} (hn : n ≠ 0) (h : PStJ w wr o oj n x P Q iv I s g) (h1 : IB wr ib i a m c) (h2 : (oj ib).n = 0) (hz : Zb wr g) (hi : i ∈ I) (hb : i.p.bv = .slice a m c) (hf : ifl i = 0) (hu : UM.Inv 0 s.uk s.uT s.uo) (hk : s.uk < 1000) :
    Calls Tryz.prog 107 #[.pointer (some ⟨P.ub, 0, none⟩), .agg #[.int .i64 i.p.s, .int .i64 i.p.t, .int .i64 i.p.l, .int .i64 i.p.q, .bool i.p.st, .slice a m c]] wr fun e w' => ∃ a' c', e = .returned (.tuple #[.agg #[.int .i64 (s.outp i).s, .int .i64 (s.outp i).t, .int .i64 i.p.l, .int .i64 i.p.q, .bool i.p.st, .slice a' m c'], .nilIface]) ∧ (I8 w' ib i a m c ∧ w'.cell? ⟨P.s, 4, none⟩ = some (.pointer (some ⟨P.ub, 0, none⟩))) ∧ Zb w' g ∧ Hid (PStBJ w w' o n x P iv I (s.next i) (.slice a' m c') i.p.L g) := by
  have hh := h.st
  have hub : Q.ub = P.ub := hh.same.2.2.2.2
  obtain ⟨a2, m2, c2, e2, hA, hno, hm⟩ := body_arg (hh.bod i hi)
  rw [hb] at e2
  cases e2
  have C := Out.next_ok Q.ub 0 s.uk s.uT s.uy s.uo i.p.s i.p.t i.p.l i.p.q i.p.st a m c i.p.L wr hh.at'.out hu hk (by rw [hm]; exact hf) hA hno
  rw [hub] at C
  refine C.mono ?_
  rintro e w' ⟨a', c', rfl, hl, hA', hno', ho, hfr⟩
  rw [← hub] at hl ho
  have hq := hh.step hn ho (by simp [sblks]) (hh.at'.out' hn hh.own hl ho)
  have hIB := hh.keep hn ho (by simp [sblks]) h1 h2
  have hqI : PStI w w' o n x P iv I (s.next i) ib i a m c := ⟨oj, Q, hq, hIB, h2⟩
  have hc := hqI.cells
  have hz' : Zb w' g := ho.block hz (by simp; exact fun e => h.apb Q.ub (by simp [sblks]) e.symm)
  refine ⟨a', c', rfl, ⟨hc.1, hc.2.2⟩, hz', hidden ?_⟩
  have he : Ext wr oj (grow oj wr nobody) := grow_ext _ _ _
  have hsz := hh.chg.size
  have hgl := lt_of_block hz
  refine ⟨grow oj wr nobody, Q, ⟨⟨?_, hq.same, hh.own.ext he hh.at'.lt, hh.ext.trans he hsz, hq.chg, hq.row, hq.bod, fun k hk => by rw [he k (own_lt hh.row hk)]; exact hh.nob k hk⟩, (he g hgl).trans h.tag, h.apb, h.api, h.new⟩, ⟨a', m, c', rfl, hA', fun _ ad e => grow_zero (hfr ad e)⟩, hz'⟩
  have ha := hq.at'
  exact ⟨ha.box, ha.ord, ha.lay, ha.out, hh.at'.got.own ho (fun k hk => by simp; exact (hh.at'.sep.gv k hk).2.2.2.2) (own_ne0 hh.own hn (by simp [sblks])) he⟩
theorem Zb.cells {w : World} {g : Nat} (h : Zb w g) : w.cell? ⟨g, 0, none⟩ = some (.int .i64 0) ∧ w.cell? ⟨g, 1, none⟩ = some (.int .i64 0) ∧ w.cell? ⟨g, 2, none⟩ = some (.int .i64 0) ∧ w.cell? ⟨g, 3, none⟩ = some (.int .i64 0) ∧ w.cell? ⟨g, 4, none⟩ = some (.bool false) ∧ w.cell? ⟨g, 5, none⟩ = some (.slice none 0 0) ∧ w.frozen? ⟨g, 0, none⟩ = false ∧ w.frozen? ⟨g, 1, none⟩ = false ∧ w.frozen? ⟨g, 2, none⟩ = false ∧ w.frozen? ⟨g, 3, none⟩ = false ∧ w.frozen? ⟨g, 4, none⟩ = false ∧ w.frozen? ⟨g, 5, none⟩ = false := by
  unfold Zb at h
  refine ⟨?_, ?_, ?_, ?_, ?_, ?_, ?_, ?_, ?_, ?_, ?_, ?_⟩ <;> simp [World.cell?, World.frozen?, h]

theorem infoPK : (Tryz.prog.info? 31).map (fun i => (i.zero, i.size, i.bytes)) = some (some (.agg #[.int .i64 0, .int .i64 0, .int .i64 0, .int .i64 0, .bool false, .slice none 0 0]), 6, 64) := by kernel_rfl
theorem c8_len (i : OM.Kp) : (OM.c8 i).length = 8 := rfl
/-- one of the items, as it lies -/
theorem PSt.item {w wr : World} {o : Nat → Tg} {n : Nat} {x : Int} {P : SP} {av : Option Addr} {cv K : Nat} {I : OM.Its} {s : Sb} (h : PSt w wr o n x P (.slice av K cv) I s) (hI : I.length = K) {j : Nat} (hj : j < K) :
    ∃ ib i a m c, av = some ⟨ib, 0, none⟩ ∧ K ≤ cv ∧ I[j]? = some i ∧ i.p.bv = .slice a m c ∧ m = i.p.L.length ∧ wr.cell? ⟨ib, j * 8, none⟩ = some (.int .i64 i.n) ∧ wr.cell? ⟨ib, j * 8 + 1, none⟩ = some (.bool i.g) ∧ wr.cell? ⟨ib, j * 8 + 2, none⟩ = some (.int .i64 i.p.s) ∧ wr.cell? ⟨ib, j * 8 + 3, none⟩ = some (.int .i64 i.p.t) ∧ wr.cell? ⟨ib, j * 8 + 4, none⟩ = some (.int .i64 i.p.l) ∧ wr.cell? ⟨ib, j * 8 + 5, none⟩ = some (.int .i64 i.p.q) ∧ wr.cell? ⟨ib, j * 8 + 6, none⟩ = some (.bool i.p.st) ∧ wr.cell? ⟨ib, j * 8 + 7, none⟩ = some (.slice a m c) := by
  obtain ⟨oj, Q, h⟩ := h
  subst hI
  have hi : I[j]? = some I[j] := List.getElem?_eq_getElem hj
  have hrow := h.row
  rcases hrow.2 with ⟨e, h0⟩ | ⟨g, cap, cur, e, _, _, hc, _⟩
  · omega
  · cases e
    obtain ⟨a, m, c, eb, _, _, hm⟩ := body_arg (h.bod I[j] (List.getElem_mem hj))
    have k : ∀ t, t < 8 → wr.cell? ⟨g, j * 8 + t, none⟩ = (OM.c8 I[j])[t]? := fun t ht => OM.row_cell c8_len hrow hi t ht
    refine ⟨g, I[j], a, m, c, rfl, hc, hi, eb, hm, k 0 (by omega), k 1 (by omega), k 2 (by omega), k 3 (by omega), k 4 (by omega), k 5 (by omega), k 6 (by omega), ?_⟩
    rw [k 7 (by omega)]
    show some (I[j]).p.bv = _
    rw [eb]
theorem fold_step {I : OM.Its} {j : Nat} {i : OM.Kp} (h : I[j]? = some i) (s : Sb) : (I.take (j + 1)).foldl Sb.item s = ((I.take j).foldl Sb.item s).item i := by
  rw [List.take_add_one, h, List.foldl_append]
  rfl
theorem fold_uk (I : OM.Its) : ∀ (s : Sb), s.uk ≤ (I.foldl Sb.item s).uk ∧ (I.foldl Sb.item s).uk ≤ s.uk + I.length ∧ (I.foldl Sb.item s).got.length ≤ s.got.length + I.length := by
  induction I with
  | nil => intro s; simp
  | cons i I ih =>
    intro s
    obtain ⟨h1, h2, h3⟩ := ih (s.item i)
    have e : (s.item i).uk = s.uk ∨ (s.item i).uk = s.uk + 1 := by
      unfold Sb.item
      split
      · exact .inr rfl
      · exact .inl rfl
    have e2 : (s.item i).got.length ≤ s.got.length + 1 := by
      unfold Sb.item
      split
      · simp
      · show s.got.length ≤ _; omega
    simp only [List.foldl_cons, List.length_cons]
    omega
theorem s9_below {w : World} {xb sb ub : Nat} {v0 : Int} {v1 : Bool} {v2 v3 v4 v5 : Int} {v6 : Bool} {a : Option Addr} {m c : Nat} {w' : World} (hb : Below w.heap.size w w') (h : (w.cell? ⟨xb, 0, none⟩ = some (.int .i64 v0) ∧ w.cell? ⟨xb, 1, none⟩ = some (.bool v1) ∧ w.cell? ⟨xb, 2, none⟩ = some (.int .i64 v2) ∧ w.cell? ⟨xb, 3, none⟩ = some (.int .i64 v3) ∧ w.cell? ⟨xb, 4, none⟩ = some (.int .i64 v4) ∧ w.cell? ⟨xb, 5, none⟩ = some (.int .i64 v5) ∧ w.cell? ⟨xb, 6, none⟩ = some (.bool v6) ∧ w.cell? ⟨xb, 7, none⟩ = some (.slice a m c)) ∧ w.cell? ⟨sb, 4, none⟩ = some (.pointer (some ⟨ub, 0, none⟩))) : (w'.cell? ⟨xb, 0, none⟩ = some (.int .i64 v0) ∧ w'.cell? ⟨xb, 1, none⟩ = some (.bool v1) ∧ w'.cell? ⟨xb, 2, none⟩ = some (.int .i64 v2) ∧ w'.cell? ⟨xb, 3, none⟩ = some (.int .i64 v3) ∧ w'.cell? ⟨xb, 4, none⟩ = some (.int .i64 v4) ∧ w'.cell? ⟨xb, 5, none⟩ = some (.int .i64 v5) ∧ w'.cell? ⟨xb, 6, none⟩ = some (.bool v6) ∧ w'.cell? ⟨xb, 7, none⟩ = some (.slice a m c)) ∧ w'.cell? ⟨sb, 4, none⟩ = some (.pointer (some ⟨ub, 0, none⟩)) := by
  obtain ⟨⟨k0, k1, k2, k3, k4, k5, k6, k7⟩, k8⟩ := h
  exact ⟨⟨ext_cell hb k0, ext_cell hb k1, ext_cell hb k2, ext_cell hb k3, ext_cell hb k4, ext_cell hb k5, ext_cell hb k6, ext_cell hb k7⟩, ext_cell hb k8⟩
theorem s9_alloc {w : World} {xb sb ub : Nat} {v0 : Int} {v1 : Bool} {v2 v3 v4 v5 : Int} {v6 : Bool} {a : Option Addr} {m c : Nat} (O : Obj) (h : (w.cell? ⟨xb, 0, none⟩ = some (.int .i64 v0) ∧ w.cell? ⟨xb, 1, none⟩ = some (.bool v1) ∧ w.cell? ⟨xb, 2, none⟩ = some (.int .i64 v2) ∧ w.cell? ⟨xb, 3, none⟩ = some (.int .i64 v3) ∧ w.cell? ⟨xb, 4, none⟩ = some (.int .i64 v4) ∧ w.cell? ⟨xb, 5, none⟩ = some (.int .i64 v5) ∧ w.cell? ⟨xb, 6, none⟩ = some (.bool v6) ∧ w.cell? ⟨xb, 7, none⟩ = some (.slice a m c)) ∧ w.cell? ⟨sb, 4, none⟩ = some (.pointer (some ⟨ub, 0, none⟩))) : ((w.alloc O).cell? ⟨xb, 0, none⟩ = some (.int .i64 v0) ∧ (w.alloc O).cell? ⟨xb, 1, none⟩ = some (.bool v1) ∧ (w.alloc O).cell? ⟨xb, 2, none⟩ = some (.int .i64 v2) ∧ (w.alloc O).cell? ⟨xb, 3, none⟩ = some (.int .i64 v3) ∧ (w.alloc O).cell? ⟨xb, 4, none⟩ = some (.int .i64 v4) ∧ (w.alloc O).cell? ⟨xb, 5, none⟩ = some (.int .i64 v5) ∧ (w.alloc O).cell? ⟨xb, 6, none⟩ = some (.bool v6) ∧ (w.alloc O).cell? ⟨xb, 7, none⟩ = some (.slice a m c)) ∧ (w.alloc O).cell? ⟨sb, 4, none⟩ = some (.pointer (some ⟨ub, 0, none⟩)) := s9_below ((Below.refl _ _).alloc (Nat.le_refl _) _) h
theorem cell_keep {w : World} {g k : Nat} {v : Value} (hg : k ≠ g) (z0 z1 z2 z3 z4 z5 : Value) {t : Nat} (h : w.cell? ⟨k, t, none⟩ = some v) : ((((((w.setCell ⟨g, 0, none⟩ z0).setCell ⟨g, 1, none⟩ z1).setCell ⟨g, 2, none⟩ z2).setCell ⟨g, 3, none⟩ z3).setCell ⟨g, 4, none⟩ z4).setCell ⟨g, 5, none⟩ z5).cell? ⟨k, t, none⟩ = some v := by
  have hl := World.block_lt_of_cell? w ⟨k, t, none⟩ h
  have ho : Only [g] w ((((((w.setCell ⟨g, 0, none⟩ z0).setCell ⟨g, 1, none⟩ z1).setCell ⟨g, 2, none⟩ z2).setCell ⟨g, 3, none⟩ z3).setCell ⟨g, 4, none⟩ z4).setCell ⟨g, 5, none⟩ z5) := by
    iterate 6 refine Only.setCell ?_ (by simp) _
    exact Only.refl _ _
  exact (cell_same (ho.2.2.2.2 k hl (by simp; exact hg)) t).trans h
theorem s9_store {w : World} {xb sb ub : Nat} {v0 : Int} {v1 : Bool} {v2 v3 v4 v5 : Int} {v6 : Bool} {a : Option Addr} {m c : Nat} {g : Nat} (hx : xb ≠ g) (hs : sb ≠ g) (z0 z1 z2 z3 z4 z5 : Value) (h : (w.cell? ⟨xb, 0, none⟩ = some (.int .i64 v0) ∧ w.cell? ⟨xb, 1, none⟩ = some (.bool v1) ∧ w.cell? ⟨xb, 2, none⟩ = some (.int .i64 v2) ∧ w.cell? ⟨xb, 3, none⟩ = some (.int .i64 v3) ∧ w.cell? ⟨xb, 4, none⟩ = some (.int .i64 v4) ∧ w.cell? ⟨xb, 5, none⟩ = some (.int .i64 v5) ∧ w.cell? ⟨xb, 6, none⟩ = some (.bool v6) ∧ w.cell? ⟨xb, 7, none⟩ = some (.slice a m c)) ∧ w.cell? ⟨sb, 4, none⟩ = some (.pointer (some ⟨ub, 0, none⟩))) : (((((((w.setCell ⟨g, 0, none⟩ z0).setCell ⟨g, 1, none⟩ z1).setCell ⟨g, 2, none⟩ z2).setCell ⟨g, 3, none⟩ z3).setCell ⟨g, 4, none⟩ z4).setCell ⟨g, 5, none⟩ z5).cell? ⟨xb, 0, none⟩ = some (.int .i64 v0) ∧ ((((((w.setCell ⟨g, 0, none⟩ z0).setCell ⟨g, 1, none⟩ z1).setCell ⟨g, 2, none⟩ z2).setCell ⟨g, 3, none⟩ z3).setCell ⟨g, 4, none⟩ z4).setCell ⟨g, 5, none⟩ z5).cell? ⟨xb, 1, none⟩ = some (.bool v1) ∧ ((((((w.setCell ⟨g, 0, none⟩ z0).setCell ⟨g, 1, none⟩ z1).setCell ⟨g, 2, none⟩ z2).setCell ⟨g, 3, none⟩ z3).setCell ⟨g, 4, none⟩ z4).setCell ⟨g, 5, none⟩ z5).cell? ⟨xb, 2, none⟩ = some (.int .i64 v2) ∧ ((((((w.setCell ⟨g, 0, none⟩ z0).setCell ⟨g, 1, none⟩ z1).setCell ⟨g, 2, none⟩ z2).setCell ⟨g, 3, none⟩ z3).setCell ⟨g, 4, none⟩ z4).setCell ⟨g, 5, none⟩ z5).cell? ⟨xb, 3, none⟩ = some (.int .i64 v3) ∧ ((((((w.setCell ⟨g, 0, none⟩ z0).setCell ⟨g, 1, none⟩ z1).setCell ⟨g, 2, none⟩ z2).setCell ⟨g, 3, none⟩ z3).setCell ⟨g, 4, none⟩ z4).setCell ⟨g, 5, none⟩ z5).cell? ⟨xb, 4, none⟩ = some (.int .i64 v4) ∧ ((((((w.setCell ⟨g, 0, none⟩ z0).setCell ⟨g, 1, none⟩ z1).setCell ⟨g, 2, none⟩ z2).setCell ⟨g, 3, none⟩ z3).setCell ⟨g, 4, none⟩ z4).setCell ⟨g, 5, none⟩ z5).cell? ⟨xb, 5, none⟩ = some (.int .i64 v5) ∧ ((((((w.setCell ⟨g, 0, none⟩ z0).setCell ⟨g, 1, none⟩ z1).setCell ⟨g, 2, none⟩ z2).setCell ⟨g, 3, none⟩ z3).setCell ⟨g, 4, none⟩ z4).setCell ⟨g, 5, none⟩ z5).cell? ⟨xb, 6, none⟩ = some (.bool v6) ∧ ((((((w.setCell ⟨g, 0, none⟩ z0).setCell ⟨g, 1, none⟩ z1).setCell ⟨g, 2, none⟩ z2).setCell ⟨g, 3, none⟩ z3).setCell ⟨g, 4, none⟩ z4).setCell ⟨g, 5, none⟩ z5).cell? ⟨xb, 7, none⟩ = some (.slice a m c)) ∧ ((((((w.setCell ⟨g, 0, none⟩ z0).setCell ⟨g, 1, none⟩ z1).setCell ⟨g, 2, none⟩ z2).setCell ⟨g, 3, none⟩ z3).setCell ⟨g, 4, none⟩ z4).setCell ⟨g, 5, none⟩ z5).cell? ⟨sb, 4, none⟩ = some (.pointer (some ⟨ub, 0, none⟩)) := by
  obtain ⟨⟨k0, k1, k2, k3, k4, k5, k6, k7⟩, k8⟩ := h
  exact ⟨⟨cell_keep hx _ _ _ _ _ _ k0, cell_keep hx _ _ _ _ _ _ k1, cell_keep hx _ _ _ _ _ _ k2, cell_keep hx _ _ _ _ _ _ k3, cell_keep hx _ _ _ _ _ _ k4, cell_keep hx _ _ _ _ _ _ k5, cell_keep hx _ _ _ _ _ _ k6, cell_keep hx _ _ _ _ _ _ k7⟩, cell_keep hs _ _ _ _ _ _ k8⟩
theorem s9_storeA {w : World} {xb sb ub : Nat} {v0 : Int} {v1 : Bool} {v2 v3 v4 v5 : Int} {v6 : Bool} {a : Option Addr} {m c : Nat} (O : Obj) (z0 z1 z2 z3 z4 z5 : Value) (h : (w.cell? ⟨xb, 0, none⟩ = some (.int .i64 v0) ∧ w.cell? ⟨xb, 1, none⟩ = some (.bool v1) ∧ w.cell? ⟨xb, 2, none⟩ = some (.int .i64 v2) ∧ w.cell? ⟨xb, 3, none⟩ = some (.int .i64 v3) ∧ w.cell? ⟨xb, 4, none⟩ = some (.int .i64 v4) ∧ w.cell? ⟨xb, 5, none⟩ = some (.int .i64 v5) ∧ w.cell? ⟨xb, 6, none⟩ = some (.bool v6) ∧ w.cell? ⟨xb, 7, none⟩ = some (.slice a m c)) ∧ w.cell? ⟨sb, 4, none⟩ = some (.pointer (some ⟨ub, 0, none⟩))) : ((((((((w.alloc O).setCell ⟨w.heap.size, 0, none⟩ z0).setCell ⟨w.heap.size, 1, none⟩ z1).setCell ⟨w.heap.size, 2, none⟩ z2).setCell ⟨w.heap.size, 3, none⟩ z3).setCell ⟨w.heap.size, 4, none⟩ z4).setCell ⟨w.heap.size, 5, none⟩ z5).cell? ⟨xb, 0, none⟩ = some (.int .i64 v0) ∧ (((((((w.alloc O).setCell ⟨w.heap.size, 0, none⟩ z0).setCell ⟨w.heap.size, 1, none⟩ z1).setCell ⟨w.heap.size, 2, none⟩ z2).setCell ⟨w.heap.size, 3, none⟩ z3).setCell ⟨w.heap.size, 4, none⟩ z4).setCell ⟨w.heap.size, 5, none⟩ z5).cell? ⟨xb, 1, none⟩ = some (.bool v1) ∧ (((((((w.alloc O).setCell ⟨w.heap.size, 0, none⟩ z0).setCell ⟨w.heap.size, 1, none⟩ z1).setCell ⟨w.heap.size, 2, none⟩ z2).setCell ⟨w.heap.size, 3, none⟩ z3).setCell ⟨w.heap.size, 4, none⟩ z4).setCell ⟨w.heap.size, 5, none⟩ z5).cell? ⟨xb, 2, none⟩ = some (.int .i64 v2) ∧ (((((((w.alloc O).setCell ⟨w.heap.size, 0, none⟩ z0).setCell ⟨w.heap.size, 1, none⟩ z1).setCell ⟨w.heap.size, 2, none⟩ z2).setCell ⟨w.heap.size, 3, none⟩ z3).setCell ⟨w.heap.size, 4, none⟩ z4).setCell ⟨w.heap.size, 5, none⟩ z5).cell? ⟨xb, 3, none⟩ = some (.int .i64 v3) ∧ (((((((w.alloc O).setCell ⟨w.heap.size, 0, none⟩ z0).setCell ⟨w.heap.size, 1, none⟩ z1).setCell ⟨w.heap.size, 2, none⟩ z2).setCell ⟨w.heap.size, 3, none⟩ z3).setCell ⟨w.heap.size, 4, none⟩ z4).setCell ⟨w.heap.size, 5, none⟩ z5).cell? ⟨xb, 4, none⟩ = some (.int .i64 v4) ∧ (((((((w.alloc O).setCell ⟨w.heap.size, 0, none⟩ z0).setCell ⟨w.heap.size, 1, none⟩ z1).setCell ⟨w.heap.size, 2, none⟩ z2).setCell ⟨w.heap.size, 3, none⟩ z3).setCell ⟨w.heap.size, 4, none⟩ z4).setCell ⟨w.heap.size, 5, none⟩ z5).cell? ⟨xb, 5, none⟩ = some (.int .i64 v5) ∧ (((((((w.alloc O).setCell ⟨w.heap.size, 0, none⟩ z0).setCell ⟨w.heap.size, 1, none⟩ z1).setCell ⟨w.heap.size, 2, none⟩ z2).setCell ⟨w.heap.size, 3, none⟩ z3).setCell ⟨w.heap.size, 4, none⟩ z4).setCell ⟨w.heap.size, 5, none⟩ z5).cell? ⟨xb, 6, none⟩ = some (.bool v6) ∧ (((((((w.alloc O).setCell ⟨w.heap.size, 0, none⟩ z0).setCell ⟨w.heap.size, 1, none⟩ z1).setCell ⟨w.heap.size, 2, none⟩ z2).setCell ⟨w.heap.size, 3, none⟩ z3).setCell ⟨w.heap.size, 4, none⟩ z4).setCell ⟨w.heap.size, 5, none⟩ z5).cell? ⟨xb, 7, none⟩ = some (.slice a m c)) ∧ (((((((w.alloc O).setCell ⟨w.heap.size, 0, none⟩ z0).setCell ⟨w.heap.size, 1, none⟩ z1).setCell ⟨w.heap.size, 2, none⟩ z2).setCell ⟨w.heap.size, 3, none⟩ z3).setCell ⟨w.heap.size, 4, none⟩ z4).setCell ⟨w.heap.size, 5, none⟩ z5).cell? ⟨sb, 4, none⟩ = some (.pointer (some ⟨ub, 0, none⟩)) := s9_below ((((((((Below.refl _ _).alloc (Nat.le_refl _) _).setCell (Nat.le_refl _) _).setCell (Nat.le_refl _) _).setCell (Nat.le_refl _) _).setCell (Nat.le_refl _) _).setCell (Nat.le_refl _) _).setCell (Nat.le_refl _) _) h
theorem zb_write {w : World} {g : Nat} (h : Zb w g) (z0 z1 z2 z3 z4 z5 : Value) : ((((((w.setCell ⟨g, 0, none⟩ z0).setCell ⟨g, 1, none⟩ z1).setCell ⟨g, 2, none⟩ z2).setCell ⟨g, 3, none⟩ z3).setCell ⟨g, 4, none⟩ z4).setCell ⟨g, 5, none⟩ z5).heap[g]? = some (.cells #[z0, z1, z2, z3, z4, z5] 31 (0, 0)) ∧ Only [g] w ((((((w.setCell ⟨g, 0, none⟩ z0).setCell ⟨g, 1, none⟩ z1).setCell ⟨g, 2, none⟩ z2).setCell ⟨g, 3, none⟩ z3).setCell ⟨g, 4, none⟩ z4).setCell ⟨g, 5, none⟩ z5) := by
  refine ⟨?_, ?_⟩
  · have k0 := heap_setCell_same w g 0 _ _ z0 h
    have k1 := heap_setCell_same _ g 1 _ _ z1 k0
    have k2 := heap_setCell_same _ g 2 _ _ z2 k1
    have k3 := heap_setCell_same _ g 3 _ _ z3 k2
    have k4 := heap_setCell_same _ g 4 _ _ z4 k3
    have k5 := heap_setCell_same _ g 5 _ _ z5 k4
    exact k5
  · iterate 6 refine Only.setCell ?_ (by simp) _
    exact Only.refl _ _
/-- what an item that goes through is -/
theorem thru_ok {s : Sb} {i : OM.Kp} (h : s.thru i = true) : LM.tkf s.la i.n i.g (ifl i) = 0 ∧ ifl i = 0 := by
  unfold Sb.thru LM.tkx at h
  simp only [Bool.and_eq_true, decide_eq_true_eq, Bool.not_eq_true'] at h
  obtain ⟨⟨h1, h2⟩, _⟩ := h
  exact ⟨h1, (LM.tkf_zero h1).2.2.2 h2⟩
theorem item_inv {s : Sb} {i : OM.Kp} (h : UM.Inv 0 s.uk s.uT s.uo) (hk : s.uk < 1000) : UM.Inv 0 (s.item i).uk (s.item i).uT (s.item i).uo := by
  unfold Sb.item
  split
  · rename_i ht
    obtain ⟨_, hf⟩ := thru_ok ht
    have ht0 : 0 ≤ i.p.t ∧ i.p.t ≤ 4294967295 := by
      obtain ⟨_, t', _, _, _, e, _, _, _, h1, _⟩ := PM.fault_zero hf
      omega
    exact h.next hk ht0.1 ht0.2
  · exact h
theorem fold_inv {I : OM.Its} : ∀ {s : Sb}, UM.Inv 0 s.uk s.uT s.uo → s.uk + I.length ≤ 999 → UM.Inv 0 (I.foldl Sb.item s).uk (I.foldl Sb.item s).uT (I.foldl Sb.item s).uo := by
  induction I with
  | nil => intro s h _; exact h
  | cons i I ih =>
    intro s h hk
    simp only [List.length_cons] at hk
    have e := (fold_uk [i] s).2.1
    simp only [List.foldl_cons, List.foldl_nil, List.length_singleton] at e
    exact ih (item_inv h (by omega)) (by omega)
set_option maxHeartbeats 4000000 in
set_option maxRecDepth 100000 in
theorem spop_calls (n : Nat) (x : Int) (o : Nat → Tg) (P : SP) (s : Sb) (now : Int) (K : Nat) (w : World) (hn : n ≠ 0) (h : SbAt w o P s) (hO : Own o ⟨n, 4, x⟩ (sblks P)) (hI : SbI s) (ht : OM.tf s.on now = 0) (hK : Order.Many 10 s.on s.ox now s.oM K) (hk : s.uk + K ≤ 999) (hg : s.got.length + K ≤ 1000000) :
    Calls Tryz.prog 78 #[.pointer (some ⟨P.s, 0, none⟩), .int .i64 now] w fun e w' => e = .returned (.tuple #[]) ∧ ∃ o' Q, SbAt w' o' Q (s.pop now K) ∧ Q.s = P.s ∧ Own o' ⟨n, 4, x⟩ (sblks Q) ∧ Ext w o o' ∧ Chg o (fun g => g = ⟨n, 4, x⟩) w w' := by
  obtain ⟨M', eM, hM⟩ := h.ord
  have hI' : OM.Inv s.on s.ox M' := inv_sk (by rw [eM]; exact hI.oi)
  have hK' : Order.Many 10 s.on s.ox now M' K := many_sk (by rw [eM]; exact hK)
  have C0 := Order.pop_calls P.ob P.om 10 s.on s.ox now M' K w hM hI' hK'
  rw [ht] at C0
  obtain ⟨I, hIe⟩ : ∃ I, OM.takes M' s.ox K = I := ⟨_, rfl⟩
  rw [hIe] at C0
  have hIl : I.length = K := by rw [← hIe]; exact OM.takes_len _ _ _
  obtain ⟨s0, hs0⟩ : ∃ s0, s.popped now K = s0 := ⟨_, rfl⟩
  have hres : s.pop now K = I.foldl Sb.item s0 := by
    unfold Sb.pop
    rw [hs0, ← eM, takes_sk, hIe, List.foldl_map]
    rfl
  rw [hres]
  have HP : Hid (Calls Tryz.prog 105 #[.pointer (some ⟨P.ob, 0, none⟩), .int .i64 now] w fun e w1 => ∃ av cv, e = .returned (.tuple #[.slice av K cv, .nilIface]) ∧ Hid (PSt w w1 o n x P (.slice av K cv) I s0)) := by
    refine hidden (C0.mono ?_)
    rintro e w1 ⟨av, cv, rfl, q1, q2, q3, q4⟩
    refine ⟨av, cv, rfl, hidden ?_⟩
    have he := grow_ext o w nobody
    have ha := h.ord' hn hO q3 q4
    have hin : ∀ k ∈ [P.ob, P.om], k ∈ sblks P := by intro k hk; simp at hk; rcases hk with e | e <;> simp [sblks, e]
    have hgot := h.got.own (o' := grow o w nobody) q4 (fun k hk => by simp; exact ⟨(h.sep.gv k hk).2.1, (h.sep.gv k hk).2.2.1⟩) (own_ne0 hO hn hin) he
    refine ⟨grow o w nobody, P, ⟨?_, ⟨rfl, rfl, rfl, rfl, rfl⟩, hO.ext he h.lt, he, only_chg1 q4 h hO hin, by rw [hIl]; exact RM.own_base q1 (Nat.zero_le _), q2, fun k hk => grow_zero (q1.lt k hk).1⟩⟩
    rw [← hs0]
    unfold Sb.popped
    rw [← eM, rest_sk]
    exact ⟨ha.box, ha.ord, ha.lay, ha.out, hgot⟩
  have c2 := h.cells.1
  have hk0 : s0.uk + K ≤ 999 := by rw [← hs0]; exact hk
  have hg0 : s0.got.length + K ≤ 1000000 := by rw [← hs0]; exact hg
  have hu0 : UM.Inv 0 s0.uk s0.uT s0.uo := by rw [← hs0]; exact hI.ui
  have HU := hidden hu0
  have HIl := hidden hIl
  have HKG := hidden (And.intro hk0 hg0)
  have hK2 := hK.le
  have HEnd : Hid (∀ wr iv, PSt w wr o n x P iv I (I.foldl Sb.item s0) → ∃ o' Q, SbAt wr o' Q (I.foldl Sb.item s0) ∧ Q.s = P.s ∧ Own o' ⟨n, 4, x⟩ (sblks Q) ∧ Ext w o o' ∧ Chg o (fun g => g = ⟨n, 4, x⟩) w wr) := by
    refine hidden ?_
    rintro wr iv ⟨oj, Q, hq⟩
    exact ⟨oj, Q, hq.at', hq.same.1, hq.own, hq.ext, hq.chg⟩
  obtain ⟨i0, hii, hz0, hz1, hz2⟩ := info_parts infoPK
  obtain ⟨sb, hsb⟩ : ∃ b, P.s = b := ⟨_, rfl⟩
  obtain ⟨lb, hlb⟩ : ∃ b, P.lb = b := ⟨_, rfl⟩
  obtain ⟨ub, hub⟩ : ∃ b, P.ub = b := ⟨_, rfl⟩
  rw [hsb] at c2 HEnd
  rw [hsb]
  have HPS := hidden (And.intro hsb (And.intro hlb hub))
  clear h hO hI ht hK hk hg hM hI' hK' C0 hIe hIl hs0 hres hk0 hg0 hu0 eM hsb hlb hub
  go_enter Tryz.func78, Tryz.ntmps78
  go_wp2_with fail
  refine HP.out.mono ?_
  rintro e w1 ⟨av, cv, rfl, HP1⟩
  clear HP c2
  go_wp2_with fail
  go_loopg [25] K (fun g y wr => ∃ j : Nat, j + g = K ∧ y = .int .i64 (j : Int) ∧ Hid (PSt w wr o n x P (.slice av K cv) I ((I.take j).foldl Sb.item s0)))
  case atStart => exact ⟨0, by omega, rfl, HP1⟩
  case round =>
    obtain ⟨j, hjg, rfl, HS⟩ := hrel
    by_cases hj : j < K
    · have hjz : (j : Int) < (K : Int) := by omega
      obtain ⟨ib, i, a, m, c, rfl, hcv, hIj, hbv, hm, d0, d1, d2, d3, d4, d5, d6, d7⟩ := HS.out.item HIl.out hj
      obtain ⟨sj, hsj⟩ : ∃ sj, (I.take j).foldl Sb.item s0 = sj := ⟨_, rfl⟩
      have hfu := fold_uk (I.take j) s0
      have hlt : (I.take j).length = j := by rw [List.length_take, HIl.out]; omega
      rw [hlt, hsj] at hfu
      have hkg := HKG.out
      have huj : UM.Inv 0 sj.uk sj.uT sj.uo := by rw [← hsj]; exact fold_inv HU.out (by rw [hlt]; omega)
      have hukj : sj.uk < 1000 := by omega
      have hgtj : sj.got.length < 1000000 := by omega
      have hmem : i ∈ I := List.mem_of_getElem? hIj
      have HNx : Hid ((I.take (j + 1)).foldl Sb.item s0 = sj.item i) := by rw [fold_step hIj, hsj]; exact hidden rfl
      obtain ⟨W1, hW1⟩ : ∃ W1, wr.alloc (.cells #[.int .i64 i.n, .bool i.g, .int .i64 i.p.s, .int .i64 i.p.t, .int .i64 i.p.l, .int .i64 i.p.q, .bool i.p.st, .slice a m c] 201) = W1 := ⟨_, rfl⟩
      have hL0 : PStI w W1 o n x P (.slice (some ⟨ib, 0, none⟩) K cv) I sj wr.heap.size i a m c := by rw [← hW1, ← hsj]; exact HS.out.load
      have hL := hL0.drew
      obtain ⟨S8, c3, c4⟩ := hL.cells
      have CT := hL.take hn hm
      obtain ⟨xb, hxb⟩ : ∃ xb, wr.heap.size = xb := ⟨_, rfl⟩
      rw [HPS.out.1, HPS.out.2.1] at c3 CT
      rw [hxb] at S8 CT
      have hS0 := And.intro S8 c3
      have HNX : Hid (∀ w2, PStI w w2 o n x P (.slice (some ⟨ib, 0, none⟩) K cv) I (sj.laid i) xb i a m c → sj.thru i = true → (I8 w2 xb i a m c ∧ w2.cell? ⟨sb, 4, none⟩ = some (.pointer (some ⟨ub, 0, none⟩))) ∧ Calls Tryz.prog 107 #[.pointer (some ⟨ub, 0, none⟩), .agg #[.int .i64 i.p.s, .int .i64 i.p.t, .int .i64 i.p.l, .int .i64 i.p.q, .bool i.p.st, .slice a m c]] w2 fun e w' => ∃ a' c', e = .returned (.tuple #[.agg #[.int .i64 (sj.outp i).s, .int .i64 (sj.outp i).t, .int .i64 i.p.l, .int .i64 i.p.q, .bool i.p.st, .slice a' m c'], .nilIface]) ∧ (I8 w' xb i a m c ∧ w'.cell? ⟨sb, 4, none⟩ = some (.pointer (some ⟨ub, 0, none⟩))) ∧ Hid (PStB w w' o n x P (.slice (some ⟨ib, 0, none⟩) K cv) I ((sj.laid i).next i) (.slice a' m c') i.p.L)) := by
        refine hidden ?_
        intro w2 h2 hth
        have hcs := h2.cells
        rw [HPS.out.1, HPS.out.2.2] at hcs
        refine ⟨⟨hcs.1, hcs.2.2⟩, ?_⟩
        have C := h2.next hn hmem hbv (thru_ok hth).2 huj hukj
        rw [HPS.out.2.2, HPS.out.1] at C
        exact C
      have HNJ : Hid (∀ w2, PStI w w2 o n x P (.slice (some ⟨ib, 0, none⟩) K cv) I (sj.laid i) xb i a m c → sj.thru i = true → xb ≠ w2.heap.size ∧ sb ≠ w2.heap.size ∧ (I8 (w2.alloc (.cells #[.int .i64 0, .int .i64 0, .int .i64 0, .int .i64 0, .bool false, .slice none 0 0] 31)).drew xb i a m c ∧ (w2.alloc (.cells #[.int .i64 0, .int .i64 0, .int .i64 0, .int .i64 0, .bool false, .slice none 0 0] 31)).drew.cell? ⟨sb, 4, none⟩ = some (.pointer (some ⟨ub, 0, none⟩))) ∧ Calls Tryz.prog 107 #[.pointer (some ⟨ub, 0, none⟩), .agg #[.int .i64 i.p.s, .int .i64 i.p.t, .int .i64 i.p.l, .int .i64 i.p.q, .bool i.p.st, .slice a m c]] (w2.alloc (.cells #[.int .i64 0, .int .i64 0, .int .i64 0, .int .i64 0, .bool false, .slice none 0 0] 31)).drew fun e w' => ∃ a' c', e = .returned (.tuple #[.agg #[.int .i64 (sj.outp i).s, .int .i64 (sj.outp i).t, .int .i64 i.p.l, .int .i64 i.p.q, .bool i.p.st, .slice a' m c'], .nilIface]) ∧ (I8 w' xb i a m c ∧ w'.cell? ⟨sb, 4, none⟩ = some (.pointer (some ⟨ub, 0, none⟩))) ∧ Zb w' w2.heap.size ∧ Hid (PStBJ w w' o n x P (.slice (some ⟨ib, 0, none⟩) K cv) I ((sj.laid i).next i) (.slice a' m c') i.p.L w2.heap.size)) := by
        refine hidden ?_
        intro w2 h2 hth
        have hcs := h2.cells
        rw [HPS.out.1, HPS.out.2.2] at hcs
        have hbl : Below w2.heap.size w2 (w2.alloc (.cells #[.int .i64 0, .int .i64 0, .int .i64 0, .int .i64 0, .bool false, .slice none 0 0] 31)).drew := ((Below.refl _ _).alloc (Nat.le_refl _) _).drew
        have hzb : Zb (w2.alloc (.cells #[.int .i64 0, .int .i64 0, .int .i64 0, .int .i64 0, .bool false, .slice none 0 0] 31)).drew w2.heap.size := heap_alloc_new w2 _
        obtain ⟨oj, Q, hJ, hIB, h0, hne⟩ := h2.ahead hbl hzb
        have hsl := World.block_lt_of_cell? w2 ⟨sb, 4, none⟩ hcs.2.2
        refine ⟨hne, by simp only at hsl; omega, ⟨hIB.cells, ext_cell hbl hcs.2.2⟩, ?_⟩
        have C := PStI.nextJ (w0 := w2) hn hJ hIB h0 hzb hmem hbv (thru_ok hth).2 huj hukj
        rw [HPS.out.2.2, HPS.out.1] at C
        exact C
      have HAp : Hid (∀ W v, PStB w W o n x P (.slice (some ⟨ib, 0, none⟩) K cv) I ((sj.laid i).next i) v i.p.L → Apd w W o n x P (.slice (some ⟨ib, 0, none⟩) K cv) I ((sj.laid i).next i) v (sj.outp i)) := hidden (fun W v hB => hB.app hn (sj.outp i))
      have HTh : Hid (sj.thru i = true → LM.tkf sj.la i.n i.g (ifl i) = 0) := hidden (fun h => (thru_ok h).1)
      have HI1 : Hid (sj.thru i = false → sj.item i = sj.laid i) := hidden (fun h => by unfold Sb.item; rw [if_neg (by simp [h])])
      have HI2 : Hid (sj.thru i = true → sj.item i = { (sj.laid i).next i with got := ((sj.laid i).next i).got ++ [sj.outp i] }) := hidden (fun h => by unfold Sb.item; rw [if_pos h]; rfl)
      have HG2 : Hid (((sj.laid i).next i).got.length < 1000000) := hidden hgtj
      obtain ⟨th, hth⟩ : ∃ th, sj.thru i = th := ⟨_, rfl⟩
      obtain ⟨f, hf⟩ : ∃ f, LM.tkf sj.la i.n i.g (ifl i) = f := ⟨_, rfl⟩
      rw [hth] at CT HNX HNJ HTh HI1 HI2
      rw [hf] at CT HTh
      obtain ⟨v0, hv0⟩ : ∃ v, i.n = v := ⟨_, rfl⟩
      obtain ⟨v1, hv1⟩ : ∃ v, i.g = v := ⟨_, rfl⟩
      obtain ⟨v2, hv2⟩ : ∃ v, i.p.s = v := ⟨_, rfl⟩
      obtain ⟨v3, hv3⟩ : ∃ v, i.p.t = v := ⟨_, rfl⟩
      obtain ⟨v4, hv4⟩ : ∃ v, i.p.l = v := ⟨_, rfl⟩
      obtain ⟨v5, hv5⟩ : ∃ v, i.p.q = v := ⟨_, rfl⟩
      obtain ⟨v6, hv6⟩ : ∃ v, i.p.st = v := ⟨_, rfl⟩
      obtain ⟨u0, hu0⟩ : ∃ v, (sj.outp i).s = v := ⟨_, rfl⟩
      obtain ⟨u1, hu1⟩ : ∃ v, (sj.outp i).t = v := ⟨_, rfl⟩
      have HPC : Hid (∀ v, pc (sj.outp i) v = [.int .i64 u0, .int .i64 u1, .int .i64 v4, .int .i64 v5, .bool v6, v]) := hidden (fun v => by unfold pc; rw [hu0, hu1]; show [Value.int .i64 u0, .int .i64 u1, .int .i64 i.p.l, .int .i64 i.p.q, .bool i.p.st, v] = _; rw [hv4, hv5, hv6])
      unfold I8 at hS0 CT HNX HNJ
      rw [hv0, hv1, hv2, hv3, hv4, hv5, hv6] at hS0 CT
      rw [hu0, hu1] at HNX HNJ
      rw [hv0, hv1, hv2, hv3, hv4, hv5, hv6] at HNX HNJ
      rw [hv0] at d0
      rw [hv1] at d1
      rw [hv2] at d2
      rw [hv3] at d3
      rw [hv4] at d4
      rw [hv5] at d5
      rw [hv6] at d6
      rw [hv0, hv1, hv2, hv3, hv4, hv5, hv6] at hW1
      have HCT := hidden CT
      have HW1 := hidden hW1
      clear hsj hfu hlt hkg huj hukj hgtj hmem hW1 hL0 hL S8 c3 c4 CT HS hIj hbv hm hth hf hv0 hv1 hv2 hv3 hv4 hv5 hv6 hu0 hu1
      go_upto_region 5 with fail
      first | rw [HW1.out] | skip
      clear hxb
      go_region_held3 (fun w' => (w'.cell? ⟨xb, 0, none⟩ = some (.int .i64 v0) ∧ w'.cell? ⟨xb, 1, none⟩ = some (.bool v1) ∧ w'.cell? ⟨xb, 2, none⟩ = some (.int .i64 v2) ∧ w'.cell? ⟨xb, 3, none⟩ = some (.int .i64 v3) ∧ w'.cell? ⟨xb, 4, none⟩ = some (.int .i64 v4) ∧ w'.cell? ⟨xb, 5, none⟩ = some (.int .i64 v5) ∧ w'.cell? ⟨xb, 6, none⟩ = some (.bool v6) ∧ w'.cell? ⟨xb, 7, none⟩ = some (.slice a m c)) ∧ w'.cell? ⟨sb, 3, none⟩ = some (.pointer (some ⟨lb, 0, none⟩))) (with_reducible assumption) (first | (go_at_call 106; refine HCT.out.mono ?_; rintro e w2 ⟨rfl, hS2, HP2⟩))
      have q1 := cmp_ne f
      have q2 := grd_ne f
      cases th with
      | false =>
        have HP3 : Hid (PSt w w2 o n x P (.slice (some ⟨ib, 0, none⟩) K cv) I ((I.take (j + 1)).foldl Sb.item s0)) := by
          rw [HNx.out, HI1.out rfl]
          exact hidden HP2.out.out
        clear HP2 hS2 hS0 HNX HNJ HAp HI1 HI2 HTh d0 d1 d2 d3 d4 d5 d6 d7
        by_cases hf0 : f = 0
        · have e0 : decide (f = 0) = true := by simpa using hf0
          clear hf0
          go_wp2_with fail
          go_roundg (K - (j + 1))
          case measure => omega
          case rel => exact ⟨j + 1, by omega, by go_num, HP3⟩
        · have e0 : decide (f = 0) = false := by simpa using hf0
          clear hf0
          go_wp2_with fail
          go_roundg (K - (j + 1))
          case measure => omega
          case rel => exact ⟨j + 1, by omega, by go_num, HP3⟩
      | true =>
        have e0 : decide (f = 0) = true := by simpa using HTh.out rfl
        obtain ⟨hS3, C3⟩ := HNX.out w2.drew HP2.out.drew rfl
        obtain ⟨hxg, hsg, hS5, C5⟩ := HNJ.out w2 HP2.out rfl
        have HC3 := hidden C3
        have HC5 := hidden C5
        clear HP2 hS2 hS0 HNX HNJ HI1 HTh d0 d1 d2 d3 d4 d5 d6 d7 C3 C5
        go_upto_region 7 with fail
        go_cut [10, 11] from 44 to 66 (fun p e wx => ∃ g a' c', p = .pointer (some ⟨g, 0, none⟩) ∧ e = .nilIface ∧ Hid (wx.heap[g]? = some (.cells #[.int .i64 u0, .int .i64 u1, .int .i64 v4, .int .i64 v5, .bool v6, .slice a' m c'] 31 (0, 0)) ∧ PStB w wx o n x P (.slice (some ⟨ib, 0, none⟩) K cv) I ((sj.laid i).next i) (.slice a' m c') i.p.L))
        case first =>
          go_region_held3 (fun w' => (w'.cell? ⟨xb, 0, none⟩ = some (.int .i64 v0) ∧ w'.cell? ⟨xb, 1, none⟩ = some (.bool v1) ∧ w'.cell? ⟨xb, 2, none⟩ = some (.int .i64 v2) ∧ w'.cell? ⟨xb, 3, none⟩ = some (.int .i64 v3) ∧ w'.cell? ⟨xb, 4, none⟩ = some (.int .i64 v4) ∧ w'.cell? ⟨xb, 5, none⟩ = some (.int .i64 v5) ∧ w'.cell? ⟨xb, 6, none⟩ = some (.bool v6) ∧ w'.cell? ⟨xb, 7, none⟩ = some (.slice a m c)) ∧ w'.cell? ⟨sb, 4, none⟩ = some (.pointer (some ⟨ub, 0, none⟩))) (first | with_reducible assumption | with_reducible exact s9_storeA _ _ _ _ _ _ _ (by with_reducible assumption) | with_reducible exact s9_store hxg hsg _ _ _ _ _ _ (by with_reducible assumption) | with_reducible exact s9_alloc _ (by with_reducible assumption)) (first | (go_at_call 107; with_reducible refine HC3.out.mono ?_; rintro e w3 ⟨a3, c3', rfl, hS4, HP4⟩) | (go_at_call 107; with_reducible refine HC5.out.mono ?_; rintro e w3 ⟨a3, c3', rfl, hS4, hz4, HP4⟩; obtain ⟨z0, z1, z2, z3, z4, z5, f0, f1, f2, f3, f4, f5⟩ := hz4.cells))
          · go_wp2_with fail
            go_meet
            exact ⟨w3.heap.size, a3, c3', rfl, rfl, hidden ⟨heap_alloc_new w3 _, HP4.out.below ((Below.refl _ _).alloc (Nat.le_refl _) _)⟩⟩
          · go_wp2_with fail
            go_meet
            exact ⟨w2.heap.size, a3, c3', rfl, rfl, hidden ⟨(zb_write hz4 _ _ _ _ _ _).1, HP4.out.write hn (zb_write hz4 _ _ _ _ _ _).2⟩⟩
        case rest =>
          obtain ⟨g, a', c', rfl, rfl, HB⟩ := hcut
          obtain ⟨gv, xs, cg, fg, ⟨ga, gc, rfl⟩, hrow, hnext⟩ := HAp.out wc _ HB.out.2
          have hbx := HB.out.1
          rw [HPS.out.1] at cg fg hnext
          rw [HPC.out] at hnext
          have y0 : wc.cell? ⟨g, 0, none⟩ = some (.int .i64 u0) := by simp [World.cell?, hbx]
          have y1 : wc.cell? ⟨g, 1, none⟩ = some (.int .i64 u1) := by simp [World.cell?, hbx]
          have y2 : wc.cell? ⟨g, 2, none⟩ = some (.int .i64 v4) := by simp [World.cell?, hbx]
          have y3 : wc.cell? ⟨g, 3, none⟩ = some (.int .i64 v5) := by simp [World.cell?, hbx]
          have y4 : wc.cell? ⟨g, 4, none⟩ = some (.bool v6) := by simp [World.cell?, hbx]
          have y5 : wc.cell? ⟨g, 5, none⟩ = some (.slice a' m c') := by simp [World.cell?, hbx]
          obtain ⟨gl, hgl⟩ : ∃ gl, ((sj.laid i).next i).got.length = gl := ⟨_, rfl⟩
          rw [hgl] at cg hrow hnext HG2
          have hgl2 := HG2.out
          have HR := hidden hrow
          have HNx2 := hidden hnext
          have cgA : (wc.alloc (.cells #[.int .i64 u0, .int .i64 u1, .int .i64 v4, .int .i64 v5, .bool v6, .slice a' m c'] 31)).cell? ⟨sb, 5, none⟩ = some (.slice ga gl gc) := ext_cell ((Below.refl _ _).alloc (Nat.le_refl _) _) cg
          clear HAp hrow hnext hbx hgl hxg hsg hS3 hS5
          go_upto_region 9 with fail
          go_region_law (refine step_append_lies _ (by rfl) _ _ _ (by rfl) 0 31 i0 _ 6 64 Tryz.underlying51 hii hz0 hz1 hz2 rfl (by omega) _ gl xs (by rfl) ((HR.out.alloc _).drew) ⟨wc.heap.size, 0, none⟩ 1 1 [.int .i64 u0, .int .i64 u1, .int .i64 v4, .int .i64 v5, .bool v6, .slice a' m c'] (by rfl) (by rfl) (World.news_of_block (cs := #[.int .i64 u0, .int .i64 u1, .int .i64 v4, .int .i64 v5, .bool v6, .slice a' m c']) (t := 31) (fr := (0, 0)) (heap_alloc_new wc _)) (by simp [Value.oneCell']) (by omega) (by unfold maxLen; omega) (by omega) (Nat.zero_le _) (wc.heap.size + 1) (by simp) ?_; intro gg c6 w6 hown hgrow hat hlt; obtain ⟨e5, f5, hfin⟩ := HNx2.out gg c6 w6 hown hgrow hat; have HF := hidden hfin; clear hown hgrow hat hlt hfin)
          all_goals
            obtain ⟨w7, hw7⟩ : ∃ w7, w6.setCell ⟨sb, 5, none⟩ (.slice (some ⟨gg, 0, none⟩) (gl + 1) c6) = w7 := ⟨_, rfl⟩
            have HP9 : Hid (PSt w w7 o n x P (.slice (some ⟨ib, 0, none⟩) K cv) I ((I.take (j + 1)).foldl Sb.item s0)) := by
              rw [HNx.out, HI2.out rfl, ← hw7]
              exact hidden HF.out
            rw [hw7]
            clear hw7 HF e5 f5
            go_wp2_with fail
            go_roundg (K - (j + 1))
            case measure => omega
            case rel => exact ⟨j + 1, by omega, by go_num, HP9⟩
    · have hjz : ¬ (j : Int) < (K : Int) := by omega
      obtain rfl : j = K := by omega
      have hfin := HS.out
      rw [List.take_of_length_le (by rw [HIl.out]; exact Nat.le_refl _)] at hfin
      have HF := hidden (HEnd.out wr _ hfin)
      clear hfin HS
      go_wp2_with fail
      go_end0
      exact ⟨rfl, HF.out⟩

/-- what is left of a subscriber -/
def SbS (w w' : World) (o : Nat → Tg) (n : Nat) (x : Int) (P : SP) (s : Sb) : Prop := ∃ o' Q, SbAt w' o' Q s ∧ Q.s = P.s ∧ Own o' ⟨n, 4, x⟩ (sblks Q) ∧ Ext w o o' ∧ Chg o (fun g => g = ⟨n, 4, x⟩) w w'
theorem pushed_inv {s : Sb} {y now : Int} {p : Pk} (h : SbI s) : SbI (s.pushed y now p) := ⟨OM.inv_push h.oi _ _, h.ui⟩
theorem pushed_tf {s : Sb} {y now : Int} {p : Pk} (h : OM.tf s.on now = 0) : OM.tf (s.pushed y now p).on now = 0 := by
  obtain ⟨h1, h2, h3⟩ := OM.tf_zero h
  show OM.tf (OM.pW s.on s.ox y now _) now = 0
  unfold OM.pW
  split
  · exact OM.tf_mk h1 h2 (by omega)
  · exact h
set_option maxHeartbeats 1000000 in
set_option maxRecDepth 100000 in
theorem spush_calls (n : Nat) (x : Int) (o : Nat → Tg) (P : SP) (s : Sb) (y now ps pt pl pq : Int) (pst : Bool) (a : Option Addr) (m cap : Nat) (L : List Nat) (K : Nat) (w : World) (hn : n ≠ 0) (h : SbAt w o P s) (hO : Own o ⟨n, 4, x⟩ (sblks P)) (hI : SbI s) (hA : Arg w a m L) (hno : a = none → m = 0 ∧ cap = 0) (ht : OM.tf s.on now = 0) (hK : Order.Many 10 (s.pushed y now ⟨ps, pt, pl, pq, pst, L⟩).on (s.pushed y now ⟨ps, pt, pl, pq, pst, L⟩).ox now (s.pushed y now ⟨ps, pt, pl, pq, pst, L⟩).oM K) (hk : s.uk + K ≤ 999) (hg : s.got.length + K ≤ 1000000) :
    Calls Tryz.prog 44 #[.pointer (some ⟨P.s, 0, none⟩), .int .i64 y, .agg #[.int .i64 ps, .int .i64 pt, .int .i64 pl, .int .i64 pq, .bool pst, .slice a m cap], .int .i64 now] w fun e w' => e = .returned (.tuple #[]) ∧ SbS w w' o n x P ((s.pushed y now ⟨ps, pt, pl, pq, pst, L⟩).pop now K) := by
  obtain ⟨W0, hW0⟩ : ∃ W0, w.alloc (.cells #[.int .i64 ps, .int .i64 pt, .int .i64 pl, .int .i64 pq, .bool pst, .slice a m cap] 31) = W0 := ⟨_, rfl⟩
  have hB0 : Below w.heap.size w W0.drew := by rw [← hW0]; exact ((Below.refl _ _).alloc (Nat.le_refl _) _).drew
  have hbx : W0.heap[w.heap.size]? = some (.cells #[.int .i64 ps, .int .i64 pt, .int .i64 pl, .int .i64 pq, .bool pst, .slice a m cap] 31 (0, 0)) := by rw [← hW0]; exact heap_alloc_new w _
  obtain ⟨o0, ho0⟩ : ∃ o0, grow o w nobody = o0 := ⟨_, rfl⟩
  have he0 : Ext w o o0 := by rw [← ho0]; exact grow_ext o w nobody
  have hA0 : SbAt W0.drew o0 P s := h.below hB0 he0
  have hO0 : Own o0 ⟨n, 4, x⟩ (sblks P) := hO.ext he0 h.lt
  obtain ⟨M', eM, hM⟩ := hA0.ord
  have hI' : OM.Inv s.on s.ox M' := inv_sk (by rw [eM]; exact hI.oi)
  have hm := hA.2.1
  obtain ⟨R, hRes⟩ : ∃ R, (s.pushed y now ⟨ps, pt, pl, pq, pst, L⟩).pop now K = R := ⟨_, rfl⟩
  rw [hRes]
  have hin : ∀ k ∈ [P.ob, P.om], k ∈ sblks P := by intro k hk; simp at hk; rcases hk with e | e <;> simp [sblks, e]
  have HC : Hid (Calls Tryz.prog 77 #[.pointer (some ⟨P.ob, 0, none⟩), .int .i64 y, .agg #[.int .i64 ps, .int .i64 pt, .int .i64 pl, .int .i64 pq, .bool pst, .slice a m cap], .int .i64 now] W0.drew fun e w1 => ∃ b f, e = .returned (.tuple #[.bool b, errv f]) ∧ (w1.cell? ⟨w.heap.size, 0, none⟩ = some (.int .i64 ps) ∧ w1.cell? ⟨w.heap.size, 1, none⟩ = some (.int .i64 pt) ∧ w1.cell? ⟨w.heap.size, 2, none⟩ = some (.int .i64 pl) ∧ w1.cell? ⟨w.heap.size, 3, none⟩ = some (.int .i64 pq) ∧ w1.cell? ⟨w.heap.size, 4, none⟩ = some (.bool pst) ∧ w1.cell? ⟨w.heap.size, 5, none⟩ = some (.slice a m cap) ∧ w1.cell? ⟨P.s, 2, none⟩ = some (.pointer (some ⟨P.ob, 0, none⟩))) ∧ Hid (Calls Tryz.prog 78 #[.pointer (some ⟨P.s, 0, none⟩), .int .i64 now] w1 fun e w' => e = .returned (.tuple #[]) ∧ Hid (SbS w w' o n x P R))) := by
    refine hidden ((Order.push_calls P.ob P.om 10 s.on s.ox y now ps pt pl pq pst a m cap L M' W0.drew hM hI' (hA.below hB0) hno).mono ?_)
    rintro e w1 ⟨rfl, bv, q1, q2⟩
    have ha := hA0.ord' hn hO0 q1 q2
    have hs : ({ s with on := OM.pW s.on s.ox y now (PM.fault ps pt pl pq m), ox := OM.pX s.on s.ox y now (PM.fault ps pt pl pq m), oM := (OM.pM s.on s.ox y now M' (PM.fault ps pt pl pq m) ⟨ps, pt, pl, pq, pst, L, bv⟩).map sk } : Sb) = s.pushed y now ⟨ps, pt, pl, pq, pst, L⟩ := by
      unfold Sb.pushed
      rw [pM_sk, eM, ← hm]
    rw [hs] at ha
    have hb1 : w1.heap[w.heap.size]? = some (.cells #[.int .i64 ps, .int .i64 pt, .int .i64 pl, .int .i64 pq, .bool pst, .slice a m cap] 31 (0, 0)) := q2.block (show W0.drew.heap[w.heap.size]? = _ from hbx) (fun hk => by have := h.lt _ (hin _ hk); omega)
    refine ⟨_, _, rfl, ⟨?_, ?_, ?_, ?_, ?_, ?_, ha.cells.1⟩, hidden ?_⟩
    any_goals (simp [World.cell?, hb1]; done)
    refine (spop_calls n x o0 P _ now K w1 hn ha hO0 (pushed_inv hI) (pushed_tf ht) hK hk hg).mono ?_
    rintro e w' ⟨rfl, o', Q, r1, r2, r3, r4, r5⟩
    rw [hRes] at r1
    have hc1 : Chg o0 (fun g => g = ⟨n, 4, x⟩) W0.drew w1 := only_chg1 q2 hA0 hO0 hin
    have hs1 : W0.drew.heap.size ≤ w1.heap.size := q2.2.2.2.1
    exact ⟨rfl, hidden ⟨o', Q, r1, r2, r3, fun k hk => by rw [r4 k (by have := hB0.size; omega)]; exact he0 k hk, (Chg.of_below hB0 _ _).trans (hc1.trans' r5) he0⟩⟩
  have hS0 : W0.drew.cell? ⟨w.heap.size, 0, none⟩ = some (.int .i64 ps) ∧ W0.drew.cell? ⟨w.heap.size, 1, none⟩ = some (.int .i64 pt) ∧ W0.drew.cell? ⟨w.heap.size, 2, none⟩ = some (.int .i64 pl) ∧ W0.drew.cell? ⟨w.heap.size, 3, none⟩ = some (.int .i64 pq) ∧ W0.drew.cell? ⟨w.heap.size, 4, none⟩ = some (.bool pst) ∧ W0.drew.cell? ⟨w.heap.size, 5, none⟩ = some (.slice a m cap) ∧ W0.drew.cell? ⟨P.s, 2, none⟩ = some (.pointer (some ⟨P.ob, 0, none⟩)) := by
    refine ⟨?_, ?_, ?_, ?_, ?_, ?_, hA0.cells.1⟩
    any_goals (show W0.cell? _ = _; simp [World.cell?, hbx]; done)
  have HW := hidden hW0
  obtain ⟨pb, hpb⟩ : ∃ pb, w.heap.size = pb := ⟨_, rfl⟩
  rw [hpb] at HC hS0
  obtain ⟨sb, hsb⟩ : ∃ b, P.s = b := ⟨_, rfl⟩
  obtain ⟨ob, hob⟩ : ∃ b, P.ob = b := ⟨_, rfl⟩
  rw [hsb, hob] at HC hS0
  rw [hsb]
  clear hn h hO hI hA hno ht hK hk hg hW0 hB0 hbx ho0 he0 hA0 hO0 eM hM hI' hm hRes hin hsb hob
  go_enter Tryz.func44, Tryz.ntmps44
  go_upto_region 1 with fail
  rw [HW.out]
  clear hpb
  go_region_held3 (fun w' => w'.cell? ⟨pb, 0, none⟩ = some (.int .i64 ps) ∧ w'.cell? ⟨pb, 1, none⟩ = some (.int .i64 pt) ∧ w'.cell? ⟨pb, 2, none⟩ = some (.int .i64 pl) ∧ w'.cell? ⟨pb, 3, none⟩ = some (.int .i64 pq) ∧ w'.cell? ⟨pb, 4, none⟩ = some (.bool pst) ∧ w'.cell? ⟨pb, 5, none⟩ = some (.slice a m cap) ∧ w'.cell? ⟨sb, 2, none⟩ = some (.pointer (some ⟨ob, 0, none⟩))) (with_reducible assumption) (first | (go_at_call 77; with_reducible refine HC.out.mono ?_; rintro e w1 ⟨b1, f1, rfl, hS1, HP⟩))
  go_wp2_with fail
  refine HP.out.mono ?_
  rintro e w2 ⟨rfl, HD⟩
  go_wp2_with fail
  go_end0
  exact ⟨rfl, HD.out⟩
end Go.Proofs.YtijfocggdjjnjaiGreatDoor.ND
