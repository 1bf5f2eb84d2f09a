/-
  What a subscriber is while it pops: contracts of Take, Next and what append leaves, in its words. Their condition: it is such as it may be.
-/
import Derived.Test.YtpiamlgmadnepaaGreatSubM
import Derived.Deep.AppendLies
namespace Go.Proofs.YtpiamlgmadnepaaGreat.ND
open Go.ChangeShapes Go.WideShapes Go.ChangeAt Go.RowKit Go.Maps Go.Proofs.YtpiamlgmadnepaaGreat.Mem Go.Proofs.YtpiamlgmadnepaaGreat.NO
set_option linter.unusedVariables false

/-- under way in pop: the subscriber, and the items that Pop gave -/
structure PStA (w wr : World) (o oj : Nat → Tg) (n : Nat) (x : Int) (P Q : SP) (iv : Value) (I : OM.Its) (s : Sb) : Prop where
  at' : SbAt wr oj Q s
  same : Q.s = P.s ∧ Q.ob = P.ob ∧ Q.om = P.om ∧ Q.lb = P.lb ∧ Q.ub = P.ub
  own : Own oj ⟨n, 4, x⟩ (sblks Q)
  ext : Ext w o oj
  chg : Chg o (fun g => g = ⟨n, 4, x⟩) w wr
  row : wr.ownsRow 0 82 8 iv I.length (OM.flat OM.c8 I)
  bod : OM.Bodies wr I
  nob : ∀ k, iv.ownBlock = some k → (oj k).n = 0
theorem row_own {w w' : World} {o : Nat → Tg} {e s m : Nat} {iv : Value} {xs : List Value} {bs : List Nat} (h : w.ownsRow 0 e s iv m xs) (hz : ∀ k, iv.ownBlock = some k → (o k).n = 0) (ho : Only bs w w') (ht : ∀ k ∈ bs, (o k).n ≠ 0) : w'.ownsRow 0 e s iv m xs := ho.owns h (fun k hk hb => ht k hb (hz k hk))
/-- new memory, of nobody -/
theorem PStA.below {w wr w' : World} {o oj : Nat → Tg} {n : Nat} {x : Int} {P Q : SP} {iv : Value} {I : OM.Its} {s : Sb} (h : PStA w wr o oj n x P Q iv I s) (hb : Below wr.heap.size wr w') : PStA w w' o (grow oj wr nobody) n x P Q iv I s := by
  have ho := Only.of_below hb []
  have hs := h.chg.size
  refine ⟨h.at'.below hb (grow_ext _ _ _), h.same, h.own.ext (grow_ext _ _ _) h.at'.lt, h.ext.trans (grow_ext _ _ _) hs, h.chg.trans (Chg.of_below hb _ _) h.ext, ho.owns h.row (by simp), h.bod.only ho (by simp), fun k hk => ?_⟩
  rw [grow_old (own_lt h.row hk)]
  exact h.nob k hk
theorem grow_zero {oj : Nat → Tg} {wr : World} {k : Nat} (h : wr.heap.size ≤ k) : (grow oj wr nobody k).n = 0 := by rw [grow_new h]
/-- a block of its own is changed -/
theorem PStA.step {w wr w' : World} {o oj : Nat → Tg} {n : Nat} {x : Int} {P Q : SP} {iv : Value} {I : OM.Its} {s s' : Sb} {bs : List Nat} (h : PStA w wr o oj n x P Q iv I s) (hn : n ≠ 0) (ho : Only bs wr w') (hb : ∀ k ∈ bs, k ∈ sblks Q) (ha : SbAt w' oj Q s') : PStA w w' o oj n x P Q iv I s' := by
  have ht := own_ne0 h.own hn hb
  have nb := h.at'.nob.sub hb
  exact ⟨ha, h.same, h.own, h.ext, h.chg.trans (only_chg1 ho h.at' h.own hb) h.ext, row_own h.row h.nob ho ht, h.bod.only ho nb.old, h.nob⟩
/-- nobody's block stays -/
theorem PStA.keep {w wr w' : World} {o oj : Nat → Tg} {n : Nat} {x : Int} {P Q : SP} {iv : Value} {I : OM.Its} {s : Sb} {bs : List Nat} (h : PStA w wr o oj n x P Q iv I s) (hn : n ≠ 0) (ho : Only bs wr w') (hb : ∀ k ∈ bs, k ∈ sblks Q) {k : Nat} {y : Obj} (hk : wr.heap[k]? = some y) (hz : (oj k).n = 0) : w'.heap[k]? = some y := ho.block hk (fun hm => (own_ne0 h.own hn hb) k hm hz)
theorem body_arg {w : World} {p : OM.Pk} (h : OM.Body w p) : ∃ a m c, p.bv = .slice a m c ∧ Arg w a m p.L ∧ (a = none → m = 0 ∧ c = 0) ∧ m = p.L.length := by
  obtain ⟨a, m, c, e, ho, hL, hm⟩ := h
  obtain ⟨a', c', e', hA, hno, _⟩ := own_slice ho hL (by omega)
  simp only [Value.slice.injEq, true_and] at e'
  obtain ⟨rfl, rfl⟩ := e'
  exact ⟨a, m, c, e, hA, hno, hA.2.1.symm⟩
/-- the cells of an item's variable -/
def IB (w : World) (ib : Nat) (i : OM.Kp) (a : Option Addr) (m c : Nat) : Prop := w.heap[ib]? = some (.cells #[.int .i64 i.n, .bool i.g, .int .i64 i.p.s, .int .i64 i.p.t, .int .i64 i.p.l, .int .i64 i.p.q, .bool i.p.st, .slice a m c] 82 (0, 0))
def I8 (w : World) (ib : Nat) (i : OM.Kp) (a : Option Addr) (m c : Nat) : Prop := w.cell? ⟨ib, 0, none⟩ = some (.int .i64 i.n) ∧ w.cell? ⟨ib, 1, none⟩ = some (.bool i.g) ∧ w.cell? ⟨ib, 2, none⟩ = some (.int .i64 i.p.s) ∧ w.cell? ⟨ib, 3, none⟩ = some (.int .i64 i.p.t) ∧ w.cell? ⟨ib, 4, none⟩ = some (.int .i64 i.p.l) ∧ w.cell? ⟨ib, 5, none⟩ = some (.int .i64 i.p.q) ∧ w.cell? ⟨ib, 6, none⟩ = some (.bool i.p.st) ∧ w.cell? ⟨ib, 7, none⟩ = some (.slice a m c)
theorem IB.cells {w : World} {ib : Nat} {i : OM.Kp} {a : Option Addr} {m c : Nat} (h : IB w ib i a m c) : I8 w ib i a m c := by
  unfold IB at h
  refine ⟨?_, ?_, ?_, ?_, ?_, ?_, ?_, ?_⟩ <;> simp [World.cell?, h]
theorem SbAt.cells {w : World} {o : Nat → Tg} {P : SP} {s : Sb} (h : SbAt w o P s) : w.cell? ⟨P.s, 2, none⟩ = some (.pointer (some ⟨P.ob, 0, none⟩)) ∧ w.cell? ⟨P.s, 3, none⟩ = some (.pointer (some ⟨P.lb, 0, none⟩)) ∧ w.cell? ⟨P.s, 4, none⟩ = some (.pointer (some ⟨P.ub, 0, none⟩)) ∧ w.cell? ⟨P.s, 5, none⟩ = some P.gv := by
  refine ⟨?_, ?_, ?_, ?_⟩ <;> simp [World.cell?, h.box]
/-- a state, whoever's -/
def PSt (w wr : World) (o : Nat → Tg) (n : Nat) (x : Int) (P : SP) (iv : Value) (I : OM.Its) (s : Sb) : Prop := ∃ oj Q, PStA w wr o oj n x P Q iv I s
/-- and an item's variable, of nobody -/
def PStI (w wr : World) (o : Nat → Tg) (n : Nat) (x : Int) (P : SP) (iv : Value) (I : OM.Its) (s : Sb) (ib : Nat) (i : OM.Kp) (a : Option Addr) (m c : Nat) : Prop := ∃ oj Q, PStA w wr o oj n x P Q iv I s ∧ IB wr ib i a m c ∧ (oj ib).n = 0
/-- the item is read, and laid into its variable -/
theorem PSt.load {w wr : World} {o : Nat → Tg} {n : Nat} {x : Int} {P : SP} {iv : Value} {I : OM.Its} {s : Sb} (h : PSt w wr o n x P iv I s) {i : OM.Kp} {a : Option Addr} {m c : Nat} : PStI w (wr.alloc (.cells #[.int .i64 i.n, .bool i.g, .int .i64 i.p.s, .int .i64 i.p.t, .int .i64 i.p.l, .int .i64 i.p.q, .bool i.p.st, .slice a m c] 82)) o n x P iv I s wr.heap.size i a m c := by
  obtain ⟨oj, Q, h⟩ := h
  exact ⟨_, Q, h.below ((Below.refl _ _).alloc (Nat.le_refl _) _), heap_alloc_new wr _, grow_zero (Nat.le_refl _)⟩
theorem PStI.drew {w wr : World} {o : Nat → Tg} {n : Nat} {x : Int} {P : SP} {iv : Value} {I : OM.Its} {s : Sb} {ib : Nat} {i : OM.Kp} {a : Option Addr} {m c : Nat} (h : PStI w wr o n x P iv I s ib i a m c) : PStI w wr.drew o n x P iv I s ib i a m c := by
  obtain ⟨oj, Q, h, h1, h2⟩ := h
  refine ⟨_, Q, h.below ((Below.refl _ _).drew), h1, ?_⟩
  rw [grow_old (lt_of_block h1)]
  exact h2
theorem PStI.out {w wr : World} {o : Nat → Tg} {n : Nat} {x : Int} {P : SP} {iv : Value} {I : OM.Its} {s : Sb} {ib : Nat} {i : OM.Kp} {a : Option Addr} {m c : Nat} (h : PStI w wr o n x P iv I s ib i a m c) : PSt w wr o n x P iv I s := by
  obtain ⟨oj, Q, h, _⟩ := h
  exact ⟨oj, Q, h⟩
/-- what is read of them -/
theorem PStI.cells {w wr : World} {o : Nat → Tg} {n : Nat} {x : Int} {P : SP} {iv : Value} {I : OM.Its} {s : Sb} {ib : Nat} {i : OM.Kp} {a : Option Addr} {m c : Nat} (h : PStI w wr o n x P iv I s ib i a m c) : I8 wr ib i a m c ∧ wr.cell? ⟨P.s, 3, none⟩ = some (.pointer (some ⟨P.lb, 0, none⟩)) ∧ wr.cell? ⟨P.s, 4, none⟩ = some (.pointer (some ⟨P.ub, 0, none⟩)) := by
  obtain ⟨oj, Q, h, h1, _⟩ := h
  obtain ⟨c2, c3, c4, c5⟩ := h.at'.cells
  obtain ⟨e1, e2, e3, e4, e5⟩ := h.same
  rw [e1, e4] at c3
  rw [e1, e5] at c4
  exact ⟨h1.cells, c3, c4⟩
theorem PStI.take {w wr : World} {o : Nat → Tg} {n : Nat} {x : Int} {P : SP} {iv : Value} {I : OM.Its} {s : Sb} {ib : Nat} {i : OM.Kp} {a : Option Addr} {m c : Nat} (hn : n ≠ 0) (h : PStI w wr o n x P iv I s ib i a m c) (hm : m = i.p.L.length) :
    Calls Tryz.prog 33 #[.pointer (some ⟨P.lb, 0, none⟩), .agg #[.int .i64 i.n, .bool i.g, .int .i64 i.p.s, .int .i64 i.p.t, .int .i64 i.p.l, .int .i64 i.p.q, .bool i.p.st, .slice a m c]] wr fun e w' => e = .returned (.tuple #[.bool (s.thru i), errv (LM.tkf s.la i.n i.g (ifl i))]) ∧ (I8 w' ib i a m c ∧ w'.cell? ⟨P.s, 3, none⟩ = some (.pointer (some ⟨P.lb, 0, none⟩))) ∧ Hid (PStI w w' o n x P iv I (s.laid i) ib i a m c) := by
  obtain ⟨oj, Q, h, h1, h2⟩ := h
  have hlb : Q.lb = P.lb := h.same.2.2.2.1
  have C := Layer.take_calls Q.lb s.mo s.ln s.la i.n s.br i.g i.p.s i.p.t i.p.l i.p.q i.p.st a m c wr h.at'.lay
  rw [hlb, hm] at C
  rw [hm]
  refine C.mono ?_
  rintro e w' ⟨rfl, hl, ho⟩
  rw [← hlb] at hl ho
  have hq : PStI w w' o n x P iv I (s.laid i) ib i a i.p.L.length c := ⟨oj, Q, h.step hn ho (by simp [sblks]) (h.at'.lay' hn h.own hl ho), by have := h.keep hn ho (by simp [sblks]) h1 h2; rw [hm] at this; exact this, h2⟩
  have hc := hq.cells
  exact ⟨rfl, ⟨hc.1, hc.2.1⟩, hidden hq⟩
/-- a packet that goes out: its Body is nobody's -/
def PStB (w wr : World) (o : Nat → Tg) (n : Nat) (x : Int) (P : SP) (iv : Value) (I : OM.Its) (s : Sb) (v : Value) (L : List Nat) : Prop := ∃ oj Q, PStA w wr o oj n x P Q iv I s ∧ BodyAt wr oj v L
theorem PStI.next {w wr : World} {o : Nat → Tg} {n : Nat} {x : Int} {P : SP} {iv : Value} {I : OM.Its} {s : Sb} {ib : Nat} {i : OM.Kp} {a : Option Addr} {m c : Nat} (hn : n ≠ 0) (h : PStI w wr o n x P iv I s ib i a m c) (hi : i ∈ I) (hb : i.p.bv = .slice a m c) (hf : ifl i = 0) (hu : UM.Inv 0 s.uk s.uT s.uo) (hk : s.uk < 2199023255552) :
    Calls Tryz.prog 34 #[.pointer (some ⟨P.ub, 0, none⟩), .agg #[.int .i64 i.p.s, .int .i64 i.p.t, .int .i64 i.p.l, .int .i64 i.p.q, .bool i.p.st, .slice a m c]] wr fun e w' => ∃ a' c', e = .returned (.tuple #[.agg #[.int .i64 (s.outp i).s, .int .i64 (s.outp i).t, .int .i64 i.p.l, .int .i64 i.p.q, .bool i.p.st, .slice a' m c'], .nilIface]) ∧ (I8 w' ib i a m c ∧ w'.cell? ⟨P.s, 4, none⟩ = some (.pointer (some ⟨P.ub, 0, none⟩))) ∧ Hid (PStB w w' o n x P iv I (s.next i) (.slice a' m c') i.p.L) := by
  obtain ⟨oj, Q, h, h1, h2⟩ := h
  have hub : Q.ub = P.ub := h.same.2.2.2.2
  obtain ⟨a2, m2, c2, e2, hA, hno, hm⟩ := body_arg (h.bod i hi)
  rw [hb] at e2
  cases e2
  have C := Out.next_ok Q.ub 0 s.uk s.uT s.uy s.uo i.p.s i.p.t i.p.l i.p.q i.p.st a m c i.p.L wr h.at'.out hu hk (by rw [hm]; exact hf) hA hno
  rw [hub] at C
  refine C.mono ?_
  rintro e w' ⟨a', c', rfl, hl, hA', hno', ho, hfr⟩
  rw [← hub] at hl ho
  have hq := h.step hn ho (by simp [sblks]) (h.at'.out' hn h.own hl ho)
  have hIB := h.keep hn ho (by simp [sblks]) h1 h2
  have hqI : PStI w w' o n x P iv I (s.next i) ib i a m c := ⟨oj, Q, hq, hIB, h2⟩
  have hc := hqI.cells
  refine ⟨a', c', rfl, ⟨hc.1, hc.2.2⟩, hidden ?_⟩
  -- the new blocks are nobody's
  have he : Ext wr oj (grow oj wr nobody) := grow_ext _ _ _
  have hsz := h.chg.size
  refine ⟨grow oj wr nobody, Q, ⟨?_, hq.same, h.own.ext he h.at'.lt, h.ext.trans he hsz, hq.chg, hq.row, hq.bod, fun k hk => by rw [he k (own_lt h.row hk)]; exact h.nob k hk⟩, a', m, c', rfl, hA', fun _ ad e => grow_zero (hfr ad e)⟩
  have ha := hq.at'
  refine ⟨ha.box, ha.ord, ha.lay, ha.out, ?_⟩
  exact h.at'.got.own ho (fun k hk => by simp; exact (h.at'.sep.gv k hk).2.2.2.2) (own_ne0 h.own hn (by simp [sblks])) he
theorem PStB.below {w wr w' : World} {o : Nat → Tg} {n : Nat} {x : Int} {P : SP} {iv : Value} {I : OM.Its} {s : Sb} {v : Value} {L : List Nat} (h : PStB w wr o n x P iv I s v L) (hb : Below wr.heap.size wr w') : PStB w w' o n x P iv I s v L := by
  obtain ⟨oj, Q, h, hB⟩ := h
  exact ⟨_, Q, h.below hb, hB.own (Only.of_below hb []) (by simp) (grow_ext _ _ _)⟩
theorem PSt.below {w wr w' : World} {o : Nat → Tg} {n : Nat} {x : Int} {P : SP} {iv : Value} {I : OM.Its} {s : Sb} (h : PSt w wr o n x P iv I s) (hb : Below wr.heap.size wr w') : PSt w w' o n x P iv I s := by
  obtain ⟨oj, Q, h⟩ := h
  exact ⟨_, Q, h.below hb⟩
/-- what append needs, and what it leaves -/
def Apd (w W : World) (o : Nat → Tg) (n : Nat) (x : Int) (P : SP) (iv : Value) (I : OM.Its) (s : Sb) (v : Value) (p : Pk) : Prop := ∃ gv : Value, ∃ xs : List Value, W.cell? ⟨P.s, 5, none⟩ = some gv ∧ W.frozen? ⟨P.s, 5, none⟩ = false ∧ (∃ ga gc, gv = .slice ga s.got.length gc) ∧ W.ownsRow 0 38 6 gv s.got.length xs ∧
  ∀ g cap w2, w2.ownsRow 0 38 6 (.slice (some ⟨g, 0, none⟩) (s.got.length + 1) cap) (s.got.length + 1) (xs ++ pc p v) → ((W.alloc (.cells (pc p v).toArray 38)).drew).grownBy w2 gv.ownBlock → (gv.ownBlock = some g ∨ g = W.heap.size + 1) → w2.cell? ⟨P.s, 5, none⟩ = some gv ∧ w2.frozen? ⟨P.s, 5, none⟩ = false ∧ PSt w (w2.setCell ⟨P.s, 5, none⟩ (.slice (some ⟨g, 0, none⟩) (s.got.length + 1) cap)) o n x P iv I { s with got := s.got ++ [p] }
theorem PStB.app {w W : World} {o : Nat → Tg} {n : Nat} {x : Int} {P : SP} {iv : Value} {I : OM.Its} {s : Sb} {v : Value} (hn : n ≠ 0) (p : Pk) (h : PStB w W o n x P iv I s v p.L) : Apd w W o n x P iv I s v p := by
  obtain ⟨oj, Q, h, hB⟩ := h
  obtain ⟨e1, e2, e3, e4, e5⟩ := h.same
  obtain ⟨c2, c3, c4, c5⟩ := h.at'.cells
  obtain ⟨X, x1, x2, x3⟩ := h.at'.got
  have hX : s.got.length = X.length := by rw [← x1, List.length_map]
  have q := h.at'.sep
  have hbox := h.at'.box
  rw [e1] at c5 hbox
  refine ⟨Q.gv, X.flatMap fun z => pc z.1 z.2, c5, by simp [World.frozen?, hbox], ?_, by rw [hX]; exact x2, ?_⟩
  · rcases x2.2 with ⟨e, h0⟩ | ⟨g, cap, cur, e, _⟩
    · exact ⟨none, 0, by rw [e, hX, h0]⟩
    · exact ⟨_, cap, by rw [e, hX]⟩
  intro g cap w2 hown hgrow hat
  have hO2 : Only Q.gv.ownBlock.toList W w2 := (((Only.refl _ W).alloc _).drew).grown hgrow (by intro k hk; simp [hk])
  have hin : ∀ k ∈ Q.gv.ownBlock.toList, k ∈ sblks Q := by intro k hk; simp only [sblks, List.mem_cons]; simp [hk]
  have hb2 : w2.heap[P.s]? = W.heap[P.s]? := hO2.2.2.2.2 _ (lt_of_block hbox) (fun hk => by have := (q.gv P.s (by simpa using hk)).1; exact this e1.symm)
  have hbox2 := hb2.trans hbox
  refine ⟨(cell_same hb2 5).trans c5, by simp [World.frozen?, hbox2], ?_⟩
  have hO3 : Only (P.s :: Q.gv.ownBlock.toList) W (w2.setCell ⟨P.s, 5, none⟩ (.slice (some ⟨g, 0, none⟩) (s.got.length + 1) cap)) := Only.setCell (hO2.mono (by intro k hk; simp [hk])) (by simp) _
  have hin3 : ∀ k ∈ P.s :: Q.gv.ownBlock.toList, k ∈ sblks Q := by
    intro k hk
    rcases List.mem_cons.1 hk with rfl | hk
    · rw [← e1]; simp [sblks]
    · exact hin k hk
  have ht := own_ne0 h.own hn hin3
  have hC : Chg oj (fun g => g = ⟨n, 4, x⟩) W (w2.setCell ⟨P.s, 5, none⟩ (.slice (some ⟨g, 0, none⟩) (s.got.length + 1) cap)) := only_chg1 hO3 h.at' h.own hin3
  have he : Ext W oj (grow oj W ⟨n, 4, x⟩) := grow_ext _ _ _
  have hgw : Q.gv.ownBlock = some g ∨ W.heap.size ≤ g := by
    rcases hat with h | h
    · exact .inl h
    · exact .inr (by omega)
  have hgs : g ≠ P.s := by
    rcases hgw with h | h
    · rw [← e1]; exact (q.gv g h).1
    · have := lt_of_block hbox; omega
  have hother : ∀ k, (k = Q.ob ∨ k = Q.om ∨ k = Q.lb ∨ k = Q.ub) → k ∉ P.s :: Q.gv.ownBlock.toList := by
    intro k hk hm
    rw [← e1] at hm
    rcases List.mem_cons.1 hm with hm | hm
    · rcases hk with rfl | rfl | rfl | rfl
      · exact q.so hm.symm
      · exact q.sm hm.symm
      · exact q.sl hm.symm
      · exact q.su hm.symm
    · have := q.gv k (by simpa using hm)
      rcases hk with e | e | e | e
      · exact this.2.1 e
      · exact this.2.2.1 e
      · exact this.2.2.2.1 e
      · exact this.2.2.2.2 e
  have nb := (h.at'.nob.sub hin3).old
  refine ⟨grow oj W ⟨n, 4, x⟩, { Q with gv := .slice (some ⟨g, 0, none⟩) (s.got.length + 1) cap }, ⟨?_, ⟨e1, e2, e3, e4, e5⟩, ?_, h.ext.trans he h.chg.size, h.chg.trans hC h.ext, row_own h.row h.nob hO3 ht, h.bod.only hO3 nb, fun k hk => by rw [he k (own_lt h.row hk)]; exact h.nob k hk⟩⟩
  · obtain ⟨M', eM, hM⟩ := h.at'.ord
    refine ⟨?_, ⟨M', eM, hM.only hO3 (hother _ (.inl rfl)) (hother _ (.inr (.inl rfl))) nb⟩, h.at'.lay.only hO3 (hother _ (.inr (.inr (.inl rfl)))), h.at'.out.only hO3 (hother _ (.inr (.inr (.inr rfl)))), ?_⟩
    · show (w2.setCell ⟨P.s, 5, none⟩ _).heap[Q.s]? = _
      rw [e1]
      exact heap_setCell_same w2 P.s 5 _ _ _ hbox2
    · refine ⟨X ++ [(p, v)], by rw [List.map_append, x1]; rfl, ?_, ?_⟩
      · have hs := ((Only.refl [P.s] w2).setCell (p := ⟨P.s, 5, none⟩) (by simp) (.slice (some ⟨g, 0, none⟩) (s.got.length + 1) cap)).owns hown (by intro k hk; simp [Value.ownBlock] at hk; subst hk; simp; exact hgs)
        rw [List.flatMap_append, List.length_append, ← hX]
        exact hs
      · intro z hz
        rcases List.mem_append.1 hz with hz | hz
        · exact (x3 z hz).own hO3 ht he
        · simp only [List.mem_singleton] at hz
          subst hz
          exact hB.own hO3 ht he
  · intro k hk
    simp only [sblks, List.mem_cons, Option.mem_toList, Value.ownBlock] at hk
    have hold : ∀ k, k ∈ sblks Q → grow oj W ⟨n, 4, x⟩ k = ⟨n, 4, x⟩ := fun k hk => (he k (h.at'.lt k hk)).trans (h.own k hk)
    rcases hk with e | e | e | e | e | e
    · exact hold k (by simp [sblks, e])
    · exact hold k (by simp [sblks, e])
    · exact hold k (by simp [sblks, e])
    · exact hold k (by simp [sblks, e])
    · exact hold k (by simp [sblks, e])
    · simp at e
      subst e
      rcases hgw with h' | h'
      · exact hold _ (by simp only [sblks, List.mem_cons]; simp [h'])
      · exact grow_new h'
/-- a variable of a packet -/
def Zb (w : World) (g : Nat) : Prop := w.heap[g]? = some (.cells #[.int .i64 0, .int .i64 0, .int .i64 0, .int .i64 0, .bool false, .slice none 0 0] 38 (0, 0))
/-- an item's variable, and one of a packet that is laid ahead of Next -/
structure PStJ (w wr : World) (o oj : Nat → Tg) (n : Nat) (x : Int) (P Q : SP) (iv : Value) (I : OM.Its) (s : Sb) (g : Nat) : Prop where
  st : PStA w wr o oj n x P Q iv I s
  tag : oj g = ⟨n, 4, x⟩
  apb : ∀ k ∈ sblks Q, k ≠ g
  api : ∀ k, iv.ownBlock = some k → k ≠ g
  new : w.heap.size ≤ g
/-- new memory, of its own -/
theorem PStA.mine {w wr w' : World} {o oj : Nat → Tg} {n : Nat} {x : Int} {P Q : SP} {iv : Value} {I : OM.Its} {s : Sb} (h : PStA w wr o oj n x P Q iv I s) (hb : Below wr.heap.size wr w') : PStA w w' o (grow oj wr ⟨n, 4, x⟩) n x P Q iv I s := by
  have ho := Only.of_below hb []
  have hs := h.chg.size
  refine ⟨h.at'.below hb (grow_ext _ _ _), h.same, h.own.ext (grow_ext _ _ _) h.at'.lt, h.ext.trans (grow_ext _ _ _) hs, h.chg.trans (Chg.of_below hb _ _) h.ext, ho.owns h.row (by simp), h.bod.only ho (by simp), fun k hk => ?_⟩
  rw [grow_old (own_lt h.row hk)]
  exact h.nob k hk
theorem PStI.ahead {w wr w' : World} {o : Nat → Tg} {n : Nat} {x : Int} {P : SP} {iv : Value} {I : OM.Its} {s : Sb} {ib : Nat} {i : OM.Kp} {a : Option Addr} {m c : Nat} (h : PStI w wr o n x P iv I s ib i a m c) (hb : Below wr.heap.size wr w') (hz : Zb w' wr.heap.size) : ∃ oj Q, PStJ w w' o oj n x P Q iv I s wr.heap.size ∧ IB w' ib i a m c ∧ (oj ib).n = 0 ∧ ib ≠ wr.heap.size := by
  obtain ⟨oj, Q, h, h1, h2⟩ := h
  have hl := lt_of_block h1
  refine ⟨_, Q, ⟨h.mine hb, grow_new (Nat.le_refl _), fun k hk => by have := h.at'.lt k hk; omega, fun k hk => by have := own_lt h.row hk; omega, h.chg.size⟩, (hb.block _ hl).trans h1, ?_, by omega⟩
  rw [grow_old hl]
  exact h2
/-- the packet's variable is written -/
def PStBJ (w wr : World) (o : Nat → Tg) (n : Nat) (x : Int) (P : SP) (iv : Value) (I : OM.Its) (s : Sb) (v : Value) (L : List Nat) (g : Nat) : Prop := ∃ oj Q, PStJ w wr o oj n x P Q iv I s g ∧ BodyAt wr oj v L ∧ Zb wr g
theorem PStBJ.write {w wr w' : World} {o : Nat → Tg} {n : Nat} {x : Int} {P : SP} {iv : Value} {I : OM.Its} {s : Sb} {v : Value} {L : List Nat} {g : Nat} (hn : n ≠ 0) (h : PStBJ w wr o n x P iv I s v L g) (ho : Only [g] wr w') : PStB w w' o n x P iv I s v L := by
  obtain ⟨oj, Q, h, hB, hz⟩ := h
  have ht : ∀ k ∈ [g], (oj k).n ≠ 0 := by intro k hk; simp at hk; rw [hk, h.tag]; exact hn
  have nb : Nob wr [g] := by intro k hk; simp at hk; rw [hk]; exact nobAt_cells hz (by decide)
  have hc : Chg oj (fun t => t = ⟨n, 4, x⟩) wr w' := Chg.of_only ho (by intro k hk; simp at hk; rw [hk]; exact h.tag) nb
  have hi : ∀ k ∈ sblks Q, k ∉ [g] := fun k hk => by simp; exact h.apb k hk
  obtain ⟨M', e, hM⟩ := h.st.at'.ord
  refine ⟨oj, Q, ⟨⟨ho.block h.st.at'.box (hi _ (by simp [sblks])), ⟨M', e, hM.only ho (hi _ (by simp [sblks])) (hi _ (by simp [sblks])) nb.old⟩, h.st.at'.lay.only ho (hi _ (by simp [sblks])), h.st.at'.out.only ho (hi _ (by simp [sblks])), h.st.at'.got.own ho (fun k hk => hi k (by simp only [sblks, List.mem_cons]; simp [hk])) ht (Ext.refl _ _)⟩, h.st.same, h.st.own, h.st.ext, h.st.chg.trans hc h.st.ext, ho.owns h.st.row (fun k hk => by simp; exact h.api k hk), h.st.bod.only ho nb.old, h.st.nob⟩, hB.own ho ht (Ext.refl _ _)⟩
/-- Next, where a variable is laid ahead of it -/
theorem PStI.nextJ {w wr w0 : World} {o oj : Nat → Tg} {n : Nat} {x : Int} {P Q : SP} {iv : Value} {I : OM.Its} {s : Sb} {ib g : Nat} {i : OM.Kp} {a : Option Addr} {m c : Nat} (hn : n ≠ 0) (h : PStJ w wr o oj n x P Q iv I s g) (h1 : IB wr ib i a m c) (h2 : (oj ib).n = 0) (hz : Zb wr g) (hi : i ∈ I) (hb : i.p.bv = .slice a m c) (hf : ifl i = 0) (hu : UM.Inv 0 s.uk s.uT s.uo) (hk : s.uk < 2199023255552) :
    Calls Tryz.prog 34 #[.pointer (some ⟨P.ub, 0, none⟩), .agg #[.int .i64 i.p.s, .int .i64 i.p.t, .int .i64 i.p.l, .int .i64 i.p.q, .bool i.p.st, .slice a m c]] wr fun e w' => ∃ a' c', e = .returned (.tuple #[.agg #[.int .i64 (s.outp i).s, .int .i64 (s.outp i).t, .int .i64 i.p.l, .int .i64 i.p.q, .bool i.p.st, .slice a' m c'], .nilIface]) ∧ (I8 w' ib i a m c ∧ w'.cell? ⟨P.s, 4, none⟩ = some (.pointer (some ⟨P.ub, 0, none⟩))) ∧ Zb w' g ∧ Hid (PStBJ w w' o n x P iv I (s.next i) (.slice a' m c') i.p.L g) := by
  have hh := h.st
  have hub : Q.ub = P.ub := hh.same.2.2.2.2
  obtain ⟨a2, m2, c2, e2, hA, hno, hm⟩ := body_arg (hh.bod i hi)
  rw [hb] at e2
  cases e2
  have C := Out.next_ok Q.ub 0 s.uk s.uT s.uy s.uo i.p.s i.p.t i.p.l i.p.q i.p.st a m c i.p.L wr hh.at'.out hu hk (by rw [hm]; exact hf) hA hno
  rw [hub] at C
  refine C.mono ?_
  rintro e w' ⟨a', c', rfl, hl, hA', hno', ho, hfr⟩
  rw [← hub] at hl ho
  have hq := hh.step hn ho (by simp [sblks]) (hh.at'.out' hn hh.own hl ho)
  have hIB := hh.keep hn ho (by simp [sblks]) h1 h2
  have hqI : PStI w w' o n x P iv I (s.next i) ib i a m c := ⟨oj, Q, hq, hIB, h2⟩
  have hc := hqI.cells
  have hz' : Zb w' g := ho.block hz (by simp; exact fun e => h.apb Q.ub (by simp [sblks]) e.symm)
  refine ⟨a', c', rfl, ⟨hc.1, hc.2.2⟩, hz', hidden ?_⟩
  have he : Ext wr oj (grow oj wr nobody) := grow_ext _ _ _
  have hsz := hh.chg.size
  have hgl := lt_of_block hz
  refine ⟨grow oj wr nobody, Q, ⟨⟨?_, hq.same, hh.own.ext he hh.at'.lt, hh.ext.trans he hsz, hq.chg, hq.row, hq.bod, fun k hk => by rw [he k (own_lt hh.row hk)]; exact hh.nob k hk⟩, (he g hgl).trans h.tag, h.apb, h.api, h.new⟩, ⟨a', m, c', rfl, hA', fun _ ad e => grow_zero (hfr ad e)⟩, hz'⟩
  have ha := hq.at'
  exact ⟨ha.box, ha.ord, ha.lay, ha.out, hh.at'.got.own ho (fun k hk => by simp; exact (hh.at'.sep.gv k hk).2.2.2.2) (own_ne0 hh.own hn (by simp [sblks])) he⟩
theorem Zb.cells {w : World} {g : Nat} (h : Zb w g) : w.cell? ⟨g, 0, none⟩ = some (.int .i64 0) ∧ w.cell? ⟨g, 1, none⟩ = some (.int .i64 0) ∧ w.cell? ⟨g, 2, none⟩ = some (.int .i64 0) ∧ w.cell? ⟨g, 3, none⟩ = some (.int .i64 0) ∧ w.cell? ⟨g, 4, none⟩ = some (.bool false) ∧ w.cell? ⟨g, 5, none⟩ = some (.slice none 0 0) ∧ w.frozen? ⟨g, 0, none⟩ = false ∧ w.frozen? ⟨g, 1, none⟩ = false ∧ w.frozen? ⟨g, 2, none⟩ = false ∧ w.frozen? ⟨g, 3, none⟩ = false ∧ w.frozen? ⟨g, 4, none⟩ = false ∧ w.frozen? ⟨g, 5, none⟩ = false := by
  unfold Zb at h
  refine ⟨?_, ?_, ?_, ?_, ?_, ?_, ?_, ?_, ?_, ?_, ?_, ?_⟩ <;> simp [World.cell?, World.frozen?, h]
end Go.Proofs.YtpiamlgmadnepaaGreat.ND

