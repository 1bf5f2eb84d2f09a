/-
  What was handed out is taken, and goes out; what audit tells at the end.
-/
import Derived.Test.YtpiamlgmadnepaaGreatTopRB
import Derived.Lib.OwnKind
namespace Go.Proofs.YtpiamlgmadnepaaGreat.TR
open Go.ChangeShapes Go.WideShapes Go.ChangeAt Go.RowKit Go.Maps Go.Proofs.YtpiamlgmadnepaaGreat.PM Go.Proofs.YtpiamlgmadnepaaGreat.Mem Go.Proofs.YtpiamlgmadnepaaGreat.Pack
set_option linter.unusedVariables false
section
variable {w W W' : World} {N : Nm} {L t x n : Int} {s : Sv} {gv sv v : Value} {X Y : List AU.Pk} {K : Nat} {I : OM.Its}

theorem body_arg {w : World} {p : OM.Pk} (h : OM.Body w p) : ∃ a m c, p.bv = .slice a m c ∧ Arg w a m p.L ∧ (a = none → m = 0 ∧ c = 0) ∧ m = p.L.length := by
  obtain ⟨a, m, c, e, ho, hl, hm⟩ := h
  have hlen : m = p.L.length := by have := ho.1; rw [cellsOf_len] at this; omega
  refine ⟨a, m, c, e, ?_, ?_, hlen⟩
  · refine ⟨⟨hl, fun j hj => ?_⟩, hlen.symm, by omega⟩
    obtain ⟨g, cap, hv, _⟩ := ho.form (by omega)
    simp only [Value.slice.injEq] at hv
    obtain ⟨rfl, _⟩ := hv
    refine ⟨g, 0, rfl, ?_⟩
    have h2 := ho.cells (g := g) rfl j _ (cellsOf_get p.L j hj)
    rw [Addr.add_lit] at h2
    exact h2
  · intro e'
    subst e'
    rcases ho.2 with ⟨hv, h0⟩ | ⟨g, cap, cur, hv, _⟩
    · simp only [Value.slice.injEq] at hv
      exact ⟨h0, hv.2.2⟩
    · simp at hv
/-- all that was handed out stays, whatever else is turned -/
theorem KB.turn (h : KB w W N L t x n K I v s gv sv X Y) {bs : List Nat} {x' : Int} {s' : Sv} {gv' : Value} {X' : List AU.Pk} (ho : Only bs W W') (hb : ∀ k ∈ bs, k ∈ N.F ∨ gv.ownBlock = some k) (ht : TB w W' N L t x' s' gv' sv X' Y) (h1 : s'.nx = s.nx) (h2 : s'.T = s.T) (hg : ∀ j, gv'.ownBlock = some j → gv.ownBlock = some j ∨ W.heap.size ≤ j) : KB w W' N L t x' n K I v s' gv' sv X' Y := by
  refine ⟨ht, ho.owns h.row (fun k e hc => ?_), h.bod.only ho (fun k hk => ?_), fun j hj => ⟨(h.fr j hj).1, fun hc => ?_⟩, h.il, h.it, h1.trans h.nx, h.z, h.nb, fun hT => ?_⟩
  · obtain ⟨f1, f2⟩ := h.fr k e
    rcases hb k hc with e1 | e1
    · exact f1 e1
    · exact f2 e1
  · rcases hb k hk with e1 | e1
    · exact h.tb.mem.nob k e1
    · intro cs fr
      obtain ⟨c, fz, hc⟩ := Lib.ownsRow_kind h.tb.rws.got k e1
      rw [hc]
      simp
  · rcases hg j hc with e1 | e1
    · exact (h.fr j hj).2 e1
    · have := (h.row.lt j hj).2
      omega
  · rw [h1]
    rw [h2] at hT
    exact h.tn hT
theorem KB.below (h : KB w W N L t x n K I v s gv sv X Y) (hb : Below W.heap.size W W') : KB w W' N L t x n K I v s gv sv X Y :=
  h.turn (Only.of_below hb []) (by simp) (h.tb.below hb) rfl rfl (fun j hj => .inl hj)
theorem PB.below {j : Nat} (h : PB w W N L t n K I v j s gv sv X Y) (hb : Below W.heap.size W W') : PB w W' N L t n K I v j s gv sv X Y :=
  ⟨h.kb.below hb, h.lx, h.len, h.fi⟩
/-- one of them, in memory -/
theorem KB.item (h : KB w W N L t x n K I v s gv sv X Y) {j : Nat} (hj : j < K) :
    ∃ g cc i a m c, v = .slice (some ⟨g, 0, none⟩) K cc ∧ I[j]? = some i ∧ GoodI L i ∧ i.n = n + (j : Int) ∧ Arg W a m i.p.L ∧ (a = none → m = 0 ∧ c = 0) ∧ m = i.p.L.length ∧
      W.cell? ⟨g, j * 8, none⟩ = some (.int .i64 i.n) ∧ W.cell? ⟨g, j * 8 + 1, none⟩ = some (.bool i.g) ∧ W.cell? ⟨g, j * 8 + 2, none⟩ = some (.int .i64 i.p.s) ∧ W.cell? ⟨g, j * 8 + 3, none⟩ = some (.int .i64 i.p.t) ∧ W.cell? ⟨g, j * 8 + 4, none⟩ = some (.int .i64 i.p.l) ∧ W.cell? ⟨g, j * 8 + 5, none⟩ = some (.int .i64 i.p.q) ∧ W.cell? ⟨g, j * 8 + 6, none⟩ = some (.bool i.p.st) ∧ W.cell? ⟨g, j * 8 + 7, none⟩ = some (.slice a m c) := by
  obtain ⟨i, hi, hg, hn⟩ := h.it j hj
  obtain ⟨g, cc, hv, _⟩ := h.row.form (by omega)
  have hI : i ∈ I := List.mem_of_getElem? hi
  obtain ⟨a, m, c, e, hA, hN, hm⟩ := body_arg (h.bod i hI)
  have hr := h.row
  rw [hv, ← h.il] at hr
  have hc : ∀ k, k < 8 → W.cell? ⟨g, j * 8 + k, none⟩ = (OM.c8 i)[k]? := fun k hk => OM.row_cell OM.c8_len hr hi k hk
  refine ⟨g, cc, i, a, m, c, hv, hi, hg, hn, hA, hN, hm, hc 0 (by omega), hc 1 (by omega), hc 2 (by omega), hc 3 (by omega), hc 4 (by omega), hc 5 (by omega), hc 6 (by omega), ?_⟩
  have := hc 7 (by omega)
  rw [← e]
  exact this
/-- one that goes on, ahead of its going out -/
structure QB (w W : World) (N : Nm) (L t n : Int) (K : Nat) (I : OM.Its) (v : Value) (j : Nat) (s : Sv) (gv sv : Value) (X Y : List AU.Pk) (q : Int) (a : Option Addr) (c jj : Nat) : Prop where
  kb : KB w W N L t (n + (j : Int)) n K I v s gv sv X Y
  lx : s.la < n + (j : Int) + 1
  len : X.length = s.k
  hj : L + (jj : Int) = n + (j : Int)
  h64 : jj < 64
  q0 : 0 ≤ q
  q1 : q ≤ 65535
  arg : Arg W a 1 [jj]
  nn : a = none → (1 : Nat) = 0 ∧ c = 0
theorem PB.take {j : Nat} (h : PB w W N L t n K I v j s gv sv X Y) (hj : j < K) {i : OM.Kp} {a : Option Addr} {m c : Nat} (hi : I[j]? = some i) (hg : GoodI L i) (hn : i.n = n + (j : Int)) (hA : Arg W a m i.p.L) (hN : a = none → m = 0 ∧ c = 0) (hm : m = i.p.L.length) :
    Calls Tryz.prog 33 #[.pointer (some ⟨N.yb, 0, none⟩), .agg #[.int .i64 i.n, .bool i.g, .int .i64 i.p.s, .int .i64 i.p.t, .int .i64 i.p.l, .int .i64 i.p.q, .bool i.p.st, .slice a m c]] W fun e w' => e = .returned (.tuple #[.bool (!i.g), .nilIface]) ∧
      (i.g = true → ∃ s1, PB w w' N L t n K I v (j + 1) s1 gv sv X Y) ∧ (i.g = false → m = 1 ∧ i.p.t = 0 ∧ i.p.l = 0 ∧ i.p.q = 0 ∧ i.p.st = true ∧ ∃ s1 jj, QB w w' N L t n K I v j s1 gv sv X Y i.p.s a c jj) ∧ Only [N.yb] W w' := by
  have hL0 := h.kb.tb.l0
  have hL1 := h.kb.tb.l1
  obtain ⟨g1, g2, g3⟩ := hg
  have hla := h.lx
  have hl1 : s.la < i.n := by have := h.kb.tb.li.inv.l0; omega
  have HC := Layer.take_calls N.yb 3 s.nl s.la i.n s.br i.g i.p.s i.p.t i.p.l i.p.q i.p.st a m c W h.kb.tb.mem.y
  have hF : ∀ k ∈ [N.yb], k ∈ N.F ∨ gv.ownBlock = some k := fun k hk => .inl (by simp [Nm.F] at hk ⊢; omega)
  cases hgg : i.g with
  | true =>
    obtain ⟨q1, q2, q3, q4⟩ := h.kb.tb.li.gone (p := PM.fault i.p.s i.p.t i.p.l i.p.q m) (l := i.p.l) (st := i.p.st) (n := i.n) (by omega) (by omega) hl1
    rw [hgg] at HC
    refine HC.mono ?_
    rintro e w' ⟨rfl, h1, h2⟩
    rw [q2, q1]
    refine ⟨rfl, fun _ => ⟨{ s with nl := LM.tkN 3 s.nl s.la i.n s.br true (PM.fault i.p.s i.p.t i.p.l i.p.q m) i.p.l i.p.st, la := LM.tkL s.la i.n true (PM.fault i.p.s i.p.t i.p.l i.p.q m), br := LM.tkB 3 s.nl s.la i.n s.br true (PM.fault i.p.s i.p.t i.p.l i.p.q m) i.p.l i.p.st }, ⟨h.kb.turn h2 hF (h.kb.tb.setY (x' := n + ((j + 1 : Nat) : Int)) h2 h1 q3 (by omega)) rfl rfl (fun j hj => .inl hj), .inr ?_, h.len, fun hz => .inl ?_⟩⟩, fun e => (by cases e), h2⟩
    · show LM.tkL s.la i.n true _ < n + ((j + 1 : Nat) : Int)
      rw [q4]
      omega
    · show 0 < s.k
      rcases h.fi hz with e | ⟨e1, _, e3⟩
      · exact e
      · subst e1
        have := e3 i hi
        rw [hgg] at this
        cases this
  | false =>
    obtain ⟨p1, p2, p3, p4, p5, p6⟩ := g3 hgg
    have hm1 : m = 1 := by rw [hm, p6]; rfl
    have hf : PM.fault i.p.s i.p.t i.p.l i.p.q m = 0 := by rw [p1, p2, p3, p4, hm1]; exact flt0 L _
    rw [p3, p5, hgg] at HC
    obtain ⟨q1, q2, q3, q4⟩ := h.kb.tb.li.pack (p := PM.fault i.p.s i.p.t 0 i.p.q m) (n := i.n) (by omega) (by omega) hl1 (by rw [p3] at hf; exact hf)
    rw [p3, p5]
    refine HC.mono ?_
    rintro e w' ⟨rfl, h1, h2⟩
    rw [q2, q1]
    subst hm1
    rw [p6] at hA
    refine ⟨rfl, fun e => (by cases e), fun _ => ⟨rfl, p2, rfl, p4, rfl, { s with nl := LM.tkN 3 s.nl s.la i.n s.br false (PM.fault i.p.s i.p.t 0 i.p.q 1) 0 true, la := LM.tkL s.la i.n false (PM.fault i.p.s i.p.t 0 i.p.q 1), br := LM.tkB 3 s.nl s.la i.n s.br false (PM.fault i.p.s i.p.t 0 i.p.q 1) 0 true }, (i.n - L).toNat, ⟨h.kb.turn h2 hF (h.kb.tb.setY (x' := n + (j : Int)) h2 h1 q3 (Int.le_refl _)) rfl rfl (fun j hj => .inl hj), ?_, h.len, by omega, by omega, by rw [p1]; omega, by rw [p1]; omega, ?_, hN⟩⟩, h2⟩
    · show LM.tkL s.la i.n false _ < n + (j : Int) + 1
      rw [q4]
      omega
    · have hy := h.kb.tb.mem.y
      unfold Layer.LayerAt at hy
      refine ⟨⟨hA.1.1, fun z hz => ?_⟩, hA.2⟩
      obtain ⟨b, o, e, hc⟩ := hA.1.2 z hz
      refine ⟨b, o, e, ?_⟩
      by_cases hb : b = N.yb
      · rw [hb] at hc
        simp only [World.cell?, hy] at hc
        exfalso
        generalize o + z = oz at hc
        rcases oz with _ | _ | _ | _ | oz <;> simp at hc
      · have hlt := World.block_lt_of_cell? W ⟨b, o + z, none⟩ hc
        have := h2.2.2.2.2 b hlt (by simpa using hb)
        rw [← hc]
        exact NO.cell_same this _
/-- gone out, ahead of the row -/
structure RB (w W : World) (N : Nm) (L t n : Int) (K : Nat) (I : OM.Its) (v : Value) (j : Nat) (s : Sv) (gv sv : Value) (X Y : List AU.Pk) (p : AU.Pk) : Prop where
  kb : KB w W N L t (n + (j : Int)) n K I v s gv sv X Y
  lx : s.la < n + (j : Int) + 1
  len : X.length + 1 = s.k
  bd : Audit.Bd W (Audit.fpF N.F gv sv) p
  is : ∃ jj, Is jj p ∧ jj < 64 ∧ L + (jj : Int) = n + (j : Int)
  pf : AU.pf p = 0
  sq : p.s = UM.sq 0 X.length
theorem RB.below {j : Nat} {p : AU.Pk} (h : RB w W N L t n K I v j s gv sv X Y p) (hb : Below W.heap.size W W') : RB w W' N L t n K I v j s gv sv X Y p :=
  ⟨h.kb.below hb, h.lx, h.len, h.bd.only (Only.of_below hb _) (fun x hx => .inl hx), h.is, h.pf, h.sq⟩
theorem QB.next {j : Nat} {q : Int} {a : Option Addr} {c jj : Nat} (h : QB w W N L t n K I v j s gv sv X Y q a c jj) :
    Calls Tryz.prog 34 #[.pointer (some ⟨N.ub, 0, none⟩), .agg #[.int .i64 q, .int .i64 0, .int .i64 0, .int .i64 0, .bool true, .slice a 1 c]] W fun e w' => ∃ p, e = .returned (.tuple #[Audit.pv p, .nilIface]) ∧ ∃ s1, RB w w' N L t n K I v j s1 gv sv X Y p := by
  have hl := h.kb.tb.got.len
  have hlen := h.len
  have hf : PM.fault q 0 0 0 1 = 0 := by
    have := h.q0
    have := h.q1
    unfold PM.fault
    rw [if_pos (by omega), if_pos (by omega)]
  refine (Out.next_ok N.ub 0 s.k s.tt s.ly s.ot q 0 0 0 true a 1 c [jj] W h.kb.tb.mem.u h.kb.tb.ui (by omega) hf h.arg h.nn).mono ?_
  rintro e w' ⟨a', c', rfl, h1, h2, h3, h4, h5⟩
  have hlF := h.kb.tb.rws.fpb
  refine ⟨⟨UM.sq 0 s.k, UM.nt s.k s.tt s.ly s.ot 0 0, 0, 0, true, a', 1, c', [jj]⟩, rfl, { s with k := s.k + 1, tt := UM.nt s.k s.tt s.ly s.ot 0 0, ly := 0, ot := 0 }, ?_⟩
  have hu := h.kb.tb.ui.next (ly := s.ly) (l := 0) (t := 0) (by omega) (by omega) (by omega)
  have ht : TB w w' N L t (n + (j : Int)) { s with k := s.k + 1, tt := UM.nt s.k s.tt s.ly s.ot 0 0, ly := 0, ot := 0 } gv sv X Y := h.kb.tb.setU h4 h1 hu
  have hnt := UM.nt_bd (k := s.k) (ly := s.ly) (ow := s.ot) (l := 0) (t := 0) h.kb.tb.ui.t0 h.kb.tb.ui.t1
  have hsq := UM.sq_bd 0 s.k
  refine ⟨h.kb.turn h4 (fun k hk => .inl (by simp [Nm.F] at hk ⊢; omega)) ht rfl rfl (fun j hj => .inl hj), h.lx, by show X.length + 1 = s.k + 1; omega, ⟨h2, h3, fun ad e hm => ⟨Audit.ok_lt (p := ⟨UM.sq 0 s.k, UM.nt s.k s.tt s.ly s.ot 0 0, 0, 0, true, a', 1, c', [jj]⟩) h2 e hm, fun hc => ?_⟩⟩, ⟨jj, ⟨rfl, rfl, rfl, rfl⟩, h.h64, h.hj⟩, ?_, by rw [h.len]⟩
  · have := h5 ad e
    have := (hlF _ hc).2
    omega
  · show PM.fault (UM.sq 0 s.k) (UM.nt s.k s.tt s.ly s.ot 0 0) 0 0 1 = 0
    unfold PM.fault
    rw [if_pos (by omega), if_pos (by omega)]
/-- the row has one more -/
theorem RB.add {j : Nat} {p : AU.Pk} {W1 : World} (h : RB w W N L t n K I v j s gv sv X Y p) (hjK : j < K) {O : Obj} {g cap : Nat}
    (hown : W1.ownsRow w.heap.size 38 6 (.slice (some ⟨g, 0, none⟩) (X.length + 1) cap) (X.length + 1) (Audit.flat X ++ Audit.pc p)) (hg : (W.alloc O).grownBy W1 gv.ownBlock) (hl : gv.ownBlock = some g ∨ g = W.heap.size + 1) (hlt : g < W1.heap.size) :
    PB w W1 N L t n K I v (j + 1) s (.slice (some ⟨g, 0, none⟩) (X.length + 1) cap) sv (X ++ [p]) Y := by
  obtain ⟨jj, i1, i2, i3⟩ := h.is
  have ho : Only gv.ownBlock.toList W W1 := (((Only.refl _ W).alloc O).grown hg (fun k e => by simp [e]))
  have hgot : GotI L (n + ((j + 1 : Nat) : Int)) (X ++ [p]) := by
    have := h.kb.tb.got.add i1 i2 h.pf h.sq i3
    rw [show n + (j : Int) + 1 = n + ((j + 1 : Nat) : Int) by omega] at this
    exact this
  have ht := h.kb.tb.addX h.bd hown hg hl hlt hgot
  refine ⟨h.kb.turn ho (fun k hk => .inr (by simpa using hk)) ht rfl rfl (fun k hk => ?_), .inr ?_, by rw [List.length_append, List.length_singleton]; exact h.len, fun _ => .inl (by have := h.len; omega)⟩
  · simp only [Value.ownBlock, Option.some.injEq] at hk
    subst hk
    rcases hl with e | e
    · exact .inl e
    · exact .inr (by omega)
  · have := h.lx
    omega
/-- all are taken -/
theorem PB.done (h : PB w W N L t n K I v K s gv sv X Y) : TB w W N L t s.nx s gv sv X Y ∧ Fl s X.length ∧ (s.nx ≠ -1 → 0 < X.length) ∧ (s.nx = -1 → n = -1) := by
  have hn := h.kb.nx
  have hnb := h.kb.nb
  have hl0 := h.kb.tb.l0
  have hle := h.len
  have hgo : s.nx ≠ -1 → 0 < s.k := by
    intro hx
    by_cases hz : n = -1
    · have := h.kb.z hz
      omega
    · rcases h.fi hz with e | ⟨e1, e2, _⟩
      · exact e
      · omega
  have ht := h.kb.tb
  rw [← hn] at ht
  exact ⟨ht, ⟨h.kb.tn, fun hx => .inl (hgo hx), by rw [hn]; exact h.lx, h.len⟩, fun hx => by have := hgo hx; omega, fun hx => by omega⟩
theorem TB.row (h : TB w W N L t x s gv sv X Y) :
    Calls Tryz.prog 18 #[gv] W fun e w' => e = .returned (.tuple #[.int .i64 0, .nilIface]) ∧ Below W.heap.size W w' := by
  have hk := h.got.len
  obtain ⟨a, cap, rfl, hA, _, _⟩ := Audit.own_pks h.rws.got rfl (by omega) (fun p hp => (h.rws.bx p hp).1)
  refine (Audit.row_calls a X.length cap X X.length W hA h.got.row).mono ?_
  rintro e w' ⟨rfl, hb⟩
  refine ⟨?_, hb⟩
  have e1 : AU.rowf X X.length = 0 := by unfold AU.rowf; rw [if_neg (by omega), if_neg (by omega)]
  have e2 : AU.rat X X.length = 0 := by unfold AU.rat; rw [if_neg (by omega), if_neg (by omega)]
  rw [e1, e2]
  rfl
theorem TB.check (h : TB w W N L t x s gv sv X Y) (hl : Y.length = 64) :
    Calls Tryz.prog 17 #[sv, gv] W fun e w' => e = .returned (.tuple #[.int .i64 0, .nilIface]) ∧ Below W.heap.size W w' := by
  have hk := h.got.len
  obtain ⟨a, cap, rfl, hA, _, _⟩ := Audit.own_pks h.rws.got rfl (by omega) (fun p hp => (h.rws.bx p hp).1)
  obtain ⟨a2, cap2, rfl, hA2, hc2, hn2⟩ := Audit.own_pks h.rws.snt rfl (by omega) (fun p hp => (h.rws.byy p hp).1)
  refine (Audit.check_calls a2 Y.length cap2 Y a X.length cap X X.length W hA2 hc2 hn2 hA (h.got.stop h.sent hl)).mono ?_
  rintro e w' ⟨rfl, hb⟩
  refine ⟨?_, hb⟩
  have e1 : AU.cfault Y X X.length = 0 := AU.cfault_ok (by omega) (by omega)
  have e2 : AU.cat Y X X.length = 0 := by unfold AU.cat; rw [if_neg (by omega)]
  rw [e1, e2]
  rfl
end
end Go.Proofs.YtpiamlgmadnepaaGreat.TR

