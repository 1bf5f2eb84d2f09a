/-
  Two nodes side by side: what each is told, what goes out, what is left. Their condition: each is such as it may be, and nobody subscribes.
-/
import Derived.Test.YtijfocggdjjnjaiGreatNodeW
import Derived.Test.YtijfocggdjjnjaiGreatNRMath
namespace Go.Proofs.YtijfocggdjjnjaiGreat.ND
open Go.ChangeShapes Go.WideShapes Go.ChangeAt Go.RowKit Go.Maps Go.Proofs.YtijfocggdjjnjaiGreat.Mem Go.Proofs.YtijfocggdjjnjaiGreat.NO
set_option linter.unusedVariables false

/-- what was there ahead of all is as it was -/
theorem below_chg {B : Nat} {w W W' : World} {o : Nat → Tg} {n : Nat} (hb : Below B w W) (hs : B ≤ W.heap.size) (hc : Chg o (mine n) W W') (ho : ∀ k, k < B → (o k).n ≠ n) : Below B w W' := by
  obtain ⟨bs, h1, h2, _⟩ := hc
  refine ⟨h1.1.trans hb.os, h1.2.1.trans hb.tape, h1.2.2.1.trans hb.output, Nat.le_trans hb.size h1.2.2.2.1, fun k hk => ?_⟩
  exact (h1.2.2.2.2 k (by omega) (fun hx => ho k hk (h2 k hx))).trans (hb.block k hk)
/-- the world under way: this node alone, and what was there is as it was -/
structure One (w W : World) (b : Nat) (N : Nd) : Prop where
  bel : Below w.heap.size w W
  at' : ∃ o P, NAt W o 1 b P N ∧ ∀ k, k < w.heap.size → (o k).n = 0
theorem One.of_made {w W W' : World} {e : Ending} {N : Nd} (hb : Below w.heap.size w W) (h : Made W W' (fun _ => nobody) 1 e N) : ∃ b, e = .returned (.tuple #[.pointer (some ⟨b, 0, none⟩), .nilIface]) ∧ One w W' b N := by
  obtain ⟨b, rfl, o', P, h1, h2, h3⟩ := h
  have hs := hb.size
  exact ⟨b, rfl, hb.trans (h3.mono hs), o', P, h1, fun k hk => by rw [h2 k (by omega)]⟩
theorem One.below {w W W' : World} {b : Nat} {N : Nd} (h : One w W b N) (hb : Below W.heap.size W W') : One w W' b N := by
  obtain ⟨o, P, h1, h2⟩ := h.at'
  exact ⟨h.bel.trans (hb.mono h.bel.size), o, P, h1.below hb, h2⟩
theorem sinv_nil : SInv [] 0 := ⟨List.Pairwise.nil, by simp, by simp, by omega, by omega⟩
/-- letters, in memory that nobody changes -/
def Lets (W : World) (lv : Value) (G : List (Int × List Nat)) : Prop :=
  ∃ X : List ((Int × List Nat) × Value), X.map Prod.fst = G ∧ W.ownsRow 0 38 2 lv X.length (X.flatMap fun x => [.int .i64 x.1.1, x.2]) ∧ ∀ x ∈ X, ∃ a m c, x.2 = .slice a m c ∧ Arg W a m x.1.2 ∧ m ≤ c
/-- a row's j-th cell -/
theorem flat2 : ∀ (X : List ((Int × List Nat) × Value)) (i : Nat) (h : i < X.length), (X.flatMap fun x => [Value.int .i64 x.1.1, x.2])[i * 2]? = some (.int .i64 X[i].1.1) ∧ (X.flatMap fun x => [Value.int .i64 x.1.1, x.2])[i * 2 + 1]? = some X[i].2
  | [], i, h => absurd h (by simp)
  | x :: X, 0, h => by simp
  | x :: X, i + 1, h => by
    have := flat2 X i (by simpa using h)
    simp only [List.flatMap_cons, List.getElem_cons_succ]
    rw [show (i + 1) * 2 = i * 2 + 2 by omega]
    simpa using this
theorem Lets.at {W : World} {a : Option Addr} {n c : Nat} {G : List (Int × List Nat)} (h : Lets W (.slice a n c) G) (hn : 0 < G.length) : ∃ g, a = some ⟨g, 0, none⟩ ∧ n = G.length ∧ n ≤ c ∧ ∀ i (hi : i < G.length), ∃ a' m' c', W.cell? ⟨g, i * 2, none⟩ = some (.int .i64 G[i].1) ∧ W.cell? ⟨g, i * 2 + 1, none⟩ = some (.slice a' m' c') ∧ Arg W a' m' G[i].2 ∧ m' ≤ c' := by
  obtain ⟨X, r1, r2, r3⟩ := h
  have hlen : G.length = X.length := by rw [← r1, List.length_map]
  rcases r2.2 with ⟨e, h0⟩ | ⟨g, cap, cur, e, _, _, hcc, _⟩
  · omega
  · cases e
    refine ⟨g, rfl, by omega, hcc, fun i hi => ?_⟩
    have hix : i < X.length := by omega
    obtain ⟨f1, f2⟩ := flat2 X i hix
    obtain ⟨a', m', c', e', hA, hm⟩ := r3 X[i] (List.getElem_mem hix)
    have hG : G[i] = X[i].1 := by simp [← r1]
    rw [e'] at f2
    have hl : (X.flatMap fun x => [Value.int .i64 x.1.1, x.2]).length = X.length * 2 := r2.1
    refine ⟨a', m', c', ?_, ?_, by rw [hG]; exact hA, hm⟩
    · rw [r2.cellAt (i * 2) (by omega), f1, hG]
    · rw [r2.cellAt (i * 2 + 1) (by omega), f2]
theorem Lets.below {W W' : World} {lv : Value} {G : List (Int × List Nat)} (h : Lets W lv G) (hb : Below W.heap.size W W') : Lets W' lv G := by
  obtain ⟨X, r1, r2, r3⟩ := h
  refine ⟨X, r1, (Only.of_below hb []).owns r2 (by simp), fun x hx => ?_⟩
  obtain ⟨a, m, c, e, hA, hm⟩ := r3 x hx
  exact ⟨a, m, c, e, hA.below hb, hm⟩
theorem arg_block {W : World} {a : Option Addr} {m : Nat} {B : List Nat} (h : Arg W a m B) (hm : 0 < m) : ∀ ad, a = some ad → ad.block < W.heap.size := by
  intro ad e
  obtain ⟨b', o', e', hc⟩ := h.1.2 0 (by have := h.2.1; omega)
  rw [e] at e'
  cases e'
  exact World.block_lt_of_cell? W ⟨b', o' + 0, none⟩ hc
/-- the world under way: two nodes, and what was there is as it was -/
structure Two (w W : World) (x y ba bb : Nat) (A B : Nd) : Prop where
  bel : Below w.heap.size w W
  ne : x ≠ 0 ∧ y ≠ 0 ∧ x ≠ y
  at' : ∃ o P Q, NAt W o x ba P A ∧ NAt W o y bb Q B ∧ (∀ k, k < w.heap.size → (o k).n = 0) ∧ ∀ k, W.heap.size ≤ k → (o k).n = 0
theorem Two.swap {w W : World} {x y ba bb : Nat} {A B : Nd} (h : Two w W x y ba bb A B) : Two w W y x bb ba B A := by
  obtain ⟨h1, ⟨n1, n2, n3⟩, o, P, Q, a1, a2, a3, a4⟩ := h
  exact ⟨h1, ⟨n2, n1, fun e => n3 e.symm⟩, o, Q, P, a2, a1, a3, a4⟩
theorem Two.mk' {w W : World} {x y ba bb : Nat} {A B : Nd} {o : Nat → Tg} {P Q : NP} (hb : Below w.heap.size w W) (hne : x ≠ 0 ∧ y ≠ 0 ∧ x ≠ y) (h1 : NAt W o x ba P A) (h2 : NAt W o y bb Q B) (h3 : ∀ k, k < w.heap.size → (o k).n = 0) : Two w W x y ba bb A B :=
  ⟨hb, hne, grow o W nobody, P, Q, h1.chg (S := fun _ => False) (Chg.refl _ _ _) (fun g hg => hg.elim) (grow_ext o W nobody), h2.chg (S := fun _ => False) (Chg.refl _ _ _) (fun g hg => hg.elim) (grow_ext o W nobody), fun k hk => by rw [grow_old (by have := hb.size; omega)]; exact h3 k hk, fun k hk => by rw [grow_new hk]⟩
theorem Two.below {w W W' : World} {x y ba bb : Nat} {A B : Nd} (h : Two w W x y ba bb A B) (hb : Below W.heap.size W W') : Two w W' x y ba bb A B := by
  obtain ⟨o, P, Q, a1, a2, a3, a4⟩ := h.at'
  exact ⟨h.bel.trans (hb.mono h.bel.size), h.ne, o, P, Q, a1.below hb, a2.below hb, a3, fun k hk => a4 k (by have := hb.size; omega)⟩
theorem Two.of_done {w W1 W' : World} {x y ba bb : Nat} {B A' : Nd} {o : Nat → Tg} {Q : NP} (hb : Below w.heap.size w W1) (hne : x ≠ 0 ∧ y ≠ 0 ∧ x ≠ y) (h2 : NAt W1 o y bb Q B) (h3 : ∀ k, k < w.heap.size → (o k).n = 0) (hd : Done W1 W' o x ba A') : Two w W' x y ba bb A' B := by
  obtain ⟨o', P', q1, q2, q3⟩ := hd
  have hs := hb.size
  refine Two.mk' (o := o') (below_chg hb hs q3 (fun k hk => by rw [h3 k hk]; exact fun e => hne.1 e.symm)) hne q1 (h2.chg q3 (fun g hg => ?_) q2) (fun k hk => by rw [q2 k (by omega)]; exact h3 k hk)
  have hg' : g.n = x := hg
  rw [hg']
  exact ⟨hne.1, hne.2.2⟩
theorem One.new {w W : World} {b : Nat} {A : Nd} (h : One w W b A) (id : Int) (hid : okN id = true) : Calls Tryz.prog 4 #[.int .i64 id] W fun e w' => ∃ bb, e = .returned (.tuple #[.pointer (some ⟨bb, 0, none⟩), .nilIface]) ∧ Two w w' 1 2 b bb A (nd0 id) := by
  obtain ⟨o, P, h1, h2⟩ := h.at'
  refine (new_ok id o 2 W hid).mono ?_
  rintro e w' ⟨bb, rfl, o', Q, q1, q2, q3⟩
  have hs := h.bel.size
  exact ⟨bb, rfl, Two.mk' (h.bel.trans (q3.mono hs)) ⟨by omega, by omega, by omega⟩ (h1.chg (S := fun _ => False) (Chg.of_below q3 _ _) (fun g hg => hg.elim) q2) q1 (fun k hk => by rw [q2 k (by omega)]; exact h2 k hk)⟩
/-- Plan with kids of the caller's own making -/
theorem Two.plan {w W W1 : World} {x y ba bb : Nat} {A B : Nd} (h : Two w W x y ba bb A B) (hb : Below W.heap.size W W1) (tk pa ep : Int) (a : Option Addr) (m cap : Nat) (K : List Int) (hK : Gaps.IArg W1 a m K) (hno : a = none → m = 0 ∧ cap = 0) (hfr : ∀ ad, a = some ad → W.heap.size ≤ ad.block) (hI : SInv A.sb A.ls) (hall : ∀ s ∈ A.sb, s.2.tk = tk) (hf : pF A tk pa K ep = 0) :
    Calls Tryz.prog 5 #[.pointer (some ⟨ba, 0, none⟩), .int .i64 tk, .int .i64 pa, .slice a m cap, .int .i64 ep] W1 fun e w' => e = .returned .nilIface ∧ Two w w' x y ba bb (A.plan tk pa K ep) B := by
  obtain ⟨o, P, Q, a1, a2, a3, a4⟩ := h.at'
  refine (plan_ok x ba o P A tk pa ep a m cap K W1 h.ne.1 (a1.below hb) hI hall hK hno (fun ad e _ => by rw [a4 _ (hfr ad e)]; exact fun e => h.ne.1 e.symm) hf).mono ?_
  rintro e w' ⟨rfl, hd⟩
  exact ⟨rfl, Two.of_done (h.bel.trans (hb.mono h.bel.size)) h.ne (a2.below hb) a3 hd⟩
theorem BodyAt.chg' {w w' : World} {o o' : Nat → Tg} {v : Value} {L : List Nat} {S : Tg → Prop} (h : BodyAt w o v L) (hc : Chg o S w w') (hs : ∀ g, S g → g.n ≠ 0) (he : ∀ k, k < w.heap.size → (o k).n = 0 → (o' k).n = 0) : BodyAt w' o' v L := by
  obtain ⟨a, m, c, rfl, hA, hF⟩ := h
  refine ⟨a, m, c, rfl, hc.arg hA (fun h0 ad e hS => hs _ hS (hF h0 ad e)), ?_⟩
  intro h0 ad e
  exact he _ (arg_block hA h0 ad e) (hF h0 ad e)
/-- what is not this node's leaves it as it was, also where what was another one's becomes nobody's -/
theorem NAt.chg' {w w' : World} {o o' : Nat → Tg} {n b : Nat} {P : NP} {N : Nd} {S : Tg → Prop} (h : NAt w o n b P N) (hsb : N.sb = []) (hc : Chg o S w w') (hs : ∀ g, S g → g.n ≠ 0 ∧ g.n ≠ n) (he : ∀ k, k < w.heap.size → (o k).n = n → o' k = o k) (hz : ∀ k, k < w.heap.size → (o k).n = 0 → (o' k).n = 0) : NAt w' o' n b P N := by
  have h0 : ∀ g, S g → g.n ≠ 0 := fun g hg => (hs g hg).1
  have no : ∀ c j, ¬ S ⟨n, c, j⟩ := fun c j hg => (hs _ hg).2 rfl
  have own : ∀ c j bs, Own o ⟨n, c, j⟩ bs → (∀ k ∈ bs, k < w.heap.size) → Own o' ⟨n, c, j⟩ bs := fun c j bs ho hl k hk => (he k (hl k hk) (by rw [ho k hk])).trans (ho k hk)
  obtain ⟨cs, h1, h2⟩ := h.box
  obtain ⟨D, h3, h4⟩ := h.sbm
  refine ⟨⟨cs, hc.block h1 (by rw [h.tag]; exact no _ _), h2⟩, (he _ (lt_of_block h1) (by rw [h.tag])).trans h.tag, ?_, ⟨D, map_chg h3 hc (by rw [h.smt]; exact no _ _), h4⟩, (he _ h3.lt (by rw [h.smt])).trans h.smt, ?_, pull_chg h.pul hc h.put (no _ _), own _ _ _ h.put h.pul.blt, ?_, own _ _ _ h.ltt h.ltr.lt⟩
  · intro i hi t ht
    obtain ⟨k1, k2⟩ := h.trs i hi t ht
    exact ⟨k1.chg hc k2 (no _ _), own _ _ _ k2 k1.lt⟩
  · intro z hx
    rw [hsb] at hx
    simp at hx
  · obtain ⟨X, x1, x2, x3⟩ := h.ltr
    exact ⟨X, x1, row_chg x2 hc h.ltt (no _ _), fun z hx => ⟨(x3 z hx).1.chg' hc h0 hz, (x3 z hx).2⟩⟩
theorem Two.out {w W : World} {x y ba bb : Nat} {A B : Nd} (h : Two w W x y ba bb A B) (hsb : B.sb = []) :
    Calls Tryz.prog 8 #[.pointer (some ⟨ba, 0, none⟩)] W fun e w' => ∃ a c, e = .returned (.slice a A.lt.length c) ∧ Lets w' (.slice a A.lt.length c) A.lt ∧ Two w w' x y ba bb { A with lt := [] } B := by
  obtain ⟨o, P, Q, a1, a2, a3, a4⟩ := h.at'
  refine (out_calls x ba o P A W h.ne.1 a1).mono ?_
  rintro e w' ⟨lv, o', P', rfl, q1, q2, q3, q4, q5⟩
  obtain ⟨X, r1, r2, r3⟩ := q2
  have hlen : A.lt.length = X.length := by rw [← r1, List.length_map]
  have hL : Lets w' lv A.lt := ⟨X, r1, r2, fun z hx => by obtain ⟨⟨a, m, c, e, hA, _⟩, hc⟩ := r3 z hx; exact ⟨a, m, c, e, hA, (hc a m c e).1⟩⟩
  have hO : Two w w' x y ba bb { A with lt := [] } B := by
    refine Two.mk' (o := o') (below_chg h.bel h.bel.size q5 (fun k hk => by rw [a3 k hk]; exact fun e => h.ne.1 e.symm)) h.ne q1 (a2.chg' hsb q5 (fun g hg => ?_) (fun k hk hn => ?_) (fun k hk hn => ?_)) (fun k hk => ?_)
    · have hg' : g.n = x := hg
      rw [hg']
      exact ⟨h.ne.1, h.ne.2.2⟩
    · rcases q4 k hk with e | e
      · exact e
      · rw [e.1] at hn
        exact absurd hn h.ne.2.2
    · rcases q4 k hk with e | e
      · rw [e]; exact hn
      · rw [e.2]
    · rcases q4 k (by have := h.bel.size; omega) with e | e
      · rw [e]; exact a3 k hk
      · rw [e.2]
  rcases r2.2 with ⟨rfl, h0⟩ | ⟨g, cap, cur, rfl, _⟩
  · exact ⟨none, 0, by rw [hlen, h0], by rw [hlen, h0]; exact hL, hO⟩
  · exact ⟨some ⟨g, 0, none⟩, cap, by rw [hlen], by rw [hlen]; exact hL, hO⟩
/-- one that has taken a packet: a letter to its kid -/
structure Took (N : Nd) (id nw : Int) (t : Tr) (G : List (Int × List Nat)) : Prop where
  ni : NI { N with lt := [] } id nw t
  lt : N.lt = G
theorem took_ni {N : Nd} {id nw now og h : Int} {t : Tr} {p : RM.Pk} {kd : Int} {F : List Nat} (hN : NI N id nw t) (hK : t.kids = [kd]) (hB : GM.hB t.gn t.gT t.gM (num t.rT p.s) now = true) (hff : FM.ffault t.tk og t.ep h (pby p.s p.t p.l p.q p.st p.L) = 0) (hF : fby t.tk og t.ep h (pby p.s p.t p.l p.q p.st p.L) = F) :
    Took { N.took 0 t p og h now with nw := now } id now ((t.heard (num t.rT p.s) now).keep (num t.rT p.s) p (og, h)) [(kd, F)] := by
  rw [took_yes hB]
  refine ⟨⟨hN.id, rfl, by show updR N.tr 0 _ 0 = _; exact updR_at _ _ _, ?_, hN.sb, hN.ls, rfl⟩, ?_⟩
  · intro i hi
    show updR N.tr 0 _ i = none
    unfold updR
    rw [if_neg hi]
    exact hN.no i hi
  · show N.lt ++ downs t.kids _ _ = _
    rw [hN.lt, hff, hF, hK]
    rfl
theorem took_nw {N : Nd} {k : Nat} {t : Tr} {p : RM.Pk} {og h now : Int} : ({ N with nw := now } : Nd).took k t p og h now = { N.took k t p og h now with nw := now } := by
  unfold Nd.took
  split <;> rfl
/-- a packet is sent -/
theorem Two.send {w W W1 : World} {x y ba bb : Nat} {A B : Nd} {t : Tr} {n : Nat} {nw now : Int} {kd : Int} (h : Two w W x y ba bb A B) (hb : Below W.heap.size W W1) (hA : NI A 1 nw t) (hK : t.kids = [kd]) (hpa : t.pa = -1) (htk : t.tk = 1) (hep : t.ep = 1) (hnow : GM.tf nw now = 0) (hG : GM.Inv 3 3 t.gn t.gT t.gM) (hR : RM.Inv 64 t.rT t.rM) (hB : GM.hB t.gn t.gT t.gM (num t.rT (n : Int)) now = true) (hn : n ≤ 1000) (a : Option Addr) (cap : Nat) (hArg : Arg W1 a 2 (rL n)) (hfr : ∀ ad, a = some ad → W.heap.size ≤ ad.block) (hno : a = none → 2 = 0 ∧ cap = 0) :
    Calls Tryz.prog 6 #[.pointer (some ⟨ba, 0, none⟩), .int .i64 1, .agg #[.int .i64 (n : Int), .int .i64 (n : Int), .int .i64 0, .int .i64 0, .bool true, .slice a 2 cap], .int .i64 now] W1 fun e w' => e = .returned .nilIface ∧ ∃ A', Two w w' x y ba bb A' B ∧ Took A' 1 now ((t.heard (num t.rT (n : Int)) now).keep (num t.rT (n : Int)) (rp n (.slice a 2 cap)) (1, 1)) [(kd, rF 1 n)] := by
  obtain ⟨o, P, Q, a1, a2, a3, a4⟩ := h.at'
  have hff : FM.ffault t.tk A.id t.ep 1 (pby (n : Int) (n : Int) 0 0 true (rL n)) = 0 := by rw [htk, hep, hA.id]; exact rF_fault hn (by omega) (by omega)
  have hC := send_ok x ba 0 o P A t now (n : Int) (n : Int) 0 0 true a 2 cap (rL n) W1 h.ne.1 (a1.below hb) (by omega) hA.tr hpa (by rw [hA.nw]; exact hnow) hG hR hArg hno (rp_fault hn) (fun _ ad e => a4 _ (hfr ad e)) hA.sb (by rw [hA.sb, hA.ls]; exact sinv_nil) (by rw [hA.lt, hK]; simp)
  refine hC.mono ?_
  rintro e w' ⟨rfl, hd⟩
  refine ⟨rfl, _, Two.of_done (h.bel.trans (hb.mono h.bel.size)) h.ne (a2.below hb) a3 hd, ?_⟩
  rw [took_nw]
  have hT := took_ni (p := rp n (.slice a 2 cap)) (F := rF 1 n) hA hK hB hff (by rw [htk, hep, hA.id]; rfl)
  rw [show ((A.id, (1 : Int)) : Int × Int) = (1, 1) by rw [hA.id]] at hT
  exact hT
/-- a frame is heard -/
theorem Two.hear {w W : World} {x y ba bb : Nat} {A B : Nd} {t : Tr} {n : Nat} {id nw now h : Int} {kd : Int} (hT : Two w W x y ba bb A B) (hA : NI A id nw t) (hK : t.kids = [kd]) (hpa : t.pa = 1) (htk : t.tk = 1) (hep : t.ep = 1) (hnow : GM.tf nw now = 0) (hG : GM.Inv 3 3 t.gn t.gT t.gM) (hR : RM.Inv 64 t.rT t.rM) (hB : GM.hB t.gn t.gT t.gM (num t.rT (n : Int)) now = true) (hn : n ≤ 1000) (h0 : 0 ≤ h) (h1 : h ≤ 63) (a : Option Addr) (m cap : Nat) (hArg : Arg W a m (rF h n)) (hc : m ≤ cap) :
    Calls Tryz.prog 9 #[.pointer (some ⟨ba, 0, none⟩), .int .i64 1, .slice a m cap, .int .i64 now] W fun e w' => e = .returned .nilIface ∧ ∃ A' bv, Two w w' x y ba bb A' B ∧ Took A' id now ((t.heard (num t.rT (n : Int)) now).keep (num t.rT (n : Int)) (rp n bv) (1, h + 1)) [(kd, rF (h + 1) n)] := by
  obtain ⟨o, P, Q, a1, a2, a3, a4⟩ := hT.at'
  have hff : FM.ffault t.tk 1 t.ep (h + 1) (pby (n : Int) (n : Int) 0 0 true (rL n)) = 0 := by rw [htk, hep]; exact rF_fault hn (by omega) (by omega)
  have hC := hear_frame x ba 0 o P A t 1 now 1 1 h (n : Int) (n : Int) 0 0 true a m cap (rL n) W hT.ne.1 a1 (by omega) hA.tr (by rw [hA.nw]; exact hnow) hG hR hArg hc (rF_fault hn h0 (by omega)) (rp_fault hn) (rL_lt n) hA.sb (by rw [hA.sb, hA.ls]; exact sinv_nil) (by rw [hA.lt, hK]; simp)
  have hz : hrF t 1 1 = 0 := by
    unfold hrF
    rw [if_neg (by rw [hpa, hep]; omega)]
  rw [hz] at hC
  refine hC.mono ?_
  rintro e w' ⟨rfl, hd, _⟩
  obtain ⟨bv, hd⟩ := hd rfl
  exact ⟨rfl, _, bv, Two.of_done hT.bel hT.ne a2 a3 hd, took_ni (p := rp n bv) hA hK hB hff (by rw [htk, hep]; rfl)⟩
end Go.Proofs.YtijfocggdjjnjaiGreat.ND

