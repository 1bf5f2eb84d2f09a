/-
  All lofts in memory: the nodes, the edges, who subscribes, what flies. Of worlds alone; no walk.
-/
import Derived.Test.YtpiamlgmadnepaaGreatGenM
import Derived.Test.YtpiamlgmadnepaaGreatGenO
import Derived.Test.YtpiamlgmadnepaaGreatTreeJ
import Derived.Test.YtpiamlgmadnepaaGreatTreeMath3
namespace Go.Proofs.YtpiamlgmadnepaaGreat.MS
open Go.ChangeShapes Go.WideShapes Go.ChangeAt Go.RowKit Go.Maps Go.Proofs.YtpiamlgmadnepaaGreat.Mem Go.Proofs.YtpiamlgmadnepaaGreat.NO Go.Proofs.YtpiamlgmadnepaaGreat.ND
set_option linter.unusedVariables false

/-- what flies: from whom, to whom, which bytes -/
structure Fl where
  fr : Int
  tw : Int
  B : List Nat
/-- all lofts -/
structure Ms where
  nw : Int
  n : Nat
  nd : Nat → Nd
  E : List TM.Ed
  rt : Nat → Int
  sb : List (Int × Int)
  fl : List Fl
/-- where they lie -/
structure MP where
  nb : Nat → Nat
  np : Nat → NP
  nv : Value
  ea : Option Addr
  ec : Nat
  sv : Value
  fv : Value

/-! what flies -/
def fcs (x : Fl × Value) : List Value := [.int .i64 x.1.fr, .int .i64 x.1.tw, x.2]
def fc (X : List (Fl × Value)) : List Value := X.flatMap fcs
theorem fc_len (X : List (Fl × Value)) : (fc X).length = X.length * 3 := by
  induction X with
  | nil => rfl
  | cons x X ih =>
    show (fcs x ++ fc X).length = _
    rw [List.length_append, ih, List.length_cons]
    simp [fcs]
    omega
theorem fc_app (X Y : List (Fl × Value)) : fc (X ++ Y) = fc X ++ fc Y := by simp [fc]
theorem fc_get (X : List (Fl × Value)) : ∀ (i : Nat) (x : Fl × Value), X[i]? = some x → (fc X)[i * 3]? = some (.int .i64 x.1.fr) ∧ (fc X)[i * 3 + 1]? = some (.int .i64 x.1.tw) ∧ (fc X)[i * 3 + 2]? = some x.2 := by
  induction X with
  | nil => intro i x h; simp at h
  | cons y X ih =>
    intro i x h
    have e : fc (y :: X) = .int .i64 y.1.fr :: .int .i64 y.1.tw :: y.2 :: fc X := rfl
    cases i with
    | zero =>
      rw [List.getElem?_cons_zero] at h
      cases h
      exact ⟨rfl, rfl, rfl⟩
    | succ i =>
      have := ih i x (by simpa using h)
      rw [e, show (i + 1) * 3 = i * 3 + 1 + 1 + 1 by omega]
      simpa using this
theorem fc_drop (X : List (Fl × Value)) : ∀ k, fc (X.drop k) = (fc X).drop (k * 3) := by
  induction X with
  | nil => intro k; simp [fc]
  | cons y X ih =>
    intro k
    cases k with
    | zero => simp
    | succ k =>
      rw [List.drop_succ_cons, ih k]
      show _ = (fcs y ++ fc X).drop _
      rw [List.drop_append_of_le_length' y X k]
where
  List.drop_append_of_le_length' (y : Fl × Value) (X : List (Fl × Value)) (k : Nat) : (fcs y ++ fc X).drop ((k + 1) * 3) = (fc X).drop (k * 3) := by
    rw [List.drop_append, List.drop_of_length_le (by simp [fcs]; omega), show (k + 1) * 3 - (fcs y).length = k * 3 by simp [fcs]; omega]
    rfl
theorem fc_take (X : List (Fl × Value)) (k : Nat) : fc (X.take k) = (fc X).take (k * 3) := by
  have h := fc_app (X.take k) (X.drop k)
  rw [List.take_append_drop] at h
  by_cases hk : k ≤ X.length
  · have e : (fc (X.take k)).length = k * 3 := by rw [fc_len, List.length_take]; omega
    rw [h, ← e, List.take_left']
    rfl
  · rw [List.take_of_length_le (l := X) (by omega), List.take_of_length_le (l := fc X) (by rw [fc_len]; omega)]
theorem fc_cell (X : List (Fl × Value)) (h : ∀ x ∈ X, ∃ a m c, x.2 = .slice a m c) : ∀ u ∈ fc X, u.oneCell' = true := by
  intro u hu
  obtain ⟨x, hx, hu⟩ := List.mem_flatMap.1 hu
  obtain ⟨a, m, c, e⟩ := h x hx
  simp only [fcs, List.mem_cons, List.not_mem_nil, or_false] at hu
  rcases hu with rfl | rfl | rfl
  · rfl
  · rfl
  · rw [e]; rfl
/-- a row of what flies: a stretch of a block -/
def FRow (w : World) (v : Value) (X : List (Fl × Value)) : Prop := (v = .slice none 0 0 ∧ X = []) ∨
  ∃ g off cap cur, v = .slice (some ⟨g, off, none⟩) X.length cap ∧ w.heap[g]? = some (.cells cur 167 (0, 0)) ∧ X.length ≤ cap ∧ cap ≤ maxLen ∧ off + cap * 3 ≤ cur.size ∧ ∀ j u, (fc X)[j]? = some u → cur[off + j]? = some u
theorem FRow.nil (w : World) : FRow w (.slice none 0 0) [] := .inl ⟨rfl, rfl⟩
theorem FRow.form {w : World} {v : Value} {X : List (Fl × Value)} (h : FRow w v X) : ∃ a c, v = .slice a X.length c := by
  rcases h with ⟨rfl, rfl⟩ | ⟨g, off, cap, cur, rfl, _⟩
  · exact ⟨none, 0, rfl⟩
  · exact ⟨_, _, rfl⟩
theorem FRow.lt {w : World} {v : Value} {X : List (Fl × Value)} (h : FRow w v X) : ∀ k ∈ v.ownBlock.toList, k < w.heap.size := by
  intro k hk
  rcases h with ⟨rfl, rfl⟩ | ⟨g, off, cap, cur, rfl, hg, _⟩
  · simp [Value.ownBlock] at hk
  · simp [Value.ownBlock] at hk
    subst hk
    exact lt_of_block hg
theorem FRow.only {w w' : World} {v : Value} {X : List (Fl × Value)} {bs : List Nat} (h : FRow w v X) (ho : Only bs w w') (hb : ∀ k ∈ v.ownBlock.toList, k ∉ bs) : FRow w' v X := by
  rcases h with ⟨rfl, rfl⟩ | ⟨g, off, cap, cur, rfl, hg, h1, h2, h3, h4⟩
  · exact .inl ⟨rfl, rfl⟩
  · exact .inr ⟨g, off, cap, cur, rfl, ho.block hg (hb g (by simp [Value.ownBlock])), h1, h2, h3, h4⟩
def FlAt (w : World) (o : Nat → Tg) (v : Value) (F : List Fl) : Prop := ∃ X : List (Fl × Value), X.map Prod.fst = F ∧ FRow w v X ∧ ∀ x ∈ X, BodyAt w o x.2 x.1.B ∧ Cap x.2
theorem FlAt.nil (w : World) (o : Nat → Tg) : FlAt w o (.slice none 0 0) [] := ⟨[], rfl, FRow.nil w, by simp⟩
theorem FlAt.chg {w w' : World} {o o' : Nat → Tg} {S : Tg → Prop} {g : Tg} {v : Value} {F : List Fl} (h : FlAt w o v F) (hc : Chg o S w w') (ho : Own o g v.ownBlock.toList) (hs : ¬ S g) (h0 : ∀ g, S g → g.n ≠ 0) (he : Ext w o o') : FlAt w' o' v F := by
  obtain ⟨X, h1, h2, h3⟩ := h
  refine ⟨X, h1, ?_, fun x hx => ⟨(h3 x hx).1.chg hc h0 he, (h3 x hx).2⟩⟩
  obtain ⟨bs, q1, q2, q3⟩ := hc
  exact h2.only q1 (fun k hk hb => hs (by rw [← ho k hk]; exact q2 k hb))
theorem FlAt.lt {w : World} {o : Nat → Tg} {v : Value} {F : List Fl} (h : FlAt w o v F) : ∀ k ∈ v.ownBlock.toList, k < w.heap.size := by
  obtain ⟨X, _, h2, _⟩ := h
  exact h2.lt

/-! whose blocks become nobody's -/
def Ret (n : Nat) (o o' : Nat → Tg) : Prop := ∀ k, o' k = o k ∨ ((o k).n = n ∧ o' k = nobody)
theorem Ret.own {n : Nat} {o o' : Nat → Tg} (h : Ret n o o') {g : Tg} (hg : g.n ≠ n) {bs : List Nat} (ho : Own o g bs) : Own o' g bs := by
  intro k hk
  rcases h k with e | ⟨e, _⟩
  · exact e.trans (ho k hk)
  · rw [ho k hk] at e
    exact absurd e hg
theorem Ret.one {n : Nat} {o o' : Nat → Tg} (h : Ret n o o') {g : Tg} (hg : g.n ≠ n) {k : Nat} (ho : o k = g) : o' k = g := by
  rcases h k with e | ⟨e, _⟩
  · exact e.trans ho
  · rw [ho] at e
    exact absurd e hg
theorem Ret.zero {n : Nat} {o o' : Nat → Tg} (h : Ret n o o') {k : Nat} (ho : (o k).n = 0) : (o' k).n = 0 := by
  rcases h k with e | ⟨_, e⟩
  · rw [e]; exact ho
  · rw [e]
theorem Ret.body {n : Nat} {o o' : Nat → Tg} (h : Ret n o o') {w : World} {v : Value} {L : List Nat} (hb : BodyAt w o v L) : BodyAt w o' v L := by
  obtain ⟨a, m, c, rfl, hA, hF⟩ := hb
  exact ⟨a, m, c, rfl, hA, fun hm ad e => h.zero (hF hm ad e)⟩
theorem Ret.got {n : Nat} {o o' : Nat → Tg} (h : Ret n o o') {w : World} {v : Value} {G : List Pk} (hb : GotAt w o v G) : GotAt w o' v G := by
  obtain ⟨X, r1, r2, r3⟩ := hb
  exact ⟨X, r1, r2, fun y hy => h.body (r3 y hy)⟩
theorem Ret.let {n : Nat} {o o' : Nat → Tg} (h : Ret n o o') {w : World} {v : Value} {G : List (Int × List Nat)} (hb : LetAt w o v G) : LetAt w o' v G := by
  obtain ⟨X, r1, r2, r3⟩ := hb
  exact ⟨X, r1, r2, fun y hy => ⟨h.body (r3 y hy).1, (r3 y hy).2⟩⟩
theorem Ret.fly {n : Nat} {o o' : Nat → Tg} (h : Ret n o o') {w : World} {v : Value} {G : List Fl} (hb : FlAt w o v G) : FlAt w o' v G := by
  obtain ⟨X, r1, r2, r3⟩ := hb
  exact ⟨X, r1, r2, fun y hy => ⟨h.body (r3 y hy).1, (r3 y hy).2⟩⟩
theorem NAt.ret {w : World} {o o' : Nat → Tg} {n m b : Nat} {P : NP} {N : Nd} (h : NAt w o m b P N) (hr : Ret n o o') (hm : m ≠ n) : NAt w o' m b P N := by
  refine ⟨h.box, hr.one (g := ⟨m, 0, 0⟩) hm h.tag, ?_, h.sbm, hr.one (g := ⟨m, 0, 1⟩) hm h.smt, ?_, h.pul, hr.own (g := ⟨m, 2, 0⟩) hm h.put, hr.let h.ltr, hr.own (g := ⟨m, 1, 0⟩) hm h.ltt⟩
  · intro i hi t ht
    obtain ⟨k1, k2⟩ := h.trs i hi t ht
    exact ⟨k1, hr.own (g := ⟨m, 3, i⟩) hm k2⟩
  · intro x hx
    obtain ⟨k1, k2⟩ := h.sbs x hx
    exact ⟨⟨k1.box, k1.ord, k1.lay, k1.out, hr.got k1.got⟩, hr.own (g := ⟨m, 4, x.1⟩) hm k2⟩

/-! all lofts -/
def npt (f : Nat → Nat) (n : Nat) : List Value := (List.range n).map fun i => Value.pointer (some ⟨f i, 0, none⟩)
def sbc (l : List (Int × Int)) : List Value := l.flatMap fun x => [.int .i64 x.1, .int .i64 x.2]
structure MCells (cs : Array Value) (P : MP) (M : Ms) : Prop where
  sz : cs.size = 13
  c0 : cs[0]? = some (.int .i64 M.nw)
  c1 : cs[1]? = some P.nv
  c2 : cs[2]? = some (.slice P.ea M.E.length P.ec)
  cr : ∀ i, i < 8 → cs[3 + i]? = some (.int .i64 (M.rt i))
  c11 : cs[11]? = some P.sv
  c12 : cs[12]? = some P.fv
structure MAt (w : World) (o : Nat → Tg) (b : Nat) (P : MP) (M : Ms) : Prop where
  n16 : M.n ≤ 16
  box : ∃ cs, w.heap[b]? = some (.cells cs 96 (0, 0)) ∧ MCells cs P M
  tag : o b = ⟨1000, 0, 0⟩
  nrow : w.ownsRow 0 97 1 P.nv M.n (npt P.nb M.n)
  nrt : Own o ⟨1000, 1, 0⟩ P.nv.ownBlock.toList
  nds : ∀ i, i < M.n → NAt w o (i + 1) (P.nb i) (P.np i) (M.nd i)
  edg : Tree.EArg w P.ea M.E.length M.E
  edc : M.E.length ≤ P.ec
  edt : ∀ ad, P.ea = some ad → 0 < M.E.length → o ad.block = ⟨1000, 2, 0⟩
  srow : w.ownsRow 0 104 2 P.sv M.sb.length (sbc M.sb)
  srt : Own o ⟨1000, 3, 0⟩ P.sv.ownBlock.toList
  fly : FlAt w o P.fv M.fl
  flt : Own o ⟨1000, 4, 0⟩ P.fv.ownBlock.toList
theorem MAt.cells {w : World} {o : Nat → Tg} {b : Nat} {P : MP} {M : Ms} (h : MAt w o b P M) : w.cell? ⟨b, 0, none⟩ = some (.int .i64 M.nw) ∧ w.cell? ⟨b, 1, none⟩ = some P.nv ∧ w.cell? ⟨b, 2, none⟩ = some (.slice P.ea M.E.length P.ec) ∧ w.cell? ⟨b, 11, none⟩ = some P.sv ∧ w.cell? ⟨b, 12, none⟩ = some P.fv := by
  obtain ⟨cs, h1, h2⟩ := h.box
  simp [World.cell?, h1, h2.c0, h2.c1, h2.c2, h2.c11, h2.c12]
theorem MAt.root {w : World} {o : Nat → Tg} {b : Nat} {P : MP} {M : Ms} (h : MAt w o b P M) {i : Nat} (hi : i < 8) : w.cell? ⟨b, 3 + i, none⟩ = some (.int .i64 (M.rt i)) := by
  obtain ⟨cs, h1, h2⟩ := h.box
  simp [World.cell?, h1, h2.cr i hi]
theorem MAt.free {w : World} {o : Nat → Tg} {b : Nat} {P : MP} {M : Ms} (h : MAt w o b P M) (j : Nat) : w.frozen? ⟨b, j, none⟩ = false := by
  obtain ⟨cs, h1, h2⟩ := h.box
  simp [World.frozen?, h1]
theorem MAt.lt {w : World} {o : Nat → Tg} {b : Nat} {P : MP} {M : Ms} (h : MAt w o b P M) : b < w.heap.size := by
  obtain ⟨cs, h1, h2⟩ := h.box
  exact lt_of_block h1
theorem earg_chg {w w' : World} {o : Nat → Tg} {S : Tg → Prop} {a : Option Addr} {m : Nat} {L : List TM.Ed} {g : Tg} (h : Tree.EArg w a m L) (hc : Chg o S w w') (ht : ∀ ad, a = some ad → 0 < m → o ad.block = g) (hg : ¬ S g) : Tree.EArg w' a m L := by
  obtain ⟨bs, q1, q2, q3⟩ := hc
  refine ⟨fun j hj => ?_, h.2⟩
  obtain ⟨b', o', e, h0, h1, h2⟩ := h.1 j hj
  have hnb : b' ∉ bs := fun hx => hg (by rw [← ht _ e (by have := h.2.1; omega)]; exact q2 _ hx)
  have hl := World.block_lt_of_cell? w ⟨b', o' + j * 3, none⟩ h0
  have hs := q1.2.2.2.2 b' hl hnb
  exact ⟨b', o', e, (cell_same hs _).trans h0, (cell_same hs _).trans h1, (cell_same hs _).trans h2⟩
theorem earg_lt {w : World} {a : Option Addr} {m : Nat} {L : List TM.Ed} (h : Tree.EArg w a m L) {ad : Addr} (e : a = some ad) (hm : 0 < m) : ad.block < w.heap.size := by
  obtain ⟨b', o', e', h0, _, _⟩ := h.1 0 (by have := h.2.1; omega)
  rw [e] at e'
  cases e'
  exact World.block_lt_of_cell? w ⟨b', o' + 0 * 3, none⟩ h0
/-- what is neither the lofts' nor nobody's leaves them as they were -/
theorem MAt.chg {w w' : World} {o o' : Nat → Tg} {b : Nat} {P : MP} {M : Ms} {S : Tg → Prop} (h : MAt w o b P M) (hc : Chg o S w w') (hs : ∀ g, S g → g.n ≠ 0 ∧ g.n ≠ 1000 ∧ 16 < g.n) (he : Ext w o o') : MAt w' o' b P M := by
  have h0 : ∀ g, S g → g.n ≠ 0 := fun g hg => (hs g hg).1
  have no : ∀ c j, ¬ S ⟨1000, c, j⟩ := fun c j hg => (hs _ hg).2.1 rfl
  obtain ⟨cs, h1, h2⟩ := h.box
  refine ⟨h.n16, ⟨cs, hc.block h1 (by rw [h.tag]; exact no _ _), h2⟩, (he _ (lt_of_block h1)).trans h.tag, row_chg h.nrow hc h.nrt (no _ _), h.nrt.ext he (fun k hk => own_lt h.nrow (by simpa using hk)), ?_, earg_chg h.edg hc h.edt (no _ _), h.edc, ?_, row_chg h.srow hc h.srt (no _ _), h.srt.ext he (fun k hk => own_lt h.srow (by simpa using hk)), h.fly.chg hc h.flt (no _ _) h0 he, h.flt.ext he h.fly.lt⟩
  · intro i hi
    exact (h.nds i hi).chg hc (fun g hg => ⟨h0 g hg, by have := (hs g hg).2.2; have := h.n16; omega⟩) he
  · intro ad e hm
    rw [he _ (earg_lt h.edg e hm)]
    exact h.edt ad e hm
theorem MAt.below {w w' : World} {o : Nat → Tg} {b : Nat} {P : MP} {M : Ms} (h : MAt w o b P M) (hb : Below w.heap.size w w') : MAt w' o b P M :=
  h.chg (S := fun _ => False) (Chg.of_below hb _ _) (fun g hg => hg.elim) (Ext.refl _ _)
theorem MAt.grow {w w' : World} {o : Nat → Tg} {b : Nat} {P : MP} {M : Ms} (h : MAt w o b P M) (hb : Below w.heap.size w w') (t : Tg) : MAt w' (grow o w t) b P M :=
  h.chg (S := fun _ => False) (Chg.of_below hb _ _) (fun g hg => hg.elim) (grow_ext o w t)
def updN {α : Type} (f : Nat → α) (i : Nat) (x : α) : Nat → α := fun k => if k = i then x else f k
theorem updN_at {α : Type} (f : Nat → α) (i : Nat) (x : α) : updN f i x i = x := if_pos rfl
theorem updN_ne {α : Type} (f : Nat → α) {i k : Nat} (x : α) (h : k ≠ i) : updN f i x k = f k := if_neg h
/-- the lofts' tags -/
def meshy (g : Tg) : Prop := g.n ≠ 0 ∧ g.n ≠ 2000
def Keep (w : World) (o o' : Nat → Tg) : Prop := ∀ k, k < w.heap.size → o' k = o k ∨ (meshy (o k) ∧ o' k = nobody)
theorem Keep.of_ext {w : World} {o o' : Nat → Tg} (h : Ext w o o') : Keep w o o' := fun k hk => .inl (h k hk)
theorem Keep.trans {w w1 : World} {o o1 o2 : Nat → Tg} (h : Keep w o o1) (h' : Keep w1 o1 o2) (hs : w.heap.size ≤ w1.heap.size) : Keep w o o2 := by
  intro k hk
  rcases h k hk with e | ⟨e1, e2⟩
  · rcases h' k (by omega) with e' | ⟨e1', e2'⟩
    · exact .inl (e'.trans e)
    · exact .inr ⟨by rw [e] at e1'; exact e1', e2'⟩
  · rcases h' k (by omega) with e' | ⟨e1', e2'⟩
    · exact .inr ⟨e1, e'.trans e2⟩
    · exact .inr ⟨e1, e2'⟩
/-- a change by tags that may have become nobody's -/
theorem Chg.keep {w w1 w2 : World} {o o1 : Nat → Tg} (h : Chg o meshy w w1) (h' : Chg o1 meshy w1 w2) (hk : Keep w o o1) : Chg o meshy w w2 := by
  obtain ⟨bs, a1, a2, a3⟩ := h
  obtain ⟨cs, b1, b2, b3⟩ := h'
  refine ⟨bs ++ cs.filter fun k => decide (k < w.heap.size), ?_, ?_, a3.app (Nob.back a1 a3 b3)⟩
  · refine ⟨b1.1.trans a1.1, b1.2.1.trans a1.2.1, b1.2.2.1.trans a1.2.2.1, Nat.le_trans a1.2.2.2.1 b1.2.2.2.1, ?_⟩
    intro k hk hn
    have n1 : k ∉ bs := fun hc => hn (List.mem_append.2 (.inl hc))
    have n2 : k ∉ cs := fun hc => hn (List.mem_append.2 (.inr (List.mem_filter.2 ⟨hc, by simpa using hk⟩)))
    exact (b1.2.2.2.2 k (Nat.lt_of_lt_of_le hk a1.2.2.2.1) n2).trans (a1.2.2.2.2 k hk n1)
  · intro k hk'
    rcases List.mem_append.1 hk' with hk' | hk'
    · exact a2 k hk'
    · obtain ⟨hk1, hl⟩ := List.mem_filter.1 hk'
      have hl : k < w.heap.size := by simpa using hl
      rcases hk k hl with e | ⟨e1, _⟩
      · rw [← e]; exact b2 k hk1
      · exact e1
def MDone (w w' : World) (o : Nat → Tg) (b : Nat) (M : Ms) : Prop := ∃ o' P, MAt w' o' b P M ∧ Keep w o o' ∧ Chg o meshy w w'
theorem MDone.trans {w w1 w2 : World} {o : Nat → Tg} {b : Nat} {M1 M2 : Ms} (h1 : MDone w w1 o b M1) (h2 : ∀ o1 P1, MAt w1 o1 b P1 M1 → MDone w1 w2 o1 b M2) : MDone w w2 o b M2 := by
  obtain ⟨o1, P1, a1, a2, a3⟩ := h1
  obtain ⟨o2, P2, b1, b2, b3⟩ := h2 o1 P1 a1
  exact ⟨o2, P2, b1, a2.trans b2 a3.size, Chg.keep a3 b3 a2⟩
theorem MDone.refl {w w' : World} {o : Nat → Tg} {b : Nat} {P : MP} {M : Ms} (h : MAt w o b P M) (hb : Below w.heap.size w w') : MDone w w' o b M := ⟨o, P, h.below hb, Keep.of_ext (Ext.refl _ _), Chg.of_below hb _ _⟩
theorem mine_meshy {o : Nat → Tg} {n : Nat} {w w' : World} (h : Chg o (mine n) w w') (h0 : n ≠ 0) (h1 : n ≠ 2000) : Chg o meshy w w' := h.mono (fun t ht => by unfold mine at ht; unfold meshy; omega)
theorem NAt.far {w w' : World} {o o' : Nat → Tg} {n m b : Nat} {P : NP} {N : Nd} (h : NAt w o m b P N) (hc : Chg o (mine n) w w') (hn : n ≠ 0) (hm : m ≠ n) (he : Ext w o o') : NAt w' o' m b P N := h.chg hc (fun g hg => by unfold mine at hg; exact ⟨by omega, by omega⟩) he
/-- one node has gone on -/
theorem MAt.node {w w' : World} {o : Nat → Tg} {b : Nat} {P : MP} {M : Ms} (h : MAt w o b P M) {i : Nat} (hi : i < M.n) {N : Nd} (hd : Done w w' o (i + 1) (P.nb i) N) :
    ∃ o' P', MAt w' o' b P' { M with nd := updN M.nd i N } ∧ P'.nb = P.nb ∧ P'.nv = P.nv ∧ P'.fv = P.fv ∧ P'.sv = P.sv ∧ Ext w o o' ∧ Chg o (mine (i + 1)) w w' := by
  obtain ⟨o', Q, h1, he, hc⟩ := hd
  have h16 := h.n16
  have h0 : ∀ g, mine (i + 1) g → g.n ≠ 0 := fun g hg => by unfold mine at hg; omega
  have no : ∀ c j, ¬ mine (i + 1) ⟨1000, c, j⟩ := fun c j hg => by unfold mine at hg; simp only at hg; omega
  obtain ⟨cs, k1, k2⟩ := h.box
  refine ⟨o', { P with np := updN P.np i Q }, ⟨h16, ⟨cs, hc.block k1 (by rw [h.tag]; exact no _ _), ⟨k2.sz, k2.c0, k2.c1, k2.c2, k2.cr, k2.c11, k2.c12⟩⟩, (he _ (lt_of_block k1)).trans h.tag, row_chg h.nrow hc h.nrt (no _ _), h.nrt.ext he (fun k hk => own_lt h.nrow (by simpa using hk)), ?_, earg_chg h.edg hc h.edt (no _ _), h.edc, ?_, row_chg h.srow hc h.srt (no _ _), h.srt.ext he (fun k hk => own_lt h.srow (by simpa using hk)), h.fly.chg hc h.flt (no _ _) h0 he, h.flt.ext he h.fly.lt⟩, rfl, rfl, rfl, rfl, he, hc⟩
  · intro j hj
    by_cases c : j = i
    · subst c
      show NAt w' o' (j + 1) (P.nb j) (updN P.np j Q j) (updN M.nd j N j)
      rw [updN_at, updN_at]
      exact h1
    · show NAt w' o' (j + 1) (P.nb j) (updN P.np i Q j) (updN M.nd i N j)
      rw [updN_ne _ _ c, updN_ne _ _ c]
      exact NAt.far (h.nds j hj) hc (by omega) (by omega) he
  · intro ad e hm
    rw [he _ (earg_lt h.edg e hm)]
    exact h.edt ad e hm
/-- one node has gone on, and has let go of something -/
theorem MAt.nodeR {w w' : World} {o o' : Nat → Tg} {b : Nat} {P : MP} {M : Ms} (h : MAt w o b P M) {i : Nat} (hi : i < M.n) {N : Nd} {Q : NP} (h1 : NAt w' o' (i + 1) (P.nb i) Q N) (hr : Ret (i + 1) o o') (hc : Chg o (mine (i + 1)) w w') :
    MAt w' o' b { P with np := updN P.np i Q } { M with nd := updN M.nd i N } := by
  have h16 := h.n16
  have h0 : ∀ g, mine (i + 1) g → g.n ≠ 0 := fun g hg => by unfold mine at hg; omega
  have no : ∀ c j, ¬ mine (i + 1) ⟨1000, c, j⟩ := fun c j hg => by unfold mine at hg; simp only at hg; omega
  have hne : ∀ c j, (⟨1000, c, j⟩ : Tg).n ≠ i + 1 := fun c j => by show 1000 ≠ i + 1; omega
  have he := Ext.refl w o
  obtain ⟨cs, k1, k2⟩ := h.box
  refine ⟨h16, ⟨cs, hc.block k1 (by rw [h.tag]; exact no _ _), ⟨k2.sz, k2.c0, k2.c1, k2.c2, k2.cr, k2.c11, k2.c12⟩⟩, hr.one (hne _ _) h.tag, row_chg h.nrow hc h.nrt (no _ _), hr.own (hne _ _) h.nrt, ?_, earg_chg h.edg hc h.edt (no _ _), h.edc, fun ad e hm => hr.one (hne _ _) (h.edt ad e hm), row_chg h.srow hc h.srt (no _ _), hr.own (hne _ _) h.srt, hr.fly (h.fly.chg hc h.flt (no _ _) h0 he), hr.own (hne _ _) h.flt⟩
  intro j hj
  by_cases c : j = i
  · subst c
    show NAt w' o' (j + 1) (P.nb j) (updN P.np j Q j) (updN M.nd j N j)
    rw [updN_at, updN_at]
    exact h1
  · show NAt w' o' (j + 1) (P.nb j) (updN P.np i Q j) (updN M.nd i N j)
    rw [updN_ne _ _ c, updN_ne _ _ c]
    exact NAt.ret (NAt.far (h.nds j hj) hc (by omega) (by omega) he) hr (by omega)
theorem Ret.keep {w : World} {o o' : Nat → Tg} {n : Nat} (h : Ret n o o') (h0 : n ≠ 0) (h1 : n ≠ 2000) : Keep w o o' := by
  intro k _
  rcases h k with e | ⟨e1, e2⟩
  · exact .inl e
  · exact .inr ⟨by unfold meshy; omega, e2⟩
theorem MAt.ndone {w w' : World} {o : Nat → Tg} {b : Nat} {P : MP} {M : Ms} (h : MAt w o b P M) {i : Nat} (hi : i < M.n) {N : Nd} (hd : Done w w' o (i + 1) (P.nb i) N) : MDone w w' o b { M with nd := updN M.nd i N } := by
  have h16 := h.n16
  obtain ⟨o', P', h1, _, _, _, _, h2, h3⟩ := h.node hi hd
  exact ⟨o', P', h1, Keep.of_ext h2, mine_meshy h3 (by omega) (by omega)⟩
end Go.Proofs.YtpiamlgmadnepaaGreat.MS

