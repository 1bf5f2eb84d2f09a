/-
  What the law TopRow has in memory, and each of its calls from one state to the next.
-/
import Derived.Test.YtpiamlgmadnepaaGreatTopRM
import Derived.Test.YtpiamlgmadnepaaGreatTopRR
import Derived.Test.YtpiamlgmadnepaaGreatGapsE
import Derived.Test.YtpiamlgmadnepaaGreatOrderE
import Derived.Test.YtpiamlgmadnepaaGreatOrderG
import Derived.Test.YtpiamlgmadnepaaGreatLayerC
import Derived.Test.YtpiamlgmadnepaaGreatOutC
import Derived.Test.YtpiamlgmadnepaaGreatNodeV
import Derived.Deep.AppendLies
import Derived.Lib.OwnKind
namespace Go.Proofs.YtpiamlgmadnepaaGreat.TR
open Go.ChangeShapes Go.WideShapes Go.ChangeAt Go.RowKit Go.Maps Go.Proofs.YtpiamlgmadnepaaGreat.PM Go.Proofs.YtpiamlgmadnepaaGreat.Mem Go.Proofs.YtpiamlgmadnepaaGreat.Pack
set_option linter.unusedVariables false

/-! the array -/
def ArrB (w : World) (g : Nat) (F : Nat → Bool) : Prop := ∃ cs : Array Value, w.heap[g]? = some (.cells cs 65 (0, 0)) ∧ cs.size = 64 ∧ ∀ j, j < 64 → cs[j]? = some (.bool (F j))
theorem ArrB.cell {w : World} {g : Nat} {F : Nat → Bool} (h : ArrB w g F) {j : Nat} (hj : j < 64) : w.cell? ⟨g, j, none⟩ = some (.bool (F j)) := by
  obtain ⟨cs, h1, _, h3⟩ := h
  simp [World.cell?, h1, h3 j hj]
theorem ArrB.free {w : World} {g : Nat} {F : Nat → Bool} (h : ArrB w g F) (j : Nat) : w.frozen? ⟨g, j, none⟩ = false := by
  obtain ⟨cs, h1, _⟩ := h
  simp [World.frozen?, h1]
theorem ArrB.only {w w' : World} {g : Nat} {F : Nat → Bool} {bs : List Nat} (h : ArrB w g F) (ho : Only bs w w') (hg : g ∉ bs) : ArrB w' g F := by
  obtain ⟨cs, h1, h2⟩ := h
  exact ⟨cs, ho.block h1 hg, h2⟩
theorem ArrB.lt {w : World} {g : Nat} {F : Nat → Bool} (h : ArrB w g F) : g < w.heap.size := by
  obtain ⟨cs, h1, _⟩ := h
  exact lt_of_block h1
theorem ArrB.set {w : World} {g : Nat} {F : Nat → Bool} (h : ArrB w g F) {y : Nat} (hy : y < 64) : ArrB (w.setCell ⟨g, y, none⟩ (.bool true)) g (setC F y) := by
  obtain ⟨cs, h1, h2, h3⟩ := h
  refine ⟨_, heap_setCell_same w g y cs 65 (.bool true) h1, by simpa using h2, fun j hj => ?_⟩
  rw [Array.getElem?_setIfInBounds]
  by_cases e : y = j
  · subst e
    rw [if_pos rfl, if_pos (by omega)]
    simp [setC]
  · rw [if_neg e, h3 j hj]
    have : ¬ j = y := fun q => e q.symm
    simp [setC, this]

/-- the blocks of the law's objects -/
structure Nm where
  gb : Nat
  mb : Nat
  ob : Nat
  om : Nat
  yb : Nat
  ub : Nat
  cb : Nat
def Nm.F (N : Nm) : List Nat := [N.gb, N.mb, N.ob, N.om, N.yb, N.ub, N.cb]
theorem Nm.ne {N : Nm} (h : N.F.Nodup) : N.gb ≠ N.mb ∧ N.gb ≠ N.ob ∧ N.gb ≠ N.om ∧ N.gb ≠ N.yb ∧ N.gb ≠ N.ub ∧ N.gb ≠ N.cb ∧ N.mb ≠ N.gb ∧ N.mb ≠ N.ob ∧ N.mb ≠ N.om ∧ N.mb ≠ N.yb ∧ N.mb ≠ N.ub ∧ N.mb ≠ N.cb ∧ N.ob ≠ N.gb ∧ N.ob ≠ N.mb ∧ N.ob ≠ N.om ∧ N.ob ≠ N.yb ∧ N.ob ≠ N.ub ∧ N.ob ≠ N.cb ∧ N.om ≠ N.gb ∧ N.om ≠ N.mb ∧ N.om ≠ N.ob ∧ N.om ≠ N.yb ∧ N.om ≠ N.ub ∧ N.om ≠ N.cb ∧ N.yb ≠ N.gb ∧ N.yb ≠ N.mb ∧ N.yb ≠ N.ob ∧ N.yb ≠ N.om ∧ N.yb ≠ N.ub ∧ N.yb ≠ N.cb ∧ N.ub ≠ N.gb ∧ N.ub ≠ N.mb ∧ N.ub ≠ N.ob ∧ N.ub ≠ N.om ∧ N.ub ≠ N.yb ∧ N.ub ≠ N.cb ∧ N.cb ≠ N.gb ∧ N.cb ≠ N.mb ∧ N.cb ≠ N.ob ∧ N.cb ≠ N.om ∧ N.cb ≠ N.yb ∧ N.cb ≠ N.ub := by
  simp only [Nm.F, List.nodup_cons, List.mem_cons, List.not_mem_nil, or_false, not_or] at h
  simp only [ne_eq]
  obtain ⟨⟨a1, a2, a3, a4, a5, a6⟩, ⟨b2, b3, b4, b5, b6⟩, ⟨c3, c4, c5, c6⟩, ⟨d4, d5, d6⟩, ⟨e5, e6⟩, f6, _⟩ := h
  exact ⟨a1, a2, a3, a4, a5, a6, Ne.symm a1, b2, b3, b4, b5, b6, Ne.symm a2, Ne.symm b2, c3, c4, c5, c6, Ne.symm a3, Ne.symm b3, Ne.symm c3, d4, d5, d6, Ne.symm a4, Ne.symm b4, Ne.symm c4, Ne.symm d4, e5, e6, Ne.symm a5, Ne.symm b5, Ne.symm c5, Ne.symm d5, Ne.symm e5, f6, Ne.symm a6, Ne.symm b6, Ne.symm c6, Ne.symm d6, Ne.symm e6, Ne.symm f6⟩
/-- what they hold -/
structure Sv where
  gw : Int
  T : Int
  M : GM.Its
  C : Nat → Bool
  ow : Int
  nx : Int
  O : OM.Its
  nl : Int
  la : Int
  br : Bool
  k : Nat
  tt : Int
  ly : Int
  ot : Int
structure MemAt (W : World) (N : Nm) (s : Sv) : Prop where
  g : Gaps.GapsAt W N.gb N.mb 2 2 s.gw s.T s.M (.slice none 0 0) []
  o : Order.OrderAt W N.ob N.om 8 s.ow s.nx s.O
  y : Layer.LayerAt W N.yb 3 s.nl s.la s.br
  u : Out.OutAt W N.ub 0 s.k s.tt s.ly s.ot
  c : ArrB W N.cb s.C
theorem MemAt.nob {W : World} {N : Nm} {s : Sv} (h : MemAt W N s) : ∀ k ∈ N.F, ∀ cs fr, W.heap[k]? ≠ some (.cells cs 5 fr) := by
  intro k hk cs fr
  obtain ⟨D, hm, _⟩ := h.g.map
  obtain ⟨es, c, hm'⟩ := GM.map_block hm
  have ho := h.o.nob
  obtain ⟨cc, hc, _⟩ := h.c
  have hb := h.g.box
  have hy := h.y
  have hu := h.u
  unfold Layer.LayerAt at hy
  unfold Out.OutAt at hu
  simp only [Nm.F, List.mem_cons, List.not_mem_nil, or_false] at hk
  rcases hk with rfl | rfl | rfl | rfl | rfl | rfl | rfl
  · rw [hb]; simp
  · rw [hm']; simp
  · exact ho _ (by simp) cs fr
  · exact ho _ (by simp) cs fr
  · rw [hy]; simp
  · rw [hu]; simp
  · rw [hc]; simp
theorem MemAt.below {W W' : World} {N : Nm} {s : Sv} (h : MemAt W N s) (hb : Below W.heap.size W W') : MemAt W' N s :=
  ⟨h.g.below hb, h.o.below hb, h.y.below hb, h.u.below hb, h.c.only (Only.of_below hb []) (by simp)⟩
theorem blks0 (b mb : Nat) : Gaps.blks b mb (.slice none 0 0) = [b, mb] := rfl

/-- under way: x is the number behind all that was taken -/
structure TB (w W : World) (N : Nm) (L t x : Int) (s : Sv) (gv sv : Value) (X Y : List AU.Pk) : Prop where
  rws : Audit.RwsF w W N.F gv sv X Y
  nd : N.F.Nodup
  mem : MemAt W N s
  gi : GI L s.gw s.T s.M s.C
  oi : OI L s.ow s.nx s.O
  li : LI s.nl s.la s.br
  ui : UM.Inv 0 s.k s.tt s.ot
  got : GotI L x X
  sent : SentI L Y
  gt : s.gw ≤ t
  ot : s.ow ≤ t
  l0 : 100 ≤ L
  l1 : L ≤ 2000000000
  t0 : 0 ≤ t
  t1 : t ≤ 1000000
/-- what is next, and that something is got -/
def Fl (s : Sv) (k : Nat) : Prop := (s.T ≠ -1 → s.nx ≠ -1) ∧ FI s.nx s.O s.k ∧ (s.la = -1 ∨ s.la < s.nx) ∧ k = s.k
section
variable {w W W' : World} {N : Nm} {L t x : Int} {s : Sv} {gv sv : Value} {X Y : List AU.Pk}
theorem TB.below (h : TB w W N L t x s gv sv X Y) (hb : Below W.heap.size W W') : TB w W' N L t x s gv sv X Y :=
  ⟨h.rws.below hb, h.nd, h.mem.below hb, h.gi, h.oi, h.li, h.ui, h.got, h.sent, h.gt, h.ot, h.l0, h.l1, h.t0, h.t1⟩
theorem TB.later (h : TB w W N L t x s gv sv X Y) (h1 : t + 1 ≤ 1000000) : TB w W N L (t + 1) x s gv sv X Y :=
  ⟨h.rws, h.nd, h.mem, h.gi, h.oi, h.li, h.ui, h.got, h.sent, by have := h.gt; omega, by have := h.ot; omega, h.l0, h.l1, by have := h.t0; omega, h1⟩
/-- the Gaps is turned -/
theorem TB.setG (h : TB w W N L t x s gv sv X Y) {gw T : Int} {M : GM.Its} (ho : Only [N.gb, N.mb] W W') (hg : Gaps.GapsAt W' N.gb N.mb 2 2 gw T M (.slice none 0 0) []) (hi : GI L gw T M s.C) (hw : gw ≤ t) : TB w W' N L t x { s with gw := gw, T := T, M := M } gv sv X Y := by
  have q := N.ne h.nd
  have hn := h.mem.nob
  have hsub : ∀ k ∈ [N.gb, N.mb], k ∈ N.F := by simp [Nm.F]
  have hF : Only N.F W W' := ho.mono (by simp [Nm.F])
  refine ⟨h.rws.only hF, h.nd, ⟨hg, h.mem.o.only ho (by simp [q]) (by simp [q]) (fun k hk => hn k (hsub k hk)), h.mem.y.only ho (by simp [q]), h.mem.u.only ho (by simp [q]), h.mem.c.only ho (by simp [q])⟩, hi, h.oi, h.li, h.ui, h.got, h.sent, hw, h.ot, h.l0, h.l1, h.t0, h.t1⟩
/-- the Order is turned -/
theorem TB.setO (h : TB w W N L t x s gv sv X Y) {ow nx x' : Int} {O : OM.Its} (ho : Only [N.ob, N.om] W W') (hg : Order.OrderAt W' N.ob N.om 8 ow nx O) (hi : OI L ow nx O) (hw : ow ≤ t) (hx : x ≤ x') : TB w W' N L t x' { s with ow := ow, nx := nx, O := O } gv sv X Y := by
  have q := N.ne h.nd
  have hF : Only N.F W W' := ho.mono (by simp [Nm.F])
  refine ⟨h.rws.only hF, h.nd, ⟨h.mem.g.only ho (by rw [blks0]; simp [q]), hg, h.mem.y.only ho (by simp [q]), h.mem.u.only ho (by simp [q]), h.mem.c.only ho (by simp [q])⟩, h.gi, hi, h.li, h.ui, h.got.up hx, h.sent, h.gt, hw, h.l0, h.l1, h.t0, h.t1⟩
/-- the Layer is turned -/
theorem TB.setY (h : TB w W N L t x s gv sv X Y) {nl la x' : Int} {br : Bool} (ho : Only [N.yb] W W') (hg : Layer.LayerAt W' N.yb 3 nl la br) (hi : LI nl la br) (hx : x ≤ x') : TB w W' N L t x' { s with nl := nl, la := la, br := br } gv sv X Y := by
  have q := N.ne h.nd
  have hn := h.mem.nob
  have hsub : ∀ k ∈ [N.yb], k ∈ N.F := by simp [Nm.F]
  have hF : Only N.F W W' := ho.mono (by simp [Nm.F])
  exact ⟨h.rws.only hF, h.nd, ⟨h.mem.g.only ho (by rw [blks0]; simp [q]), h.mem.o.only ho (by simp [q]) (by simp [q]) (fun k hk => hn k (hsub k hk)), hg, h.mem.u.only ho (by simp [q]), h.mem.c.only ho (by simp [q])⟩, h.gi, h.oi, hi, h.ui, h.got.up hx, h.sent, h.gt, h.ot, h.l0, h.l1, h.t0, h.t1⟩
/-- the Out is turned -/
theorem TB.setU (h : TB w W N L t x s gv sv X Y) {k : Nat} {tt ly ot : Int} (ho : Only [N.ub] W W') (hg : Out.OutAt W' N.ub 0 k tt ly ot) (hi : UM.Inv 0 k tt ot) : TB w W' N L t x { s with k := k, tt := tt, ly := ly, ot := ot } gv sv X Y := by
  have q := N.ne h.nd
  have hn := h.mem.nob
  have hsub : ∀ k ∈ [N.ub], k ∈ N.F := by simp [Nm.F]
  have hF : Only N.F W W' := ho.mono (by simp [Nm.F])
  exact ⟨h.rws.only hF, h.nd, ⟨h.mem.g.only ho (by rw [blks0]; simp [q]), h.mem.o.only ho (by simp [q]) (by simp [q]) (fun k hk => hn k (hsub k hk)), h.mem.y.only ho (by simp [q]), hg, h.mem.c.only ho (by simp [q])⟩, h.gi, h.oi, h.li, hi, h.got, h.sent, h.gt, h.ot, h.l0, h.l1, h.t0, h.t1⟩
/-- the row of what was got has one more -/
theorem TB.addX (h : TB w W N L t x s gv sv X Y) {p : AU.Pk} {W1 : World} {x' : Int} (hp : Audit.Bd W (Audit.fpF N.F gv sv) p) {O : Obj} {g cap : Nat}
    (hown : W1.ownsRow w.heap.size 38 6 (.slice (some ⟨g, 0, none⟩) (X.length + 1) cap) (X.length + 1) (Audit.flat X ++ Audit.pc p)) (hg : (W.alloc O).grownBy W1 gv.ownBlock) (hl : gv.ownBlock = some g ∨ g = W.heap.size + 1) (hlt : g < W1.heap.size) (hgot : GotI L x' (X ++ [p])) :
    TB w W1 N L t x' s (.slice (some ⟨g, 0, none⟩) (X.length + 1) cap) sv (X ++ [p]) Y := by
  have ho : Only gv.ownBlock.toList W W1 := (((Only.refl _ W).alloc O).grown hg (fun k e => by simp [e]))
  have hno : ∀ b ∈ N.F, b ∉ gv.ownBlock.toList := fun b hb hc => h.rws.n1 b hb (by simpa using hc)
  have hnb : ∀ k ∈ gv.ownBlock.toList, ∀ cs fr, W.heap[k]? ≠ some (.cells cs 5 fr) := by
    intro k hk cs fr
    obtain ⟨c, fz, hc⟩ := Lib.ownsRow_kind h.rws.got k (by simpa using hk)
    rw [hc]
    simp
  exact ⟨h.rws.addG hp hown hg hl hlt, h.nd, ⟨h.mem.g.only ho (fun k hk => hno k (by rw [blks0] at hk; simp at hk; rcases hk with rfl | rfl <;> simp [Nm.F])), h.mem.o.only ho (hno _ (by simp [Nm.F])) (hno _ (by simp [Nm.F])) hnb, h.mem.y.only ho (hno _ (by simp [Nm.F])), h.mem.u.only ho (hno _ (by simp [Nm.F])), h.mem.c.only ho (hno _ (by simp [Nm.F]))⟩, h.gi, h.oi, h.li, h.ui, hgot, h.sent, h.gt, h.ot, h.l0, h.l1, h.t0, h.t1⟩
/-- the row of what was sent has one more -/
theorem TB.addY (h : TB w W N L t x s gv sv X Y) {p : AU.Pk} {W1 : World} (hp : Audit.Bd W (Audit.fpF N.F gv sv) p) {O : Obj} {g cap : Nat}
    (hown : W1.ownsRow w.heap.size 38 6 (.slice (some ⟨g, 0, none⟩) (Y.length + 1) cap) (Y.length + 1) (Audit.flat Y ++ Audit.pc p)) (hg : (W.alloc O).grownBy W1 sv.ownBlock) (hl : sv.ownBlock = some g ∨ g = W.heap.size + 1) (hlt : g < W1.heap.size) (hs : SentI L (Y ++ [p])) :
    TB w W1 N L t x s gv (.slice (some ⟨g, 0, none⟩) (Y.length + 1) cap) X (Y ++ [p]) := by
  have ho : Only sv.ownBlock.toList W W1 := (((Only.refl _ W).alloc O).grown hg (fun k e => by simp [e]))
  have hno : ∀ b ∈ N.F, b ∉ sv.ownBlock.toList := fun b hb hc => h.rws.n2 b hb (by simpa using hc)
  have hnb : ∀ k ∈ sv.ownBlock.toList, ∀ cs fr, W.heap[k]? ≠ some (.cells cs 5 fr) := by
    intro k hk cs fr
    obtain ⟨c, fz, hc⟩ := Lib.ownsRow_kind h.rws.snt k (by simpa using hk)
    rw [hc]
    simp
  exact ⟨h.rws.addS hp hown hg hl hlt, h.nd, ⟨h.mem.g.only ho (fun k hk => hno k (by rw [blks0] at hk; simp at hk; rcases hk with rfl | rfl <;> simp [Nm.F])), h.mem.o.only ho (hno _ (by simp [Nm.F])) (hno _ (by simp [Nm.F])) hnb, h.mem.y.only ho (hno _ (by simp [Nm.F])), h.mem.u.only ho (hno _ (by simp [Nm.F])), h.mem.c.only ho (hno _ (by simp [Nm.F]))⟩, h.gi, h.oi, h.li, h.ui, h.got, hs, h.gt, h.ot, h.l0, h.l1, h.t0, h.t1⟩
/-- one has come -/
theorem TB.setCame (h : TB w W N L t x s gv sv X Y) {i : Nat} (hi : GI L s.gw s.T s.M (setC s.C i)) (hi64 : i < 64) : TB w (W.setCell ⟨N.cb, i, none⟩ (.bool true)) N L t x { s with C := setC s.C i } gv sv X Y := by
  have q := N.ne h.nd
  have hn := h.mem.nob
  have hsub : ∀ k ∈ [N.cb], k ∈ N.F := by simp [Nm.F]
  have ho : Only [N.cb] W (W.setCell ⟨N.cb, i, none⟩ (.bool true)) := (Only.refl _ W).setCell (by simp) _
  have hF : Only N.F W (W.setCell ⟨N.cb, i, none⟩ (.bool true)) := ho.mono (by simp [Nm.F])
  exact ⟨h.rws.only hF, h.nd, ⟨h.mem.g.only ho (by rw [blks0]; simp [q]), h.mem.o.only ho (by simp [q]) (by simp [q]) (fun k hk => hn k (hsub k hk)), h.mem.y.only ho (by simp [q]), h.mem.u.only ho (by simp [q]), h.mem.c.set hi64⟩, hi, h.oi, h.li, h.ui, h.got, h.sent, h.gt, h.ot, h.l0, h.l1, h.t0, h.t1⟩

/-! the calls -/
/-- a packet that was sent -/
theorem TB.pk (h : TB w W N L t x s gv sv X Y) (hy : Y.length = 64) {i : Nat} (hi : i < 64) :
    ∃ g c m cc, sv = .slice (some ⟨g, 0, none⟩) 64 c ∧ W.cell? ⟨g, i * 6, none⟩ = some (.int .i64 ((L + (i : Int)) % 65536)) ∧ W.cell? ⟨g, i * 6 + 1, none⟩ = some (.int .i64 0) ∧ W.cell? ⟨g, i * 6 + 2, none⟩ = some (.int .i64 0) ∧ W.cell? ⟨g, i * 6 + 3, none⟩ = some (.int .i64 0) ∧ W.cell? ⟨g, i * 6 + 4, none⟩ = some (.bool true) ∧ W.cell? ⟨g, i * 6 + 5, none⟩ = some (.slice m 1 cc) ∧ Arg W m 1 [i] ∧ (m = none → (1 : Nat) = 0 ∧ cc = 0) := by
  obtain ⟨a, cap, e, hA, hc, _⟩ := Audit.own_pks h.rws.snt rfl (by omega) (fun p hp => (h.rws.byy p hp).1)
  obtain ⟨b, o, rfl, hp⟩ := hA.at (by omega)
  obtain ⟨⟨p0, p1, p2, p3, p4, p5⟩, hok⟩ := hp i (by omega)
  obtain ⟨⟨q1, q2, q3, q4⟩, q5, q6, q7⟩ := h.sent.all i (by omega)
  have hin : Y.getD i AU.noPk ∈ Y := by rw [List.getD_eq_getElem?_getD, List.getElem?_eq_getElem (by omega)]; exact List.getElem_mem _
  have hnn := (h.rws.byy _ hin).2.1
  have ho : o = 0 := by
    obtain ⟨g, cc, hx, _⟩ := h.rws.snt.form (by omega)
    rw [e] at hx
    simp at hx
    exact hx.1.2
  subst ho
  unfold Audit.PkOk at hok
  rw [q4, q7] at hok
  rw [q5] at p0
  rw [q6] at p1
  rw [q1] at p2
  rw [q2] at p3
  rw [q3] at p4
  rw [q7] at p5 hnn
  rw [hy] at e
  simp only [Nat.zero_add] at p0 p1 p2 p3 p4 p5
  exact ⟨b, cap, _, _, e, p0, p1, p2, p3, p4, p5, hok, fun hm => (hnn hm)⟩
end
end Go.Proofs.YtpiamlgmadnepaaGreat.TR

