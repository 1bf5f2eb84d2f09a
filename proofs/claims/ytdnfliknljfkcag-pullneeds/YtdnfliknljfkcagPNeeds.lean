/-
  What the Go function PullNeeds returns: true, whatever it is given. It changes nothing that was there.
-/
import Derived.Test.YtdnfliknljfkcagPullC
import Derived.Test.YtdnfliknljfkcagPullE
import Derived.Deep.CutRange
namespace Go.Proofs.Ytdnfliknljfkcag.Needs
open Go.ChangeShapes Go.WideShapes Go.ChangeAt Go.RowKit Go.Maps Go.Proofs.Ytdnfliknljfkcag.Mem Go.Proofs.Ytdnfliknljfkcag.PU Go.Proofs.Ytdnfliknljfkcag.Pull
set_option linter.unusedVariables false

/-- two who want the second track -/
def L1 : Wts := put [] ⟨1, 2, 3⟩
def L2 : Wts := put L1 ⟨2, 2, 1⟩
theorem inv1 : PU.Inv L1 := inv_put inv_nil (by unfold Ok; decide)
theorem inv2 : PU.Inv L2 := inv_put inv1 (by unfold Ok; decide)
theorem chg_first : chg L2 (fun _ => -1) 8 = [⟨0, 2, 3⟩] := by rfl
theorem chg_again (L : Wts) (k : Nat) : chg L (fun i => need L ((i : Int) + 1)) k = [] := by
  simp [chg]
theorem need2 : need L2 2 = 3 := by rfl
/-- where the row of what is wanted lies is none of pull's -/
theorem row_apart {w : World} {b base n : Nat} {mb : Nat → Nat} {th nw : Int} {td ak : Nat → Int} {L : Wts} {v : Value} {xs : List Value} (h : PullAt w b mb th nw td ak L) (hr : w.ownsRow base 45 3 v n xs) : ∀ k, v.ownBlock = some k → k ∉ pblks b mb := by
  intro k hk hc
  rcases hr.2 with ⟨rfl, _⟩ | ⟨g, cap, cur, rfl, _, hb, _⟩
  · simp [Value.ownBlock] at hk
  · simp [Value.ownBlock] at hk
    subst hk
    rcases mem_pblks.1 hc with rfl | ⟨i, hi, rfl⟩
    · obtain ⟨cs, h1, _⟩ := h.box
      rw [h1] at hb
      simp at hb
    · obtain ⟨D, h1, _⟩ := h.map i hi
      obtain ⟨es, c, h2⟩ := map_block h1
      rw [h2] at hb
      simp at hb
/-- what the law has made: pull's, and the row of what is wanted -/
structure ASt (w W : World) (b : Nat) (mb : Nat → Nat) (th nw : Int) (ak : Nat → Int) (l : Wts) (v : Value) : Prop where
  bel : Below w.heap.size w W
  blk : ∀ k ∈ pblks b mb, w.heap.size ≤ k
  pull : PullAt W b mb th nw (fun _ => -1) ak l
  row : W.ownsRow w.heap.size 45 3 v l.length (mc l)
  inv : PU.Inv l
theorem ASt.below {w W W' : World} {b : Nat} {mb : Nat → Nat} {th nw : Int} {ak : Nat → Int} {l : Wts} {v : Value} (h : ASt w W b mb th nw ak l v) (hb : Below W.heap.size W W') : ASt w W' b mb th nw ak l v :=
  ⟨h.bel.trans (hb.mono h.bel.size), h.blk, h.pull.below hb, own_below h.row hb, h.inv⟩

/-- behind a call of Want: pull's, the row of what was wanted ahead of it, the box of the one that wants -/
structure BSt (w W : World) (b : Nat) (mb : Nat → Nat) (th : Int) (l : Wts) (x : Wt) (v : Value) (bx : Nat) : Prop where
  bel : Below w.heap.size w W
  blk : ∀ k ∈ pblks b mb, w.heap.size ≤ k
  pull : PullAt W b mb th 0 (fun _ => -1) (fun _ => -1) (put l x)
  row : W.ownsRow w.heap.size 45 3 v l.length (mc l)
  box : WBox W bx x
  inv : PU.Inv (put l x)
  ok : Ok x
theorem ASt.wanted {w W W' : World} {b : Nat} {mb : Nat → Nat} {th : Int} {l : Wts} {v : Value} {x : Wt} {bx : Nat} (h : ASt w W b mb th 0 (fun _ => -1) l v) (hbx : WBox W bx x) (hlt : ∀ k ∈ pblks b mb, k < bx) (hok : Ok x) (hp : PullAt W' b mb th 0 (fun _ => -1) (fun _ => -1) (put l x)) (ho : Only (pblks b mb) W W') : BSt w W' b mb th l x v bx := by
  refine ⟨h.bel.trans (ho.below h.bel.size h.blk), h.blk, hp, ho.owns h.row (row_apart h.pull h.row), ?_, inv_put h.inv hok, hok⟩
  exact ho.block hbx (fun hc => by have := hlt _ hc; omega)
theorem BSt.arg {w W : World} {b bx : Nat} {mb : Nat → Nat} {th : Int} {l : Wts} {x : Wt} {la : Option Addr} {lc : Nat} (h : BSt w W b mb th l x (.slice la l.length lc) bx) (hl : l.length ≤ 9223372036854775807) : WArg W la l.length l := by
  obtain ⟨a, cap, e, h1, _⟩ := own_wts h.row hl
  simp only [Value.slice.injEq] at e
  rw [e.1]; exact h1
/-- the others, so far -/
def NxSt (w wr : World) (l : Wts) (xa xt : Int) (k : Nat) (v : Value) : Prop := Below w.heap.size w wr ∧ wr.ownsRow w.heap.size 45 3 v (del (l.take k) xa xt).length (mc (del (l.take k) xa xt))
theorem NxSt.below {w wr wy : World} {l : Wts} {xa xt : Int} {k : Nat} {v : Value} (h : NxSt w wr l xa xt k v) (hb : Below wr.heap.size wr wy) : NxSt w wy l xa xt k v := ⟨h.1.trans (hb.mono h.1.size), own_below h.2 hb⟩
theorem NxSt.more {w wr wy : World} {l : Wts} {xa xt : Int} {k : Nat} {v v' : Value} {O : Obj} (h : NxSt w wr l xa xt k v) (y : Wt) (e : del (l.take (k + 1)) xa xt = del (l.take k) xa xt ++ [y]) (hown : wy.ownsRow w.heap.size 45 3 v' ((del (l.take k) xa xt).length + 1) (mc (del (l.take k) xa xt) ++ mc [y])) (hg : (wr.alloc O).grownBy wy v.ownBlock) : NxSt w wy l xa xt (k + 1) v' := by
  refine ⟨(below_alloc h.1 _).grown hg (by have := h.1.size; simp; omega) (fun j hj => (h.2.lt j hj).1), ?_⟩
  rw [e, mc_app]
  simpa using hown
theorem take_one {l : Wts} {k : Nat} {y : Wt} (hy : l[k]? = some y) : l.take (k + 1) = l.take k ++ [y] := by rw [List.take_add_one, hy]; rfl
theorem take_more {l : Wts} {k : Nat} {y : Wt} {xa xt : Int} (hy : l[k]? = some y) (hh : hit xa xt y = false) : del (l.take (k + 1)) xa xt = del (l.take k) xa xt ++ [y] := by
  rw [take_one hy]; simp [del, hh]
theorem take_skip {l : Wts} {k : Nat} {y : Wt} {xa xt : Int} (hy : l[k]? = some y) (hh : hit xa xt y = true) : del (l.take (k + 1)) xa xt = del (l.take k) xa xt := by
  rw [take_one hy]; simp [del, hh]
theorem ASt.arg {w W : World} {b : Nat} {mb : Nat → Nat} {th nw : Int} {ak : Nat → Int} {l : Wts} {la : Option Addr} {lc : Nat} (h : ASt w W b mb th nw ak l (.slice la l.length lc)) (hl : l.length ≤ 9223372036854775807) : WArg W la l.length l := by
  obtain ⟨a, cap, e, h1, _⟩ := own_wts h.row hl
  simp only [Value.slice.injEq] at e
  rw [e.1]; exact h1
theorem BSt.after {w w3 wr w9 : World} {b bx : Nat} {mb : Nat → Nat} {th : Int} {l : Wts} {xa xt xc : Int} {v nv v1 : Value} {O : Obj} (h : BSt w w3 b mb th l ⟨xa, xt, xc⟩ v bx) (hn : NxSt w3 wr l xa xt l.length nv) (hown : w9.ownsRow w3.heap.size 45 3 v1 ((del l xa xt).length + 1) (mc (del l xa xt) ++ mc [⟨xa, xt, xc⟩])) (hg : (wr.alloc O).grownBy w9 nv.ownBlock) :
    ASt w w9 b mb th 0 (fun _ => -1) (put l ⟨xa, xt, xc⟩) v1 ∧ WBox w9 bx ⟨xa, xt, xc⟩ := by
  have hb : Below w3.heap.size w3 w9 := (below_alloc hn.1 _).grown hg (by have := hn.1.size; simp; omega) (fun j hj => (hn.2.lt j hj).1)
  refine ⟨⟨h.bel.trans (hb.mono h.bel.size), h.blk, h.pull.below hb, ?_, h.inv⟩, h.box.below hb h.box.lt⟩
  have h2 := own_base hown h.bel.size
  unfold put
  rw [mc_app]
  simpa using h2
/-- is what is needed among the first k -/
def isb (K : Wts) (t r : Int) (k : Nat) : Bool := (K.take k).any fun y => decide (y.b = t) && decide (y.c = r)
theorem isb_keep {K : Wts} {t r : Int} {k : Nat} {y : Wt} (hy : K[k]? = some y) (h : isb K t r k = true) : isb K t r (k + 1) = true := by
  unfold isb at *
  rw [take_one hy, List.any_append, h]; rfl
theorem isb_this {K : Wts} {r ya yt yc : Int} {k : Nat} (hy : K[k]? = some ⟨ya, yt, yc⟩) (h : isb K yt r k = false) : isb K yt r (k + 1) = (yc == r) := by
  unfold isb at *
  rw [take_one hy, List.any_append, h]
  simp only [List.any_cons, List.any_nil, Bool.or_false, Bool.false_or, decide_true, Bool.true_and]
  rfl
theorem isb_other {K : Wts} {t r ya yt yc : Int} {k : Nat} (hy : K[k]? = some ⟨ya, yt, yc⟩) (h : yt ≠ t) : isb K t r (k + 1) = isb K t r k := by
  unfold isb
  rw [take_one hy, List.any_append]
  simp [h]
theorem isb_all {K : Wts} {xa xt xc : Int} (hx : (⟨xa, xt, xc⟩ : Wt) ∈ K) (hI : PU.Inv K) : isb K xt (need K xt) K.length = true := by
  obtain ⟨k1, k2, k3⟩ := need_spec K xt
  have h1 := k2 _ hx rfl
  have h2 := hI.mem _ hx
  unfold Ok at h2
  simp only at h1 h2
  rcases k3 with k3 | ⟨y, hy, e, k3⟩
  · omega
  · unfold isb
    rw [List.take_length, List.any_eq_true]
    exact ⟨y, hy, by simp [e, k3]⟩
/-- while starts are asked for: when the last one was -/
def TSt (w W : World) (b : Nat) (mb : Nat → Nat) (th now last : Int) (ak : Nat → Int) (l : Wts) (v : Value) : Prop := ASt w W b mb th now ak l v ∧ AInv th now ak ∧ ak (ix (l.getD 0 zz).b) = last
theorem TSt.af {w W : World} {b : Nat} {mb : Nat → Nat} {th now last x : Int} {ak : Nat → Int} {l : Wts} {v : Value} (h : TSt w W b mb th now last ak l v) (hl : 0 < l.length) (h0 : 0 ≤ x) (h1 : now + x ≤ 1000000) : af l now (l.getD 0 zz).b (now + x) = 0 := by
  have hm : l.getD 0 zz ∈ l := by rw [List.getD_eq_getElem?_getD, List.getElem?_eq_getElem hl]; exact List.getElem_mem _
  have ho := h.1.inv.mem _ hm
  have hn := (need_spec l (l.getD 0 zz).b).2.1 _ hm rfl
  have hz := h.2.1.n1
  unfold Ok at ho
  have ht : tf now (now + x) = 0 := by unfold tf; rw [if_neg (by omega), if_neg (by omega)]
  unfold PU.af
  rw [if_neg (by omega), if_neg (by simp [ht]), if_neg (by omega)]
theorem TSt.aB {w W : World} {b : Nat} {mb : Nat → Nat} {th now last x : Int} {ak : Nat → Int} {l : Wts} {v : Value} (h : TSt w W b mb th now last ak l v) (ha : PU.af l now (l.getD 0 zz).b (now + x) = 0) : aB l th now ak (l.getD 0 zz).b (now + x) = thru th last (now + x) := by
  unfold PU.aB
  rw [decide_eq_true ha, Bool.true_and, h.2.2]
theorem TSt.asked {w W W' : World} {b : Nat} {mb : Nat → Nat} {th now last x : Int} {ak : Nat → Int} {l : Wts} {v : Value} (h : TSt w W b mb th now last ak l v) (ha : PU.af l now (l.getD 0 zz).b (now + x) = 0) (hp : PullAt W' b mb th (aN l now (l.getD 0 zz).b (now + x)) (fun _ => -1) (aK l th now ak (l.getD 0 zz).b (now + x)) l) (ho : Only (pblks b mb) W W') :
    TSt w W' b mb th (now + x) (if thru th last (now + x) = true then now + x else last) (aK l th now ak (l.getD 0 zz).b (now + x)) l v := by
  have hN : aN l now (l.getD 0 zz).b (now + x) = now + x := by unfold aN; rw [if_pos ha]
  have hA := ainv_ask (L := l) (t := (l.getD 0 zz).b) (now := now + x) h.2.1
  rw [hN] at hA hp
  refine ⟨⟨h.1.bel.trans (ho.below h.1.bel.size h.1.blk), h.1.blk, hp, ho.owns h.1.row (row_apart h.1.pull h.1.row), h.1.inv⟩, hA, ?_⟩
  unfold aK
  rw [h.aB ha]
  by_cases q : thru th last (now + x) = true
  · rw [if_pos q, if_pos q]; simp [upd]
  · rw [if_neg q, if_neg q]; exact h.2.2

set_option maxHeartbeats 4000000 in
set_option maxRecDepth 100000 in
theorem walk_needs (th : Int) (a1 : Option Addr) (n1 cap1 : Nat) (z1 : Wts) (a2 : Option Addr) (n2 cap2 : Nat) (z2 : List Int) (w : World) (h1 : WArg w a1 n1 z1) (h2 : IArg w a2 n2 z2) :
    Calls Try.prog 5 #[.int .i64 th, .slice a1 n1 cap1, .slice a2 n2 cap2] w fun e w' => e = .returned (.bool true) ∧ Below w.heap.size w w' := by
  obtain ⟨i0, hii, hz0, hz1, hz2⟩ := info_parts infoWT
  have hn1 := h1.2.2
  have hn2 := h2.2.2
  have H1 := hidden h1
  have H2 := hidden h2
  have CN := hidden (new_ok 5 w (by omega) (by omega))
  clear h1 h2
  go_enter Try.func5, Try.ntmps5
  go_wp2_with fail
  refine CN.out.mono ?_
  rintro e w1 ⟨b, rfl, mb, hblk, hp, hb⟩
  have CW := hidden (want_ok b mb 5 0 1 2 3 _ _ [] L1 w1 hp inv_nil (by simp) (by decide) (puts_put _ _))
  have HB1 := hidden hb
  have HBk := hidden hblk
  clear hp hb hblk CN
  go_wp2_with fail
  refine CW.out.mono ?_
  rintro e w2 ⟨rfl, hp, ho⟩
  have CW2 := hidden (want_ok b mb 5 0 2 2 1 _ _ L1 L2 w2 hp inv1 (by decide) (by decide) (puts_put _ _))
  have HB2 := hidden (HB1.out.trans (ho.below HB1.out.size HBk.out))
  clear hp ho CW HB1
  go_wp2_with fail
  refine CW2.out.mono ?_
  rintro e w3 ⟨rfl, hp, ho⟩
  have CC := hidden (changed_calls b mb 5 0 _ _ L2 w3 hp inv2)
  have HB3 := hidden (HB2.out.trans (ho.below HB2.out.size HBk.out))
  clear hp ho CW2 HB2
  go_wp2_with fail
  refine CC.out.mono ?_
  rintro e w4 ⟨v, rfl, hp, hrow, ho⟩
  rw [chg_first] at hrow
  obtain ⟨fa, fc, rfl, hfa, -⟩ := own_wts hrow (by simp)
  obtain ⟨fb, fo, rfl, _, hf⟩ := hfa.at (by simp)
  have HF := hidden (hf 0 (by simp)).2.2
  have HB4 := hidden (HB3.out.trans (ho.below HB3.out.size HBk.out))
  have CNe := hidden (Need_calls b mb 5 0 2 _ _ L2 w4 hp inv2)
  rw [need2] at CNe
  have HP := hidden hp
  clear hp hrow ho hf hfa HB3 CC
  go_wp2_with fail
  refine CNe.out.mono ?_
  rintro e w5 ⟨rfl, hb5⟩
  have HP5 := hidden (HP.out.below hb5)
  have c5 : w5.cell? ⟨fb, fo + 2, none⟩ = some (.int .i64 3) := (hb5.cell (World.block_lt_of_cell? w4 _ HF.out)).trans HF.out
  have HB5 := hidden (HB4.out.trans (hb5.mono HB4.out.size))
  clear hb5 HP CNe HB4 HF
  have CC2 := changed_calls b mb 5 0 _ _ L2 w5 HP5.out inv2
  rw [chg_again] at CC2
  have HCC := hidden CC2
  clear CC2
  go_wp2_with fail
  refine HCC.out.mono ?_
  rintro e w6 ⟨v, rfl, hp, hrow, ho⟩
  obtain ⟨fa, fc', rfl, -⟩ := own_wts hrow (by simp)
  have HB6 := hidden (HB5.out.trans (ho.below HB5.out.size HBk.out))
  clear hp hrow ho HCC HP5 HB5 c5
  by_cases ht : th < 1 ∨ 1000000 < th
  · have CE := hidden (new_err th w6 ht)
    have hcm := fun w => cmp_ne 1 w
    have hgr := fun o w => grd_ne 1 o w
    by_cases ht1 : th < 1
    · have d1 : decide (th < 1) = true := by simpa using ht1
      clear ht
      go_wp2_with fail
      refine CE.out.mono ?_
      rintro e w7 ⟨rfl, rfl⟩
      go_wp2_with fail
      go_ret
      exact ⟨rfl, HB6.out⟩
    · have d1 : decide (th < 1) = false := by simpa using ht1
      have d2 : decide (1000000 < th) = true := by simp; omega
      clear ht
      go_wp2_with fail
      refine CE.out.mono ?_
      rintro e w7 ⟨rfl, rfl⟩
      go_wp2_with fail
      go_ret
      exact ⟨rfl, HB6.out⟩
  have hth1 : 1 ≤ th := by omega
  have hth2 : th ≤ 1000000 := by omega
  have CN := hidden (new_ok th w6 hth1 hth2)
  clear ht HBk
  go_wp2_with fail
  refine CN.out.mono ?_
  rintro e w7 ⟨pb, rfl, pm, hblk, hp, hb⟩
  have HS0 : Hid (ASt w w7 pb pm th 0 (fun _ => -1) [] (.slice none 0 0)) :=
    ⟨HB6.out.trans (hb.mono HB6.out.size), fun k hk => Nat.le_trans HB6.out.size (hblk k hk), hp, World.ownsRow_nil _ _ _ _, inv_nil⟩
  clear hblk hp hb CN HB6
  go_wp2_with fail
  obtain ⟨m, hm⟩ : ∃ m, min n1 40 = m := ⟨_, rfl⟩
  go_loopg [14, 15] m (fun g v' x wr => ∃ (i : Nat) (l : Wts) (v : Value), i + g = m ∧ v = v' ∧ x = .int .i64 (i : Int) ∧ Hid (l.length ≤ i) ∧ Hid (ASt w wr pb pm th 0 (fun _ => -1) l v))
  case atStart => exact ⟨0, [], _, by omega, rfl, rfl, Nat.le_refl _, HS0⟩
  case round =>
    obtain ⟨i, l, v, hig, rfl, rfl, HL, HS⟩ := hrel
    clear HS0
    have hl := HL.out
    obtain ⟨la, lc, rfl, -⟩ := own_wts HS.out.row (by omega)
    by_cases hi : i < m
    · have hi1 : i < n1 := by omega
      have hi2 : i < 40 := by omega
      have d1 : decide ((i : Int) < (n1 : Int)) = true := by simp; omega
      have d2 : decide ((i : Int) < 40) = true := by simp; omega
      have hiz : (i : Int) < (n1 : Int) := by omega
      obtain ⟨b1, o1, rfl, hbl, hcs⟩ := (H1.out.below HS.out.bel).at (by omega)
      obtain ⟨c0, c1, c2⟩ := hcs i hi1
      clear hcs
      obtain ⟨x, hx⟩ : ∃ x, z1.getD i zz = x := ⟨_, rfl⟩
      rw [hx] at c0 c1 c2
      clear hx
      obtain ⟨xa, xt, xc⟩ := x
      simp only at c0 c1 c2
      have HS1 : Hid (ASt w (wr.alloc (.cells #[.int .i64 xa, .int .i64 xt, .int .i64 xc] 45)) pb pm th 0 (fun _ => -1) l (.slice la l.length lc)) := HS.out.below (below_alloc (Below.refl _ _) _)
      have HBx := hidden (WBox.new wr ⟨xa, xt, xc⟩)
      by_cases hf : wf xa xt xc = 0
      case neg =>
        have CE := hidden (want_err (.pointer (some ⟨pb, 0, none⟩)) xa xt xc (wr.alloc (.cells #[.int .i64 xa, .int .i64 xt, .int .i64 xc] 45)) hf)
        have hcm := fun w => cmp_ne 1 w
        have hgr := fun o w => grd_ne 1 o w
        clear hf
        go_wp2_with fail
        refine CE.out.mono ?_
        rintro e w7 ⟨rfl, rfl⟩
        clear CE
        go_wp2_with fail
        go_roundg (m - (i + 1))
        case measure => omega
        case rel => exact ⟨i + 1, l, _, by omega, rfl, by go_num, Nat.le_succ_of_le HL.out, HS1⟩
      have CW := hidden (want_ok pb pm th 0 xa xt xc _ _ l (put l ⟨xa, xt, xc⟩) _ HS1.out.pull HS1.out.inv (by omega) hf (puts_put _ _))
      have HOk := hidden (wf_zero.1 hf)
      clear hf
      go_wp2_with fail
      refine CW.out.mono ?_
      rintro e w3 ⟨rfl, hp3, ho3⟩
      have HB3 : Hid (BSt w w3 pb pm th l ⟨xa, xt, xc⟩ (.slice la l.length lc) wr.heap.size) := HS1.out.wanted HBx.out (fun k hk => HS.out.pull.blt k hk) HOk.out hp3 ho3
      clear hp3 ho3 CW c0 c1 c2 HS1 HBx HS
      obtain ⟨wo, rfl⟩ : ∃ x, x = wr := ⟨_, rfl⟩
      go_wp2_with fail
      have HN0 : Hid (NxSt w3 w3 l xa xt 0 (.slice none 0 0)) := ⟨Below.refl _ _, World.ownsRow_nil _ _ _ _⟩
      go_loopg [18, 19] l.length (fun g v' x wr => ∃ (k : Nat) (nv : Value), k + g = l.length ∧ nv = v' ∧ x = .int .i64 (k : Int) ∧ Hid (NxSt w3 wr l xa xt k nv))
      case atStart => exact ⟨0, _, by omega, rfl, rfl, HN0⟩
      case round =>
        obtain ⟨k, nv, hkg, rfl, rfl, HN⟩ := hrel
        clear HN0
        by_cases hk : k < l.length
        · have hkz : (k : Int) < (l.length : Int) := by omega
          obtain ⟨lb, lo, rfl, hlb, hls⟩ := ((HB3.out.arg (by omega)).below HN.out.1).at (by omega)
          obtain ⟨r0, r1, r2⟩ := hls k hk
          obtain ⟨q0, q1, q2⟩ := (HB3.out.box.below HN.out.1 HB3.out.box.lt).cells
          clear hls q2
          obtain ⟨y, hy⟩ : ∃ y, l.getD k zz = y := ⟨_, rfl⟩
          have HY0 : Hid (l[k]? = some y) := by rw [← hy]; unfold Hid; rw [List.getD_eq_getElem?_getD, List.getElem?_eq_getElem hk]; rfl
          rw [hy] at r0 r1 r2
          clear hy
          obtain ⟨ya, yt, yc⟩ := y
          simp only at r0 r1 r2 q0 q1
          have HY : Hid (l[k]? = some ⟨ya, yt, yc⟩) := HY0
          clear HY0
          by_cases g1 : ya = xa
          · subst g1
            by_cases g2 : yt = xt
            · subst g2
              have HN2 : Hid (del (l.take (k + 1)) ya yt = del (l.take k) ya yt) := take_skip HY.out (hit_iff.2 ⟨rfl, rfl⟩)
              go_wp2_with fail
              go_quiet (fail)
              go_wp2_with fail
              go_roundg (l.length - (k + 1))
              case measure => omega
              case rel => exact ⟨k + 1, nv, by omega, rfl, by go_num, ⟨below_drewN HN.out.1 _, by rw [HN2.out]; exact HN.out.2⟩⟩
            · have d3 : (yt != xt) = true := bne_iff_ne.2 g2
              have HH : Hid (hit ya xt ⟨ya, yt, yc⟩ = false) := by unfold Hid; simp [hit, g2]
              clear g2
              go_wp2_with fail
              go_quiet (fail)
              obtain ⟨wq, hwq⟩ : ∃ wq, wr.drewN nq = wq := ⟨_, rfl⟩
              have HN2 : Hid (NxSt w3 wq l ya xt k nv) := by rw [← hwq]; exact HN.out.below (below_drewN (Below.refl _ _) _)
              have HK2 : Hid (del (l.take (k + 1)) ya xt = del (l.take k) ya xt ++ [⟨ya, yt, yc⟩]) := take_more HY.out HH.out
              have e0 : wq.cell? ⟨lb, lo + k * 3, none⟩ = some (.int .i64 ya) := by rw [← hwq]; exact r0
              have e1 : wq.cell? ⟨lb, lo + k * 3 + 1, none⟩ = some (.int .i64 yt) := by rw [← hwq]; exact r1
              have e2 : wq.cell? ⟨lb, lo + k * 3 + 2, none⟩ = some (.int .i64 yc) := by rw [← hwq]; exact r2
              rw [hwq]
              clear hwq HN r0 r1 r2 q0 q1
              have HR2 : Hid ((wq.alloc (.cells #[.int .i64 ya, .int .i64 yt, .int .i64 yc] 45)).ownsRow w3.heap.size 45 3 nv (del (l.take k) ya xt).length (mc (del (l.take k) ya xt))) := HN2.out.2.alloc _
              have HNw := hidden (WBox.new wq ⟨ya, yt, yc⟩).news
              have hsz2 : w3.heap.size ≤ wq.heap.size := HN2.out.1.size
              have hdl : (del (l.take k) ya xt).length ≤ 40 := by have h1 := del_len (l.take k) ya xt; have h2 := HL.out; rw [List.length_take] at h1; omega
              go_wp2_with (at_builtin; refine wpList_append_own _ rfl _ _ 37 rfl w3.heap.size 45 i0 _ 3 24 Try.underlying37 hii hz0 hz1 hz2 rfl (by decide) _ _ (mc (del (l.take k) ya xt)) rfl HR2.out ⟨wq.heap.size, 0, none⟩ 1 1 (mc [⟨ya, yt, yc⟩]) rfl rfl HNw.out (mc_cell _) ?b1 ?b2 ?b3 ?next)
              case b1 => unfold maxLen; omega
              case b2 => omega
              case b3 => exact Nat.le_succ_of_le hsz2
              case next =>
                intro v1 w9 hown hgrow _
                have HN3 : Hid (NxSt w3 w9 l ya xt (k + 1) v1) := HN2.out.more (⟨ya, yt, yc⟩ : Wt) HK2.out hown hgrow
                clear hown hgrow HN2 HR2 HNw
                go_wp2_with fail
                go_roundg (l.length - (k + 1))
                case measure => omega
                case rel => exact ⟨k + 1, v1, by omega, rfl, by go_num, HN3⟩
          · have d3 : (ya != xa) = true := bne_iff_ne.2 g1
            have HH : Hid (hit xa xt ⟨ya, yt, yc⟩ = false) := by unfold Hid; simp [hit, g1]
            clear g1
            go_wp2_with fail
            go_quiet (fail)
            obtain ⟨wq, hwq⟩ : ∃ wq, wr.drewN nq = wq := ⟨_, rfl⟩
            have HN2 : Hid (NxSt w3 wq l xa xt k nv) := by rw [← hwq]; exact HN.out.below (below_drewN (Below.refl _ _) _)
            have HK2 : Hid (del (l.take (k + 1)) xa xt = del (l.take k) xa xt ++ [⟨ya, yt, yc⟩]) := take_more HY.out HH.out
            have e0 : wq.cell? ⟨lb, lo + k * 3, none⟩ = some (.int .i64 ya) := by rw [← hwq]; exact r0
            have e1 : wq.cell? ⟨lb, lo + k * 3 + 1, none⟩ = some (.int .i64 yt) := by rw [← hwq]; exact r1
            have e2 : wq.cell? ⟨lb, lo + k * 3 + 2, none⟩ = some (.int .i64 yc) := by rw [← hwq]; exact r2
            rw [hwq]
            clear hwq HN r0 r1 r2 q0 q1
            have HR2 : Hid ((wq.alloc (.cells #[.int .i64 ya, .int .i64 yt, .int .i64 yc] 45)).ownsRow w3.heap.size 45 3 nv (del (l.take k) xa xt).length (mc (del (l.take k) xa xt))) := HN2.out.2.alloc _
            have HNw := hidden (WBox.new wq ⟨ya, yt, yc⟩).news
            have hsz2 : w3.heap.size ≤ wq.heap.size := HN2.out.1.size
            have hdl : (del (l.take k) xa xt).length ≤ 40 := by have h1 := del_len (l.take k) xa xt; have h2 := HL.out; rw [List.length_take] at h1; omega
            go_wp2_with (at_builtin; refine wpList_append_own _ rfl _ _ 37 rfl w3.heap.size 45 i0 _ 3 24 Try.underlying37 hii hz0 hz1 hz2 rfl (by decide) _ _ (mc (del (l.take k) xa xt)) rfl HR2.out ⟨wq.heap.size, 0, none⟩ 1 1 (mc [⟨ya, yt, yc⟩]) rfl rfl HNw.out (mc_cell _) ?b1 ?b2 ?b3 ?next)
            case b1 => unfold maxLen; omega
            case b2 => omega
            case b3 => exact Nat.le_succ_of_le hsz2
            case next =>
              intro v1 w9 hown hgrow _
              have HN3 : Hid (NxSt w3 w9 l xa xt (k + 1) v1) := HN2.out.more (⟨ya, yt, yc⟩ : Wt) HK2.out hown hgrow
              clear hown hgrow HN2 HR2 HNw
              go_wp2_with fail
              go_roundg (l.length - (k + 1))
              case measure => omega
              case rel => exact ⟨k + 1, v1, by omega, rfl, by go_num, HN3⟩
        · have hkz : ¬ (k : Int) < (l.length : Int) := by omega
          obtain rfl : l.length = k := by omega
          obtain ⟨q0, q1, q2⟩ := (HB3.out.box.below HN.out.1 HB3.out.box.lt).cells
          simp only at q0 q1 q2
          obtain ⟨K, hK⟩ : ∃ K, put l ⟨xa, xt, xc⟩ = K := ⟨_, rfl⟩
          have HKL : Hid (K.length ≤ i + 1) := by rw [← hK]; have h1 := put_len l ⟨xa, xt, xc⟩; have h2 := HL.out; unfold Hid; omega
          have HR2 : Hid ((wr.alloc (.cells #[.int .i64 xa, .int .i64 xt, .int .i64 xc] 45)).ownsRow w3.heap.size 45 3 nv (del l xa xt).length (mc (del l xa xt))) := by
            have := HN.out.2.alloc (.cells #[.int .i64 xa, .int .i64 xt, .int .i64 xc] 45)
            rw [List.take_length] at this
            exact this
          have HNw := hidden (WBox.new wr ⟨xa, xt, xc⟩).news
          have hsz2 : w3.heap.size ≤ wr.heap.size := HN.out.1.size
          have hdl : (del l xa xt).length ≤ 40 := by have h1 := del_len l xa xt; have h2 := HL.out; omega
          have HAfter : Hid (∀ v1 w9, w9.ownsRow w3.heap.size 45 3 v1 ((del l xa xt).length + 1) (mc (del l xa xt) ++ mc [⟨xa, xt, xc⟩]) → (wr.alloc (.cells #[.int .i64 xa, .int .i64 xt, .int .i64 xc] 45)).grownBy w9 nv.ownBlock → ASt w w9 pb pm th 0 (fun _ => -1) K v1 ∧ WBox w9 wo.heap.size ⟨xa, xt, xc⟩) := by
            rw [← hK]
            exact fun v1 w9 hown hgrow => HB3.out.after HN.out hown hgrow
          have HKx : Hid (⟨xa, xt, xc⟩ ∈ K) := by rw [← hK]; exact mem_put.2 (.inr rfl)
          clear hK
          go_wp2_with (at_builtin; refine wpList_append_own _ rfl _ _ 37 rfl w3.heap.size 45 i0 _ 3 24 Try.underlying37 hii hz0 hz1 hz2 rfl (by decide) _ _ (mc (del l xa xt)) rfl HR2.out ⟨wr.heap.size, 0, none⟩ 1 1 (mc [⟨xa, xt, xc⟩]) rfl rfl HNw.out (mc_cell _) ?b1 ?b2 ?b3 ?next)
          case b1 => unfold maxLen; omega
          case b2 => omega
          case b3 => exact Nat.le_succ_of_le hsz2
          case next =>
          intro v1 w9 hown hgrow _
          have HA := hidden (HAfter.out v1 w9 hown hgrow).1
          have HBx := hidden (HAfter.out v1 w9 hown hgrow).2
          clear hown hgrow HAfter HR2 HNw HN HB3 q0 q1 q2 hsz2 hdl
          have hKl := HKL.out
          obtain ⟨ka, kc, rfl, -⟩ := own_wts HA.out.row (by omega)
          have HC := hidden (Need_calls pb pm th 0 xt _ _ K w9 HA.out.pull HA.out.inv)
          obtain ⟨r, hr⟩ : ∃ r, need K xt = r := ⟨_, rfl⟩
          rw [hr] at HC
          have HR := hidden hr
          clear hr
          have q1 := HBx.out.cells.2.1
          simp only at q1
          go_wp2_with fail
          refine HC.out.mono ?_
          rintro e w10 ⟨rfl, hb10⟩
          have HA2 := hidden (HA.out.below hb10)
          have HBx2 := hidden (HBx.out.below hb10 HBx.out.lt)
          clear HA HBx HC hb10 q1
          go_wp2_with fail
          go_loopg [21, 22] K.length (fun g y' x wr => ∃ (k : Nat) (t : Bool), k + g = K.length ∧ y' = .bool t ∧ x = .int .i64 (k : Int) ∧ Hid (isb K xt r k = t) ∧ Hid (Below w10.heap.size w10 wr))
          case atStart => exact ⟨0, false, by omega, rfl, rfl, rfl, Below.refl _ _⟩
          case round =>
            obtain ⟨k, t, hkg, rfl, rfl, HT, HB⟩ := hrel
            by_cases hk : k < K.length
            · have hkz : (k : Int) < (K.length : Int) := by omega
              obtain ⟨lb, lo, rfl, hlb, hls⟩ := ((HA2.out.arg (by omega)).below HB.out).at (by omega)
              obtain ⟨r0, r1, r2⟩ := hls k hk
              have q1 := (HBx2.out.below HB.out HBx2.out.lt).cells.2.1
              clear hls r0
              obtain ⟨y, hy⟩ : ∃ y, K.getD k zz = y := ⟨_, rfl⟩
              have HY0 : Hid (K[k]? = some y) := by rw [← hy]; unfold Hid; rw [List.getD_eq_getElem?_getD, List.getElem?_eq_getElem hk]; rfl
              rw [hy] at r1 r2
              clear hy
              obtain ⟨ya, yt, yc⟩ := y
              simp only at r1 r2 q1
              have HY : Hid (K[k]? = some ⟨ya, yt, yc⟩) := HY0
              clear HY0
              by_cases g1 : yt = xt
              · subst g1
                have hle : yc ≤ r := by rw [← HR.out]; exact (need_spec K yt).2.1 _ (List.mem_of_getElem? HY.out) rfl
                have d4 : decide (r < yc) = false := decide_eq_false (by omega)
                clear hle
                go_wp2_with fail
                go_quiet (fail)
                obtain ⟨wq, hwq⟩ : ∃ wq, wr.drewN nq = wq := ⟨_, rfl⟩
                have HB2 : Hid (Below w10.heap.size w10 wq) := by rw [← hwq]; exact below_drewN HB.out _
                have e2 : wq.cell? ⟨lb, lo + k * 3 + 2, none⟩ = some (.int .i64 yc) := by rw [← hwq]; exact r2
                rw [hwq]
                clear hwq HB r1 r2 q1
                cases t with
                | true =>
                  have HT2 : Hid (isb K yt r (k + 1) = true) := isb_keep HY.out HT.out
                  go_wp2_with fail
                  go_roundg (K.length - (k + 1))
                  case measure => omega
                  case rel => exact ⟨k + 1, true, by omega, rfl, by go_num, HT2, HB2⟩
                | false =>
                  obtain ⟨t2, ht2⟩ : ∃ t2, (yc == r) = t2 := ⟨_, rfl⟩
                  have HT2 : Hid (isb K yt r (k + 1) = t2) := by rw [← ht2]; exact isb_this HY.out HT.out
                  go_wp2_with fail
                  go_roundg (K.length - (k + 1))
                  case measure => omega
                  case rel => exact ⟨k + 1, t2, by omega, rfl, by go_num, HT2, HB2⟩
              · have d3 : (yt == xt) = false := by simpa using g1
                have HT2 : Hid (isb K xt r (k + 1) = t) := by rw [isb_other HY.out g1]; exact HT
                clear g1 r2
                go_wp2_with fail
                go_quiet (fail)
                go_wp2_with fail
                go_roundg (K.length - (k + 1))
                case measure => omega
                case rel => exact ⟨k + 1, t, by omega, rfl, by go_num, HT2, hidden (below_drewN HB.out _)⟩
            · have hkz : ¬ (k : Int) < (K.length : Int) := by omega
              obtain rfl : K.length = k := by omega
              have ht : t = true := by rw [← HT.out, ← HR.out]; exact isb_all HKx.out HA2.out.inv
              subst ht
              have HA3 := hidden (HA2.out.below HB.out)
              go_wp2_with fail
              go_roundg (m - (i + 1))
              case measure => omega
              case rel => exact ⟨i + 1, K, _, by omega, rfl, by go_num, HKL, HA3⟩
    · by_cases hin : i < n1
      · have d1 : decide ((i : Int) < (n1 : Int)) = true := decide_eq_true (by omega)
        have d2 : decide ((i : Int) < 40) = false := decide_eq_false (by omega)
        go_wp2_with fail
        obtain ⟨m2, hm2⟩ : ∃ m2, min n2 30 = m2 := ⟨_, rfl⟩
        have HT0 : Hid (TSt w wr pb pm th 0 (-1) (fun _ => -1) l (.slice la l.length lc)) := ⟨HS.out, ainv_start hth1 hth2, rfl⟩
        go_loopg [23, 24, 25] m2 (fun g x y z wr => ∃ (i : Nat) (now last : Int) (ak : Nat → Int), i + g = m2 ∧ x = .int .i64 now ∧ y = .int .i64 last ∧ z = .int .i64 (i : Int) ∧ now ≤ 10000 * (i : Int) ∧ Hid (TSt w wr pb pm th now last ak l (.slice la l.length lc)))
        case atStart => exact ⟨0, 0, -1, _, by omega, rfl, rfl, rfl, by omega, HT0⟩
        case round =>
          obtain ⟨i, now, last, ak, hig, rfl, rfl, rfl, hno, HT⟩ := hrel
          clear HT0
          by_cases hi : i < m2
          case neg =>
            by_cases hin : i < n2
            · have d1 : decide ((i : Int) < (n2 : Int)) = true := decide_eq_true (by omega)
              have d2 : decide ((i : Int) < 30) = false := decide_eq_false (by omega)
              go_wp2_with fail
              go_ret
              exact ⟨rfl, HT.out.1.bel⟩
            · have d1 : decide ((i : Int) < (n2 : Int)) = false := decide_eq_false (by omega)
              go_wp2_with fail
              go_ret
              exact ⟨rfl, HT.out.1.bel⟩
          have hi1 : i < n2 := by omega
          have hi2 : i < 30 := by omega
          have d1 : decide ((i : Int) < (n2 : Int)) = true := decide_eq_true (by omega)
          have d2 : decide ((i : Int) < 30) = true := decide_eq_true (by omega)
          have hiz : (i : Int) < (n2 : Int) := by omega
          by_cases hl0 : l.length = 0
          · have d3 : decide ((0 : Int) < (l.length : Int)) = false := decide_eq_false (by omega)
            have d4 : decide (0 < l.length) = false := decide_eq_false (by omega)
            go_wp2_with fail
            go_ret
            exact ⟨rfl, HT.out.1.bel⟩
          have d3 : decide ((0 : Int) < (l.length : Int)) = true := decide_eq_true (by omega)
          have d4 : decide (0 < l.length) = true := decide_eq_true (by omega)
          have hlz : (0 : Int) < (l.length : Int) := by omega
          obtain ⟨tb, tof, rfl, hts⟩ := (H2.out.below HT.out.1.bel).at (by omega)
          have t0 := hts i hi1
          clear hts
          obtain ⟨x, hx⟩ : ∃ x, z2.getD i 0 = x := ⟨_, rfl⟩
          rw [hx] at t0
          clear hx
          by_cases hx0 : x < 0
          · have d5 : decide (x < 0) = true := by simpa using hx0
            go_wp2_with fail
            go_roundg (m2 - (i + 1))
            case measure => omega
            case rel => exact ⟨i + 1, now, last, ak, by omega, rfl, rfl, by go_num, by omega, HT⟩
          have d5 : decide (x < 0) = false := by simpa using hx0
          by_cases hx1 : 10000 < x
          · have d6 : decide (10000 < x) = true := by simpa using hx1
            go_wp2_with fail
            go_roundg (m2 - (i + 1))
            case measure => omega
            case rel => exact ⟨i + 1, now, last, ak, by omega, rfl, rfl, by go_num, by omega, HT⟩
          have d6 : decide (10000 < x) = false := by simpa using hx1
          obtain ⟨lb, lo, rfl, hlb, hls⟩ := (HT.out.1.arg (by omega)).at (by omega)
          have l1 := (hls 0 (by omega)).2.1
          clear hls
          have hn1 := HT.out.2.1.n1
          have hla := HT.out.2.1.a1 (ix (l.getD 0 zz).b)
          rw [HT.out.2.2] at hla
          have HAf := hidden (HT.out.af (x := x) (by omega) (by omega) (by omega))
          have CA := hidden (ask_calls pb pm th now (l.getD 0 zz).b (now + x) _ ak l wr HT.out.1.pull HT.out.1.inv HT.out.2.1 (by omega))
          have hrn : IntKind.i64.wrap (now + x) = now + x := by rw [IntKind.wrap_i64]; omega
          obtain ⟨t, ht⟩ : ∃ t, (l.getD 0 zz).b = t := ⟨_, rfl⟩
          have HAq : Hid (aB l th now ak t (now + x) = thru th last (now + x)) := by rw [← ht]; exact HT.out.aB HAf.out
          have HAn : Hid (∀ W, PullAt W pb pm th (aN l now t (now + x)) (fun _ => -1) (aK l th now ak t (now + x)) l → Only (pblks pb pm) wr W → TSt w W pb pm th (now + x) (if thru th last (now + x) = true then now + x else last) (aK l th now ak t (now + x)) l (.slice (some ⟨lb, lo, none⟩) l.length lc)) := by
            rw [← ht]
            exact fun W hp ho => HT.out.asked HAf.out hp ho
          have HAe : Hid (af l now t (now + x) = 0) := by rw [← ht]; exact HAf
          rw [ht] at CA l1
          rw [HAe.out, HAq.out, errv_zero] at CA
          obtain ⟨q, hq⟩ : ∃ q, thru th last (now + x) = q := ⟨_, rfl⟩
          rw [hq] at CA HAn
          have HQ := hidden hq
          clear hq ht HAf HAe HAq
          have hnx : now + x ≤ 10000 * ((i : Int) + 1) := by omega
          go_wp2_with fail
          refine CA.out.mono ?_
          rintro e w8 ⟨rfl, hp8, ho8⟩
          have HT8 := hidden (HAn.out w8 hp8 ho8)
          clear hp8 ho8 CA HAn hrn t0 l1
          by_cases hl9 : last < 0
          · have d7 : decide (last < 0) = true := by simpa using hl9
            have hq : q = true := by rw [← HQ.out]; simp [thru, hl9]
            subst hq
            clear hla hl9
            go_wp2_with fail
            go_roundg (m2 - (i + 1))
            case measure => omega
            case rel => exact ⟨i + 1, now + x, now + x, _, by omega, rfl, rfl, by go_num, by push_cast; exact hnx, HT8⟩
          · have d7 : decide (last < 0) = false := by simpa using hl9
            have hq : decide (th ≤ now + x - last) = q := by rw [← HQ.out]; simp [thru, hl9]
            have hrl : IntKind.i64.wrap (now + x - last) = now + x - last := by rw [IntKind.wrap_i64]; omega
            cases q with
            | true =>
              go_wp2_with fail
              go_roundg (m2 - (i + 1))
              case measure => omega
              case rel => exact ⟨i + 1, now + x, now + x, _, by omega, rfl, rfl, by go_num, by push_cast; exact hnx, HT8⟩
            | false =>
              go_wp2_with fail
              go_roundg (m2 - (i + 1))
              case measure => omega
              case rel => exact ⟨i + 1, now + x, last, _, by omega, rfl, rfl, by go_num, by push_cast; exact hnx, HT8⟩
      · have d1 : decide ((i : Int) < (n1 : Int)) = false := decide_eq_false (by omega)
        go_wp2_with fail
        obtain ⟨m2, hm2⟩ : ∃ m2, min n2 30 = m2 := ⟨_, rfl⟩
        have HT0 : Hid (TSt w wr pb pm th 0 (-1) (fun _ => -1) l (.slice la l.length lc)) := ⟨HS.out, ainv_start hth1 hth2, rfl⟩
        go_loopg [23, 24, 25] m2 (fun g x y z wr => ∃ (i : Nat) (now last : Int) (ak : Nat → Int), i + g = m2 ∧ x = .int .i64 now ∧ y = .int .i64 last ∧ z = .int .i64 (i : Int) ∧ now ≤ 10000 * (i : Int) ∧ Hid (TSt w wr pb pm th now last ak l (.slice la l.length lc)))
        case atStart => exact ⟨0, 0, -1, _, by omega, rfl, rfl, rfl, by omega, HT0⟩
        case round =>
          obtain ⟨i, now, last, ak, hig, rfl, rfl, rfl, hno, HT⟩ := hrel
          clear HT0
          by_cases hi : i < m2
          case neg =>
            by_cases hin : i < n2
            · have d1 : decide ((i : Int) < (n2 : Int)) = true := decide_eq_true (by omega)
              have d2 : decide ((i : Int) < 30) = false := decide_eq_false (by omega)
              go_wp2_with fail
              go_ret
              exact ⟨rfl, HT.out.1.bel⟩
            · have d1 : decide ((i : Int) < (n2 : Int)) = false := decide_eq_false (by omega)
              go_wp2_with fail
              go_ret
              exact ⟨rfl, HT.out.1.bel⟩
          have hi1 : i < n2 := by omega
          have hi2 : i < 30 := by omega
          have d1 : decide ((i : Int) < (n2 : Int)) = true := decide_eq_true (by omega)
          have d2 : decide ((i : Int) < 30) = true := decide_eq_true (by omega)
          have hiz : (i : Int) < (n2 : Int) := by omega
          by_cases hl0 : l.length = 0
          · have d3 : decide ((0 : Int) < (l.length : Int)) = false := decide_eq_false (by omega)
            have d4 : decide (0 < l.length) = false := decide_eq_false (by omega)
            go_wp2_with fail
            go_ret
            exact ⟨rfl, HT.out.1.bel⟩
          have d3 : decide ((0 : Int) < (l.length : Int)) = true := decide_eq_true (by omega)
          have d4 : decide (0 < l.length) = true := decide_eq_true (by omega)
          have hlz : (0 : Int) < (l.length : Int) := by omega
          obtain ⟨tb, tof, rfl, hts⟩ := (H2.out.below HT.out.1.bel).at (by omega)
          have t0 := hts i hi1
          clear hts
          obtain ⟨x, hx⟩ : ∃ x, z2.getD i 0 = x := ⟨_, rfl⟩
          rw [hx] at t0
          clear hx
          by_cases hx0 : x < 0
          · have d5 : decide (x < 0) = true := by simpa using hx0
            go_wp2_with fail
            go_roundg (m2 - (i + 1))
            case measure => omega
            case rel => exact ⟨i + 1, now, last, ak, by omega, rfl, rfl, by go_num, by omega, HT⟩
          have d5 : decide (x < 0) = false := by simpa using hx0
          by_cases hx1 : 10000 < x
          · have d6 : decide (10000 < x) = true := by simpa using hx1
            go_wp2_with fail
            go_roundg (m2 - (i + 1))
            case measure => omega
            case rel => exact ⟨i + 1, now, last, ak, by omega, rfl, rfl, by go_num, by omega, HT⟩
          have d6 : decide (10000 < x) = false := by simpa using hx1
          obtain ⟨lb, lo, rfl, hlb, hls⟩ := (HT.out.1.arg (by omega)).at (by omega)
          have l1 := (hls 0 (by omega)).2.1
          clear hls
          have hn1 := HT.out.2.1.n1
          have hla := HT.out.2.1.a1 (ix (l.getD 0 zz).b)
          rw [HT.out.2.2] at hla
          have HAf := hidden (HT.out.af (x := x) (by omega) (by omega) (by omega))
          have CA := hidden (ask_calls pb pm th now (l.getD 0 zz).b (now + x) _ ak l wr HT.out.1.pull HT.out.1.inv HT.out.2.1 (by omega))
          have hrn : IntKind.i64.wrap (now + x) = now + x := by rw [IntKind.wrap_i64]; omega
          obtain ⟨t, ht⟩ : ∃ t, (l.getD 0 zz).b = t := ⟨_, rfl⟩
          have HAq : Hid (aB l th now ak t (now + x) = thru th last (now + x)) := by rw [← ht]; exact HT.out.aB HAf.out
          have HAn : Hid (∀ W, PullAt W pb pm th (aN l now t (now + x)) (fun _ => -1) (aK l th now ak t (now + x)) l → Only (pblks pb pm) wr W → TSt w W pb pm th (now + x) (if thru th last (now + x) = true then now + x else last) (aK l th now ak t (now + x)) l (.slice (some ⟨lb, lo, none⟩) l.length lc)) := by
            rw [← ht]
            exact fun W hp ho => HT.out.asked HAf.out hp ho
          have HAe : Hid (af l now t (now + x) = 0) := by rw [← ht]; exact HAf
          rw [ht] at CA l1
          rw [HAe.out, HAq.out, errv_zero] at CA
          obtain ⟨q, hq⟩ : ∃ q, thru th last (now + x) = q := ⟨_, rfl⟩
          rw [hq] at CA HAn
          have HQ := hidden hq
          clear hq ht HAf HAe HAq
          have hnx : now + x ≤ 10000 * ((i : Int) + 1) := by omega
          go_wp2_with fail
          refine CA.out.mono ?_
          rintro e w8 ⟨rfl, hp8, ho8⟩
          have HT8 := hidden (HAn.out w8 hp8 ho8)
          clear hp8 ho8 CA HAn hrn t0 l1
          by_cases hl9 : last < 0
          · have d7 : decide (last < 0) = true := by simpa using hl9
            have hq : q = true := by rw [← HQ.out]; simp [thru, hl9]
            subst hq
            clear hla hl9
            go_wp2_with fail
            go_roundg (m2 - (i + 1))
            case measure => omega
            case rel => exact ⟨i + 1, now + x, now + x, _, by omega, rfl, rfl, by go_num, by push_cast; exact hnx, HT8⟩
          · have d7 : decide (last < 0) = false := by simpa using hl9
            have hq : decide (th ≤ now + x - last) = q := by rw [← HQ.out]; simp [thru, hl9]
            have hrl : IntKind.i64.wrap (now + x - last) = now + x - last := by rw [IntKind.wrap_i64]; omega
            cases q with
            | true =>
              go_wp2_with fail
              go_roundg (m2 - (i + 1))
              case measure => omega
              case rel => exact ⟨i + 1, now + x, now + x, _, by omega, rfl, rfl, by go_num, by push_cast; exact hnx, HT8⟩
            | false =>
              go_wp2_with fail
              go_roundg (m2 - (i + 1))
              case measure => omega
              case rel => exact ⟨i + 1, now + x, last, _, by omega, rfl, rfl, by go_num, by push_cast; exact hnx, HT8⟩
end Go.Proofs.Ytdnfliknljfkcag.Needs
