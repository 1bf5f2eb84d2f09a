/-
  What the reference's Order's method Pop returns, and what it leaves in memory. Its condition: what is kept is such as it may be.
-/
import Derived.Test.YtenjemcehhocoaeDoorROrderC
import Derived.Deep.LoopGhost
namespace Go.Proofs.YtenjemcehhocoaeDoor.ROrder
open Go.ChangeShapes Go.WideShapes Go.ChangeAt Go.RowKit Go.Proofs.YtenjemcehhocoaeDoor.PM Go.Proofs.YtenjemcehhocoaeDoor.Mem Go.Proofs.YtenjemcehhocoaeDoor.Pack Go.Proofs.YtenjemcehhocoaeDoor.OM Go.Proofs.YtenjemcehhocoaeDoor.Order
set_option linter.unusedVariables false

theorem elemKS : Tryd.prog.elem 31 = 66 := by kernel_rfl
theorem sizeKT (w : World) : (sizeOf 66).run Tryd.prog w = .ok 9 w := by
  obtain ⟨i, hi, _, hs, _⟩ := info_parts infoKT
  simp [sizeOf, typeInfo, hi, hs]
theorem undKS : Tryd.prog.underlying 31 = some (.slice (Tryd.prog.elem 31)) := by rw [elemKS]; exact Tryd.underlying31
/-- l[:n] -/
theorem cut_high (a : Option Addr) (len cap n : Nat) (h : n ≤ cap) (w : World) :
    (Instr.slice 31 (.slice a len cap) none (some (.int .i64 (n : Int))) none).run Tryd.prog w = .ok (.slice a n cap) w := by
  rw [run_slice_h w 31 a len cap undKS .i64 n (by omega) (by omega), elemKS, sizeKT]
  simp [Result.andThen, sliced, Addr.add_zero']
/-- l[n:] -/
theorem cut_low (g len cap n : Nat) (h : n ≤ len) (hc : len ≤ cap) :
    ∃ o, (∀ w : World, (Instr.slice 31 (.slice (some ⟨g, 0, none⟩) len cap) (some (.int .i64 (n : Int))) none none).run Tryd.prog w = .ok (.slice (some ⟨g, o, none⟩) (len - n) (cap - n)) w) ∧ (n < len → o = n * 9) := by
  by_cases e : cap = n
  · refine ⟨0, fun w => ?_, fun h2 => by omega⟩
    rw [run_slice_l w 31 _ len cap undKS .i64 n (by omega) (by omega), elemKS, sizeKT]
    simp [Result.andThen, sliced, e]
  · refine ⟨n * 9, fun w => ?_, fun _ => rfl⟩
    rw [run_slice_l w 31 _ len cap undKS .i64 n (by omega) (by omega), elemKS, sizeKT]
    have e2 : (⟨g, 0, none⟩ : Addr).add (n * 9) = ⟨g, n * 9, none⟩ := by rw [add_plain]; simp
    simp [Result.andThen, sliced, e, e2]

/-- all but one -/
theorem erase_eq {M : Its} (h : Apart M) {j : Nat} {i : Kp} (hj : M[j]? = some i) : M.take j ++ M.drop (j + 1) = M.filter fun k => decide (k.n ≠ i.n) := by
  have hlt : j < M.length := (List.getElem?_eq_some_iff.1 hj).1
  have hi : M[j] = i := by have := List.getElem?_eq_some_iff.1 hj; exact this.2
  have e : M = M.take j ++ i :: M.drop (j + 1) := by
    rw [← hi, ← List.drop_eq_getElem_cons hlt, List.take_append_drop]
  unfold Apart at h
  rw [e, List.pairwise_append, List.pairwise_cons] at h
  obtain ⟨_, ⟨h2, _⟩, h4⟩ := h
  conv => rhs; rw [e]
  rw [List.filter_append, List.filter_cons_of_neg (by simp), List.filter_eq_self.2 (fun k hk => by simp; exact h4 k hk i (by simp)), List.filter_eq_self.2 (fun k hk => by simp; exact fun q => h2 k hk q.symm)]
theorem late_any {wt nw nx now od x : Int} {M : Its} (hI : OM.Inv nw nx M) (hO : Od wt now M od) (hx : -1 ≤ x) (hh : has M x = false) : (rest M x).any (late wt now) = decide (x < od) := by
  rw [Bool.eq_iff_iff, List.any_eq_true, decide_eq_true_eq]
  constructor
  · rintro ⟨i, hi, hl⟩
    obtain ⟨hi, hk⟩ := List.mem_filter.1 hi
    have h1 := hO.all i hi hl
    have h2 := has_no hh i hi
    simp only [decide_eq_true_eq] at hk
    omega
  · intro h
    rcases hO.one with e | ⟨i, hi, hl, e⟩
    · omega
    · exact ⟨i, List.mem_filter.2 ⟨hi, by simp; omega⟩, hl⟩
theorem flat_take {f : Kp → List Value} {z : Nat} (hf : ∀ i, (f i).length = z) (M : Its) (j p : Nat) (u : Value) (h : (flat f (M.take j))[p]? = some u) : (flat f M)[p]? = some u := by
  have e : flat f M = flat f (M.take j) ++ flat f (M.drop j) := by rw [← flat_app, List.take_append_drop]
  rw [e, List.getElem?_append_left (List.getElem?_eq_some_iff.1 h).1]
  exact h
theorem flat_drop {f : Kp → List Value} {z : Nat} (hf : ∀ i, (f i).length = z) (M : Its) (j p : Nat) (u : Value) (hj : j ≤ M.length) (h : (flat f (M.drop j))[p]? = some u) : (flat f M)[j * z + p]? = some u := by
  have e : flat f M = flat f (M.take j) ++ flat f (M.drop j) := by rw [← flat_app, List.take_append_drop]
  have hl : (flat f (M.take j)).length = j * z := by rw [flat_len hf, List.length_take, Nat.min_eq_left hj]
  rw [e, List.getElem?_append_right (by omega), hl, Nat.add_sub_cancel_left]
  exact h
theorem own_cell {w : World} {base e z g c : Nat} {f : Kp → List Value} (hf : ∀ i, (f i).length = z) {M : Its} (h : w.ownsRow base e z (.slice (some ⟨g, 0, none⟩) M.length c) M.length (flat f M)) {p : Nat} {u : Value} (hp : (flat f M)[p]? = some u) : w.cell? ⟨g, p, none⟩ = some u := by
  have hlt := (List.getElem?_eq_some_iff.1 hp).1
  rw [flat_len hf] at hlt
  rw [h.cellAt p hlt, hp]
theorem own_form {w : World} {base e size n : Nat} {v : Value} {xs : List Value} (h : w.ownsRow base e size v n xs) : ∃ a c, v = .slice a n c := by
  rcases h.2 with ⟨h, h0⟩ | ⟨g, cap, cur, h, hg, _⟩
  · exact ⟨none, 0, by rw [h, h0]⟩
  · exact ⟨_, cap, h⟩
theorem own_cap {w : World} {base e size n len cap g : Nat} {xs : List Value} (h : w.ownsRow base e size (.slice (some ⟨g, 0, none⟩) len cap) n xs) : n ≤ cap := by
  rcases h.2 with ⟨h, _⟩ | ⟨g', c, cur, h, _, _, hc, _⟩
  · simp at h
  · simp only [Value.slice.injEq] at h
    omega

/-- under way: so many are handed out; j: of what is written down of them -/
structure QSt (w wr : World) (base B b : Nat) (wt now nx : Int) (M : Its) (k j : Nat) (lv ov : Value) : Prop where
  ref : RefAt wr base b wt now (nx + (k : Int)) (rest M (nx + (k : Int))) lv
  out : wr.ownsRow B 64 8 ov j (flat c8 (takes M nx j))
  only : Only [b] w wr
  ltb : b < B
  ltB : B ≤ wr.heap.size
  le : w.heap.size ≤ B
theorem QSt.below {w wr wy : World} {base B b : Nat} {wt now nx : Int} {M : Its} {k j : Nat} {lv ov : Value} (h : QSt w wr base B b wt now nx M k j lv ov) (hb : Below wr.heap.size wr wy) : QSt w wy base B b wt now nx M k j lv ov :=
  ⟨h.ref.below hb, (Only.of_below hb []).owns h.out (by simp), h.only.trans (Only.of_below hb _), h.ltb, Nat.le_trans h.ltB hb.size, h.le⟩
/-- one more is written down -/
theorem QSt.add {w wr wy : World} {base B b : Nat} {wt now nx : Int} {M : Its} {k : Nat} {lv ov ov' : Value} {O : Obj} (h : QSt w wr base B b wt now nx M k k lv ov) (hg : (wr.alloc O).grownBy wy ov.ownBlock) (hr : wy.ownsRow B 64 8 ov' (k + 1) (flat c8 (takes M nx k) ++ c8 (itm M (nx + (k : Int))))) : QSt w wy base B b wt now nx M k (k + 1) lv ov' := by
  have hB : ∀ j, ov.ownBlock = some j → B ≤ j := fun j hj => (h.out.lt j hj).1
  have ltb := h.ltb
  have le := h.le
  have ho : Only ov.ownBlock.toList wr wy := ((Only.refl ov.ownBlock.toList wr).alloc O).grown hg (by simp)
  refine ⟨h.ref.only ho ?_ ?_, by rw [takes_succ, flat_app, flat_one]; exact hr, past h.only ho ?_, ltb, Nat.le_trans h.ltB ho.2.2.2.1, le⟩
  · intro hc
    have := hB b (by simpa using hc)
    omega
  · intro q hq hc
    obtain ⟨cs, h1⟩ := row_block h.ref.row hq
    obtain ⟨ds, h2⟩ := row_block h.out (by simpa using hc)
    rw [h1] at h2
    simp at h2
  · intro j hj
    have := hB j (by simpa using hj)
    exact .inr (by omega)
/-- it is not kept any more, and the next one is next -/
theorem QSt.drop {w w1 w2 w3 : World} {base B b B2 : Nat} {wt now nx : Int} {M : Its} {k n3 : Nat} {lv ov l1 l3 : Value} (h : QSt w w1 base B b wt now nx M k (k + 1) lv ov) (hI : Apart M) (hbase : base ≤ w.heap.size) (hB2 : B2 = w1.heap.size) (hg : w1.grownBy w2 none) (hg2 : w2.grownBy w3 l1.ownBlock) (hl1 : ∀ q, l1.ownBlock = some q → B2 ≤ q)
    (hr : w3.ownsRow B2 66 9 l3 n3 (flat c9 ((rest M (nx + (k : Int))).filter fun i => decide (i.n ≠ nx + (k : Int))))) (hn3 : n3 = ((rest M (nx + (k : Int))).filter fun i => decide (i.n ≠ nx + (k : Int))).length) :
    w3.heap[b]? = some (.cells #[.int .i64 wt, .int .i64 now, .int .i64 (nx + (k : Int)), lv] 33 (0, 0)) ∧ QSt w ((w3.setCell ⟨b, 3, none⟩ l3).setCell ⟨b, 2, none⟩ (.int .i64 (nx + (k : Int) + 1))) base B b wt now nx M (k + 1) (k + 1) l3 ov := by
  subst hB2
  have ltb := h.ltb
  have ltB := h.ltB
  have le := h.le
  have hbl : b < w1.heap.size := lt_of_block h.ref.box
  have o1 : Only [] w1 w2 := (Only.refl _ _).grown hg (by simp)
  have o2 : Only l1.ownBlock.toList w2 w3 := (Only.refl _ _).grown hg2 (by simp)
  have o12 : Only [] w1 w3 := past o1 o2 (fun j hj => .inr (hl1 j (by simpa using hj)))
  have hbox : w3.heap[b]? = some (.cells #[.int .i64 wt, .int .i64 now, .int .i64 (nx + (k : Int)), lv] 33 (0, 0)) := o12.block h.ref.box (by simp)
  have oS : Only [b] w3 ((w3.setCell ⟨b, 3, none⟩ l3).setCell ⟨b, 2, none⟩ (.int .i64 (nx + (k : Int) + 1))) := ((Only.refl _ _).setCell (by simp) _).setCell (by simp) _
  have ec : nx + ((k + 1 : Nat) : Int) = nx + (k : Int) + 1 := by omega
  refine ⟨hbox, ⟨⟨?_, ?_⟩, ?_, ((h.only.trans (o12.mono (by simp))).setCell (by simp) _).setCell (by simp) _, ltb, ?_, le⟩⟩
  · have a1 := setb hbox 3 l3
    have a2 := setb a1 2 (.int .i64 (nx + (k : Int) + 1))
    rw [ec]
    exact a2
  · rw [ec, rest_succ, ← hn3]
    refine own_base (oS.owns hr ?_) (by omega)
    intro q hq hc
    simp at hc
    have := (hr.lt q hq).1
    omega
  · refine oS.owns (o12.owns h.out (by simp)) ?_
    intro q hq hc
    simp at hc
    have := (h.out.lt q hq).1
    omega
  · have := o12.2.2.2.1
    have := oS.2.2.2.1
    omega
/-- what was not there is gone, and the next one is next -/
theorem QSt.skip {w w1 : World} {base B b : Nat} {wt now nx : Int} {M : Its} {k : Nat} {lv ov : Value} (h : QSt w w1 base B b wt now nx M k (k + 1) lv ov) (hh : has M (nx + (k : Int)) = false) : QSt w (w1.setCell ⟨b, 2, none⟩ (.int .i64 (nx + (k : Int) + 1))) base B b wt now nx M (k + 1) (k + 1) lv ov := by
  have ec : nx + ((k + 1 : Nat) : Int) = nx + (k : Int) + 1 := by omega
  have er : rest M (nx + (k : Int) + 1) = rest M (nx + (k : Int)) := by
    rw [rest_succ, List.filter_eq_self]
    intro i hi
    have := has_no hh i (List.mem_filter.1 hi).1
    simpa using this
  have ltb := h.ltb
  have oS : Only [b] w1 (w1.setCell ⟨b, 2, none⟩ (.int .i64 (nx + (k : Int) + 1))) := (Only.refl _ _).setCell (by simp) _
  refine ⟨?_, oS.owns h.out ?_, h.only.setCell (by simp) _, h.ltb, Nat.le_trans h.ltB oS.2.2.2.1, h.le⟩
  · rw [ec, er]
    exact h.ref.set 2 _ rfl
  · intro q hq hc
    simp at hc
    have := (h.out.lt q hq).1
    omega

set_option maxHeartbeats 1000000 in
theorem rpop_time (b : Nat) (nw now : Int) (w : World) (h : w.cell? ⟨b, 1, none⟩ = some (.int .i64 nw)) (ht : tf nw now ≠ 0) :
    Calls Tryd.prog 10 #[.pointer (some ⟨b, 0, none⟩), .int .i64 now] w fun e w' => e = .returned (.tuple #[.slice none 0 0, .int .i64 (tf nw now : Nat)]) ∧ w' = w := by
  have HT := hidden (fun w h => time_calls b nw now w h)
  generalize tf nw now = f at *
  have d : ((f : Int) == 0) = false := by simp; omega
  have HC1 := hidden h
  clear ht h
  go_enter Tryd.func10, Tryd.ntmps10
  go_wp2_with fail
  refine (HT.out _ HC1.out).mono ?_
  rintro e w' ⟨rfl, rfl⟩
  go_wp2_with fail
  go_ret2
  exact ⟨rfl, rfl⟩
end Go.Proofs.YtenjemcehhocoaeDoor.ROrder
