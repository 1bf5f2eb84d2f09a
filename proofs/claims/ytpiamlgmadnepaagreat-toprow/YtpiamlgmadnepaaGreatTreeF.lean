/-
  Costs between nodes in memory, row by row; what costsOf of package tree returns. It changes nothing that was there.
-/
import Derived.Test.YtpiamlgmadnepaaGreatTreeE
import Derived.Deep.WholeRow
namespace Go.Proofs.YtpiamlgmadnepaaGreat.Tree
open Go.ChangeShapes Go.WideShapes Go.ChangeAt Go.RowKit Go.Proofs.YtpiamlgmadnepaaGreat.Mem Go.Proofs.YtpiamlgmadnepaaGreat.TM
set_option linter.unusedVariables false

/-- cells that hold what F says, row by row -/
def Mat (C : Array Value) (F : Nat → Nat → Int) : Prop := C.size = 256 ∧ ∀ x y, x < 16 → y < 16 → C[x * 16 + y]? = some (.int .i64 (F x y))
theorem Mat.one {C : Array Value} {F : Nat → Nat → Int} (h : Mat C F) : C.all (·.oneCell') = true := by
  rw [Array.all_eq_true]
  intro i hi
  have h1 := h.2 (i / 16) (i % 16) (by have := h.1; omega) (Nat.mod_lt _ (by omega))
  rw [show i / 16 * 16 + i % 16 = i by omega, Array.getElem?_eq_getElem hi, Option.some.injEq] at h1
  rw [h1]; rfl
theorem Mat.ext {C : Array Value} {F G : Nat → Nat → Int} (h : Mat C F) (e : ∀ x y, x < 16 → y < 16 → F x y = G x y) : Mat C G :=
  ⟨h.1, fun x y hx hy => by rw [← e x y hx hy]; exact h.2 x y hx hy⟩
theorem Mat.set {C : Array Value} {F : Nat → Nat → Int} (h : Mat C F) {a b : Nat} (ha : a < 16) (hb : b < 16) (v : Int) : Mat (C.setIfInBounds (a * 16 + b) (.int .i64 v)) (fun x y => if x = a ∧ y = b then v else F x y) := by
  refine ⟨by simpa using h.1, fun x y hx hy => ?_⟩
  rw [Array.getElem?_setIfInBounds]
  show _ = some (Value.int .i64 (if x = a ∧ y = b then v else F x y))
  by_cases e : a * 16 + b = x * 16 + y
  · rw [if_pos e, if_pos (by have := h.1; omega), if_pos (by omega)]
  · rw [if_neg e, h.2 x y hx hy, if_neg (by omega)]
/-- none -/
def zs : Array Value := Array.replicate 256 (.int .i64 0)
theorem mat_zero : Mat zs (fun _ _ => 0) := by
  refine ⟨by simp [zs], fun x y hx hy => ?_⟩
  unfold zs
  rw [Array.getElem?_replicate, if_pos (by omega)]
theorem zeroM (w : World) : (zeroValue 115).run Tryz.prog w = .ok (.agg zs) w := by kernel_rfl
theorem sizeM : (Tryz.prog.info? 115).map (·.size) = some 256 := by kernel_rfl
/-- a block that holds costs -/
def MB (w : World) (g : Nat) (F : Nat → Nat → Int) : Prop := ∃ C, w.heap[g]? = some (.cells C 115 (0, 0)) ∧ Mat C F
theorem MB.lt {w : World} {g : Nat} {F : Nat → Nat → Int} (h : MB w g F) : g < w.heap.size := by
  obtain ⟨C, h, _⟩ := h
  exact lt_of_block h
theorem MB.cell {w : World} {g : Nat} {F : Nat → Nat → Int} (h : MB w g F) {x y : Nat} (hx : x < 16) (hy : y < 16) : w.cell? ⟨g, x * 16 + y, none⟩ = some (.int .i64 (F x y)) := by
  obtain ⟨C, h, hm⟩ := h
  rw [cell_of_row w g _ C 115 (0, 0) h, hm.2 x y hx hy]
theorem MB.free {w : World} {g : Nat} {F : Nat → Nat → Int} (h : MB w g F) (j : Nat) : w.frozen? ⟨g, j, none⟩ = false := by
  obtain ⟨C, h, _⟩ := h
  exact frozen_of_row w g j C 115 h
theorem MB.set {w : World} {g : Nat} {F : Nat → Nat → Int} (h : MB w g F) {a b : Nat} (ha : a < 16) (hb : b < 16) (v : Int) : MB (w.setCell ⟨g, a * 16 + b, none⟩ (.int .i64 v)) g (fun x y => if x = a ∧ y = b then v else F x y) := by
  obtain ⟨C, h, hm⟩ := h
  exact ⟨_, heap_setCell_same w g (a * 16 + b) C 115 (.int .i64 v) h, hm.set ha hb v⟩
theorem MB.only {bs : List Nat} {w w' : World} {g : Nat} {F : Nat → Nat → Int} (h : MB w g F) (ho : Only bs w w') (hg : g ∉ bs) : MB w' g F := by
  obtain ⟨C, h, hm⟩ := h
  exact ⟨C, ho.block h hg, hm⟩
theorem MB.below {w w' : World} {g B : Nat} {F : Nat → Nat → Int} (h : MB w g F) (hb : Below B w w') (hg : g < B) : MB w' g F := by
  obtain ⟨C, h, hm⟩ := h
  exact ⟨C, (hb.block g hg).trans h, hm⟩
theorem MB.ext {w : World} {g : Nat} {F G : Nat → Nat → Int} (h : MB w g F) (e : ∀ x y, x < 16 → y < 16 → F x y = G x y) : MB w g G := by
  obtain ⟨C, h, hm⟩ := h
  exact ⟨C, h, hm.ext e⟩
theorem MB.new {w : World} {C : Array Value} {F : Nat → Nat → Int} (h : Mat C F) : MB (w.alloc (.cells C 115)) w.heap.size F := ⟨C, heap_alloc_new w _, h⟩
/-- costs of edges -/
def fc (L : List Ed) : Nat → Nat → Int := fun x y => cst L x y
/-- where costsOf stands -/
structure CSt (w wr : World) (L : List Ed) (j : Nat) : Prop where
  bel : Below w.heap.size w wr
  sz : w.heap.size + 2 ≤ wr.heap.size
  res : MB wr w.heap.size (fun _ _ => 0)
  bet : MB wr (w.heap.size + 1) (fc (L.take j))
theorem CSt.start (w : World) (L : List Ed) : CSt w ((w.alloc (.cells zs 115)).alloc (.cells zs 115)) L 0 := by
  have h1 : MB (w.alloc (.cells zs 115)) w.heap.size (fun _ _ => 0) := MB.new mat_zero
  have h2 : MB ((w.alloc (.cells zs 115)).alloc (.cells zs 115)) (w.alloc (.cells zs 115)).heap.size (fun _ _ => 0) := MB.new mat_zero
  refine ⟨below_alloc (below_alloc (Below.refl _ _) _) _, by simp, h1.below (below_alloc (Below.refl _ _) _) h1.lt, ?_⟩
  rw [show (w.alloc (.cells zs 115)).heap.size = w.heap.size + 1 by simp] at h2
  exact h2.ext fun x y _ _ => by simp [fc, cst_nil]
theorem CSt.alloc {w wr : World} {L : List Ed} {j : Nat} (h : CSt w wr L j) (O : Obj) : CSt w (wr.alloc O) L j :=
  ⟨below_alloc h.bel O, by have := h.sz; simp; omega, h.res.below (below_alloc (Below.refl _ _) O) h.res.lt, h.bet.below (below_alloc (Below.refl _ _) O) h.bet.lt⟩
/-- the half of a step -/
structure HSt (w wr : World) (L : List Ed) (j p q : Nat) (c : Int) : Prop where
  bel : Below w.heap.size w wr
  sz : w.heap.size + 2 ≤ wr.heap.size
  res : MB wr w.heap.size (fun _ _ => 0)
  bet : MB wr (w.heap.size + 1) (fun x y => if x = p ∧ y = q then c else fc (L.take j) x y)
theorem CSt.half {w wr : World} {L : List Ed} {j p q : Nat} {c : Int} (h : CSt w wr L j) (hp : p < 16) (hq : q < 16) : HSt w (wr.setCell ⟨w.heap.size + 1, p * 16 + q, none⟩ (.int .i64 c)).drew L j p q c := by
  have hs := h.sz
  have o : Only [w.heap.size + 1] wr (wr.setCell ⟨w.heap.size + 1, p * 16 + q, none⟩ (.int .i64 c)).drew := (((Only.refl _ _).setCell (by simp) _)).drew
  exact ⟨(h.bel.setCell (by simp) _).drew, by show _ ≤ (wr.setCell _ _).heap.size; simp; omega, h.res.only o (by simp), h.bet.set hp hq c⟩
theorem HSt.step {w wr : World} {L : List Ed} {j p q : Nat} {c : Int} (h : HSt w wr L j p q c) (hj : j < L.length) (he : L.getD j zz = ⟨p, q, c⟩) (hp : p < 16) (hq : q < 16) :
    CSt w (wr.setCell ⟨w.heap.size + 1, q * 16 + p, none⟩ (.int .i64 c)).drew L (j + 1) := by
  have hs := h.sz
  have o : Only [w.heap.size + 1] wr (wr.setCell ⟨w.heap.size + 1, q * 16 + p, none⟩ (.int .i64 c)).drew := (((Only.refl _ _).setCell (by simp) _)).drew
  refine ⟨(h.bel.setCell (by simp) _).drew, by show _ ≤ (wr.setCell _ _).heap.size; simp; omega, h.res.only o (by simp), ?_⟩
  have hm : MB (wr.setCell ⟨w.heap.size + 1, q * 16 + p, none⟩ (.int .i64 c)).drew (w.heap.size + 1) _ := h.bet.set hq hp c
  refine hm.ext fun x y hx hy => ?_
  unfold fc
  rw [cst_take hj, he]
  by_cases e : ((p : Int) = x ∧ (q : Int) = y) ∨ ((q : Int) = x ∧ (p : Int) = y)
  · rw [if_pos (jn_iff.2 e)]
    show _ = c
    by_cases e2 : x = q ∧ y = p
    · rw [if_pos e2]
    · rw [if_neg e2, if_pos (by omega)]
  · rw [if_neg (fun k => e (jn_iff.1 k)), if_neg (by omega), if_neg (by omega)]
set_option maxHeartbeats 4000000 in
set_option maxRecDepth 100000 in
theorem costsOf_calls (a : Option Addr) (n cap : Nat) (L : List Ed) (N : Nat) (w : World) (h : EArg w a n L) (hN : N ≤ 16) (hF : ∀ e ∈ L, okE N e = true) :
    Calls Tryz.prog 55 #[.slice a n cap] w fun e w' => ∃ C, e = .returned (.agg C) ∧ Mat C (fc L) ∧ Below w.heap.size w w' := by
  have hl := h.2.1
  have hn := h.2.2
  have HA := hidden h
  have HF := hidden hF
  clear h hF
  have hz := zeroM
  have HS0 := hidden (CSt.start w L)
  go_enter Tryz.func55, Tryz.ntmps55
  go_wp2_with fail
  go_loopg [8] n (fun g x wr => ∃ j : Nat, j + g = n ∧ x = .int .i64 (j : Int) ∧ Hid (CSt w wr L j))
  case atStart => exact ⟨0, by omega, rfl, HS0⟩
  case round =>
    obtain ⟨j, hjg, rfl, HS⟩ := hrel
    by_cases hj : j < n
    · have hjz : (j : Int) < (n : Int) := by omega
      obtain ⟨b, o, rfl, hbl, hcs⟩ := (HA.out.below HS.out.bel).at (by omega)
      obtain ⟨c0, c1, c2⟩ := hcs j hj
      have hok := okE_iff.1 (HF.out _ (getD_mem (L := L) (j := j) (by omega)))
      obtain ⟨m, hm⟩ : ∃ m, L.getD j zz = m := ⟨_, rfl⟩
      rw [hm] at c0 c1 c2 hok
      clear hcs
      obtain ⟨x, y, u⟩ := m
      simp only at c0 c1 c2 hok
      obtain ⟨p, rfl⟩ : ∃ p : Nat, x = (p : Int) := ⟨x.toNat, by omega⟩
      obtain ⟨q, rfl⟩ : ∃ q : Nat, y = (q : Int) := ⟨y.toNat, by omega⟩
      have hp : p < 16 := by omega
      have hq : q < 16 := by omega
      have hp' : (p : Int) < 16 := by omega
      have hq' : (q : Int) < 16 := by omega
      have HM := hidden hm
      clear hm hok
      obtain ⟨w1, hw1⟩ : ∃ w1, wr.alloc (.cells #[.int .i64 (p : Int), .int .i64 (q : Int), .int .i64 u] 87) = w1 := ⟨_, rfl⟩
      have HS1 : Hid (CSt w w1 L j) := by rw [← hw1]; exact hidden (HS.out.alloc _)
      have HX1 : Hid (EBox w1 wr.heap.size ⟨p, q, u⟩) := by rw [← hw1]; exact hidden (EBox.new wr ⟨p, q, u⟩)
      have HW1 := hidden hw1
      have hne : wr.heap.size ≠ w.heap.size + 1 := by have := HS.out.sz; omega
      have HNE := hidden hne
      clear hne hw1
      go_upto_region 5 with fail
      rw [HW1.out]
      clear HW1 c0 c1 c2 HS
      obtain ⟨x0, x1, x2⟩ := HX1.out.cells
      have f1 := HS1.out.bet.free (p * 16 + q)
      have f2 := HS1.out.bet.cell hp hq
      go_wp2_with fail
      go_region
      obtain ⟨w2, hw2⟩ : ∃ w2, (w1.setCell ⟨w.heap.size + 1, p * 16 + q, none⟩ (.int .i64 u)).drew = w2 := ⟨_, rfl⟩
      have HS2 : Hid (HSt w w2 L j p q u) := by rw [← hw2]; exact hidden (HS1.out.half hp hq)
      have HX2 : Hid (EBox w2 wr.heap.size ⟨p, q, u⟩) := by
        rw [← hw2]
        have o : Only [w.heap.size + 1] w1 (w1.setCell ⟨w.heap.size + 1, p * 16 + q, none⟩ (.int .i64 u)).drew := (((Only.refl _ _).setCell (by simp) _)).drew
        exact hidden (o.block HX1.out (by simpa using HNE.out))
      rw [hw2]
      clear hw2 f1 f2 x0 x1 x2 HX1 HS1
      obtain ⟨x0, x1, x2⟩ := HX2.out.cells
      have f1 := HS2.out.bet.free (q * 16 + p)
      have f2 := HS2.out.bet.cell hq hp
      go_wp2_with fail
      go_region
      have HS3 : Hid (CSt w (w2.setCell ⟨w.heap.size + 1, q * 16 + p, none⟩ (.int .i64 u)).drew L (j + 1)) := HS2.out.step (by omega) HM.out hp hq
      clear f1 f2 x0 x1 x2 HX2 HS2
      go_wp2_with fail
      go_roundg (n - (j + 1))
      case measure => omega
      case rel => exact ⟨j + 1, by omega, by go_num, HS3⟩
    · have hjz : ¬ (j : Int) < (n : Int) := by omega
      obtain rfl : j = n := by omega
      obtain ⟨C, hC, hM⟩ := HS.out.bet
      obtain ⟨D, hD, hM0⟩ := HS.out.res
      rw [← hl, List.take_length] at hM
      have HMM := hidden hM
      have h1 := hidden hM.one
      have hs1 := hM.1
      have hs2 := hM0.1
      have hsz : (Tryz.prog.info? 115).map (·.size) = some C.size := by rw [hs1]; exact sizeM
      have hrow : (wr.setRow w.heap.size C).heap[w.heap.size]? = some (.cells C 115 (0, 0)) := setRow_heap _ _ _ _ _ _ hD
      have HB : Hid (Below w.heap.size w (wr.setRow w.heap.size C)) := below_setRow HS.out.bel (Nat.le_refl _) _
      have HRow := hidden hrow
      have HC := hidden hC
      have HD := hidden hD
      have HZ := hidden hsz
      have HDC : Hid (D.size = C.size) := hidden (by omega)
      clear hC hD hM hM0 hs1 hs2 hrow hsz
      go_wp2_with (first | refine wpList_load_row rfl 115 _ rfl (w.heap.size + 1) rfl 115 C (0, 0) _ HC.out Tryz.underlying115 rfl HZ.out ?_ | refine wpList_store_row rfl 115 _ _ rfl w.heap.size C rfl rfl 115 D HD.out HZ.out HDC.out h1.out ?_)
      refine bodyPost_ret (results_cell_row rfl _ _ w.heap.size 115 C (0, 0) _ rfl HRow.out Tryz.underlying115 rfl HZ.out) rfl ?_
      exact ⟨C, rfl, HMM.out, HB.out⟩
end Go.Proofs.YtpiamlgmadnepaaGreat.Tree

