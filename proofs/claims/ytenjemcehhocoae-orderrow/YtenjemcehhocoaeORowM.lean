/-
  What OrderRow knows of each number: whether it was pushed; its array in memory; what Push and Pop do there. No walk of the law.
-/
import Derived.Test.YtenjemcehhocoaeOrderE
import Derived.Test.YtenjemcehhocoaeOrderL
namespace Go.Proofs.Ytenjemcehhocoae.ORow
open Go.ChangeShapes Go.WideShapes Go.ChangeAt Go.RowKit Go.Proofs.Ytenjemcehhocoae.PM Go.Proofs.Ytenjemcehhocoae.Mem Go.Proofs.Ytenjemcehhocoae.Pack Go.Proofs.Ytenjemcehhocoae.OM Go.Proofs.Ytenjemcehhocoae.Order
set_option linter.unusedVariables false

/-- a packet that bears its number, kept since a time -/
def kq (y : Int) (bv : Value) (a : Int) : Kp := ⟨y, false, ⟨y, 0, 0, 0, false, [], bv⟩, a⟩
theorem arg0 (w : World) : Arg w none 0 [] := ⟨Bys.nil _ _, rfl, by omega⟩
def addq (kv : Bool) (M : Its) (x : Kp) : Its := if kv then M ++ [x] else M
theorem push_q (b mb : Nat) (wt nw nx y now : Int) (M : Its) (w : World) (h : OrderAt w b mb wt nw nx M) (hI : OM.Inv nw nx M) (ht : tf nw now = 0) (h0 : 0 ≤ y) (h1 : y ≤ 65535) (hr : far nx y = false) :
    Calls Try.prog 5 #[.pointer (some ⟨b, 0, none⟩), .int .i64 y, .agg #[.int .i64 y, .int .i64 0, .int .i64 0, .int .i64 0, .bool false, .slice none 0 0], .int .i64 now] w fun e w' => e = .returned (.tuple #[.bool (kx (fx nx y) y M), .nilIface]) ∧ ∃ bv, OrderAt w' b mb wt now (fx nx y) (addq (kx (fx nx y) y M) M (kq y bv now)) ∧ OM.Inv now (fx nx y) (addq (kx (fx nx y) y M) M (kq y bv now)) ∧ Only [b, mb] w w' := by
  have hf : fault y 0 0 0 0 = 0 := by
    unfold fault
    rw [if_pos ⟨h0, h1, by omega, by omega, by omega, by omega, by omega, by omega⟩, if_pos (by omega)]
  refine (push_ok b mb wt nw nx y now y 0 0 0 false none 0 0 [] M w h hI (arg0 w) (fun _ => ⟨rfl, rfl⟩) ht h0 (by omega) hf hr).mono ?_
  rintro e w' ⟨rfl, bv, hO, ho⟩
  have hv := inv_push (y := y) (now := now) hI 0 ⟨y, 0, 0, 0, false, [], bv⟩
  have hp : pf nw nx y now 0 = 0 := pf_mk ht h0 (by omega) rfl hr
  have hx : px nw nx y now M 0 = kx (fx nx y) y M := by simp [px, hp]
  unfold pW pX pM at hv
  rw [hp, hx] at hv
  exact ⟨rfl, bv, hO, hv, ho⟩
/-- what is handed out, cell by cell -/
theorem items_cell {w : World} {base K : Nat} {av : Option Addr} {cv : Nat} {M : Its} {nx : Int} (h : w.ownsRow base 37 8 (.slice av K cv) K (flat c8 (takes M nx K))) (hK : 0 < K) : ∃ g, av = some ⟨g, 0, none⟩ ∧ base ≤ g ∧ ∀ j, j < K → ∀ k, k < 8 → w.cell? ⟨g, j * 8 + k, none⟩ = (c8 (itm M (nx + (j : Int))))[k]? := by
  have hl := takes_len M nx K
  obtain ⟨X, hX⟩ : ∃ X, takes M nx K = X := ⟨_, rfl⟩
  have hg : ∀ j, j < K → X[j]? = some (itm M (nx + (j : Int))) := fun j hj => by rw [← hX]; exact takes_get M nx K j hj
  rw [hX] at h hl
  subst hl
  rcases row_form h with ⟨_, e⟩ | ⟨g, c, e, hb⟩
  · subst e; simp at hK
  · simp only [Value.slice.injEq, true_and] at e
    obtain ⟨rfl, rfl⟩ := e
    exact ⟨g, rfl, hb, fun j hj k hk => row_cell c8_len h (hg j hj) k hk⟩

/-! the law's own beginning -/
theorem new5 (w : World) : Calls Try.prog 4 #[.int .i64 5] w fun e w' => ∃ b mb, e = .returned (.tuple #[.pointer (some ⟨b, 0, none⟩), .nilIface]) ∧ w.heap.size ≤ b ∧ w.heap.size ≤ mb ∧ OrderAt w' b mb 5 0 (-1) [] ∧ Below w.heap.size w w' := new_ok 5 w (by decide) (by decide)
theorem first7 (b mb : Nat) (w : World) (h : OrderAt w b mb 5 0 (-1) []) :
    Calls Try.prog 5 #[.pointer (some ⟨b, 0, none⟩), .int .i64 7, .agg #[.int .i64 7, .int .i64 0, .int .i64 0, .int .i64 0, .bool false, .slice none 0 0], .int .i64 0] w fun e w' => e = .returned (.tuple #[.bool true, .nilIface]) ∧ ∃ bv, OrderAt w' b mb 5 0 7 [kq 7 bv 0] ∧ OM.Inv 0 7 [kq 7 bv 0] ∧ Only [b, mb] w w' :=
  push_q b mb 5 0 (-1) 7 0 [] w h inv_start (by decide) (by decide) (by decide) (by decide)
theorem first9 (b mb : Nat) (bv : Value) (w : World) (h : OrderAt w b mb 5 0 7 [kq 7 bv 0]) (hI : OM.Inv 0 7 [kq 7 bv 0]) :
    Calls Try.prog 5 #[.pointer (some ⟨b, 0, none⟩), .int .i64 9, .agg #[.int .i64 9, .int .i64 0, .int .i64 0, .int .i64 0, .bool false, .slice none 0 0], .int .i64 0] w fun e w' => e = .returned (.tuple #[.bool true, .nilIface]) ∧ ∃ bv2, OrderAt w' b mb 5 0 7 [kq 7 bv 0, kq 9 bv2 0] ∧ OM.Inv 0 7 [kq 7 bv 0, kq 9 bv2 0] ∧ Only [b, mb] w w' := by
  have := push_q b mb 5 0 7 9 0 [kq 7 bv 0] w h hI (by decide) (by decide) (by decide) (by decide)
  have e : kx (fx 7 9) 9 [kq 7 bv 0] = true := by simp [kx, fx, has, kq]
  rw [e] at this
  exact this
theorem firstPop (b mb : Nat) (bv bv2 : Value) (w : World) (h : OrderAt w b mb 5 0 7 [kq 7 bv 0, kq 9 bv2 0]) (hI : OM.Inv 0 7 [kq 7 bv 0, kq 9 bv2 0]) :
    Calls Try.prog 6 #[.pointer (some ⟨b, 0, none⟩), .int .i64 5] w fun e w' => ∃ g cap, e = .returned (.tuple #[.slice (some ⟨g, 0, none⟩) 3 cap, .nilIface]) ∧ (w'.cell? ⟨g, 9, none⟩ = some (.bool true) ∧ w'.cell? ⟨g, 18, none⟩ = some (.int .i64 9)) ∧ Only [b, mb] w w' := by
  have hone := hI.one
  refine (pop_ok b mb 5 0 7 5 9 _ 3 w h hI (by decide) ⟨by omega, ?_, .inr ⟨kq 9 bv2 0, by simp, by simp [late, kq], rfl⟩⟩ ⟨fun j hj => ?_, ?_⟩ (by omega)).mono ?_
  · intro i hi hl
    simp [kq] at hi
    rcases hi with rfl | rfl <;> simp
  · simp [goes, has, kq]
    omega
  · simp [goes, has, kq]
  · rintro e w' ⟨av, cv, rfl, hr, _, _, k4⟩
    obtain ⟨g, rfl, hg, hc⟩ := items_cell hr (by omega)
    refine ⟨g, cv, rfl, ⟨?_, ?_⟩, k4⟩
    · have := hc 1 (by omega) 1 (by omega)
      rw [itm_no (no_has (fun i hi => by simp [kq] at hi; rcases hi with rfl | rfl <;> simp))] at this
      exact this
    · have := hc 2 (by omega) 2 (by omega)
      have e : (7 : Int) + ((2 : Nat) : Int) = (kq 9 bv2 0).n := by simp [kq]
      rw [e, itm_eq hone (by simp)] at this
      exact this
theorem below_of {w w1 w2 : World} {b mb : Nat} (h : Below w.heap.size w w1) (ho : Only [b, mb] w1 w2) (hb : w.heap.size ≤ b) (hm : w.heap.size ≤ mb) : Below w.heap.size w w2 :=
  h.trans (ho.below h.size (by intro k hk; simp at hk; omega))

/-! the array in memory -/
def upd {α : Type} (F : Nat → α) (y : Nat) (v : α) : Nat → α := fun j => if j = y then v else F j
def ArrB (w : World) (g : Nat) (F : Nat → Bool) : Prop := ∃ cs : Array Value, w.heap[g]? = some (.cells cs 38 (0, 0)) ∧ cs.size = 400 ∧ ∀ j, j < 400 → cs[j]? = some (.bool (F j))
theorem ArrB.cell {w : World} {g : Nat} {F : Nat → Bool} (h : ArrB w g F) {j : Nat} (hj : j < 400) : w.cell? ⟨g, j, none⟩ = some (.bool (F j)) := by
  obtain ⟨cs, h1, _, h3⟩ := h
  simp [World.cell?, h1, h3 j hj]
theorem ArrB.free {w : World} {g : Nat} {F : Nat → Bool} (h : ArrB w g F) (j : Nat) : w.frozen? ⟨g, j, none⟩ = false := by
  obtain ⟨cs, h1, _⟩ := h
  simp [World.frozen?, h1]
theorem ArrB.only {w w' : World} {g : Nat} {F : Nat → Bool} {bs : List Nat} (h : ArrB w g F) (ho : Only bs w w') (hg : g ∉ bs) : ArrB w' g F := by
  obtain ⟨cs, h1, h2⟩ := h
  exact ⟨cs, ho.block h1 hg, h2⟩
theorem ArrB.lt {w : World} {g : Nat} {F : Nat → Bool} (h : ArrB w g F) : g < w.heap.size := by
  obtain ⟨cs, h1, _⟩ := h
  exact lt_of_block h1
theorem ArrB.set {w : World} {g : Nat} {F : Nat → Bool} (h : ArrB w g F) {y : Nat} (hy : y < 400) (v : Bool) : ArrB (w.setCell ⟨g, y, none⟩ (.bool v)) g (upd F y v) := by
  obtain ⟨cs, h1, h2, h3⟩ := h
  refine ⟨_, heap_setCell_same w g y cs 38 (.bool v) h1, by simpa using h2, fun j hj => ?_⟩
  rw [Array.getElem?_setIfInBounds]
  by_cases e : y = j
  · subst e
    rw [if_pos rfl, if_pos (by omega)]
    simp [upd]
  · rw [if_neg e, h3 j hj]
    have : ¬ j = y := fun q => e q.symm
    simp [upd, this]
theorem ArrB.off {w : World} {g b mb : Nat} {F : Nat → Bool} {wt nw nx : Int} {M : Its} (h : ArrB w g F) (ho : OrderAt w b mb wt nw nx M) : g ∉ [b, mb] := by
  obtain ⟨cs, h1, _⟩ := h
  obtain ⟨D, h2, _⟩ := ho.map
  obtain ⟨es, c, h3⟩ := map_block h2
  intro hg
  simp only [List.mem_cons, List.not_mem_nil, or_false] at hg
  rcases hg with rfl | rfl
  · rw [ho.box] at h1; simp at h1
  · rw [h3] at h1; simp at h1
theorem ArrB.nob {w : World} {g : Nat} {F : Nat → Bool} (h : ArrB w g F) : ∀ k ∈ [g], ∀ cs fr, w.heap[k]? ≠ some (.cells cs 5 fr) := by
  obtain ⟨cs', h1, _⟩ := h
  intro k hk cs fr e
  simp at hk
  subst hk
  rw [h1] at e
  simp at e
def zsB : Array Value := Array.replicate 400 (.bool false)
set_option maxRecDepth 100000 in
theorem zeroB (w : World) : (zeroValue 38).run Try.prog w = .ok (.agg zsB) w := by kernel_rfl
theorem ArrB.new (w : World) : ArrB (w.alloc (.cells zsB 38)) w.heap.size (fun _ => false) := by
  refine ⟨_, heap_alloc_new w _, by simp [zsB], fun j hj => ?_⟩
  simp [zsB, hj]

/-! under way -/
structure RSt (w wr : World) (b mb ga : Nat) (wt nw nx : Int) (M : Its) (F : Nat → Bool) : Prop where
  bel : Below w.heap.size w wr
  lo : w.heap.size ≤ b ∧ w.heap.size ≤ mb ∧ w.heap.size ≤ ga
  ord : OrderAt wr b mb wt nw nx M
  inv : OM.Inv nw nx M
  arr : ArrB wr ga F
  top : nx ≤ 150
  all : ∀ i ∈ M, i.n < 150 ∧ i.g = false ∧ i.p.s = i.n
  rel : ∀ j : Nat, nx ≤ (j : Int) → F j = has M j
theorem RSt.below {w wr wy : World} {b mb ga : Nat} {wt nw nx : Int} {M : Its} {F : Nat → Bool} (h : RSt w wr b mb ga wt nw nx M F) (hb : Below wr.heap.size wr wy) : RSt w wy b mb ga wt nw nx M F :=
  { h with bel := h.bel.trans (hb.mono h.bel.size), ord := h.ord.below hb, arr := h.arr.only (Only.of_below hb []) (by simp) }
theorem RSt.fits {w wr : World} {b mb ga : Nat} {wt nw nx : Int} {M : Its} {F : Nat → Bool} (h : RSt w wr b mb ga wt nw nx M F) {y : Nat} (hy : y < 150) : far nx y = false := by
  have := h.inv.x1
  simp [far]
  omega
/-- is it kept: as the law says -/
theorem RSt.kept {w wr : World} {b mb ga : Nat} {wt nw nx : Int} {M : Its} {F : Nat → Bool} (h : RSt w wr b mb ga wt nw nx M F) (y : Nat) : kx (fx nx y) y M = (decide (fx nx y ≤ (y : Int)) && !F y) := by
  unfold kx
  by_cases c : fx nx y ≤ (y : Int)
  · have : nx ≤ (y : Int) := by
      unfold fx at c
      split at c <;> omega
    rw [h.rel y this]
  · simp [c]
theorem RSt.pushed {w wr w1 : World} {b mb ga y : Nat} {wt nw nx now : Int} {M : Its} {F : Nat → Bool} {bv : Value} (h : RSt w wr b mb ga wt nw nx M F) (hy : y < 150) (hO : OrderAt w1 b mb wt now (fx nx y) (addq (kx (fx nx y) y M) M (kq y bv now))) (hI : OM.Inv now (fx nx y) (addq (kx (fx nx y) y M) M (kq y bv now))) (ho : Only [b, mb] wr w1) :
    ArrB w1 ga F ∧ (kx (fx nx y) y M = false → RSt w w1 b mb ga wt now (fx nx y) M F) ∧ (kx (fx nx y) y M = true → RSt w (w1.setCell ⟨ga, y, none⟩ (.bool true)) b mb ga wt now (fx nx y) (M ++ [kq y bv now]) (upd F y true)) := by
  have hA : ArrB w1 ga F := h.arr.only ho (h.arr.off h.ord)
  obtain ⟨l1, l2, l3⟩ := h.lo
  have hB : Below w.heap.size w w1 := below_of h.bel ho l1 l2
  have hx1 := h.inv.x1
  have htop : fx nx y ≤ 150 := by have := h.top; unfold fx; split <;> omega
  have hle : nx ≤ fx nx y := by unfold fx; split <;> omega
  refine ⟨hA, fun e => ?_, fun e => ?_⟩
  · rw [e] at hO hI
    exact ⟨hB, h.lo, hO, hI, hA, htop, h.all, fun j hj => h.rel j (by omega)⟩
  · rw [e] at hO hI
    have oS : Only [ga] w1 (w1.setCell ⟨ga, y, none⟩ (.bool true)) := (Only.refl _ _).setCell (by simp) _
    have off := hA.off hO
    refine ⟨hB.setCell l3 _, h.lo, hO.only oS ?_ ?_ hA.nob, hI, hA.set (by omega) true, htop, ?_, ?_⟩
    · intro hc; simp at hc; subst hc; simp at off
    · intro hc; simp at hc; subst hc; simp at off
    · intro i hi
      rcases List.mem_append.1 hi with hi | hi
      · exact h.all i hi
      · simp only [List.mem_singleton] at hi
        subst hi
        exact ⟨by show (y : Int) < 150; omega, rfl, rfl⟩
    · intro j hj
      unfold upd
      by_cases ej : j = y
      · subst ej
        rw [if_pos rfl]
        exact (has_iff.2 ⟨kq j bv now, by simp, rfl⟩).symm
      · rw [if_neg ej, h.rel j (by omega)]
        rw [Bool.eq_iff_iff, has_iff, has_iff]
        constructor
        · rintro ⟨i, hi, e⟩; exact ⟨i, by simp [hi], e⟩
        · rintro ⟨i, hi, e⟩
          rcases List.mem_append.1 hi with hi | hi
          · exact ⟨i, hi, e⟩
          · simp only [List.mem_singleton] at hi
            subst hi
            have : (y : Int) = j := e
            omega
/-- so many are handed out -/
structure ISt (w wq : World) (b mb ga : Nat) (wt now nx : Int) (M : Its) (F : Nat → Bool) (K g : Nat) : Prop where
  fin : RSt w wq b mb ga wt now (nx + (K : Int)) (rest M (nx + (K : Int))) F
  num : ∀ j, j < K → ∃ y : Nat, nx + (j : Int) = (y : Int) ∧ y < 150 ∧ ((F y = true ∧ ∃ t l q st v, (v.oneCell' = true) ∧ c8 (itm M (nx + (j : Int))) = [.int .i64 (y : Int), .bool false, .int .i64 (y : Int), .int .i64 t, .int .i64 l, .int .i64 q, .bool st, v] ∧ ∃ a m c, v = .slice a m c) ∨ (F y = false ∧ c8 (itm M (nx + (j : Int))) = [.int .i64 (y : Int), .bool true, .int .i64 0, .int .i64 0, .int .i64 0, .int .i64 0, .bool false, .slice none 0 0]))
  row : ∀ j, j < K → ∀ k, k < 8 → wq.cell? ⟨g, j * 8 + k, none⟩ = (c8 (itm M (nx + (j : Int))))[k]?
theorem ISt.below {w wq wy : World} {b mb ga : Nat} {wt now nx : Int} {M : Its} {F : Nat → Bool} {K g : Nat} (h : ISt w wq b mb ga wt now nx M F K g) (hb : Below wq.heap.size wq wy) : ISt w wy b mb ga wt now nx M F K g := by
  refine ⟨h.fin.below hb, h.num, fun j hj k hk => ?_⟩
  have hc := h.row j hj k hk
  obtain ⟨u, hu⟩ : ∃ u, (c8 (itm M (nx + (j : Int))))[k]? = some u := ⟨_, List.getElem?_eq_getElem (by rw [c8_len]; exact hk)⟩
  rw [hu] at hc ⊢
  exact (hb.cell (p := ⟨g, j * 8 + k, none⟩) (World.block_lt_of_cell? wq ⟨g, j * 8 + k, none⟩ hc)).trans hc
theorem rest_has2 {M : Its} {x y : Int} (h : x ≤ y) : has (rest M x) y = has M y := by
  rw [Bool.eq_iff_iff, has_iff, has_iff]
  constructor
  · rintro ⟨i, hi, e⟩; exact ⟨i, (List.mem_filter.1 hi).1, e⟩
  · rintro ⟨i, hi, e⟩; exact ⟨i, List.mem_filter.2 ⟨hi, by simp; omega⟩, e⟩
theorem popped {w wr w1 : World} {b mb ga K : Nat} {wt nw nx now od : Int} {M : Its} {F : Nat → Bool} {av : Option Addr} {cv : Nat} (h : RSt w wr b mb ga wt nw nx M F) (h0 : 0 ≤ nx) (ht : tf nw now = 0) (hO : Od wt now M od) (hK : Stop M od nx K) (hrow : w1.ownsRow wr.heap.size 37 8 (.slice av K cv) K (flat c8 (takes M nx K))) (hOr : OrderAt w1 b mb wt now (nx + (K : Int)) (rest M (nx + (K : Int)))) (ho : Only [b, mb] wr w1) :
    ∃ g, (0 < K → av = some ⟨g, 0, none⟩) ∧ ISt w w1 b mb ga wt now nx M F K g := by
  obtain ⟨l1, l2, l3⟩ := h.lo
  have hB : Below w.heap.size w w1 := below_of h.bel ho l1 l2
  have hA : ArrB w1 ga F := h.arr.only ho (h.arr.off h.ord)
  have hgo : ∀ j, j < K → nx + (j : Int) < 150 := by
    intro j hj
    have := hK.all j hj
    simp only [goes, Bool.or_eq_true, decide_eq_true_eq] at this
    rcases this with hx | hx
    · obtain ⟨i, hi, e⟩ := has_iff.1 hx
      have := h.all i hi
      omega
    · rcases hO.one with e | ⟨i, hi, _, e⟩
      · omega
      · have := h.all i hi; omega
  have hfin : RSt w w1 b mb ga wt now (nx + (K : Int)) (rest M (nx + (K : Int))) F := by
    refine ⟨hB, h.lo, hOr, inv_pop h.inv ht hO hK.all, hA, ?_, fun i hi => h.all i (List.mem_filter.1 hi).1, fun j hj => ?_⟩
    · cases K with
      | zero => simpa using h.top
      | succ K => have := hgo K (by omega); omega
    · rw [rest_has2 hj]
      exact h.rel j (by omega)
  have hnum : ∀ j, j < K → ∃ y : Nat, nx + (j : Int) = (y : Int) ∧ y < 150 ∧ ((F y = true ∧ ∃ t l q st v, (v.oneCell' = true) ∧ c8 (itm M (nx + (j : Int))) = [.int .i64 (y : Int), .bool false, .int .i64 (y : Int), .int .i64 t, .int .i64 l, .int .i64 q, .bool st, v] ∧ ∃ a m c, v = .slice a m c) ∨ (F y = false ∧ c8 (itm M (nx + (j : Int))) = [.int .i64 (y : Int), .bool true, .int .i64 0, .int .i64 0, .int .i64 0, .int .i64 0, .bool false, .slice none 0 0])) := by
    intro j hj
    have hb := hgo j hj
    refine ⟨(nx + (j : Int)).toNat, by omega, by omega, ?_⟩
    have ey : ((nx + (j : Int)).toNat : Int) = nx + (j : Int) := by omega
    rw [h.rel _ (by omega), ey]
    by_cases hh : has M (nx + (j : Int)) = true
    · refine .inl ⟨hh, ?_⟩
      obtain ⟨hm, hn⟩ := itm_has hh
      obtain ⟨_, hg, hs⟩ := h.all _ hm
      obtain ⟨a, m, c, hbv, _⟩ := h.ord.bod _ hm
      refine ⟨(itm M (nx + (j : Int))).p.t, (itm M (nx + (j : Int))).p.l, (itm M (nx + (j : Int))).p.q, (itm M (nx + (j : Int))).p.st, .slice a m c, rfl, ?_, a, m, c, rfl⟩
      unfold c8
      rw [hn, hg, hs, hn, hbv]
    · have hh' : has M (nx + (j : Int)) = false := by simpa using hh
      refine .inr ⟨hh', ?_⟩
      rw [itm_no hh']
      rfl
  by_cases hK0 : 0 < K
  · obtain ⟨g, rfl, hg, hc⟩ := items_cell hrow hK0
    exact ⟨g, fun _ => rfl, hfin, hnum, hc⟩
  · exact ⟨0, fun h => absurd h hK0, hfin, hnum, fun j hj => absurd hj (by omega)⟩
/-- at last nothing is left -/
theorem none_left {wt nw nx od now : Int} {M : Its} {K : Nat} (h : OM.Inv nw nx M) (hn : nw + wt ≤ now) (hO : Od wt now M od) (hK : Stop M od nx K) : rest M (nx + (K : Int)) = [] := by
  unfold rest
  rw [List.filter_eq_nil_iff]
  intro i hi hc
  have hm := h.mem i hi
  have hl : late wt now i = true := by simp [late]; omega
  have h1 := hO.all i hi hl
  have hs := hK.stop
  simp only [goes, Bool.or_eq_false_iff, decide_eq_false_iff_not] at hs
  have h2 := has_no hs.1 i hi
  simp only [decide_eq_true_eq] at hc
  omega
end Go.Proofs.Ytenjemcehhocoae.ORow
