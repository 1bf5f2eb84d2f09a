/-
  What the function Read of package pack returns of bytes that are right, and what it makes; slices of slices. It changes nothing that was there.
-/
import Derived.Test.YtdmajaofjfgccabDoorPackC
namespace Go.Proofs.YtdmajaofjfgccabDoor.Pack
open Go.ChangeShapes Go.WideShapes Go.ChangeAt Go.RowKit Go.Proofs.YtdmajaofjfgccabDoor.PM Go.Proofs.YtdmajaofjfgccabDoor.Mem
set_option linter.unusedVariables false

theorem undBS : Tryd.prog.underlying 22 = some (.slice (Tryd.prog.elem 22)) := by kernel_rfl
theorem elemBS : Tryd.prog.elem 22 = 5 := by kernel_rfl
theorem size5 (w : World) : (sizeOf 5).run Tryd.prog w = .ok 1 w := by
  obtain ⟨i0, hii, hz0, hz1, hz2⟩ := info_parts info5
  simp [sizeOf, typeInfo, hii, hz1]

/-- where a[l:] lies -/
def cutAt (a : Option Addr) (cap l : Nat) : Option Addr := if cap = l then a else a.map (·.add l)
theorem cutAt_none {a : Option Addr} {cap l : Nat} (h : cutAt a cap l = none) : a = none := by
  unfold cutAt at h
  split at h
  · exact h
  · simpa using h
theorem cut_arg {w : World} {a : Option Addr} {len cap l h : Nat} {L : List Nat} (hA : Arg w a len L) (hlh : l ≤ h) (hh : h ≤ len) (hc : len ≤ cap) : Arg w (cutAt a cap l) (h - l) ((L.drop l).take (h - l)) := by
  have hl := hA.2.1
  refine ⟨⟨fun c hc => hA.1.1 c (List.mem_of_mem_drop (List.mem_of_mem_take hc)), fun j hj => ?_⟩, by simp; omega, by have := hA.2.2; omega⟩
  simp only [List.length_take, List.length_drop] at hj
  obtain ⟨b, o, e, hcell⟩ := hA.1.2 (l + j) (by omega)
  subst e
  refine ⟨b, o + l, ?_, ?_⟩
  · unfold cutAt
    rw [if_neg (by omega)]
    simp only [Option.map_some, Option.some.injEq]
    unfold Addr.add; split <;> simp_all
  · rw [Nat.add_assoc, hcell, List.getD_eq_getElem?_getD, List.getD_eq_getElem?_getD, List.getElem?_take_of_lt (by omega), List.getElem?_drop]
theorem cut_plain {a : Option Addr} {cap l : Nat} (hp : ∀ ad, a = some ad → ∃ b o, ad = ⟨b, o, none⟩) : ∀ ad, cutAt a cap l = some ad → ∃ b o, ad = ⟨b, o, none⟩ := by
  intro ad h
  unfold cutAt at h
  split at h
  · exact hp ad h
  · obtain ⟨x, hx, rfl⟩ := Option.map_eq_some_iff.1 h
    obtain ⟨b, o, rfl⟩ := hp x hx
    exact ⟨b, o + l, by unfold Addr.add; split <;> simp_all⟩
/-- a[l:h] -/
theorem cut_lh (a : Option Addr) (len cap l h : Nat) (hlh : l ≤ h) (hh : h ≤ cap) (w : World) :
    (Instr.slice 22 (.slice a len cap) (some (.int .i64 (l : Int))) (some (.int .i64 (h : Int))) none).run Tryd.prog w = .ok (.slice (cutAt a cap l) (h - l) (cap - l)) w := by
  rw [run_slice_lh w 22 a len cap undBS .i64 .i64 l h (by omega) (by omega) (by omega), elemBS, size5]
  simp [Result.andThen, sliced, cutAt]
/-- a[l:] -/
theorem cut_l (a : Option Addr) (len cap l : Nat) (hl : l ≤ len) (w : World) :
    (Instr.slice 22 (.slice a len cap) (some (.int .i64 (l : Int))) none none).run Tryd.prog w = .ok (.slice (cutAt a cap l) (len - l) (cap - l)) w := by
  rw [run_slice_l w 22 a len cap undBS .i64 l (by omega) (by omega), elemBS, size5]
  simp [Result.andThen, sliced, cutAt]
/-- a[:h] -/
theorem cut_h (a : Option Addr) (len cap h : Nat) (hh : h ≤ cap) (w : World) :
    (Instr.slice 22 (.slice a len cap) none (some (.int .i64 (h : Int))) none).run Tryd.prog w = .ok (.slice a h cap) w := by
  rw [run_slice_h w 22 a len cap undBS .i64 h (by omega) (by omega), elemBS, size5]
  simp [Result.andThen, sliced, Addr.add_zero']

/-- a variable of a packet, laid next behind w, and nothing else changed -/
def Keep (w w' : World) : Prop := Below w.heap.size w w' ∧ ∃ cs : Array Value, cs.size = 6 ∧ w'.heap[w.heap.size]? = some (.cells cs 35 (0, 0))
theorem Keep.new (w : World) (cs : Array Value) (h : cs.size = 6) : Keep w (w.alloc (.cells cs 35)) := ⟨(Below.refl _ _).alloc (Nat.le_refl _) _, cs, h, heap_alloc_new w _⟩
theorem Keep.set {w W : World} (h : Keep w W) (k : Nat) (v : Value) : Keep w (W.setCell ⟨w.heap.size, k, none⟩ v) := by
  obtain ⟨hb, cs, hs, hh⟩ := h
  exact ⟨hb.setCell (Nat.le_refl _) v, cs.setIfInBounds k v, by simpa using hs, heap_setCell_same _ _ _ _ _ _ hh⟩
theorem Keep.drew {w W : World} (h : Keep w W) : Keep w W.drew := ⟨h.1.drew, h.2⟩
theorem Keep.size {w W : World} (h : Keep w W) : w.heap.size < W.heap.size := by
  obtain ⟨_, cs, _, hh⟩ := h
  exact lt_of_block hh
theorem Keep.below {w W W' : World} {B : Nat} (h : Keep w W) (hb : Below B W W') (hB : w.heap.size < B) : Keep w W' := by
  obtain ⟨hb0, cs, hs, hh⟩ := h
  exact ⟨hb0.trans (hb.mono (by omega)), cs, hs, (hb.block _ hB).trans hh⟩
/-- it may be written -/
def Open (w : World) (g : Nat) (z0 z1 z2 z3 z4 z5 : Value) : Prop :=
  (w.cell? ⟨g, 0, none⟩ = some z0 ∧ w.cell? ⟨g, 1, none⟩ = some z1 ∧ w.cell? ⟨g, 2, none⟩ = some z2 ∧ w.cell? ⟨g, 3, none⟩ = some z3 ∧ w.cell? ⟨g, 4, none⟩ = some z4 ∧ w.cell? ⟨g, 5, none⟩ = some z5) ∧
  w.frozen? ⟨g, 0, none⟩ = false ∧ w.frozen? ⟨g, 1, none⟩ = false ∧ w.frozen? ⟨g, 2, none⟩ = false ∧ w.frozen? ⟨g, 3, none⟩ = false ∧ w.frozen? ⟨g, 4, none⟩ = false ∧ w.frozen? ⟨g, 5, none⟩ = false
theorem six {cs : Array Value} (h : cs.size = 6) : ∃ z0 z1 z2 z3 z4 z5, cs = #[z0, z1, z2, z3, z4, z5] := by
  obtain ⟨l⟩ := cs
  match l, h with
  | [z0, z1, z2, z3, z4, z5], _ => exact ⟨z0, z1, z2, z3, z4, z5, rfl⟩
theorem Keep.opens {w W : World} (h : Keep w W) : ∃ z0 z1 z2 z3 z4 z5, Open W w.heap.size z0 z1 z2 z3 z4 z5 := by
  obtain ⟨_, cs, hs, hh⟩ := h
  obtain ⟨z0, z1, z2, z3, z4, z5, rfl⟩ := six hs
  exact ⟨z0, z1, z2, z3, z4, z5, by simp [Open, World.cell?, World.frozen?, hh]⟩

theorem Keep.set6 {w W : World} (h : Keep w W) (s t l v : Int) (st : Bool) (bv : Value) :
    Box ((((((W.setCell ⟨w.heap.size, 0, none⟩ (.int .i64 s)).setCell ⟨w.heap.size, 1, none⟩ (.int .i64 t)).setCell ⟨w.heap.size, 2, none⟩ (.int .i64 l)).setCell ⟨w.heap.size, 3, none⟩ (.int .i64 v)).setCell ⟨w.heap.size, 4, none⟩ (.bool st)).setCell ⟨w.heap.size, 5, none⟩ bv) w.heap.size s t l v st bv := by
  obtain ⟨_, cs, hs, hh⟩ := h
  obtain ⟨z0, z1, z2, z3, z4, z5, rfl⟩ := six hs
  have h0 := heap_setCell_same _ _ 0 _ _ (.int .i64 s) hh
  have h1 := heap_setCell_same _ _ 1 _ _ (.int .i64 t) h0
  have h2 := heap_setCell_same _ _ 2 _ _ (.int .i64 l) h1
  have h3 := heap_setCell_same _ _ 3 _ _ (.int .i64 v) h2
  have h4 := heap_setCell_same _ _ 4 _ _ (.bool st) h3
  have h5 := heap_setCell_same _ _ 5 _ _ bv h4
  exact h5
/-- a packet and something else, handed back -/
theorem res_pk {fn : Func} {tmps : Array Value} {w : World} {g i j : Nat} {s t l v : Int} {st : Bool} {a : Option Addr} {n cap : Nat} (hf : fn.results = #[.cell i 35, .tmp j]) (hi : tmps.getD i undef = .pointer (some ⟨g, 0, none⟩)) (hb : Box w g s t l v st (.slice a n cap)) :
    (results fn tmps).run Tryd.prog w = .ok (.tuple #[.agg #[.int .i64 s, .int .i64 t, .int .i64 l, .int .i64 v, .bool st, .slice a n cap], tmps.getD j undef]) w := by
  obtain ⟨c0, c1, c2, c3, c4, c5⟩ := hb.cells
  have hi' : tmps[i]?.getD undef = .pointer (some ⟨g, 0, none⟩) := by simpa using hi
  simp [results, hf, hi', go_sem, c0, c1, c2, c3, c4, c5]
theorem ownsRow_le {w : World} {base base' size n : Nat} {e : TypeId} {v : Value} {xs : List Value} (h : w.ownsRow base e size v n xs) (hb : base' ≤ base) : w.ownsRow base' e size v n xs := by
  refine ⟨h.1, ?_⟩
  rcases h.2 with hl | ⟨g, c, cur, e1, e2, rest⟩
  · exact .inl hl
  · exact .inr ⟨g, c, cur, e1, by omega, rest⟩

set_option maxHeartbeats 4000000 in
set_option maxRecDepth 100000 in
theorem read_good (b o n cap x0 x1 x2 x3 x4 x5 x6 x7 : Nat) (R : List Nat) (w : World) (h : Arg w (some ⟨b, o, none⟩) n (x0 :: x1 :: x2 :: x3 :: x4 :: x5 :: x6 :: x7 :: R)) (hc : n ≤ cap) (hok : (good x0 && decide (x1 ≤ 127)) = true) (hR : R.length ≤ 1000) :
    Calls Tryd.prog 17 #[.slice (some ⟨b, o, none⟩) n cap] w fun e w' => ∃ a' c', e = .returned (.tuple #[.agg #[.int .i64 ((x2 * 256 + x3 : Nat) : Int), .int .i64 ((((x4 * 256 + x5) * 256 + x6) * 256 + x7 : Nat) : Int), .int .i64 ((x0 % 4 : Nat) : Int), .int .i64 (x1 : Int), .bool (decide (160 ≤ x0)), .slice a' R.length c'], .nilIface]) ∧
      w'.ownsRow w.heap.size 5 1 (.slice a' R.length c') R.length (cellsOf R) ∧ Below w.heap.size w w' := by
  have hn : n = R.length + 8 := by have := h.2.1; simp at this; omega
  have hx : ∀ c ∈ x0 :: x1 :: x2 :: x3 :: x4 :: x5 :: x6 :: x7 :: R, c < 256 := h.1.1
  obtain ⟨g0, g1⟩ := Bool.and_eq_true_iff.1 hok
  obtain ⟨m0, m1⟩ := lay_mod g0
  have hq := hok
  rw [lay_eq (hx x0 (by simp))] at hq
  simp only [Bool.and_eq_true, Bool.not_eq_true', decide_eq_true_eq] at hq
  obtain ⟨⟨q1, q2⟩, q3⟩ := hq
  rw [m0] at q2
  have c0 := arg_cell h 0 (by omega)
  have c1 := arg_cell h 1 (by omega)
  have d0 : ∀ O, (w.alloc O).cell? ⟨b, o, none⟩ = some (.int .u8 (x0 : Int)) := fun O => cell_alloc c0 O
  have d1 : ∀ O, (w.alloc O).cell? ⟨b, o + 1, none⟩ = some (.int .u8 (x1 : Int)) := fun O => cell_alloc c1 O
  have e2 : ∀ w, (Instr.slice 22 (.slice (some ⟨b, o, none⟩) n cap) (some (.int .i64 2)) (some (.int .i64 4)) none).run Tryd.prog w = .ok (.slice (some ⟨b, o + 2, none⟩) 2 (cap - 2)) w := fun w => by
    have := cut_lh (some ⟨b, o, none⟩) n cap 2 4 (by omega) (by omega) w
    rw [show cutAt (some ⟨b, o, none⟩) cap 2 = some ⟨b, o + 2, none⟩ by unfold cutAt; rw [if_neg (by omega)]; rfl] at this
    exact this
  have e4 : ∀ w, (Instr.slice 22 (.slice (some ⟨b, o, none⟩) n cap) (some (.int .i64 4)) (some (.int .i64 8)) none).run Tryd.prog w = .ok (.slice (some ⟨b, o + 4, none⟩) 4 (cap - 4)) w := fun w => by
    have := cut_lh (some ⟨b, o, none⟩) n cap 4 8 (by omega) (by omega) w
    rw [show cutAt (some ⟨b, o, none⟩) cap 4 = some ⟨b, o + 4, none⟩ by unfold cutAt; rw [if_neg (by omega)]; rfl] at this
    exact this
  have e8 : ∀ w, (Instr.slice 22 (.slice (some ⟨b, o, none⟩) n cap) (some (.int .i64 8)) none none).run Tryd.prog w = .ok (.slice (cutAt (some ⟨b, o, none⟩) cap 8) (n - 8) (cap - 8)) w := fun w => cut_l (some ⟨b, o, none⟩) n cap 8 (by omega) w
  have hA8 : ∀ W, Below w.heap.size w W → Arg W (cutAt (some ⟨b, o, none⟩) cap 8) (n - 8) R := fun W hb => by
    have := cut_arg (l := 8) (h := n) (h.below hb) (by omega) (Nat.le_refl _) hc
    rw [show (x0 :: x1 :: x2 :: x3 :: x4 :: x5 :: x6 :: x7 :: R).drop 8 = R from rfl, List.take_of_length_le (by omega)] at this
    exact this
  have hA8n : cutAt (some ⟨b, o, none⟩) cap 8 = none → n - 8 = 0 ∧ cap - 8 = 0 := fun h => by have := cutAt_none h; simp at this
  have hK : ∀ W, Keep w W → Below w.heap.size w W := fun W hb => hb.1
  have HN2 : Hid (∀ W, (W.cell? ⟨b, o, none⟩ = some (.int .u8 (x0 : Int)) ∧ W.cell? ⟨b, o + 1, none⟩ = some (.int .u8 (x1 : Int)) ∧ Hid (Keep w W)) → Calls Tryd.prog 32 #[.slice (some ⟨b, o + 2, none⟩) 2 (cap - 2)] W fun e w' => e = .returned (.int .i64 ((x2 * 256 + x3 : Nat) : Int)) ∧ w' = W) := fun W ⟨_, _, hb⟩ =>
    number2_calls b (o + 2) (cap - 2) x2 x3 W (hx _ (by simp)) (hx _ (by simp)) (arg_cell (h.below (hK W hb)) 2 (by omega)) (arg_cell (h.below (hK W hb)) 3 (by omega))
  have HN4 : Hid (∀ W, (W.cell? ⟨b, o, none⟩ = some (.int .u8 (x0 : Int)) ∧ W.cell? ⟨b, o + 1, none⟩ = some (.int .u8 (x1 : Int)) ∧ Hid (Keep w W)) → Calls Tryd.prog 32 #[.slice (some ⟨b, o + 4, none⟩) 4 (cap - 4)] W fun e w' => e = .returned (.int .i64 ((((x4 * 256 + x5) * 256 + x6) * 256 + x7 : Nat) : Int)) ∧ w' = W) := fun W ⟨_, _, hb⟩ =>
    number4_calls b (o + 4) (cap - 4) x4 x5 x6 x7 W (hx _ (by simp)) (hx _ (by simp)) (hx _ (by simp)) (hx _ (by simp)) (arg_cell (h.below (hK W hb)) 4 (by omega)) (arg_cell (h.below (hK W hb)) 5 (by omega)) (arg_cell (h.below (hK W hb)) 6 (by omega)) (arg_cell (h.below (hK W hb)) 7 (by omega))
  have HF : Hid (∀ W, (W.cell? ⟨b, o, none⟩ = some (.int .u8 (x0 : Int)) ∧ W.cell? ⟨b, o + 1, none⟩ = some (.int .u8 (x1 : Int)) ∧ Hid (Keep w W)) → Calls Tryd.prog 33 #[.slice (cutAt (some ⟨b, o, none⟩) cap 8) (n - 8) (cap - 8)] W fun e w' => ∃ a' c' z0 z1 z2 z3 z4 z5, e = .returned (.slice a' R.length c') ∧ Open w' w.heap.size z0 z1 z2 z3 z4 z5 ∧ Hid (w'.ownsRow (w.heap.size + 1) 5 1 (.slice a' R.length c') R.length (cellsOf R)) ∧
      (w'.cell? ⟨b, o, none⟩ = some (.int .u8 (x0 : Int)) ∧ w'.cell? ⟨b, o + 1, none⟩ = some (.int .u8 (x1 : Int)) ∧ Hid (Keep w w'))) := fun W ⟨_, _, hb'⟩ => by
    have hb := hb'.out
    clear hb'
    refine (fresh_calls _ _ _ R W (hA8 W (hK W hb)) hA8n (by omega)).mono ?_
    rintro e w' ⟨v', rfl, ho, hb'⟩
    have hs : w.heap.size + 1 ≤ W.heap.size := hb.size
    have hb2 := hb.below hb' hs
    obtain ⟨z0, z1, z2, z3, z4, z5, hop⟩ := hb2.opens
    have ho' : w'.ownsRow W.heap.size 5 1 v' R.length (cellsOf R) := by rw [show n - 8 = R.length by omega] at ho; exact ho
    obtain ⟨a', c', rfl, _⟩ := own_slice ho' (fun c hc => hx c (by simp [hc])) (by omega)
    refine ⟨a', c', z0, z1, z2, z3, z4, z5, rfl, hop, ?_, arg_cell (h.below (hK w' hb2)) 0 (by omega), arg_cell (h.below (hK w' hb2)) 1 (by omega), hb2⟩
    exact ownsRow_le ho' (by omega)
  have HS1 : ∀ W k v, (W.cell? ⟨b, o, none⟩ = some (.int .u8 (x0 : Int)) ∧ W.cell? ⟨b, o + 1, none⟩ = some (.int .u8 (x1 : Int)) ∧ Hid (Keep w W)) → ((W.setCell ⟨w.heap.size, k, none⟩ v).cell? ⟨b, o, none⟩ = some (.int .u8 (x0 : Int)) ∧ (W.setCell ⟨w.heap.size, k, none⟩ v).cell? ⟨b, o + 1, none⟩ = some (.int .u8 (x1 : Int)) ∧ Hid (Keep w (W.setCell ⟨w.heap.size, k, none⟩ v))) := fun W k v ⟨h0, h1, h2⟩ =>
    have hbw : b ≠ w.heap.size := by have := World.block_lt_of_cell? w ⟨b, o + 0, none⟩ c0; simp at this; omega
    ⟨(World.cell?_of_block (Below.heap_setCell W ⟨w.heap.size, k, none⟩ v b hbw)).trans h0, (World.cell?_of_block (Below.heap_setCell W ⟨w.heap.size, k, none⟩ v b hbw)).trans h1, h2.out.set k v⟩
  have HS : Hid (∀ W v0 v1 v2 v3 v4 v5, (W.cell? ⟨b, o, none⟩ = some (.int .u8 (x0 : Int)) ∧ W.cell? ⟨b, o + 1, none⟩ = some (.int .u8 (x1 : Int)) ∧ Hid (Keep w W)) → (((((((W.setCell ⟨w.heap.size, 0, none⟩ v0).setCell ⟨w.heap.size, 1, none⟩ v1).setCell ⟨w.heap.size, 2, none⟩ v2).setCell ⟨w.heap.size, 3, none⟩ v3).setCell ⟨w.heap.size, 4, none⟩ v4).setCell ⟨w.heap.size, 5, none⟩ v5).cell? ⟨b, o, none⟩ = some (.int .u8 (x0 : Int)) ∧ ((((((W.setCell ⟨w.heap.size, 0, none⟩ v0).setCell ⟨w.heap.size, 1, none⟩ v1).setCell ⟨w.heap.size, 2, none⟩ v2).setCell ⟨w.heap.size, 3, none⟩ v3).setCell ⟨w.heap.size, 4, none⟩ v4).setCell ⟨w.heap.size, 5, none⟩ v5).cell? ⟨b, o + 1, none⟩ = some (.int .u8 (x1 : Int)) ∧ Hid (Keep w ((((((W.setCell ⟨w.heap.size, 0, none⟩ v0).setCell ⟨w.heap.size, 1, none⟩ v1).setCell ⟨w.heap.size, 2, none⟩ v2).setCell ⟨w.heap.size, 3, none⟩ v3).setCell ⟨w.heap.size, 4, none⟩ v4).setCell ⟨w.heap.size, 5, none⟩ v5)))) := fun W v0 v1 v2 v3 v4 v5 h => HS1 _ _ _ (HS1 _ _ _ (HS1 _ _ _ (HS1 _ _ _ (HS1 _ _ _ (HS1 _ _ _ h)))))
  have hw1 : IntKind.i64.wrap (x1 : Int) = (x1 : Int) := i64_wrap (by omega) (by have := hx x1 (by simp); omega)
  have hst : (bits .and .u8 (x0 : Int) 32 != 0) = decide (160 ≤ x0) := by rw [bne, m1, Bool.not_not]
  clear HS1
  have n1 : (1 : Int) < (n : Int) := by omega
  have n0 : (0 : Int) < (n : Int) := by omega
  have n8 : decide ((n : Int) < 8) = false := by simp; omega
  have q4 : decide ((127 : Int) < (x1 : Int)) = false := by simp; omega
  have hx0 : x0 < 256 := hx _ (by simp)
  have hx1 : x1 < 256 := hx _ (by simp)
  have n9 : n ≤ 1008 := by omega
  have n10 : 0 < n := by omega
  have n7 : 8 ≤ n := by omega
  clear c0 c1 hA8 hA8n hK hok q3 h hx g0 g1 hn hR
  generalize ((x2 * 256 + x3 : Nat) : Int) = SE at *
  generalize ((((x4 * 256 + x5) * 256 + x6) * 256 + x7 : Nat) : Int) = TI at *
  generalize ((x0 % 4 : Nat) : Int) = LA at *
  generalize decide (160 ≤ x0) = ST at *
  generalize cutAt (some ⟨b, o, none⟩) cap 8 = a8 at *
  generalize cap - 2 = k2 at *
  generalize cap - 4 = k4 at *
  go_enter Tryd.func17, Tryd.ntmps17
  go_wp2_with fail
  have hS0 : ((w.alloc (.cells #[.int .i64 0, .int .i64 0, .int .i64 0, .int .i64 0, .bool false, .slice none 0 0] 35)).drew.cell? ⟨b, o, none⟩ = some (.int .u8 (x0 : Int)) ∧ (w.alloc (.cells #[.int .i64 0, .int .i64 0, .int .i64 0, .int .i64 0, .bool false, .slice none 0 0] 35)).drew.cell? ⟨b, o + 1, none⟩ = some (.int .u8 (x1 : Int)) ∧ Hid (Keep w (w.alloc (.cells #[.int .i64 0, .int .i64 0, .int .i64 0, .int .i64 0, .bool false, .slice none 0 0] 35)).drew)) := ⟨d0 (.cells #[.int .i64 0, .int .i64 0, .int .i64 0, .int .i64 0, .bool false, .slice none 0 0] 35), d1 (.cells #[.int .i64 0, .int .i64 0, .int .i64 0, .int .i64 0, .bool false, .slice none 0 0] 35), (Keep.new w _ rfl).drew⟩
  go_region_held3 (fun w' => (w'.cell? ⟨b, o, none⟩ = some (.int .u8 (x0 : Int)) ∧ w'.cell? ⟨b, o + 1, none⟩ = some (.int .u8 (x1 : Int)) ∧ Hid (Keep w w'))) (first | with_reducible assumption | exact HS.out _ _ _ _ _ _ _ (by with_reducible assumption))
    (first
      | (go_at_call_of 32 k2; refine (HN2.out _ ?_).mono ?_; assumption; rintro e w' ⟨rfl, rfl⟩)
      | (go_at_call_of 32 k4; refine (HN4.out _ ?_).mono ?_; assumption; rintro e w' ⟨rfl, rfl⟩)
      | (go_at_call 33; refine (HF.out _ ?_).mono ?_; assumption; rintro e w' ⟨a6, c6, z0, z1, z2, z3, z4, z5, rfl, ⟨⟨k0, k1, k2, k3, k4, k5⟩, f0, f1, f2, f3, f4, f5⟩, ho, hS⟩))
  go_wp2_with fail
  refine bodyPost_ret (res_pk (g := w.heap.size) rfl rfl (hS.2.2.out.set6 SE TI LA x1 ST (.slice a6 R.length c6))) rfl ?_
  refine ⟨a6, c6, rfl, ?_, ?_⟩
  · exact ownsRow_le (ownsRow_setCell_below (ownsRow_setCell_below (ownsRow_setCell_below (ownsRow_setCell_below (ownsRow_setCell_below (ownsRow_setCell_below ho.out (Nat.lt_succ_self _) _) (Nat.lt_succ_self _) _) (Nat.lt_succ_self _) _) (Nat.lt_succ_self _) _) (Nat.lt_succ_self _) _) (Nat.lt_succ_self _) _) (by omega)
  · exact (((((hS.2.2.out.set 0 _).set 1 _).set 2 _).set 3 _).set 4 _).set 5 _ |>.1
end Go.Proofs.YtdmajaofjfgccabDoor.Pack
