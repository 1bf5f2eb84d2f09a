/-
  PackR, PackW, PackC in one text.
-/
import Derived.Test.YtijfocggdjjnjaiGreatDoorMathAll
import Derived.Test.YtijfocggdjjnjaiGreatDoorMem
import Derived.Test.YtijfocggdjjnjaiGreatDoorRows
import Derived.WalkKit
import Derived.ProofKit
import Derived.OpenShut
import Derived.ChangeOld
import Derived.Below
import Derived.Deep.QuietTactic
import Derived.BigQuiet
import Derived.Laws.AppendOwnNone
import Derived.WalkSmall
import Derived.WalkSpells
import Derived.LoopTactic
import Derived.Laws.BitsAllLaws
import Derived.Deep.Cut
import Derived.Deep.RegionHeld3

/-
  What the functions Read, fresh and number of package pack return, whatever bytes they are given, and what they make. They change nothing that was there.
-/
namespace Go.Proofs.YtijfocggdjjnjaiGreatDoor.Pack
open Go.ChangeShapes Go.WideShapes Go.ChangeAt Go.RowKit Go.Proofs.YtijfocggdjjnjaiGreatDoor.PM Go.Proofs.YtijfocggdjjnjaiGreatDoor.Mem
set_option linter.unusedVariables false

theorem info5 : (Tryz.prog.info? 5).map (fun i => (i.zero, i.size, i.bytes)) = some (some (.int .u8 0), 1, 1) := by kernel_rfl
/-- what is told as the error of number e -/
def errv (e : Nat) : Value := if e = 0 then .nilIface else .iface 58 (.int .i64 (e : Int))

/-- fresh bytes: the same, in memory of the call's own -/
theorem fresh_calls (a : Option Addr) (n cap : Nat) (L : List Nat) (w : World) (h : Arg w a n L) (hn : a = none → n = 0 ∧ cap = 0) (hr : n ≤ 1000000) :
    Calls Tryz.prog 57 #[.slice a n cap] w fun e w' => ∃ v', e = .returned v' ∧ w'.ownsRow w.heap.size 5 1 v' n (cellsOf L) ∧ Below w.heap.size w w' := by
  obtain ⟨i0, hii, hz0, hz1, hz2⟩ := info_parts info5
  have HA := hidden h
  have HN := hidden hn
  clear h hn
  go_enter Tryz.func57, Tryz.ntmps57
  go_wp2_with (at_builtin; refine append_any rfl _ _ 29 rfl w.heap.size 5 i0 (.int .u8 0) 1 1 Tryz.underlying29 hii hz0 hz1 hz2 rfl (by decide) _ 0 [] rfl (World.ownsRow_nil _ _ _ _) a n cap (cellsOf L) rfl ?al HN.out ?ac (cells_one L) ?b1 ?b2 ?b3 ?next)
  case al => rw [cellsOf_len, HA.out.2.1]; omega
  case ac => exact bys_cells HA.out.1
  case b1 => unfold maxLen; omega
  case b2 => omega
  case b3 => exact Nat.le_refl _
  case next =>
    intro v1 w1 hown hgrow
    have HB1 : Hid (Below w.heap.size w w1) := (Below.refl _ _).grown hgrow (Nat.le_refl _) (by simp [Value.ownBlock])
    have HO1 : Hid (w1.ownsRow w.heap.size 5 1 v1 n (cellsOf L)) := hown
    clear hown hgrow
    go_wp2_with fail
    go_ret
    exact ⟨v1, rfl, HO1.out, HB1.out⟩

theorem ret_int {k : IntKind} {a b : Int} (h : a = b) : Ending.returned (.int k a) = .returned (.int k b) := by rw [h]
theorem i64_wrap {n : Int} (h0 : 0 ≤ n) (h1 : n < 9223372036854775808) : IntKind.i64.wrap n = n := by
  simp [IntKind.wrap, IntKind.bits, IntKind.signed]; omega
theorem i64_or_nat (a b : Nat) (ha : a < 9223372036854775808) (hb : b < 9223372036854775808) : bits .or .i64 (a : Int) (b : Int) = ((a ||| b : Nat) : Int) := by
  have hx : a ||| b < 2 ^ 63 := Nat.or_lt_two_pow (by omega) (by omega)
  show IntKind.i64.wrap ((BitVec.ofInt 64 (a : Int) ||| BitVec.ofInt 64 (b : Int)).toNat : Int) = _
  rw [BitVec.toNat_or, ofInt_u64 a (by omega), ofInt_u64 b (by omega)]
  exact i64_wrap (by omega) (by omega)
theorem i64_and_nat (a b : Nat) (ha : a < 9223372036854775808) (hb : b < 9223372036854775808) : bits .and .i64 (a : Int) (b : Int) = ((a &&& b : Nat) : Int) := by
  have hx : a &&& b < 2 ^ 63 := Nat.and_lt_two_pow _ (by omega)
  show IntKind.i64.wrap ((BitVec.ofInt 64 (a : Int) &&& BitVec.ofInt 64 (b : Int)).toNat : Int) = _
  rw [BitVec.toNat_and, ofInt_u64 a (by omega), ofInt_u64 b (by omega)]
  exact i64_wrap (by omega) (by omega)
/-- one byte more, the high one first -/
theorem on_eq (n c : Nat) (hn : n < 16777216) (hc : c < 256) : bits .or .i64 (wrap64 ((n : Int) * 256)) (c : Int) = ((n * 256 + c : Nat) : Int) := by
  have e : wrap64 ((n : Int) * 256) = ((n * 256 : Nat) : Int) := by unfold wrap64; omega
  rw [e, i64_or_nat _ _ (by omega) (by omega), nat_join 8 _ c (by omega) (by omega)]
theorem on_zero (c : Nat) (hc : c < 256) : bits .or .i64 0 (c : Int) = (c : Int) := by
  have := i64_or_nat 0 c (by omega) (by omega)
  rw [Nat.zero_or] at this
  exact this

set_option maxHeartbeats 1000000 in
set_option maxRecDepth 100000 in
theorem number2_calls (b o cap : Nat) (t0 t1 : Nat) (w : World) (h0 : t0 < 256) (h1 : t1 < 256) (c0 : w.cell? ⟨b, o, none⟩ = some (.int .u8 (t0 : Int))) (c1 : w.cell? ⟨b, o + 1, none⟩ = some (.int .u8 (t1 : Int))) :
    Calls Tryz.prog 56 #[.slice (some ⟨b, o, none⟩) 2 cap] w fun e w' => e = .returned (.int .i64 ((t0 * 256 + t1 : Nat) : Int)) ∧ w' = w := by
  go_enter Tryz.func56, Tryz.ntmps56
  go_wp2_with fail
  refine wp_loop_rounds 3 ?_
  rw [rounds_succ]
  go_wp2_with fail
  rw [rounds_succ]
  go_wp2_with fail
  rw [rounds_succ]
  go_wp2_with fail
  go_ret
  exact ⟨ret_int (by rw [on_zero t0 h0, on_eq t0 t1 (by omega) h1]), rfl⟩

set_option maxHeartbeats 1000000 in
set_option maxRecDepth 100000 in
theorem number4_calls (b o cap : Nat) (t0 t1 t2 t3 : Nat) (w : World) (h0 : t0 < 256) (h1 : t1 < 256) (h2 : t2 < 256) (h3 : t3 < 256) (c0 : w.cell? ⟨b, o, none⟩ = some (.int .u8 (t0 : Int))) (c1 : w.cell? ⟨b, o + 1, none⟩ = some (.int .u8 (t1 : Int)))
    (c2 : w.cell? ⟨b, o + 2, none⟩ = some (.int .u8 (t2 : Int))) (c3 : w.cell? ⟨b, o + 3, none⟩ = some (.int .u8 (t3 : Int))) :
    Calls Tryz.prog 56 #[.slice (some ⟨b, o, none⟩) 4 cap] w fun e w' => e = .returned (.int .i64 ((((t0 * 256 + t1) * 256 + t2) * 256 + t3 : Nat) : Int)) ∧ w' = w := by
  go_enter Tryz.func56, Tryz.ntmps56
  go_wp2_with fail
  refine wp_loop_rounds 5 ?_
  rw [rounds_succ]
  go_wp2_with fail
  rw [rounds_succ]
  go_wp2_with fail
  rw [rounds_succ]
  go_wp2_with fail
  rw [rounds_succ]
  go_wp2_with fail
  rw [rounds_succ]
  go_wp2_with fail
  go_ret
  exact ⟨ret_int (by rw [on_zero t0 h0, on_eq t0 t1 (by omega) h1, on_eq _ t2 (by omega) h2, on_eq _ t3 (by omega) h3]), rfl⟩

/-- the layer, and Start, of a first byte -/
theorem lay_eq {x : Nat} (hx : x < 256) : good x = (!(bits .and .u8 (x : Int) 128 == 0) && !decide (3 < bits .andNot .i64 (x : Int) 160)) := by
  have : ∀ x : Fin 256, good x.val = (!(bits .and .u8 (x.val : Int) 128 == 0) && !decide (3 < bits .andNot .i64 (x.val : Int) 160)) := by decide +kernel
  exact this ⟨x, hx⟩
theorem lay_mod {x : Nat} (h : good x = true) : bits .andNot .i64 (x : Int) 160 = ((x % 4 : Nat) : Int) ∧ (bits .and .u8 (x : Int) 32 == 0) = !decide (160 ≤ x) := by
  have hx := (good_back h).2
  have : ∀ x : Fin 256, good x.val = true → bits .andNot .i64 (x.val : Int) 160 = ((x.val % 4 : Nat) : Int) ∧ (bits .and .u8 (x.val : Int) 32 == 0) = !decide (160 ≤ x.val) := by decide +kernel
  exact this ⟨x, hx⟩ h
theorem first_or {l : Nat} (h : l ≤ 3) : bits .or .i64 128 (l : Int) = ((128 + l : Nat) : Int) ∧ bits .or .i64 ((128 + l : Nat) : Int) 32 = ((128 + l + 32 : Nat) : Int) := by
  have : ∀ l : Fin 4, bits .or .i64 128 (l.val : Int) = ((128 + l.val : Nat) : Int) ∧ bits .or .i64 ((128 + l.val : Nat) : Int) 32 = ((128 + l.val + 32 : Nat) : Int) := by decide +kernel
  exact this ⟨l, by omega⟩
theorem errv_zero : errv 0 = .nilIface := rfl
theorem errv_pos {e : Nat} (h : e ≠ 0) : errv e = .iface 58 (.int .i64 (e : Int)) := by unfold errv; rw [if_neg h]

/-- block g holds a packet -/
def Box (w : World) (g : Nat) (s t l v : Int) (st : Bool) (bv : Value) : Prop := w.heap[g]? = some (.cells #[.int .i64 s, .int .i64 t, .int .i64 l, .int .i64 v, .bool st, bv] 31 (0, 0))
theorem Box.new (w : World) (s t l v : Int) (st : Bool) (bv : Value) : Box (w.alloc (.cells #[.int .i64 s, .int .i64 t, .int .i64 l, .int .i64 v, .bool st, bv] 31)) w.heap.size s t l v st bv := heap_alloc_new w _
theorem Box.below {w w' : World} {g B : Nat} {s t l v : Int} {st : Bool} {bv : Value} (h : Box w g s t l v st bv) (hb : Below B w w') (hg : g < B) : Box w' g s t l v st bv := (hb.block g hg).trans h
theorem Box.lt {w : World} {g : Nat} {s t l v : Int} {st : Bool} {bv : Value} (h : Box w g s t l v st bv) : g < w.heap.size := lt_of_block h
theorem Box.grown {w w' : World} {g : Nat} {s t l v : Int} {st : Bool} {bv : Value} {row : Option Nat} (h : Box w g s t l v st bv) (hg : w.grownBy w' row) (hr : row ≠ some g) : Box w' g s t l v st bv :=
  (hg.block g h.lt (fun e => hr e.symm)).trans h
theorem Box.alloc {w : World} {g : Nat} {s t l v : Int} {st : Bool} {bv : Value} (h : Box w g s t l v st bv) (o : Obj) : Box (w.alloc o) g s t l v st bv := (Below.heap_alloc _ _ _ h.lt).trans h
theorem Box.cells {w : World} {g : Nat} {s t l v : Int} {st : Bool} {bv : Value} (h : Box w g s t l v st bv) :
    w.cell? ⟨g, 0, none⟩ = some (.int .i64 s) ∧ w.cell? ⟨g, 1, none⟩ = some (.int .i64 t) ∧ w.cell? ⟨g, 2, none⟩ = some (.int .i64 l) ∧ w.cell? ⟨g, 3, none⟩ = some (.int .i64 v) ∧ w.cell? ⟨g, 4, none⟩ = some (.bool st) ∧ w.cell? ⟨g, 5, none⟩ = some bv := by
  simp only [Box] at h
  simp [World.cell?, h]

theorem below_old {w w' : World} {o : Obj} (h : Below (w.alloc o).heap.size (w.alloc o) w') : Below w.heap.size w w' :=
  ((Below.refl _ _).alloc (Nat.le_refl _) o).trans (h.mono (by simp))

theorem own_next {w : World} {base m k : Nat} {v : Value} {L K R : List Nat} (h : w.ownsRow base 5 1 v m (cellsOf L ++ cellsOf K)) (hm : m = k) (hR : L ++ K = R) : w.ownsRow base 5 1 v k (cellsOf R) := by
  rw [← cellsOf_app] at h
  rw [← hm, ← hR]; exact h
theorem own_first {w : World} {base g cap : Nat} {L : List Nat} {m : Nat} (h : w.ownsRow base 5 1 (.slice (some ⟨g, 0, none⟩) m cap) m (cellsOf L)) : w.ownsRow base 5 1 (.slice (some ⟨g, 0, none⟩) m cap) m (cellsOf L) := h
theorem blk2 {x y : Int} {a b : Nat} (hx : x = (a : Int)) (hy : y = (b : Int)) : (#[Value.int .u8 x, .int .u8 y] : Array Value) = (cellsOf [a, b]).toArray := by rw [hx, hy]; rfl
theorem blk4 {x y z u : Int} {a b c d : Nat} (hx : x = (a : Int)) (hy : y = (b : Int)) (hz : z = (c : Int)) (hu : u = (d : Int)) : (#[Value.int .u8 x, .int .u8 y, .int .u8 z, .int .u8 u] : Array Value) = (cellsOf [a, b, c, d]).toArray := by rw [hx, hy, hz, hu]; rfl

/-- bytes that are there lie somewhere -/
theorem arg_at {w : World} {a : Option Addr} {n : Nat} {L : List Nat} (h : Arg w a n L) (hn : 0 < n) : ∃ b o, a = some ⟨b, o, none⟩ := by
  obtain ⟨b, o, e, _⟩ := h.1.2 0 (by have := h.2.1; omega)
  exact ⟨b, o, e⟩
theorem arg_cell {w : World} {b o n : Nat} {L : List Nat} (h : Arg w (some ⟨b, o, none⟩) n L) (j : Nat) (hj : j < n) : w.cell? ⟨b, o + j, none⟩ = some (.int .u8 (L.getD j 0 : Nat)) := by
  obtain ⟨b', o', e, hc⟩ := h.1.2 j (by have := h.2.1; omega)
  simp only [Option.some.injEq, Addr.mk.injEq, and_true] at e
  obtain ⟨rfl, rfl⟩ := e
  exact hc

set_option maxHeartbeats 1000000 in
set_option maxRecDepth 100000 in
theorem read_short (a : Option Addr) (n cap : Nat) (w : World) (h : n < 8) :
    Calls Tryz.prog 33 #[.slice a n cap] w fun e w' => e = .returned (.tuple #[.agg #[.int .i64 0, .int .i64 0, .int .i64 0, .int .i64 0, .bool false, .slice none 0 0], .iface 58 (.int .i64 8)]) ∧ Below w.heap.size w w' := by
  go_enter Tryz.func33, Tryz.ntmps33
  go_wp2_with fail
  refine bodyPost_ret (v := .tuple #[.agg #[.int .i64 0, .int .i64 0, .int .i64 0, .int .i64 0, .bool false, .slice none 0 0], .iface 58 (.int .i64 8)]) (by simp [results, Tryz.results33, go_sem]) rfl ?_
  exact ⟨rfl, (Below.refl _ _).alloc (Nat.le_refl _) _⟩

theorem cell_alloc {w : World} {p : Addr} {v : Value} (h : w.cell? p = some v) (o : Obj) : (w.alloc o).cell? p = some v := (((Below.refl _ _).alloc (Nat.le_refl _) o).cell (World.block_lt_of_cell? w p h)).trans h

set_option maxHeartbeats 1000000 in
set_option maxRecDepth 100000 in
theorem read_syntax (b o n cap x0 x1 : Nat) (w : World) (hn : 8 ≤ n) (hx0 : x0 < 256) (hx1 : x1 < 256) (c0 : w.cell? ⟨b, o, none⟩ = some (.int .u8 (x0 : Int))) (c1 : w.cell? ⟨b, o + 1, none⟩ = some (.int .u8 (x1 : Int))) (hbad : (good x0 && decide (x1 ≤ 127)) = false) :
    Calls Tryz.prog 33 #[.slice (some ⟨b, o, none⟩) n cap] w fun e w' => e = .returned (.tuple #[.agg #[.int .i64 0, .int .i64 0, .int .i64 0, .int .i64 0, .bool false, .slice none 0 0], .iface 58 (.int .i64 2)]) ∧ Below w.heap.size w w' := by
  rw [lay_eq hx0] at hbad
  have d0 := fun O => cell_alloc c0 O
  have d1 := fun O => cell_alloc c1 O
  have n1 : (1 : Int) < (n : Int) := by omega
  have n0 : (0 : Int) < (n : Int) := by omega
  have n8 : decide ((n : Int) < 8) = false := by simp; omega
  clear c0 c1
  by_cases p1 : bits .and .u8 (x0 : Int) 128 = 0
  · clear hbad
    go_enter Tryz.func33, Tryz.ntmps33
    go_wp2_with fail
    refine bodyPost_ret (v := .tuple #[.agg #[.int .i64 0, .int .i64 0, .int .i64 0, .int .i64 0, .bool false, .slice none 0 0], .iface 58 (.int .i64 2)]) (by simp [results, Tryz.results33, go_sem]) rfl ?_
    exact ⟨rfl, (Below.refl _ _).alloc (Nat.le_refl _) _⟩
  by_cases p2 : 3 < bits .andNot .i64 (x0 : Int) 160
  · clear hbad
    go_enter Tryz.func33, Tryz.ntmps33
    go_wp2_with fail
    refine bodyPost_ret (v := .tuple #[.agg #[.int .i64 0, .int .i64 0, .int .i64 0, .int .i64 0, .bool false, .slice none 0 0], .iface 58 (.int .i64 2)]) (by simp [results, Tryz.results33, go_sem]) rfl ?_
    exact ⟨rfl, (Below.refl _ _).alloc (Nat.le_refl _) _⟩
  have p3 : (127 : Int) < (x1 : Int) := by
    simp [p1, p2] at hbad
    omega
  clear hbad
  have q1 : (bits .and .u8 (x0 : Int) 128 == 0) = false := by simpa using p1
  have q2 : decide (3 < bits .andNot .i64 (x0 : Int) 160) = false := by simpa using p2
  go_enter Tryz.func33, Tryz.ntmps33
  go_wp2_with fail
  refine bodyPost_ret (v := .tuple #[.agg #[.int .i64 0, .int .i64 0, .int .i64 0, .int .i64 0, .bool false, .slice none 0 0], .iface 58 (.int .i64 2)]) (by simp [results, Tryz.results33, go_sem]) rfl ?_
  exact ⟨rfl, (Below.refl _ _).alloc (Nat.le_refl _) _⟩

set_option maxHeartbeats 1000000 in
set_option maxRecDepth 100000 in
theorem read_full (b o n cap x0 x1 : Nat) (w : World) (hn : 1008 < n) (hx0 : x0 < 256) (hx1 : x1 < 256) (c0 : w.cell? ⟨b, o, none⟩ = some (.int .u8 (x0 : Int))) (c1 : w.cell? ⟨b, o + 1, none⟩ = some (.int .u8 (x1 : Int))) (hok : (good x0 && decide (x1 ≤ 127)) = true) (hmax : n ≤ 9223372036854775807) :
    Calls Tryz.prog 33 #[.slice (some ⟨b, o, none⟩) n cap] w fun e w' => e = .returned (.tuple #[.agg #[.int .i64 0, .int .i64 0, .int .i64 0, .int .i64 0, .bool false, .slice none 0 0], .iface 58 (.int .i64 4)]) ∧ Below w.heap.size w w' := by
  rw [lay_eq hx0] at hok
  simp only [Bool.and_eq_true, Bool.not_eq_true', decide_eq_true_eq] at hok
  obtain ⟨⟨q1, q2⟩, q3⟩ := hok
  have d0 := fun O => cell_alloc c0 O
  have d1 := fun O => cell_alloc c1 O
  have n1 : (1 : Int) < (n : Int) := by omega
  have n0 : (0 : Int) < (n : Int) := by omega
  have n8 : decide ((n : Int) < 8) = false := by simp; omega
  have q4 : decide ((127 : Int) < (x1 : Int)) = false := by simp; omega
  clear c0 c1
  go_enter Tryz.func33, Tryz.ntmps33
  go_wp2_with fail
  refine bodyPost_ret (v := .tuple #[.agg #[.int .i64 0, .int .i64 0, .int .i64 0, .int .i64 0, .bool false, .slice none 0 0], .iface 58 (.int .i64 4)]) (by simp [results, Tryz.results33, go_sem]) rfl ?_
  exact ⟨rfl, (Below.refl _ _).alloc (Nat.le_refl _) _⟩
theorem undBS : Tryz.prog.underlying 29 = some (.slice (Tryz.prog.elem 29)) := by kernel_rfl
theorem elemBS : Tryz.prog.elem 29 = 5 := by kernel_rfl
theorem size5 (w : World) : (sizeOf 5).run Tryz.prog w = .ok 1 w := by
  obtain ⟨i0, hii, hz0, hz1, hz2⟩ := info_parts info5
  simp [sizeOf, typeInfo, hii, hz1]

/-- where a[l:] lies -/
def cutAt (a : Option Addr) (cap l : Nat) : Option Addr := if cap = l then a else a.map (·.add l)
theorem cutAt_none {a : Option Addr} {cap l : Nat} (h : cutAt a cap l = none) : a = none := by
  unfold cutAt at h
  split at h
  · exact h
  · simpa using h
theorem cut_arg {w : World} {a : Option Addr} {len cap l h : Nat} {L : List Nat} (hA : Arg w a len L) (hlh : l ≤ h) (hh : h ≤ len) (hc : len ≤ cap) : Arg w (cutAt a cap l) (h - l) ((L.drop l).take (h - l)) := by
  have hl := hA.2.1
  refine ⟨⟨fun c hc => hA.1.1 c (List.mem_of_mem_drop (List.mem_of_mem_take hc)), fun j hj => ?_⟩, by simp; omega, by have := hA.2.2; omega⟩
  simp only [List.length_take, List.length_drop] at hj
  obtain ⟨b, o, e, hcell⟩ := hA.1.2 (l + j) (by omega)
  subst e
  refine ⟨b, o + l, ?_, ?_⟩
  · unfold cutAt
    rw [if_neg (by omega)]
    simp only [Option.map_some, Option.some.injEq]
    unfold Addr.add; split <;> simp_all
  · rw [Nat.add_assoc, hcell, List.getD_eq_getElem?_getD, List.getD_eq_getElem?_getD, List.getElem?_take_of_lt (by omega), List.getElem?_drop]
theorem cut_plain {a : Option Addr} {cap l : Nat} (hp : ∀ ad, a = some ad → ∃ b o, ad = ⟨b, o, none⟩) : ∀ ad, cutAt a cap l = some ad → ∃ b o, ad = ⟨b, o, none⟩ := by
  intro ad h
  unfold cutAt at h
  split at h
  · exact hp ad h
  · obtain ⟨x, hx, rfl⟩ := Option.map_eq_some_iff.1 h
    obtain ⟨b, o, rfl⟩ := hp x hx
    exact ⟨b, o + l, by unfold Addr.add; split <;> simp_all⟩
/-- a[l:h] -/
theorem cut_lh (a : Option Addr) (len cap l h : Nat) (hlh : l ≤ h) (hh : h ≤ cap) (w : World) :
    (Instr.slice 29 (.slice a len cap) (some (.int .i64 (l : Int))) (some (.int .i64 (h : Int))) none).run Tryz.prog w = .ok (.slice (cutAt a cap l) (h - l) (cap - l)) w := by
  rw [run_slice_lh w 29 a len cap undBS .i64 .i64 l h (by omega) (by omega) (by omega), elemBS, size5]
  simp [Result.andThen, sliced, cutAt]
/-- a[l:] -/
theorem cut_l (a : Option Addr) (len cap l : Nat) (hl : l ≤ len) (w : World) :
    (Instr.slice 29 (.slice a len cap) (some (.int .i64 (l : Int))) none none).run Tryz.prog w = .ok (.slice (cutAt a cap l) (len - l) (cap - l)) w := by
  rw [run_slice_l w 29 a len cap undBS .i64 l (by omega) (by omega), elemBS, size5]
  simp [Result.andThen, sliced, cutAt]
/-- a[:h] -/
theorem cut_h (a : Option Addr) (len cap h : Nat) (hh : h ≤ cap) (w : World) :
    (Instr.slice 29 (.slice a len cap) none (some (.int .i64 (h : Int))) none).run Tryz.prog w = .ok (.slice a h cap) w := by
  rw [run_slice_h w 29 a len cap undBS .i64 h (by omega) (by omega), elemBS, size5]
  simp [Result.andThen, sliced, Addr.add_zero']

/-- a variable of a packet, laid next behind w, and nothing else changed -/
def Keep (w w' : World) : Prop := Below w.heap.size w w' ∧ ∃ cs : Array Value, cs.size = 6 ∧ w'.heap[w.heap.size]? = some (.cells cs 31 (0, 0))
theorem Keep.new (w : World) (cs : Array Value) (h : cs.size = 6) : Keep w (w.alloc (.cells cs 31)) := ⟨(Below.refl _ _).alloc (Nat.le_refl _) _, cs, h, heap_alloc_new w _⟩
theorem Keep.set {w W : World} (h : Keep w W) (k : Nat) (v : Value) : Keep w (W.setCell ⟨w.heap.size, k, none⟩ v) := by
  obtain ⟨hb, cs, hs, hh⟩ := h
  exact ⟨hb.setCell (Nat.le_refl _) v, cs.setIfInBounds k v, by simpa using hs, heap_setCell_same _ _ _ _ _ _ hh⟩
theorem Keep.drew {w W : World} (h : Keep w W) : Keep w W.drew := ⟨h.1.drew, h.2⟩
theorem Keep.size {w W : World} (h : Keep w W) : w.heap.size < W.heap.size := by
  obtain ⟨_, cs, _, hh⟩ := h
  exact lt_of_block hh
theorem Keep.below {w W W' : World} {B : Nat} (h : Keep w W) (hb : Below B W W') (hB : w.heap.size < B) : Keep w W' := by
  obtain ⟨hb0, cs, hs, hh⟩ := h
  exact ⟨hb0.trans (hb.mono (by omega)), cs, hs, (hb.block _ hB).trans hh⟩
/-- it may be written -/
def Open (w : World) (g : Nat) (z0 z1 z2 z3 z4 z5 : Value) : Prop :=
  (w.cell? ⟨g, 0, none⟩ = some z0 ∧ w.cell? ⟨g, 1, none⟩ = some z1 ∧ w.cell? ⟨g, 2, none⟩ = some z2 ∧ w.cell? ⟨g, 3, none⟩ = some z3 ∧ w.cell? ⟨g, 4, none⟩ = some z4 ∧ w.cell? ⟨g, 5, none⟩ = some z5) ∧
  w.frozen? ⟨g, 0, none⟩ = false ∧ w.frozen? ⟨g, 1, none⟩ = false ∧ w.frozen? ⟨g, 2, none⟩ = false ∧ w.frozen? ⟨g, 3, none⟩ = false ∧ w.frozen? ⟨g, 4, none⟩ = false ∧ w.frozen? ⟨g, 5, none⟩ = false
theorem six {cs : Array Value} (h : cs.size = 6) : ∃ z0 z1 z2 z3 z4 z5, cs = #[z0, z1, z2, z3, z4, z5] := by
  obtain ⟨l⟩ := cs
  match l, h with
  | [z0, z1, z2, z3, z4, z5], _ => exact ⟨z0, z1, z2, z3, z4, z5, rfl⟩
theorem Keep.opens {w W : World} (h : Keep w W) : ∃ z0 z1 z2 z3 z4 z5, Open W w.heap.size z0 z1 z2 z3 z4 z5 := by
  obtain ⟨_, cs, hs, hh⟩ := h
  obtain ⟨z0, z1, z2, z3, z4, z5, rfl⟩ := six hs
  exact ⟨z0, z1, z2, z3, z4, z5, by simp [Open, World.cell?, World.frozen?, hh]⟩

theorem Keep.set6 {w W : World} (h : Keep w W) (s t l v : Int) (st : Bool) (bv : Value) :
    Box ((((((W.setCell ⟨w.heap.size, 0, none⟩ (.int .i64 s)).setCell ⟨w.heap.size, 1, none⟩ (.int .i64 t)).setCell ⟨w.heap.size, 2, none⟩ (.int .i64 l)).setCell ⟨w.heap.size, 3, none⟩ (.int .i64 v)).setCell ⟨w.heap.size, 4, none⟩ (.bool st)).setCell ⟨w.heap.size, 5, none⟩ bv) w.heap.size s t l v st bv := by
  obtain ⟨_, cs, hs, hh⟩ := h
  obtain ⟨z0, z1, z2, z3, z4, z5, rfl⟩ := six hs
  have h0 := heap_setCell_same _ _ 0 _ _ (.int .i64 s) hh
  have h1 := heap_setCell_same _ _ 1 _ _ (.int .i64 t) h0
  have h2 := heap_setCell_same _ _ 2 _ _ (.int .i64 l) h1
  have h3 := heap_setCell_same _ _ 3 _ _ (.int .i64 v) h2
  have h4 := heap_setCell_same _ _ 4 _ _ (.bool st) h3
  have h5 := heap_setCell_same _ _ 5 _ _ bv h4
  exact h5
/-- a packet and something else, handed back -/
theorem res_pk {fn : Func} {tmps : Array Value} {w : World} {g i j : Nat} {s t l v : Int} {st : Bool} {a : Option Addr} {n cap : Nat} (hf : fn.results = #[.cell i 31, .tmp j]) (hi : tmps.getD i undef = .pointer (some ⟨g, 0, none⟩)) (hb : Box w g s t l v st (.slice a n cap)) :
    (results fn tmps).run Tryz.prog w = .ok (.tuple #[.agg #[.int .i64 s, .int .i64 t, .int .i64 l, .int .i64 v, .bool st, .slice a n cap], tmps.getD j undef]) w := by
  obtain ⟨c0, c1, c2, c3, c4, c5⟩ := hb.cells
  have hi' : tmps[i]?.getD undef = .pointer (some ⟨g, 0, none⟩) := by simpa using hi
  simp [results, hf, hi', go_sem, c0, c1, c2, c3, c4, c5]
theorem ownsRow_le {w : World} {base base' size n : Nat} {e : TypeId} {v : Value} {xs : List Value} (h : w.ownsRow base e size v n xs) (hb : base' ≤ base) : w.ownsRow base' e size v n xs := by
  refine ⟨h.1, ?_⟩
  rcases h.2 with hl | ⟨g, c, cur, e1, e2, rest⟩
  · exact .inl hl
  · exact .inr ⟨g, c, cur, e1, by omega, rest⟩

set_option maxHeartbeats 4000000 in
set_option maxRecDepth 100000 in
theorem read_good (b o n cap x0 x1 x2 x3 x4 x5 x6 x7 : Nat) (R : List Nat) (w : World) (h : Arg w (some ⟨b, o, none⟩) n (x0 :: x1 :: x2 :: x3 :: x4 :: x5 :: x6 :: x7 :: R)) (hc : n ≤ cap) (hok : (good x0 && decide (x1 ≤ 127)) = true) (hR : R.length ≤ 1000) :
    Calls Tryz.prog 33 #[.slice (some ⟨b, o, none⟩) n cap] w fun e w' => ∃ a' c', e = .returned (.tuple #[.agg #[.int .i64 ((x2 * 256 + x3 : Nat) : Int), .int .i64 ((((x4 * 256 + x5) * 256 + x6) * 256 + x7 : Nat) : Int), .int .i64 ((x0 % 4 : Nat) : Int), .int .i64 (x1 : Int), .bool (decide (160 ≤ x0)), .slice a' R.length c'], .nilIface]) ∧
      w'.ownsRow w.heap.size 5 1 (.slice a' R.length c') R.length (cellsOf R) ∧ Below w.heap.size w w' := by
  have hn : n = R.length + 8 := by have := h.2.1; simp at this; omega
  have hx : ∀ c ∈ x0 :: x1 :: x2 :: x3 :: x4 :: x5 :: x6 :: x7 :: R, c < 256 := h.1.1
  obtain ⟨g0, g1⟩ := Bool.and_eq_true_iff.1 hok
  obtain ⟨m0, m1⟩ := lay_mod g0
  have hq := hok
  rw [lay_eq (hx x0 (by simp))] at hq
  simp only [Bool.and_eq_true, Bool.not_eq_true', decide_eq_true_eq] at hq
  obtain ⟨⟨q1, q2⟩, q3⟩ := hq
  rw [m0] at q2
  have c0 := arg_cell h 0 (by omega)
  have c1 := arg_cell h 1 (by omega)
  have d0 : ∀ O, (w.alloc O).cell? ⟨b, o, none⟩ = some (.int .u8 (x0 : Int)) := fun O => cell_alloc c0 O
  have d1 : ∀ O, (w.alloc O).cell? ⟨b, o + 1, none⟩ = some (.int .u8 (x1 : Int)) := fun O => cell_alloc c1 O
  have e2 : ∀ w, (Instr.slice 29 (.slice (some ⟨b, o, none⟩) n cap) (some (.int .i64 2)) (some (.int .i64 4)) none).run Tryz.prog w = .ok (.slice (some ⟨b, o + 2, none⟩) 2 (cap - 2)) w := fun w => by
    have := cut_lh (some ⟨b, o, none⟩) n cap 2 4 (by omega) (by omega) w
    rw [show cutAt (some ⟨b, o, none⟩) cap 2 = some ⟨b, o + 2, none⟩ by unfold cutAt; rw [if_neg (by omega)]; rfl] at this
    exact this
  have e4 : ∀ w, (Instr.slice 29 (.slice (some ⟨b, o, none⟩) n cap) (some (.int .i64 4)) (some (.int .i64 8)) none).run Tryz.prog w = .ok (.slice (some ⟨b, o + 4, none⟩) 4 (cap - 4)) w := fun w => by
    have := cut_lh (some ⟨b, o, none⟩) n cap 4 8 (by omega) (by omega) w
    rw [show cutAt (some ⟨b, o, none⟩) cap 4 = some ⟨b, o + 4, none⟩ by unfold cutAt; rw [if_neg (by omega)]; rfl] at this
    exact this
  have e8 : ∀ w, (Instr.slice 29 (.slice (some ⟨b, o, none⟩) n cap) (some (.int .i64 8)) none none).run Tryz.prog w = .ok (.slice (cutAt (some ⟨b, o, none⟩) cap 8) (n - 8) (cap - 8)) w := fun w => cut_l (some ⟨b, o, none⟩) n cap 8 (by omega) w
  have hA8 : ∀ W, Below w.heap.size w W → Arg W (cutAt (some ⟨b, o, none⟩) cap 8) (n - 8) R := fun W hb => by
    have := cut_arg (l := 8) (h := n) (h.below hb) (by omega) (Nat.le_refl _) hc
    rw [show (x0 :: x1 :: x2 :: x3 :: x4 :: x5 :: x6 :: x7 :: R).drop 8 = R from rfl, List.take_of_length_le (by omega)] at this
    exact this
  have hA8n : cutAt (some ⟨b, o, none⟩) cap 8 = none → n - 8 = 0 ∧ cap - 8 = 0 := fun h => by have := cutAt_none h; simp at this
  have hK : ∀ W, Keep w W → Below w.heap.size w W := fun W hb => hb.1
  have HN2 : Hid (∀ W, (W.cell? ⟨b, o, none⟩ = some (.int .u8 (x0 : Int)) ∧ W.cell? ⟨b, o + 1, none⟩ = some (.int .u8 (x1 : Int)) ∧ Hid (Keep w W)) → Calls Tryz.prog 56 #[.slice (some ⟨b, o + 2, none⟩) 2 (cap - 2)] W fun e w' => e = .returned (.int .i64 ((x2 * 256 + x3 : Nat) : Int)) ∧ w' = W) := fun W ⟨_, _, hb⟩ =>
    number2_calls b (o + 2) (cap - 2) x2 x3 W (hx _ (by simp)) (hx _ (by simp)) (arg_cell (h.below (hK W hb)) 2 (by omega)) (arg_cell (h.below (hK W hb)) 3 (by omega))
  have HN4 : Hid (∀ W, (W.cell? ⟨b, o, none⟩ = some (.int .u8 (x0 : Int)) ∧ W.cell? ⟨b, o + 1, none⟩ = some (.int .u8 (x1 : Int)) ∧ Hid (Keep w W)) → Calls Tryz.prog 56 #[.slice (some ⟨b, o + 4, none⟩) 4 (cap - 4)] W fun e w' => e = .returned (.int .i64 ((((x4 * 256 + x5) * 256 + x6) * 256 + x7 : Nat) : Int)) ∧ w' = W) := fun W ⟨_, _, hb⟩ =>
    number4_calls b (o + 4) (cap - 4) x4 x5 x6 x7 W (hx _ (by simp)) (hx _ (by simp)) (hx _ (by simp)) (hx _ (by simp)) (arg_cell (h.below (hK W hb)) 4 (by omega)) (arg_cell (h.below (hK W hb)) 5 (by omega)) (arg_cell (h.below (hK W hb)) 6 (by omega)) (arg_cell (h.below (hK W hb)) 7 (by omega))
  have HF : Hid (∀ W, (W.cell? ⟨b, o, none⟩ = some (.int .u8 (x0 : Int)) ∧ W.cell? ⟨b, o + 1, none⟩ = some (.int .u8 (x1 : Int)) ∧ Hid (Keep w W)) → Calls Tryz.prog 57 #[.slice (cutAt (some ⟨b, o, none⟩) cap 8) (n - 8) (cap - 8)] W fun e w' => ∃ a' c' z0 z1 z2 z3 z4 z5, e = .returned (.slice a' R.length c') ∧ Open w' w.heap.size z0 z1 z2 z3 z4 z5 ∧ Hid (w'.ownsRow (w.heap.size + 1) 5 1 (.slice a' R.length c') R.length (cellsOf R)) ∧
      (w'.cell? ⟨b, o, none⟩ = some (.int .u8 (x0 : Int)) ∧ w'.cell? ⟨b, o + 1, none⟩ = some (.int .u8 (x1 : Int)) ∧ Hid (Keep w w'))) := fun W ⟨_, _, hb'⟩ => by
    have hb := hb'.out
    clear hb'
    refine (fresh_calls _ _ _ R W (hA8 W (hK W hb)) hA8n (by omega)).mono ?_
    rintro e w' ⟨v', rfl, ho, hb'⟩
    have hs : w.heap.size + 1 ≤ W.heap.size := hb.size
    have hb2 := hb.below hb' hs
    obtain ⟨z0, z1, z2, z3, z4, z5, hop⟩ := hb2.opens
    have ho' : w'.ownsRow W.heap.size 5 1 v' R.length (cellsOf R) := by rw [show n - 8 = R.length by omega] at ho; exact ho
    obtain ⟨a', c', rfl, _⟩ := own_slice ho' (fun c hc => hx c (by simp [hc])) (by omega)
    refine ⟨a', c', z0, z1, z2, z3, z4, z5, rfl, hop, ?_, arg_cell (h.below (hK w' hb2)) 0 (by omega), arg_cell (h.below (hK w' hb2)) 1 (by omega), hb2⟩
    exact ownsRow_le ho' (by omega)
  have HS1 : ∀ W k v, (W.cell? ⟨b, o, none⟩ = some (.int .u8 (x0 : Int)) ∧ W.cell? ⟨b, o + 1, none⟩ = some (.int .u8 (x1 : Int)) ∧ Hid (Keep w W)) → ((W.setCell ⟨w.heap.size, k, none⟩ v).cell? ⟨b, o, none⟩ = some (.int .u8 (x0 : Int)) ∧ (W.setCell ⟨w.heap.size, k, none⟩ v).cell? ⟨b, o + 1, none⟩ = some (.int .u8 (x1 : Int)) ∧ Hid (Keep w (W.setCell ⟨w.heap.size, k, none⟩ v))) := fun W k v ⟨h0, h1, h2⟩ =>
    have hbw : b ≠ w.heap.size := by have := World.block_lt_of_cell? w ⟨b, o + 0, none⟩ c0; simp at this; omega
    ⟨(World.cell?_of_block (Below.heap_setCell W ⟨w.heap.size, k, none⟩ v b hbw)).trans h0, (World.cell?_of_block (Below.heap_setCell W ⟨w.heap.size, k, none⟩ v b hbw)).trans h1, h2.out.set k v⟩
  have HS : Hid (∀ W v0 v1 v2 v3 v4 v5, (W.cell? ⟨b, o, none⟩ = some (.int .u8 (x0 : Int)) ∧ W.cell? ⟨b, o + 1, none⟩ = some (.int .u8 (x1 : Int)) ∧ Hid (Keep w W)) → (((((((W.setCell ⟨w.heap.size, 0, none⟩ v0).setCell ⟨w.heap.size, 1, none⟩ v1).setCell ⟨w.heap.size, 2, none⟩ v2).setCell ⟨w.heap.size, 3, none⟩ v3).setCell ⟨w.heap.size, 4, none⟩ v4).setCell ⟨w.heap.size, 5, none⟩ v5).cell? ⟨b, o, none⟩ = some (.int .u8 (x0 : Int)) ∧ ((((((W.setCell ⟨w.heap.size, 0, none⟩ v0).setCell ⟨w.heap.size, 1, none⟩ v1).setCell ⟨w.heap.size, 2, none⟩ v2).setCell ⟨w.heap.size, 3, none⟩ v3).setCell ⟨w.heap.size, 4, none⟩ v4).setCell ⟨w.heap.size, 5, none⟩ v5).cell? ⟨b, o + 1, none⟩ = some (.int .u8 (x1 : Int)) ∧ Hid (Keep w ((((((W.setCell ⟨w.heap.size, 0, none⟩ v0).setCell ⟨w.heap.size, 1, none⟩ v1).setCell ⟨w.heap.size, 2, none⟩ v2).setCell ⟨w.heap.size, 3, none⟩ v3).setCell ⟨w.heap.size, 4, none⟩ v4).setCell ⟨w.heap.size, 5, none⟩ v5)))) := fun W v0 v1 v2 v3 v4 v5 h => HS1 _ _ _ (HS1 _ _ _ (HS1 _ _ _ (HS1 _ _ _ (HS1 _ _ _ (HS1 _ _ _ h)))))
  have hw1 : IntKind.i64.wrap (x1 : Int) = (x1 : Int) := i64_wrap (by omega) (by have := hx x1 (by simp); omega)
  have hst : (bits .and .u8 (x0 : Int) 32 != 0) = decide (160 ≤ x0) := by rw [bne, m1, Bool.not_not]
  clear HS1
  have n1 : (1 : Int) < (n : Int) := by omega
  have n0 : (0 : Int) < (n : Int) := by omega
  have n8 : decide ((n : Int) < 8) = false := by simp; omega
  have q4 : decide ((127 : Int) < (x1 : Int)) = false := by simp; omega
  have hx0 : x0 < 256 := hx _ (by simp)
  have hx1 : x1 < 256 := hx _ (by simp)
  have n9 : n ≤ 1008 := by omega
  have n10 : 0 < n := by omega
  have n7 : 8 ≤ n := by omega
  clear c0 c1 hA8 hA8n hK hok q3 h hx g0 g1 hn hR
  generalize ((x2 * 256 + x3 : Nat) : Int) = SE at *
  generalize ((((x4 * 256 + x5) * 256 + x6) * 256 + x7 : Nat) : Int) = TI at *
  generalize ((x0 % 4 : Nat) : Int) = LA at *
  generalize decide (160 ≤ x0) = ST at *
  generalize cutAt (some ⟨b, o, none⟩) cap 8 = a8 at *
  generalize cap - 2 = k2 at *
  generalize cap - 4 = k4 at *
  go_enter Tryz.func33, Tryz.ntmps33
  go_wp2_with fail
  have hS0 : ((w.alloc (.cells #[.int .i64 0, .int .i64 0, .int .i64 0, .int .i64 0, .bool false, .slice none 0 0] 31)).drew.cell? ⟨b, o, none⟩ = some (.int .u8 (x0 : Int)) ∧ (w.alloc (.cells #[.int .i64 0, .int .i64 0, .int .i64 0, .int .i64 0, .bool false, .slice none 0 0] 31)).drew.cell? ⟨b, o + 1, none⟩ = some (.int .u8 (x1 : Int)) ∧ Hid (Keep w (w.alloc (.cells #[.int .i64 0, .int .i64 0, .int .i64 0, .int .i64 0, .bool false, .slice none 0 0] 31)).drew)) := ⟨d0 (.cells #[.int .i64 0, .int .i64 0, .int .i64 0, .int .i64 0, .bool false, .slice none 0 0] 31), d1 (.cells #[.int .i64 0, .int .i64 0, .int .i64 0, .int .i64 0, .bool false, .slice none 0 0] 31), (Keep.new w _ rfl).drew⟩
  go_region_held3 (fun w' => (w'.cell? ⟨b, o, none⟩ = some (.int .u8 (x0 : Int)) ∧ w'.cell? ⟨b, o + 1, none⟩ = some (.int .u8 (x1 : Int)) ∧ Hid (Keep w w'))) (first | with_reducible assumption | exact HS.out _ _ _ _ _ _ _ (by with_reducible assumption))
    (first
      | (go_at_call_of 56 k2; refine (HN2.out _ ?_).mono ?_; assumption; rintro e w' ⟨rfl, rfl⟩)
      | (go_at_call_of 56 k4; refine (HN4.out _ ?_).mono ?_; assumption; rintro e w' ⟨rfl, rfl⟩)
      | (go_at_call 57; refine (HF.out _ ?_).mono ?_; assumption; rintro e w' ⟨a6, c6, z0, z1, z2, z3, z4, z5, rfl, ⟨⟨k0, k1, k2, k3, k4, k5⟩, f0, f1, f2, f3, f4, f5⟩, ho, hS⟩))
  go_wp2_with fail
  refine bodyPost_ret (res_pk (g := w.heap.size) rfl rfl (hS.2.2.out.set6 SE TI LA x1 ST (.slice a6 R.length c6))) rfl ?_
  refine ⟨a6, c6, rfl, ?_, ?_⟩
  · exact ownsRow_le (ownsRow_setCell_below (ownsRow_setCell_below (ownsRow_setCell_below (ownsRow_setCell_below (ownsRow_setCell_below (ownsRow_setCell_below ho.out (Nat.lt_succ_self _) _) (Nat.lt_succ_self _) _) (Nat.lt_succ_self _) _) (Nat.lt_succ_self _) _) (Nat.lt_succ_self _) _) (Nat.lt_succ_self _) _) (by omega)
  · exact (((((hS.2.2.out.set 0 _).set 1 _).set 2 _).set 3 _).set 4 _).set 5 _ |>.1
theorem str_conv {w : World} {a : Option Addr} {n cap : Nat} {L : List Nat} (h : Arg w a n L) : (convert 29 9 (.slice a n cap)).run Tryz.prog w = .ok (.string (str L)) w := by
  cases L with
  | cons c L =>
    obtain ⟨b, o, e, _⟩ := h.1.2 0 (by simp)
    exact conv_arg Tryz.underlying29 Tryz.underlying5 Tryz.underlying9 h (fun ad h => by rw [e] at h; exact ⟨b, o, (Option.some.inj h).symm⟩)
  | nil =>
    have hn : n = 0 := by have := h.2.1; simpa using this.symm
    subst hn
    cases a with
    | none => exact conv_arg Tryz.underlying29 Tryz.underlying5 Tryz.underlying9 h (fun ad h => by simp at h)
    | some ad =>
      rw [run_convert_bytes_string w 29 9 5 _ 0 cap Tryz.underlying29 Tryz.underlying5 Tryz.underlying9]
      have hl : (loadCells ad 0).run Tryz.prog w = .ok #[] w := run_loadCells_list (P := Tryz.prog) w ad [] (fun j v hj => by simp at hj)
      simp [Conv.bytesToString, str, strOfNums, hl]
      rfl

theorem cmp_eq (f : Nat) (w : World) : (binOp .eql 25 (errv f) .nilIface).run Tryz.prog w = .ok (.bool (decide (f = 0))) w := by
  by_cases p : f = 0
  · rw [p, errv_zero]; simp [go_sem]
  · rw [errv_pos p]; simp [go_sem, p]
theorem cmp_ne (f : Nat) (w : World) : (binOp .neq 25 (errv f) .nilIface).run Tryz.prog w = .ok (.bool (!decide (f = 0))) w := by
  by_cases p : f = 0
  · rw [p, errv_zero]; simp [go_sem]
  · rw [errv_pos p]; simp [go_sem, p]
theorem grd_eq (f : Nat) (o1 : Operand) (w : World) : (eqGuard .eql 25 o1 (.const .nilIface) (errv f) .nilIface).run Tryz.prog w = .ok () w := by
  by_cases p : f = 0
  · rw [p, errv_zero]; unfold eqGuard; simp
  · rw [errv_pos p]; simp [go_sem]
theorem grd_ne (f : Nat) (o1 : Operand) (w : World) : (eqGuard .neq 25 o1 (.const .nilIface) (errv f) .nilIface).run Tryz.prog w = .ok () w := by
  by_cases p : f = 0
  · rw [p, errv_zero]; unfold eqGuard; simp
  · rw [errv_pos p]; simp [go_sem]

/-- Read, of whatever bytes: what comes, and the error -/
theorem read_gen (a : Option Addr) (n cap : Nat) (B : List Nat) (w : World) (h : Arg w a n B) (hc : n ≤ cap) :
    Calls Tryz.prog 33 #[.slice a n cap] w fun e w' => ∃ (s t l v : Int) (st : Bool) (a' : Option Addr) (m c' : Nat), e = .returned (.tuple #[.agg #[.int .i64 s, .int .i64 t, .int .i64 l, .int .i64 v, .bool st, .slice a' m c'], errv (rfault B)]) ∧ Below w.heap.size w w' ∧
      (a' = none → m = 0 ∧ c' = 0) ∧ (∀ ad, a' = some ad → ∃ b o, ad = ⟨b, o, none⟩) ∧
      ((rfault B ≠ 0 ∧ s = 0 ∧ t = 0 ∧ l = 0 ∧ v = 0 ∧ st = false ∧ Arg w' a' m []) ∨
       (rfault B = 0 ∧ ∃ x0 x1 x2 x3 x4 x5 x6 x7 R, B = x0 :: x1 :: x2 :: x3 :: x4 :: x5 :: x6 :: x7 :: R ∧ good x0 = true ∧ x1 ≤ 127 ∧ R.length ≤ 1000 ∧ s = ((x2 * 256 + x3 : Nat) : Int) ∧ t = ((((x4 * 256 + x5) * 256 + x6) * 256 + x7 : Nat) : Int) ∧ l = ((x0 % 4 : Nat) : Int) ∧ v = (x1 : Int) ∧ st = decide (160 ≤ x0) ∧ Arg w' a' m R)) := by
  have hlen := h.2.1
  by_cases h8 : n < 8
  · have hr : rfault B = 8 := rfault_short (by omega)
    refine (read_short a n cap w h8).mono ?_
    rintro e w' ⟨rfl, hb⟩
    exact ⟨0, 0, 0, 0, false, none, 0, 0, by rw [hr]; rfl, hb, fun _ => ⟨rfl, rfl⟩, fun ad e => by simp at e, .inl ⟨by omega, rfl, rfl, rfl, rfl, rfl, Bys.nil _ _, rfl, by omega⟩⟩
  · obtain ⟨b, o, rfl⟩ := arg_at h (by omega)
    obtain ⟨x0, x1, x2, x3, x4, x5, x6, x7, R, rfl⟩ := eight (B := B) (by omega)
    have hx : ∀ c ∈ x0 :: x1 :: x2 :: x3 :: x4 :: x5 :: x6 :: x7 :: R, c < 256 := h.1.1
    have c0 : w.cell? ⟨b, o, none⟩ = some (.int .u8 (x0 : Int)) := arg_cell h 0 (by omega)
    have c1 : w.cell? ⟨b, o + 1, none⟩ = some (.int .u8 (x1 : Int)) := arg_cell h 1 (by omega)
    have hR : R.length + 8 = n := by simp at hlen; omega
    rw [rfault_eight]
    by_cases hg : (good x0 && decide (x1 ≤ 127)) = true
    · rw [if_pos hg]
      by_cases hl : R.length ≤ 1000
      · rw [if_pos hl]
        refine (read_good b o n cap x0 x1 x2 x3 x4 x5 x6 x7 R w h hc hg hl).mono ?_
        rintro e w' ⟨a', c', rfl, ho, hb⟩
        obtain ⟨a2, c2, e2, hA, hN, hC, hB⟩ := own_slice ho (fun c hc => hx c (by simp [hc])) (by omega)
        simp only [Value.slice.injEq, true_and] at e2
        obtain ⟨rfl, rfl⟩ := e2
        obtain ⟨g1, g2⟩ := Bool.and_eq_true_iff.1 hg
        refine ⟨_, _, _, _, _, a', _, c', rfl, hb, hN, fun ad e => ?_, .inr ⟨rfl, x0, x1, x2, x3, x4, x5, x6, x7, R, rfl, g1, of_decide_eq_true g2, hl, rfl, rfl, rfl, rfl, rfl, hA⟩⟩
        obtain ⟨g, e1, _⟩ := hB ad e
        exact ⟨g, 0, e1⟩
      · rw [if_neg hl]
        refine (read_full b o n cap x0 x1 w (by omega) (hx _ (by simp)) (hx _ (by simp)) c0 c1 hg h.2.2).mono ?_
        rintro e w' ⟨rfl, hb⟩
        exact ⟨0, 0, 0, 0, false, none, 0, 0, rfl, hb, fun _ => ⟨rfl, rfl⟩, fun ad e => by simp at e, .inl ⟨by omega, rfl, rfl, rfl, rfl, rfl, Bys.nil _ _, rfl, by omega⟩⟩
    · rw [if_neg hg]
      refine (read_syntax b o n cap x0 x1 w (by omega) (hx _ (by simp)) (hx _ (by simp)) c0 c1 (by simpa using hg)).mono ?_
      rintro e w' ⟨rfl, hb⟩
      exact ⟨0, 0, 0, 0, false, none, 0, 0, rfl, hb, fun _ => ⟨rfl, rfl⟩, fun ad e => by simp at e, .inl ⟨by omega, rfl, rfl, rfl, rfl, rfl, Bys.nil _ _, rfl, by omega⟩⟩


theorem within_calls (x m : Int) (w : World) : Calls Tryz.prog 38 #[.int .i64 x, .int .i64 m] w fun e w' => e = .returned (.bool (decide (0 ≤ x ∧ x ≤ m))) ∧ w' = w := by
  by_cases h : 0 ≤ x
  · have d : decide (0 ≤ x) = true := by simpa using h
    go_enter Tryz.func38, Tryz.ntmps38
    go_wp2_with fail
    go_ret
    exact ⟨by simp [h], rfl⟩
  · have d : decide (0 ≤ x) = false := by simpa using h
    go_enter Tryz.func38, Tryz.ntmps38
    go_wp2_with fail
    go_ret
    exact ⟨by simp, rfl⟩

set_option maxHeartbeats 1000000 in
set_option maxRecDepth 100000 in
theorem check_calls (s t l v : Int) (st : Bool) (a : Option Addr) (n cap : Nat) (w : World) :
    Calls Tryz.prog 24 #[.agg #[.int .i64 s, .int .i64 t, .int .i64 l, .int .i64 v, .bool st, .slice a n cap]] w fun e w' => e = .returned (errv (fault s t l v n)) ∧ Below w.heap.size w w' := by
  have C1 := fun w => within_calls s 65535 w
  have C2 := fun w => within_calls t 4294967295 w
  have C3 := fun w => within_calls l 3 w
  have C4 := fun w => within_calls v 127 w
  have hf : fault s t l v n = if decide (0 ≤ s ∧ s ≤ 65535) && decide (0 ≤ t ∧ t ≤ 4294967295) && decide (0 ≤ l ∧ l ≤ 3) && decide (0 ≤ v ∧ v ≤ 127) then (if n ≤ 1000 then 0 else 4) else 1 := by
    unfold fault
    simp only [Bool.and_eq_true, decide_eq_true_eq, and_assoc]
  generalize decide (0 ≤ s ∧ s ≤ 65535) = b1 at *
  generalize decide (0 ≤ t ∧ t ≤ 4294967295) = b2 at *
  generalize decide (0 ≤ l ∧ l ≤ 3) = b3 at *
  generalize decide (0 ≤ v ∧ v ≤ 127) = b4 at *
  rw [hf]
  have H1 := hidden C1
  have H2 := hidden C2
  have H3 := hidden C3
  have H4 := hidden C4
  clear C1 C2 C3 C4 hf
  cases b1 with
  | false =>
    go_enter Tryz.func24, Tryz.ntmps24
    go_wp2_with fail
    refine (H1.out _).mono ?_
    rintro e w ⟨rfl, rfl⟩
    go_wp2_with fail
    go_ret
    exact ⟨rfl, (Below.refl _ _).alloc (Nat.le_refl _) _⟩
  | true =>
  cases b2 with
  | false =>
    go_enter Tryz.func24, Tryz.ntmps24
    go_wp2_with fail
    refine (H1.out _).mono ?_
    rintro e w ⟨rfl, rfl⟩
    go_wp2_with fail
    refine (H2.out _).mono ?_
    rintro e w ⟨rfl, rfl⟩
    go_wp2_with fail
    go_ret
    exact ⟨rfl, (Below.refl _ _).alloc (Nat.le_refl _) _⟩
  | true =>
  cases b3 with
  | false =>
    go_enter Tryz.func24, Tryz.ntmps24
    go_wp2_with fail
    refine (H1.out _).mono ?_
    rintro e w ⟨rfl, rfl⟩
    go_wp2_with fail
    refine (H2.out _).mono ?_
    rintro e w ⟨rfl, rfl⟩
    go_wp2_with fail
    refine (H3.out _).mono ?_
    rintro e w ⟨rfl, rfl⟩
    go_wp2_with fail
    go_ret
    exact ⟨rfl, (Below.refl _ _).alloc (Nat.le_refl _) _⟩
  | true =>
  cases b4 with
  | false =>
    go_enter Tryz.func24, Tryz.ntmps24
    go_wp2_with fail
    refine (H1.out _).mono ?_
    rintro e w ⟨rfl, rfl⟩
    go_wp2_with fail
    refine (H2.out _).mono ?_
    rintro e w ⟨rfl, rfl⟩
    go_wp2_with fail
    refine (H3.out _).mono ?_
    rintro e w ⟨rfl, rfl⟩
    go_wp2_with fail
    refine (H4.out _).mono ?_
    rintro e w ⟨rfl, rfl⟩
    go_wp2_with fail
    go_ret
    exact ⟨rfl, (Below.refl _ _).alloc (Nat.le_refl _) _⟩
  | true =>
  by_cases p : n ≤ 1000
  · go_enter Tryz.func24, Tryz.ntmps24
    go_wp2_with fail
    refine (H1.out _).mono ?_
    rintro e w ⟨rfl, rfl⟩
    go_wp2_with fail
    refine (H2.out _).mono ?_
    rintro e w ⟨rfl, rfl⟩
    go_wp2_with fail
    refine (H3.out _).mono ?_
    rintro e w ⟨rfl, rfl⟩
    go_wp2_with fail
    refine (H4.out _).mono ?_
    rintro e w ⟨rfl, rfl⟩
    go_wp2_with fail
    go_ret
    exact ⟨by simp [errv], (Below.refl _ _).alloc (Nat.le_refl _) _⟩
  · go_enter Tryz.func24, Tryz.ntmps24
    go_wp2_with fail
    refine (H1.out _).mono ?_
    rintro e w ⟨rfl, rfl⟩
    go_wp2_with fail
    refine (H2.out _).mono ?_
    rintro e w ⟨rfl, rfl⟩
    go_wp2_with fail
    refine (H3.out _).mono ?_
    rintro e w ⟨rfl, rfl⟩
    go_wp2_with fail
    refine (H4.out _).mono ?_
    rintro e w ⟨rfl, rfl⟩
    go_wp2_with fail
    go_ret
    exact ⟨by simp [errv], (Below.refl _ _).alloc (Nat.le_refl _) _⟩

set_option maxHeartbeats 1000000 in
set_option maxRecDepth 100000 in
theorem encode_bad (s t l v : Int) (st : Bool) (a : Option Addr) (n cap : Nat) (w : World) (hf : fault s t l v n ≠ 0) :
    Calls Tryz.prog 13 #[.agg #[.int .i64 s, .int .i64 t, .int .i64 l, .int .i64 v, .bool st, .slice a n cap]] w fun e w' => e = .returned (.tuple #[.slice none 0 0, errv (fault s t l v n)]) ∧ Below w.heap.size w w' := by
  have C := fun w => check_calls s t l v st a n cap w
  generalize fault s t l v n = f at *
  rw [errv_pos hf] at C ⊢
  have HC := hidden C
  clear C
  go_enter Tryz.func13, Tryz.ntmps13
  go_wp2_with fail
  refine (HC.out _).mono ?_
  rintro e w1 ⟨rfl, hb⟩
  have HB := hidden (below_old hb)
  clear hb
  go_wp2_with fail
  go_ret2
  exact ⟨rfl, HB.out⟩

set_option maxHeartbeats 1000000 in
set_option maxRecDepth 100000 in
theorem encode_good (s t l v : Nat) (st : Bool) (a : Option Addr) (n cap : Nat) (L : List Nat) (w : World) (h : Arg w a n L) (hn : a = none → n = 0 ∧ cap = 0) (hs : s ≤ 65535) (ht : t ≤ 4294967295) (hl : l ≤ 3) (hv : v ≤ 127) (hb : n ≤ 1000) :
    Calls Tryz.prog 13 #[.agg #[.int .i64 (s : Int), .int .i64 (t : Int), .int .i64 (l : Int), .int .i64 (v : Int), .bool st, .slice a n cap]] w fun e w' => ∃ g, e = .returned (.tuple #[.slice (some ⟨g, 0, none⟩) (8 + n) (8 + n), .nilIface]) ∧ w.heap.size ≤ g ∧ Row w' g (head s t l v st ++ L) ∧ Below w.heap.size w w' := by
  have C := fun w => check_calls s t l v st a n cap w
  have hf : fault s t l v n = 0 := by
    unfold fault
    rw [if_pos (by omega), if_pos hb]
  rw [hf, errv_zero] at C
  have HC := hidden C
  have HA := hidden h
  have HN := hidden hn
  obtain ⟨i0, hii, hz0, hz1, hz2⟩ := info_parts info5
  obtain ⟨o1, o2'⟩ := first_or hl
  have o2 : bits .or .i64 (128 + (l : Int)) 32 = 160 + (l : Int) := by
    rw [show (128 + (l : Int)) = ((128 + l : Nat) : Int) by omega, o2']; omega
  clear o2'
  clear C h hn hf
  go_enter Tryz.func13, Tryz.ntmps13
  go_wp2_with fail
  refine (HC.out _).mono ?_
  rintro e w1 ⟨rfl, hb1⟩
  have HX := hidden ((Box.new w s t l v st (.slice a n cap)).below hb1 (by simp))
  have HB := hidden (below_old hb1)
  have hlt : w.heap.size < w1.heap.size := HX.out.lt
  clear hb1
  obtain ⟨c0, c1, c2, c3, c4, c5⟩ := HX.out.cells
  go_upto_if 16 with fail
  go_cut [5] from 17 (fun x wx => x = .int .i64 ((first l st : Nat) : Int) ∧ wx = w1)
  case first =>
    cases st with
    | true =>
      go_wp2_with fail
      go_meet
      exact ⟨congrArg (Value.int .i64) (by simp [first]; omega), rfl⟩
    | false =>
      go_wp2_with fail
      go_meet
      exact ⟨congrArg (Value.int .i64) (by simp [first]), rfl⟩
  case rest =>
  obtain ⟨rfl, rfl⟩ := hcut
  have hfl : first l st < 256 := first_lt st hl
  generalize hfe : first l st = f at *
  go_wp2_with (at_make; refine wpList_make_own _ rfl _ _ 29 rfl w.heap.size 5 i0 (.int .u8 0) 1 Tryz.underlying29 hii hz0 hz1 _ _ _ (8 + n) rfl rfl ?mC ?mb ?mm ?mbase ?mnext)
  case mC => simp
  case mb => rw [hz2]; omega
  case mm => unfold maxLen; omega
  case mbase => exact HB.out.size
  case mnext =>
  intro w2 hown hgrow
  have HB2 := hidden (HB.out.grown hgrow HB.out.size (by simp))
  have HX2 := hidden (HX.out.grown hgrow (by simp))
  have HO := hidden hown
  have hlt2 : wc.heap.size ≤ w2.heap.size := hgrow.size
  clear hown hgrow HX c0 c1 c2 c3 c4 c5 o1 o2
  obtain ⟨c0, c1, c2, c3, c4, c5⟩ := HX2.out.cells
  go_wp2_with (at_builtin; refine wpList_append_fits_any _ rfl _ _ 29 rfl w.heap.size 5 i0 1 Tryz.underlying29 hii hz1 wc.heap.size 0 (8 + n) [] ?bs ?bo (some ⟨w2.heap.size, 0, none⟩) 2 2 (cellsOf [f, v]) rfl rfl ?bn ?bc (cells_one _) ?b1 ?bnext)
  case bs => simp [Act.eval]
  case bo => exact HO.out.alloc _
  case bn => intro h; simp at h
  case bc => rw [blk2 (a := f) (b := v) (by omega) (by omega)]; exact bys_cells ((Row.new w2 [f, v]).bys (by simp; omega))
  case b1 => omega
  case bnext =>
  intro w3 hown hgrow
  have HB3 := hidden ((HB2.out.alloc HB2.out.size _).grown hgrow (by have := HB2.out.size; simp; omega) (by intro k hk; simp at hk; omega))
  have HX3 := hidden ((HX2.out.alloc _).grown hgrow (by simp; omega))
  have HO3 : Hid (w3.ownsRow w.heap.size 5 1 (.slice (some ⟨wc.heap.size, 0, none⟩) 2 (8 + n)) 2 (cellsOf [f, v])) := own_next (L := []) hown rfl rfl
  clear hown hgrow HX2 HB2 HO c0 c1 c2 c3 c4 c5
  obtain ⟨c0, c1, c2, c3, c4, c5⟩ := HX3.out.cells
  go_wp2_with (at_builtin; refine wpList_append_fits_any _ rfl _ _ 29 rfl w.heap.size 5 i0 1 Tryz.underlying29 hii hz1 wc.heap.size 2 (8 + n) (cellsOf [f, v]) ?bs ?bo (some ⟨w3.heap.size, 0, none⟩) 2 2 (cellsOf [s / 256, s % 256]) rfl rfl ?bn ?bc (cells_one _) ?b1 ?bnext)
  case bs => simp [Act.eval]
  case bo => exact HO3.out.alloc _
  case bn => intro h; simp at h
  case bc => rw [blk2 (a := s / 256) (b := s % 256) (by omega) (by omega)]; exact bys_cells ((Row.new w3 [s / 256, s % 256]).bys (by simp; omega))
  case b1 => omega
  case bnext =>
  intro w4 hown hgrow
  have HB4 := hidden ((HB3.out.alloc HB3.out.size _).grown hgrow (by have := HB3.out.size; simp; omega) (by intro k hk; simp at hk; omega))
  have HX4 := hidden ((HX3.out.alloc _).grown hgrow (by simp; omega))
  have HO4 : Hid (w4.ownsRow w.heap.size 5 1 (.slice (some ⟨wc.heap.size, 0, none⟩) 4 (8 + n)) 4 (cellsOf [f, v, s / 256, s % 256])) := own_next (L := [f, v]) hown rfl rfl
  clear hown hgrow HX3 HB3 HO3 c0 c1 c2 c3 c4 c5
  obtain ⟨c0, c1, c2, c3, c4, c5⟩ := HX4.out.cells
  go_wp2_with (at_builtin; refine wpList_append_fits_any _ rfl _ _ 29 rfl w.heap.size 5 i0 1 Tryz.underlying29 hii hz1 wc.heap.size 4 (8 + n) (cellsOf [f, v, s / 256, s % 256]) ?bs ?bo (some ⟨w4.heap.size, 0, none⟩) 4 4 (cellsOf [t / 16777216, t / 65536 % 256, t / 256 % 256, t % 256]) rfl rfl ?bn ?bc (cells_one _) ?b1 ?bnext)
  case bs => simp [Act.eval]
  case bo => exact HO4.out.alloc _
  case bn => intro h; simp at h
  case bc => rw [blk4 (a := t / 16777216) (b := t / 65536 % 256) (c := t / 256 % 256) (d := t % 256) (by omega) (by omega) (by omega) (by omega)]; exact bys_cells ((Row.new w4 [t / 16777216, t / 65536 % 256, t / 256 % 256, t % 256]).bys (by simp; omega))
  case b1 => omega
  case bnext =>
  intro w5 hown hgrow
  have HB5 := hidden ((HB4.out.alloc HB4.out.size _).grown hgrow (by have := HB4.out.size; simp; omega) (by intro k hk; simp at hk; omega))
  have HX5 := hidden ((HX4.out.alloc _).grown hgrow (by simp; omega))
  have HO5 : Hid (w5.ownsRow w.heap.size 5 1 (.slice (some ⟨wc.heap.size, 0, none⟩) 8 (8 + n)) 8 (cellsOf (head s t l v st))) := own_next (L := [f, v, s / 256, s % 256]) hown rfl (by unfold head; rw [hfe]; rfl)
  clear hown hgrow HX4 HB4 HO4 c0 c1 c2 c3 c4 c5
  obtain ⟨c0, c1, c2, c3, c4, c5⟩ := HX5.out.cells
  go_wp2_with (at_builtin; refine wpList_append_fits_any _ rfl _ _ 29 rfl w.heap.size 5 i0 1 Tryz.underlying29 hii hz1 wc.heap.size 8 (8 + n) (cellsOf (head s t l v st)) ?bs HO5.out a n cap (cellsOf L) rfl ?al HN.out ?bc (cells_one _) (Nat.le_refl _) ?bnext)
  case bs => simp [Act.eval]
  case al => rw [cellsOf_len, HA.out.2.1]; omega
  case bc => exact bys_cells (HA.out.1.below HB5.out)
  case bnext =>
  intro w6 hown hgrow
  have HB6 := hidden (HB5.out.grown hgrow HB5.out.size (by intro k hk; simp at hk; omega))
  rw [← cellsOf_app] at hown
  have HR := hidden (own_row hown)
  clear hown hgrow
  go_wp2_with fail
  go_ret2
  exact ⟨_, rfl, by omega, HR.out, HB6.out⟩

/-- a packet, handed back -/
theorem res_pk1 {fn : Func} {tmps : Array Value} {w : World} {g i : Nat} {s t l v : Int} {st : Bool} {a : Option Addr} {n cap : Nat} (hf : fn.results = #[.cell i 31]) (hi : tmps.getD i undef = .pointer (some ⟨g, 0, none⟩)) (hb : Box w g s t l v st (.slice a n cap)) :
    (results fn tmps).run Tryz.prog w = .ok (.agg #[.int .i64 s, .int .i64 t, .int .i64 l, .int .i64 v, .bool st, .slice a n cap]) w := by
  obtain ⟨c0, c1, c2, c3, c4, c5⟩ := hb.cells
  have hi' : tmps[i]?.getD undef = .pointer (some ⟨g, 0, none⟩) := by simpa using hi
  simp [results, hf, hi', go_sem, c0, c1, c2, c3, c4, c5]

end Go.Proofs.YtijfocggdjjnjaiGreatDoor.Pack
