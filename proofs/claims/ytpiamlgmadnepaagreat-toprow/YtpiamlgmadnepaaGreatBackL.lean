/-
  What the inner function parse of package back returns, and what it makes. It changes nothing that was there.
-/
import Derived.Test.YtpiamlgmadnepaaGreatBackK
namespace Go.Proofs.YtpiamlgmadnepaaGreat.Back
open Go.ChangeShapes Go.WideShapes Go.ChangeAt Go.RowKit Go.Sort Go.Lib Go.Proofs.YtpiamlgmadnepaaGreat.BM Go.Proofs.YtpiamlgmadnepaaGreat.Mem
set_option linter.unusedVariables false

theorem BBox.free {w : World} {g : Nat} {k t : Int} {sv : Value} {u : Int} (h : BBox w g k t sv u) (j : Nat) : w.frozen? ⟨g, j, none⟩ = false := by
  unfold BBox at h
  simp [World.frozen?, h]
theorem BBox.alloc {w : World} {g : Nat} {k t : Int} {sv : Value} {u : Int} (h : BBox w g k t sv u) (o : Obj) : BBox (w.alloc o) g k t sv u := (Below.heap_alloc _ _ _ h.lt).trans h
theorem BBox.drewN {w : World} {g : Nat} {k t : Int} {sv : Value} {u : Int} (h : BBox w g k t sv u) (q : Nat) : BBox (w.drewN q) g k t sv u := h
theorem BBox.set2 {w : World} {g : Nat} {k t : Int} {sv sv' : Value} {u : Int} (h : BBox w g k t sv u) : BBox (w.setCell ⟨g, 2, none⟩ sv') g k t sv' u := heap_setCell_same _ _ 2 _ _ sv' h
theorem BBox.set3 {w : World} {g : Nat} {k t : Int} {sv : Value} {u u' : Int} (h : BBox w g k t sv u) : BBox (w.setCell ⟨g, 3, none⟩ (.int .i64 u')) g k t sv u' := heap_setCell_same _ _ 3 _ _ (.int .i64 u') h
theorem BBox.other {w : World} {g : Nat} {k t : Int} {sv : Value} {u : Int} (h : BBox w g k t sv u) {p : Addr} (hp : g ≠ p.block) (v : Value) : BBox (w.setCell p v) g k t sv u := by
  unfold BBox
  rw [Below.heap_setCell _ _ _ _ hp]
  exact h
theorem BBox.put {w : World} {g : Nat} {k t : Int} {sv : Value} {u : Int} (h : BBox w g k t sv u) (k' t' : Int) (sv' : Value) (u' : Int) :
    BBox ((((w.setCell ⟨g, 0, none⟩ (.int .i64 k')).setCell ⟨g, 1, none⟩ (.int .i64 t')).setCell ⟨g, 2, none⟩ sv').setCell ⟨g, 3, none⟩ (.int .i64 u')) g k' t' sv' u' := by
  have h0 := heap_setCell_same _ _ 0 _ _ (.int .i64 k') h
  have h1 := heap_setCell_same _ _ 1 _ _ (.int .i64 t') h0
  have h2 := heap_setCell_same _ _ 2 _ _ sv' h1
  exact heap_setCell_same _ _ 3 _ _ (.int .i64 u') h2
theorem IArg.set {w : World} {a : Option Addr} {n : Nat} {L : List Int} (h : IArg w a n L) {p : Addr} (hp : ∀ ad, a = some ad → ad.block ≠ p.block) (v : Value) : IArg (w.setCell p v) a n L := by
  refine ⟨fun j hj => ?_, h.2⟩
  obtain ⟨b, o, e, hc⟩ := h.1 j hj
  exact ⟨b, o, e, (World.cell?_of_block (Below.heap_setCell w p v b (hp _ e))).trans hc⟩
/-- Numbers, of whatever pairs: what comes lies in memory of its own -/
theorem numbers_far (a : Option Addr) (n cap : Nat) (l : List (Int × Int)) (w : World) (h : PArg w a n l) :
    Calls Tryz.prog 200 #[.slice a n cap] w fun e w' => ∃ a' m c', e = .returned (.tuple #[.slice a' m c', errv (nfault l)]) ∧ IArg w' a' m (numsOf l) ∧ (a' = none → m = 0 ∧ c' = 0) ∧ (∀ ad, a' = some ad → w.heap.size ≤ ad.block) ∧ Below w.heap.size w w' := by
  by_cases hf : nfault l = 0
  · refine (numbers_good a n cap l w h hf).mono ?_
    rintro e w' ⟨v', rfl, ho, hb⟩
    have hlen : (norm (told (l.map np))).length ≤ 9223372036854775807 := by
      have h1 := (told_len (l.map np)).2
      have h2 := norm_len (told (l.map np))
      have h3 := (nfault_zero hf).1
      rw [List.length_map] at h1
      omega
    obtain ⟨a', c', rfl, hP, h0, h1, h2⟩ := own_ints ho hlen
    refine ⟨a', _, c', by rw [hf]; rfl, ?_, h0, fun ad e => ?_, hb⟩
    · rw [numsOf, if_pos hf]
      exact hP
    · obtain ⟨g, rfl, hg, _⟩ := h2 ad e
      exact hg
  · refine (numbers_bad a n cap l w h hf).mono ?_
    rintro e w' ⟨rfl, hb⟩
    refine ⟨none, 0, 0, rfl, ?_, fun _ => ⟨rfl, rfl⟩, fun ad e => by simp at e, hb⟩
    rw [numsOf, if_neg hf]
    exact IArg.nil _ _
/-- what is said back and something else, handed back -/
theorem res_bk {fn : Func} {tmps : Array Value} {w : World} {g i j : Nat} {k t : Int} {sv : Value} {u : Int} (hf : fn.results = #[.cell i 242, .tmp j]) (hi : tmps.getD i undef = .pointer (some ⟨g, 0, none⟩)) (hb : BBox w g k t sv u) (hs : ∃ a n c, sv = .slice a n c) :
    (results fn tmps).run Tryz.prog w = .ok (.tuple #[.agg #[.int .i64 k, .int .i64 t, sv, .int .i64 u], tmps.getD j undef]) w := by
  obtain ⟨c0, c1, c2, c3⟩ := hb.cells
  obtain ⟨a, n, c, rfl⟩ := hs
  have hi' : tmps[i]?.getD undef = .pointer (some ⟨g, 0, none⟩) := by simpa using hi
  simp [results, hf, hi', go_sem, c0, c1, c2, c3]

set_option maxHeartbeats 4000000 in
set_option maxRecDepth 100000 in
theorem parse_other (b o n cap k t : Nat) (r : List Nat) (w : World) (h : Arg w (some ⟨b, o, none⟩) n (k :: t :: r)) (hc : n ≤ cap) (h1 : k ≠ 1) (h2 : k ≠ 2) (h3 : k ≠ 3) :
    Calls Tryz.prog 183 #[.slice (some ⟨b, o, none⟩) n cap] w fun e w' => e = .returned (.tuple #[.agg #[.int .i64 (k : Int), .int .i64 (t : Int), .slice none 0 0, .int .i64 0], .bool true]) ∧ Below w.heap.size w w' := by
  have hn : n = r.length + 2 := by have := h.2.1; simpa using this.symm
  have hmax := h.2.2
  have hk := h.1.1 k (by simp)
  have ht := h.1.1 t (by simp)
  have c0 := arg_cell h 0 (by omega)
  have c1 := arg_cell h 1 (by omega)
  have hlt := World.block_lt_of_cell? w _ c0
  simp only [List.getD_cons_zero, List.getD_cons_succ, Nat.add_zero] at c0 c1
  have d0 : ∀ O, (w.alloc O).cell? ⟨b, o, none⟩ = some (.int .u8 (k : Nat)) := fun O => (((Below.refl _ _).alloc (Nat.le_refl _) O).cell (p := ⟨b, o, none⟩) hlt).trans c0
  have d1 : ∀ O, (w.alloc O).cell? ⟨b, o + 1, none⟩ = some (.int .u8 (t : Int)) := fun O => (((Below.refl _ _).alloc (Nat.le_refl _) O).cell (p := ⟨b, o + 1, none⟩) hlt).trans c1
  have hwt : IntKind.i64.wrap (t : Int) = (t : Int) := by rw [IntKind.wrap_i64]; omega
  have es : ∀ w, (Instr.slice 36 (.slice (some ⟨b, o, none⟩) n cap) (some (.int .i64 2)) none none).run Tryz.prog w = .ok (.slice (cutAt (some ⟨b, o, none⟩) cap 2) (n - 2) (cap - 2)) w := fun w => cut_l (some ⟨b, o, none⟩) n cap 2 (by omega) w
  have HR : Hid (Arg w (cutAt (some ⟨b, o, none⟩) cap 2) (n - 2) r) := by
    have := cut_arg (l := 2) (h := n) h (by omega) (Nat.le_refl _) hc
    rw [show (k :: t :: r).drop 2 = r from rfl, List.take_of_length_le (by omega)] at this
    exact this
  have n1 : (1 : Int) < (n : Int) := by omega
  have n0 : (0 : Int) < (n : Int) := by omega
  have hwk : IntKind.i64.wrap (k : Int) = (k : Int) := by rw [IntKind.wrap_i64]; omega
  have e1 : ((k : Int) == 1) = false := by rw [beq_eq_false_iff_ne]; omega
  have e2 : ((k : Int) == 2) = false := by rw [beq_eq_false_iff_ne]; omega
  have e3 : ((k : Int) == 3) = false := by rw [beq_eq_false_iff_ne]; omega
  generalize cutAt (some ⟨b, o, none⟩) cap 2 = aR at *
  clear h hc hn h1 h2 h3 c0 c1 HR
  go_enter Tryz.func183, Tryz.ntmps183
  go_wp2_with fail
  go_region
  go_wp2_with fail
  refine bodyPost_ret (res_bk (g := w.heap.size) rfl rfl ((BBox.new w k t (.slice none 0 0) 0).alloc _) ⟨_, _, _, rfl⟩) rfl ?_
  exact ⟨rfl, (((Below.refl w.heap.size w).alloc (Nat.le_refl _) _).alloc (by simp) _).drew⟩

set_option maxHeartbeats 4000000 in
set_option maxRecDepth 100000 in
theorem parse_key (b o n cap t : Nat) (r : List Nat) (w : World) (h : Arg w (some ⟨b, o, none⟩) n (2 :: t :: r)) (hc : n ≤ cap) (hr : 1 ≤ r.length) :
    Calls Tryz.prog 183 #[.slice (some ⟨b, o, none⟩) n cap] w fun e w' => e = .returned (.tuple #[.agg #[.int .i64 2, .int .i64 (t : Int), .slice none 0 0, .int .i64 (val (r.take 1) : Int)], .bool true]) ∧ Below w.heap.size w w' := by
  have hn : n = r.length + 2 := by have := h.2.1; simpa using this.symm
  have hmax := h.2.2
  have hk := h.1.1 2 (by simp)
  have ht := h.1.1 t (by simp)
  have c0 := arg_cell h 0 (by omega)
  have c1 := arg_cell h 1 (by omega)
  have hlt := World.block_lt_of_cell? w _ c0
  simp only [List.getD_cons_zero, List.getD_cons_succ, Nat.add_zero] at c0 c1
  have d0 : ∀ O, (w.alloc O).cell? ⟨b, o, none⟩ = some (.int .u8 (2 : Nat)) := fun O => (((Below.refl _ _).alloc (Nat.le_refl _) O).cell (p := ⟨b, o, none⟩) hlt).trans c0
  have d1 : ∀ O, (w.alloc O).cell? ⟨b, o + 1, none⟩ = some (.int .u8 (t : Int)) := fun O => (((Below.refl _ _).alloc (Nat.le_refl _) O).cell (p := ⟨b, o + 1, none⟩) hlt).trans c1
  have hwt : IntKind.i64.wrap (t : Int) = (t : Int) := by rw [IntKind.wrap_i64]; omega
  have es : ∀ w, (Instr.slice 36 (.slice (some ⟨b, o, none⟩) n cap) (some (.int .i64 2)) none none).run Tryz.prog w = .ok (.slice (cutAt (some ⟨b, o, none⟩) cap 2) (n - 2) (cap - 2)) w := fun w => cut_l (some ⟨b, o, none⟩) n cap 2 (by omega) w
  have HR : Hid (Arg w (cutAt (some ⟨b, o, none⟩) cap 2) (n - 2) r) := by
    have := cut_arg (l := 2) (h := n) h (by omega) (Nat.le_refl _) hc
    rw [show (2 :: t :: r).drop 2 = r from rfl, List.take_of_length_le (by omega)] at this
    exact this
  have n1 : (1 : Int) < (n : Int) := by omega
  have n0 : (0 : Int) < (n : Int) := by omega
  have es2 : ∀ w a, (Instr.slice 36 (.slice a (n - 2) (cap - 2)) none (some (.int .i64 1)) none).run Tryz.prog w = .ok (.slice a 1 (cap - 2)) w := fun w a => cut_h a (n - 2) (cap - 2) 1 (by omega) w
  have HN : Hid (∀ W, Below w.heap.size w W → Calls Tryz.prog 202 #[.slice (cutAt (some ⟨b, o, none⟩) cap 2) 1 (cap - 2)] W _) := fun W hW => numof_calls _ 1 (cap - 2) (r.take 1) W ((HR.out.take 1 (by omega)).below hW) (by omega)
  generalize val (r.take 1) = u at *
  generalize cutAt (some ⟨b, o, none⟩) cap 2 = aR at *
  clear h hc hn c0 c1 HR hr
  go_enter Tryz.func183, Tryz.ntmps183
  go_wp2_with fail
  go_region
  go_wp2_with fail
  refine (HN.out _ ((((Below.refl w.heap.size w).alloc (Nat.le_refl _) _).alloc (by simp) _).drew)).mono ?_
  rintro e w1 ⟨rfl, rfl⟩
  go_wp2_with fail
  refine bodyPost_ret (res_bk (g := w.heap.size) rfl rfl ((BBox.new w 2 t (.slice none 0 0) u).alloc _) ⟨_, _, _, rfl⟩) rfl ?_
  exact ⟨rfl, (((Below.refl w.heap.size w).alloc (Nat.le_refl _) _).alloc (by simp) _).drew⟩

set_option maxHeartbeats 4000000 in
set_option maxRecDepth 100000 in
theorem parse_rate (b o n cap t : Nat) (r : List Nat) (w : World) (h : Arg w (some ⟨b, o, none⟩) n (3 :: t :: r)) (hc : n ≤ cap) (hr : 4 ≤ r.length) :
    Calls Tryz.prog 183 #[.slice (some ⟨b, o, none⟩) n cap] w fun e w' => e = .returned (.tuple #[.agg #[.int .i64 3, .int .i64 (t : Int), .slice none 0 0, .int .i64 (val (r.take 4) : Int)], .bool true]) ∧ Below w.heap.size w w' := by
  have hn : n = r.length + 2 := by have := h.2.1; simpa using this.symm
  have hmax := h.2.2
  have hk := h.1.1 3 (by simp)
  have ht := h.1.1 t (by simp)
  have c0 := arg_cell h 0 (by omega)
  have c1 := arg_cell h 1 (by omega)
  have hlt := World.block_lt_of_cell? w _ c0
  simp only [List.getD_cons_zero, List.getD_cons_succ, Nat.add_zero] at c0 c1
  have d0 : ∀ O, (w.alloc O).cell? ⟨b, o, none⟩ = some (.int .u8 (3 : Nat)) := fun O => (((Below.refl _ _).alloc (Nat.le_refl _) O).cell (p := ⟨b, o, none⟩) hlt).trans c0
  have d1 : ∀ O, (w.alloc O).cell? ⟨b, o + 1, none⟩ = some (.int .u8 (t : Int)) := fun O => (((Below.refl _ _).alloc (Nat.le_refl _) O).cell (p := ⟨b, o + 1, none⟩) hlt).trans c1
  have hwt : IntKind.i64.wrap (t : Int) = (t : Int) := by rw [IntKind.wrap_i64]; omega
  have es : ∀ w, (Instr.slice 36 (.slice (some ⟨b, o, none⟩) n cap) (some (.int .i64 2)) none none).run Tryz.prog w = .ok (.slice (cutAt (some ⟨b, o, none⟩) cap 2) (n - 2) (cap - 2)) w := fun w => cut_l (some ⟨b, o, none⟩) n cap 2 (by omega) w
  have HR : Hid (Arg w (cutAt (some ⟨b, o, none⟩) cap 2) (n - 2) r) := by
    have := cut_arg (l := 2) (h := n) h (by omega) (Nat.le_refl _) hc
    rw [show (3 :: t :: r).drop 2 = r from rfl, List.take_of_length_le (by omega)] at this
    exact this
  have n1 : (1 : Int) < (n : Int) := by omega
  have n0 : (0 : Int) < (n : Int) := by omega
  have es2 : ∀ w a, (Instr.slice 36 (.slice a (n - 2) (cap - 2)) none (some (.int .i64 4)) none).run Tryz.prog w = .ok (.slice a 4 (cap - 2)) w := fun w a => cut_h a (n - 2) (cap - 2) 4 (by omega) w
  have HN : Hid (∀ W, Below w.heap.size w W → Calls Tryz.prog 202 #[.slice (cutAt (some ⟨b, o, none⟩) cap 2) 4 (cap - 2)] W _) := fun W hW => numof_calls _ 4 (cap - 2) (r.take 4) W ((HR.out.take 4 (by omega)).below hW) (by omega)
  generalize val (r.take 4) = u at *
  generalize cutAt (some ⟨b, o, none⟩) cap 2 = aR at *
  clear h hc hn c0 c1 HR hr
  go_enter Tryz.func183, Tryz.ntmps183
  go_wp2_with fail
  go_region
  go_wp2_with fail
  refine (HN.out _ ((((Below.refl w.heap.size w).alloc (Nat.le_refl _) _).alloc (by simp) _).drew)).mono ?_
  rintro e w1 ⟨rfl, rfl⟩
  go_wp2_with fail
  refine bodyPost_ret (res_bk (g := w.heap.size) rfl rfl ((BBox.new w 3 t (.slice none 0 0) u).alloc _) ⟨_, _, _, rfl⟩) rfl ?_
  exact ⟨rfl, (((Below.refl w.heap.size w).alloc (Nat.le_refl _) _).alloc (by simp) _).drew⟩

set_option maxHeartbeats 4000000 in
set_option maxRecDepth 100000 in
theorem parse_long (b o n cap t : Nat) (r : List Nat) (w : World) (h : Arg w (some ⟨b, o, none⟩) n (1 :: t :: r)) (hc : n ≤ cap) (hr : 800 < r.length) :
    Calls Tryz.prog 183 #[.slice (some ⟨b, o, none⟩) n cap] w fun e w' => e = .returned (.tuple #[.agg #[.int .i64 0, .int .i64 0, .slice none 0 0, .int .i64 0], .bool false]) ∧ Below w.heap.size w w' := by
  have hn : n = r.length + 2 := by have := h.2.1; simpa using this.symm
  have hmax := h.2.2
  have hk := h.1.1 1 (by simp)
  have ht := h.1.1 t (by simp)
  have c0 := arg_cell h 0 (by omega)
  have c1 := arg_cell h 1 (by omega)
  have hlt := World.block_lt_of_cell? w _ c0
  simp only [List.getD_cons_zero, List.getD_cons_succ, Nat.add_zero] at c0 c1
  have d0 : ∀ O, (w.alloc O).cell? ⟨b, o, none⟩ = some (.int .u8 (1 : Nat)) := fun O => (((Below.refl _ _).alloc (Nat.le_refl _) O).cell (p := ⟨b, o, none⟩) hlt).trans c0
  have d1 : ∀ O, (w.alloc O).cell? ⟨b, o + 1, none⟩ = some (.int .u8 (t : Int)) := fun O => (((Below.refl _ _).alloc (Nat.le_refl _) O).cell (p := ⟨b, o + 1, none⟩) hlt).trans c1
  have hwt : IntKind.i64.wrap (t : Int) = (t : Int) := by rw [IntKind.wrap_i64]; omega
  have es : ∀ w, (Instr.slice 36 (.slice (some ⟨b, o, none⟩) n cap) (some (.int .i64 2)) none none).run Tryz.prog w = .ok (.slice (cutAt (some ⟨b, o, none⟩) cap 2) (n - 2) (cap - 2)) w := fun w => cut_l (some ⟨b, o, none⟩) n cap 2 (by omega) w
  have HR : Hid (Arg w (cutAt (some ⟨b, o, none⟩) cap 2) (n - 2) r) := by
    have := cut_arg (l := 2) (h := n) h (by omega) (Nat.le_refl _) hc
    rw [show (1 :: t :: r).drop 2 = r from rfl, List.take_of_length_le (by omega)] at this
    exact this
  have n1 : (1 : Int) < (n : Int) := by omega
  have n0 : (0 : Int) < (n : Int) := by omega
  have dl : decide (800 < ((n - 2 : Nat) : Int)) = true := by simp; omega
  generalize n - 2 = m at *
  generalize cutAt (some ⟨b, o, none⟩) cap 2 = aR at *
  clear h hc hn c0 c1 HR hr
  go_enter Tryz.func183, Tryz.ntmps183
  go_wp2_with fail
  go_region
  go_wp2_with fail
  refine bodyPost_ret (res_bk (g := w.heap.size) rfl rfl ((BBox.new w 0 0 (.slice none 0 0) 0).alloc _) ⟨_, _, _, rfl⟩) rfl ?_
  exact ⟨rfl, (((Below.refl w.heap.size w).alloc (Nat.le_refl _) _).alloc (by simp) _).drew⟩

set_option maxHeartbeats 4000000 in
set_option maxRecDepth 100000 in
theorem parse_lost (b o n cap t : Nat) (r : List Nat) (w : World) (h : Arg w (some ⟨b, o, none⟩) n (1 :: t :: r)) (hc : n ≤ cap) (hr : r.length ≤ 800) :
    Calls Tryz.prog 183 #[.slice (some ⟨b, o, none⟩) n cap] w fun e w' => ∃ a' m c', e = .returned (.tuple #[.agg #[.int .i64 1, .int .i64 (t : Int), .slice a' m c', .int .i64 0], .bool (decide (nfault (prsB r) = 0))]) ∧ IArg w' a' m (numsOf (prsB r)) ∧ (a' = none → m = 0 ∧ c' = 0) ∧ (∀ ad, a' = some ad → w.heap.size ≤ ad.block) ∧ Below w.heap.size w w' := by
  have hn : n = r.length + 2 := by have := h.2.1; simpa using this.symm
  have hmax := h.2.2
  have hk := h.1.1 1 (by simp)
  have ht := h.1.1 t (by simp)
  have c0 := arg_cell h 0 (by omega)
  have c1 := arg_cell h 1 (by omega)
  have hlt := World.block_lt_of_cell? w _ c0
  simp only [List.getD_cons_zero, List.getD_cons_succ, Nat.add_zero] at c0 c1
  have d0 : ∀ O, (w.alloc O).cell? ⟨b, o, none⟩ = some (.int .u8 (1 : Nat)) := fun O => (((Below.refl _ _).alloc (Nat.le_refl _) O).cell (p := ⟨b, o, none⟩) hlt).trans c0
  have d1 : ∀ O, (w.alloc O).cell? ⟨b, o + 1, none⟩ = some (.int .u8 (t : Int)) := fun O => (((Below.refl _ _).alloc (Nat.le_refl _) O).cell (p := ⟨b, o + 1, none⟩) hlt).trans c1
  have hwt : IntKind.i64.wrap (t : Int) = (t : Int) := by rw [IntKind.wrap_i64]; omega
  have es : ∀ w, (Instr.slice 36 (.slice (some ⟨b, o, none⟩) n cap) (some (.int .i64 2)) none none).run Tryz.prog w = .ok (.slice (cutAt (some ⟨b, o, none⟩) cap 2) (n - 2) (cap - 2)) w := fun w => cut_l (some ⟨b, o, none⟩) n cap 2 (by omega) w
  have HR : Hid (Arg w (cutAt (some ⟨b, o, none⟩) cap 2) (n - 2) r) := by
    have := cut_arg (l := 2) (h := n) h (by omega) (Nat.le_refl _) hc
    rw [show (1 :: t :: r).drop 2 = r from rfl, List.take_of_length_le (by omega)] at this
    exact this
  have n1 : (1 : Int) < (n : Int) := by omega
  have n0 : (0 : Int) < (n : Int) := by omega
  have dl : decide (800 < ((n - 2 : Nat) : Int)) = false := by simp; omega
  have HPO : Hid (∀ W, Below w.heap.size w W → Calls Tryz.prog 201 #[.slice (cutAt (some ⟨b, o, none⟩) cap 2) (n - 2) (cap - 2)] W _) := fun W hW => pairsOf_calls _ (n - 2) (cap - 2) r W (HR.out.below hW) (by omega) (by omega)
  have HNG : Hid (∀ W a m c, PArg W a m (prsB r) → Calls Tryz.prog 200 #[.slice a m c] W _) := fun W a m c hW => numbers_far a m c (prsB r) W hW
  have hpl : (prsB r).length ≤ 9223372036854775807 := by
    have h1 : ∀ (s : Nat) (r : List Nat), r.length ≤ s → (prsB r).length ≤ s := by
      intro s
      induction s with
      | zero => intro r hr; rw [few (by omega)]; simp
      | succ s ih =>
        intro r hr
        by_cases h4 : 4 ≤ r.length
        · obtain ⟨x0, x1, x2, x3, R, rfl⟩ := four h4
          have := ih R (by simp at hr; omega)
          rw [prsB_app, List.length_cons]; omega
        · rw [few (by omega)]; simp
    have := h1 _ r (Nat.le_refl _)
    omega
  have ceq := cmp_eq (nfault (prsB r))
  have geq := grd_eq (nfault (prsB r))
  generalize nfault (prsB r) = f at *
  generalize numsOf (prsB r) = N at *
  generalize decide (f = 0) = z at *
  generalize prsB r = l at *
  generalize n - 2 = m at *
  generalize cutAt (some ⟨b, o, none⟩) cap 2 = aR at *
  clear h hc hn c0 c1 HR hr
  go_enter Tryz.func183, Tryz.ntmps183
  go_wp2_with fail
  go_region
  go_wp2_with fail
  refine (HPO.out _ ((((Below.refl w.heap.size w).alloc (Nat.le_refl _) _).alloc (by simp) _).drew)).mono ?_
  rintro e w2 ⟨v2, rfl, ho2, hb2⟩
  have HB2 : Hid (Below (w.heap.size + 2) _ w2) := hb2.mono (by simp)
  obtain ⟨a2, c2, rfl, hP2, _⟩ := own_prs ho2 hpl
  have HP2 := hidden hP2
  clear ho2 hb2 hP2
  go_wp2_with fail
  refine (HNG.out _ _ _ _ HP2.out).mono ?_
  rintro e w3 ⟨a3, m3, c3, rfl, hI3, hn3, hf3, hb3⟩
  have hsz2 : w.heap.size + 2 ≤ w2.heap.size := by have := HB2.out.size; simp at this; omega
  have HX0 : Hid (BBox w3 w.heap.size 0 0 (.slice none 0 0) 0) := ((((BBox.new w 0 0 (.slice none 0 0) 0).alloc _).drewN 1).below HB2.out (by omega)).below hb3 (by omega)
  have HX1 : Hid (BBox w3 (w.heap.size + 1) 1 t (.slice none 0 0) 0) := by
    have h0 : BBox ((w.alloc (.cells #[.int .i64 0, .int .i64 0, .slice none 0 0, .int .i64 0] 242)).alloc (.cells #[.int .i64 1, .int .i64 (t : Int), .slice none 0 0, .int .i64 0] 242)) (w.heap.size + 1) 1 t (.slice none 0 0) 0 := by
      have := BBox.new (w.alloc (.cells #[.int .i64 0, .int .i64 0, .slice none 0 0, .int .i64 0] 242)) 1 t (.slice none 0 0) 0
      simpa using this
    exact ((h0.drewN 1).below HB2.out (by omega)).below hb3 (by omega)
  have HB3 : Hid (Below w.heap.size w w3) := by
    have h0 := (((Below.refl w.heap.size w).alloc (Nat.le_refl _) (.cells #[.int .i64 0, .int .i64 0, .slice none 0 0, .int .i64 0] 242)).alloc (by simp) (.cells #[.int .i64 1, .int .i64 (t : Int), .slice none 0 0, .int .i64 0] 242)).drew
    exact (h0.trans (HB2.out.mono (by omega))).trans (hb3.mono (by omega))
  have HI3 := hidden hI3
  have HF3 := hidden hf3
  have HN3 := hidden hn3
  clear hb3 hI3 hn3 hf3 HB2 HP2
  obtain ⟨k0, k1, k2, k3⟩ := HX1.out.cells
  have kf := HX1.out.free 2
  go_wp2_with fail
  obtain ⟨w4, hw4⟩ : ∃ w4, w3.setCell ⟨w.heap.size + 1, 2, none⟩ (.slice a3 m3 c3) = w4 := ⟨_, rfl⟩
  rw [hw4]
  have HY0 : Hid (BBox w4 w.heap.size 0 0 (.slice none 0 0) 0) := hw4 ▸ HX0.out.other (by simp) _
  have HY1 : Hid (BBox w4 (w.heap.size + 1) 1 t (.slice a3 m3 c3) 0) := hw4 ▸ HX1.out.set2
  have HB4 : Hid (Below w.heap.size w w4) := hw4 ▸ HB3.out.setCell (by simp) _
  have HI4 : Hid (IArg w4 a3 m3 N) := hw4 ▸ HI3.out.set (fun ad e => by have := HF3.out ad e; simp; omega) _
  clear k0 k1 k2 k3 kf hw4 HX0 HX1 HB3 HI3
  obtain ⟨k0, k1, k2, k3⟩ := HY1.out.cells
  obtain ⟨j0, j1, j2, j3⟩ := HY0.out.cells
  have f0 := HY0.out.free 0
  have f1 := HY0.out.free 1
  have f2 := HY0.out.free 2
  have f3 := HY0.out.free 3
  go_region
  go_wp2_with fail
  have hne : ∀ ad, a3 = some ad → ad.block ≠ w.heap.size := fun ad e => by have := HF3.out ad e; omega
  refine bodyPost_ret (res_bk (g := w.heap.size) rfl rfl (BBox.drewN (HY0.out.put 1 t (.slice a3 m3 c3) 0) 1) ⟨_, _, _, rfl⟩) rfl ?_
  exact ⟨a3, m3, c3, rfl, (((HI4.out.set hne _).set hne _).set hne _).set hne _, HN3.out, fun ad e => by have := HF3.out ad e; omega, ((((HB4.out.setCell (Nat.le_refl _) _).setCell (Nat.le_refl _) _).setCell (Nat.le_refl _) _).setCell (Nat.le_refl _) _).drew⟩

/-- parse, of whatever bytes that are not short -/
theorem parse_gen (b o n cap k t : Nat) (r : List Nat) (w : World) (h : Arg w (some ⟨b, o, none⟩) n (k :: t :: r)) (hc : n ≤ cap) (hs : rshort (k :: t :: r) = false) :
    Calls Tryz.prog 183 #[.slice (some ⟨b, o, none⟩) n cap] w fun e w' => ∃ (k' t' : Int) (a' : Option Addr) (m c' : Nat) (u' : Int), e = .returned (.tuple #[.agg #[.int .i64 k', .int .i64 t', .slice a' m c', .int .i64 u'], .bool (!gfault k r)]) ∧
      (gfault k r = false → k' = k ∧ t' = t ∧ u' = saidU k r ∧ IArg w' a' m (saidL k r)) ∧ (a' = none → m = 0 ∧ c' = 0) ∧ (∀ ad, a' = some ad → w.heap.size ≤ ad.block) ∧ Below w.heap.size w w' := by
  by_cases h1 : k = 1
  · subst h1
    by_cases hr : r.length ≤ 800
    · refine (parse_lost b o n cap t r w h hc hr).mono ?_
      rintro e w' ⟨a', m, c', rfl, hI, hn, hfa, hb⟩
      have hg : gfault 1 r = decide (nfault (prsB r) ≠ 0) := by simp [gfault]; intro h'; omega
      refine ⟨1, t, a', m, c', 0, ?_, fun _ => ⟨rfl, rfl, by simp [saidU], by simpa [saidL] using hI⟩, hn, hfa, hb⟩
      rw [hg]
      simp
    · refine (parse_long b o n cap t r w h hc (by omega)).mono ?_
      rintro e w' ⟨rfl, hb⟩
      have hg : gfault 1 r = true := by simp [gfault]; omega
      exact ⟨0, 0, none, 0, 0, 0, by rw [hg]; rfl, fun h' => by rw [hg] at h'; simp at h', fun _ => ⟨rfl, rfl⟩, fun ad e => by simp at e, hb⟩
  have hg : gfault k r = false := by simp [gfault, h1]
  by_cases h2 : k = 2
  · subst h2
    refine (parse_key b o n cap t r w h hc (by simp [rshort] at hs; exact Nat.pos_of_ne_zero (by simpa using hs))).mono ?_
    rintro e w' ⟨rfl, hb⟩
    exact ⟨2, t, none, 0, 0, _, by rw [hg]; rfl, fun _ => ⟨rfl, rfl, by simp [saidU], by simp [saidL]; exact IArg.nil _ _⟩, fun _ => ⟨rfl, rfl⟩, fun ad e => by simp at e, hb⟩
  by_cases h3 : k = 3
  · subst h3
    refine (parse_rate b o n cap t r w h hc (by simp [rshort] at hs; omega)).mono ?_
    rintro e w' ⟨rfl, hb⟩
    exact ⟨3, t, none, 0, 0, _, by rw [hg]; rfl, fun _ => ⟨rfl, rfl, by simp [saidU], by simp [saidL]; exact IArg.nil _ _⟩, fun _ => ⟨rfl, rfl⟩, fun ad e => by simp at e, hb⟩
  refine (parse_other b o n cap k t r w h hc h1 h2 h3).mono ?_
  rintro e w' ⟨rfl, hb⟩
  exact ⟨k, t, none, 0, 0, 0, by rw [hg]; rfl, fun _ => ⟨rfl, rfl, by simp [saidU, h2, h3], by simp [saidL, h1]; exact IArg.nil _ _⟩, fun _ => ⟨rfl, rfl⟩, fun ad e => by simp at e, hb⟩
end Go.Proofs.YtpiamlgmadnepaaGreat.Back

