/-
  What the reference's Seq, Number, Bytes and ReadPack return, and what they make. They change nothing that was there.
-/
import Derived.Test.YtjhfjkacfnccdacDoorPackR
import Derived.LoopN
namespace Go.Proofs.YtjhfjkacfnccdacDoor.RPack
open Go.ChangeShapes Go.WideShapes Go.ChangeAt Go.RowKit Go.Proofs.YtjhfjkacfnccdacDoor.PM Go.Proofs.YtjhfjkacfnccdacDoor.Mem Go.Proofs.YtjhfjkacfnccdacDoor.Pack
set_option linter.unusedVariables false

theorem rseq_calls (x : Int) (w : World) : Calls Tryd.prog 15 #[.int .i64 x] w fun e w' => e = .returned (.bool (decide (0 ≤ x ∧ x ≤ 65535))) ∧ w' = w := by
  by_cases h : 0 ≤ x
  · have d : decide (0 ≤ x) = true := by simpa using h
    go_enter Tryd.func15, Tryd.ntmps15
    go_wp2_with fail
    go_ret
    exact ⟨by simp [h], rfl⟩
  · have d : decide (0 ≤ x) = false := by simpa using h
    go_enter Tryd.func15, Tryd.ntmps15
    go_wp2_with fail
    go_ret
    exact ⟨by simp, rfl⟩
theorem one_block {x : Int} {n : Nat} (h : x = (n : Int)) : (#[Value.int .u8 x] : Array Value) = (cellsOf [n]).toArray := by rw [h]; rfl
set_option maxHeartbeats 1000000 in
set_option maxRecDepth 100000 in
theorem rnumber2_calls (b o cap : Nat) (t0 t1 : Nat) (w : World) (h0 : t0 < 256) (h1 : t1 < 256) (c0 : w.cell? ⟨b, o, none⟩ = some (.int .u8 (t0 : Int))) (c1 : w.cell? ⟨b, o + 1, none⟩ = some (.int .u8 (t1 : Int))) :
    Calls Tryd.prog 24 #[.slice (some ⟨b, o, none⟩) 2 cap] w fun e w' => e = .returned (.int .i64 ((t0 * 256 + t1 : Nat) : Int)) ∧ w' = w := by
  go_enter Tryd.func24, Tryd.ntmps24
  go_wp2_with fail
  refine wp_loop_rounds 3 ?_
  rw [rounds_succ]
  go_wp2_with fail
  rw [rounds_succ]
  go_wp2_with fail
  rw [rounds_succ]
  go_wp2_with fail
  go_ret
  exact ⟨ret_int (by simp), rfl⟩
set_option maxHeartbeats 1000000 in
set_option maxRecDepth 100000 in
theorem rnumber4_calls (b o cap : Nat) (t0 t1 t2 t3 : Nat) (w : World) (h0 : t0 < 256) (h1 : t1 < 256) (h2 : t2 < 256) (h3 : t3 < 256) (c0 : w.cell? ⟨b, o, none⟩ = some (.int .u8 (t0 : Int))) (c1 : w.cell? ⟨b, o + 1, none⟩ = some (.int .u8 (t1 : Int)))
    (c2 : w.cell? ⟨b, o + 2, none⟩ = some (.int .u8 (t2 : Int))) (c3 : w.cell? ⟨b, o + 3, none⟩ = some (.int .u8 (t3 : Int))) :
    Calls Tryd.prog 24 #[.slice (some ⟨b, o, none⟩) 4 cap] w fun e w' => e = .returned (.int .i64 ((((t0 * 256 + t1) * 256 + t2) * 256 + t3 : Nat) : Int)) ∧ w' = w := by
  go_enter Tryd.func24, Tryd.ntmps24
  go_wp2_with fail
  refine wp_loop_rounds 5 ?_
  rw [rounds_succ]
  go_wp2_with fail
  rw [rounds_succ]
  go_wp2_with fail
  rw [rounds_succ]
  go_wp2_with fail
  rw [rounds_succ]
  go_wp2_with fail
  rw [rounds_succ]
  go_wp2_with fail
  go_ret
  exact ⟨ret_int (by simp), rfl⟩

set_option maxHeartbeats 2000000 in
set_option maxRecDepth 100000 in
theorem rbytes2_calls (v : Value) (base len s : Nat) (L : List Nat) (w : World) (ho : w.ownsRow base 5 1 v len (cellsOf L)) (hb : base ≤ w.heap.size) (hr : len ≤ 100000) (hs : s < 65536) :
    Calls Tryd.prog 17 #[v, .int .i64 (s : Int), .int .i64 2] w fun e w' => ∃ v', e = .returned v' ∧ w'.ownsRow base 5 1 v' (len + 2) (cellsOf (L ++ [s / 256, s % 256])) ∧ Below base w w' := by
  obtain ⟨i0, hii, hz0, hz1, hz2⟩ := info_parts info5
  have HO := hidden ho
  have HB : Hid (Below base w w) := Below.refl _ _
  clear ho
  go_enter Tryd.func17, Tryd.ntmps17
  go_wp2_with fail
  refine wp_loop_rounds 2 ?_
  rw [rounds_succ]
  go_wp2_with fail
  rw [rounds_succ]
  go_wp2_with fail
  refine wp_loop_rounds 3 ?_
  rw [rounds_succ]
  go_wp2_with (at_builtin; refine wpList_append_own _ rfl _ _ 22 rfl base 5 i0 (.int .u8 0) 1 1 Tryd.underlying22 hii hz0 hz1 hz2 rfl (by decide) _ len (cellsOf L) rfl (HO.out.alloc _) ⟨w.heap.size, 0, none⟩ 1 1 (cellsOf [s / 256]) rfl rfl ?c1 (cells_one _) ?b1 ?b2 ?b3 ?next)
  case c1 => rw [one_block (by omega : _ = ((s / 256 : Nat) : Int))]; exact bys_cells ((Row.new w [s / 256]).bys (by simp; omega)) _ rfl
  case b1 => unfold maxLen; omega
  case b2 => omega
  case b3 => have := HB.out.size; simp; omega
  case next =>
    intro v1 w1 hown hgrow _
    have HB : Hid (Below base w w1) := (HB.out.alloc (by have := HB.out.size; omega) _).grown hgrow (by have := HB.out.size; simp; omega) (fun k hk => (HO.out.lt k hk).1)
    have HO : Hid (w1.ownsRow base 5 1 v1 (len + 1) (cellsOf (L ++ [s / 256]))) := own_next hown rfl (by simp)
    clear hown hgrow
    go_wp2_with fail
    rw [rounds_succ]
    go_wp2_with (at_builtin; refine wpList_append_own _ rfl _ _ 22 rfl base 5 i0 (.int .u8 0) 1 1 Tryd.underlying22 hii hz0 hz1 hz2 rfl (by decide) _ (len + 1) (cellsOf (L ++ [s / 256])) rfl (HO.out.alloc _) ⟨w1.heap.size, 0, none⟩ 1 1 (cellsOf [s % 256]) rfl rfl ?c1 (cells_one _) ?b1 ?b2 ?b3 ?next)
    case c1 => rw [one_block (by omega : _ = ((s % 256 : Nat) : Int))]; exact bys_cells ((Row.new w1 [s % 256]).bys (by simp; omega)) _ rfl
    case b1 => unfold maxLen; omega
    case b2 => omega
    case b3 => have := HB.out.size; simp; omega
    case next =>
      intro v2 w2 hown hgrow _
      have HB : Hid (Below base w w2) := (HB.out.alloc (by have := HB.out.size; omega) _).grown hgrow (by have := HB.out.size; simp; omega) (fun k hk => (HO.out.lt k hk).1)
      have HO : Hid (w2.ownsRow base 5 1 v2 (len + 2) (cellsOf (L ++ [s / 256, s % 256]))) := own_next hown rfl (by simp)
      clear hown hgrow
      go_wp2_with fail
      rw [rounds_succ]
      go_wp2_with fail
      go_ret
      exact ⟨v2, rfl, HO.out, HB.out⟩

set_option maxHeartbeats 1000000 in
set_option maxRecDepth 100000 in
theorem rread_short (a : Option Addr) (n cap : Nat) (w : World) (h : n < 8) :
    Calls Tryd.prog 16 #[.slice a n cap] w fun e w' => e = .returned (.tuple #[.agg #[.int .i64 0, .int .i64 0, .int .i64 0, .int .i64 0, .bool false, .slice none 0 0], .int .i64 8]) ∧ Below w.heap.size w w' := by
  go_enter Tryd.func16, Tryd.ntmps16
  go_wp2_with fail
  refine bodyPost_ret (v := .tuple #[.agg #[.int .i64 0, .int .i64 0, .int .i64 0, .int .i64 0, .bool false, .slice none 0 0], .int .i64 8]) (by simp [results, Tryd.results16, go_sem]) rfl ?_
  exact ⟨rfl, (Below.refl _ _).alloc (Nat.le_refl _) _⟩

set_option maxHeartbeats 1000000 in
set_option maxRecDepth 100000 in
theorem rread_syntax (b o n cap x0 x1 : Nat) (w : World) (hn : 8 ≤ n) (hx0 : x0 < 256) (hx1 : x1 < 256) (c0 : w.cell? ⟨b, o, none⟩ = some (.int .u8 (x0 : Int))) (c1 : w.cell? ⟨b, o + 1, none⟩ = some (.int .u8 (x1 : Int))) (hbad : (good x0 && decide (x1 ≤ 127)) = false) :
    Calls Tryd.prog 16 #[.slice (some ⟨b, o, none⟩) n cap] w fun e w' => e = .returned (.tuple #[.agg #[.int .i64 0, .int .i64 0, .int .i64 0, .int .i64 0, .bool false, .slice none 0 0], .int .i64 2]) ∧ Below w.heap.size w w' := by
  have d0 := fun O => cell_alloc c0 O
  have d1 := fun O => cell_alloc c1 O
  have n1 : (1 : Int) < (n : Int) := by omega
  have n0 : (0 : Int) < (n : Int) := by omega
  have n8 : decide ((n : Int) < 8) = false := by simp; omega
  have hb2 : ¬ (good x0 = true ∧ x1 ≤ 127) := by
    rintro ⟨h1, h2⟩
    rw [h1, decide_eq_true h2] at hbad
    simp at hbad
  simp only [good, Bool.or_eq_true, Bool.and_eq_true, decide_eq_true_eq] at hb2
  clear c0 c1 hbad
  by_cases p1 : x0 < 128
  · have e1 : decide ((x0 : Int) < 128) = true := by simp; omega
    have e3 : decide ((x0 : Int) < 160) = true := by simp; omega
    clear hb2
    go_enter Tryd.func16, Tryd.ntmps16
    go_wp2_with fail
    refine bodyPost_ret (v := .tuple #[.agg #[.int .i64 0, .int .i64 0, .int .i64 0, .int .i64 0, .bool false, .slice none 0 0], .int .i64 2]) (by simp [results, Tryd.results16, go_sem]) rfl ?_
    exact ⟨rfl, (Below.refl _ _).alloc (Nat.le_refl _) _⟩
  have e1 : decide ((x0 : Int) < 128) = false := by simp; omega
  by_cases p2 : x0 ≤ 131
  · have e2 : decide (131 < (x0 : Int)) = false := by simp; omega
    have e5 : decide (127 < (x1 : Int)) = true := by simp; omega
    clear hb2
    go_enter Tryd.func16, Tryd.ntmps16
    go_wp2_with fail
    refine bodyPost_ret (v := .tuple #[.agg #[.int .i64 0, .int .i64 0, .int .i64 0, .int .i64 0, .bool false, .slice none 0 0], .int .i64 2]) (by simp [results, Tryd.results16, go_sem]) rfl ?_
    exact ⟨rfl, (Below.refl _ _).alloc (Nat.le_refl _) _⟩
  have e2 : decide (131 < (x0 : Int)) = true := by simp; omega
  by_cases p3 : x0 < 160
  · have e3 : decide ((x0 : Int) < 160) = true := by simp; omega
    clear hb2
    go_enter Tryd.func16, Tryd.ntmps16
    go_wp2_with fail
    refine bodyPost_ret (v := .tuple #[.agg #[.int .i64 0, .int .i64 0, .int .i64 0, .int .i64 0, .bool false, .slice none 0 0], .int .i64 2]) (by simp [results, Tryd.results16, go_sem]) rfl ?_
    exact ⟨rfl, (Below.refl _ _).alloc (Nat.le_refl _) _⟩
  have e3 : decide ((x0 : Int) < 160) = false := by simp; omega
  by_cases p4 : x0 ≤ 163
  · have e4 : decide (163 < (x0 : Int)) = false := by simp; omega
    have e5 : decide (127 < (x1 : Int)) = true := by simp; omega
    clear hb2
    go_enter Tryd.func16, Tryd.ntmps16
    go_wp2_with fail
    refine bodyPost_ret (v := .tuple #[.agg #[.int .i64 0, .int .i64 0, .int .i64 0, .int .i64 0, .bool false, .slice none 0 0], .int .i64 2]) (by simp [results, Tryd.results16, go_sem]) rfl ?_
    exact ⟨rfl, (Below.refl _ _).alloc (Nat.le_refl _) _⟩
  have e4 : decide (163 < (x0 : Int)) = true := by simp; omega
  clear hb2
  go_enter Tryd.func16, Tryd.ntmps16
  go_wp2_with fail
  refine bodyPost_ret (v := .tuple #[.agg #[.int .i64 0, .int .i64 0, .int .i64 0, .int .i64 0, .bool false, .slice none 0 0], .int .i64 2]) (by simp [results, Tryd.results16, go_sem]) rfl ?_
  exact ⟨rfl, (Below.refl _ _).alloc (Nat.le_refl _) _⟩

set_option maxHeartbeats 1000000 in
set_option maxRecDepth 100000 in
theorem rread_full (b o n cap x0 x1 : Nat) (w : World) (hn : 1008 < n) (hx0 : x0 < 256) (hx1 : x1 < 256) (c0 : w.cell? ⟨b, o, none⟩ = some (.int .u8 (x0 : Int))) (c1 : w.cell? ⟨b, o + 1, none⟩ = some (.int .u8 (x1 : Int))) (hg : good x0 = true) (h1 : x1 ≤ 127) (hmax : n ≤ 9223372036854775807) :
    Calls Tryd.prog 16 #[.slice (some ⟨b, o, none⟩) n cap] w fun e w' => e = .returned (.tuple #[.agg #[.int .i64 0, .int .i64 0, .int .i64 0, .int .i64 0, .bool false, .slice none 0 0], .int .i64 4]) ∧ Below w.heap.size w w' := by
  have d0 := fun O => cell_alloc c0 O
  have d1 := fun O => cell_alloc c1 O
  have n1 : (1 : Int) < (n : Int) := by omega
  have n0 : (0 : Int) < (n : Int) := by omega
  have n8 : decide ((n : Int) < 8) = false := by simp; omega
  have e5 : decide (127 < (x1 : Int)) = false := by simp; omega
  simp only [good, Bool.or_eq_true, Bool.and_eq_true, decide_eq_true_eq] at hg
  have e1 : decide ((x0 : Int) < 128) = false := by simp; omega
  clear c0 c1
  by_cases p2 : x0 ≤ 131
  · have e2 : decide (131 < (x0 : Int)) = false := by simp; omega
    clear hg
    go_enter Tryd.func16, Tryd.ntmps16
    go_wp2_with fail
    refine bodyPost_ret (v := .tuple #[.agg #[.int .i64 0, .int .i64 0, .int .i64 0, .int .i64 0, .bool false, .slice none 0 0], .int .i64 4]) (by simp [results, Tryd.results16, go_sem]) rfl ?_
    exact ⟨rfl, (Below.refl _ _).alloc (Nat.le_refl _) _⟩
  have e2 : decide (131 < (x0 : Int)) = true := by simp; omega
  have e3 : decide ((x0 : Int) < 160) = false := by simp; omega
  have e4 : decide (163 < (x0 : Int)) = false := by simp; omega
  clear hg
  go_enter Tryd.func16, Tryd.ntmps16
  go_wp2_with fail
  refine bodyPost_ret (v := .tuple #[.agg #[.int .i64 0, .int .i64 0, .int .i64 0, .int .i64 0, .bool false, .slice none 0 0], .int .i64 4]) (by simp [results, Tryd.results16, go_sem]) rfl ?_
  exact ⟨rfl, (Below.refl _ _).alloc (Nat.le_refl _) _⟩

set_option maxHeartbeats 2000000 in
set_option maxRecDepth 100000 in
theorem rread_good (b o n cap x0 x1 x2 x3 x4 x5 x6 x7 : Nat) (R : List Nat) (w : World) (h : Arg w (some ⟨b, o, none⟩) n (x0 :: x1 :: x2 :: x3 :: x4 :: x5 :: x6 :: x7 :: R)) (hc : n ≤ cap) (hg : good x0 = true) (h1 : x1 ≤ 127) (hR : R.length ≤ 1000) :
    Calls Tryd.prog 16 #[.slice (some ⟨b, o, none⟩) n cap] w fun e w' => ∃ a', e = .returned (.tuple #[.agg #[.int .i64 ((x2 * 256 + x3 : Nat) : Int), .int .i64 ((((x4 * 256 + x5) * 256 + x6) * 256 + x7 : Nat) : Int), .int .i64 ((x0 % 4 : Nat) : Int), .int .i64 (x1 : Int), .bool (decide (160 ≤ x0)), .slice a' (n - 8) (cap - 8)], .int .i64 0]) ∧
      Arg w' a' (n - 8) R ∧ Below w.heap.size w w' := by
  have hn : n = R.length + 8 := by have := h.2.1; simp at this; omega
  have hx : ∀ c ∈ x0 :: x1 :: x2 :: x3 :: x4 :: x5 :: x6 :: x7 :: R, c < 256 := h.1.1
  have e2 : ∀ w, (Instr.slice 22 (.slice (some ⟨b, o, none⟩) n cap) (some (.int .i64 2)) (some (.int .i64 4)) none).run Tryd.prog w = .ok (.slice (some ⟨b, o + 2, none⟩) 2 (cap - 2)) w := fun w => by
    have := cut_lh (some ⟨b, o, none⟩) n cap 2 4 (by omega) (by omega) w
    rw [show cutAt (some ⟨b, o, none⟩) cap 2 = some ⟨b, o + 2, none⟩ by unfold cutAt; rw [if_neg (by omega)]; rfl] at this
    exact this
  have e4 : ∀ w, (Instr.slice 22 (.slice (some ⟨b, o, none⟩) n cap) (some (.int .i64 4)) (some (.int .i64 8)) none).run Tryd.prog w = .ok (.slice (some ⟨b, o + 4, none⟩) 4 (cap - 4)) w := fun w => by
    have := cut_lh (some ⟨b, o, none⟩) n cap 4 8 (by omega) (by omega) w
    rw [show cutAt (some ⟨b, o, none⟩) cap 4 = some ⟨b, o + 4, none⟩ by unfold cutAt; rw [if_neg (by omega)]; rfl] at this
    exact this
  have e8 : ∀ w, (Instr.slice 22 (.slice (some ⟨b, o, none⟩) n cap) (some (.int .i64 8)) none none).run Tryd.prog w = .ok (.slice (cutAt (some ⟨b, o, none⟩) cap 8) (n - 8) (cap - 8)) w := fun w => cut_l (some ⟨b, o, none⟩) n cap 8 (by omega) w
  have HA8 : Hid (∀ W, Below w.heap.size w W → Arg W (cutAt (some ⟨b, o, none⟩) cap 8) (n - 8) R) := fun W hb => by
    have := cut_arg (l := 8) (h := n) (h.below hb) (by omega) (Nat.le_refl _) hc
    rw [show (x0 :: x1 :: x2 :: x3 :: x4 :: x5 :: x6 :: x7 :: R).drop 8 = R from rfl, List.take_of_length_le (by omega)] at this
    exact this
  have hbel : ∀ O P, Below w.heap.size w ((w.alloc O).alloc P) := fun O P => ((Below.refl _ _).alloc (Nat.le_refl _) _).alloc (by simp) _
  have HBEL := hidden hbel
  have c0 := arg_cell h 0 (by omega)
  have c1 := arg_cell h 1 (by omega)
  have d0 : ∀ O, (w.alloc O).cell? ⟨b, o, none⟩ = some (.int .u8 (x0 : Int)) := fun O => cell_alloc c0 O
  have d1 : ∀ O, (w.alloc O).cell? ⟨b, o + 1, none⟩ = some (.int .u8 (x1 : Int)) := fun O => cell_alloc c1 O
  have g1 : ∀ O P, ((w.alloc O).alloc P).cell? ⟨b, o + 1, none⟩ = some (.int .u8 (x1 : Int)) := fun O P => cell_alloc (cell_alloc c1 O) P
  have HN2 : Hid (∀ O P, Calls Tryd.prog 24 #[.slice (some ⟨b, o + 2, none⟩) 2 (cap - 2)] ((w.alloc O).alloc P) fun e w' => e = .returned (.int .i64 ((x2 * 256 + x3 : Nat) : Int)) ∧ w' = (w.alloc O).alloc P) := fun O P =>
    rnumber2_calls b (o + 2) (cap - 2) x2 x3 _ (hx _ (by simp)) (hx _ (by simp)) (arg_cell (h.below (hbel O P)) 2 (by omega)) (arg_cell (h.below (hbel O P)) 3 (by omega))
  have HN4 : Hid (∀ O P, Calls Tryd.prog 24 #[.slice (some ⟨b, o + 4, none⟩) 4 (cap - 4)] ((w.alloc O).alloc P) fun e w' => e = .returned (.int .i64 ((((x4 * 256 + x5) * 256 + x6) * 256 + x7 : Nat) : Int)) ∧ w' = (w.alloc O).alloc P) := fun O P =>
    rnumber4_calls b (o + 4) (cap - 4) x4 x5 x6 x7 _ (hx _ (by simp)) (hx _ (by simp)) (hx _ (by simp)) (hx _ (by simp)) (arg_cell (h.below (hbel O P)) 4 (by omega)) (arg_cell (h.below (hbel O P)) 5 (by omega)) (arg_cell (h.below (hbel O P)) 6 (by omega)) (arg_cell (h.below (hbel O P)) 7 (by omega))
  have n1 : (1 : Int) < (n : Int) := by omega
  have n0 : (0 : Int) < (n : Int) := by omega
  have n8 : decide ((n : Int) < 8) = false := by simp; omega
  have q5 : decide (127 < (x1 : Int)) = false := by simp; omega
  have hx0 : x0 < 256 := hx _ (by simp)
  have hx1 : x1 < 256 := hx _ (by simp)
  have n9 : n ≤ 1008 := by omega
  have n10 : 0 < n := by omega
  simp only [good, Bool.or_eq_true, Bool.and_eq_true, decide_eq_true_eq] at hg
  have q1 : decide ((x0 : Int) < 128) = false := by simp; omega
  have hm4 : ((x0 : Int)).tmod 4 = ((x0 % 4 : Nat) : Int) := rfl
  have hw4 : wrap64 ((x0 % 4 : Nat) : Int) = ((x0 % 4 : Nat) : Int) := by unfold wrap64; omega
  have hst : decide ((160 : Int) ≤ (x0 : Int)) = decide (160 ≤ x0) := by
    by_cases p : 160 ≤ x0
    · rw [decide_eq_true p, decide_eq_true (by omega)]
    · rw [decide_eq_false p, decide_eq_false (by omega)]
  have HX := hidden hg
  clear c0 c1 h hx hn hR hbel hg
  generalize ((x2 * 256 + x3 : Nat) : Int) = SE at *
  generalize ((((x4 * 256 + x5) * 256 + x6) * 256 + x7 : Nat) : Int) = TI at *
  generalize ((x0 % 4 : Nat) : Int) = LA at *
  generalize decide (160 ≤ x0) = ST at *
  generalize cutAt (some ⟨b, o, none⟩) cap 8 = a8 at *
  by_cases p2 : x0 ≤ 131
  · have q2 : decide (131 < (x0 : Int)) = false := by simp; omega
    go_enter Tryd.func16, Tryd.ntmps16
    go_wp2_with fail
    refine (HN2.out _ _).mono ?_
    rintro e w' ⟨rfl, rfl⟩
    go_wp2_with fail
    refine (HN4.out _ _).mono ?_
    rintro e w' ⟨rfl, rfl⟩
    go_wp2_with fail
    refine bodyPost_ret (v := .tuple #[.agg #[.int .i64 SE, .int .i64 TI, .int .i64 LA, .int .i64 (x1 : Int), .bool ST, .slice a8 (n - 8) (cap - 8)], .int .i64 0]) (by simp [results, Tryd.results16, go_sem]) rfl ?_
    exact ⟨a8, rfl, HA8.out _ (HBEL.out _ _), HBEL.out _ _⟩
  have q2 : decide (131 < (x0 : Int)) = true := by simp; omega
  have q3 : decide ((x0 : Int) < 160) = false := by have := HX.out; simp; omega
  have q4 : decide (163 < (x0 : Int)) = false := by have := HX.out; simp; omega
  go_enter Tryd.func16, Tryd.ntmps16
  go_wp2_with fail
  refine (HN2.out _ _).mono ?_
  rintro e w' ⟨rfl, rfl⟩
  go_wp2_with fail
  refine (HN4.out _ _).mono ?_
  rintro e w' ⟨rfl, rfl⟩
  go_wp2_with fail
  refine bodyPost_ret (v := .tuple #[.agg #[.int .i64 SE, .int .i64 TI, .int .i64 LA, .int .i64 (x1 : Int), .bool ST, .slice a8 (n - 8) (cap - 8)], .int .i64 0]) (by simp [results, Tryd.results16, go_sem]) rfl ?_
  exact ⟨a8, rfl, HA8.out _ (HBEL.out _ _), HBEL.out _ _⟩
end Go.Proofs.YtjhfjkacfnccdacDoor.RPack
