/-
  What the reference's functions Packet, Bytes, Number and PackBytes return, and what they make. They change nothing that was there.
-/
import Derived.Test.YtdmajaofjfgccabDoorPackI
import Derived.LoopN
namespace Go.Proofs.YtdmajaofjfgccabDoor.RPack
open Go.ChangeShapes Go.WideShapes Go.ChangeAt Go.RowKit Go.Proofs.YtdmajaofjfgccabDoor.PM Go.Proofs.YtdmajaofjfgccabDoor.Mem Go.Proofs.YtdmajaofjfgccabDoor.Pack
set_option linter.unusedVariables false

theorem rseq_calls (x : Int) (w : World) : Calls Tryd.prog 27 #[.int .i64 x] w fun e w' => e = .returned (.bool (decide (0 ≤ x ∧ x ≤ 65535))) ∧ w' = w := by
  by_cases h : 0 ≤ x
  · have d : decide (0 ≤ x) = true := by simpa using h
    go_enter Tryd.func27, Tryd.ntmps27
    go_wp2_with fail
    go_ret
    exact ⟨by simp [h], rfl⟩
  · have d : decide (0 ≤ x) = false := by simpa using h
    go_enter Tryd.func27, Tryd.ntmps27
    go_wp2_with fail
    go_ret
    exact ⟨by simp, rfl⟩
theorem rword_calls (x : Int) (w : World) : Calls Tryd.prog 28 #[.int .i64 x] w fun e w' => e = .returned (.bool (decide (0 ≤ x ∧ x ≤ 4294967295))) ∧ w' = w := by
  by_cases h : 0 ≤ x
  · have d : decide (0 ≤ x) = true := by simpa using h
    go_enter Tryd.func28, Tryd.ntmps28
    go_wp2_with fail
    go_ret
    exact ⟨by simp [h], rfl⟩
  · have d : decide (0 ≤ x) = false := by simpa using h
    go_enter Tryd.func28, Tryd.ntmps28
    go_wp2_with fail
    go_ret
    exact ⟨by simp, rfl⟩
theorem fault_bad {s t l v : Int} {n : Nat} (h : ¬ (0 ≤ s ∧ s ≤ 65535 ∧ 0 ≤ t ∧ t ≤ 4294967295 ∧ 0 ≤ l ∧ l ≤ 3 ∧ 0 ≤ v ∧ v ≤ 127)) : fault s t l v n = 1 := by unfold fault; rw [if_neg h]
theorem fault_good {s t l v : Int} {n : Nat} (h : 0 ≤ s ∧ s ≤ 65535 ∧ 0 ≤ t ∧ t ≤ 4294967295 ∧ 0 ≤ l ∧ l ≤ 3 ∧ 0 ≤ v ∧ v ≤ 127) : fault s t l v n = if n ≤ 1000 then 0 else 4 := by unfold fault; rw [if_pos h]

set_option maxHeartbeats 1000000 in
set_option maxRecDepth 100000 in
theorem rpacket_calls (s t l v : Int) (st : Bool) (a : Option Addr) (n cap : Nat) (w : World) :
    Calls Tryd.prog 12 #[.agg #[.int .i64 s, .int .i64 t, .int .i64 l, .int .i64 v, .bool st, .slice a n cap]] w fun e w' => e = .returned (.int .i64 (fault s t l v n : Nat)) ∧ Below w.heap.size w w' := by
  have H1 := hidden (fun w => rseq_calls s w)
  have H2 := hidden (fun w => rword_calls t w)
  by_cases p1 : 0 ≤ s ∧ s ≤ 65535
  case neg =>
    rw [fault_bad (by omega)]
    rw [decide_eq_false p1] at H1
    clear p1
    go_enter Tryd.func12, Tryd.ntmps12
    go_wp2_with fail
    refine (H1.out _).mono ?_
    rintro e w ⟨rfl, rfl⟩
    go_wp2_with fail
    refine (H2.out _).mono ?_
    rintro e w ⟨rfl, rfl⟩
    go_wp2_with fail
    go_ret
    exact ⟨rfl, (Below.refl _ _).alloc (Nat.le_refl _) _⟩
  rw [decide_eq_true p1] at H1
  by_cases p2 : 0 ≤ t ∧ t ≤ 4294967295
  case neg =>
    rw [fault_bad (by omega)]
    rw [decide_eq_false p2] at H2
    clear p1 p2
    go_enter Tryd.func12, Tryd.ntmps12
    go_wp2_with fail
    refine (H1.out _).mono ?_
    rintro e w ⟨rfl, rfl⟩
    go_wp2_with fail
    refine (H2.out _).mono ?_
    rintro e w ⟨rfl, rfl⟩
    go_wp2_with fail
    go_ret
    exact ⟨rfl, (Below.refl _ _).alloc (Nat.le_refl _) _⟩
  rw [decide_eq_true p2] at H2
  by_cases p3 : l < 0
  case pos =>
    rw [fault_bad (by omega)]
    have d3 : decide (l < 0) = true := by simpa using p3
    clear p1 p2
    go_enter Tryd.func12, Tryd.ntmps12
    go_wp2_with fail
    refine (H1.out _).mono ?_
    rintro e w ⟨rfl, rfl⟩
    go_wp2_with fail
    refine (H2.out _).mono ?_
    rintro e w ⟨rfl, rfl⟩
    go_wp2_with fail
    go_ret
    exact ⟨rfl, (Below.refl _ _).alloc (Nat.le_refl _) _⟩
  have d3 : decide (l < 0) = false := by simpa using p3
  by_cases p4 : 3 < l
  case pos =>
    rw [fault_bad (by omega)]
    have d4 : decide (3 < l) = true := by simpa using p4
    clear p1 p2
    go_enter Tryd.func12, Tryd.ntmps12
    go_wp2_with fail
    refine (H1.out _).mono ?_
    rintro e w ⟨rfl, rfl⟩
    go_wp2_with fail
    refine (H2.out _).mono ?_
    rintro e w ⟨rfl, rfl⟩
    go_wp2_with fail
    go_ret
    exact ⟨rfl, (Below.refl _ _).alloc (Nat.le_refl _) _⟩
  have d4 : decide (3 < l) = false := by simpa using p4
  by_cases p5 : v < 0
  case pos =>
    rw [fault_bad (by omega)]
    have d5 : decide (v < 0) = true := by simpa using p5
    clear p1 p2
    go_enter Tryd.func12, Tryd.ntmps12
    go_wp2_with fail
    refine (H1.out _).mono ?_
    rintro e w ⟨rfl, rfl⟩
    go_wp2_with fail
    refine (H2.out _).mono ?_
    rintro e w ⟨rfl, rfl⟩
    go_wp2_with fail
    go_ret
    exact ⟨rfl, (Below.refl _ _).alloc (Nat.le_refl _) _⟩
  have d5 : decide (v < 0) = false := by simpa using p5
  by_cases p6 : 127 < v
  case pos =>
    rw [fault_bad (by omega)]
    have d6 : decide (127 < v) = true := by simpa using p6
    clear p1 p2
    go_enter Tryd.func12, Tryd.ntmps12
    go_wp2_with fail
    refine (H1.out _).mono ?_
    rintro e w ⟨rfl, rfl⟩
    go_wp2_with fail
    refine (H2.out _).mono ?_
    rintro e w ⟨rfl, rfl⟩
    go_wp2_with fail
    go_ret
    exact ⟨rfl, (Below.refl _ _).alloc (Nat.le_refl _) _⟩
  have d6 : decide (127 < v) = false := by simpa using p6
  rw [fault_good (by omega)]
  clear p1 p2
  by_cases p7 : n ≤ 1000
  case pos =>
    rw [if_pos p7]
    go_enter Tryd.func12, Tryd.ntmps12
    go_wp2_with fail
    refine (H1.out _).mono ?_
    rintro e w ⟨rfl, rfl⟩
    go_wp2_with fail
    refine (H2.out _).mono ?_
    rintro e w ⟨rfl, rfl⟩
    go_wp2_with fail
    go_ret
    exact ⟨rfl, (Below.refl _ _).alloc (Nat.le_refl _) _⟩
  case neg =>
    rw [if_neg p7]
    go_enter Tryd.func12, Tryd.ntmps12
    go_wp2_with fail
    refine (H1.out _).mono ?_
    rintro e w ⟨rfl, rfl⟩
    go_wp2_with fail
    refine (H2.out _).mono ?_
    rintro e w ⟨rfl, rfl⟩
    go_wp2_with fail
    go_ret
    exact ⟨rfl, (Below.refl _ _).alloc (Nat.le_refl _) _⟩

theorem one_block {x : Int} {n : Nat} (h : x = (n : Int)) : (#[Value.int .u8 x] : Array Value) = (cellsOf [n]).toArray := by rw [h]; rfl
set_option maxHeartbeats 1000000 in
set_option maxRecDepth 100000 in
theorem rnumber2_calls (b o cap : Nat) (t0 t1 : Nat) (w : World) (h0 : t0 < 256) (h1 : t1 < 256) (c0 : w.cell? ⟨b, o, none⟩ = some (.int .u8 (t0 : Int))) (c1 : w.cell? ⟨b, o + 1, none⟩ = some (.int .u8 (t1 : Int))) :
    Calls Tryd.prog 31 #[.slice (some ⟨b, o, none⟩) 2 cap] w fun e w' => e = .returned (.int .i64 ((t0 * 256 + t1 : Nat) : Int)) ∧ w' = w := by
  go_enter Tryd.func31, Tryd.ntmps31
  go_wp2_with fail
  refine wp_loop_rounds 3 ?_
  rw [rounds_succ]
  go_wp2_with fail
  rw [rounds_succ]
  go_wp2_with fail
  rw [rounds_succ]
  go_wp2_with fail
  go_ret
  exact ⟨ret_int (by simp), rfl⟩
set_option maxHeartbeats 1000000 in
set_option maxRecDepth 100000 in
theorem rnumber4_calls (b o cap : Nat) (t0 t1 t2 t3 : Nat) (w : World) (h0 : t0 < 256) (h1 : t1 < 256) (h2 : t2 < 256) (h3 : t3 < 256) (c0 : w.cell? ⟨b, o, none⟩ = some (.int .u8 (t0 : Int))) (c1 : w.cell? ⟨b, o + 1, none⟩ = some (.int .u8 (t1 : Int)))
    (c2 : w.cell? ⟨b, o + 2, none⟩ = some (.int .u8 (t2 : Int))) (c3 : w.cell? ⟨b, o + 3, none⟩ = some (.int .u8 (t3 : Int))) :
    Calls Tryd.prog 31 #[.slice (some ⟨b, o, none⟩) 4 cap] w fun e w' => e = .returned (.int .i64 ((((t0 * 256 + t1) * 256 + t2) * 256 + t3 : Nat) : Int)) ∧ w' = w := by
  go_enter Tryd.func31, Tryd.ntmps31
  go_wp2_with fail
  refine wp_loop_rounds 5 ?_
  rw [rounds_succ]
  go_wp2_with fail
  rw [rounds_succ]
  go_wp2_with fail
  rw [rounds_succ]
  go_wp2_with fail
  rw [rounds_succ]
  go_wp2_with fail
  rw [rounds_succ]
  go_wp2_with fail
  go_ret
  exact ⟨ret_int (by simp), rfl⟩

set_option maxHeartbeats 2000000 in
set_option maxRecDepth 100000 in
theorem rbytes2_calls (v : Value) (base len s : Nat) (L : List Nat) (w : World) (ho : w.ownsRow base 5 1 v len (cellsOf L)) (hb : base ≤ w.heap.size) (hr : len ≤ 100000) (hs : s < 65536) :
    Calls Tryd.prog 29 #[v, .int .i64 (s : Int), .int .i64 2] w fun e w' => ∃ v', e = .returned v' ∧ w'.ownsRow base 5 1 v' (len + 2) (cellsOf (L ++ [s / 256, s % 256])) ∧ Below base w w' := by
  obtain ⟨i0, hii, hz0, hz1, hz2⟩ := info_parts info5
  have HO := hidden ho
  have HB : Hid (Below base w w) := Below.refl _ _
  clear ho
  go_enter Tryd.func29, Tryd.ntmps29
  go_wp2_with fail
  refine wp_loop_rounds 2 ?_
  rw [rounds_succ]
  go_wp2_with fail
  rw [rounds_succ]
  go_wp2_with fail
  refine wp_loop_rounds 3 ?_
  rw [rounds_succ]
  go_wp2_with (at_builtin; refine wpList_append_own _ rfl _ _ 22 rfl base 5 i0 (.int .u8 0) 1 1 Tryd.underlying22 hii hz0 hz1 hz2 rfl (by decide) _ len (cellsOf L) rfl (HO.out.alloc _) ⟨w.heap.size, 0, none⟩ 1 1 (cellsOf [s / 256]) rfl rfl ?c1 (cells_one _) ?b1 ?b2 ?b3 ?next)
  case c1 => rw [one_block (by omega : _ = ((s / 256 : Nat) : Int))]; exact bys_cells ((Row.new w [s / 256]).bys (by simp; omega)) _ rfl
  case b1 => unfold maxLen; omega
  case b2 => omega
  case b3 => have := HB.out.size; simp; omega
  case next =>
    intro v1 w1 hown hgrow _
    have HB : Hid (Below base w w1) := (HB.out.alloc (by have := HB.out.size; omega) _).grown hgrow (by have := HB.out.size; simp; omega) (fun k hk => (HO.out.lt k hk).1)
    have HO : Hid (w1.ownsRow base 5 1 v1 (len + 1) (cellsOf (L ++ [s / 256]))) := own_next hown rfl (by simp)
    clear hown hgrow
    go_wp2_with fail
    rw [rounds_succ]
    go_wp2_with (at_builtin; refine wpList_append_own _ rfl _ _ 22 rfl base 5 i0 (.int .u8 0) 1 1 Tryd.underlying22 hii hz0 hz1 hz2 rfl (by decide) _ (len + 1) (cellsOf (L ++ [s / 256])) rfl (HO.out.alloc _) ⟨w1.heap.size, 0, none⟩ 1 1 (cellsOf [s % 256]) rfl rfl ?c1 (cells_one _) ?b1 ?b2 ?b3 ?next)
    case c1 => rw [one_block (by omega : _ = ((s % 256 : Nat) : Int))]; exact bys_cells ((Row.new w1 [s % 256]).bys (by simp; omega)) _ rfl
    case b1 => unfold maxLen; omega
    case b2 => omega
    case b3 => have := HB.out.size; simp; omega
    case next =>
      intro v2 w2 hown hgrow _
      have HB : Hid (Below base w w2) := (HB.out.alloc (by have := HB.out.size; omega) _).grown hgrow (by have := HB.out.size; simp; omega) (fun k hk => (HO.out.lt k hk).1)
      have HO : Hid (w2.ownsRow base 5 1 v2 (len + 2) (cellsOf (L ++ [s / 256, s % 256]))) := own_next hown rfl (by simp)
      clear hown hgrow
      go_wp2_with fail
      rw [rounds_succ]
      go_wp2_with fail
      go_ret
      exact ⟨v2, rfl, HO.out, HB.out⟩

set_option maxHeartbeats 2000000 in
set_option maxRecDepth 100000 in
theorem rbytes4_calls (v : Value) (base len s : Nat) (L : List Nat) (w : World) (ho : w.ownsRow base 5 1 v len (cellsOf L)) (hb : base ≤ w.heap.size) (hr : len ≤ 100000) (hs : s < 4294967296) :
    Calls Tryd.prog 29 #[v, .int .i64 (s : Int), .int .i64 4] w fun e w' => ∃ v', e = .returned v' ∧ w'.ownsRow base 5 1 v' (len + 4) (cellsOf (L ++ [s / 16777216, s / 65536 % 256, s / 256 % 256, s % 256])) ∧ Below base w w' := by
  obtain ⟨i0, hii, hz0, hz1, hz2⟩ := info_parts info5
  have HO := hidden ho
  have HB : Hid (Below base w w) := Below.refl _ _
  clear ho
  go_enter Tryd.func29, Tryd.ntmps29
  go_wp2_with fail
  refine wp_loop_rounds 4 ?_
  rw [rounds_succ]
  go_wp2_with fail
  rw [rounds_succ]
  go_wp2_with fail
  rw [rounds_succ]
  go_wp2_with fail
  rw [rounds_succ]
  go_wp2_with fail
  refine wp_loop_rounds 5 ?_
  rw [rounds_succ]
  go_wp2_with (at_builtin; refine wpList_append_own _ rfl _ _ 22 rfl base 5 i0 (.int .u8 0) 1 1 Tryd.underlying22 hii hz0 hz1 hz2 rfl (by decide) _ len (cellsOf L) rfl (HO.out.alloc _) ⟨w.heap.size, 0, none⟩ 1 1 (cellsOf [s / 16777216]) rfl rfl ?c1 (cells_one _) ?b1 ?b2 ?b3 ?next)
  case c1 => rw [one_block (by omega : _ = ((s / 16777216 : Nat) : Int))]; exact bys_cells ((Row.new w [s / 16777216]).bys (by simp; omega)) _ rfl
  case b1 => unfold maxLen; omega
  case b2 => omega
  case b3 => have := HB.out.size; simp; omega
  case next =>
    intro v1 w1 hown hgrow _
    have HB : Hid (Below base w w1) := (HB.out.alloc (by have := HB.out.size; omega) _).grown hgrow (by have := HB.out.size; simp; omega) (fun k hk => (HO.out.lt k hk).1)
    have HO : Hid (w1.ownsRow base 5 1 v1 (len + 1) (cellsOf (L ++ [s / 16777216]))) := own_next hown rfl (by simp)
    clear hown hgrow
    go_wp2_with fail
    rw [rounds_succ]
    go_wp2_with (at_builtin; refine wpList_append_own _ rfl _ _ 22 rfl base 5 i0 (.int .u8 0) 1 1 Tryd.underlying22 hii hz0 hz1 hz2 rfl (by decide) _ (len + 1) (cellsOf (L ++ [s / 16777216])) rfl (HO.out.alloc _) ⟨w1.heap.size, 0, none⟩ 1 1 (cellsOf [s / 65536 % 256]) rfl rfl ?c1 (cells_one _) ?b1 ?b2 ?b3 ?next)
    case c1 => rw [one_block (by omega : _ = ((s / 65536 % 256 : Nat) : Int))]; exact bys_cells ((Row.new w1 [s / 65536 % 256]).bys (by simp; omega)) _ rfl
    case b1 => unfold maxLen; omega
    case b2 => omega
    case b3 => have := HB.out.size; simp; omega
    case next =>
      intro v2 w2 hown hgrow _
      have HB : Hid (Below base w w2) := (HB.out.alloc (by have := HB.out.size; omega) _).grown hgrow (by have := HB.out.size; simp; omega) (fun k hk => (HO.out.lt k hk).1)
      have HO : Hid (w2.ownsRow base 5 1 v2 (len + 2) (cellsOf (L ++ [s / 16777216, s / 65536 % 256]))) := own_next hown rfl (by simp)
      clear hown hgrow
      go_wp2_with fail
      rw [rounds_succ]
      go_wp2_with (at_builtin; refine wpList_append_own _ rfl _ _ 22 rfl base 5 i0 (.int .u8 0) 1 1 Tryd.underlying22 hii hz0 hz1 hz2 rfl (by decide) _ (len + 2) (cellsOf (L ++ [s / 16777216, s / 65536 % 256])) rfl (HO.out.alloc _) ⟨w2.heap.size, 0, none⟩ 1 1 (cellsOf [s / 256 % 256]) rfl rfl ?c1 (cells_one _) ?b1 ?b2 ?b3 ?next)
      case c1 => rw [one_block (by omega : _ = ((s / 256 % 256 : Nat) : Int))]; exact bys_cells ((Row.new w2 [s / 256 % 256]).bys (by simp; omega)) _ rfl
      case b1 => unfold maxLen; omega
      case b2 => omega
      case b3 => have := HB.out.size; simp; omega
      case next =>
        intro v3 w3 hown hgrow _
        have HB : Hid (Below base w w3) := (HB.out.alloc (by have := HB.out.size; omega) _).grown hgrow (by have := HB.out.size; simp; omega) (fun k hk => (HO.out.lt k hk).1)
        have HO : Hid (w3.ownsRow base 5 1 v3 (len + 3) (cellsOf (L ++ [s / 16777216, s / 65536 % 256, s / 256 % 256]))) := own_next hown rfl (by simp)
        clear hown hgrow
        go_wp2_with fail
        rw [rounds_succ]
        go_wp2_with (at_builtin; refine wpList_append_own _ rfl _ _ 22 rfl base 5 i0 (.int .u8 0) 1 1 Tryd.underlying22 hii hz0 hz1 hz2 rfl (by decide) _ (len + 3) (cellsOf (L ++ [s / 16777216, s / 65536 % 256, s / 256 % 256])) rfl (HO.out.alloc _) ⟨w3.heap.size, 0, none⟩ 1 1 (cellsOf [s % 256]) rfl rfl ?c1 (cells_one _) ?b1 ?b2 ?b3 ?next)
        case c1 => rw [one_block (by omega : _ = ((s % 256 : Nat) : Int))]; exact bys_cells ((Row.new w3 [s % 256]).bys (by simp; omega)) _ rfl
        case b1 => unfold maxLen; omega
        case b2 => omega
        case b3 => have := HB.out.size; simp; omega
        case next =>
          intro v4 w4 hown hgrow _
          have HB : Hid (Below base w w4) := (HB.out.alloc (by have := HB.out.size; omega) _).grown hgrow (by have := HB.out.size; simp; omega) (fun k hk => (HO.out.lt k hk).1)
          have HO : Hid (w4.ownsRow base 5 1 v4 (len + 4) (cellsOf (L ++ [s / 16777216, s / 65536 % 256, s / 256 % 256, s % 256]))) := own_next hown rfl (by simp)
          clear hown hgrow
          go_wp2_with fail
          rw [rounds_succ]
          go_wp2_with fail
          go_ret
          exact ⟨v4, rfl, HO.out, HB.out⟩

end Go.Proofs.YtdmajaofjfgccabDoor.RPack
