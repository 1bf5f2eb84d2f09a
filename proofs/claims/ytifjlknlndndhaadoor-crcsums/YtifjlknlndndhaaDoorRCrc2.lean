/-
  What the reference's functions Bytes (in four), Seal and Open return, and what they make. They change nothing that was there. Their condition: fewer than 2^47 bytes.
-/
import Derived.Test.YtifjlknlndndhaaDoorRCrc
import Derived.Test.YtifjlknlndndhaaDoorCrcC
namespace Go.Proofs.YtifjlknlndndhaaDoor.RCrc
open Go.ChangeShapes Go.WideShapes Go.ChangeAt Go.RowKit Go.Proofs.YtifjlknlndndhaaDoor.CM Go.Proofs.YtifjlknlndndhaaDoor.Mem Go.Proofs.YtifjlknlndndhaaDoor.Crc
set_option linter.unusedVariables false

theorem one_block {x : Int} {n : Nat} (h : x = (n : Int)) : (#[Value.int .u8 x] : Array Value) = (cellsOf [n]).toArray := by rw [h]; rfl
theorem own_next {w : World} {base m k : Nat} {v : Value} {L K R : List Nat} (h : w.ownsRow base 5 1 v m (cellsOf L ++ cellsOf K)) (hm : m = k) (hR : L ++ K = R) : w.ownsRow base 5 1 v k (cellsOf R) := by
  rw [← cellsOf_app] at h
  rw [← hm, ← hR]; exact h

set_option maxHeartbeats 2000000 in
set_option maxRecDepth 100000 in
theorem bytes_calls (v : Value) (base len s : Nat) (L : List Nat) (w : World) (ho : w.ownsRow base 5 1 v len (cellsOf L)) (hb : base ≤ w.heap.size) (hr : len ≤ 140737488355324) (hs : s < 4294967296) :
    Calls Tryd.prog 40 #[v, .int .i64 (s : Int), .int .i64 4] w fun e w' => ∃ v', e = .returned v' ∧ w'.ownsRow base 5 1 v' (len + 4) (cellsOf (L ++ be4 s)) ∧ Below base w w' := by
  obtain ⟨i0, hii, hz0, hz1, hz2⟩ := info_parts info5
  have HO := hidden ho
  have HB : Hid (Below base w w) := Below.refl _ _
  clear ho
  go_enter Tryd.func40, Tryd.ntmps40
  go_wp2_with fail
  refine wp_loop_rounds 4 ?_
  rw [rounds_succ]
  go_wp2_with fail
  rw [rounds_succ]
  go_wp2_with fail
  rw [rounds_succ]
  go_wp2_with fail
  rw [rounds_succ]
  go_wp2_with fail
  refine wp_loop_rounds 5 ?_
  rw [rounds_succ]
  go_wp2_with (at_builtin; refine wpList_append_own _ rfl _ _ 44 rfl base 5 i0 (.int .u8 0) 1 1 Tryd.underlying44 hii hz0 hz1 hz2 rfl (by decide) _ len (cellsOf L) rfl (HO.out.alloc _) ⟨w.heap.size, 0, none⟩ 1 1 (cellsOf [(s / 16777216 % 256)]) rfl rfl ?c1 (cells_one _) ?b1 ?b2 ?b3 ?next)
  case c1 => rw [one_block (by omega : _ = (((s / 16777216 % 256) : Nat) : Int))]; exact bys_cells ((Row.new w [(s / 16777216 % 256)]).bys (by simp; omega)) _ rfl
  case b1 => unfold maxLen; omega
  case b2 => omega
  case b3 => have := HB.out.size; simp; omega
  case next =>
    intro v1 w1 hown hgrow _
    have HB : Hid (Below base w w1) := (HB.out.alloc (by have := HB.out.size; omega) _).grown hgrow (by have := HB.out.size; simp; omega) (fun k hk => (HO.out.lt k hk).1)
    have HO : Hid (w1.ownsRow base 5 1 v1 (len + 1) (cellsOf (L ++ [s / 16777216 % 256]))) := own_next hown rfl (by simp)
    clear hown hgrow
    go_wp2_with fail
    rw [rounds_succ]
    go_wp2_with (at_builtin; refine wpList_append_own _ rfl _ _ 44 rfl base 5 i0 (.int .u8 0) 1 1 Tryd.underlying44 hii hz0 hz1 hz2 rfl (by decide) _ (len + 1) (cellsOf (L ++ [s / 16777216 % 256])) rfl (HO.out.alloc _) ⟨w1.heap.size, 0, none⟩ 1 1 (cellsOf [(s / 65536 % 256)]) rfl rfl ?c1 (cells_one _) ?b1 ?b2 ?b3 ?next)
    case c1 => rw [one_block (by omega : _ = (((s / 65536 % 256) : Nat) : Int))]; exact bys_cells ((Row.new w1 [(s / 65536 % 256)]).bys (by simp; omega)) _ rfl
    case b1 => unfold maxLen; omega
    case b2 => omega
    case b3 => have := HB.out.size; simp; omega
    case next =>
      intro v2 w2 hown hgrow _
      have HB : Hid (Below base w w2) := (HB.out.alloc (by have := HB.out.size; omega) _).grown hgrow (by have := HB.out.size; simp; omega) (fun k hk => (HO.out.lt k hk).1)
      have HO : Hid (w2.ownsRow base 5 1 v2 (len + 2) (cellsOf (L ++ [s / 16777216 % 256, s / 65536 % 256]))) := own_next hown rfl (by simp)
      clear hown hgrow
      go_wp2_with fail
      rw [rounds_succ]
      go_wp2_with (at_builtin; refine wpList_append_own _ rfl _ _ 44 rfl base 5 i0 (.int .u8 0) 1 1 Tryd.underlying44 hii hz0 hz1 hz2 rfl (by decide) _ (len + 2) (cellsOf (L ++ [s / 16777216 % 256, s / 65536 % 256])) rfl (HO.out.alloc _) ⟨w2.heap.size, 0, none⟩ 1 1 (cellsOf [(s / 256 % 256)]) rfl rfl ?c1 (cells_one _) ?b1 ?b2 ?b3 ?next)
      case c1 => rw [one_block (by omega : _ = (((s / 256 % 256) : Nat) : Int))]; exact bys_cells ((Row.new w2 [(s / 256 % 256)]).bys (by simp; omega)) _ rfl
      case b1 => unfold maxLen; omega
      case b2 => omega
      case b3 => have := HB.out.size; simp; omega
      case next =>
        intro v3 w3 hown hgrow _
        have HB : Hid (Below base w w3) := (HB.out.alloc (by have := HB.out.size; omega) _).grown hgrow (by have := HB.out.size; simp; omega) (fun k hk => (HO.out.lt k hk).1)
        have HO : Hid (w3.ownsRow base 5 1 v3 (len + 3) (cellsOf (L ++ [s / 16777216 % 256, s / 65536 % 256, s / 256 % 256]))) := own_next hown rfl (by simp)
        clear hown hgrow
        go_wp2_with fail
        rw [rounds_succ]
        go_wp2_with (at_builtin; refine wpList_append_own _ rfl _ _ 44 rfl base 5 i0 (.int .u8 0) 1 1 Tryd.underlying44 hii hz0 hz1 hz2 rfl (by decide) _ (len + 3) (cellsOf (L ++ [s / 16777216 % 256, s / 65536 % 256, s / 256 % 256])) rfl (HO.out.alloc _) ⟨w3.heap.size, 0, none⟩ 1 1 (cellsOf [(s % 256)]) rfl rfl ?c1 (cells_one _) ?b1 ?b2 ?b3 ?next)
        case c1 => rw [one_block (by omega : _ = (((s % 256) : Nat) : Int))]; exact bys_cells ((Row.new w3 [(s % 256)]).bys (by simp; omega)) _ rfl
        case b1 => unfold maxLen; omega
        case b2 => omega
        case b3 => have := HB.out.size; simp; omega
        case next =>
          intro v4 w4 hown hgrow _
          have HB : Hid (Below base w w4) := (HB.out.alloc (by have := HB.out.size; omega) _).grown hgrow (by have := HB.out.size; simp; omega) (fun k hk => (HO.out.lt k hk).1)
          have HO : Hid (w4.ownsRow base 5 1 v4 (len + 4) (cellsOf (L ++ [s / 16777216 % 256, s / 65536 % 256, s / 256 % 256, s % 256]))) := own_next hown rfl (by simp)
          clear hown hgrow
          go_wp2_with fail
          rw [rounds_succ]
          go_wp2_with fail
          go_ret
          exact ⟨v4, rfl, HO.out, HB.out⟩

set_option maxHeartbeats 1000000 in
set_option maxRecDepth 100000 in
theorem rseal_calls (a : Option Addr) (len cap : Nat) (L : List Nat) (w : World) (h : Arg w a len L) (hn : a = none → len = 0 ∧ cap = 0) (hr : len ≤ 140737488355320) :
    Calls Tryd.prog 28 #[.slice a len cap] w fun e w' => ∃ v', e = .returned v' ∧ w'.ownsRow w.heap.size 5 1 v' (len + 4) (cellsOf (L ++ be4 (go 0 L))) ∧ Below w.heap.size w w' := by
  have HA := hidden h
  have HN := hidden hn
  have hs : go 0 L < 4294967296 := go_lt (by decide) h.1.1
  have HM := hidden (fun w h => rmore_calls 0 a len cap L w (by decide) h)
  generalize hgo : go 0 L = s at *
  obtain ⟨i0, hii, hz0, hz1, hz2⟩ := info_parts info5
  clear h hn hgo
  go_enter Tryd.func28, Tryd.ntmps28
  go_wp2_with (at_builtin; refine append_any rfl _ _ 44 rfl w.heap.size 5 i0 (.int .u8 0) 1 1 Tryd.underlying44 hii hz0 hz1 hz2 rfl (by decide) _ 0 [] rfl (World.ownsRow_nil _ _ _ _) a len cap (cellsOf L) rfl ?al HN.out ?ac (cells_one L) ?b1 ?b2 ?b3 ?next)
  case al => rw [cellsOf_len, HA.out.2.1]; omega
  case ac => exact bys_cells HA.out.1
  case b1 => unfold maxLen; omega
  case b2 => omega
  case b3 => exact Nat.le_refl _
  case next =>
    intro v1 w1 hown hgrow
    have HB1 : Hid (Below w.heap.size w w1) := (Below.refl _ _).grown hgrow (Nat.le_refl _) (by simp [Value.ownBlock])
    have HO1 : Hid (w1.ownsRow w.heap.size 5 1 v1 len (cellsOf L)) := own_next (L := []) hown (by omega) rfl
    clear hown hgrow
    go_wp2_with fail
    refine (HM.out _ (HA.out.below HB1.out)).mono ?_
    rintro e w1 ⟨rfl, rfl⟩
    go_wp2_with fail
    refine (bytes_calls v1 w.heap.size len s L _ HO1.out HB1.out.size (by omega) hs).mono ?_
    rintro e w2 ⟨v2, rfl, ho, hb⟩
    have HO2 := hidden ho
    have HB2 := hidden (HB1.out.trans hb)
    clear ho hb
    go_wp2_with fail
    go_ret
    exact ⟨v2, rfl, HO2.out, HB2.out⟩

set_option maxHeartbeats 400000 in
theorem ropen_short (a : Option Addr) (len cap : Nat) (w : World) (h : len < 4) :
    Calls Tryd.prog 26 #[.slice a len cap] w fun e w' => e = .returned (.tuple #[.slice none 0 0, .int .i64 8]) ∧ w' = w := by
  go_enter Tryd.func26, Tryd.ntmps26
  go_wp2_with fail
  go_ret2
  exact ⟨rfl, rfl⟩

set_option maxHeartbeats 1000000 in
set_option maxRecDepth 100000 in
theorem ropen_bad (b o cap m : Nat) (B : List Nat) (t0 t1 t2 t3 : Nat) (w : World) (hm : B.length = m) (h : Arg w (some ⟨b, o, none⟩) (m + 4) (B ++ [t0, t1, t2, t3])) (hcc : m + 4 ≤ cap) (hne : num 0 [t0, t1, t2, t3] ≠ go 0 B) :
    Calls Tryd.prog 26 #[.slice (some ⟨b, o, none⟩) (m + 4) cap] w fun e w' => e = .returned (.tuple #[.slice none 0 0, .int .i64 9]) ∧ ∃ k, w' = w.drewN k := by
  have HA := hidden h
  have hl := h.2.2
  have hc := tail_cells h.1 hm
  have s0 := cut_high (some ⟨b, o, none⟩) (m + 4) cap m (by omega)
  have s1 := cut_low b o (m + 4) cap m (by omega) (by omega)
  rw [show m + 4 - m = 4 by omega] at s1
  have HB : Hid (Arg w (some ⟨b, o, none⟩) m B) := by
    have := h.1.take m
    rw [← hm, List.take_left] at this
    exact ⟨this, hm, by omega⟩
  have CN := hidden (fun (w : World) c0 c1 c2 c3 => number_calls b (o + m) (cap - m) t0 t1 t2 t3 w (h.1.1 t0 (by simp)) (h.1.1 t1 (by simp)) (h.1.1 t2 (by simp)) (h.1.1 t3 (by simp)) c0 c1 c2 c3)
  have CM := hidden (fun w h => rmore_calls 0 (some ⟨b, o, none⟩) m cap B w (by decide) h)
  generalize go 0 B = g at *
  generalize num 0 [t0, t1, t2, t3] = q at *
  have HC := hidden hc
  have d0 : ((q : Int) == (g : Int)) = false := by simp; omega
  clear h hne hm hc
  go_enter Tryd.func26, Tryd.ntmps26
  go_wp2_with fail
  go_quiet ((first | (go_at_call 39; exact Calls.quiet_of_same (CN.out _ (by exact HC.out.1) (by exact HC.out.2.1) (by exact HC.out.2.2.1) (by exact HC.out.2.2.2))) | (go_at_call 20; exact Calls.quiet_of_same (CM.out _ (by exact HB.out)))))
  go_wp2_with fail
  go_ret2
  exact ⟨rfl, _, rfl⟩

set_option maxHeartbeats 1000000 in
set_option maxRecDepth 100000 in
theorem ropen_good (b o cap m : Nat) (B : List Nat) (t0 t1 t2 t3 : Nat) (w : World) (hm : B.length = m) (h : Arg w (some ⟨b, o, none⟩) (m + 4) (B ++ [t0, t1, t2, t3])) (hcc : m + 4 ≤ cap) (hne : num 0 [t0, t1, t2, t3] = go 0 B) :
    Calls Tryd.prog 26 #[.slice (some ⟨b, o, none⟩) (m + 4) cap] w fun e w' => e = .returned (.tuple #[.slice (some ⟨b, o, none⟩) m cap, .int .i64 0]) ∧ ∃ k, w' = w.drewN k := by
  have HA := hidden h
  have hl := h.2.2
  have hc := tail_cells h.1 hm
  have s0 := cut_high (some ⟨b, o, none⟩) (m + 4) cap m (by omega)
  have s1 := cut_low b o (m + 4) cap m (by omega) (by omega)
  rw [show m + 4 - m = 4 by omega] at s1
  have HB : Hid (Arg w (some ⟨b, o, none⟩) m B) := by
    have := h.1.take m
    rw [← hm, List.take_left] at this
    exact ⟨this, hm, by omega⟩
  have CN := hidden (fun (w : World) c0 c1 c2 c3 => number_calls b (o + m) (cap - m) t0 t1 t2 t3 w (h.1.1 t0 (by simp)) (h.1.1 t1 (by simp)) (h.1.1 t2 (by simp)) (h.1.1 t3 (by simp)) c0 c1 c2 c3)
  have CM := hidden (fun w h => rmore_calls 0 (some ⟨b, o, none⟩) m cap B w (by decide) h)
  generalize go 0 B = g at *
  generalize num 0 [t0, t1, t2, t3] = q at *
  have HC := hidden hc
  have d0 : ((q : Int) == (g : Int)) = true := by simp; omega
  clear h hne hm hc
  go_enter Tryd.func26, Tryd.ntmps26
  go_wp2_with fail
  go_quiet ((first | (go_at_call 39; exact Calls.quiet_of_same (CN.out _ (by exact HC.out.1) (by exact HC.out.2.1) (by exact HC.out.2.2.1) (by exact HC.out.2.2.2))) | (go_at_call 20; exact Calls.quiet_of_same (CM.out _ (by exact HB.out)))))
  go_wp2_with fail
  go_ret2
  exact ⟨rfl, _, rfl⟩

end Go.Proofs.YtifjlknlndndhaaDoor.RCrc
