/-
  What the reference's on, More, Bytes, Number, Seal and Open return, and what they make. They change nothing that was there.
-/
import Derived.Test.YtjhfjkacfnccdacDoorCrcO
import Derived.LoopN
namespace Go.Proofs.YtjhfjkacfnccdacDoor.RCrc
open Go.ChangeShapes Go.WideShapes Go.ChangeAt Go.RowKit Go.Proofs.YtjhfjkacfnccdacDoor.CM Go.Proofs.YtjhfjkacfnccdacDoor.Mem Go.Proofs.YtjhfjkacfnccdacDoor.Crc
set_option linter.unusedVariables false

theorem st_half (a : Nat) : st a = if a % 2 = 1 then a / 2 ^^^ T else a / 2 := rfl
theorem sts_next (k w : Nat) : sts (k + 1) w = st (sts k w) := sts_st k w

set_option maxHeartbeats 1000000 in
set_option maxRecDepth 100000 in
theorem on_calls (s c : Nat) (w : World) (hs : s < 4294967296) (hc : c < 256) :
    Calls Tryd.prog 33 #[.int .u32 (s : Int), .int .u8 (c : Int)] w fun e w' => e = .returned (.int .u32 (by1 s c : Nat)) ∧ w' = w := by
  have HX := hidden (u32_x8 s c hs hc)
  have hzc : s ^^^ c < 4294967296 := xor_lt hs (by omega)
  go_enter Tryd.func33, Tryd.ntmps33
  go_wp2_with fail
  go_loopw [0, 5] (fun x i wr => ∃ k : Nat, k ≤ 8 ∧ i = .int .i64 k ∧ x = .int .u32 (sts k (s ^^^ c) : Nat) ∧ wr = w) (fun _ i _ => 8 - (intOf i).toNat)
  case atStart => exact ⟨0, Nat.zero_le _, rfl, congrArg (Value.int .u32) HX.out, rfl⟩
  case round =>
    obtain ⟨k, hk, rfl, rfl, rfl⟩ := hrel
    have hlt : sts k (s ^^^ c) < 4294967296 := sts_lt hzc
    have HN := hidden (sts_next k (s ^^^ c))
    by_cases h8 : k < 8
    · generalize sts k (s ^^^ c) = a at *
      by_cases h2 : a % 2 = 1
      · have d : ((a : Int) % 2 == 1) = true := by simp; omega
        have HV : Hid (bits .xor .u32 ((a : Int) / 2) 3988292384 = ((sts (k + 1) (s ^^^ c) : Nat) : Int)) := by
          show bits .xor .u32 ((a : Int) / 2) 3988292384 = _
          rw [HN.out, st_half, if_pos h2, ← u32_xor_nat (a / 2) T (by omega) T_lt]; rfl
        clear h2
        go_wp2_with fail
        go_roundw
        case rel => exact ⟨k + 1, by omega, by go_num, congrArg (Value.int .u32) HV.out, trivial⟩
        case measure => simp [intOf]; omega
      · have d : ((a : Int) % 2 == 1) = false := by simp; omega
        have HV : Hid ((a : Int) / 2 = ((sts (k + 1) (s ^^^ c) : Nat) : Int)) := by
          show (a : Int) / 2 = _
          rw [HN.out, st_half, if_neg h2]; rfl
        clear h2
        go_wp2_with fail
        go_roundw
        case rel => exact ⟨k + 1, by omega, by go_num, congrArg (Value.int .u32) HV.out, trivial⟩
        case measure => simp [intOf]; omega
    · have e8 : k = 8 := by omega
      subst e8
      go_wp2_with fail
      go_ret
      exact ⟨rfl, rfl⟩

theorem turn (x : Nat) (h : x < 4294967296) : x ^^^ M = M - x := by
  have h1 := congrArg BitVec.toNat (BitVec.xor_allOnes (x := BitVec.ofNat 32 x))
  rw [BitVec.toNat_xor, BitVec.toNat_not, BitVec.toNat_ofNat, BitVec.toNat_allOnes, Nat.mod_eq_of_lt (by omega)] at h1
  exact h1
theorem turn_int (x : Nat) (h : x < 4294967296) : (4294967295 : Int) - (x : Int) = ((x ^^^ M : Nat) : Int) := by
  rw [turn x h]; unfold M; omega

set_option maxHeartbeats 1000000 in
set_option maxRecDepth 100000 in
theorem rmore_calls (s : Nat) (a : Option Addr) (len cap : Nat) (L : List Nat) (w : World) (hs : s < 4294967296) (h : Arg w a len L) :
    Calls Tryd.prog 27 #[.int .i64 (s : Int), .slice a len cap] w fun e w' => e = .returned (.int .i64 (go s L : Nat)) ∧ w' = w := by
  have HA := hidden h
  obtain ⟨_, hlen, hl⟩ := h
  subst hlen
  have hu : s ^^^ M < 4294967296 := xor_lt hs M_lt
  have HU := hidden (turn_int s hs)
  go_enter Tryd.func27, Tryd.ntmps27
  go_wp2_with fail
  go_loopw [5, 6] (fun x i wr => ∃ k : Nat, k ≤ L.length ∧ i = .int .i64 k ∧ x = .int .u32 (bys (s ^^^ M) (L.take k) : Nat) ∧ wr = w) (fun _ i _ => L.length - (intOf i).toNat)
  case atStart => exact ⟨0, Nat.zero_le _, rfl, congrArg (Value.int .u32) HU.out, rfl⟩
  case round =>
    obtain ⟨k, hk, rfl, rfl, rfl⟩ := hrel
    by_cases h : k < L.length
    · obtain ⟨b, o, rfl, hc⟩ := HA.out.1.2 k h
      have hcl := getD_lt L HA.out.1.1 k h
      have HT := hidden (bys_take (s ^^^ M) L k h)
      have hlt : bys (s ^^^ M) (L.take k) < 4294967296 := bys_lt hu (take_lt L HA.out.1.1 k)
      generalize L.getD k 0 = c at *
      generalize hz : bys (s ^^^ M) (L.take k) = z at *
      have HZ := hidden hz
      clear hz
      go_wp2_with fail
      refine (on_calls z c _ hlt hcl).mono ?_
      rintro e w ⟨rfl, rfl⟩
      go_wp2_with fail
      go_roundw
      case rel => exact ⟨k + 1, by omega, by go_num, by rw [HT.out], trivial⟩
      case measure => simp [intOf]; omega
    · have ek : k = L.length := by omega
      subst ek
      rw [List.take_length]
      have hlt : bys (s ^^^ M) L < 4294967296 := bys_lt hu HA.out.1.1
      have HR := hidden (turn_int _ hlt)
      go_wp2_with fail
      go_ret
      exact ⟨ret_int HR.out, rfl⟩

set_option maxHeartbeats 1000000 in
set_option maxRecDepth 100000 in
theorem number_calls (b o cap : Nat) (t0 t1 t2 t3 : Nat) (w : World) (h0 : t0 < 256) (h1 : t1 < 256) (h2 : t2 < 256) (h3 : t3 < 256)
    (c0 : w.cell? ⟨b, o, none⟩ = some (.int .u8 (t0 : Int))) (c1 : w.cell? ⟨b, o + 1, none⟩ = some (.int .u8 (t1 : Int))) (c2 : w.cell? ⟨b, o + 2, none⟩ = some (.int .u8 (t2 : Int))) (c3 : w.cell? ⟨b, o + 3, none⟩ = some (.int .u8 (t3 : Int))) :
    Calls Tryd.prog 24 #[.slice (some ⟨b, o, none⟩) 4 cap] w fun e w' => e = .returned (.int .i64 (num 0 [t0, t1, t2, t3] : Nat)) ∧ w' = w := by
  go_enter Tryd.func24, Tryd.ntmps24
  go_wp2_with fail
  refine wp_loop_rounds 5 ?_
  rw [rounds_succ]
  go_wp2_with fail
  rw [rounds_succ]
  go_wp2_with fail
  rw [rounds_succ]
  go_wp2_with fail
  rw [rounds_succ]
  go_wp2_with fail
  rw [rounds_succ]
  go_wp2_with fail
  go_ret
  exact ⟨ret_int (by simp [num]), rfl⟩

theorem one_block {x : Int} {n : Nat} (h : x = (n : Int)) : (#[Value.int .u8 x] : Array Value) = (cellsOf [n]).toArray := by rw [h]; rfl
theorem own_next {w : World} {base m k : Nat} {v : Value} {L K R : List Nat} (h : w.ownsRow base 5 1 v m (cellsOf L ++ cellsOf K)) (hm : m = k) (hR : L ++ K = R) : w.ownsRow base 5 1 v k (cellsOf R) := by
  rw [← cellsOf_app] at h
  rw [← hm, ← hR]; exact h

set_option maxHeartbeats 2000000 in
set_option maxRecDepth 100000 in
theorem bytes_calls (v : Value) (base len s : Nat) (L : List Nat) (w : World) (ho : w.ownsRow base 5 1 v len (cellsOf L)) (hb : base ≤ w.heap.size) (hr : len ≤ 140737488355324) (hs : s < 4294967296) :
    Calls Tryd.prog 17 #[v, .int .i64 (s : Int), .int .i64 4] w fun e w' => ∃ v', e = .returned v' ∧ w'.ownsRow base 5 1 v' (len + 4) (cellsOf (L ++ be4 s)) ∧ Below base w w' := by
  obtain ⟨i0, hii, hz0, hz1, hz2⟩ := info_parts info5
  have HO := hidden ho
  have HB : Hid (Below base w w) := Below.refl _ _
  clear ho
  go_enter Tryd.func17, Tryd.ntmps17
  go_wp2_with fail
  refine wp_loop_rounds 4 ?_
  rw [rounds_succ]
  go_wp2_with fail
  rw [rounds_succ]
  go_wp2_with fail
  rw [rounds_succ]
  go_wp2_with fail
  rw [rounds_succ]
  go_wp2_with fail
  refine wp_loop_rounds 5 ?_
  rw [rounds_succ]
  go_wp2_with (at_builtin; refine wpList_append_own _ rfl _ _ 22 rfl base 5 i0 (.int .u8 0) 1 1 Tryd.underlying22 hii hz0 hz1 hz2 rfl (by decide) _ len (cellsOf L) rfl (HO.out.alloc _) ⟨w.heap.size, 0, none⟩ 1 1 (cellsOf [(s / 16777216 % 256)]) rfl rfl ?c1 (cells_one _) ?b1 ?b2 ?b3 ?next)
  case c1 => rw [one_block (by omega : _ = (((s / 16777216 % 256) : Nat) : Int))]; exact bys_cells ((Row.new w [(s / 16777216 % 256)]).bys (by simp; omega)) _ rfl
  case b1 => unfold maxLen; omega
  case b2 => omega
  case b3 => have := HB.out.size; simp; omega
  case next =>
    intro v1 w1 hown hgrow _
    have HB : Hid (Below base w w1) := (HB.out.alloc (by have := HB.out.size; omega) _).grown hgrow (by have := HB.out.size; simp; omega) (fun k hk => (HO.out.lt k hk).1)
    have HO : Hid (w1.ownsRow base 5 1 v1 (len + 1) (cellsOf (L ++ [s / 16777216 % 256]))) := own_next hown rfl (by simp)
    clear hown hgrow
    go_wp2_with fail
    rw [rounds_succ]
    go_wp2_with (at_builtin; refine wpList_append_own _ rfl _ _ 22 rfl base 5 i0 (.int .u8 0) 1 1 Tryd.underlying22 hii hz0 hz1 hz2 rfl (by decide) _ (len + 1) (cellsOf (L ++ [s / 16777216 % 256])) rfl (HO.out.alloc _) ⟨w1.heap.size, 0, none⟩ 1 1 (cellsOf [(s / 65536 % 256)]) rfl rfl ?c1 (cells_one _) ?b1 ?b2 ?b3 ?next)
    case c1 => rw [one_block (by omega : _ = (((s / 65536 % 256) : Nat) : Int))]; exact bys_cells ((Row.new w1 [(s / 65536 % 256)]).bys (by simp; omega)) _ rfl
    case b1 => unfold maxLen; omega
    case b2 => omega
    case b3 => have := HB.out.size; simp; omega
    case next =>
      intro v2 w2 hown hgrow _
      have HB : Hid (Below base w w2) := (HB.out.alloc (by have := HB.out.size; omega) _).grown hgrow (by have := HB.out.size; simp; omega) (fun k hk => (HO.out.lt k hk).1)
      have HO : Hid (w2.ownsRow base 5 1 v2 (len + 2) (cellsOf (L ++ [s / 16777216 % 256, s / 65536 % 256]))) := own_next hown rfl (by simp)
      clear hown hgrow
      go_wp2_with fail
      rw [rounds_succ]
      go_wp2_with (at_builtin; refine wpList_append_own _ rfl _ _ 22 rfl base 5 i0 (.int .u8 0) 1 1 Tryd.underlying22 hii hz0 hz1 hz2 rfl (by decide) _ (len + 2) (cellsOf (L ++ [s / 16777216 % 256, s / 65536 % 256])) rfl (HO.out.alloc _) ⟨w2.heap.size, 0, none⟩ 1 1 (cellsOf [(s / 256 % 256)]) rfl rfl ?c1 (cells_one _) ?b1 ?b2 ?b3 ?next)
      case c1 => rw [one_block (by omega : _ = (((s / 256 % 256) : Nat) : Int))]; exact bys_cells ((Row.new w2 [(s / 256 % 256)]).bys (by simp; omega)) _ rfl
      case b1 => unfold maxLen; omega
      case b2 => omega
      case b3 => have := HB.out.size; simp; omega
      case next =>
        intro v3 w3 hown hgrow _
        have HB : Hid (Below base w w3) := (HB.out.alloc (by have := HB.out.size; omega) _).grown hgrow (by have := HB.out.size; simp; omega) (fun k hk => (HO.out.lt k hk).1)
        have HO : Hid (w3.ownsRow base 5 1 v3 (len + 3) (cellsOf (L ++ [s / 16777216 % 256, s / 65536 % 256, s / 256 % 256]))) := own_next hown rfl (by simp)
        clear hown hgrow
        go_wp2_with fail
        rw [rounds_succ]
        go_wp2_with (at_builtin; refine wpList_append_own _ rfl _ _ 22 rfl base 5 i0 (.int .u8 0) 1 1 Tryd.underlying22 hii hz0 hz1 hz2 rfl (by decide) _ (len + 3) (cellsOf (L ++ [s / 16777216 % 256, s / 65536 % 256, s / 256 % 256])) rfl (HO.out.alloc _) ⟨w3.heap.size, 0, none⟩ 1 1 (cellsOf [(s % 256)]) rfl rfl ?c1 (cells_one _) ?b1 ?b2 ?b3 ?next)
        case c1 => rw [one_block (by omega : _ = (((s % 256) : Nat) : Int))]; exact bys_cells ((Row.new w3 [(s % 256)]).bys (by simp; omega)) _ rfl
        case b1 => unfold maxLen; omega
        case b2 => omega
        case b3 => have := HB.out.size; simp; omega
        case next =>
          intro v4 w4 hown hgrow _
          have HB : Hid (Below base w w4) := (HB.out.alloc (by have := HB.out.size; omega) _).grown hgrow (by have := HB.out.size; simp; omega) (fun k hk => (HO.out.lt k hk).1)
          have HO : Hid (w4.ownsRow base 5 1 v4 (len + 4) (cellsOf (L ++ [s / 16777216 % 256, s / 65536 % 256, s / 256 % 256, s % 256]))) := own_next hown rfl (by simp)
          clear hown hgrow
          go_wp2_with fail
          rw [rounds_succ]
          go_wp2_with fail
          go_ret
          exact ⟨v4, rfl, HO.out, HB.out⟩

set_option maxHeartbeats 1000000 in
set_option maxRecDepth 100000 in
theorem rseal_calls (a : Option Addr) (len cap : Nat) (L : List Nat) (w : World) (h : Arg w a len L) (hn : a = none → len = 0 ∧ cap = 0) (hr : len ≤ 140737488355320) :
    Calls Tryd.prog 18 #[.slice a len cap] w fun e w' => ∃ v', e = .returned v' ∧ w'.ownsRow w.heap.size 5 1 v' (len + 4) (cellsOf (L ++ be4 (go 0 L))) ∧ Below w.heap.size w w' := by
  have HA := hidden h
  have HN := hidden hn
  have hs : go 0 L < 4294967296 := go_lt (by decide) h.1.1
  have HM := hidden (fun w h => rmore_calls 0 a len cap L w (by decide) h)
  generalize hgo : go 0 L = s at *
  obtain ⟨i0, hii, hz0, hz1, hz2⟩ := info_parts info5
  clear h hn hgo
  go_enter Tryd.func18, Tryd.ntmps18
  go_wp2_with (at_builtin; refine append_any rfl _ _ 22 rfl w.heap.size 5 i0 (.int .u8 0) 1 1 Tryd.underlying22 hii hz0 hz1 hz2 rfl (by decide) _ 0 [] rfl (World.ownsRow_nil _ _ _ _) a len cap (cellsOf L) rfl ?al HN.out ?ac (cells_one L) ?b1 ?b2 ?b3 ?next)
  case al => rw [cellsOf_len, HA.out.2.1]; omega
  case ac => exact bys_cells HA.out.1
  case b1 => unfold maxLen; omega
  case b2 => omega
  case b3 => exact Nat.le_refl _
  case next =>
    intro v1 w1 hown hgrow
    have HB1 : Hid (Below w.heap.size w w1) := (Below.refl _ _).grown hgrow (Nat.le_refl _) (by simp [Value.ownBlock])
    have HO1 : Hid (w1.ownsRow w.heap.size 5 1 v1 len (cellsOf L)) := own_next (L := []) hown (by omega) rfl
    clear hown hgrow
    go_wp2_with fail
    refine (HM.out _ (HA.out.below HB1.out)).mono ?_
    rintro e w1 ⟨rfl, rfl⟩
    go_wp2_with fail
    refine (bytes_calls v1 w.heap.size len s L _ HO1.out HB1.out.size (by omega) hs).mono ?_
    rintro e w2 ⟨v2, rfl, ho, hb⟩
    have HO2 := hidden ho
    have HB2 := hidden (HB1.out.trans hb)
    clear ho hb
    go_wp2_with fail
    go_ret
    exact ⟨v2, rfl, HO2.out, HB2.out⟩

set_option maxHeartbeats 400000 in
theorem ropen_short (a : Option Addr) (len cap : Nat) (w : World) (h : len < 4) :
    Calls Tryd.prog 23 #[.slice a len cap] w fun e w' => e = .returned (.tuple #[.slice none 0 0, .int .i64 8]) ∧ w' = w := by
  go_enter Tryd.func23, Tryd.ntmps23
  go_wp2_with fail
  go_ret2
  exact ⟨rfl, rfl⟩

set_option maxHeartbeats 1000000 in
set_option maxRecDepth 100000 in
theorem ropen_bad (b o cap m : Nat) (B : List Nat) (t0 t1 t2 t3 : Nat) (w : World) (hm : B.length = m) (h : Arg w (some ⟨b, o, none⟩) (m + 4) (B ++ [t0, t1, t2, t3])) (hcc : m + 4 ≤ cap) (hne : num 0 [t0, t1, t2, t3] ≠ go 0 B) :
    Calls Tryd.prog 23 #[.slice (some ⟨b, o, none⟩) (m + 4) cap] w fun e w' => e = .returned (.tuple #[.slice none 0 0, .int .i64 9]) ∧ ∃ k, w' = w.drewN k := by
  have HA := hidden h
  have hl := h.2.2
  have hc := tail_cells h.1 hm
  have s0 := cut_high (some ⟨b, o, none⟩) (m + 4) cap m (by omega)
  have s1 := cut_low b o (m + 4) cap m (by omega) (by omega)
  rw [show m + 4 - m = 4 by omega] at s1
  have HB : Hid (Arg w (some ⟨b, o, none⟩) m B) := by
    have := h.1.take m
    rw [← hm, List.take_left] at this
    exact ⟨this, hm, by omega⟩
  have CN := hidden (fun (w : World) c0 c1 c2 c3 => number_calls b (o + m) (cap - m) t0 t1 t2 t3 w (h.1.1 t0 (by simp)) (h.1.1 t1 (by simp)) (h.1.1 t2 (by simp)) (h.1.1 t3 (by simp)) c0 c1 c2 c3)
  have CM := hidden (fun w h => rmore_calls 0 (some ⟨b, o, none⟩) m cap B w (by decide) h)
  generalize go 0 B = g at *
  generalize num 0 [t0, t1, t2, t3] = q at *
  have HC := hidden hc
  have d0 : ((q : Int) == (g : Int)) = false := by simp; omega
  clear h hne hm hc
  go_enter Tryd.func23, Tryd.ntmps23
  go_wp2_with fail
  go_quiet ((first | (go_at_call 24; exact Calls.quiet_of_same (CN.out _ (by exact HC.out.1) (by exact HC.out.2.1) (by exact HC.out.2.2.1) (by exact HC.out.2.2.2))) | (go_at_call 27; exact Calls.quiet_of_same (CM.out _ (by exact HB.out)))))
  go_wp2_with fail
  go_ret2
  exact ⟨rfl, _, rfl⟩

set_option maxHeartbeats 1000000 in
set_option maxRecDepth 100000 in
theorem ropen_good (b o cap m : Nat) (B : List Nat) (t0 t1 t2 t3 : Nat) (w : World) (hm : B.length = m) (h : Arg w (some ⟨b, o, none⟩) (m + 4) (B ++ [t0, t1, t2, t3])) (hcc : m + 4 ≤ cap) (hne : num 0 [t0, t1, t2, t3] = go 0 B) :
    Calls Tryd.prog 23 #[.slice (some ⟨b, o, none⟩) (m + 4) cap] w fun e w' => e = .returned (.tuple #[.slice (some ⟨b, o, none⟩) m cap, .int .i64 0]) ∧ ∃ k, w' = w.drewN k := by
  have HA := hidden h
  have hl := h.2.2
  have hc := tail_cells h.1 hm
  have s0 := cut_high (some ⟨b, o, none⟩) (m + 4) cap m (by omega)
  have s1 := cut_low b o (m + 4) cap m (by omega) (by omega)
  rw [show m + 4 - m = 4 by omega] at s1
  have HB : Hid (Arg w (some ⟨b, o, none⟩) m B) := by
    have := h.1.take m
    rw [← hm, List.take_left] at this
    exact ⟨this, hm, by omega⟩
  have CN := hidden (fun (w : World) c0 c1 c2 c3 => number_calls b (o + m) (cap - m) t0 t1 t2 t3 w (h.1.1 t0 (by simp)) (h.1.1 t1 (by simp)) (h.1.1 t2 (by simp)) (h.1.1 t3 (by simp)) c0 c1 c2 c3)
  have CM := hidden (fun w h => rmore_calls 0 (some ⟨b, o, none⟩) m cap B w (by decide) h)
  generalize go 0 B = g at *
  generalize num 0 [t0, t1, t2, t3] = q at *
  have HC := hidden hc
  have d0 : ((q : Int) == (g : Int)) = true := by simp; omega
  clear h hne hm hc
  go_enter Tryd.func23, Tryd.ntmps23
  go_wp2_with fail
  go_quiet ((first | (go_at_call 24; exact Calls.quiet_of_same (CN.out _ (by exact HC.out.1) (by exact HC.out.2.1) (by exact HC.out.2.2.1) (by exact HC.out.2.2.2))) | (go_at_call 27; exact Calls.quiet_of_same (CM.out _ (by exact HB.out)))))
  go_wp2_with fail
  go_ret2
  exact ⟨rfl, _, rfl⟩

end Go.Proofs.YtjhfjkacfnccdacDoor.RCrc
