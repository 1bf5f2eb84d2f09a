/-
  What the reference's FrameBytes and ReadFrame return, and what they make. They change nothing that was there.
-/
import Derived.Test.YtjhfjkacfnccdacDoorRFrame
namespace Go.Proofs.YtjhfjkacfnccdacDoor.RFrame
open Go.ChangeShapes Go.WideShapes Go.ChangeAt Go.RowKit Go.Proofs.YtjhfjkacfnccdacDoor.PM Go.Proofs.YtjhfjkacfnccdacDoor.CM Go.Proofs.YtjhfjkacfnccdacDoor.Mem Go.Proofs.YtjhfjkacfnccdacDoor.Pack Go.Proofs.YtjhfjkacfnccdacDoor.FM Go.Proofs.YtjhfjkacfnccdacDoor.Frame
set_option linter.unusedVariables false

theorem blk4h {x y z : Int} {a b c : Nat} (hx : x = (a : Int)) (hy : y = (b : Int)) (hz : z = (c : Int)) : (#[Value.int .u8 70, .int .u8 x, .int .u8 y, .int .u8 z] : Array Value) = (cellsOf [70, a, b, c]).toArray := by rw [hx, hy, hz]; rfl

set_option maxHeartbeats 1000000 in
set_option maxRecDepth 100000 in
theorem rframebytes_calls (t o e p : Nat) (a : Option Addr) (n cap : Nat) (B : List Nat) (w : World) (h : Arg w a n B) (hn : a = none → n = 0 ∧ cap = 0) (h2 : t ≤ 8) (h3 : o ≤ 15) (h4 : e ≤ 65535) (h5 : p ≤ 64) (hb : n ≤ 1008) :
    Calls Tryd.prog 6 #[.agg #[.int .i64 (t : Int), .int .i64 (o : Int), .int .i64 (e : Int), .int .i64 (p : Int), .slice a n cap]] w fun ev w' => ∃ a' m c', ev = .returned (.slice a' m c') ∧ Below w.heap.size w w' ∧ Arg w' a' m (fbytes t o e p B) := by
  have HA := hidden h
  have HN := hidden hn
  have HI := hidden (inner_lt h2 h3 h4 h5 h.1.1)
  obtain ⟨i0, hii, hz0, hz1, hz2⟩ := info_parts info5
  have HX := hidden (FBox.new w t o e p (.slice a n cap))
  have hl := h.2.1
  clear h hn
  go_enter Tryd.func6, Tryd.ntmps6
  go_wp2_with fail
  refine (RPack.rbytes2_calls _ (w.heap.size + 1) 4 e [70, t, o, p] _ ?own ?hb ?hr ?hs).mono ?_
  case own =>
    rw [blk4h (a := t) (b := o) (c := p) (by omega) (by omega) (by omega)]
    have := World.ownsRow_lit (w.alloc (.cells #[.int .i64 (t : Int), .int .i64 (o : Int), .int .i64 (e : Int), .int .i64 (p : Int), .slice a n cap] 24)) (e := 5) (cellsOf [70, t, o, p]).toArray 4 (base := w.heap.size + 1) (size := 1) (by simp) (by unfold maxLen; omega) rfl
    simpa using this
  case hb => simp
  case hr => omega
  case hs => omega
  rintro ev w2 ⟨v2, rfl, ho2, hb2⟩
  have HO2 : Hid (w2.ownsRow (w.heap.size + 1) 5 1 v2 6 (cellsOf (fhead t o e p))) := ho2
  have HX2 := hidden ((HX.out.alloc _).below hb2 (by omega))
  have HB2 := hidden ((((Below.refl w.heap.size w).alloc (Nat.le_refl _) _).alloc (by simp) _).trans (hb2.mono (by omega)))
  have hsz2 : w.heap.size + 1 ≤ w2.heap.size := by have := HX2.out.lt; omega
  clear ho2 hb2 HX
  obtain ⟨c0, c1, c2, c3, c4⟩ := HX2.out.cells
  go_wp2_with (at_builtin; refine append_any rfl _ _ 22 rfl (w.heap.size + 1) 5 i0 (.int .u8 0) 1 1 Tryd.underlying22 hii hz0 hz1 hz2 rfl (by decide) _ 6 (cellsOf (fhead t o e p)) rfl HO2.out a n cap (cellsOf B) rfl ?al HN.out ?ac (cells_one B) ?b1 ?b2 ?b3 ?next)
  case al => rw [cellsOf_len, HA.out.2.1]; omega
  case ac => exact bys_cells (HA.out.1.below HB2.out)
  case b1 => unfold maxLen; omega
  case b2 => omega
  case b3 => exact hsz2
  case next =>
  intro v4 w4 hown hgrow
  have HB4 := hidden (HB2.out.grown hgrow HB2.out.size (fun k hk => by have := (HO2.out.lt k hk).1; omega))
  rw [← cellsOf_app] at hown
  obtain ⟨a4, k4, rfl, hA4, hn4, _, _⟩ := own_slice hown HI.out (by omega)
  have HA4 := hidden hA4
  have HS := hidden (RCrc.rseal_calls a4 (6 + n) k4 (fhead t o e p ++ B) w4 hA4 hn4 (by omega))
  clear hown hgrow hA4 hn4 c0 c1 c2 c3 c4
  go_wp2_with fail
  refine HS.out.mono ?_
  rintro ev w5 ⟨v5, rfl, ho5, hb5⟩
  obtain ⟨a5, k5, rfl, hA5, _⟩ := own_slice ho5 (sealed_lt HI.out) (by omega)
  have HA5 := hidden hA5
  have HB5 := hidden (HB4.out.trans (hb5.mono HB4.out.size))
  clear ho5 hb5 hA5 HS
  go_wp2_with fail
  go_ret
  exact ⟨a5, _, k5, rfl, HB5.out, HA5.out⟩

set_option maxHeartbeats 1000000 in
set_option maxRecDepth 100000 in
theorem rrf_open (a : Option Addr) (n cap : Nat) (B : List Nat) (w : World) (h : Arg w a n B) (hc : n ≤ cap) (hf : ofault B ≠ 0) :
    Calls Tryd.prog 10 #[.slice a n cap] w fun e w' => e = .returned (.tuple #[.agg #[.int .i64 0, .int .i64 0, .int .i64 0, .int .i64 0, .slice none 0 0], .int .i64 (ofault B : Nat)]) ∧ Below w.heap.size w w' := by
  have HO := hidden (fun W h => ropen_all a n cap B W h hc)
  have HA := hidden h
  generalize ofault B = f at *
  have d : ((f : Int) == 0) = false := by rw [beq_eq_false_iff_ne]; omega
  clear h
  go_enter Tryd.func10, Tryd.ntmps10
  go_wp2_with fail
  refine (HO.out _ (HA.out.below (Res.new w).1)).mono ?_
  rintro e w1 ⟨a1, m1, c1, rfl, hb1, _⟩
  have HX := hidden ((Res.new w).next hb1)
  clear hb1
  obtain ⟨x0, x1, x2, x3, x4⟩ := HX.out.2.cells
  have f0 := HX.out.2.free
  go_wp2_with fail
  refine bodyPost_ret (res_fr (g := w.heap.size) rfl rfl (HX.out.2.set5 0 0 0 0 (.slice none 0 0))) rfl ?_
  exact ⟨rfl, HX.out.below5 _ _ _ _ _⟩

set_option maxHeartbeats 1000000 in
set_option maxRecDepth 100000 in
theorem rrf_short (a : Option Addr) (n cap : Nat) (B : List Nat) (w : World) (h : Arg w a n B) (hc : n ≤ cap) (hf : ofault B = 0) (hs : (opened B).length < 6) :
    Calls Tryd.prog 10 #[.slice a n cap] w fun e w' => e = .returned (.tuple #[.agg #[.int .i64 0, .int .i64 0, .int .i64 0, .int .i64 0, .slice none 0 0], .int .i64 8]) ∧ Below w.heap.size w w' := by
  have HO := hidden (fun W h => ropen_all a n cap B W h hc)
  have HA := hidden h
  generalize ofault B = f at *
  subst hf
  clear h
  go_enter Tryd.func10, Tryd.ntmps10
  go_wp2_with fail
  refine (HO.out _ (HA.out.below (Res.new w).1)).mono ?_
  rintro e w1 ⟨a1, m1, c1, rfl, hb1, hx⟩
  obtain ⟨hA1, _, ha1⟩ := hx (by trivial)
  have hm : m1 < 6 := by have := hA1.2.1; omega
  have HX := hidden ((Res.new w).next hb1)
  clear hb1 hx hA1 ha1
  obtain ⟨x0, x1, x2, x3, x4⟩ := HX.out.2.cells
  have f0 := HX.out.2.free
  go_wp2_with fail
  refine bodyPost_ret (res_fr (g := w.heap.size) rfl rfl (HX.out.2.set5 0 0 0 0 (.slice none 0 0))) rfl ?_
  exact ⟨rfl, HX.out.below5 _ _ _ _ _⟩

set_option maxHeartbeats 1000000 in
set_option maxRecDepth 100000 in
theorem rrf_syntax (a : Option Addr) (n cap : Nat) (B : List Nat) (w : World) (h : Arg w a n B) (hc : n ≤ cap) (hf : ofault B = 0) (y0 : Nat) (R : List Nat) (hX : opened B = y0 :: R) (hs : 5 ≤ R.length) (h7 : y0 ≠ 70) :
    Calls Tryd.prog 10 #[.slice a n cap] w fun e w' => e = .returned (.tuple #[.agg #[.int .i64 0, .int .i64 0, .int .i64 0, .int .i64 0, .slice none 0 0], .int .i64 2]) ∧ Below w.heap.size w w' := by
  have HO := hidden (fun W h => ropen_all a n cap B W h hc)
  have hlt : y0 < 256 := opened_lt h.1.1 y0 (by rw [hX]; simp)
  have HA := hidden h
  generalize ofault B = f at *
  subst hf
  simp only [hX] at HO
  have d7 : ((y0 : Int) == 70) = false := by rw [beq_eq_false_iff_ne]; omega
  clear h hX h7
  go_enter Tryd.func10, Tryd.ntmps10
  go_wp2_with fail
  refine (HO.out _ (HA.out.below (Res.new w).1)).mono ?_
  rintro e w1 ⟨a1, m1, c1, rfl, hb1, hx⟩
  obtain ⟨hA1, _, ha1⟩ := hx (by trivial)
  have hm : R.length + 1 = m1 := by have := hA1.2.1; simpa using this
  obtain ⟨b, o, rfl⟩ := arg_at hA1 (by omega)
  have c0 : w1.cell? ⟨b, o, none⟩ = some (.int .u8 (y0 : Int)) := arg_cell hA1 0 (by omega)
  have HX := hidden ((Res.new w).next hb1)
  have n0 : (0 : Int) < (m1 : Int) := by omega
  have n6 : decide ((m1 : Int) < 6) = false := by simp; omega
  clear hb1 hx hA1 ha1 hm
  obtain ⟨x0, x1, x2, x3, x4⟩ := HX.out.2.cells
  have f0 := HX.out.2.free
  go_wp2_with fail
  refine bodyPost_ret (res_fr (g := w.heap.size) rfl rfl (HX.out.2.set5 0 0 0 0 (.slice none 0 0))) rfl ?_
  exact ⟨rfl, HX.out.below5 _ _ _ _ _⟩
end Go.Proofs.YtjhfjkacfnccdacDoor.RFrame
