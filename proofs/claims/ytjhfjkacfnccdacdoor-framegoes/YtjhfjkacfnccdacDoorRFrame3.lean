/-
  What the reference's ReadFrame returns of bytes that open, and have the mark. It changes nothing that was there.
-/
import Derived.Test.YtjhfjkacfnccdacDoorRFrame2
namespace Go.Proofs.YtjhfjkacfnccdacDoor.RFrame
open Go.ChangeShapes Go.WideShapes Go.ChangeAt Go.RowKit Go.Proofs.YtjhfjkacfnccdacDoor.PM Go.Proofs.YtjhfjkacfnccdacDoor.CM Go.Proofs.YtjhfjkacfnccdacDoor.Mem Go.Proofs.YtjhfjkacfnccdacDoor.Pack Go.Proofs.YtjhfjkacfnccdacDoor.FM Go.Proofs.YtjhfjkacfnccdacDoor.Frame
set_option linter.unusedVariables false

/-- what the reference's ReadFrame answers of bytes within -/
def RRPost (w w' : World) (q : Nat) (t o e p : Int) (R : List Nat) (ev : Ending) : Prop :=
  ∃ a' m c', Below w.heap.size w w' ∧ ((q ≠ 0 ∧ ev = .returned (.tuple #[.agg #[.int .i64 0, .int .i64 0, .int .i64 0, .int .i64 0, .slice none 0 0], .int .i64 (q : Int)])) ∨
    (q = 0 ∧ ev = .returned (.tuple #[.agg #[.int .i64 t, .int .i64 o, .int .i64 e, .int .i64 p, .slice a' m c'], .int .i64 0]) ∧ Arg w' a' m R ∧ m ≤ c' ∧ (a' = none → m = 0 ∧ c' = 0)))

set_option maxHeartbeats 2000000 in
set_option maxRecDepth 100000 in
theorem rrf_rest (a : Option Addr) (n cap : Nat) (B : List Nat) (w : World) (h : Arg w a n B) (hc : n ≤ cap) (hf : ofault B = 0) (y1 y2 y3 y4 y5 : Nat) (R : List Nat) (hX : opened B = 70 :: y1 :: y2 :: y3 :: y4 :: y5 :: R) :
    Calls Tryd.prog 10 #[.slice a n cap] w fun e w' => RRPost w w' (ffault y1 y2 ((y4 * 256 + y5 : Nat) : Int) y3 R) y1 y2 ((y4 * 256 + y5 : Nat) : Int) y3 R e := by
  have HO := hidden (fun W h => ropen_all a n cap B W h hc)
  have hlt : ∀ c ∈ opened B, c < 256 := opened_lt h.1.1
  rw [hX] at hlt
  have hn6 : 6 ≤ n := by
    have h1 : (opened B).length ≤ B.length := by unfold opened; simp
    have h2 := h.2.1
    rw [hX] at h1
    simp at h1
    omega
  have l1 := hlt y1 (by simp)
  have l2 := hlt y2 (by simp)
  have l3 := hlt y3 (by simp)
  have l4 := hlt y4 (by simp)
  have l5 := hlt y5 (by simp)
  have HA := hidden h
  have hw1 : IntKind.i64.wrap (y1 : Int) = (y1 : Int) := i64_wrap (by omega) (by omega)
  have hw2 : IntKind.i64.wrap (y2 : Int) = (y2 : Int) := i64_wrap (by omega) (by omega)
  have hw3 : IntKind.i64.wrap (y3 : Int) = (y3 : Int) := i64_wrap (by omega) (by omega)
  have HNU := hidden (fun W b o cap c4 c5 => RPack.rnumber2_calls b o cap y4 y5 W l4 l5 c4 c5)
  have HC := hidden (fun W a' m c' h hc => rframe_calls y1 y2 ((y4 * 256 + y5 : Nat) : Int) y3 a' m c' R W h hc)
  generalize ffault y1 y2 ((y4 * 256 + y5 : Nat) : Int) y3 R = q at *
  generalize ((y4 * 256 + y5 : Nat) : Int) = EP at *
  generalize ofault B = f at *
  subst hf
  simp only [hX] at HO
  clear h hX hlt
  go_enter Tryd.func10, Tryd.ntmps10
  go_wp2_with fail
  refine (HO.out _ (HA.out.below (Res.new w).1)).mono ?_
  rintro e w1 ⟨a1, m1, k1, rfl, hb1, hx⟩
  obtain ⟨hA1, hk1, ha1⟩ := hx (by trivial)
  have hm : R.length + 6 = m1 := by have := hA1.2.1; simpa using this
  obtain ⟨b, o, rfl⟩ := arg_at hA1 (by omega)
  have hmx := hA1.2.2
  have hbl : b < w.heap.size := by
    have hA0 := HA.out
    rw [← ha1] at hA0
    have := World.block_lt_of_cell? w _ (arg_cell hA0 0 (by omega))
    exact this
  have c0 : w1.cell? ⟨b, o, none⟩ = some (.int .u8 70) := arg_cell hA1 0 (by omega)
  have c1 : w1.cell? ⟨b, o + 1, none⟩ = some (.int .u8 (y1 : Int)) := arg_cell hA1 1 (by omega)
  have c2 : w1.cell? ⟨b, o + 2, none⟩ = some (.int .u8 (y2 : Int)) := arg_cell hA1 2 (by omega)
  have c3 : w1.cell? ⟨b, o + 3, none⟩ = some (.int .u8 (y3 : Int)) := arg_cell hA1 3 (by omega)
  have c4 : w1.cell? ⟨b, o + 4, none⟩ = some (.int .u8 (y4 : Int)) := arg_cell hA1 4 (by omega)
  have c5 : w1.cell? ⟨b, o + 5, none⟩ = some (.int .u8 (y5 : Int)) := arg_cell hA1 5 (by omega)
  have d1 := fun O => cell_alloc c1 O
  have d2 := fun O => cell_alloc c2 O
  have d3 := fun O => cell_alloc c3 O
  have d4 := fun O => cell_alloc c4 O
  have d5 := fun O => cell_alloc c5 O
  have e6 : ∀ w, (Instr.slice 22 (.slice (some ⟨b, o, none⟩) m1 k1) (some (.int .i64 6)) none none).run Tryd.prog w = .ok (.slice (cutAt (some ⟨b, o, none⟩) k1 6) (m1 - 6) (k1 - 6)) w := fun w => cut_l (some ⟨b, o, none⟩) m1 k1 6 (by omega) w
  have HR : Hid (Arg w1 (cutAt (some ⟨b, o, none⟩) k1 6) (m1 - 6) R) := by
    have := cut_arg (l := 6) (h := m1) hA1 (by omega) (Nat.le_refl _) hk1
    rw [show (70 :: y1 :: y2 :: y3 :: y4 :: y5 :: R).drop 6 = R from rfl, List.take_of_length_le (by omega)] at this
    exact this
  have hk6 : m1 - 6 ≤ k1 - 6 := by omega
  have HP : Hid (∀ ad, cutAt (some ⟨b, o, none⟩) k1 6 = some ad → ad.block = b) := fun ad h => cutAt_block ad h
  have e4 : ∀ w, (Instr.slice 22 (.slice (some ⟨b, o, none⟩) m1 k1) (some (.int .i64 4)) (some (.int .i64 6)) none).run Tryd.prog w = .ok (.slice (some ⟨b, o + 4, none⟩) 2 (k1 - 4)) w := fun w => by
    have := cut_lh (some ⟨b, o, none⟩) m1 k1 4 6 (by omega) (by omega) w
    rw [show cutAt (some ⟨b, o, none⟩) k1 4 = some ⟨b, o + 4, none⟩ by unfold cutAt; rw [if_neg (by omega)]; rfl] at this
    exact this
  have HNB : Hid (∀ W : World, (W.cell? ⟨b, o + 1, none⟩ = some (.int .u8 (y1 : Int)) ∧ W.cell? ⟨b, o + 2, none⟩ = some (.int .u8 (y2 : Int)) ∧ W.cell? ⟨b, o + 3, none⟩ = some (.int .u8 (y3 : Int)) ∧ Hid (W.cell? ⟨b, o + 4, none⟩ = some (.int .u8 (y4 : Int)) ∧ W.cell? ⟨b, o + 5, none⟩ = some (.int .u8 (y5 : Int)))) → Calls Tryd.prog 24 #[.slice (some ⟨b, o + 4, none⟩) 2 (k1 - 4)] W fun e w' => e = .returned (.int .i64 EP) ∧ w' = W) := fun W hW => HNU.out W b (o + 4) (k1 - 4) hW.2.2.2.out.1 hW.2.2.2.out.2
  have HN : Hid (cutAt (some ⟨b, o, none⟩) k1 6 = none → m1 - 6 = 0 ∧ k1 - 6 = 0) := fun h => by have := cutAt_none h; simp at this
  generalize cutAt (some ⟨b, o, none⟩) k1 6 = aR at *
  have HX := hidden ((Res.new w).next hb1)
  have n0 : (0 : Int) < (m1 : Int) := by omega
  have n1 : (1 : Int) < (m1 : Int) := by omega
  have n2 : (2 : Int) < (m1 : Int) := by omega
  have n3 : (3 : Int) < (m1 : Int) := by omega
  have n4 : (4 : Int) < (m1 : Int) := by omega
  have n5 : (5 : Int) < (m1 : Int) := by omega
  have n6 : decide ((m1 : Int) < 6) = false := by simp; omega
  have HAL : Hid (∀ (W : World) (O : Obj), (W.cell? ⟨b, o + 1, none⟩ = some (.int .u8 (y1 : Int)) ∧ W.cell? ⟨b, o + 2, none⟩ = some (.int .u8 (y2 : Int)) ∧ W.cell? ⟨b, o + 3, none⟩ = some (.int .u8 (y3 : Int)) ∧ Hid (W.cell? ⟨b, o + 4, none⟩ = some (.int .u8 (y4 : Int)) ∧ W.cell? ⟨b, o + 5, none⟩ = some (.int .u8 (y5 : Int)))) → ((W.alloc O).cell? ⟨b, o + 1, none⟩ = some (.int .u8 (y1 : Int)) ∧ (W.alloc O).cell? ⟨b, o + 2, none⟩ = some (.int .u8 (y2 : Int)) ∧ (W.alloc O).cell? ⟨b, o + 3, none⟩ = some (.int .u8 (y3 : Int)) ∧ Hid ((W.alloc O).cell? ⟨b, o + 4, none⟩ = some (.int .u8 (y4 : Int)) ∧ (W.alloc O).cell? ⟨b, o + 5, none⟩ = some (.int .u8 (y5 : Int))))) := fun W O hW =>
    ⟨cell_alloc hW.1 O, cell_alloc hW.2.1 O, cell_alloc hW.2.2.1 O, cell_alloc hW.2.2.2.out.1 O, cell_alloc hW.2.2.2.out.2 O⟩
  have hS0 : (w1.drew.cell? ⟨b, o + 1, none⟩ = some (.int .u8 (y1 : Int)) ∧ w1.drew.cell? ⟨b, o + 2, none⟩ = some (.int .u8 (y2 : Int)) ∧ w1.drew.cell? ⟨b, o + 3, none⟩ = some (.int .u8 (y3 : Int)) ∧ Hid (w1.drew.cell? ⟨b, o + 4, none⟩ = some (.int .u8 (y4 : Int)) ∧ w1.drew.cell? ⟨b, o + 5, none⟩ = some (.int .u8 (y5 : Int)))) := ⟨c1, c2, c3, c4, c5⟩
  have hS1 : (w1.cell? ⟨b, o + 1, none⟩ = some (.int .u8 (y1 : Int)) ∧ w1.cell? ⟨b, o + 2, none⟩ = some (.int .u8 (y2 : Int)) ∧ w1.cell? ⟨b, o + 3, none⟩ = some (.int .u8 (y3 : Int)) ∧ Hid (w1.cell? ⟨b, o + 4, none⟩ = some (.int .u8 (y4 : Int)) ∧ w1.cell? ⟨b, o + 5, none⟩ = some (.int .u8 (y5 : Int)))) := ⟨c1, c2, c3, c4, c5⟩
  generalize k1 - 4 = k4 at *
  clear hb1 hx hA1 hm ha1 c1 c2 c3 c4 c5 d1 d2 d3 d4 d5
  go_upto_region 8 with fail
  go_cut [6] from 7 (fun x wx => x = .pointer (some ⟨w1.heap.size, 0, none⟩) ∧ wx = (w1.alloc (.cells #[.int .i64 (y1 : Int), .int .i64 (y2 : Int), .int .i64 EP, .int .i64 (y3 : Int), .slice aR (m1 - 6) (k1 - 6)] 24)).drew)
  case first =>
    go_region_held3 (fun w' => (w'.cell? ⟨b, o + 1, none⟩ = some (.int .u8 (y1 : Int)) ∧ w'.cell? ⟨b, o + 2, none⟩ = some (.int .u8 (y2 : Int)) ∧ w'.cell? ⟨b, o + 3, none⟩ = some (.int .u8 (y3 : Int)) ∧ Hid (w'.cell? ⟨b, o + 4, none⟩ = some (.int .u8 (y4 : Int)) ∧ w'.cell? ⟨b, o + 5, none⟩ = some (.int .u8 (y5 : Int))))) (first | with_reducible assumption | exact HAL.out _ _ (by with_reducible assumption))
      (first
        | (go_at_call 24; refine (HNB.out _ (by first | assumption | exact HAL.out w1 _ hS0)).mono ?_; rintro e w' ⟨rfl, rfl⟩))
    all_goals go_wp2_with fail
    all_goals go_meet
    all_goals exact ⟨rfl, rfl⟩
  case rest =>
  obtain ⟨rfl, rfl⟩ := hcut
  have HT := hidden (HX.out.two y1 y2 EP y3 (.slice aR (m1 - 6) (k1 - 6))).drew
  have HRT := hidden (HR.out.below (((Below.refl w1.heap.size w1).alloc (Nat.le_refl _) (.cells #[.int .i64 (y1 : Int), .int .i64 (y2 : Int), .int .i64 EP, .int .i64 (y3 : Int), .slice aR (m1 - 6) (k1 - 6)] 24)).drew))
  clear c0 e4 e6 n0 n1 n2 n3 n4 n5 n6 hw1 hw2 hw3 HR HO HNB HNU HAL hS0 hS1
  obtain ⟨x0, x1, x2, x3, x4⟩ := HT.out.2.1.cells
  go_wp2_with fail
  refine (HC.out _ aR (m1 - 6) (k1 - 6) HRT.out hk6).mono ?_
  rintro e w2 ⟨rfl, hb2⟩
  have HT2 := hidden (HT.out.next hb2)
  have HR2 := hidden (HRT.out.below hb2)
  clear hb2 x0 x1 x2 x3 x4 HT HRT HC
  obtain ⟨x0, x1, x2, x3, x4⟩ := HT2.out.2.1.cells
  obtain ⟨u0, u1, u2, u3, u4⟩ := HT2.out.1.2.cells
  have f0 := HT2.out.1.2.free
  by_cases hq : q = 0
  · subst hq
    go_wp2_with fail
    refine bodyPost_ret (res_fr (g := w.heap.size) rfl rfl (HT2.out.1.2.set5 y1 y2 EP y3 (.slice aR (m1 - 6) (k1 - 6)))) rfl ?_
    exact ⟨aR, m1 - 6, k1 - 6, HT2.out.1.below5 _ _ _ _ _, .inr ⟨rfl, rfl, Arg.set5 HR2.out (fun ad h => by have := HP.out ad h; omega) _ _ _ _ _, hk6, HN.out⟩⟩
  · have d : ((q : Int) == 0) = false := by rw [beq_eq_false_iff_ne]; omega
    go_wp2_with fail
    refine bodyPost_ret (res_fr (g := w.heap.size) rfl rfl (HT2.out.1.2.set5 0 0 0 0 (.slice none 0 0))) rfl ?_
    exact ⟨none, 0, 0, HT2.out.1.below5 _ _ _ _ _, .inl ⟨hq, rfl⟩⟩

theorem rreadframe_all (a : Option Addr) (n cap : Nat) (B : List Nat) (w : World) (h : Arg w a n B) (hc : n ≤ cap) :
    Calls Tryd.prog 10 #[.slice a n cap] w fun e w' => ∃ a' m c', e = .returned (.tuple #[.agg #[.int .i64 ((bfr B).tr : Int), .int .i64 ((bfr B).og : Int), .int .i64 ((bfr B).ep : Int), .int .i64 ((bfr B).hp : Int), .slice a' m c'], .int .i64 (bfault B : Nat)]) ∧ Below w.heap.size w w' ∧ Arg w' a' m (bfr B).body ∧ m ≤ c' ∧ (a' = none → m = 0 ∧ c' = 0) := by
  have hbad : ∀ (w' : World) (k : Nat), bfault B = k → k ≠ 0 → Below w.heap.size w w' → ∃ a' m c', Ending.returned (.tuple #[.agg #[.int .i64 0, .int .i64 0, .int .i64 0, .int .i64 0, .slice none 0 0], .int .i64 (k : Int)]) = .returned (.tuple #[.agg #[.int .i64 ((bfr B).tr : Int), .int .i64 ((bfr B).og : Int), .int .i64 ((bfr B).ep : Int), .int .i64 ((bfr B).hp : Int), .slice a' m c'], .int .i64 (bfault B : Nat)]) ∧ Below w.heap.size w w' ∧ Arg w' a' m (bfr B).body ∧ m ≤ c' ∧ (a' = none → m = 0 ∧ c' = 0) := by
    intro w' k hk h0 hb
    rw [bfr_bad (by omega), hk]
    exact ⟨none, 0, 0, rfl, hb, ⟨Bys.nil _ _, rfl, by omega⟩, Nat.le_refl _, fun _ => ⟨rfl, rfl⟩⟩
  by_cases hf : ofault B = 0
  · have hb1 : bfault B = xfault (opened B) := by unfold bfault; rw [if_pos hf]
    by_cases hs : (opened B).length < 6
    · have hx : xfault (opened B) = 8 := by unfold xfault; rw [if_pos hs]
      refine (rrf_short a n cap B w h hc hf hs).mono ?_
      rintro e w' ⟨rfl, hb⟩
      exact hbad w' 8 (by rw [hb1, hx]) (by omega) hb
    · obtain ⟨y0, y1, y2, y3, y4, y5, R, hX⟩ := six (X := opened B) (by omega)
      have hx := xfault_six y0 y1 y2 y3 y4 y5 R
      by_cases h7 : y0 = 70
      · subst h7
        rw [if_pos rfl] at hx
        refine (rrf_rest a n cap B w h hc hf y1 y2 y3 y4 y5 R hX).mono ?_
        rintro e w' ⟨a', m, c', hb, ⟨hq, rfl⟩ | ⟨hq, rfl, hA, hm, hn⟩⟩
        · exact hbad w' _ (by rw [hb1, hX, hx]) hq hb
        · have hz : bfault B = 0 := by rw [hb1, hX, hx, hq]
          have hfr : bfr B = ⟨y1, y2, y4 * 256 + y5, y3, R⟩ := by
            unfold bfr
            rw [if_pos hf, hX]
            exact xfr_six 70 y1 y2 y3 y4 y5 R (by rw [hx, hq])
          rw [hfr, hz]
          exact ⟨a', m, c', rfl, hb, hA, hm, hn⟩
      · rw [if_neg h7] at hx
        refine (rrf_syntax a n cap B w h hc hf y0 (y1 :: y2 :: y3 :: y4 :: y5 :: R) hX (by simp) h7).mono ?_
        rintro e w' ⟨rfl, hb⟩
        exact hbad w' 2 (by rw [hb1, hX, hx]) (by omega) hb
  · have hb1 : bfault B = ofault B := by unfold bfault; rw [if_neg hf]
    refine (rrf_open a n cap B w h hc hf).mono ?_
    rintro e w' ⟨rfl, hb⟩
    exact hbad w' _ hb1 hf hb
end Go.Proofs.YtjhfjkacfnccdacDoor.RFrame
