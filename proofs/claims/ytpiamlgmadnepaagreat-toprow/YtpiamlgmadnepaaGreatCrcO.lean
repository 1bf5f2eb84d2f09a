/-
  What the function Open of package crc returns, and what it makes. It changes nothing that was there. Its condition: at most 2^47 bytes.
-/
import Derived.Test.YtpiamlgmadnepaaGreatCrcS
namespace Go.Proofs.YtpiamlgmadnepaaGreat.Crc
open Go.ChangeShapes Go.WideShapes Go.ChangeAt Go.RowKit Go.Proofs.YtpiamlgmadnepaaGreat.CM Go.Proofs.YtpiamlgmadnepaaGreat.Mem
set_option linter.unusedVariables false

set_option maxHeartbeats 400000 in
theorem open_short (a : Option Addr) (len cap : Nat) (w : World) (h : len < 4) :
    Calls Tryz.prog 180 #[.slice a len cap] w fun e w' => e = .returned (.tuple #[.slice none 0 0, .iface 101 (.int .i64 8)]) ∧ w' = w := by
  go_enter Tryz.func180, Tryz.ntmps180
  go_wp2_with fail
  go_ret2
  exact ⟨rfl, rfl⟩

theorem tail_cells {w : World} {b o m : Nat} {B : List Nat} {t0 t1 t2 t3 : Nat} (h : Bys w (some ⟨b, o, none⟩) (B ++ [t0, t1, t2, t3])) (hm : B.length = m) :
    w.cell? ⟨b, o + m, none⟩ = some (.int .u8 (t0 : Int)) ∧ w.cell? ⟨b, o + m + 1, none⟩ = some (.int .u8 (t1 : Int)) ∧ w.cell? ⟨b, o + m + 2, none⟩ = some (.int .u8 (t2 : Int)) ∧ w.cell? ⟨b, o + m + 3, none⟩ = some (.int .u8 (t3 : Int)) := by
  have hd := h.drop m
  rw [← hm, List.drop_left] at hd
  rw [hm] at hd
  have f : ∀ j (hj : j < 4), w.cell? ⟨b, o + m + j, none⟩ = some (.int .u8 ([t0, t1, t2, t3].getD j 0 : Nat)) := by
    intro j hj
    obtain ⟨b', o', e, hc⟩ := hd.2 j hj
    simp only [Option.some.injEq, Addr.mk.injEq, and_true] at e
    obtain ⟨rfl, rfl⟩ := e
    exact hc
  exact ⟨f 0 (by decide), f 1 (by decide), f 2 (by decide), f 3 (by decide)⟩

theorem told_eq (t0 t1 t2 t3 : Nat) (h0 : t0 < 256) (h1 : t1 < 256) (h2 : t2 < 256) (h3 : t3 < 256) :
    bits .or .u32 (bits .or .u32 (bits .or .u32 ((t0 : Int) % 4294967296 * 16777216 % 4294967296) ((t1 : Int) % 4294967296 * 65536 % 4294967296)) ((t2 : Int) % 4294967296 * 256 % 4294967296)) ((t3 : Int) % 4294967296) = ((num 0 [t0, t1, t2, t3] : Nat) : Int) := by
  rw [show (t0 : Int) % 4294967296 * 16777216 % 4294967296 = ((t0 * 16777216 : Nat) : Int) by omega, show (t1 : Int) % 4294967296 * 65536 % 4294967296 = ((t1 * 65536 : Nat) : Int) by omega,
    show (t2 : Int) % 4294967296 * 256 % 4294967296 = ((t2 * 256 : Nat) : Int) by omega, show (t3 : Int) % 4294967296 = ((t3 : Nat) : Int) by omega]
  have l1 : t0 * 16777216 ||| t1 * 65536 < 4294967296 := Nat.or_lt_two_pow (n := 32) (by omega) (by omega)
  have l2 : t0 * 16777216 ||| t1 * 65536 ||| t2 * 256 < 4294967296 := Nat.or_lt_two_pow (n := 32) l1 (by omega)
  rw [u32_or_nat _ _ (by omega) (by omega), u32_or_nat _ _ l1 (by omega), u32_or_nat _ _ l2 (by omega), or4 t0 t1 t2 t3 h1 h2 h3]
  simp [num]

set_option maxHeartbeats 1000000 in
set_option maxRecDepth 100000 in
theorem open_bad (b o cap m : Nat) (B : List Nat) (t0 t1 t2 t3 : Nat) (w : World) (hm : B.length = m) (h : Arg w (some ⟨b, o, none⟩) (m + 4) (B ++ [t0, t1, t2, t3])) (hc : m + 4 ≤ cap) (hne : num 0 [t0, t1, t2, t3] ≠ go 0 B) :
    Calls Tryz.prog 180 #[.slice (some ⟨b, o, none⟩) (m + 4) cap] w fun e w' => e = .returned (.tuple #[.slice none 0 0, .iface 101 (.int .i64 9)]) ∧ ∃ k, w' = w.drewN k := by
  have HA := hidden h
  have hl := h.2.2
  obtain ⟨c0, c1, c2, c3⟩ := tail_cells h.1 hm
  have s0 := cut_high (some ⟨b, o, none⟩) (m + 4) cap m (by omega)
  have s1 := cut_low b o (m + 4) cap m (by omega) (by omega)
  rw [show m + 4 - m = 4 by omega] at s1
  have HE := hidden (told_eq t0 t1 t2 t3 (h.1.1 t0 (by simp)) (h.1.1 t1 (by simp)) (h.1.1 t2 (by simp)) (h.1.1 t3 (by simp)))
  have HB : Hid (Bys w (some ⟨b, o, none⟩) B) := by
    have := h.1.take m
    rw [← hm, List.take_left] at this
    exact this
  have CG := fun w h => goOn_calls 0 (some ⟨b, o, none⟩) m cap B w (by decide) hm (by omega) h
  generalize go 0 B = g at *
  have HG := hidden CG
  generalize num 0 [t0, t1, t2, t3] = q at *
  have d0 : ((q : Int) == (g : Int)) = false := by simp; omega
  clear h hne CG hm
  go_enter Tryz.func180, Tryz.ntmps180
  go_wp2_with fail
  go_quiet (fail)
  go_wp2_with fail
  go_quiet (fail)
  rw [HE.out]
  go_wp2_with fail
  refine (HG.out _ (by exact HB.out)).mono ?_
  rintro e w1 ⟨rfl, rfl⟩
  go_wp2_with fail
  go_ret2
  exact ⟨rfl, _, rfl⟩

set_option maxHeartbeats 1000000 in
set_option maxRecDepth 100000 in
theorem open_good (b o cap m : Nat) (B : List Nat) (t0 t1 t2 t3 : Nat) (w : World) (hm : B.length = m) (h : Arg w (some ⟨b, o, none⟩) (m + 4) (B ++ [t0, t1, t2, t3])) (hc : m + 4 ≤ cap) (he : num 0 [t0, t1, t2, t3] = go 0 B) (hr : m ≤ 140737488355328) :
    Calls Tryz.prog 180 #[.slice (some ⟨b, o, none⟩) (m + 4) cap] w fun e w' => ∃ v, e = .returned (.tuple #[v, .nilIface]) ∧ w'.ownsRow w.heap.size 5 1 v m (cellsOf B) ∧ Below w.heap.size w w' := by
  have HA := hidden h
  have hl := h.2.2
  obtain ⟨c0, c1, c2, c3⟩ := tail_cells h.1 hm
  have s0 := cut_high (some ⟨b, o, none⟩) (m + 4) cap m (by omega)
  have s1 := cut_low b o (m + 4) cap m (by omega) (by omega)
  rw [show m + 4 - m = 4 by omega] at s1
  have HE := hidden (told_eq t0 t1 t2 t3 (h.1.1 t0 (by simp)) (h.1.1 t1 (by simp)) (h.1.1 t2 (by simp)) (h.1.1 t3 (by simp)))
  have HB : Hid (Bys w (some ⟨b, o, none⟩) B) := by
    have := h.1.take m
    rw [← hm, List.take_left] at this
    exact this
  have CG := fun w h => goOn_calls 0 (some ⟨b, o, none⟩) m cap B w (by decide) hm (by omega) h
  generalize go 0 B = g at *
  have HG := hidden CG
  generalize num 0 [t0, t1, t2, t3] = q at *
  have d0 : ((q : Int) == (g : Int)) = true := by simp; omega
  have HM := hidden hm
  obtain ⟨i0, hii, hz0, hz1, hz2⟩ := info_parts info5
  clear h he CG hm
  go_enter Tryz.func180, Tryz.ntmps180
  go_wp2_with fail
  go_quiet (fail)
  go_wp2_with fail
  go_quiet (fail)
  rw [HE.out]
  go_wp2_with fail
  refine (HG.out _ (by exact HB.out)).mono ?_
  rintro e w1 ⟨rfl, rfl⟩
  go_wp2_with (at_builtin; refine wpList_append_own _ rfl _ _ 36 rfl w.heap.size 5 i0 (.int .u8 0) 1 1 Tryz.underlying36 hii hz0 hz1 hz2 rfl (by decide) _ 0 [] rfl (World.ownsRow_nil _ _ _ _) ⟨b, o, none⟩ m cap (cellsOf B) rfl ?al ?ac (cells_one B) ?b1 ?b2 ?b3 ?next)
  case al => rw [cellsOf_len, HM.out]; omega
  case ac => exact bys_cells (by exact HB.out) _ rfl
  case b1 => unfold maxLen; omega
  case b2 => omega
  case b3 => exact Nat.le_refl _
  case next =>
    intro v' w2 hown hgrow _
    have HO := hidden hown
    have HW : Hid (Below w.heap.size w w2) := (below_drewN (Below.refl _ _) _).grown hgrow (Nat.le_refl _) (by simp [Value.ownBlock])
    clear hown hgrow
    go_wp2_with fail
    go_ret2
    exact ⟨v', rfl, HO.out, HW.out⟩
end Go.Proofs.YtpiamlgmadnepaaGreat.Crc

