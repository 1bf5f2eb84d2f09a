/-
  What the function Read of package frame returns, whatever bytes it is given, and what it makes. It changes nothing that was there. Its condition: at most 2^47 bytes.
-/
import Derived.Test.YtpiamlgmadnepaaGreatFrameB
import Derived.Test.YtpiamlgmadnepaaGreatCrcO
namespace Go.Proofs.YtpiamlgmadnepaaGreat.Frame
open Go.ChangeShapes Go.WideShapes Go.ChangeAt Go.RowKit Go.Proofs.YtpiamlgmadnepaaGreat.PM Go.Proofs.YtpiamlgmadnepaaGreat.CM Go.Proofs.YtpiamlgmadnepaaGreat.Mem Go.Proofs.YtpiamlgmadnepaaGreat.Pack Go.Proofs.YtpiamlgmadnepaaGreat.FM
set_option linter.unusedVariables false

/-- Open, of whatever bytes -/
theorem open_all (a : Option Addr) (n cap : Nat) (B : List Nat) (w : World) (h : Arg w a n B) (hc : n ≤ cap) (hr : n ≤ 140737488355328) :
    Calls Tryz.prog 180 #[.slice a n cap] w fun e w' => ∃ a' m c', e = .returned (.tuple #[.slice a' m c', errv (ofault B)]) ∧ Below w.heap.size w w' ∧ (ofault B = 0 → Arg w' a' m (opened B) ∧ m ≤ c' ∧ (∀ ad, a' = some ad → w.heap.size ≤ ad.block)) := by
  have hl := h.2.1
  by_cases h4 : n < 4
  · have ho : ofault B = 8 := by unfold ofault; rw [if_pos (by omega)]
    refine (Crc.open_short a n cap w h4).mono ?_
    rintro e w' ⟨rfl, rfl⟩
    exact ⟨none, 0, 0, by rw [ho]; rfl, Below.refl _ _, fun h => by omega⟩
  · obtain ⟨X, t0, t1, t2, t3, rfl, _⟩ := split4 (B := B) (by omega)
    obtain ⟨e1, e2⟩ := ofault_split X t0 t1 t2 t3
    obtain ⟨b, o, rfl⟩ := arg_at h (by omega)
    obtain ⟨m, rfl⟩ : ∃ m, n = m + 4 := ⟨n - 4, by omega⟩
    have hm : X.length = m := by simp at hl; omega
    rw [e1, e2]
    by_cases q : num 0 [t0, t1, t2, t3] = go 0 X
    · rw [if_pos q]
      refine (Crc.open_good b o cap m X t0 t1 t2 t3 w hm h hc q (by omega)).mono ?_
      rintro e w' ⟨v, rfl, ho, hb⟩
      obtain ⟨a', c', rfl, hA, hN, hC, hP⟩ := own_slice ho (fun c hc => h.1.1 c (by simp [hc])) (by omega)
      exact ⟨a', m, c', rfl, hb, fun _ => ⟨hA, hC, fun ad e => by obtain ⟨g, rfl, hg⟩ := hP ad e; exact hg⟩⟩
    · rw [if_neg q]
      refine (Crc.open_bad b o cap m X t0 t1 t2 t3 w hm h hc q).mono ?_
      rintro e w' ⟨rfl, k, rfl⟩
      exact ⟨none, 0, 0, rfl, below_drewN (Below.refl _ _) _, fun h => by omega⟩

/-- a frame and something else, handed back -/
theorem res_fr {fn : Func} {tmps : Array Value} {w : World} {g i j : Nat} {t o e p : Int} {a : Option Addr} {n cap : Nat} (hf : fn.results = #[.cell i 238, .tmp j]) (hi : tmps.getD i undef = .pointer (some ⟨g, 0, none⟩)) (hb : FBox w g t o e p (.slice a n cap)) :
    (results fn tmps).run Tryz.prog w = .ok (.tuple #[.agg #[.int .i64 t, .int .i64 o, .int .i64 e, .int .i64 p, .slice a n cap], tmps.getD j undef]) w := by
  obtain ⟨c0, c1, c2, c3, c4⟩ := hb.cells
  have hi' : tmps[i]?.getD undef = .pointer (some ⟨g, 0, none⟩) := by simpa using hi
  simp [results, hf, hi', go_sem, c0, c1, c2, c3, c4]
/-- the five cells of a frame's variable, written -/
theorem FBox.set5 {w : World} {g : Nat} {t o e p : Int} {bv : Value} (h : FBox w g t o e p bv) (t' o' e' p' : Int) (bv' : Value) :
    FBox (((((w.setCell ⟨g, 0, none⟩ (.int .i64 t')).setCell ⟨g, 1, none⟩ (.int .i64 o')).setCell ⟨g, 2, none⟩ (.int .i64 e')).setCell ⟨g, 3, none⟩ (.int .i64 p')).setCell ⟨g, 4, none⟩ bv') g t' o' e' p' bv' := by
  have h0 := heap_setCell_same _ _ 0 _ _ (.int .i64 t') h
  have h1 := heap_setCell_same _ _ 1 _ _ (.int .i64 o') h0
  have h2 := heap_setCell_same _ _ 2 _ _ (.int .i64 e') h1
  have h3 := heap_setCell_same _ _ 3 _ _ (.int .i64 p') h2
  exact heap_setCell_same _ _ 4 _ _ bv' h3
theorem FBox.free {w : World} {g : Nat} {t o e p : Int} {bv : Value} (h : FBox w g t o e p bv) (k : Nat) : w.frozen? ⟨g, k, none⟩ = false := by
  simp only [FBox] at h
  simp [World.frozen?, h]

/-- a result's variable, laid next behind w, and nothing else changed -/
def Res (w wx : World) : Prop := Below w.heap.size w wx ∧ FBox wx w.heap.size 0 0 0 0 (.slice none 0 0)
theorem Res.new (w : World) : Res w (w.alloc (.cells #[.int .i64 0, .int .i64 0, .int .i64 0, .int .i64 0, .slice none 0 0] 238)) := ⟨(Below.refl _ _).alloc (Nat.le_refl _) _, FBox.new w _ _ _ _ _⟩
theorem Res.next {w wx wy : World} (h : Res w wx) (hb : Below wx.heap.size wx wy) : Res w wy := ⟨h.1.trans (hb.mono h.1.size), h.2.below hb h.2.lt⟩
theorem Res.below5 {w wx : World} (h : Res w wx) (v0 v1 v2 v3 v4 : Value) : Below w.heap.size w (((((wx.setCell ⟨w.heap.size, 0, none⟩ v0).setCell ⟨w.heap.size, 1, none⟩ v1).setCell ⟨w.heap.size, 2, none⟩ v2).setCell ⟨w.heap.size, 3, none⟩ v3).setCell ⟨w.heap.size, 4, none⟩ v4) :=
  ((((h.1.setCell (Nat.le_refl _) _).setCell (Nat.le_refl _) _).setCell (Nat.le_refl _) _).setCell (Nat.le_refl _) _).setCell (Nat.le_refl _) _

set_option maxHeartbeats 1000000 in
set_option maxRecDepth 100000 in
theorem fread_open (a : Option Addr) (n cap : Nat) (B : List Nat) (w : World) (h : Arg w a n B) (hc : n ≤ cap) (hr : n ≤ 140737488355328) (hf : ofault B ≠ 0) :
    Calls Tryz.prog 148 #[.slice a n cap] w fun e w' => e = .returned (.tuple #[.agg #[.int .i64 0, .int .i64 0, .int .i64 0, .int .i64 0, .slice none 0 0], errv (ofault B)]) ∧ Below w.heap.size w w' := by
  have HO := hidden (fun W h => open_all a n cap B W h hc hr)
  have HA := hidden h
  generalize ofault B = f at *
  simp only [errv_pos hf] at HO ⊢
  clear h
  go_enter Tryz.func148, Tryz.ntmps148
  go_wp2_with fail
  refine (HO.out _ (HA.out.below (Res.new w).1)).mono ?_
  rintro e w1 ⟨a1, m1, c1, rfl, hb1, _⟩
  have HX := hidden ((Res.new w).next hb1)
  clear hb1
  obtain ⟨x0, x1, x2, x3, x4⟩ := HX.out.2.cells
  have f0 := HX.out.2.free
  go_wp2_with fail
  refine bodyPost_ret (res_fr (g := w.heap.size) rfl rfl (HX.out.2.set5 0 0 0 0 (.slice none 0 0))) rfl ?_
  exact ⟨rfl, HX.out.below5 _ _ _ _ _⟩

theorem opened_lt {B : List Nat} (h : ∀ c ∈ B, c < 256) : ∀ c ∈ opened B, c < 256 := fun c hc => h c (List.mem_of_mem_take hc)

set_option maxHeartbeats 1000000 in
set_option maxRecDepth 100000 in
theorem fread_short (a : Option Addr) (n cap : Nat) (B : List Nat) (w : World) (h : Arg w a n B) (hc : n ≤ cap) (hr : n ≤ 140737488355328) (hf : ofault B = 0) (hs : (opened B).length < 6) :
    Calls Tryz.prog 148 #[.slice a n cap] w fun e w' => e = .returned (.tuple #[.agg #[.int .i64 0, .int .i64 0, .int .i64 0, .int .i64 0, .slice none 0 0], .iface 101 (.int .i64 8)]) ∧ Below w.heap.size w w' := by
  have HO := hidden (fun W h => open_all a n cap B W h hc hr)
  have HA := hidden h
  generalize ofault B = f at *
  subst hf
  simp only [errv_zero] at HO
  clear h
  go_enter Tryz.func148, Tryz.ntmps148
  go_wp2_with fail
  refine (HO.out _ (HA.out.below (Res.new w).1)).mono ?_
  rintro e w1 ⟨a1, m1, c1, rfl, hb1, hx⟩
  obtain ⟨hA1, _, _⟩ := hx (by trivial)
  have hm : m1 < 6 := by have := hA1.2.1; omega
  have HX := hidden ((Res.new w).next hb1)
  clear hb1 hx hA1
  obtain ⟨x0, x1, x2, x3, x4⟩ := HX.out.2.cells
  have f0 := HX.out.2.free
  go_wp2_with fail
  refine bodyPost_ret (res_fr (g := w.heap.size) rfl rfl (HX.out.2.set5 0 0 0 0 (.slice none 0 0))) rfl ?_
  exact ⟨rfl, HX.out.below5 _ _ _ _ _⟩

set_option maxHeartbeats 1000000 in
set_option maxRecDepth 100000 in
theorem fread_syntax (a : Option Addr) (n cap : Nat) (B : List Nat) (w : World) (h : Arg w a n B) (hc : n ≤ cap) (hr : n ≤ 140737488355328) (hf : ofault B = 0) (y0 : Nat) (R : List Nat) (hX : opened B = y0 :: R) (hs : 5 ≤ R.length) (h7 : y0 ≠ 70) :
    Calls Tryz.prog 148 #[.slice a n cap] w fun e w' => e = .returned (.tuple #[.agg #[.int .i64 0, .int .i64 0, .int .i64 0, .int .i64 0, .slice none 0 0], .iface 101 (.int .i64 2)]) ∧ Below w.heap.size w w' := by
  have HO := hidden (fun W h => open_all a n cap B W h hc hr)
  have hlt : y0 < 256 := opened_lt h.1.1 y0 (by rw [hX]; simp)
  have HA := hidden h
  generalize ofault B = f at *
  subst hf
  simp only [errv_zero, hX] at HO
  have d7 : ((y0 : Int) == 70) = false := by rw [beq_eq_false_iff_ne]; omega
  clear h hX h7
  go_enter Tryz.func148, Tryz.ntmps148
  go_wp2_with fail
  refine (HO.out _ (HA.out.below (Res.new w).1)).mono ?_
  rintro e w1 ⟨a1, m1, c1, rfl, hb1, hx⟩
  obtain ⟨hA1, _, _⟩ := hx (by trivial)
  have hm : R.length + 1 = m1 := by have := hA1.2.1; simpa using this
  obtain ⟨b, o, rfl⟩ := arg_at hA1 (by omega)
  have c0 : w1.cell? ⟨b, o, none⟩ = some (.int .u8 (y0 : Int)) := arg_cell hA1 0 (by omega)
  have HX := hidden ((Res.new w).next hb1)
  have n0 : (0 : Int) < (m1 : Int) := by omega
  have n6 : decide ((m1 : Int) < 6) = false := by simp; omega
  clear hb1 hx hA1 hm
  obtain ⟨x0, x1, x2, x3, x4⟩ := HX.out.2.cells
  have f0 := HX.out.2.free
  go_wp2_with fail
  refine bodyPost_ret (res_fr (g := w.heap.size) rfl rfl (HX.out.2.set5 0 0 0 0 (.slice none 0 0))) rfl ?_
  exact ⟨rfl, HX.out.below5 _ _ _ _ _⟩

theorem ep_or (x4 x5 : Nat) (h4 : x4 < 256) (h5 : x5 < 256) : bits .or .i64 ((x4 : Int) * 256) (x5 : Int) = ((x4 * 256 + x5 : Nat) : Int) := by
  rw [show (x4 : Int) * 256 = ((x4 * 256 : Nat) : Int) by omega, i64_or_nat _ _ (by omega) (by omega), nat_join 8 (x4 * 256) x5 (by omega) (by omega)]

/-- both variables: the result's, next behind w, and that of f; nothing else changed -/
def Two (w wx : World) (g : Nat) (t o e p : Int) (bv : Value) : Prop := Res w wx ∧ FBox wx g t o e p bv ∧ w.heap.size < g
theorem Two.next {w wx wy : World} {g : Nat} {t o e p : Int} {bv : Value} (h : Two w wx g t o e p bv) (hb : Below wx.heap.size wx wy) : Two w wy g t o e p bv := ⟨h.1.next hb, h.2.1.below hb h.2.1.lt, h.2.2⟩
theorem Two.drew {w wx : World} {g : Nat} {t o e p : Int} {bv : Value} (h : Two w wx g t o e p bv) : Two w wx.drew g t o e p bv := h.next (Below.refl _ _).drew
theorem Res.two {w wx : World} (h : Res w wx) (t o e p : Int) (bv : Value) : Two w (wx.alloc (.cells #[.int .i64 t, .int .i64 o, .int .i64 e, .int .i64 p, bv] 238)) wx.heap.size t o e p bv :=
  ⟨h.next ((Below.refl _ _).alloc (Nat.le_refl _) _), FBox.new _ _ _ _ _ _, h.2.lt⟩

theorem Arg.set {w : World} {a : Option Addr} {n : Nat} {L : List Nat} (h : Arg w a n L) {p : Addr} (hp : ∀ ad, a = some ad → ad.block ≠ p.block) (v : Value) : Arg (w.setCell p v) a n L := by
  refine ⟨⟨h.1.1, fun j hj => ?_⟩, h.2⟩
  obtain ⟨b, o, e, hc⟩ := h.1.2 j hj
  exact ⟨b, o, e, (World.cell?_of_block (Below.heap_setCell w p v b (hp _ e))).trans hc⟩
theorem Arg.set5 {w : World} {a : Option Addr} {n : Nat} {L : List Nat} (h : Arg w a n L) {g : Nat} (hp : ∀ ad, a = some ad → ad.block ≠ g) (v0 v1 v2 v3 v4 : Value) :
    Arg (((((w.setCell ⟨g, 0, none⟩ v0).setCell ⟨g, 1, none⟩ v1).setCell ⟨g, 2, none⟩ v2).setCell ⟨g, 3, none⟩ v3).setCell ⟨g, 4, none⟩ v4) a n L :=
  Arg.set (Arg.set (Arg.set (Arg.set (Arg.set h hp v0) hp v1) hp v2) hp v3) hp v4
theorem cutAt_block {b o cap l : Nat} : ∀ ad, cutAt (some ⟨b, o, none⟩) cap l = some ad → ad.block = b := by
  intro ad h
  unfold cutAt at h
  split at h
  · rw [← Option.some.inj h]
  · rw [Option.map_some] at h
    rw [← Option.some.inj h]
    unfold Addr.add; split <;> simp_all
/-- what Read answers of bytes within -/
def RPost (w w' : World) (q : Nat) (t o e p : Int) (R : List Nat) (ev : Ending) : Prop :=
  ∃ a' m c', Below w.heap.size w w' ∧ ((q ≠ 0 ∧ ev = .returned (.tuple #[.agg #[.int .i64 0, .int .i64 0, .int .i64 0, .int .i64 0, .slice none 0 0], errv q])) ∨
    (q = 0 ∧ ev = .returned (.tuple #[.agg #[.int .i64 t, .int .i64 o, .int .i64 e, .int .i64 p, .slice a' m c'], .nilIface]) ∧ Arg w' a' m R ∧ m ≤ c' ∧ (a' = none → m = 0 ∧ c' = 0) ∧ ∀ ad, a' = some ad → w.heap.size ≤ ad.block))

set_option maxHeartbeats 2000000 in
set_option maxRecDepth 100000 in
theorem fread_rest (a : Option Addr) (n cap : Nat) (B : List Nat) (w : World) (h : Arg w a n B) (hc : n ≤ cap) (hr : n ≤ 140737488355328) (hf : ofault B = 0) (y1 y2 y3 y4 y5 : Nat) (R : List Nat) (hX : opened B = 70 :: y1 :: y2 :: y3 :: y4 :: y5 :: R) :
    Calls Tryz.prog 148 #[.slice a n cap] w fun e w' => RPost w w' (ffault y1 y2 ((y4 * 256 + y5 : Nat) : Int) y3 R) y1 y2 ((y4 * 256 + y5 : Nat) : Int) y3 R e := by
  have HO := hidden (fun W h => open_all a n cap B W h hc hr)
  have hlt : ∀ c ∈ opened B, c < 256 := opened_lt h.1.1
  rw [hX] at hlt
  have l1 := hlt y1 (by simp)
  have l2 := hlt y2 (by simp)
  have l3 := hlt y3 (by simp)
  have l4 := hlt y4 (by simp)
  have l5 := hlt y5 (by simp)
  have HA := hidden h
  have hor := ep_or y4 y5 l4 l5
  have hw1 : IntKind.i64.wrap (y1 : Int) = (y1 : Int) := i64_wrap (by omega) (by omega)
  have hw2 : IntKind.i64.wrap (y2 : Int) = (y2 : Int) := i64_wrap (by omega) (by omega)
  have hw3 : IntKind.i64.wrap (y3 : Int) = (y3 : Int) := i64_wrap (by omega) (by omega)
  have hw4 : IntKind.i64.wrap (y4 : Int) = (y4 : Int) := i64_wrap (by omega) (by omega)
  have hw5 : IntKind.i64.wrap (y5 : Int) = (y5 : Int) := i64_wrap (by omega) (by omega)
  have hw6 : IntKind.i64.wrap ((y4 : Int) * 256) = (y4 : Int) * 256 := i64_wrap (by omega) (by omega)
  have HC := hidden (fun W a' m c' h hc => fcheck_calls y1 y2 ((y4 * 256 + y5 : Nat) : Int) y3 a' m c' R W h hc)
  generalize ffault y1 y2 ((y4 * 256 + y5 : Nat) : Int) y3 R = q at *
  generalize ((y4 * 256 + y5 : Nat) : Int) = EP at *
  generalize ofault B = f at *
  subst hf
  simp only [errv_zero, hX] at HO
  clear h hX hlt
  go_enter Tryz.func148, Tryz.ntmps148
  go_wp2_with fail
  refine (HO.out _ (HA.out.below (Res.new w).1)).mono ?_
  rintro e w1 ⟨a1, m1, k1, rfl, hb1, hx⟩
  obtain ⟨hA1, hk1, hp1⟩ := hx (by trivial)
  have hm : R.length + 6 = m1 := by have := hA1.2.1; simpa using this
  obtain ⟨b, o, rfl⟩ := arg_at hA1 (by omega)
  have hmx := hA1.2.2
  have c0 : w1.cell? ⟨b, o, none⟩ = some (.int .u8 70) := arg_cell hA1 0 (by omega)
  have c1 : w1.cell? ⟨b, o + 1, none⟩ = some (.int .u8 (y1 : Int)) := arg_cell hA1 1 (by omega)
  have c2 : w1.cell? ⟨b, o + 2, none⟩ = some (.int .u8 (y2 : Int)) := arg_cell hA1 2 (by omega)
  have c3 : w1.cell? ⟨b, o + 3, none⟩ = some (.int .u8 (y3 : Int)) := arg_cell hA1 3 (by omega)
  have c4 : w1.cell? ⟨b, o + 4, none⟩ = some (.int .u8 (y4 : Int)) := arg_cell hA1 4 (by omega)
  have c5 : w1.cell? ⟨b, o + 5, none⟩ = some (.int .u8 (y5 : Int)) := arg_cell hA1 5 (by omega)
  have d1 := fun O => cell_alloc c1 O
  have d2 := fun O => cell_alloc c2 O
  have d3 := fun O => cell_alloc c3 O
  have d4 := fun O => cell_alloc c4 O
  have d5 := fun O => cell_alloc c5 O
  have e6 : ∀ w, (Instr.slice 36 (.slice (some ⟨b, o, none⟩) m1 k1) (some (.int .i64 6)) none none).run Tryz.prog w = .ok (.slice (cutAt (some ⟨b, o, none⟩) k1 6) (m1 - 6) (k1 - 6)) w := fun w => cut_l (some ⟨b, o, none⟩) m1 k1 6 (by omega) w
  have HR : Hid (Arg w1 (cutAt (some ⟨b, o, none⟩) k1 6) (m1 - 6) R) := by
    have := cut_arg (l := 6) (h := m1) hA1 (by omega) (Nat.le_refl _) hk1
    rw [show (70 :: y1 :: y2 :: y3 :: y4 :: y5 :: R).drop 6 = R from rfl, List.take_of_length_le (by omega)] at this
    exact this
  have hk6 : m1 - 6 ≤ k1 - 6 := by omega
  have HP : Hid (∀ ad, cutAt (some ⟨b, o, none⟩) k1 6 = some ad → w.heap.size < ad.block) := fun ad h => by have h1 := cutAt_block ad h; have h2 := hp1 _ rfl; simp at h2; omega
  have HN : Hid (cutAt (some ⟨b, o, none⟩) k1 6 = none → m1 - 6 = 0 ∧ k1 - 6 = 0) := fun h => by have := cutAt_none h; simp at this
  generalize cutAt (some ⟨b, o, none⟩) k1 6 = aR at *
  have HX := hidden ((Res.new w).next hb1)
  have n0 : (0 : Int) < (m1 : Int) := by omega
  have n1 : (1 : Int) < (m1 : Int) := by omega
  have n2 : (2 : Int) < (m1 : Int) := by omega
  have n3 : (3 : Int) < (m1 : Int) := by omega
  have n4 : (4 : Int) < (m1 : Int) := by omega
  have n5 : (5 : Int) < (m1 : Int) := by omega
  have n6 : decide ((m1 : Int) < 6) = false := by simp; omega
  clear hb1 hx hA1 hm hp1
  go_wp2_with fail
  go_region
  have HT := hidden (HX.out.two y1 y2 EP y3 (.slice aR (m1 - 6) (k1 - 6))).drew
  have HRT := hidden (HR.out.below (((Below.refl w1.heap.size w1).alloc (Nat.le_refl _) (.cells #[.int .i64 (y1 : Int), .int .i64 (y2 : Int), .int .i64 EP, .int .i64 (y3 : Int), .slice aR (m1 - 6) (k1 - 6)] 238)).drew))
  clear c0 c1 c2 c3 c4 c5 d1 d2 d3 d4 d5 e6 n0 n1 n2 n3 n4 n5 n6 hw1 hw2 hw3 hw4 hw5 hw6 hor HX HR HO
  obtain ⟨x0, x1, x2, x3, x4⟩ := HT.out.2.1.cells
  go_wp2_with fail
  refine (HC.out _ aR (m1 - 6) (k1 - 6) HRT.out hk6).mono ?_
  rintro e w2 ⟨rfl, hb2⟩
  have HT2 := hidden (HT.out.next hb2)
  have HR2 := hidden (HRT.out.below hb2)
  clear hb2 x0 x1 x2 x3 x4 HT HRT HC
  obtain ⟨x0, x1, x2, x3, x4⟩ := HT2.out.2.1.cells
  obtain ⟨u0, u1, u2, u3, u4⟩ := HT2.out.1.2.cells
  have f0 := HT2.out.1.2.free
  by_cases hq : q = 0
  · subst hq
    rw [errv_zero]
    go_wp2_with fail
    refine bodyPost_ret (res_fr (g := w.heap.size) rfl rfl (HT2.out.1.2.set5 y1 y2 EP y3 (.slice aR (m1 - 6) (k1 - 6)))) rfl ?_
    exact ⟨aR, m1 - 6, k1 - 6, HT2.out.1.below5 _ _ _ _ _, .inr ⟨rfl, rfl, Arg.set5 HR2.out (fun ad h => by have := HP.out ad h; omega) _ _ _ _ _, hk6, HN.out, fun ad h => Nat.le_of_lt (HP.out ad h)⟩⟩
  · rw [errv_pos hq]
    go_wp2_with fail
    refine bodyPost_ret (res_fr (g := w.heap.size) rfl rfl (HT2.out.1.2.set5 0 0 0 0 (.slice none 0 0))) rfl ?_
    exact ⟨none, 0, 0, HT2.out.1.below5 _ _ _ _ _, .inl ⟨hq, by rw [errv_pos hq]; rfl⟩⟩
end Go.Proofs.YtpiamlgmadnepaaGreat.Frame

