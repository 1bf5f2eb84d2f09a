/-
  FrameA, FrameB, CrcO, FrameC, FrameD in one text.
-/
import Derived.Test.YtijfocggdjjnjaiGreatDoorPackAll
import Derived.Test.YtijfocggdjjnjaiGreatDoorFM
import Derived.Test.YtijfocggdjjnjaiGreatDoorCrcS
/-
  What the functions within and Check of package frame return, whatever they are given. They change nothing that was there.
-/
namespace Go.Proofs.YtijfocggdjjnjaiGreatDoor.Frame
open Go.ChangeShapes Go.WideShapes Go.ChangeAt Go.RowKit Go.Proofs.YtijfocggdjjnjaiGreatDoor.PM Go.Proofs.YtijfocggdjjnjaiGreatDoor.Mem Go.Proofs.YtijfocggdjjnjaiGreatDoor.Pack Go.Proofs.YtijfocggdjjnjaiGreatDoor.FM
set_option linter.unusedVariables false

/-- block g holds a frame -/
def FBox (w : World) (g : Nat) (tr og ep hp : Int) (bv : Value) : Prop := w.heap[g]? = some (.cells #[.int .i64 tr, .int .i64 og, .int .i64 ep, .int .i64 hp, bv] 40 (0, 0))
theorem FBox.new (w : World) (tr og ep hp : Int) (bv : Value) : FBox (w.alloc (.cells #[.int .i64 tr, .int .i64 og, .int .i64 ep, .int .i64 hp, bv] 40)) w.heap.size tr og ep hp bv := heap_alloc_new w _
theorem FBox.below {w w' : World} {g B : Nat} {tr og ep hp : Int} {bv : Value} (h : FBox w g tr og ep hp bv) (hb : Below B w w') (hg : g < B) : FBox w' g tr og ep hp bv := (hb.block g hg).trans h
theorem FBox.lt {w : World} {g : Nat} {tr og ep hp : Int} {bv : Value} (h : FBox w g tr og ep hp bv) : g < w.heap.size := lt_of_block h
theorem FBox.grown {w w' : World} {g : Nat} {tr og ep hp : Int} {bv : Value} {row : Option Nat} (h : FBox w g tr og ep hp bv) (hg : w.grownBy w' row) (hr : row ≠ some g) : FBox w' g tr og ep hp bv :=
  (hg.block g h.lt (fun e => hr e.symm)).trans h
theorem FBox.alloc {w : World} {g : Nat} {tr og ep hp : Int} {bv : Value} (h : FBox w g tr og ep hp bv) (o : Obj) : FBox (w.alloc o) g tr og ep hp bv := (Below.heap_alloc _ _ _ h.lt).trans h
theorem FBox.cells {w : World} {g : Nat} {tr og ep hp : Int} {bv : Value} (h : FBox w g tr og ep hp bv) :
    w.cell? ⟨g, 0, none⟩ = some (.int .i64 tr) ∧ w.cell? ⟨g, 1, none⟩ = some (.int .i64 og) ∧ w.cell? ⟨g, 2, none⟩ = some (.int .i64 ep) ∧ w.cell? ⟨g, 3, none⟩ = some (.int .i64 hp) ∧ w.cell? ⟨g, 4, none⟩ = some bv := by
  simp only [FBox] at h
  simp [World.cell?, h]

theorem fwithin_calls (x l m : Int) (w : World) : Calls Tryz.prog 58 #[.int .i64 x, .int .i64 l, .int .i64 m] w fun e w' => e = .returned (.bool (decide (l ≤ x ∧ x ≤ m))) ∧ w' = w := by
  by_cases h : l ≤ x
  · have d : decide (l ≤ x) = true := by simpa using h
    go_enter Tryz.func58, Tryz.ntmps58
    go_wp2_with fail
    go_ret
    exact ⟨by simp [h], rfl⟩
  · have d : decide (l ≤ x) = false := by simpa using h
    go_enter Tryz.func58, Tryz.ntmps58
    go_wp2_with fail
    go_ret
    exact ⟨by simp, rfl⟩

set_option maxHeartbeats 1000000 in
set_option maxRecDepth 100000 in
theorem fcheck_calls (tr og ep hp : Int) (a : Option Addr) (n cap : Nat) (B : List Nat) (w : World) (h : Arg w a n B) (hc : n ≤ cap) :
    Calls Tryz.prog 34 #[.agg #[.int .i64 tr, .int .i64 og, .int .i64 ep, .int .i64 hp, .slice a n cap]] w fun e w' => e = .returned (errv (ffault tr og ep hp B)) ∧ Below w.heap.size w w' := by
  have C1 := fun w => fwithin_calls tr 1 8 w
  have C2 := fun w => fwithin_calls og 0 15 w
  have C3 := fun w => fwithin_calls ep 0 65535 w
  have C4 := fun w => fwithin_calls hp 0 64 w
  have hf : ffault tr og ep hp B = if decide (1 ≤ tr ∧ tr ≤ 8) && decide (0 ≤ og ∧ og ≤ 15) && decide (0 ≤ ep ∧ ep ≤ 65535) && decide (0 ≤ hp ∧ hp ≤ 64) then rfault B else 1 := by
    unfold ffault nums
    simp only [Bool.and_eq_true, decide_eq_true_eq, and_assoc]
  have C5 : ∀ W, Below w.heap.size w W → Calls Tryz.prog 33 #[.slice a n cap] W _ := fun W hW => read_gen a n cap B W (h.below hW) hc
  generalize decide (1 ≤ tr ∧ tr ≤ 8) = b1 at *
  generalize decide (0 ≤ og ∧ og ≤ 15) = b2 at *
  generalize decide (0 ≤ ep ∧ ep ≤ 65535) = b3 at *
  generalize decide (0 ≤ hp ∧ hp ≤ 64) = b4 at *
  rw [hf]
  have H1 := hidden C1
  have H2 := hidden C2
  have H3 := hidden C3
  have H4 := hidden C4
  have H5 := hidden C5
  clear C1 C2 C3 C4 C5 hf h
  cases b1 with
  | false =>
    go_enter Tryz.func34, Tryz.ntmps34
    go_wp2_with fail
    refine (H1.out _).mono ?_
    rintro e w ⟨rfl, rfl⟩
    go_wp2_with fail
    go_ret
    exact ⟨rfl, (Below.refl _ _).alloc (Nat.le_refl _) _⟩
  | true =>
  cases b2 with
  | false =>
    go_enter Tryz.func34, Tryz.ntmps34
    go_wp2_with fail
    refine (H1.out _).mono ?_
    rintro e w ⟨rfl, rfl⟩
    go_wp2_with fail
    refine (H2.out _).mono ?_
    rintro e w ⟨rfl, rfl⟩
    go_wp2_with fail
    go_ret
    exact ⟨rfl, (Below.refl _ _).alloc (Nat.le_refl _) _⟩
  | true =>
  cases b3 with
  | false =>
    go_enter Tryz.func34, Tryz.ntmps34
    go_wp2_with fail
    refine (H1.out _).mono ?_
    rintro e w ⟨rfl, rfl⟩
    go_wp2_with fail
    refine (H2.out _).mono ?_
    rintro e w ⟨rfl, rfl⟩
    go_wp2_with fail
    refine (H3.out _).mono ?_
    rintro e w ⟨rfl, rfl⟩
    go_wp2_with fail
    go_ret
    exact ⟨rfl, (Below.refl _ _).alloc (Nat.le_refl _) _⟩
  | true =>
  cases b4 with
  | false =>
    go_enter Tryz.func34, Tryz.ntmps34
    go_wp2_with fail
    refine (H1.out _).mono ?_
    rintro e w ⟨rfl, rfl⟩
    go_wp2_with fail
    refine (H2.out _).mono ?_
    rintro e w ⟨rfl, rfl⟩
    go_wp2_with fail
    refine (H3.out _).mono ?_
    rintro e w ⟨rfl, rfl⟩
    go_wp2_with fail
    refine (H4.out _).mono ?_
    rintro e w ⟨rfl, rfl⟩
    go_wp2_with fail
    go_ret
    exact ⟨rfl, (Below.refl _ _).alloc (Nat.le_refl _) _⟩
  | true =>
    generalize rfault B = f at *
    go_enter Tryz.func34, Tryz.ntmps34
    go_wp2_with fail
    refine (H1.out _).mono ?_
    rintro e w ⟨rfl, rfl⟩
    go_wp2_with fail
    refine (H2.out _).mono ?_
    rintro e w ⟨rfl, rfl⟩
    go_wp2_with fail
    refine (H3.out _).mono ?_
    rintro e w ⟨rfl, rfl⟩
    go_wp2_with fail
    refine (H4.out _).mono ?_
    rintro e w ⟨rfl, rfl⟩
    go_wp2_with fail
    refine (H5.out _ ((Below.refl _ _).alloc (Nat.le_refl _) _)).mono ?_
    rintro e w2 ⟨_, _, _, _, _, _, _, _, rfl, hb, _⟩
    have HB := hidden (below_old hb)
    clear hb
    go_wp2_with fail
    go_ret
    exact ⟨by simp, HB.out.alloc HB.out.size _⟩
end Go.Proofs.YtijfocggdjjnjaiGreatDoor.Frame

/-
  What the function Encode of package frame returns, and what it makes; what choirsame.Frame returns of any two frames. They change nothing that was there.
-/
namespace Go.Proofs.YtijfocggdjjnjaiGreatDoor.Frame
open Go.ChangeShapes Go.WideShapes Go.ChangeAt Go.RowKit Go.Proofs.YtijfocggdjjnjaiGreatDoor.PM Go.Proofs.YtijfocggdjjnjaiGreatDoor.Mem Go.Proofs.YtijfocggdjjnjaiGreatDoor.Pack Go.Proofs.YtijfocggdjjnjaiGreatDoor.FM
set_option linter.unusedVariables false

set_option maxHeartbeats 1000000 in
set_option maxRecDepth 100000 in
theorem fencode_bad (tr og ep hp : Int) (a : Option Addr) (n cap : Nat) (B : List Nat) (w : World) (h : Arg w a n B) (hc : n ≤ cap) (hf : ffault tr og ep hp B ≠ 0) :
    Calls Tryz.prog 14 #[.agg #[.int .i64 tr, .int .i64 og, .int .i64 ep, .int .i64 hp, .slice a n cap]] w fun e w' => e = .returned (.tuple #[.slice none 0 0, errv (ffault tr og ep hp B)]) ∧ Below w.heap.size w w' := by
  have C := fun w h => fcheck_calls tr og ep hp a n cap B w h hc
  generalize ffault tr og ep hp B = f at *
  rw [errv_pos hf] at C ⊢
  have HC := hidden C
  have HA := hidden h
  clear C h
  go_enter Tryz.func14, Tryz.ntmps14
  go_wp2_with fail
  refine (HC.out _ (HA.out.below ((Below.refl _ _).alloc (Nat.le_refl _) _))).mono ?_
  rintro e w1 ⟨rfl, hb⟩
  have HB := hidden (below_old hb)
  clear hb
  go_wp2_with fail
  go_ret2
  exact ⟨rfl, HB.out⟩

theorem blk6 {x y z u v : Int} {a b c d e : Nat} (hx : x = (a : Int)) (hy : y = (b : Int)) (hz : z = (c : Int)) (hu : u = (d : Int)) (hv : v = (e : Int)) :
    (#[Value.int .u8 70, .int .u8 x, .int .u8 y, .int .u8 z, .int .u8 u, .int .u8 v] : Array Value) = (cellsOf [70, a, b, c, d, e]).toArray := by rw [hx, hy, hz, hu, hv]; rfl

set_option maxHeartbeats 1000000 in
set_option maxRecDepth 100000 in
theorem fencode_good (t o e p : Nat) (a : Option Addr) (n cap : Nat) (B : List Nat) (w : World) (h : Arg w a n B) (hn : a = none → n = 0 ∧ cap = 0) (hc : n ≤ cap) (h1 : 1 ≤ t) (h2 : t ≤ 8) (h3 : o ≤ 15) (h4 : e ≤ 65535) (h5 : p ≤ 64) (h6 : rfault B = 0) :
    Calls Tryz.prog 14 #[.agg #[.int .i64 (t : Int), .int .i64 (o : Int), .int .i64 (e : Int), .int .i64 (p : Int), .slice a n cap]] w fun ev w' => ∃ g, ev = .returned (.tuple #[.slice (some ⟨g, 0, none⟩) (10 + n) (10 + n), .nilIface]) ∧ w.heap.size ≤ g ∧ Row w' g (fbytes t o e p B) ∧ Below w.heap.size w w' := by
  have C := fun w h => fcheck_calls t o e p a n cap B w h hc
  rw [ffault_good h1 h2 h3 h4 h5, h6, errv_zero] at C
  have hb := (rfault_len h6).2
  rw [h.2.1] at hb
  have HC := hidden C
  have HA := hidden h
  have HN := hidden hn
  have HL := hidden (inner_lt h2 h3 h4 h5 h.1.1)
  obtain ⟨i0, hii, hz0, hz1, hz2⟩ := info_parts info5
  clear C h hn h6
  go_enter Tryz.func14, Tryz.ntmps14
  go_wp2_with fail
  refine (HC.out _ (HA.out.below ((Below.refl _ _).alloc (Nat.le_refl _) _))).mono ?_
  rintro ev w1 ⟨rfl, hb1⟩
  have HX := hidden ((FBox.new w t o e p (.slice a n cap)).below hb1 (by simp))
  have HB := hidden (below_old hb1)
  have hlt : w.heap.size < w1.heap.size := HX.out.lt
  clear hb1
  obtain ⟨c0, c1, c2, c3, c4⟩ := HX.out.cells
  go_wp2_with (at_make; refine wpList_make_own _ rfl _ _ 29 rfl w.heap.size 5 i0 (.int .u8 0) 1 Tryz.underlying29 hii hz0 hz1 _ _ _ (6 + n) rfl rfl ?mC ?mb ?mm ?mbase ?mnext)
  case mC => simp
  case mb => rw [hz2]; omega
  case mm => unfold maxLen; omega
  case mbase => exact HB.out.size
  case mnext =>
  intro w2 hown hgrow
  have HB2 := hidden (HB.out.grown hgrow HB.out.size (by simp))
  have HX2 := hidden (HX.out.grown hgrow (by simp))
  have HO := hidden hown
  have hlt2 : w1.heap.size ≤ w2.heap.size := hgrow.size
  clear hown hgrow HX c0 c1 c2 c3 c4
  obtain ⟨c0, c1, c2, c3, c4⟩ := HX2.out.cells
  go_wp2_with (at_builtin; refine wpList_append_fits_any _ rfl _ _ 29 rfl w.heap.size 5 i0 1 Tryz.underlying29 hii hz1 w1.heap.size 0 (6 + n) [] ?bs ?bo (some ⟨w2.heap.size, 0, none⟩) 6 6 (cellsOf (fhead t o e p)) rfl rfl ?bn ?bc (cells_one _) ?b1 ?bnext)
  case bs => simp [Act.eval]
  case bo => exact HO.out.alloc _
  case bn => intro h; simp at h
  case bc => rw [blk6 (a := t) (b := o) (c := p) (d := e / 256) (e := e % 256) (by omega) (by omega) (by omega) (by omega) (by omega)]; exact bys_cells ((Row.new w2 (fhead t o e p)).bys (fhead_lt h2 h3 h4 h5))
  case b1 => omega
  case bnext =>
  intro w3 hown hgrow
  have HB3 := hidden ((HB2.out.alloc HB2.out.size _).grown hgrow (by have := HB2.out.size; simp; omega) (by intro k hk; simp at hk; omega))
  have HX3 := hidden ((HX2.out.alloc _).grown hgrow (by simp; omega))
  have HO3 : Hid (w3.ownsRow w.heap.size 5 1 (.slice (some ⟨w1.heap.size, 0, none⟩) 6 (6 + n)) 6 (cellsOf (fhead t o e p))) := own_next (L := []) hown rfl rfl
  clear hown hgrow HX2 HB2 HO c0 c1 c2 c3 c4
  obtain ⟨c0, c1, c2, c3, c4⟩ := HX3.out.cells
  go_wp2_with (at_builtin; refine wpList_append_fits_any _ rfl _ _ 29 rfl w.heap.size 5 i0 1 Tryz.underlying29 hii hz1 w1.heap.size 6 (6 + n) (cellsOf (fhead t o e p)) ?bs HO3.out a n cap (cellsOf B) rfl ?al HN.out ?bc (cells_one _) (Nat.le_refl _) ?bnext)
  case bs => simp [Act.eval]
  case al => rw [cellsOf_len, HA.out.2.1]; omega
  case bc => exact bys_cells (HA.out.1.below HB3.out)
  case bnext =>
  intro w4 hown hgrow
  have HB4 := hidden (HB3.out.grown hgrow HB3.out.size (by intro k hk; simp at hk; omega))
  rw [← cellsOf_app] at hown
  have HR := hidden (own_row hown)
  clear hown hgrow
  have HS := hidden (Crc.seal_calls (some ⟨w1.heap.size, 0, none⟩) (6 + n) (6 + n) (fhead t o e p ++ B) w4 ⟨HR.out.bys HL.out, by simp [fhead, HA.out.2.1]; omega, by omega⟩ (by simp) (by omega))
  go_wp2_with fail
  refine HS.out.mono ?_
  rintro ev w5 ⟨rfl, hR5, hb5⟩
  have HR5 := hidden hR5
  have HB5 := hidden (HB4.out.trans (hb5.mono HB4.out.size))
  clear hR5 hb5
  go_wp2_with fail
  go_ret2
  exact ⟨w4.heap.size, by rw [show 6 + n + 4 = 10 + n by omega]; rfl, HB4.out.size, HR5.out, HB5.out⟩

theorem str_inj {L K : List Nat} (hL : ∀ c ∈ L, c < 256) (hK : ∀ c ∈ K, c < 256) (h : str L = str K) : L = K := by
  have e : (L.map fun c => UInt8.ofNat c) = K.map fun c => UInt8.ofNat c := by
    have := congrArg (fun b : ByteArray => b.data.toList) h
    simpa [str, strOfNums, Function.comp_def] using this
  have back : ∀ M : List Nat, (∀ c ∈ M, c < 256) → (M.map fun c => UInt8.ofNat c).map UInt8.toNat = M := by
    intro M hM
    induction M with
    | nil => rfl
    | cons c M ih =>
      have hc := hM c (by simp)
      simp only [List.map_cons, List.cons.injEq]
      exact ⟨by simp; omega, ih fun x hx => hM x (by simp [hx])⟩
  rw [← back L hL, e, back K hK]
theorem str_eq {L K : List Nat} (hL : ∀ c ∈ L, c < 256) (hK : ∀ c ∈ K, c < 256) : ((str L).toList == (str K).toList) = decide (L = K) := by
  by_cases h : L = K
  · rw [h]; simp
  · rw [decide_eq_false h]
    have : (str L).toList ≠ (str K).toList := fun h' => h (str_inj hL hK (by
      rw [ByteArray.toList_eq, ByteArray.toList_eq] at h'
      exact ByteArray.ext (Array.toList_inj.1 h')))
    simpa using this

end Go.Proofs.YtijfocggdjjnjaiGreatDoor.Frame

/-
  What the function Open of package crc returns, and what it makes. It changes nothing that was there. Its condition: at most 2^47 bytes.
-/
namespace Go.Proofs.YtijfocggdjjnjaiGreatDoor.Crc
open Go.ChangeShapes Go.WideShapes Go.ChangeAt Go.RowKit Go.Proofs.YtijfocggdjjnjaiGreatDoor.CM Go.Proofs.YtijfocggdjjnjaiGreatDoor.Mem
set_option linter.unusedVariables false

set_option maxHeartbeats 400000 in
theorem open_short (a : Option Addr) (len cap : Nat) (w : World) (h : len < 4) :
    Calls Tryz.prog 55 #[.slice a len cap] w fun e w' => e = .returned (.tuple #[.slice none 0 0, .iface 58 (.int .i64 8)]) ∧ w' = w := by
  go_enter Tryz.func55, Tryz.ntmps55
  go_wp2_with fail
  go_ret2
  exact ⟨rfl, rfl⟩

theorem tail_cells {w : World} {b o m : Nat} {B : List Nat} {t0 t1 t2 t3 : Nat} (h : Bys w (some ⟨b, o, none⟩) (B ++ [t0, t1, t2, t3])) (hm : B.length = m) :
    w.cell? ⟨b, o + m, none⟩ = some (.int .u8 (t0 : Int)) ∧ w.cell? ⟨b, o + m + 1, none⟩ = some (.int .u8 (t1 : Int)) ∧ w.cell? ⟨b, o + m + 2, none⟩ = some (.int .u8 (t2 : Int)) ∧ w.cell? ⟨b, o + m + 3, none⟩ = some (.int .u8 (t3 : Int)) := by
  have hd := h.drop m
  rw [← hm, List.drop_left] at hd
  rw [hm] at hd
  have f : ∀ j (hj : j < 4), w.cell? ⟨b, o + m + j, none⟩ = some (.int .u8 ([t0, t1, t2, t3].getD j 0 : Nat)) := by
    intro j hj
    obtain ⟨b', o', e, hc⟩ := hd.2 j hj
    simp only [Option.some.injEq, Addr.mk.injEq, and_true] at e
    obtain ⟨rfl, rfl⟩ := e
    exact hc
  exact ⟨f 0 (by decide), f 1 (by decide), f 2 (by decide), f 3 (by decide)⟩

theorem told_eq (t0 t1 t2 t3 : Nat) (h0 : t0 < 256) (h1 : t1 < 256) (h2 : t2 < 256) (h3 : t3 < 256) :
    bits .or .u32 (bits .or .u32 (bits .or .u32 ((t0 : Int) % 4294967296 * 16777216 % 4294967296) ((t1 : Int) % 4294967296 * 65536 % 4294967296)) ((t2 : Int) % 4294967296 * 256 % 4294967296)) ((t3 : Int) % 4294967296) = ((num 0 [t0, t1, t2, t3] : Nat) : Int) := by
  rw [show (t0 : Int) % 4294967296 * 16777216 % 4294967296 = ((t0 * 16777216 : Nat) : Int) by omega, show (t1 : Int) % 4294967296 * 65536 % 4294967296 = ((t1 * 65536 : Nat) : Int) by omega,
    show (t2 : Int) % 4294967296 * 256 % 4294967296 = ((t2 * 256 : Nat) : Int) by omega, show (t3 : Int) % 4294967296 = ((t3 : Nat) : Int) by omega]
  have l1 : t0 * 16777216 ||| t1 * 65536 < 4294967296 := Nat.or_lt_two_pow (n := 32) (by omega) (by omega)
  have l2 : t0 * 16777216 ||| t1 * 65536 ||| t2 * 256 < 4294967296 := Nat.or_lt_two_pow (n := 32) l1 (by omega)
  rw [u32_or_nat _ _ (by omega) (by omega), u32_or_nat _ _ l1 (by omega), u32_or_nat _ _ l2 (by omega), or4 t0 t1 t2 t3 h1 h2 h3]
  simp [num]

set_option maxHeartbeats 1000000 in
set_option maxRecDepth 100000 in
theorem open_bad (b o cap m : Nat) (B : List Nat) (t0 t1 t2 t3 : Nat) (w : World) (hm : B.length = m) (h : Arg w (some ⟨b, o, none⟩) (m + 4) (B ++ [t0, t1, t2, t3])) (hc : m + 4 ≤ cap) (hne : num 0 [t0, t1, t2, t3] ≠ go 0 B) :
    Calls Tryz.prog 55 #[.slice (some ⟨b, o, none⟩) (m + 4) cap] w fun e w' => e = .returned (.tuple #[.slice none 0 0, .iface 58 (.int .i64 9)]) ∧ ∃ k, w' = w.drewN k := by
  have HA := hidden h
  have hl := h.2.2
  obtain ⟨c0, c1, c2, c3⟩ := tail_cells h.1 hm
  have s0 := cut_high (some ⟨b, o, none⟩) (m + 4) cap m (by omega)
  have s1 := cut_low b o (m + 4) cap m (by omega) (by omega)
  rw [show m + 4 - m = 4 by omega] at s1
  have HE := hidden (told_eq t0 t1 t2 t3 (h.1.1 t0 (by simp)) (h.1.1 t1 (by simp)) (h.1.1 t2 (by simp)) (h.1.1 t3 (by simp)))
  have HB : Hid (Bys w (some ⟨b, o, none⟩) B) := by
    have := h.1.take m
    rw [← hm, List.take_left] at this
    exact this
  have CG := fun w h => goOn_calls 0 (some ⟨b, o, none⟩) m cap B w (by decide) hm (by omega) h
  generalize go 0 B = g at *
  have HG := hidden CG
  generalize num 0 [t0, t1, t2, t3] = q at *
  have d0 : ((q : Int) == (g : Int)) = false := by simp; omega
  clear h hne CG hm
  go_enter Tryz.func55, Tryz.ntmps55
  go_wp2_with fail
  go_quiet (fail)
  go_wp2_with fail
  go_quiet (fail)
  rw [HE.out]
  go_wp2_with fail
  refine (HG.out _ (by exact HB.out)).mono ?_
  rintro e w1 ⟨rfl, rfl⟩
  go_wp2_with fail
  go_ret2
  exact ⟨rfl, _, rfl⟩

set_option maxHeartbeats 1000000 in
set_option maxRecDepth 100000 in
theorem open_good (b o cap m : Nat) (B : List Nat) (t0 t1 t2 t3 : Nat) (w : World) (hm : B.length = m) (h : Arg w (some ⟨b, o, none⟩) (m + 4) (B ++ [t0, t1, t2, t3])) (hc : m + 4 ≤ cap) (he : num 0 [t0, t1, t2, t3] = go 0 B) (hr : m ≤ 140737488355328) :
    Calls Tryz.prog 55 #[.slice (some ⟨b, o, none⟩) (m + 4) cap] w fun e w' => ∃ v, e = .returned (.tuple #[v, .nilIface]) ∧ w'.ownsRow w.heap.size 5 1 v m (cellsOf B) ∧ Below w.heap.size w w' := by
  have HA := hidden h
  have hl := h.2.2
  obtain ⟨c0, c1, c2, c3⟩ := tail_cells h.1 hm
  have s0 := cut_high (some ⟨b, o, none⟩) (m + 4) cap m (by omega)
  have s1 := cut_low b o (m + 4) cap m (by omega) (by omega)
  rw [show m + 4 - m = 4 by omega] at s1
  have HE := hidden (told_eq t0 t1 t2 t3 (h.1.1 t0 (by simp)) (h.1.1 t1 (by simp)) (h.1.1 t2 (by simp)) (h.1.1 t3 (by simp)))
  have HB : Hid (Bys w (some ⟨b, o, none⟩) B) := by
    have := h.1.take m
    rw [← hm, List.take_left] at this
    exact this
  have CG := fun w h => goOn_calls 0 (some ⟨b, o, none⟩) m cap B w (by decide) hm (by omega) h
  generalize go 0 B = g at *
  have HG := hidden CG
  generalize num 0 [t0, t1, t2, t3] = q at *
  have d0 : ((q : Int) == (g : Int)) = true := by simp; omega
  have HM := hidden hm
  obtain ⟨i0, hii, hz0, hz1, hz2⟩ := info_parts info5
  clear h he CG hm
  go_enter Tryz.func55, Tryz.ntmps55
  go_wp2_with fail
  go_quiet (fail)
  go_wp2_with fail
  go_quiet (fail)
  rw [HE.out]
  go_wp2_with fail
  refine (HG.out _ (by exact HB.out)).mono ?_
  rintro e w1 ⟨rfl, rfl⟩
  go_wp2_with (at_builtin; refine wpList_append_own _ rfl _ _ 29 rfl w.heap.size 5 i0 (.int .u8 0) 1 1 Tryz.underlying29 hii hz0 hz1 hz2 rfl (by decide) _ 0 [] rfl (World.ownsRow_nil _ _ _ _) ⟨b, o, none⟩ m cap (cellsOf B) rfl ?al ?ac (cells_one B) ?b1 ?b2 ?b3 ?next)
  case al => rw [cellsOf_len, HM.out]; omega
  case ac => exact bys_cells (by exact HB.out) _ rfl
  case b1 => unfold maxLen; omega
  case b2 => omega
  case b3 => exact Nat.le_refl _
  case next =>
    intro v' w2 hown hgrow _
    have HO := hidden hown
    have HW : Hid (Below w.heap.size w w2) := (below_drewN (Below.refl _ _) _).grown hgrow (Nat.le_refl _) (by simp [Value.ownBlock])
    clear hown hgrow
    go_wp2_with fail
    go_ret2
    exact ⟨v', rfl, HO.out, HW.out⟩
end Go.Proofs.YtijfocggdjjnjaiGreatDoor.Crc

/-
  What the function Read of package frame returns, whatever bytes it is given, and what it makes. It changes nothing that was there. Its condition: at most 2^47 bytes.
-/
namespace Go.Proofs.YtijfocggdjjnjaiGreatDoor.Frame
open Go.ChangeShapes Go.WideShapes Go.ChangeAt Go.RowKit Go.Proofs.YtijfocggdjjnjaiGreatDoor.PM Go.Proofs.YtijfocggdjjnjaiGreatDoor.CM Go.Proofs.YtijfocggdjjnjaiGreatDoor.Mem Go.Proofs.YtijfocggdjjnjaiGreatDoor.Pack Go.Proofs.YtijfocggdjjnjaiGreatDoor.FM
set_option linter.unusedVariables false

/-- Open, of whatever bytes -/
theorem open_all (a : Option Addr) (n cap : Nat) (B : List Nat) (w : World) (h : Arg w a n B) (hc : n ≤ cap) (hr : n ≤ 140737488355328) :
    Calls Tryz.prog 55 #[.slice a n cap] w fun e w' => ∃ a' m c', e = .returned (.tuple #[.slice a' m c', errv (ofault B)]) ∧ Below w.heap.size w w' ∧ (ofault B = 0 → Arg w' a' m (opened B) ∧ m ≤ c' ∧ (∀ ad, a' = some ad → w.heap.size ≤ ad.block)) := by
  have hl := h.2.1
  by_cases h4 : n < 4
  · have ho : ofault B = 8 := by unfold ofault; rw [if_pos (by omega)]
    refine (Crc.open_short a n cap w h4).mono ?_
    rintro e w' ⟨rfl, rfl⟩
    exact ⟨none, 0, 0, by rw [ho]; rfl, Below.refl _ _, fun h => by omega⟩
  · obtain ⟨X, t0, t1, t2, t3, rfl, _⟩ := split4 (B := B) (by omega)
    obtain ⟨e1, e2⟩ := ofault_split X t0 t1 t2 t3
    obtain ⟨b, o, rfl⟩ := arg_at h (by omega)
    obtain ⟨m, rfl⟩ : ∃ m, n = m + 4 := ⟨n - 4, by omega⟩
    have hm : X.length = m := by simp at hl; omega
    rw [e1, e2]
    by_cases q : num 0 [t0, t1, t2, t3] = go 0 X
    · rw [if_pos q]
      refine (Crc.open_good b o cap m X t0 t1 t2 t3 w hm h hc q (by omega)).mono ?_
      rintro e w' ⟨v, rfl, ho, hb⟩
      obtain ⟨a', c', rfl, hA, hN, hC, hP⟩ := own_slice ho (fun c hc => h.1.1 c (by simp [hc])) (by omega)
      exact ⟨a', m, c', rfl, hb, fun _ => ⟨hA, hC, fun ad e => by obtain ⟨g, rfl, hg⟩ := hP ad e; exact hg⟩⟩
    · rw [if_neg q]
      refine (Crc.open_bad b o cap m X t0 t1 t2 t3 w hm h hc q).mono ?_
      rintro e w' ⟨rfl, k, rfl⟩
      exact ⟨none, 0, 0, rfl, below_drewN (Below.refl _ _) _, fun h => by omega⟩

/-- a frame and something else, handed back -/
theorem res_fr {fn : Func} {tmps : Array Value} {w : World} {g i j : Nat} {t o e p : Int} {a : Option Addr} {n cap : Nat} (hf : fn.results = #[.cell i 40, .tmp j]) (hi : tmps.getD i undef = .pointer (some ⟨g, 0, none⟩)) (hb : FBox w g t o e p (.slice a n cap)) :
    (results fn tmps).run Tryz.prog w = .ok (.tuple #[.agg #[.int .i64 t, .int .i64 o, .int .i64 e, .int .i64 p, .slice a n cap], tmps.getD j undef]) w := by
  obtain ⟨c0, c1, c2, c3, c4⟩ := hb.cells
  have hi' : tmps[i]?.getD undef = .pointer (some ⟨g, 0, none⟩) := by simpa using hi
  simp [results, hf, hi', go_sem, c0, c1, c2, c3, c4]
/-- the five cells of a frame's variable, written -/
theorem FBox.set5 {w : World} {g : Nat} {t o e p : Int} {bv : Value} (h : FBox w g t o e p bv) (t' o' e' p' : Int) (bv' : Value) :
    FBox (((((w.setCell ⟨g, 0, none⟩ (.int .i64 t')).setCell ⟨g, 1, none⟩ (.int .i64 o')).setCell ⟨g, 2, none⟩ (.int .i64 e')).setCell ⟨g, 3, none⟩ (.int .i64 p')).setCell ⟨g, 4, none⟩ bv') g t' o' e' p' bv' := by
  have h0 := heap_setCell_same _ _ 0 _ _ (.int .i64 t') h
  have h1 := heap_setCell_same _ _ 1 _ _ (.int .i64 o') h0
  have h2 := heap_setCell_same _ _ 2 _ _ (.int .i64 e') h1
  have h3 := heap_setCell_same _ _ 3 _ _ (.int .i64 p') h2
  exact heap_setCell_same _ _ 4 _ _ bv' h3
theorem FBox.free {w : World} {g : Nat} {t o e p : Int} {bv : Value} (h : FBox w g t o e p bv) (k : Nat) : w.frozen? ⟨g, k, none⟩ = false := by
  simp only [FBox] at h
  simp [World.frozen?, h]

/-- a result's variable, laid next behind w, and nothing else changed -/
def Res (w wx : World) : Prop := Below w.heap.size w wx ∧ FBox wx w.heap.size 0 0 0 0 (.slice none 0 0)
theorem Res.new (w : World) : Res w (w.alloc (.cells #[.int .i64 0, .int .i64 0, .int .i64 0, .int .i64 0, .slice none 0 0] 40)) := ⟨(Below.refl _ _).alloc (Nat.le_refl _) _, FBox.new w _ _ _ _ _⟩
theorem Res.next {w wx wy : World} (h : Res w wx) (hb : Below wx.heap.size wx wy) : Res w wy := ⟨h.1.trans (hb.mono h.1.size), h.2.below hb h.2.lt⟩
theorem Res.below5 {w wx : World} (h : Res w wx) (v0 v1 v2 v3 v4 : Value) : Below w.heap.size w (((((wx.setCell ⟨w.heap.size, 0, none⟩ v0).setCell ⟨w.heap.size, 1, none⟩ v1).setCell ⟨w.heap.size, 2, none⟩ v2).setCell ⟨w.heap.size, 3, none⟩ v3).setCell ⟨w.heap.size, 4, none⟩ v4) :=
  ((((h.1.setCell (Nat.le_refl _) _).setCell (Nat.le_refl _) _).setCell (Nat.le_refl _) _).setCell (Nat.le_refl _) _).setCell (Nat.le_refl _) _

set_option maxHeartbeats 1000000 in
set_option maxRecDepth 100000 in
theorem fread_open (a : Option Addr) (n cap : Nat) (B : List Nat) (w : World) (h : Arg w a n B) (hc : n ≤ cap) (hr : n ≤ 140737488355328) (hf : ofault B ≠ 0) :
    Calls Tryz.prog 32 #[.slice a n cap] w fun e w' => e = .returned (.tuple #[.agg #[.int .i64 0, .int .i64 0, .int .i64 0, .int .i64 0, .slice none 0 0], errv (ofault B)]) ∧ Below w.heap.size w w' := by
  have HO := hidden (fun W h => open_all a n cap B W h hc hr)
  have HA := hidden h
  generalize ofault B = f at *
  simp only [errv_pos hf] at HO ⊢
  clear h
  go_enter Tryz.func32, Tryz.ntmps32
  go_wp2_with fail
  refine (HO.out _ (HA.out.below (Res.new w).1)).mono ?_
  rintro e w1 ⟨a1, m1, c1, rfl, hb1, _⟩
  have HX := hidden ((Res.new w).next hb1)
  clear hb1
  obtain ⟨x0, x1, x2, x3, x4⟩ := HX.out.2.cells
  have f0 := HX.out.2.free
  go_wp2_with fail
  refine bodyPost_ret (res_fr (g := w.heap.size) rfl rfl (HX.out.2.set5 0 0 0 0 (.slice none 0 0))) rfl ?_
  exact ⟨rfl, HX.out.below5 _ _ _ _ _⟩

theorem opened_lt {B : List Nat} (h : ∀ c ∈ B, c < 256) : ∀ c ∈ opened B, c < 256 := fun c hc => h c (List.mem_of_mem_take hc)

set_option maxHeartbeats 1000000 in
set_option maxRecDepth 100000 in
theorem fread_short (a : Option Addr) (n cap : Nat) (B : List Nat) (w : World) (h : Arg w a n B) (hc : n ≤ cap) (hr : n ≤ 140737488355328) (hf : ofault B = 0) (hs : (opened B).length < 6) :
    Calls Tryz.prog 32 #[.slice a n cap] w fun e w' => e = .returned (.tuple #[.agg #[.int .i64 0, .int .i64 0, .int .i64 0, .int .i64 0, .slice none 0 0], .iface 58 (.int .i64 8)]) ∧ Below w.heap.size w w' := by
  have HO := hidden (fun W h => open_all a n cap B W h hc hr)
  have HA := hidden h
  generalize ofault B = f at *
  subst hf
  simp only [errv_zero] at HO
  clear h
  go_enter Tryz.func32, Tryz.ntmps32
  go_wp2_with fail
  refine (HO.out _ (HA.out.below (Res.new w).1)).mono ?_
  rintro e w1 ⟨a1, m1, c1, rfl, hb1, hx⟩
  obtain ⟨hA1, _, _⟩ := hx (by trivial)
  have hm : m1 < 6 := by have := hA1.2.1; omega
  have HX := hidden ((Res.new w).next hb1)
  clear hb1 hx hA1
  obtain ⟨x0, x1, x2, x3, x4⟩ := HX.out.2.cells
  have f0 := HX.out.2.free
  go_wp2_with fail
  refine bodyPost_ret (res_fr (g := w.heap.size) rfl rfl (HX.out.2.set5 0 0 0 0 (.slice none 0 0))) rfl ?_
  exact ⟨rfl, HX.out.below5 _ _ _ _ _⟩

set_option maxHeartbeats 1000000 in
set_option maxRecDepth 100000 in
theorem fread_syntax (a : Option Addr) (n cap : Nat) (B : List Nat) (w : World) (h : Arg w a n B) (hc : n ≤ cap) (hr : n ≤ 140737488355328) (hf : ofault B = 0) (y0 : Nat) (R : List Nat) (hX : opened B = y0 :: R) (hs : 5 ≤ R.length) (h7 : y0 ≠ 70) :
    Calls Tryz.prog 32 #[.slice a n cap] w fun e w' => e = .returned (.tuple #[.agg #[.int .i64 0, .int .i64 0, .int .i64 0, .int .i64 0, .slice none 0 0], .iface 58 (.int .i64 2)]) ∧ Below w.heap.size w w' := by
  have HO := hidden (fun W h => open_all a n cap B W h hc hr)
  have hlt : y0 < 256 := opened_lt h.1.1 y0 (by rw [hX]; simp)
  have HA := hidden h
  generalize ofault B = f at *
  subst hf
  simp only [errv_zero, hX] at HO
  have d7 : ((y0 : Int) == 70) = false := by rw [beq_eq_false_iff_ne]; omega
  clear h hX h7
  go_enter Tryz.func32, Tryz.ntmps32
  go_wp2_with fail
  refine (HO.out _ (HA.out.below (Res.new w).1)).mono ?_
  rintro e w1 ⟨a1, m1, c1, rfl, hb1, hx⟩
  obtain ⟨hA1, _, _⟩ := hx (by trivial)
  have hm : R.length + 1 = m1 := by have := hA1.2.1; simpa using this
  obtain ⟨b, o, rfl⟩ := arg_at hA1 (by omega)
  have c0 : w1.cell? ⟨b, o, none⟩ = some (.int .u8 (y0 : Int)) := arg_cell hA1 0 (by omega)
  have HX := hidden ((Res.new w).next hb1)
  have n0 : (0 : Int) < (m1 : Int) := by omega
  have n6 : decide ((m1 : Int) < 6) = false := by simp; omega
  clear hb1 hx hA1 hm
  obtain ⟨x0, x1, x2, x3, x4⟩ := HX.out.2.cells
  have f0 := HX.out.2.free
  go_wp2_with fail
  refine bodyPost_ret (res_fr (g := w.heap.size) rfl rfl (HX.out.2.set5 0 0 0 0 (.slice none 0 0))) rfl ?_
  exact ⟨rfl, HX.out.below5 _ _ _ _ _⟩

theorem ep_or (x4 x5 : Nat) (h4 : x4 < 256) (h5 : x5 < 256) : bits .or .i64 ((x4 : Int) * 256) (x5 : Int) = ((x4 * 256 + x5 : Nat) : Int) := by
  rw [show (x4 : Int) * 256 = ((x4 * 256 : Nat) : Int) by omega, i64_or_nat _ _ (by omega) (by omega), nat_join 8 (x4 * 256) x5 (by omega) (by omega)]

/-- both variables: the result's, next behind w, and that of f; nothing else changed -/
def Two (w wx : World) (g : Nat) (t o e p : Int) (bv : Value) : Prop := Res w wx ∧ FBox wx g t o e p bv ∧ w.heap.size < g
theorem Two.next {w wx wy : World} {g : Nat} {t o e p : Int} {bv : Value} (h : Two w wx g t o e p bv) (hb : Below wx.heap.size wx wy) : Two w wy g t o e p bv := ⟨h.1.next hb, h.2.1.below hb h.2.1.lt, h.2.2⟩
theorem Two.drew {w wx : World} {g : Nat} {t o e p : Int} {bv : Value} (h : Two w wx g t o e p bv) : Two w wx.drew g t o e p bv := h.next (Below.refl _ _).drew
theorem Res.two {w wx : World} (h : Res w wx) (t o e p : Int) (bv : Value) : Two w (wx.alloc (.cells #[.int .i64 t, .int .i64 o, .int .i64 e, .int .i64 p, bv] 40)) wx.heap.size t o e p bv :=
  ⟨h.next ((Below.refl _ _).alloc (Nat.le_refl _) _), FBox.new _ _ _ _ _ _, h.2.lt⟩

theorem Arg.set {w : World} {a : Option Addr} {n : Nat} {L : List Nat} (h : Arg w a n L) {p : Addr} (hp : ∀ ad, a = some ad → ad.block ≠ p.block) (v : Value) : Arg (w.setCell p v) a n L := by
  refine ⟨⟨h.1.1, fun j hj => ?_⟩, h.2⟩
  obtain ⟨b, o, e, hc⟩ := h.1.2 j hj
  exact ⟨b, o, e, (World.cell?_of_block (Below.heap_setCell w p v b (hp _ e))).trans hc⟩
theorem Arg.set5 {w : World} {a : Option Addr} {n : Nat} {L : List Nat} (h : Arg w a n L) {g : Nat} (hp : ∀ ad, a = some ad → ad.block ≠ g) (v0 v1 v2 v3 v4 : Value) :
    Arg (((((w.setCell ⟨g, 0, none⟩ v0).setCell ⟨g, 1, none⟩ v1).setCell ⟨g, 2, none⟩ v2).setCell ⟨g, 3, none⟩ v3).setCell ⟨g, 4, none⟩ v4) a n L :=
  Arg.set (Arg.set (Arg.set (Arg.set (Arg.set h hp v0) hp v1) hp v2) hp v3) hp v4
theorem cutAt_block {b o cap l : Nat} : ∀ ad, cutAt (some ⟨b, o, none⟩) cap l = some ad → ad.block = b := by
  intro ad h
  unfold cutAt at h
  split at h
  · rw [← Option.some.inj h]
  · rw [Option.map_some] at h
    rw [← Option.some.inj h]
    unfold Addr.add; split <;> simp_all
/-- what Read answers of bytes within -/
def RPost (w w' : World) (q : Nat) (t o e p : Int) (R : List Nat) (ev : Ending) : Prop :=
  ∃ a' m c', Below w.heap.size w w' ∧ ((q ≠ 0 ∧ ev = .returned (.tuple #[.agg #[.int .i64 0, .int .i64 0, .int .i64 0, .int .i64 0, .slice none 0 0], errv q])) ∨
    (q = 0 ∧ ev = .returned (.tuple #[.agg #[.int .i64 t, .int .i64 o, .int .i64 e, .int .i64 p, .slice a' m c'], .nilIface]) ∧ Arg w' a' m R ∧ m ≤ c' ∧ (a' = none → m = 0 ∧ c' = 0) ∧ ∀ ad, a' = some ad → w.heap.size ≤ ad.block))

set_option maxHeartbeats 2000000 in
set_option maxRecDepth 100000 in
theorem fread_rest (a : Option Addr) (n cap : Nat) (B : List Nat) (w : World) (h : Arg w a n B) (hc : n ≤ cap) (hr : n ≤ 140737488355328) (hf : ofault B = 0) (y1 y2 y3 y4 y5 : Nat) (R : List Nat) (hX : opened B = 70 :: y1 :: y2 :: y3 :: y4 :: y5 :: R) :
    Calls Tryz.prog 32 #[.slice a n cap] w fun e w' => RPost w w' (ffault y1 y2 ((y4 * 256 + y5 : Nat) : Int) y3 R) y1 y2 ((y4 * 256 + y5 : Nat) : Int) y3 R e := by
  have HO := hidden (fun W h => open_all a n cap B W h hc hr)
  have hlt : ∀ c ∈ opened B, c < 256 := opened_lt h.1.1
  rw [hX] at hlt
  have l1 := hlt y1 (by simp)
  have l2 := hlt y2 (by simp)
  have l3 := hlt y3 (by simp)
  have l4 := hlt y4 (by simp)
  have l5 := hlt y5 (by simp)
  have HA := hidden h
  have hor := ep_or y4 y5 l4 l5
  have hw1 : IntKind.i64.wrap (y1 : Int) = (y1 : Int) := i64_wrap (by omega) (by omega)
  have hw2 : IntKind.i64.wrap (y2 : Int) = (y2 : Int) := i64_wrap (by omega) (by omega)
  have hw3 : IntKind.i64.wrap (y3 : Int) = (y3 : Int) := i64_wrap (by omega) (by omega)
  have hw4 : IntKind.i64.wrap (y4 : Int) = (y4 : Int) := i64_wrap (by omega) (by omega)
  have hw5 : IntKind.i64.wrap (y5 : Int) = (y5 : Int) := i64_wrap (by omega) (by omega)
  have hw6 : IntKind.i64.wrap ((y4 : Int) * 256) = (y4 : Int) * 256 := i64_wrap (by omega) (by omega)
  have HC := hidden (fun W a' m c' h hc => fcheck_calls y1 y2 ((y4 * 256 + y5 : Nat) : Int) y3 a' m c' R W h hc)
  generalize ffault y1 y2 ((y4 * 256 + y5 : Nat) : Int) y3 R = q at *
  generalize ((y4 * 256 + y5 : Nat) : Int) = EP at *
  generalize ofault B = f at *
  subst hf
  simp only [errv_zero, hX] at HO
  clear h hX hlt
  go_enter Tryz.func32, Tryz.ntmps32
  go_wp2_with fail
  refine (HO.out _ (HA.out.below (Res.new w).1)).mono ?_
  rintro e w1 ⟨a1, m1, k1, rfl, hb1, hx⟩
  obtain ⟨hA1, hk1, hp1⟩ := hx (by trivial)
  have hm : R.length + 6 = m1 := by have := hA1.2.1; simpa using this
  obtain ⟨b, o, rfl⟩ := arg_at hA1 (by omega)
  have hmx := hA1.2.2
  have c0 : w1.cell? ⟨b, o, none⟩ = some (.int .u8 70) := arg_cell hA1 0 (by omega)
  have c1 : w1.cell? ⟨b, o + 1, none⟩ = some (.int .u8 (y1 : Int)) := arg_cell hA1 1 (by omega)
  have c2 : w1.cell? ⟨b, o + 2, none⟩ = some (.int .u8 (y2 : Int)) := arg_cell hA1 2 (by omega)
  have c3 : w1.cell? ⟨b, o + 3, none⟩ = some (.int .u8 (y3 : Int)) := arg_cell hA1 3 (by omega)
  have c4 : w1.cell? ⟨b, o + 4, none⟩ = some (.int .u8 (y4 : Int)) := arg_cell hA1 4 (by omega)
  have c5 : w1.cell? ⟨b, o + 5, none⟩ = some (.int .u8 (y5 : Int)) := arg_cell hA1 5 (by omega)
  have d1 := fun O => cell_alloc c1 O
  have d2 := fun O => cell_alloc c2 O
  have d3 := fun O => cell_alloc c3 O
  have d4 := fun O => cell_alloc c4 O
  have d5 := fun O => cell_alloc c5 O
  have e6 : ∀ w, (Instr.slice 29 (.slice (some ⟨b, o, none⟩) m1 k1) (some (.int .i64 6)) none none).run Tryz.prog w = .ok (.slice (cutAt (some ⟨b, o, none⟩) k1 6) (m1 - 6) (k1 - 6)) w := fun w => cut_l (some ⟨b, o, none⟩) m1 k1 6 (by omega) w
  have HR : Hid (Arg w1 (cutAt (some ⟨b, o, none⟩) k1 6) (m1 - 6) R) := by
    have := cut_arg (l := 6) (h := m1) hA1 (by omega) (Nat.le_refl _) hk1
    rw [show (70 :: y1 :: y2 :: y3 :: y4 :: y5 :: R).drop 6 = R from rfl, List.take_of_length_le (by omega)] at this
    exact this
  have hk6 : m1 - 6 ≤ k1 - 6 := by omega
  have HP : Hid (∀ ad, cutAt (some ⟨b, o, none⟩) k1 6 = some ad → w.heap.size < ad.block) := fun ad h => by have h1 := cutAt_block ad h; have h2 := hp1 _ rfl; simp at h2; omega
  have HN : Hid (cutAt (some ⟨b, o, none⟩) k1 6 = none → m1 - 6 = 0 ∧ k1 - 6 = 0) := fun h => by have := cutAt_none h; simp at this
  generalize cutAt (some ⟨b, o, none⟩) k1 6 = aR at *
  have HX := hidden ((Res.new w).next hb1)
  have n0 : (0 : Int) < (m1 : Int) := by omega
  have n1 : (1 : Int) < (m1 : Int) := by omega
  have n2 : (2 : Int) < (m1 : Int) := by omega
  have n3 : (3 : Int) < (m1 : Int) := by omega
  have n4 : (4 : Int) < (m1 : Int) := by omega
  have n5 : (5 : Int) < (m1 : Int) := by omega
  have n6 : decide ((m1 : Int) < 6) = false := by simp; omega
  clear hb1 hx hA1 hm hp1
  go_wp2_with fail
  go_region
  have HT := hidden (HX.out.two y1 y2 EP y3 (.slice aR (m1 - 6) (k1 - 6))).drew
  have HRT := hidden (HR.out.below (((Below.refl w1.heap.size w1).alloc (Nat.le_refl _) (.cells #[.int .i64 (y1 : Int), .int .i64 (y2 : Int), .int .i64 EP, .int .i64 (y3 : Int), .slice aR (m1 - 6) (k1 - 6)] 40)).drew))
  clear c0 c1 c2 c3 c4 c5 d1 d2 d3 d4 d5 e6 n0 n1 n2 n3 n4 n5 n6 hw1 hw2 hw3 hw4 hw5 hw6 hor HX HR HO
  obtain ⟨x0, x1, x2, x3, x4⟩ := HT.out.2.1.cells
  go_wp2_with fail
  refine (HC.out _ aR (m1 - 6) (k1 - 6) HRT.out hk6).mono ?_
  rintro e w2 ⟨rfl, hb2⟩
  have HT2 := hidden (HT.out.next hb2)
  have HR2 := hidden (HRT.out.below hb2)
  clear hb2 x0 x1 x2 x3 x4 HT HRT HC
  obtain ⟨x0, x1, x2, x3, x4⟩ := HT2.out.2.1.cells
  obtain ⟨u0, u1, u2, u3, u4⟩ := HT2.out.1.2.cells
  have f0 := HT2.out.1.2.free
  by_cases hq : q = 0
  · subst hq
    rw [errv_zero]
    go_wp2_with fail
    refine bodyPost_ret (res_fr (g := w.heap.size) rfl rfl (HT2.out.1.2.set5 y1 y2 EP y3 (.slice aR (m1 - 6) (k1 - 6)))) rfl ?_
    exact ⟨aR, m1 - 6, k1 - 6, HT2.out.1.below5 _ _ _ _ _, .inr ⟨rfl, rfl, Arg.set5 HR2.out (fun ad h => by have := HP.out ad h; omega) _ _ _ _ _, hk6, HN.out, fun ad h => Nat.le_of_lt (HP.out ad h)⟩⟩
  · rw [errv_pos hq]
    go_wp2_with fail
    refine bodyPost_ret (res_fr (g := w.heap.size) rfl rfl (HT2.out.1.2.set5 0 0 0 0 (.slice none 0 0))) rfl ?_
    exact ⟨none, 0, 0, HT2.out.1.below5 _ _ _ _ _, .inl ⟨hq, by rw [errv_pos hq]; rfl⟩⟩
end Go.Proofs.YtijfocggdjjnjaiGreatDoor.Frame

/-
  What the functions Encode, Read and Pass of package frame return, whatever they are given: one row each. They change nothing that was there. The condition of Read and Pass: at most 2^47 bytes.
-/
namespace Go.Proofs.YtijfocggdjjnjaiGreatDoor.Frame
open Go.ChangeShapes Go.WideShapes Go.ChangeAt Go.RowKit Go.Proofs.YtijfocggdjjnjaiGreatDoor.PM Go.Proofs.YtijfocggdjjnjaiGreatDoor.CM Go.Proofs.YtijfocggdjjnjaiGreatDoor.Mem Go.Proofs.YtijfocggdjjnjaiGreatDoor.Pack Go.Proofs.YtijfocggdjjnjaiGreatDoor.FM
set_option linter.unusedVariables false

/-- the bytes of a frame; none where it is wrong -/
def fenc (t o e p : Int) (B : List Nat) : List Nat := if ffault t o e p B = 0 then fbytes t.toNat o.toNat e.toNat p.toNat B else []
theorem fenc_good {t o e p : Nat} {B : List Nat} (h : ffault t o e p B = 0) : fenc t o e p B = fbytes t o e p B := by
  unfold fenc
  rw [if_pos h]
  simp only [Int.toNat_natCast]
theorem fencode_all (t o e p : Int) (a : Option Addr) (n cap : Nat) (B : List Nat) (w : World) (h : Arg w a n B) (hn : a = none → n = 0 ∧ cap = 0) (hc : n ≤ cap) :
    Calls Tryz.prog 14 #[.agg #[.int .i64 t, .int .i64 o, .int .i64 e, .int .i64 p, .slice a n cap]] w fun ev w' => ∃ a' m c', ev = .returned (.tuple #[.slice a' m c', errv (ffault t o e p B)]) ∧ Below w.heap.size w w' ∧ Arg w' a' m (fenc t o e p B) ∧ m ≤ c' ∧ m ≤ 2000 := by
  by_cases hf : ffault t o e p B = 0
  · obtain ⟨t', o', e', p', rfl, rfl, rfl, rfl, h1, h2, h3, h4, h5, h6⟩ := ffault_zero hf
    refine (fencode_good t' o' e' p' a n cap B w h hn hc h1 h2 h3 h4 h5 h6).mono ?_
    rintro ev w' ⟨g, rfl, _, hR, hB⟩
    have hl := (rfault_len h6).2
    have hlen := h.2.1
    refine ⟨_, _, _, by rw [hf]; rfl, hB, ?_, Nat.le_refl _, by omega⟩
    rw [fenc_good hf]
    exact ⟨hR.bys (sealed_lt (inner_lt h2 h3 h4 h5 h.1.1)), by rw [fbytes_len, hlen], by omega⟩
  · refine (fencode_bad t o e p a n cap B w h hc hf).mono ?_
    rintro ev w' ⟨rfl, hb⟩
    refine ⟨none, 0, 0, rfl, hb, ?_, Nat.le_refl _, by omega⟩
    unfold fenc
    rw [if_neg hf]
    exact ⟨Bys.nil _ _, rfl, by omega⟩

theorem fread_all (a : Option Addr) (n cap : Nat) (B : List Nat) (w : World) (h : Arg w a n B) (hc : n ≤ cap) (hr : n ≤ 140737488355328) :
    Calls Tryz.prog 32 #[.slice a n cap] w fun e w' => ∃ a' m c', e = .returned (.tuple #[.agg #[.int .i64 ((bfr B).tr : Int), .int .i64 ((bfr B).og : Int), .int .i64 ((bfr B).ep : Int), .int .i64 ((bfr B).hp : Int), .slice a' m c'], errv (bfault B)]) ∧ Below w.heap.size w w' ∧ Arg w' a' m (bfr B).body ∧ m ≤ c' ∧ (a' = none → m = 0 ∧ c' = 0) ∧ ∀ ad, a' = some ad → w.heap.size ≤ ad.block := by
  have hbad : ∀ (w' : World) (k : Nat), bfault B = k → k ≠ 0 → Below w.heap.size w w' → ∃ a' m c', Ending.returned (.tuple #[.agg #[.int .i64 0, .int .i64 0, .int .i64 0, .int .i64 0, .slice none 0 0], errv k]) = .returned (.tuple #[.agg #[.int .i64 ((bfr B).tr : Int), .int .i64 ((bfr B).og : Int), .int .i64 ((bfr B).ep : Int), .int .i64 ((bfr B).hp : Int), .slice a' m c'], errv (bfault B)]) ∧ Below w.heap.size w w' ∧ Arg w' a' m (bfr B).body ∧ m ≤ c' ∧ (a' = none → m = 0 ∧ c' = 0) ∧ ∀ ad, a' = some ad → w.heap.size ≤ ad.block := by
    intro w' k hk h0 hb
    rw [bfr_bad (by omega), hk]
    exact ⟨none, 0, 0, rfl, hb, ⟨Bys.nil _ _, rfl, by omega⟩, Nat.le_refl _, fun _ => ⟨rfl, rfl⟩, fun ad h => by simp at h⟩
  by_cases hf : ofault B = 0
  · have hb1 : bfault B = xfault (opened B) := by unfold bfault; rw [if_pos hf]
    by_cases hs : (opened B).length < 6
    · have hx : xfault (opened B) = 8 := by unfold xfault; rw [if_pos hs]
      refine (fread_short a n cap B w h hc hr hf hs).mono ?_
      rintro e w' ⟨rfl, hb⟩
      exact hbad w' 8 (by rw [hb1, hx]) (by omega) hb
    · obtain ⟨y0, y1, y2, y3, y4, y5, R, hX⟩ := six (X := opened B) (by omega)
      have hx := xfault_six y0 y1 y2 y3 y4 y5 R
      by_cases h7 : y0 = 70
      · subst h7
        rw [if_pos rfl] at hx
        refine (fread_rest a n cap B w h hc hr hf y1 y2 y3 y4 y5 R hX).mono ?_
        rintro e w' ⟨a', m, c', hb, ⟨hq, rfl⟩ | ⟨hq, rfl, hA, hm, hn, hp⟩⟩
        · exact hbad w' _ (by rw [hb1, hX, hx]) hq hb
        · have hz : bfault B = 0 := by rw [hb1, hX, hx, hq]
          have hfr : bfr B = ⟨y1, y2, y4 * 256 + y5, y3, R⟩ := by
            unfold bfr
            rw [if_pos hf, hX]
            exact xfr_six 70 y1 y2 y3 y4 y5 R (by rw [hx, hq])
          rw [hfr, hz]
          exact ⟨a', m, c', rfl, hb, hA, hm, hn, hp⟩
      · rw [if_neg h7] at hx
        refine (fread_syntax a n cap B w h hc hr hf y0 (y1 :: y2 :: y3 :: y4 :: y5 :: R) hX (by simp) h7).mono ?_
        rintro e w' ⟨rfl, hb⟩
        exact hbad w' 2 (by rw [hb1, hX, hx]) (by omega) hb
  · have hb1 : bfault B = ofault B := by unfold bfault; rw [if_neg hf]
    refine (fread_open a n cap B w h hc hr hf).mono ?_
    rintro e w' ⟨rfl, hb⟩
    exact hbad w' _ hb1 hf hb

theorem FBox.hop {w : World} {g : Nat} {t o e p : Int} {bv : Value} (h : FBox w g t o e p bv) (p' : Int) : FBox (w.setCell ⟨g, 3, none⟩ (.int .i64 p')) g t o e p' bv := heap_setCell_same _ _ 3 _ _ (.int .i64 p') h

end Go.Proofs.YtijfocggdjjnjaiGreatDoor.Frame
