/-
  What the function Encode of package frame returns, and what it makes; what choirsame.Frame returns of any two frames. They change nothing that was there.
-/
import Derived.Test.YtpiamlgmadnepaaGreatFrameA
import Derived.Test.YtpiamlgmadnepaaGreatCrcS
namespace Go.Proofs.YtpiamlgmadnepaaGreat.Frame
open Go.ChangeShapes Go.WideShapes Go.ChangeAt Go.RowKit Go.Proofs.YtpiamlgmadnepaaGreat.PM Go.Proofs.YtpiamlgmadnepaaGreat.Mem Go.Proofs.YtpiamlgmadnepaaGreat.Pack Go.Proofs.YtpiamlgmadnepaaGreat.FM
set_option linter.unusedVariables false

set_option maxHeartbeats 1000000 in
set_option maxRecDepth 100000 in
theorem fencode_bad (tr og ep hp : Int) (a : Option Addr) (n cap : Nat) (B : List Nat) (w : World) (h : Arg w a n B) (hc : n ≤ cap) (hf : ffault tr og ep hp B ≠ 0) :
    Calls Tryz.prog 195 #[.agg #[.int .i64 tr, .int .i64 og, .int .i64 ep, .int .i64 hp, .slice a n cap]] w fun e w' => e = .returned (.tuple #[.slice none 0 0, errv (ffault tr og ep hp B)]) ∧ Below w.heap.size w w' := by
  have C := fun w h => fcheck_calls tr og ep hp a n cap B w h hc
  generalize ffault tr og ep hp B = f at *
  rw [errv_pos hf] at C ⊢
  have HC := hidden C
  have HA := hidden h
  clear C h
  go_enter Tryz.func195, Tryz.ntmps195
  go_wp2_with fail
  refine (HC.out _ (HA.out.below ((Below.refl _ _).alloc (Nat.le_refl _) _))).mono ?_
  rintro e w1 ⟨rfl, hb⟩
  have HB := hidden (below_old hb)
  clear hb
  go_wp2_with fail
  go_ret2
  exact ⟨rfl, HB.out⟩

theorem blk6 {x y z u v : Int} {a b c d e : Nat} (hx : x = (a : Int)) (hy : y = (b : Int)) (hz : z = (c : Int)) (hu : u = (d : Int)) (hv : v = (e : Int)) :
    (#[Value.int .u8 70, .int .u8 x, .int .u8 y, .int .u8 z, .int .u8 u, .int .u8 v] : Array Value) = (cellsOf [70, a, b, c, d, e]).toArray := by rw [hx, hy, hz, hu, hv]; rfl

set_option maxHeartbeats 1000000 in
set_option maxRecDepth 100000 in
theorem fencode_good (t o e p : Nat) (a : Option Addr) (n cap : Nat) (B : List Nat) (w : World) (h : Arg w a n B) (hn : a = none → n = 0 ∧ cap = 0) (hc : n ≤ cap) (h1 : 1 ≤ t) (h2 : t ≤ 8) (h3 : o ≤ 15) (h4 : e ≤ 65535) (h5 : p ≤ 64) (h6 : rfault B = 0) :
    Calls Tryz.prog 195 #[.agg #[.int .i64 (t : Int), .int .i64 (o : Int), .int .i64 (e : Int), .int .i64 (p : Int), .slice a n cap]] w fun ev w' => ∃ g, ev = .returned (.tuple #[.slice (some ⟨g, 0, none⟩) (10 + n) (10 + n), .nilIface]) ∧ w.heap.size ≤ g ∧ Row w' g (fbytes t o e p B) ∧ Below w.heap.size w w' := by
  have C := fun w h => fcheck_calls t o e p a n cap B w h hc
  rw [ffault_good h1 h2 h3 h4 h5, h6, errv_zero] at C
  have hb := (rfault_len h6).2
  rw [h.2.1] at hb
  have HC := hidden C
  have HA := hidden h
  have HN := hidden hn
  have HL := hidden (inner_lt h2 h3 h4 h5 h.1.1)
  obtain ⟨i0, hii, hz0, hz1, hz2⟩ := info_parts info5
  clear C h hn h6
  go_enter Tryz.func195, Tryz.ntmps195
  go_wp2_with fail
  refine (HC.out _ (HA.out.below ((Below.refl _ _).alloc (Nat.le_refl _) _))).mono ?_
  rintro ev w1 ⟨rfl, hb1⟩
  have HX := hidden ((FBox.new w t o e p (.slice a n cap)).below hb1 (by simp))
  have HB := hidden (below_old hb1)
  have hlt : w.heap.size < w1.heap.size := HX.out.lt
  clear hb1
  obtain ⟨c0, c1, c2, c3, c4⟩ := HX.out.cells
  go_wp2_with (at_make; refine wpList_make_own _ rfl _ _ 36 rfl w.heap.size 5 i0 (.int .u8 0) 1 Tryz.underlying36 hii hz0 hz1 _ _ _ (6 + n) rfl rfl ?mC ?mb ?mm ?mbase ?mnext)
  case mC => simp
  case mb => rw [hz2]; omega
  case mm => unfold maxLen; omega
  case mbase => exact HB.out.size
  case mnext =>
  intro w2 hown hgrow
  have HB2 := hidden (HB.out.grown hgrow HB.out.size (by simp))
  have HX2 := hidden (HX.out.grown hgrow (by simp))
  have HO := hidden hown
  have hlt2 : w1.heap.size ≤ w2.heap.size := hgrow.size
  clear hown hgrow HX c0 c1 c2 c3 c4
  obtain ⟨c0, c1, c2, c3, c4⟩ := HX2.out.cells
  go_wp2_with (at_builtin; refine wpList_append_fits_any _ rfl _ _ 36 rfl w.heap.size 5 i0 1 Tryz.underlying36 hii hz1 w1.heap.size 0 (6 + n) [] ?bs ?bo (some ⟨w2.heap.size, 0, none⟩) 6 6 (cellsOf (fhead t o e p)) rfl rfl ?bn ?bc (cells_one _) ?b1 ?bnext)
  case bs => simp [Act.eval]
  case bo => exact HO.out.alloc _
  case bn => intro h; simp at h
  case bc => rw [blk6 (a := t) (b := o) (c := p) (d := e / 256) (e := e % 256) (by omega) (by omega) (by omega) (by omega) (by omega)]; exact bys_cells ((Row.new w2 (fhead t o e p)).bys (fhead_lt h2 h3 h4 h5))
  case b1 => omega
  case bnext =>
  intro w3 hown hgrow
  have HB3 := hidden ((HB2.out.alloc HB2.out.size _).grown hgrow (by have := HB2.out.size; simp; omega) (by intro k hk; simp at hk; omega))
  have HX3 := hidden ((HX2.out.alloc _).grown hgrow (by simp; omega))
  have HO3 : Hid (w3.ownsRow w.heap.size 5 1 (.slice (some ⟨w1.heap.size, 0, none⟩) 6 (6 + n)) 6 (cellsOf (fhead t o e p))) := own_next (L := []) hown rfl rfl
  clear hown hgrow HX2 HB2 HO c0 c1 c2 c3 c4
  obtain ⟨c0, c1, c2, c3, c4⟩ := HX3.out.cells
  go_wp2_with (at_builtin; refine wpList_append_fits_any _ rfl _ _ 36 rfl w.heap.size 5 i0 1 Tryz.underlying36 hii hz1 w1.heap.size 6 (6 + n) (cellsOf (fhead t o e p)) ?bs HO3.out a n cap (cellsOf B) rfl ?al HN.out ?bc (cells_one _) (Nat.le_refl _) ?bnext)
  case bs => simp [Act.eval]
  case al => rw [cellsOf_len, HA.out.2.1]; omega
  case bc => exact bys_cells (HA.out.1.below HB3.out)
  case bnext =>
  intro w4 hown hgrow
  have HB4 := hidden (HB3.out.grown hgrow HB3.out.size (by intro k hk; simp at hk; omega))
  rw [← cellsOf_app] at hown
  have HR := hidden (own_row hown)
  clear hown hgrow
  have HS := hidden (Crc.seal_calls (some ⟨w1.heap.size, 0, none⟩) (6 + n) (6 + n) (fhead t o e p ++ B) w4 ⟨HR.out.bys HL.out, by simp [fhead, HA.out.2.1]; omega, by omega⟩ (by simp) (by omega))
  go_wp2_with fail
  refine HS.out.mono ?_
  rintro ev w5 ⟨rfl, hR5, hb5⟩
  have HR5 := hidden hR5
  have HB5 := hidden (HB4.out.trans (hb5.mono HB4.out.size))
  clear hR5 hb5
  go_wp2_with fail
  go_ret2
  exact ⟨w4.heap.size, by rw [show 6 + n + 4 = 10 + n by omega]; rfl, HB4.out.size, HR5.out, HB5.out⟩

theorem str_inj {L K : List Nat} (hL : ∀ c ∈ L, c < 256) (hK : ∀ c ∈ K, c < 256) (h : str L = str K) : L = K := by
  have e : (L.map fun c => UInt8.ofNat c) = K.map fun c => UInt8.ofNat c := by
    have := congrArg (fun b : ByteArray => b.data.toList) h
    simpa [str, strOfNums, Function.comp_def] using this
  have back : ∀ M : List Nat, (∀ c ∈ M, c < 256) → (M.map fun c => UInt8.ofNat c).map UInt8.toNat = M := by
    intro M hM
    induction M with
    | nil => rfl
    | cons c M ih =>
      have hc := hM c (by simp)
      simp only [List.map_cons, List.cons.injEq]
      exact ⟨by simp; omega, ih fun x hx => hM x (by simp [hx])⟩
  rw [← back L hL, e, back K hK]
theorem str_eq {L K : List Nat} (hL : ∀ c ∈ L, c < 256) (hK : ∀ c ∈ K, c < 256) : ((str L).toList == (str K).toList) = decide (L = K) := by
  by_cases h : L = K
  · rw [h]; simp
  · rw [decide_eq_false h]
    have : (str L).toList ≠ (str K).toList := fun h' => h (str_inj hL hK (by
      rw [ByteArray.toList_eq, ByteArray.toList_eq] at h'
      exact ByteArray.ext (Array.toList_inj.1 h')))
    simpa using this

end Go.Proofs.YtpiamlgmadnepaaGreat.Frame

