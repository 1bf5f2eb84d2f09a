/-
  What the functions Encode, Read and Pass of package frame return, whatever they are given: one row each. They change nothing that was there. The condition of Read and Pass: at most 2^47 bytes.
-/
import Derived.Test.YtpiamlgmadnepaaGreatFrameC
namespace Go.Proofs.YtpiamlgmadnepaaGreat.Frame
open Go.ChangeShapes Go.WideShapes Go.ChangeAt Go.RowKit Go.Proofs.YtpiamlgmadnepaaGreat.PM Go.Proofs.YtpiamlgmadnepaaGreat.CM Go.Proofs.YtpiamlgmadnepaaGreat.Mem Go.Proofs.YtpiamlgmadnepaaGreat.Pack Go.Proofs.YtpiamlgmadnepaaGreat.FM
set_option linter.unusedVariables false

/-- the bytes of a frame; none where it is wrong -/
def fenc (t o e p : Int) (B : List Nat) : List Nat := if ffault t o e p B = 0 then fbytes t.toNat o.toNat e.toNat p.toNat B else []
theorem fenc_good {t o e p : Nat} {B : List Nat} (h : ffault t o e p B = 0) : fenc t o e p B = fbytes t o e p B := by
  unfold fenc
  rw [if_pos h]
  simp only [Int.toNat_natCast]
theorem fencode_all (t o e p : Int) (a : Option Addr) (n cap : Nat) (B : List Nat) (w : World) (h : Arg w a n B) (hn : a = none → n = 0 ∧ cap = 0) (hc : n ≤ cap) :
    Calls Tryz.prog 195 #[.agg #[.int .i64 t, .int .i64 o, .int .i64 e, .int .i64 p, .slice a n cap]] w fun ev w' => ∃ a' m c', ev = .returned (.tuple #[.slice a' m c', errv (ffault t o e p B)]) ∧ Below w.heap.size w w' ∧ Arg w' a' m (fenc t o e p B) ∧ m ≤ c' ∧ m ≤ 2000 := by
  by_cases hf : ffault t o e p B = 0
  · obtain ⟨t', o', e', p', rfl, rfl, rfl, rfl, h1, h2, h3, h4, h5, h6⟩ := ffault_zero hf
    refine (fencode_good t' o' e' p' a n cap B w h hn hc h1 h2 h3 h4 h5 h6).mono ?_
    rintro ev w' ⟨g, rfl, _, hR, hB⟩
    have hl := (rfault_len h6).2
    have hlen := h.2.1
    refine ⟨_, _, _, by rw [hf]; rfl, hB, ?_, Nat.le_refl _, by omega⟩
    rw [fenc_good hf]
    exact ⟨hR.bys (sealed_lt (inner_lt h2 h3 h4 h5 h.1.1)), by rw [fbytes_len, hlen], by omega⟩
  · refine (fencode_bad t o e p a n cap B w h hc hf).mono ?_
    rintro ev w' ⟨rfl, hb⟩
    refine ⟨none, 0, 0, rfl, hb, ?_, Nat.le_refl _, by omega⟩
    unfold fenc
    rw [if_neg hf]
    exact ⟨Bys.nil _ _, rfl, by omega⟩

theorem fread_all (a : Option Addr) (n cap : Nat) (B : List Nat) (w : World) (h : Arg w a n B) (hc : n ≤ cap) (hr : n ≤ 140737488355328) :
    Calls Tryz.prog 148 #[.slice a n cap] w fun e w' => ∃ a' m c', e = .returned (.tuple #[.agg #[.int .i64 ((bfr B).tr : Int), .int .i64 ((bfr B).og : Int), .int .i64 ((bfr B).ep : Int), .int .i64 ((bfr B).hp : Int), .slice a' m c'], errv (bfault B)]) ∧ Below w.heap.size w w' ∧ Arg w' a' m (bfr B).body ∧ m ≤ c' ∧ (a' = none → m = 0 ∧ c' = 0) ∧ ∀ ad, a' = some ad → w.heap.size ≤ ad.block := by
  have hbad : ∀ (w' : World) (k : Nat), bfault B = k → k ≠ 0 → Below w.heap.size w w' → ∃ a' m c', Ending.returned (.tuple #[.agg #[.int .i64 0, .int .i64 0, .int .i64 0, .int .i64 0, .slice none 0 0], errv k]) = .returned (.tuple #[.agg #[.int .i64 ((bfr B).tr : Int), .int .i64 ((bfr B).og : Int), .int .i64 ((bfr B).ep : Int), .int .i64 ((bfr B).hp : Int), .slice a' m c'], errv (bfault B)]) ∧ Below w.heap.size w w' ∧ Arg w' a' m (bfr B).body ∧ m ≤ c' ∧ (a' = none → m = 0 ∧ c' = 0) ∧ ∀ ad, a' = some ad → w.heap.size ≤ ad.block := by
    intro w' k hk h0 hb
    rw [bfr_bad (by omega), hk]
    exact ⟨none, 0, 0, rfl, hb, ⟨Bys.nil _ _, rfl, by omega⟩, Nat.le_refl _, fun _ => ⟨rfl, rfl⟩, fun ad h => by simp at h⟩
  by_cases hf : ofault B = 0
  · have hb1 : bfault B = xfault (opened B) := by unfold bfault; rw [if_pos hf]
    by_cases hs : (opened B).length < 6
    · have hx : xfault (opened B) = 8 := by unfold xfault; rw [if_pos hs]
      refine (fread_short a n cap B w h hc hr hf hs).mono ?_
      rintro e w' ⟨rfl, hb⟩
      exact hbad w' 8 (by rw [hb1, hx]) (by omega) hb
    · obtain ⟨y0, y1, y2, y3, y4, y5, R, hX⟩ := six (X := opened B) (by omega)
      have hx := xfault_six y0 y1 y2 y3 y4 y5 R
      by_cases h7 : y0 = 70
      · subst h7
        rw [if_pos rfl] at hx
        refine (fread_rest a n cap B w h hc hr hf y1 y2 y3 y4 y5 R hX).mono ?_
        rintro e w' ⟨a', m, c', hb, ⟨hq, rfl⟩ | ⟨hq, rfl, hA, hm, hn, hp⟩⟩
        · exact hbad w' _ (by rw [hb1, hX, hx]) hq hb
        · have hz : bfault B = 0 := by rw [hb1, hX, hx, hq]
          have hfr : bfr B = ⟨y1, y2, y4 * 256 + y5, y3, R⟩ := by
            unfold bfr
            rw [if_pos hf, hX]
            exact xfr_six 70 y1 y2 y3 y4 y5 R (by rw [hx, hq])
          rw [hfr, hz]
          exact ⟨a', m, c', rfl, hb, hA, hm, hn, hp⟩
      · rw [if_neg h7] at hx
        refine (fread_syntax a n cap B w h hc hr hf y0 (y1 :: y2 :: y3 :: y4 :: y5 :: R) hX (by simp) h7).mono ?_
        rintro e w' ⟨rfl, hb⟩
        exact hbad w' 2 (by rw [hb1, hX, hx]) (by omega) hb
  · have hb1 : bfault B = ofault B := by unfold bfault; rw [if_neg hf]
    refine (fread_open a n cap B w h hc hr hf).mono ?_
    rintro e w' ⟨rfl, hb⟩
    exact hbad w' _ hb1 hf hb

theorem FBox.hop {w : World} {g : Nat} {t o e p : Int} {bv : Value} (h : FBox w g t o e p bv) (p' : Int) : FBox (w.setCell ⟨g, 3, none⟩ (.int .i64 p')) g t o e p' bv := heap_setCell_same _ _ 3 _ _ (.int .i64 p') h

end Go.Proofs.YtpiamlgmadnepaaGreat.Frame

