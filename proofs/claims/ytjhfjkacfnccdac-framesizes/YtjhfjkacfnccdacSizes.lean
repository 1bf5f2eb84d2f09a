/-
  The walk of the Go function FrameSizes: it returns true at any two frames. It changes nothing that was there.
-/
import Derived.Test.YtjhfjkacfnccdacFrameB
namespace Go.Proofs.Ytjhfjkacfnccdac.Sizes
open Go.ChangeShapes Go.WideShapes Go.ChangeAt Go.RowKit Go.Proofs.Ytjhfjkacfnccdac.PM Go.Proofs.Ytjhfjkacfnccdac.Mem Go.Proofs.Ytjhfjkacfnccdac.Pack Go.Proofs.Ytjhfjkacfnccdac.FM Go.Proofs.Ytjhfjkacfnccdac.Frame
set_option linter.unusedVariables false

theorem below_drew {w w' : World} (h : Below w.drew.heap.size w.drew w') : Below w.heap.size w w' := (Below.refl _ _).drew.trans h
/-- nothing that was there has changed, and both frames are in their variables -/
def St (w wx : World) (t o e p : Int) (bv : Value) (t' o' e' p' : Int) (bv' : Value) : Prop :=
  Below w.heap.size w wx ∧ FBox wx w.heap.size t o e p bv ∧ FBox wx (w.heap.size + 1) t' o' e' p' bv'
theorem St.next {w wx wy : World} {t o e p : Int} {bv : Value} {t' o' e' p' : Int} {bv' : Value} (h : St w wx t o e p bv t' o' e' p' bv') (hb : Below wx.heap.size wx wy) : St w wy t o e p bv t' o' e' p' bv' :=
  ⟨h.1.trans (hb.mono h.1.size), h.2.1.below hb h.2.1.lt, h.2.2.below hb h.2.2.lt⟩
theorem St.new (w : World) (t o e p : Int) (bv : Value) (t' o' e' p' : Int) (bv' : Value) :
    St w ((w.alloc (.cells #[.int .i64 t, .int .i64 o, .int .i64 e, .int .i64 p, bv] 45)).alloc (.cells #[.int .i64 t', .int .i64 o', .int .i64 e', .int .i64 p', bv'] 45)) t o e p bv t' o' e' p' bv' := by
  refine ⟨((Below.refl _ _).alloc (Nat.le_refl _) _).alloc (by simp) _, (FBox.new w t o e p bv).alloc _, ?_⟩
  have := FBox.new (w.alloc (.cells #[.int .i64 t, .int .i64 o, .int .i64 e, .int .i64 p, bv] 45)) t' o' e' p' bv'
  simpa using this

/-- Encode, of whatever frame -/
theorem fencode_any (t o e p : Int) (a : Option Addr) (n cap : Nat) (B : List Nat) (w : World) (h : Arg w a n B) (hn : a = none → n = 0 ∧ cap = 0) (hc : n ≤ cap) :
    Calls Try.prog 14 #[.agg #[.int .i64 t, .int .i64 o, .int .i64 e, .int .i64 p, .slice a n cap]] w fun ev w' => ∃ a' m c', ev = .returned (.tuple #[.slice a' m c', errv (ffault t o e p B)]) ∧ Below w.heap.size w w' ∧
      (ffault t o e p B = 0 → m = 10 + n ∧ Arg w' a' m (fbytes t.toNat o.toNat e.toNat p.toNat B)) := by
  by_cases hf : ffault t o e p B = 0
  · obtain ⟨t', o', e', p', rfl, rfl, rfl, rfl, h1, h2, h3, h4, h5, h6⟩ := ffault_zero hf
    refine (fencode_good t' o' e' p' a n cap B w h hn hc h1 h2 h3 h4 h5 h6).mono ?_
    rintro ev w' ⟨g, rfl, _, hR, hB⟩
    have hl := (rfault_len h6).2
    refine ⟨_, _, _, by rw [hf]; rfl, hB, fun _ => ⟨rfl, hR.bys (sealed_lt (inner_lt h2 h3 h4 h5 h.1.1)), ?_, ?_⟩⟩
    · rw [Int.toNat_natCast, Int.toNat_natCast, Int.toNat_natCast, Int.toNat_natCast, fbytes_len, h.2.1]
    · have := h.2.1; omega
  · refine (fencode_bad t o e p a n cap B w h hc hf).mono ?_
    rintro ev w' ⟨rfl, hb⟩
    exact ⟨_, _, _, rfl, hb, fun h => absurd h hf⟩

theorem like_eq {t o e p t' o' e' p' : Int} {B B' : List Nat} (hf : ffault t o e p B = 0) (hg : ffault t' o' e' p' B' = 0) (hB : ∀ c ∈ B, c < 256) (hB' : ∀ c ∈ B', c < 256) :
    (decide (t = t' ∧ o = o' ∧ e = e' ∧ p = p' ∧ B = B') == ((str (fbytes t.toNat o.toNat e.toNat p.toNat B)).toList == (str (fbytes t'.toNat o'.toNat e'.toNat p'.toNat B')).toList)) = true := by
  obtain ⟨a, b, c, d, rfl, rfl, rfl, rfl, h1, h2, h3, h4, h5, h6⟩ := ffault_zero hf
  obtain ⟨a', b', c', d', rfl, rfl, rfl, rfl, h1', h2', h3', h4', h5', h6'⟩ := ffault_zero hg
  simp only [Int.toNat_natCast]
  have s1 : ∀ x ∈ fbytes a b c d B, x < 256 := sealed_lt (inner_lt h2 h3 h4 h5 hB)
  have s2 : ∀ x ∈ fbytes a' b' c' d' B', x < 256 := sealed_lt (inner_lt h2' h3' h4' h5' hB')
  rw [str_eq s1 s2]
  by_cases q : fbytes a b c d B = fbytes a' b' c' d' B'
  · obtain ⟨rfl, rfl, rfl, rfl, rfl⟩ := fbytes_inj h1 h2 h3 h4 h5 h6 hB h1' h2' h3' h4' h5' h6' hB' q
    simp
  · rw [decide_eq_false q, decide_eq_false]
    · rfl
    · rintro ⟨e1, e2, e3, e4, e5⟩
      apply q
      rw [Int.ofNat_inj.1 e1, Int.ofNat_inj.1 e2, Int.ofNat_inj.1 e3, Int.ofNat_inj.1 e4, e5]

set_option maxHeartbeats 1000000 in
set_option maxRecDepth 100000 in
theorem walk (t o e p : Int) (a : Option Addr) (n cap : Nat) (B : List Nat) (t' o' e' p' : Int) (a' : Option Addr) (n' cap' : Nat) (B' : List Nat) (w : World)
    (h : Arg w a n B) (hn : a = none → n = 0 ∧ cap = 0) (hc : n ≤ cap) (h' : Arg w a' n' B') (hn' : a' = none → n' = 0 ∧ cap' = 0) (hc' : n' ≤ cap') :
    Calls Try.prog 5 #[.agg #[.int .i64 t, .int .i64 o, .int .i64 e, .int .i64 p, .slice a n cap], .agg #[.int .i64 t', .int .i64 o', .int .i64 e', .int .i64 p', .slice a' n' cap']] w fun ev w' => ev = .returned (.bool true) ∧ Below w.heap.size w w' := by
  have HE := hidden (fun W h => fencode_any t o e p a n cap B W h hn hc)
  have HE' := hidden (fun W h => fencode_any t' o' e' p' a' n' cap' B' W h hn' hc')
  have HC := hidden (fun W h => fcheck_calls t o e p a n cap B W h hc)
  have HC' := hidden (fun W h => fcheck_calls t' o' e' p' a' n' cap' B' W h hc')
  have HS := hidden (fun W h h' => same_fr t o e p t' o' e' p' a a' n n' cap cap' B B' W h h')
  have HK : Hid (ffault t o e p B = 0 → ffault t' o' e' p' B' = 0 → _) := fun hf hg => like_eq hf hg h.1.1 h'.1.1
  have HL : Hid (ffault t o e p B = 0 → n ≤ 1008) := fun hf => by
    obtain ⟨_, _, _, _, _, _, _, _, _, _, _, _, _, h6⟩ := ffault_zero hf
    have := (rfault_len h6).2; have := h.2.1; omega
  have HA := hidden h
  have HA' := hidden h'
  generalize ffault t o e p B = f at *
  generalize ffault t' o' e' p' B' = g at *
  generalize fbytes t.toNat o.toNat e.toNat p.toNat B = FB at *
  generalize fbytes t'.toNat o'.toNat e'.toNat p'.toNat B' = FB' at *
  generalize decide (t = t' ∧ o = o' ∧ e = e' ∧ p = p' ∧ B = B') = lk at *
  clear h hn h' hn'
  by_cases hf : f = 0
  · have HF := hidden hf
    by_cases hg : g = 0
    · have hl := HL.out hf
      have HG := hidden hg
      subst hf
      subst hg
      simp only [errv_zero] at HE HE'
      go_enter Try.func5, Try.ntmps5
      go_wp2_with fail
      refine (HE.out _ (HA.out.below (St.new w t o e p (.slice a n cap) t' o' e' p' (.slice a' n' cap')).1)).mono ?_
      rintro ev w1 ⟨a1, m1, c1, rfl, hb1, hx1⟩
      obtain ⟨rfl, hA1⟩ := hx1 (by trivial)
      have HX1 := hidden ((St.new w t o e p (.slice a n cap) t' o' e' p' (.slice a' n' cap')).next hb1)
      have HR1 := hidden hA1
      clear hb1 hx1 hA1
      obtain ⟨x0, x1, x2, x3, x4⟩ := HX1.out.2.1.cells
      obtain ⟨y0, y1, y2, y3, y4⟩ := HX1.out.2.2.cells
      go_wp2_with fail
      refine (HE'.out _ (HA'.out.below HX1.out.1)).mono ?_
      rintro ev w2 ⟨a2, m2, c2, rfl, hb2, hx2⟩
      obtain ⟨rfl, hA2⟩ := hx2 (by trivial)
      have HX2 := hidden (HX1.out.next hb2)
      have HR2 := hidden hA2
      have HQ2 := hidden (HR1.out.below hb2)
      clear hb2 hx2 hA2 x0 x1 x2 x3 x4 y0 y1 y2 y3 y4 HX1 HR1
      obtain ⟨x0, x1, x2, x3, x4⟩ := HX2.out.2.1.cells
      obtain ⟨y0, y1, y2, y3, y4⟩ := HX2.out.2.2.cells
      go_wp2_with fail
      refine (HS.out _ (HA.out.below HX2.out.1) (HA'.out.below HX2.out.1)).mono ?_
      rintro ev w3 ⟨rfl, hb3⟩
      have HX3 := hidden (HX2.out.next hb3)
      have k1 := str_conv (cap := c1) (HQ2.out.below hb3)
      have k2 := str_conv (cap := c2) (HR2.out.below hb3)
      have HQ := hidden (HK.out (by trivial) (by trivial))
      clear hb3 x0 x1 x2 x3 x4 y0 y1 y2 y3 y4 HX2 HR2 HQ2
      obtain ⟨x0, x1, x2, x3, x4⟩ := HX3.out.2.1.cells
      generalize str FB = SA at *
      generalize str FB' = SB at *
      go_wp2_with fail
      go_ret
      exact ⟨by have := HQ.out; simpa using this, HX3.out.1⟩
    · skip
      subst hf
      simp only [errv_pos hg] at HE' HC'
      simp only [errv_zero] at HE
      clear HK HL HS
      go_enter Try.func5, Try.ntmps5
      go_wp2_with fail
      refine (HE.out _ (HA.out.below (St.new w t o e p (.slice a n cap) t' o' e' p' (.slice a' n' cap')).1)).mono ?_
      rintro ev w1 ⟨a1, m1, c1, rfl, hb1, _⟩
      have HX1 := hidden ((St.new w t o e p (.slice a n cap) t' o' e' p' (.slice a' n' cap')).next hb1)
      clear hb1
      obtain ⟨x0, x1, x2, x3, x4⟩ := HX1.out.2.1.cells
      obtain ⟨y0, y1, y2, y3, y4⟩ := HX1.out.2.2.cells
      go_wp2_with fail
      refine (HE'.out _ (HA'.out.below HX1.out.1)).mono ?_
      rintro ev w2 ⟨a2, m2, c2, rfl, hb2, _⟩
      have HX2 := hidden (HX1.out.next hb2)
      clear hb2 x0 x1 x2 x3 x4 y0 y1 y2 y3 y4 HX1
      obtain ⟨x0, x1, x2, x3, x4⟩ := HX2.out.2.1.cells
      obtain ⟨y0, y1, y2, y3, y4⟩ := HX2.out.2.2.cells
      go_wp2_with fail
      refine (HC'.out _ (HA'.out.below (by exact HX2.out.1))).mono ?_
      rintro ev w3 ⟨rfl, hb3⟩
      have HX3 := hidden (HX2.out.next hb3)
      go_wp2_with fail
      go_ret
      exact ⟨rfl, HX3.out.1⟩
  · by_cases hg : g = 0
    · skip
      simp only [errv_pos hf] at HE HC
      subst hg
      simp only [errv_zero] at HE'
      clear HK HL HS
      go_enter Try.func5, Try.ntmps5
      go_wp2_with fail
      refine (HE.out _ (HA.out.below (St.new w t o e p (.slice a n cap) t' o' e' p' (.slice a' n' cap')).1)).mono ?_
      rintro ev w1 ⟨a1, m1, c1, rfl, hb1, _⟩
      have HX1 := hidden ((St.new w t o e p (.slice a n cap) t' o' e' p' (.slice a' n' cap')).next hb1)
      clear hb1
      obtain ⟨x0, x1, x2, x3, x4⟩ := HX1.out.2.1.cells
      obtain ⟨y0, y1, y2, y3, y4⟩ := HX1.out.2.2.cells
      go_wp2_with fail
      refine (HE'.out _ (HA'.out.below HX1.out.1)).mono ?_
      rintro ev w2 ⟨a2, m2, c2, rfl, hb2, _⟩
      have HX2 := hidden (HX1.out.next hb2)
      clear hb2 x0 x1 x2 x3 x4 y0 y1 y2 y3 y4 HX1
      obtain ⟨x0, x1, x2, x3, x4⟩ := HX2.out.2.1.cells
      obtain ⟨y0, y1, y2, y3, y4⟩ := HX2.out.2.2.cells
      go_wp2_with fail
      refine (HC.out _ (HA.out.below (by exact HX2.out.1))).mono ?_
      rintro ev w3 ⟨rfl, hb3⟩
      have HX3 := hidden (HX2.out.next hb3)
      clear hb3 x0 x1 x2 x3 x4 y0 y1 y2 y3 y4 HX2
      obtain ⟨x0, x1, x2, x3, x4⟩ := HX3.out.2.1.cells
      obtain ⟨y0, y1, y2, y3, y4⟩ := HX3.out.2.2.cells
      go_wp2_with fail
      go_ret
      exact ⟨rfl, HX3.out.1⟩
    · skip
      simp only [errv_pos hf] at HE HC
      simp only [errv_pos hg] at HE' HC'
      clear HK HL HS
      go_enter Try.func5, Try.ntmps5
      go_wp2_with fail
      refine (HE.out _ (HA.out.below (St.new w t o e p (.slice a n cap) t' o' e' p' (.slice a' n' cap')).1)).mono ?_
      rintro ev w1 ⟨a1, m1, c1, rfl, hb1, _⟩
      have HX1 := hidden ((St.new w t o e p (.slice a n cap) t' o' e' p' (.slice a' n' cap')).next hb1)
      clear hb1
      obtain ⟨x0, x1, x2, x3, x4⟩ := HX1.out.2.1.cells
      obtain ⟨y0, y1, y2, y3, y4⟩ := HX1.out.2.2.cells
      go_wp2_with fail
      refine (HE'.out _ (HA'.out.below HX1.out.1)).mono ?_
      rintro ev w2 ⟨a2, m2, c2, rfl, hb2, _⟩
      have HX2 := hidden (HX1.out.next hb2)
      clear hb2 x0 x1 x2 x3 x4 y0 y1 y2 y3 y4 HX1
      obtain ⟨x0, x1, x2, x3, x4⟩ := HX2.out.2.1.cells
      obtain ⟨y0, y1, y2, y3, y4⟩ := HX2.out.2.2.cells
      go_wp2_with fail
      refine (HC.out _ (HA.out.below (by exact HX2.out.1))).mono ?_
      rintro ev w3 ⟨rfl, hb3⟩
      have HX3 := hidden (HX2.out.next hb3)
      clear hb3 x0 x1 x2 x3 x4 y0 y1 y2 y3 y4 HX2
      obtain ⟨x0, x1, x2, x3, x4⟩ := HX3.out.2.1.cells
      obtain ⟨y0, y1, y2, y3, y4⟩ := HX3.out.2.2.cells
      go_wp2_with fail
      refine (HC'.out _ (HA'.out.below (by exact HX3.out.1))).mono ?_
      rintro ev w4 ⟨rfl, hb4⟩
      have HX4 := hidden (HX3.out.next hb4)
      go_wp2_with fail
      go_ret
      exact ⟨rfl, HX4.out.1⟩
end Go.Proofs.Ytjhfjkacfnccdac.Sizes
