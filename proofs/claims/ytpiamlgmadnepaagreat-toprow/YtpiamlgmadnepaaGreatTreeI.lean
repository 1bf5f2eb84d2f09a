/-
  What leastParents of package tree returns: of each node the least one from which a least way comes. It changes nothing that was there.
-/
import Derived.Test.YtpiamlgmadnepaaGreatTreeH
namespace Go.Proofs.YtpiamlgmadnepaaGreat.Tree
open Go.ChangeShapes Go.WideShapes Go.ChangeAt Go.RowKit Go.Proofs.YtpiamlgmadnepaaGreat.Mem Go.Proofs.YtpiamlgmadnepaaGreat.TM
set_option linter.unusedVariables false

/-- costs and parents in memory, those of the first i found -/
structure QSt (w wr : World) (g1 gp n : Nat) (L : List Ed) (d p : List Int) (i : Nat) : Prop where
  bel : Below w.heap.size w wr
  mat : MB wr g1 (fc L)
  own : wr.ownsRow w.heap.size 3 1 (.slice (some ⟨gp, 0, none⟩) n n) n (ic p)
  old : ∀ x, x < i → IsPar L d n x (dg p x)
  new : ∀ x, i ≤ x → dg p x = -1
theorem QSt.no {w wr : World} {g1 gp n : Nat} {L : List Ed} {d p : List Int} {i : Nat} (h : QSt w wr g1 gp n L d p i) (hn : ∀ f, f < n → ¬ good L d i f) : QSt w wr g1 gp n L d p (i + 1) :=
  ⟨h.bel, h.mat, h.own, fun x hx => by
    by_cases e : x = i
    · subst e; rw [h.new x (by omega)]; exact .inl ⟨rfl, hn⟩
    · exact h.old x (by omega), fun x hx => h.new x (by omega)⟩
theorem QSt.yes {w wr : World} {g1 gp n : Nat} {L : List Ed} {d p : List Int} {i j : Nat} (h : QSt w wr g1 gp n L d p i) (hi : i < n) (hj : j < n) (hg : good L d i j) (hn : ∀ f, f < j → ¬ good L d i f) : QSt w (wr.setCell ⟨gp, i, none⟩ (.int .i64 (j : Int))) g1 gp n L d (p.set i (j : Int)) (i + 1) := by
  have hl := own_ln h.own
  have o : Only [gp] wr (wr.setCell ⟨gp, i, none⟩ (.int .i64 (j : Int))) := (Only.refl _ _).setCell (by simp) _
  refine ⟨h.bel.setCell (own_block h.own).1 _, h.mat.only o ?_, own_set h.own _ _, fun x hx => ?_, fun x hx => ?_⟩
  · obtain ⟨C, h2, _⟩ := h.mat
    obtain ⟨_, cur, h1⟩ := own_block h.own
    simp
    rintro rfl
    rw [h1] at h2; simp at h2
  · rw [dg_set (by omega)]
    by_cases e : x = i
    · rw [if_pos e, e]; exact .inr ⟨j, rfl, hj, hg, hn⟩
    · rw [if_neg e]; exact h.old x (by omega)
  · rw [dg_set (by omega), if_neg (by omega)]; exact h.new x (by omega)
set_option maxHeartbeats 8000000 in
set_option maxRecDepth 100000 in
theorem leastParents_calls (C : Array Value) (a : Option Addr) (n cap : Nat) (L : List Ed) (d : List Int) (w : World) (hC : Mat C (fc L)) (hF : Fit n L) (hd : IArg w a n d) (hlo : ∀ x, -1 ≤ dg d x) (hhi : ∀ x, dg d x ≤ 16000000) :
    Calls Tryz.prog 57 #[.agg C, .slice a n cap] w fun e w' => ∃ gp p, e = .returned (.slice (some ⟨gp, 0, none⟩) n n) ∧ w'.ownsRow w.heap.size 3 1 (.slice (some ⟨gp, 0, none⟩) n n) n (ic p) ∧ IsPars L d n p ∧ Below w.heap.size w w' := by
  have hn := hF.hi
  have hn1 := hF.lo
  have HF := hidden hF
  have HC := hidden hC
  have HA := hidden hd
  have HLO := hidden hlo
  have HHI := hidden hhi
  clear hF hC hd hlo hhi
  obtain ⟨w1, hw1⟩ : ∃ w1, (w.alloc (.cells C 115)).alloc (.cells #[.int .i64 (-1)] 3) = w1 := ⟨_, rfl⟩
  have HB1 : Hid (Below w.heap.size w w1) := by rw [← hw1]; exact hidden (below_alloc (below_alloc (Below.refl _ _) _) _)
  have HM1 : Hid (MB w1 w.heap.size (fc L)) := by
    rw [← hw1]
    have h1 : MB (w.alloc (.cells C 115)) w.heap.size (fc L) := MB.new HC.out
    exact hidden (h1.below (below_alloc (Below.refl _ _) _) h1.lt)
  have HL1 : Hid (w1.heap[w.heap.size + 1]? = some (.cells #[.int .i64 (-1)] 3 (0, 0))) := by
    have := heap_alloc_new (w.alloc (.cells C 115)) (.cells #[.int .i64 (-1)] 3)
    rw [show (w.alloc (.cells C 115)).heap.size = w.heap.size + 1 by simp, hw1] at this
    exact hidden this
  have HR := hidden (rep_calls (w.heap.size + 1) n w1 HL1.out hn1 hn)
  have HW1 := hidden hw1
  have HS1 : Hid (w.heap.size < w1.heap.size) := HM1.out.lt
  clear hw1
  go_enter Tryz.func57, Tryz.ntmps57
  go_wp2_with fail
  rw [HW1.out]
  refine HR.out.mono ?_
  rintro e w2 ⟨gp, rfl, ho2, hb2⟩
  have HQ0 : Hid (QSt w w2 w.heap.size gp n L d (List.replicate n (-1)) 0) := ⟨HB1.out.trans (hb2.mono HB1.out.size), HM1.out.below hb2 HS1.out, own_base ho2 HB1.out.size, fun x hx => absurd hx (by omega), fun x _ => dg_rep n x⟩
  clear ho2 hb2 HR HL1 HM1 HB1 HW1
  go_wp2_with fail
  go_loopg [16] n (fun g v wr => ∃ (i : Nat) (p : List Int), i + g = n ∧ v = .int .i64 (i : Int) ∧ Hid (QSt w wr w.heap.size gp n L d p i))
  case atStart => exact ⟨0, _, by omega, rfl, HQ0⟩
  case round =>
    obtain ⟨i, p, hig, rfl, HQ⟩ := hrel
    clear HQ0
    by_cases hi : i < n
    · have hiz : (i : Int) < (n : Int) := by omega
      obtain ⟨b, o, rfl, hcs⟩ := (HA.out.below HQ.out.bel).at (by omega)
      have c0 := hcs i hi
      have HCS := hidden hcs
      clear hcs
      have HG0 : Hid (∀ f, f < 0 → ¬ good L d i f) := fun f hf => absurd hf (by omega)
      obtain ⟨way, hway⟩ : ∃ way, dg d i = way := ⟨_, rfl⟩
      rw [hway] at c0
      have HWAY := hidden hway
      clear hway
      obtain ⟨wo, hwo⟩ : ∃ wo, wo = wr := ⟨_, rfl⟩
      subst hwo
      go_wp2_with fail
      go_loopg [23] n (fun g v wq => ∃ j : Nat, j + g = n ∧ v = .int .i64 (j : Int) ∧ Hid (∀ f, f < j → ¬ good L d i f) ∧ wo = wq)
      case atStart => exact ⟨0, by omega, rfl, HG0, rfl⟩
      case round =>
        obtain ⟨j, hjg, rfl, HG, rfl⟩ := hrel
        by_cases hj : j < n
        · have hjz : (j : Int) < (n : Int) := by omega
          have hj16 : (j : Int) < 16 := by omega
          have hi16 : (i : Int) < 16 := by omega
          have m0 := HQ.out.mat.cell (x := j) (y := i) (by omega) (by omega)
          have c1 := HCS.out j hj
          have c2 := own_dg HQ.out.own (j := i) hi
          have f2 := HQ.out.own.frozenAt i
          have hco := cst_range HF.out.ok (j : Int) (i : Int)
          have l1 := HLO.out j
          have l2 := HHI.out j
          unfold fc at m0
          obtain ⟨h1, h2, _⟩ := hco
          by_cases hg : 0 < cst L (j : Int) (i : Int) ∧ dg d j + cst L (j : Int) (i : Int) = way
          · have HQ1 := hidden (HQ.out.yes hi hj (by unfold good; rw [HWAY.out]; exact hg) HG.out)
            obtain ⟨hp, he⟩ := hg
            have dp : decide (0 < cst L (j : Int) (i : Int)) = true := by simpa using hp
            have hwr : IntKind.i64.wrap (dg d j + cst L (j : Int) (i : Int)) = way := by rw [wrap_id (by omega) (by omega)]; exact he
            clear he
            generalize dg d j = x at *
            generalize dg p i = y at *
            generalize cst L (j : Int) (i : Int) = co at *
            go_wp2_with fail
            go_roundg (n - (i + 1))
            case measure => omega
            case rel => exact ⟨i + 1, _, by omega, by go_num, HQ1⟩
          · have HG1 : Hid (∀ f, f < j + 1 → ¬ good L d i f) := fun f hf hgd => by
              by_cases e : f = j
              · subst e; unfold good at hgd; rw [HWAY.out] at hgd; exact hg hgd
              · exact HG.out f (by omega) hgd
            by_cases hp : 0 < cst L (j : Int) (i : Int)
            · have dp : decide (0 < cst L (j : Int) (i : Int)) = true := by simpa using hp
              have hwr : IntKind.i64.wrap (dg d j + cst L (j : Int) (i : Int)) = dg d j + cst L (j : Int) (i : Int) := wrap_id (by omega) (by omega)
              have de : (dg d j + cst L (j : Int) (i : Int) == way) = false := beq_eq_false_iff_ne.2 fun q => hg ⟨hp, q⟩
              clear hg
              generalize dg d j = x at *
              generalize dg p i = y at *
              generalize cst L (j : Int) (i : Int) = co at *
              go_wp2_with fail
              go_roundg (n - (j + 1))
              case measure => omega
              case rel => exact ⟨j + 1, by omega, by go_num, HG1, rfl⟩
            · have hz : cst L (j : Int) (i : Int) = 0 := by omega
              rw [hz] at m0
              clear hg hp h1 h2 hz
              generalize dg d j = x at *
              generalize dg p i = y at *
              go_wp2_with fail
              go_roundg (n - (j + 1))
              case measure => omega
              case rel => exact ⟨j + 1, by omega, by go_num, HG1, rfl⟩
        · have hjz : ¬ (j : Int) < (n : Int) := by omega
          obtain rfl : j = n := by omega
          have HQ1 := hidden (HQ.out.no HG.out)
          go_wp2_with fail
          go_roundg (j - (i + 1))
          case measure => omega
          case rel => exact ⟨i + 1, p, by omega, by go_num, HQ1⟩
    · have hiz : ¬ (i : Int) < (n : Int) := by omega
      obtain rfl : i = n := by omega
      go_wp2_with fail
      go_ret
      exact ⟨gp, rfl, p, HQ.out.own, ⟨own_ln HQ.out.own, HQ.out.old⟩, HQ.out.bel⟩
end Go.Proofs.YtpiamlgmadnepaaGreat.Tree

