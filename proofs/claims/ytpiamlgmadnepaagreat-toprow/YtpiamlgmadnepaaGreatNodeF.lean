/-
  What subsOf and beginSubs of package node return, where all subscribers are of that track. Their condition: the node is such as it may be.
-/
import Derived.Test.YtpiamlgmadnepaaGreatNodeE
namespace Go.Proofs.YtpiamlgmadnepaaGreat.ND
open Go.ChangeShapes Go.WideShapes Go.ChangeAt Go.RowKit Go.Maps Go.Sort Go.Shelf Go.Proofs.YtpiamlgmadnepaaGreat.Mem Go.Proofs.YtpiamlgmadnepaaGreat.NO
set_option linter.unusedVariables false

theorem subsCl_same (sb b1 : Nat) (tk : Int) (w : World) (h0 : w.cell? ⟨sb, 0, none⟩ = some (.int .i64 tk)) (h1 : w.cell? ⟨b1, 0, none⟩ = some (.int .i64 tk)) :
    Calls Tryz.prog 166 #[.pointer (some ⟨sb, 0, none⟩), .pointer (some ⟨b1, 0, none⟩)] w fun e w' => e = .returned (.bool false) ∧ ∃ k, w' = w.drewN k := by
  have hq : (tk != tk) = false := by simp
  go_enter Tryz.func166, Tryz.ntmps166
  go_wp2_with fail
  go_quiet (fail)
  go_wp2_with fail
  go_ret
  exact ⟨rfl, _, rfl⟩
/-- a row of pointers that lies somewhere -/
def PArg (w : World) (a : Option Addr) (g : Int → Nat) (X : List Int) : Prop := ∀ j, j < X.length → ∃ b, a = some ⟨b, 0, none⟩ ∧ w.cell? ⟨b, j, none⟩ = some (.pointer (some ⟨g (X.getD j 0), 0, none⟩))
theorem pts_get (g : Int → Nat) (X : List Int) (j : Nat) (h : j < X.length) : (pts g X)[j]? = some (.pointer (some ⟨g (X.getD j 0), 0, none⟩)) := by
  simp [pts, List.getD_eq_getElem?_getD, List.getElem?_eq_getElem h]
theorem own_parg {w : World} {base : Nat} {v : Value} {g : Int → Nat} {X : List Int} (h : w.ownsRow base 160 1 v X.length (pts g X)) : ∃ a cap, v = .slice a X.length cap ∧ PArg w a g X ∧ (∀ ad, a = some ad → base ≤ ad.block ∧ ad.block < w.heap.size) := by
  rcases h.2 with ⟨rfl, h0⟩ | ⟨q, cap, cur, rfl, hg, hb, hc, hm, hs, ht⟩
  · have : X = [] := List.eq_nil_of_length_eq_zero h0
    subst this
    exact ⟨none, 0, rfl, fun j hj => absurd hj (by simp), fun ad e => by simp at e⟩
  · refine ⟨_, cap, rfl, fun j hj => ⟨q, rfl, ?_⟩, ?_⟩
    · rw [h.cellAt j (by omega), pts_get g X j hj]
    · intro ad e
      cases e
      exact ⟨hg, lt_of_block hb⟩
theorem PArg.below {w w' : World} {a : Option Addr} {g : Int → Nat} {X : List Int} (h : PArg w a g X) (hb : Below w.heap.size w w') : PArg w' a g X := by
  intro j hj
  obtain ⟨b, e, hc⟩ := h j hj
  exact ⟨b, e, (hb.cell (p := ⟨b, j, none⟩) (World.block_lt_of_cell? w ⟨b, j, none⟩ hc)).trans hc⟩
theorem PArg.only {w w' : World} {a : Option Addr} {g : Int → Nat} {X : List Int} {bs : List Nat} (h : PArg w a g X) (ho : Only bs w w') (hn : ∀ ad, a = some ad → ad.block ∉ bs) : PArg w' a g X := by
  intro j hj
  obtain ⟨b, e, hc⟩ := h j hj
  exact ⟨b, e, (cell_same (ho.2.2.2.2 b (World.block_lt_of_cell? w ⟨b, j, none⟩ hc) (hn _ e)) _).trans hc⟩
theorem PArg.at {w : World} {a : Option Addr} {g : Int → Nat} {X : List Int} (h : PArg w a g X) (hn : 0 < X.length) : ∃ b, a = some ⟨b, 0, none⟩ ∧ ∀ j, j < X.length → w.cell? ⟨b, j, none⟩ = some (.pointer (some ⟨g (X.getD j 0), 0, none⟩)) := by
  obtain ⟨b, e, _⟩ := h 0 hn
  refine ⟨b, e, fun j hj => ?_⟩
  obtain ⟨b', e', hc⟩ := h j hj
  rw [e, Option.some.injEq, Addr.mk.injEq] at e'
  obtain ⟨rfl, _⟩ := e'
  exact hc
set_option maxRecDepth 100000 in
theorem idxS_calls (a : Option Addr) (nn cap b1 : Nat) (g : Int → Nat) (X : List Int) (tk : Int) (w : World) (hl : X.length = nn) (hn : nn ≤ 1000) (h : PArg w a g X) (h1 : w.cell? ⟨b1, 0, none⟩ = some (.int .i64 tk)) (ht : ∀ x ∈ X, w.cell? ⟨g x, 0, none⟩ = some (.int .i64 tk)) :
    Calls Tryz.prog 196 #[.slice a nn cap, .func (.func 166) #[] #[.pointer (some ⟨b1, 0, none⟩)]] w fun e w' => e = .returned (.int .i64 (-1)) ∧ ∃ k, w' = w.drewN k := by
  have HA := hidden h
  have H1 := hidden h1
  have HT := hidden ht
  have HL := hidden hl
  clear h h1 ht hl
  go_enter Tryz.func196, Tryz.ntmps196
  go_wp2_with fail
  go_loopg [8] nn (fun gh x wr => ∃ j : Nat, j + gh = nn ∧ x = .int .i64 (j : Int) ∧ Hid (∃ k, wr = w.drewN k))
  case atStart => exact ⟨0, by omega, rfl, hidden ⟨0, rfl⟩⟩
  case round =>
    obtain ⟨j, hjg, rfl, HW⟩ := hrel
    by_cases hj : j < nn
    · have hjz : (j : Int) < (nn : Int) := by omega
      have hlen : j < X.length := by rw [HL.out]; exact hj
      obtain ⟨b, rfl, hcs⟩ := HA.out.at (by omega)
      have hmem : X.getD j 0 ∈ X := by rw [List.getD_eq_getElem?_getD, List.getElem?_eq_getElem hlen]; exact List.getElem_mem hlen
      obtain ⟨sb, hsb⟩ : ∃ sb, g (X.getD j 0) = sb := ⟨_, rfl⟩
      have c0 : wr.cell? ⟨b, j, none⟩ = some (.pointer (some ⟨sb, 0, none⟩)) := by obtain ⟨k, rfl⟩ := HW.out; rw [← hsb]; exact hcs j hlen
      have C := hidden (subsCl_same sb b1 tk wr (by obtain ⟨k, rfl⟩ := HW.out; rw [← hsb]; exact HT.out _ hmem) (by obtain ⟨k, rfl⟩ := HW.out; exact H1.out))
      clear hcs hmem hsb hlen
      go_wp2_with fail
      refine C.out.mono ?_
      rintro e w1 ⟨rfl, k1, hk1⟩
      have HN : Hid (∃ k, w1 = w.drewN k) := by
        obtain ⟨k, hk⟩ := HW.out
        refine ⟨k + k1, ?_⟩
        rw [hk1, hk, World.drewN_drewN]
      clear hk1
      go_wp2_with fail
      go_roundg (nn - (j + 1))
      case measure => omega
      case rel => exact ⟨j + 1, by omega, by go_num, HN⟩
    · have hjz : ¬ (j : Int) < (nn : Int) := by omega
      obtain rfl : nn = j := by omega
      go_wp2_with fail
      go_ret
      exact ⟨rfl, HW.out⟩
theorem delF_calls (a : Option Addr) (nn cap b1 : Nat) (g : Int → Nat) (X : List Int) (tk : Int) (w : World) (hl : X.length = nn) (hn : nn ≤ 1000) (h : PArg w a g X) (h1 : w.cell? ⟨b1, 0, none⟩ = some (.int .i64 tk)) (ht : ∀ x ∈ X, w.cell? ⟨g x, 0, none⟩ = some (.int .i64 tk)) :
    Calls Tryz.prog 165 #[.slice a nn cap, .func (.func 166) #[] #[.pointer (some ⟨b1, 0, none⟩)]] w fun e w' => e = .returned (.slice a nn cap) ∧ ∃ k, w' = w.drewN k := by
  have C := hidden (idxS_calls a nn cap b1 g X tk w hl hn h h1 ht)
  clear h h1 ht
  go_enter Tryz.func165, Tryz.ntmps165
  go_wp2_with fail
  refine C.out.mono ?_
  rintro e w1 ⟨rfl, hk⟩
  have HK := hidden hk
  clear hk
  go_wp2_with fail
  go_ret
  exact ⟨rfl, HK.out⟩
theorem below_drewN' {w w' : World} {B k : Nat} (h : Below B w w') : Below B w (w'.drewN k) := ⟨h.os, h.tape, h.output, h.size, h.block⟩
theorem subsOf_all (n b : Nat) (o : Nat → Tg) (P : NP) (N : Nd) (tk : Int) (w : World) (h : NAt w o n b P N) (hI : SInv N.sb N.ls) (hall : ∀ x ∈ N.sb, x.2.tk = tk) :
    Calls Tryz.prog 125 #[.pointer (some ⟨b, 0, none⟩), .int .i64 tk] w fun e w' => ∃ a cap, e = .returned (.slice a N.sb.length cap) ∧ PArg w' a (fun x => (P.sp x).s) (ids N.sb) ∧ (∀ ad, a = some ad → w.heap.size ≤ ad.block) ∧ Below w.heap.size w w' := by
  obtain ⟨w0, hw0⟩ : ∃ w0, w.alloc (.cells #[.int .i64 tk] 3) = w0 := ⟨_, rfl⟩
  have hB0 : Below w.heap.size w w0 := by rw [← hw0]; exact (Below.refl _ _).alloc (Nat.le_refl _) _
  have cb : w0.cell? ⟨w.heap.size, 0, none⟩ = some (.int .i64 tk) := by rw [← hw0]; simp
  have C := hidden (allSubs_calls n b o P N w0 (h.below hB0) hI)
  have HT : Hid (∀ x ∈ ids N.sb, w0.cell? ⟨(P.sp x).s, 0, none⟩ = some (.int .i64 tk)) := by
    refine hidden ?_
    intro x hx
    obtain ⟨y, hy, rfl⟩ := List.mem_map.1 hx
    have hb := ((h.below hB0).sbs y hy).1.box
    rw [hall y hy] at hb
    simp [World.cell?, hb]
  have hl := ids_len N.sb
  have hlen := hI.len
  obtain ⟨g, hg⟩ : ∃ g : Int → Nat, (fun x => (P.sp x).s) = g := ⟨_, rfl⟩
  have hg' : ∀ x, (P.sp x).s = g x := fun x => by rw [← hg]
  rw [hg] at C
  rw [hg]
  simp only [hg'] at HT
  obtain ⟨X, hX⟩ : ∃ X, ids N.sb = X := ⟨_, rfl⟩
  rw [hX] at C HT hl
  rw [hX, ← hl]
  rw [← hl] at C hlen
  obtain ⟨nn, hnn⟩ : ∃ nn, X.length = nn := ⟨_, rfl⟩
  rw [hnn] at hlen ⊢
  have HB0 := hidden hB0
  have HCB := hidden cb
  have HW := hidden hw0
  have HL := hidden hnn
  clear hg hg' hX hl hB0 cb hw0 h hI hall hnn
  go_enter Tryz.func125, Tryz.ntmps125
  go_wp2_with fail
  rw [HW.out]
  refine C.out.mono ?_
  rintro e w1 ⟨v, rfl, hrow, hb1⟩
  obtain ⟨a, cap, rfl, hP, hf⟩ := own_parg hrow
  rw [HL.out]
  have D := hidden (delF_calls a nn cap w.heap.size g X tk w1 HL.out (by omega) hP (ext_cell hb1 HCB.out) (fun x hx => ext_cell hb1 (HT.out x hx)))
  have HP := hidden hP
  have HF := hidden hf
  have HB1 := hidden hb1
  clear hrow hP hf hb1
  go_wp2_with fail
  refine D.out.mono ?_
  rintro e w2 ⟨rfl, hk⟩
  have HK := hidden hk
  clear hk
  go_wp2_with fail
  go_ret
  obtain ⟨k, rfl⟩ := HK.out
  have hs := HB0.out.size
  exact ⟨a, cap, rfl, HP.out.below (below_drewN' (Below.refl _ _)), fun ad e => by have := (HF.out ad e).1; omega, below_drewN' (HB0.out.trans (HB1.out.mono hs))⟩
end Go.Proofs.YtpiamlgmadnepaaGreat.ND

