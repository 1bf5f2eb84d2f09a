/-
  A session in memory; what is answered to the lines seen and gone, and what they leave.
-/
import Derived.Test.YtbadpjgiogghdaaGreatDoorRunN
import Derived.Test.YtbadpjgiogghdaaGreatDoorWin
import Derived.Test.YtbadpjgiogghdaaGreatDoorVoiceF
import Derived.Test.YtbadpjgiogghdaaGreatDoorLayerC
namespace Go.Proofs.YtbadpjgiogghdaaGreatDoor.Run
open Go.ChangeShapes Go.WideShapes Go.ChangeAt Go.RowKit Go.Proofs.YtbadpjgiogghdaaGreatDoor.Mem Go.Proofs.YtbadpjgiogghdaaGreatDoor.RN Go.Proofs.YtbadpjgiogghdaaGreatDoor.RC
set_option linter.unusedVariables false

/-- the Window of 8, in memory -/
def WinAt (w : World) (b : Nat) (T : Int) (s : Nat) : Prop := w.heap[b]? = some (.cells #[.int .i64 8, .int .i64 T, .int .u64 (s : Int)] 133 (0, 0))
theorem WinAt.cells {w : World} {b : Nat} {T : Int} {s : Nat} (h : WinAt w b T s) : w.cell? ⟨b, 0, none⟩ = some (.int .i64 8) ∧ w.cell? ⟨b, 1, none⟩ = some (.int .i64 T) ∧ w.cell? ⟨b, 2, none⟩ = some (.int .u64 (s : Int)) := by
  simp only [WinAt] at h
  refine ⟨?_, ?_, ?_⟩ <;> simp [World.cell?, h]
theorem WinAt.free {w : World} {b : Nat} {T : Int} {s : Nat} (h : WinAt w b T s) (j : Nat) : w.frozen? ⟨b, j, none⟩ = false := by
  simp only [WinAt] at h
  simp [World.frozen?, h]
theorem drew_block (w : World) (k b : Nat) : (w.drewN k).heap[b]? = w.heap[b]? := rfl
theorem add_calls (b : Nat) (T y : Int) (s : Nat) (w : World) (h : WinAt w b T s) (hT0 : -1 ≤ T) (hT1 : T ≤ 1099511627776) (hs : s < 18446744073709551616) :
    Calls Tryz.prog 88 #[.pointer (some ⟨b, 0, none⟩), .int .i64 y] w fun e w' => e = .returned (.tuple #[.bool (wIs T y s), Tree.errv (wF T y)]) ∧ WinAt w' b (wT T y) (wS T y s) ∧ Only [b] w w' := by
  obtain ⟨c0, c1, c2⟩ := h.cells
  have f1 := h.free 1
  have f2 := h.free 2
  by_cases hl : y < 0 ∨ 1099511627776 < y
  · have e : wF T y = 1 := by unfold wF; rw [if_pos hl]
    refine (Win.add_long b y w hl).mono ?_
    rintro e' w' ⟨rfl, rfl⟩
    refine ⟨by simp [wIs, e, Tree.errv], ?_, Only.refl _ _⟩
    simpa [wT, wS, e] using h
  · by_cases ho : 8 ≤ T - y
    · have e : wF T y = 6 := by unfold wF; rw [if_neg hl, if_pos ho]
      refine (Win.add_old b 8 T y w c0 c1 (by omega) (by omega) hT0 hT1 (by omega) (by omega) ho).mono ?_
      rintro e' w' ⟨rfl, k, rfl⟩
      refine ⟨by simp [wIs, e, Tree.errv], ?_, (Only.refl _ _).drewN k⟩
      have : WinAt (w.drewN k) b T s := h
      simpa [wT, wS, e] using this
    · have e : wF T y = 0 := by unfold wF; rw [if_neg hl, if_neg ho]
      by_cases hr : T < y
      · refine (Win.add_rise b 8 T y s w c0 c1 c2 f1 f2 (by omega) (by omega) hT0 hr (by omega) (by omega)).mono ?_
        rintro e' w' ⟨rfl, k, rfl⟩
        refine ⟨by simp [wIs, e, hr, Tree.errv], ?_, (((Only.refl [b] w).setCell (by simp) _).setCell (by simp) _).drewN k⟩
        have h1 : WinAt ((w.setCell ⟨b, 2, none⟩ (.int .u64 (Win.riseS s (y - T).toNat : Int))).setCell ⟨b, 1, none⟩ (.int .i64 y)) b y (Win.riseS s (y - T).toNat) := by
          have h1 := heap_setCell_same w b 2 _ _ (.int .u64 (Win.riseS s (y - T).toNat : Int)) h
          exact heap_setCell_same _ b 1 _ _ (.int .i64 y) h1
        have h2 : wT T y = y := by simp [wT, e, hr]
        have h3 : wS T y s = Win.riseS s (y - T).toNat := by simp [wS, e, hr]
        rw [h2, h3]
        exact h1
      · refine (Win.add_in b 8 T y s w c0 c1 c2 f2 (by omega) (by omega) hT0 (by omega) hT1 (by omega) (by omega) hs).mono ?_
        rintro e' w' ⟨rfl, k, rfl⟩
        refine ⟨by simp [wIs, e, hr, Tree.errv], ?_, ((Only.refl [b] w).setCell (by simp) _).drewN k⟩
        have h1 : WinAt (w.setCell ⟨b, 2, none⟩ (.int .u64 ((s ||| 2 ^ (T - y).toNat : Nat) : Int))) b T (s ||| 2 ^ (T - y).toNat) := heap_setCell_same w b 2 _ _ _ h
        have h2 : wT T y = T := by simp [wT, hr]
        have h3 : wS T y s = s ||| 2 ^ (T - y).toNat := by simp [wS, e, hr]
        rw [h2, h3]
        exact h1

/-- a session in memory: its block, those of its parts, the map of its voices -/
structure SsAt (w : World) (sb wb vb lb : Nat) (mo : Option Nat) (S : Ss) : Prop where
  box : w.heap[sb]? = some (.cells #[.pointer (some ⟨wb, 0, none⟩), .pointer (some ⟨vb, 0, none⟩), .pointer (some ⟨lb, 0, none⟩)] 113 (0, 0))
  win : WinAt w wb S.top S.seen
  vo : Voice.VAt w vb mo 2 S.sp S.f
  ly : Layer.LayerAt w lb 1 S.nw S.la S.br
  ne : sb ≠ wb ∧ sb ≠ vb ∧ sb ≠ lb ∧ wb ≠ vb ∧ wb ≠ lb ∧ vb ≠ lb
theorem SsAt.map {w : World} {sb wb vb lb m : Nat} {S : Ss} (h : SsAt w sb wb vb lb (some m) S) : m ≠ sb ∧ m ≠ wb ∧ m ≠ vb ∧ m ≠ lb := by
  rcases h.vo.map with ⟨h0, _⟩ | ⟨m', D, h0, h1, h2⟩
  · cases h0
  · cases h0
    obtain ⟨es, c, h4⟩ := Voice.map_block h1
    refine ⟨fun e => ?_, fun e => ?_, fun e => ?_, fun e => ?_⟩
    · have := h.box; rw [← e, h4] at this; simp at this
    · have := h.win; unfold WinAt at this; rw [← e, h4] at this; simp at this
    · have := h.vo.box; rw [← e, h4] at this; simp at this
    · have := h.ly; unfold Layer.LayerAt at this; rw [← e, h4] at this; simp at this
theorem SsAt.only {w w' : World} {sb wb vb lb : Nat} {mo : Option Nat} {S : Ss} {L : List Nat} (h : SsAt w sb wb vb lb mo S) (ho : Only L w w') (h1 : sb ∉ L) (h2 : wb ∉ L) (h3 : vb ∉ L) (h4 : lb ∉ L) (h5 : ∀ m, mo = some m → m ∉ L) : SsAt w' sb wb vb lb mo S :=
  ⟨ho.block h.box h1, ho.block h.win h2, h.vo.only ho h3 h5, ho.block h.ly h4, h.ne⟩
/-- a session's blocks lie below another one -/
structure SLow (sb wb vb lb : Nat) (mo : Option Nat) (b : Nat) : Prop where
  s : sb < b
  w : wb < b
  v : vb < b
  l : lb < b
  m : ∀ m, mo = some m → m < b
  lo : 10 ≤ sb ∧ 10 ≤ wb ∧ 10 ≤ vb ∧ 10 ≤ lb
theorem SsAt.words {w w' : World} {sb wb vb lb b : Nat} {mo : Option Nat} {S : Ss} (h : SsAt w sb wb vb lb mo S) (hl : SLow sb wb vb lb mo b) (ho : Only [b] w w') : SsAt w' sb wb vb lb mo S :=
  h.only ho (by have := hl.s; simp; omega) (by have := hl.w; simp; omega) (by have := hl.v; simp; omega) (by have := hl.l; simp; omega) (fun m e => by have := hl.m m e; simp; omega)
theorem SsAt.below {w w' : World} {sb wb vb lb : Nat} {mo : Option Nat} {S : Ss} (h : SsAt w sb wb vb lb mo S) (hb : Below w.heap.size w w') : SsAt w' sb wb vb lb mo S :=
  h.only (Only.of_below hb []) (by simp) (by simp) (by simp) (by simp) (by simp)
/-- the Window behind an Add -/
theorem SsAt.setW {w w' : World} {sb wb vb lb : Nat} {mo : Option Nat} {S : Ss} {T : Int} {s : Nat} (h : SsAt w sb wb vb lb mo S) (hw : WinAt w' wb T s) (ho : Only [wb] w w') : SsAt w' sb wb vb lb mo { S with top := T, seen := s } := by
  obtain ⟨n1, n2, n3, n4, n5, n6⟩ := h.ne
  refine ⟨ho.block h.box (by simpa using n1), hw, h.vo.only ho (by simpa using fun e => n4 e.symm) (fun m e => ?_), ho.block h.ly (by simpa using fun e => n5 e.symm), h.ne⟩
  subst e
  simpa using h.map.2.1
/-- the Layer behind a Take -/
theorem SsAt.setL {w w' : World} {sb wb vb lb : Nat} {mo : Option Nat} {S : Ss} {nw la : Int} {br : Bool} (h : SsAt w sb wb vb lb mo S) (hw : Layer.LayerAt w' lb 1 nw la br) (ho : Only [lb] w w') : SsAt w' sb wb vb lb mo { S with nw := nw, la := la, br := br } := by
  obtain ⟨n1, n2, n3, n4, n5, n6⟩ := h.ne
  refine ⟨ho.block h.box (by simpa using n3), ho.block h.win (by simpa using n5), h.vo.only ho (by simpa using n6) (fun m e => ?_), hw, h.ne⟩
  subst e
  simpa using h.map.2.2.2
/-- the Voices behind a Hear -/
theorem SsAt.setV {w w' : World} {sb wb vb lb : Nat} {mo mo' : Option Nat} {S : Ss} {sp : Int} {f : VO.Sc} (h : SsAt w sb wb vb lb mo S) (hw : Voice.VAt w' vb mo' 2 sp f) (ho : Only [vb] w w') : SsAt w' sb wb vb lb mo' { S with sp := sp, f := f } := by
  obtain ⟨n1, n2, n3, n4, n5, n6⟩ := h.ne
  exact ⟨ho.block h.box (by simpa using n2), ho.block h.win (by simpa using n4), hw, ho.block h.ly (by simpa using fun e => n6 e.symm), h.ne⟩
theorem SsAt.cells {w : World} {sb wb vb lb : Nat} {mo : Option Nat} {S : Ss} (h : SsAt w sb wb vb lb mo S) :
    w.cell? ⟨sb, 0, none⟩ = some (.pointer (some ⟨wb, 0, none⟩)) ∧ w.cell? ⟨sb, 1, none⟩ = some (.pointer (some ⟨vb, 0, none⟩)) ∧ w.cell? ⟨sb, 2, none⟩ = some (.pointer (some ⟨lb, 0, none⟩)) := by
  have := h.box
  refine ⟨?_, ?_, ?_⟩ <;> simp [World.cell?, this]
/-- what a line of a session leaves -/
def LeftE (ea : Addr) (r : An × Ss) (sb wb vb lb b : Nat) (mo : Option Nat) (w : World) (e : Ending) (w' : World) : Prop :=
  TellsE ea r.1 e ∧ ∃ mo', SsAt w' sb wb vb lb mo' r.2 ∧ Only [b, wb, vb, lb] w w' ∧ (mo' = mo ∨ ∃ m, mo' = some m ∧ w.heap.size ≤ m)
set_option maxHeartbeats 2000000 in
set_option maxRecDepth 100000 in
theorem seen_calls (ea : Addr) (b sb wb vb lb : Nat) (mo : Option Nat) (S : Ss) (W : Ws) (w : World) (h : WAt w b W) (g : GW ea w) (hb : 10 ≤ b) (hS : SsAt w sb wb vb lb mo S) (hO : S.Ok) (hl : SLow sb wb vb lb mo b) :
    Calls Tryz.prog 57 #[.pointer (some ⟨sb, 0, none⟩), .pointer (some ⟨b, 0, none⟩)] w (LeftE ea (aSeen S W) sb wb vb lb b mo w) := by
  have C1 := hidden (number_calls ea b W w h g hb)
  have E := hidden (fun w1 h1 g1 => end_calls ea b W.number.2 w1 h1 g1)
  have G := hidden (fun w1 (ho : Only [b] w w1) => g.only ho (by simpa using hb))
  have HS := hidden (fun w1 (ho : Only [b] w w1) => hS.words hl ho)
  have HO := hidden hO
  obtain ⟨r, hr⟩ : ∃ r, r = aSeen S W := ⟨_, rfl⟩
  rw [← hr]
  unfold aSeen at hr
  generalize W.number = N1 at C1 E hr
  obtain ⟨y, V⟩ := N1
  simp only at C1 E hr
  have HR := hidden hr
  clear h g hb hr hS hO hl
  go_enter Tryz.func57, Tryz.ntmps57
  go_wp2_with fail
  refine C1.out.mono ?_
  rintro e w1 ⟨rfl, h1, ho1⟩
  have E' := hidden (E.out w1 h1 (G.out w1 ho1))
  have HO1 := hidden ho1
  have hs1 := HS.out w1 ho1
  obtain ⟨c0, c1, c2⟩ := hs1.cells
  have A := hidden (add_calls wb S.top y S.seen w1 hs1.win HO.out.t0 HO.out.t1 HO.out.s1)
  have HS1 := hidden hs1
  clear h1 ho1 hs1 c1 c2
  go_wp2_with fail
  refine E'.out.mono ?_
  rintro e w2 ⟨he, rfl⟩
  by_cases hl : V.left
  · rw [if_pos hl, badV_eq] at he
    subst he
    have HL := hidden hl
    clear hl
    go_wp2_with fail
    go_ret2
    refine ⟨?_, mo, ?_, HO1.out.mono (by simp), .inl rfl⟩
    · rw [HR.out, if_pos HL.out]
      exact ⟨[], rfl, by simp, by simp⟩
    · rw [HR.out, if_pos HL.out]
      exact HS1.out
  · rw [if_neg hl] at he
    subst he
    have HL := hidden hl
    clear hl
    go_wp2_with fail
    refine A.out.mono ?_
    rintro e w3 ⟨rfl, hw3, ho3⟩
    have HS3 := hidden (HS1.out.setW hw3 ho3)
    have HO3 : Hid (Only [b, wb, vb, lb] w w3) := hidden ((HO1.out.mono (by simp)).trans (ho3.mono (by simp)))
    have Y := hidden (fun x W => yesOrNo_calls x W)
    generalize hf : wF S.top y = f
    generalize hi : wIs S.top y S.seen = is
    rw [hf, hi] at HR
    clear hw3 ho3
    go_wp2_with fail
    refine (Y.out _ _).mono ?_
    rintro e w4 ⟨rfl, rfl⟩
    go_wp2_with fail
    go_ret2
    refine ⟨?_, mo, ?_, HO3.out, .inl rfl⟩
    · rw [HR.out, if_neg HL.out]
      by_cases h0 : f = 0
      · subst h0
        rw [An.of_ok rfl]
        exact ⟨_, rfl, by simp, by cases is <;> simp [yesNo]⟩
      · simp only
        rw [An.of_err h0]
        exact ⟨_, by rw [Tree.errv_pos h0]; rfl, by simp, by cases is <;> simp [yesNo]⟩
    · rw [HR.out, if_neg HL.out]
      exact HS3.out
end Go.Proofs.YtbadpjgiogghdaaGreatDoor.Run

