/-
  What Got of package mesh returns, and what it leaves in memory.
-/
import Derived.Test.YtpiamlgmadnepaaGreatMeshN
namespace Go.Proofs.YtpiamlgmadnepaaGreat.MS
open Go.ChangeShapes Go.WideShapes Go.ChangeAt Go.RowKit Go.Maps Go.Proofs.YtpiamlgmadnepaaGreat.Mem Go.Proofs.YtpiamlgmadnepaaGreat.NO Go.Proofs.YtpiamlgmadnepaaGreat.ND
set_option linter.unusedVariables false

theorem MAt.sform {w : World} {o : Nat → Tg} {b : Nat} {P : MP} {M : Ms} (h : MAt w o b P M) : ∃ a c, P.sv = .slice a M.sb.length c := by
  rcases h.srow.2 with ⟨e, h0⟩ | ⟨g, cap, cur, e, _⟩
  · exact ⟨none, 0, by rw [e, h0]⟩
  · exact ⟨_, _, e⟩
theorem got_none (b : Nat) (o : Nat → Tg) (P : MP) (M : Ms) (x : Int) (w : World) (h : MAt w o b P M) (hx : x < 1 ∨ (M.sb.length : Int) < x) :
    Calls Tryz.prog 14 #[.pointer (some ⟨b, 0, none⟩), .int .i64 x] w fun e w' => e = .returned (.tuple #[.slice none 0 0, errv 5]) ∧ Below w.heap.size w w' := by
  obtain ⟨sa, sc, hsv⟩ := h.sform
  have c11 := h.cells.2.2.2.1
  rw [hsv] at c11
  obtain ⟨sl, hsl⟩ : ∃ sl, M.sb.length = sl := ⟨_, rfl⟩
  rw [hsl] at c11 hx
  clear h hsv hsl
  by_cases c : x < 1
  · clear hx
    go_enter Tryz.func14, Tryz.ntmps14
    go_wp2_with fail
    go_ret2
    exact ⟨rfl, Below.refl _ _⟩
  · have c2 : (sl : Int) < x := by omega
    clear hx
    go_enter Tryz.func14, Tryz.ntmps14
    go_wp2_with fail
    go_ret2
    exact ⟨rfl, Below.refl _ _⟩
def MGave (w w' : World) (o : Nat → Tg) (b : Nat) (M : Ms) (lv : Value) (G : List Pk) : Prop := ∃ o' P, MAt w' o' b P M ∧ GotAt w' o' lv G ∧ Own o' nobody lv.ownBlock.toList ∧ Keep w o o' ∧ Chg o meshy w w'
/-- what a subscriber got is taken from where it lies -/
def Ms.got (M : Ms) (r : Nat) (A : List (Int × Sb)) (id : Int) (s : Sb) (B : List (Int × Sb)) : Ms := { M with nd := updN M.nd r { M.nd r with sb := A ++ (id, { s with got := [] }) :: B } }
set_option maxHeartbeats 2000000 in
theorem got_callsM (b j r : Nat) (id : Int) (o : Nat → Tg) (P : MP) (M : Ms) (s : Sb) (A B : List (Int × Sb)) (w : World) (h : MAt w o b P M) (hj : M.sb[j]? = some ((r : Int), id)) (hr : r < M.n) (hs : (M.nd r).sb = A ++ (id, s) :: B) (hI : SInv (M.nd r).sb (M.nd r).ls) (hl : M.sb.length ≤ 1000000) :
    Calls Tryz.prog 14 #[.pointer (some ⟨b, 0, none⟩), .int .i64 ((j : Int) + 1)] w fun e w' => ∃ a c, e = .returned (.tuple #[.slice a s.got.length c, .nilIface]) ∧ MGave w w' o b (M.got r A id s B) (.slice a s.got.length c) s.got := by
  have h16 := h.n16
  obtain ⟨hjl, _⟩ := List.getElem?_eq_some_iff.1 hj
  obtain ⟨sb, sc, hsv, hsc⟩ : ∃ sb sc, P.sv = .slice (some ⟨sb, 0, none⟩) M.sb.length sc ∧ (w.cell? ⟨sb, j * 2, none⟩ = some (.int .i64 (r : Int)) ∧ w.cell? ⟨sb, j * 2 + 1, none⟩ = some (.int .i64 id)) := by
    rcases h.srow.2 with ⟨_, h0⟩ | ⟨g, cap, cur, e, _⟩
    · omega
    · have hc := h.srow.cells (g := g) (by rw [e]; rfl)
      obtain ⟨g1, g2⟩ := sbc_get M.sb j _ hj
      have k1 := hc _ _ g1
      have k2 := hc _ _ g2
      rw [Addr.add_lit, Nat.zero_add] at k1 k2
      exact ⟨g, cap, e, k1, k2⟩
  have c11 := h.cells.2.2.2.1
  rw [hsv] at c11
  obtain ⟨rb, rc, hnv, hcell⟩ := h.nptr hr
  obtain ⟨s0, s1⟩ := hsc
  obtain ⟨W0, hW0⟩ : ∃ W0, w.alloc (.cells #[.int .i64 (r : Int), .int .i64 id] 104) = W0 := ⟨_, rfl⟩
  have hB0 : Below w.heap.size w W0 := by rw [← hW0]; exact (Below.refl _ _).alloc (Nat.le_refl _) _
  have hbx : W0.heap[w.heap.size]? = some (.cells #[.int .i64 (r : Int), .int .i64 id] 104 (0, 0)) := by rw [← hW0]; exact heap_alloc_new w _
  have hM := h.grow hB0.drew nobody
  obtain ⟨c1, c2⟩ := send_cells hM hr hnv
  have hbd : W0.drew.heap[w.heap.size]? = some (.cells #[.int .i64 (r : Int), .int .i64 id] 104 (0, 0)) := hbx
  have b0 : W0.drew.cell? ⟨w.heap.size, 0, none⟩ = some (.int .i64 (r : Int)) := by simp [World.cell?, hbd]
  have b1 : W0.drew.cell? ⟨w.heap.size, 1, none⟩ = some (.int .i64 id) := by simp [World.cell?, hbd]
  obtain ⟨gl, hgl⟩ : ∃ gl, s.got.length = gl := ⟨_, rfl⟩
  have CG : Hid (Calls Tryz.prog 49 #[.pointer (some ⟨P.nb r, 0, none⟩), .int .i64 id] W0.drew fun e w' => ∃ a c, e = .returned (.tuple #[.slice a gl c, .nilIface]) ∧ (w'.cell? ⟨b, 1, none⟩ = some (.slice (some ⟨rb, 0, none⟩) M.n rc) ∧ w'.cell? ⟨rb, r, none⟩ = some (.pointer (some ⟨P.nb r, 0, none⟩)) ∧ w'.cell? ⟨w.heap.size, 0, none⟩ = some (.int .i64 (r : Int)) ∧ w'.cell? ⟨w.heap.size, 1, none⟩ = some (.int .i64 id)) ∧ Hid (MGave w w' o b (M.got r A id s B) (.slice a gl c) s.got)) := by
    refine hidden ((got_calls (r + 1) (P.nb r) _ (P.np r) (M.nd r) id s A B W0.drew (by omega) (hM.nds r hr) hs hI).mono ?_)
    rintro e w' ⟨a, c, rfl, o', Q, g1, g2, g3, g4, g5⟩
    have hm := hM.nodeR hr g1 g4 g5
    have hb' : w'.heap[w.heap.size]? = some (.cells #[.int .i64 (r : Int), .int .i64 id] 104 (0, 0)) := g5.block (show W0.drew.heap[w.heap.size]? = _ from hbx) (by rw [grow_new (Nat.le_refl _)]; unfold mine; show ¬ (0 = r + 1); omega)
    obtain ⟨d1, d2⟩ := send_cells hm (show r < M.n from hr) (show _ = Value.slice (some ⟨rb, 0, none⟩) M.n rc from hnv)
    rw [hgl] at g2 g3
    refine ⟨a, c, by rw [hgl], ⟨d1, d2, by simp [World.cell?, hb'], by simp [World.cell?, hb']⟩, hidden ⟨o', _, hm, g2, g3, ?_, ?_⟩⟩
    · exact (Keep.of_ext (grow_ext o w nobody)).trans (Ret.keep (n := r + 1) g4 (by omega) (by omega)) hB0.drew.size
    · exact (Chg.of_below hB0.drew o meshy).trans (mine_meshy g5 (by omega) (by omega)) (grow_ext _ _ _)
  rw [hgl]
  obtain ⟨G, hG⟩ : ∃ G, s.got = G := ⟨_, rfl⟩
  rw [hG] at CG ⊢
  obtain ⟨R, hR⟩ : ∃ R, M.got r A id s B = R := ⟨_, rfl⟩
  rw [hR] at CG ⊢
  obtain ⟨nb, hnb⟩ : ∃ nb, P.nb r = nb := ⟨_, rfl⟩
  obtain ⟨nn, hnn⟩ : ∃ nn, M.n = nn := ⟨_, rfl⟩
  obtain ⟨sl, hsl⟩ : ∃ sl, M.sb.length = sl := ⟨_, rfl⟩
  obtain ⟨pb, hpb⟩ : ∃ pb, w.heap.size = pb := ⟨_, rfl⟩
  rw [hnb] at c2 CG
  rw [hnn] at c1 hr CG
  rw [hsl] at c11 hl hjl
  rw [hpb] at CG b0 b1
  have hrz : (r : Int) < (nn : Int) := Int.ofNat_lt.2 hr
  have hjz : (j : Int) < (sl : Int) := Int.ofNat_lt.2 hjl
  have hq1 : ¬ ((j : Int) + 1 < 1) := by omega
  have hq2 : ¬ ((sl : Int) < (j : Int) + 1) := by omega
  have hq3 : wrap64 ((j : Int) + 1 - 1) = (j : Int) := by unfold wrap64; omega
  have hq4 : wrap64 (j : Int) = (j : Int) := by unfold wrap64; omega
  have S0 : W0.drew.cell? ⟨b, 1, none⟩ = some (.slice (some ⟨rb, 0, none⟩) nn rc) ∧ W0.drew.cell? ⟨rb, r, none⟩ = some (.pointer (some ⟨nb, 0, none⟩)) ∧ W0.drew.cell? ⟨pb, 0, none⟩ = some (.int .i64 (r : Int)) ∧ W0.drew.cell? ⟨pb, 1, none⟩ = some (.int .i64 id) := ⟨c1, c2, b0, b1⟩
  have HW := hidden hW0
  clear h hj hs hI hl h16 hsv hnv hcell hW0 hB0 hbx hbd hM hgl hG hR hnb hnn hsl hr hjl c1 c2 b0 b1
  go_enter Tryz.func14, Tryz.ntmps14
  go_upto_region 4 with fail
  rw [HW.out]
  clear c11 s0 s1 HW
  go_region_held3 (fun w' => w'.cell? ⟨b, 1, none⟩ = some (.slice (some ⟨rb, 0, none⟩) nn rc) ∧ w'.cell? ⟨rb, r, none⟩ = some (.pointer (some ⟨nb, 0, none⟩)) ∧ w'.cell? ⟨pb, 0, none⟩ = some (.int .i64 (r : Int)) ∧ w'.cell? ⟨pb, 1, none⟩ = some (.int .i64 id)) (with_reducible assumption) (first | (go_at_call 49; refine CG.out.mono ?_; rintro e w4 ⟨a4, c4, rfl, hS4, HD4⟩))
  go_wp2_with fail
  go_ret2
  exact ⟨_, _, rfl, HD4.out⟩
end Go.Proofs.YtpiamlgmadnepaaGreat.MS

