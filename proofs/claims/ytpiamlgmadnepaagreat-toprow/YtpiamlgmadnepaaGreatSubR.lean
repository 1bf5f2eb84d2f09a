/-
  What push of package node leaves of a subscriber. Its condition: the subscriber is such as it may be.
-/
import Derived.Test.YtpiamlgmadnepaaGreatSubQ
namespace Go.Proofs.YtpiamlgmadnepaaGreat.ND
open Go.ChangeShapes Go.WideShapes Go.ChangeAt Go.RowKit Go.Maps Go.Proofs.YtpiamlgmadnepaaGreat.Mem Go.Proofs.YtpiamlgmadnepaaGreat.NO
set_option linter.unusedVariables false

/-- what is left of a subscriber -/
def SbS (w w' : World) (o : Nat → Tg) (n : Nat) (x : Int) (P : SP) (s : Sb) : Prop := ∃ o' Q, SbAt w' o' Q s ∧ Q.s = P.s ∧ Own o' ⟨n, 4, x⟩ (sblks Q) ∧ Ext w o o' ∧ Chg o (fun g => g = ⟨n, 4, x⟩) w w'
theorem pushed_inv {s : Sb} {y now : Int} {p : Pk} (h : SbI s) : SbI (s.pushed y now p) := ⟨OM.inv_push h.oi _ _, h.ui⟩
theorem pushed_tf {s : Sb} {y now : Int} {p : Pk} (h : OM.tf s.on now = 0) : OM.tf (s.pushed y now p).on now = 0 := by
  obtain ⟨h1, h2, h3⟩ := OM.tf_zero h
  show OM.tf (OM.pW s.on s.ox y now _) now = 0
  unfold OM.pW
  split
  · exact OM.tf_mk h1 h2 (by omega)
  · exact h
set_option maxHeartbeats 1000000 in
set_option maxRecDepth 100000 in
theorem spush_calls (n : Nat) (x : Int) (o : Nat → Tg) (P : SP) (s : Sb) (y now ps pt pl pq : Int) (pst : Bool) (a : Option Addr) (m cap : Nat) (L : List Nat) (K : Nat) (w : World) (hn : n ≠ 0) (h : SbAt w o P s) (hO : Own o ⟨n, 4, x⟩ (sblks P)) (hI : SbI s) (hA : Arg w a m L) (hno : a = none → m = 0 ∧ cap = 0) (ht : OM.tf s.on now = 0) (hK : Order.Many 10 (s.pushed y now ⟨ps, pt, pl, pq, pst, L⟩).on (s.pushed y now ⟨ps, pt, pl, pq, pst, L⟩).ox now (s.pushed y now ⟨ps, pt, pl, pq, pst, L⟩).oM K) (hk : s.uk + K ≤ 2199023255551) (hg : s.got.length + K ≤ 2199023255551) :
    Calls Tryz.prog 126 #[.pointer (some ⟨P.s, 0, none⟩), .int .i64 y, .agg #[.int .i64 ps, .int .i64 pt, .int .i64 pl, .int .i64 pq, .bool pst, .slice a m cap], .int .i64 now] w fun e w' => e = .returned (.tuple #[]) ∧ SbS w w' o n x P ((s.pushed y now ⟨ps, pt, pl, pq, pst, L⟩).pop now K) := by
  obtain ⟨W0, hW0⟩ : ∃ W0, w.alloc (.cells #[.int .i64 ps, .int .i64 pt, .int .i64 pl, .int .i64 pq, .bool pst, .slice a m cap] 38) = W0 := ⟨_, rfl⟩
  have hB0 : Below w.heap.size w W0.drew := by rw [← hW0]; exact ((Below.refl _ _).alloc (Nat.le_refl _) _).drew
  have hbx : W0.heap[w.heap.size]? = some (.cells #[.int .i64 ps, .int .i64 pt, .int .i64 pl, .int .i64 pq, .bool pst, .slice a m cap] 38 (0, 0)) := by rw [← hW0]; exact heap_alloc_new w _
  obtain ⟨o0, ho0⟩ : ∃ o0, grow o w nobody = o0 := ⟨_, rfl⟩
  have he0 : Ext w o o0 := by rw [← ho0]; exact grow_ext o w nobody
  have hA0 : SbAt W0.drew o0 P s := h.below hB0 he0
  have hO0 : Own o0 ⟨n, 4, x⟩ (sblks P) := hO.ext he0 h.lt
  obtain ⟨M', eM, hM⟩ := hA0.ord
  have hI' : OM.Inv s.on s.ox M' := inv_sk (by rw [eM]; exact hI.oi)
  have hm := hA.2.1
  obtain ⟨R, hRes⟩ : ∃ R, (s.pushed y now ⟨ps, pt, pl, pq, pst, L⟩).pop now K = R := ⟨_, rfl⟩
  rw [hRes]
  have hin : ∀ k ∈ [P.ob, P.om], k ∈ sblks P := by intro k hk; simp at hk; rcases hk with e | e <;> simp [sblks, e]
  have HC : Hid (Calls Tryz.prog 28 #[.pointer (some ⟨P.ob, 0, none⟩), .int .i64 y, .agg #[.int .i64 ps, .int .i64 pt, .int .i64 pl, .int .i64 pq, .bool pst, .slice a m cap], .int .i64 now] W0.drew fun e w1 => ∃ b f, e = .returned (.tuple #[.bool b, errv f]) ∧ (w1.cell? ⟨w.heap.size, 0, none⟩ = some (.int .i64 ps) ∧ w1.cell? ⟨w.heap.size, 1, none⟩ = some (.int .i64 pt) ∧ w1.cell? ⟨w.heap.size, 2, none⟩ = some (.int .i64 pl) ∧ w1.cell? ⟨w.heap.size, 3, none⟩ = some (.int .i64 pq) ∧ w1.cell? ⟨w.heap.size, 4, none⟩ = some (.bool pst) ∧ w1.cell? ⟨w.heap.size, 5, none⟩ = some (.slice a m cap) ∧ w1.cell? ⟨P.s, 2, none⟩ = some (.pointer (some ⟨P.ob, 0, none⟩))) ∧ Hid (Calls Tryz.prog 120 #[.pointer (some ⟨P.s, 0, none⟩), .int .i64 now] w1 fun e w' => e = .returned (.tuple #[]) ∧ Hid (SbS w w' o n x P R))) := by
    refine hidden ((Order.push_calls P.ob P.om 10 s.on s.ox y now ps pt pl pq pst a m cap L M' W0.drew hM hI' (hA.below hB0) hno).mono ?_)
    rintro e w1 ⟨rfl, bv, q1, q2⟩
    have ha := hA0.ord' hn hO0 q1 q2
    have hs : ({ s with on := OM.pW s.on s.ox y now (PM.fault ps pt pl pq m), ox := OM.pX s.on s.ox y now (PM.fault ps pt pl pq m), oM := (OM.pM s.on s.ox y now M' (PM.fault ps pt pl pq m) ⟨ps, pt, pl, pq, pst, L, bv⟩).map sk } : Sb) = s.pushed y now ⟨ps, pt, pl, pq, pst, L⟩ := by
      unfold Sb.pushed
      rw [pM_sk, eM, ← hm]
    rw [hs] at ha
    have hb1 : w1.heap[w.heap.size]? = some (.cells #[.int .i64 ps, .int .i64 pt, .int .i64 pl, .int .i64 pq, .bool pst, .slice a m cap] 38 (0, 0)) := q2.block (show W0.drew.heap[w.heap.size]? = _ from hbx) (fun hk => by have := h.lt _ (hin _ hk); omega)
    refine ⟨_, _, rfl, ⟨?_, ?_, ?_, ?_, ?_, ?_, ha.cells.1⟩, hidden ?_⟩
    any_goals (simp [World.cell?, hb1]; done)
    refine (spop_calls n x o0 P _ now K w1 hn ha hO0 (pushed_inv hI) (pushed_tf ht) hK hk hg).mono ?_
    rintro e w' ⟨rfl, o', Q, r1, r2, r3, r4, r5⟩
    rw [hRes] at r1
    have hc1 : Chg o0 (fun g => g = ⟨n, 4, x⟩) W0.drew w1 := only_chg1 q2 hA0 hO0 hin
    have hs1 : W0.drew.heap.size ≤ w1.heap.size := q2.2.2.2.1
    exact ⟨rfl, hidden ⟨o', Q, r1, r2, r3, fun k hk => by rw [r4 k (by have := hB0.size; omega)]; exact he0 k hk, (Chg.of_below hB0 _ _).trans (hc1.trans' r5) he0⟩⟩
  have hS0 : W0.drew.cell? ⟨w.heap.size, 0, none⟩ = some (.int .i64 ps) ∧ W0.drew.cell? ⟨w.heap.size, 1, none⟩ = some (.int .i64 pt) ∧ W0.drew.cell? ⟨w.heap.size, 2, none⟩ = some (.int .i64 pl) ∧ W0.drew.cell? ⟨w.heap.size, 3, none⟩ = some (.int .i64 pq) ∧ W0.drew.cell? ⟨w.heap.size, 4, none⟩ = some (.bool pst) ∧ W0.drew.cell? ⟨w.heap.size, 5, none⟩ = some (.slice a m cap) ∧ W0.drew.cell? ⟨P.s, 2, none⟩ = some (.pointer (some ⟨P.ob, 0, none⟩)) := by
    refine ⟨?_, ?_, ?_, ?_, ?_, ?_, hA0.cells.1⟩
    any_goals (show W0.cell? _ = _; simp [World.cell?, hbx]; done)
  have HW := hidden hW0
  obtain ⟨pb, hpb⟩ : ∃ pb, w.heap.size = pb := ⟨_, rfl⟩
  rw [hpb] at HC hS0
  obtain ⟨sb, hsb⟩ : ∃ b, P.s = b := ⟨_, rfl⟩
  obtain ⟨ob, hob⟩ : ∃ b, P.ob = b := ⟨_, rfl⟩
  rw [hsb, hob] at HC hS0
  rw [hsb]
  clear hn h hO hI hA hno ht hK hk hg hW0 hB0 hbx ho0 he0 hA0 hO0 eM hM hI' hm hRes hin hsb hob
  go_enter Tryz.func126, Tryz.ntmps126
  go_upto_region 1 with fail
  rw [HW.out]
  clear hpb
  go_region_held3 (fun w' => w'.cell? ⟨pb, 0, none⟩ = some (.int .i64 ps) ∧ w'.cell? ⟨pb, 1, none⟩ = some (.int .i64 pt) ∧ w'.cell? ⟨pb, 2, none⟩ = some (.int .i64 pl) ∧ w'.cell? ⟨pb, 3, none⟩ = some (.int .i64 pq) ∧ w'.cell? ⟨pb, 4, none⟩ = some (.bool pst) ∧ w'.cell? ⟨pb, 5, none⟩ = some (.slice a m cap) ∧ w'.cell? ⟨sb, 2, none⟩ = some (.pointer (some ⟨ob, 0, none⟩))) (with_reducible assumption) (first | (go_at_call 28; with_reducible refine HC.out.mono ?_; rintro e w1 ⟨b1, f1, rfl, hS1, HP⟩))
  go_wp2_with fail
  refine HP.out.mono ?_
  rintro e w2 ⟨rfl, HD⟩
  go_wp2_with fail
  go_end0
  exact ⟨rfl, HD.out⟩
end Go.Proofs.YtpiamlgmadnepaaGreat.ND

