/-
  What Next of package out returns of a packet that is right, and what it leaves in memory. Its condition: the Out is such as it may be.
-/
import Derived.Test.YtpiamlgmadnepaaGreatOutB
namespace Go.Proofs.YtpiamlgmadnepaaGreat.Out
open Go.ChangeShapes Go.WideShapes Go.ChangeAt Go.RowKit Go.Proofs.YtpiamlgmadnepaaGreat.PM Go.Proofs.YtpiamlgmadnepaaGreat.Mem Go.Proofs.YtpiamlgmadnepaaGreat.Pack Go.Proofs.YtpiamlgmadnepaaGreat.UM
set_option linter.unusedVariables false

set_option maxHeartbeats 4000000 in
set_option maxRecDepth 100000 in
theorem next_ok (b : Nat) (S : Int) (k : Nat) (T ly ow : Int) (s t l q : Int) (st : Bool) (a : Option Addr) (n cap : Nat) (L : List Nat) (w : World) (h : OutAt w b S k T ly ow) (hI : UM.Inv S k T ow) (hk : k < 2199023255552) (hf : fault s t l q n = 0) (hA : Arg w a n L) (hN : a = none → n = 0 ∧ cap = 0) :
    Calls Tryz.prog 34 #[.pointer (some ⟨b, 0, none⟩), .agg #[.int .i64 s, .int .i64 t, .int .i64 l, .int .i64 q, .bool st, .slice a n cap]] w fun e w' => ∃ a' c', e = .returned (.tuple #[.agg #[.int .i64 (sq S k), .int .i64 (nt k T ly ow l t), .int .i64 l, .int .i64 q, .bool st, .slice a' n c'], .nilIface]) ∧
      OutAt w' b S (k + 1) (nt k T ly ow l t) l t ∧ Arg w' a' n L ∧ (a' = none → n = 0 ∧ c' = 0) ∧ Only [b] w w' ∧ ∀ ad, a' = some ad → w.heap.size ≤ ad.block := by
  have HC : Hid (∀ W, Calls Tryz.prog 59 #[.agg #[.int .i64 s, .int .i64 t, .int .i64 l, .int .i64 q, .bool st, .slice a n cap]] W fun e w' => e = .returned .nilIface ∧ Below W.heap.size W w') := hidden (fun W => by have := Pack.check_calls s t l q st a n cap W; rw [hf, errv_zero] at this; exact this)
  have ht : 0 ≤ t ∧ t ≤ 4294967295 ∧ n ≤ 1000 := by obtain ⟨_, t', _, _, _, ht, _, _, _, ht1, _, _, hn⟩ := fault_zero hf; omega
  obtain ⟨ht0, ht1, hn⟩ := ht
  have HT : Hid (∀ W, OutAt W b S k T ly ow → Calls Tryz.prog 81 #[.pointer (some ⟨b, 0, none⟩), .agg #[.int .i64 s, .int .i64 t, .int .i64 l, .int .i64 q, .bool st, .slice a n cap]] W fun e w' => e = .returned (.int .i64 (nt k T ly ow l t)) ∧ Below W.heap.size W w') := hidden (fun W hW => timeOf_calls b S k T ly ow s t l q st _ W hW hI ht0 ht1)
  obtain ⟨i0, hii, hz0, hz1, hz2⟩ := info_parts info5
  have hl : ∀ x ∈ L, x < 256 := hA.1.1
  have HA := hidden hA
  have HO := hidden h
  have HN := hidden hN
  have HL := hidden hl
  have HS := hidden (NSt.start h s t l q st (.slice a n cap))
  obtain ⟨y1, y2, _, _, _, _, _⟩ := hI
  generalize nt k T ly ow l t = T' at *
  have HQ : Hid ((S + (k : Int)) % 65536 = sq S k) := hidden rfl
  generalize sq S k = Q at *
  clear h hf hA hN hl
  go_enter Tryz.func34, Tryz.ntmps34
  go_wp2_with fail
  refine (HC.out _).mono ?_
  rintro e w2 ⟨rfl, hb⟩
  have HS2 := hidden (HS.out.below hb)
  clear hb HS HC
  obtain ⟨x0, x1, x2, x3, x4, x5⟩ := HS2.out.box.cells
  obtain ⟨n1, n2, n3, n4, n5, n6⟩ := HS2.out.ds
  go_wp2_with fail
  refine (HT.out _ HS2.out.out).mono ?_
  rintro e w3 ⟨rfl, hb⟩
  have HS3 := hidden (HS2.out.below hb)
  clear hb HS2 HT x0 x1 x2 x3 x4 x5
  obtain ⟨c0, c1, c2, c3, c4⟩ := HS3.out.out.cells
  have f2 := HS3.out.out.free 2
  clear c0 c1 c3 c4
  go_upto_region 5 with fail
  obtain ⟨w4, hw4⟩ : ∃ w4, w3.setCell ⟨b, 2, none⟩ (.int .i64 T') = w4 := ⟨_, rfl⟩
  have HS4 : Hid (NSt w w4 b w.heap.size (w.heap.size + 1) S k T' ly ow s t l q st (.slice a n cap)) := by rw [← hw4]; exact HS3.out.setT T'
  rw [hw4]
  clear hw4 HS3 c2 f2
  obtain ⟨x0, x1, x2, x3, x4, x5⟩ := HS4.out.box.cells
  obtain ⟨c0, c1, c2, c3, c4⟩ := HS4.out.out.cells
  have f3 := HS4.out.out.free 3
  have f4 := HS4.out.out.free 4
  clear x0 x3 x4 x5 c0 c1 c2
  go_region
  obtain ⟨w5, hw5⟩ : ∃ w5, ((w4.setCell ⟨b, 3, none⟩ (.int .i64 l)).setCell ⟨b, 4, none⟩ (.int .i64 t)).drew = w5 := ⟨_, rfl⟩
  have HS5 : Hid (NSt w w5 b w.heap.size (w.heap.size + 1) S k T' l t s t l q st (.slice a n cap)) := by rw [← hw5]; exact ((HS4.out.setL l).setO t).below (below_drewN (Below.refl _ _) 1)
  rw [hw5]
  clear hw5 HS4 x1 x2 c3 c4 f3 f4
  obtain ⟨x0, x1, x2, x3, x4, x5⟩ := HS5.out.box.cells
  obtain ⟨c0, c1, c2, c3, c4⟩ := HS5.out.out.cells
  have f0 := boxFree HS5.out.box 0
  clear x1 x2 x3 x4 x5 c2 c3 c4
  go_wp2_with fail
  go_region
  obtain ⟨w6, hw6⟩ : ∃ w6, (w5.setCell ⟨w.heap.size, 0, none⟩ (.int .i64 (bits .and .i64 (S + (k : Int)) 65535))).drew = w6 := ⟨_, rfl⟩
  have HS6 : Hid (NSt w w6 b w.heap.size (w.heap.size + 1) S k T' l t Q t l q st (.slice a n cap)) := by
    rw [← hw6, and_round, HQ.out]
    exact (HS5.out.set0 Q).below (below_drewN (Below.refl _ _) 1)
  rw [hw6]
  clear hw6 HS5 x0 c0 c1 f0
  obtain ⟨x0, x1, x2, x3, x4, x5⟩ := HS6.out.box.cells
  obtain ⟨c0, c1, c2, c3, c4⟩ := HS6.out.out.cells
  have f1 := boxFree HS6.out.box 1
  clear x0 x2 x3 x4 x5 c0 c1 c3 c4
  go_upto_region 8 with fail
  obtain ⟨w7, hw7⟩ : ∃ w7, w6.setCell ⟨w.heap.size, 1, none⟩ (.int .i64 T') = w7 := ⟨_, rfl⟩
  have HS7 : Hid (NSt w w7 b w.heap.size (w.heap.size + 1) S k T' l t Q T' l q st (.slice a n cap)) := by rw [← hw7]; exact HS6.out.set1 T'
  rw [hw7]
  clear hw7 HS6 x1 c2 f1
  obtain ⟨x0, x1, x2, x3, x4, x5⟩ := HS7.out.box.cells
  clear x0 x1 x2 x3 x4
  go_wp2_with (at_builtin; refine append_any rfl _ _ 36 rfl w7.heap.size 5 i0 (.int .u8 0) 1 1 Tryz.underlying36 hii hz0 hz1 hz2 rfl (by decide) _ 0 [] rfl (World.ownsRow_nil _ _ _ _) a n cap (cellsOf L) rfl ?al HN.out ?ac (cells_one L) ?b1 ?b2 ?b3 ?next)
  case al => rw [cellsOf_len, HA.out.2.1]; omega
  case ac => exact bys_cells (HO.out.arg HS7.out.only HA.out).1
  case b1 => unfold maxLen; omega
  case b2 => omega
  case b3 => exact Nat.le_refl _
  case next =>
    intro v1 w8 hown hgrow
    have HS8 := hidden (HS7.out.grown hgrow)
    have HLe := hidden (show w.heap.size + 1 < w7.heap.size from HS7.out.res.lt)
    obtain ⟨a', c', rfl, _, hnn, _, hfar⟩ := own_slice (L := L) hown HL.out (by omega)
    have HW : Hid (w8.ownsRow w7.heap.size 5 1 (.slice a' n c') n (cellsOf L)) := hidden (by simpa using hown)
    have HF := hidden hfar
    have HNN := hidden hnn
    clear hown hgrow hfar hnn HS7 x5
    obtain ⟨x0, x1, x2, x3, x4, x5⟩ := HS8.out.box.cells
    have f5 := boxFree HS8.out.box 5
    clear x0 x1 x2 x3 x4
    go_upto_region 9 with fail
    obtain ⟨w9, hw9⟩ : ∃ w9, w8.setCell ⟨w.heap.size, 5, none⟩ (.slice a' n c') = w9 := ⟨_, rfl⟩
    have HS9 : Hid (NSt w w9 b w.heap.size (w.heap.size + 1) S k T' l t Q T' l q st (.slice a' n c')) := by rw [← hw9]; exact HS8.out.set5 _
    have HO9 : Hid (Only [b, w.heap.size, w.heap.size + 1] w8 w9) := by rw [← hw9]; exact (Only.refl _ _).setCell (by simp) _
    rw [hw9]
    clear hw9 HS8 x5 f5
    obtain ⟨c0, c1, c2, c3, c4⟩ := HS9.out.out.cells
    have f1 := HS9.out.out.free 1
    clear c0 c2 c3 c4
    go_upto_region 10 with fail
    obtain ⟨w10, hw10⟩ : ∃ w10, w9.setCell ⟨b, 1, none⟩ (.int .i64 ((k : Int) + 1)) = w10 := ⟨_, rfl⟩
    have HS10 : Hid (NSt w w10 b w.heap.size (w.heap.size + 1) S (k + 1) T' l t Q T' l q st (.slice a' n c')) := by rw [← hw10]; exact HS9.out.setK
    have HO10 : Hid (Only [b, w.heap.size, w.heap.size + 1] w8 w10) := by rw [← hw10]; exact HO9.out.setCell (by simp) _
    rw [hw10]
    clear hw10 HS9 HO9 c1 f1
    obtain ⟨x0, x1, x2, x3, x4, x5⟩ := HS10.out.box.cells
    obtain ⟨z0, z1, z2, z3, z4, z5⟩ := HS10.out.res.cells
    have f0 := boxFree HS10.out.res 0
    have f1 := boxFree HS10.out.res 1
    have f2 := boxFree HS10.out.res 2
    have f3 := boxFree HS10.out.res 3
    have f4 := boxFree HS10.out.res 4
    have f5 := boxFree HS10.out.res 5
    go_wp2_with fail
    have ho : Only [b, w.heap.size, w.heap.size + 1] w8 _ := only6 (g := w.heap.size + 1) HO10.out (by simp) (.int .i64 Q) (.int .i64 T') (.int .i64 l) (.int .i64 q) (.bool st) (.slice a' n c')
    have hoo : Only [b] w _ := only_new (g := w.heap.size + 1) (only_new (g := w.heap.size + 1) (only_new (g := w.heap.size + 1) (only_new (g := w.heap.size + 1) (only_new (g := w.heap.size + 1) (only_new (g := w.heap.size + 1) HS10.out.only (by omega) 0 (.int .i64 Q)) (by omega) 1 (.int .i64 T')) (by omega) 2 (.int .i64 l)) (by omega) 3 (.int .i64 q)) (by omega) 4 (.bool st)) (by omega) 5 (.slice a' n c')
    have hu : OutAt _ b S (k + 1) T' l t := outOther (outOther (outOther (outOther (outOther (outOther HS10.out.out (p := ⟨w.heap.size + 1, 0, none⟩) n3 (.int .i64 Q)) (p := ⟨w.heap.size + 1, 1, none⟩) n3 (.int .i64 T')) (p := ⟨w.heap.size + 1, 2, none⟩) n3 (.int .i64 l)) (p := ⟨w.heap.size + 1, 3, none⟩) n3 (.int .i64 q)) (p := ⟨w.heap.size + 1, 4, none⟩) n3 (.bool st)) (p := ⟨w.heap.size + 1, 5, none⟩) n3 (.slice a' n c')
    refine bodyPost_ret (res_pk (g := w.heap.size + 1) rfl rfl (box6 HS10.out.res Q T' l q st (.slice a' n c'))) rfl ?_
    have hW := ho.owns HW.out (by
      intro j hj hc
      cases a' with
      | none => simp [Value.ownBlock] at hj
      | some ad =>
        obtain ⟨g, rfl, hg⟩ := HF.out ad rfl
        simp [Value.ownBlock] at hj
        have := HLe.out
        have := HS10.out.hb
        simp at hc
        omega)
    obtain ⟨a2, c2, e2, hA2, _⟩ := own_slice hW HL.out (by omega)
    simp only [Value.slice.injEq] at e2
    obtain ⟨rfl, _, rfl⟩ := e2
    refine ⟨a', c', rfl, hu, hA2, HNN.out, hoo, fun ad e => ?_⟩
    obtain ⟨g, rfl, hg⟩ := HF.out ad e
    have := HLe.out
    simp only
    omega
end Go.Proofs.YtpiamlgmadnepaaGreat.Out

