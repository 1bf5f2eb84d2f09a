/-
  What Send of a packet that may be, and Hear of a frame that may be, of package node return and leave in memory, where nobody subscribes. Their condition: the node is such as it may be.
-/
import Derived.Test.YtijfocggdjjnjaiGreatDoorNodeTU
namespace Go.Proofs.YtijfocggdjjnjaiGreatDoor.ND
open Go.ChangeShapes Go.WideShapes Go.ChangeAt Go.RowKit Go.Maps Go.Proofs.YtijfocggdjjnjaiGreatDoor.Mem Go.Proofs.YtijfocggdjjnjaiGreatDoor.NO
set_option linter.unusedVariables false

theorem pby_eight {s t l q : Int} {st : Bool} {L : List Nat} (hf : PM.fault s t l q L.length = 0) : ∃ x0 x1 x2 x3 x4 x5 x6 x7 : Nat, pby s t l q st L = x0 :: x1 :: x2 :: x3 :: x4 :: x5 :: x6 :: x7 :: L ∧ (PM.good x0 && decide (x1 ≤ 127)) = true ∧ ((x2 * 256 + x3 : Nat) : Int) = s ∧ ((((x4 * 256 + x5) * 256 + x6) * 256 + x7 : Nat) : Int) = t ∧ ((x0 % 4 : Nat) : Int) = l ∧ (x1 : Int) = q ∧ decide (160 ≤ x0) = st := by
  obtain ⟨s', t', l', q', rfl, rfl, rfl, rfl, h1, h2, h3, h4, h5⟩ := PM.fault_zero hf
  obtain ⟨x0, x1, x2, x3, x4, x5, x6, x7, e, e1, e2, e3, e4, e5, e6⟩ := PM.read_head s' t' l' q' st h1 h2 h3
  refine ⟨x0, x1, x2, x3, x4, x5, x6, x7, ?_, ?_, by rw [e5], by rw [e6], by rw [e1], by rw [e4], e2⟩
  · unfold pby
    simp only [Int.toNat_natCast]
    rw [e]
    rfl
  · rw [e3, e4]
    simpa using h4
theorem pby_rfault {s t l q : Int} {st : Bool} {L : List Nat} (hf : PM.fault s t l q L.length = 0) : PM.rfault (pby s t l q st L) = 0 := by
  obtain ⟨x0, x1, x2, x3, x4, x5, x6, x7, e, e1, _⟩ := pby_eight (st := st) hf
  obtain ⟨_, _, _, _, _, _, _, _, _, _, _, _, h5⟩ := PM.fault_zero hf
  rw [e, PM.rfault_eight, if_pos e1, if_pos h5]
theorem pread_back (s t l q : Int) (st : Bool) (a : Option Addr) (n cap : Nat) (L : List Nat) (w : World) (hA : Arg w a n (pby s t l q st L)) (hc : n ≤ cap) (hf : PM.fault s t l q L.length = 0) :
    Calls Tryz.prog 33 #[.slice a n cap] w fun e w' => ∃ a' c', e = .returned (.tuple #[.agg #[.int .i64 s, .int .i64 t, .int .i64 l, .int .i64 q, .bool st, .slice a' L.length c'], .nilIface]) ∧ Below w.heap.size w w' ∧ Arg w' a' L.length L ∧ (a' = none → L.length = 0 ∧ c' = 0) ∧ ∀ ad, a' = some ad → w.heap.size ≤ ad.block := by
  obtain ⟨x0, x1, x2, x3, x4, x5, x6, x7, e, e1, e2, e3, e4, e5, e6⟩ := pby_eight (st := st) hf
  obtain ⟨_, _, _, _, _, _, _, _, _, _, _, _, h5⟩ := PM.fault_zero hf
  have hL : ∀ c ∈ L, c < 256 := fun c hcc => hA.1.1 c (by rw [e]; simp [hcc])
  rw [e] at hA
  have hn := hA.2.1
  simp at hn
  obtain ⟨b, o, rfl⟩ := Pack.arg_at hA (by omega)
  refine (Pack.read_good b o n cap x0 x1 x2 x3 x4 x5 x6 x7 L w hA hc e1 h5).mono ?_
  rintro ev w' ⟨a', c', rfl, ho, hb⟩
  rw [e2, e3, e4, e5, e6]
  obtain ⟨a2, c2, hv, q1, q2, q3, q4⟩ := own_slice ho hL (by omega)
  cases hv
  exact ⟨a', c', rfl, hb, q1, q2, fun ad e => by obtain ⟨g, rfl, hg⟩ := q4 ad e; exact hg⟩
/-- frame.Read of a frame that may be -/
theorem fread_back (tk og ep h : Int) (a : Option Addr) (n cap : Nat) (B : List Nat) (w : World) (hA : Arg w a n (fby tk og ep h B)) (hc : n ≤ cap) (hB : ∀ c ∈ B, c < 256) (hf : FM.ffault tk og ep h B = 0) :
    Calls Tryz.prog 32 #[.slice a n cap] w fun e w' => ∃ a' m' c', e = .returned (.tuple #[.agg #[.int .i64 tk, .int .i64 og, .int .i64 ep, .int .i64 h, .slice a' m' c'], .nilIface]) ∧ Below w.heap.size w w' ∧ Arg w' a' m' B ∧ m' ≤ c' ∧ ∀ ad, a' = some ad → w.heap.size ≤ ad.block := by
  obtain ⟨t', o', e', p', rfl, rfl, rfl, rfl, h1, h2, h3, h4, h5, h6⟩ := FM.ffault_zero hf
  obtain ⟨r1, r2⟩ := FM.read_back h1 h2 h3 h4 h5 h6 hB
  have hA' := hA
  rw [show fby _ _ _ _ _ = FM.fbytes t' o' e' p' B from Frame.fenc_good hf] at hA'
  have hlen := hA'.2.1
  rw [FM.fbytes_len] at hlen
  have := (FM.rfault_len h6).2
  refine (Frame.fread_all a n cap _ w hA' hc (by omega)).mono ?_
  rintro ev w' ⟨a', m', c', rfl, q1, q2, q3, q4, q5⟩
  rw [r1, r2]
  rw [r2] at q2
  exact ⟨a', m', c', rfl, q1, q2, q3, q5⟩
theorem fby_first {tk og ep h : Int} {B : List Nat} (hf : FM.ffault tk og ep h B = 0) : ∃ R, fby tk og ep h B = 70 :: R := by
  obtain ⟨t', o', e', p', rfl, rfl, rfl, rfl, _⟩ := FM.ffault_zero hf
  rw [show fby _ _ _ _ _ = FM.fbytes t' o' e' p' B from Frame.fenc_good hf]
  exact ⟨_, rfl⟩
set_option maxHeartbeats 4000000 in
set_option maxRecDepth 100000 in
theorem send_ok (n b k : Nat) (o : Nat → Tg) (P : NP) (N : Nd) (tr : Tr) (now s t l q : Int) (st : Bool) (a : Option Addr) (m cap : Nat) (L : List Nat) (w : World) (hn : n ≠ 0) (hN : NAt w o n b P N) (hi : k < 8) (ht : N.tr k = some tr) (hpa : tr.pa = -1) (hnow : GM.tf N.nw now = 0) (hG : GM.Inv 3 3 tr.gn tr.gT tr.gM) (hR : RM.Inv 64 tr.rT tr.rM) (hA : Arg w a m L) (hno : a = none → m = 0 ∧ cap = 0) (hf : PM.fault s t l q m = 0) (hF : 0 < m → ∀ ad, a = some ad → (o ad.block).n = 0) (hsb : N.sb = []) (hls : SInv N.sb N.ls) (hl : N.lt.length + tr.kids.length ≤ 1000000) :
    Calls Tryz.prog 7 #[.pointer (some ⟨b, 0, none⟩), .int .i64 ((k : Int) + 1), .agg #[.int .i64 s, .int .i64 t, .int .i64 l, .int .i64 q, .bool st, .slice a m cap], .int .i64 now] w fun e w' => e = .returned .nilIface ∧ Done w w' o n b (({ N with nw := now } : Nd).took k tr ⟨s, t, l, q, st, L, .slice a m cap⟩ N.id 1 now) := by
  obtain ⟨W0, hW0⟩ : ∃ W0, w.alloc (.cells #[.int .i64 s, .int .i64 t, .int .i64 l, .int .i64 q, .bool st, .slice a m cap] 31) = W0 := ⟨_, rfl⟩
  have hB0 : Below w.heap.size w W0 := by rw [← hW0]; exact (Below.refl _ _).alloc (Nat.le_refl _) _
  have hbx : W0.heap[w.heap.size]? = some (.cells #[.int .i64 s, .int .i64 t, .int .i64 l, .int .i64 q, .bool st, .slice a m cap] 31 (0, 0)) := by
    rw [← hW0]
    exact heap_alloc_new w _
  have CT := hidden (isTrack_calls ((k : Int) + 1))
  rw [show okT ((k : Int) + 1) = true from by simp [okT]; omega] at CT
  have CA := hidden (Gaps.at_calls N.nw now W0)
  rw [if_pos hnow, hnow] at CA
  have CC := hidden (Pack.check_calls s t l q st a m cap)
  rw [hf] at CC
  have hk3 : wrap64 ((k : Int) + 1 - 1) = (k : Int) := by unfold wrap64; omega
  have hk5 : wrap64 (k : Int) = (k : Int) := by unfold wrap64; omega
  have hk4 : (k : Int) < 8 := by omega
  obtain ⟨o0, ho0⟩ : ∃ o0, grow o w nobody = o0 := ⟨_, rfl⟩
  have he0 : Ext w o o0 := by rw [← ho0]; exact grow_ext o w nobody
  have hob : (o0 w.heap.size).n = 0 := by rw [← ho0, grow_new (Nat.le_refl _)]
  have HT : Hid (∀ W, Below w.heap.size w W → W.heap[w.heap.size]? = W0.heap[w.heap.size]? → Calls Tryz.prog 25 #[.pointer (some ⟨b, 0, none⟩), .pointer (some ⟨(P.tp k).p, 0, none⟩), .agg #[.int .i64 s, .int .i64 t, .int .i64 l, .int .i64 q, .bool st, .slice a m cap], .agg #[.int .i64 N.id, .int .i64 1], .int .i64 now] (W.setCell ⟨b, 0, none⟩ (.int .i64 now)).drew fun e w' => e = .returned (.tuple #[]) ∧
      (w'.cell? ⟨w.heap.size, 0, none⟩ = some (.int .i64 s) ∧ w'.cell? ⟨w.heap.size, 1, none⟩ = some (.int .i64 t) ∧ w'.cell? ⟨w.heap.size, 2, none⟩ = some (.int .i64 l) ∧ w'.cell? ⟨w.heap.size, 3, none⟩ = some (.int .i64 q) ∧ w'.cell? ⟨w.heap.size, 4, none⟩ = some (.bool st) ∧ w'.cell? ⟨w.heap.size, 5, none⟩ = some (.slice a m cap) ∧ w'.cell? ⟨b, 1, none⟩ = some (.int .i64 N.id)) ∧ Hid (Done w w' o n b (({ N with nw := now } : Nd).took k tr ⟨s, t, l, q, st, L, .slice a m cap⟩ N.id 1 now))) := by
    refine hidden ?_
    intro W hBW hbW
    have hNW : NAt W o0 n b P N := hN.chg (S := fun _ => False) (Chg.of_below hBW _ _) (fun g hg => hg.elim) he0
    have hNs := hNW.setN hn now
    have hcs := chg_mine (hNW.chgB 0 (.int .i64 now))
    have hNd := hNs.below ((Below.refl _ _).drew)
    have hbd : Below (W.setCell ⟨b, 0, none⟩ (.int .i64 now)).heap.size (W.setCell ⟨b, 0, none⟩ (.int .i64 now)) (W.setCell ⟨b, 0, none⟩ (.int .i64 now)).drew := (Below.refl _ _).drew
    have hFar0 : Far o0 (mine n) a m := by
      intro hm ad e hs
      obtain ⟨b', o1, e', hc⟩ := hA.1.2 0 (by have := hA.2.1; omega)
      have hz := hF hm ad e
      rw [e] at e'
      cases e'
      rw [he0 _ (World.block_lt_of_cell? w ⟨b', o1 + 0, none⟩ hc)] at hs
      have h2 : (o b').n = n := hs
      have h3 : (o b').n = 0 := hz
      omega
    have hAW := hA.below hBW
    have hAs := (hcs.arg hAW hFar0).below hbd
    refine (take_none n b k o0 P { N with nw := now } tr s t l q N.id 1 now st a m cap L _ hn hNd hi ht hG hR hAs hno hf (fun hm ad e => by
      have := hFar0 hm ad e
      obtain ⟨b', o1, e', hc⟩ := hA.1.2 0 (by have := hA.2.1; omega)
      have hz := hF hm ad e
      rw [e] at e'
      cases e'
      rw [he0 _ (World.block_lt_of_cell? w ⟨b', o1 + 0, none⟩ hc)]
      exact hz) hsb hls hl).mono ?_
    rintro e w' ⟨rfl, o', P', q1, q2, q3⟩
    have hc1 : Chg o0 (mine n) W (W.setCell ⟨b, 0, none⟩ (.int .i64 now)).drew := hcs.trans' (Chg.of_below hbd _ _)
    have hc2 := hc1.trans' q3
    have hbw' : w'.heap[w.heap.size]? = some (.cells #[.int .i64 s, .int .i64 t, .int .i64 l, .int .i64 q, .bool st, .slice a m cap] 31 (0, 0)) := lets_body hn hc2 (hbW.trans hbx) hob
    have hid : w'.cell? ⟨b, 1, none⟩ = some (.int .i64 N.id) := by
      have := q1.cells.2.1
      rw [this]
      unfold Nd.took
      split <;> rfl
    refine ⟨rfl, ⟨?_, ?_, ?_, ?_, ?_, ?_, hid⟩, hidden ⟨o', P', q1, ?_, ?_⟩⟩
    any_goals (simp [World.cell?, hbw']; done)
    · intro j hj
      have hsz : (W.setCell ⟨b, 0, none⟩ (.int .i64 now)).drew.heap.size = W.heap.size := by simp [World.setCell, World.drew]
      have hsw := hBW.size
      rw [q2 j (by omega)]
      exact he0 j hj
    · exact (Chg.of_below hBW _ _).trans hc2 he0
  have HN := hidden hN
  have HB0 := hidden hB0
  have HW := hidden hW0
  have HBX := hidden hbx
  have c0 := (hN.below hB0).cells.1
  have HTr := hidden ht
  obtain ⟨nw, hnw⟩ : ∃ nw, N.nw = nw := ⟨_, rfl⟩
  rw [hnw] at c0 CA
  obtain ⟨R, hRes⟩ : ∃ R, ({ N with nw := now } : Nd).took k tr ⟨s, t, l, q, st, L, .slice a m cap⟩ N.id 1 now = R := ⟨_, rfl⟩
  rw [hRes] at HT
  rw [hRes]
  obtain ⟨id, hid⟩ : ∃ id, N.id = id := ⟨_, rfl⟩
  rw [hid] at HT
  have HID := hidden hid
  obtain ⟨pp, hpp⟩ : ∃ pp, (P.tp k).p = pp := ⟨_, rfl⟩
  rw [hpp] at HT
  have HPP := hidden hpp
  have HPA := hidden hpa
  clear hN hnow hG hR hA hno hf hF hsb hls hl hB0 hW0 hbx ho0 he0 hob hnw hRes hid hpp hpa ht
  go_enter Tryz.func7, Tryz.ntmps7
  go_upto_region 1 with fail
  rw [HW.out]
  go_wp2_with fail
  refine CA.out.mono ?_
  rintro e w1 ⟨rfl, hb1⟩
  rw [show Gaps.errv 0 = Value.nilIface from rfl]
  obtain ⟨W1, hW1⟩ : ∃ W1, w1.alloc (.cells #[.int .i64 now] 64) = W1 := ⟨_, rfl⟩
  have hB1 : Below w.heap.size w W1 := by rw [← hW1]; exact (HB0.out.trans (hb1.mono HB0.out.size)).alloc (by have := HB0.out.size; have := hb1.size; omega) _
  have hbk : W1.heap[w.heap.size]? = W0.heap[w.heap.size]? := by
    rw [← hW1]
    exact (Below.heap_alloc _ _ _ (by have := lt_of_block HBX.out; have := hb1.size; omega)).trans (hb1.block _ (lt_of_block HBX.out))
  have hck : W1.cell? ⟨w1.heap.size, 0, none⟩ = some (.int .i64 now) := by rw [← hW1]; simp
  have HW1 := hidden hW1
  have HB1 := hidden hB1
  have HBK := hidden hbk
  have hN1 := HN.out.below hB1
  have ct := hN1.track hi
  have bx := (hN1.trs k hi tr HTr.out).1.box
  rw [HTr.out] at ct
  simp only [tpv] at ct
  rw [HPP.out] at ct bx
  have cp : W1.cell? ⟨pp, 2, none⟩ = some (.int .i64 (-1)) := by rw [← HPA.out]; simp [World.cell?, bx]
  have hbx1 := hbk.trans HBX.out
  have x0 : W1.cell? ⟨w.heap.size, 0, none⟩ = some (.int .i64 s) := by simp [World.cell?, hbx1]
  have x1 : W1.cell? ⟨w.heap.size, 1, none⟩ = some (.int .i64 t) := by simp [World.cell?, hbx1]
  have x2 : W1.cell? ⟨w.heap.size, 2, none⟩ = some (.int .i64 l) := by simp [World.cell?, hbx1]
  have x3 : W1.cell? ⟨w.heap.size, 3, none⟩ = some (.int .i64 q) := by simp [World.cell?, hbx1]
  have x4 : W1.cell? ⟨w.heap.size, 4, none⟩ = some (.bool st) := by simp [World.cell?, hbx1]
  have x5 : W1.cell? ⟨w.heap.size, 5, none⟩ = some (.slice a m cap) := by simp [World.cell?, hbx1]
  obtain ⟨cb, hcb⟩ : ∃ cb, w1.heap.size = cb := ⟨_, rfl⟩
  rw [hcb] at hck
  have HCB := hidden hcb
  clear hb1 hW1 hB1 hbk c0 CA hN1 bx hbx1
  go_upto_region 4 with fail
  first | rw [HW1.out] | skip
  clear hcb
  go_wp2_with fail
  refine (CT.out _).mono ?_
  rintro e w2 ⟨rfl, rfl⟩
  go_wp2_with fail
  refine (CC.out _).mono ?_
  rintro e w2 ⟨rfl, hb2⟩
  rw [show Pack.errv 0 = Value.nilIface from rfl]
  have hB2 := HB1.out.trans (hb2.mono HB1.out.size)
  have hbk2 : w2.heap[w.heap.size]? = W0.heap[w.heap.size]? := (hb2.block _ (lt_of_block (HBK.out.trans HBX.out))).trans HBK.out
  have hck2 := ext_cell hb2 hck
  have hN2 := HN.out.below hB2
  have c02 := hN2.cells.1
  have f02 := hN2.free 0
  have CTk := hidden (HT.out w2 hB2 hbk2)
  have hN3 := hN2.setN hn now
  have hbx3 : (w2.setCell ⟨b, 0, none⟩ (.int .i64 now)).heap[w.heap.size]? = some (.cells #[.int .i64 s, .int .i64 t, .int .i64 l, .int .i64 q, .bool st, .slice a m cap] 31 (0, 0)) := by
    rw [Below.heap_setCell _ _ _ _ (by have := HN.out.lt; simp; omega)]
    exact hbk2.trans HBX.out
  obtain ⟨w3, hw3⟩ : ∃ w3, w2.setCell ⟨b, 0, none⟩ (.int .i64 now) = w3 := ⟨_, rfl⟩
  rw [hw3] at CTk hN3 hbx3
  have hS0 : w3.drew.cell? ⟨w.heap.size, 0, none⟩ = some (.int .i64 s) ∧ w3.drew.cell? ⟨w.heap.size, 1, none⟩ = some (.int .i64 t) ∧ w3.drew.cell? ⟨w.heap.size, 2, none⟩ = some (.int .i64 l) ∧ w3.drew.cell? ⟨w.heap.size, 3, none⟩ = some (.int .i64 q) ∧ w3.drew.cell? ⟨w.heap.size, 4, none⟩ = some (.bool st) ∧ w3.drew.cell? ⟨w.heap.size, 5, none⟩ = some (.slice a m cap) ∧ w3.drew.cell? ⟨b, 1, none⟩ = some (.int .i64 id) := by
    refine ⟨?_, ?_, ?_, ?_, ?_, ?_, ?_⟩
    any_goals (show w3.cell? _ = _; simp [World.cell?, hbx3]; done)
    · show w3.cell? _ = _
      have := hN3.cells.2.1
      rw [this]
      show some (Value.int .i64 N.id) = _
      rw [HID.out]
  have HW3 := hidden hw3
  clear hb2 hB2 hbk2 hN2 hN3 hbx3 hw3 HT hck ct cp x0 x1 x2 x3 x4 x5 CC CT
  go_upto_region 15 with fail
  rw [HW3.out]
  go_region_held3 (fun w' => w'.cell? ⟨w.heap.size, 0, none⟩ = some (.int .i64 s) ∧ w'.cell? ⟨w.heap.size, 1, none⟩ = some (.int .i64 t) ∧ w'.cell? ⟨w.heap.size, 2, none⟩ = some (.int .i64 l) ∧ w'.cell? ⟨w.heap.size, 3, none⟩ = some (.int .i64 q) ∧ w'.cell? ⟨w.heap.size, 4, none⟩ = some (.bool st) ∧ w'.cell? ⟨w.heap.size, 5, none⟩ = some (.slice a m cap) ∧ w'.cell? ⟨b, 1, none⟩ = some (.int .i64 id)) (with_reducible assumption) (first | (go_at_call 25; refine CTk.out.mono ?_; rintro e w4 ⟨rfl, hS4, HD⟩))
  go_wp2_with fail
  go_ret
  exact ⟨rfl, HD.out⟩
end Go.Proofs.YtijfocggdjjnjaiGreatDoor.ND

