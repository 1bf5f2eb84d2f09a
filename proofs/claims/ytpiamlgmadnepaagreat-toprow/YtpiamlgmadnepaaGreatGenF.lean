/-
  What Send, and Hear of a frame, of package node return and leave in memory, whoever subscribes. Their condition: the node is such as it may be.
-/
import Derived.Test.YtpiamlgmadnepaaGreatGenE
namespace Go.Proofs.YtpiamlgmadnepaaGreat.ND
open Go.ChangeShapes Go.WideShapes Go.ChangeAt Go.RowKit Go.Maps Go.Proofs.YtpiamlgmadnepaaGreat.Mem Go.Proofs.YtpiamlgmadnepaaGreat.NO
set_option linter.unusedVariables false

set_option maxHeartbeats 4000000 in
set_option maxRecDepth 100000 in
theorem send_any (n b k : Nat) (o : Nat → Tg) (P : NP) (N : Nd) (tr : Tr) (now s t l q : Int) (st : Bool) (a : Option Addr) (m cap : Nat) (L : List Nat) (w : World) (hn : n ≠ 0) (hN : NAt w o n b P N) (hi : k < 8) (ht : N.tr k = some tr) (hpa : tr.pa = -1) (hnow : GM.tf N.nw now = 0) (hG : GM.Inv 3 3 tr.gn tr.gT tr.gM) (hR : RM.Inv 64 tr.rT tr.rM) (hA : Arg w a m L) (hno : a = none → m = 0 ∧ cap = 0) (hf : PM.fault s t l q m = 0) (hF : 0 < m → ∀ ad, a = some ad → (o ad.block).n = 0) (nw0 : Int) (hsb : ∀ x ∈ N.sb, SbOk nw0 x.2 ∧ OM.tf x.2.on now = 0) (hls : SInv N.sb N.ls) (hl : N.lt.length + tr.kids.length ≤ 1000000) :
    Calls Tryz.prog 45 #[.pointer (some ⟨b, 0, none⟩), .int .i64 ((k : Int) + 1), .agg #[.int .i64 s, .int .i64 t, .int .i64 l, .int .i64 q, .bool st, .slice a m cap], .int .i64 now] w fun e w' => e = .returned .nilIface ∧ Done w w' o n b (({ N with nw := now } : Nd).tookG k tr ⟨s, t, l, q, st, L, .slice a m cap⟩ N.id 1 now) := by
  obtain ⟨W0, hW0⟩ : ∃ W0, w.alloc (.cells #[.int .i64 s, .int .i64 t, .int .i64 l, .int .i64 q, .bool st, .slice a m cap] 38) = W0 := ⟨_, rfl⟩
  have hB0 : Below w.heap.size w W0 := by rw [← hW0]; exact (Below.refl _ _).alloc (Nat.le_refl _) _
  have hbx : W0.heap[w.heap.size]? = some (.cells #[.int .i64 s, .int .i64 t, .int .i64 l, .int .i64 q, .bool st, .slice a m cap] 38 (0, 0)) := by
    rw [← hW0]
    exact heap_alloc_new w _
  have CT := hidden (isTrack_calls ((k : Int) + 1))
  rw [show okT ((k : Int) + 1) = true from by simp [okT]; omega] at CT
  have CA := hidden (Gaps.at_calls N.nw now W0)
  rw [if_pos hnow, hnow] at CA
  have CC := hidden (Pack.check_calls s t l q st a m cap)
  rw [hf] at CC
  have hk3 : wrap64 ((k : Int) + 1 - 1) = (k : Int) := by unfold wrap64; omega
  have hk5 : wrap64 (k : Int) = (k : Int) := by unfold wrap64; omega
  have hk4 : (k : Int) < 8 := by omega
  obtain ⟨o0, ho0⟩ : ∃ o0, grow o w nobody = o0 := ⟨_, rfl⟩
  have he0 : Ext w o o0 := by rw [← ho0]; exact grow_ext o w nobody
  have hob : (o0 w.heap.size).n = 0 := by rw [← ho0, grow_new (Nat.le_refl _)]
  have HT : Hid (∀ W, Below w.heap.size w W → W.heap[w.heap.size]? = W0.heap[w.heap.size]? → Calls Tryz.prog 92 #[.pointer (some ⟨b, 0, none⟩), .pointer (some ⟨(P.tp k).p, 0, none⟩), .agg #[.int .i64 s, .int .i64 t, .int .i64 l, .int .i64 q, .bool st, .slice a m cap], .agg #[.int .i64 N.id, .int .i64 1], .int .i64 now] (W.setCell ⟨b, 0, none⟩ (.int .i64 now)).drew fun e w' => e = .returned (.tuple #[]) ∧
      (w'.cell? ⟨w.heap.size, 0, none⟩ = some (.int .i64 s) ∧ w'.cell? ⟨w.heap.size, 1, none⟩ = some (.int .i64 t) ∧ w'.cell? ⟨w.heap.size, 2, none⟩ = some (.int .i64 l) ∧ w'.cell? ⟨w.heap.size, 3, none⟩ = some (.int .i64 q) ∧ w'.cell? ⟨w.heap.size, 4, none⟩ = some (.bool st) ∧ w'.cell? ⟨w.heap.size, 5, none⟩ = some (.slice a m cap) ∧ w'.cell? ⟨b, 1, none⟩ = some (.int .i64 N.id)) ∧ Hid (Done w w' o n b (({ N with nw := now } : Nd).tookG k tr ⟨s, t, l, q, st, L, .slice a m cap⟩ N.id 1 now))) := by
    refine hidden ?_
    intro W hBW hbW
    have hNW : NAt W o0 n b P N := hN.chg (S := fun _ => False) (Chg.of_below hBW _ _) (fun g hg => hg.elim) he0
    have hNs := hNW.setN hn now
    have hcs := chg_mine (hNW.chgB 0 (.int .i64 now))
    have hNd := hNs.below ((Below.refl _ _).drew)
    have hbd : Below (W.setCell ⟨b, 0, none⟩ (.int .i64 now)).heap.size (W.setCell ⟨b, 0, none⟩ (.int .i64 now)) (W.setCell ⟨b, 0, none⟩ (.int .i64 now)).drew := (Below.refl _ _).drew
    have hFar0 : Far o0 (mine n) a m := by
      intro hm ad e hs
      obtain ⟨b', o1, e', hc⟩ := hA.1.2 0 (by have := hA.2.1; omega)
      have hz := hF hm ad e
      rw [e] at e'
      cases e'
      rw [he0 _ (World.block_lt_of_cell? w ⟨b', o1 + 0, none⟩ hc)] at hs
      have h2 : (o b').n = n := hs
      have h3 : (o b').n = 0 := hz
      omega
    have hAW := hA.below hBW
    have hAs := (hcs.arg hAW hFar0).below hbd
    refine (take_any n b k o0 P { N with nw := now } tr s t l q N.id 1 now st a m cap L _ hn hNd hi ht hG hR hAs hno hf (fun hm ad e => by
      have := hFar0 hm ad e
      obtain ⟨b', o1, e', hc⟩ := hA.1.2 0 (by have := hA.2.1; omega)
      have hz := hF hm ad e
      rw [e] at e'
      cases e'
      rw [he0 _ (World.block_lt_of_cell? w ⟨b', o1 + 0, none⟩ hc)]
      exact hz) nw0 hsb hls hl).mono ?_
    rintro e w' ⟨rfl, o', P', q1, q2, q3⟩
    have hc1 : Chg o0 (mine n) W (W.setCell ⟨b, 0, none⟩ (.int .i64 now)).drew := hcs.trans' (Chg.of_below hbd _ _)
    have hc2 := hc1.trans' q3
    have hbw' : w'.heap[w.heap.size]? = some (.cells #[.int .i64 s, .int .i64 t, .int .i64 l, .int .i64 q, .bool st, .slice a m cap] 38 (0, 0)) := lets_body hn hc2 (hbW.trans hbx) hob
    have hid : w'.cell? ⟨b, 1, none⟩ = some (.int .i64 N.id) := by
      have := q1.cells.2.1
      rw [this]
      unfold Nd.tookG
      split <;> rfl
    refine ⟨rfl, ⟨?_, ?_, ?_, ?_, ?_, ?_, hid⟩, hidden ⟨o', P', q1, ?_, ?_⟩⟩
    any_goals (simp [World.cell?, hbw']; done)
    · intro j hj
      have hsz : (W.setCell ⟨b, 0, none⟩ (.int .i64 now)).drew.heap.size = W.heap.size := by simp [World.setCell, World.drew]
      have hsw := hBW.size
      rw [q2 j (by omega)]
      exact he0 j hj
    · exact (Chg.of_below hBW _ _).trans hc2 he0
  have HN := hidden hN
  have HB0 := hidden hB0
  have HW := hidden hW0
  have HBX := hidden hbx
  have c0 := (hN.below hB0).cells.1
  have HTr := hidden ht
  obtain ⟨nw, hnw⟩ : ∃ nw, N.nw = nw := ⟨_, rfl⟩
  rw [hnw] at c0 CA
  obtain ⟨R, hRes⟩ : ∃ R, ({ N with nw := now } : Nd).tookG k tr ⟨s, t, l, q, st, L, .slice a m cap⟩ N.id 1 now = R := ⟨_, rfl⟩
  rw [hRes] at HT
  rw [hRes]
  obtain ⟨id, hid⟩ : ∃ id, N.id = id := ⟨_, rfl⟩
  rw [hid] at HT
  have HID := hidden hid
  obtain ⟨pp, hpp⟩ : ∃ pp, (P.tp k).p = pp := ⟨_, rfl⟩
  rw [hpp] at HT
  have HPP := hidden hpp
  have HPA := hidden hpa
  clear hN hnow hG hR hA hno hf hF hsb hls hl hB0 hW0 hbx ho0 he0 hob hnw hRes hid hpp hpa ht
  go_enter Tryz.func45, Tryz.ntmps45
  go_upto_region 1 with fail
  rw [HW.out]
  go_wp2_with fail
  refine CA.out.mono ?_
  rintro e w1 ⟨rfl, hb1⟩
  rw [show Gaps.errv 0 = Value.nilIface from rfl]
  obtain ⟨W1, hW1⟩ : ∃ W1, w1.alloc (.cells #[.int .i64 now] 89) = W1 := ⟨_, rfl⟩
  have hB1 : Below w.heap.size w W1 := by rw [← hW1]; exact (HB0.out.trans (hb1.mono HB0.out.size)).alloc (by have := HB0.out.size; have := hb1.size; omega) _
  have hbk : W1.heap[w.heap.size]? = W0.heap[w.heap.size]? := by
    rw [← hW1]
    exact (Below.heap_alloc _ _ _ (by have := lt_of_block HBX.out; have := hb1.size; omega)).trans (hb1.block _ (lt_of_block HBX.out))
  have hck : W1.cell? ⟨w1.heap.size, 0, none⟩ = some (.int .i64 now) := by rw [← hW1]; simp
  have HW1 := hidden hW1
  have HB1 := hidden hB1
  have HBK := hidden hbk
  have hN1 := HN.out.below hB1
  have ct := hN1.track hi
  have bx := (hN1.trs k hi tr HTr.out).1.box
  rw [HTr.out] at ct
  simp only [tpv] at ct
  rw [HPP.out] at ct bx
  have cp : W1.cell? ⟨pp, 2, none⟩ = some (.int .i64 (-1)) := by rw [← HPA.out]; simp [World.cell?, bx]
  have hbx1 := hbk.trans HBX.out
  have x0 : W1.cell? ⟨w.heap.size, 0, none⟩ = some (.int .i64 s) := by simp [World.cell?, hbx1]
  have x1 : W1.cell? ⟨w.heap.size, 1, none⟩ = some (.int .i64 t) := by simp [World.cell?, hbx1]
  have x2 : W1.cell? ⟨w.heap.size, 2, none⟩ = some (.int .i64 l) := by simp [World.cell?, hbx1]
  have x3 : W1.cell? ⟨w.heap.size, 3, none⟩ = some (.int .i64 q) := by simp [World.cell?, hbx1]
  have x4 : W1.cell? ⟨w.heap.size, 4, none⟩ = some (.bool st) := by simp [World.cell?, hbx1]
  have x5 : W1.cell? ⟨w.heap.size, 5, none⟩ = some (.slice a m cap) := by simp [World.cell?, hbx1]
  obtain ⟨cb, hcb⟩ : ∃ cb, w1.heap.size = cb := ⟨_, rfl⟩
  rw [hcb] at hck
  have HCB := hidden hcb
  clear hb1 hW1 hB1 hbk c0 CA hN1 bx hbx1
  go_upto_region 4 with fail
  first | rw [HW1.out] | skip
  clear hcb
  go_wp2_with fail
  refine (CT.out _).mono ?_
  rintro e w2 ⟨rfl, rfl⟩
  go_wp2_with fail
  refine (CC.out _).mono ?_
  rintro e w2 ⟨rfl, hb2⟩
  rw [show Pack.errv 0 = Value.nilIface from rfl]
  have hB2 := HB1.out.trans (hb2.mono HB1.out.size)
  have hbk2 : w2.heap[w.heap.size]? = W0.heap[w.heap.size]? := (hb2.block _ (lt_of_block (HBK.out.trans HBX.out))).trans HBK.out
  have hck2 := ext_cell hb2 hck
  have hN2 := HN.out.below hB2
  have c02 := hN2.cells.1
  have f02 := hN2.free 0
  have CTk := hidden (HT.out w2 hB2 hbk2)
  have hN3 := hN2.setN hn now
  have hbx3 : (w2.setCell ⟨b, 0, none⟩ (.int .i64 now)).heap[w.heap.size]? = some (.cells #[.int .i64 s, .int .i64 t, .int .i64 l, .int .i64 q, .bool st, .slice a m cap] 38 (0, 0)) := by
    rw [Below.heap_setCell _ _ _ _ (by have := HN.out.lt; simp; omega)]
    exact hbk2.trans HBX.out
  obtain ⟨w3, hw3⟩ : ∃ w3, w2.setCell ⟨b, 0, none⟩ (.int .i64 now) = w3 := ⟨_, rfl⟩
  rw [hw3] at CTk hN3 hbx3
  have hS0 : w3.drew.cell? ⟨w.heap.size, 0, none⟩ = some (.int .i64 s) ∧ w3.drew.cell? ⟨w.heap.size, 1, none⟩ = some (.int .i64 t) ∧ w3.drew.cell? ⟨w.heap.size, 2, none⟩ = some (.int .i64 l) ∧ w3.drew.cell? ⟨w.heap.size, 3, none⟩ = some (.int .i64 q) ∧ w3.drew.cell? ⟨w.heap.size, 4, none⟩ = some (.bool st) ∧ w3.drew.cell? ⟨w.heap.size, 5, none⟩ = some (.slice a m cap) ∧ w3.drew.cell? ⟨b, 1, none⟩ = some (.int .i64 id) := by
    refine ⟨?_, ?_, ?_, ?_, ?_, ?_, ?_⟩
    any_goals (show w3.cell? _ = _; simp [World.cell?, hbx3]; done)
    · show w3.cell? _ = _
      have := hN3.cells.2.1
      rw [this]
      show some (Value.int .i64 N.id) = _
      rw [HID.out]
  have HW3 := hidden hw3
  clear hb2 hB2 hbk2 hN2 hN3 hbx3 hw3 HT hck ct cp x0 x1 x2 x3 x4 x5 CC CT
  go_upto_region 15 with fail
  rw [HW3.out]
  go_region_held3 (fun w' => w'.cell? ⟨w.heap.size, 0, none⟩ = some (.int .i64 s) ∧ w'.cell? ⟨w.heap.size, 1, none⟩ = some (.int .i64 t) ∧ w'.cell? ⟨w.heap.size, 2, none⟩ = some (.int .i64 l) ∧ w'.cell? ⟨w.heap.size, 3, none⟩ = some (.int .i64 q) ∧ w'.cell? ⟨w.heap.size, 4, none⟩ = some (.bool st) ∧ w'.cell? ⟨w.heap.size, 5, none⟩ = some (.slice a m cap) ∧ w'.cell? ⟨b, 1, none⟩ = some (.int .i64 id)) (with_reducible assumption) (first | (go_at_call 92; refine CTk.out.mono ?_; rintro e w4 ⟨rfl, hS4, HD⟩))
  go_wp2_with fail
  go_ret
  exact ⟨rfl, HD.out⟩
set_option maxHeartbeats 1000000 in
set_option maxRecDepth 100000 in
theorem send_badG (n b k : Nat) (o : Nat → Tg) (P : NP) (N : Nd) (tr : Tr) (now s t l q : Int) (st : Bool) (a : Option Addr) (m cap : Nat) (w : World) (hN : NAt w o n b P N) (hi : k < 8) (ht : N.tr k = some tr) (hpa : tr.pa = -1) (hnow : GM.tf N.nw now = 0) (hf : PM.fault s t l q m ≠ 0) :
    Calls Tryz.prog 45 #[.pointer (some ⟨b, 0, none⟩), .int .i64 ((k : Int) + 1), .agg #[.int .i64 s, .int .i64 t, .int .i64 l, .int .i64 q, .bool st, .slice a m cap], .int .i64 now] w fun e w' => e = .returned (errv (PM.fault s t l q m)) ∧ Below w.heap.size w w' := by
  obtain ⟨W0, hW0⟩ : ∃ W0, w.alloc (.cells #[.int .i64 s, .int .i64 t, .int .i64 l, .int .i64 q, .bool st, .slice a m cap] 38) = W0 := ⟨_, rfl⟩
  have hB0 : Below w.heap.size w W0 := by rw [← hW0]; exact (Below.refl _ _).alloc (Nat.le_refl _) _
  have hbx : W0.heap[w.heap.size]? = some (.cells #[.int .i64 s, .int .i64 t, .int .i64 l, .int .i64 q, .bool st, .slice a m cap] 38 (0, 0)) := by rw [← hW0]; exact heap_alloc_new w _
  have CT := hidden (isTrack_calls ((k : Int) + 1))
  rw [show okT ((k : Int) + 1) = true from by simp [okT]; omega] at CT
  have CA := hidden (Gaps.at_calls N.nw now W0)
  rw [if_pos hnow, hnow] at CA
  have CC := hidden (Pack.check_calls s t l q st a m cap)
  obtain ⟨f, hff⟩ : ∃ f, PM.fault s t l q m = f := ⟨_, rfl⟩
  rw [hff] at CC hf ⊢
  have q1 := cmp_ne f
  have q2 := grd_ne f
  have d0 : decide (f = 0) = false := by simpa using hf
  have hk3 : wrap64 ((k : Int) + 1 - 1) = (k : Int) := by unfold wrap64; omega
  have hk5 : wrap64 (k : Int) = (k : Int) := by unfold wrap64; omega
  have hk4 : (k : Int) < 8 := by omega
  have HN := hidden hN
  have HB0 := hidden hB0
  have HW := hidden hW0
  have HBX := hidden hbx
  have c0 := (hN.below hB0).cells.1
  have HTr := hidden ht
  obtain ⟨nw, hnw⟩ : ∃ nw, N.nw = nw := ⟨_, rfl⟩
  rw [hnw] at c0 CA
  obtain ⟨pp, hpp⟩ : ∃ pp, (P.tp k).p = pp := ⟨_, rfl⟩
  have HPP := hidden hpp
  have HPA := hidden hpa
  clear hN hnow hf hB0 hW0 hbx hnw hpp hpa ht hff
  go_enter Tryz.func45, Tryz.ntmps45
  go_upto_region 1 with fail
  rw [HW.out]
  go_wp2_with fail
  refine CA.out.mono ?_
  rintro e w1 ⟨rfl, hb1⟩
  rw [show Gaps.errv 0 = Value.nilIface from rfl]
  obtain ⟨W1, hW1⟩ : ∃ W1, w1.alloc (.cells #[.int .i64 now] 89) = W1 := ⟨_, rfl⟩
  have hB1 : Below w.heap.size w W1 := by rw [← hW1]; exact (HB0.out.trans (hb1.mono HB0.out.size)).alloc (by have := HB0.out.size; have := hb1.size; omega) _
  have hbk : W1.heap[w.heap.size]? = W0.heap[w.heap.size]? := by
    rw [← hW1]
    exact (Below.heap_alloc _ _ _ (by have := lt_of_block HBX.out; have := hb1.size; omega)).trans (hb1.block _ (lt_of_block HBX.out))
  have HW1 := hidden hW1
  have HB1 := hidden hB1
  have hN1 := HN.out.below hB1
  have ct := hN1.track hi
  have bx := (hN1.trs k hi tr HTr.out).1.box
  rw [HTr.out] at ct
  simp only [tpv] at ct
  rw [HPP.out] at ct bx
  have cp : W1.cell? ⟨pp, 2, none⟩ = some (.int .i64 (-1)) := by rw [← HPA.out]; simp [World.cell?, bx]
  have hbx1 := hbk.trans HBX.out
  have x0 : W1.cell? ⟨w.heap.size, 0, none⟩ = some (.int .i64 s) := by simp [World.cell?, hbx1]
  have x1 : W1.cell? ⟨w.heap.size, 1, none⟩ = some (.int .i64 t) := by simp [World.cell?, hbx1]
  have x2 : W1.cell? ⟨w.heap.size, 2, none⟩ = some (.int .i64 l) := by simp [World.cell?, hbx1]
  have x3 : W1.cell? ⟨w.heap.size, 3, none⟩ = some (.int .i64 q) := by simp [World.cell?, hbx1]
  have x4 : W1.cell? ⟨w.heap.size, 4, none⟩ = some (.bool st) := by simp [World.cell?, hbx1]
  have x5 : W1.cell? ⟨w.heap.size, 5, none⟩ = some (.slice a m cap) := by simp [World.cell?, hbx1]
  obtain ⟨cb, hcb⟩ : ∃ cb, w1.heap.size = cb := ⟨_, rfl⟩
  clear hb1 hW1 hB1 hbk c0 CA hN1 bx hbx1
  go_upto_region 4 with fail
  first | rw [HW1.out] | skip
  clear hcb
  go_wp2_with fail
  refine (CT.out _).mono ?_
  rintro e w2 ⟨rfl, rfl⟩
  go_wp2_with fail
  refine (CC.out _).mono ?_
  rintro e w2 ⟨rfl, hb2⟩
  rw [show Pack.errv f = errv f from rfl]
  have HB2 := hidden (HB1.out.trans (hb2.mono HB1.out.size))
  clear hb2
  go_wp2_with fail
  go_ret
  exact ⟨rfl, HB2.out⟩
/-- what is left of it -/
def HeardG (w w' : World) (o : Nat → Tg) (n b : Nat) (N : Nd) (k : Nat) (tr : Tr) (s t l q : Int) (st : Bool) (L : List Nat) (og h now : Int) (f : Nat) : Prop :=
  (f = 0 → ∃ bv, Done w w' o n b (N.tookG k tr ⟨s, t, l, q, st, L, bv⟩ og h now)) ∧ (f ≠ 0 → Below w.heap.size w w')
set_option maxHeartbeats 4000000 in
set_option maxRecDepth 100000 in
theorem hearFrame_any2 (n b k : Nat) (o : Nat → Tg) (P : NP) (N : Nd) (tr : Tr) (fr now og ep h s t l q : Int) (st : Bool) (a : Option Addr) (m cap : Nat) (L : List Nat) (w : World) (hn : n ≠ 0) (hN : NAt w o n b P N) (hi : k < 8) (ht : N.tr k = some tr) (hG : GM.Inv 3 3 tr.gn tr.gT tr.gM) (hR : RM.Inv 64 tr.rT tr.rM) (hA : Arg w a m (fby ((k : Int) + 1) og ep h (pby s t l q st L))) (hc : m ≤ cap) (hff : FM.ffault ((k : Int) + 1) og ep h (pby s t l q st L) = 0) (hf : PM.fault s t l q L.length = 0) (hL : ∀ c ∈ L, c < 256) (nw0 : Int) (hsb : ∀ x ∈ N.sb, SbOk nw0 x.2 ∧ OM.tf x.2.on now = 0) (hls : SInv N.sb N.ls) (hl : N.lt.length + tr.kids.length ≤ 1000000) :
    Calls Tryz.prog 116 #[.pointer (some ⟨b, 0, none⟩), .int .i64 fr, .slice a m cap, .int .i64 now] w fun e w' => e = .returned (errv (hrF tr fr ep)) ∧ HeardG w w' o n b N k tr s t l q st L og (h + 1) now (hrF tr fr ep) := by
  have hpL : ∀ c ∈ pby s t l q st L, c < 256 := by
    obtain ⟨s', t', l', q', rfl, rfl, rfl, rfl, h1, h2, h3, h4, h5⟩ := PM.fault_zero hf
    intro c hcc
    unfold pby at hcc
    simp only [Int.toNat_natCast] at hcc
    rcases List.mem_append.1 hcc with hcc | hcc
    · exact PM.head_lt st h1 h2 h3 h4 c hcc
    · exact hL c hcc
  have CF := hidden (fread_back ((k : Int) + 1) og ep h a m cap _ w hA hc hpL hff)
  have hh : 0 ≤ h ∧ h ≤ 64 := by obtain ⟨_, _, _, p', _, _, _, rfl, _, _, _, _, h5, _⟩ := FM.ffault_zero hff; omega
  obtain ⟨o0, ho0⟩ : ∃ o0, grow o w nobody = o0 := ⟨_, rfl⟩
  have he0 : Ext w o o0 := by rw [← ho0]; exact grow_ext o w nobody
  have hnew : ∀ j, w.heap.size ≤ j → (o0 j).n = 0 := fun j hj => by rw [← ho0, grow_new hj]
  have HT : Hid (∀ W a2 c2, Below w.heap.size w W → Arg W a2 L.length L → (a2 = none → L.length = 0 ∧ c2 = 0) → (∀ ad, a2 = some ad → w.heap.size ≤ ad.block) → Calls Tryz.prog 92 #[.pointer (some ⟨b, 0, none⟩), .pointer (some ⟨(P.tp k).p, 0, none⟩), .agg #[.int .i64 s, .int .i64 t, .int .i64 l, .int .i64 q, .bool st, .slice a2 L.length c2], .agg #[.int .i64 og, .int .i64 (h + 1)], .int .i64 now] W fun e w' => e = .returned (.tuple #[]) ∧ Hid (HeardG w w' o n b N k tr s t l q st L og (h + 1) now 0)) := by
    refine hidden ?_
    intro W a2 c2 hBW hAW hno2 hfr2
    have hNW : NAt W o0 n b P N := hN.chg (S := fun _ => False) (Chg.of_below hBW _ _) (fun g hg => hg.elim) he0
    refine (take_any n b k o0 P N tr s t l q og (h + 1) now st a2 L.length c2 L W hn hNW hi ht hG hR hAW hno2 hf (fun hm ad e => hnew _ (hfr2 ad e)) nw0 hsb hls hl).mono ?_
    rintro e w' ⟨rfl, o', P', q1, q2, q3⟩
    refine ⟨rfl, hidden ⟨fun _ => ⟨_, o', P', q1, fun j hj => ?_, (Chg.of_below hBW _ _).trans q3 he0⟩, fun hx => absurd rfl hx⟩⟩
    rw [q2 j (by have := hBW.size; omega)]
    exact he0 j hj
  have CP := hidden (fun W a1 m1 c1 (h1 : Arg W a1 m1 (pby s t l q st L)) (h2 : m1 ≤ c1) => pread_back s t l q st a1 m1 c1 L W h1 h2 hf)
  have hk3 : wrap64 ((k : Int) + 1 - 1) = (k : Int) := by unfold wrap64; omega
  have hk5 : wrap64 (k : Int) = (k : Int) := by unfold wrap64; omega
  have hk4 : (k : Int) < 8 := by omega
  have hw1 : wrap64 (h + 1) = h + 1 := by unfold wrap64; omega
  have HN := hidden hN
  have HTr := hidden ht
  obtain ⟨pp, hpp⟩ : ∃ pp, (P.tp k).p = pp := ⟨_, rfl⟩
  rw [hpp] at HT
  have HPP := hidden hpp
  obtain ⟨B, hB⟩ : ∃ B, pby s t l q st L = B := ⟨_, rfl⟩
  rw [hB] at CF CP
  obtain ⟨fl, hfl⟩ : ∃ fl, hrF tr fr ep = fl := ⟨_, rfl⟩
  rw [hfl]
  unfold hrF at hfl
  have HFL := hidden hfl
  obtain ⟨pa, hpa⟩ : ∃ pa, tr.pa = pa := ⟨_, rfl⟩
  obtain ⟨te, hte⟩ : ∃ te, tr.ep = te := ⟨_, rfl⟩
  rw [hpa, hte] at HFL
  have HPE := hidden (And.intro hpa hte)
  obtain ⟨ll, hll⟩ : ∃ ll, L.length = ll := ⟨_, rfl⟩
  rw [hll] at CP HT
  clear hN ht hG hR hA hff hf hsb hls hl hpL ho0 he0 hnew hpp hB hfl hpa hte hll hL
  go_enter Tryz.func116, Tryz.ntmps116
  go_wp2_with fail
  refine CF.out.mono ?_
  rintro e w1 ⟨a1, m1, c1, rfl, hb1, hA1, hm1, hf1⟩
  obtain ⟨W1, hW1⟩ : ∃ W1, w1.alloc (.cells #[.int .i64 ((k : Int) + 1), .int .i64 og, .int .i64 ep, .int .i64 h, .slice a1 m1 c1] 238) = W1 := ⟨_, rfl⟩
  have hB1 : Below w1.heap.size w1 W1 := by rw [← hW1]; exact (Below.refl _ _).alloc (Nat.le_refl _) _
  have hbf : W1.heap[w1.heap.size]? = some (.cells #[.int .i64 ((k : Int) + 1), .int .i64 og, .int .i64 ep, .int .i64 h, .slice a1 m1 c1] 238 (0, 0)) := by rw [← hW1]; exact heap_alloc_new w1 _
  have CP1 := hidden (CP.out W1 a1 m1 c1 (hA1.below hB1) hm1)
  have c4 : W1.cell? ⟨w1.heap.size, 4, none⟩ = some (.slice a1 m1 c1) := by simp [World.cell?, hbf]
  obtain ⟨fb, hfb⟩ : ∃ fb, w1.heap.size = fb := ⟨_, rfl⟩
  rw [hfb] at hbf c4
  have HBF := hidden hbf
  have HB1 := hidden (hb1.trans (hB1.mono hb1.size))
  have HW1 := hidden hW1
  clear hb1 hA1 hm1 hf1 hW1 hB1 hbf CP CF
  go_upto_region 4 with fail
  first | rw [HW1.out] | skip
  clear hfb
  go_wp2_with fail
  refine CP1.out.mono ?_
  rintro e w2 ⟨a2, c2, rfl, hb2, hA2, hno2, hf2⟩
  obtain ⟨W2, hW2⟩ : ∃ W2, w2.alloc (.cells #[.int .i64 s, .int .i64 t, .int .i64 l, .int .i64 q, .bool st, .slice a2 ll c2] 38) = W2 := ⟨_, rfl⟩
  have hB2 : Below w2.heap.size w2 W2 := by rw [← hW2]; exact (Below.refl _ _).alloc (Nat.le_refl _) _
  have hbp : W2.heap[w2.heap.size]? = some (.cells #[.int .i64 s, .int .i64 t, .int .i64 l, .int .i64 q, .bool st, .slice a2 ll c2] 38 (0, 0)) := by rw [← hW2]; exact heap_alloc_new w2 _
  have hbf2 : W2.heap[fb]? = some (.cells #[.int .i64 ((k : Int) + 1), .int .i64 og, .int .i64 ep, .int .i64 h, .slice a1 m1 c1] 238 (0, 0)) := (hB2.block _ (by have := lt_of_block HBF.out; have := hb2.size; omega)).trans ((hb2.block _ (lt_of_block HBF.out)).trans HBF.out)
  have hBt : Below w.heap.size w W2 := (HB1.out.trans (hb2.mono HB1.out.size)).trans (hB2.mono (by have := HB1.out.size; have := hb2.size; omega))
  obtain ⟨pb, hpb⟩ : ∃ pb, w2.heap.size = pb := ⟨_, rfl⟩
  rw [hpb] at hbp
  have hN2 := HN.out.below hBt
  have ct := hN2.track hi
  have bx := (hN2.trs k hi tr HTr.out).1.box
  rw [HTr.out] at ct
  simp only [tpv] at ct
  rw [HPP.out] at ct bx
  have p1 : W2.cell? ⟨pp, 1, none⟩ = some (.int .i64 te) := by rw [← HPE.out.2]; simp [World.cell?, bx]
  have p2 : W2.cell? ⟨pp, 2, none⟩ = some (.int .i64 pa) := by rw [← HPE.out.1]; simp [World.cell?, bx]
  have f0 : W2.cell? ⟨fb, 0, none⟩ = some (.int .i64 ((k : Int) + 1)) := by simp [World.cell?, hbf2]
  have f1 : W2.cell? ⟨fb, 1, none⟩ = some (.int .i64 og) := by simp [World.cell?, hbf2]
  have f2 : W2.cell? ⟨fb, 2, none⟩ = some (.int .i64 ep) := by simp [World.cell?, hbf2]
  have f3 : W2.cell? ⟨fb, 3, none⟩ = some (.int .i64 h) := by simp [World.cell?, hbf2]
  have x0 : W2.cell? ⟨pb, 0, none⟩ = some (.int .i64 s) := by simp [World.cell?, hbp]
  have x1 : W2.cell? ⟨pb, 1, none⟩ = some (.int .i64 t) := by simp [World.cell?, hbp]
  have x2 : W2.cell? ⟨pb, 2, none⟩ = some (.int .i64 l) := by simp [World.cell?, hbp]
  have x3 : W2.cell? ⟨pb, 3, none⟩ = some (.int .i64 q) := by simp [World.cell?, hbp]
  have x4 : W2.cell? ⟨pb, 4, none⟩ = some (.bool st) := by simp [World.cell?, hbp]
  have x5 : W2.cell? ⟨pb, 5, none⟩ = some (.slice a2 ll c2) := by simp [World.cell?, hbp]
  have CTk := hidden (fun j => HT.out (W2.drewN j) a2 c2 (below_drewN' hBt) (((hA2.below hB2)).below (below_drewN' (Below.refl _ _))) hno2 (fun ad e => by have := hf2 ad e; have := HB1.out.size; omega))
  have HBt := hidden hBt
  have HW2 := hidden hW2
  clear hb2 hA2 hno2 hf2 hW2 hB2 hbp hbf2 hBt hN2 bx c4 CP1 HT
  go_upto_region 7 with fail
  first | rw [HW2.out] | skip
  clear hpb
  go_quiet (fail)
  by_cases c1 : pa = -1
  · have e1 : (pa == -1) = true := by simpa using c1
    have hfl : fl = 6 := by rw [← HFL.out, if_pos (by exact .inl c1)]
    subst hfl
    clear c1
    go_wp2_with fail
    go_quiet (fail)
    go_wp2_with fail
    go_ret
    exact ⟨rfl, fun hx => absurd hx (by omega), fun _ => below_drewN' HBt.out⟩
  have e1 : (pa == -1) = false := by simpa using c1
  by_cases c2 : fr ≠ pa
  · have e2 : (fr != pa) = true := by simpa using c2
    have hfl : fl = 6 := by rw [← HFL.out, if_pos (by exact .inr (.inl c2))]
    subst hfl
    clear c2 c1
    go_wp2_with fail
    go_quiet (fail)
    go_wp2_with fail
    go_ret
    exact ⟨rfl, fun hx => absurd hx (by omega), fun _ => below_drewN' HBt.out⟩
  have c2' : fr = pa := by omega
  have e2 : (fr != pa) = false := by simpa using c2'
  by_cases c3 : ep ≠ te
  · have e3 : (ep != te) = true := by simpa using c3
    have hfl : fl = 6 := by rw [← HFL.out, if_pos (by exact .inr (.inr c3))]
    subst hfl
    clear c3 c2 c2' c1
    go_wp2_with fail
    go_quiet (fail)
    go_wp2_with fail
    go_ret
    exact ⟨rfl, fun hx => absurd hx (by omega), fun _ => below_drewN' HBt.out⟩
  have c3' : ep = te := by omega
  have e3 : (ep != te) = false := by simpa using c3'
  have hfl : fl = 0 := by rw [← HFL.out, if_neg (by omega)]
  subst hfl
  clear c1 c2 c2' c3 c3'
  go_wp2_with fail
  go_quiet (fail)
  go_wp2_with fail
  refine (CTk.out _).mono ?_
  rintro e w4 ⟨rfl, HD⟩
  go_wp2_with fail
  go_ret
  exact ⟨rfl, HD.out⟩
def HeardNG (w w' : World) (o : Nat → Tg) (n b : Nat) (N : Nd) (k : Nat) (tr : Tr) (s t l q : Int) (st : Bool) (L : List Nat) (og h now : Int) (f : Nat) : Prop :=
  (f = 0 → ∃ bv, Done w w' o n b { N.tookG k tr ⟨s, t, l, q, st, L, bv⟩ og h now with nw := now }) ∧ (f ≠ 0 → Below w.heap.size w w')
set_option maxHeartbeats 4000000 in
set_option maxRecDepth 100000 in
theorem hear_frameG (n b k : Nat) (o : Nat → Tg) (P : NP) (N : Nd) (tr : Tr) (fr now og ep h s t l q : Int) (st : Bool) (a : Option Addr) (m cap : Nat) (L : List Nat) (w : World) (hn : n ≠ 0) (hN : NAt w o n b P N) (hi : k < 8) (ht : N.tr k = some tr) (hnow : GM.tf N.nw now = 0) (hG : GM.Inv 3 3 tr.gn tr.gT tr.gM) (hR : RM.Inv 64 tr.rT tr.rM) (hA : Arg w a m (fby ((k : Int) + 1) og ep h (pby s t l q st L))) (hc : m ≤ cap) (hff : FM.ffault ((k : Int) + 1) og ep h (pby s t l q st L) = 0) (hf : PM.fault s t l q L.length = 0) (hL : ∀ c ∈ L, c < 256) (nw0 : Int) (hsb : ∀ x ∈ N.sb, SbOk nw0 x.2 ∧ OM.tf x.2.on now = 0) (hls : SInv N.sb N.ls) (hl : N.lt.length + tr.kids.length ≤ 1000000) :
    Calls Tryz.prog 89 #[.pointer (some ⟨b, 0, none⟩), .int .i64 fr, .slice a m cap, .int .i64 now] w fun e w' => e = .returned (errv (hrF tr fr ep)) ∧ HeardNG w w' o n b N k tr s t l q st L og (h + 1) now (hrF tr fr ep) := by
  have CA := hidden (Gaps.at_calls N.nw now w)
  rw [if_pos hnow, hnow] at CA
  obtain ⟨R, hR70⟩ := fby_first hff
  have hA' := hA
  rw [hR70] at hA'
  have hm0 : 0 < m := by have := hA'.2.1; simp at this; omega
  obtain ⟨ba, oa, rfl⟩ := Pack.arg_at hA' hm0
  have c70 : w.cell? ⟨ba, oa, none⟩ = some (.int .u8 70) := by
    have := Pack.arg_cell hA' 0 hm0
    simpa using this
  obtain ⟨o0, ho0⟩ : ∃ o0, grow o w nobody = o0 := ⟨_, rfl⟩
  have he0 : Ext w o o0 := by rw [← ho0]; exact grow_ext o w nobody
  have hnew : ∀ j, w.heap.size ≤ j → (o0 j).n = 0 := fun j hj => by rw [← ho0, grow_new hj]
  have HH : Hid (∀ W, Below w.heap.size w W → Calls Tryz.prog 116 #[.pointer (some ⟨b, 0, none⟩), .int .i64 fr, .slice (some ⟨ba, oa, none⟩) m cap, .int .i64 now] W fun e w' => e = .returned (errv (hrF tr fr ep)) ∧ HeardG W w' o0 n b N k tr s t l q st L og (h + 1) now (hrF tr fr ep)) := by
    refine hidden ?_
    intro W hBW
    have hNW : NAt W o0 n b P N := hN.chg (S := fun _ => False) (Chg.of_below hBW _ _) (fun g hg => hg.elim) he0
    exact hearFrame_any2 n b k o0 P N tr fr now og ep h s t l q st (some ⟨ba, oa, none⟩) m cap L W hn hNW hi ht hG hR (hA.below hBW) hc hff hf hL nw0 hsb hls hl
  have c0 := hN.cells.1
  obtain ⟨nw, hnw⟩ : ∃ nw, N.nw = nw := ⟨_, rfl⟩
  rw [hnw] at c0 CA
  obtain ⟨fl, hfl⟩ : ∃ fl, hrF tr fr ep = fl := ⟨_, rfl⟩
  rw [hfl] at HH
  rw [hfl]
  have q1 := cmp_ne fl
  have q2 := grd_ne fl
  have HN := hidden hN
  have HE0 := hidden he0
  have HNew := hidden hnew
  have hmz : (0 : Int) < (m : Int) := by omega
  have hmd : decide ((0 : Int) < (m : Int)) = true := by simpa using hm0
  have hmd2 : decide (0 < m) = true := by simpa using hm0
  have H70 := hidden c70
  clear hN ht hnow hG hR hA hA' hff hf hL hsb hls hl ho0 he0 hnew hnw hfl hR70 hc c70
  go_enter Tryz.func89, Tryz.ntmps89
  go_wp2_with fail
  refine CA.out.mono ?_
  rintro e w1 ⟨rfl, hb1⟩
  rw [show Gaps.errv 0 = Value.nilIface from rfl]
  obtain ⟨W1, hW1⟩ : ∃ W1, w1.alloc (.cells #[.int .i64 now] 89) = W1 := ⟨_, rfl⟩
  have hB1 : Below w.heap.size w W1 := by rw [← hW1]; exact hb1.alloc hb1.size _
  have hbk : W1.heap[w1.heap.size]? = some (.cells #[.int .i64 now] 89 (0, 0)) := by rw [← hW1]; exact heap_alloc_new w1 _
  have c70 := ext_cell hB1 H70.out
  have CH := hidden (HH.out W1 hB1)
  obtain ⟨cb, hcb⟩ : ∃ cb, w1.heap.size = cb := ⟨_, rfl⟩
  rw [hcb] at hbk
  have hcbn := HNew.out cb (by rw [← hcb]; exact hb1.size)
  have HCN := hidden hcbn
  have HBK := hidden hbk
  have HB1 := hidden hB1
  have HW1 := hidden hW1
  clear hb1 hW1 hB1 hbk hcbn CA HH c0
  go_upto_region 4 with fail
  first | rw [HW1.out] | skip
  clear hcb
  go_wp2_with fail
  refine CH.out.mono ?_
  rintro e w2 ⟨rfl, hH⟩
  by_cases hf0 : fl = 0
  · obtain ⟨bv, o2, P2, r1, r2, r3⟩ := hH.1 hf0
    have d0 : decide (fl = 0) = true := by simpa using hf0
    have hcell : w2.heap[cb]? = some (.cells #[.int .i64 now] 89 (0, 0)) := lets_body hn r3 HBK.out HCN.out
    have ck : w2.cell? ⟨cb, 0, none⟩ = some (.int .i64 now) := by simp [World.cell?, hcell]
    have cc := r1.cells.1
    have ff := r1.free 0
    have hfin := r1.setN hn now
    have hcf := chg_mine (r1.chgB 0 (.int .i64 now))
    have HD : Hid (HeardNG w (w2.setCell ⟨b, 0, none⟩ (.int .i64 now)) o n b N k tr s t l q st L og (h + 1) now fl) := by
      refine hidden ⟨fun _ => ⟨bv, o2, P2, hfin, fun j hj => ?_, ?_⟩, fun hx => absurd hf0 hx⟩
      · rw [r2 j (by have := HB1.out.size; omega)]
        exact HE0.out j hj
      · exact (Chg.of_below HB1.out o _).trans (r3.trans hcf r2) HE0.out
    have HF0 := hidden hf0
    clear hH r1 r2 r3 hcell hfin hcf hf0
    go_wp2_with fail
    go_ret
    exact ⟨by rw [HF0.out]; rfl, HD.out⟩
  · have hb := hH.2 hf0
    have d0 : decide (fl = 0) = false := by simpa using hf0
    have HD : Hid (HeardNG w w2 o n b N k tr s t l q st L og (h + 1) now fl) := hidden ⟨fun hx => absurd hx hf0, fun _ => HB1.out.trans (hb.mono HB1.out.size)⟩
    clear hH hb hf0
    go_wp2_with fail
    go_ret
    exact ⟨rfl, HD.out⟩
end Go.Proofs.YtpiamlgmadnepaaGreat.ND

