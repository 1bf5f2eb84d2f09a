/-
  The law TopRow's beginning: its first calls, what is sent, and where the start may not be.
-/
import Derived.Test.YtpiamlgmadnepaaGreatTopRC
import Derived.Test.YtpiamlgmadnepaaGreatTopA
import Derived.LoopTactic
import Derived.Deep.CutRange
import Derived.Deep.LoopGhost
import Derived.Deep.AppendLies
namespace Go.Proofs.YtpiamlgmadnepaaGreat.TR
open Go.ChangeShapes Go.WideShapes Go.ChangeAt Go.RowKit Go.Maps Go.Proofs.YtpiamlgmadnepaaGreat.PM Go.Proofs.YtpiamlgmadnepaaGreat.Mem Go.Proofs.YtpiamlgmadnepaaGreat.Pack
set_option linter.unusedVariables false

def st0 : Sv := ⟨0, -1, [], fun _ => false, 0, -1, [], -1, -1, false, 0, 0, 0, 0⟩
def zsB : Array Value := Array.replicate 64 (.bool false)
set_option maxRecDepth 100000 in
theorem zeroB (w : World) : (zeroValue 65).run Tryz.prog w = .ok (.agg zsB) w := by kernel_rfl
theorem arr_new (w : World) : ArrB (w.alloc (.cells zsB 65)) w.heap.size (fun _ => false) := by
  refine ⟨_, heap_alloc_new w _, by simp [zsB], fun j hj => ?_⟩
  simp [zsB, hj]
/-- the law's first calls -/
structure S1 (w W : World) (gb mb : Nat) : Prop where
  bel : Below w.heap.size w W
  g : Gaps.GapsAt W gb mb 2 2 0 (-1) [] (.slice none 0 0) []
  l1 : w.heap.size ≤ gb
  l2 : w.heap.size ≤ mb
structure S2 (w W : World) (gb mb ob om : Nat) : Prop where
  s1 : S1 w W gb mb
  o : Order.OrderAt W ob om 8 0 (-1) []
  l1 : gb < ob ∧ gb < om ∧ mb < ob ∧ mb < om
structure S3 (w W : World) (gb mb ob om yb : Nat) : Prop where
  s2 : S2 w W gb mb ob om
  y : Layer.LayerAt W yb 3 (-1) (-1) false
  l1 : gb < yb ∧ mb < yb ∧ ob < yb ∧ om < yb
structure S4 (w W : World) (gb mb ob om yb ub : Nat) : Prop where
  s3 : S3 w W gb mb ob om yb
  u : Out.OutAt W ub 0 0 0 0 0
  l1 : gb < ub ∧ mb < ub ∧ ob < ub ∧ om < ub ∧ yb < ub
section
variable {w W W' : World} {gb mb ob om yb ub : Nat}
theorem S1.below (h : S1 w W gb mb) (hb : Below W.heap.size W W') : S1 w W' gb mb := ⟨h.bel.trans (hb.mono h.bel.size), h.g.below hb, h.l1, h.l2⟩
theorem S2.below (h : S2 w W gb mb ob om) (hb : Below W.heap.size W W') : S2 w W' gb mb ob om := ⟨h.s1.below hb, h.o.below hb, h.l1⟩
theorem S3.below (h : S3 w W gb mb ob om yb) (hb : Below W.heap.size W W') : S3 w W' gb mb ob om yb := ⟨h.s2.below hb, h.y.below hb, h.l1⟩
theorem S4.below (h : S4 w W gb mb ob om yb ub) (hb : Below W.heap.size W W') : S4 w W' gb mb ob om yb ub := ⟨h.s3.below hb, h.u.below hb, h.l1⟩
theorem s1_calls (hb : Below w.heap.size w W) : Calls Tryz.prog 20 #[.int .i64 2, .int .i64 2] W fun e w' => ∃ gb mb, e = .returned (.tuple #[.pointer (some ⟨gb, 0, none⟩), .nilIface]) ∧ S1 w w' gb mb := by
  refine (Gaps.new_ok 2 2 W (by omega) (by omega) (by omega) (by omega)).mono ?_
  rintro e w' ⟨b, m, rfl, h1, h2, h3, h4⟩
  have := hb.size
  exact ⟨b, m, rfl, hb.trans (h4.mono hb.size), h3, by omega, by omega⟩
theorem S1.next (h : S1 w W gb mb) : Calls Tryz.prog 21 #[.int .i64 8] W fun e w' => ∃ ob om, e = .returned (.tuple #[.pointer (some ⟨ob, 0, none⟩), .nilIface]) ∧ S2 w w' gb mb ob om := by
  refine (Order.new_ok 8 W (by omega) (by omega)).mono ?_
  rintro e w' ⟨b, m, rfl, h1, h2, h3, h4⟩
  have k1 := h.g.lt gb (by simp [Gaps.blks])
  have k2 := h.g.lt mb (by simp [Gaps.blks])
  exact ⟨b, m, rfl, h.below h4, h3, by omega, by omega, by omega, by omega⟩
theorem S2.next (h : S2 w W gb mb ob om) : Calls Tryz.prog 22 #[.int .i64 3] W fun e w' => ∃ yb, e = .returned (.tuple #[.pointer (some ⟨yb, 0, none⟩), .nilIface]) ∧ S3 w w' gb mb ob om yb := by
  refine (Layer.new_ok 3 W (by omega) (by omega)).mono ?_
  rintro e w' ⟨b, rfl, h1, h2, h3⟩
  have k1 := h.s1.g.lt gb (by simp [Gaps.blks])
  have k2 := h.s1.g.lt mb (by simp [Gaps.blks])
  have k3 := h.o.lt
  exact ⟨b, rfl, h.below h3, h2, by omega, by omega, by omega, by omega⟩
theorem S3.next (h : S3 w W gb mb ob om yb) : Calls Tryz.prog 23 #[.int .i64 0, .int .i64 0] W fun e w' => ∃ ub, e = .returned (.tuple #[.pointer (some ⟨ub, 0, none⟩), .nilIface]) ∧ S4 w w' gb mb ob om yb ub := by
  refine (Out.new_ok 0 0 W (by omega) (by omega) (by omega) (by omega)).mono ?_
  rintro e w' ⟨b, rfl, h1, h2, h3⟩
  have k1 := h.s2.s1.g.lt gb (by simp [Gaps.blks])
  have k2 := h.s2.s1.g.lt mb (by simp [Gaps.blks])
  have k3 := h.s2.o.lt
  have k4 := h.y.lt
  exact ⟨b, rfl, h.below h3, h2, by omega, by omega, by omega, by omega, by omega⟩
theorem S4.start (h : S4 w W gb mb ob om yb ub) {L : Int} (h0 : 100 ≤ L) (h1 : L ≤ 2000000000) : TB w (W.alloc (.cells zsB 65)) ⟨gb, mb, ob, om, yb, ub, W.heap.size⟩ L 0 (-1) st0 (.slice none 0 0) (.slice none 0 0) [] [] := by
  have hb : Below W.heap.size W (W.alloc (.cells zsB 65)) := (Below.refl _ _).alloc (Nat.le_refl _) _
  have h' := h.below hb
  have k1 := h.s3.s2.s1.g.lt gb (by simp [Gaps.blks])
  have k2 := h.s3.s2.s1.g.lt mb (by simp [Gaps.blks])
  have k3 := h.s3.s2.o.lt
  have k4 := h.s3.y.lt
  have k5 := h.u.lt
  have n1 := h.s3.s2.s1.g.ne.1
  have n2 := h.s3.s2.o.ne
  obtain ⟨m1, m2, m3, m4⟩ := h.s3.s2.l1
  obtain ⟨p1, p2, p3, p4⟩ := h.s3.l1
  obtain ⟨q1, q2, q3, q4, q5⟩ := h.l1
  have z1 := h.s3.s2.s1.l1
  have z2 := h.s3.s2.s1.l2
  have z3 := h.s3.s2.s1.bel.size
  refine ⟨Audit.RwsF.start h'.s3.s2.s1.bel ?_ ?_, ?_, ⟨h'.s3.s2.s1.g, h'.s3.s2.o, h'.s3.y, h'.u, arr_new W⟩, gi_start, oi_start, li_start, UM.inv_start (S := 0) (T := 0) (by omega) (by omega) (by omega) (by omega), got_start, sent_start, Int.le_refl _, Int.le_refl _, h0, h1, Int.le_refl _, by omega⟩
  · intro b hb
    simp only [Nm.F, List.mem_cons, List.not_mem_nil, or_false] at hb
    omega
  · intro b hb
    simp only [Nm.F, List.mem_cons, List.not_mem_nil, or_false] at hb
    simp only [World.size_alloc]
    omega
  · simp only [Nm.F, List.nodup_cons, List.mem_cons, List.not_mem_nil, or_false, not_or, List.nodup_nil, not_false_eq_true, and_true]
    omega
/-- at the head of a round -/
structure RS (w W : World) (N : Nm) (L : Int) (t : Nat) (tp lk : Int) (s : Sv) (gv sv : Value) (X Y : List AU.Pk) : Prop where
  tb : TB w W N L (t : Int) s.nx s gv sv X Y
  fl : Fl s X.length
  go : s.nx ≠ -1 → 0 < X.length
  p0 : L ≤ tp
  p1 : tp < L + 64
  k0 : 0 ≤ lk
  k1 : lk ≤ 64 * (t : Int)
  kz : s.nx = -1 → lk = 0
/-- behind what came in a round -/
structure AS (w W : World) (N : Nm) (L : Int) (t : Nat) (tp lk : Int) (s : Sv) (gv sv : Value) (X Y : List AU.Pk) : Prop where
  tb : TB w W N L (t : Int) s.nx s gv sv X Y
  fl : Fl s X.length
  p0 : L ≤ tp
  p1 : tp < L + 64
  kz : s.nx = -1 → lk = 0
theorem cell_only {W W' : World} {bs : List Nat} {g o : Nat} {u : Value} (hc : W.cell? ⟨g, o, none⟩ = some u) (ho : Only bs W W') (hg : g ∉ bs) : W'.cell? ⟨g, o, none⟩ = some u := by
  rw [← hc]
  exact NO.cell_same (ho.2.2.2.2 g (World.block_lt_of_cell? W ⟨g, o, none⟩ hc) hg) _
theorem fl0 : Fl st0 0 := ⟨fun h => absurd rfl h, fun h => absurd rfl h, .inl rfl, rfl⟩
end
/-- one more is sent: its Body is laid, then it as a row of one -/
theorem TB.sends {w W W1 : World} {N : Nm} {L t x : Int} {s : Sv} {gv sv : Value} {X Y : List AU.Pk} (h : TB w W N L t x s gv sv X Y) {i : Nat} (hi : i = Y.length) (h64 : i < 64) {g cap : Nat}
    (hown : W1.ownsRow w.heap.size 38 6 (.slice (some ⟨g, 0, none⟩) (i + 1) cap) (i + 1) (Audit.flat Y ++ [.int .i64 ((L + (i : Int)) % 65536), .int .i64 0, .int .i64 0, .int .i64 0, .bool true, .slice (some ⟨W.heap.size, 0, none⟩) 1 1]))
    (hg : ((W.alloc (.cells #[.int .u8 (i : Int)] 5)).alloc (.cells #[.int .i64 ((L + (i : Int)) % 65536), .int .i64 0, .int .i64 0, .int .i64 0, .bool true, .slice (some ⟨W.heap.size, 0, none⟩) 1 1] 38)).grownBy W1 sv.ownBlock) (hl : sv.ownBlock = some g ∨ g = W.heap.size + 1 + 1) (hlt : g < W1.heap.size) :
    TB w W1 N L t x s gv (.slice (some ⟨g, 0, none⟩) (i + 1) cap) X (Y ++ [⟨(L + (i : Int)) % 65536, 0, 0, 0, true, some ⟨W.heap.size, 0, none⟩, 1, 1, [i]⟩]) := by
  subst hi
  have hb : Below W.heap.size W (W.alloc (.cells #[.int .u8 (Y.length : Int)] 5)) := (Below.refl _ _).alloc (Nat.le_refl _) _
  have h1 := h.below hb
  have hc : (W.alloc (.cells #[.int .u8 (Y.length : Int)] 5)).cell? ⟨W.heap.size, 0, none⟩ = some (.int .u8 (Y.length : Int)) := by rw [World.cell?_alloc_mark]; rfl
  have hA : Arg (W.alloc (.cells #[.int .u8 (Y.length : Int)] 5)) (some ⟨W.heap.size, 0, none⟩) 1 [Y.length] := by
    refine ⟨⟨by simp; omega, fun j hj => ⟨W.heap.size, 0, rfl, ?_⟩⟩, rfl, by omega⟩
    obtain rfl : j = 0 := by simp at hj; omega
    exact hc
  have hs : (W.alloc (.cells #[.int .u8 (Y.length : Int)] 5)).heap.size = W.heap.size + 1 := by simp
  refine h1.addY (p := ⟨(L + (Y.length : Int)) % 65536, 0, 0, 0, true, some ⟨W.heap.size, 0, none⟩, 1, 1, [Y.length]⟩) ⟨hA, (fun e => by cases e), fun ad e _ => ?_⟩ hown hg (by rw [hs]; exact hl) hlt (h.sent.add ⟨rfl, rfl, rfl, rfl⟩ rfl rfl rfl)
  cases e
  refine ⟨by rw [hs]; exact Nat.lt_succ_self _, fun hm => ?_⟩
  exact Nat.lt_irrefl _ (h.rws.fpb _ hm).2
set_option maxHeartbeats 4000000 in
set_option maxRecDepth 100000 in
theorem topr_e0 (S : Int) (vl : Value) (w : World) (h0 : S < 0) :
    Calls Tryz.prog 5 #[vl, .int .i64 S] w fun e w' => e = .returned (.bool true) ∧ Below w.heap.size w w' := by
  have HO := hidden (MS.one_calls w)
  have d0 : decide (S < 0) = true := decide_eq_true h0
  go_enter Tryz.func5, Tryz.ntmps5
  go_wp2_with fail
  refine HO.out.mono ?_
  rintro e w1 ⟨rfl, hb⟩
  have HB := hidden hb
  clear hb HO
  go_wp2_with fail
  refine (s1_calls HB.out).mono ?_
  rintro e w2 ⟨gb, mb, rfl, h2⟩
  go_wp2_with fail
  refine h2.next.mono ?_
  rintro e w3 ⟨ob, om, rfl, h3⟩
  go_wp2_with fail
  refine h3.next.mono ?_
  rintro e w4 ⟨yb, rfl, h4⟩
  go_wp2_with fail
  refine h4.next.mono ?_
  rintro e w5 ⟨ub, rfl, h5⟩
  go_wp2_with fail
  go_ret
  exact ⟨rfl, h5.s3.s2.s1.bel⟩
set_option maxHeartbeats 4000000 in
set_option maxRecDepth 100000 in
theorem topr_e1 (S : Int) (vl : Value) (w : World) (h0 : ¬ S < 0) (h1 : 1000000000 < S) :
    Calls Tryz.prog 5 #[vl, .int .i64 S] w fun e w' => e = .returned (.bool true) ∧ Below w.heap.size w w' := by
  have HO := hidden (MS.one_calls w)
  have d0 : decide (S < 0) = false := decide_eq_false h0
  have d1 : decide (1000000000 < S) = true := decide_eq_true h1
  go_enter Tryz.func5, Tryz.ntmps5
  go_wp2_with fail
  refine HO.out.mono ?_
  rintro e w1 ⟨rfl, hb⟩
  have HB := hidden hb
  clear hb HO
  go_wp2_with fail
  refine (s1_calls HB.out).mono ?_
  rintro e w2 ⟨gb, mb, rfl, h2⟩
  go_wp2_with fail
  refine h2.next.mono ?_
  rintro e w3 ⟨ob, om, rfl, h3⟩
  go_wp2_with fail
  refine h3.next.mono ?_
  rintro e w4 ⟨yb, rfl, h4⟩
  go_wp2_with fail
  refine h4.next.mono ?_
  rintro e w5 ⟨ub, rfl, h5⟩
  go_wp2_with fail
  go_ret
  exact ⟨rfl, h5.s3.s2.s1.bel⟩
end Go.Proofs.YtpiamlgmadnepaaGreat.TR

