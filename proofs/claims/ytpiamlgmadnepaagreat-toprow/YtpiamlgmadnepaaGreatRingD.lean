/-
  What Put of package ring returns, and what it leaves in memory. Its condition: the ring keeps packets that a ring may keep.
-/
import Derived.Test.YtpiamlgmadnepaaGreatRingC
namespace Go.Proofs.YtpiamlgmadnepaaGreat.Ring
open Go.ChangeShapes Go.WideShapes Go.ChangeAt Go.RowKit Go.Maps Go.Proofs.YtpiamlgmadnepaaGreat.PM Go.Proofs.YtpiamlgmadnepaaGreat.Mem Go.Proofs.YtpiamlgmadnepaaGreat.Pack Go.Proofs.YtpiamlgmadnepaaGreat.RM
set_option linter.unusedVariables false

theorem cell_ring {w : World} {b mb : Nat} {n T : Int} {M : Its} (h : RingAt w b mb n T M) {g o : Nat} {c : Int} (hc : w.cell? ⟨g, o, none⟩ = some (.int .u8 c)) : g ∉ [b, mb] := by
  obtain ⟨h1, D, h2, _⟩ := h
  obtain ⟨es, cl, h3⟩ := map_block h2
  intro hg
  simp only [List.mem_cons, List.not_mem_nil, or_false] at hg
  rcases hg with rfl | rfl
  · simp only [World.cell?, h1] at hc
    match o, hc with
    | 0, hc => simp at hc
    | 1, hc => simp at hc
    | 2, hc => simp at hc
    | o + 3, hc => simp at hc
  · simp [World.cell?, h3] at hc
/-- bytes that came in stay as they are -/
theorem arg_ring {w W : World} {b mb : Nat} {n T : Int} {M : Its} (h : RingAt w b mb n T M) {a : Option Addr} {m : Nat} {L : List Nat} (hA : Arg w a m L) (ho : Only [b, mb] w W) : Arg W a m L := by
  refine ⟨⟨hA.1.1, fun j hj => ?_⟩, hA.2⟩
  obtain ⟨g, o, e, hc⟩ := hA.1.2 j hj
  refine ⟨g, o, e, ?_⟩
  have hk := cell_ring h hc
  have hlt := World.block_lt_of_cell? w ⟨g, o + j, none⟩ hc
  have := ho.2.2.2.2 g hlt hk
  simp only [World.cell?] at hc ⊢
  rw [this]
  exact hc

theorem put_long (b : Nat) (y s t l q : Int) (st : Bool) (bv : Value) (w : World) (h : y < 0 ∨ 1099511627776 < y) :
    Calls Tryz.prog 159 #[.pointer (some ⟨b, 0, none⟩), .int .i64 y, .agg #[.int .i64 s, .int .i64 t, .int .i64 l, .int .i64 q, .bool st, bv]] w fun e w' => e = .returned (.tuple #[.bool false, errv 1]) ∧ Below w.heap.size w w' := by
  by_cases c : y < 0
  · clear h
    go_enter Tryz.func159, Tryz.ntmps159
    go_wp2_with fail
    go_ret2
    exact ⟨rfl, (Below.refl _ _).alloc (Nat.le_refl _) _⟩
  · have c' : 1099511627776 < y := by omega
    clear h
    go_enter Tryz.func159, Tryz.ntmps159
    go_wp2_with fail
    go_ret2
    exact ⟨rfl, (Below.refl _ _).alloc (Nat.le_refl _) _⟩

set_option maxHeartbeats 1000000 in
set_option maxRecDepth 100000 in
theorem put_bad (b : Nat) (y s t l q : Int) (st : Bool) (a : Option Addr) (m cap : Nat) (w : World) (h0 : 0 ≤ y) (h1 : y ≤ 1099511627776) (hf : fault s t l q m ≠ 0) :
    Calls Tryz.prog 159 #[.pointer (some ⟨b, 0, none⟩), .int .i64 y, .agg #[.int .i64 s, .int .i64 t, .int .i64 l, .int .i64 q, .bool st, .slice a m cap]] w fun e w' => e = .returned (.tuple #[.bool false, errv (fault s t l q m)]) ∧ Below w.heap.size w w' := by
  have HC := hidden (fun w => check_calls s t l q st a m cap w)
  generalize fault s t l q m = f at *
  have hc := cmp_ne f
  have hg := grd_ne f
  have d : decide (f = 0) = false := by simpa using hf
  clear hf
  go_enter Tryz.func159, Tryz.ntmps159
  go_wp2_with fail
  refine (HC.out _).mono ?_
  rintro e w1 ⟨rfl, hb1⟩
  have HB := hidden (below_old hb1)
  clear hb1
  go_wp2_with fail
  go_ret2
  exact ⟨rfl, HB.out⟩

set_option maxHeartbeats 1000000 in
set_option maxRecDepth 100000 in
theorem put_gone (b mb : Nat) (n T y s t l q : Int) (st : Bool) (a : Option Addr) (m cap : Nat) (M : Its) (w : World) (hR : RingAt w b mb n T M) (hI : RM.Inv n T M) (h0 : 0 ≤ y) (h1 : y ≤ 1099511627776) (hf : fault s t l q m = 0) (ho : y ≤ T - n) :
    Calls Tryz.prog 159 #[.pointer (some ⟨b, 0, none⟩), .int .i64 y, .agg #[.int .i64 s, .int .i64 t, .int .i64 l, .int .i64 q, .bool st, .slice a m cap]] w fun e w' => e = .returned (.tuple #[.bool false, errv 6]) ∧ Below w.heap.size w w' := by
  have C := fun w => check_calls s t l q st a m cap w
  rw [hf, errv_zero] at C
  have HC := hidden C
  have HR := hidden hR
  have ht1 := hI.t1
  have ht2 := hI.t2
  have d : decide (n ≤ T - y) = true := by simp; omega
  clear C hR hI hf ho
  go_enter Tryz.func159, Tryz.ntmps159
  go_wp2_with fail
  refine (HC.out _).mono ?_
  rintro e w1 ⟨rfl, hb1⟩
  have HB := hidden (below_old hb1)
  clear hb1
  obtain ⟨c0, c1, c2⟩ := (HR.out.below HB.out).cells
  go_wp2_with fail
  refine (isGone_calls b n T y _ (by exact c0) (by exact c1) ht1 ht2 h0 h1).mono ?_
  rintro e w2 ⟨rfl, k, rfl⟩
  rw [d]
  go_wp2_with fail
  go_ret2
  exact ⟨rfl, below_drewN HB.out k⟩

set_option maxHeartbeats 1000000 in
set_option maxRecDepth 100000 in
theorem put_has (b mb : Nat) (n T s t l q : Int) (st : Bool) (a : Option Addr) (m cap : Nat) (M : Its) (w : World) (hR : RingAt w b mb n T M) (hI : RM.Inv n T M) (i : Int × Pk) (hi : i ∈ M) (hf : fault s t l q m = 0) :
    Calls Tryz.prog 159 #[.pointer (some ⟨b, 0, none⟩), .int .i64 i.1, .agg #[.int .i64 s, .int .i64 t, .int .i64 l, .int .i64 q, .bool st, .slice a m cap]] w fun e w' => e = .returned (.tuple #[.bool false, .nilIface]) ∧ Below w.heap.size w w' := by
  have C := fun w => check_calls s t l q st a m cap w
  rw [hf, errv_zero] at C
  have HC := hidden C
  have HR := hidden hR
  have ht1 := hI.t1
  have ht2 := hI.t2
  have hm := hI.mem i hi
  have hL := fun W (h : RingAt W b mb n T M) => look_has h hi (wf_of (by omega) (by omega))
  have HL := hidden hL
  have d : decide (n ≤ T - i.1) = false := by simp; omega
  have h1 : i.1 ≤ 1099511627776 := by omega
  have h0 := hm.1
  clear C hR hI hf hL hi hm
  generalize i.2.s = s' at *
  generalize i.2.t = t' at *
  generalize i.2.l = l' at *
  generalize i.2.q = q' at *
  generalize i.2.st = st' at *
  generalize i.2.L = L' at *
  generalize i.1 = y at *
  clear i
  go_enter Tryz.func159, Tryz.ntmps159
  go_wp2_with fail
  refine (HC.out _).mono ?_
  rintro e w1 ⟨rfl, hb1⟩
  have HB := hidden (below_old hb1)
  clear hb1
  obtain ⟨c0, c1, c2⟩ := (HR.out.below HB.out).cells
  go_wp2_with fail
  refine (isGone_calls b n T y _ (by exact c0) (by exact c1) ht1 ht2 h0 h1).mono ?_
  rintro e w2 ⟨rfl, k, hk⟩
  rw [d]
  have HB2 : Hid (Below w.heap.size w w2) := by rw [hk]; exact below_drewN HB.out k
  clear hk HB c0 c1 c2
  obtain ⟨a2, m2, k2, hl, hrest⟩ := HL.out w2 (HR.out.below HB2.out)
  clear hrest
  obtain ⟨c0, c1, c2⟩ := (HR.out.below HB2.out).cells
  go_wp2_with fail
  go_ret2
  exact ⟨rfl, HB2.out.alloc HB2.out.size _⟩

/-- a packet is about to be kept -/
def PSt (w W : World) (b mb pb : Nat) (n T : Int) (M : Its) (a : Option Addr) (m : Nat) (L : List Nat) : Prop :=
  RingAt W b mb n T M ∧ Only [b, mb] w W ∧ Arg W a m L ∧ (∃ cs, W.heap[pb]? = some (.cells cs 38 (0, 0))) ∧ M.length ≤ 64

theorem pst_store {w W : World} {b mb pb : Nat} {n T y : Int} {M : Its} {a : Option Addr} {m : Nat} {L : List Nat} {p : Pk} {a' : Option Addr} {m' c' : Nat} (h : PSt w W b mb pb n T M a m L) (hn : has M y = false) (hy : (Lit.int .i64 y).wf = true) (hL : ∀ x ∈ p.L, x < 256) (hm : m' ≤ 1000)
    (ho : W.ownsRow 0 5 1 (.slice a' m' c') m' (cellsOf p.L)) :
    ∃ w2, (Instr.mapUpdate 268 (.map (some mb)) (.int .i64 y) (.agg #[.int .i64 p.s, .int .i64 p.t, .int .i64 p.l, .int .i64 p.q, .bool p.st, .slice a' m' c'])).run Tryz.prog W = .ok () w2 ∧ RingAt w2 b mb n T (M ++ [(y, p)]) ∧ Only [b, mb] w w2 ∧ Only [mb] W w2 := by
  obtain ⟨hR, ho1, _, _, hlen⟩ := h
  have hne := hR.ne
  have hnb := hR.nob
  obtain ⟨h1, D, hown, hK, hE⟩ := hR
  obtain ⟨w2, hrun, hown2, hturn⟩ := hown.store law3 Tryz.underlying268 (by unfold maxLen; omega) (keyOf3 hy) (pkR_mk p.s p.t p.l p.q p.st a' m' c')
  have hoo : Only [mb] W w2 := (Only.refl _ _).grown hturn.grown (by simp)
  refine ⟨w2, hrun, ⟨hoo.block h1 (by simp; exact hne), _, ?_, keys_put hown.isMap hK (.held (.agg #[.int .i64 p.s, .int .i64 p.t, .int .i64 p.l, .int .i64 p.q, .bool p.st, .slice a' m' c'])) _, ?_⟩, ho1.trans (hoo.mono (by simp)), hoo⟩
  · simpa using hown2
  · refine Elems.only (elems_put hown.isMap hE hn ⟨a', m', c', rfl, ho, hL, hm⟩) hoo (fun k hk => hnb k (by simp at hk; simp [hk]))
end Go.Proofs.YtpiamlgmadnepaaGreat.Ring

