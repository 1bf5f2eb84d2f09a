/-
  What the function Split of package pack returns where nothing is wrong: the parts, in memory of its own. It changes nothing that was there.
-/
import Derived.Test.YtdmajaofjfgccabDoorPackF
namespace Go.Proofs.YtdmajaofjfgccabDoor.Pack
open Go.ChangeShapes Go.WideShapes Go.ChangeAt Go.RowKit Go.Proofs.YtdmajaofjfgccabDoor.PM Go.Proofs.YtdmajaofjfgccabDoor.Mem
set_option linter.unusedVariables false

/-- part i -/
def pt (s : Nat) (t l v : Int) (st : Bool) (L : List Nat) (size i : Nat) : Pk := ⟨(((s + i) % 65536 : Nat) : Int), t, l, v, st && decide (i = 0), piece L size i⟩
/-- N packets lie from an address on -/
def Pks (w : World) (a : Option Addr) (N : Nat) (f : Nat → Pk) : Prop := ∀ i, i < N → ∃ g, a = some ⟨g, 0, none⟩ ∧ PkAt w g (i * 6) (f i)
theorem Pks.below {w w' : World} {a : Option Addr} {N : Nat} {f : Nat → Pk} (h : Pks w a N f) (hb : Below w.heap.size w w') : Pks w' a N f := fun i hi => by
  obtain ⟨g, e, hp⟩ := h i hi
  exact ⟨g, e, hp.below hb⟩
/-- where Split stands: k parts are laid -/
structure Sp (w wr : World) (g N k : Nat) (f : Nat → Pk) (s t l v : Int) (st : Bool) (bv : Value) : Prop where
  below : Below w.heap.size w wr
  lt : w.heap.size < g
  box : Box wr w.heap.size s t l v st bv
  row : ∃ cs : Array Value, cs.size = N * 6 ∧ wr.heap[g]? = some (.cells cs 35 (0, 0))
  laid : ∀ j, j < k → PkAt wr g (j * 6) (f j)
theorem row_cells {w : World} {g N k : Nat} (h : ∃ cs : Array Value, cs.size = N * 6 ∧ w.heap[g]? = some (.cells cs 35 (0, 0))) (hk : k < N) :
    ∃ z0 z1 z2 z3 z4 z5, (w.cell? ⟨g, k * 6, none⟩ = some z0 ∧ w.cell? ⟨g, k * 6 + 1, none⟩ = some z1 ∧ w.cell? ⟨g, k * 6 + 2, none⟩ = some z2 ∧ w.cell? ⟨g, k * 6 + 3, none⟩ = some z3 ∧ w.cell? ⟨g, k * 6 + 4, none⟩ = some z4 ∧ w.cell? ⟨g, k * 6 + 5, none⟩ = some z5) ∧
      w.frozen? ⟨g, k * 6, none⟩ = false ∧ w.frozen? ⟨g, k * 6 + 1, none⟩ = false ∧ w.frozen? ⟨g, k * 6 + 2, none⟩ = false ∧ w.frozen? ⟨g, k * 6 + 3, none⟩ = false ∧ w.frozen? ⟨g, k * 6 + 4, none⟩ = false ∧ w.frozen? ⟨g, k * 6 + 5, none⟩ = false := by
  obtain ⟨cs, hs, hg⟩ := h
  have f : ∀ j, j < cs.size → w.cell? ⟨g, j, none⟩ = some (cs.getD j undef) := fun j hj => by simp [World.cell?, hg, hj]
  have z : ∀ j, w.frozen? ⟨g, j, none⟩ = false := fun j => by simp [World.frozen?, hg]
  exact ⟨_, _, _, _, _, _, ⟨f _ (by omega), f _ (by omega), f _ (by omega), f _ (by omega), f _ (by omega), f _ (by omega)⟩, z _, z _, z _, z _, z _, z _⟩

theorem Sp.next {w wr w' : World} {g N k : Nat} {f : Nat → Pk} {s t l v : Int} {st : Bool} {bv : Value} (h : Sp w wr g N k f s t l v st bv) (hk : k < N) (hb : Below wr.heap.size wr w') {a : Option Addr} {m c : Nat} (hB : Body w' g a m c (f k).body)
    (hf : f k = ⟨(f k).seq, t, l, v, (f k).start, (f k).body⟩) :
    Sp w ((((((w'.setCell ⟨g, k * 6, none⟩ (.int .i64 (f k).seq)).setCell ⟨g, k * 6 + 1, none⟩ (.int .i64 t)).setCell ⟨g, k * 6 + 2, none⟩ (.int .i64 l)).setCell ⟨g, k * 6 + 3, none⟩ (.int .i64 v)).setCell ⟨g, k * 6 + 4, none⟩ (.bool (f k).start)).setCell ⟨g, k * 6 + 5, none⟩ (.slice a m c)) g N (k + 1) f s t l v st bv := by
  obtain ⟨cs, hcs, hg⟩ := h.row
  have hgl : g < wr.heap.size := lt_of_block hg
  have hg' := (hb.block _ hgl).trans hg
  obtain ⟨hp, cs', hcs', hr⟩ := PkAt.put (s := (f k).seq) (t := t) (l := l) (v := v) (st := (f k).start) (o := k * 6) hg' (by omega) hB
  rw [← hf] at hp
  have hne : w.heap.size ≠ g := by have := h.lt; omega
  refine ⟨?_, h.lt, ?_, ⟨cs', hcs'.trans hcs, hr⟩, fun j hj => ?_⟩
  · have h0 := h.below.trans (hb.mono (h.below.size))
    have hw : w.heap.size ≤ g := by have := h.lt; omega
    exact (((((h0.setCell hw _).setCell hw _).setCell hw _).setCell hw _).setCell hw _).setCell hw _
  · have h0 : Box w' w.heap.size s t l v st bv := (hb.block _ h.box.lt).trans h.box
    unfold Box
    rw [Below.heap_setCell _ _ _ _ hne, Below.heap_setCell _ _ _ _ hne, Below.heap_setCell _ _ _ _ hne, Below.heap_setCell _ _ _ _ hne, Below.heap_setCell _ _ _ _ hne, Below.heap_setCell _ _ _ _ hne]
    exact h0
  · by_cases e : j = k
    · subst e; exact hp
    · have h0 := (h.laid j (by omega)).below hb
      exact (((((h0.set _ (by omega)).set _ (by omega)).set _ (by omega)).set _ (by omega)).set _ (by omega)).set _ (by omega)

set_option maxHeartbeats 4000000 in
set_option maxRecDepth 100000 in
theorem split_good (s t l v : Nat) (st : Bool) (a : Option Addr) (n cap : Nat) (L : List Nat) (size : Nat) (w : World) (h : Arg w a n L) (hn : a = none → n = 0 ∧ cap = 0) (hcap : n ≤ cap) (h1 : 1 ≤ size) (h2 : size ≤ 1000) (hf : fault s t l v n = 0) (hc : count n size ≤ 200) :
    Calls Tryd.prog 20 #[.agg #[.int .i64 (s : Int), .int .i64 (t : Int), .int .i64 (l : Int), .int .i64 (v : Int), .bool st, .slice a n cap], .int .i64 (size : Int)] w fun e w' => ∃ g, e = .returned (.tuple #[.slice (some ⟨g, 0, none⟩) (count n size) (count n size), .nilIface]) ∧
      Pks w' (some ⟨g, 0, none⟩) (count n size) (pt s t l v st L size) ∧ Below w.heap.size w w' := by
  have C := fun w => check_calls s t l v st a n cap w
  rw [hf, errv_zero] at C
  have HC := hidden C
  have d : decide ((size : Int) < 1) = false := by simp; omega
  have d2 : decide (1000 < (size : Int)) = false := by simp; omega
  have d3 : ¬ (size : Int) = 0 := by omega
  have hq := quo_eq n size h1
  obtain ⟨_, _, _, _, e1, e2, e3, e4, hs, ht, hl, hv, hb⟩ := fault_zero hf
  have hs : s ≤ 65535 := by omega
  clear e1 e2 e3 e4
  have hcc : count n size = max 1 ((n + size - 1) / size) := rfl
  have hle := count_le h1 hb
  have hN1 := count_pos n size
  have HP : Hid (∀ (W : World) (i : Nat), Below w.heap.size w W → i < count n size → Calls Tryd.prog 34 #[.agg #[.int .i64 (s : Int), .int .i64 (t : Int), .int .i64 (l : Int), .int .i64 (v : Int), .bool st, .slice a n cap], .int .i64 (i : Int), .int .i64 (size : Int)] W fun e w' =>
      ∃ a' m c', e = .returned (.agg #[.int .i64 (pt s t l v st L size i).seq, .int .i64 (t : Int), .int .i64 (l : Int), .int .i64 (v : Int), .bool (pt s t l v st L size i).start, .slice a' m c']) ∧ (∀ g, g < W.heap.size → Body w' g a' m c' (pt s t l v st L size i).body) ∧ Below W.heap.size W w') := fun W i hW hi => by
    have hfr := from_le h1 hi
    refine (part_calls s t l v st a n cap i size (i * size) (min size (n - i * size)) L W (h.below hW) hn hcap hb hs h1 h2 (by omega) rfl hfr rfl).mono ?_
    rintro e w' ⟨a', c', rfl, ho, hb'⟩
    obtain ⟨a2, c2, e2, hA, hN, hC, hB⟩ := own_slice ho (piece_lt h.1.1 size i) (by omega)
    simp only [Value.slice.injEq, true_and] at e2
    obtain ⟨rfl, rfl⟩ := e2
    refine ⟨a', _, c', rfl, fun g hg => ⟨hA, hN, hC, fun b o e _ => ?_⟩, hb'⟩
    obtain ⟨g', e1, e2⟩ := hB _ e
    simp only [Addr.mk.injEq, and_true] at e1
    omega
  have HF : Hid (∀ i, pt s t l v st L size i = ⟨(pt s t l v st L size i).seq, t, l, v, (pt s t l v st L size i).start, (pt s t l v st L size i).body⟩) := fun i => rfl
  generalize (n + size - 1) / size = q at *
  generalize count n size = N at *
  generalize pt s t l v st L size = f at *
  have hw : wrap64 (q : Int) = (q : Int) := by unfold wrap64; omega
  have HCC := hidden hcc
  obtain ⟨i0, hii, hz0, hz1, hz2⟩ := info_parts infoPK
  clear C hf hcc h hn ht hl hv
  go_enter Tryd.func20, Tryd.ntmps20
  go_wp2_with fail
  refine (HC.out _).mono ?_
  rintro e w1 ⟨rfl, hb1⟩
  have HX := hidden ((Box.new w s t l v st (.slice a n cap)).below hb1 (by simp))
  have HB := hidden (below_old hb1)
  have hlt : w.heap.size < w1.heap.size := HX.out.lt
  clear hb1
  obtain ⟨c0, c1, c2, c3, c4, c5⟩ := HX.out.cells
  go_upto_region 6 with fail
  go_cut [7] from 22 (fun x wx => x = .int .i64 (N : Int) ∧ wx = w1)
  case first =>
    go_wp2_with fail
    all_goals go_meet
    all_goals exact ⟨congrArg (Value.int .i64) (by have := HCC.out; omega), rfl⟩
  case rest =>
  obtain ⟨rfl, rfl⟩ := hcut
  clear hq hw d d2 d3
  go_wp2_with (at_make; refine wpList_make_full _ rfl _ _ 45 rfl w.heap.size 35 i0 _ 6 Tryd.underlying45 hii hz0 hz1 _ _ _ _ N rfl rfl rfl rfl ?mb ?mm ?mbase ?mnext)
  case mb => rw [hz2]; omega
  case mm => unfold maxLen; omega
  case mbase => omega
  case mnext =>
  intro w2 hown hgrow
  have HS0 : Hid (Sp w w2 wc.heap.size N 0 f s t l v st (.slice a n cap)) := by
    refine ⟨HB.out.grown hgrow HB.out.size (by simp), hlt, HX.out.grown hgrow (by simp), ?_, fun j hj => absurd hj (Nat.not_lt_zero j)⟩
    rcases hown.2 with ⟨e, _⟩ | ⟨g, cp, cur, e, _, hg, _, _, hcs, _⟩
    · simp at e
    · simp only [Value.slice.injEq, Option.some.injEq, Addr.mk.injEq, and_true, true_and] at e
      obtain ⟨rfl, rfl⟩ := e
      exact ⟨cur, hcs, hg⟩
  clear hown hgrow HX c0 c1 c2 c3 c4 c5
  go_wp2_with fail
  go_loopw [38] (fun i wr => ∃ k : Nat, k ≤ N ∧ i = .int .i64 k ∧ Hid (Sp w wr wc.heap.size N k f s t l v st (.slice a n cap))) (fun i _ => N - (intOf i).toNat)
  case atStart => exact ⟨0, Nat.zero_le _, rfl, HS0⟩
  case round =>
    obtain ⟨k, hk, rfl, HS⟩ := hrel
    by_cases hkN : k < N
    · obtain ⟨c0, c1, c2, c3, c4, c5⟩ := HS.out.box.cells
      go_wp2_with fail
      refine (HP.out wr k HS.out.below hkN).mono ?_
      rintro e w' ⟨a', m, c', rfl, hBo, hb'⟩
      obtain ⟨cs, hcs, hg⟩ := HS.out.row
      have hgl : wc.heap.size < wr.heap.size := lt_of_block hg
      have HR : Hid (∃ cs : Array Value, cs.size = N * 6 ∧ w'.heap[wc.heap.size]? = some (.cells cs 35 (0, 0))) := ⟨cs, hcs, (hb'.block _ hgl).trans hg⟩
      have HBo := hidden (hBo _ hgl)
      have HB' := hidden hb'
      clear hBo hb' hg hcs cs c0 c1 c2 c3 c4 c5
      obtain ⟨z0, z1, z2, z3, z4, z5, ⟨k0, k1, k2, k3, k4, k5⟩, f0, f1, f2, f3, f4, f5⟩ := row_cells HR.out hkN
      have hki : (k : Int) < (N : Int) := by omega
      go_wp2_with fail
      go_roundw
      case rel => exact ⟨k + 1, by omega, by go_num, HS.out.next hkN HB'.out HBo.out (HF.out k)⟩
      case measure => simp [intOf]; omega
    · have ek : k = N := by omega
      subst ek
      go_wp2_with fail
      go_ret2
      exact ⟨_, rfl, fun i hi => ⟨_, rfl, HS.out.laid i hi⟩, HS.out.below⟩
end Go.Proofs.YtdmajaofjfgccabDoor.Pack
