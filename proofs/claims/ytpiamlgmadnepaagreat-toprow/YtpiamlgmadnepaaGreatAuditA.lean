/-
  Rows of packets in memory; what same of package audit returns, and the library's IndexFunc with it. They change nothing that was there.
-/
import Derived.Test.YtpiamlgmadnepaaGreatAuditMath
import Derived.Test.YtpiamlgmadnepaaGreatPackC
import Derived.Deep.CutRange
import Derived.Deep.LoopGhost
import Derived.Outline
import Derived.RegionTactic
import Derived.Laws.BitsLemmas
namespace Go.Proofs.YtpiamlgmadnepaaGreat.Audit
open Go.ChangeShapes Go.WideShapes Go.ChangeAt Go.RowKit Go.Proofs.YtpiamlgmadnepaaGreat.PM Go.Proofs.YtpiamlgmadnepaaGreat.Mem Go.Proofs.YtpiamlgmadnepaaGreat.Pack Go.Proofs.YtpiamlgmadnepaaGreat.AU
set_option linter.unusedVariables false

theorem str_inj {L K : List Nat} (hL : ∀ c ∈ L, c < 256) (hK : ∀ c ∈ K, c < 256) (h : str L = str K) : L = K := by
  have e : (L.map fun c => UInt8.ofNat c) = K.map fun c => UInt8.ofNat c := by
    have := congrArg (fun b : ByteArray => b.data.toList) h
    simpa [str, strOfNums, Function.comp_def] using this
  have back : ∀ M : List Nat, (∀ c ∈ M, c < 256) → (M.map fun c => UInt8.ofNat c).map UInt8.toNat = M := by
    intro M hM
    induction M with
    | nil => rfl
    | cons c M ih =>
      have hc := hM c (by simp)
      simp only [List.map_cons, List.cons.injEq]
      exact ⟨by simp; omega, ih fun x hx => hM x (by simp [hx])⟩
  rw [← back L hL, e, back K hK]
theorem str_eq {L K : List Nat} (hL : ∀ c ∈ L, c < 256) (hK : ∀ c ∈ K, c < 256) : ((str L).toList == (str K).toList) = decide (L = K) := by
  by_cases h : L = K
  · rw [h]; simp
  · rw [decide_eq_false h]
    have : (str L).toList ≠ (str K).toList := fun h' => h (str_inj hL hK (by
      rw [ByteArray.toList_eq, ByteArray.toList_eq] at h'
      exact ByteArray.ext (Array.toList_inj.1 h')))
    simpa using this
theorem str_of {w : World} {a : Option Addr} {n cap : Nat} {L : List Nat} (h : Arg w a n L) : (convert 36 9 (.slice a n cap)).run Tryz.prog w = .ok (.string (str L)) w := by
  cases L with
  | cons c L =>
    obtain ⟨b, o, e, _⟩ := h.1.2 0 (by simp)
    exact conv_arg Tryz.underlying36 Tryz.underlying5 Tryz.underlying9 h (fun ad h => by rw [e] at h; exact ⟨b, o, (Option.some.inj h).symm⟩)
  | nil =>
    have hn : n = 0 := by have := h.2.1; simpa using this.symm
    subst hn
    cases a with
    | none => exact conv_arg Tryz.underlying36 Tryz.underlying5 Tryz.underlying9 h (fun ad h => by simp at h)
    | some ad =>
      rw [run_convert_bytes_string w 36 9 5 _ 0 cap Tryz.underlying36 Tryz.underlying5 Tryz.underlying9]
      have hl : (loadCells ad 0).run Tryz.prog w = .ok #[] w := run_loadCells_list (P := Tryz.prog) w ad [] (fun j v hj => by simp at hj)
      simp [Conv.bytesToString, str, strOfNums, hl]
      rfl
/-- a packet as a value -/
def pv (p : Pk) : Value := .agg #[.int .i64 p.s, .int .i64 p.t, .int .i64 p.l, .int .i64 p.q, .bool p.st, .slice p.a p.m p.c]
/-- a packet lies from an address on -/
def PkAt (w : World) (b o : Nat) (p : Pk) : Prop :=
  w.cell? ⟨b, o, none⟩ = some (.int .i64 p.s) ∧ w.cell? ⟨b, o + 1, none⟩ = some (.int .i64 p.t) ∧ w.cell? ⟨b, o + 2, none⟩ = some (.int .i64 p.l) ∧ w.cell? ⟨b, o + 3, none⟩ = some (.int .i64 p.q) ∧ w.cell? ⟨b, o + 4, none⟩ = some (.bool p.st) ∧ w.cell? ⟨b, o + 5, none⟩ = some (.slice p.a p.m p.c)
/-- its Body is there -/
def PkOk (w : World) (p : Pk) : Prop := Arg w p.a p.m p.L
theorem PkAt.below {w w' : World} {b o : Nat} {p : Pk} (h : PkAt w b o p) (hb : Below w.heap.size w w') : PkAt w' b o p := by
  obtain ⟨h0, h1, h2, h3, h4, h5⟩ := h
  have k : ∀ j v, w.cell? ⟨b, j, none⟩ = some v → w'.cell? ⟨b, j, none⟩ = some v := fun j v hc => (hb.cell (p := ⟨b, j, none⟩) (World.block_lt_of_cell? w _ hc)).trans hc
  exact ⟨k _ _ h0, k _ _ h1, k _ _ h2, k _ _ h3, k _ _ h4, k _ _ h5⟩
/-- a row of packets -/
def PArg (w : World) (a : Option Addr) (n : Nat) (X : List Pk) : Prop :=
  X.length = n ∧ n ≤ 9223372036854775807 ∧ ∀ j, j < n → ∃ b o, a = some ⟨b, o, none⟩ ∧ PkAt w b (o + j * 6) (X.getD j noPk) ∧ PkOk w (X.getD j noPk)
theorem PArg.below {w w' : World} {a : Option Addr} {n : Nat} {X : List Pk} (h : PArg w a n X) (hb : Below w.heap.size w w') : PArg w' a n X := by
  refine ⟨h.1, h.2.1, fun j hj => ?_⟩
  obtain ⟨b, o, e, h1, h2⟩ := h.2.2 j hj
  exact ⟨b, o, e, h1.below hb, h2.below hb⟩
theorem PArg.at {w : World} {a : Option Addr} {n : Nat} {X : List Pk} (h : PArg w a n X) (hn : 0 < n) : ∃ b o, a = some ⟨b, o, none⟩ ∧ ∀ j, j < n → PkAt w b (o + j * 6) (X.getD j noPk) ∧ PkOk w (X.getD j noPk) := by
  obtain ⟨b, o, rfl, _⟩ := h.2.2 0 hn
  refine ⟨b, o, rfl, fun j hj => ?_⟩
  obtain ⟨b', o', e, h1, h2⟩ := h.2.2 j hj
  simp only [Option.some.injEq, Addr.mk.injEq, and_true] at e
  obtain ⟨rfl, rfl⟩ := e
  exact ⟨h1, h2⟩
theorem PArg.drop {w : World} {b o n : Nat} {X : List Pk} (h : PArg w (some ⟨b, o, none⟩) n X) (k : Nat) (hk : k ≤ n) : PArg w (some ⟨b, o + k * 6, none⟩) (n - k) (X.drop k) := by
  refine ⟨by rw [List.length_drop, h.1], by have := h.2.1; omega, fun j hj => ?_⟩
  obtain ⟨b', o', e, h1, h2⟩ := h.2.2 (k + j) (by omega)
  simp only [Option.some.injEq, Addr.mk.injEq, and_true] at e
  obtain ⟨rfl, rfl⟩ := e
  rw [drop_getD]
  refine ⟨b, _, rfl, ?_, h2⟩
  rw [show o + k * 6 + j * 6 = o + (k + j) * 6 by omega]
  exact h1
theorem PArg.empty (w : World) (a : Option Addr) : PArg w a 0 [] := ⟨rfl, by omega, fun j hj => by omega⟩

theorem infoPK : (Tryz.prog.info? 38).map (fun i => (i.zero, i.size, i.bytes)) = some (some (.agg #[.int .i64 0, .int .i64 0, .int .i64 0, .int .i64 0, .bool false, .slice none 0 0]), 6, 64) := by kernel_rfl
theorem elemPS : Tryz.prog.elem 33 = 38 := by kernel_rfl
theorem sizePK (w : World) : (sizeOf 38).run Tryz.prog w = .ok 6 w := by
  obtain ⟨i, hi, _, hs, _⟩ := info_parts infoPK
  simp [sizeOf, typeInfo, hi, hs]
theorem undPS : Tryz.prog.underlying 33 = some (.slice (Tryz.prog.elem 33)) := by rw [elemPS]; exact Tryz.underlying33
/-- l[k:] -/
theorem cut_low (w0 : World) (a : Option Addr) (n cap k : Nat) (X : List Pk) (h : PArg w0 a n X) (hk : k ≤ n) (hc : n ≤ cap) (hN : a = none → cap = 0) :
    ∃ a' cap', (∀ w : World, (Instr.slice 33 (.slice a n cap) (some (.int .i64 (k : Int))) none none).run Tryz.prog w = .ok (.slice a' (n - k) cap') w) ∧ PArg w0 a' (n - k) (X.drop k) := by
  have hlen := h.1
  by_cases e : cap = k
  · have hkn : n = k := by omega
    subst e
    refine ⟨a, 0, fun w => ?_, ?_⟩
    · rw [run_slice_l w 33 _ n cap undPS .i64 cap (by omega) (by omega), elemPS, sizePK]
      subst hkn
      simp [Result.andThen, sliced]
    · subst hkn
      rw [Nat.sub_self, List.drop_eq_nil_of_le (by omega)]
      exact PArg.empty _ _
  · cases a with
    | none => have := hN rfl; omega
    | some ad =>
      by_cases hn : 0 < n
      · obtain ⟨b, o, e2, _⟩ := h.at hn
        simp only [Option.some.injEq] at e2
        subst e2
        refine ⟨some ⟨b, o + k * 6, none⟩, cap - k, fun w => ?_, h.drop k hk⟩
        rw [run_slice_l w 33 _ n cap undPS .i64 k (by omega) (by omega), elemPS, sizePK]
        have e2 : (⟨b, o, none⟩ : Addr).add (k * 6) = ⟨b, o + k * 6, none⟩ := by rw [add_plain]
        simp [Result.andThen, sliced, e, e2]
      · have h0 : n = 0 := by omega
        have hk0 : k = 0 := by omega
        subst h0 hk0
        have hX : X = [] := List.eq_nil_of_length_eq_zero hlen
        subst hX
        refine ⟨some (ad.add 0), cap, fun w => ?_, PArg.empty _ _⟩
        rw [run_slice_l w 33 _ 0 cap undPS .i64 ((0 : Nat) : Int) (by omega) (by omega), elemPS, sizePK]
        simp [Result.andThen, sliced, e]

theorem equal_calls (a b : Option Addr) (n m cap cap' : Nat) (L K : List Nat) (w : World) (hA : Arg w a n L) (hB : Arg w b m K) :
    Calls Tryz.prog 128 #[.slice a n cap, .slice b m cap'] w fun e w' => e = .returned (.bool (decide (L = K))) ∧ w' = w := by
  have k1 : (convert 36 9 (.slice a n cap)).run Tryz.prog w = .ok (.string (str L)) w := str_of hA
  have k2 : (convert 36 9 (.slice b m cap')).run Tryz.prog w = .ok (.string (str K)) w := str_of hB
  have hs : Hid (((str L).toList == (str K).toList) = decide (L = K)) := str_eq hA.1.1 hB.1.1
  clear hA hB
  generalize str L = S1 at *
  generalize str K = S2 at *
  go_enter Tryz.func128, Tryz.ntmps128
  go_wp2_with fail
  go_ret
  exact ⟨by rw [← hs.out]; rfl, rfl⟩

set_option maxHeartbeats 2000000 in
set_option maxRecDepth 100000 in
theorem same_calls (p o : Pk) (w : World) (hp : PkOk w p) (ho : PkOk w o) :
    Calls Tryz.prog 102 #[pv p, pv o] w fun e w' => e = .returned (.bool (like p o)) ∧ Below w.heap.size w w' := by
  obtain ⟨s, t, l, q, st, a, m, c, L⟩ := p
  obtain ⟨s', t', l', q', st', a', m', c', L'⟩ := o
  have hb : ∀ O1 O2, Below w.heap.size w ((w.alloc O1).alloc O2) := fun O1 O2 => ((Below.refl _ _).alloc (Nat.le_refl _) _).alloc (by simp) _
  have HC := hidden (fun O1 O2 => equal_calls a a' m m' c c' L L' ((w.alloc O1).alloc O2) (hp.below (hb O1 O2)) (ho.below (hb O1 O2)))
  have HB := hidden hb
  have HE : Hid (like ⟨s, t, l, q, st, a, m, c, L⟩ ⟨s', t', l', q', st', a', m', c', L'⟩ = (decide (l = l') && (decide (q = q') && (decide (st = st') && decide (L = L'))))) := rfl
  generalize like ⟨s, t, l, q, st, a, m, c, L⟩ ⟨s', t', l', q', st', a', m', c', L'⟩ = R at *
  generalize decide (L = L') = bL at *
  clear hb hp ho
  simp only [pv]
  by_cases h1 : l = l'
  · have d1 : (l == l') = true := by simpa using h1
    by_cases h2 : q = q'
    · have d2 : (q == q') = true := by simpa using h2
      by_cases h3 : st = st'
      · have d3 : (st == st') = true := by simpa using h3
        have HR : Hid (R = bL) := by rw [HE.out]; simp [h1, h2, h3, hidden]
        clear h1 h2 h3 HE
        go_enter Tryz.func102, Tryz.ntmps102
        go_wp2_with fail
        refine (HC.out _ _).mono ?_
        rintro e w2 ⟨rfl, rfl⟩
        go_wp2_with fail
        go_ret
        exact ⟨by rw [HR.out]; rfl, HB.out _ _⟩
      · have d3 : (st == st') = false := by simpa using h3
        have HR : Hid (R = false) := by rw [HE.out]; simp [h3, hidden]
        clear h1 h2 h3 HE HC
        go_enter Tryz.func102, Tryz.ntmps102
        go_wp2_with fail
        go_ret
        exact ⟨by rw [HR.out]; rfl, HB.out _ _⟩
    · have d2 : (q == q') = false := by simpa using h2
      have HR : Hid (R = false) := by rw [HE.out]; simp [h2, hidden]
      clear h1 h2 HE HC
      go_enter Tryz.func102, Tryz.ntmps102
      go_wp2_with fail
      go_ret
      exact ⟨by rw [HR.out]; rfl, HB.out _ _⟩
  · have d1 : (l == l') = false := by simpa using h1
    have HR : Hid (R = false) := by rw [HE.out]; simp [h1, hidden]
    clear h1 HE HC
    go_enter Tryz.func102, Tryz.ntmps102
    go_wp2_with fail
    go_ret
    exact ⟨by rw [HR.out]; rfl, HB.out _ _⟩
/-- a packet in its variable -/
def PBox (w : World) (g : Nat) (p : Pk) : Prop := Box w g p.s p.t p.l p.q p.st (.slice p.a p.m p.c) ∧ PkOk w p
theorem PBox.below {w w' : World} {g : Nat} {p : Pk} (h : PBox w g p) (hb : Below w.heap.size w w') : PBox w' g p := ⟨h.1.below hb h.1.lt, h.2.below hb⟩

set_option maxHeartbeats 1000000 in
set_option maxRecDepth 100000 in
theorem cl_calls (p o : Pk) (B : Nat) (w : World) (hp : PBox w B p) (ho : PkOk w o) :
    Calls Tryz.prog 101 #[pv o, .pointer (some ⟨B, 0, none⟩)] w fun e w' => e = .returned (.bool (like p o)) ∧ Below w.heap.size w w' := by
  have HB : Hid (∀ O, Below w.heap.size w (w.alloc O)) := fun O => (Below.refl _ _).alloc (Nat.le_refl _) _
  have HC : Hid (∀ O, Calls Tryz.prog 102 #[pv p, pv o] (w.alloc O) fun e w' => e = .returned (.bool (like p o)) ∧ Below (w.alloc O).heap.size (w.alloc O) w') := fun O => same_calls p o (w.alloc O) (hp.2.below (HB.out O)) (ho.below (HB.out O))
  generalize like p o = R at *
  obtain ⟨s, t, l, q, st, a, m, c, L⟩ := p
  obtain ⟨s', t', l', q', st', a', m', c', L'⟩ := o
  have hbox := hp.1
  have hlt := hbox.lt
  have hc : ∀ O, (w.alloc O).cell? ⟨B, 0, none⟩ = some (.int .i64 s) ∧ (w.alloc O).cell? ⟨B, 1, none⟩ = some (.int .i64 t) ∧ (w.alloc O).cell? ⟨B, 2, none⟩ = some (.int .i64 l) ∧ (w.alloc O).cell? ⟨B, 3, none⟩ = some (.int .i64 q) ∧ (w.alloc O).cell? ⟨B, 4, none⟩ = some (.bool st) ∧ (w.alloc O).cell? ⟨B, 5, none⟩ = some (.slice a m c) := fun O => (hbox.alloc O).cells
  obtain ⟨c0, c1, c2, c3, c4, c5⟩ := hbox.cells
  simp only [pv] at HC ⊢
  clear hp ho hbox hc
  go_enter Tryz.func101, Tryz.ntmps101
  go_wp2_with fail
  refine (HC.out _).mono ?_
  rintro e w2 ⟨rfl, hb2⟩
  have HB2 := hidden ((HB.out _).trans (hb2.mono (HB.out (.cells #[.int .i64 s', .int .i64 t', .int .i64 l', .int .i64 q', .bool st', .slice a' m' c'] 38)).size))
  clear hb2
  go_wp2_with fail
  go_ret
  exact ⟨rfl, HB2.out⟩

set_option maxHeartbeats 2000000 in
set_option maxRecDepth 100000 in
theorem idx_calls (a : Option Addr) (n cap : Nat) (X : List Pk) (B : Nat) (p : Pk) (w : World) (h : PArg w a n X) (hb : PBox w B p) :
    Calls Tryz.prog 100 #[.slice a n cap, .func (.func 101) #[] #[.pointer (some ⟨B, 0, none⟩)]] w fun r w' => r = .returned (.int .i64 (if fi (like p) X < n then (fi (like p) X : Int) else -1)) ∧ Below w.heap.size w w' := by
  have hl := h.1
  have hn := h.2.1
  have HA := hidden h
  have HX := hidden hb
  clear h hb
  obtain ⟨q, hq⟩ : ∃ q, fi (like p) X = q := ⟨_, rfl⟩
  have HQ : Hid (fi (like p) (X.drop 0) + 0 = q) := by unfold Hid; rw [List.drop_zero]; exact hq
  rw [hq]
  obtain ⟨R, hR⟩ : ∃ R : Int, (if q < n then (q : Int) else -1) = R := ⟨_, rfl⟩
  rw [hR]
  have HR := hidden hR
  clear hq hR
  go_enter Tryz.func100, Tryz.ntmps100
  go_wp2_with fail
  go_loopg [8] n (fun g x wr => ∃ j : Nat, j + g = n ∧ x = .int .i64 (j : Int) ∧ Hid (fi (like p) (X.drop j) + j = q) ∧ Hid (Below w.heap.size w wr))
  case atStart => exact ⟨0, by omega, rfl, HQ, Below.refl _ _⟩
  case round =>
    obtain ⟨j, hjg, rfl, HK, HW⟩ := hrel
    by_cases hj : j < n
    · have hjz : (j : Int) < (n : Int) := by omega
      obtain ⟨b, o, rfl, hcs⟩ := (HA.out.below HW.out).at (by omega)
      obtain ⟨⟨c0, c1, c2, c3, c4, c5⟩, hok⟩ := hcs j hj
      have hk := HK.out
      rw [drop_cons (d := noPk) (by omega), fi] at hk
      obtain ⟨m, hm⟩ : ∃ m, X.getD j noPk = m := ⟨_, rfl⟩
      rw [hm] at c0 c1 c2 c3 c4 c5 hk hok
      have C := hidden (cl_calls p m B wr (HX.out.below HW.out) hok)
      clear hm hcs HK hok
      simp only [pv] at C
      cases ht : like p m with
      | true =>
        rw [ht] at C hk
        have HK : Hid (j = q) := by unfold Hid; rw [if_pos rfl] at hk; omega
        clear hk ht
        go_wp2_with fail
        refine C.out.mono ?_
        rintro r w1 ⟨rfl, hw1⟩
        have HW1 : Hid (Below w.heap.size w w1) := HW.out.trans (hw1.mono HW.out.size)
        clear hw1
        go_wp2_with fail
        go_ret
        exact ⟨by rw [← HR.out, ← HK.out, if_pos hj]; rfl, HW1.out⟩
      | false =>
        rw [ht] at C hk
        have HK : Hid (fi (like p) (X.drop (j + 1)) + (j + 1) = q) := by unfold Hid; rw [if_neg (by simp)] at hk; omega
        clear hk ht
        go_wp2_with fail
        refine C.out.mono ?_
        rintro r w1 ⟨rfl, hw1⟩
        have HW1 : Hid (Below w.heap.size w w1) := HW.out.trans (hw1.mono HW.out.size)
        clear hw1
        go_wp2_with fail
        go_roundg (n - (j + 1))
        case measure => omega
        case rel => exact ⟨j + 1, by omega, by go_num, HK, HW1⟩
    · have hjz : ¬ (j : Int) < (n : Int) := by omega
      have hk := HK.out
      rw [List.drop_eq_nil_of_le (by omega), fi] at hk
      have HK : Hid (¬ q < n) := by unfold Hid; omega
      clear hk
      go_wp2_with fail
      go_ret
      exact ⟨by rw [← HR.out, if_neg HK.out]; rfl, HW.out⟩
end Go.Proofs.YtpiamlgmadnepaaGreat.Audit

