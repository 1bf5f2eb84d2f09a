/-
  The calls of the law TopRow, each from one state to the next.
-/
import Derived.Test.YtpiamlgmadnepaaGreatTopRA
import Derived.Test.YtpiamlgmadnepaaGreatAuditI
import Derived.Test.YtpiamlgmadnepaaGreatAuditC
namespace Go.Proofs.YtpiamlgmadnepaaGreat.TR
open Go.ChangeShapes Go.WideShapes Go.ChangeAt Go.RowKit Go.Maps Go.Proofs.YtpiamlgmadnepaaGreat.PM Go.Proofs.YtpiamlgmadnepaaGreat.Mem Go.Proofs.YtpiamlgmadnepaaGreat.Pack
set_option linter.unusedVariables false
section
variable {w W W' : World} {N : Nm} {L t x : Int} {s : Sv} {gv sv : Value} {X Y : List AU.Pk}

theorem arg_only {W W' : World} {bs : List Nat} {a : Option Addr} {n : Nat} {K : List Nat} (h : Arg W a n K) (ho : Only bs W W') (hf : ∀ ad, a = some ad → ad.block ∉ bs) : Arg W' a n K := by
  refine ⟨⟨h.1.1, fun j hj => ?_⟩, h.2⟩
  obtain ⟨b, o, e, hc⟩ := h.1.2 j hj
  refine ⟨b, o, e, ?_⟩
  have hlt := World.block_lt_of_cell? W ⟨b, o + j, none⟩ hc
  rw [← hc]
  exact NO.cell_same (ho.2.2.2.2 b hlt (hf _ e)) _
theorem flt0 (L : Int) (i : Nat) : PM.fault ((L + (i : Int)) % 65536) 0 0 0 1 = 0 := by
  unfold PM.fault
  rw [if_pos (by omega), if_pos (by omega)]
theorem TB.enc (h : TB w W N L t x s gv sv X Y) {i cc : Nat} {m : Option Addr} (hA : Arg W m 1 [i]) (hn : m = none → (1 : Nat) = 0 ∧ cc = 0) :
    Calls Tryz.prog 24 #[.agg #[.int .i64 ((L + (i : Int)) % 65536), .int .i64 0, .int .i64 0, .int .i64 0, .bool true, .slice m 1 cc]] W fun e w' => ∃ g, e = .returned (.tuple #[.slice (some ⟨g, 0, none⟩) 9 9, .nilIface]) ∧ Arg w' (some ⟨g, 0, none⟩) 9 (ND.pby ((L + (i : Int)) % 65536) 0 0 0 true [i]) ∧ TB w w' N L t x s gv sv X Y := by
  refine (ND.pencode_ok _ 0 0 0 true m 1 cc [i] W hA hn (flt0 L i)).mono ?_
  rintro e w' ⟨g, rfl, _, h2, h3⟩
  exact ⟨g, rfl, h2, h.below h3⟩
theorem TB.read (h : TB w W N L t x s gv sv X Y) {i g : Nat} (hA : Arg W (some ⟨g, 0, none⟩) 9 (ND.pby ((L + (i : Int)) % 65536) 0 0 0 true [i])) :
    Calls Tryz.prog 25 #[.slice (some ⟨g, 0, none⟩) 9 9] W fun e w' => ∃ a c, e = .returned (.tuple #[.agg #[.int .i64 ((L + (i : Int)) % 65536), .int .i64 0, .int .i64 0, .int .i64 0, .bool true, .slice a 1 c], .nilIface]) ∧ Arg w' a 1 [i] ∧ (a = none → (1 : Nat) = 0 ∧ c = 0) ∧ (∀ ad, a = some ad → ad.block ∉ N.F) ∧ TB w w' N L t x s gv sv X Y := by
  refine (ND.pread_back _ 0 0 0 true _ 9 9 [i] W hA (Nat.le_refl _) (flt0 L i)).mono ?_
  rintro e w' ⟨a, c, rfl, h1, h2, h3, h4⟩
  exact ⟨a, c, rfl, h2, h3, fun ad e hc => by have := h4 ad e; have := h.rws.hlt _ hc; omega, h.below h1⟩
theorem unw_near {L tp : Int} {i : Nat} (h0 : 100 ≤ L) (hi : i < 64) (h1 : L ≤ tp) (h2 : tp < L + 64) : Ser.unw tp ((L + (i : Int)) % 65536) = L + (i : Int) := by
  unfold Ser.unw Ser.bey
  split <;> omega
theorem unwraps {L tp : Int} {i : Nat} (h0 : 100 ≤ L) (hL : L ≤ 2000000000) (hi : i < 64) (h1 : L ≤ tp) (h2 : tp < L + 64) (W : World) :
    Calls Tryz.prog 26 #[.int .i64 tp, .int .i64 ((L + (i : Int)) % 65536)] W fun e w' => e = .returned (.tuple #[.int .i64 (L + (i : Int)), .nilIface]) ∧ w' = W := by
  have := Ser.unwrap_ok tp ((L + (i : Int)) % 65536) W (by omega) (by omega) (by omega) (by omega)
  rw [unw_near h0 hi h1 h2] at this
  exact this
/-- a number is heard -/
theorem TB.hear (h : TB w W N L t x s gv sv X Y) {k : Nat} (hF : Fl s k) {i : Nat} (hi : i < 64) :
    Calls Tryz.prog 27 #[.pointer (some ⟨N.gb, 0, none⟩), .int .i64 (L + (i : Int)), .int .i64 t] W fun e w' => ∃ b, e = .returned (.tuple #[.bool b, .nilIface]) ∧
      ∃ s1, TB w w' N L t x s1 gv sv X Y ∧ s1.nx = s.nx ∧ s1.C = s.C ∧ FI s1.nx s1.O s1.k ∧ (s1.la = -1 ∨ s1.la < s1.nx) ∧ k = s1.k ∧ (b = false → Fl s1 k) ∧ (b = true → s.C i = false ∧ GI L s1.gw s1.T s1.M (setC s1.C i)) ∧ Only N.F W w' := by
  obtain ⟨f1, f2, f3, f4⟩ := hF
  have hL0 : 0 ≤ L := by have := h.l0; omega
  refine (Gaps.hear_calls N.gb N.mb 2 2 s.gw s.T (L + (i : Int)) t s.M _ [] W h.mem.g h.gi.inv).mono ?_
  rintro e w' ⟨rfl, h1, h2⟩
  have h0 := h.gi.hear_ok hi hL0 h.l1 h.t0 h.t1 h.gt
  obtain ⟨g1, g2⟩ := h.gi.hear hi hL0 h.l1 h.t0 h.t1 h.gt
  have e1 : GM.hN s.gw s.T s.M (L + (i : Int)) t = t := by unfold GM.hN; rw [if_pos h0]
  have e2 : GM.hU s.gw s.T s.M (L + (i : Int)) t = GM.hT s.T (L + (i : Int)) := by unfold GM.hU; rw [if_pos h0]
  have e3 : GM.hL s.gw s.T s.M (L + (i : Int)) t = GM.hM s.T s.M (L + (i : Int)) := by unfold GM.hL; rw [if_pos h0]
  have e4 : GM.hB s.gw s.T s.M (L + (i : Int)) t = GM.hx s.T s.M (L + (i : Int)) := by unfold GM.hB; rw [h0]; rfl
  rw [e1, e2, e3] at h1
  rw [e4, h0]
  refine ⟨_, rfl, { s with gw := t, T := GM.hT s.T (L + (i : Int)), M := GM.hM s.T s.M (L + (i : Int)) }, h.setG h2 h1 g1.less (Int.le_refl _), rfl, rfl, f2, f3, f4, fun hb => ⟨fun _ => f1 ?_, f2, f3, f4⟩, fun hb => ⟨h.gi.old hb, g1⟩, h2.mono (by simp [Nm.F])⟩
  intro e
  unfold GM.hx at hb
  rw [e] at hb
  rw [decide_eq_true (by omega)] at hb
  simp at hb
/-- a packet is pushed -/
theorem TB.push (h : TB w W N L t s.nx s gv sv X Y) {k : Nat} (hF : FI s.nx s.O s.k ∧ (s.la = -1 ∨ s.la < s.nx) ∧ k = s.k) {i c : Nat} {a : Option Addr} (hi : i < 64) (hA : Arg W a 1 [i]) (hN : a = none → (1 : Nat) = 0 ∧ c = 0) (hg : GI L s.gw s.T s.M (setC s.C i)) :
    Calls Tryz.prog 28 #[.pointer (some ⟨N.ob, 0, none⟩), .int .i64 (L + (i : Int)), .agg #[.int .i64 ((L + (i : Int)) % 65536), .int .i64 0, .int .i64 0, .int .i64 0, .bool true, .slice a 1 c], .int .i64 t] W fun e w' => ∃ b, e = .returned (.tuple #[.bool b, .nilIface]) ∧
      ∃ s1, TB w w' N L t s1.nx s1 gv sv X Y ∧ s1.C = s.C ∧ Fl s1 k ∧ GI L s1.gw s1.T s1.M (setC s1.C i) ∧ s1.nx ≠ -1 := by
  obtain ⟨f2, f3, f4⟩ := hF
  have hL0 : 0 ≤ L := by have := h.l0; omega
  refine (Order.push_calls N.ob N.om 8 s.ow s.nx (L + (i : Int)) t _ 0 0 0 true a 1 c [i] s.O W h.mem.o h.oi.inv hA hN).mono ?_
  rintro e w' ⟨rfl, bv, h1, h2⟩
  have h0 := h.oi.push_ok hi hL0 h.l1 h.t0 h.t1 h.ot
  rw [flt0] at h1
  rw [flt0, h0]
  obtain ⟨q1, q2, q3, q4, q5, q6⟩ := h.oi.push hi hL0 h.l1 h.t0 h.t1 h.ot (p := ⟨(L + (i : Int)) % 65536, 0, 0, 0, true, [i], bv⟩) ⟨rfl, rfl, rfl, rfl, rfl, rfl⟩ f2
  rw [q5] at h1
  refine ⟨_, rfl, { s with ow := t, nx := OM.pX s.ow s.nx (L + (i : Int)) t 0, O := OM.pM s.ow s.nx (L + (i : Int)) t s.O 0 ⟨(L + (i : Int)) % 65536, 0, 0, 0, true, [i], bv⟩ }, h.setO (x' := OM.pX s.ow s.nx (L + (i : Int)) t 0) h2 h1 q1 (Int.le_refl _) q6, rfl, ⟨fun _ => q3, q2, ?_, f4⟩, hg, q3⟩
  show s.la = -1 ∨ s.la < OM.pX s.ow s.nx (L + (i : Int)) t 0
  omega
/-- behind Due, ahead of GaveUp -/
structure DB (w W : World) (N : Nm) (L t x : Int) (s : Sv) (gv sv : Value) (X Y : List AU.Pk) (W1 : World) : Prop where
  tb : TB w W N L t x s gv sv X Y
  gaps : ∃ gv2, Gaps.GapsAt W1 N.gb N.mb 2 2 t s.T (GM.dM 2 2 t s.M) gv2 (GM.gaveL 2 2 t s.M) ∧ (∀ j, gv2.ownBlock = some j → W.heap.size ≤ j)
  only : Only [N.gb, N.mb] W W1
theorem TB.due (h : TB w W N L t x s gv sv X Y) :
    Calls Tryz.prog 29 #[.pointer (some ⟨N.gb, 0, none⟩), .int .i64 t] W fun e w' => ∃ a n c, e = .returned (.tuple #[.slice a n c, .nilIface]) ∧ n ≤ 64 ∧ (s.T = -1 → n = 0) ∧ DB w W N L t x s gv sv X Y w' := by
  refine (Gaps.due_calls N.gb N.mb 2 2 s.gw s.T t s.M _ [] W h.mem.g h.gi.inv (by simp)).mono ?_
  rintro e w' ⟨dv, rfl, gv2, h1, h2, h3, h4⟩
  have h0 : GM.tf s.gw t = 0 := tf_ok h.t0 h.t1 h.gt
  obtain ⟨q1, q2, q3, q4, q5, q6⟩ := h.gi.due h.t0 h.t1 h.gt
  have e1 : GM.dN s.gw t = t := by unfold GM.dN; rw [if_pos h0]
  have e2 : GM.dL 2 2 s.gw s.M t = GM.dM 2 2 t s.M := by unfold GM.dL; rw [if_pos h0]
  have e3 : GM.dG 2 2 s.gw s.M t = GM.gaveL 2 2 t s.M := by unfold GM.dG; rw [if_pos h0]
  have e4 : GM.dD 2 2 s.gw s.M t = GM.dueL 2 2 t s.M := by unfold GM.dD; rw [if_pos h0]
  rw [e1, e2, e3, List.nil_append] at h1
  rw [e4] at h2
  obtain ⟨a, c, rfl, _⟩ := Audit.own_ints h2 (by omega)
  rw [h0]
  refine ⟨a, _, c, rfl, q5, fun e => by rw [q6 e]; rfl, h, ⟨gv2, h1, fun j hj => ?_⟩, h4⟩
  rcases (h3 j hj).1 with e | e
  · cases e
  · exact e
/-- a row of numbers that lies beside all objects -/
def Nums (W : World) (N : Nm) (a : Option Addr) (n c : Nat) (G : List Int) : Prop := n ≤ 64 ∧ W.ownsRow 0 3 1 (.slice a n c) n (Audit.ic G) ∧ ∀ j, (Value.slice a n c).ownBlock = some j → j ∉ N.F
theorem Nums.only {N : Nm} {a : Option Addr} {n c : Nat} {G : List Int} (h : Nums W N a n c G) (ho : Only N.F W W') : Nums W' N a n c G := ⟨h.1, ho.owns h.2.1 h.2.2, h.2.2⟩
theorem Nums.at {N : Nm} {a : Option Addr} {n c : Nat} {G : List Int} (h : Nums W N a n c G) {j : Nat} (hj : j < n) : ∃ b o, a = some ⟨b, o, none⟩ ∧ W.cell? ⟨b, o + j, none⟩ = some (.int .i64 (G.getD j 0)) := by
  have hn := h.1
  obtain ⟨a', c', e, hA, _⟩ := Audit.own_ints h.2.1 (by omega)
  simp only [Value.slice.injEq] at e
  obtain ⟨rfl, _, rfl⟩ := e
  obtain ⟨b, o, rfl, hc⟩ := hA.at (by omega)
  exact ⟨b, o, rfl, hc j hj⟩
theorem ic_same (G : List Int) : Gaps.ic G = Audit.ic G := rfl
theorem DB.gave {W1 : World} (h : DB w W N L t x s gv sv X Y W1) {k : Nat} (hF : Fl s k) :
    Calls Tryz.prog 30 #[.pointer (some ⟨N.gb, 0, none⟩)] W1 fun e w' => ∃ a n c G, e = .returned (.slice a n c) ∧ Nums w' N a n c G ∧ (∀ j, j < n → L ≤ G.getD j 0 ∧ G.getD j 0 < L + 64) ∧
      ∃ s1, TB w w' N L t x s1 gv sv X Y ∧ Fl s1 k ∧ s1.nx = s.nx ∧ (n ≠ 0 → s1.nx ≠ -1) := by
  obtain ⟨h0, ⟨gv2, h1, h2⟩, h3⟩ := h
  obtain ⟨q1, q2, q3, q4, q5, q6⟩ := h0.gi.due h0.t0 h0.t1 h0.gt
  refine (Gaps.gaveUp_calls N.gb N.mb 2 2 t s.T _ gv2 _ W1 h1 (by omega)).mono ?_
  rintro e w' ⟨rfl, k1, k2, k3⟩
  have hlF := h0.rws.hlt
  have ho : Only [N.gb, N.mb] W w' := OM.past h3 k3 (fun j hj => by
    simp only [Gaps.blks, List.mem_cons, Option.mem_toList] at hj
    rcases hj with rfl | rfl | hj
    · exact .inl (by simp)
    · exact .inl (by simp)
    · exact .inr (h2 j hj))
  rw [ic_same] at k2
  obtain ⟨a, c, rfl, _⟩ := Audit.own_ints k2 (by omega)
  refine ⟨a, _, c, _, rfl, ⟨q4, k2, fun j hj hc => ?_⟩, fun j hj => ?_, { s with gw := t, T := s.T, M := GM.dM 2 2 t s.M }, h0.setG ho k1 q1 (Int.le_refl _), hF, rfl, fun hn => ?_⟩
  · have := h2 j hj
    have := hlF j hc
    omega
  · have hl : ((GM.gaveL 2 2 t s.M).mergeSort fun x y => decide (x ≤ y)).length = (GM.gaveL 2 2 t s.M).length := List.length_mergeSort _
    have hin : ((GM.gaveL 2 2 t s.M).mergeSort fun x y => decide (x ≤ y)).getD j 0 ∈ (GM.gaveL 2 2 t s.M).mergeSort fun x y => decide (x ≤ y) := by
      rw [List.getD_eq_getElem?_getD, List.getElem?_eq_getElem (by omega)]
      exact List.getElem_mem _
    have := q2 _ (mem_sort hin)
    have ht := h0.gi.top
    have hl0 := h0.l0
    omega
  · show s.nx ≠ -1
    refine hF.1 fun e => hn ?_
    rw [q3 (h0.gi.non e)]
    rfl
/-- a number is gone -/
theorem TB.gone (h : TB w W N L t s.nx s gv sv X Y) {k : Nat} (hF : Fl s k) {y : Int} (hy : L ≤ y) (hy2 : y < L + 64) (hn : s.nx ≠ -1) :
    Calls Tryz.prog 31 #[.pointer (some ⟨N.ob, 0, none⟩), .int .i64 y, .int .i64 t] W fun e w' => e = .returned .nilIface ∧ ∃ s1, TB w w' N L t s1.nx s1 gv sv X Y ∧ Fl s1 k ∧ s1.nx = s.nx ∧ Only N.F W w' := by
  obtain ⟨f1, f2, f3, f4⟩ := hF
  have hL0 : 0 ≤ L := by have := h.l0; omega
  refine (Order.goneM_calls N.ob N.om 8 s.ow s.nx y t s.O W h.mem.o h.oi.inv).mono ?_
  rintro e w' ⟨rfl, h1, h2⟩
  obtain ⟨q1, q2, q3⟩ := h.oi.gone hL0 h.l1 h.t0 h.t1 h.ot hy hy2 hn f2
  rw [q3] at h1
  rw [h.oi.gone_ok hL0 h.l1 h.t0 h.t1 h.ot hy hy2 hn]
  exact ⟨rfl, { s with ow := t, nx := s.nx, O := OM.gM s.ow s.nx y t s.O }, h.setO h2 h1 q1 (Int.le_refl _) (Int.le_refl _), ⟨f1, q2, f3, f4⟩, rfl, h2.mono (fun k hk => by simp [Nm.F] at hk ⊢; omega)⟩
/-- what was handed out, beside all else -/
structure KB (w W : World) (N : Nm) (L t x n : Int) (K : Nat) (I : OM.Its) (v : Value) (s : Sv) (gv sv : Value) (X Y : List AU.Pk) : Prop where
  tb : TB w W N L t x s gv sv X Y
  row : W.ownsRow w.heap.size 82 8 v K (OM.flat OM.c8 I)
  bod : OM.Bodies W I
  fr : ∀ j, v.ownBlock = some j → j ∉ N.F ∧ gv.ownBlock ≠ some j
  il : I.length = K
  it : ∀ j, j < K → ∃ i, I[j]? = some i ∧ GoodI L i ∧ i.n = n + (j : Int)
  nx : s.nx = n + (K : Int)
  z : n = -1 → K = 0
  nb : n = -1 ∨ L ≤ n
  tn : s.T ≠ -1 → s.nx ≠ -1
/-- j of them taken -/
structure PB (w W : World) (N : Nm) (L t n : Int) (K : Nat) (I : OM.Its) (v : Value) (j : Nat) (s : Sv) (gv sv : Value) (X Y : List AU.Pk) : Prop where
  kb : KB w W N L t (n + (j : Int)) n K I v s gv sv X Y
  lx : s.la = -1 ∨ s.la < n + (j : Int)
  len : X.length = s.k
  fi : n ≠ -1 → 0 < s.k ∨ (j = 0 ∧ 0 < K ∧ ∀ i, I[0]? = some i → i.g = false)
theorem TB.pop (h : TB w W N L t s.nx s gv sv X Y) (hF : Fl s X.length) :
    Calls Tryz.prog 32 #[.pointer (some ⟨N.ob, 0, none⟩), .int .i64 t] W fun e w' => ∃ a K c I, e = .returned (.tuple #[.slice a K c, .nilIface]) ∧ K ≤ 200 ∧ ∃ s1, PB w w' N L t s.nx K I (.slice a K c) 0 s1 gv sv X Y := by
  obtain ⟨f1, f2, f3, f4⟩ := hF
  have hL0 : 0 ≤ L := by have := h.l0; omega
  obtain ⟨K, hK⟩ := Order.many_ex (now := t) 8 h.oi.inv
  refine (Order.pop_calls N.ob N.om 8 s.ow s.nx t s.O K W h.mem.o h.oi.inv hK).mono ?_
  rintro e w' ⟨a, c, rfl, h1, h2, h3, h4⟩
  have h0 := OM.tf_mk h.t0 h.t1 h.ot
  obtain ⟨od, hO, hS⟩ := hK.yes h0
  obtain ⟨q1, q2, q3, q4⟩ := h.oi.pop hL0 h.t0 h.t1 h.ot hO hS
  have e1 : Order.qW s.ow t = t := by unfold Order.qW; rw [if_pos h0]
  rw [e1] at h3
  rw [h0]
  have hx := h.oi.nxb
  have hlF := h.rws.hlt
  have hbel := h.rws.bel.size
  have hT := h.setO (x' := s.nx) h4 h3 q1 (Int.le_refl _) (Int.le_refl _)
  refine ⟨a, K, c, OM.takes s.O s.nx K, rfl, hK.le, { s with ow := t, nx := s.nx + (K : Int), O := OM.rest s.O (s.nx + (K : Int)) }, ⟨⟨by simpa using hT, OM.own_base h1 hbel, h2, fun j hj => ?_, OM.takes_len _ _ _, fun j hj => ⟨_, OM.takes_get _ _ _ _ hj, q3 j hj, OM.itm_n _ _⟩, rfl, q2, by omega, fun hT' => ?_⟩, by simpa using f3, f4, fun hn => ?_⟩⟩
  · have := h1.lt j hj
    refine ⟨fun hc => ?_, fun hc => ?_⟩
    · have := hlF j hc; omega
    · have := (h.rws.got.lt j hc).2; omega
  · show s.nx + (K : Int) ≠ -1
    have := f1 hT'
    omega
  · rcases q4 s.k f2 hn with e | ⟨e, e'⟩
    · exact .inl e
    · refine .inr ⟨rfl, e, fun i hi => ?_⟩
      rw [OM.takes_get _ _ _ _ e] at hi
      simp only [Option.some.injEq] at hi
      rw [← hi]
      simpa using e'
end
end Go.Proofs.YtpiamlgmadnepaaGreat.TR

