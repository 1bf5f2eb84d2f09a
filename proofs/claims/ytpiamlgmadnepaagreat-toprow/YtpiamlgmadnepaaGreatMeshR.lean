/-
  What Publish of package mesh returns, and what it leaves in memory. Its condition: the lofts are such as they may be.
-/
import Derived.Test.YtpiamlgmadnepaaGreatMeshQ
namespace Go.Proofs.YtpiamlgmadnepaaGreat.MS
open Go.ChangeShapes Go.WideShapes Go.ChangeAt Go.RowKit Go.Maps Go.Proofs.YtpiamlgmadnepaaGreat.Mem Go.Proofs.YtpiamlgmadnepaaGreat.NO Go.Proofs.YtpiamlgmadnepaaGreat.ND
set_option linter.unusedVariables false

theorem nd0_ok {n i : Nat} (hi : i < 16) : NdOk n (nd0 (i : Int)) :=
  ⟨⟨by show (0 : Int) ≤ 0; omega, by show (0 : Int) ≤ 1000000; omega⟩, ⟨by show (0 : Int) ≤ (i : Int); omega, by show (i : Int) ≤ 15; omega⟩, fun k _ t ht => by simp [nd0] at ht, ⟨List.Pairwise.nil, by simp [nd0], by simp [nd0], by show (0 : Int) ≤ 0; omega, by show (0 : Int) ≤ 1000000; omega⟩, fun x hx => by simp [nd0] at hx, ⟨by show (0 : Int) ≤ 0; omega, by show (0 : Int) ≤ 0; omega⟩, PU.inv_nil, fun x hx => by simp [nd0] at hx, PU.ainv_start (by omega) (by omega)⟩
theorem mesh0_ok {n : Nat} {E : List TM.Ed} (h1 : 1 ≤ n) (h16 : n ≤ 16) : MOk (mesh0 n E) :=
  ⟨h1, h16, ⟨by show (0 : Int) ≤ 0; omega, by show (0 : Int) ≤ 1000000; omega⟩, fun i hi => ⟨nd0_ok (Nat.lt_of_lt_of_le hi h16), rfl, by show (0 : Int) ≤ 0; omega, rfl⟩⟩
theorem tr0_ok {n : Nat} {nw : Int} {k : Nat} {pa : Int} {K : List Int} (h0 : 0 ≤ nw) (hp : pa = -1 ∨ (0 ≤ pa ∧ pa < n)) (hk : ∀ x ∈ K, 0 ≤ x ∧ x < n) (hl : K.length ≤ 16) : TrOk n nw k ((tr0 ((k : Int) + 1) 1).to pa K) :=
  ⟨rfl, ⟨by show (0 : Int) ≤ 1; omega, by show (1 : Int) ≤ 65535; omega⟩, hp, hk, hl, GM.inv_start (by omega) (by omega) (by omega) (by omega), h0, rfl, RM.inv_start (by omega) (by omega), fun x hx => by simp [tr0, Tr.to] at hx⟩
theorem iarg_chg {w w' : World} {o : Nat → Tg} {S : Tg → Prop} {a : Option Addr} {m : Nat} {L : List Int} (h : Tree.IArg w a m L) (hc : Chg o S w w') (ht : ∀ ad, a = some ad → 0 < m → ¬ S (o ad.block)) : Tree.IArg w' a m L := by
  obtain ⟨bs, q1, q2, q3⟩ := hc
  refine ⟨fun j hj => ?_, h.2⟩
  obtain ⟨b', o', e, h0⟩ := h.1 j hj
  have hnb : b' ∉ bs := fun hx => ht _ e (by have := h.2.1; omega) (q2 _ hx)
  have hl := World.block_lt_of_cell? w ⟨b', o' + j, none⟩ h0
  exact ⟨b', o', e, (cell_same (q1.2.2.2.2 b' hl hnb) _).trans h0⟩
theorem iarg_lt {w : World} {a : Option Addr} {m : Nat} {L : List Int} (h : Tree.IArg w a m L) {ad : Addr} (e : a = some ad) (hm : 0 < m) : ad.block < w.heap.size := by
  obtain ⟨b', o', e', h0⟩ := h.1 0 (by have := h.2.1; omega)
  rw [e] at e'
  cases e'
  exact World.block_lt_of_cell? w ⟨b', o' + 0, none⟩ h0
theorem iarg_g {w : World} {a : Option Addr} {m : Nat} {L : List Int} (h : Tree.IArg w a m L) : Gaps.IArg w a m L := by
  refine ⟨fun j hj => ?_, h.2⟩
  obtain ⟨b, o, e, hc⟩ := h.1 j hj
  refine ⟨b, o, e, hc.trans ?_⟩
  unfold TM.dg
  simp [List.getD_eq_getElem?_getD, List.getElem?_eq_getElem hj]
/-! whom a track goes to, and from whom it comes -/
theorem kd_nodup (P : List Int) (x : Int) (j : Nat) : (TM.kd P x j).Nodup := by
  unfold TM.kd
  unfold List.Nodup
  rw [List.pairwise_map]
  exact (List.Pairwise.filter _ List.nodup_range).imp (fun hne e => hne (Int.ofNat.inj e))
theorem kd_is {P : List Int} {x : Int} {j : Nat} {y : Int} (h : y ∈ TM.kd P x j) : ∃ i : Nat, y = (i : Int) ∧ i < j ∧ TM.dg P i = x := by
  unfold TM.kd at h
  obtain ⟨i, hi, rfl⟩ := List.mem_map.1 h
  obtain ⟨h1, h2⟩ := List.mem_filter.1 hi
  exact ⟨i, rfl, by simpa using h1, by simpa using h2⟩
structure Trees (n r : Nat) (E : List TM.Ed) (p d : List Int) : Prop where
  fit : TM.Fit n E
  rn : r < n
  dist : TM.IsDist E n r d
  pars : TM.IsPars E d n p
theorem Trees.lenp {n r : Nat} {E : List TM.Ed} {p d : List Int} (h : Trees n r E p d) : p.length = n := h.pars.len
theorem Trees.lend {n r : Nat} {E : List TM.Ed} {p d : List Int} (h : Trees n r E p d) : d.length = n := h.dist.len
theorem Trees.ok {n r : Nat} {E : List TM.Ed} {p d : List Int} (h : Trees n r E p d) : TM.Ok p := TM.pars_ok h.fit h.dist h.rn h.pars
theorem Trees.bf {n r : Nat} {E : List TM.Ed} {p d : List Int} (h : Trees n r E p d) {i : Nat} (hi : i < n) : TM.bf p (i : Int) = 0 := TM.bf_of h.ok (by rw [h.lenp]; exact hi)
theorem Trees.kl {n r : Nat} {E : List TM.Ed} {p d : List Int} (h : Trees n r E p d) {i : Nat} (hi : i < n) : Tree.kl p (i : Int) = TM.kd p (i : Int) n := by
  unfold Tree.kl
  rw [if_pos (h.bf hi), h.lenp]
/-- a parent is another one, and nearer -/
theorem Trees.pa {n r : Nat} {E : List TM.Ed} {p d : List Int} (h : Trees n r E p d) {i : Nat} (hi : i < n) : TM.dg p i = -1 ∨ ∃ k : Nat, TM.dg p i = (k : Int) ∧ k < n ∧ k ≠ i ∧ TM.dg d k < TM.dg d i ∧ 0 ≤ TM.dg d k := by
  have := h.pars.range hi
  by_cases c : 0 ≤ TM.dg p i
  · obtain ⟨k, e, h1, h2, h3, h4, h5, h6⟩ := TM.par_facts h.dist h.rn h.pars hi c
    refine .inr ⟨k, e, h1, ?_, by omega, h4⟩
    rintro rfl
    omega
  · exact .inl (by omega)
theorem Trees.pF {n r : Nat} {E : List TM.Ed} {p d : List Int} (h : Trees n r E p d) {i k : Nat} (hi : i < n) (hk : k < 8) {N : Nd} (hid : N.id = (i : Int)) (ht : N.tr k = none) : ND.pF N ((k : Int) + 1) (TM.dg p i) (TM.kd p (i : Int) n) 1 = 0 := by
  have h16 := h.fit.hi
  unfold ND.pF
  rw [if_neg (by simp [okT]; omega), if_neg, if_neg (by omega), if_neg, if_neg, if_neg]
  · unfold Nd.at
    rw [show (((k : Int) + 1) - 1).toNat = k by omega, ht]
    simp [old]
  · unfold twc
    simp [kd_nodup]
  · rw [List.any_eq_true]
    rintro ⟨y, hy, hb⟩
    obtain ⟨j, rfl, hj, hp⟩ := kd_is hy
    rcases h.pa hj with e | ⟨m, e, m1, m2, m3, m4⟩
    · omega
    · have hm : m = i := by omega
      subst hm
      unfold badk oth at hb
      rw [hid] at hb
      have e1 : okN (j : Int) = true := by simp [okN]; omega
      have e2 : decide ((j : Int) ≠ (m : Int)) = true := by simp; omega
      have e3 : decide ((j : Int) = TM.dg p m) = false := by
        rcases h.pa hi with q | ⟨l, q, q1, q2, q3, q4⟩
        · rw [q]; simp
        · rw [q]
          simp only [decide_eq_false_iff_not]
          intro hc
          have : j = l := by omega
          subst this
          omega
      rw [e1, e2, e3] at hb
      simp at hb
  · rintro ⟨h1, h2⟩
    rcases h.pa hi with q | ⟨l, q, q1, q2, q3, q4⟩
    · exact h1 q
    · unfold oth at h2
      rw [hid, q] at h2
      have e1 : okN (l : Int) = true := by simp [okN]; omega
      have e2 : decide ((l : Int) ≠ (i : Int)) = true := by simp; omega
      rw [e1, e2] at h2
      cases h2
/-- the track k where it is planned -/
def trk (k : Nat) (p : List Int) (n i : Nat) : Tr := (tr0 ((k : Int) + 1) 1).to (TM.dg p i) (TM.kd p (i : Int) n)
theorem Trees.trOk {n r : Nat} {E : List TM.Ed} {p d : List Int} (h : Trees n r E p d) {i k : Nat} (hi : i < n) {nw : Int} (h0 : 0 ≤ nw) : TrOk n nw k (trk k p n i) := by
  refine tr0_ok h0 ?_ ?_ ?_
  · rcases h.pa hi with q | ⟨l, q, q1, _⟩
    · exact .inl q
    · exact .inr ⟨by omega, by omega⟩
  · intro x hx
    obtain ⟨j, rfl, hj, _⟩ := kd_is hx
    omega
  · have := TM.kd_len p (i : Int) n
    have := h.fit.hi
    omega
def Ms.plan (M : Ms) (k i : Nat) (p : List Int) : Ms := { M with nd := updN M.nd i { M.nd i with tr := updR (M.nd i).tr k (trk k p M.n i) } }
set_option maxHeartbeats 2000000 in
set_option maxRecDepth 100000 in
theorem plan_callsM (b k i r : Nat) (o : Nat → Tg) (P : MP) (M : Ms) (p d : List Int) (a : Option Addr) (cap : Nat) (w : World) (h : MAt w o b P M) (hK : MOk M) (hT : Trees M.n r M.E p d) (hk : k < 8) (hi : i < M.n) (ht : (M.nd i).tr k = none) (hA : Tree.IArg w a M.n p) (ha : ∀ ad, a = some ad → 0 < M.n → (o ad.block).n = 0) :
    Calls Tryz.prog 39 #[.pointer (some ⟨b, 0, none⟩), .int .i64 ((k : Int) + 1), .slice a M.n cap, .int .i64 (i : Int)] w fun e w' => e = .returned .nilIface ∧ MDone w w' o b (M.plan k i p) := by
  have h16 := h.n16
  obtain ⟨kN, kL, kW, kI⟩ := hK.nd i hi
  obtain ⟨rb, rc, hnv, _⟩ := h.nptr hi
  obtain ⟨pb, po, rfl, hpc⟩ := hA.at (by omega)
  have CKd := Tree.kids_calls (some ⟨pb, po, none⟩) M.n cap p (i : Int) w hA
  rw [hT.bf hi, hT.kl hi] at CKd
  have hall : ∀ x ∈ (M.nd i).sb, x.2.tk ≠ (k : Int) + 1 := by
    intro x hx e
    obtain ⟨_, k', q1, q2, q3⟩ := kN.sb x hx
    have : k' = k := by omega
    subst this
    rw [ht] at q3
    cases q3
  have hpF := hT.pF hi hk kI ht
  obtain ⟨A1, hA1⟩ : ∃ A1 : World → Prop, (fun W => MDone w W o b (M.plan k i p)) = A1 := ⟨_, rfl⟩
  have hA1e : ∀ W, A1 W ↔ MDone w W o b (M.plan k i p) := fun W => by rw [← hA1]
  have CK : Hid (Calls Tryz.prog 84 #[.slice (some ⟨pb, po, none⟩) M.n cap, .int .i64 (i : Int)] w fun e w' => ∃ ka km kc, e = .returned (.tuple #[.slice ka km kc, .nilIface]) ∧ (w'.drew.cell? ⟨b, 1, none⟩ = some (.slice (some ⟨rb, 0, none⟩) M.n rc) ∧ w'.drew.cell? ⟨rb, i, none⟩ = some (.pointer (some ⟨P.nb i, 0, none⟩)) ∧ w'.drew.cell? ⟨pb, po + i, none⟩ = some (.int .i64 (TM.dg p i))) ∧ Hid (Calls Tryz.prog 85 #[.pointer (some ⟨P.nb i, 0, none⟩), .int .i64 ((k : Int) + 1), .int .i64 (TM.dg p i), .slice ka km kc, .int .i64 1] w'.drew fun e w2 => e = .returned .nilIface ∧ (w2.cell? ⟨b, 1, none⟩ = some (.slice (some ⟨rb, 0, none⟩) M.n rc) ∧ w2.cell? ⟨rb, i, none⟩ = some (.pointer (some ⟨P.nb i, 0, none⟩)) ∧ w2.cell? ⟨pb, po + i, none⟩ = some (.int .i64 (TM.dg p i))) ∧ Hid (A1 w2))) := by
    refine hidden (CKd.mono ?_)
    rintro e w' ⟨v, rfl, hown, hb⟩
    obtain ⟨ka, kc, rfl, k1, k2, k3, k4⟩ := Tree.own_ints hown (by have := TM.kd_len p (i : Int) M.n; omega)
    have hbd := hb.drew
    have hM := h.grow hbd nobody
    have hpd : w'.drew.cell? ⟨pb, po + i, none⟩ = some (.int .i64 (TM.dg p i)) := (hb.cell (p := ⟨pb, po + i, none⟩) (World.block_lt_of_cell? w _ (hpc i hi))).trans (hpc i hi)
    obtain ⟨c1, c2⟩ := send_cells hM hi hnv
    refine ⟨ka, _, kc, rfl, ⟨c1, c2, hpd⟩, hidden ?_⟩
    refine (plan_new (i + 1) (P.nb i) (grow o w nobody) (P.np i) (M.nd i) ((k : Int) + 1) (TM.dg p i) 1 ka (TM.kd p (i : Int) M.n).length kc (TM.kd p (i : Int) M.n) w'.drew (by omega) (hM.nds i hi) kN.si (by rw [show ((k : Int) + 1 - 1).toNat = k by omega]; exact ht) hall (iarg_g (k1.below ((Below.refl _ _).drew))) k2 (by
      intro ad e hm
      obtain ⟨g, rfl, q1, q2⟩ := k4 ad e
      rw [grow_new q1]
      show 0 ≠ i + 1
      omega) hpF).mono ?_
    rintro e w2 ⟨rfl, hd⟩
    obtain ⟨o2, P2, r1, r2, r3, r4, r5, r6, r7⟩ := hM.node (i := i) hi hd
    obtain ⟨d1, d2⟩ := send_cells r1 (show i < M.n from hi) (show P2.nv = .slice (some ⟨rb, 0, none⟩) M.n rc by rw [r3]; exact hnv)
    rw [r2] at d2
    have hpl : pb < w.heap.size := World.block_lt_of_cell? w ⟨pb, po + i, none⟩ (hpc i hi)
    have hpw : w2.cell? ⟨pb, po + i, none⟩ = some (.int .i64 (TM.dg p i)) := by
      obtain ⟨bs, q1, q2, q3⟩ := r7
      have hnb : pb ∉ bs := fun hx => by
        have := q2 _ hx
        rw [grow_old hpl] at this
        unfold mine at this
        have := ha _ rfl (by omega)
        simp only at this
        omega
      exact (cell_same (q1.2.2.2.2 pb (Nat.lt_of_lt_of_le hpl hbd.size) hnb) _).trans hpd
    refine ⟨rfl, ⟨d1, d2, hpw⟩, hidden ((hA1e _).2 ⟨o2, P2, ?_, Keep.of_ext ((grow_ext o w nobody).trans r6 hbd.size), (Chg.of_below hbd o meshy).trans (mine_meshy r7 (by omega) (by omega)) (grow_ext _ _ _)⟩)⟩
    rw [show ((k : Int) + 1 - 1).toNat = k by omega] at r1
    exact r1
  have HFin : Hid (∀ W, A1 W → MDone w W o b (M.plan k i p)) := hidden (fun W hA => (hA1e _).1 hA)
  obtain ⟨R, hR⟩ : ∃ R, M.plan k i p = R := ⟨_, rfl⟩
  rw [hR] at HFin ⊢
  obtain ⟨nb, hnb⟩ : ∃ nb, P.nb i = nb := ⟨_, rfl⟩
  obtain ⟨nn, hnn⟩ : ∃ nn, M.n = nn := ⟨_, rfl⟩
  obtain ⟨x, hx⟩ : ∃ x, TM.dg p i = x := ⟨_, rfl⟩
  rw [hnb, hx] at CK
  rw [hnn] at hi CK ⊢
  have hiz : (i : Int) < (nn : Int) := Int.ofNat_lt.2 hi
  clear h hK hT hk ht hA ha h16 kN kL kW kI hnv hpc CKd hall hpF hA1 hA1e hR hnb hnn hx
  go_enter Tryz.func39, Tryz.ntmps39
  go_wp2_with fail
  refine CK.out.mono ?_
  rintro e w1 ⟨ka, km, kc, rfl, S0, CP⟩
  clear CK
  go_upto_region 4 with fail
  go_region_held3 (fun w' => w'.cell? ⟨b, 1, none⟩ = some (.slice (some ⟨rb, 0, none⟩) nn rc) ∧ w'.cell? ⟨rb, i, none⟩ = some (.pointer (some ⟨nb, 0, none⟩)) ∧ w'.cell? ⟨pb, po + i, none⟩ = some (.int .i64 x)) (with_reducible assumption) (first | (go_at_call 85; refine CP.out.mono ?_; rintro e w4 ⟨rfl, hS4, HD4⟩))
  go_wp2_with fail
  go_ret
  exact ⟨rfl, HFin.out _ HD4.out⟩
end Go.Proofs.YtpiamlgmadnepaaGreat.MS

