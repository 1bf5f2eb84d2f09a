/-
  What hearFrame and Hear of package node return, whatever bytes they are given, where one track is planned and nobody subscribes. Their condition: the node is such as it may be.
-/
import Derived.Test.YtijfocggdjjnjaiGreatNodeW
import Derived.Test.YtijfocggdjjnjaiGreatNRepC
namespace Go.Proofs.YtijfocggdjjnjaiGreat.ND
open Go.ChangeShapes Go.WideShapes Go.ChangeAt Go.RowKit Go.Maps Go.Lib Go.Proofs.YtijfocggdjjnjaiGreat.Mem Go.Proofs.YtijfocggdjjnjaiGreat.NO
set_option linter.unusedVariables false

set_option maxHeartbeats 4000000 in
set_option maxRecDepth 100000 in
theorem hearFrame_via (n b k : Nat) (o : Nat → Tg) (P : NP) (N : Nd) (tr : Tr) (fr now og ep h s t l q : Int) (st : Bool) (a : Option Addr) (m cap : Nat) (L : List Nat) (w : World) (hn : n ≠ 0) (hN : NAt w o n b P N) (hi : k < 8) (ht : N.tr k = some tr) (hG : GM.Inv 3 3 tr.gn tr.gT tr.gM) (hR : RM.Inv 64 tr.rT tr.rM) (B : List Nat) (CF0 : Calls Tryz.prog 13 #[.slice a m cap] w fun e w' => ∃ a' m' c', e = .returned (.tuple #[.agg #[.int .i64 ((k : Int) + 1), .int .i64 og, .int .i64 ep, .int .i64 h, .slice a' m' c'], .nilIface]) ∧ Below w.heap.size w w' ∧ Arg w' a' m' B ∧ m' ≤ c' ∧ ∀ ad, a' = some ad → w.heap.size ≤ ad.block) (CP0 : ∀ W a1 m1 c1, Arg W a1 m1 B → m1 ≤ c1 → Calls Tryz.prog 35 #[.slice a1 m1 c1] W fun e w' => ∃ a' c', e = .returned (.tuple #[.agg #[.int .i64 s, .int .i64 t, .int .i64 l, .int .i64 q, .bool st, .slice a' L.length c'], .nilIface]) ∧ Below W.heap.size W w' ∧ Arg w' a' L.length L ∧ (a' = none → L.length = 0 ∧ c' = 0) ∧ ∀ ad, a' = some ad → W.heap.size ≤ ad.block) (hh : 0 ≤ h ∧ h ≤ 64) (hf : PM.fault s t l q L.length = 0) (hsb : N.sb = []) (hls : SInv N.sb N.ls) (hl : N.lt.length + tr.kids.length ≤ 1000000) :
    Calls Tryz.prog 24 #[.pointer (some ⟨b, 0, none⟩), .int .i64 fr, .slice a m cap, .int .i64 now] w fun e w' => e = .returned (errv (hrF tr fr ep)) ∧ Heard w w' o n b N k tr s t l q st L og (h + 1) now (hrF tr fr ep) := by
  have CF := hidden CF0
  obtain ⟨o0, ho0⟩ : ∃ o0, grow o w nobody = o0 := ⟨_, rfl⟩
  have he0 : Ext w o o0 := by rw [← ho0]; exact grow_ext o w nobody
  have hnew : ∀ j, w.heap.size ≤ j → (o0 j).n = 0 := fun j hj => by rw [← ho0, grow_new hj]
  have HT : Hid (∀ W a2 c2, Below w.heap.size w W → Arg W a2 L.length L → (a2 = none → L.length = 0 ∧ c2 = 0) → (∀ ad, a2 = some ad → w.heap.size ≤ ad.block) → Calls Tryz.prog 23 #[.pointer (some ⟨b, 0, none⟩), .pointer (some ⟨(P.tp k).p, 0, none⟩), .agg #[.int .i64 s, .int .i64 t, .int .i64 l, .int .i64 q, .bool st, .slice a2 L.length c2], .agg #[.int .i64 og, .int .i64 (h + 1)], .int .i64 now] W fun e w' => e = .returned (.tuple #[]) ∧ Hid (Heard w w' o n b N k tr s t l q st L og (h + 1) now 0)) := by
    refine hidden ?_
    intro W a2 c2 hBW hAW hno2 hfr2
    have hNW : NAt W o0 n b P N := hN.chg (S := fun _ => False) (Chg.of_below hBW _ _) (fun g hg => hg.elim) he0
    refine (take_none n b k o0 P N tr s t l q og (h + 1) now st a2 L.length c2 L W hn hNW hi ht hG hR hAW hno2 hf (fun hm ad e => hnew _ (hfr2 ad e)) hsb hls hl).mono ?_
    rintro e w' ⟨rfl, o', P', q1, q2, q3⟩
    refine ⟨rfl, hidden ⟨fun _ => ⟨_, o', P', q1, fun j hj => ?_, (Chg.of_below hBW _ _).trans q3 he0⟩, fun hx => absurd rfl hx⟩⟩
    rw [q2 j (by have := hBW.size; omega)]
    exact he0 j hj
  have CP := hidden CP0
  have hk3 : wrap64 ((k : Int) + 1 - 1) = (k : Int) := by unfold wrap64; omega
  have hk5 : wrap64 (k : Int) = (k : Int) := by unfold wrap64; omega
  have hk4 : (k : Int) < 8 := by omega
  have hw1 : wrap64 (h + 1) = h + 1 := by unfold wrap64; omega
  have HN := hidden hN
  have HTr := hidden ht
  obtain ⟨pp, hpp⟩ : ∃ pp, (P.tp k).p = pp := ⟨_, rfl⟩
  rw [hpp] at HT
  have HPP := hidden hpp
  obtain ⟨fl, hfl⟩ : ∃ fl, hrF tr fr ep = fl := ⟨_, rfl⟩
  rw [hfl]
  unfold hrF at hfl
  have HFL := hidden hfl
  obtain ⟨pa, hpa⟩ : ∃ pa, tr.pa = pa := ⟨_, rfl⟩
  obtain ⟨te, hte⟩ : ∃ te, tr.ep = te := ⟨_, rfl⟩
  rw [hpa, hte] at HFL
  have HPE := hidden (And.intro hpa hte)
  obtain ⟨ll, hll⟩ : ∃ ll, L.length = ll := ⟨_, rfl⟩
  rw [hll] at CP HT
  clear hN ht hG hR hf hsb hls hl ho0 he0 hnew hpp hfl hpa hte hll CF0 CP0
  go_enter Tryz.func24, Tryz.ntmps24
  go_wp2_with fail
  refine CF.out.mono ?_
  rintro e w1 ⟨a1, m1, c1, rfl, hb1, hA1, hm1, hf1⟩
  obtain ⟨W1, hW1⟩ : ∃ W1, w1.alloc (.cells #[.int .i64 ((k : Int) + 1), .int .i64 og, .int .i64 ep, .int .i64 h, .slice a1 m1 c1] 45) = W1 := ⟨_, rfl⟩
  have hB1 : Below w1.heap.size w1 W1 := by rw [← hW1]; exact (Below.refl _ _).alloc (Nat.le_refl _) _
  have hbf : W1.heap[w1.heap.size]? = some (.cells #[.int .i64 ((k : Int) + 1), .int .i64 og, .int .i64 ep, .int .i64 h, .slice a1 m1 c1] 45 (0, 0)) := by rw [← hW1]; exact heap_alloc_new w1 _
  have CP1 := hidden (CP.out W1 a1 m1 c1 (hA1.below hB1) hm1)
  have c4 : W1.cell? ⟨w1.heap.size, 4, none⟩ = some (.slice a1 m1 c1) := by simp [World.cell?, hbf]
  obtain ⟨fb, hfb⟩ : ∃ fb, w1.heap.size = fb := ⟨_, rfl⟩
  rw [hfb] at hbf c4
  have HBF := hidden hbf
  have HB1 := hidden (hb1.trans (hB1.mono hb1.size))
  have HW1 := hidden hW1
  clear hb1 hA1 hm1 hf1 hW1 hB1 hbf CP CF
  go_upto_region 4 with fail
  first | rw [HW1.out] | skip
  clear hfb
  go_wp2_with fail
  refine CP1.out.mono ?_
  rintro e w2 ⟨a2, c2, rfl, hb2, hA2, hno2, hf2⟩
  obtain ⟨W2, hW2⟩ : ∃ W2, w2.alloc (.cells #[.int .i64 s, .int .i64 t, .int .i64 l, .int .i64 q, .bool st, .slice a2 ll c2] 32) = W2 := ⟨_, rfl⟩
  have hB2 : Below w2.heap.size w2 W2 := by rw [← hW2]; exact (Below.refl _ _).alloc (Nat.le_refl _) _
  have hbp : W2.heap[w2.heap.size]? = some (.cells #[.int .i64 s, .int .i64 t, .int .i64 l, .int .i64 q, .bool st, .slice a2 ll c2] 32 (0, 0)) := by rw [← hW2]; exact heap_alloc_new w2 _
  have hbf2 : W2.heap[fb]? = some (.cells #[.int .i64 ((k : Int) + 1), .int .i64 og, .int .i64 ep, .int .i64 h, .slice a1 m1 c1] 45 (0, 0)) := (hB2.block _ (by have := lt_of_block HBF.out; have := hb2.size; omega)).trans ((hb2.block _ (lt_of_block HBF.out)).trans HBF.out)
  have hBt : Below w.heap.size w W2 := (HB1.out.trans (hb2.mono HB1.out.size)).trans (hB2.mono (by have := HB1.out.size; have := hb2.size; omega))
  obtain ⟨pb, hpb⟩ : ∃ pb, w2.heap.size = pb := ⟨_, rfl⟩
  rw [hpb] at hbp
  have hN2 := HN.out.below hBt
  have ct := hN2.track hi
  have bx := (hN2.trs k hi tr HTr.out).1.box
  rw [HTr.out] at ct
  simp only [tpv] at ct
  rw [HPP.out] at ct bx
  have p1 : W2.cell? ⟨pp, 1, none⟩ = some (.int .i64 te) := by rw [← HPE.out.2]; simp [World.cell?, bx]
  have p2 : W2.cell? ⟨pp, 2, none⟩ = some (.int .i64 pa) := by rw [← HPE.out.1]; simp [World.cell?, bx]
  have f0 : W2.cell? ⟨fb, 0, none⟩ = some (.int .i64 ((k : Int) + 1)) := by simp [World.cell?, hbf2]
  have f1 : W2.cell? ⟨fb, 1, none⟩ = some (.int .i64 og) := by simp [World.cell?, hbf2]
  have f2 : W2.cell? ⟨fb, 2, none⟩ = some (.int .i64 ep) := by simp [World.cell?, hbf2]
  have f3 : W2.cell? ⟨fb, 3, none⟩ = some (.int .i64 h) := by simp [World.cell?, hbf2]
  have x0 : W2.cell? ⟨pb, 0, none⟩ = some (.int .i64 s) := by simp [World.cell?, hbp]
  have x1 : W2.cell? ⟨pb, 1, none⟩ = some (.int .i64 t) := by simp [World.cell?, hbp]
  have x2 : W2.cell? ⟨pb, 2, none⟩ = some (.int .i64 l) := by simp [World.cell?, hbp]
  have x3 : W2.cell? ⟨pb, 3, none⟩ = some (.int .i64 q) := by simp [World.cell?, hbp]
  have x4 : W2.cell? ⟨pb, 4, none⟩ = some (.bool st) := by simp [World.cell?, hbp]
  have x5 : W2.cell? ⟨pb, 5, none⟩ = some (.slice a2 ll c2) := by simp [World.cell?, hbp]
  have CTk := hidden (fun j => HT.out (W2.drewN j) a2 c2 (below_drewN' hBt) (((hA2.below hB2)).below (below_drewN' (Below.refl _ _))) hno2 (fun ad e => by have := hf2 ad e; have := HB1.out.size; omega))
  have HBt := hidden hBt
  have HW2 := hidden hW2
  clear hb2 hA2 hno2 hf2 hW2 hB2 hbp hbf2 hBt hN2 bx c4 CP1 HT
  go_upto_region 7 with fail
  first | rw [HW2.out] | skip
  clear hpb
  go_quiet (fail)
  by_cases c1 : pa = -1
  · have e1 : (pa == -1) = true := by simpa using c1
    have hfl : fl = 6 := by rw [← HFL.out, if_pos (by exact .inl c1)]
    subst hfl
    clear c1
    go_wp2_with fail
    go_quiet (fail)
    go_wp2_with fail
    go_ret
    exact ⟨rfl, fun hx => absurd hx (by omega), fun _ => below_drewN' HBt.out⟩
  have e1 : (pa == -1) = false := by simpa using c1
  by_cases c2 : fr ≠ pa
  · have e2 : (fr != pa) = true := by simpa using c2
    have hfl : fl = 6 := by rw [← HFL.out, if_pos (by exact .inr (.inl c2))]
    subst hfl
    clear c2 c1
    go_wp2_with fail
    go_quiet (fail)
    go_wp2_with fail
    go_ret
    exact ⟨rfl, fun hx => absurd hx (by omega), fun _ => below_drewN' HBt.out⟩
  have c2' : fr = pa := by omega
  have e2 : (fr != pa) = false := by simpa using c2'
  by_cases c3 : ep ≠ te
  · have e3 : (ep != te) = true := by simpa using c3
    have hfl : fl = 6 := by rw [← HFL.out, if_pos (by exact .inr (.inr c3))]
    subst hfl
    clear c3 c2 c2' c1
    go_wp2_with fail
    go_quiet (fail)
    go_wp2_with fail
    go_ret
    exact ⟨rfl, fun hx => absurd hx (by omega), fun _ => below_drewN' HBt.out⟩
  have c3' : ep = te := by omega
  have e3 : (ep != te) = false := by simpa using c3'
  have hfl : fl = 0 := by rw [← HFL.out, if_neg (by omega)]
  subst hfl
  clear c1 c2 c2' c3 c3'
  go_wp2_with fail
  go_quiet (fail)
  go_wp2_with fail
  refine (CTk.out _).mono ?_
  rintro e w4 ⟨rfl, HD⟩
  go_wp2_with fail
  go_ret
  exact ⟨rfl, HD.out⟩
set_option maxRecDepth 100000 in
theorem hearFrame_bad (b : Nat) (fr now : Int) (a : Option Addr) (m cap : Nat) (B : List Nat) (w : World) (hA : Arg w a m B) (hc : m ≤ cap) (hr : m ≤ 140737488355328) (hf : FM.bfault B ≠ 0) :
    Calls Tryz.prog 24 #[.pointer (some ⟨b, 0, none⟩), .int .i64 fr, .slice a m cap, .int .i64 now] w fun e w' => e = .returned (errv (FM.bfault B)) ∧ Below w.heap.size w w' := by
  have CR := hidden (Frame.fread_all a m cap B w hA hc hr)
  obtain ⟨f, hff⟩ : ∃ f, FM.bfault B = f := ⟨_, rfl⟩
  rw [hff] at CR hf
  rw [hff]
  have q1 := cmp_ne f
  have q2 := grd_ne f
  have d0 : decide (f = 0) = false := by simpa using hf
  obtain ⟨x1, h1⟩ : ∃ x, ((FM.bfr B).tr : Int) = x := ⟨_, rfl⟩
  obtain ⟨x2, h2⟩ : ∃ x, ((FM.bfr B).og : Int) = x := ⟨_, rfl⟩
  obtain ⟨x3, h3⟩ : ∃ x, ((FM.bfr B).ep : Int) = x := ⟨_, rfl⟩
  obtain ⟨x4, h4⟩ : ∃ x, ((FM.bfr B).hp : Int) = x := ⟨_, rfl⟩
  rw [h1, h2, h3, h4] at CR
  clear hA hc hr hff hf h1 h2 h3 h4
  go_enter Tryz.func24, Tryz.ntmps24
  go_wp2_with fail
  refine CR.out.mono ?_
  rintro e w1 ⟨a', m', c', rfl, hb1, _⟩
  rw [show Pack.errv f = errv f from rfl]
  have HB := hidden hb1
  clear hb1 CR
  go_wp2_with fail
  go_ret
  exact ⟨rfl, HB.out.alloc HB.out.size _⟩
/-- what is read of bytes that are a frame -/
theorem frame_is {B : List Nat} (h : FM.bfault B = 0) : ∃ k : Nat, k < 8 ∧ (FM.bfr B).tr = k + 1 ∧ (FM.bfr B).hp ≤ 64 ∧ PM.rfault (FM.bfr B).body = 0 := by
  unfold FM.bfault at h
  by_cases hf : FM.ofault B = 0
  · rw [if_pos hf] at h
    have hb : FM.bfr B = FM.xfr (FM.opened B) := by unfold FM.bfr; rw [if_pos hf]
    rw [hb]
    unfold FM.xfr
    rw [if_pos h]
    unfold FM.xfault at h
    split at h
    · omega
    · split at h
      · obtain ⟨t, o, e, p, h1, h2, h3, h4, h5, h6, h7, h8, h9, h10⟩ := FM.ffault_zero h
        simp only
        exact ⟨t - 1, by omega, by omega, by omega, h10⟩
      · omega
  · rw [if_neg hf] at h
    exact absurd h hf
/-- what is read of bytes that are a packet -/
theorem pack_is {X : List Nat} (h : PM.rfault X = 0) : ∃ (s t l q : Int) (st : Bool) (L : List Nat), PM.fault s t l q L.length = 0 ∧ ∀ W a1 m1 c1, Arg W a1 m1 X → m1 ≤ c1 → Calls Tryz.prog 35 #[.slice a1 m1 c1] W fun e w' => ∃ a' c', e = .returned (.tuple #[.agg #[.int .i64 s, .int .i64 t, .int .i64 l, .int .i64 q, .bool st, .slice a' L.length c'], .nilIface]) ∧ Below W.heap.size W w' ∧ Arg w' a' L.length L ∧ (a' = none → L.length = 0 ∧ c' = 0) ∧ ∀ ad, a' = some ad → W.heap.size ≤ ad.block := by
  have h8 := FM.rfault_len h
  obtain ⟨x0, x1, x2, x3, x4, x5, x6, x7, L, rfl⟩ := PM.eight (B := X) (by omega)
  rw [PM.rfault_eight] at h
  have hg : (PM.good x0 && decide (x1 ≤ 127)) = true := by
    by_cases hg : (PM.good x0 && decide (x1 ≤ 127)) = true
    · exact hg
    · rw [if_neg hg] at h
      omega
  rw [if_pos hg] at h
  have hL : L.length ≤ 1000 := by
    by_cases hL : L.length ≤ 1000
    · exact hL
    · rw [if_neg hL] at h
      omega
  by_cases hb : ∀ c ∈ x0 :: x1 :: x2 :: x3 :: x4 :: x5 :: x6 :: x7 :: L, c < 256
  · have b2 := hb x2 (by simp)
    have b3 := hb x3 (by simp)
    have b4 := hb x4 (by simp)
    have b5 := hb x5 (by simp)
    have b6 := hb x6 (by simp)
    have b7 := hb x7 (by simp)
    have g2 : x1 ≤ 127 := of_decide_eq_true (Bool.and_eq_true_iff.1 hg).2
    refine ⟨((x2 * 256 + x3 : Nat) : Int), ((((x4 * 256 + x5) * 256 + x6) * 256 + x7 : Nat) : Int), ((x0 % 4 : Nat) : Int), (x1 : Int), decide (160 ≤ x0), L, ?_, ?_⟩
    · unfold PM.fault
      rw [if_pos (by omega), if_pos hL]
    · intro W a1 m1 c1 hA hc
      have hn := hA.2.1
      simp at hn
      obtain ⟨b, o, rfl⟩ := Pack.arg_at hA (by omega)
      refine (Pack.read_good b o m1 c1 x0 x1 x2 x3 x4 x5 x6 x7 L W hA hc hg hL).mono ?_
      rintro ev w' ⟨a', c', rfl, ho, hbl⟩
      obtain ⟨a2, c2, hv, q1, q2, q3, q4⟩ := own_slice ho (fun c hcc => hb c (by simp [hcc])) (by omega)
      cases hv
      exact ⟨a', c', rfl, hbl, q1, q2, fun ad e => by obtain ⟨g, rfl, hg⟩ := q4 ad e; exact hg⟩
  · exact ⟨0, 0, 0, 0, false, [], by decide, fun W a1 m1 c1 hA _ => absurd hA.1.1 hb⟩
set_option maxHeartbeats 1000000 in
set_option maxRecDepth 100000 in
theorem hearFrame_none (n b k : Nat) (o : Nat → Tg) (P : NP) (N : Nd) (fr now og ep h s t l q : Int) (st : Bool) (a : Option Addr) (m cap : Nat) (L : List Nat) (w : World) (hN : NAt w o n b P N) (hi : k < 8) (ht : N.tr k = none) (B : List Nat) (CF0 : Calls Tryz.prog 13 #[.slice a m cap] w fun e w' => ∃ a' m' c', e = .returned (.tuple #[.agg #[.int .i64 ((k : Int) + 1), .int .i64 og, .int .i64 ep, .int .i64 h, .slice a' m' c'], .nilIface]) ∧ Below w.heap.size w w' ∧ Arg w' a' m' B ∧ m' ≤ c' ∧ ∀ ad, a' = some ad → w.heap.size ≤ ad.block) (CP0 : ∀ W a1 m1 c1, Arg W a1 m1 B → m1 ≤ c1 → Calls Tryz.prog 35 #[.slice a1 m1 c1] W fun e w' => ∃ a' c', e = .returned (.tuple #[.agg #[.int .i64 s, .int .i64 t, .int .i64 l, .int .i64 q, .bool st, .slice a' L.length c'], .nilIface]) ∧ Below W.heap.size W w' ∧ Arg w' a' L.length L ∧ (a' = none → L.length = 0 ∧ c' = 0) ∧ ∀ ad, a' = some ad → W.heap.size ≤ ad.block) :
    Calls Tryz.prog 24 #[.pointer (some ⟨b, 0, none⟩), .int .i64 fr, .slice a m cap, .int .i64 now] w fun e w' => e = .returned (errv 5) ∧ Below w.heap.size w w' := by
  have CF := hidden CF0
  have CP := hidden CP0
  obtain ⟨hk3, hk5, hk4⟩ := k_facts hi
  have HN := hidden hN
  have HTr := hidden ht
  obtain ⟨ll, hll⟩ : ∃ ll, L.length = ll := ⟨_, rfl⟩
  rw [hll] at CP
  clear hN ht hll CF0 CP0
  go_enter Tryz.func24, Tryz.ntmps24
  go_wp2_with fail
  refine CF.out.mono ?_
  rintro e w1 ⟨a1, m1, c1, rfl, hb1, hA1, hm1, hf1⟩
  obtain ⟨W1, hW1⟩ : ∃ W1, w1.alloc (.cells #[.int .i64 ((k : Int) + 1), .int .i64 og, .int .i64 ep, .int .i64 h, .slice a1 m1 c1] 45) = W1 := ⟨_, rfl⟩
  have hB1 : Below w1.heap.size w1 W1 := by rw [← hW1]; exact (Below.refl _ _).alloc (Nat.le_refl _) _
  have hbf : W1.heap[w1.heap.size]? = some (.cells #[.int .i64 ((k : Int) + 1), .int .i64 og, .int .i64 ep, .int .i64 h, .slice a1 m1 c1] 45 (0, 0)) := by rw [← hW1]; exact heap_alloc_new w1 _
  have CP1 := hidden (CP.out W1 a1 m1 c1 (hA1.below hB1) hm1)
  have c4 : W1.cell? ⟨w1.heap.size, 4, none⟩ = some (.slice a1 m1 c1) := by simp [World.cell?, hbf]
  obtain ⟨fb, hfb⟩ : ∃ fb, w1.heap.size = fb := ⟨_, rfl⟩
  rw [hfb] at hbf c4
  have HBF := hidden hbf
  have HB1 := hidden (hb1.trans (hB1.mono hb1.size))
  have HW1 := hidden hW1
  clear hb1 hA1 hm1 hf1 hW1 hB1 hbf CP CF
  go_upto_region 4 with fail
  first | rw [HW1.out] | skip
  clear hfb
  go_wp2_with fail
  refine CP1.out.mono ?_
  rintro e w2 ⟨a2, c2, rfl, hb2, hA2, hno2, hf2⟩
  obtain ⟨W2, hW2⟩ : ∃ W2, w2.alloc (.cells #[.int .i64 s, .int .i64 t, .int .i64 l, .int .i64 q, .bool st, .slice a2 ll c2] 32) = W2 := ⟨_, rfl⟩
  have hB2 : Below w2.heap.size w2 W2 := by rw [← hW2]; exact (Below.refl _ _).alloc (Nat.le_refl _) _
  have hbf2 : W2.heap[fb]? = some (.cells #[.int .i64 ((k : Int) + 1), .int .i64 og, .int .i64 ep, .int .i64 h, .slice a1 m1 c1] 45 (0, 0)) := (hB2.block _ (by have := lt_of_block HBF.out; have := hb2.size; omega)).trans ((hb2.block _ (lt_of_block HBF.out)).trans HBF.out)
  have hBt : Below w.heap.size w W2 := (HB1.out.trans (hb2.mono HB1.out.size)).trans (hB2.mono (by have := HB1.out.size; have := hb2.size; omega))
  have ct := (HN.out.below hBt).track hi
  rw [HTr.out] at ct
  simp only [tpv] at ct
  have f0 : W2.cell? ⟨fb, 0, none⟩ = some (.int .i64 ((k : Int) + 1)) := by simp [World.cell?, hbf2]
  have HBt := hidden hBt
  have HW2 := hidden hW2
  clear hb2 hA2 hno2 hf2 hW2 hB2 hbf2 hBt c4 CP1
  go_upto_region 7 with fail
  first | rw [HW2.out] | skip
  go_quiet (fail)
  go_wp2_with fail
  go_ret
  exact ⟨rfl, below_drewN' HBt.out⟩
/-- what a call leaves -/
def Res (Φ : Nat → Nd → Prop) (w w' : World) (o : Nat → Tg) (n b : Nat) (N : Nd) (f : Nat) : Prop := (f = 0 → ∃ N', Φ f N' ∧ Done w w' o n b N') ∧ (f ≠ 0 → Φ f N ∧ Below w.heap.size w w')
theorem hearFrame_any (n b : Nat) (o : Nat → Tg) (P : NP) (N : Nd) (tr : Tr) (fr now : Int) (a : Option Addr) (m cap : Nat) (B : List Nat) (w : World) (hn : n ≠ 0) (hN : NAt w o n b P N) (ht : N.tr 0 = some tr) (hnone : ∀ i, i ≠ 0 → N.tr i = none) (hG : GM.Inv 3 3 tr.gn tr.gT tr.gM) (hR : RM.Inv 64 tr.rT tr.rM) (hA : Arg w a m B) (hc : m ≤ cap) (hr : m ≤ 140737488355328) (hsb : N.sb = []) (hls : SInv N.sb N.ls) (hl : N.lt.length + tr.kids.length ≤ 1000000) :
    Calls Tryz.prog 24 #[.pointer (some ⟨b, 0, none⟩), .int .i64 fr, .slice a m cap, .int .i64 now] w fun e w' => ∃ f, e = .returned (errv f) ∧ Res (fun f _ => FM.bfault B ≠ 0 → f ≠ 0) w w' o n b N f := by
  by_cases hf : FM.bfault B = 0
  · obtain ⟨k, hk, e1, e2, e3⟩ := frame_is hf
    obtain ⟨s, t, l, q, st, L, hpf, hP⟩ := pack_is e3
    have CF : Calls Tryz.prog 13 #[.slice a m cap] w fun e w' => ∃ a' m' c', e = .returned (.tuple #[.agg #[.int .i64 ((k : Int) + 1), .int .i64 ((FM.bfr B).og : Int), .int .i64 ((FM.bfr B).ep : Int), .int .i64 ((FM.bfr B).hp : Int), .slice a' m' c'], .nilIface]) ∧ Below w.heap.size w w' ∧ Arg w' a' m' (FM.bfr B).body ∧ m' ≤ c' ∧ ∀ ad, a' = some ad → w.heap.size ≤ ad.block := by
      refine (Frame.fread_all a m cap B w hA hc hr).mono ?_
      rintro e w' ⟨a', m', c', rfl, q1, q2, q3, q4, q5⟩
      refine ⟨a', m', c', ?_, q1, q2, q3, q5⟩
      rw [hf, e1]
      rfl
    by_cases hk0 : k = 0
    · subst hk0
      refine (hearFrame_via n b 0 o P N tr fr now _ _ _ s t l q st a m cap L w hn hN (by omega) ht hG hR _ CF hP ⟨by omega, by omega⟩ hpf hsb hls hl).mono ?_
      rintro e w' ⟨rfl, h1, h2⟩
      exact ⟨_, rfl, fun h0 => by obtain ⟨bv, hd⟩ := h1 h0; exact ⟨_, fun hx => absurd hf hx, hd⟩, fun h0 => ⟨fun hx => absurd hf hx, h2 h0⟩⟩
    · refine (hearFrame_none n b k o P N fr now _ _ _ s t l q st a m cap L w hN hk (hnone k hk0) _ CF hP).mono ?_
      rintro e w' ⟨rfl, hb⟩
      exact ⟨5, rfl, fun h0 => absurd h0 (by omega), fun _ => ⟨fun hx => absurd hf hx, hb⟩⟩
  · refine (hearFrame_bad b fr now a m cap B w hA hc hr hf).mono ?_
    rintro e w' ⟨rfl, hb⟩
    exact ⟨_, rfl, fun h0 => absurd h0 hf, fun h0 => ⟨fun _ => h0, hb⟩⟩
theorem head_cell {w : World} {b o m : Nat} {B : List Nat} (h : Arg w (some ⟨b, o, none⟩) m B) (hm : 0 < m) : ∃ x, B.head? = some x ∧ x < 256 ∧ w.cell? ⟨b, o, none⟩ = some (.int .u8 (x : Int)) := by
  match B, h with
  | [], h => have := h.2.1; simp at this; omega
  | x :: B, h =>
    refine ⟨x, rfl, h.1.1 x (by simp), ?_⟩
    have := Pack.arg_cell h 0 hm
    simpa using this
set_option maxHeartbeats 2000000 in
set_option maxRecDepth 100000 in
/-- Hear, of whatever bytes: by what hearFrame and hearBack make of them -/
theorem hear_gen (n b : Nat) (o : Nat → Tg) (P : NP) (N : Nd) (fr now : Int) (a : Option Addr) (m cap : Nat) (B : List Nat) (w : World) (Φ : Nat → Nd → Prop) (hn : n ≠ 0) (hN : NAt w o n b P N) (hnow : GM.tf N.nw now = 0) (hA : Arg w a m B)
    (HF : ∀ W, Below w.heap.size w W → B.head? = some 70 → Calls Tryz.prog 24 #[.pointer (some ⟨b, 0, none⟩), .int .i64 fr, .slice a m cap, .int .i64 now] W fun e w' => ∃ f, e = .returned (errv f) ∧ Res Φ W w' (grow o w nobody) n b N f)
    (HB : ∀ W, Below w.heap.size w W → B.head? ≠ some 70 → Calls Tryz.prog 25 #[.pointer (some ⟨b, 0, none⟩), .int .i64 fr, .slice a m cap] W fun e w' => ∃ f, e = .returned (errv f) ∧ Res Φ W w' (grow o w nobody) n b N f) :
    Calls Tryz.prog 9 #[.pointer (some ⟨b, 0, none⟩), .int .i64 fr, .slice a m cap, .int .i64 now] w fun e w' => ∃ f, e = .returned (errv f) ∧ (f = 0 → ∃ N', Φ f N' ∧ Done w w' o n b { N' with nw := now }) ∧ (f ≠ 0 → Φ f N ∧ Below w.heap.size w w') := by
  have CA := hidden (Gaps.at_calls N.nw now w)
  rw [if_pos hnow, hnow] at CA
  obtain ⟨o0, ho0⟩ : ∃ o0, grow o w nobody = o0 := ⟨_, rfl⟩
  rw [ho0] at HF HB
  have he0 : Ext w o o0 := by rw [← ho0]; exact grow_ext o w nobody
  have hnew : ∀ j, w.heap.size ≤ j → (o0 j).n = 0 := fun j hj => by rw [← ho0, grow_new hj]
  have c0 := hN.cells.1
  obtain ⟨nw, hnw⟩ : ∃ nw, N.nw = nw := ⟨_, rfl⟩
  rw [hnw] at c0 CA
  have HE0 := hidden he0
  have HNew := hidden hnew
  have HHF := hidden HF
  have HHB := hidden HB
  have HA := hidden hA
  -- behind hearFrame or hearBack
  have HEnd : Hid (∀ W1 w2 f cb, Below w.heap.size w W1 → W1.heap[cb]? = some (.cells #[.int .i64 now] 58 (0, 0)) → w.heap.size ≤ cb → Res Φ W1 w2 o0 n b N f → (f = 0 → w2.cell? ⟨cb, 0, none⟩ = some (.int .i64 now) ∧ (∃ v, w2.cell? ⟨b, 0, none⟩ = some v) ∧ w2.frozen? ⟨b, 0, none⟩ = false ∧ ∃ N', Φ f N' ∧ Done w (w2.setCell ⟨b, 0, none⟩ (.int .i64 now)) o n b { N' with nw := now }) ∧ (f ≠ 0 → Φ f N ∧ Below w.heap.size w w2)) := by
    refine hidden ?_
    intro W1 w2 f cb hB1 hbk hcb hRs
    refine ⟨fun h0 => ?_, fun h0 => ⟨(hRs.2 h0).1, hB1.trans ((hRs.2 h0).2.mono hB1.size)⟩⟩
    obtain ⟨N', hΦ, o2, P2, r1, r2, r3⟩ := hRs.1 h0
    have hcell : w2.heap[cb]? = some (.cells #[.int .i64 now] 58 (0, 0)) := lets_body hn r3 hbk (hnew _ hcb)
    have hfin := r1.setN hn now
    have hcf := chg_mine (r1.chgB 0 (.int .i64 now))
    refine ⟨by simp [World.cell?, hcell], ⟨_, r1.cells.1⟩, r1.free 0, N', hΦ, o2, P2, hfin, fun j hj => ?_, ?_⟩
    · rw [r2 j (by have := hB1.size; omega)]
      exact he0 j hj
    · exact (Chg.of_below hB1 o _).trans (r3.trans hcf r2) he0
  clear hN hnow hA ho0 he0 hnew hnw HF HB
  go_enter Tryz.func9, Tryz.ntmps9
  go_wp2_with fail
  refine CA.out.mono ?_
  rintro e w1 ⟨rfl, hb1⟩
  rw [show Gaps.errv 0 = Value.nilIface from rfl]
  obtain ⟨W1, hW1⟩ : ∃ W1, w1.alloc (.cells #[.int .i64 now] 58) = W1 := ⟨_, rfl⟩
  have hB1 : Below w.heap.size w W1 := by rw [← hW1]; exact hb1.alloc hb1.size _
  have hbk : W1.heap[w1.heap.size]? = some (.cells #[.int .i64 now] 58 (0, 0)) := by rw [← hW1]; exact heap_alloc_new w1 _
  have hcbs : w.heap.size ≤ w1.heap.size := hb1.size
  obtain ⟨cb, hcb⟩ : ∃ cb, w1.heap.size = cb := ⟨_, rfl⟩
  rw [hcb] at hbk hcbs
  have HX := hidden (And.intro hB1 (And.intro hbk hcbs))
  have HW1 := hidden hW1
  clear hb1 hW1 hB1 hbk hcbs CA c0
  go_upto_region 4 with fail
  first | rw [HW1.out] | skip
  clear hcb
  by_cases hm : m = 0
  · subst hm
    have hB0 : B.head? ≠ some 70 := by
      have := HA.out.2.1
      rw [List.length_eq_zero_iff.1 this]
      simp
    have CH := hidden (HHB.out W1 HX.out.1 hB0)
    clear HHF HHB HA hB0
    go_wp2_with fail
    refine CH.out.mono ?_
    rintro e w2 ⟨fl, rfl, hRs⟩
    have hE := HEnd.out W1 w2 fl cb HX.out.1 HX.out.2.1 HX.out.2.2 hRs
    have HE := hidden hE
    have q1 := cmp_ne fl
    have q2 := grd_ne fl
    clear hRs hE HEnd CH
    by_cases hf0 : fl = 0
    · have d0 : decide (fl = 0) = true := by simpa using hf0
      obtain ⟨ck, ⟨v, cc⟩, ff, hdone⟩ := HE.out.1 hf0
      have HD := hidden hdone
      have HF0 := hidden hf0
      clear hdone hf0 HE
      go_wp2_with fail
      go_ret
      exact ⟨fl, by rw [HF0.out]; rfl, fun _ => HD.out, fun h => absurd HF0.out h⟩
    · have d0 : decide (fl = 0) = false := by simpa using hf0
      have HF0 := hidden hf0
      clear hf0
      go_wp2_with fail
      go_ret
      exact ⟨fl, rfl, fun h => absurd h HF0.out, fun _ => HE.out.2 HF0.out⟩
  · have hm0 : 0 < m := by omega
    have hmz : (0 : Int) < (m : Int) := by omega
    have hmd : decide ((0 : Int) < (m : Int)) = true := by simpa using hm0
    have hmd2 : decide (0 < m) = true := by simpa using hm0
    obtain ⟨ba, oa, rfl⟩ := Pack.arg_at HA.out hm0
    obtain ⟨x, hx, hx2, cx⟩ := head_cell HA.out hm0
    have c70 := ext_cell HX.out.1 cx
    by_cases h70 : x = 70
    · subst h70
      have CH := hidden (HHF.out W1 HX.out.1 hx)
      clear HHF HHB HA hx hx2 cx hm
      go_wp2_with fail
      refine CH.out.mono ?_
      rintro e w2 ⟨fl, rfl, hRs⟩
      have hE := HEnd.out W1 w2 fl cb HX.out.1 HX.out.2.1 HX.out.2.2 hRs
      have HE := hidden hE
      have q1 := cmp_ne fl
      have q2 := grd_ne fl
      clear hRs hE HEnd CH
      by_cases hf0 : fl = 0
      · have d0 : decide (fl = 0) = true := by simpa using hf0
        obtain ⟨ck, ⟨v, cc⟩, ff, hdone⟩ := HE.out.1 hf0
        have HD := hidden hdone
        have HF0 := hidden hf0
        clear hdone hf0 HE
        go_wp2_with fail
        go_ret
        exact ⟨fl, by rw [HF0.out]; rfl, fun _ => HD.out, fun h => absurd HF0.out h⟩
      · have d0 : decide (fl = 0) = false := by simpa using hf0
        have HF0 := hidden hf0
        clear hf0
        go_wp2_with fail
        go_ret
        exact ⟨fl, rfl, fun h => absurd h HF0.out, fun _ => HE.out.2 HF0.out⟩
    · have CH := hidden (HHB.out W1 HX.out.1 (by rw [hx]; simpa using h70))
      have h71 : ((x : Int) == 70) = false := by
        have : (x : Int) ≠ 70 := by omega
        simpa using this
      clear HHF HHB HA hx hx2 cx hm h70
      go_wp2_with fail
      refine CH.out.mono ?_
      rintro e w2 ⟨fl, rfl, hRs⟩
      have hE := HEnd.out W1 w2 fl cb HX.out.1 HX.out.2.1 HX.out.2.2 hRs
      have HE := hidden hE
      have q1 := cmp_ne fl
      have q2 := grd_ne fl
      clear hRs hE HEnd CH
      by_cases hf0 : fl = 0
      · have d0 : decide (fl = 0) = true := by simpa using hf0
        obtain ⟨ck, ⟨v, cc⟩, ff, hdone⟩ := HE.out.1 hf0
        have HD := hidden hdone
        have HF0 := hidden hf0
        clear hdone hf0 HE
        go_wp2_with fail
        go_ret
        exact ⟨fl, by rw [HF0.out]; rfl, fun _ => HD.out, fun h => absurd HF0.out h⟩
      · have d0 : decide (fl = 0) = false := by simpa using hf0
        have HF0 := hidden hf0
        clear hf0
        go_wp2_with fail
        go_ret
        exact ⟨fl, rfl, fun h => absurd h HF0.out, fun _ => HE.out.2 HF0.out⟩
end Go.Proofs.YtijfocggdjjnjaiGreat.ND

