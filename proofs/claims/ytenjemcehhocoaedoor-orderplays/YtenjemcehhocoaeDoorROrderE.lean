/-
  What the reference's Order's method Pop returns, whatever it is given, and what it leaves in memory. Its condition: what is kept is such as it may be.
-/
import Derived.Test.YtenjemcehhocoaeDoorROrderD
namespace Go.Proofs.YtenjemcehhocoaeDoor.ROrder
open Go.ChangeShapes Go.WideShapes Go.ChangeAt Go.RowKit Go.Proofs.YtenjemcehhocoaeDoor.PM Go.Proofs.YtenjemcehhocoaeDoor.Mem Go.Proofs.YtenjemcehhocoaeDoor.Pack Go.Proofs.YtenjemcehhocoaeDoor.OM Go.Proofs.YtenjemcehhocoaeDoor.Order
set_option linter.unusedVariables false

/-- so far none, or one, has waited long enough -/
theorem any_succ {M : Its} {wt now : Int} {m : Nat} {i : Kp} (hi : M[m]? = some i) : (M.take (m + 1)).any (late wt now) = ((M.take m).any (late wt now) || late wt now i) := by
  rw [List.take_add_one, hi]
  simp

set_option maxHeartbeats 8000000 in
set_option maxRecDepth 100000 in
theorem rpop_ok (base b : Nat) (wt nw nx now od : Int) (M : Its) (v : Value) (K : Nat) (w : World) (h : RefAt w base b wt nw nx M v) (hI : OM.Inv nw nx M) (hS : Slices M) (hbase : base ≤ w.heap.size) (ht : tf nw now = 0) (hO : Od wt now M od) (hK : Stop M od nx K) (hK2 : K ≤ 200) (hw0 : 0 ≤ wt) (hw1 : wt ≤ 1000000) :
    Calls Tryd.prog 10 #[.pointer (some ⟨b, 0, none⟩), .int .i64 now] w fun e w' => ∃ av cv v', e = .returned (.tuple #[.slice av K cv, .int .i64 0]) ∧ w'.ownsRow w.heap.size 64 8 (.slice av K cv) K (flat c8 (takes M nx K)) ∧ RefAt w' base b wt now (nx + (K : Int)) (rest M (nx + (K : Int))) v' ∧ Only [b] w w' := by
  obtain ⟨i0, hii, hz0, hz1, hz2⟩ := info_parts infoIT
  obtain ⟨j0, hji, hy0, hy1, hy2⟩ := info_parts infoKT
  obtain ⟨t0, t1, t2⟩ := tf_zero ht
  have hT := fun w h => time_calls b nw now w h
  rw [ht] at hT
  have HT := hidden hT
  have hlen : ∀ x, (rest M x).length ≤ 200 := fun x => Nat.le_trans (List.length_filter_le _ _) hI.len
  have HLen := hidden hlen
  have HI := hidden hI
  have HO := hidden hO
  have HK := hidden hK
  have HS := hidden hS
  have x1 := hI.x1
  have x2 := hI.x2
  have HR := hidden h
  obtain ⟨c0, c1, c2, c3⟩ := h.cells
  have f1 := freeb h.box 1
  have hblt : b < w.heap.size := lt_of_block h.box
  have HQ0 : Hid (QSt w (w.setCell ⟨b, 1, none⟩ (.int .i64 now)) base w.heap.size b wt now nx M 0 0 v (.slice none 0 0)) := by
    have e0 : nx + ((0 : Nat) : Int) = nx := by omega
    refine ⟨?_, by simpa [takes, flat] using World.ownsRow_nil (w.setCell ⟨b, 1, none⟩ (.int .i64 now)) w.heap.size 64 8, (Only.refl _ _).setCell (by simp) _, hblt, by simp [World.setCell], Nat.le_refl _⟩
    rw [e0, rest_all hI]
    exact h.set 1 _ rfl
  clear h hI hS ht hO hK hT hlen
  go_enter Tryd.func10, Tryd.ntmps10
  go_wp2_with fail
  refine (HT.out _ (by exact c1)).mono ?_
  rintro e w1 ⟨rfl, rfl⟩
  clear HT
  go_wp2_with fail
  clear c0 c1 c2 c3 f1 HR
  generalize hB : w1.heap.size = B at *
  have HB := hidden hB
  clear hB
  go_loopg [7] K (fun gh v' wr => ∃ (k : Nat) (av : Option Addr) (cv : Nat) (lv : Value), k + gh = K ∧ v' = .slice av k cv ∧ Hid (QSt w1 wr base B b wt now nx M k k lv (.slice av k cv)))
  case atStart => exact ⟨0, none, 0, v, by omega, rfl, HQ0⟩
  case round =>
    obtain ⟨k, av, cv, lv, hkg, rfl, HQ⟩ := hrel
    clear HQ0
    obtain ⟨xk, hxk⟩ : ∃ xk, nx + (k : Int) = xk := ⟨_, rfl⟩
    have HXk := hidden hxk
    have hxb : -1 ≤ xk ∧ xk ≤ 1099511627977 := by omega
    obtain ⟨hxb0, hxb1⟩ := hxb
    have hrf := HQ.out.ref
    rw [hxk] at hrf
    clear hxk
    obtain ⟨Mk, hMk⟩ : ∃ Mk, rest M xk = Mk := ⟨_, rfl⟩
    rw [hMk] at hrf
    have HMk := hidden hMk
    have hlk : Mk.length ≤ 200 := by rw [← hMk]; exact HLen.out xk
    have HRf := hidden hrf
    obtain ⟨la, lc, rfl⟩ := own_form hrf.row
    obtain ⟨c0, c1, c2, c3⟩ := hrf.cells
    clear hMk hrf
    by_cases hh : has M xk = true
    · have hkK : k < K := by
        rcases Nat.lt_or_ge k K with h | h
        · exact h
        · obtain rfl : k = K := by omega
          have := HK.out.stop
          rw [HXk.out] at this
          simp [goes, hh] at this
      have hhk : has Mk xk = true := by rw [← HMk.out, rest_has]; exact hh
      have hpos : 0 < Mk.length := by
        obtain ⟨i, hi, _⟩ := has_iff.1 hhk
        exact List.length_pos_of_mem hi
      have hpz : (0 : Int) < (Mk.length : Int) := by omega
      obtain ⟨g, hla⟩ : ∃ g, la = some ⟨g, 0, none⟩ := by
        rcases row_form HRf.out.row with ⟨_, e⟩ | ⟨g, c, e, _⟩
        · rw [e] at hpos; simp at hpos
        · simp only [Value.slice.injEq] at e; exact ⟨g, e.1⟩
      subst hla
      have HAt := hidden (at_yes base b wt now xk xk Mk _ wr HRf.out (by omega) hhk)
      have hcap : Mk.length ≤ lc := own_cap HRf.out.row
      clear hh hhk
      go_wp2_with fail
      refine HAt.out.mono ?_
      rintro e w2 ⟨j, i, rfl, rfl, hj, hin⟩
      have hjl : j < Mk.length := (List.getElem?_eq_some_iff.1 hj).1
      have hj0 : (0 : Int) ≤ (j : Int) := by omega
      have hjz : (j : Int) < (Mk.length : Int) := by omega
      have hsl : Slices Mk := by rw [← HMk.out]; exact HS.out.sub fun i hi => (List.mem_filter.1 hi).1
      obtain ⟨ba, bm, bc, hbv⟩ := hsl i (List.mem_of_getElem? hj)
      have hr := fun c (hc : c < 9) => row_cell c9_len HRf.out.row hj c hc
      have r0 := hr 0 (by omega)
      have r1 := hr 1 (by omega)
      have r2 := hr 2 (by omega)
      have r3 := hr 3 (by omega)
      have r4 := hr 4 (by omega)
      have r5 := hr 5 (by omega)
      have r6 := hr 6 (by omega)
      have r7 := hr 7 (by omega)
      unfold c9 at r0 r1 r2 r3 r4 r5 r6 r7
      rw [hbv] at r7
      simp only [Nat.add_zero, List.getElem?_cons_zero, List.getElem?_cons_succ] at r0 r1 r2 r3 r4 r5 r6 r7
      have HIt : Hid (itm M xk = i) := by
        have a1 : itm Mk i.n = i := itm_eq (by rw [← HMk.out]; exact HI.out.one.filter _) (List.mem_of_getElem? hj)
        rw [hin, ← HMk.out, rest_itm HI.out.one] at a1
        exact a1
      have HC8 : Hid (c8 i = [.int .i64 xk, .bool i.g, .int .i64 i.p.s, .int .i64 i.p.t, .int .i64 i.p.l, .int .i64 i.p.q, .bool i.p.st, .slice ba bm bc]) := by
        refine hidden ?_
        unfold c8
        rw [hbv, hin]
      have HEr : Hid (Mk.take j ++ Mk.drop (j + 1) = (rest M xk).filter fun k => decide (k.n ≠ xk)) := by
        rw [HMk.out, ← hin]
        exact erase_eq (by rw [← HMk.out]; exact HI.out.one.filter _) hj
      have H9 := hidden (flat9_one hsl)
      rw [hin] at r0
      have HJ := hidden hj
      clear hr hj hin hbv hsl HAt
      generalize i.g = ig at *
      generalize i.p.s = is at *
      generalize i.p.t = it at *
      generalize i.p.l = il at *
      generalize i.p.q = iq at *
      generalize i.p.st = ist at *
      go_wp2_with (at_builtin; refine wpList_append_own _ rfl _ _ 45 rfl B 64 i0 _ 8 80 Tryd.underlying45 hii hz0 hz1 hz2 rfl (by decide) _ k (flat c8 (takes M nx k)) rfl ?own ⟨w2.heap.size, 0, none⟩ 1 1 [.int .i64 xk, .bool ig, .int .i64 is, .int .i64 it, .int .i64 il, .int .i64 iq, .bool ist, .slice ba bm bc] rfl rfl ?c1 ?c2 ?b1 ?b2 ?b3 ?next)
      case own => exact HQ.out.out.alloc _
      case c1 => exact World.news_of_block (cs := #[.int .i64 xk, .bool ig, .int .i64 is, .int .i64 it, .int .i64 il, .int .i64 iq, .bool ist, .slice ba bm bc]) (t := 64) (fr := (0, 0)) (heap_alloc_new w2 _)
      case c2 => intro u hu'; simp at hu'; rcases hu' with rfl | rfl | rfl | rfl | rfl | rfl | rfl | rfl <;> rfl
      case b1 => unfold maxLen; omega
      case b2 => omega
      case b3 => have := HQ.out.ltB; simp; omega
      case next =>
        intro v' w3 hown hgrow _
        obtain ⟨g', c', rfl⟩ : ∃ g' c', v' = .slice (some ⟨g', 0, none⟩) (k + 1) c' := by
          rcases hown.2 with ⟨_, h⟩ | ⟨g', c', _, h, _⟩
          · omega
          · exact ⟨g', c', h⟩
        have HQ3 : Hid (QSt w1 w3 base B b wt now nx M k (k + 1) (.slice (some ⟨g, 0, none⟩) Mk.length lc) (.slice (some ⟨g', 0, none⟩) (k + 1) c')) :=
          HQ.out.add hgrow (by rw [HXk.out, HIt.out, HC8.out]; exact hown)
        clear hown hgrow r0 r1 r2 r3 r4 r5 r6 r7 c0 c1 c2 c3
        have hrf3 := HQ3.out.ref
        rw [HXk.out, HMk.out] at hrf3
        have HR3 := hidden hrf3
        obtain ⟨c0, c1, c2, c3⟩ := hrf3.cells
        clear hrf3
        have s0 := cut_high (some ⟨g, 0, none⟩) Mk.length lc j (by omega)
        obtain ⟨ol, s1, hol⟩ := cut_low g Mk.length lc (j + 1) (by omega) hcap
        have ej : ((j + 1 : Nat) : Int) = (j : Int) + 1 := by omega
        rw [ej] at s1
        have HOl := hidden hol
        clear ej hol
        have hB3 : base ≤ w3.heap.size := Nat.le_trans hbase HQ3.out.ltB
        go_wp2_with (at_builtin; refine append_any rfl _ _ 31 rfl w3.heap.size 66 j0 _ 9 88 Tryd.underlying31 hji hy0 hy1 hy2 rfl (by decide) _ 0 [] rfl (World.ownsRow_nil _ _ _ _) (some ⟨g, 0, none⟩) j lc (flat c9 (Mk.take j)) rfl ?al (fun e => by simp at e) ?ac ?ao ?b1 ?b2 ?b3 ?next)
        case al => rw [flat_len c9_len, List.length_take, Nat.min_eq_left (by omega)]
        case ac =>
          intro ad ha p u hp
          simp only [Option.some.injEq] at ha
          subst ha
          rw [add_plain, Nat.zero_add]
          exact own_cell c9_len HR3.out.row (flat_take c9_len Mk j p u hp)
        case ao =>
          intro u hu
          obtain ⟨p, hp, e⟩ := List.mem_iff_getElem.1 hu
          exact H9.out u (List.mem_of_getElem? (flat_take c9_len Mk j p u (by rw [List.getElem?_eq_getElem hp, e])))
        case b1 => unfold maxLen; omega
        case b2 => omega
        case b3 => omega
        case next =>
          intro l1 w4 hown4 hgrow4
          obtain ⟨a4, c4, rfl⟩ := own_form hown4
          have HO4 := hidden hown4
          have HG4 := hidden hgrow4
          have HL4 : Hid (∀ q, (Value.slice a4 j c4).ownBlock = some q → w3.heap.size ≤ q) := hidden (fun q hq => (hown4.lt q hq).1)
          have hrf4 : RefAt w4 base b wt now xk Mk (.slice (some ⟨g, 0, none⟩) Mk.length lc) := HR3.out.only (bs := []) ((Only.refl _ _).grown hgrow4 (by simp [Value.ownBlock])) (by simp) (by simp)
          have HR4 := hidden hrf4
          obtain ⟨d0, d1, d2, d3⟩ := hrf4.cells
          have hs4 : w3.heap.size ≤ w4.heap.size := hgrow4.size
          clear hown4 hgrow4 hrf4
          go_wp2_with (at_builtin; refine append_any rfl _ _ 31 rfl w3.heap.size 66 j0 _ 9 88 Tryd.underlying31 hji hy0 hy1 hy2 rfl (by decide) _ j (flat c9 (Mk.take j)) rfl ?own (some ⟨g, ol, none⟩) (Mk.length - (j + 1)) (lc - (j + 1)) (flat c9 (Mk.drop (j + 1))) rfl ?al (fun e => by simp at e) ?ac ?ao ?b1 ?b2 ?b3 ?next)
          case own => exact HO4.out
          case al => rw [flat_len c9_len, List.length_drop]
          case ac =>
            intro ad ha p u hp
            simp only [Option.some.injEq] at ha
            subst ha
            have hlt := (List.getElem?_eq_some_iff.1 hp).1
            rw [flat_len c9_len, List.length_drop] at hlt
            rw [add_plain, HOl.out (by omega)]
            exact own_cell c9_len HR4.out.row (flat_drop c9_len Mk (j + 1) p u (by omega) hp)
          case ao =>
            intro u hu
            obtain ⟨p, hp, e⟩ := List.mem_iff_getElem.1 hu
            exact H9.out u (List.mem_of_getElem? (flat_drop c9_len Mk (j + 1) p u (by omega) (by rw [List.getElem?_eq_getElem hp, e])))
          case b1 => unfold maxLen; omega
          case b2 => omega
          case b3 => omega
          case next =>
            intro l3 w5 hown5 hgrow5
            obtain ⟨a5, c5, rfl⟩ := own_form hown5
            obtain ⟨hbox5, hq5⟩ := HQ3.out.drop (l3 := .slice a5 (j + (Mk.length - (j + 1))) c5) (n3 := j + (Mk.length - (j + 1))) HI.out.one (by have := HB.out; omega) rfl (by simpa [Value.ownBlock] using HG4.out) hgrow5 HL4.out (by rw [HXk.out, ← HEr.out, flat_app]; exact hown5) (by rw [HXk.out, ← HEr.out, List.length_append, List.length_take, List.length_drop, Nat.min_eq_left (by omega)])
            rw [HXk.out] at hbox5 hq5
            have HQ5 := hidden hq5
            obtain ⟨e0, e1, e2, e3⟩ := cells4 hbox5
            have g2 := freeb hbox5 2
            have g3 := freeb hbox5 3
            clear hown5 hgrow5 hbox5 hq5
            go_wp2_with fail
            go_roundg (K - (k + 1))
            case measure => omega
            case rel => exact ⟨k + 1, some ⟨g', 0, none⟩, c', _, by omega, rfl, HQ5⟩
    · have hh' : has M xk = false := by simpa using hh
      have hany := late_any HI.out HO.out hxb0 hh'
      rw [HMk.out] at hany
      have HAny := hidden hany
      have HNo := hidden hh'
      have hgo : goes M od xk = decide (xk < od) := by simp [goes, hh']
      have HGo := hidden hgo
      clear hh hany hgo
      by_cases he : Mk.length = 0
      · have hod : ¬ xk < od := by
          intro hc
          have h1 := HAny.out
          rw [List.eq_nil_of_length_eq_zero he] at h1
          simp at h1
          omega
        obtain rfl : k = K := by
          rcases Nat.lt_or_ge k K with h | h
          · have h1 := HK.out.all k h
            rw [HXk.out, HGo.out] at h1
            simp at h1
            exact absurd h1 hod
          · omega
        rw [he] at c3
        clear hh'
        go_wp2_with fail
        go_ret2
        exact ⟨av, cv, rfl, own_base HQ.out.out HQ.out.le, ⟨_, HQ.out.ref⟩, HQ.out.only⟩
      · have hpz : (0 : Int) < (Mk.length : Int) := by omega
        obtain ⟨g, hla⟩ : ∃ g, la = some ⟨g, 0, none⟩ := by
          rcases row_form HRf.out.row with ⟨_, e⟩ | ⟨g, c, e, _⟩
          · rw [e] at he; simp at he
          · simp only [Value.slice.injEq] at e; exact ⟨g, e.1⟩
        subst hla
        have HAt := hidden (at_no base b wt now xk xk Mk _ wr HRf.out (by omega) (by rw [← HMk.out, rest_has]; exact hh'))
        clear hh'
        go_wp2_with fail
        refine HAt.out.mono ?_
        rintro e w2 ⟨rfl, rfl⟩
        clear HAt
        go_wp2_with fail
        clear c0 c1 c2 c3 HRf
        go_loopg [10, 11] Mk.length (fun gh wv iv wq => ∃ (m : Nat) (wb : Bool), m + gh = Mk.length ∧ wv = .bool wb ∧ iv = .int .i64 (m : Int) ∧ Hid (wb = (Mk.take m).any (late wt now)) ∧ Hid (QSt w1 wq base B b wt now nx M k k (.slice (some ⟨g, 0, none⟩) Mk.length lc) (.slice av k cv)))
        case atStart => exact ⟨0, false, by omega, rfl, rfl, hidden (by simp), HQ⟩
        case round =>
          obtain ⟨m, wb, hmg, rfl, rfl, HWb, HQm⟩ := hrel
          clear HQ
          have hrf := HQm.out.ref
          rw [HXk.out, HMk.out] at hrf
          have HRm := hidden hrf
          obtain ⟨c0, c1, c2, c3⟩ := hrf.cells
          clear hrf
          by_cases hm : m < Mk.length
          · have hmz : (m : Int) < (Mk.length : Int) := by omega
            obtain ⟨i, hi⟩ : ∃ i, Mk[m]? = some i := ⟨_, List.getElem?_eq_getElem hm⟩
            have r8 := row_cell c9_len HRm.out.row hi 8 (by omega)
            unfold c9 at r8
            simp only [List.getElem?_cons_zero, List.getElem?_cons_succ] at r8
            have hmem : i ∈ M := by
              have := List.mem_of_getElem? hi
              rw [← HMk.out] at this
              exact (List.mem_filter.1 this).1
            have hia := HI.out.mem i hmem
            have hnw := HI.out.c2
            have HSu := hidden (any_succ (wt := wt) (now := now) hi)
            have HLa : Hid (late wt now i = decide (wt ≤ now - i.a)) := hidden rfl
            obtain ⟨ia, hia2⟩ : ∃ ia, i.a = ia := ⟨_, rfl⟩
            rw [hia2] at r8 HLa hia
            obtain ⟨_, _, _, _, ha0, ha1⟩ := hia
            clear hi hmem hia2
            cases wb with
            | true =>
              go_wp2_with fail
              go_quiet (fail)
              go_wp2_with fail
              go_roundg (Mk.length - (m + 1))
              case measure => omega
              case rel => exact ⟨m + 1, true, by omega, rfl, by go_num, hidden (by rw [HSu.out, ← HWb.out]; simp), HQm.out.below (below_drewN (Below.refl _ _) _)⟩
            | false =>
              have ha2 : ia ≤ 1000000 := by omega
              go_wp2_with fail
              go_quiet (fail)
              go_wp2_with fail
              go_roundg (Mk.length - (m + 1))
              case measure => omega
              case rel => exact ⟨m + 1, _, by omega, rfl, by go_num, hidden (by rw [HSu.out, ← HWb.out, HLa.out]; rfl), HQm.out.below (below_drewN (Below.refl _ _) _)⟩
          · have hmz : ¬ (m : Int) < (Mk.length : Int) := by omega
            have hwb : wb = decide (xk < od) := by
              have := HWb.out
              rw [List.take_of_length_le (by omega), HAny.out] at this
              exact this
            cases wb with
            | false =>
              obtain rfl : k = K := by
                rcases Nat.lt_or_ge k K with h | h
                · have h1 := HK.out.all k h
                  rw [HXk.out, HGo.out, ← hwb] at h1
                  cases h1
                · omega
              clear hwb
              go_wp2_with fail
              go_ret2
              exact ⟨av, cv, rfl, own_base HQm.out.out HQm.out.le, ⟨_, HQm.out.ref⟩, HQm.out.only⟩
            | true =>
              have hkK : k < K := by
                rcases Nat.lt_or_ge k K with h | h
                · exact h
                · obtain rfl : k = K := by omega
                  have h1 := HK.out.stop
                  rw [HXk.out, HGo.out, ← hwb] at h1
                  cases h1
              have HIt : Hid (itm M xk = gone xk 0) := itm_no HNo.out
              clear hwb
              go_wp2_with (at_builtin; refine wpList_append_own _ rfl _ _ 45 rfl B 64 i0 _ 8 80 Tryd.underlying45 hii hz0 hz1 hz2 rfl (by decide) _ k (flat c8 (takes M nx k)) rfl ?own ⟨wr.heap.size, 0, none⟩ 1 1 [.int .i64 xk, .bool true, .int .i64 0, .int .i64 0, .int .i64 0, .int .i64 0, .bool false, .slice none 0 0] rfl rfl (World.news_of_block (cs := #[.int .i64 xk, .bool true, .int .i64 0, .int .i64 0, .int .i64 0, .int .i64 0, .bool false, .slice none 0 0]) (t := 64) (fr := (0, 0)) (heap_alloc_new wr _)) ?c2 ?b1 ?b2 ?b3 ?next)
              case own => exact HQm.out.out.alloc _
              case c2 => exact ⟨rfl, rfl, rfl, rfl, rfl⟩
              case b1 => unfold maxLen; omega
              case b2 => omega
              case b3 => have := HQm.out.ltB; simp; omega
              case next =>
                intro v' w3 hown hgrow _
                obtain ⟨g', c', rfl⟩ : ∃ g' c', v' = .slice (some ⟨g', 0, none⟩) (k + 1) c' := by
                  rcases hown.2 with ⟨_, h⟩ | ⟨g', c', _, h, _⟩
                  · omega
                  · exact ⟨g', c', h⟩
                have HQ3 : Hid (QSt w1 w3 base B b wt now nx M k (k + 1) (.slice (some ⟨g, 0, none⟩) Mk.length lc) (.slice (some ⟨g', 0, none⟩) (k + 1) c')) :=
                  HQm.out.add hgrow (by rw [HXk.out, HIt.out]; exact hown)
                have hq4 := HQ3.out.skip (by rw [HXk.out]; exact HNo.out)
                have hrf3 := HQ3.out.ref
                rw [HXk.out] at hq4 hrf3
                have HQ4 := hidden hq4
                obtain ⟨d0, d1, d2, d3⟩ := hrf3.cells
                have g2 := freeb hrf3.box 2
                clear hown hgrow hq4 hrf3 c0 c1 c2 c3
                go_wp2_with fail
                go_roundg (K - (k + 1))
                case measure => omega
                case rel => exact ⟨k + 1, some ⟨g', 0, none⟩, c', _, by omega, rfl, HQ4⟩

/-- Pop, whatever it is given -/
theorem rpop_calls (base b : Nat) (wt nw nx now : Int) (M : Its) (v : Value) (K : Nat) (w : World) (h : RefAt w base b wt nw nx M v) (hI : OM.Inv nw nx M) (hS : Slices M) (hbase : base ≤ w.heap.size) (hK : Many wt nw nx now M K) (hw0 : 0 ≤ wt) (hw1 : wt ≤ 1000000) :
    Calls Tryd.prog 10 #[.pointer (some ⟨b, 0, none⟩), .int .i64 now] w fun e w' => ∃ av cv v', e = .returned (.tuple #[.slice av K cv, .int .i64 (tf nw now : Nat)]) ∧ w'.ownsRow w.heap.size 64 8 (.slice av K cv) K (flat c8 (takes M nx K)) ∧ RefAt w' base b wt (qW nw now) (nx + (K : Int)) (rest M (nx + (K : Int))) v' ∧ Only [b] w w' := by
  unfold qW
  by_cases ht : tf nw now = 0
  · obtain ⟨od, ho, hs⟩ := hK.yes ht
    rw [if_pos ht, ht]
    exact rpop_ok base b wt nw nx now od M v K w h hI hS hbase ht ho hs hK.le hw0 hw1
  · have := hK.no ht
    subst this
    rw [if_neg ht]
    refine (rpop_time b nw now w h.cells.2.1 ht).mono ?_
    rintro e w' ⟨rfl, rfl⟩
    refine ⟨none, 0, v, rfl, by simpa [takes, flat] using World.ownsRow_nil w' w'.heap.size 64 8, ?_, Only.refl _ _⟩
    simp only [Int.natCast_zero, Int.add_zero]
    rw [rest_all hI]
    exact h
end Go.Proofs.YtenjemcehhocoaeDoor.ROrder
