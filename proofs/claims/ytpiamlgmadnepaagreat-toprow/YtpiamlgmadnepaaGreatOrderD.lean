/-
  What Pop of package order returns, and what it leaves in memory. Its condition: what is kept is such as it may be.
-/
import Derived.Test.YtpiamlgmadnepaaGreatOrderC
import Derived.Deep.LoopGhost
import Derived.Deep.AppendLies
namespace Go.Proofs.YtpiamlgmadnepaaGreat.Order
open Go.ChangeShapes Go.WideShapes Go.ChangeAt Go.RowKit Go.Maps Go.Proofs.YtpiamlgmadnepaaGreat.PM Go.Proofs.YtpiamlgmadnepaaGreat.Mem Go.Proofs.YtpiamlgmadnepaaGreat.Pack Go.Proofs.YtpiamlgmadnepaaGreat.OM
set_option linter.unusedVariables false

theorem infoIT : (Tryz.prog.info? 82).map (fun i => (i.zero, i.size, i.bytes)) = some (some (.agg #[.int .i64 0, .bool false, .int .i64 0, .int .i64 0, .int .i64 0, .int .i64 0, .bool false, .slice none 0 0]), 8, 80) := by kernel_rfl
theorem take_calls (b mb : Nat) (wt nw nx : Int) (M : Its) (w : World) (h : OrderAt w b mb wt nw nx M) (h1 : Apart M) (h0 : -1 ≤ nx) (h2 : nx ≤ 1099511627777) (g : Bool) (s t l q : Int) (st : Bool) (a : Option Addr) (m c : Nat) (hc : c8 (itm M nx) = [.int .i64 nx, .bool g, .int .i64 s, .int .i64 t, .int .i64 l, .int .i64 q, .bool st, .slice a m c]) :
    Calls Tryz.prog 78 #[.pointer (some ⟨b, 0, none⟩)] w fun e w' => e = .returned (.agg #[.int .i64 nx, .bool g, .int .i64 s, .int .i64 t, .int .i64 l, .int .i64 q, .bool st, .slice a m c]) ∧ OrderAt w' b mb wt nw (nx + 1) (M.filter fun i => decide (i.n ≠ nx)) ∧ Only [b, mb] w w' := by
  by_cases hh : has M nx = true
  · obtain ⟨hi, hn⟩ := itm_has hh
    refine take_has b mb wt nw nx M w h h1 h0 h2 (itm M nx) hi hn g s t l q st a m c ?_
    simp only [c8, List.cons.injEq, Value.int.injEq, Value.bool.injEq, true_and, and_true] at hc
    obtain ⟨e1, e2, e3, e4, e5, e6, e7, e8⟩ := hc
    unfold lv
    rw [e1, e2, e3, e4, e5, e6, e7, e8]
  · have hh' : has M nx = false := by simpa using hh
    rw [itm_no hh'] at hc
    simp only [c8, gone, zpk, List.cons.injEq, Value.int.injEq, Value.bool.injEq, Value.slice.injEq, true_and, and_true] at hc
    obtain ⟨rfl, rfl, rfl, rfl, rfl, rfl, rfl, rfl, rfl⟩ := hc
    exact take_gone b mb wt nw nx M w h h1 h0 h2 hh'

/-- under way: so many are handed out -/
structure PopSt (w wr : World) (B b mb : Nat) (wt now nx : Int) (M : Its) (k : Nat) (v : Value) : Prop where
  ord : OrderAt wr b mb wt now (nx + (k : Int)) (rest M (nx + (k : Int)))
  row : wr.ownsRow B 82 8 v k (flat c8 (takes M nx k))
  bod : Bodies wr (takes M nx k)
  only : Only [b, mb] w wr
  lt1 : b < B
  lt2 : mb < B
  ltB : B ≤ wr.heap.size
  le : w.heap.size ≤ B
theorem PopSt.below {w wr wy : World} {B b mb : Nat} {wt now nx : Int} {M : Its} {k : Nat} {v : Value} (h : PopSt w wr B b mb wt now nx M k v) (hb : Below wr.heap.size wr wy) : PopSt w wy B b mb wt now nx M k v :=
  ⟨h.ord.below hb, (Only.of_below hb []).owns h.row (by simp), h.bod.only (Only.of_below hb []) (by simp), h.only.trans (Only.of_below hb _), h.lt1, h.lt2, Nat.le_trans h.ltB hb.size, h.le⟩
/-- behind take, and behind append -/
theorem PopSt.step {w wr w2 w3 : World} {B b mb : Nat} {wt now nx : Int} {M : Its} {k : Nat} {v v' : Value} {O : Obj} (h : PopSt w wr B b mb wt now nx M k v) (hI : Apart M) (ho : OrderAt w2 b mb wt now (nx + (k : Int) + 1) ((rest M (nx + (k : Int))).filter fun i => decide (i.n ≠ nx + (k : Int)))) (hon : Only [b, mb] wr w2)
    (hg : (w2.alloc O).grownBy w3 v.ownBlock) (hr : w3.ownsRow B 82 8 v' (k + 1) (flat c8 (takes M nx k) ++ c8 (itm M (nx + (k : Int))))) : PopSt w w3 B b mb wt now nx M (k + 1) v' := by
  have hnb := h.ord.nob
  have hB : ∀ j, v.ownBlock = some j → B ≤ j := fun j hj => (h.row.lt j hj).1
  have lt1 := h.lt1
  have lt2 := h.lt2
  have le := h.le
  have ho2 : Only v.ownBlock.toList w2 w3 := ((Only.refl v.ownBlock.toList w2).alloc O).grown hg (by simp)
  have hrow2 : w2.ownsRow B 82 8 v k (flat c8 (takes M nx k)) := hon.owns h.row (by intro j hj hc; have := hB j hj; simp at hc; omega)
  have hnr : ∀ j ∈ v.ownBlock.toList, ∀ cs fr, w2.heap[j]? ≠ some (.cells cs 5 fr) := by
    intro j hj cs fr e
    rcases hrow2.2 with ⟨hn, _⟩ | ⟨g, cap, cur, ev, _, hgg, _⟩
    · rw [hn] at hj; simp [Value.ownBlock] at hj
    · rw [ev] at hj
      simp [Value.ownBlock] at hj
      subst hj
      rw [hgg] at e
      simp at e
  have hnotb : b ∉ v.ownBlock.toList := by intro hc; have := hB b (by simpa using hc); omega
  have hnotm : mb ∉ v.ownBlock.toList := by intro hc; have := hB mb (by simpa using hc); omega
  have ec : nx + ((k + 1 : Nat) : Int) = nx + (k : Int) + 1 := by omega
  refine ⟨?_, ?_, ?_, past (h.only.trans hon) ho2 ?_, lt1, lt2, ?_, le⟩
  · rw [ec, rest_succ]
    exact ho.only ho2 hnotb hnotm hnr
  · rw [takes_succ, flat_app, flat_one]
    exact hr
  · have hb2 : Bodies w2 (takes M nx k) := h.bod.only hon hnb
    rw [takes_succ]
    refine (hb2.app ?_).only ho2 hnr
    have := (h.ord.bod.only hon hnb).itm (nx + (k : Int))
    rw [rest_itm hI] at this
    exact this
  · intro j hj
    have := hB j (by simpa using hj)
    exact .inr (by omega)
  · exact Nat.le_trans h.ltB (Nat.le_trans hon.2.2.2.1 ho2.2.2.2.1)

set_option maxHeartbeats 1000000 in
set_option maxRecDepth 100000 in
theorem pop_time (b : Nat) (nw now : Int) (w : World) (h : w.cell? ⟨b, 0, none⟩ = some (.int .i64 nw)) (ht : tf nw now ≠ 0) :
    Calls Tryz.prog 32 #[.pointer (some ⟨b, 0, none⟩), .int .i64 now] w fun e w' => e = .returned (.tuple #[.slice none 0 0, errv (tf nw now)]) ∧ Below w.heap.size w w' := by
  have HC := hidden (fun w => at_bad nw now w ht)
  generalize tf nw now = f at *
  have hc := cmp_ne f
  have hg := grd_ne f
  have d : decide (f = 0) = false := by simpa using ht
  clear ht
  go_enter Tryz.func32, Tryz.ntmps32
  go_wp2_with fail
  refine (HC.out _).mono ?_
  rintro e w1 ⟨rfl, hb1⟩
  have HB := hidden hb1
  clear hb1
  go_wp2_with fail
  go_ret2
  exact ⟨rfl, HB.out.alloc HB.out.size _⟩

set_option maxHeartbeats 4000000 in
set_option maxRecDepth 100000 in
theorem pop_ok (b mb : Nat) (wt nw nx now od : Int) (M : Its) (K : Nat) (w : World) (h : OrderAt w b mb wt nw nx M) (hI : OM.Inv nw nx M) (ht : tf nw now = 0) (hO : Od wt now M od) (hK : Stop M od nx K) (hK2 : K ≤ 200) :
    Calls Tryz.prog 32 #[.pointer (some ⟨b, 0, none⟩), .int .i64 now] w fun e w' => ∃ av cv, e = .returned (.tuple #[.slice av K cv, .nilIface]) ∧ w'.ownsRow w.heap.size 82 8 (.slice av K cv) K (flat c8 (takes M nx K)) ∧ Bodies w' (takes M nx K) ∧ OrderAt w' b mb wt now (nx + (K : Int)) (rest M (nx + (K : Int))) ∧ Only [b, mb] w w' := by
  obtain ⟨i0, hii, hz0, hz1, hz2⟩ := info_parts infoIT
  obtain ⟨t0, t1, t2⟩ := tf_zero ht
  have HC := hidden (fun w => at_ok nw now w ht)
  have HOv := hidden (fun W hW => overdue_calls b mb wt now nx now od M W hW (hI.later t2 t1) hO t0 t1)
  have HH : Hid (∀ W (k : Nat), k ≤ K → OrderAt W b mb wt now (nx + (k : Int)) (rest M (nx + (k : Int))) → Calls Tryz.prog 77 #[.pointer (some ⟨b, 0, none⟩), .int .i64 (nx + (k : Int))] W fun e w' => e = .returned (.bool (has M (nx + (k : Int)))) ∧ Below W.heap.size W w') := by
    refine hidden (fun W k hk hW => ?_)
    have x1 := hI.x1
    have x2 := hI.x2
    have := has_calls b mb wt now (nx + (k : Int)) (nx + (k : Int)) (rest M (nx + (k : Int))) W hW (wf_of (by omega) (by omega))
    rw [rest_has] at this
    exact this
  have HT : Hid (∀ W (k : Nat), k < K → OrderAt W b mb wt now (nx + (k : Int)) (rest M (nx + (k : Int))) → ∃ g s t l q st a m c, c8 (itm M (nx + (k : Int))) = [.int .i64 (nx + (k : Int)), .bool g, .int .i64 s, .int .i64 t, .int .i64 l, .int .i64 q, .bool st, .slice a m c] ∧ Calls Tryz.prog 78 #[.pointer (some ⟨b, 0, none⟩)] W fun e w' => e = .returned (.agg #[.int .i64 (nx + (k : Int)), .bool g, .int .i64 s, .int .i64 t, .int .i64 l, .int .i64 q, .bool st, .slice a m c]) ∧ OrderAt w' b mb wt now (nx + (k : Int) + 1) ((rest M (nx + (k : Int))).filter fun i => decide (i.n ≠ nx + (k : Int))) ∧ Only [b, mb] W w') := by
    refine hidden (fun W k hk hW => ?_)
    have x1 := hI.x1
    have gm := goes_max hI hO (hK.all k hk)
    obtain ⟨a, m, c, e, _⟩ := hW.bod.itm (nx + (k : Int))
    rw [rest_itm hI.one] at e
    have hc : c8 (itm M (nx + (k : Int))) = [.int .i64 (nx + (k : Int)), .bool (itm M (nx + (k : Int))).g, .int .i64 (itm M (nx + (k : Int))).p.s, .int .i64 (itm M (nx + (k : Int))).p.t, .int .i64 (itm M (nx + (k : Int))).p.l, .int .i64 (itm M (nx + (k : Int))).p.q, .bool (itm M (nx + (k : Int))).p.st, .slice a m c] := by
      unfold c8
      rw [e, itm_n]
    refine ⟨_, _, _, _, _, _, a, m, c, hc, ?_⟩
    exact take_calls b mb wt now (nx + (k : Int)) (rest M (nx + (k : Int))) W hW (hI.one.filter _) (by omega) (by omega) _ _ _ _ _ _ a m c (by rw [rest_itm hI.one]; exact hc)
  have HG : Hid (∀ k : Nat, k < K → goes M od (nx + (k : Int)) = true) := hK.all
  have HGs : Hid (goes M od (nx + (K : Int)) = false) := hK.stop
  have HOr := hidden h
  have HI := hidden hI
  have hxb : -1 ≤ nx ∧ nx ≤ 1099511627777 := ⟨hI.x1, hI.x2⟩
  have hb5 : OrderAt w b mb wt nw nx M := h
  have c0 := h.cells.1
  have hlt := h.lt
  clear h hI ht hO hK hb5
  obtain ⟨hx1, hx2⟩ := hxb
  obtain ⟨hlt1, hlt2⟩ := hlt
  go_enter Tryz.func32, Tryz.ntmps32
  go_wp2_with fail
  refine (HC.out _).mono ?_
  rintro e w1 ⟨rfl, hb1⟩
  have HB := hidden hb1
  clear hb1 c0
  have hO1 := HOr.out.below HB.out
  have HO1 := hidden hO1
  have hlw : b < w1.heap.size := hO1.lt.1
  obtain ⟨c0, _⟩ := (hO1.alloc (.cells #[.int .i64 now] 89)).cells
  have f0 := freeb (hO1.alloc (.cells #[.int .i64 now] 89)).box 0
  have HO2 : Hid (OrderAt ((w1.setCell ⟨b, 0, none⟩ (.int .i64 now)).alloc (.cells #[.int .i64 now] 89)) b mb wt now nx M) := (hO1.set 0 _ rfl).alloc _
  have HN2 : Hid (Only [b, mb] w ((w1.setCell ⟨b, 0, none⟩ (.int .i64 now)).alloc (.cells #[.int .i64 now] 89))) := ((Only.of_below HB.out _).setCell (by simp) _).alloc _
  clear hO1
  go_wp2_with fail
  refine (HOv.out _ (by exact HO2.out)).mono ?_
  rintro e w3 ⟨rfl, hb3⟩
  have HS0 : Hid (PopSt w w3 w3.heap.size b mb wt now nx M 0 (.slice none 0 0)) := by
    have hB3 := HN2.out.trans (Only.of_below hb3 _)
    refine ⟨?_, by simpa [takes, flat] using World.ownsRow_nil w3 w3.heap.size 82 8, fun i hi => by simp [takes] at hi, hB3, Nat.lt_of_lt_of_le hlt1 hB3.2.2.2.1, Nat.lt_of_lt_of_le hlt2 hB3.2.2.2.1, Nat.le_refl _, hB3.2.2.2.1⟩
    have e0 : nx + ((0 : Nat) : Int) = nx := by omega
    rw [e0, rest_all HI.out]
    exact HO2.out.below hb3
  clear hb3 HOv HC HO1 HO2 HN2 c0 f0 hlw
  go_wp2_with fail
  generalize w3.heap.size = B at *
  go_loopg [9] K (fun gh v' wr => ∃ (k : Nat) (av : Option Addr) (cv : Nat), k + gh = K ∧ v' = .slice av k cv ∧ Hid (PopSt w wr B b mb wt now nx M k (.slice av k cv)))
  case atStart => exact ⟨0, none, 0, by omega, rfl, HS0⟩
  case round =>
    obtain ⟨k, av, cv, hkg, rfl, HS⟩ := hrel
    clear HS0
    have HHk := hidden (HH.out wr k (by omega) HS.out.ord)
    obtain ⟨xk, hxk⟩ : ∃ xk, nx + (k : Int) = xk := ⟨_, rfl⟩
    have HXk := hidden hxk
    have k2 := HS.out.ord.cells.2.2.1
    rw [hxk] at k2 HHk
    have hxk2 : -1 ≤ xk ∧ xk ≤ 1099511627977 := by omega
    by_cases hk : k < K
    · have HTk := hidden (fun W hW => HT.out W k hk hW)
      have hgo := HG.out k hk
      rw [hxk] at hgo HTk
      clear hxk
      by_cases hh : has M xk = true
      · rw [hh] at HHk
        clear hh hgo
        go_wp2_with fail
        refine HHk.out.mono ?_
        rintro e w4 ⟨rfl, hb4⟩
        have HS4 := hidden (HS.out.below hb4)
        have k4 := HS4.out.ord.cells.2.2.1
        rw [HXk.out] at k4
        clear hb4 HHk
        have hO4 := HS4.out.ord
        rw [HXk.out] at hO4
        obtain ⟨g, s, t, l, q, st, a, m, c, hc8, hT⟩ := HTk.out w4 hO4
        have HT4 := hidden hT
        have HC8 := hidden hc8
        clear hT hc8 hO4 HTk
        go_wp2_with fail
        refine HT4.out.mono ?_
        rintro e w5 ⟨rfl, hO5, hN5⟩
        have HO5 := hidden hO5
        have HN5 := hidden hN5
        clear hO5 hN5 HT4 k4
        have hBw : B ≤ w5.heap.size := Nat.le_trans HS4.out.ltB HN5.out.2.2.2.1
        have HR5 : Hid (w5.ownsRow B 82 8 (.slice av k cv) k (flat c8 (takes M nx k))) := HN5.out.owns HS4.out.row (by intro j hj hc; have := (HS4.out.row.lt j hj).1; have := HS4.out.lt1; have := HS4.out.lt2; simp at hc; omega)
        go_wp2_with (at_builtin; refine wpList_append_own _ rfl _ _ 77 rfl B 82 i0 _ 8 80 Tryz.underlying77 hii hz0 hz1 hz2 rfl (by decide) _ k (flat c8 (takes M nx k)) rfl ?own ⟨w5.heap.size, 0, none⟩ 1 1 [.int .i64 xk, .bool g, .int .i64 s, .int .i64 t, .int .i64 l, .int .i64 q, .bool st, .slice a m c] rfl rfl ?c1 ?c2 ?b1 ?b2 ?b3 ?next)
        case own => exact HR5.out.alloc _
        case c1 => exact World.news_of_block (cs := #[.int .i64 xk, .bool g, .int .i64 s, .int .i64 t, .int .i64 l, .int .i64 q, .bool st, .slice a m c]) (t := 82) (fr := (0, 0)) (heap_alloc_new w5 _)
        case c2 => intro u hu'; simp at hu'; rcases hu' with rfl | rfl | rfl | rfl | rfl | rfl | rfl | rfl <;> rfl
        case b1 => unfold maxLen; omega
        case b2 => omega
        case b3 => simp; omega
        case next =>
          intro v' w6 hown hgrow _
          obtain ⟨g', c', rfl⟩ : ∃ g' c', v' = .slice (some ⟨g', 0, none⟩) (k + 1) c' := by
            rcases hown.2 with ⟨_, h⟩ | ⟨g', c', _, h, _⟩
            · omega
            · exact ⟨g', c', h⟩
          have HS6 : Hid (PopSt w w6 B b mb wt now nx M (k + 1) (.slice (some ⟨g', 0, none⟩) (k + 1) c')) :=
            HS4.out.step HI.out.one (by rw [HXk.out]; exact HO5.out) HN5.out hgrow (by rw [HXk.out, HC8.out]; exact hown)
          clear hown hgrow
          go_wp2_with fail
          go_roundg (K - (k + 1))
          case measure => omega
          case rel => exact ⟨k + 1, some ⟨g', 0, none⟩, c', by omega, rfl, HS6⟩
      · have hh' : has M xk = false := by simpa using hh
        have hod : xk < od := by simpa [goes, hh'] using hgo
        rw [hh'] at HHk
        clear hh hh' hgo
        go_wp2_with fail
        refine HHk.out.mono ?_
        rintro e w4 ⟨rfl, hb4⟩
        have HS4 := hidden (HS.out.below hb4)
        have k4 := HS4.out.ord.cells.2.2.1
        rw [HXk.out] at k4
        clear hb4 HHk
        have hO4 := HS4.out.ord
        rw [HXk.out] at hO4
        obtain ⟨g, s, t, l, q, st, a, m, c, hc8, hT⟩ := HTk.out w4 hO4
        have HT4 := hidden hT
        have HC8 := hidden hc8
        clear hT hc8 hO4 HTk
        go_wp2_with fail
        refine HT4.out.mono ?_
        rintro e w5 ⟨rfl, hO5, hN5⟩
        have HO5 := hidden hO5
        have HN5 := hidden hN5
        clear hO5 hN5 HT4 k4
        have hBw : B ≤ w5.heap.size := Nat.le_trans HS4.out.ltB HN5.out.2.2.2.1
        have HR5 : Hid (w5.ownsRow B 82 8 (.slice av k cv) k (flat c8 (takes M nx k))) := HN5.out.owns HS4.out.row (by intro j hj hc; have := (HS4.out.row.lt j hj).1; have := HS4.out.lt1; have := HS4.out.lt2; simp at hc; omega)
        go_wp2_with (at_builtin; refine wpList_append_own _ rfl _ _ 77 rfl B 82 i0 _ 8 80 Tryz.underlying77 hii hz0 hz1 hz2 rfl (by decide) _ k (flat c8 (takes M nx k)) rfl ?own ⟨w5.heap.size, 0, none⟩ 1 1 [.int .i64 xk, .bool g, .int .i64 s, .int .i64 t, .int .i64 l, .int .i64 q, .bool st, .slice a m c] rfl rfl ?c1 ?c2 ?b1 ?b2 ?b3 ?next)
        case own => exact HR5.out.alloc _
        case c1 => exact World.news_of_block (cs := #[.int .i64 xk, .bool g, .int .i64 s, .int .i64 t, .int .i64 l, .int .i64 q, .bool st, .slice a m c]) (t := 82) (fr := (0, 0)) (heap_alloc_new w5 _)
        case c2 => intro u hu'; simp at hu'; rcases hu' with rfl | rfl | rfl | rfl | rfl | rfl | rfl | rfl <;> rfl
        case b1 => unfold maxLen; omega
        case b2 => omega
        case b3 => simp; omega
        case next =>
          intro v' w6 hown hgrow _
          obtain ⟨g', c', rfl⟩ : ∃ g' c', v' = .slice (some ⟨g', 0, none⟩) (k + 1) c' := by
            rcases hown.2 with ⟨_, h⟩ | ⟨g', c', _, h, _⟩
            · omega
            · exact ⟨g', c', h⟩
          have HS6 : Hid (PopSt w w6 B b mb wt now nx M (k + 1) (.slice (some ⟨g', 0, none⟩) (k + 1) c')) :=
            HS4.out.step HI.out.one (by rw [HXk.out]; exact HO5.out) HN5.out hgrow (by rw [HXk.out, HC8.out]; exact hown)
          clear hown hgrow
          go_wp2_with fail
          go_roundg (K - (k + 1))
          case measure => omega
          case rel => exact ⟨k + 1, some ⟨g', 0, none⟩, c', by omega, rfl, HS6⟩
    · obtain rfl : k = K := by omega
      have hst := HGs.out
      rw [hxk] at hst
      simp only [goes, Bool.or_eq_false_iff, decide_eq_false_iff_not] at hst
      obtain ⟨hst1, hst2⟩ := hst
      rw [hst1] at HHk
      clear hst1 hxk
      go_wp2_with fail
      refine HHk.out.mono ?_
      rintro e w4 ⟨rfl, hb4⟩
      have HS4 := hidden (HS.out.below hb4)
      have k4 := HS4.out.ord.cells.2.2.1
      rw [HXk.out] at k4
      clear hb4
      go_wp2_with fail
      go_ret2
      exact ⟨av, cv, rfl, own_base HS4.out.row HS4.out.le, HS4.out.bod, HS4.out.ord, HS4.out.only⟩
end Go.Proofs.YtpiamlgmadnepaaGreat.Order

