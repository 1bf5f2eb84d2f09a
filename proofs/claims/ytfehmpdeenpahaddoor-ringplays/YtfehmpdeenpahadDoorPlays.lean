/-
  The walk of the Go function RingPlays: it returns true. Its condition: package errors' variable errorType is as its text lays it.
-/
import Derived.Test.YtfehmpdeenpahadDoorRRingE
import Derived.LoopTactic
import Derived.Deep.CutRange
namespace Go.Proofs.YtfehmpdeenpahadDoor.Plays
open Go.ChangeShapes Go.WideShapes Go.ChangeAt Go.RowKit Go.Proofs.YtfehmpdeenpahadDoor.PM Go.Proofs.YtfehmpdeenpahadDoor.Mem Go.Proofs.YtfehmpdeenpahadDoor.Pack Go.Proofs.YtfehmpdeenpahadDoor.RM Go.Proofs.YtfehmpdeenpahadDoor.Ring Go.Proofs.YtfehmpdeenpahadDoor.RRing
set_option linter.unusedVariables false

theorem ref_slice {w : World} {base : Nat} {M : Its} {v : Value} (h : w.ownsRow base 49 8 v M.length (flat M)) : ∃ av cv, v = .slice av M.length cv := by
  rcases ref_form h with ⟨rfl, rfl⟩ | ⟨g, c, rfl, _⟩
  · exact ⟨none, 0, rfl⟩
  · exact ⟨_, c, rfl⟩
theorem box_ref {w : World} {g rb base : Nat} {n T s t l q : Int} {st : Bool} {bv v : Value} {M : Its} (h : Box w g s t l q st bv) (hr : RefAt w base rb n T M v) : g ∉ rb :: v.ownBlock.toList := by
  intro hg
  rcases List.mem_cons.1 hg with rfl | hg
  · have := hr.1
    rw [h] at this
    simp at this
  · rcases hr.2.2 with ⟨rfl, _⟩ | ⟨g', cap, cur, rfl, _, hcur, _⟩
    · simp [Value.ownBlock] at hg
    · simp [Value.ownBlock] at hg
      subst hg
      rw [h] at hcur
      simp at hcur
theorem box_ring {w : World} {g b mb : Nat} {n T s t l q : Int} {st : Bool} {bv : Value} {M : Its} (h : Box w g s t l q st bv) (hr : RingAt w b mb n T M) : g ∉ [b, mb] := by
  obtain ⟨h1, D, h2, _⟩ := hr
  obtain ⟨es, c, h3⟩ := map_block h2
  intro hg
  simp only [List.mem_cons, List.not_mem_nil, or_false] at hg
  rcases hg with rfl | rfl
  · rw [h] at h1; simp at h1
  · rw [h] at h3; simp at h3

set_option maxHeartbeats 1000000 in
set_option maxRecDepth 100000 in
theorem walk_err (n : Int) (vl vp va : Value) (w : World) (hg : w.cell? ⟨0, 0, none⟩ = some (.iface 78 (.agg #[.pointer (some ⟨1, 27, none⟩)]))) (h : n < 1 ∨ 64 < n) :
    Calls Tryd.prog 4 #[.int .i64 n, vl, vp, va] w fun e w' => e = .returned (.bool true) ∧ Below w.heap.size w w' := by
  have H := hidden h
  have HG := hidden hg
  clear hg
  by_cases c : n < 1
  · clear h
    go_enter Tryd.func4, Tryd.ntmps4
    go_wp2_with fail
    refine (new_err n _ H.out).mono ?_
    rintro e w' ⟨rfl, rfl⟩
    go_wp2_with fail
    refine (Told.same_err 1 1 _ (by decide) (by decide) HG.out).mono ?_
    rintro e w1 ⟨rfl, hb⟩
    go_wp2_with fail
    go_ret
    exact ⟨rfl, hb⟩
  · have c' : 64 < n := by omega
    clear h
    go_enter Tryd.func4, Tryd.ntmps4
    go_wp2_with fail
    refine (new_err n _ H.out).mono ?_
    rintro e w' ⟨rfl, rfl⟩
    go_wp2_with fail
    refine (Told.same_err 1 1 _ (by decide) (by decide) HG.out).mono ?_
    rintro e w1 ⟨rfl, hb⟩
    go_wp2_with fail
    go_ret
    exact ⟨rfl, hb⟩

set_option maxHeartbeats 8000000 in
set_option maxRecDepth 100000 in
theorem walk_ok (n : Int) (al ap aa : Option Addr) (ll cl lp cp la ca : Nat) (Z : Nat → Int) (F : Nat → Pk) (Y : Nat → Int) (w : World) (hg : w.cell? ⟨0, 0, none⟩ = some (.iface 78 (.agg #[.pointer (some ⟨1, 27, none⟩)]))) (h1 : 1 ≤ n) (h2 : n ≤ 64)
    (hZ : Open.Nums w al ll Z) (hF : Open.Pks w ap lp F) (hY : Open.Nums w aa la Y) :
    Calls Tryd.prog 4 #[.int .i64 n, .slice al ll cl, .slice ap lp cp, .slice aa la ca] w fun e w' => e = .returned (.bool true) ∧ Below w.heap.size w w' := by
  have hll := hZ.1
  have hlp := hF.1
  have hla := hY.1
  have HZ := hidden hZ.2
  have HF := hidden hF.2
  have HY := hidden hY.2
  have HG := hidden hg
  have HN := hidden (fun w => new_ok n w h1 h2)
  have h0s : 0 < w.heap.size := World.block_lt_of_cell? w ⟨0, 0, none⟩ hg
  clear hZ hF hY hg
  go_enter Tryd.func4, Tryd.ntmps4
  go_wp2_with fail
  refine (HN.out _).mono ?_
  rintro e w1 ⟨b, mb, rfl, hb1, hb2, hR, hbl⟩
  have HR1 := hidden hR
  have HB1 := hidden hbl
  clear hR hbl HN
  go_wp2_with fail
  refine (Told.same_nil 0 _).mono ?_
  rintro e w2 ⟨rfl, rfl⟩
  go_wp2_with fail
  have HS0 : Hid (PSt w (w2.alloc (.cells #[.int .i64 n, .int .i64 (-1), .slice none 0 0] 44)) b mb w2.heap.size n (-1) [] (.slice none 0 0)) := by
    have hR := HR1.out.below ((Below.refl _ _).alloc (Nat.le_refl _) (.cells #[.int .i64 n, .int .i64 (-1), .slice none 0 0] 44))
    exact ⟨HB1.out.alloc HB1.out.size _, hb1, hb2, HB1.out.size, hR, ⟨heap_alloc_new _ _, by simpa [flat] using World.ownsRow_nil _ _ 49 8⟩, inv_start h1 h2, by simp⟩
  clear HR1 HB1
  go_loopw [14] (fun i' wr => ∃ (k : Nat) (T : Int) (M : Its) (v : Value), k ≤ 80 ∧ i' = .int .i64 k ∧ Hid (PSt w wr b mb w2.heap.size n T M v)) (fun i' _ => 80 - (intOf i').toNat)
  case atStart => exact ⟨0, -1, [], _, by omega, rfl, HS0⟩
  case round =>
    obtain ⟨k, T, M, v, hk, rfl, HS⟩ := hrel
    clear HS0
    by_cases hend : k < ll ∧ k < 80
    · obtain ⟨hlt, h80⟩ := hend
      obtain ⟨bl, ol, rfl, hbl, hcell⟩ := HZ.out.1 k hlt
      obtain ⟨y, hy⟩ : ∃ y, Z k = y := ⟨_, rfl⟩
      rw [hy] at hcell
      have HC := hidden hcell
      clear hcell hy
      generalize hrb : w2.heap.size = rb at *
      clear hrb
      go_upto_if 62 with fail
      go_cut [] from 63 to 172 (fun wx => ∃ (s t l q : Int) (st : Bool) (a : Option Addr) (m c : Nat) (L : List Nat), wx = wr.alloc (.cells #[.int .i64 s, .int .i64 t, .int .i64 l, .int .i64 q, .bool st, .slice a m c] 24) ∧ Hid (Arg w a m L ∧ (a = none → m = 0 ∧ c = 0)))
      case first =>
        by_cases hp : 0 < lp
        · have hj : k % lp < lp := Nat.mod_lt _ hp
          obtain ⟨pb, po, rfl, hpb, hat, a5, m5, c5, hbv, hok⟩ := HF.out (k % lp) hj
          have hold : ∀ O (p : Addr) u, p.block < w.heap.size → w.cell? p = some u → (wr.alloc O).cell? p = some u := fun O p u hp hc => cell_alloc ((HS.out.bel.cell hp).trans hc) O
          obtain ⟨q0, q1, q2, q3, q4, q5⟩ := hat
          rw [hbv] at q5
          obtain ⟨jj, hjj⟩ : ∃ jj, k % lp = jj := ⟨_, rfl⟩
          rw [hjj] at q0 q1 q2 q3 q4 q5 hj
          obtain ⟨P, hP⟩ : ∃ P, F (k % lp) = P := ⟨_, rfl⟩
          rw [hjj] at hP
          rw [hjj, hP] at hok
          rw [hP] at q0 q1 q2 q3 q4
          have r0 := fun O => hold O _ _ hpb q0
          have r1 := fun O => hold O _ _ hpb q1
          have r2 := fun O => hold O _ _ hpb q2
          have r3 := fun O => hold O _ _ hpb q3
          have r4 := fun O => hold O _ _ hpb q4
          have r5 := fun O => hold O _ _ hpb q5
          have hrem : (k : Int) % (lp : Int) = (jj : Int) := by rw [← hjj]; simp
          have hj0 : (0 : Int) ≤ (jj : Int) := by omega
          have hj1 : (jj : Int) < (lp : Int) := by omega
          have HOK := hidden hok
          clear hold q0 q1 q2 q3 q4 q5 hbv hok hP hjj
          go_wp2_with fail
          go_meet
          exact ⟨P.s, P.t, P.l, P.q, P.st, a5, m5, c5, P.L, rfl, HOK.out⟩
        · go_wp2_with fail
          go_meet
          exact ⟨0, 0, 0, 0, false, none, 0, 0, [], rfl, ⟨Bys.nil _ _, rfl, by omega⟩, fun _ => ⟨rfl, rfl⟩⟩
      case rest =>
        obtain ⟨s, t, l, q, st, a, m, c, L, hwc, HA⟩ := hcut
        have HSc : Hid (PSt w wc b mb rb n T M v) := by rw [hwc]; exact HS.out.below ((Below.refl _ _).alloc (Nat.le_refl _) _)
        have HX : Hid (Box wc wr.heap.size s t l q st (.slice a m c)) := by rw [hwc]; exact Box.new wr s t l q st (.slice a m c)
        clear hwc HS
        obtain ⟨X, hX⟩ : ∃ X, px n T y M (fault s t l q m) = X := ⟨_, rfl⟩
        obtain ⟨Fl, hFl⟩ : ∃ Fl, pf n T y (fault s t l q m) = Fl := ⟨_, rfl⟩
        obtain ⟨T', hT'⟩ : ∃ T', pT n T y M (fault s t l q m) = T' := ⟨_, rfl⟩
        obtain ⟨M', hM'⟩ : ∃ M', pM n T y M (fault s t l q m) (⟨s, t, l, q, st, L, .slice a m c⟩ : Pk) = M' := ⟨_, rfl⟩
        have hF100 : Fl ≤ 100 := by rw [← hFl]; exact pf_le
        have HRP : Hid (Calls Tryd.prog 14 #[.pointer (some ⟨rb, 0, none⟩), .int .i64 y, .agg #[.int .i64 s, .int .i64 t, .int .i64 l, .int .i64 q, .bool st, .slice a m c]] wc.drew fun e w' => ∃ v', e = .returned (.tuple #[.bool X, .int .i64 (Fl : Int)]) ∧ (w'.cell? ⟨bl, ol + k, none⟩ = some (.int .i64 y) ∧ w'.cell? ⟨wr.heap.size, 0, none⟩ = some (.int .i64 s) ∧ w'.cell? ⟨wr.heap.size, 1, none⟩ = some (.int .i64 t) ∧ w'.cell? ⟨wr.heap.size, 2, none⟩ = some (.int .i64 l) ∧ w'.cell? ⟨wr.heap.size, 3, none⟩ = some (.int .i64 q) ∧ w'.cell? ⟨wr.heap.size, 4, none⟩ = some (.bool st) ∧ w'.cell? ⟨wr.heap.size, 5, none⟩ = some (.slice a m c)) ∧ Hid (RefAt w' w.heap.size rb n T' M' v' ∧ Only (rb :: v.ownBlock.toList) wc w' ∧ Box w' wr.heap.size s t l q st (.slice a m c))) := by
          refine hidden ((rput_calls w.heap.size rb n T y s t l q st a m c L M v wc.drew HSc.out.ref HSc.out.inv HSc.out.slices HSc.out.bel.size).mono ?_)
          rintro e w' ⟨v', rfl, hr, ho⟩
          have ho' : Only (rb :: v.ownBlock.toList) wc w' := ho
          rw [hX, hFl]
          rw [hT', hM'] at hr
          have hb := (pst_mid HSc.out ho').2
          have hx : Box w' wr.heap.size s t l q st (.slice a m c) := ho'.block HX.out (box_ref HX.out HSc.out.ref)
          exact ⟨v', rfl, ⟨(hb.cell (p := ⟨bl, ol + k, none⟩) hbl).trans HC.out, hx.cells⟩, hr, ho', hx⟩
        have hS0 : wc.drew.cell? ⟨bl, ol + k, none⟩ = some (.int .i64 y) ∧ wc.drew.cell? ⟨wr.heap.size, 0, none⟩ = some (.int .i64 s) ∧ wc.drew.cell? ⟨wr.heap.size, 1, none⟩ = some (.int .i64 t) ∧ wc.drew.cell? ⟨wr.heap.size, 2, none⟩ = some (.int .i64 l) ∧ wc.drew.cell? ⟨wr.heap.size, 3, none⟩ = some (.int .i64 q) ∧ wc.drew.cell? ⟨wr.heap.size, 4, none⟩ = some (.bool st) ∧ wc.drew.cell? ⟨wr.heap.size, 5, none⟩ = some (.slice a m c) := ⟨(HSc.out.bel.cell (p := ⟨bl, ol + k, none⟩) hbl).trans HC.out, HX.out.cells⟩
        have k1 : (k : Int) < (ll : Int) := by omega
        have HStep := hidden (fun W1 W2 v' (ho : Only (rb :: v.ownBlock.toList) wc W1) (hr : RefAt W1 w.heap.size rb n T' M' v') (hR : RingAt W2 b mb n T' M') (ho2 : Only [b, mb] W1 W2) => (by
          rw [← hT', ← hM'] at hr hR ⊢
          exact pst_step HSc.out ⟨a, m, c, rfl, HA.out⟩ ho hr hR ho2 : PSt w W2 b mb rb n T' M' v'))
        have HPut : Hid (∀ W, RingAt W b mb n T M → Arg W a m L → Calls Tryd.prog 6 #[.pointer (some ⟨b, 0, none⟩), .int .i64 y, .agg #[.int .i64 s, .int .i64 t, .int .i64 l, .int .i64 q, .bool st, .slice a m c]] W fun e w' => e = .returned (.tuple #[.bool X, errv Fl]) ∧ RingAt w' b mb n T' M' ∧ Only [b, mb] W w') := by
          refine hidden (fun W hR hA => ?_)
          refine (put_calls b mb n T y s t l q st a m c L M W hR HSc.out.inv hA HA.out.2).mono ?_
          rintro e w' ⟨rfl, hR', ho⟩
          rw [hX, hFl]
          rw [hT', hM'] at hR'
          exact ⟨rfl, hR', ho⟩
        clear hX hFl hT' hM'
        go_wp2_with fail
        go_region_held3 (fun w' => w'.cell? ⟨bl, ol + k, none⟩ = some (.int .i64 y) ∧ w'.cell? ⟨wr.heap.size, 0, none⟩ = some (.int .i64 s) ∧ w'.cell? ⟨wr.heap.size, 1, none⟩ = some (.int .i64 t) ∧ w'.cell? ⟨wr.heap.size, 2, none⟩ = some (.int .i64 l) ∧ w'.cell? ⟨wr.heap.size, 3, none⟩ = some (.int .i64 q) ∧ w'.cell? ⟨wr.heap.size, 4, none⟩ = some (.bool st) ∧ w'.cell? ⟨wr.heap.size, 5, none⟩ = some (.slice a m c)) (with_reducible assumption) (first | (go_at_call 14; refine HRP.out.mono ?_; rintro e w4 ⟨v', rfl, hS4, HQ⟩))
        have HPu : Hid (Calls Tryd.prog 6 #[.pointer (some ⟨b, 0, none⟩), .int .i64 y, .agg #[.int .i64 s, .int .i64 t, .int .i64 l, .int .i64 q, .bool st, .slice a m c]] w4.drew fun e w' => e = .returned (.tuple #[.bool X, errv Fl]) ∧ (w'.cell? ⟨bl, ol + k, none⟩ = some (.int .i64 y) ∧ w'.cell? ⟨wr.heap.size, 0, none⟩ = some (.int .i64 s) ∧ w'.cell? ⟨wr.heap.size, 1, none⟩ = some (.int .i64 t) ∧ w'.cell? ⟨wr.heap.size, 2, none⟩ = some (.int .i64 l) ∧ w'.cell? ⟨wr.heap.size, 3, none⟩ = some (.int .i64 q) ∧ w'.cell? ⟨wr.heap.size, 4, none⟩ = some (.bool st) ∧ w'.cell? ⟨wr.heap.size, 5, none⟩ = some (.slice a m c)) ∧ Hid (PSt w w' b mb rb n T' M' v')) := by
          have hmid := pst_mid HSc.out HQ.out.2.1
          refine hidden ((HPut.out w4.drew hmid.1 (HA.out.1.below hmid.2.drew)).mono ?_)
          rintro e w' ⟨rfl, hR', ho⟩
          have hs := HStep.out w4 w' v' HQ.out.2.1 HQ.out.1 hR' ho
          have hx : Box w' wr.heap.size s t l q st (.slice a m c) := Only.block (bs := [b, mb]) (a := w4) ho HQ.out.2.2 (box_ring HQ.out.2.2 hmid.1)
          exact ⟨rfl, ⟨(hs.bel.cell (p := ⟨bl, ol + k, none⟩) hbl).trans HC.out, hx.cells⟩, hs⟩
        have hS1 : w4.drew.cell? ⟨bl, ol + k, none⟩ = some (.int .i64 y) ∧ w4.drew.cell? ⟨wr.heap.size, 0, none⟩ = some (.int .i64 s) ∧ w4.drew.cell? ⟨wr.heap.size, 1, none⟩ = some (.int .i64 t) ∧ w4.drew.cell? ⟨wr.heap.size, 2, none⟩ = some (.int .i64 l) ∧ w4.drew.cell? ⟨wr.heap.size, 3, none⟩ = some (.int .i64 q) ∧ w4.drew.cell? ⟨wr.heap.size, 4, none⟩ = some (.bool st) ∧ w4.drew.cell? ⟨wr.heap.size, 5, none⟩ = some (.slice a m c) := hS4
        clear hS0 hS4 HRP HPut HStep HSc HX HQ
        go_wp2_with fail
        go_region_held3 (fun w' => w'.cell? ⟨bl, ol + k, none⟩ = some (.int .i64 y) ∧ w'.cell? ⟨wr.heap.size, 0, none⟩ = some (.int .i64 s) ∧ w'.cell? ⟨wr.heap.size, 1, none⟩ = some (.int .i64 t) ∧ w'.cell? ⟨wr.heap.size, 2, none⟩ = some (.int .i64 l) ∧ w'.cell? ⟨wr.heap.size, 3, none⟩ = some (.int .i64 q) ∧ w'.cell? ⟨wr.heap.size, 4, none⟩ = some (.bool st) ∧ w'.cell? ⟨wr.heap.size, 5, none⟩ = some (.slice a m c)) (with_reducible assumption) (first | (go_at_call 6; refine HPu.out.mono ?_; rintro e w5 ⟨rfl, hS5, HS5⟩))
        clear hS1 hS5 HPu HA HC
        have hg5 : w5.cell? ⟨0, 0, none⟩ = some (.iface 78 (.agg #[.pointer (some ⟨1, 27, none⟩)])) := (HS5.out.bel.cell (p := ⟨0, 0, none⟩) h0s).trans HG.out
        have HG5 := hidden hg5
        clear hg5
        go_wp2_with fail
        refine (told_f Fl w5 hF100 HG5.out).mono ?_
        rintro e w6 ⟨rfl, hb6⟩
        have HS6' := hidden (HS5.out.below hb6)
        clear hb6 HS5 HG5
        obtain ⟨av, cv, hv⟩ := ref_slice HS6'.out.ref.2
        rw [hv] at HS6'
        have HS6 : Hid (PSt w w6 b mb rb n T' M' (.slice av M'.length cv)) := HS6'
        clear hv HS6'
        have hlen : M'.length ≤ 64 := by have := HS6.out.inv.len; have := HS6.out.inv.n2; omega
        have HTop : Hid (∀ W, (W.cell? ⟨rb, 1, none⟩ = some (.int .i64 T') ∧ W.cell? ⟨rb, 2, none⟩ = some (.slice av M'.length cv) ∧ Hid (PSt w W b mb rb n T' M' (.slice av M'.length cv))) → Calls Tryd.prog 12 #[.pointer (some ⟨b, 0, none⟩)] W fun e w' => e = .returned (.int .i64 T') ∧ (w'.cell? ⟨rb, 1, none⟩ = some (.int .i64 T') ∧ w'.cell? ⟨rb, 2, none⟩ = some (.slice av M'.length cv) ∧ Hid (PSt w w' b mb rb n T' M' (.slice av M'.length cv)))) := by
          refine hidden ?_
          rintro W ⟨k0, k1, hO⟩
          refine (top_calls b T' W hO.out.ring.cells.2.1).mono ?_
          rintro e w' ⟨rfl, rfl⟩
          exact ⟨rfl, k0, k1, hO⟩
        have HLow : Hid (∀ W, (W.cell? ⟨rb, 1, none⟩ = some (.int .i64 T') ∧ W.cell? ⟨rb, 2, none⟩ = some (.slice av M'.length cv) ∧ Hid (PSt w W b mb rb n T' M' (.slice av M'.length cv))) → Calls Tryd.prog 11 #[.pointer (some ⟨b, 0, none⟩)] W fun e w' => e = .returned (.int .i64 (low T' M')) ∧ (w'.cell? ⟨rb, 1, none⟩ = some (.int .i64 T') ∧ w'.cell? ⟨rb, 2, none⟩ = some (.slice av M'.length cv) ∧ Hid (PSt w w' b mb rb n T' M' (.slice av M'.length cv)))) := by
          refine hidden ?_
          rintro W ⟨k0, k1, hO⟩
          refine (low_calls b mb n T' M' W hO.out.ring hO.out.inv).mono ?_
          rintro e w' ⟨rfl, hb⟩
          have hO' := hO.out.below hb
          exact ⟨rfl, (ref_cells hO'.ref).2.1, (ref_cells hO'.ref).2.2, hO'⟩
        have HRLow : Hid (∀ W, (W.cell? ⟨rb, 1, none⟩ = some (.int .i64 T') ∧ W.cell? ⟨rb, 2, none⟩ = some (.slice av M'.length cv) ∧ Hid (PSt w W b mb rb n T' M' (.slice av M'.length cv))) → Calls Tryd.prog 15 #[.pointer (some ⟨rb, 0, none⟩)] W fun e w' => e = .returned (.int .i64 (low T' M')) ∧ (w'.cell? ⟨rb, 1, none⟩ = some (.int .i64 T') ∧ w'.cell? ⟨rb, 2, none⟩ = some (.slice av M'.length cv) ∧ Hid (PSt w w' b mb rb n T' M' (.slice av M'.length cv)))) := by
          refine hidden ?_
          rintro W ⟨k0, k1, hO⟩
          refine (rlow_calls w.heap.size rb n T' M' _ W hO.out.ref (by omega) hO.out.inv).mono ?_
          rintro e w' ⟨rfl, rfl⟩
          exact ⟨rfl, k0, k1, hO⟩
        have HLen : Hid (∀ W, (W.cell? ⟨rb, 1, none⟩ = some (.int .i64 T') ∧ W.cell? ⟨rb, 2, none⟩ = some (.slice av M'.length cv) ∧ Hid (PSt w W b mb rb n T' M' (.slice av M'.length cv))) → Calls Tryd.prog 10 #[.pointer (some ⟨b, 0, none⟩)] W fun e w' => e = .returned (.int .i64 (M'.length : Int)) ∧ (w'.cell? ⟨rb, 1, none⟩ = some (.int .i64 T') ∧ w'.cell? ⟨rb, 2, none⟩ = some (.slice av M'.length cv) ∧ Hid (PSt w w' b mb rb n T' M' (.slice av M'.length cv)))) := by
          refine hidden ?_
          rintro W ⟨k0, k1, hO⟩
          refine (len_calls b mb n T' M' W hO.out.ring hO.out.inv).mono ?_
          rintro e w' ⟨rfl, rfl⟩
          exact ⟨rfl, k0, k1, hO⟩
        have hS6 : w6.drew.cell? ⟨rb, 1, none⟩ = some (.int .i64 T') ∧ w6.drew.cell? ⟨rb, 2, none⟩ = some (.slice av M'.length cv) ∧ Hid (PSt w w6.drew b mb rb n T' M' (.slice av M'.length cv)) := ⟨(ref_cells HS6.out.ref).2.1, (ref_cells HS6.out.ref).2.2, HS6.out.below ((Below.refl _ _).drew)⟩
        generalize low T' M' = lo at *
        go_wp2_with fail
        go_region_held3 (fun w' => w'.cell? ⟨rb, 1, none⟩ = some (.int .i64 T') ∧ w'.cell? ⟨rb, 2, none⟩ = some (.slice av M'.length cv) ∧ Hid (PSt w w' b mb rb n T' M' (.slice av M'.length cv))) (with_reducible assumption) (first | (go_at_call 12; refine (HTop.out _ (by with_reducible assumption)).mono ?_; rintro e w7 ⟨rfl, hS7⟩) | (go_at_call 11; refine (HLow.out _ (by with_reducible assumption)).mono ?_; rintro e w8 ⟨rfl, hS8⟩) | (go_at_call 15; refine (HRLow.out _ (by with_reducible assumption)).mono ?_; rintro e w9 ⟨rfl, hS9⟩) | (go_at_call 10; refine (HLen.out _ (by with_reducible assumption)).mono ?_; rintro e w10 ⟨rfl, hS10⟩))
        have HS10 := hS10.2.2
        clear hS10 hS9 hS8 hS7 hS6 HTop HLow HRLow HLen HS6
        go_wp2_with fail
        go_loopw [20] (fun j' wq => ∃ j : Nat, j ≤ 6 ∧ j' = .int .i64 j ∧ Hid (PSt w wq b mb rb n T' M' (.slice av M'.length cv))) (fun j' _ => 6 - (intOf j').toNat)
        case atStart => exact ⟨0, by omega, rfl, HS10⟩
        case round =>
          obtain ⟨j, hj, rfl, HSq⟩ := hrel
          clear HS10
          by_cases hend2 : j < la ∧ j < 6
          · obtain ⟨hja, hj6⟩ := hend2
            obtain ⟨ba, oa, rfl, hba, hca⟩ := HY.out.1 j hja
            have hwf := HY.out.2 j hja
            obtain ⟨z, hz⟩ : ∃ z, Y j = z := ⟨_, rfl⟩
            rw [hz] at hca hwf
            clear hz
            have HW := hidden hwf
            have d0 : ∀ O, (wr.alloc O).cell? ⟨ba, oa + j, none⟩ = some (.int .i64 z) := fun O => cell_alloc ((HSq.out.bel.cell (p := ⟨ba, oa + j, none⟩) hba).trans hca) O
            have j1 : (j : Int) < (la : Int) := by omega
            have HB0 : Hid (∀ O, Below wr.heap.size wr (wr.alloc O)) := hidden (fun O => (Below.refl _ _).alloc (Nat.le_refl _) O)
            clear hca hwf
            by_cases hh : has M' z = true
            · have hne : M' ≠ [] := by intro e; rw [e] at hh; simp [has] at hh
              obtain ⟨g, hav⟩ : ∃ g, av = some ⟨g, 0, none⟩ := by
                rcases ref_form HSq.out.ref.2 with ⟨_, e⟩ | ⟨g, c', e, _⟩
                · exact absurd e hne
                · simp only [Value.slice.injEq] at e
                  exact ⟨g, e.1⟩
              have HAt : Hid (∀ W, RefAt W w.heap.size rb n T' M' (.slice av M'.length cv) → Calls Tryd.prog 16 #[.pointer (some ⟨rb, 0, none⟩), .int .i64 z] W fun e w' => ∃ jj : Nat, e = .returned (.int .i64 (jj : Int)) ∧ w' = W ∧ Hid (∃ i, M'[jj]? = some i ∧ i.1 = z)) := by
                refine hidden (fun W hW => (at_calls w.heap.size rb n T' z M' _ W hW (by omega)).mono ?_)
                rintro e w' ⟨h, rfl⟩
                rcases h with ⟨h, _⟩ | ⟨jj, i, h1, h2, rfl⟩
                · rw [hh] at h; cases h
                · exact ⟨jj, rfl, rfl, i, h1, h2⟩
              clear hne hh
              go_wp2_with fail
              refine (HAt.out _ (HSq.out.ref.below (HB0.out _))).mono ?_
              rintro e w11 ⟨jj, rfl, rfl, HI⟩
              obtain ⟨i, hi, hiz⟩ := HI.out
              have him : i ∈ M' := List.mem_of_getElem? hi
              have hjl : jj < M'.length := (List.getElem?_eq_some_iff.1 hi).1
              obtain ⟨a', m', c', hbv, hA', hN'⟩ := HSq.out.ok i him
              have hrow : ∀ O, (wr.alloc O).ownsRow w.heap.size 49 8 (.slice (some ⟨g, 0, none⟩) M'.length cv) M'.length (flat M') := fun O => by rw [← hav]; exact (HSq.out.ref.below (HB0.out O)).2
              have rr := fun O => ref_item (hrow O) hi hbv
              have r2 := fun O => (rr O).2.2.1
              have r3 := fun O => (rr O).2.2.2.1
              have r4 := fun O => (rr O).2.2.2.2.1
              have r5 := fun O => (rr O).2.2.2.2.2.1
              have r6 := fun O => (rr O).2.2.2.2.2.2.1
              have r7 := fun O => (rr O).2.2.2.2.2.2.2
              have c2 : ∀ O, (wr.alloc O).cell? ⟨rb, 2, none⟩ = some (.slice (some ⟨g, 0, none⟩) M'.length cv) := fun O => by rw [← hav]; exact (ref_cells (HSq.out.ref.below (HB0.out O))).2.2
              have HGet : Hid (∀ W, RingAt W b mb n T' M' → Calls Tryd.prog 8 #[.pointer (some ⟨b, 0, none⟩), .int .i64 z] W fun e w' => ∃ a2 m2 c2, e = .returned (.tuple #[.agg #[.int .i64 i.2.s, .int .i64 i.2.t, .int .i64 i.2.l, .int .i64 i.2.q, .bool i.2.st, .slice a2 m2 c2], .nilIface]) ∧ Arg w' a2 m2 i.2.L ∧ Below W.heap.size W w') := by
                refine hidden (fun W hW => (get_calls b mb n T' z M' W hW HW.out).mono ?_)
                rintro e w' ⟨a2, m2, c2, rfl, hA2, hb2⟩
                have hgot : got M' z = i.2 := by rw [← hiz]; exact got_eq HSq.out.inv.one him
                have hgf : gf M' z = 0 := by have : has M' z = true := has_iff.2 ⟨i, him, hiz⟩; simp [gf, this]
                rw [hgot] at hA2 ⊢
                rw [hgf]
                exact ⟨a2, m2, c2, rfl, hA2, hb2⟩
              have HA' := hidden hA'
              have jl1 : (jj : Int) < (M'.length : Int) := by omega
              have jl0 : (0 : Int) ≤ (jj : Int) := by omega
              clear rr hrow hA' hN' hbv him hi hiz HI HAt hav
              generalize i.2.s = s' at *
              generalize i.2.t = t' at *
              generalize i.2.l = l' at *
              generalize i.2.q = q' at *
              generalize i.2.st = st' at *
              generalize i.2.L = L' at *
              clear i
              go_wp2_with fail
              refine (HGet.out _ (HSq.out.ring.below (HB0.out _))).mono ?_
              rintro e w12 ⟨a2, m2, k2, rfl, hA2, hb12⟩
              have HX12 : Hid (Box w12 wr.heap.size s' t' l' q' st' (.slice a' m' c')) := (Box.new wr s' t' l' q' st' (.slice a' m' c')).below hb12 (by simp)
              have HS12 := hidden ((HSq.out.below (HB0.out _)).below hb12)
              have HA2 := hidden hA2
              clear hb12 HGet hA2 r2 r3 r4 r5 r6 r7 c2
              obtain ⟨x0, x1, x2, x3, x4, x5⟩ := HX12.out.cells
              have y0 := fun O => cell_alloc x0 O
              have y1 := fun O => cell_alloc x1 O
              have y2 := fun O => cell_alloc x2 O
              have y3 := fun O => cell_alloc x3 O
              have y4 := fun O => cell_alloc x4 O
              have y5 := fun O => cell_alloc x5 O
              have HG12 : Hid (∀ O, (w12.alloc O).cell? ⟨0, 0, none⟩ = some (.iface 78 (.agg #[.pointer (some ⟨1, 27, none⟩)]))) := hidden (fun O => cell_alloc ((HS12.out.bel.cell (p := ⟨0, 0, none⟩) h0s).trans HG.out) O)
              clear x0 x1 x2 x3 x4 x5 d0
              go_wp2_with fail
              refine (Told.same_nil 0 _).mono ?_
              rintro e w13 ⟨rfl, rfl⟩
              go_wp2_with fail
              refine (same_pk s' t' l' q' st' a2 a' m2 m' k2 c' L' _ (HA2.out.below ((Below.refl _ _).alloc (Nat.le_refl _) _)) ((HA'.out.below HS12.out.bel).below ((Below.refl _ _).alloc (Nat.le_refl _) _))).mono ?_
              rintro e w14 ⟨rfl, hb14⟩
              have HS14 := hidden ((HS12.out.below ((Below.refl _ _).alloc (Nat.le_refl _) _)).below hb14)
              clear hb14
              go_wp2_with fail
              go_roundw
              case rel => exact ⟨j + 1, by omega, by go_num, HS14⟩
              case measure => simp [intOf]; omega
            · have hh' : has M' z = false := by simpa using hh
              have HAt : Hid (∀ W, RefAt W w.heap.size rb n T' M' (.slice av M'.length cv) → Calls Tryd.prog 16 #[.pointer (some ⟨rb, 0, none⟩), .int .i64 z] W fun e w' => e = .returned (.int .i64 (-1)) ∧ w' = W) := by
                refine hidden (fun W hW => (at_calls w.heap.size rb n T' z M' _ W hW (by omega)).mono ?_)
                rintro e w' ⟨h, rfl⟩
                rcases h with ⟨_, h⟩ | ⟨jj, i, h1, h2, _⟩
                · exact ⟨h, rfl⟩
                · exact absurd h2 (has_no hh' i (List.mem_of_getElem? h1))
              have HGet : Hid (∀ W, RingAt W b mb n T' M' → Calls Tryd.prog 8 #[.pointer (some ⟨b, 0, none⟩), .int .i64 z] W fun e w' => e = .returned (.tuple #[.agg #[.int .i64 0, .int .i64 0, .int .i64 0, .int .i64 0, .bool false, .slice none 0 0], .iface 51 (.int .i64 5)]) ∧ Below W.heap.size W w') := by
                refine hidden (fun W hW => (get_none b mb n T' z M' W hW hh' HW.out).mono ?_)
                rintro e w' ⟨rfl, hb⟩
                exact ⟨rfl, hb⟩
              clear hh hh'
              go_wp2_with fail
              refine (HAt.out _ (HSq.out.ref.below (HB0.out _))).mono ?_
              rintro e w11 ⟨rfl, rfl⟩
              go_wp2_with fail
              refine (HGet.out _ (HSq.out.ring.below (HB0.out _))).mono ?_
              rintro e w12 ⟨rfl, hb12⟩
              have HX12 : Hid (Box w12 wr.heap.size 0 0 0 0 false (.slice none 0 0)) := (Box.new wr 0 0 0 0 false (.slice none 0 0)).below hb12 (by simp)
              have HS12 := hidden ((HSq.out.below (HB0.out _)).below hb12)
              have hnil : ∀ W : World, Arg W none 0 [] := fun W => ⟨Bys.nil _ _, rfl, by omega⟩
              have HNil := hidden hnil
              clear hb12 HGet hnil
              obtain ⟨x0, x1, x2, x3, x4, x5⟩ := HX12.out.cells
              have y0 := fun O => cell_alloc x0 O
              have y1 := fun O => cell_alloc x1 O
              have y2 := fun O => cell_alloc x2 O
              have y3 := fun O => cell_alloc x3 O
              have y4 := fun O => cell_alloc x4 O
              have y5 := fun O => cell_alloc x5 O
              have HG12 : Hid (∀ O, (w12.alloc O).cell? ⟨0, 0, none⟩ = some (.iface 78 (.agg #[.pointer (some ⟨1, 27, none⟩)]))) := hidden (fun O => cell_alloc ((HS12.out.bel.cell (p := ⟨0, 0, none⟩) h0s).trans HG.out) O)
              clear x0 x1 x2 x3 x4 x5 d0
              go_wp2_with fail
              refine (Told.same_err 5 5 _ (by decide) (by decide) (HG12.out _)).mono ?_
              rintro e w13 ⟨rfl, hb13⟩
              have HS13 := hidden ((HS12.out.below ((Below.refl _ _).alloc (Nat.le_refl _) _)).below hb13)
              have HXq := hidden ((Box.new w12 0 0 0 0 false (.slice none 0 0)).below hb13 (by simp))
              have HXw := hidden ((HX12.out.alloc (.cells #[.int .i64 0, .int .i64 0, .int .i64 0, .int .i64 0, .bool false, .slice none 0 0] 24)).below hb13 (by have := HX12.out.lt; simp; omega))
              clear hb13 y0 y1 y2 y3 y4 y5
              obtain ⟨x0, x1, x2, x3, x4, x5⟩ := HXq.out.cells
              obtain ⟨v0, v1, v2, v3, v4, v5⟩ := HXw.out.cells
              go_wp2_with fail
              refine (same_pk 0 0 0 0 false none none 0 0 0 0 [] _ (HNil.out _) (HNil.out _)).mono ?_
              rintro e w14 ⟨rfl, hb14⟩
              have HS14 := hidden (HS13.out.below hb14)
              clear hb14
              go_wp2_with fail
              go_roundw
              case rel => exact ⟨j + 1, by omega, by go_num, HS14⟩
              case measure => simp [intOf]; omega
          · by_cases hja : j < la
            · have hj6 : ¬ j < 6 := fun h => hend2 ⟨hja, h⟩
              clear hend2
              go_wp2_with fail
              go_roundw
              case rel => exact ⟨k + 1, T', M', _, by omega, by go_num, HSq⟩
              case measure => simp [intOf]; omega
            · clear hend2
              go_wp2_with fail
              go_roundw
              case rel => exact ⟨k + 1, T', M', _, by omega, by go_num, HSq⟩
              case measure => simp [intOf]; omega
    · by_cases hlt : k < ll
      · have h80 : ¬ k < 80 := fun h => hend ⟨hlt, h⟩
        clear hend
        go_wp2_with fail
        go_ret
        exact ⟨rfl, HS.out.bel⟩
      · clear hend
        go_wp2_with fail
        go_ret
        exact ⟨rfl, HS.out.bel⟩

theorem walk (n : Int) (al ap aa : Option Addr) (ll cl lp cp la ca : Nat) (Z : Nat → Int) (F : Nat → Pk) (Y : Nat → Int) (w : World) (hg : w.cell? ⟨0, 0, none⟩ = some (.iface 78 (.agg #[.pointer (some ⟨1, 27, none⟩)])))
    (hZ : Open.Nums w al ll Z) (hF : Open.Pks w ap lp F) (hY : Open.Nums w aa la Y) :
    Calls Tryd.prog 4 #[.int .i64 n, .slice al ll cl, .slice ap lp cp, .slice aa la ca] w fun e w' => e = .returned (.bool true) ∧ Below w.heap.size w w' := by
  by_cases h : n < 1 ∨ 64 < n
  · exact walk_err n _ _ _ w hg h
  · exact walk_ok n al ap aa ll cl lp cp la ca Z F Y w hg (by omega) (by omega) hZ hF hY
end Go.Proofs.YtfehmpdeenpahadDoor.Plays
