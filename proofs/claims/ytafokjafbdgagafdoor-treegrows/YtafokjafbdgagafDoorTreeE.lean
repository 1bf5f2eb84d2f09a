/-
  What Path of package tree returns of any parents and any node. It changes nothing that was there.
-/
import Derived.Test.YtafokjafbdgagafDoorTreeD
namespace Go.Proofs.YtafokjafbdgagafDoor.Tree
open Go.ChangeShapes Go.WideShapes Go.ChangeAt Go.RowKit Go.Proofs.YtafokjafbdgagafDoor.Mem Go.Proofs.YtafokjafbdgagafDoor.TM
set_option linter.unusedVariables false

/-- what Path gives -/
def pl (P : List Int) (x : Int) : List Int := if bf P x = 0 then (wu P P.length x).reverse else []
theorem pl_len (P : List Int) (x : Int) : (pl P x).length ≤ 16 := by
  unfold pl
  split
  · rename_i h
    have := (bf_zero h).1.len
    have := wu_le P P.length x
    simp
    omega
  · simp
set_option maxHeartbeats 4000000 in
set_option maxRecDepth 100000 in
theorem path_calls (a : Option Addr) (n cap : Nat) (P : List Int) (x : Int) (w : World) (h : IArg w a n P) :
    Calls Tryd.prog 31 #[.slice a n cap, .int .i64 x] w fun e w' => ∃ v, e = .returned (.tuple #[v, errv (bf P x)]) ∧ w'.ownsRow w.heap.size 3 1 v (pl P x).length (ic (pl P x)) ∧ Below w.heap.size w w' := by
  have hl := h.2.1
  have C := hidden (belowN_calls a n cap P x w h)
  have HA := hidden h
  clear h
  by_cases h0 : bf P x = 0
  · obtain ⟨hOk, x', rfl, hx'⟩ := bf_zero h0
    have h16 : n ≤ 16 := by have := hOk.len; omega
    have hkl : pl P (x' : Int) = (wu P n (x' : Int)).reverse := by unfold pl; rw [if_pos h0, hl]
    rw [hkl, h0]
    rw [h0] at C
    clear hkl h0
    rw [errv_zero] at C ⊢
    have HR := hidden hOk.rng
    have HE : Hid (anc P n (x' : Int) = -1) := by have := hOk.ends x' hx'; rw [hl] at this; exact this
    clear hOk
    obtain ⟨W, hW⟩ : ∃ W, wu P n (x' : Int) = W := ⟨_, rfl⟩
    rw [hW]
    have HK0 : Hid ([] ++ wu P n (x' : Int) = W) := hW
    have hWl : W.length ≤ n := by rw [← hW]; exact wu_le _ _ _
    have hW1 : 1 ≤ W.length := by
      obtain ⟨m, e1, e2, _⟩ := wu_step (by omega) HE.out
      rw [← hW, e2]; simp
    clear hW
    obtain ⟨i0, hii, hz0, hz1, hz2⟩ := info_parts info3
    go_enter Tryd.func31, Tryd.ntmps31
    go_wp2_with fail
    refine C.out.mono ?_
    rintro e w1 ⟨rfl, hw1⟩
    have HN0 : Hid (NSt w w1 [] (.slice none 0 0)) := ⟨hw1, World.ownsRow_nil _ _ _ _⟩
    have HA1 := hidden (HA.out.below hw1)
    clear hw1
    go_wp2_with fail
    go_loopg [7, 8] n (fun g u y wr => ∃ (k : Nat) (v : Value) (K : List Int) (z : Int), k ≤ g ∧ v = u ∧ y = .int .i64 z ∧ K.length ≤ n ∧ (z = -1 ∨ ∃ q : Nat, z = (q : Int) ∧ q < n) ∧ Hid (anc P k z = -1) ∧ Hid (K ++ wu P k z = W) ∧ Hid (NSt w wr K v) ∧ Hid (IArg wr a n P))
    case atStart => exact ⟨n, _, [], (x' : Int), by omega, rfl, rfl, by simp, .inr ⟨x', rfl, by omega⟩, HE, HK0, HN0, HA1⟩
    case round =>
      obtain ⟨k, v, K, z, hkg, rfl, rfl, hKl, hz, HZ, HK, HS, HA2⟩ := hrel
      rcases hz with rfl | ⟨q, rfl, hq⟩
      · have hk := HK.out
        rw [wu_neg, List.append_nil] at hk
        subst hk
        obtain ⟨ga, ca, rfl⟩ : ∃ ga ca, v = .slice (some ⟨ga, 0, none⟩) K.length ca := by
          rcases HS.out.own.2 with ⟨_, h⟩ | ⟨g', c', _, h, _⟩
          · omega
          · exact ⟨g', c', h⟩
        have C2 := hidden (rev_calls w.heap.size ga K.length ca K wr HS.out.own hW1 (by omega))
        have hlt := HS.out.own.lt ga rfl
        go_wp2_with fail
        refine C2.out.mono ?_
        rintro e w2 ⟨rfl, ho2, hon⟩
        have HB : Hid (Below w.heap.size w w2) := HS.out.below.trans (hon.below HS.out.below.size (by simp; omega))
        have HO : Hid (w2.ownsRow w.heap.size 3 1 (.slice (some ⟨ga, 0, none⟩) K.length ca) K.reverse.length (ic K.reverse)) := by rw [List.length_reverse]; exact ho2
        clear ho2 hon
        go_wp2_with fail
        go_ret2
        exact ⟨_, rfl, HO.out, HB.out⟩
      · have hne : ((q : Int) != -1) = true := bne_iff_ne.2 (by omega)
        obtain ⟨b, o, rfl, hcs⟩ := HA2.out.at (by omega)
        obtain ⟨m, rfl, e2, e3⟩ := wu_step (by omega) HZ.out
        have hk := HK.out
        rw [e2] at hk
        have hr := HR.out q (by omega)
        rw [pa_nat] at hk e3
        have hKl2 : K.length + 1 ≤ n := by
          rw [← hk, List.length_append, List.length_cons] at hWl; omega
        have HC : Hid (∀ w', Below w.heap.size w w' → w'.cell? ⟨b, o + q, none⟩ = some (.int .i64 (dg P q))) := fun w' hb => by
          obtain ⟨b2, o2, e, hc⟩ := (HA.out.below hb).at (by omega)
          simp only [Option.some.injEq, Addr.mk.injEq] at e
          obtain ⟨rfl, rfl, _⟩ := e
          exact hc q hq
        clear hcs e2
        obtain ⟨p, hp⟩ : ∃ p, dg P q = p := ⟨_, rfl⟩
        rw [hp] at hk e3 hr HC
        clear hp
        have hK1 : (K ++ [(q : Int)]) ++ wu P m p = W := by rw [List.append_assoc]; exact hk
        have HK1 := hidden hK1
        have HZ1 := hidden e3
        clear hk hK1 e3 HK HZ
        go_wp2_with (at_builtin; refine wpList_append_own _ rfl _ _ 54 rfl w.heap.size 3 i0 _ 1 8 Tryd.underlying54 hii hz0 hz1 hz2 rfl (by decide) _ K.length (ic K) rfl (HS.out.own.alloc _) ⟨wr.heap.size, 0, none⟩ 1 1 [.int .i64 (q : Int)] rfl rfl ?cc ?one ?b1 ?b2 ?b3 ?next)
        case cc => exact lit1 _
        case one => simp [Value.oneCell']
        case b1 => unfold maxLen; omega
        case b2 => omega
        case b3 => have := HS.out.below.size; simp; omega
        case next =>
        intro v3 w' hown hgrow _
        have HBn : Hid (Below w.heap.size w w') := by
          have hs := HS.out.below.size
          exact (HS.out.below.alloc hs _).grown hgrow (by simp; omega) (fun j hj => (HS.out.own.lt j hj).1)
        have HAn := hidden (HA.out.below HBn.out)
        have HSn : Hid (NSt w w' (K ++ [(q : Int)]) v3) := by
          refine ⟨HBn.out, ?_⟩
          rw [List.length_append]
          have e : ic (K ++ [(q : Int)]) = ic K ++ [.int .i64 (q : Int)] := by simp [ic]
          rw [e]
          exact hown
        have hc0 := HC.out w' HBn.out
        clear hown hgrow
        go_wp2_with fail
        go_roundg m
        case measure => omega
        case rel => exact ⟨m, v3, _, p, by omega, rfl, rfl, by simp; omega, by rcases Int.lt_or_le p 0 with h | h; (· exact .inl (by omega)); (· exact .inr ⟨p.toNat, by omega, by omega⟩), HZ1, HK1, HSn, HAn⟩
  · have hkl : pl P x = [] := by unfold pl; rw [if_neg h0]
    rw [hkl]
    clear hkl
    rw [errv_pos h0] at C ⊢
    generalize bf P x = f at *
    go_enter Tryd.func31, Tryd.ntmps31
    go_wp2_with fail
    refine C.out.mono ?_
    rintro e w1 ⟨rfl, hw1⟩
    have HW := hidden hw1
    clear hw1
    go_wp2_with fail
    go_ret2
    exact ⟨_, rfl, World.ownsRow_nil _ _ _ _, HW.out⟩
end Go.Proofs.YtafokjafbdgagafDoor.Tree
