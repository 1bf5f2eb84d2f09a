/-
  The walk of the Go function PackBack: it returns true at any packet, any bytes and any number. It changes nothing that was there.
-/
import Derived.Test.YtdmajaofjfgccabPackI
import Derived.Deep.CutRange
namespace Go.Proofs.Ytdmajaofjfgccab.Back
open Go.ChangeShapes Go.WideShapes Go.ChangeAt Go.RowKit Go.Proofs.Ytdmajaofjfgccab.PM Go.Proofs.Ytdmajaofjfgccab.Mem Go.Proofs.Ytdmajaofjfgccab.Pack
set_option linter.unusedVariables false

/-- nothing that was there has changed, and p is in its variable -/
def St (w wx : World) (s t l v : Int) (st : Bool) (bv : Value) : Prop := Below w.heap.size w wx ∧ Box wx w.heap.size s t l v st bv
theorem St.next {w wx wy : World} {s t l v : Int} {st : Bool} {bv : Value} (h : St w wx s t l v st bv) (hb : Below wx.heap.size wx wy) : St w wy s t l v st bv := ⟨h.1.trans (hb.mono h.1.size), h.2.below hb h.2.lt⟩
theorem St.alloc {w wx : World} {s t l v : Int} {st : Bool} {bv : Value} (h : St w wx s t l v st bv) (o : Obj) : St w (wx.alloc o) s t l v st bv := h.next ((Below.refl _ _).alloc (Nat.le_refl _) o)

set_option maxHeartbeats 4000000 in
set_option maxRecDepth 100000 in
theorem walk (s t l v : Int) (st : Bool) (a0 : Option Addr) (n0 cap0 : Nat) (L : List Nat) (a1 : Option Addr) (n1 cap1 : Nat) (B : List Nat) (size : Int) (w : World) (hA : Arg w a0 n0 L) (hn : a0 = none → n0 = 0 ∧ cap0 = 0) (hcap : n0 ≤ cap0) (hB : Arg w a1 n1 B) (hcap1 : n1 ≤ cap1) :
    Calls Try.prog 4 #[.agg #[.int .i64 s, .int .i64 t, .int .i64 l, .int .i64 v, .bool st, .slice a0 n0 cap0], .slice a1 n1 cap1, .int .i64 size] w fun e w' => e = .returned (.bool true) ∧ Below w.heap.size w w' := by
  have HE0 := hidden (fun W => encode_good 258 0 2 0 true none 0 0 [] W ⟨Bys.nil _ _, rfl, by omega⟩ (fun _ => ⟨rfl, rfl⟩) (by omega) (by omega) (by omega) (by omega) (by omega))
  have HE := hidden (fun W h => encode_gen s t l v st a0 n0 cap0 L W h hn)
  have HR := hidden (fun W h => read_gen a1 n1 cap1 B W h hcap1)
  have HS := hidden (fun W h => split_gen s t l v st a0 n0 cap0 L size W h hn hcap)
  have HF : Hid (fault s t l v n0 = 0 → ∃ s' t' l' v' : Nat, s = s' ∧ t = t' ∧ l = l' ∧ v = v' ∧ s' ≤ 65535 ∧ t' ≤ 4294967295 ∧ l' ≤ 3 ∧ v' ≤ 127 ∧ n0 ≤ 1000) := fun h => fault_zero h
  generalize fault s t l v n0 = f at *
  generalize rfault B = r at *
  generalize sfault s t l v n0 size = sf at *
  have q0 : ∀ W, (binOp .eql 28 (errv f) .nilIface).run Try.prog W = .ok (.bool (decide (f = 0))) W := cmp_eq f
  have q1 := grd_eq f
  have q2 : ∀ W, (binOp .eql 28 (errv r) .nilIface).run Try.prog W = .ok (.bool (decide (r = 0))) W := cmp_eq r
  have q3 := grd_eq r
  have q4 : ∀ W, (binOp .neq 28 (errv sf) .nilIface).run Try.prog W = .ok (.bool (!decide (sf = 0))) W := cmp_ne sf
  have q5 := grd_ne sf
  obtain ⟨df, hdf⟩ : ∃ d, decide (f = 0) = d := ⟨_, rfl⟩
  obtain ⟨dr, hdr⟩ : ∃ d, decide (r = 0) = d := ⟨_, rfl⟩
  obtain ⟨ds, hds⟩ : ∃ d, decide (sf = 0) = d := ⟨_, rfl⟩
  simp only [hdf] at q0
  simp only [hdr] at q2
  simp only [hds] at q4
  have HDF := hidden hdf
  have HDR := hidden hdr
  have HDS := hidden hds
  clear hdf hdr hds
  have HA := hidden hA
  have HB := hidden hB
  clear hA hB
  obtain ⟨i0, hii, hz0, hz1, hz2⟩ := info_parts info5
  go_enter Try.func4, Try.ntmps4
  go_wp2_with fail
  refine (HE0.out _).mono ?_
  rintro e w1 ⟨g, rfl, _, hR0, hb1⟩
  have HX : Hid (St w w1 s t l v st (.slice a0 n0 cap0)) := ⟨below_old hb1, (Box.new w s t l v st (.slice a0 n0 cap0)).below hb1 (by simp)⟩
  have f0 : w1.cell? ⟨g, 0, none⟩ = some (.int .u8 162) := hR0.cell 0 (by decide)
  have f3 : w1.cell? ⟨g, 3, none⟩ = some (.int .u8 2) := hR0.cell 3 (by decide)
  clear hb1 hR0
  obtain ⟨c0, c1, c2, c3, c4, c5⟩ := HX.out.2.cells
  go_wp2_with fail
  refine (HE.out _ (HA.out.below HX.out.1)).mono ?_
  rintro e w2 ⟨a2, m2, k2, rfl, hb2, hE2⟩
  have HX2 := hidden (HX.out.next hb2)
  have HE2 := hidden hE2
  clear hb2 hE2 f0 f3 c0 c1 c2 c3 c4 c5 HX HE0 HE
  obtain ⟨c0, c1, c2, c3, c4, c5⟩ := HX2.out.2.cells
  go_upto_if 50 with fail
  go_cut [11, 12, 13] from 51 (fun x11 x12 x13 wx => Hid (St w wx s t l v st (.slice a0 n0 cap0)))
  case first =>
    cases df with
    | true =>
      have p : f = 0 := by simpa using HDF.out
      obtain ⟨s', t', l', v', rfl, rfl, rfl, rfl, hs, ht, hl, hv, hbn⟩ := HF.out p
      obtain ⟨hAx, hm, hm8, g2, rfl⟩ := HE2.out s' t' l' v' rfl rfl rfl rfl p
      have hLl : L.length ≤ 1000 := by have := HA.out.2.1; omega
      have HRB := hidden (read_back s' t' l' v' st L g2 0 m2 k2 w2 hAx hm hs ht hl hv hLl)
      clear hAx hm HE2 hm8 p
      go_wp2_with fail
      refine HRB.out.mono ?_
      rintro e w3 ⟨a3, m3, k3, rfl, hb3, hA3, hp3⟩
      have HX3 := hidden (HX2.out.next hb3)
      have HA3 := hidden hA3
      have b0 := fun O => (HX3.out.alloc O).2.cells.1
      have b1 := fun O => (HX3.out.alloc O).2.cells.2.1
      have b2 := fun O => (HX3.out.alloc O).2.cells.2.2.1
      have b3 := fun O => (HX3.out.alloc O).2.cells.2.2.2.1
      have b4 := fun O => (HX3.out.alloc O).2.cells.2.2.2.2.1
      have b5 := fun O => (HX3.out.alloc O).2.cells.2.2.2.2.2
      clear hb3 hA3 hp3 c0 c1 c2 c3 c4 c5
      go_wp2_with fail
      refine (same_pk _ _ _ _ _ _ _ _ _ _ _ L _ (HA3.out.below ((Below.refl _ _).alloc (Nat.le_refl _) _)) (HA.out.below (HX3.out.alloc _).1)).mono ?_
      rintro e w4 ⟨rfl, hb4⟩
      have HX4 := hidden ((HX3.out.alloc _).next hb4)
      clear hb4
      go_wp2_with fail
      go_meet
      exact HX4
    | false =>
      go_wp2_with fail
      go_meet
      exact HX2
  case rest =>
  have HX5 : Hid (St w wc s t l v st (.slice a0 n0 cap0)) := hcut
  clear hcut c0 c1 c2 c3 c4 c5 HX2 HE2 HDF q0 q1
  obtain ⟨c0, c1, c2, c3, c4, c5⟩ := HX5.out.2.cells
  go_wp2_with fail
  refine (HR.out _ (HB.out.below HX5.out.1)).mono ?_
  rintro e w6 ⟨s6, t6, l6, v6, st6, a6, m6, k6, rfl, hb6, hn6, hp6, ho6⟩
  have HX6 := hidden (HX5.out.next hb6)
  have HN6 := hidden hn6
  have HO6 := hidden ho6
  clear hb6 hn6 ho6 hp6 c0 c1 c2 c3 c4 c5 HX5 HR
  have b0 := fun O => (HX6.out.alloc O).2.cells.1
  have b1 := fun O => (HX6.out.alloc O).2.cells.2.1
  have b2 := fun O => (HX6.out.alloc O).2.cells.2.2.1
  have b3 := fun O => (HX6.out.alloc O).2.cells.2.2.2.1
  have b4 := fun O => (HX6.out.alloc O).2.cells.2.2.2.2.1
  have b5 := fun O => (HX6.out.alloc O).2.cells.2.2.2.2.2
  go_upto_if 71 with fail
  go_cut [15, 16] from 72 (fun x15 x16 wx => Hid (St w wx s t l v st (.slice a0 n0 cap0)))
  case first =>
    cases dr with
    | false =>
      go_wp2_with fail
      go_meet
      exact hidden (HX6.out.alloc _)
    | true =>
      have p : r = 0 := by simpa using HDR.out
      obtain ⟨h, _⟩ | ⟨hr0, x0, x1, x2, x3, x4, x5, x6, x7, R, e, g0, g1, g2, rfl, rfl, rfl, rfl, rfl, hA6⟩ := HO6.out
      · exact absurd p h
      have hx : ∀ c ∈ B, c < 256 := HB.out.1.1
      rw [e] at hx
      have hh := head_read (x0 := x0) (x1 := x1) (x2 := x2) (x3 := x3) (x4 := x4) (x5 := x5) (x6 := x6) (x7 := x7) g0 (hx _ (by simp)) (hx _ (by simp)) (hx _ (by simp)) (hx _ (by simp)) (hx _ (by simp))
      have hEB : head (x2 * 256 + x3) (((x4 * 256 + x5) * 256 + x6) * 256 + x7) (x0 % 4) x1 (decide (160 ≤ x0)) ++ R = B := by rw [hh, e]; rfl
      have hm6 : m6 ≤ 1000 := by have := hA6.2.1; omega
      have HEQ : Hid (∀ W, Arg W a6 m6 R → Calls Try.prog 6 #[.agg #[.int .i64 ((x2 * 256 + x3 : Nat) : Int), .int .i64 ((((x4 * 256 + x5) * 256 + x6) * 256 + x7 : Nat) : Int), .int .i64 ((x0 % 4 : Nat) : Int), .int .i64 (x1 : Int), .bool (decide (160 ≤ x0)), .slice a6 m6 k6]] W fun e w' => ∃ g, e = .returned (.tuple #[.slice (some ⟨g, 0, none⟩) (8 + m6) (8 + m6), .nilIface]) ∧ Arg w' (some ⟨g, 0, none⟩) (8 + m6) B ∧ Below W.heap.size W w') := fun W hW => by
        have y2 := hx x2 (by simp)
        have y3 := hx x3 (by simp)
        have y4 := hx x4 (by simp)
        have y5 := hx x5 (by simp)
        have y6 := hx x6 (by simp)
        have y7 := hx x7 (by simp)
        refine (encode_good (x2 * 256 + x3) (((x4 * 256 + x5) * 256 + x6) * 256 + x7) (x0 % 4) x1 (decide (160 ≤ x0)) a6 m6 k6 R W hW HN6.out (by omega) (by omega) (by omega) g1 hm6).mono ?_
        rintro e w' ⟨g, rfl, _, hRow, hb⟩
        rw [hEB] at hRow
        refine ⟨g, rfl, ⟨hRow.bys HB.out.1.1, ?_, by omega⟩, hb⟩
        rw [← hEB, List.length_append, head_len, hW.2.1]
      have HA6 := hidden hA6
      generalize ((x2 * 256 + x3 : Nat) : Int) = SE at *
      generalize ((((x4 * 256 + x5) * 256 + x6) * 256 + x7 : Nat) : Int) = TI at *
      generalize ((x0 % 4 : Nat) : Int) = LA at *
      generalize decide (160 ≤ x0) = ST at *
      clear hA6 hEB hh hx e g0 g1 g2 p HO6 HDR hr0
      go_wp2_with fail
      refine (HEQ.out _ (HA6.out.below ((Below.refl _ _).alloc (Nat.le_refl _) _))).mono ?_
      rintro e w8 ⟨g8, rfl, hA8, hb8⟩
      have HX8 := hidden ((HX6.out.alloc _).next hb8)
      have k1 := str_conv (cap := 8 + m6) hA8
      have k2 := str_conv (cap := cap1) (HB.out.below HX8.out.1)
      clear hb8 hA8 b0 b1 b2 b3 b4 b5 HEQ HX6 HA6
      generalize str B = SB at *
      go_wp2_with fail
      go_meet
      exact HX8
  case rest =>
  have HX7 : Hid (St w wc s t l v st (.slice a0 n0 cap0)) := hcut
  clear hcut b0 b1 b2 b3 b4 b5 HX6 HO6 HN6 HDR q2 q3 HB
  obtain ⟨c0, c1, c2, c3, c4, c5⟩ := HX7.out.2.cells
  go_wp2_with fail
  refine (HS.out _ (HA.out.below HX7.out.1)).mono ?_
  rintro e w9 ⟨a9, N, rfl, hb9, ho9⟩
  have HX9 := hidden (HX7.out.next hb9)
  have HO9 := hidden ho9
  clear hb9 ho9 c0 c1 c2 c3 c4 c5 HX7 HS
  obtain ⟨c0, c1, c2, c3, c4, c5⟩ := HX9.out.2.cells
  cases ds with
  | false =>
    go_wp2_with fail
    go_ret
    exact ⟨rfl, HX9.out.1⟩
  | true =>
  have p : sf = 0 := by simpa using HDS.out
  obtain ⟨h, _⟩ | ⟨hs0, s', t', l', v', z, rfl, rfl, rfl, rfl, rfl, hs, hn1000, h1, h2, hN, hN2, hP⟩ := HO9.out
  · exact absurd p h
  clear hs0 p HO9 HDS
  have HPK := hidden hP
  have HNN := hidden hN
  clear hP hN
  have hL := HA.out.2.1
  have hN1 : 1 ≤ N := by rw [HNN.out]; exact count_pos _ _
  have HEND : Hid (L.take (N * z) = L) := List.take_of_length_le (by rw [HNN.out, hL]; exact count_ends h1)
  have HSEQ : Hid (∀ k : Nat, k ≤ 1000 → ((s' : Int) + (k : Int)).tmod 65536 = (((s' + k) % 65536 : Nat) : Int)) := fun k _ => by
    rw [← Int.natCast_add]; rfl
  go_wp2_with fail
  go_loopw [18, 19] (fun x i wr => ∃ (k m : Nat) (all : Value), k ≤ N ∧ i = .int .i64 k ∧ all = x ∧ Hid (Below w9.heap.size w9 wr ∧ wr.ownsRow w9.heap.size 5 1 all m (cellsOf (L.take (k * z))))) (fun _ i _ => N - (intOf i).toNat)
  case atStart => exact ⟨0, 0, _, Nat.zero_le _, rfl, rfl, Below.refl _ _, by simpa [cellsOf] using World.ownsRow_nil w9 w9.heap.size 5 1⟩
  case round =>
    obtain ⟨k, m, all, hk, rfl, rfl, HL⟩ := hrel
    clear c0 c1 c2 c3 c4 c5
    by_cases hkN : k < N
    · obtain ⟨gk, ea, aB, nB, cB, ⟨e0, e1, e2, e3, e4, e5⟩, hBody⟩ := (HPK.out.below HL.out.1) k hkN
      subst ea
      obtain ⟨c0, c1, c2, c3, c4, c5⟩ := (HX9.out.next HL.out.1).2.cells
      have hnB : nB ≤ z := by
        have h3 := hBody.1.2.1
        have h4 := piece_len L z k
        change (piece L z k).length = nB at h3
        omega
      have HBO := hidden hBody
      clear hBody
      obtain ⟨SE, hSE⟩ : ∃ x : Int, (((s' + k) % 65536 : Nat) : Int) = x := ⟨_, rfl⟩
      obtain ⟨IZ, hIZ⟩ : ∃ x : Bool, decide (k = 0) = x := ⟨_, rfl⟩
      have f0 : wr.cell? ⟨gk, k * 6, none⟩ = some (.int .i64 SE) := by rw [← hSE]; exact e0
      have f1 : wr.cell? ⟨gk, k * 6 + 1, none⟩ = some (.int .i64 (t' : Int)) := e1
      have f4 : wr.cell? ⟨gk, k * 6 + 4, none⟩ = some (.bool (st && IZ)) := by rw [← hIZ]; exact e4
      have hrem : ((s' : Int) + (k : Int)).tmod 65536 = SE := by rw [← hSE]; exact HSEQ.out k (by omega)
      have hrw : IntKind.i64.wrap ((s' : Int) + (k : Int)) = (s' : Int) + (k : Int) := i64_wrap (by omega) (by omega)
      have hE0 : ((k : Int) == 0) = IZ := by
        rw [← hIZ]
        by_cases p : k = 0
        · subst p; rfl
        · simp [p]
      have hki : (k : Int) < (N : Int) := by omega
      have hk0 : (0 : Int) ≤ (k : Int) := by omega
      have hgt : decide ((z : Int) < (nB : Int)) = false := by simp; omega
      clear e0 e1 e2 e3 e4 hSE hIZ
      go_upto_region 22 with fail
      go_cut [144] from 94 to 151 (fun x wx => x = .bool false ∧ Hid (∃ q, wx = wr.drewN q))
      case first =>
        cases st with
        | true =>
          have f4' : wr.cell? ⟨gk, k * 6 + 4, none⟩ = some (.bool IZ) := f4
          clear f4
          go_quiet (fail)
          go_wp2_with fail
          go_meet
          exact ⟨by simp; omega, _, rfl⟩
        | false =>
          have f4' : wr.cell? ⟨gk, k * 6 + 4, none⟩ = some (.bool false) := f4
          clear f4
          go_quiet (fail)
          go_wp2_with fail
          go_meet
          exact ⟨by simp; omega, _, rfl⟩
      case rest =>
      obtain ⟨rfl, hwc⟩ := hcut
      have HLc : Hid (Below w9.heap.size w9 wc ∧ wc.ownsRow w9.heap.size 5 1 all m (cellsOf (L.take (k * z)))) := by
        obtain ⟨q, rfl⟩ := hwc.out
        exact ⟨below_drewN HL.out.1 q, HL.out.2⟩
      have g5 : wc.cell? ⟨gk, k * 6 + 5, none⟩ = some (.slice aB nB cB) := by
        obtain ⟨q, rfl⟩ := hwc.out
        exact e5
      have HBc : Hid (Body wc gk aB nB cB (piece L z k)) := by
        obtain ⟨q, rfl⟩ := hwc.out
        exact HBO.out.below (below_drewN (Below.refl _ _) q)
      have hm : m ≤ 1000 := by
        have h3 := HL.out.2.1
        rw [cellsOf_len, List.length_take] at h3
        omega
      have hpl : (piece L z k).length = nB := HBc.out.1.2.1
      clear hwc HL HBO e5 f0 f1 f4 hrem hrw hE0 c0 c1 c2 c3 c4 c5 hgt
      go_wp2_with (at_builtin; refine append_any rfl _ _ 22 rfl w9.heap.size 5 i0 (.int .u8 0) 1 1 Try.underlying22 hii hz0 hz1 hz2 rfl (by decide) _ m (cellsOf (L.take (k * z))) rfl HLc.out.2 aB nB cB (cellsOf (piece L z k)) rfl ?al HBc.out.2.1 ?ac (cells_one _) ?b1 ?b2 ?b3 ?next)
      case al => rw [cellsOf_len, hpl]; omega
      case ac => exact bys_cells HBc.out.1.1
      case b1 => unfold maxLen; omega
      case b2 => omega
      case b3 => exact HLc.out.1.size
      case next =>
      intro v1 w' hown hgrow
      have HLn : Hid (Below w9.heap.size w9 w' ∧ w'.ownsRow w9.heap.size 5 1 v1 (m + nB) (cellsOf (L.take ((k + 1) * z)))) := by
        refine ⟨HLc.out.1.grown hgrow HLc.out.1.size (fun k hk => (HLc.out.2.lt k hk).1), ?_⟩
        rw [← cellsOf_app, take_piece] at hown
        exact hown
      clear hown hgrow HLc HBc
      go_wp2_with fail
      go_roundw
      case rel => exact ⟨k + 1, m + nB, v1, by omega, by go_num, rfl, HLn⟩
      case measure => simp [intOf]; omega
    · have ek : k = N := by omega
      subst ek
      obtain ⟨c0, c1, c2, c3, c4, c5⟩ := (HX9.out.next HL.out.1).2.cells
      have HX10 := hidden (HX9.out.next HL.out.1)
      have ho := HL.out.2
      rw [HEND.out] at ho
      have hm : m = n0 := by have h3 := ho.1; rw [cellsOf_len, hL] at h3; omega
      subst hm
      obtain ⟨al, cl, rfl, hAl, _, _, hBl⟩ := own_slice ho HA.out.1.1 (by omega)
      have k1 := str_conv (cap := cl) hAl
      have k2 := str_conv (cap := cap0) (HA.out.below HX10.out.1)
      have hN0 : (0 : Int) < (k : Int) := by omega
      clear ho hAl hBl
      generalize str L = SL at *
      go_wp2_with fail
      go_ret
      exact ⟨by simp, HX10.out.1⟩
end Go.Proofs.Ytdmajaofjfgccab.Back
