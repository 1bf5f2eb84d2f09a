/-
  What the inner functions appendNumber and numberOf of package back return, and what they make.
-/
import Derived.Test.YtpiamlgmadnepaaGreatBackH
namespace Go.Proofs.YtpiamlgmadnepaaGreat.Back
open Go.ChangeShapes Go.WideShapes Go.ChangeAt Go.RowKit Go.Sort Go.Lib Go.Proofs.YtpiamlgmadnepaaGreat.BM Go.Proofs.YtpiamlgmadnepaaGreat.Mem
set_option linter.unusedVariables false

theorem info5 : (Tryz.prog.info? 5).map (fun i => (i.zero, i.size, i.bytes)) = some (some (.int .u8 0), 1, 1) := by kernel_rfl
/-- where appendNumber stands -/
structure DSt (w wr : World) (base k : Nat) (B : List Nat) (v : Value) : Prop where
  below : Below base w wr
  own : wr.ownsRow base 5 1 v k (cellsOf B)
  box : ∀ g b m, PBox w g b m → PBox wr g b m
theorem DSt.next {w wr w' : World} {base k : Nat} {B : List Nat} {v v' : Value} {c : Nat} {O : Obj} (h : DSt w wr base k B v) (hbase : base ≤ w.heap.size) (ho : w'.ownsRow base 5 1 v' (k + 1) (cellsOf B ++ [.int .u8 (c : Int)])) (hg : (wr.alloc O).grownBy w' v.ownBlock) : DSt w w' base (k + 1) (B ++ [c]) v' := by
  have hs := h.below.size
  refine ⟨(h.below.alloc (by omega) _).grown hg (by simp; omega) (fun j hj => (h.own.lt j hj).1), ?_, fun g b m hb => ((h.box g b m hb).alloc _).grown hg ((h.box g b m hb).ne h.own)⟩
  rw [cellsOf_app]
  exact ho
theorem byte_of (num g : Nat) : IntKind.u8.wrap ((num : Int) / 2 ^ (8 * g)) = ((num / 256 ^ g % 256 : Nat) : Int) := by
  rw [IntKind.wrap_u8', show (256 : Nat) ^ g = 2 ^ (8 * g) by rw [Nat.pow_mul]]
  simp

set_option maxHeartbeats 2000000 in
set_option maxRecDepth 100000 in
theorem appn_calls (v : Value) (base k : Nat) (B : List Nat) (num size : Nat) (w : World) (ho : w.ownsRow base 5 1 v k (cellsOf B)) (hbase : base ≤ w.heap.size) (hk : k ≤ 100000) (hs : size ≤ 8) (hnum : num < 4294967296) :
    Calls Tryz.prog 205 #[v, .int .i64 (num : Int), .int .i64 (size : Int)] w fun e w' => ∃ v', e = .returned v' ∧ w'.ownsRow base 5 1 v' (k + size) (cellsOf (B ++ be size num)) ∧ Below base w w' ∧ ∀ g b m, PBox w g b m → PBox w' g b m := by
  obtain ⟨i0, hii, hz0, hz1, hz2⟩ := info_parts info5
  have HD0 : Hid (DSt w w base k B v) := ⟨Below.refl _ _, ho, fun _ _ _ h => h⟩
  clear ho
  obtain ⟨E, hE⟩ : ∃ E, B ++ be size num = E := ⟨_, rfl⟩
  rw [hE]
  have HE := hidden hE
  clear hE
  go_enter Tryz.func205, Tryz.ntmps205
  go_wp2_with fail
  go_loopg [0, 7] size (fun g x y wr => ∃ (v' : Value) (B' : List Nat) (k' : Nat), k' + g = k + size ∧ x = v' ∧ y = .int .i64 ((g : Int) - 1) ∧ g ≤ size ∧ Hid (DSt w wr base k' B' v' ∧ B' ++ be g num = E))
  case atStart => exact ⟨v, B, k, rfl, rfl, rfl, Nat.le_refl _, HD0.out, HE.out⟩
  case round =>
    obtain ⟨v1, B1, k1, hk1, rfl, rfl, hgs, HS⟩ := hrel
    cases gk with
    | succ g =>
      have e1 : (((g + 1 : Nat) : Int) - 1) = (g : Int) := by omega
      rw [e1]
      have d : decide (0 ≤ (g : Int)) = true := by simp
      have hby := byte_of num g
      obtain ⟨c, hc⟩ : ∃ c, num / 256 ^ g % 256 = c := ⟨_, rfl⟩
      rw [hc] at hby
      have HC := hidden hc
      clear hc
      go_wp2_with (at_builtin; refine wpList_append_own _ rfl _ _ 36 rfl base 5 i0 _ 1 1 Tryz.underlying36 hii hz0 hz1 hz2 rfl (by decide) _ k1 (cellsOf B1) rfl (HS.out.1.own.alloc _) ⟨wr.heap.size, 0, none⟩ 1 1 [.int .u8 (c : Int)] rfl rfl ?cc ?one ?b1 ?b2 ?b3 ?next)
      case cc => exact lit1 _
      case one => simp [Value.oneCell']
      case b1 => unfold maxLen; omega
      case b2 => omega
      case b3 => have := HS.out.1.below.size; simp; omega
      case next =>
      intro v3 w' hown hgrow _
      have HSn : Hid (DSt w w' base (k1 + 1) (B1 ++ [c]) v3 ∧ B1 ++ [c] ++ be g num = E) := by
        refine ⟨HS.out.1.next hbase hown hgrow, ?_⟩
        rw [← HS.out.2, be, HC.out]
        simp
      clear hown hgrow
      go_wp2_with fail
      go_roundg g
      case measure => omega
      case rel => exact ⟨v3, B1 ++ [c], k1 + 1, by omega, rfl, by go_num, by omega, HSn⟩
    | zero =>
      go_wp2_with fail
      go_ret
      have h1 := HS.out.1.own
      have h2 := HS.out.2
      rw [be, List.append_nil] at h2
      rw [h2, show k1 = k + size by omega] at h1
      exact ⟨_, rfl, h1, HS.out.1.below, HS.out.1.box⟩

theorem on_eq (n c : Nat) (hn : n < 16777216) (hc : c < 256) : bits .or .i64 ((n : Int) * 256) (c : Int) = ((n * 256 + c : Nat) : Int) := by
  have e : (n : Int) * 256 = ((n * 256 : Nat) : Int) := by omega
  rw [e, i64_or_nat _ _ (by omega) (by omega), nat_join 8 _ c (by omega) (by omega)]
theorem val_snoc (K : List Nat) (c : Nat) : val (K ++ [c]) = val K * 256 + c := by simp [val]
theorem val_lt : ∀ (K : List Nat) (m : Nat), (∀ c ∈ K, c < 256) → m < 1 → K.foldl (fun n c => n * 256 + c) m < 256 ^ K.length := by
  have h : ∀ (K : List Nat) (m s : Nat), (∀ c ∈ K, c < 256) → m < 256 ^ s → K.foldl (fun n c => n * 256 + c) m < 256 ^ (s + K.length) := by
    intro K
    induction K with
    | nil => intro m s _ h; simpa using h
    | cons c K ih =>
      intro m s hK hm
      have := ih (m * 256 + c) (s + 1) (fun x hx => hK x (List.mem_cons_of_mem _ hx)) (by
        have := hK c (List.mem_cons_self ..)
        rw [Nat.pow_succ]
        omega)
      simpa [Nat.add_assoc, Nat.add_comm 1] using this
  intro K m hK hm
  have := h K m 0 hK (by simpa using hm)
  simpa using this
set_option maxHeartbeats 2000000 in
set_option maxRecDepth 100000 in
theorem numof_calls (a : Option Addr) (n cap : Nat) (B : List Nat) (w : World) (h : Arg w a n B) (hn : n ≤ 4) :
    Calls Tryz.prog 202 #[.slice a n cap] w fun e w' => e = .returned (.int .i64 (val B : Int)) ∧ w' = w := by
  have hl := h.2.1
  have HA := hidden h
  clear h
  go_enter Tryz.func202, Tryz.ntmps202
  go_wp2_with fail
  go_loopg [3, 8] n (fun g x y wr => ∃ (i : Nat), i + g = n ∧ x = .int .i64 (val (B.take i) : Int) ∧ y = .int .i64 (i : Int) ∧ wr = w)
  case atStart => exact ⟨0, by omega, rfl, rfl, rfl⟩
  case round =>
    obtain ⟨i, hig, rfl, rfl, rfl⟩ := hrel
    by_cases hi : i < n
    · have hiz : (i : Int) < (n : Int) := by omega
      obtain ⟨b, o, rfl, hc⟩ := HA.out.1.2 i (by omega)
      have hlt : B.getD i 0 < 256 := HA.out.1.1 _ (by rw [List.getD_eq_getElem?_getD, List.getElem?_eq_getElem (by omega)]; exact List.getElem_mem _)
      have hval : val (B.take i) < 16777216 := by
        have h1 := val_lt (B.take i) 0 (fun c hc => HA.out.1.1 c (List.mem_of_mem_take hc)) (by decide)
        have h2 : (256 : Nat) ^ (B.take i).length ≤ 256 ^ 3 := Nat.pow_le_pow_right (by decide) (by simp; omega)
        exact Nat.lt_of_lt_of_le h1 h2
      have HNX : Hid (val (B.take (i + 1)) = val (B.take i) * 256 + B.getD i 0) := by
        have e : B.take (i + 1) = B.take i ++ [B.getD i 0] := by
          rw [List.getD_eq_getElem?_getD, List.getElem?_eq_getElem (by omega), Option.getD_some, List.take_append_getElem (by omega)]
        show _ = _
        rw [e, val_snoc]
      generalize val (B.take i) = m at *
      generalize B.getD i 0 = c at *
      have HON := hidden (on_eq m c hval hlt)
      go_wp2_with fail
      go_roundg (n - (i + 1))
      case measure => omega
      case rel => exact ⟨i + 1, by omega, by rw [HON.out, HNX.out], by go_num, rfl⟩
    · have hiz : ¬ (i : Int) < (n : Int) := by omega
      go_wp2_with fail
      go_ret
      exact ⟨by rw [List.take_of_length_le (by omega)]; rfl, rfl⟩
end Go.Proofs.YtpiamlgmadnepaaGreat.Back

