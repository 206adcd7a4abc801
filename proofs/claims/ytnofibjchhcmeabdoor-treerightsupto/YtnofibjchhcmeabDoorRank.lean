/- What tree.Rank answers. -/
import Derived.Test.YtnofibjchhcmeabDoorPar3
import Derived.Test.YtnofibjchhcmeabDoorPlS
import Derived.Laws.Rows
namespace Go.Proofs.YtnofibjchhcmeabDoor
open Go.RowKit
set_option linter.unusedVariables false

/-- the cells of the variable that holds them -/
def signsA : Array Value := #[.string ⟨#[124]⟩, .int .i64 1, .int .i64 7, .string ⟨#[94]⟩, .int .i64 2, .int .i64 8, .string ⟨#[38]⟩, .int .i64 3, .int .i64 6, .string ⟨#[61, 61]⟩, .int .i64 4, .int .i64 11, .string ⟨#[33, 61]⟩, .int .i64 4, .int .i64 12, .string ⟨#[60]⟩, .int .i64 5, .int .i64 13, .string ⟨#[60, 61]⟩, .int .i64 5, .int .i64 14, .string ⟨#[62]⟩, .int .i64 5, .int .i64 15, .string ⟨#[62, 61]⟩, .int .i64 5, .int .i64 16, .string ⟨#[60, 60]⟩, .int .i64 6, .int .i64 9, .string ⟨#[62, 62]⟩, .int .i64 6, .int .i64 10, .string ⟨#[43]⟩, .int .i64 7, .int .i64 1, .string ⟨#[45]⟩, .int .i64 7, .int .i64 2, .string ⟨#[42]⟩, .int .i64 8, .int .i64 3, .string ⟨#[47]⟩, .int .i64 8, .int .i64 4, .string ⟨#[37]⟩, .int .i64 8, .int .i64 5]
theorem signsA_size : signsA.size = 48 := by rfl

def sgn (k : Nat) : List UInt8 × Int × Int := signsL.getD k ([], 0, 0)
/-- an array that reads as the signs -/
def SA (A : Array Value) : Prop := A.size = 48 ∧ ∀ k : Nat, k < 16 → ∀ W : World, (Instr.index 45 (.agg A) (.int .i64 (k : Int))).run Tryd.prog W = .ok (.agg #[.string ⟨(sgn k).1.toArray⟩, .int .i64 (sgn k).2.1, .int .i64 (sgn k).2.2]) W
set_option maxRecDepth 100000 in
theorem sa0 (W : World) : (Instr.index 45 (.agg signsA) (.int .i64 ((0 : Nat) : Int))).run Tryd.prog W = .ok (.agg #[.string ⟨(sgn 0).1.toArray⟩, .int .i64 (sgn 0).2.1, .int .i64 (sgn 0).2.2]) W := by kernel_rfl
set_option maxRecDepth 100000 in
theorem sa1 (W : World) : (Instr.index 45 (.agg signsA) (.int .i64 ((1 : Nat) : Int))).run Tryd.prog W = .ok (.agg #[.string ⟨(sgn 1).1.toArray⟩, .int .i64 (sgn 1).2.1, .int .i64 (sgn 1).2.2]) W := by kernel_rfl
set_option maxRecDepth 100000 in
theorem sa2 (W : World) : (Instr.index 45 (.agg signsA) (.int .i64 ((2 : Nat) : Int))).run Tryd.prog W = .ok (.agg #[.string ⟨(sgn 2).1.toArray⟩, .int .i64 (sgn 2).2.1, .int .i64 (sgn 2).2.2]) W := by kernel_rfl
set_option maxRecDepth 100000 in
theorem sa3 (W : World) : (Instr.index 45 (.agg signsA) (.int .i64 ((3 : Nat) : Int))).run Tryd.prog W = .ok (.agg #[.string ⟨(sgn 3).1.toArray⟩, .int .i64 (sgn 3).2.1, .int .i64 (sgn 3).2.2]) W := by kernel_rfl
set_option maxRecDepth 100000 in
theorem sa4 (W : World) : (Instr.index 45 (.agg signsA) (.int .i64 ((4 : Nat) : Int))).run Tryd.prog W = .ok (.agg #[.string ⟨(sgn 4).1.toArray⟩, .int .i64 (sgn 4).2.1, .int .i64 (sgn 4).2.2]) W := by kernel_rfl
set_option maxRecDepth 100000 in
theorem sa5 (W : World) : (Instr.index 45 (.agg signsA) (.int .i64 ((5 : Nat) : Int))).run Tryd.prog W = .ok (.agg #[.string ⟨(sgn 5).1.toArray⟩, .int .i64 (sgn 5).2.1, .int .i64 (sgn 5).2.2]) W := by kernel_rfl
set_option maxRecDepth 100000 in
theorem sa6 (W : World) : (Instr.index 45 (.agg signsA) (.int .i64 ((6 : Nat) : Int))).run Tryd.prog W = .ok (.agg #[.string ⟨(sgn 6).1.toArray⟩, .int .i64 (sgn 6).2.1, .int .i64 (sgn 6).2.2]) W := by kernel_rfl
set_option maxRecDepth 100000 in
theorem sa7 (W : World) : (Instr.index 45 (.agg signsA) (.int .i64 ((7 : Nat) : Int))).run Tryd.prog W = .ok (.agg #[.string ⟨(sgn 7).1.toArray⟩, .int .i64 (sgn 7).2.1, .int .i64 (sgn 7).2.2]) W := by kernel_rfl
set_option maxRecDepth 100000 in
theorem sa8 (W : World) : (Instr.index 45 (.agg signsA) (.int .i64 ((8 : Nat) : Int))).run Tryd.prog W = .ok (.agg #[.string ⟨(sgn 8).1.toArray⟩, .int .i64 (sgn 8).2.1, .int .i64 (sgn 8).2.2]) W := by kernel_rfl
set_option maxRecDepth 100000 in
theorem sa9 (W : World) : (Instr.index 45 (.agg signsA) (.int .i64 ((9 : Nat) : Int))).run Tryd.prog W = .ok (.agg #[.string ⟨(sgn 9).1.toArray⟩, .int .i64 (sgn 9).2.1, .int .i64 (sgn 9).2.2]) W := by kernel_rfl
set_option maxRecDepth 100000 in
theorem sa10 (W : World) : (Instr.index 45 (.agg signsA) (.int .i64 ((10 : Nat) : Int))).run Tryd.prog W = .ok (.agg #[.string ⟨(sgn 10).1.toArray⟩, .int .i64 (sgn 10).2.1, .int .i64 (sgn 10).2.2]) W := by kernel_rfl
set_option maxRecDepth 100000 in
theorem sa11 (W : World) : (Instr.index 45 (.agg signsA) (.int .i64 ((11 : Nat) : Int))).run Tryd.prog W = .ok (.agg #[.string ⟨(sgn 11).1.toArray⟩, .int .i64 (sgn 11).2.1, .int .i64 (sgn 11).2.2]) W := by kernel_rfl
set_option maxRecDepth 100000 in
theorem sa12 (W : World) : (Instr.index 45 (.agg signsA) (.int .i64 ((12 : Nat) : Int))).run Tryd.prog W = .ok (.agg #[.string ⟨(sgn 12).1.toArray⟩, .int .i64 (sgn 12).2.1, .int .i64 (sgn 12).2.2]) W := by kernel_rfl
set_option maxRecDepth 100000 in
theorem sa13 (W : World) : (Instr.index 45 (.agg signsA) (.int .i64 ((13 : Nat) : Int))).run Tryd.prog W = .ok (.agg #[.string ⟨(sgn 13).1.toArray⟩, .int .i64 (sgn 13).2.1, .int .i64 (sgn 13).2.2]) W := by kernel_rfl
set_option maxRecDepth 100000 in
theorem sa14 (W : World) : (Instr.index 45 (.agg signsA) (.int .i64 ((14 : Nat) : Int))).run Tryd.prog W = .ok (.agg #[.string ⟨(sgn 14).1.toArray⟩, .int .i64 (sgn 14).2.1, .int .i64 (sgn 14).2.2]) W := by kernel_rfl
set_option maxRecDepth 100000 in
theorem sa15 (W : World) : (Instr.index 45 (.agg signsA) (.int .i64 ((15 : Nat) : Int))).run Tryd.prog W = .ok (.agg #[.string ⟨(sgn 15).1.toArray⟩, .int .i64 (sgn 15).2.1, .int .i64 (sgn 15).2.2]) W := by kernel_rfl
set_option maxRecDepth 100000 in
theorem SA.lies : SA signsA := by
  refine ⟨rfl, fun k hk W => ?_⟩
  match k, hk with
  | 0, _ => exact sa0 W
  | 1, _ => exact sa1 W
  | 2, _ => exact sa2 W
  | 3, _ => exact sa3 W
  | 4, _ => exact sa4 W
  | 5, _ => exact sa5 W
  | 6, _ => exact sa6 W
  | 7, _ => exact sa7 W
  | 8, _ => exact sa8 W
  | 9, _ => exact sa9 W
  | 10, _ => exact sa10 W
  | 11, _ => exact sa11 W
  | 12, _ => exact sa12 W
  | 13, _ => exact sa13 W
  | 14, _ => exact sa14 W
  | 15, _ => exact sa15 W
  | j + 16, h => exact absurd h (by omega)
theorem rankGo_drop (t : List UInt8) (k : Nat) (hk : k < 16) : rankGo t (signsL.drop k) = if (sgn k).1 = t then (sgn k).2 else rankGo t (signsL.drop (k + 1)) := by
  have h : signsL.drop k = sgn k :: signsL.drop (k + 1) := by
    match k, hk with
    | 0, _ => rfl
    | 1, _ => rfl
    | 2, _ => rfl
    | 3, _ => rfl
    | 4, _ => rfl
    | 5, _ => rfl
    | 6, _ => rfl
    | 7, _ => rfl
    | 8, _ => rfl
    | 9, _ => rfl
    | 10, _ => rfl
    | 11, _ => rfl
    | 12, _ => rfl
    | 13, _ => rfl
    | 14, _ => rfl
    | 15, _ => rfl
    | j + 16, h => exact absurd h (by omega)
  rw [h]
  rfl

set_option maxRecDepth 100000 in
set_option maxHeartbeats 1000000 in
theorem rank_any (s : ByteArray) (w : World) (A : Array Value) (hA : SA A) (t : TypeId) (fr : Nat × Nat) (h : w.heap[0]? = some (.cells A t fr)) :
    Calls Tryd.prog 9 #[.string s] w fun e w' => e = .returned (.tuple #[.int .i64 (rankOf s.data.toList).1, .int .i64 (rankOf s.data.toList).2]) ∧ Below w.heap.size w w' := by
  have hi : (Tryd.prog.info? 45).map (·.size) = some A.size := by rw [hA.1]; kernel_rfl
  have HX : Hid (∀ k : Nat, k < 16 → ∀ W : World, (Instr.index 45 (.agg A) (.int .i64 (k : Int))).run Tryd.prog W = .ok (.agg #[.string ⟨(sgn k).1.toArray⟩, .int .i64 (sgn k).2.1, .int .i64 (sgn k).2.2]) W) := hA.2
  obtain ⟨R, hR⟩ : ∃ R, rankOf s.data.toList = R := ⟨_, rfl⟩
  have HR : Hid (rankGo s.data.toList (signsL.drop 0) = R) := hR
  rw [hR]
  clear hR hA
  go_enter Tryd.func9, Tryd.ntmps9
  go_wp2_with (refine wpList_load_row rfl 45 _ rfl 0 rfl t _ fr _ h Tryd.underlying45 rfl hi ?_)
  clear hi h
  go_loopw [7] (fun i wr => ∃ k : Nat, k ≤ 16 ∧ i = .int .i64 (k : Int) ∧ Hid (rankGo s.data.toList (signsL.drop k) = R) ∧ Hid (Below w.heap.size w wr)) (fun i _ => 16 - (intOf i).toNat)
  case atStart => exact ⟨0, Nat.zero_le _, rfl, HR, Below.refl _ _⟩
  case round =>
    obtain ⟨k, hk, rfl, HK, HB⟩ := hrel
    by_cases hlt : k < 16
    · have hx := HX.out k hlt
      have hd := rankGo_drop s.data.toList k hlt
      obtain ⟨T, hT⟩ : ∃ T : ByteArray, (⟨(sgn k).1.toArray⟩ : ByteArray) = T := ⟨_, rfl⟩
      have hTl : (sgn k).1 = T.data.toList := by rw [← hT]
      rw [HK.out] at hd
      rw [hT] at hx
      rw [hTl] at hd
      obtain ⟨r, hr⟩ : ∃ r, (sgn k).2 = r := ⟨_, rfl⟩
      rw [hr] at hx hd
      obtain ⟨r1, r2⟩ := r
      clear hT hTl hr
      have hs := HB.out.size
      by_cases e : T.data.toList = s.data.toList
      · rw [if_pos e] at hd
        have HD : Hid (R = (r1, r2)) := hd
        have e1 : (T.toList == s.toList) = true := by rw [ByteArray.toList_eq, ByteArray.toList_eq]; simpa using e
        clear hd e
        go_wp2
        go_region
        all_goals
          go_wp2
          go_ret2
          exact ⟨by rw [HD.out]; rfl, (HB.out.alloc hs _).drew⟩
      · rw [if_neg e] at hd
        have HD : Hid (rankGo s.data.toList (signsL.drop (k + 1)) = R) := hd.symm
        have e1 : (T.toList == s.toList) = false := by rw [ByteArray.toList_eq, ByteArray.toList_eq]; simpa using e
        clear hd e
        go_wp2
        go_roundw
        case rel => exact ⟨k + 1, by omega, by go_num, HD, HB.out.alloc hs _⟩
        case measure => simp [intOf]; omega
    · have hk16 : k = 16 := by omega
      subst hk16
      have HD : Hid (R = (0, 0)) := HK.out.symm
      go_wp2
      go_ret2
      exact ⟨by rw [HD.out]; rfl, HB.out⟩
end Go.Proofs.YtnofibjchhcmeabDoor
