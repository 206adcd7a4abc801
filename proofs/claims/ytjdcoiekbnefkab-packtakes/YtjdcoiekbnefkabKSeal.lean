/- What pack.Seal answers. -/
import Derived.Test.YtjdcoiekbnefkabKBlock
import Derived.Test.YtjdcoiekbnefkabKBytes
import Derived.Lib.BufferWrite
import Derived.Deep.QuietTactic
import Derived.BigQuiet
import Derived.Deep.RegionWith
namespace Go.Proofs.Ytjdcoiekbnefkab
open Go.RowKit
set_option linter.unusedVariables false

def outr : List UInt8 := [111, 117, 116, 114]
/-- a body's seal -/
def sealB (L : List UInt8) : List UInt8 := outr ++ lowB L.length 4 ++ lowB (sumB L) 8 ++ L

set_option maxRecDepth 100000 in
theorem made (n : Nat) : madeCells #[Value.int .u8 0] n = (bc (List.replicate n 0)).toArray := by
  apply Array.ext
  · simp [madeCells, bc]
  · intro i h1 h2
    simp [madeCells, bc]
    have : i % 1 = 0 := Nat.mod_one i
    simp [this]

set_option maxRecDepth 100000 in
theorem make_is (n : Nat) (hn : n ≤ 1048576) (w : World) :
    (Instr.makeSlice 37 (.int .i64 16) (.int .i64 (16 + (n : Int)))).run Try.prog w = .ok (.slice (some ⟨w.heap.size, 0, none⟩) 16 (16 + n)) (w.alloc (.cells (bc (List.replicate (16 + n) 0)).toArray 5)) := by
  obtain ⟨i0, hi, hz0, hz1, hz2⟩ := info_parts info5
  rw [run_make w 37 5 i0 (.int .u8 0) Try.underlying37 hi hz0 .i64 .i64 16 (16 + (n : Int)) (by omega) (by omega) (by rw [hz2]; omega) (by omega), hz1, Nat.mul_one]
  have e : (16 + (n : Int)).toNat = 16 + n := by omega
  rw [e]
  show Result.ok _ (w.alloc (.cells (madeCells #[Value.int .u8 0] (16 + n)) 5)) = _
  rw [made]
  rfl

set_option maxRecDepth 100000 in
theorem Blk.new (w : World) (l : List UInt8) : Blk (w.alloc (.cells (bc l).toArray 5)) w.heap.size l := heap_alloc_new w _

set_option maxRecDepth 100000 in
theorem copy_ex (g n cap : Nat) (l : List UInt8) (s : ByteArray) (w : World) (hB : Blk w g l) (h1 : s.size ≤ n) (h2 : s.size ≤ l.length) :
    ∃ w', (Builtin.copy_ #[37, 9] 3 #[.slice (some ⟨g, 0, none⟩) n cap, .string s]).run Try.prog w = .ok (goInt s.size) w' ∧ Blk w' g (over l 0 s.data.toList) ∧ Only w w' g := by
  have hrun := Lib.run_copy_row_string (P := Try.prog) w 37 9 3 5 g 0 n cap s (bc l).toArray 5 Try.underlying37 (by kernel_rfl) hB h1 (by simpa [bc] using h2)
  have hsz : s.data.toList.length = s.size := by simp
  refine ⟨_, hrun, ?_, ⟨⟨rfl, rfl, rfl, by simp [World.setRow], fun k _ hk => setRow_other w g k _ (fun e => hk (by rw [e]))⟩, by simp [World.setRow]⟩⟩
  unfold Blk
  rw [setRow_heap w g _ _ 5 (0, 0) hB]
  congr 2
  unfold over
  rw [hsz, bc_app, bc_app]
  simp [bc, Lib.byteCells]

set_option maxRecDepth 100000 in
theorem over_take (l : List UInt8) (o : Nat) (m : List UInt8) (h : o ≤ l.length) : (over l o m).take (o + m.length) = l.take o ++ m := by
  unfold over
  rw [List.take_append_of_le_length (by simp; omega), List.take_of_length_le (by simp; omega)]

set_option maxRecDepth 100000 in
theorem Blk.own {w : World} {g : Nat} {l : List UInt8} (h : Blk w g l) (base n : Nat) (hb : base ≤ g) (hn : n ≤ l.length) (hm : l.length ≤ maxLen) : Own w base (.slice (some ⟨g, 0, none⟩) n l.length) (l.take n) := by
  have hl : (l.take n).length = n := by simp; omega
  refine ⟨by rw [bc_len, Nat.mul_one], Or.inr ⟨g, l.length, (bc l).toArray, by rw [hl], hb, h, by omega, hm, by simp [bc], ?_⟩⟩
  rw [hl, Nat.mul_one]
  simp [bc, List.map_take]

set_option maxRecDepth 100000 in
theorem head16 (n s : Nat) (l2 l3 l4 : List UInt8) (h2 : over (List.replicate (16 + n) 0) 0 outr = l2) (h3 : over l2 4 (lowB n 4) = l3) (h4 : over l3 8 (lowB s 8) = l4) :
    l4.take 16 = outr ++ lowB n 4 ++ lowB s 8 ∧ l4.length = 16 + n := by
  have n2 : l2.length = 16 + n := by rw [← h2, over_len _ _ _ (by simp [outr]; omega)]; simp
  have n3 : l3.length = 16 + n := by rw [← h3, over_len _ _ _ (by rw [lowB_len]; omega)]; exact n2
  have n4 : l4.length = 16 + n := by rw [← h4, over_len _ _ _ (by rw [lowB_len]; omega)]; exact n3
  have t2 := over_take (List.replicate (16 + n) 0) 0 outr (by omega)
  have t3 := over_take l2 4 (lowB n 4) (by omega)
  have t4 := over_take l3 8 (lowB s 8) (by omega)
  rw [h2] at t2
  rw [h3, lowB_len] at t3
  rw [h4, lowB_len] at t4
  refine ⟨?_, n4⟩
  rw [show (16 : Nat) = 8 + 8 from rfl, t4, show (8 : Nat) = 4 + 4 from rfl, t3, show (4 : Nat) = 0 + outr.length from rfl, t2]
  rfl

/-- what Seal leaves -/
def SealPost (w : World) (L : List UInt8) (e : Ending) (w' : World) : Prop := ∃ v', e = .returned (.tuple #[v', .int .i64 0]) ∧ Own w' w.heap.size v' (sealB L) ∧ Below w.heap.size w w'

set_option maxRecDepth 100000 in
set_option maxHeartbeats 400000 in
theorem seal_big (a : Option Addr) (n c : Nat) (w : World) (hn : 1048576 < n) (hm : n ≤ maxLen) :
    Calls Try.prog 49 #[.slice a n c] w fun e w' => e = .returned (.tuple #[.slice none 0 0, .int .i64 23]) ∧ w' = w := by
  unfold maxLen at hm
  go_enter Try.func49, Try.ntmps49
  go_wp2
  go_ret2
  exact ⟨rfl, rfl⟩

set_option maxRecDepth 100000 in
theorem rd_slice {w : World} {v : Value} {L : List UInt8} (h : Rd w v L) : ∃ a c, v = .slice a L.length c := by
  rcases h with ⟨rfl, rfl⟩ | ⟨b, off, cap, rfl, _⟩
  · exact ⟨_, _, rfl⟩
  · exact ⟨_, _, rfl⟩

def outrS : ByteArray := ⟨#[111, 117, 116, 114]⟩

set_option maxRecDepth 100000 in
set_option maxHeartbeats 2000000 in
theorem seal_walk (a : Option Addr) (c : Nat) (L : List UInt8) (w : World) (hL : L.length ≤ 1048576) (h : Rd w (.slice a L.length c) L)
    (ha : a = none ∧ L = [] ∧ c = 0 ∨ ∃ b off, a = some ⟨b, off, none⟩ ∧ b < w.heap.size ∧ ∀ i (h : i < L.length), w.cell? ⟨b, off + i, none⟩ = some (.int .u8 (L[i].toNat : Int))) :
    Calls Try.prog 49 #[.slice a L.length c] w fun e w' => SealPost w L e w' := by
  have HA : Hid _ := ha
  have HR : Hid (Rd w (.slice a L.length c) L) := h
  clear h ha
  obtain ⟨i0, hi, hz0, hz1, hz2⟩ := info_parts info5
  obtain ⟨n, hn⟩ : ∃ n, L.length = n := ⟨_, rfl⟩
  rw [hn] at hL HR ⊢
  have HN : Hid (L.length = n) := hn
  clear hn
  have hmk := fun w => make_is n hL w
  obtain ⟨W2, hcp, hB2, hO2⟩ := copy_ex w.heap.size 16 (16 + n) (List.replicate (16 + n) 0) ⟨#[111, 117, 116, 114]⟩ (w.alloc (.cells (bc (List.replicate (16 + n) 0)).toArray 5)) (Blk.new w _) (by decide) (by rw [List.length_replicate]; show 4 ≤ 16 + n; omega)
  obtain ⟨l2, hl2⟩ : ∃ l2, over (List.replicate (16 + n) 0) 0 outr = l2 := ⟨_, rfl⟩
  have hB2' : Blk W2 w.heap.size l2 := by rw [← hl2]; exact hB2
  have hl2n : l2.length = 16 + n := by rw [← hl2, over_len _ _ _ (by simp [outr]; omega)]; simp
  have HB2 : Hid (Blk W2 w.heap.size l2) := hB2'
  have HO2 : Hid (Only _ W2 w.heap.size) := hO2
  have HL2 : Hid _ := hl2
  have hsz2 : W2.heap.size = w.heap.size + 1 := by rw [hO2.2]; simp
  have HSZ : Hid _ := hsz2
  clear hB2 hB2' hO2 hl2 hsz2
  go_enter Try.func49, Try.ntmps49
  go_wp2_with fail
  refine (put_any w.heap.size 4 4 _ n l2 W2 (by omega) (by omega) (by omega) (by omega) (by omega) HB2.out).mono ?_
  rintro e W3 ⟨rfl, hB3, hO3⟩
  obtain ⟨l3, hl3⟩ : ∃ l3, over l2 4 (lowB n 4) = l3 := ⟨_, rfl⟩
  rw [hl3] at hB3
  have hl3n : l3.length = 16 + n := by rw [← hl3, over_len _ _ _ (by rw [lowB_len]; omega)]; exact hl2n
  have HB3 : Hid (Blk W3 w.heap.size l3) := hB3
  have HL3 : Hid _ := hl3
  have hbel : Below w.heap.size w W3 := ((Below.refl _ _).alloc (Nat.le_refl _) _).trans ((HO2.out.below (Nat.le_refl _) (by simp)).trans (hO3.below (Nat.le_refl _) (by rw [HSZ.out]; omega)))
  have hsz3 : W3.heap.size = w.heap.size + 1 := by rw [hO3.2, HSZ.out]
  have HSZ3 : Hid _ := hsz3
  have HBL : Hid (Below w.heap.size w W3) := hbel
  have hsum : sumB L ≤ 18446744073709551615 := by have := sumB_lt L; rw [M64_eq] at this; omega
  have HB3d : Hid (Blk W3.drew w.heap.size l3) := HB3
  clear hB3 hO3 hl3 hbel hsz3
  go_wp2_with fail
  go_region_with (first | (go_at_call 50; refine (sum_any _ L _ (HR.out.below (by first | exact HBL.out | exact HBL.out.drew | exact HBL.out.drew.drew | exact HBL.out.drew.drew.drew))).mono ?_; rintro e wq ⟨rfl, rfl⟩) | (go_at_call 70; refine (put_any w.heap.size 8 8 _ (sumB L) l3 W3.drew hsum (by omega) (by omega) (by omega) (by omega) HB3d.out).mono ?_; rintro e W4 ⟨rfl, hB4, hO4⟩))
  all_goals
    obtain ⟨l4, hl4⟩ : ∃ l4, over l3 8 (lowB (sumB L) 8) = l4 := ⟨_, rfl⟩
    rw [hl4] at hB4
    obtain ⟨t16, hl4n⟩ := head16 n (sumB L) l2 l3 l4 HL2.out HL3.out hl4
    have hsz4 : W4.heap.size = w.heap.size + 1 := by rw [hO4.2]; exact HSZ3.out
    have hbel : Below w.heap.size w W4 := HBL.out.drew.trans (hO4.below (Nat.le_refl _) (by show w.heap.size < W3.heap.size; rw [HSZ3.out]; omega))
    have hown := hB4.own w.heap.size 16 (Nat.le_refl _) (by omega) (by unfold maxLen; omega)
    rw [t16, hl4n] at hown
    have HOW : Hid (Own W4 w.heap.size (.slice (some ⟨w.heap.size, 0, none⟩) 16 (16 + n)) (outr ++ lowB n 4 ++ lowB (sumB L) 8)) := hown
    have HBE : Hid (Below w.heap.size w W4) := hbel
    have hlen16 : (outr ++ lowB n 4 ++ lowB (sumB L) 8).length = 16 := by simp [lowB_len, outr]
    have HS4 : Hid _ := hsz4
    clear hB4 hO4 hl4 t16 hl4n hown hbel HL2 HL3 HB2 HO2 HB3 HB3d HBL HSZ HSZ3 hsz4 hcp hl2n hl3n
    obtain ⟨H, hH⟩ : ∃ H, outr ++ lowB n 4 ++ lowB (sumB L) 8 = H := ⟨_, rfl⟩
    rw [hH] at HOW hlen16
    have HSE : Hid (sealB L = H ++ L) := by show _ = _; unfold sealB; rw [HN.out, hH]
    clear hH hsum hmk
    rcases HA.out with ⟨rfl, hLe, rfl⟩ | ⟨b, off, rfl, hb, hc⟩
    · obtain rfl : n = 0 := by have := HN.out; rw [hLe] at this; simpa using this.symm
      have HLE : Hid _ := hLe
      clear hLe
      go_wp2
      go_ret2
      exact ⟨_, rfl, by rw [HSE.out, HLE.out, List.append_nil]; exact HOW.out, HBE.out⟩
    · have HC : Hid (∀ i (h : i < L.length), w.cell? ⟨b, off + i, none⟩ = some (.int .u8 (L[i].toNat : Int))) := hc
      clear hc
      go_wp2_with (at_builtin; refine wpList_append_own _ rfl _ _ 37 rfl w.heap.size 5 i0 (.int .u8 0) 1 1 Try.underlying37 hi hz0 hz1 hz2 rfl (by decide) _ _ _ rfl HOW.out ⟨b, off, none⟩ n c (bc L) rfl ?c0 ?c1 ?c2 ?c3 ?c4 ?c5 ?_)
      case c0 => rw [bc_len, Nat.mul_one]; exact HN.out
      case c1 =>
        intro j u hj
        obtain ⟨h1, rfl⟩ := bc_get L j u hj
        have e1 := HC.out j h1
        have e2 : (⟨b, off, none⟩ : Addr).add j = ⟨b, off + j, none⟩ := by unfold Addr.add; split <;> simp_all
        rw [e2, HBE.out.cell (p := ⟨b, off + j, none⟩) hb]
        exact e1
      case c2 => exact bc_one L
      case c3 => unfold maxLen; omega
      case c4 => omega
      case c5 => have := HS4.out; omega
      · intro v' w1 hown hgrow _
        have HF : Hid (Own w1 w.heap.size v' (sealB L)) := by
          show Own _ _ _ _
          rw [HSE.out]
          unfold Own
          rw [List.length_append, bc_app, HN.out, hlen16]
          exact hown
        have HG : Hid (Below w.heap.size w w1) := HBE.out.grown hgrow (by have := HS4.out; omega) (fun k hk => by simp [Value.ownBlock] at hk; omega)
        clear hown hgrow
        go_wp2
        go_ret2
        exact ⟨v', rfl, HF.out, HG.out⟩

set_option maxRecDepth 100000 in
theorem seal_any (v : Value) (L : List UInt8) (w : World) (hL : L.length ≤ 1048576) (h : Rd w v L) :
    Calls Try.prog 49 #[v] w fun e w' => SealPost w L e w' := by
  have h' := h
  rcases h with ⟨rfl, rfl⟩ | ⟨b, off, cap, rfl, e2, e2', e3, e4⟩
  · exact seal_walk none 0 [] w hL h' (Or.inl ⟨rfl, rfl, rfl⟩)
  · exact seal_walk _ cap L w hL h' (Or.inr ⟨b, off, rfl, e3, e4⟩)
end Go.Proofs.Ytjdcoiekbnefkab
