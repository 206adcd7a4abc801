/- Slices of bytes that are read: as strings, summed, and as low numbers. -/
import Derived.Test.YthcidcfaodjbjaaPMem
namespace Go.Proofs.Ythcidcfaodjbjaa
open Go.RowKit
set_option linter.unusedVariables false

/-- the slice v reads as the bytes L -/
def Rd (w : World) (v : Value) (L : List UInt8) : Prop :=
  (v = .slice none 0 0 ∧ L = []) ∨ ∃ b off cap, v = .slice (some ⟨b, off, none⟩) L.length cap ∧ L.length ≤ cap ∧ cap ≤ maxLen ∧ b < w.heap.size ∧ ∀ i (h : i < L.length), w.cell? ⟨b, off + i, none⟩ = some (.int .u8 (L[i].toNat : Int))

set_option maxRecDepth 100000 in
theorem Own.rd {w : World} {base : Nat} {v : Value} {L : List UInt8} (h : Own w base v L) : Rd w v L := by
  have hlt := World.ownsRow.lt h
  have hce := fun g => World.ownsRow.cells h (g := g)
  obtain ⟨h1, h2⟩ := h
  rcases h2 with ⟨h2, h3⟩ | ⟨g, cap, cur, e1, e2, e3, e4, e5, e6, e7⟩
  · exact Or.inl ⟨h2, List.eq_nil_of_length_eq_zero h3⟩
  · right
    refine ⟨g, 0, cap, e1, e4, e5, (hlt g (by rw [e1]; rfl)).2, fun i hi => ?_⟩
    have := hce g (by rw [e1]; rfl) i (.int .u8 (L[i].toNat : Int)) (by unfold bc; rw [List.getElem?_map, List.getElem?_eq_getElem hi]; rfl)
    rw [Nat.zero_add]
    rw [← this]
    congr 1
    unfold Addr.add
    split <;> simp_all

set_option maxRecDepth 100000 in
theorem Rd.below {w w' : World} {v : Value} {L : List UInt8} (h : Rd w v L) (hb : Below w.heap.size w w') : Rd w' v L := by
  rcases h with h | ⟨b, off, cap, e1, e2, e2', e3, e4⟩
  · exact Or.inl h
  · right
    refine ⟨b, off, cap, e1, e2, e2', Nat.lt_of_lt_of_le e3 hb.size, fun i hi => ?_⟩
    exact (hb.cell (p := ⟨b, off + i, none⟩) e3).trans (e4 i hi)

set_option maxRecDepth 100000 in
theorem str_of (L : List UInt8) : strOfNums (L.map fun c => (c.toNat : Int)) = ⟨L.toArray⟩ := by
  apply ByteArray.ext
  apply Array.toList_inj.1
  rw [strOfNums_data, List.map_map]
  show _ = L
  conv => rhs; rw [← List.map_id L]
  apply List.map_congr_left
  intro x _
  simp

set_option maxRecDepth 100000 in
theorem Rd.str {w : World} {v : Value} {L : List UInt8} (h : Rd w v L) : (convert 40 9 v).run Try.prog w = .ok (.string ⟨L.toArray⟩) w := by
  rcases h with ⟨rfl, rfl⟩ | ⟨b, off, cap, rfl, e2, e2', e3, e4⟩
  · rw [run_convert_bytes_nil w 40 5 (by kernel_rfl) (by kernel_rfl) 0 0 9 (by kernel_rfl)]; rfl
  · rw [run_convert_bytes_arg w 40 5 (by kernel_rfl) (by kernel_rfl) b off L.length cap (L.map fun c => (c.toNat : Int)) (by simp) ?_ 9 (by kernel_rfl), str_of]
    intro i hi
    rw [e4 i hi]
    simp [List.getD, List.getElem?_map, List.getElem?_eq_getElem hi]

/-- the sum FNV-1a of 64 bits -/
def M64 : Nat := 18446744073709551616
def F64 : Nat := 14695981039346656037
def P64 : Nat := 1099511628211
def sumStep (h : Nat) (c : UInt8) : Nat := (h ^^^ c.toNat) * P64 % M64
def sumB (L : List UInt8) : Nat := L.foldl sumStep F64
set_option maxRecDepth 100000 in
theorem M64_eq : M64 = 18446744073709551616 := by unfold M64; omega
set_option maxRecDepth 100000 in
theorem sumStep_lt (h : Nat) (c : UInt8) : sumStep h c < M64 := by unfold sumStep; exact Nat.mod_lt _ (by unfold M64; omega)
set_option maxRecDepth 100000 in
theorem F64_lt : F64 < M64 := by unfold F64 M64; omega
set_option maxRecDepth 100000 in
theorem fold_lt (L : List UInt8) : ∀ h, h < M64 → L.foldl sumStep h < M64 := by
  induction L with
  | nil => intro h hh; rw [List.foldl_nil]; exact hh
  | cons c L ih => intro h _; rw [List.foldl_cons]; exact ih _ (sumStep_lt h c)
set_option maxRecDepth 100000 in
theorem sumB_lt (L : List UInt8) : sumB L < M64 := by unfold sumB; exact fold_lt L F64 F64_lt
set_option maxRecDepth 100000 in
theorem foldl_snoc {α β : Type} (f : α → β → α) (h : α) (L : List β) (c : β) : (L ++ [c]).foldl f h = f (L.foldl f h) c := by
  rw [List.foldl_append, List.foldl_cons, List.foldl_nil]
set_option maxRecDepth 100000 in
theorem sumB_snoc (L : List UInt8) (c : UInt8) : sumB (L ++ [c]) = sumStep (sumB L) c := by unfold sumB; exact foldl_snoc sumStep F64 L c
set_option maxRecDepth 100000 in
theorem take_snoc (L : List UInt8) (k : Nat) (h : k < L.length) : L.take (k + 1) = L.take k ++ [L[k]] := List.take_succ_eq_append_getElem h

set_option maxRecDepth 100000 in
theorem sum_wrap (h : Nat) (c : UInt8) (hh : h < M64) : IntKind.u64.wrap (bits .xor .u64 (h : Int) (c.toNat : Int) * 1099511628211) = ((sumStep h c : Nat) : Int) := by
  have hc := c.toNat_lt
  rw [u64_xor_nat h c.toNat (by rw [← M64_eq]; exact hh) (by omega), IntKind.wrap_u64]
  unfold sumStep P64 M64
  generalize h ^^^ c.toNat = x
  omega
set_option maxRecDepth 100000 in
theorem sum_start : ((sumB [] : Nat) : Int) = 14695981039346656037 := by unfold sumB; rw [List.foldl_nil]; unfold F64; omega

/-- a number of bytes, the lowest first -/
def lowN (L : List UInt8) : Nat := (L.reverse).foldl (fun n c => n * 256 + c.toNat) 0
set_option maxRecDepth 100000 in
theorem lowN_nil : lowN [] = 0 := rfl
set_option maxRecDepth 100000 in
theorem lowN_snoc (L : List UInt8) (c : UInt8) : lowN (L ++ [c]) = c.toNat * 256 ^ L.length + lowN L := by
  have key : ∀ (R : List UInt8) (n : Nat), R.foldl (fun n c => n * 256 + c.toNat) n = n * 256 ^ R.length + R.foldl (fun n c => n * 256 + c.toNat) 0 := by
    intro R
    induction R with
    | nil => intro n; simp
    | cons d R ih =>
      intro n
      rw [List.foldl_cons, List.foldl_cons, ih, ih (0 * 256 + d.toNat), List.length_cons, Nat.pow_succ, Nat.add_mul]
      simp only [Nat.zero_mul, Nat.zero_add]
      rw [Nat.mul_assoc, Nat.mul_comm 256 (256 ^ R.length), Nat.add_assoc]
  unfold lowN
  rw [List.reverse_append]
  show List.foldl _ 0 (c :: L.reverse) = _
  rw [List.foldl_cons, key]
  simp
set_option maxRecDepth 100000 in
theorem lowN_lt (L : List UInt8) : lowN L < 256 ^ L.length := by
  have : ∀ (R : List UInt8), lowN R.reverse < 256 ^ R.length := by
    intro R
    induction R with
    | nil => simp [lowN]
    | cons c R ih =>
      rw [List.reverse_cons, lowN_snoc, List.length_reverse, List.length_cons, Nat.pow_succ]
      have := c.toNat_lt
      have h2 : c.toNat * 256 ^ R.length ≤ 255 * 256 ^ R.length := Nat.mul_le_mul_right _ (by omega)
      omega
  have h := this L.reverse
  rw [List.reverse_reverse, List.length_reverse] at h
  exact h
set_option maxRecDepth 100000 in
theorem low_or (n k : Nat) (c : UInt8) (hk : k < 8) (hn : n < 256 ^ k) : bits .or .u64 (n : Int) (IntKind.u64.wrap ((c.toNat : Int) * 2 ^ (8 * k))) = ((c.toNat * 256 ^ k + n : Nat) : Int) := by
  have hc := c.toNat_lt
  have e : (256 : Nat) ^ k = 2 ^ (8 * k) := by rw [Nat.pow_mul]
  have h1 : 256 ^ (k + 1) ≤ 256 ^ 8 := Nat.pow_le_pow_right (by omega) (by omega)
  rw [Nat.pow_succ] at h1
  have h2 : c.toNat * 256 ^ k ≤ 255 * 256 ^ k := Nat.mul_le_mul_right _ (by omega)
  have e3 : (c.toNat : Int) * 2 ^ (8 * k) = ((c.toNat * 256 ^ k : Nat) : Int) := by rw [e]; simp
  rw [e3, IntKind.wrap_u64, show ((c.toNat * 256 ^ k : Nat) : Int) % 18446744073709551616 = ((c.toNat * 256 ^ k : Nat) : Int) by omega]
  rw [u64_or_nat n (c.toNat * 256 ^ k) (by omega) (by omega), Nat.or_comm, nat_join (8 * k) (c.toNat * 256 ^ k) n (by rw [e]; exact Nat.mul_mod_left _ _) (by rw [← e]; exact hn)]

end Go.Proofs.Ythcidcfaodjbjaa
