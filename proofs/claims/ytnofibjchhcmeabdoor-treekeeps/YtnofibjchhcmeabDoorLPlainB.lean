/- Plain mathematics of texts of digits: what they say. -/
import Derived.WalkKit
namespace Go.Proofs.YtnofibjchhcmeabDoor
open Go.RowKit

def isD (c : UInt8) : Bool := decide (48 ≤ c.toNat ∧ c.toNat ≤ 57)
def areD (l : List UInt8) : Bool := !l.isEmpty && l.all isD
def val (l : List UInt8) : Nat := l.foldl (fun n c => n * 10 + (c.toNat - 48)) 0

theorem take_snoc (s : ByteArray) (k : Nat) (h : k < s.size) : s.data.toList.take (k + 1) = s.data.toList.take k ++ [s[k]] := by
  rw [List.take_succ_eq_append_getElem (by simpa using h)]; rfl

theorem all_snoc (s : ByteArray) (k : Nat) (h : k < s.size) (ha : (s.data.toList.take k).all isD = true) (h1 : (48 : Int) ≤ s[k].toNat) (h2 : (s[k].toNat : Int) ≤ 57) :
    (s.data.toList.take (k + 1)).all isD = true := by
  rw [take_snoc s k h, List.all_append, ha]
  simp [isD]
  omega

theorem not_all (s : ByteArray) (k : Nat) (h : k < s.size) (h1 : (s[k].toNat : Int) < 48 ∨ (57 : Int) < s[k].toNat) : areD s.data.toList = false := by
  unfold areD
  have hm : s[k] ∈ s.data.toList := by
    have := List.getElem_mem (l := s.data.toList) (n := k) (by simpa using h)
    exact this
  have : s.data.toList.all isD = false := by
    rw [Bool.eq_false_iff]
    intro hall
    have := List.all_eq_true.1 hall _ hm
    simp [isD] at this
    omega
  rw [this]; simp

theorem areD_size (s : ByteArray) (h : areD s.data.toList = true) : 0 < s.size := by
  unfold areD at h
  simp at h
  rcases Nat.eq_zero_or_pos s.size with h0 | h0
  · exact absurd (Array.eq_empty_of_size_eq_zero h0) h.1
  · exact h0

theorem areD_of_all (s : ByteArray) (h : 0 < s.size) (ha : (s.data.toList.take s.size).all isD = true) : areD s.data.toList = true := by
  rw [List.take_of_length_le (by simp)] at ha
  unfold areD
  rw [ha]
  simp
  intro e
  have h1 : s.data.size = 0 := by rw [e]; rfl
  have h2 : 0 < s.data.size := h
  omega

theorem isD_at (s : ByteArray) (k : Nat) (h : k < s.size) (ha : areD s.data.toList = true) : (48 : Int) ≤ s[k].toNat ∧ (s[k].toNat : Int) ≤ 57 := by
  have hm : s[k] ∈ s.data.toList := by
    have := List.getElem_mem (l := s.data.toList) (n := k) (by simpa using h)
    exact this
  unfold areD at ha
  simp only [Bool.and_eq_true] at ha
  have := List.all_eq_true.1 ha.2 _ hm
  simp [isD] at this
  omega

theorem val_snoc (l : List UInt8) (c : UInt8) : val (l ++ [c]) = val l * 10 + (c.toNat - 48) := by
  unfold val
  rw [List.foldl_append]
  rfl

theorem val_lt (l : List UInt8) (h : l.all isD = true) : val l < 10 ^ l.length := by
  have : ∀ (r : List UInt8), r.reverse.all isD = true → val r.reverse < 10 ^ r.length := by
    intro r
    induction r with
    | nil => intro _; simp [val]
    | cons c r ih =>
      intro ha
      simp only [List.reverse_cons, List.all_append, Bool.and_eq_true] at ha
      have h1 := ih ha.1
      have h2 : isD c = true := by simpa using ha.2
      simp [isD] at h2
      rw [List.reverse_cons, val_snoc, List.length_cons, Nat.pow_succ]
      omega
  have := this l.reverse (by simpa using h)
  simpa using this

theorem val_take_lt (s : ByteArray) (k : Nat) (hk : k < s.size) (hs : s.size ≤ 19) (ha : areD s.data.toList = true) : val (s.data.toList.take k) < 1000000000000000000 := by
  have h1 : (s.data.toList.take k).all isD = true := by
    unfold areD at ha
    simp only [Bool.and_eq_true] at ha
    rw [List.all_eq_true] at ha ⊢
    intro x hx
    exact ha.2 x (List.mem_of_mem_take hx)
  have h2 := val_lt _ h1
  have h3 : (s.data.toList.take k).length ≤ 18 := by
    have := List.length_take_le k s.data.toList
    omega
  have h4 : 10 ^ (s.data.toList.take k).length ≤ 10 ^ 18 := Nat.pow_le_pow_right (by omega) h3
  omega

theorem val_take (s : ByteArray) (k : Nat) (hk : k < s.size) (ha : areD s.data.toList = true) :
    (val (s.data.toList.take (k + 1)) : Int) = (val (s.data.toList.take k) : Int) * 10 + ((s[k].toNat : Int) - 48) := by
  rw [take_snoc s k hk, val_snoc]
  have := isD_at s k hk ha
  omega

/-- what num.Parse answers: the number, and the error's number -/
def withS (b : Bool) (n : Int) : Int × Int :=
  if b then (if n ≤ 9223372036854775808 then (-n, 0) else (0, 11)) else (if n ≤ 9223372036854775807 then (n, 0) else (0, 11))
def parseOf (b : Bool) (one : Bool) (d : List UInt8) : Int × Int :=
  if areD d = false then (0, 10)
  else if d.head? = some 48 ∧ one = false then (0, 10)
  else if 19 < d.length then (0, 11)
  else withS b (val d)

theorem parseOf_1 {b one : Bool} {d : List UInt8} (h : areD d = false) : parseOf b one d = (0, 10) := by unfold parseOf; rw [if_pos h]
theorem parseOf_2 {b : Bool} {d : List UInt8} (h : areD d = true) (h2 : d.head? = some 48) : parseOf b false d = (0, 10) := by
  unfold parseOf; rw [if_neg (by rw [h]; decide), if_pos ⟨h2, rfl⟩]
theorem parseOf_3 {b one : Bool} {d : List UInt8} (h : areD d = true) (h2 : d.head? ≠ some 48 ∨ one = true) (h3 : 19 < d.length) : parseOf b one d = (0, 11) := by
  unfold parseOf; rw [if_neg (by rw [h]; decide), if_neg (by rintro ⟨a, c⟩; rcases h2 with h2 | h2 <;> simp_all), if_pos h3]
theorem parseOf_4 {b one : Bool} {d : List UInt8} (h : areD d = true) (h2 : d.head? ≠ some 48 ∨ one = true) (h3 : ¬ 19 < d.length) : parseOf b one d = withS b (val d) := by
  unfold parseOf; rw [if_neg (by rw [h]; decide), if_neg (by rintro ⟨a, c⟩; rcases h2 with h2 | h2 <;> simp_all), if_neg h3]

theorem head_is (s : ByteArray) (h : 0 < s.size) : s.data.toList.head? = some s[0] := by
  have h1 : s.data.toList.head? = s.data.toList[0]? := by cases s.data.toList <;> rfl
  rw [h1, List.getElem?_eq_getElem (by simpa using h)]
  rfl
theorem head_48 (s : ByteArray) (h : 0 < s.size) : s.data.toList.head? = some 48 ↔ ((s[0].toNat : Int) = 48) := by
  rw [head_is s h]
  constructor
  · intro e; have : s[0] = 48 := by simpa using e
    rw [this]; rfl
  · intro e
    have : s[0] = 48 := by apply UInt8.toNat_inj.1; show s[0].toNat = 48; omega
    rw [this]
theorem val_bd (s : ByteArray) (hs : ¬ 19 < s.size) (ha : areD s.data.toList = true) : (val s.data.toList : Int) ≤ 18446744073709551615 := by
  have h1 : s.data.toList.all isD = true := by
    unfold areD at ha
    simp only [Bool.and_eq_true] at ha
    exact ha.2
  have h2 := val_lt _ h1
  have h3 : s.data.toList.length ≤ 19 := by simp; omega
  have h4 : 10 ^ s.data.toList.length ≤ 10 ^ 19 := Nat.pow_le_pow_right (by omega) h3
  omega
end Go.Proofs.YtnofibjchhcmeabDoor
