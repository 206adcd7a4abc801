/- The document's Parse of digits alone. -/
import Derived.Test.YtnofibjchhcmeaaNumP
import Derived.Test.YtnofibjchhcmeaaRefC
namespace Go.Proofs.Ytnofibjchhcmeaa
open Go.RowKit
set_option linter.unusedVariables false

set_option maxHeartbeats 400000 in
theorem rparse_nought (s : ByteArray) (hs : s.size ≤ 8192) (h0 : 0 < s.size) (h45 : ((s[0].toNat : Int) == 45) = false) (hz : ((s[0].toNat : Int) == 48) = true) (ho : (s.toList == [48]) = false) (w : World) :
    Calls Try.prog 23 #[.string s] w fun e w' => e = .returned (.tuple #[.int .i64 0, .int .i64 10]) ∧ ∃ n, w' = w.drewN n := by
  have hsz : ((s.size : Int) == 0) = false := by
    have : s.size ≠ 0 := by omega
    simp only [beq_eq_false_iff_ne, ne_eq]; omega
  go_enter Try.func23, Try.ntmps23
  go_wp2
  go_ret2
  exact ⟨rfl, 0, rfl⟩

theorem rparse_dig (s : ByteArray) (hs : s.size ≤ 8192) (hd : areD s.data.toList = true) (w : World) :
    Calls Try.prog 23 #[.string s] w fun e w' => e = .returned (.tuple #[.int .i64 (parse s.data.toList).1, .int .i64 (parse s.data.toList).2]) ∧ ∃ n, w' = w.drewN n := by
  have h0 : 0 < s.size := areD_size s hd
  obtain ⟨d1, d2⟩ := isD_at s 0 h0 hd
  have h45 : ((s[0].toNat : Int) == 45) = false := by simp; omega
  have hL : s.data.toList = s[0] :: s.data.toList.drop 1 := List.drop_eq_getElem_cons (l := s.data.toList) (i := 0) (by simpa using h0)
  have hne : ¬ s[0] = 45 := by intro e; rw [e] at d1; simp at d1
  have hp : parse s.data.toList = parseOf false (s.data.toList == [48]) s.data.toList := by
    rw [hL]
    show (if s[0] = 45 then parseOf true false (s.data.toList.drop 1) else parseOf false (s[0] :: s.data.toList.drop 1 == [48]) (s[0] :: s.data.toList.drop 1)) = _
    rw [if_neg hne]
  rw [hp]
  by_cases hz : ((s[0].toNat : Int) == 48) = true
  · by_cases ho : (s.toList == [48]) = true
    · have := rparse_plain s hs h0 h45 (Or.inr ⟨hz, ho⟩) w
      rw [ByteArray.toList_eq] at this
      exact this
    · have ho' : (s.toList == [48]) = false := by simpa using ho
      have h48 : s.data.toList.head? = some 48 := (head_48 s h0).2 (by simpa using hz)
      have h2 : parseOf false (s.data.toList == [48]) s.data.toList = (0, 10) := by
        rw [ByteArray.toList_eq] at ho'
        rw [ho', parseOf_2 hd h48]
      rw [h2]
      exact rparse_nought s hs h0 h45 hz ho' w
  · have hz' : ((s[0].toNat : Int) == 48) = false := by simpa using hz
    have := rparse_plain s hs h0 h45 (Or.inl hz') w
    rw [ByteArray.toList_eq] at this
    exact this
end Go.Proofs.Ytnofibjchhcmeaa
