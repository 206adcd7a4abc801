/- The document's sign and longest. -/
import Derived.Test.YtnofibjchhcmeaaLong
import Derived.Test.YtnofibjchhcmeaaToken
namespace Go.Proofs.Ytnofibjchhcmeaa
open Go.RowKit
set_option linter.unusedVariables false

def S21 : ByteArray := ⟨#[61, 60, 62, 43, 45, 42, 47, 37, 38, 124, 94, 126, 33, 40, 41, 91, 93, 123, 125, 59, 44]⟩

set_option maxHeartbeats 2000000 in
theorem rsign_two (s : ByteArray) (hs : s.size = 2) (w : World) :
    Calls Try.prog 32 #[.string s] w fun e w' => e = .returned (.bool (isS s.toList)) ∧ ∃ n, w' = w.drewN n := by
  have hl : s.toList.length = 2 := by rw [ByteArray.toList_eq]; simpa using hs
  have e0 : isS s.toList = signs2.contains s.toList := by
    unfold isS
    rcases e : s.toList with _ | ⟨a, _ | ⟨b, _ | ⟨c, r⟩⟩⟩
    · rw [e] at hl; cases hl
    · rw [e] at hl; cases hl
    · simp
    · rw [e] at hl; simp at hl
  rcases h : signs2.contains s.toList with _ | _
  · have hn : ∀ l, l ∈ signs2 → (s.toList == l) = false := by
      intro l hl
      rw [beq_eq_false_iff_ne]
      intro e
      have : signs2.contains s.toList = true := by rw [e]; exact List.contains_iff_mem.2 hl
      rw [h] at this; cases this
    have t0 := hn [61, 61] (by decide)
    have t1 := hn [33, 61] (by decide)
    have t2 := hn [60, 61] (by decide)
    have t3 := hn [62, 61] (by decide)
    have t4 := hn [60, 60] (by decide)
    have t5 := hn [62, 62] (by decide)
    rw [e0, h]
    clear hn h e0 hl
    go_enter Try.func32, Try.ntmps32
    go_wp2
    go_ret
    exact ⟨rfl, 0, rfl⟩
  · rw [e0, h]
    have hm : s.toList ∈ signs2 := List.contains_iff_mem.1 h
    unfold signs2 at hm
    simp only [List.mem_cons, List.not_mem_nil, or_false] at hm
    clear h e0 hl
    rcases hm with e | e | e | e | e | e
    all_goals
      have e2 := ba_of _ _ e
      clear e
      subst e2
      go_enter Try.func32, Try.ntmps32
      go_wp2
      go_ret
      exact ⟨rfl, 0, rfl⟩

set_option maxHeartbeats 2000000 in
theorem rsign_other (s : ByteArray) (hs : s.size ≤ 1000000) (h2 : ¬ s.size = 2) (h1 : ¬ s.size = 1) (w : World) :
    Calls Try.prog 32 #[.string s] w fun e w' => e = .returned (.bool (isS s.toList)) ∧ ∃ n, w' = w.drewN n := by
  have hl : s.toList.length = s.size := by rw [ByteArray.toList_eq]; simp
  have e0 : isS s.toList = false := by
    unfold isS
    have : signs2.contains s.toList = false := by
      rw [Bool.eq_false_iff]
      intro h
      have hm := List.contains_iff_mem.1 h
      unfold signs2 at hm
      simp only [List.mem_cons, List.not_mem_nil, or_false] at hm
      rcases hm with e | e | e | e | e | e <;> (rw [e] at hl; simp at hl; omega)
    rw [this]
    rcases e : s.toList with _ | ⟨a, _ | ⟨b, r⟩⟩
    · rfl
    · rw [e] at hl; simp at hl; omega
    · rfl
  rw [e0]
  have f2 : ((s.size : Int) == 2) = false := by simp; omega
  have f1 : ((s.size : Int) == 1) = false := by simp; omega
  clear e0 hl
  go_enter Try.func32, Try.ntmps32
  go_wp2
  go_rounds 1
  go_ret
  exact ⟨rfl, 0, rfl⟩

theorem sign_find (c : UInt8) (k : Nat) (hk : k < 21) (h : (signs1.take k).contains c = false) (hc : (S21[k]'hk).toNat = c.toNat) : signs1.contains c = true := by
  have : ∀ j : Fin 21, (S21[j.val]'j.isLt) = signs1[j.val]'j.isLt := by decide
  have e := this ⟨k, hk⟩
  rw [List.contains_iff_mem]
  have e2 : S21[k]'hk = c := UInt8.toNat_inj.1 hc
  rw [← e2]
  exact e ▸ List.getElem_mem _
theorem sign_next (c : UInt8) (k : Nat) (hk : k < 21) (h : (signs1.take k).contains c = false) (hc : ¬ (S21[k]'hk).toNat = c.toNat) : (signs1.take (k + 1)).contains c = false := by
  have : ∀ j : Fin 21, (S21[j.val]'j.isLt) = signs1[j.val]'j.isLt := by decide
  have e := this ⟨k, hk⟩
  rw [List.take_succ_eq_append_getElem hk, List.contains_eq_any_beq, List.any_append, ← List.contains_eq_any_beq, h]
  simp only [List.any_cons, List.any_nil, Bool.or_false, Bool.false_or]
  rw [beq_eq_false_iff_ne]
  intro e3
  apply hc
  rw [e3]
  exact congrArg UInt8.toNat e

set_option maxHeartbeats 2000000 in
theorem rsign_one (s : ByteArray) (hs : s.size = 1) (w : World) :
    Calls Try.prog 32 #[.string s] w fun e w' => e = .returned (.bool (isS s.toList)) ∧ ∃ n, w' = w.drewN n := by
  rw [isS_one s hs]
  obtain ⟨r, hr⟩ : ∃ r, signs1.contains (s[0]'(by omega)) = r := ⟨_, rfl⟩
  have HR : Hid (signs1.contains (s[0]'(by omega)) = r) := hr
  rw [hr]
  clear hr
  go_enter Try.func32, Try.ntmps32
  go_wp2
  generalize hSS : (⟨#[61, 60, 62, 43, 45, 42, 47, 37, 38, 124, 94, 126, 33, 40, 41, 91, 93, 123, 125, 59, 44]⟩ : ByteArray) = SS
  have hS : SS.size = 21 := by rw [← hSS]; rfl
  have HSS : Hid (S21 = SS) := hSS
  have hs0 : (0 : Int) < (s.size : Int) := by omega
  have hs1 : ((s.size : Int) == 1) = true := by simp; omega
  clear hSS
  go_loopw [4] (fun i wr => ∃ k : Nat, k ≤ 21 ∧ i = .int .i64 (k : Int) ∧ Hid ((signs1.take k).contains (s[0]'(by omega)) = false) ∧ Hid (∃ n, wr = w.drewN n)) (fun i _ => 21 - (intOf i).toNat)
  case atStart => exact ⟨0, by omega, rfl, rfl, 0, rfl⟩
  case round =>
    obtain ⟨k, hk, rfl, HK, HW⟩ := hrel
    have hdr : ∀ n, ∃ m, wr.drewN n = w.drewN m := by
      intro n
      obtain ⟨m, rfl⟩ := HW.out
      exact ⟨m + n, World.drewN_drewN _ _ _⟩
    have HDR : Hid (∀ n, ∃ m, wr.drewN n = w.drewN m) := hdr
    clear hdr
    by_cases hlt : k < 21
    · have hltS : k < SS.size := by omega
      obtain ⟨c, hc⟩ : ∃ c : UInt8, s[0]'(by omega) = c := ⟨_, rfl⟩
      obtain ⟨d, hd⟩ : ∃ d : UInt8, SS[k]'hltS = d := ⟨_, rfl⟩
      have HSd : Hid ((S21[k]'hlt) = d) := by
        have h := HSS.out
        subst h
        exact hd
      have HC : Hid (s[0]'(by omega) = c) := hc
      by_cases he : (d.toNat : Int) = (c.toNat : Int)
      · have HF : Hid (r = true) := by
          show _ = _
          rw [← HR.out, hc]
          exact sign_find c k hlt (hc ▸ HK.out) (by rw [HSd.out]; omega)
        have he' : ((d.toNat : Int) == (c.toNat : Int)) = true := by simpa using he
        go_wp2
        go_quiet (fail)
        go_wp2
        go_ret
        exact ⟨by rw [HF.out]; rfl, HDR.out _⟩
      · have HN : Hid ((signs1.take (k + 1)).contains (s[0]'(by omega)) = false) := by
          show _ = _
          rw [hc]
          exact sign_next c k hlt (hc ▸ HK.out) (by rw [HSd.out]; omega)
        have he' : ((d.toNat : Int) == (c.toNat : Int)) = false := by simpa using he
        go_wp2
        go_quiet (fail)
        go_wp2
        go_roundw
        case rel => exact ⟨k + 1, by omega, by go_num, HN, HDR.out _⟩
        case measure => simp [intOf]; omega
    · have HF : Hid (r = false) := by
        show _ = _
        have := HK.out
        rw [List.take_of_length_le (by show 21 ≤ k; omega)] at this
        rw [← HR.out]; exact this
      have hk21 : k = 21 := by omega
      subst hk21
      go_wp2
      go_ret
      exact ⟨by rw [HF.out]; rfl, HDR.out 0⟩

theorem rsign_any (s : ByteArray) (hs : s.size ≤ 1000000) (w : World) :
    Calls Try.prog 32 #[.string s] w fun e w' => e = .returned (.bool (isS s.toList)) ∧ ∃ n, w' = w.drewN n := by
  by_cases h2 : s.size = 2
  · exact rsign_two s h2 w
  · by_cases h1 : s.size = 1
    · exact rsign_one s h1 w
    · exact rsign_other s hs h2 h1 w
end Go.Proofs.Ytnofibjchhcmeaa
