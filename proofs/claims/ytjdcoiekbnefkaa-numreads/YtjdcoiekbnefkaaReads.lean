/- NumReads: any text of at most 4,096 bytes is read by num.Parse as the number that the document says, or refused with the document's error (a longer one isn't asked); it has no conditions. -/
import Derived.Test.YtjdcoiekbnefkaaRows
import Derived.Test.YtjdcoiekbnefkaaAlive
import Derived.Test.YtjdcoiekbnefkaaRefQ
import Derived.WalkKit
import Derived.ProofKit
import Derived.OpenShut
import Derived.ShutString
namespace Go.Proofs.Ytjdcoiekbnefkaa.numReads
open Go.ChangeShapes Go.WideShapes Go.ChangeAt Go.RowKit
open Go.ChangeMaps (open_string shut_string)
set_option linter.unusedVariables false      -- a walk need not use every 'w<i>' (that an integer argument fits its kind)

theorem own : ownKnob Try.prog.godebug = none := by kernel_rfl


theorem parse_is (s : ByteArray) (k e : Int) (hs : s.size ≤ maxLen) (h : Hid (parse s.data.toList = (k, e))) (w : World) :
    Calls Try.prog 14 #[.string s] w fun e' w' => e' = .returned (.tuple #[.int .i64 k, .int .i64 e]) ∧ w' = w := by
  have := parse_any s hs w
  rw [h.out] at this
  exact this

set_option maxHeartbeats 400000 in
theorem rparse_empty (w : World) :
    Calls Try.prog 15 #[.string ByteArray.empty] w fun e w' => e = .returned (.tuple #[.int .i64 0, .int .i64 10]) ∧ ∃ n, w' = w.drewN n := by
  go_enter Try.func15, Try.ntmps15
  go_wp2
  go_ret2
  exact ⟨rfl, 0, rfl⟩

set_option maxHeartbeats 400000 in
theorem rparse_nought (s : ByteArray) (hs : s.size ≤ 4096) (h0 : 0 < s.size) (h45 : ((s[0].toNat : Int) == 45) = false) (hz : ((s[0].toNat : Int) == 48) = true) (ho : (s.toList == [48]) = false) (w : World) :
    Calls Try.prog 15 #[.string s] w fun e w' => e = .returned (.tuple #[.int .i64 0, .int .i64 10]) ∧ ∃ n, w' = w.drewN n := by
  have hsz : ((s.size : Int) == 0) = false := by
    have : s.size ≠ 0 := by omega
    simp only [beq_eq_false_iff_ne, ne_eq]; omega
  go_enter Try.func15, Try.ntmps15
  go_wp2
  go_ret2
  exact ⟨rfl, 0, rfl⟩

set_option maxHeartbeats 400000 in
theorem rparse_mnought (s t : ByteArray) (hs : s.size ≤ 4096) (h0 : 0 < s.size) (h45 : ((s[0].toNat : Int) == 45) = true) (ht : s.extract 1 s.size = t) (hts : t.size < s.size) (ht0 : 0 < t.size) (hz : ((t[0].toNat : Int) == 48) = true) (ho : (s.toList == [48]) = false) (w : World) :
    Calls Try.prog 15 #[.string s] w fun e w' => e = .returned (.tuple #[.int .i64 0, .int .i64 10]) ∧ ∃ n, w' = w.drewN n := by
  have hsz : ((t.size : Int) == 0) = false := by
    have : t.size ≠ 0 := by omega
    simp only [beq_eq_false_iff_ne, ne_eq]; omega
  go_enter Try.func15, Try.ntmps15
  go_wp2
  go_ret2
  exact ⟨rfl, 0, rfl⟩

set_option maxHeartbeats 400000 in
theorem rparse_bare (s t : ByteArray) (hs : s.size ≤ 4096) (h0 : 0 < s.size) (h45 : ((s[0].toNat : Int) == 45) = true) (ht : s.extract 1 s.size = t) (hts : t.size < s.size) (ht0 : ((t.size : Int) == 0) = true) (w : World) :
    Calls Try.prog 15 #[.string s] w fun e w' => e = .returned (.tuple #[.int .i64 0, .int .i64 10]) ∧ ∃ n, w' = w.drewN n := by
  go_enter Try.func15, Try.ntmps15
  go_wp2
  go_ret2
  exact ⟨rfl, 0, rfl⟩

theorem rparse_any (s : ByteArray) (hs : s.size ≤ 4096) (w : World) :
    Calls Try.prog 15 #[.string s] w fun e w' => e = .returned (.tuple #[.int .i64 (parse s.data.toList).1, .int .i64 (parse s.data.toList).2]) ∧ ∃ n, w' = w.drewN n := by
  by_cases h0 : s.size = 0
  · obtain rfl : s = ByteArray.empty := by apply ByteArray.ext; exact Array.eq_empty_of_size_eq_zero h0
    exact rparse_empty w
  · have h0' : 0 < s.size := by omega
    have hh := head_is s h0'
    have hl : s.data.toList.length = s.size := by simp
    have hsl := ByteArray.toList_eq s
    rcases e : s.data.toList with _ | ⟨c, r⟩
    · rw [e] at hl; simp at hl; omega
    · rw [e] at hh
      have hc : c = s[0] := by simpa using hh
      rw [parse_cons]
      by_cases h45 : c = 45
      · rw [if_pos h45]
        have et : (s.extract 1 s.size).data.toList = r := by
          have : (s.extract 1 s.size).data.toList = s.data.toList.tail := by
            rw [ByteArray.data_extract, Array.toList_extract, List.extract_eq_take_drop, List.take_of_length_le (by simp), List.drop_one]
          rw [this, e]; rfl
        have hts : (s.extract 1 s.size).size < s.size := by simp; omega
        have h45' : ((s[0].toNat : Int) == 45) = true := by rw [← hc, h45]; rfl
        have ho : (s.toList == [48]) = false := by rw [hsl, e, h45]; rfl
        by_cases ht0 : (s.extract 1 s.size).size = 0
        · have er : r = [] := by
            rw [← et]
            have : (s.extract 1 s.size).data.toList.length = 0 := by simpa using ht0
            exact List.eq_nil_of_length_eq_zero this
          rw [er]
          exact rparse_bare s _ hs h0' h45' rfl hts (by simp [ht0]) w
        · by_cases hz : (((s.extract 1 s.size)[0]'(by omega)).toNat : Int) = 48
          · have hd : r.head? = some 48 := by rw [← et]; exact (head_48 _ (by omega)).2 hz
            have hp : parseOf true false r = (0, 10) := by
              by_cases hA : areD r = true
              · exact parseOf_2 hA hd
              · exact parseOf_1 (by simpa using hA)
            rw [hp]
            exact rparse_mnought s _ hs h0' h45' rfl hts (by omega) (by simp [hz]) ho w
          · have h3 := rparse_minus s _ hs h0' h45' rfl hts (by omega) (by
              rw [hsl, ByteArray.toList_eq, et, e]
              simp) (Or.inl (by simp [hz])) w
            rw [et, ho] at h3
            exact h3
      · rw [if_neg h45]
        have h45' : ((s[0].toNat : Int) == 45) = false := by
          rw [← hc]
          have : c.toNat ≠ 45 := fun e => h45 (UInt8.toNat_inj.1 e)
          simp; omega
        by_cases hz : (s[0].toNat : Int) = 48
        · by_cases ho : (s.toList == [48]) = true
          · have h3 := rparse_plain s hs h0' h45' (Or.inr ⟨by simp [hz], ho⟩) w
            rw [hsl, e] at h3
            exact h3
          · have ho' : (s.toList == [48]) = false := by simpa using ho
            have hd : (c :: r).head? = some 48 := by rw [← e]; exact (head_48 s h0').2 hz
            have hp : parseOf false (c :: r == [48]) (c :: r) = (0, 10) := by
              rw [hsl, e] at ho'
              rw [ho']
              by_cases hA : areD (c :: r) = true
              · exact parseOf_2 hA hd
              · exact parseOf_1 (by simpa using hA)
            rw [hp]
            exact rparse_nought s hs h0' h45' (by simp [hz]) ho' w
        · have h3 := rparse_plain s hs h0' h45' (Or.inl (by simp [hz])) w
          rw [hsl, e] at h3
          exact h3

theorem rparse_is (s : ByteArray) (k e : Int) (hs : s.size ≤ 4096) (h : Hid (parse s.data.toList = (k, e))) (w : World) :
    Calls Try.prog 15 #[.string s] w fun e' w' => e' = .returned (.tuple #[.int .i64 k, .int .i64 e]) ∧ ∃ n, w' = w.drewN n := by
  have := rparse_any s hs w
  rw [h.out] at this
  exact this

theorem drewN_grown {w w' : World} (n : Nat) (h : Grown (w.drewN n) w') : Grown w w' := by
  induction n with
  | zero => exact h
  | succ n ih => exact ih h

set_option maxHeartbeats 1000000 in
theorem walk_is (k e : Int) (s : ByteArray) (hs : s.size ≤ maxLen) (h4 : s.size ≤ 4096) (hp : Hid (parse s.data.toList = (k, e))) (w : World) :
    Calls Try.prog 5 #[.string s] w fun e w' => e = .returned (.bool true) ∧ Grown w w' := by
  have hsl : Hid (s.size ≤ maxLen) := hs
  unfold maxLen at hs
  go_enter Try.func5, Try.ntmps5
  go_wp2_with fail
  refine (parse_is s k e hsl.out hp _).mono ?_
  rintro e1 w2 ⟨rfl, rfl⟩
  go_wp2_with fail
  refine (rparse_is s k e h4 hp _).mono ?_
  rintro e1 w3 ⟨rfl, nn, hw⟩
  go_wp2_with fail
  refine (alive_any _).mono ?_
  rintro e1 w5 ⟨rfl, g3⟩
  go_wp2
  go_ret
  exact ⟨rfl, drewN_grown nn g3⟩

set_option maxHeartbeats 400000 in
theorem walk_long (s : ByteArray) (hs : s.size ≤ maxLen) (h4 : 4096 < s.size) (w : World) :
    Calls Try.prog 5 #[.string s] w fun e w' => e = .returned (.bool true) ∧ Grown w w' := by
  unfold maxLen at hs
  go_enter Try.func5, Try.ntmps5
  go_wp2
  go_ret
  exact ⟨rfl, Grown.refl _⟩

theorem walk (a0 : ByteArray) (w0 : a0.size ≤ maxLen) (w : World) :
    Calls Try.prog 5 #[.string a0] w fun e w' => e = .returned (.bool true) ∧ Grown w w' := by
  by_cases h4 : 4096 < a0.size
  · exact walk_long a0 w0 h4 w
  · exact walk_is _ _ a0 w0 (by omega) rfl w

/-! ### THE ROW's STEP: WRITTEN OUT: LEAVE IT -/
set_option maxRecDepth 100000 in
theorem lifted (os : Os) (started : os.Started) (H : Type) (enc : TypeId × Value → H) :
    ReturnsInHanded {} Try.checked os 5 .any (Rows.numReadsSpec.pre6 enc Try.prog Try.f5 Rows.numReadsRow.domain false) (Rows.numReadsSpec.post enc Try.prog Try.f5 false true false false) := by
  refine returnsInHanded_of_change (C := Try.checked) own started (by kernel_rfl) Try.func5
    (ChangeSpec.witness6 (enc := enc) (C := Try.checked) false ⟨#[], #[.string ByteArray.empty], []⟩ 8 (by kernel_rfl) (by kernel_rfl) (by kernel_rfl) (by kernel_rfl)) ?_
  intro W base args ds gs before hval0 hW hcnd _
  have hval : ∀ (j : Nat) t v, Try.f5.params[j]? = some t → args[j]? = some v → Value.okWide Try.prog W .any base t v := hval0
  have hW' := hW
  obtain ⟨p, q, hA0, hV, rfl, hfz, hnd⟩ := hW
  have hA : DataW.TrodAll enc Try.prog W 0 (fun _ => true) true Try.f5.params.toList args.toList ds p := hA0
  rw [Try.params5] at hA hval
  obtain ⟨v0, vs0, d0, ds0, p0, q0, hargs, rfl, rfl, h0, r0⟩ := trodAll_cons hA
  obtain ⟨rfl, rfl, rfl⟩ := trodAll_nil r0
  obtain rfl : args = #[v0] := by cases args; simp_all
  obtain ⟨rfl, rfl⟩ := trodVars_none hV
  obtain ⟨a0, rfl, rfl, rfl, w0⟩ := open_string Try.underlying9 (hval 0 9 v0 rfl rfl) h0
  clear hA0 hval0
  simp only [List.append_nil] at hW'
  refine (walk a0 w0 W).mono fun e W' ⟨he, hg⟩ => ?_
  subst he
  exact ⟨_, rfl, post_of_same (pa := []) (pv := []) hW' (fun _ _ _ => (trodAll_cons_mk (shut_bool Try.underlying4 _) trodAll_mk0)) (fun sp _ => (trodAll_cons_mk (shut_string Try.underlying9 w0) trodAll_mk0)) (fun _ _ => rfl) rfl
    (hg.frame _) hg.2.1 (ok_one (by kernel_rfl) rfl (okWide_bool_mk Try.underlying4 _))⟩

theorem over : Rows.numReadsRow.holds Try.pinned (OpenSpec.ofChange Rows.numReadsSpec) :=
  OpenClaim.holds_of_wide 5 Try.f5 rfl rfl rfl rfl rfl rfl rfl ⟨rfl, rfl, rfl, rfl, rfl⟩ rfl rfl rfl rfl rfl (by kernel_rfl) Try.func5 (by kernel_rfl)
    (of_decide_eq_true (by kernel_rfl)) (by unfold Func.isWrapper; first | (rw [if_pos (by decide +kernel)]; kernel_rfl) | (rw [if_neg (by decide +kernel)]; exact ⟨rfl, rfl⟩))
    (fun os started H enc _ => lifted os started H enc)

/-- ████ THE STATEMENT ████ -/
theorem proved : Rows.NumReadsSaid :=
  over
#print axioms proved
end Go.Proofs.Ytjdcoiekbnefkaa.numReads
