/- NumBack: for any number of 64 bits and any text: the number's text is read as it and has at most 20 bytes; what of the text (of at most 4,096 bytes) is read is written as it was; it has no conditions. -/
import Derived.Test.YtjdcoiekbnefkaaRows
import Derived.Test.YtjdcoiekbnefkaaAlive
import Derived.Test.YtjdcoiekbnefkaaPlainC
import Derived.WalkKit
import Derived.ProofKit
import Derived.OpenShut
import Derived.ShutString
namespace Go.Proofs.Ytjdcoiekbnefkaa.numBack
open Go.ChangeShapes Go.WideShapes Go.ChangeAt Go.RowKit
open Go.ChangeMaps (open_string shut_string)
set_option linter.unusedVariables false      -- a walk need not use every 'w<i>' (that an integer argument fits its kind)

theorem own : ownKnob Try.prog.godebug = none := by kernel_rfl


theorem bounds {a : Int} (h : (Lit.int .i64 a).wf = true) : -9223372036854775808 ≤ a ∧ a ≤ 9223372036854775807 := by
  have := bounds_i64 h
  omega

theorem text_is (n : Int) (t : ByteArray) (h : -9223372036854775808 ≤ n ∧ n ≤ 9223372036854775807) (ht : Hid (t.data.toList = text n)) (w : World) :
    Calls Try.prog 16 #[.int .i64 n] w fun e w' => e = .returned (.string t) ∧ Grown w w' := by
  have e : t = ⟨(text n).toArray⟩ := by apply ByteArray.ext; rw [← ht.out]
  rw [e]; exact text_any n h.1 h.2 w

theorem parse_is (s : ByteArray) (k e : Int) (hs : s.size ≤ maxLen) (h : Hid (parse s.data.toList = (k, e))) (w : World) :
    Calls Try.prog 14 #[.string s] w fun e' w' => e' = .returned (.tuple #[.int .i64 k, .int .i64 e]) ∧ w' = w := by
  have := parse_any s hs w
  rw [h.out] at this
  exact this

theorem grown_trans {a b c : World} (h1 : Grown a b) (h2 : Grown b c) : Grown a c :=
  ⟨World.keptBut_trans h1.1 h2.1, fun x => by rw [h2.2.1 x, h1.2.1 x], Nat.le_trans h1.2.2 h2.2.2⟩

set_option maxHeartbeats 1000000 in
theorem walk_back (n k e : Int) (s t u : ByteArray) (hs : s.size ≤ maxLen) (h4 : s.size ≤ 4096) (hn : Hid (-9223372036854775808 ≤ n ∧ n ≤ 9223372036854775807)) (ht : Hid (t.data.toList = text n)) (htm : t.size ≤ 20) (htp : Hid (parse t.data.toList = (n, 0)))
    (hp : Hid (parse s.data.toList = (k, e))) (hk : Hid (-9223372036854775808 ≤ k ∧ k ≤ 9223372036854775807)) (hu : Hid (u.data.toList = text k))
    (hc : (e == 0) = false ∨ (e == 0) = true ∧ (u.toList == s.toList) = true) (w : World) :
    Calls Try.prog 6 #[.int .i64 n, .string s] w fun e w' => e = .returned (.bool true) ∧ Grown w w' := by
  have htl : Hid (t.size ≤ maxLen) := by show _ ≤ _; unfold maxLen; omega
  have hsl : Hid (s.size ≤ maxLen) := hs
  unfold maxLen at hs
  rcases hc with hc | ⟨hc, hc'⟩
  · have hc2 : (e != 0) = true := by simpa using hc
    go_enter Try.func6, Try.ntmps6
    go_wp2_with fail
    refine (text_is n t hn.out ht _).mono ?_
    rintro e1 w1 ⟨rfl, g1⟩
    go_wp2_with fail
    refine (parse_is t n 0 htl.out htp _).mono ?_
    rintro e1 w2 ⟨rfl, rfl⟩
    go_wp2_with fail
    refine (text_is n t hn.out ht _).mono ?_
    rintro e1 w3 ⟨rfl, g2⟩
    go_wp2_with fail
    refine (parse_is s k e hsl.out hp _).mono ?_
    rintro e1 w4 ⟨rfl, rfl⟩
    go_wp2_with fail
    refine (alive_any _).mono ?_
    rintro e1 w5 ⟨rfl, g3⟩
    go_wp2
    go_ret
    exact ⟨rfl, grown_trans (grown_trans g1 g2) g3⟩
  · have hc2 : (e != 0) = false := by simpa using hc
    go_enter Try.func6, Try.ntmps6
    go_wp2_with fail
    refine (text_is n t hn.out ht _).mono ?_
    rintro e1 w1 ⟨rfl, g1⟩
    go_wp2_with fail
    refine (parse_is t n 0 htl.out htp _).mono ?_
    rintro e1 w2 ⟨rfl, rfl⟩
    go_wp2_with fail
    refine (text_is n t hn.out ht _).mono ?_
    rintro e1 w3 ⟨rfl, g2⟩
    go_wp2_with fail
    refine (parse_is s k e hsl.out hp _).mono ?_
    rintro e1 w4 ⟨rfl, rfl⟩
    go_wp2_with fail
    refine (text_is k u hk.out hu _).mono ?_
    rintro e1 w5 ⟨rfl, g3⟩
    go_wp2_with fail
    refine (alive_any _).mono ?_
    rintro e1 w6 ⟨rfl, g4⟩
    go_wp2
    go_ret
    exact ⟨rfl, grown_trans (grown_trans (grown_trans g1 g2) g3) g4⟩

set_option maxHeartbeats 400000 in
theorem walk_long (n : Int) (s : ByteArray) (hs : s.size ≤ maxLen) (h4 : 4096 < s.size) (w : World) :
    Calls Try.prog 6 #[.int .i64 n, .string s] w fun e w' => e = .returned (.bool true) ∧ Grown w w' := by
  unfold maxLen at hs
  go_enter Try.func6, Try.ntmps6
  go_wp2
  go_ret
  exact ⟨rfl, Grown.refl _⟩

theorem walk (a0 : Int) (a1 : ByteArray) (w0 : (Lit.int .i64 a0).wf = true) (w1 : a1.size ≤ maxLen) (w : World) :
    Calls Try.prog 6 #[.int .i64 a0, .string a1] w fun e w' => e = .returned (.bool true) ∧ Grown w w' := by
  by_cases h4 : 4096 < a1.size
  · exact walk_long a0 a1 w1 h4 w
  · have hn := bounds w0
    have hk := parse_bd a1.data.toList
    obtain ⟨p1, p2⟩ := parse_text a0 hn.1 hn.2
    refine walk_back a0 (parse a1.data.toList).1 (parse a1.data.toList).2 a1 ⟨(text a0).toArray⟩ ⟨(text (parse a1.data.toList).1).toArray⟩ w1 (by omega) hn rfl (by show (text a0).toArray.size ≤ 20; rw [List.size_toArray]; exact p2) p1 rfl hk rfl ?_ w
    by_cases he : (parse a1.data.toList).2 = 0
    · right
      refine ⟨by simp [he], ?_⟩
      have ht := text_parse a1.data.toList (parse a1.data.toList).1 (by rw [← he])
      rw [ht]
      show (a1.toList == a1.toList) = true
      simp
    · left; simp [he]

/-! ### THE ROW's STEP: WRITTEN OUT: LEAVE IT -/
set_option maxRecDepth 100000 in
theorem lifted (os : Os) (started : os.Started) (H : Type) (enc : TypeId × Value → H) :
    ReturnsInHanded {} Try.checked os 6 .any (Rows.numBackSpec.pre6 enc Try.prog Try.f6 Rows.numBackRow.domain false) (Rows.numBackSpec.post enc Try.prog Try.f6 false true false false) := by
  refine returnsInHanded_of_change (C := Try.checked) own started (by kernel_rfl) Try.func6
    (ChangeSpec.witness6 (enc := enc) (C := Try.checked) false ⟨#[], #[.int .i64 0, .string ByteArray.empty], []⟩ 8 (by kernel_rfl) (by kernel_rfl) (by kernel_rfl) (by kernel_rfl)) ?_
  intro W base args ds gs before hval0 hW hcnd _
  have hval : ∀ (j : Nat) t v, Try.f6.params[j]? = some t → args[j]? = some v → Value.okWide Try.prog W .any base t v := hval0
  have hW' := hW
  obtain ⟨p, q, hA0, hV, rfl, hfz, hnd⟩ := hW
  have hA : DataW.TrodAll enc Try.prog W 0 (fun _ => true) true Try.f6.params.toList args.toList ds p := hA0
  rw [Try.params6] at hA hval
  obtain ⟨v0, vs0, d0, ds0, p0, q0, hargs, rfl, rfl, h0, r0⟩ := trodAll_cons hA
  obtain ⟨v1, vs1, d1, ds1, p1, q1, rfl, rfl, rfl, h1, r1⟩ := trodAll_cons r0
  obtain ⟨rfl, rfl, rfl⟩ := trodAll_nil r1
  obtain rfl : args = #[v0, v1] := by cases args; simp_all
  obtain ⟨rfl, rfl⟩ := trodVars_none hV
  obtain ⟨a0, rfl, rfl, rfl, w0⟩ := open_int Try.underlying2 (hval 0 2 v0 rfl rfl) h0
  obtain ⟨a1, rfl, rfl, rfl, w1⟩ := open_string Try.underlying9 (hval 1 9 v1 rfl rfl) h1
  clear hA0 hval0
  simp only [List.append_nil] at hW'
  refine (walk a0 a1 w0 w1 W).mono fun e W' ⟨he, hg⟩ => ?_
  subst he
  exact ⟨_, rfl, post_of_same (pa := []) (pv := []) hW' (fun _ _ _ => (trodAll_cons_mk (shut_bool Try.underlying4 _) trodAll_mk0)) (fun sp _ => (trodAll_cons_mk (shut_int Try.underlying2 w0) (trodAll_cons_mk (shut_string Try.underlying9 w1) trodAll_mk0))) (fun _ _ => rfl) rfl
    (hg.frame _) hg.2.1 (ok_one (by kernel_rfl) rfl (okWide_bool_mk Try.underlying4 _))⟩

theorem over : Rows.numBackRow.holds Try.pinned (OpenSpec.ofChange Rows.numBackSpec) :=
  OpenClaim.holds_of_wide 6 Try.f6 rfl rfl rfl rfl rfl rfl rfl ⟨rfl, rfl, rfl, rfl, rfl⟩ rfl rfl rfl rfl rfl (by kernel_rfl) Try.func6 (by kernel_rfl)
    (of_decide_eq_true (by kernel_rfl)) (by unfold Func.isWrapper; first | (rw [if_pos (by decide +kernel)]; kernel_rfl) | (rw [if_neg (by decide +kernel)]; exact ⟨rfl, rfl⟩))
    (fun os started H enc _ => lifted os started H enc)

/-- ████ THE STATEMENT ████ -/
theorem proved : Rows.NumBackSaid :=
  over
#print axioms proved
end Go.Proofs.Ytjdcoiekbnefkaa.numBack
