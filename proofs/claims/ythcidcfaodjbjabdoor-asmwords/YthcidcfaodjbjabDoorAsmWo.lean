/- AsmWords: each instruction has the document's word and parts, and just the document's labels are labels; it has no conditions. -/
import Derived.Test.YthcidcfaodjbjabDoorFrame
import Derived.Test.YthcidcfaodjbjabDoorAlive
import Derived.Test.YthcidcfaodjbjabDoorRefW
import Derived.Test.YthcidcfaodjbjabDoorRefLab
namespace Go.Proofs.YthcidcfaodjbjabDoor.asmWords
open Go.ChangeShapes Go.WideShapes Go.ChangeAt Go.RowKit
open Go.ChangeMaps (open_string shut_string)
set_option linter.unusedVariables false

set_option maxRecDepth 100000 in
set_option maxHeartbeats 2000000 in
theorem walk (x : In) (s : ByteArray) (hs : s.size ≤ maxLen) (m : Int) (w : World) (hm : w.cell? ⟨0, 0, none⟩ = some (.int .i64 m)) :
    Calls Tryd.prog 3 #[iv x, .string s] w fun e w' => e = .returned (.bool true) ∧ Below w.heap.size w w' := by
  have hm0 : 0 < w.heap.size := World.block_lt_of_cell? w ⟨0, 0, none⟩ hm
  obtain ⟨S1, hS1⟩ : ∃ S : ByteArray, ⟨(wordOf x).1.toArray⟩ = S := ⟨_, rfl⟩
  obtain ⟨S2, hS2⟩ : ∃ S : ByteArray, ⟨(wordOf x).2.toArray⟩ = S := ⟨_, rfl⟩
  have C6 : Hid (∀ w, Calls Tryd.prog 6 #[iv x] w fun e w' => e = .returned (.tuple #[.string S1, .string S2]) ∧ Below w.heap.size w w') := fun w => by rw [← hS1, ← hS2]; exact word_any x w
  have C7 : Hid (∀ w, Calls Tryd.prog 7 #[iv x] w fun e w' => e = .returned (.tuple #[.string S1, .string S2]) ∧ Below w.heap.size w w') := fun w => by rw [← hS1, ← hS2]; exact refWord_any x w
  obtain ⟨lb, hlb⟩ : ∃ b, labB s.data.toList = b := ⟨_, rfl⟩
  have C8 : Hid (∀ w, Calls Tryd.prog 8 #[.string s] w fun e w' => e = .returned (.bool lb) ∧ w' = w) := fun w => by rw [← hlb]; exact label_any s hs w
  have C9 : Hid (∀ w, Calls Tryd.prog 9 #[.string s] w fun e w' => e = .returned (.bool lb) ∧ w' = w) := fun w => by rw [← hlb]; exact refLabel_any s hs w
  have C10 : Hid (∀ W, W.cell? ⟨0, 0, none⟩ = some (.int .i64 m) → Calls Tryd.prog 10 #[] W fun e w' => e = .returned (.bool true) ∧ Below W.heap.size W w') := fun W hW => alive_any m W hW
  have HI : Hid (iv x = .agg #[.int .i64 x.kind, .int .i64 x.op, .int .i64 x.a, .int .i64 x.b, .int .i64 x.c, .int .i64 x.k]) := rfl
  rw [HI.out]
  unfold maxLen at hs
  clear hS1 hS2 hlb
  go_enter Tryd.func3, Tryd.ntmps3
  have S0 : Hid (Six _ w.heap.size x) := Six.new w x
  have B0 : Hid (Below w.heap.size w _) := (Below.refl _ _).alloc (Nat.le_refl _) (.cells #[.int .i64 x.kind, .int .i64 x.op, .int .i64 x.a, .int .i64 x.b, .int .i64 x.c, .int .i64 x.k] 25)
  go_wp2_with fail
  refine (C6.out _).mono ?_
  rintro e w1 ⟨rfl, b1⟩
  have S1' : Hid (Six w1 w.heap.size x) := S0.out.block (b1.block _ S0.out.lt) b1.size
  have B1 : Hid (Below w.heap.size w w1) := B0.out.trans (b1.mono B0.out.size)
  clear b1 S0 B0
  obtain ⟨x0, x1, x2, x3, x4, x5, _, _, _, _, _, _, _⟩ := S1'.out
  go_wp2_with fail
  refine (C7.out _).mono ?_
  rintro e w2 ⟨rfl, b2⟩
  have B2 : Hid (Below w.heap.size w w2) := B1.out.trans (b2.mono B1.out.size)
  have hm2 : w2.cell? ⟨0, 0, none⟩ = some (.int .i64 m) := (B2.out.cell (p := ⟨0, 0, none⟩) hm0).trans hm
  clear b2 x0 x1 x2 x3 x4 x5 S1' B1
  by_cases h8 : 8192 < s.size
  · go_wp2_with fail
    refine (C10.out _ hm2).mono ?_
    rintro e w3 ⟨rfl, b3⟩
    have B3 : Hid (Below w.heap.size w w3) := B2.out.trans (b3.mono B2.out.size)
    clear b3
    go_wp2
    go_ret
    exact ⟨rfl, B3.out⟩
  · go_wp2_with (first | (go_at_call 8; refine (C8.out _).mono ?_; rintro e w' ⟨rfl, hw⟩; rw [hw]; clear hw) | (go_at_call 9; refine (C9.out _).mono ?_; rintro e w' ⟨rfl, hw⟩; rw [hw]; clear hw))
    refine (C10.out _ hm2).mono ?_
    rintro e w3 ⟨rfl, b3⟩
    have B3 : Hid (Below w.heap.size w w3) := B2.out.trans (b3.mono B2.out.size)
    clear b3
    go_wp2
    go_ret
    exact ⟨rfl, B3.out⟩

set_option maxRecDepth 100000 in
theorem lifted (os : Os) (started : os.Started) (H : Type) (enc : TypeId × Value → H) :
    ReturnsInHanded {} Tryd.checked os 3 .any (fun w args => (Rows.asmWordsSpec.pre enc Tryd.prog Tryd.f3 [] false w args ∧ laidMetH Tryd.prog tabs w) ∧ sizedMet enc Tryd.prog Tryd.f3 (OpenSpec.ofChange Rows.asmWordsSpec) false w args)
      (Rows.asmWordsSpec.post enc Tryd.prog Tryd.f3 false true false false) := by
  refine handed started (by kernel_rfl) Tryd.func3
    (ChangeSpec.witness_shaped (enc := enc) (C := Tryd.checked) (os := os) (X := fun w _ => laidMetH Tryd.prog tabs w) false (World.laidAll Tryd.prog os tabs) #[.agg #[.int .i64 0, .int .i64 0, .int .i64 0, .int .i64 0, .int .i64 0, .int .i64 0], .string ByteArray.empty] 8 (World.laidAll_os _ _ _)
      (World.shaped_of_ZipB (by kernel_rfl) (by kernel_rfl)) (by kernel_rfl) (by kernel_rfl) (by kernel_rfl)
      (by rw [MakeChecks.laidMetH_plain _ _ _ (by kernel_rfl)]; exact laidMet_laidAll _ (by kernel_rfl) (by kernel_rfl))) ?_
  intro W base args ds gs before hval0 hW hsh
  have hval : ∀ (j : Nat) t v, Tryd.f3.params[j]? = some t → args[j]? = some v → Value.okWide Tryd.prog W .any base t v := hval0
  have hW' := hW
  obtain ⟨p, q, hA0, hV, rfl, hfz, hnd⟩ := hW
  have hA : DataW.TrodAll enc Tryd.prog W 0 (fun _ => true) true Tryd.f3.params.toList args.toList ds p := hA0
  rw [Tryd.params3] at hA hval
  obtain ⟨v0, vs0, d0, ds0, p0, q0, hargs, rfl, rfl, h0, r0⟩ := trodAll_cons hA
  obtain ⟨v1, vs1, d1, ds1, p1, q1, rfl, rfl, rfl, h1, r1⟩ := trodAll_cons r0
  obtain ⟨rfl, rfl, rfl⟩ := trodAll_nil r1
  obtain rfl : args = #[v0, v1] := by cases args; simp_all
  obtain ⟨rfl, rfl⟩ := trodVars_none hV
  obtain ⟨cs, rfl, hcs⟩ := okWide_struct Tryd.underlying25 (hval 0 25 v0 rfl rfl)
  obtain ⟨a1, rfl, rfl, rfl, w1⟩ := open_string Tryd.underlying9 (hval 1 9 v1 rfl rfl) h1
  have k0 := h0
  have lt0 : ∀ x ∈ p0, x.block < W.heap.size := by obtain ⟨m, hm⟩ := k0; exact DataW.trod_lt m _ _ _ hm
  obtain ⟨x, hx⟩ : ∃ x : In, .agg cs = iv x := by
    obtain ⟨fuel, hf⟩ := h0
    obtain ⟨y, hy, _⟩ := open_in hf
    refine ⟨y, ?_⟩
    unfold iv
    congr 1
    apply Array.toList_inj.1
    exact hy
  obtain ⟨m, hm⟩ := maxLen_at hsh
  clear hA0 hval0
  have hw := walk x a1 w1 m W hm
  rw [← hx] at hw
  refine hw.mono fun e W' ⟨he, bel⟩ => ?_
  subst he
  exact ⟨_, rfl, _, _, _, [], _, [], hW', trodAll_mk1 (shut_bool Tryd.underlying4 _), (trodAll_cons_mk (Below.trod laidOut (by kernel_rfl) (of_decide_eq_true (by kernel_rfl)) k0 bel lt0) (trodAll_cons_mk (shut_string Tryd.underlying9 w1) trodAll_mk0)), rfl, bel.frame _, fun h => by cases h⟩

theorem over : Rows.AsmWordsSaid :=
  OpenClaim.holds_of_wide 3 Tryd.f3 rfl rfl rfl rfl rfl rfl rfl ⟨rfl, rfl, rfl, rfl, rfl⟩ rfl rfl rfl rfl rfl (by kernel_rfl) Tryd.func3 (by kernel_rfl)
    (of_decide_eq_true (by kernel_rfl)) (by unfold Func.isWrapper; first | (rw [if_pos (by decide +kernel)]; kernel_rfl) | (rw [if_neg (by decide +kernel)]; exact ⟨rfl, rfl⟩))
    (fun os started H enc _ => lifted os started H enc)

/-- the statement -/
theorem proved : Rows.AsmWordsCardSaid :=
  Claim7.holds_tied_plain_at .later [] [.data, .pinned] true (true, "66fa2eb9c0255ccba9120bbd1c93d676f53f700f17428f942c9515cf22a5024f") false over (fun _ h => by cases h) (by kernel_rfl) (fun _ h => by cases h) asmWords_row_tie rfl ⟨rfl, rfl⟩ (by kernel_rfl) rfl
    (fun f fn hf hfn => by
      obtain rfl : f = 3 := Option.some.inj ((show Tryd.prog.funcNamed Tryd.f3.name = some 3 by kernel_rfl).symm.trans hf) |>.symm
      obtain rfl : fn = Tryd.f3 := (Option.some.inj (Tryd.func3.symm.trans hfn)).symm
      exact ⟨by kernel_rfl, fun j t ht => by
        rw [Tryd.params3] at ht
        have hm : t ∈ [25, 9] := by simpa using Array.mem_of_getElem? ht
        have hall : ([25, 9].all fun u => !Tryd.prog.wantsStandIn u) = true := by kernel_rfl
        exact (show Tryd.prog.wantsStandIn t = false by simpa using List.all_eq_true.1 hall t hm)⟩)
    (by kernel_rfl)
#print axioms proved
end Go.Proofs.YthcidcfaodjbjabDoor.asmWords
