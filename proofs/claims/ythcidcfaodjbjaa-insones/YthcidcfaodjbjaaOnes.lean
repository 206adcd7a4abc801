/- InsOnes: each instruction by itself is told as the document tells it, and Falls, too; it has no conditions. -/
import Derived.Test.YthcidcfaodjbjaaRows
import Derived.Test.YthcidcfaodjbjaaAlive
import Derived.WalkKit
import Derived.ProofKit
import Derived.OpenShut
import Derived.ShutString
import Derived.ChangeOld
import Derived.Below
import Derived.Carry
namespace Go.Proofs.Ythcidcfaodjbjaa.insOnes
open Go.ChangeShapes Go.WideShapes Go.ChangeAt Go.RowKit
set_option linter.unusedVariables false

theorem own : ownKnob Try.prog.godebug = none := by kernel_rfl
theorem laidOut : laidOutB Try.prog = true := by kernel_rfl

set_option maxRecDepth 100000 in
set_option maxHeartbeats 4000000 in
theorem walk (x : In) (cells long : Int) (w : World) : Calls Try.prog 3 #[iv x, .int .i64 cells, .int .i64 long] w fun e w' => e = .returned (.bool true) ∧ Below w.heap.size w w' := by
  obtain ⟨r, hr⟩ : ∃ r, oneC x cells long = r := ⟨_, rfl⟩
  obtain ⟨f, hf⟩ : ∃ f, fallsB x = f := ⟨_, rfl⟩
  have C1 : Hid (∀ w, Calls Try.prog 9 #[iv x, .int .i64 cells, .int .i64 long] w fun e w' => e = .returned (.int .i64 r) ∧ Below w.heap.size w w') := fun w => by rw [← hr]; exact one_any x cells long w
  have C2 : Hid (∀ w, Calls Try.prog 10 #[iv x, .int .i64 cells, .int .i64 long] w fun e w' => e = .returned (.int .i64 r) ∧ Below w.heap.size w w') := fun w => by rw [← hr]; exact refOne_any x cells long w
  have C3 : Hid (∀ w, Calls Try.prog 11 #[iv x] w fun e w' => e = .returned (.bool f) ∧ Below w.heap.size w w') := fun w => by rw [← hf]; exact falls_any x w
  have C4 : Hid (∀ w, Calls Try.prog 12 #[iv x] w fun e w' => e = .returned (.bool f) ∧ Below w.heap.size w w') := fun w => by rw [← hf]; exact refFalls_any x w
  clear hr hf
  have C5 : Hid (∀ w, Calls Try.prog 13 #[] w fun e w' => e = .returned (.bool true) ∧ Below w.heap.size w w') := fun w => alive_any w
  unfold iv
  have S0 : Hid (Six (w.alloc (.cells #[.int .i64 x.kind, .int .i64 x.op, .int .i64 x.a, .int .i64 x.b, .int .i64 x.c, .int .i64 x.k] 25)).drew w.heap.size x) := (Six.new w x).drew
  have B0 : Hid (Below w.heap.size w (w.alloc (.cells #[.int .i64 x.kind, .int .i64 x.op, .int .i64 x.a, .int .i64 x.b, .int .i64 x.c, .int .i64 x.k] 25)).drew) := ((Below.refl _ _).alloc (Nat.le_refl _) _).drew
  obtain ⟨y0, y1, y2, y3, y4, y5, _⟩ := S0.out
  go_enter Try.func3, Try.ntmps3
  go_wp2_with fail
  go_region_held3 (fun w' => w'.cell? ⟨w.heap.size, 0, none⟩ = some (.int .i64 x.kind) ∧ w'.cell? ⟨w.heap.size, 1, none⟩ = some (.int .i64 x.op) ∧ w'.cell? ⟨w.heap.size, 2, none⟩ = some (.int .i64 x.a) ∧ w'.cell? ⟨w.heap.size, 3, none⟩ = some (.int .i64 x.b) ∧ w'.cell? ⟨w.heap.size, 4, none⟩ = some (.int .i64 x.c) ∧ w'.cell? ⟨w.heap.size, 5, none⟩ = some (.int .i64 x.k)) (go_keep) (first | (go_at_call 9; refine (C1.out _).mono ?_; rintro e w1 ⟨rfl, b1⟩; have S1 : Hid (Six w1 w.heap.size x) := S0.out.block (b1.block _ S0.out.lt) b1.size; have B1 : Hid (Below w.heap.size w w1) := B0.out.trans (b1.mono B0.out.size); obtain ⟨y10, y11, y12, y13, y14, y15, _⟩ := S1.out; clear b1) | (go_at_call 10; refine (C2.out _).mono ?_; rintro e w2 ⟨rfl, b2⟩; have S2 : Hid (Six w2 w.heap.size x) := S1.out.block (b2.block _ S1.out.lt) b2.size; have B2 : Hid (Below w.heap.size w w2) := B1.out.trans (b2.mono B1.out.size); obtain ⟨y20, y21, y22, y23, y24, y25, _⟩ := S2.out; clear b2) | (go_at_call 11; refine (C3.out _).mono ?_; rintro e w3 ⟨rfl, b3⟩; have S3 : Hid (Six w3 w.heap.size x) := S2.out.block (b3.block _ S2.out.lt) b3.size; have B3 : Hid (Below w.heap.size w w3) := B2.out.trans (b3.mono B2.out.size); obtain ⟨y30, y31, y32, y33, y34, y35, _⟩ := S3.out; clear b3) | (go_at_call 12; refine (C4.out _).mono ?_; rintro e w4 ⟨rfl, b4⟩; have S4 : Hid (Six w4 w.heap.size x) := S3.out.block (b4.block _ S3.out.lt) b4.size; have B4 : Hid (Below w.heap.size w w4) := B3.out.trans (b4.mono B3.out.size); obtain ⟨y40, y41, y42, y43, y44, y45, _⟩ := S4.out; clear b4) | (go_at_call 13; refine (C5.out _).mono ?_; rintro e w5 ⟨rfl, b5⟩; have S5 : Hid (Six w5 w.heap.size x) := S4.out.block (b5.block _ S4.out.lt) b5.size; have B5 : Hid (Below w.heap.size w w5) := B4.out.trans (b5.mono B4.out.size); obtain ⟨y50, y51, y52, y53, y54, y55, _⟩ := S5.out; clear b5))
  go_wp2
  go_ret
  exact ⟨rfl, B5.out⟩

set_option maxRecDepth 100000 in
theorem lifted (os : Os) (started : os.Started) (H : Type) (enc : TypeId × Value → H) :
    ReturnsInHanded {} Try.checked os 3 .any (Rows.insOnesSpec.pre6 enc Try.prog Try.f3 Rows.insOnesRow.domain false) (Rows.insOnesSpec.post enc Try.prog Try.f3 false true false false) := by
  refine returnsInHanded_of_change (C := Try.checked) own started (by kernel_rfl) Try.func3
    (ChangeSpec.witness6 (enc := enc) (C := Try.checked) false ⟨#[], #[.agg #[.int .i64 0, .int .i64 0, .int .i64 0, .int .i64 0, .int .i64 0, .int .i64 0], .int .i64 0, .int .i64 0], []⟩ 8 (by kernel_rfl) (by kernel_rfl) (by kernel_rfl) (by kernel_rfl)) ?_
  intro W base args ds gs before hval0 hW hcnd _
  have hval : ∀ (j : Nat) t v, Try.f3.params[j]? = some t → args[j]? = some v → Value.okWide Try.prog W .any base t v := hval0
  have hW' := hW
  obtain ⟨p, q, hA0, hV, rfl, hfz, hnd⟩ := hW
  have hA : DataW.TrodAll enc Try.prog W 0 (fun _ => true) true Try.f3.params.toList args.toList ds p := hA0
  rw [Try.params3] at hA hval
  obtain ⟨v0, vs0, d0, ds0, p0, q0, hargs, rfl, rfl, h0, r0⟩ := trodAll_cons hA
  obtain ⟨v1, vs1, d1, ds1, p1, q1, rfl, rfl, rfl, h1, r1⟩ := trodAll_cons r0
  obtain ⟨v2, vs2, d2, ds2, p2, q2, rfl, rfl, rfl, h2, r2⟩ := trodAll_cons r1
  obtain ⟨rfl, rfl, rfl⟩ := trodAll_nil r2
  obtain rfl : args = #[v0, v1, v2] := by cases args; simp_all
  obtain ⟨rfl, rfl⟩ := trodVars_none hV
  obtain ⟨cs, rfl, hcs⟩ := okWide_struct Try.underlying25 (hval 0 25 v0 rfl rfl)
  obtain ⟨a1, rfl, rfl, rfl, w1⟩ := open_int Try.underlying3 (hval 1 3 v1 rfl rfl) h1
  obtain ⟨a2, rfl, rfl, rfl, w2⟩ := open_int Try.underlying3 (hval 2 3 v2 rfl rfl) h2
  have k0 := h0
  have lt0 : ∀ x ∈ p0, x.block < W.heap.size := by obtain ⟨m, hm⟩ := k0; exact DataW.trod_lt m _ _ _ hm
  obtain ⟨x, hx⟩ : ∃ x : In, .agg cs = iv x := by
    obtain ⟨fuel, hf⟩ := h0
    obtain ⟨y, hy, _⟩ := open_in hf
    refine ⟨y, ?_⟩
    unfold iv
    congr 1
    apply Array.toList_inj.1
    exact hy
  clear hA0 hval0
  have hw := walk x a1 a2 W
  rw [← hx] at hw
  refine hw.mono fun e W' ⟨he, bel⟩ => ?_
  subst he
  exact ⟨_, rfl, _, _, _, [], _, [], hW', trodAll_mk1 (shut_bool Try.underlying4 _), (trodAll_cons_mk (Below.trod laidOut (by kernel_rfl) (of_decide_eq_true (by kernel_rfl)) k0 bel lt0) (trodAll_cons_mk (shut_int Try.underlying3 w1) (trodAll_cons_mk (shut_int Try.underlying3 w2) trodAll_mk0))), rfl, bel.frame _, fun h => by cases h⟩

theorem over : Rows.insOnesRow.holds Try.pinned (OpenSpec.ofChange Rows.insOnesSpec) :=
  OpenClaim.holds_of_wide 3 Try.f3 rfl rfl rfl rfl rfl rfl rfl ⟨rfl, rfl, rfl, rfl, rfl⟩ rfl rfl rfl rfl rfl (by kernel_rfl) Try.func3 (by kernel_rfl)
    (of_decide_eq_true (by kernel_rfl)) (by unfold Func.isWrapper; first | (rw [if_pos (by decide +kernel)]; kernel_rfl) | (rw [if_neg (by decide +kernel)]; exact ⟨rfl, rfl⟩))
    (fun os started H enc _ => lifted os started H enc)

/-- ████ THE STATEMENT ████ -/
theorem proved : Rows.InsOnesSaid := over
#print axioms proved
end Go.Proofs.Ythcidcfaodjbjaa.insOnes
