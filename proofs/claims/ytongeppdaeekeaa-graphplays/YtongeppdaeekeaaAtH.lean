/- A log is made. -/
import Derived.Test.YtongeppdaeekeaaAtG
namespace Go.Proofs.Ytongeppdaeekeaa
open Go.RowKit Go.Maps
set_option linter.unusedVariables false

def roomOk (n : Int) : Bool := decide (1 ≤ n) && decide (n ≤ 64)
def errL (r u o : Int) (Rd : List (Int × Int)) : Int := if (roomOk r && roomOk u && roomOk o) = false then 161 else if 4 < Rd.length then 171 else if rightL Rd = false then 140 else 0
def newL (r u o : Int) (Rd : List (Int × Int)) : Lg := { R := r.toNat, W := u.toNat, O := o.toNat, Rs := [], Ws := [], Os := [], ops := Rd.map Prod.fst, now := (Rd.map Prod.fst).map zeroI }
def LNewQ (r u o : Int) (Rd : List (Int × Int)) (w : World) (e : Ending) (w' : World) : Prop :=
  Below w.heap.size w w' ∧ ((errL r u o Rd ≠ 0 ∧ e = .returned (.tuple #[.pointer none, .int .i64 (errL r u o Rd)])) ∨
    (errL r u o Rd = 0 ∧ ∃ lb, e = .returned (.tuple #[.pointer (some ⟨lb, 0, none⟩), .int .i64 0]) ∧ w.heap.size ≤ lb ∧
      ∀ (lab : Nat → Nat) c, (∀ k, lab k ≠ 0 → k < w.heap.size) → ∃ lab', (∀ k, k < w.heap.size → lab' k = lab k) ∧ LV w' lab' c lb (newL r u o Rd)))
set_option maxRecDepth 100000 in
set_option maxHeartbeats 2000000 in
theorem mayBe_any (n : Int) (w : World) : Calls Try.prog 42 #[.int .i64 n] w fun e w' => e = .returned (.bool (roomOk n)) ∧ w' = w := by
  have HF : Hid ((fun (e : Ending) (w' : World) => e = .returned (.bool (roomOk n)) ∧ w' = w) (.returned (.bool (roomOk n))) w) := ⟨rfl, rfl⟩
  by_cases h1 : 1 ≤ n
  · have e1 : decide (1 ≤ n) = true := by simp [h1]
    have e : roomOk n = decide (n ≤ 64) := by unfold roomOk; rw [e1]; rfl
    rw [e] at HF ⊢
    generalize (fun (e : Ending) (w' : World) => e = .returned (.bool (decide (n ≤ 64))) ∧ w' = w) = P at *
    go_enter Try.func42, Try.ntmps42
    go_wp2
    first | exact HF.out | (go_ret; exact HF.out)
  · have e1 : decide (1 ≤ n) = false := by simp; omega
    have e : roomOk n = false := by unfold roomOk; rw [e1]; rfl
    rw [e] at HF ⊢
    generalize (fun (e : Ending) (w' : World) => e = .returned (.bool false) ∧ w' = w) = P at *
    go_enter Try.func42, Try.ntmps42
    go_wp2
    first | exact HF.out | (go_ret; exact HF.out)
theorem newL_ok {r u o : Int} {Rd : List (Int × Int)} (h : (roomOk r && roomOk u && roomOk o) = true) : (newL r u o Rd).Ok ∧ 1 ≤ r ∧ r ≤ 64 ∧ 1 ≤ u ∧ u ≤ 64 ∧ 1 ≤ o ∧ o ≤ 64 := by
  unfold roomOk at h
  simp only [Bool.and_eq_true, decide_eq_true_eq] at h
  refine ⟨⟨?_, ?_, ?_, Nat.zero_le _, Nat.zero_le _, Nat.zero_le _⟩, by omega⟩ <;> simp only [newL] <;> omega
/-- a log's struct stands beside its heap -/
theorem LX.first {w w2 : World} {r u o : Int} {Rd : List (Int × Int)} (h : (roomOk r && roomOk u && roomOk o) = true) {hb bo bn : Nat} (hp : HP w2 hb bo bn (Rd.map Prod.fst) ((Rd.map Prod.fst).map zeroI) 0) (l1 : w.heap.size ≤ hb) (l2 : w.heap.size ≤ bo) (l3 : w.heap.size ≤ bn) (b : Below w.heap.size w w2)
    (lab : Nat → Nat) (c : Nat) (hl : ∀ k, lab k ≠ 0 → k < w.heap.size) :
    ∃ lab', (∀ k, k < w.heap.size → lab' k = lab k) ∧ LV (w2.alloc (.cells #[.int .i64 r, .int .i64 u, .int .i64 o, .slice none 0 0, .slice none 0 0, .slice none 0 0, .pointer (some ⟨hb, 0, none⟩)] 104)) lab' c w2.heap.size (newL r u o Rd) := by
  obtain ⟨ok, r1, r2, u1, u2, o1, o2⟩ := newL_ok (Rd := Rd) h
  have hs := b.size
  obtain ⟨z1, z2, z3⟩ := hp.lt
  have n1 := hp.n1
  have n2 := hp.n2
  have n3 := hp.n3
  have er : ((r.toNat : Nat) : Int) = r := by omega
  have eu : ((u.toNat : Nat) : Int) = u := by omega
  have eo : ((o.toNat : Nat) : Int) = o := by omega
  refine ⟨fun k => if k = w2.heap.size then c + 1 else if k = hb then c + 2 else if k = bo then c + 3 else if k = bn then c + 4 else lab k, fun k hk => ?_, hb, bo, bn, .slice none 0 0, .slice none 0 0, .slice none 0 0, 0, ⟨?_, RZ.nil _ _, RZ.nil _ _, RZ.nil _ _, hp.below (bl1 _ _), ?_, ?_, ?_, ?_, fun g hg => by simp [Value.ownBlock] at hg, fun g hg => by simp [Value.ownBlock] at hg, fun g hg => by simp [Value.ownBlock] at hg, fun k hk => ?_, ok, by omega⟩⟩
  · simp only []
    rw [if_neg (by omega), if_neg (by omega), if_neg (by omega), if_neg (by omega)]
  · rw [heap_alloc_new]
    simp only [newL, er, eu, eo]
  · rw [if_pos rfl]
  · rw [if_neg (by omega), if_pos rfl]
  · rw [if_neg (by omega), if_neg (by omega), if_pos rfl]
  · rw [if_neg (by omega), if_neg (by omega), if_neg (by omega), if_pos rfl]
  · rw [World.size_alloc]
    split at hk
    · omega
    · split at hk
      · omega
      · split at hk
        · omega
        · split at hk
          · omega
          · have := hl k hk; omega
set_option maxRecDepth 100000 in
set_option maxHeartbeats 4000000 in
theorem lnew_any (r u o : Int) (Rd : List (Int × Int)) (v : Value) (w : World) (hv : PSl w v Rd) : Calls Try.prog 9 #[.int .i64 r, .int .i64 u, .int .i64 o, v] w (LNewQ r u o Rd w) := by
  have HM : Hid (∀ n w, Calls Try.prog 42 #[.int .i64 n] w fun e w' => e = .returned (.bool (roomOk n)) ∧ w' = w) := mayBe_any
  have HN : Hid (Calls Try.prog 43 #[v] w (NewP Rd w)) := new_any Rd v w hv
  have HE : Hid (∀ W E, Below w.heap.size w W → errL r u o Rd = E → E ≠ 0 → LNewQ r u o Rd w (.returned (.tuple #[.pointer none, .int .i64 E])) W) := fun W E hW he h0 => ⟨hW, .inl ⟨by rw [he]; exact h0, by rw [he]⟩⟩
  have HO : Hid (∀ W hb bo bn, (roomOk r && roomOk u && roomOk o) = true → ¬ 4 < Rd.length → rightL Rd = true → HP W hb bo bn (Rd.map Prod.fst) ((Rd.map Prod.fst).map zeroI) 0 → w.heap.size ≤ hb → w.heap.size ≤ bo → w.heap.size ≤ bn → Below w.heap.size w W →
      LNewQ r u o Rd w (.returned (.tuple #[.pointer (some ⟨W.heap.size, 0, none⟩), .int .i64 0])) (W.alloc (.cells #[.int .i64 r, .int .i64 u, .int .i64 o, .slice none 0 0, .slice none 0 0, .slice none 0 0, .pointer (some ⟨hb, 0, none⟩)] 104))) := fun W hb bo bn h1 h2 h3 hp l1 l2 l3 hW => by
    refine ⟨hW.alloc hW.size _, .inr ⟨?_, W.heap.size, rfl, hW.size, fun lab c hl => LX.first h1 hp l1 l2 l3 hW lab c hl⟩⟩
    unfold errL
    rw [h1, if_neg (by decide), if_neg h2, h3, if_neg (by decide)]
  have HX : Hid (∀ b, (roomOk r && roomOk u && roomOk o) = b → errL r u o Rd = if b = false then 161 else if 4 < Rd.length then 171 else if rightL Rd = false then 140 else 0) := fun b hb => by unfold errL; rw [hb]
  generalize LNewQ r u o Rd w = P at *
  obtain ⟨v0, hv0⟩ : ∃ x, roomOk r = x := ⟨_, rfl⟩
  obtain ⟨v1, hv1⟩ : ∃ x, roomOk u = x := ⟨_, rfl⟩
  obtain ⟨v2, hv2⟩ : ∃ x, roomOk o = x := ⟨_, rfl⟩
  rw [hv0, hv1, hv2] at HX HO
  have m0 := HM.out r
  have m1 := HM.out u
  have m2 := HM.out o
  rw [hv0] at m0
  rw [hv1] at m1
  rw [hv2] at m2
  have M0 : Hid (∀ w, Calls Try.prog 42 #[.int .i64 r] w fun e w' => e = .returned (.bool v0) ∧ w' = w) := m0
  have M1 : Hid (∀ w, Calls Try.prog 42 #[.int .i64 u] w fun e w' => e = .returned (.bool v1) ∧ w' = w) := m1
  have M2 : Hid (∀ w, Calls Try.prog 42 #[.int .i64 o] w fun e w' => e = .returned (.bool v2) ∧ w' = w) := m2
  clear m0 m1 m2 HM hv0 hv1 hv2 hv
  cases v0 with
  | false =>
    have HF : Hid (P (.returned (.tuple #[.pointer none, .int .i64 161])) w) := HE.out w 161 (Below.refl _ _) (by rw [HX.out _ rfl]; rfl) (by decide)
    go_enter Try.func9, Try.ntmps9
    go_wp2_with fail
    refine (M0.out _).mono ?_
    rintro e w1 ⟨rfl, rfl⟩
    go_wp2
    first | exact HF.out | (go_ret2; exact HF.out)
  | true =>
  cases v1 with
  | false =>
    have HF : Hid (P (.returned (.tuple #[.pointer none, .int .i64 161])) w) := HE.out w 161 (Below.refl _ _) (by rw [HX.out _ rfl]; rfl) (by decide)
    go_enter Try.func9, Try.ntmps9
    go_wp2_with fail
    refine (M0.out _).mono ?_
    rintro e w1 ⟨rfl, rfl⟩
    go_wp2_with fail
    refine (M1.out _).mono ?_
    rintro e w1 ⟨rfl, rfl⟩
    go_wp2
    first | exact HF.out | (go_ret2; exact HF.out)
  | true =>
  cases v2 with
  | false =>
    have HF : Hid (P (.returned (.tuple #[.pointer none, .int .i64 161])) w) := HE.out w 161 (Below.refl _ _) (by rw [HX.out _ rfl]; rfl) (by decide)
    go_enter Try.func9, Try.ntmps9
    go_wp2_with fail
    refine (M0.out _).mono ?_
    rintro e w1 ⟨rfl, rfl⟩
    go_wp2_with fail
    refine (M1.out _).mono ?_
    rintro e w1 ⟨rfl, rfl⟩
    go_wp2_with fail
    refine (M2.out _).mono ?_
    rintro e w1 ⟨rfl, rfl⟩
    go_wp2
    first | exact HF.out | (go_ret2; exact HF.out)
  | true =>
    go_enter Try.func9, Try.ntmps9
    go_wp2_with fail
    refine (M0.out _).mono ?_
    rintro e w1 ⟨rfl, rfl⟩
    go_wp2_with fail
    refine (M1.out _).mono ?_
    rintro e w1 ⟨rfl, rfl⟩
    go_wp2_with fail
    refine (M2.out _).mono ?_
    rintro e w1 ⟨rfl, hw1⟩
    rw [hw1]
    clear hw1
    go_wp2_with fail
    refine HN.out.mono ?_
    rintro e w2 (⟨h4, rfl, hb⟩ | ⟨h4, hr, rfl, hb⟩ | ⟨h4, hr, hb, bo, bn, rfl, hp, l1, l2, l3, b2⟩)
    · have HF : Hid (P (.returned (.tuple #[.pointer none, .int .i64 171])) w2) := HE.out w2 171 hb (by rw [HX.out _ rfl, if_neg (by decide), if_pos h4]) (by decide)
      clear hb
      go_wp2
      first | exact HF.out | (go_ret2; exact HF.out)
    · have HF : Hid (P (.returned (.tuple #[.pointer none, .int .i64 140])) w2) := HE.out w2 140 hb (by rw [HX.out _ rfl, if_neg (by decide), if_neg (by omega), hr, if_pos rfl]) (by decide)
      clear hb
      go_wp2
      first | exact HF.out | (go_ret2; exact HF.out)
    · have HF := HO.out w2 hb bo bn rfl (by omega) hr hp l1 l2 l3 b2
      have HF' : Hid (P (.returned (.tuple #[.pointer (some ⟨w2.heap.size, 0, none⟩), .int .i64 0])) (w2.alloc (.cells #[.int .i64 r, .int .i64 u, .int .i64 o, .slice none 0 0, .slice none 0 0, .slice none 0 0, .pointer (some ⟨hb, 0, none⟩)] 104))) := HF
      clear HF hp b2
      go_wp2
      first | exact HF'.out | (go_ret2; exact HF'.out)
end Go.Proofs.Ytongeppdaeekeaa
