/- An arena gives a slot out. -/
import Derived.Test.YtdohclnmcdempaaArA
namespace Go.Proofs.Ytdohclnmcdempaa
open Go.RowKit Go.Maps
set_option linter.unusedVariables false

/-- an arena by its free slots alone -/
def AA (w : World) (ab ub : Nat) (ob : Option Nat) (n : Nat) (L : List Nat) : Prop := ∃ bv F B, AR w ab ub bv n F B ∧ freeL n F B = L ∧ bv.ownBlock = ob
def aw (ab ub : Nat) : Nat → Prop := fun k => k = ab ∨ k = ub
section
variable {w w' : World} {ab ub : Nat} {bv : Value} {n F : Nat} {B : List Nat} {ob : Option Nat} {L : List Nat}
theorem AA.keep (h : AA w ab ub ob n L) (k1 : w'.heap[ab]? = w.heap[ab]?) (k2 : w'.heap[ub]? = w.heap[ub]?) (k3 : ∀ g, ob = some g → w'.heap[g]? = w.heap[g]?) : AA w' ab ub ob n L := by
  obtain ⟨bv, F, B, h, e1, e2⟩ := h
  exact ⟨bv, F, B, h.keep k1 k2 (fun g hg => k3 g (e2 ▸ hg)), e1, e2⟩
theorem AA.lt (h : AA w ab ub ob n L) : ab < w.heap.size ∧ ub < w.heap.size ∧ ∀ g, ob = some g → g < w.heap.size := by
  obtain ⟨bv, F, B, h, e1, e2⟩ := h
  exact ⟨h.lt.1, h.lt.2, fun g hg => (h.bk.own (e2.trans hg)).2⟩
theorem AA.apart (h : AA w ab ub ob n L) : ab ≠ ub ∧ ob ≠ some ab ∧ ob ≠ some ub := by
  obtain ⟨bv, F, B, h, e1, e2⟩ := h
  exact ⟨h.ne, e2 ▸ h.ga, e2 ▸ h.gu⟩
theorem AA.ok (h : AA w ab ub ob n L) : OkL n L := by
  obtain ⟨bv, F, B, h, e1, e2⟩ := h
  exact e1 ▸ h.ok.okL
theorem AA.below (h : AA w ab ub ob n L) (c : Below w.heap.size w w') : AA w' ab ub ob n L := h.keep (c.block _ h.lt.1) (c.block _ h.lt.2.1) (fun g hg => c.block _ (h.lt.2.2 g hg))
theorem AA.drewN (h : AA w ab ub ob n L) (k : Nat) : AA (w.drewN k) ab ub ob n L := h.keep rfl rfl (fun _ _ => rfl)
theorem AA.alloc (h : AA w ab ub ob n L) (A : Obj) : AA (w.alloc A) ab ub ob n L := h.below (bl1 w A)
theorem AA.set (h : AA w ab ub ob n L) {g : Nat} (h1 : ab ≠ g) (h2 : ub ≠ g) (h3 : ob ≠ some g) (i : Nat) (z : Value) : AA (w.setCell ⟨g, i, none⟩ z) ab ub ob n L :=
  h.keep (Below.heap_setCell _ _ _ _ h1) (Below.heap_setCell _ _ _ _ h2) (fun k hk => Below.heap_setCell _ _ _ _ (by show k ≠ g; rintro rfl; exact h3 hk))
theorem AA.ch (h : AA w ab ub ob n L) {q : Nat → Prop} (c : Ch q w w') (h1 : ¬ q ab) (h2 : ¬ q ub) (h3 : ∀ g, ob = some g → ¬ q g) : AA w' ab ub ob n L :=
  h.keep (c.block _ h.lt.1 h1) (c.block _ h.lt.2.1 h2) (fun g hg => c.block _ (h.lt.2.2 g hg) (h3 g hg))
theorem AA.live (h : AA w ab ub ob n L) : Calls Try.prog 17 #[.pointer (some ⟨ab, 0, none⟩)] w (QD w (.int .i64 ((n : Int) - (L.length : Int)))) := by
  obtain ⟨bv, F, B, h, rfl, e2⟩ := h
  have := live_any w h
  rw [freeL_len h.ok.hF]
  have h1 := h.ok.hF
  rw [show (n : Int) - ((B.length + (n - F) : Nat) : Int) = (F : Int) - (B.length : Int) by omega]
  exact this
theorem AA.free (h : AA w ab ub ob n L) : Calls Try.prog 16 #[.pointer (some ⟨ab, 0, none⟩)] w (QD w (.int .i64 (L.length : Int))) := by
  obtain ⟨bv, F, B, h, rfl, e2⟩ := h
  exact free_any w h
theorem AA.used (h : AA w ab ub ob n L) (s : Int) : Calls Try.prog 18 #[.pointer (some ⟨ab, 0, none⟩), .int .i64 s] w (QD w (.bool (usedB n L s))) := by
  obtain ⟨bv, F, B, h, rfl, e2⟩ := h
  exact used_any w h s
theorem AR.pop {g m c x : Nat} (h : AR w ab ub (.slice (some ⟨g, 0, none⟩) (m + 1) c) n F (B ++ [x])) (hm : B.length = m) :
    AR ((w.setCell ⟨ab, 1, none⟩ (.slice (some ⟨g, 0, none⟩) m c)).setCell ⟨ub, x, none⟩ (.bool true)) ab ub (.slice (some ⟨g, 0, none⟩) m c) n F B ∧ freeL n F (B ++ [x]) = x :: freeL n F B ∧ x < n := by
  obtain ⟨o, hx, hu, hf⟩ := h.ok.pop
  have hga : g ≠ ab := fun e => h.ga (e ▸ rfl)
  have hgu : g ≠ ub := fun e => h.gu (e ▸ rfl)
  refine ⟨⟨?_, ?_, ?_, h.ne, h.ga, h.gu, o⟩, hf, hx⟩
  · rw [Below.heap_setCell _ _ _ _ h.ne, heap_setCell_same w ab 1 _ 70 _ h.bl]; rfl
  · rw [heap_setCell_same _ ub x _ 4 _ ((Below.heap_setCell _ _ _ _ h.ne.symm).trans h.bU), bls_set, hu]
  · have := h.bk
    rw [cs_app] at this
    have := this.cut
    rw [cs_len, hm] at this
    exact this.keepO (fun k hk => by
      injection hk with hk
      subst hk
      exact (Below.heap_setCell _ _ _ _ hgu).trans (Below.heap_setCell _ _ _ _ hga))
theorem AR.fresh (h : AR w ab ub bv n F []) (hf : F < n) :
    AR ((w.setCell ⟨ab, 2, none⟩ (.int .i64 ((F : Int) + 1))).setCell ⟨ub, F, none⟩ (.bool true)) ab ub bv n (F + 1) [] ∧ freeL n F [] = F :: freeL n (F + 1) [] := by
  obtain ⟨o, hu, hff⟩ := h.ok.fresh hf
  refine ⟨⟨?_, ?_, ?_, h.ne, h.ga, h.gu, o⟩, hff⟩
  · rw [Below.heap_setCell _ _ _ _ h.ne, heap_setCell_same w ab 2 _ 70 _ h.bl]; rfl
  · rw [heap_setCell_same _ ub F _ 4 _ ((Below.heap_setCell _ _ _ _ h.ne.symm).trans h.bU), bls_set, hu]
  · refine h.bk.keepO (fun k hk => ?_)
    have hga : k ≠ ab := fun e => h.ga (e ▸ hk)
    have hgu : k ≠ ub := fun e => h.gu (e ▸ hk)
    exact (Below.heap_setCell _ _ _ _ hgu).trans (Below.heap_setCell _ _ _ _ hga)
def TakeQ (w : World) (ab ub : Nat) (ob : Option Nat) (n : Nat) (L : List Nat) (e : Ending) (w' : World) : Prop :=
  e = .returned (.tuple #[.int .i64 ((L.headD 0 : Nat) : Int), .int .i64 (if L.isEmpty then 200 else 0)]) ∧ AA w' ab ub ob n L.tail ∧ Ch (aw ab ub) w w'
theorem aw2 {w1 : World} (k : Nat) {i j : Nat} {a b : Value} : Ch (aw ab ub) w (((w.drewN k).setCell ⟨ab, i, none⟩ a).setCell ⟨ub, j, none⟩ b) :=
  (((Ch.refl (aw ab ub) w).drewN k).set (.inl (.inl rfl)) _ _).set (.inl (.inr rfl)) _ _
set_option maxRecDepth 100000 in
set_option maxHeartbeats 2000000 in
theorem take_any (w : World) (h : AA w ab ub ob n L) : Calls Try.prog 11 #[.pointer (some ⟨ab, 0, none⟩)] w (TakeQ w ab ub ob n L) := by
  have HC : Hid (Calls Try.prog 16 #[.pointer (some ⟨ab, 0, none⟩)] w (QD w (.int .i64 (L.length : Int)))) := h.free
  obtain ⟨P, hP⟩ : ∃ P, TakeQ w ab ub ob n L = P := ⟨_, rfl⟩
  have HP : Hid (TakeQ w ab ub ob n L = P) := hP
  rw [hP]
  clear hP
  cases L with
  | nil =>
    have HF : Hid (∀ k, P (.returned (.tuple #[.int .i64 0, .int .i64 200])) (w.drewN k)) := fun k => by
      rw [← HP.out]
      exact ⟨rfl, h.drewN k, (Ch.refl _ _).drewN k⟩
    clear h HP
    go_enter Try.func11, Try.ntmps11
    go_wp2_with fail
    refine HC.out.mono ?_
    rintro e w1 ⟨rfl, k, rfl⟩
    simp only [List.length_nil]
    go_wp2
    first | exact HF.out _ | (go_ret2; exact HF.out _)
  | cons s L =>
    obtain ⟨bv, F, B, h, e1, e2⟩ := h
    have H : Hid (AR w ab ub bv n F B) := h
    have hl : (L.length : Int) + 1 ≠ 0 := by omega
    have hlt := h.ok.n2
    rcases List.eq_nil_or_concat B with rfl | ⟨B0, x, rfl⟩
    · have hF : F < n := by
        rcases Nat.lt_or_ge F n with q | q
        · exact q
        · have := freeL_len (B := []) h.ok.hF
          rw [e1] at this
          simp at this
          omega
      have HN : Hid (∀ k, AR (w.drewN k) ab ub bv n F []) := fun k => h.keep rfl rfl (fun _ _ => rfl)
      have hsF : s = F := by
        have := (h.fresh hF).2
        rw [e1] at this
        injection this
      have HF : Hid (∀ k, P (.returned (.tuple #[.int .i64 (F : Int), .int .i64 0])) (((w.drewN k).setCell ⟨ab, 2, none⟩ (.int .i64 ((F : Int) + 1))).setCell ⟨ub, F, none⟩ (.bool true))) := fun k => by
        rw [← HP.out]
        refine ⟨by rw [hsF]; rfl, ⟨bv, F + 1, [], ((HN.out k).fresh hF).1, ?_, e2⟩, aw2 (w1 := w) k⟩
        have := (h.fresh hF).2
        rw [e1] at this
        injection this with _ q
        exact q.symm
      have c0 := fun k => (HN.out k).c0
      have c1 := fun k => (HN.out k).c1
      have c2 := fun k => (HN.out k).c2
      have f2 := fun k => (HN.out k).f 2
      have fU := fun k => (HN.out k).fU F
      have cU := fun k => (HN.out k).cU F hF
      generalize (!decide (F ∈ freeL n F [])) = bU at cU
      obtain ⟨a, c, rfl⟩ := h.sl
      simp only [List.length_nil] at c1
      have hw : wrap64 ((F : Int) + 1) = (F : Int) + 1 := w64in _ ⟨by omega, by omega⟩
      have hz : ((L.length : Int) + 1 == 0) = false := by simpa using hl
      have HNE : Hid (ab ≠ ub) := h.ne
      have n1 : ¬ ab = ub := h.ne
      have n2 : ¬ ub = ab := fun q => h.ne q.symm
      clear h HN e1 e2 H hl hsF
      generalize hLL : L.length = q at *
      clear hLL
      go_enter Try.func11, Try.ntmps11
      go_wp2_with fail
      refine HC.out.mono ?_
      rintro e w1 ⟨rfl, k, rfl⟩
      have c0 := c0 k
      have c1 := c1 k
      have c2 := c2 k
      have f2 := f2 k
      have fU := fU k
      have cU := cU k
      simp only [List.length_cons]
      rw [show ((L.length + 1 : Nat) : Int) = (L.length : Int) + 1 by omega]
      go_wp2
      first | exact HF.out _ | (go_ret2; exact HF.out _)
    · rw [List.concat_eq_append] at *
      obtain ⟨m, hm⟩ : ∃ m, B0.length = m := ⟨_, rfl⟩
      obtain ⟨g, c, rfl, hc⟩ : ∃ g c, bv = .slice (some ⟨g, 0, none⟩) (m + 1) c ∧ m + 1 ≤ c := by
        rcases h.bk.2 with ⟨_, h0⟩ | ⟨g, cap, cur, e, _, _, q, _⟩
        · rw [cs_len] at h0; simp at h0
        · rw [cs_len] at e q
          simp only [List.length_append, List.length_cons, List.length_nil, hm] at e q
          exact ⟨g, cap, e, by omega⟩
      have HN : Hid (∀ k, AR (w.drewN k) ab ub (.slice (some ⟨g, 0, none⟩) (m + 1) c) n F (B0 ++ [x])) := fun k => h.keep rfl rfl (fun _ _ => rfl)
      have hpop := h.pop hm
      have hmn : m < 512 := by
        have := h.bl3
        rw [List.length_append, hm] at this
        simp at this
        omega
      have hsx : s = x := by
        have := hpop.2.1
        rw [e1] at this
        injection this
      have hxn := hpop.2.2
      have HF : Hid (∀ k, P (.returned (.tuple #[.int .i64 (x : Int), .int .i64 0])) (((w.drewN k).setCell ⟨ab, 1, none⟩ (.slice (some ⟨g, 0, none⟩) m c)).setCell ⟨ub, x, none⟩ (.bool true))) := fun k => by
        rw [← HP.out]
        refine ⟨by rw [hsx]; rfl, ⟨_, F, B0, ((HN.out k).pop hm).1, ?_, e2⟩, aw2 (w1 := w) k⟩
        have := hpop.2.1
        rw [e1] at this
        injection this with _ q
        exact q.symm
      have cB : ∀ k, (w.drewN k).cell? ⟨g, m, none⟩ = some (.int .i64 (x : Int)) := fun k => by
        have := World.ownsRow.cells (HN.out k).bk (g := g) rfl m (.int .i64 (x : Int)) (by simp [cs, hm])
        rw [addn, Nat.zero_add] at this
        exact this
      have c0 := fun k => (HN.out k).c0
      have c1 := fun k => (HN.out k).c1
      have c2 := fun k => (HN.out k).c2
      have f1 := fun k => (HN.out k).f 1
      have fU := fun k => (HN.out k).fU x
      have cU := fun k => (HN.out k).cU x hxn
      generalize (!decide (x ∈ freeL n F (B0 ++ [x]))) = bU at cU
      have hw : wrap64 (((m + 1 : Nat) : Int) - 1) = (m : Int) := by rw [w64in _ ⟨by omega, by omega⟩]; omega
      have hc0 : ¬ c = 0 := by omega
      have hz : ((L.length : Int) + 1 == 0) = false := by simpa using hl
      have n1 : ¬ ab = ub := h.ne
      have n2 : ¬ ub = ab := fun q => h.ne q.symm
      clear h HN e1 e2 H hl hsx hpop
      generalize hLL : L.length = q at *
      clear hLL
      go_enter Try.func11, Try.ntmps11
      go_wp2_with fail
      refine HC.out.mono ?_
      rintro e w1 ⟨rfl, k, rfl⟩
      have c0 := c0 k
      have c1 := c1 k
      have c2 := c2 k
      have f1 := f1 k
      have fU := fU k
      have cU := cU k
      have cB := cB k
      simp only [List.length_cons]
      rw [show ((L.length + 1 : Nat) : Int) = (L.length : Int) + 1 by omega]
      go_wp2
      first | exact HF.out _ | (go_ret2; exact HF.out _)
end
end Go.Proofs.Ytdohclnmcdempaa
