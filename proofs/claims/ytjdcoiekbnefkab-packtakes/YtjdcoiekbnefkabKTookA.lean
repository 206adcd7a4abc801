/- One call of both readers, whatever is called. -/
import Derived.Test.YtjdcoiekbnefkabKTook
namespace Go.Proofs.Ytjdcoiekbnefkab
open Go.RowKit
set_option linter.unusedVariables false

/-- both readers side by side: the program's at block pr, the document's as the value v -/
def JS (W : WG) (w : World) (pr : Nat) (x0 x1 : Value) (L : List UInt8) (f : Int) : Prop :=
  RS w pr L f ∧ L.length ≤ 4096 ∧ ((f = 0 ∧ ∃ a c, x0 = .slice a L.length c ∧ x1 = .int .i64 0 ∧ RG W (.slice a L.length c) L) ∨ ((f == 0) = false ∧ L = [] ∧ ∃ a n c, x0 = .slice a n c ∧ x1 = .int .i64 f))
def TKP (W : WG) (w : World) (pr : Nat) (e : Ending) (w' : World) : Prop :=
  ∃ x0 x1 L f, e = .returned (.tuple #[.agg #[x0, x1], .bool true]) ∧ JS W w' pr x0 x1 L f ∧ w.grownBy w' (some pr)
theorem KPost.tkp {W : WG} {w : World} {pr : Nat} {o : Out} {e : Ending} {w' : World} (h : KPost W w pr o e w') (hl : ∀ P R, o = .ok P R → R.length ≤ 4096) : TKP W w pr e w' := by
  cases o with
  | ok P R =>
    obtain ⟨a, c, h1, h2, h3, h4⟩ := h
    exact ⟨_, _, R, 0, h1, ⟨h3, hl P R rfl, Or.inl ⟨rfl, a, c, rfl, rfl, h2⟩⟩, h4⟩
  | err k =>
    obtain ⟨a, n, c, h1, h2, h3, h4⟩ := h
    exact ⟨_, _, [], k, h1, ⟨h3, by simp, Or.inr ⟨h2, rfl, a, n, c, rfl, rfl⟩⟩, h4⟩
theorem tkN_le : ∀ (n : Nat) (xs : List Int) (L : List UInt8) (l : List Int) (R : List UInt8), tkN n xs L = .ok l R → l.length = xs.length + n ∧ R.length ≤ L.length := by
  intro n
  induction n with
  | zero => intro xs L l R h; unfold tkN at h; injection h with h1 h2; subst h1 h2; exact ⟨by omega, Nat.le_refl _⟩
  | succ n ih =>
    intro xs L l R h
    unfold tkN at h
    rcases htk : tk 0 0 L with ⟨m, M⟩ | k
    · rw [htk] at h
      have := ih _ _ _ _ h
      have h2 := (tk_le L 0 0 m M (by omega) (by omega) htk).2
      simp at this
      exact ⟨by omega, by omega⟩
    · rw [htk] at h; cases h

theorem took_any (W : WG) (w : World) (pr : Nat) (x0 x1 : Value) (L : List UInt8) (f call : Int) (hc : -9223372036854775808 ≤ call ∧ call ≤ 9223372036854775807) (hW : TG W w) (h : JS W w pr x0 x1 L f) :
    Calls Try.prog 22 #[.pointer (some ⟨pr, 0, none⟩), .agg #[x0, x1], .int .i64 call] w (TKP W w pr) := by
  obtain ⟨hS, hl, h⟩ := h
  have hWV : ∀ V, Below w.heap.size w V → TG W V := fun V hb => hW.next hb
  obtain ⟨c5, hc5⟩ : ∃ c5, IntKind.i64.wrap (call - 5) = c5 := ⟨_, rfl⟩
  have hcb : -9223372036854775808 ≤ c5 ∧ c5 ≤ 9223372036854775807 := by rw [← hc5, IntKind.wrap_i64]; omega
  rcases h with ⟨rfl, a, c, rfl, rfl, hR⟩ | ⟨hf, rfl, a, n, c, rfl, rfl⟩
  · by_cases k0 : call = 0
    · subst k0
      have HR : ∀ V, Below w.heap.size w V → Calls Try.prog 52 #[.agg #[.slice a L.length c, .int .i64 0]] V (DPost W V (.int .u64 0) (outU L)) := fun V hb => tuint_ok W a c L V (hWV V hb) hR
      have HP : ∀ V, RS V pr L 0 → Calls Try.prog 53 #[.pointer (some ⟨pr, 0, none⟩)] V (WPost V pr (.int .u64 0) (outU L)) := fun V hv => ruint_ok pr _ L V hv (fun w' h' => takeU pr 0 L w' h')
      unfold outU at HR HP
      rcases htk : tk 0 0 L with ⟨m, R⟩ | k
      · rw [htk] at HR HP
        exact (took_uint_ok W pr a L.length c 0 m R L w hS HR HP).mono fun e w' hp => hp.tkp (fun P R' e' => by injection e' with _ e'; subst e'; have := (tk_le L 0 0 m R (by omega) (by omega) htk).2; omega)
      · rw [htk] at HR HP
        exact (took_uint_err W pr a L.length c 0 k L w hS HR HP).mono fun e w' hp => hp.tkp (fun P R' e' => by cases e')
    by_cases k1 : call = 1
    · subst k1
      have HR : ∀ V, Below w.heap.size w V → Calls Try.prog 54 #[.agg #[.slice a L.length c, .int .i64 0]] V (DPost W V (.int .i64 0) (outI L)) := fun V hb => tint_ok W a c L V (hWV V hb) hR
      have HP : ∀ V, RS V pr L 0 → Calls Try.prog 55 #[.pointer (some ⟨pr, 0, none⟩)] V (WPost V pr (.int .i64 0) (outI L)) := fun V hv => rint_ok pr _ L V hv (fun w' h' => takeI pr 0 L w' h')
      unfold outI at HR HP
      rcases htk : tk 0 0 L with ⟨m, R⟩ | k
      · rw [htk] at HR HP
        exact (took_int_ok W pr a L.length c 0 (zag m) R L w hS HR HP).mono fun e w' hp => hp.tkp (fun P R' e' => by injection e' with _ e'; subst e'; have := (tk_le L 0 0 m R (by omega) (by omega) htk).2; omega)
      · rw [htk] at HR HP
        exact (took_int_err W pr a L.length c 0 k L w hS HR HP).mono fun e w' hp => hp.tkp (fun P R' e' => by cases e')
    by_cases k2 : call = 2
    · subst k2
      have HR : ∀ V, Below w.heap.size w V → Calls Try.prog 56 #[.agg #[.slice a L.length c, .int .i64 0]] V (DPost W V (.bool false) (outF L)) := fun V hb => tflag_ok W a c L V (hWV V hb) hR
      have HP : ∀ V, RS V pr L 0 → Calls Try.prog 57 #[.pointer (some ⟨pr, 0, none⟩)] V (WPost V pr (.bool false) (outF L)) := fun V hv => rflag_ok pr _ L V hv (fun w' h' => takeF pr 0 L w' h')
      cases L with
      | nil => exact (took_flag_err W pr a 0 c 0 20 [] w hS HR HP).mono fun e w' hp => hp.tkp (fun P R' e' => by cases e')
      | cons d R =>
        unfold outF at HR HP
        dsimp only at HR HP
        by_cases hd : 1 < d.toNat
        · rw [if_pos hd] at HR HP
          exact (took_flag_err W pr a (d :: R).length c 0 21 (d :: R) w hS HR HP).mono fun e w' hp => hp.tkp (fun P R' e' => by cases e')
        · rw [if_neg hd] at HR HP
          exact (took_flag_ok W pr a (d :: R).length c 0 (decide (d.toNat = 1)) R (d :: R) w hS HR HP).mono fun e w' hp => hp.tkp (fun P R' e' => by injection e' with _ e'; subst e'; simp at hl; omega)
    by_cases k3 : call = 3
    · subst k3
      have HR : ∀ V, Below w.heap.size w V → Calls Try.prog 58 #[.agg #[.slice a L.length c, .int .i64 0]] V (DPost W V (.string ⟨#[]⟩) (outT L)) := fun V hb => ttext_ok W a c L V (hWV V hb) hR (by omega)
      have HP : ∀ V, RS V pr L 0 → Calls Try.prog 59 #[.pointer (some ⟨pr, 0, none⟩)] V (WPost V pr (.string ⟨#[]⟩) (outT L)) := fun V hv => rtext_ok pr _ L V hv (fun w' h' => takeT pr 0 L w' (by omega) h')
      unfold outT at HR HP
      rcases htk : tkC 1 L with ⟨m, R⟩ | k
      · rw [htk] at HR HP
        exact (took_text_ok W pr a L.length c 0 ⟨(R.take m).toArray⟩ (R.drop m) L w hS HR HP).mono fun e w' hp => hp.tkp (fun P R' e' => by injection e' with _ e'; subst e'; have := (tkC_le htk).2; simp; omega)
      · rw [htk] at HR HP
        exact (took_text_err W pr a L.length c 0 k L w hS HR HP).mono fun e w' hp => hp.tkp (fun P R' e' => by cases e')
    by_cases k4 : call = 4
    · subst k4
      have HR : ∀ V, Below w.heap.size w V → Calls Try.prog 60 #[.agg #[.slice a L.length c, .int .i64 0]] V (DPost W V (.slice none 0 0) (outLB V.heap.size L)) := fun V hb => tints_ok W a c L V (hWV V hb) hR (by omega)
      have HP : ∀ V, RS V pr L 0 → Calls Try.prog 62 #[.pointer (some ⟨pr, 0, none⟩)] V (WPost V pr (.slice none 0 0) (outL L)) := fun V hv => rints_ok pr _ L V hv (fun w' h' => takeL pr 0 L w' (by omega) h')
      unfold outL at HP
      unfold outLB at HR
      rcases htk : tkC 1 L with ⟨m, R⟩ | k
      · rw [htk] at HR HP
        have hle := tkC_le htk
        rcases htn : tkN m [] R with ⟨l, R'⟩ | k
        · simp only [htn] at HR HP
          have h9 := tkN_le m [] R l R' htn
          simp at h9
          exact (took_ints_ok W pr a L.length c 0 l (by omega) R' L w hS HR HP).mono fun e w' hp => hp.tkp (fun P R2 e' => by injection e' with _ e'; subst e'; omega)
        · simp only [htn] at HR HP
          exact (took_ints_err W pr a L.length c 0 k L w hS HR HP).mono fun e w' hp => hp.tkp (fun P R' e' => by cases e')
      · rw [htk] at HR HP
        exact (took_ints_err W pr a L.length c 0 k L w hS HR HP).mono fun e w' hp => hp.tkp (fun P R' e' => by cases e')
    · obtain ⟨lsn, hls, hl9⟩ : ∃ lsn : Nat, ((c5 < 1 ∧ lsn = 1) ∨ (1 ≤ c5 ∧ c5 = (lsn : Int))) ∧ (1 ≤ lsn ∧ lsn ≤ 9223372036854775807) := by
        by_cases h1 : c5 < 1
        · exact ⟨1, Or.inl ⟨h1, rfl⟩, by omega, by omega⟩
        · exact ⟨c5.toNat, Or.inr ⟨by omega, by omega⟩, by omega, by omega⟩
      have HR : ∀ V, Below w.heap.size w V → Calls Try.prog 63 #[.agg #[.slice a L.length c, .int .i64 0], .int .i64 c5] V (DPost W V (.int .i64 0) (outC lsn L)) := fun V hb => tcount_ok W a c L c5 lsn V (hWV V hb) hR hls hl9 hcb (by omega)
      have HP : ∀ V, RS V pr L 0 → Calls Try.prog 64 #[.pointer (some ⟨pr, 0, none⟩), .int .i64 c5] V (WPost V pr (.int .i64 0) (outC lsn L)) := fun V hv => rcount_ok pr c5 lsn L V hls hl9 (by omega) hv
      unfold outC tkC at HR HP
      rcases htk : tk 0 0 L with ⟨m, R⟩ | k
      · have hle := (tk_le L 0 0 m R (by omega) (by omega) htk).2
        simp only [htk] at HR HP
        by_cases hq : R.length / lsn < m
        · simp only [if_pos hq] at HR HP
          exact (took_count_err W pr a L.length c 0 call 20 L w k0 k1 k2 k3 k4 c5 hc5 hS HR HP).mono fun e w' hp => hp.tkp (fun P R' e' => by cases e')
        · simp only [if_neg hq] at HR HP
          exact (took_count_ok W pr a L.length c 0 call (m : Int) R L w k0 k1 k2 k3 k4 c5 hc5 hS HR HP).mono fun e w' hp => hp.tkp (fun P R' e' => by injection e' with _ e'; subst e'; omega)
      · simp only [htk] at HR HP
        exact (took_count_err W pr a L.length c 0 call k L w k0 k1 k2 k3 k4 c5 hc5 hS HR HP).mono fun e w' hp => hp.tkp (fun P R' e' => by cases e')
  · have fin : ∀ {e w'}, KPost W w pr (.err f) e w' → TKP W w pr e w' := fun hp => hp.tkp (fun P R' e' => by cases e')
    by_cases k0 : call = 0
    · subst k0
      exact (took_uint_err W pr a n c f f [] w hS (fun V _ => tuint_fail W a n c f V hf) (fun V hv => ruint_failed pr f V hv hf)).mono fun e w' hp => fin hp
    by_cases k1 : call = 1
    · subst k1
      exact (took_int_err W pr a n c f f [] w hS (fun V _ => tint_fail W a n c f V hf) (fun V hv => rint_failed pr f V hv hf)).mono fun e w' hp => fin hp
    by_cases k2 : call = 2
    · subst k2
      exact (took_flag_err W pr a n c f f [] w hS (fun V _ => tflag_fail W a n c f V hf) (fun V hv => rflag_failed pr f V hv hf)).mono fun e w' hp => fin hp
    by_cases k3 : call = 3
    · subst k3
      exact (took_text_err W pr a n c f f [] w hS (fun V _ => ttext_fail W a n c f V hf) (fun V hv => rtext_failed pr f V hv hf)).mono fun e w' hp => fin hp
    by_cases k4 : call = 4
    · subst k4
      exact (took_ints_err W pr a n c f f [] w hS (fun V _ => tints_fail W a n c f V hf) (fun V hv => rints_failed pr f V hv hf)).mono fun e w' hp => fin hp
    · exact (took_count_err W pr a n c f call f [] w k0 k1 k2 k3 k4 c5 hc5 hS (fun V _ => tcount_fail W a n c f c5 V hcb hf) (fun V hv => rcount_failed pr c5 f V hv hf)).mono fun e w' hp => fin hp

/-- the end, as both tell it -/
def endI (L : List UInt8) (f : Int) : Int := if f = 0 ∧ 0 < L.length then 21 else f
set_option maxRecDepth 100000 in
set_option maxHeartbeats 400000 in
theorem end_any (pb : Nat) (L : List UInt8) (f : Int) (w : World) (hl : L.length ≤ 1000000000) (h : RS w pb L f) : Calls Try.prog 26 #[.pointer (some ⟨pb, 0, none⟩)] w fun e w' => e = .returned (.int .i64 (endI L f)) ∧ w' = w := by
  obtain ⟨v, h1, h2, h3, h4, h5, h6⟩ := h
  obtain ⟨a, c, rfl⟩ : ∃ a c, v = .slice a L.length c := by
    rcases h6 with ⟨rfl, rfl⟩ | ⟨g, off, cap, rfl, _⟩
    · exact ⟨_, _, rfl⟩
    · exact ⟨_, _, rfl⟩
  obtain ⟨E, hE⟩ : ∃ E, endI L f = E := ⟨_, rfl⟩
  have HE : Hid ((if f = 0 ∧ 0 < L.length then (21 : Int) else f) = E) := hE
  rw [hE]
  obtain ⟨n, hn⟩ : ∃ n, L.length = n := ⟨_, rfl⟩
  rw [hn] at h1 hl HE
  clear h6 hE hn
  by_cases hf : f = 0
  · subst hf
    by_cases h0 : 0 < n
    · have HE2 : Hid (21 = E) := by show _ = _; rw [← HE.out, if_pos ⟨rfl, h0⟩]
      have h0' : (0 : Int) < (n : Int) := by omega
      go_enter Try.func26, Try.ntmps26
      go_wp2
      go_ret
      exact ⟨by rw [← HE2.out] <;> rfl, rfl⟩
    · have HE2 : Hid (0 = E) := by show _ = _; rw [← HE.out, if_neg (fun h => h0 h.2)]
      have h0' : ¬ (0 : Int) < (n : Int) := by omega
      go_enter Try.func26, Try.ntmps26
      go_wp2
      go_ret
      exact ⟨by rw [← HE2.out] <;> rfl, rfl⟩
  · have HE2 : Hid (f = E) := by show _ = _; rw [← HE.out, if_neg (fun h => hf h.1)]
    have hf' : (f == 0) = false := by simp [hf]
    go_enter Try.func26, Try.ntmps26
    go_wp2
    go_ret
    exact ⟨by rw [← HE2.out] <;> rfl, rfl⟩
theorem JS.ends {W : WG} {w : World} {pr : Nat} {x0 x1 : Value} {L : List UInt8} {f : Int} (h : JS W w pr x0 x1 L f) :
    (∃ a n c, x0 = .slice a n c ∧ x1 = .int .i64 f) ∧ (∀ V, Calls Try.prog 24 #[.agg #[x0, x1]] V fun e w' => e = .returned (.int .i64 (L.length : Int)) ∧ Below V.heap.size V w') ∧ (∀ V, Calls Try.prog 27 #[.agg #[x0, x1]] V fun e w' => e = .returned (.int .i64 (endI L f)) ∧ Below V.heap.size V w') := by
  obtain ⟨hS, hl, h⟩ := h
  rcases h with ⟨rfl, a, c, rfl, rfl, hR⟩ | ⟨hf, rfl, a, n, c, rfl, rfl⟩
  · refine ⟨⟨_, _, _, rfl, rfl⟩, fun V => dleft_ok a L.length c V (by omega), fun V => ?_⟩
    have := dend_ok a L.length c V (by omega)
    unfold endI
    by_cases h0 : 0 < L.length
    · rw [if_pos ⟨rfl, h0⟩]
      rw [if_pos h0] at this
      exact this
    · rw [if_neg (fun h => h0 h.2)]
      rw [if_neg h0] at this
      exact this
  · refine ⟨⟨_, _, _, rfl, rfl⟩, fun V => dleft_err a n c f V hf, fun V => ?_⟩
    have := dend_err a n c f V hf
    unfold endI
    rw [if_neg (fun h => absurd h.2 (by simp))]
    exact this
end Go.Proofs.Ytjdcoiekbnefkab
