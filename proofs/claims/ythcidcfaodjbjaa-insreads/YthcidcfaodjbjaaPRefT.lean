/- What the document takes up: bytes and numbers. -/
import Derived.Test.YthcidcfaodjbjaaPTakes
namespace Go.Proofs.Ythcidcfaodjbjaa
open Go.RowKit
set_option linter.unusedVariables false

/-- a block, in a world -/
structure WG where
  g : Nat
  w : World
/-- a slice of bytes in that block -/
def RG (W : WG) (v : Value) (L : List UInt8) : Prop :=
  (L = [] ∧ ∃ a c, v = .slice a 0 c) ∨ ∃ off cap, v = .slice (some ⟨W.g, off, none⟩) L.length cap ∧ L.length ≤ cap ∧ cap ≤ maxLen ∧ ∀ i (h : i < L.length), W.w.cell? ⟨W.g, off + i, none⟩ = some (.int .u8 (L[i].toNat : Int))
/-- the block stands in another world -/
def TG (W : WG) (w : World) : Prop := w.heap[W.g]? = W.w.heap[W.g]? ∧ W.g < w.heap.size
theorem TG.next {W : WG} {w w' : World} (h : TG W w) (hb : Below w.heap.size w w') : TG W w' := ⟨(hb.block _ h.2).trans h.1, Nat.lt_of_lt_of_le h.2 hb.size⟩
theorem TG.grow {W : WG} {w w' : World} {pr : Nat} (h : TG W w) (hg : w.grownBy w' (some pr)) (hne : W.g ≠ pr) : TG W w' := ⟨(hg.block _ h.2 (fun e => by injection e with e; exact hne e)).trans h.1, Nat.lt_of_lt_of_le h.2 hg.size⟩
/-- what a document's taking comes to: its bytes lie in W -/
def DPost (W : WG) (w : World) (z : Value) : Out → Ending → World → Prop
  | .ok P R, e, w' => ∃ a c v, e = .returned (.tuple #[.agg #[.slice a R.length c, .int .i64 0], v]) ∧ RG W (.slice a R.length c) R ∧ P v w' ∧ Below w.heap.size w w'
  | .err k, e, w' => ∃ a n c, e = .returned (.tuple #[.agg #[.slice a n c, .int .i64 k], z]) ∧ (k == 0) = false ∧ Below w.heap.size w w'
set_option maxRecDepth 100000 in
theorem ret_rd {fn : Func} {t u : Tmp} (h : fn.results = #[.cell t 78, .tmp u]) (tmps : Array Value) (b : Nat) (hb : tmps[t]?.getD undef = .pointer (some ⟨b, 0, none⟩)) (W : World) {c0 c1 : Value} (h0 : W.cell? ⟨b, 0, none⟩ = some c0) (h1 : W.cell? ⟨b, 1, none⟩ = some c1) :
    (results fn tmps).run Try.prog W = .ok (.tuple #[.agg #[c0, c1], tmps.getD u undef]) W := by
  simp [results, h, hb, go_sem, h0, h1]

/-- a block of two cells -/
structure Two (w : World) (b : Nat) (x y : Value) : Prop where
  c0 : w.cell? ⟨b, 0, none⟩ = some x
  c1 : w.cell? ⟨b, 1, none⟩ = some y
  f0 : w.frozen? ⟨b, 0, none⟩ = false
  f1 : w.frozen? ⟨b, 1, none⟩ = false
theorem Two.new (V : World) (n : Nat) (hn : V.heap.size = n) (x y : Value) (t : TypeId) : Two (V.alloc (.cells #[x, y] t)) n x y := by
  subst hn
  exact ⟨by simp, by simp, by simp, by simp⟩
theorem Two.keep {w w' : World} {b : Nat} {x y : Value} (h : Two w b x y) (hb : w'.heap[b]? = w.heap[b]?) : Two w' b x y :=
  ⟨(World.cell?_of_block (w := w) (a := ⟨b, 0, none⟩) hb).trans h.c0, (World.cell?_of_block (w := w) (a := ⟨b, 1, none⟩) hb).trans h.c1, (World.frozen?_of_block (w := w) (a := ⟨b, 0, none⟩) hb).trans h.f0, (World.frozen?_of_block (w := w) (a := ⟨b, 1, none⟩) hb).trans h.f1⟩
theorem Two.lt {w : World} {b : Nat} {x y : Value} (h : Two w b x y) : b < w.heap.size := World.block_lt_of_cell? w ⟨b, 0, none⟩ h.c0
theorem Two.set0 {w : World} {b : Nat} {x y : Value} (h : Two w b x y) (x' : Value) : Two (w.setCell ⟨b, 0, none⟩ x') b x' y :=
  ⟨World.cell?_setCell_same w _ _ h.c0, by rw [World.cell?_setCell_other w _ _ _ (by intro e; cases e)]; exact h.c1, by simpa using h.f0, by simpa using h.f1⟩
theorem Two.set1 {w : World} {b : Nat} {x y : Value} (h : Two w b x y) (y' : Value) : Two (w.setCell ⟨b, 1, none⟩ y') b x y' :=
  ⟨by rw [World.cell?_setCell_other w _ _ _ (by intro e; cases e)]; exact h.c0, World.cell?_setCell_same w _ _ h.c1, by simpa using h.f0, by simpa using h.f1⟩
theorem Two.other {w : World} {b b' p : Nat} {x y : Value} (h : Two w b x y) (hne : b ≠ b') (v : Value) : Two (w.setCell ⟨b', p, none⟩ v) b x y := h.keep (Below.heap_setCell _ _ _ _ hne)
theorem set_size (w : World) (p : Addr) (v : Value) : (w.setCell p v).heap.size = w.heap.size := by simp [World.setCell]

def outB (L : List UInt8) : Out := match L with | [] => .err 20 | c :: R => .ok (fun v _ => v = .int .u8 (c.toNat : Int)) R

set_option maxRecDepth 100000 in
set_option maxHeartbeats 1000000 in
theorem byte_fail (W : WG) (a : Option Addr) (n c : Nat) (f : Int) (w : World) (hf : (f == 0) = false) :
    Calls Try.prog 85 #[.agg #[.slice a n c, .int .i64 f]] w (DPost W w (.int .u8 0) (.err f)) := by
  have hf0 : ¬ f = 0 := by intro e; rw [e] at hf; exact absurd hf (by decide)
  have HF : Hid ((f == 0) = false) := hf
  go_enter Try.func85, Try.ntmps85
  go_wp2
  have T := Two.new (w.alloc (.cells #[.slice a n c, .int .i64 f] 78)) (w.heap.size + 1) (by simp) (.slice a n c) (.int .i64 f) 78
  refine bodyPost_ret (ret_rd Try.results85 _ (w.heap.size + 1) rfl _ T.c0 T.c1) rfl ?_
  exact ⟨a, n, c, rfl, HF.out, ((Below.refl _ _).alloc (Nat.le_refl _) _).alloc (by simp) _⟩

theorem rg_cons {W : WG} {v : Value} {c : UInt8} {R : List UInt8} (h : RG W v (c :: R)) : ∃ off cap, v = .slice (some ⟨W.g, off, none⟩) (R.length + 1) cap ∧ R.length + 1 ≤ cap ∧ cap ≤ maxLen ∧ W.w.cell? ⟨W.g, off, none⟩ = some (.int .u8 (c.toNat : Int)) ∧ (cap = 1 → RG W (.slice (some ⟨W.g, off, none⟩) 0 0) R) ∧ (¬ cap = 1 → RG W (.slice (some ⟨W.g, off + 1, none⟩) R.length (cap - 1)) R) := by
  rcases h with ⟨h, _⟩ | ⟨off, cap, e1, e2, e3, e5⟩
  · cases h
  · simp only [List.length_cons] at e1 e2
    refine ⟨off, cap, e1, e2, e3, e5 0 (by simp), fun hc => ?_, fun hc => ?_⟩
    · have hR : R.length = 0 := by omega
      exact Or.inr ⟨off, 0, by rw [hR], by omega, Nat.zero_le _, fun i hi => by omega⟩
    · refine Or.inr ⟨off + 1, cap - 1, rfl, by omega, by omega, fun i hi => ?_⟩
      have := e5 (i + 1) (by simp; omega)
      rw [show off + 1 + i = off + (i + 1) by omega, this]
      rfl

set_option maxRecDepth 100000 in
set_option maxHeartbeats 2000000 in
theorem byte_ok (W : WG) (a : Option Addr) (c : Nat) (L : List UInt8) (w : World) (hW : TG W w) (hR : RG W (.slice a L.length c) L) :
    Calls Try.prog 85 #[.agg #[.slice a L.length c, .int .i64 0]] w (DPost W w (.int .u8 0) (outB L)) := by
  cases L with
  | nil =>
    show Calls _ _ #[.agg #[.slice a 0 c, .int .i64 0]] _ (DPost W w (.int .u8 0) (.err 20))
    go_enter Try.func85, Try.ntmps85
    go_wp2
    have T := Two.new (w.alloc (.cells #[.slice a 0 c, .int .i64 20] 78)) (w.heap.size + 1) (by simp) (.slice a 0 c) (.int .i64 20) 78
    refine bodyPost_ret (ret_rd Try.results85 _ (w.heap.size + 1) rfl _ T.c0 T.c1) rfl ?_
    exact ⟨a, 0, c, rfl, rfl, ((Below.refl _ _).alloc (Nat.le_refl _) _).alloc (by simp) _⟩
  | cons d R =>
    show Calls _ _ _ _ (DPost W w (.int .u8 0) (.ok (fun v _ => v = .int .u8 (d.toNat : Int)) R))
    obtain ⟨off, cap, e1, e2, e3, e5, e6, e7⟩ := rg_cons hR
    injection e1 with e1 e1b e1c
    clear e1b
    subst e1 e1c
    have hc : w.cell? ⟨W.g, off, none⟩ = some (.int .u8 (d.toNat : Int)) := (World.cell?_of_block (w := W.w) (a := ⟨W.g, off, none⟩) hW.1).trans e5
    have hbw : W.g < w.heap.size := hW.2
    have E6 : Hid (c = 1 → RG W (.slice (some ⟨W.g, off, none⟩) 0 0) R) := e6
    have E7 : Hid (¬ c = 1 → RG W (.slice (some ⟨W.g, off + 1, none⟩) R.length (c - 1)) R) := e7
    obtain ⟨b, hbg⟩ : ∃ b, W.g = b := ⟨_, rfl⟩
    rw [hbg] at hc hbw E6 E7 ⊢
    obtain ⟨n, hn⟩ : ∃ n, R.length = n := ⟨_, rfl⟩
    have HN : Hid (R.length = n) := hn
    have hl : (d :: R).length = n + 1 := by simp [hn]
    rw [hl]
    rw [hn] at e2
    unfold maxLen at e3
    clear e6 e7 e5 hR hn hl hbg hW
    by_cases hc1 : c = 1
    · subst hc1
      obtain rfl : n = 0 := by omega
      go_enter Try.func85, Try.ntmps85
      go_wp2
      have T := Two.new (w.alloc (.cells #[.slice (some ⟨b, off, none⟩) 0 0, .int .i64 0] 78)) (w.heap.size + 1) (by simp) (.slice (some ⟨b, off, none⟩) 0 0) (.int .i64 0) 78
      refine bodyPost_ret (ret_rd Try.results85 _ (w.heap.size + 1) rfl _ T.c0 T.c1) rfl ?_
      exact ⟨_, 0, _, by rw [HN.out]; rfl, by rw [HN.out]; exact E6.out (by trivial), rfl, ((Below.refl _ _).alloc (Nat.le_refl _) _).alloc (by simp) _⟩
    · have hc1' : ¬ 1 = c := fun e => hc1 e.symm
      go_enter Try.func85, Try.ntmps85
      go_wp2
      have T := Two.new (w.alloc (.cells #[.slice (some ⟨b, off + 1, none⟩) n (c - 1), .int .i64 0] 78)) (w.heap.size + 1) (by simp) (.slice (some ⟨b, off + 1, none⟩) n (c - 1)) (.int .i64 0) 78
      refine bodyPost_ret (ret_rd Try.results85 _ (w.heap.size + 1) rfl _ T.c0 T.c1) rfl ?_
      exact ⟨_, c - 1, _, by rw [HN.out]; rfl, E7.out hc1, rfl, ((Below.refl _ _).alloc (Nat.le_refl _) _).alloc (by simp) _⟩

set_option maxRecDepth 100000 in
set_option maxHeartbeats 1000000 in
theorem tuint_fail (W : WG) (a : Option Addr) (n c : Nat) (f : Int) (w : World) (hf : (f == 0) = false) :
    Calls Try.prog 65 #[.agg #[.slice a n c, .int .i64 f]] w (DPost W w (.int .u64 0) (.err f)) := by
  have hf0 : ¬ f = 0 := by intro e; rw [e] at hf; exact absurd hf (by decide)
  have HF : Hid ((f == 0) = false) := hf
  go_enter Try.func65, Try.ntmps65
  go_wp2
  go_rounds 1
  go_wp2
  have T := Two.new (w.alloc (.cells #[.slice a n c, .int .i64 f] 78)) (w.heap.size + 1) (by simp) (.slice a n c) (.int .i64 f) 78
  refine bodyPost_ret (ret_rd Try.results65 _ (w.heap.size + 1) rfl _ T.c0 T.c1) rfl ?_
  exact ⟨a, n, c, rfl, HF.out, ((Below.refl _ _).alloc (Nat.le_refl _) _).alloc (by simp) _⟩

theorem wrap_mul (n i : Nat) (c : UInt8) (hi : i ≤ 9) (h9 : i = 9 → c.toNat ≤ 1) (hn : n < 128 ^ i) :
    IntKind.u64.wrap ((n : Int) + IntKind.u64.wrap (((c.toNat : Int) % 128) * ((128 ^ i : Nat) : Int))) = ((n + c.toNat % 128 * 128 ^ i : Nat) : Int) := by
  have h := (tk_or n i c hi h9 hn).2
  have e : ((c.toNat : Int) % 128) * ((128 ^ i : Nat) : Int) = ((c.toNat % 128 * 128 ^ i : Nat) : Int) := by simp
  rw [e, IntKind.wrap_u64, IntKind.wrap_u64]
  omega

set_option maxRecDepth 100000 in
set_option maxHeartbeats 8000000 in
theorem tuint_ok (W : WG) (a : Option Addr) (c : Nat) (L : List UInt8) (w : World) (hW : TG W w) (hR : RG W (.slice a L.length c) L) :
    Calls Try.prog 65 #[.agg #[.slice a L.length c, .int .i64 0]] w (DPost W w (.int .u64 0) (outU L)) := by
  obtain ⟨out, hout⟩ : ∃ o, outU L = o := ⟨_, rfl⟩
  have HO : Hid ((match tk 0 0 L with | .ok n R => Out.ok (fun v _ => v = .int .u64 (n : Int)) R | .err k => .err k) = out) := hout
  rw [hout]
  have HR0 : Hid (RG W (.slice a L.length c) L) := hR
  obtain ⟨ln, hln⟩ : ∃ ln, L.length = ln := ⟨_, rfl⟩
  have HLN : Hid (L.length = ln) := hln
  rw [hln] at HR0 ⊢
  have HB0 : Hid (Below w.heap.size w ((w.alloc (.cells #[.slice a ln c, .int .i64 0] 78)).alloc (.cells #[.slice none 0 0, .int .i64 0] 78))) := ((Below.refl _ _).alloc (Nat.le_refl _) _).alloc (by simp) _
  have HT1 : Hid (Two ((w.alloc (.cells #[.slice a ln c, .int .i64 0] 78)).alloc (.cells #[.slice none 0 0, .int .i64 0] 78)) w.heap.size (.slice a ln c) (.int .i64 0)) := (Two.new w w.heap.size rfl (.slice a ln c) (.int .i64 0) 78).keep (Below.heap_alloc _ _ _ (by simp))
  have HT2 : Hid (Two ((w.alloc (.cells #[.slice a ln c, .int .i64 0] 78)).alloc (.cells #[.slice none 0 0, .int .i64 0] 78)) (w.heap.size + 1) (.slice none 0 0) (.int .i64 0)) := Two.new _ _ (by simp) _ _ _
  have HBW : Hid (TG W w) := hW
  clear hout hR hln hW
  go_enter Try.func65, Try.ntmps65
  go_wp2
  go_loopw [4, 5, 6] (fun nv uv iv wr => ∃ (i n : Nat) (M : List UInt8) (a : Option Addr) (c : Nat) (z1 z2 : Value), nv = .int .u64 (n : Int) ∧ uv = .int .u64 ((128 ^ i : Nat) : Int) ∧ iv = .int .i64 (i : Int) ∧ i ≤ 9 ∧ Hid (n < 128 ^ i) ∧ Hid ((match tk i n M with | .ok n R => Out.ok (fun v _ => v = .int .u64 (n : Int)) R | .err k => .err k) = out) ∧ Hid (RG W (.slice a M.length c) M) ∧ Hid (Two wr w.heap.size (.slice a M.length c) (.int .i64 0)) ∧ Hid (Two wr (w.heap.size + 1) z1 z2) ∧ Hid (Below w.heap.size w wr)) (fun _ _ iv _ => 9 - (intOf iv).toNat)
  case atStart => exact ⟨0, 0, L, a, c, _, _, rfl, rfl, rfl, by omega, by show _ < _; omega, HO, by rw [HLN.out]; exact HR0, by rw [HLN.out]; exact HT1, HT2, HB0⟩
  case round =>
    obtain ⟨i, n, M, a2, c2, z1, z2, rfl, rfl, rfl, hi, HN, HTK, HR, HT, HU, HB⟩ := hrel
    have hpow : (128 : Nat) ^ i ≤ 9223372036854775808 := by
      have : (128 : Nat) ^ i ≤ 128 ^ 9 := Nat.pow_le_pow_right (by omega) hi
      omega
    obtain ⟨pw, hpw⟩ : ∃ pw, (128 : Nat) ^ i = pw := ⟨_, rfl⟩
    have HPW : Hid ((128 : Nat) ^ i = pw) := hpw
    rw [hpw] at hpow ⊢
    have hn64 : n ≤ 9223372036854775808 := by have := HN.out; omega
    obtain ⟨y0, y1, y2, y3⟩ := HT.out
    obtain ⟨ml, hml⟩ : ∃ ml, M.length = ml := ⟨_, rfl⟩
    have HML : Hid (M.length = ml) := hml
    have HRB : Hid (Calls Try.prog 85 #[.agg #[.slice a2 ml c2, .int .i64 0]] wr (DPost W wr (.int .u8 0) (outB M))) := by
      rw [← hml]
      exact byte_ok W a2 c2 M wr (HBW.out.next HB.out) HR.out
    rw [hml] at y0
    have hlt1 := HT.out.lt
    have hlt2 := HU.out.lt
    clear hpw hml
    cases M with
    | nil =>
      have HE : Hid (out = .err 20) := HTK.out.symm
      go_wp2_with fail
      refine HRB.out.mono ?_
      rintro e w2 ⟨a3, n3, c3, rfl, hk, hb3⟩
      have T1 := HT.out.keep (hb3.block _ hlt1)
      have T2 := HU.out.keep (hb3.block _ hlt2)
      obtain ⟨x0, x1, x2, x3⟩ := id T1
      have HT1' : Hid (Two ((w2.setCell ⟨w.heap.size, 0, none⟩ (.slice a3 n3 c3)).setCell ⟨w.heap.size, 1, none⟩ (.int .i64 20)) w.heap.size (.slice a3 n3 c3) (.int .i64 20)) := (T1.set0 _).set1 _
      have HT2' : Hid (Two ((w2.setCell ⟨w.heap.size, 0, none⟩ (.slice a3 n3 c3)).setCell ⟨w.heap.size, 1, none⟩ (.int .i64 20)) (w.heap.size + 1) z1 z2) := (T2.other (by omega) _).other (by omega) _
      have HB2 : Hid (Below w.heap.size w w2) := HB.out.trans (hb3.mono HB.out.size)
      obtain ⟨v0, v1, v2, v3⟩ := HT1'.out
      obtain ⟨u0, u1, u2, u3⟩ := HT2'.out
      clear hb3 T1 T2 y0 y1 y2 y3
      go_wp2
      have T9 := (HT2'.out.set0 (.slice a3 n3 c3)).set1 (.int .i64 20)
      refine bodyPost_ret (ret_rd Try.results65 _ (w.heap.size + 1) rfl _ T9.c0 T9.c1) rfl ?_
      rw [HE.out]
      exact ⟨a3, n3, c3, rfl, rfl, (((HB2.out.setCell (p := ⟨w.heap.size, 0, none⟩) (Nat.le_refl _) _).setCell (p := ⟨w.heap.size, 1, none⟩) (Nat.le_refl _) _).setCell (p := ⟨w.heap.size + 1, 0, none⟩) (Nat.le_succ _) _).setCell (p := ⟨w.heap.size + 1, 1, none⟩) (Nat.le_succ _) _⟩
    | cons d R =>
      have hd := d.toNat_lt
      by_cases hbad : (i = 9 ∧ 1 < d.toNat) ∨ (0 < i ∧ d.toNat = 0)
      · have HE : Hid (out = .err 21) := by show _ = _; rw [← HTK.out]; unfold tk; rw [if_pos hbad]
        by_cases hA : 0 < i ∧ d.toNat = 0
        · have hA1 : 0 < i := hA.1
          have hA2 : (((d.toNat : Nat) : Int) == 0) = true := by simp [hA.2]
          clear hbad
          go_wp2_with fail
          refine HRB.out.mono ?_
          rintro e w2 ⟨a3, c3, v3, rfl, hr3, rfl, hb3⟩
          obtain ⟨rl, hrl⟩ : ∃ rl, R.length = rl := ⟨_, rfl⟩
          have HRL : Hid (R.length = rl) := hrl
          have HR3 : Hid (RG W (.slice a3 R.length c3) R) := hr3
          rw [hrl]
          have T1 := HT.out.keep (hb3.block _ hlt1)
          have T2 := HU.out.keep (hb3.block _ hlt2)
          obtain ⟨x0, x1, x2, x3⟩ := id T1
          have HT1' : Hid (Two ((w2.setCell ⟨w.heap.size, 0, none⟩ (.slice a3 rl c3)).setCell ⟨w.heap.size, 1, none⟩ (.int .i64 0)) w.heap.size (.slice a3 rl c3) (.int .i64 0)) := (T1.set0 _).set1 _
          have HT2' : Hid (Two ((w2.setCell ⟨w.heap.size, 0, none⟩ (.slice a3 rl c3)).setCell ⟨w.heap.size, 1, none⟩ (.int .i64 0)) (w.heap.size + 1) z1 z2) := (T2.other (by omega) _).other (by omega) _
          have HB2 : Hid (Below w.heap.size w ((w2.setCell ⟨w.heap.size, 0, none⟩ (.slice a3 rl c3)).setCell ⟨w.heap.size, 1, none⟩ (.int .i64 0))) := ((HB.out.trans (hb3.mono HB.out.size)).setCell (p := ⟨w.heap.size, 0, none⟩) (Nat.le_refl _) _).setCell (p := ⟨w.heap.size, 1, none⟩) (Nat.le_refl _) _
          obtain ⟨v0, v1, v2, v3⟩ := HT1'.out
          obtain ⟨u0, u1, u2, u3⟩ := HT2'.out
          clear hb3 T1 T2 y0 y1 y2 y3 hr3 hrl
          have HT1'' : Hid (Two (((w2.setCell ⟨w.heap.size, 0, none⟩ (.slice a3 rl c3)).setCell ⟨w.heap.size, 1, none⟩ (.int .i64 0)).setCell ⟨w.heap.size, 1, none⟩ (.int .i64 21)) w.heap.size (.slice a3 rl c3) (.int .i64 21)) := HT1'.out.set1 _
          have HT2'' : Hid (Two (((w2.setCell ⟨w.heap.size, 0, none⟩ (.slice a3 rl c3)).setCell ⟨w.heap.size, 1, none⟩ (.int .i64 0)).setCell ⟨w.heap.size, 1, none⟩ (.int .i64 21)) (w.heap.size + 1) z1 z2) := HT2'.out.other (by omega) _
          obtain ⟨s0, s1, s2, s3⟩ := HT1''.out
          obtain ⟨t0, t1, t2, t3⟩ := HT2''.out
          go_wp2
          have T9 := (HT2''.out.set0 (.slice a3 rl c3)).set1 (.int .i64 21)
          refine bodyPost_ret (ret_rd Try.results65 _ (w.heap.size + 1) rfl _ T9.c0 T9.c1) rfl ?_
          rw [HE.out]
          exact ⟨a3, rl, c3, rfl, rfl, ((HB2.out.setCell (p := ⟨w.heap.size, 1, none⟩) (Nat.le_refl _) _).setCell (p := ⟨w.heap.size + 1, 0, none⟩) (Nat.le_succ _) _).setCell (p := ⟨w.heap.size + 1, 1, none⟩) (Nat.le_succ _) _⟩
        · obtain ⟨rfl, hB2⟩ : i = 9 ∧ 1 < d.toNat := by
            rcases hbad with h | h
            · exact h
            · exact absurd h hA
          have hB3 : (((d.toNat : Nat) : Int) == 0) = false := by simp; omega
          clear hbad hA
          go_wp2_with fail
          refine HRB.out.mono ?_
          rintro e w2 ⟨a3, c3, v3, rfl, hr3, rfl, hb3⟩
          obtain ⟨rl, hrl⟩ : ∃ rl, R.length = rl := ⟨_, rfl⟩
          have HRL : Hid (R.length = rl) := hrl
          have HR3 : Hid (RG W (.slice a3 R.length c3) R) := hr3
          rw [hrl]
          have T1 := HT.out.keep (hb3.block _ hlt1)
          have T2 := HU.out.keep (hb3.block _ hlt2)
          obtain ⟨x0, x1, x2, x3⟩ := id T1
          have HT1' : Hid (Two ((w2.setCell ⟨w.heap.size, 0, none⟩ (.slice a3 rl c3)).setCell ⟨w.heap.size, 1, none⟩ (.int .i64 0)) w.heap.size (.slice a3 rl c3) (.int .i64 0)) := (T1.set0 _).set1 _
          have HT2' : Hid (Two ((w2.setCell ⟨w.heap.size, 0, none⟩ (.slice a3 rl c3)).setCell ⟨w.heap.size, 1, none⟩ (.int .i64 0)) (w.heap.size + 1) z1 z2) := (T2.other (by omega) _).other (by omega) _
          have HB2 : Hid (Below w.heap.size w ((w2.setCell ⟨w.heap.size, 0, none⟩ (.slice a3 rl c3)).setCell ⟨w.heap.size, 1, none⟩ (.int .i64 0))) := ((HB.out.trans (hb3.mono HB.out.size)).setCell (p := ⟨w.heap.size, 0, none⟩) (Nat.le_refl _) _).setCell (p := ⟨w.heap.size, 1, none⟩) (Nat.le_refl _) _
          obtain ⟨v0, v1, v2, v3⟩ := HT1'.out
          obtain ⟨u0, u1, u2, u3⟩ := HT2'.out
          clear hb3 T1 T2 y0 y1 y2 y3 hr3 hrl
          have HT1'' : Hid (Two (((w2.setCell ⟨w.heap.size, 0, none⟩ (.slice a3 rl c3)).setCell ⟨w.heap.size, 1, none⟩ (.int .i64 0)).setCell ⟨w.heap.size, 1, none⟩ (.int .i64 21)) w.heap.size (.slice a3 rl c3) (.int .i64 21)) := HT1'.out.set1 _
          have HT2'' : Hid (Two (((w2.setCell ⟨w.heap.size, 0, none⟩ (.slice a3 rl c3)).setCell ⟨w.heap.size, 1, none⟩ (.int .i64 0)).setCell ⟨w.heap.size, 1, none⟩ (.int .i64 21)) (w.heap.size + 1) z1 z2) := HT2'.out.other (by omega) _
          obtain ⟨s0, s1, s2, s3⟩ := HT1''.out
          obtain ⟨t0, t1, t2, t3⟩ := HT2''.out
          go_wp2
          have T9 := (HT2''.out.set0 (.slice a3 rl c3)).set1 (.int .i64 21)
          refine bodyPost_ret (ret_rd Try.results65 _ (w.heap.size + 1) rfl _ T9.c0 T9.c1) rfl ?_
          rw [HE.out]
          exact ⟨a3, rl, c3, rfl, rfl, ((HB2.out.setCell (p := ⟨w.heap.size, 1, none⟩) (Nat.le_refl _) _).setCell (p := ⟨w.heap.size + 1, 0, none⟩) (Nat.le_succ _) _).setCell (p := ⟨w.heap.size + 1, 1, none⟩) (Nat.le_succ _) _⟩
      · have h9 : i = 9 → d.toNat ≤ 1 := fun e => by
          rcases Nat.lt_or_ge 1 d.toNat with h | h
          · exact absurd (Or.inl ⟨e, h⟩) hbad
          · exact h
        have hsum := (tk_or n i d hi h9 HN.out).2
        rw [HPW.out] at hsum
        obtain ⟨n2, hn2⟩ : ∃ n2, n + d.toNat % 128 * pw = n2 := ⟨_, rfl⟩
        have HN2 : Hid (n + d.toNat % 128 * 128 ^ i = n2) := by show _ = _; rw [HPW.out]; exact hn2
        have hw1 : IntKind.u64.wrap ((n : Int) + IntKind.u64.wrap (((d.toNat : Int) % 128) * (pw : Int))) = (n2 : Int) := by
          have := wrap_mul n i d hi h9 HN.out
          rw [HPW.out] at this
          rw [this, hn2]
        rw [hn2] at hsum
        have q1 : 0 < i → (((d.toNat : Nat) : Int) == 0) = false := fun h => by
          have : ¬ d.toNat = 0 := fun e => hbad (Or.inr ⟨h, e⟩)
          simp; omega
        have Q1 : Hid (0 < i → (((d.toNat : Nat) : Int) == 0) = false) := q1
        have H9 : Hid (i = 9 → d.toNat ≤ 1) := h9
        have HBAD : Hid (¬ ((i = 9 ∧ 1 < d.toNat) ∨ (0 < i ∧ d.toNat = 0))) := hbad
        clear hbad q1 hn2
        by_cases hlow : d.toNat < 128
        · have HE : Hid (out = .ok (fun v _ => v = .int .u64 (n2 : Int)) R) := by
            show _ = _
            rw [← HTK.out]
            unfold tk
            rw [if_neg HBAD.out, if_pos hlow, HN2.out]
          go_wp2_with fail
          refine HRB.out.mono ?_
          rintro e w2 ⟨a3, c3, v3, rfl, hr3, rfl, hb3⟩
          obtain ⟨rl, hrl⟩ : ∃ rl, R.length = rl := ⟨_, rfl⟩
          have HRL : Hid (R.length = rl) := hrl
          have HR3 : Hid (RG W (.slice a3 R.length c3) R) := hr3
          rw [hrl]
          have T1 := HT.out.keep (hb3.block _ hlt1)
          have T2 := HU.out.keep (hb3.block _ hlt2)
          obtain ⟨x0, x1, x2, x3⟩ := id T1
          have HT1' : Hid (Two ((w2.setCell ⟨w.heap.size, 0, none⟩ (.slice a3 rl c3)).setCell ⟨w.heap.size, 1, none⟩ (.int .i64 0)) w.heap.size (.slice a3 rl c3) (.int .i64 0)) := (T1.set0 _).set1 _
          have HT2' : Hid (Two ((w2.setCell ⟨w.heap.size, 0, none⟩ (.slice a3 rl c3)).setCell ⟨w.heap.size, 1, none⟩ (.int .i64 0)) (w.heap.size + 1) z1 z2) := (T2.other (by omega) _).other (by omega) _
          have HB2 : Hid (Below w.heap.size w ((w2.setCell ⟨w.heap.size, 0, none⟩ (.slice a3 rl c3)).setCell ⟨w.heap.size, 1, none⟩ (.int .i64 0))) := ((HB.out.trans (hb3.mono HB.out.size)).setCell (p := ⟨w.heap.size, 0, none⟩) (Nat.le_refl _) _).setCell (p := ⟨w.heap.size, 1, none⟩) (Nat.le_refl _) _
          obtain ⟨v0, v1, v2, v3⟩ := HT1'.out
          obtain ⟨u0, u1, u2, u3⟩ := HT2'.out
          clear hb3 T1 T2 y0 y1 y2 y3 hr3 hrl
          by_cases k0 : 0 < i
          · have k1 := Q1.out k0
            by_cases k9 : i = 9
            · have k9b : (((i : Nat) : Int) == 9) = true := by simp [k9]
              have hd1 : ¬ (1 : Int) < ((d.toNat : Nat) : Int) := by have := H9.out k9; omega
              clear k9
              go_wp2
              all_goals
                have T9 := (HT2'.out.set0 (.slice a3 rl c3)).set1 (.int .i64 0)
                refine bodyPost_ret (ret_rd Try.results65 _ (w.heap.size + 1) rfl _ T9.c0 T9.c1) rfl ?_
                rw [HE.out]
                exact ⟨a3, c3, _, by rw [HRL.out]; rfl, HR3.out, rfl, (HB2.out.setCell (p := ⟨w.heap.size + 1, 0, none⟩) (Nat.le_succ _) _).setCell (p := ⟨w.heap.size + 1, 1, none⟩) (Nat.le_succ _) _⟩
            · have k9b : (((i : Nat) : Int) == 9) = false := by simp; omega
              clear k9
              go_wp2
              all_goals
                have T9 := (HT2'.out.set0 (.slice a3 rl c3)).set1 (.int .i64 0)
                refine bodyPost_ret (ret_rd Try.results65 _ (w.heap.size + 1) rfl _ T9.c0 T9.c1) rfl ?_
                rw [HE.out]
                exact ⟨a3, c3, _, by rw [HRL.out]; rfl, HR3.out, rfl, (HB2.out.setCell (p := ⟨w.heap.size + 1, 0, none⟩) (Nat.le_succ _) _).setCell (p := ⟨w.heap.size + 1, 1, none⟩) (Nat.le_succ _) _⟩
          · have k9b : (((i : Nat) : Int) == 9) = false := by simp; omega
            go_wp2
            all_goals
              have T9 := (HT2'.out.set0 (.slice a3 rl c3)).set1 (.int .i64 0)
              refine bodyPost_ret (ret_rd Try.results65 _ (w.heap.size + 1) rfl _ T9.c0 T9.c1) rfl ?_
              rw [HE.out]
              exact ⟨a3, c3, _, by rw [HRL.out]; rfl, HR3.out, rfl, (HB2.out.setCell (p := ⟨w.heap.size + 1, 0, none⟩) (Nat.le_succ _) _).setCell (p := ⟨w.heap.size + 1, 1, none⟩) (Nat.le_succ _) _⟩
        · have hi8 : i < 9 := by
            rcases Nat.lt_or_ge i 9 with h | h
            · exact h
            · have := h9 (by omega); omega
          have hw2 : IntKind.u64.wrap ((pw : Int) * 128) = ((pw * 128 : Nat) : Int) := by
            have : (128 : Nat) ^ (i + 1) ≤ 128 ^ 9 := Nat.pow_le_pow_right (by omega) (by omega)
            rw [Nat.pow_succ, HPW.out] at this
            rw [IntKind.wrap_u64]
            omega
          have HP2 : Hid ((128 : Nat) ^ (i + 1) = pw * 128) := by show _ = _; rw [Nat.pow_succ, HPW.out]
          have HE : Hid ((match tk (i + 1) n2 R with | .ok n R => Out.ok (fun v _ => v = .int .u64 (n : Int)) R | .err k => .err k) = out) := by
            show _ = _
            rw [← HTK.out]
            conv => rhs; unfold tk
            rw [if_neg HBAD.out, if_neg hlow, HN2.out]
          have HNN : Hid (n2 < 128 ^ (i + 1)) := by
            show _ < _
            rw [← HN2.out, Nat.pow_succ]
            have h2 : d.toNat % 128 * 128 ^ i ≤ 127 * 128 ^ i := Nat.mul_le_mul_right _ (by omega)
            have := HN.out
            omega
          go_wp2_with fail
          refine HRB.out.mono ?_
          rintro e w2 ⟨a3, c3, v3, rfl, hr3, rfl, hb3⟩
          obtain ⟨rl, hrl⟩ : ∃ rl, R.length = rl := ⟨_, rfl⟩
          have HRL : Hid (R.length = rl) := hrl
          have HR3 : Hid (RG W (.slice a3 R.length c3) R) := hr3
          rw [hrl]
          have T1 := HT.out.keep (hb3.block _ hlt1)
          have T2 := HU.out.keep (hb3.block _ hlt2)
          obtain ⟨x0, x1, x2, x3⟩ := id T1
          have HT1' : Hid (Two ((w2.setCell ⟨w.heap.size, 0, none⟩ (.slice a3 rl c3)).setCell ⟨w.heap.size, 1, none⟩ (.int .i64 0)) w.heap.size (.slice a3 rl c3) (.int .i64 0)) := (T1.set0 _).set1 _
          have HT2' : Hid (Two ((w2.setCell ⟨w.heap.size, 0, none⟩ (.slice a3 rl c3)).setCell ⟨w.heap.size, 1, none⟩ (.int .i64 0)) (w.heap.size + 1) z1 z2) := (T2.other (by omega) _).other (by omega) _
          have HB2 : Hid (Below w.heap.size w ((w2.setCell ⟨w.heap.size, 0, none⟩ (.slice a3 rl c3)).setCell ⟨w.heap.size, 1, none⟩ (.int .i64 0))) := ((HB.out.trans (hb3.mono HB.out.size)).setCell (p := ⟨w.heap.size, 0, none⟩) (Nat.le_refl _) _).setCell (p := ⟨w.heap.size, 1, none⟩) (Nat.le_refl _) _
          obtain ⟨v0, v1, v2, v3⟩ := HT1'.out
          obtain ⟨u0, u1, u2, u3⟩ := HT2'.out
          clear hb3 T1 T2 y0 y1 y2 y3 hr3 hrl
          have k9b : (((i : Nat) : Int) == 9) = false := by simp; omega
          have k1 : (((d.toNat : Nat) : Int) == 0) = false := by simp; omega
          go_wp2
          all_goals
            go_roundw
            case rel => exact ⟨i + 1, n2, R, a3, c3, _, _, rfl, by rw [HP2.out]; simp, by go_num, by omega, HNN, HE, HR3, by rw [HRL.out]; exact HT1', HT2', HB2⟩
            case measure => simp [intOf]; omega
end Go.Proofs.Ythcidcfaodjbjaa
