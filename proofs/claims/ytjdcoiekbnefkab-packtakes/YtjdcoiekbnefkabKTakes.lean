/- What a reader takes up: numbers, flags, counts, texts. -/
import Derived.Test.YtjdcoiekbnefkabKWholeG
import Derived.Test.YtjdcoiekbnefkabKItems
import Derived.Test.YtjdcoiekbnefkabKWriter
namespace Go.Proofs.Ytjdcoiekbnefkab
open Go.RowKit
set_option linter.unusedVariables false

/-- a number out of one from 0 on -/
def zag (n : Nat) : Int := if n % 2 = 1 then -((n / 2 : Nat) : Int) - 1 else ((n / 2 : Nat) : Int)
set_option maxRecDepth 100000 in
theorem zag_zig (n : Int) : zag (zig n) = n := by
  unfold zag zig
  split <;> split <;> omega
set_option maxRecDepth 100000 in
theorem zag_in (n : Nat) (h : n ≤ 18446744073709551615) : -9223372036854775808 ≤ zag n ∧ zag n ≤ 9223372036854775807 := by
  unfold zag
  split <;> omega
set_option maxRecDepth 100000 in
theorem tk_le : ∀ (L : List UInt8) (i n m : Nat) (R : List UInt8), i ≤ 9 → n < 128 ^ i → tk i n L = .ok m R → m ≤ 18446744073709551615 ∧ R.length < L.length := by
  intro L
  induction L with
  | nil => intro i n m R _ _ h; unfold tk at h; cases h
  | cons c L ih =>
    intro i n m R hi hn h
    unfold tk at h
    split at h
    · cases h
    · rename_i hbad
      have h9 : i = 9 → c.toNat ≤ 1 := by intro e; omega
      have hlt := (tk_or n i c hi h9 hn).2
      split at h
      · injection h with h1 h2
        subst h1 h2
        exact ⟨by omega, by simp⟩
      · rename_i h128
        have hi8 : i < 9 := by
          rcases Nat.lt_or_ge i 9 with h | h
          · exact h
          · have : i = 9 := by omega
            have := h9 this; omega
        have hn' : n + c.toNat % 128 * 128 ^ i < 128 ^ (i + 1) := by
          rw [Nat.pow_succ]
          have h2 : c.toNat % 128 * 128 ^ i ≤ 127 * 128 ^ i := Nat.mul_le_mul_right _ (by omega)
          omega
        have := ih (i + 1) _ m R (by omega) hn' h
        exact ⟨this.1, by simp; omega⟩

def outU (L : List UInt8) : Out := match tk 0 0 L with | .ok n R => .ok (fun v _ => v = .int .u64 (n : Int)) R | .err k => .err k
def outI (L : List UInt8) : Out := match tk 0 0 L with | .ok n R => .ok (fun v _ => v = .int .i64 (zag n)) R | .err k => .err k
def outF (L : List UInt8) : Out := match L with | [] => .err 20 | c :: R => if 1 < c.toNat then .err 21 else .ok (fun v _ => v = .bool (decide (c.toNat = 1))) R
def tkC (least : Nat) (L : List UInt8) : Took := match tk 0 0 L with | .ok n R => if R.length / least < n then .err 20 else .ok n R | .err k => .err k
def outC (least : Nat) (L : List UInt8) : Out := match tkC least L with | .ok n R => .ok (fun v _ => v = .int .i64 (n : Int)) R | .err k => .err k
def outT (L : List UInt8) : Out := match tkC 1 L with | .ok n R => .ok (fun v _ => v = .string ⟨(R.take n).toArray⟩) (R.drop n) | .err k => .err k

set_option maxRecDepth 100000 in
theorem takeU (pb : Nat) (f : Int) (L : List UInt8) (w : World) (h : RS w pb L f) : Calls Try.prog 73 #[.pointer (some ⟨pb, 0, none⟩)] w (TPost w pb f (outU L)) := by
  refine (take_any pb f L w h).mono ?_
  intro e w' hp
  unfold outU
  rcases htk : tk 0 0 L with ⟨n, R⟩ | k
  · rw [htk] at hp
    obtain ⟨rfl, h2, h3⟩ := hp
    exact ⟨_, rfl, rfl, h2, h3.1⟩
  · rw [htk] at hp
    obtain ⟨rfl, h2, h3⟩ := hp
    exact ⟨rfl, h2, h3.1⟩

set_option maxRecDepth 100000 in
theorem xor_neg (x : Int) (h0 : 0 ≤ x) (h1 : x ≤ 9223372036854775807) : bits .xor .i64 (-1) x = -x - 1 := by
  show IntKind.i64.wrap ((BitVec.ofInt 64 (-1) ^^^ BitVec.ofInt 64 x).toNat : Int) = _
  have e : BitVec.ofInt 64 (-1) = BitVec.allOnes 64 := by decide
  rw [e, BitVec.allOnes_xor, BitVec.toNat_not, BitVec.toNat_ofInt, IntKind.wrap_i64]
  omega

set_option maxRecDepth 100000 in
set_option maxHeartbeats 1000000 in
theorem takeI (pb : Nat) (f : Int) (L : List UInt8) (w : World) (h : RS w pb L f) : Calls Try.prog 75 #[.pointer (some ⟨pb, 0, none⟩)] w (TPost w pb f (outI L)) := by
  have HS : Hid (RS w pb L f) := h
  clear h
  unfold outI
  rcases htk : tk 0 0 L with ⟨n, R⟩ | k
  · have hn := (tk_le L 0 0 n R (by omega) (by omega) htk).1
    have HTK : Hid (tk 0 0 L = .ok n R) := htk
    clear htk
    go_enter Try.func75, Try.ntmps75
    go_wp2_with fail
    refine (take_any pb f L w HS.out).mono ?_
    intro e w2 hp
    rw [HTK.out] at hp
    obtain ⟨rfl, h2, h3⟩ := hp
    have H2 : Hid (RS w2 pb R f) := h2
    have H3 : Hid (w.grownBy w2 (some pb)) := h3.1
    clear h2 h3
    by_cases h1 : n % 2 = 1
    · have HZ : Hid (zag n = -((n / 2 : Nat) : Int) - 1) := by show _ = _; unfold zag; rw [if_pos h1]
      have HX : Hid (bits .xor .i64 (-1) ((n / 2 : Nat) : Int) = -((n / 2 : Nat) : Int) - 1) := xor_neg _ (by omega) (by omega)
      go_wp2
      go_ret
      refine ⟨_, rfl, ?_, H2.out, H3.out⟩
      rw [HZ.out, ← HX.out]
      rfl
    · have HZ : Hid (zag n = ((n / 2 : Nat) : Int)) := by show _ = _; unfold zag; rw [if_neg h1]
      go_wp2
      go_ret
      refine ⟨_, rfl, ?_, H2.out, H3.out⟩
      rw [HZ.out]
      rfl
  · have HTK : Hid (tk 0 0 L = .err k) := htk
    clear htk
    go_enter Try.func75, Try.ntmps75
    go_wp2_with fail
    refine (take_any pb f L w HS.out).mono ?_
    intro e w2 hp
    rw [HTK.out] at hp
    obtain ⟨rfl, h2, h3⟩ := hp
    exact ⟨rfl, rfl, h2, h3.1⟩

set_option maxRecDepth 100000 in
set_option maxHeartbeats 1000000 in
theorem takeF (pb : Nat) (f : Int) (L : List UInt8) (w : World) (h : RS w pb L f) : Calls Try.prog 77 #[.pointer (some ⟨pb, 0, none⟩)] w (TPost w pb f (outF L)) := by
  have HS : Hid (RS w pb L f) := h
  clear h
  cases L with
  | nil =>
    show Calls _ _ _ _ (TPost w pb f (.err 20))
    go_enter Try.func77, Try.ntmps77
    go_wp2_with fail
    refine (part_none pb f w HS.out).mono ?_
    rintro e w' ⟨rfl, rfl⟩
    exact ⟨rfl, rfl, ⟨_, HS.out⟩, grow_refl _ _⟩
  | cons c R =>
    have hc := c.toNat_lt
    unfold outF
    dsimp only
    by_cases h1 : 1 < c.toNat
    · rw [if_pos h1]
      go_enter Try.func77, Try.ntmps77
      go_wp2_with fail
      refine (part_one pb c R f w HS.out).mono ?_
      rintro e w2 ⟨g, off, rfl, hce, hrs, hbe⟩
      have HR : Hid (RS w2 pb R f) := hrs
      have HK : Hid (w.grownBy w2 (some pb)) := hbe.1
      clear hrs hbe
      go_wp2_with fail
      refine (giveUp_any 21 w2).mono ?_
      rintro e w' ⟨rfl, rfl⟩
      exact ⟨rfl, rfl, ⟨_, HR.out⟩, HK.out⟩
    · rw [if_neg h1]
      have HB : Hid ((((c.toNat : Int)) == 1) = decide (c.toNat = 1)) := by
        show _ = _
        by_cases e : c.toNat = 1
        · simp [e]
        · simp [e]; omega
      go_enter Try.func77, Try.ntmps77
      go_wp2_with fail
      refine (part_one pb c R f w HS.out).mono ?_
      rintro e w2 ⟨g, off, rfl, hce, hrs, hbe⟩
      have HR : Hid (RS w2 pb R f) := hrs
      have HK : Hid (w.grownBy w2 (some pb)) := hbe.1
      clear hrs hbe
      go_wp2
      go_ret
      refine ⟨_, rfl, ?_, HR.out, HK.out⟩
      rw [← HB.out]
      rfl

/-- so many bytes are taken -/
def PartM (w : World) (pb many : Nat) (L : List UInt8) (f : Int) (e : Ending) (w' : World) : Prop :=
  ∃ v, e = .returned v ∧ Rd w' v (L.take many) ∧ RS w' pb (L.drop many) f ∧ Only w w' pb
set_option maxRecDepth 100000 in
set_option maxHeartbeats 2000000 in
theorem part_many (pb many : Nat) (L : List UInt8) (f : Int) (w : World) (h : RS w pb L f) (hm : many ≤ L.length) :
    Calls Try.prog 88 #[.pointer (some ⟨pb, 0, none⟩), .int .i64 (many : Int)] w (PartM w pb many L f) := by
  obtain ⟨v, h1, h2, h3, h4, h5, h6⟩ := h
  have HH : Hid (w.cell? ⟨pb, 1, none⟩ = some (.int .i64 f)) := h2
  have key : ∀ u r, Rd w r (L.take many) → (∀ a n c, r = .slice (some a) n c → a.block ≠ pb) → RdO w pb u (L.drop many) → PartM w pb many L f (.returned r) (w.setCell ⟨pb, 0, none⟩ u) := by
    intro u r hr hne hu
    refine ⟨r, rfl, ?_, ⟨u, World.cell?_setCell_same w _ _ h1, ?_, by simpa using h3, by simpa using h4, by simpa [World.setCell] using h5, hu.set 0 u⟩, (Only.refl w pb).set 0 u⟩
    · rcases hr with hr | ⟨b, off, cap, e1, e2, e3, e4, e5⟩
      · exact Or.inl hr
      · refine Or.inr ⟨b, off, cap, e1, e2, e3, by simpa [World.setCell] using e4, fun i hi => ?_⟩
        rw [World.cell?_setCell_other w _ _ _ (by intro e; injection e with e _ _; exact hne _ _ _ e1 e.symm)]
        exact e5 i hi
    · rw [World.cell?_setCell_other w _ _ _ (by intro e; cases e)]; exact HH.out
  have HKEY : Hid (∀ u r, Rd w r (L.take many) → (∀ a n c, r = .slice (some a) n c → a.block ≠ pb) → RdO w pb u (L.drop many) → PartM w pb many L f (.returned r) (w.setCell ⟨pb, 0, none⟩ u)) := key
  clear key h2
  rcases h6 with ⟨rfl, rfl⟩ | ⟨g, off, cap, rfl, k1, k2, k3, k4, k5⟩
  · obtain rfl : many = 0 := by simpa using hm
    clear hm
    go_enter Try.func88, Try.ntmps88
    go_wp2
    go_ret
    exact HKEY.out _ _ (Or.inl ⟨rfl, rfl⟩) (fun a n c e => by cases e) (Or.inl ⟨rfl, rfl⟩)
  · have HC : Hid (∀ i (h : i < L.length), w.cell? ⟨g, off + i, none⟩ = some (.int .u8 (L[i].toNat : Int))) := k5
    have HR1 : Hid (Rd w (.slice (some ⟨g, off, none⟩) many many) (L.take many)) := by
      have hl : (L.take many).length = many := by simp; omega
      refine Or.inr ⟨g, off, many, by rw [hl], by rw [hl]; exact Nat.le_refl _, by omega, k3, fun i hi => ?_⟩
      rw [hl] at hi
      rw [HC.out i (by omega), List.getElem_take]
    have hne : ∀ a n c, Value.slice (some ⟨g, off, none⟩) many many = .slice (some a) n c → a.block ≠ pb := by
      intro a n c e
      injection e with e _ _
      injection e with e
      subst e
      show g ≠ pb
      omega
    have HNE : Hid (∀ a n c, Value.slice (some ⟨g, off, none⟩) many many = .slice (some a) n c → a.block ≠ pb) := hne
    obtain ⟨n, hn⟩ : ∃ n, L.length = n := ⟨_, rfl⟩
    have HN : Hid (L.length = n) := hn
    have HK2 : Hid (cap ≤ maxLen) := k2
    rw [hn] at k1 h1 hm
    unfold maxLen at k2
    clear k5 hne hn
    by_cases hcap : cap = many
    · subst hcap
      obtain rfl : n = cap := by omega
      have HU : Hid (RdO w pb (.slice (some ⟨g, off, none⟩) 0 0) (L.drop n)) := Or.inr ⟨g, off, 0, by rw [List.length_drop, HN.out, Nat.sub_self], by rw [List.length_drop, HN.out]; omega, Nat.zero_le _, k3, k4, fun i hi => by rw [List.length_drop, HN.out] at hi; omega⟩
      clear k3 k4
      go_enter Try.func88, Try.ntmps88
      go_wp2
      go_ret
      exact HKEY.out _ _ HR1.out HNE.out HU.out
    · have HU : Hid (RdO w pb (.slice (some ⟨g, off + many, none⟩) (n - many) (cap - many)) (L.drop many)) := Or.inr ⟨g, off + many, cap - many, by rw [List.length_drop, HN.out], by rw [List.length_drop, HN.out]; omega, by have := HK2.out; omega, k3, k4, fun i hi => by
        rw [List.length_drop, HN.out] at hi
        have := HC.out (many + i) (by have := HN.out; omega)
        rw [show off + many + i = off + (many + i) by omega, this, List.getElem_drop]⟩
      have hcap' : ¬ many = cap := fun e => hcap e.symm
      clear k3 k4
      go_enter Try.func88, Try.ntmps88
      go_wp2
      go_ret
      exact HKEY.out _ _ HR1.out HNE.out HU.out

set_option maxRecDepth 100000 in
set_option maxHeartbeats 1000000 in
theorem takeC (pb least : Nat) (f : Int) (L : List UInt8) (w : World) (hls : 1 ≤ least) (hl9 : least ≤ 9223372036854775807) (hL : L.length ≤ 1000000000) (h : RS w pb L f) : Calls Try.prog 84 #[.pointer (some ⟨pb, 0, none⟩), .int .i64 (least : Int)] w (TPost w pb f (outC least L)) := by
  have HS : Hid (RS w pb L f) := h
  clear h
  unfold outC tkC
  rcases htk : tk 0 0 L with ⟨n, R⟩ | k
  · obtain ⟨hn, hR⟩ := tk_le L 0 0 n R (by omega) (by omega) htk
    have HTK : Hid (tk 0 0 L = .ok n R) := htk
    clear htk
    obtain ⟨q, hq⟩ : ∃ q, R.length / least = q := ⟨_, rfl⟩
    have HQ : Hid ((R.length : Int) / (least : Int) = (q : Int)) := by show _ = _; rw [← hq]; simp
    have HQ2 : Hid ((R.length : Int).tdiv (least : Int) = (q : Int)) := by show _ = _; rw [← hq]; simp [Int.tdiv_eq_ediv_of_nonneg]
    have hq9 : q ≤ R.length := by rw [← hq]; exact Nat.div_le_self _ _
    have hq0 : (R.length : Int).tdiv (least : Int) = (q : Int) := HQ2.out
    have hl0 : ((least : Int) == 0) = false := by simp; omega
    dsimp only
    rw [hq]
    by_cases hlt : q < n
    · rw [if_pos hlt]
      go_enter Try.func84, Try.ntmps84
      go_wp2_with fail
      refine (take_any pb f L w HS.out).mono ?_
      intro e w2 hp
      rw [HTK.out] at hp
      obtain ⟨rfl, h2, h3⟩ := hp
      have H2 : Hid (RS w2 pb R f) := h2
      have H3 : Hid (w.grownBy w2 (some pb)) := h3.1
      obtain ⟨v, c0, c1, _, _, _, h6⟩ := h2
      obtain ⟨a6, c6, rfl⟩ : ∃ a c, v = .slice a R.length c := by
        rcases h6 with ⟨rfl, rfl⟩ | ⟨g, off, cap, rfl, _⟩
        · exact ⟨_, _, rfl⟩
        · exact ⟨_, _, rfl⟩
      clear h3 h6
      go_wp2_with fail
      refine (giveUp_any 20 w2).mono ?_
      rintro e w' ⟨rfl, rfl⟩
      exact ⟨rfl, rfl, ⟨_, H2.out⟩, H3.out⟩
    · rw [if_neg hlt]
      go_enter Try.func84, Try.ntmps84
      go_wp2_with fail
      refine (take_any pb f L w HS.out).mono ?_
      intro e w2 hp
      rw [HTK.out] at hp
      obtain ⟨rfl, h2, h3⟩ := hp
      have H2 : Hid (RS w2 pb R f) := h2
      have H3 : Hid (w.grownBy w2 (some pb)) := h3.1
      obtain ⟨v, c0, c1, _, _, _, h6⟩ := h2
      obtain ⟨a6, c6, rfl⟩ : ∃ a c, v = .slice a R.length c := by
        rcases h6 with ⟨rfl, rfl⟩ | ⟨g, off, cap, rfl, _⟩
        · exact ⟨_, _, rfl⟩
        · exact ⟨_, _, rfl⟩
      clear h3 h6
      go_wp2
      go_ret
      exact ⟨_, rfl, rfl, H2.out, H3.out⟩
  · have HTK : Hid (tk 0 0 L = .err k) := htk
    clear htk
    go_enter Try.func84, Try.ntmps84
    go_wp2_with fail
    refine (take_any pb f L w HS.out).mono ?_
    intro e w2 hp
    rw [HTK.out] at hp
    obtain ⟨rfl, h2, h3⟩ := hp
    exact ⟨rfl, rfl, h2, h3.1⟩

set_option maxRecDepth 100000 in
theorem tkC_le {L R : List UInt8} {n : Nat} (h : tkC 1 L = .ok n R) : n ≤ R.length ∧ R.length < L.length := by
  unfold tkC at h
  rcases htk : tk 0 0 L with ⟨m, S⟩ | k
  · rw [htk] at h
    dsimp only at h
    split at h
    · cases h
    · injection h with h1 h2
      subst h1 h2
      rename_i hq
      rw [Nat.div_one] at hq
      exact ⟨by omega, (tk_le L 0 0 m S (by omega) (by omega) htk).2⟩
  · rw [htk] at h; cases h

set_option maxRecDepth 100000 in
set_option maxHeartbeats 1000000 in
theorem takeT (pb : Nat) (f : Int) (L : List UInt8) (w : World) (hL : L.length ≤ 1000000000) (h : RS w pb L f) : Calls Try.prog 79 #[.pointer (some ⟨pb, 0, none⟩)] w (TPost w pb f (outT L)) := by
  have HC : Hid (Calls Try.prog 84 #[.pointer (some ⟨pb, 0, none⟩), .int .i64 1] w (TPost w pb f (outC 1 L))) := takeC pb 1 f L w (by omega) (by omega) hL h
  clear h
  unfold outT
  rcases htk : tkC 1 L with ⟨n, R⟩ | k
  · obtain ⟨hn, hR⟩ := tkC_le htk
    have HTK : Hid (outC 1 L = .ok (fun v _ => v = .int .i64 (n : Int)) R) := by show _ = _; unfold outC; rw [htk]
    clear htk
    go_enter Try.func79, Try.ntmps79
    go_wp2_with fail
    refine HC.out.mono ?_
    intro e w2 hp
    rw [HTK.out] at hp
    obtain ⟨v, rfl, rfl, h2, h3⟩ := hp
    have H3 : Hid (w.grownBy w2 (some pb)) := h3
    have H2 : Hid (RS w2 pb R f) := h2
    clear h2 h3
    go_wp2_with fail
    refine (part_many pb n R f w2 H2.out hn).mono ?_
    rintro e w3 ⟨v3, rfl, hrd, hrs, hon⟩
    obtain ⟨T, hT⟩ : ∃ T, R.take n = T := ⟨_, rfl⟩
    rw [hT] at hrd
    have HT : Hid (R.take n = T) := hT
    have cv3 := hrd.str
    obtain ⟨m3, a3, c3, hv3⟩ : ∃ m a c, v3 = .slice a m c := by
      rcases hrd with ⟨rfl, h0⟩ | ⟨b, off, cap, rfl, _⟩
      · exact ⟨_, _, _, rfl⟩
      · exact ⟨_, _, _, rfl⟩
    subst hv3
    clear hT
    have HR : Hid (RS w3 pb (R.drop n) f) := hrs
    have HK : Hid (w.grownBy w3 (some pb)) := grow_trans H3.out hon.1
    clear hrd hrs hon
    go_wp2
    go_ret
    exact ⟨_, rfl, by rw [HT.out]; rfl, HR.out, HK.out⟩
  · have HTK : Hid (outC 1 L = .err k) := by show _ = _; unfold outC; rw [htk]
    clear htk
    go_enter Try.func79, Try.ntmps79
    go_wp2_with fail
    refine HC.out.mono ?_
    intro e w2 hp
    rw [HTK.out] at hp
    obtain ⟨rfl, h2, h3⟩ := hp
    exact ⟨rfl, rfl, h2, h3⟩
end Go.Proofs.Ytjdcoiekbnefkab
