/- What the document takes up, put together; lists. -/
import Derived.Test.YtjdcoiekbnefkabKRefX
namespace Go.Proofs.Ytjdcoiekbnefkab
open Go.RowKit
set_option linter.unusedVariables false

theorem tk_nz {L : List UInt8} : ∀ {i n : Nat} {k : Int}, tk i n L = .err k → (k == 0) = false := by
  induction L with
  | nil => intro i n k h; unfold tk at h; injection h with h; subst h; rfl
  | cons c L ih =>
    intro i n k h
    unfold tk at h
    split at h
    · injection h with h; subst h; rfl
    · split at h
      · cases h
      · exact ih h

theorem tint_ok (W : WG) (a : Option Addr) (c : Nat) (L : List UInt8) (w : World) (hW : TG W w) (hR : RG W (.slice a L.length c) L) :
    Calls Try.prog 54 #[.agg #[.slice a L.length c, .int .i64 0]] w (DPost W w (.int .i64 0) (outI L)) := by
  have HC : ∀ V, Below w.heap.size w V → Calls Try.prog 52 #[.agg #[.slice a L.length c, .int .i64 0]] V (DPost W V (.int .u64 0) (outU L)) := fun V hb => tuint_ok W a c L V (hW.next hb) hR
  unfold outI
  unfold outU at HC
  rcases htk : tk 0 0 L with ⟨m, R⟩ | k
  · rw [htk] at HC
    exact tint_okOf W a L.length c 0 m R w (tk_le L 0 0 m R (by omega) (by omega) htk).1 HC
  · rw [htk] at HC
    exact tint_errOf W a L.length c 0 k w HC
theorem tint_fail (W : WG) (a : Option Addr) (n c : Nat) (f : Int) (w : World) (hf : (f == 0) = false) :
    Calls Try.prog 54 #[.agg #[.slice a n c, .int .i64 f]] w (DPost W w (.int .i64 0) (.err f)) := tint_errOf W a n c f f w (fun V _ => tuint_fail W a n c f V hf)
theorem tflag_ok (W : WG) (a : Option Addr) (c : Nat) (L : List UInt8) (w : World) (hW : TG W w) (hR : RG W (.slice a L.length c) L) :
    Calls Try.prog 56 #[.agg #[.slice a L.length c, .int .i64 0]] w (DPost W w (.bool false) (outF L)) := by
  have HC : ∀ V, Below w.heap.size w V → Calls Try.prog 71 #[.agg #[.slice a L.length c, .int .i64 0]] V (DPost W V (.int .u8 0) (outB L)) := fun V hb => byte_ok W a c L V (hW.next hb) hR
  cases L with
  | nil => exact tflag_errOf W a 0 c 0 20 w HC
  | cons d R => exact tflag_okOf W a (R.length + 1) c 0 d R w HC
theorem tflag_fail (W : WG) (a : Option Addr) (n c : Nat) (f : Int) (w : World) (hf : (f == 0) = false) :
    Calls Try.prog 56 #[.agg #[.slice a n c, .int .i64 f]] w (DPost W w (.bool false) (.err f)) := tflag_errOf W a n c f f w (fun V _ => byte_fail W a n c f V hf)
theorem tcount_ok (W : WG) (a : Option Addr) (c : Nat) (L : List UInt8) (ls : Int) (lsn : Nat) (w : World) (hW : TG W w) (hR : RG W (.slice a L.length c) L) (hls : (ls < 1 ∧ lsn = 1) ∨ (1 ≤ ls ∧ ls = (lsn : Int))) (hl9 : 1 ≤ lsn ∧ lsn ≤ 9223372036854775807) (hlb : -9223372036854775808 ≤ ls ∧ ls ≤ 9223372036854775807) (hL : L.length ≤ 1000000000) :
    Calls Try.prog 63 #[.agg #[.slice a L.length c, .int .i64 0], .int .i64 ls] w (DPost W w (.int .i64 0) (outC lsn L)) := by
  have HC : ∀ V, Below w.heap.size w V → Calls Try.prog 52 #[.agg #[.slice a L.length c, .int .i64 0]] V (DPost W V (.int .u64 0) (outU L)) := fun V hb => tuint_ok W a c L V (hW.next hb) hR
  unfold outC tkC
  unfold outU at HC
  rcases htk : tk 0 0 L with ⟨m, R⟩ | k
  · rw [htk] at HC
    have hle := tk_le L 0 0 m R (by omega) (by omega) htk
    have := tcount_okOf W a L.length c 0 ls lsn m R w hls hl9 hle.1 (by omega) HC
    dsimp only
    by_cases h : R.length / lsn < m
    · rw [if_pos h]
      rw [if_pos h] at this
      exact this
    · rw [if_neg h]
      rw [if_neg h] at this
      exact this
  · rw [htk] at HC
    exact tcount_errOf W a L.length c 0 ls k w hlb HC
theorem tcount_fail (W : WG) (a : Option Addr) (n c : Nat) (f : Int) (ls : Int) (w : World) (hlb : -9223372036854775808 ≤ ls ∧ ls ≤ 9223372036854775807) (hf : (f == 0) = false) :
    Calls Try.prog 63 #[.agg #[.slice a n c, .int .i64 f], .int .i64 ls] w (DPost W w (.int .i64 0) (.err f)) := tcount_errOf W a n c f ls f w hlb (fun V _ => tuint_fail W a n c f V hf)
theorem ttext_ok (W : WG) (a : Option Addr) (c : Nat) (L : List UInt8) (w : World) (hW : TG W w) (hR : RG W (.slice a L.length c) L) (hL : L.length ≤ 1000000000) :
    Calls Try.prog 58 #[.agg #[.slice a L.length c, .int .i64 0]] w (DPost W w (.string ⟨#[]⟩) (outT L)) := by
  have HC : ∀ V, Below w.heap.size w V → Calls Try.prog 63 #[.agg #[.slice a L.length c, .int .i64 0], .int .i64 1] V (DPost W V (.int .i64 0) (outC 1 L)) := fun V hb => tcount_ok W a c L 1 1 V (hW.next hb) hR (Or.inr ⟨by omega, rfl⟩) (by omega) (by omega) hL
  unfold outT
  unfold outC at HC
  rcases htk : tkC 1 L with ⟨m, R⟩ | k
  · rw [htk] at HC
    have hle := tkC_le htk
    exact ttext_okOf W a L.length c 0 m R w hle.1 (by omega) hW HC
  · rw [htk] at HC
    exact ttext_errOf W a L.length c 0 k w HC
theorem ttext_fail (W : WG) (a : Option Addr) (n c : Nat) (f : Int) (w : World) (hf : (f == 0) = false) :
    Calls Try.prog 58 #[.agg #[.slice a n c, .int .i64 f]] w (DPost W w (.string ⟨#[]⟩) (.err f)) := ttext_errOf W a n c f f w (fun V _ => tcount_fail W a n c f 1 V (by omega) hf)

/-- a slice of numbers in blocks from base on -/
def NSB (w : World) (base : Nat) (v : Value) (l : List Int) : Prop := NSl w v l ∧ ∀ x n c, v = .slice (some x) n c → base ≤ x.block
def outLB (base : Nat) (L : List UInt8) : Out := match tkC 1 L with
  | .ok n R => (match tkN n [] R with | .ok l R' => .ok (fun v w' => NSB w' base v l) R' | .err k => .err k)
  | .err k => .err k
theorem cell_new1 (V : World) (n : Nat) (h : V.heap.size = n) (x : Value) (t : TypeId) : (V.alloc (.cells #[x] t)).cell? ⟨n, 0 + 0, none⟩ = some x := by
  subst h
  simp
/-- numbers of the call's own -/
def IOw (w : World) (base : Nat) (v : Value) (l : List Int) : Prop := w.ownsRow base 2 1 v l.length (l.map fun x => Value.int .i64 x)
theorem ione (l : List Int) : ∀ u ∈ (l.map fun x => Value.int .i64 x), u.oneCell' = true := by
  intro u hu
  obtain ⟨_, _, rfl⟩ := List.mem_map.1 hu
  rfl
theorem IOw.below {w w' : World} {base : Nat} {v : Value} {l : List Int} (h : IOw w base v l) (hb : Below w.heap.size w w') : IOw w' base v l := by
  have hlt := World.ownsRow.lt h
  obtain ⟨h1, h2⟩ := h
  refine ⟨h1, ?_⟩
  rcases h2 with h2 | ⟨g, cap, cur, e1, e2, e3, e4⟩
  · exact Or.inl h2
  · exact Or.inr ⟨g, cap, cur, e1, e2, (hb.block g (hlt g (by rw [e1]; rfl)).2).trans e3, e4⟩
theorem IOw.set {w : World} {base : Nat} {v : Value} {l : List Int} (h : IOw w base v l) (p : Addr) (hp : p.block < base) (u : Value) : IOw (w.setCell p u) base v l := ownsRow_setCell_below h hp u
theorem IOw.form {w : World} {base : Nat} {v : Value} {l : List Int} (h : IOw w base v l) : ∃ a c, v = .slice a l.length c := by
  rcases h.2 with ⟨h, h0⟩ | ⟨g, cap, _, h, _⟩
  · exact ⟨none, 0, by rw [h0]; exact h⟩
  · exact ⟨_, _, h⟩
theorem IOw.nsl {w : World} {base : Nat} {v : Value} {l : List Int} (h : IOw w base v l) (hz : ∀ n ∈ l, -9223372036854775808 ≤ n ∧ n ≤ 9223372036854775807) : NSl w v l := by
  have hlt := World.ownsRow.lt h
  have hce := fun g => World.ownsRow.cells h (g := g)
  rcases h.2 with ⟨h1, h0⟩ | ⟨g, cap, cur, e1, e2, e3, e4, e5, _⟩
  · exact ⟨none, 0, by rw [h0]; exact h1, by omega, Nat.zero_le _, hz, fun h => by omega⟩
  · refine ⟨_, cap, e1, e4, e5, hz, fun _ => ⟨g, 0, rfl, (hlt g (by rw [e1]; rfl)).2, fun i hi => ?_⟩⟩
    have := hce g (by rw [e1]; rfl) i (.int .i64 l[i]) (by rw [List.getElem?_map, List.getElem?_eq_getElem hi]; rfl)
    rw [addn, Nat.zero_add] at this
    rw [Nat.zero_add]
    exact this
set_option maxRecDepth 100000 in
set_option maxHeartbeats 4000000 in
theorem tints_errOf (W : WG) (a : Option Addr) (n c : Nat) (f : Int) (k : Int) (w : World) (HC : Hid (∀ V, Below w.heap.size w V → Calls Try.prog 63 #[.agg #[.slice a n c, .int .i64 f], .int .i64 1] V (DPost W V (.int .i64 0) (.err k)))) :
    Calls Try.prog 60 #[.agg #[.slice a n c, .int .i64 f]] w (DPost W w (.slice none 0 0) (.err k)) := by
  obtain ⟨out, hout⟩ : ∃ o : Out, (.err k) = o := ⟨_, rfl⟩
  have HOUT : Hid ((.err k) = out) := hout
  rw [hout]
  clear hout
  have HBV : Hid (Below w.heap.size w ((w.alloc (.cells #[.slice a n c, .int .i64 f] 43)).alloc (.cells #[.slice none 0 0, .int .i64 0] 43))) := ((Below.refl _ _).alloc (Nat.le_refl _) _).alloc (by simp) _
  have HT1 : Hid (Two ((w.alloc (.cells #[.slice a n c, .int .i64 f] 43)).alloc (.cells #[.slice none 0 0, .int .i64 0] 43)) w.heap.size (.slice a n c) (.int .i64 f)) := (Two.new w w.heap.size rfl (.slice a n c) (.int .i64 f) 43).keep (Below.heap_alloc _ _ _ (by simp))
  have HT2 : Hid (Two ((w.alloc (.cells #[.slice a n c, .int .i64 f] 43)).alloc (.cells #[.slice none 0 0, .int .i64 0] 43)) (w.heap.size + 1) (.slice none 0 0) (.int .i64 0)) := Two.new _ _ (by simp) _ _ _
  go_enter Try.func60, Try.ntmps60
  go_wp2_with fail
  refine (HC.out _ HBV.out).mono ?_
  rintro e w2 ⟨a3, n3, c3, rfl, hk, hb3⟩
  have HK : Hid ((k == 0) = false) := hk
  have hk0 : ¬ k = 0 := by intro e; rw [e] at hk; exact absurd hk (by decide)
  have T1 := HT1.out.keep (hb3.block _ HT1.out.lt)
  have T2 := HT2.out.keep (hb3.block _ HT2.out.lt)
  obtain ⟨x0, x1, x2, x3⟩ := id T1
  have HT1' : Hid (Two ((w2.setCell ⟨w.heap.size, 0, none⟩ (.slice a3 n3 c3)).setCell ⟨w.heap.size, 1, none⟩ (.int .i64 k)) w.heap.size (.slice a3 n3 c3) (.int .i64 k)) := (T1.set0 _).set1 _
  have HT2' : Hid (Two ((w2.setCell ⟨w.heap.size, 0, none⟩ (.slice a3 n3 c3)).setCell ⟨w.heap.size, 1, none⟩ (.int .i64 k)) (w.heap.size + 1) (.slice none 0 0) (.int .i64 0)) := (T2.other (by omega) _).other (by omega) _
  have HB2 : Hid (Below w.heap.size w ((w2.setCell ⟨w.heap.size, 0, none⟩ (.slice a3 n3 c3)).setCell ⟨w.heap.size, 1, none⟩ (.int .i64 k))) := ((HBV.out.trans (hb3.mono HBV.out.size)).setCell (p := ⟨w.heap.size, 0, none⟩) (Nat.le_refl _) _).setCell (p := ⟨w.heap.size, 1, none⟩) (Nat.le_refl _) _
  obtain ⟨v0, v1, v2, v3⟩ := HT1'.out
  obtain ⟨u0, u1, u2, u3⟩ := HT2'.out
  clear hb3 T1 T2
  clear hk
  go_wp2
  go_rounds 1
  go_wp2
  have T9 := (HT2'.out.set0 (.slice a3 n3 c3)).set1 (.int .i64 k)
  refine bodyPost_ret (ret_rd Try.results60 _ (w.heap.size + 1) rfl _ T9.c0 T9.c1) rfl ?_
  rw [← HOUT.out]
  exact ⟨a3, n3, c3, rfl, HK.out, (HB2.out.setCell (p := ⟨w.heap.size + 1, 0, none⟩) (Nat.le_succ _) _).setCell (p := ⟨w.heap.size + 1, 1, none⟩) (Nat.le_succ _) _⟩

set_option maxRecDepth 100000 in
set_option maxHeartbeats 4000000 in
theorem tints_okOf (W : WG) (a : Option Addr) (n c : Nat) (f : Int) (m : Nat) (R : List UInt8) (w : World) (hm : m ≤ R.length) (hRl : R.length ≤ 1000000000) (hW : TG W w) (HC : Hid (∀ V, Below w.heap.size w V → Calls Try.prog 63 #[.agg #[.slice a n c, .int .i64 f], .int .i64 1] V (DPost W V (.int .i64 0) (.ok (fun v _ => v = .int .i64 (m : Int)) R)))) :
    Calls Try.prog 60 #[.agg #[.slice a n c, .int .i64 f]] w (DPost W w (.slice none 0 0) (match tkN m [] R with | .ok l R' => Out.ok (fun v w' => NSB w' w.heap.size v l) R' | .err k => .err k)) := by
  obtain ⟨out, hout⟩ : ∃ o : Out, (match tkN m [] R with | .ok l R' => Out.ok (fun v w' => NSB w' w.heap.size v l) R' | .err k => .err k) = o := ⟨_, rfl⟩
  have HOUT : Hid ((match tkN m [] R with | .ok l R' => Out.ok (fun v w' => NSB w' w.heap.size v l) R' | .err k => .err k) = out) := hout
  rw [hout]
  clear hout
  have HBV : Hid (Below w.heap.size w ((w.alloc (.cells #[.slice a n c, .int .i64 f] 43)).alloc (.cells #[.slice none 0 0, .int .i64 0] 43))) := ((Below.refl _ _).alloc (Nat.le_refl _) _).alloc (by simp) _
  have HT1 : Hid (Two ((w.alloc (.cells #[.slice a n c, .int .i64 f] 43)).alloc (.cells #[.slice none 0 0, .int .i64 0] 43)) w.heap.size (.slice a n c) (.int .i64 f)) := (Two.new w w.heap.size rfl (.slice a n c) (.int .i64 f) 43).keep (Below.heap_alloc _ _ _ (by simp))
  have HT2 : Hid (Two ((w.alloc (.cells #[.slice a n c, .int .i64 f] 43)).alloc (.cells #[.slice none 0 0, .int .i64 0] 43)) (w.heap.size + 1) (.slice none 0 0) (.int .i64 0)) := Two.new _ _ (by simp) _ _ _
  go_enter Try.func60, Try.ntmps60
  go_wp2_with fail
  refine (HC.out _ HBV.out).mono ?_
  rintro e w2 ⟨a3, c3, vv, rfl, hr3, rfl, hb3⟩
  obtain ⟨rl, hrl⟩ : ∃ rl, R.length = rl := ⟨_, rfl⟩
  have HRL : Hid (R.length = rl) := hrl
  have HR3 : Hid (RG W (.slice a3 R.length c3) R) := hr3
  rw [hrl]
  have T1 := HT1.out.keep (hb3.block _ HT1.out.lt)
  have T2 := HT2.out.keep (hb3.block _ HT2.out.lt)
  obtain ⟨x0, x1, x2, x3⟩ := id T1
  have HT1' : Hid (Two ((w2.setCell ⟨w.heap.size, 0, none⟩ (.slice a3 rl c3)).setCell ⟨w.heap.size, 1, none⟩ (.int .i64 0)) w.heap.size (.slice a3 rl c3) (.int .i64 0)) := (T1.set0 _).set1 _
  have HT2' : Hid (Two ((w2.setCell ⟨w.heap.size, 0, none⟩ (.slice a3 rl c3)).setCell ⟨w.heap.size, 1, none⟩ (.int .i64 0)) (w.heap.size + 1) (.slice none 0 0) (.int .i64 0)) := (T2.other (by omega) _).other (by omega) _
  have HB2 : Hid (Below w.heap.size w ((w2.setCell ⟨w.heap.size, 0, none⟩ (.slice a3 rl c3)).setCell ⟨w.heap.size, 1, none⟩ (.int .i64 0))) := ((HBV.out.trans (hb3.mono HBV.out.size)).setCell (p := ⟨w.heap.size, 0, none⟩) (Nat.le_refl _) _).setCell (p := ⟨w.heap.size, 1, none⟩) (Nat.le_refl _) _
  obtain ⟨v0, v1, v2, v3⟩ := HT1'.out
  obtain ⟨u0, u1, u2, u3⟩ := HT2'.out
  clear hb3 T1 T2
  have hRl2 : R.length ≤ 1000000000 := hRl
  clear hr3 hrl
  obtain ⟨i0, hi, hz0, hz1, hz2⟩ := info_parts info2
  have hm9 : m ≤ 1000000000 := by omega
  have HSZ : Hid (w.heap.size + 2 ≤ ((w2.setCell ⟨w.heap.size, 0, none⟩ (.slice a3 rl c3)).setCell ⟨w.heap.size, 1, none⟩ (.int .i64 0)).heap.size) := HT2'.out.lt
  have HSA : Hid (R.length ≤ 1000000000 ∧ RG W (.slice a3 R.length c3) R ∧ Two ((w2.setCell ⟨w.heap.size, 0, none⟩ (.slice a3 rl c3)).setCell ⟨w.heap.size, 1, none⟩ (.int .i64 0)) w.heap.size (.slice a3 R.length c3) (.int .i64 0) ∧ (match tkN (m - 0) [] R with | .ok l R' => Out.ok (fun v w' => NSB w' w.heap.size v l) R' | .err k => .err k) = out) := ⟨hRl2, HR3.out, by rw [HRL.out]; exact HT1'.out, HOUT.out⟩
  go_wp2
  go_loopw [5, 6] (fun lv iv wr => ∃ (j : Nat) (xs : List Int) (la : Option Addr) (lc : Nat) (z1 z2 : Value), iv = .int .i64 (j : Int) ∧ lv = .slice la xs.length lc ∧ j ≤ m ∧ xs.length = j ∧ Hid (IOw wr (w.heap.size + 2) (.slice la xs.length lc) xs) ∧ Hid (∀ n ∈ xs, -9223372036854775808 ≤ n ∧ n ≤ 9223372036854775807) ∧ Hid (Two wr (w.heap.size + 1) z1 z2) ∧ Hid (Below w.heap.size w wr) ∧ Hid ((∃ M a4 c4, (M.length ≤ 1000000000 ∧ RG W (.slice a4 M.length c4) M ∧ Two wr w.heap.size (.slice a4 M.length c4) (.int .i64 0) ∧ (match tkN (m - j) xs M with | .ok l R' => Out.ok (fun v w' => NSB w' w.heap.size v l) R' | .err k => .err k) = out)) ∨ ∃ k a4 n4 c4, (k == 0) = false ∧ Two wr w.heap.size (.slice a4 n4 c4) (.int .i64 k) ∧ out = .err k)) (fun _ iv _ => m - (intOf iv).toNat)
  case atStart => exact ⟨0, [], none, 0, _, _, rfl, rfl, Nat.zero_le _, rfl, World.ownsRow_nil _ _ _ _, fun n hn => (by cases hn), HT2', HB2, Or.inl ⟨R, a3, c3, HSA.out⟩⟩
  case round =>
    obtain ⟨j, xs, la, lc, z1, z2, rfl, rfl, hj, hxl, HIO, HZ, HU, HB, HST⟩ := hrel
    have HXL : Hid (xs.length = j) := hxl
    rw [hxl] at HIO ⊢
    have hlt2 := HU.out.lt
    clear hxl v0 v1 v2 v3 u0 u1 u2 u3 x0 x1 x2 x3
    rcases HST.out with ⟨M, a4, c4, hMl, hRM, hT, htk⟩ | ⟨k, a4, n4, c4, hk, hT, hout⟩
    · obtain ⟨ml, hml⟩ : ∃ ml, M.length = ml := ⟨_, rfl⟩
      have HML : Hid (M.length = ml) := hml
      have HTM : Hid (Two wr w.heap.size (.slice a4 ml c4) (.int .i64 0)) := by rw [← hml]; exact hT
      obtain ⟨y0, y1, y2, y3⟩ := HTM.out
      have HTK : Hid ((match tkN (m - j) xs M with | .ok l R' => Out.ok (fun v w' => NSB w' w.heap.size v l) R' | .err k => .err k) = out) := htk
      have HRM : Hid (RG W (.slice a4 M.length c4) M) := hRM
      have hlt1 := HTM.out.lt
      by_cases hjm : j < m
      · have HCI : Hid (Calls Try.prog 54 #[.agg #[.slice a4 ml c4, .int .i64 0]] wr (DPost W wr (.int .i64 0) (outI M))) := by
          rw [← hml]
          exact tint_ok W a4 c4 M wr (hW.next HB.out) hRM
        have hnj : m - j = (m - (j + 1)) + 1 := by omega
        clear hT htk hRM hml
        rcases htk : tk 0 0 M with ⟨m2, M2⟩ | k
        · obtain ⟨hm2, hM2⟩ := tk_le M 0 0 m2 M2 (by omega) (by omega) htk
          have HTI : Hid (outI M = .ok (fun v _ => v = .int .i64 (zag m2)) M2) := by show _ = _; unfold outI; rw [htk]
          have HT2 : Hid ((match tkN (m - (j + 1)) (xs ++ [zag m2]) M2 with | .ok l R' => Out.ok (fun v w' => NSB w' w.heap.size v l) R' | .err k => .err k) = out) := by
            show _ = _
            rw [← HTK.out, hnj]
            conv => rhs; unfold tkN
            rw [htk]
          have HZ2 : Hid (∀ z ∈ xs ++ [zag m2], -9223372036854775808 ≤ z ∧ z ≤ 9223372036854775807) := by
            intro z hz
            rcases List.mem_append.1 hz with hz | hz
            · exact HZ.out z hz
            · simp at hz; subst hz; exact zag_in m2 hm2
          have hM29 : M2.length ≤ 1000000000 := by omega
          obtain ⟨zm, hzm⟩ : ∃ zm, zag m2 = zm := ⟨_, rfl⟩
          rw [hzm] at HTI HT2 HZ2
          clear htk hzm hnj
          go_wp2_with fail
          refine HCI.out.mono ?_
          rw [HTI.out]
          rintro e w5 ⟨a5, c5, vv, rfl, hr5, rfl, hb5⟩
          obtain ⟨r5, hr5l⟩ : ∃ r5, M2.length = r5 := ⟨_, rfl⟩
          have HR5L : Hid (M2.length = r5) := hr5l
          have HR5 : Hid (RG W (.slice a5 M2.length c5) M2) := hr5
          rw [hr5l]
          have T1 := HTM.out.keep (hb5.block _ hlt1)
          have T2 := HU.out.keep (hb5.block _ hlt2)
          obtain ⟨x0, x1, x2, x3⟩ := id T1
          have HT1'' : Hid (Two ((w5.setCell ⟨w.heap.size, 0, none⟩ (.slice a5 r5 c5)).setCell ⟨w.heap.size, 1, none⟩ (.int .i64 0)) w.heap.size (.slice a5 r5 c5) (.int .i64 0)) := (T1.set0 _).set1 _
          have HT2'' : Hid (Two ((w5.setCell ⟨w.heap.size, 0, none⟩ (.slice a5 r5 c5)).setCell ⟨w.heap.size, 1, none⟩ (.int .i64 0)) (w.heap.size + 1) z1 z2) := (T2.other (by omega) _).other (by omega) _
          have HB5 : Hid (Below w.heap.size w ((w5.setCell ⟨w.heap.size, 0, none⟩ (.slice a5 r5 c5)).setCell ⟨w.heap.size, 1, none⟩ (.int .i64 0))) := ((HB.out.trans (hb5.mono HB.out.size)).setCell (p := ⟨w.heap.size, 0, none⟩) (Nat.le_refl _) _).setCell (p := ⟨w.heap.size, 1, none⟩) (Nat.le_refl _) _
          have HIA : Hid (∀ o, (((w5.setCell ⟨w.heap.size, 0, none⟩ (.slice a5 r5 c5)).setCell ⟨w.heap.size, 1, none⟩ (.int .i64 0)).alloc o).ownsRow (w.heap.size + 2) 2 1 (.slice la j lc) j (xs.map fun x => Value.int .i64 x)) := by
            intro o
            have h9 : IOw w5 (w.heap.size + 2) (.slice la j lc) xs := HIO.out.below hb5
            have h8 := World.ownsRow.alloc ((h9.set ⟨w.heap.size, 0, none⟩ (by show w.heap.size < _; omega) (.slice a5 r5 c5)).set ⟨w.heap.size, 1, none⟩ (by show w.heap.size < _; omega) (.int .i64 0)) o
            rw [HXL.out] at h8
            exact h8
          have HS5 : Hid (w5.heap.size = ((w5.setCell ⟨w.heap.size, 0, none⟩ (.slice a5 r5 c5)).setCell ⟨w.heap.size, 1, none⟩ (.int .i64 0)).heap.size) := by show _ = _; rw [set_size, set_size]
          have hs5 : w.heap.size + 2 ≤ w5.heap.size := Nat.le_trans hlt2 hb5.size
          obtain ⟨v0, v1, v2, v3⟩ := HT1''.out
          obtain ⟨u0, u1, u2, u3⟩ := HT2''.out
          clear hb5 T1 T2 y0 y1 y2 y3
          go_wp2_with (at_builtin; refine wpList_append_own _ rfl _ _ 60 rfl (w.heap.size + 2) 2 i0 (.int .i64 0) 1 8 Try.underlying60 hi hz0 hz1 hz2 rfl (by decide) _ _ _ rfl (HIA.out _) ⟨w5.heap.size, 0, none⟩ 1 1 [.int .i64 zm] rfl rfl ?ga1 (ione [zm]) ?ga3 ?ga4 ?ga5 ?_)
          case ga1 =>
            intro q u hq
            match q, hq with
            | 0, hq => simp at hq; subst hq; rw [addn]; exact cell_new1 _ _ HS5.out.symm _ _
          case ga3 => unfold maxLen; omega
          case ga4 => omega
          case ga5 => simp [World.setCell]; omega
          intro v' w6 hown hgrow _
          have HIO6 : Hid (IOw w6 (w.heap.size + 2) v' (xs ++ [zm])) := by
            show World.ownsRow _ _ _ _ _ _ _
            rw [List.length_append, HXL.out, List.map_append]
            exact hown
          have hgb : Below (w.heap.size + 2) ((w5.setCell ⟨w.heap.size, 0, none⟩ (.slice a5 r5 c5)).setCell ⟨w.heap.size, 1, none⟩ (.int .i64 0)) w6 := (((Below.refl _ _).alloc (by rw [← HS5.out]; exact hs5) _).grown hgrow (by simp [World.setCell]; omega) (fun k hk => (World.ownsRow.lt (HIA.out (.cells #[] 2)) k hk).1))
          have HT16 : Hid (Two w6 w.heap.size (.slice a5 r5 c5) (.int .i64 0)) := HT1''.out.keep (hgb.block _ (by omega))
          have HT26 : Hid (Two w6 (w.heap.size + 1) z1 z2) := HT2''.out.keep (hgb.block _ (by omega))
          have HB6 : Hid (Below w.heap.size w w6) := HB5.out.trans (hgb.mono (by omega))
          obtain ⟨la6, lc6, hv6⟩ : ∃ a c, v' = .slice a (j + 1) c := by
            obtain ⟨a, c, h⟩ := HIO6.out.form
            rw [List.length_append, HXL.out] at h
            exact ⟨a, c, h⟩
          subst hv6
          clear hown hgrow hgb
          go_wp2
          go_roundw
          case rel => exact ⟨j + 1, xs ++ [zm], la6, lc6, _, _, by go_num, by rw [List.length_append, HXL.out]; rfl, by omega, by rw [List.length_append, HXL.out]; rfl, by rw [List.length_append, HXL.out]; exact HIO6, HZ2, HT26, HB6, Or.inl ⟨M2, a5, c5, hM29, HR5.out, by rw [HR5L.out]; exact HT16.out, HT2.out⟩⟩
          case measure => simp [intOf]; omega
        · have HTI : Hid (outI M = .err k) := by show _ = _; unfold outI; rw [htk]
          have hknz : (k == 0) = false := tk_nz htk
          have HOE : Hid (out = .err k) := by
            show _ = _
            rw [← HTK.out, hnj]
            unfold tkN
            rw [htk]
          have HZ2 : Hid (∀ z ∈ xs ++ [0], -9223372036854775808 ≤ z ∧ z ≤ 9223372036854775807) := by
            intro z hz
            rcases List.mem_append.1 hz with hz | hz
            · exact HZ.out z hz
            · simp at hz; subst hz; omega
          have HKN : Hid ((k == 0) = false) := hknz
          clear htk hnj hknz
          go_wp2_with fail
          refine HCI.out.mono ?_
          rw [HTI.out]
          rintro e w5 ⟨a5, r5, c5, rfl, hk5, hb5⟩
          clear hk5
          have T1 := HTM.out.keep (hb5.block _ hlt1)
          have T2 := HU.out.keep (hb5.block _ hlt2)
          obtain ⟨x0, x1, x2, x3⟩ := id T1
          have HT1'' : Hid (Two ((w5.setCell ⟨w.heap.size, 0, none⟩ (.slice a5 r5 c5)).setCell ⟨w.heap.size, 1, none⟩ (.int .i64 k)) w.heap.size (.slice a5 r5 c5) (.int .i64 k)) := (T1.set0 _).set1 _
          have HT2'' : Hid (Two ((w5.setCell ⟨w.heap.size, 0, none⟩ (.slice a5 r5 c5)).setCell ⟨w.heap.size, 1, none⟩ (.int .i64 k)) (w.heap.size + 1) z1 z2) := (T2.other (by omega) _).other (by omega) _
          have HB5 : Hid (Below w.heap.size w ((w5.setCell ⟨w.heap.size, 0, none⟩ (.slice a5 r5 c5)).setCell ⟨w.heap.size, 1, none⟩ (.int .i64 k))) := ((HB.out.trans (hb5.mono HB.out.size)).setCell (p := ⟨w.heap.size, 0, none⟩) (Nat.le_refl _) _).setCell (p := ⟨w.heap.size, 1, none⟩) (Nat.le_refl _) _
          have HIA : Hid (∀ o, (((w5.setCell ⟨w.heap.size, 0, none⟩ (.slice a5 r5 c5)).setCell ⟨w.heap.size, 1, none⟩ (.int .i64 k)).alloc o).ownsRow (w.heap.size + 2) 2 1 (.slice la j lc) j (xs.map fun x => Value.int .i64 x)) := by
            intro o
            have h9 : IOw w5 (w.heap.size + 2) (.slice la j lc) xs := HIO.out.below hb5
            have h8 := World.ownsRow.alloc ((h9.set ⟨w.heap.size, 0, none⟩ (by show w.heap.size < _; omega) (.slice a5 r5 c5)).set ⟨w.heap.size, 1, none⟩ (by show w.heap.size < _; omega) (.int .i64 k)) o
            rw [HXL.out] at h8
            exact h8
          have HS5 : Hid (w5.heap.size = ((w5.setCell ⟨w.heap.size, 0, none⟩ (.slice a5 r5 c5)).setCell ⟨w.heap.size, 1, none⟩ (.int .i64 k)).heap.size) := by show _ = _; rw [set_size, set_size]
          have hs5 : w.heap.size + 2 ≤ w5.heap.size := Nat.le_trans hlt2 hb5.size
          obtain ⟨v0, v1, v2, v3⟩ := HT1''.out
          obtain ⟨u0, u1, u2, u3⟩ := HT2''.out
          clear hb5 T1 T2 y0 y1 y2 y3
          go_wp2_with (at_builtin; refine wpList_append_own _ rfl _ _ 60 rfl (w.heap.size + 2) 2 i0 (.int .i64 0) 1 8 Try.underlying60 hi hz0 hz1 hz2 rfl (by decide) _ _ _ rfl (HIA.out _) ⟨w5.heap.size, 0, none⟩ 1 1 [.int .i64 0] rfl rfl ?gb1 (ione [0]) ?gb3 ?gb4 ?gb5 ?_)
          case gb1 =>
            intro q u hq
            match q, hq with
            | 0, hq => simp at hq; subst hq; rw [addn]; exact cell_new1 _ _ HS5.out.symm _ _
          case gb3 => unfold maxLen; omega
          case gb4 => omega
          case gb5 => simp [World.setCell]; omega
          intro v' w6 hown hgrow _
          have HIO6 : Hid (IOw w6 (w.heap.size + 2) v' (xs ++ [0])) := by
            show World.ownsRow _ _ _ _ _ _ _
            rw [List.length_append, HXL.out, List.map_append]
            exact hown
          have hgb : Below (w.heap.size + 2) ((w5.setCell ⟨w.heap.size, 0, none⟩ (.slice a5 r5 c5)).setCell ⟨w.heap.size, 1, none⟩ (.int .i64 k)) w6 := (((Below.refl _ _).alloc (by rw [← HS5.out]; exact hs5) _).grown hgrow (by simp [World.setCell]; omega) (fun k hk => (World.ownsRow.lt (HIA.out (.cells #[] 2)) k hk).1))
          have HT16 : Hid (Two w6 w.heap.size (.slice a5 r5 c5) (.int .i64 k)) := HT1''.out.keep (hgb.block _ (by omega))
          have HT26 : Hid (Two w6 (w.heap.size + 1) z1 z2) := HT2''.out.keep (hgb.block _ (by omega))
          have HB6 : Hid (Below w.heap.size w w6) := HB5.out.trans (hgb.mono (by omega))
          obtain ⟨la6, lc6, hv6⟩ : ∃ a c, v' = .slice a (j + 1) c := by
            obtain ⟨a, c, h⟩ := HIO6.out.form
            rw [List.length_append, HXL.out] at h
            exact ⟨a, c, h⟩
          subst hv6
          clear hown hgrow hgb
          go_wp2
          go_roundw
          case rel => exact ⟨j + 1, xs ++ [0], la6, lc6, _, _, by go_num, by rw [List.length_append, HXL.out]; rfl, by omega, by rw [List.length_append, HXL.out]; rfl, by rw [List.length_append, HXL.out]; exact HIO6, HZ2, HT26, HB6, Or.inr ⟨k, a5, r5, c5, HKN.out, HT16.out, HOE.out⟩⟩
          case measure => simp [intOf]; omega
      · have HOE : Hid (out = .ok (fun v w' => NSB w' w.heap.size v xs) M) := by
          show _ = _
          rw [← HTK.out, show m - j = 0 by omega]
          rfl
        have HNS : Hid (IOw wr (w.heap.size + 2) (.slice la j lc) xs) := HIO.out
        obtain ⟨u0, u1, u2, u3⟩ := HU.out
        clear hT htk hRM hml
        go_wp2
        have T9 := (HU.out.set0 (.slice a4 ml c4)).set1 (.int .i64 0)
        refine bodyPost_ret (ret_rd Try.results60 _ (w.heap.size + 1) rfl _ T9.c0 T9.c1) rfl ?_
        rw [HOE.out]
        refine ⟨a4, c4, _, (by rw [HML.out] <;> rfl), HRM.out, ?_, (HB.out.setCell (p := ⟨w.heap.size + 1, 0, none⟩) (Nat.le_succ _) _).setCell (p := ⟨w.heap.size + 1, 1, none⟩) (Nat.le_succ _) _⟩
        refine ⟨IOw.nsl ((HNS.out.set ⟨w.heap.size + 1, 0, none⟩ (by show w.heap.size + 1 < _; omega) _).set ⟨w.heap.size + 1, 1, none⟩ (by show w.heap.size + 1 < _; omega) _) HZ.out, fun x n9 c9 e9 => ?_⟩
        have h9 : Value.slice la j lc = .slice (some x) n9 c9 := e9
        have := (World.ownsRow.lt HNS.out x.block (by rw [h9]; rfl)).1
        omega
    · have hk0 : ¬ k = 0 := by intro e; rw [e] at hk; exact absurd hk (by decide)
      have HK : Hid ((k == 0) = false) := hk
      have HOE : Hid (out = .err k) := hout
      obtain ⟨y0, y1, y2, y3⟩ := hT
      obtain ⟨u0, u1, u2, u3⟩ := HU.out
      clear hout
      by_cases hjm : j < m
      · go_wp2
        have T9 := (HU.out.set0 (.slice a4 n4 c4)).set1 (.int .i64 k)
        refine bodyPost_ret (ret_rd Try.results60 _ (w.heap.size + 1) rfl _ T9.c0 T9.c1) rfl ?_
        rw [HOE.out]
        exact ⟨a4, n4, c4, rfl, HK.out, (HB.out.setCell (p := ⟨w.heap.size + 1, 0, none⟩) (Nat.le_succ _) _).setCell (p := ⟨w.heap.size + 1, 1, none⟩) (Nat.le_succ _) _⟩
      · go_wp2
        have T9 := (HU.out.set0 (.slice a4 n4 c4)).set1 (.int .i64 k)
        refine bodyPost_ret (ret_rd Try.results60 _ (w.heap.size + 1) rfl _ T9.c0 T9.c1) rfl ?_
        rw [HOE.out]
        exact ⟨a4, n4, c4, rfl, HK.out, (HB.out.setCell (p := ⟨w.heap.size + 1, 0, none⟩) (Nat.le_succ _) _).setCell (p := ⟨w.heap.size + 1, 1, none⟩) (Nat.le_succ _) _⟩

theorem tints_ok (W : WG) (a : Option Addr) (c : Nat) (L : List UInt8) (w : World) (hW : TG W w) (hR : RG W (.slice a L.length c) L) (hL : L.length ≤ 1000000000) :
    Calls Try.prog 60 #[.agg #[.slice a L.length c, .int .i64 0]] w (DPost W w (.slice none 0 0) (outLB w.heap.size L)) := by
  have HC : ∀ V, Below w.heap.size w V → Calls Try.prog 63 #[.agg #[.slice a L.length c, .int .i64 0], .int .i64 1] V (DPost W V (.int .i64 0) (outC 1 L)) := fun V hb => tcount_ok W a c L 1 1 V (hW.next hb) hR (Or.inr ⟨by omega, rfl⟩) (by omega) (by omega) hL
  unfold outLB
  unfold outC at HC
  rcases htk : tkC 1 L with ⟨m, R⟩ | k
  · rw [htk] at HC
    have hle := tkC_le htk
    exact tints_okOf W a L.length c 0 m R w hle.1 (by omega) hW HC
  · rw [htk] at HC
    exact tints_errOf W a L.length c 0 k w HC
theorem tints_fail (W : WG) (a : Option Addr) (n c : Nat) (f : Int) (w : World) (hf : (f == 0) = false) :
    Calls Try.prog 60 #[.agg #[.slice a n c, .int .i64 f]] w (DPost W w (.slice none 0 0) (.err f)) := tints_errOf W a n c f f w (fun V _ => tcount_fail W a n c f 1 V (by omega) hf)
end Go.Proofs.Ytjdcoiekbnefkab
