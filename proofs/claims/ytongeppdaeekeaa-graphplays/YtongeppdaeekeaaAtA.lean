/- The kinds of rows of logs; the first thing in a list of which something is so. -/
import Derived.Test.YtongeppdaeekeaaRow
import Derived.StillTailTactics
namespace Go.Proofs.Ytongeppdaeekeaa
open Go.RowKit Go.Maps
set_option linter.unusedVariables false

def tri (z : Int × Int × Int) : List Value := [.int .i64 z.1, .int .i64 z.2.1, .int .i64 z.2.2]
def duo (z : Int × Int) : List Value := [.int .i64 z.1, .int .i64 z.2]
def uno (z : Int) : List Value := [.int .i64 z]
theorem tri_one (z : Int × Int × Int) : ∀ u ∈ tri z, u.oneCell' = true := by intro u hu; simp [tri] at hu; rcases hu with rfl | rfl | rfl <;> rfl
theorem duo_one (z : Int × Int) : ∀ u ∈ duo z, u.oneCell' = true := by intro u hu; simp [duo] at hu; rcases hu with rfl | rfl <;> rfl
theorem uno_one (z : Int) : ∀ u ∈ uno z, u.oneCell' = true := by intro u hu; simp [uno] at hu; subst hu; rfl
/-- reads of a log -/
def kR : RK (Int × Int × Int) := { st := 54, et := 57, k := 3, bytes := 24, cl := tri, len := fun _ => rfl, one := tri_one, pos := by decide, zero := .agg #[.int .i64 0, .int .i64 0, .int .i64 0], und := Try.underlying54, inf := by kernel_rfl, zs := rfl, bd := by decide }
/-- cells -/
def kC : RK (Int × Int) := { st := 32, et := 120, k := 2, bytes := 16, cl := duo, len := fun _ => rfl, one := duo_one, pos := by decide, zero := .agg #[.int .i64 0, .int .i64 0], und := Try.underlying32, inf := by kernel_rfl, zs := rfl, bd := by decide }
/-- numbers -/
def kN : RK (Int) := { st := 26, et := 2, k := 1, bytes := 8, cl := uno, len := fun _ => rfl, one := uno_one, pos := by decide, zero := .int .i64 0, und := Try.underlying26, inf := by kernel_rfl, zs := rfl, bd := by decide }
/-- the document's reads -/
def kQ : RK (Int × Int × Int) := { st := 31, et := 107, k := 3, bytes := 24, cl := tri, len := fun _ => rfl, one := tri_one, pos := by decide, zero := .agg #[.int .i64 0, .int .i64 0, .int .i64 0], und := Try.underlying31, inf := by kernel_rfl, zs := rfl, bd := by decide }
/-- what went into reductions -/
def kI : RK (Int × Int) := { st := 33, et := 152, k := 2, bytes := 16, cl := duo, len := fun _ => rfl, one := duo_one, pos := by decide, zero := .agg #[.int .i64 0, .int .i64 0], und := Try.underlying33, inf := by kernel_rfl, zs := rfl, bd := by decide }
/-- reductions -/
def kD : RK (Int × Int) := { st := 22, et := 40, k := 2, bytes := 16, cl := duo, len := fun _ => rfl, one := duo_one, pos := by decide, zero := .agg #[.int .i64 0, .int .i64 0], und := Try.underlying22, inf := by kernel_rfl, zs := rfl, bd := by decide }
/-- operations -/
def kO : RK (Int) := { st := 145, et := 38, k := 1, bytes := 8, cl := uno, len := fun _ => rfl, one := uno_one, pos := by decide, zero := .int .i64 0, und := Try.underlying145, inf := by kernel_rfl, zs := rfl, bd := by decide }

theorem tri_cells {K : RK (Int × Int × Int)} (hK : K.cl = tri) (hk : K.k = 3) {w : World} {b o i : Nat} {z : Int × Int × Int} (h : ∀ j, j < K.k → w.cell? ⟨b, o + (i * K.k + j), none⟩ = (K.cl z)[j]?) :
    w.cell? ⟨b, o + i * 3, none⟩ = some (.int .i64 z.1) ∧ w.cell? ⟨b, o + i * 3 + 1, none⟩ = some (.int .i64 z.2.1) ∧ w.cell? ⟨b, o + i * 3 + 2, none⟩ = some (.int .i64 z.2.2) := by
  rw [hK, hk] at h
  have h0 := h 0 (by omega)
  have h1 := h 1 (by omega)
  have h2 := h 2 (by omega)
  rw [← Nat.add_assoc] at h0 h1 h2
  exact ⟨h0, h1, h2⟩
theorem duo_cells {K : RK (Int × Int)} (hK : K.cl = duo) (hk : K.k = 2) {w : World} {b o i : Nat} {z : Int × Int} (h : ∀ j, j < K.k → w.cell? ⟨b, o + (i * K.k + j), none⟩ = (K.cl z)[j]?) :
    w.cell? ⟨b, o + i * 2, none⟩ = some (.int .i64 z.1) ∧ w.cell? ⟨b, o + i * 2 + 1, none⟩ = some (.int .i64 z.2) := by
  rw [hK, hk] at h
  have h0 := h 0 (by omega)
  have h1 := h 1 (by omega)
  rw [← Nat.add_assoc] at h0 h1
  exact ⟨h0, h1⟩
theorem uno_cell {K : RK Int} (hK : K.cl = uno) (hk : K.k = 1) {w : World} {b o i : Nat} {z : Int} (h : ∀ j, j < K.k → w.cell? ⟨b, o + (i * K.k + j), none⟩ = (K.cl z)[j]?) :
    w.cell? ⟨b, o + i, none⟩ = some (.int .i64 z) := by
  rw [hK, hk] at h
  have h0 := h 0 (by omega)
  rw [Nat.mul_one, Nat.add_zero] at h0
  exact h0
theorem tri_own {K : RK (Int × Int × Int)} (hK : K.cl = tri) (hk : K.k = 3) {w : World} {b i : Nat} {z : Int × Int × Int} (h : ∀ j, j < K.k → w.cell? ⟨b, i * K.k + j, none⟩ = (K.cl z)[j]?) :
    w.cell? ⟨b, i * 3, none⟩ = some (.int .i64 z.1) ∧ w.cell? ⟨b, i * 3 + 1, none⟩ = some (.int .i64 z.2.1) ∧ w.cell? ⟨b, i * 3 + 2, none⟩ = some (.int .i64 z.2.2) := by
  have := tri_cells hK hk (o := 0) (fun j hj => by rw [Nat.zero_add]; exact h j hj)
  simpa using this
theorem duo_own {K : RK (Int × Int)} (hK : K.cl = duo) (hk : K.k = 2) {w : World} {b i : Nat} {z : Int × Int} (h : ∀ j, j < K.k → w.cell? ⟨b, i * K.k + j, none⟩ = (K.cl z)[j]?) :
    w.cell? ⟨b, i * 2, none⟩ = some (.int .i64 z.1) ∧ w.cell? ⟨b, i * 2 + 1, none⟩ = some (.int .i64 z.2) := by
  have := duo_cells hK hk (o := 0) (fun j hj => by rw [Nat.zero_add]; exact h j hj)
  simpa using this
theorem uno_own {K : RK Int} (hK : K.cl = uno) (hk : K.k = 1) {w : World} {b i : Nat} {z : Int} (h : ∀ j, j < K.k → w.cell? ⟨b, i * K.k + j, none⟩ = (K.cl z)[j]?) :
    w.cell? ⟨b, i, none⟩ = some (.int .i64 z) := by
  have := uno_cell hK hk (o := 0) (fun j hj => by rw [Nat.zero_add]; exact h j hj)
  simpa using this
/-- where the first one stands of which it is so -/
def FndQ {α : Type} (k : Nat) (v : Value) (l : List α) (p : α → Bool) (w : World) (e : Ending) (w' : World) : Prop :=
  Below w.heap.size w w' ∧ ((l.findIdx p = l.length ∧ e = .returned (.pointer none)) ∨ (∃ g c, v = .slice (some ⟨g, 0, none⟩) l.length c ∧ l.findIdx p < l.length ∧ e = .returned (.pointer (some ⟨g, l.findIdx p * k, none⟩))))
theorem findIdx_at {α : Type} (p : α → Bool) (l : List α) (q : Nat) (hq : q < l.length) (h : ∀ j (hj : j < l.length), j < q → p l[j] = false) (hp : p l[q] = true) : l.findIdx p = q := by
  rw [List.findIdx_eq hq]
  exact ⟨hp, fun j hj => by simpa using h j (by omega) hj⟩
theorem findIdx_none {α : Type} (p : α → Bool) (l : List α) (h : ∀ j (hj : j < l.length), p l[j] = false) : l.findIdx p = l.length := by
  rw [List.findIdx_eq_length]
  intro x hx
  obtain ⟨i, hi, rfl⟩ := List.getElem_of_mem hx
  simp [h i hi]

set_option maxRecDepth 100000 in
set_option maxHeartbeats 4000000 in
theorem findR_any (bx : Nat) (p : Int × Int × Int → Bool) (v : Value) (l : List (Int × Int × Int)) (w : World) (hv : RZ kR w v l) (hl : l.length ≤ 1000)
    (HC : ∀ W, Below w.heap.size w W → ∀ z ∈ l, Calls Try.prog 92 #[.agg #[.int .i64 z.1, .int .i64 z.2.1, .int .i64 z.2.2], .pointer (some ⟨bx, 0, none⟩)] W (AN W (.bool (p z)))) :
    Calls Try.prog 68 #[v, .func (.func 92) #[] #[.pointer (some ⟨bx, 0, none⟩)]] w (FndQ 3 v l p w) := by
  obtain ⟨m, hm⟩ : ∃ m, l.length = m := ⟨_, rfl⟩
  have HM : Hid (l.length = m) := hm
  have HV : Hid (RZ kR w v l) := hv
  have HF : Hid (∀ W, Below w.heap.size w W → (∀ j (hj : j < l.length), p l[j] = false) → FndQ 3 v l p w (.returned (.pointer none)) W) := fun W hW h => ⟨hW, .inl ⟨findIdx_none p l h, rfl⟩⟩
  have HT : Hid (∀ W q g c, Below w.heap.size w W → v = .slice (some ⟨g, 0, none⟩) m c → ∀ hq : q < l.length, (∀ j (hj : j < l.length), j < q → p l[j] = false) → p l[q] = true → FndQ 3 v l p w (.returned (.pointer (some ⟨g, q * 3, none⟩))) W) := fun W q g c hW hg hq h hp => by
    have e := findIdx_at p l q hq h hp
    exact ⟨hW, .inr ⟨g, c, by rw [hm]; exact hg, by rw [e]; exact hq, by rw [e]⟩⟩
  have HCC : Hid (∀ W, Below w.heap.size w W → ∀ z ∈ l, Calls Try.prog 92 #[.agg #[.int .i64 z.1, .int .i64 z.2.1, .int .i64 z.2.2], .pointer (some ⟨bx, 0, none⟩)] W (AN W (.bool (p z)))) := HC
  generalize FndQ 3 v l p w = P at *
  obtain ⟨a, c, rfl⟩ := hv.sl
  rw [hm] at hl ⊢
  rw [hm] at HV
  clear hv hm HC
  go_enter Try.func68, Try.ntmps68
  go_wp2_with fail
  go_loopw [5, 8] (fun u i wr => ∃ q : Nat, i = .int .i64 (q : Int) ∧ q ≤ m ∧ Hid (Below w.heap.size w wr) ∧ Hid (∀ j (hj : j < l.length), j < q → p l[j] = false)) (fun u i _ => m - (intOf i).toNat)
  case atStart => exact ⟨0, rfl, Nat.zero_le _, Below.refl _ _, fun j hj h => absurd h (by omega)⟩
  case round =>
    obtain ⟨q, rfl, hq, HB, HN⟩ := hrel
    by_cases hlt : q < m
    · have e1 : decide (q < m) = true := by simp; omega
      have hq' : q < l.length := by rw [HM.out]; exact hlt
      obtain ⟨g, c', hg, hcl, _⟩ := (HV.out.below HB.out).cell hq'
      rw [HM.out] at hg
      simp only [Value.slice.injEq] at hg
      obtain ⟨rfl, _, rfl⟩ := hg
      obtain ⟨z0, z1, z2, hz⟩ : ∃ z0 z1 z2, l[q] = (z0, z1, z2) := ⟨l[q].1, l[q].2.1, l[q].2.2, rfl⟩
      have hmem : (z0, z1, z2) ∈ l := by rw [← hz]; exact List.getElem_mem _
      rw [hz] at hcl
      obtain ⟨c0, c1, c2⟩ := tri_own rfl rfl hcl
      have HK := HCC.out wr HB.out _ hmem
      have HZ : Hid (p l[q] = p (z0, z1, z2)) := by rw [hz]; trivial
      clear hcl hz hmem
      obtain ⟨b, hb⟩ : ∃ b, p (z0, z1, z2) = b := ⟨_, rfl⟩
      rw [hb] at HK HZ
      clear hb
      cases b with
      | true =>
        have HR : Hid (∀ W, Below w.heap.size w W → P (.returned (.pointer (some ⟨g, q * 3, none⟩))) W) := fun W hW => HT.out W q g c hW (by rw [HM.out]) hq' HN.out HZ.out
        clear HT HF
        go_wp2_with fail
        refine HK.mono ?_
        rintro e w2 ⟨rfl, b2⟩
        have B2 : Hid (Below w.heap.size w w2) := HB.out.trans (b2.mono HB.out.size)
        clear b2
        go_wp2
        first | exact HR.out _ B2.out | (go_ret; exact HR.out _ B2.out)
      | false =>
        have HN2 : Hid (∀ j (hj : j < l.length), j < q + 1 → p l[j] = false) := fun j hj h => by
          rcases Nat.lt_or_ge j q with r | r
          · exact HN.out j hj r
          · have : j = q := by omega
            subst this
            exact HZ.out
        go_wp2_with fail
        refine HK.mono ?_
        rintro e w2 ⟨rfl, b2⟩
        have B2 : Hid (Below w.heap.size w w2) := HB.out.trans (b2.mono HB.out.size)
        clear b2
        go_wp2_with fail
        go_roundw
        case rel => exact ⟨q + 1, by go_num, by omega, B2, HN2⟩
        case measure => simp [intOf]; omega
    · have e1 : decide (q < m) = false := by simp; omega
      have hqm : q = m := by omega
      subst hqm
      have HR : Hid (P (.returned (.pointer none)) wr) := HF.out _ HB.out (fun j hj => HN.out j hj (by rw [HM.out] at hj; exact hj))
      go_wp2
      first | exact HR.out | (go_ret; exact HR.out)

set_option maxRecDepth 100000 in
set_option maxHeartbeats 4000000 in
theorem findH_any (bx : Nat) (p : Int × Int × Int → Bool) (v : Value) (l : List (Int × Int × Int)) (w : World) (hv : RZ kR w v l) (hl : l.length ≤ 1000)
    (HC : ∀ W, Below w.heap.size w W → ∀ z ∈ l, Calls Try.prog 69 #[.agg #[.int .i64 z.1, .int .i64 z.2.1, .int .i64 z.2.2], .pointer (some ⟨bx, 0, none⟩)] W (AN W (.bool (p z)))) :
    Calls Try.prog 68 #[v, .func (.func 69) #[] #[.pointer (some ⟨bx, 0, none⟩)]] w (FndQ 3 v l p w) := by
  obtain ⟨m, hm⟩ : ∃ m, l.length = m := ⟨_, rfl⟩
  have HM : Hid (l.length = m) := hm
  have HV : Hid (RZ kR w v l) := hv
  have HF : Hid (∀ W, Below w.heap.size w W → (∀ j (hj : j < l.length), p l[j] = false) → FndQ 3 v l p w (.returned (.pointer none)) W) := fun W hW h => ⟨hW, .inl ⟨findIdx_none p l h, rfl⟩⟩
  have HT : Hid (∀ W q g c, Below w.heap.size w W → v = .slice (some ⟨g, 0, none⟩) m c → ∀ hq : q < l.length, (∀ j (hj : j < l.length), j < q → p l[j] = false) → p l[q] = true → FndQ 3 v l p w (.returned (.pointer (some ⟨g, q * 3, none⟩))) W) := fun W q g c hW hg hq h hp => by
    have e := findIdx_at p l q hq h hp
    exact ⟨hW, .inr ⟨g, c, by rw [hm]; exact hg, by rw [e]; exact hq, by rw [e]⟩⟩
  have HCC : Hid (∀ W, Below w.heap.size w W → ∀ z ∈ l, Calls Try.prog 69 #[.agg #[.int .i64 z.1, .int .i64 z.2.1, .int .i64 z.2.2], .pointer (some ⟨bx, 0, none⟩)] W (AN W (.bool (p z)))) := HC
  generalize FndQ 3 v l p w = P at *
  obtain ⟨a, c, rfl⟩ := hv.sl
  rw [hm] at hl ⊢
  rw [hm] at HV
  clear hv hm HC
  go_enter Try.func68, Try.ntmps68
  go_wp2_with fail
  go_loopw [5, 8] (fun u i wr => ∃ q : Nat, i = .int .i64 (q : Int) ∧ q ≤ m ∧ Hid (Below w.heap.size w wr) ∧ Hid (∀ j (hj : j < l.length), j < q → p l[j] = false)) (fun u i _ => m - (intOf i).toNat)
  case atStart => exact ⟨0, rfl, Nat.zero_le _, Below.refl _ _, fun j hj h => absurd h (by omega)⟩
  case round =>
    obtain ⟨q, rfl, hq, HB, HN⟩ := hrel
    by_cases hlt : q < m
    · have e1 : decide (q < m) = true := by simp; omega
      have hq' : q < l.length := by rw [HM.out]; exact hlt
      obtain ⟨g, c', hg, hcl, _⟩ := (HV.out.below HB.out).cell hq'
      rw [HM.out] at hg
      simp only [Value.slice.injEq] at hg
      obtain ⟨rfl, _, rfl⟩ := hg
      obtain ⟨z0, z1, z2, hz⟩ : ∃ z0 z1 z2, l[q] = (z0, z1, z2) := ⟨l[q].1, l[q].2.1, l[q].2.2, rfl⟩
      have hmem : (z0, z1, z2) ∈ l := by rw [← hz]; exact List.getElem_mem _
      rw [hz] at hcl
      obtain ⟨c0, c1, c2⟩ := tri_own rfl rfl hcl
      have HK := HCC.out wr HB.out _ hmem
      have HZ : Hid (p l[q] = p (z0, z1, z2)) := by rw [hz]; trivial
      clear hcl hz hmem
      obtain ⟨b, hb⟩ : ∃ b, p (z0, z1, z2) = b := ⟨_, rfl⟩
      rw [hb] at HK HZ
      clear hb
      cases b with
      | true =>
        have HR : Hid (∀ W, Below w.heap.size w W → P (.returned (.pointer (some ⟨g, q * 3, none⟩))) W) := fun W hW => HT.out W q g c hW (by rw [HM.out]) hq' HN.out HZ.out
        clear HT HF
        go_wp2_with fail
        refine HK.mono ?_
        rintro e w2 ⟨rfl, b2⟩
        have B2 : Hid (Below w.heap.size w w2) := HB.out.trans (b2.mono HB.out.size)
        clear b2
        go_wp2
        first | exact HR.out _ B2.out | (go_ret; exact HR.out _ B2.out)
      | false =>
        have HN2 : Hid (∀ j (hj : j < l.length), j < q + 1 → p l[j] = false) := fun j hj h => by
          rcases Nat.lt_or_ge j q with r | r
          · exact HN.out j hj r
          · have : j = q := by omega
            subst this
            exact HZ.out
        go_wp2_with fail
        refine HK.mono ?_
        rintro e w2 ⟨rfl, b2⟩
        have B2 : Hid (Below w.heap.size w w2) := HB.out.trans (b2.mono HB.out.size)
        clear b2
        go_wp2_with fail
        go_roundw
        case rel => exact ⟨q + 1, by go_num, by omega, B2, HN2⟩
        case measure => simp [intOf]; omega
    · have e1 : decide (q < m) = false := by simp; omega
      have hqm : q = m := by omega
      subst hqm
      have HR : Hid (P (.returned (.pointer none)) wr) := HF.out _ HB.out (fun j hj => HN.out j hj (by rw [HM.out] at hj; exact hj))
      go_wp2
      first | exact HR.out | (go_ret; exact HR.out)

set_option maxRecDepth 100000 in
set_option maxHeartbeats 4000000 in
theorem findC_any (bx : Nat) (p : Int × Int → Bool) (v : Value) (l : List (Int × Int)) (w : World) (hv : RZ kC w v l) (hl : l.length ≤ 1000)
    (HC : ∀ W, Below w.heap.size w W → ∀ z ∈ l, Calls Try.prog 101 #[.agg #[.int .i64 z.1, .int .i64 z.2], .pointer (some ⟨bx, 0, none⟩)] W (AN W (.bool (p z)))) :
    Calls Try.prog 100 #[v, .func (.func 101) #[] #[.pointer (some ⟨bx, 0, none⟩)]] w (FndQ 2 v l p w) := by
  obtain ⟨m, hm⟩ : ∃ m, l.length = m := ⟨_, rfl⟩
  have HM : Hid (l.length = m) := hm
  have HV : Hid (RZ kC w v l) := hv
  have HF : Hid (∀ W, Below w.heap.size w W → (∀ j (hj : j < l.length), p l[j] = false) → FndQ 2 v l p w (.returned (.pointer none)) W) := fun W hW h => ⟨hW, .inl ⟨findIdx_none p l h, rfl⟩⟩
  have HT : Hid (∀ W q g c, Below w.heap.size w W → v = .slice (some ⟨g, 0, none⟩) m c → ∀ hq : q < l.length, (∀ j (hj : j < l.length), j < q → p l[j] = false) → p l[q] = true → FndQ 2 v l p w (.returned (.pointer (some ⟨g, q * 2, none⟩))) W) := fun W q g c hW hg hq h hp => by
    have e := findIdx_at p l q hq h hp
    exact ⟨hW, .inr ⟨g, c, by rw [hm]; exact hg, by rw [e]; exact hq, by rw [e]⟩⟩
  have HCC : Hid (∀ W, Below w.heap.size w W → ∀ z ∈ l, Calls Try.prog 101 #[.agg #[.int .i64 z.1, .int .i64 z.2], .pointer (some ⟨bx, 0, none⟩)] W (AN W (.bool (p z)))) := HC
  generalize FndQ 2 v l p w = P at *
  obtain ⟨a, c, rfl⟩ := hv.sl
  rw [hm] at hl ⊢
  rw [hm] at HV
  clear hv hm HC
  go_enter Try.func100, Try.ntmps100
  go_wp2_with fail
  go_loopw [5, 8] (fun u i wr => ∃ q : Nat, i = .int .i64 (q : Int) ∧ q ≤ m ∧ Hid (Below w.heap.size w wr) ∧ Hid (∀ j (hj : j < l.length), j < q → p l[j] = false)) (fun u i _ => m - (intOf i).toNat)
  case atStart => exact ⟨0, rfl, Nat.zero_le _, Below.refl _ _, fun j hj h => absurd h (by omega)⟩
  case round =>
    obtain ⟨q, rfl, hq, HB, HN⟩ := hrel
    by_cases hlt : q < m
    · have e1 : decide (q < m) = true := by simp; omega
      have hq' : q < l.length := by rw [HM.out]; exact hlt
      obtain ⟨g, c', hg, hcl, _⟩ := (HV.out.below HB.out).cell hq'
      rw [HM.out] at hg
      simp only [Value.slice.injEq] at hg
      obtain ⟨rfl, _, rfl⟩ := hg
      obtain ⟨z0, z1, hz⟩ : ∃ z0 z1, l[q] = (z0, z1) := ⟨l[q].1, l[q].2, rfl⟩
      have hmem : (z0, z1) ∈ l := by rw [← hz]; exact List.getElem_mem _
      rw [hz] at hcl
      obtain ⟨c0, c1⟩ := duo_own rfl rfl hcl
      have HK := HCC.out wr HB.out _ hmem
      have HZ : Hid (p l[q] = p (z0, z1)) := by rw [hz]; trivial
      clear hcl hz hmem
      obtain ⟨b, hb⟩ : ∃ b, p (z0, z1) = b := ⟨_, rfl⟩
      rw [hb] at HK HZ
      clear hb
      cases b with
      | true =>
        have HR : Hid (∀ W, Below w.heap.size w W → P (.returned (.pointer (some ⟨g, q * 2, none⟩))) W) := fun W hW => HT.out W q g c hW (by rw [HM.out]) hq' HN.out HZ.out
        clear HT HF
        go_wp2_with fail
        refine HK.mono ?_
        rintro e w2 ⟨rfl, b2⟩
        have B2 : Hid (Below w.heap.size w w2) := HB.out.trans (b2.mono HB.out.size)
        clear b2
        go_wp2
        first | exact HR.out _ B2.out | (go_ret; exact HR.out _ B2.out)
      | false =>
        have HN2 : Hid (∀ j (hj : j < l.length), j < q + 1 → p l[j] = false) := fun j hj h => by
          rcases Nat.lt_or_ge j q with r | r
          · exact HN.out j hj r
          · have : j = q := by omega
            subst this
            exact HZ.out
        go_wp2_with fail
        refine HK.mono ?_
        rintro e w2 ⟨rfl, b2⟩
        have B2 : Hid (Below w.heap.size w w2) := HB.out.trans (b2.mono HB.out.size)
        clear b2
        go_wp2_with fail
        go_roundw
        case rel => exact ⟨q + 1, by go_num, by omega, B2, HN2⟩
        case measure => simp [intOf]; omega
    · have e1 : decide (q < m) = false := by simp; omega
      have hqm : q = m := by omega
      subst hqm
      have HR : Hid (P (.returned (.pointer none)) wr) := HF.out _ HB.out (fun j hj => HN.out j hj (by rw [HM.out] at hj; exact hj))
      go_wp2
      first | exact HR.out | (go_ret; exact HR.out)
end Go.Proofs.Ytongeppdaeekeaa
