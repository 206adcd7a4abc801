/- The edges of a writer. -/
import Derived.Test.YtongeppdaeekeaaGrI
namespace Go.Proofs.Ytongeppdaeekeaa
open Go.RowKit Go.Maps
set_option linter.unusedVariables false

def ofS (E : Ed) (wt : Int) : Ed := E.filter (fun e => e.2 == wt)
theorem ofS_is {room : Nat} {E : Ed} (h : OkE room E) (wt : Int) (q : Nat) (hp : plE E (0, wt) ≤ q) (hq : q ≤ E.length) (h1 : ∀ i (hi : i < E.length), plE E (0, wt) ≤ i → i < q → E[i].2 = wt) (h2 : ∀ (hi : q < E.length), E[q].2 ≠ wt) : (E.take q).drop (plE E (0, wt)) = ofS E wt := by
  obtain ⟨p, hpp⟩ : ∃ p, plE E (0, wt) = p := ⟨_, rfl⟩
  have a1 : ∀ i (hi : i < E.length), i < p → E[i].2 ≠ wt := fun i hi hip => by
    have := plE_lt E (0, wt) i hi (by omega)
    have hu := h.up _ (List.getElem_mem hi)
    unfold eLt at this
    simp only at this
    omega
  have a2 : ∀ i (hi : i < E.length), q ≤ i → E[i].2 ≠ wt := fun i hi hqi => by
    have hql : q < E.length := by omega
    have g1 := plE_ge h.srt (0, wt) q hql hp
    have g2 := h2 hql
    have hu := h.up _ (List.getElem_mem hql)
    rcases Nat.eq_or_lt_of_le hqi with r | r
    · subst r; exact g2
    · have := (List.pairwise_iff_getElem.1 h.srt) q i hql hi r
      unfold eLt at this g1
      simp only at g1
      omega
  rw [hpp] at h1 hp ⊢
  have e : E = E.take p ++ ((E.take q).drop p ++ E.drop q) := by
    have e1 : E.take q = E.take p ++ (E.take q).drop p := by
      have := List.take_append_drop p (E.take q)
      rw [List.take_take, Nat.min_eq_left hp] at this
      exact this.symm
    rw [← List.append_assoc, ← e1, List.take_append_drop]
  have f1 : (E.take p).filter (fun e => e.2 == wt) = [] := by
    rw [List.filter_eq_nil_iff]
    intro z hz
    obtain ⟨i, hi, rfl⟩ := List.getElem_of_mem hz
    rw [List.length_take] at hi
    rw [List.getElem_take]
    simpa using a1 i (by omega) (by omega)
  have f2 : ((E.take q).drop p).filter (fun e => e.2 == wt) = (E.take q).drop p := by
    rw [List.filter_eq_self]
    intro z hz
    obtain ⟨i, hi, rfl⟩ := List.getElem_of_mem hz
    rw [List.length_drop, List.length_take] at hi
    rw [List.getElem_drop, List.getElem_take]
    simpa using h1 (p + i) (by omega) (by omega) (by omega)
  have f3 : (E.drop q).filter (fun e => e.2 == wt) = [] := by
    rw [List.filter_eq_nil_iff]
    intro z hz
    obtain ⟨i, hi, rfl⟩ := List.getElem_of_mem hz
    rw [List.length_drop] at hi
    rw [List.getElem_drop]
    simpa using a2 (q + i) (by omega) (by omega)
  unfold ofS
  conv => rhs; rw [e]
  rw [List.filter_append, List.filter_append, f1, f2, f3, List.nil_append, List.append_nil]
def OfQ (w : World) (ev : Value) (L : Ed) (e : Ending) (w' : World) : Prop := ∃ v', e = .returned v' ∧ RS kE w' v' L ∧ Below w.heap.size w w' ∧ ∀ g, v'.ownBlock = some g → ev.ownBlock = some g
set_option maxRecDepth 100000 in
set_option maxHeartbeats 8000000 in
theorem of_any {w : World} {gb room : Nat} {ev : Value} {E : Ed} (h : GV w gb room ev E) (wt : Int) : Calls Try.prog 73 #[.pointer (some ⟨gb, 0, none⟩), .int .i64 wt] w (OfQ w ev (ofS E wt)) := by
  have HFI : Hid (Calls Try.prog 72 #[.pointer (some ⟨gb, 0, none⟩), .agg #[.int .i64 0, .int .i64 wt]] w (AN w (.tuple #[.int .i64 (plE E (0, wt) : Int), .bool (hasE E (0, wt))]))) := find_any h (0, wt)
  have HV : Hid (∀ W, Below w.heap.size w W → GV W gb room ev E) := fun W hW => h.below hW
  have hpl := plE_le E (0, wt)
  have h5 := h.l512
  rcases h.rz.2 with ⟨rfl, h0⟩ | ⟨g, cap, cur, hev, _, _, hc1, hc2, _⟩
  · have hE : E = [] := List.length_eq_zero_iff.1 h0
    subst hE
    have hp0 : plE [] (0, wt) = 0 := rfl
    have HQ : Hid (∀ W, Below w.heap.size w W → OfQ w (.slice none 0 0) (ofS [] wt) (.returned (.slice none 0 0)) W) := fun W hW => ⟨_, rfl, RS.nil _ _, hW, fun g hg => by simp [Value.ownBlock] at hg⟩
    rw [hp0] at HFI
    clear h h0 hpl h5 hp0
    generalize OfQ w (.slice none 0 0) (ofS [] wt) = P at *
    generalize hasE [] (0, wt) = bb at *
    go_enter Try.func73, Try.ntmps73
    go_wp2_with fail
    refine HFI.out.mono ?_
    rintro e w3 ⟨rfl, b3⟩
    have HR : Hid (P (.returned (.slice none 0 0)) w3) := HQ.out w3 b3
    have c1 := (HV.out w3 b3).cell.2
    clear b3
    go_wp2_with fail
    go_loopw [7] (fun i wr => i = .int .i64 0 ∧ wr = w3) (fun i _ => 0)
    case atStart => exact ⟨rfl, rfl⟩
    case round =>
      obtain ⟨rfl, rfl⟩ := hrel
      go_wp2
      first | exact HR.out | (go_ret; exact HR.out)
  · subst hev
    obtain ⟨n, hn⟩ : ∃ n, E.length = n := ⟨_, rfl⟩
    obtain ⟨p, hp⟩ : ∃ p, plE E (0, wt) = p := ⟨_, rfl⟩
    have HN : Hid (E.length = n) := hn
    have HQ : Hid (∀ W q v', Below w.heap.size w W → p ≤ q → q ≤ n → (∀ i (hi : i < E.length), p ≤ i → i < q → E[i].2 = wt) → (∀ (hi : q < E.length), E[q].2 ≠ wt) → (∃ c, c ≤ cap ∧ q - p ≤ c ∧ ((v' = .slice (some ⟨g, p * 2, none⟩) (q - p) c) ∨ (v' = .slice (some ⟨g, 0, none⟩) 0 c ∧ q = p))) → OfQ w (.slice (some ⟨g, 0, none⟩) n cap) (ofS E wt) (.returned v') W) := fun W q v' hW k1 k2 k3 k4 k5 => by
      have hof := ofS_is h.ok wt q (by rw [hp]; exact k1) (by rw [hn]; exact k2) (by rw [hp]; exact k3) k4
      rw [hp] at hof
      have hlen : (ofS E wt).length = q - p := by rw [← hof, List.length_drop, List.length_take, hn]; omega
      obtain ⟨c, c1, c2, c3⟩ := k5
      have hcm : cap ≤ maxLen := hc2
      rcases c3 with rfl | ⟨rfl, rfl⟩
      · refine ⟨_, rfl, ⟨_, c, g, p * 2, by rw [hlen], by omega, by omega, fun _ => rfl, fun i hi j hj => ?_⟩, hW, fun g' hg' => hg'⟩
        obtain ⟨hcl, _⟩ := RZ.cell2 (hn ▸ (h.below hW).rz) (i := p + i) (by omega)
        have e1 : p * 2 + (i * kE.k + j) = (p + i) * kE.k + j := by show p * 2 + (i * 2 + j) = (p + i) * 2 + j; omega
        rw [e1, hcl j hj]
        have e2 : (ofS E wt)[i] = E[p + i] := by
          have : (ofS E wt)[i]? = E[p + i]? := by
            rw [← hof, List.getElem?_drop, List.getElem?_take, if_pos (by omega)]
          rw [List.getElem?_eq_getElem hi, List.getElem?_eq_getElem (by omega)] at this
          injection this
        rw [e2]
      · have hl0 : ofS E wt = [] := List.length_eq_zero_iff.1 (by omega)
        rw [hl0]
        exact ⟨_, rfl, ⟨_, c, g, 0, rfl, by simp, by omega, fun _ => rfl, fun i hi => absurd hi (by simp)⟩, hW, fun g' hg' => hg'⟩
    rw [hp] at HFI hpl
    rw [hn] at hpl h5 hc1 ⊢
    clear h hn hp
    generalize OfQ w _ (ofS E wt) = P at *
    generalize hasE E (0, wt) = bb at *
    go_enter Try.func73, Try.ntmps73
    go_wp2_with fail
    refine HFI.out.mono ?_
    rintro e w3 ⟨rfl, b3⟩
    have HG3 : Hid (GV w3 gb room (.slice (some ⟨g, 0, none⟩) n cap) E) := by
      have := HV.out w3 b3
      rw [HN.out] at this
      exact this
    have HB3 : Hid (Below w.heap.size w w3) := b3
    have c1 := HG3.out.cell.2
    clear b3
    go_wp2_with fail
    go_loopw [7] (fun i wr => wr = w3 ∧ ∃ q : Nat, i = .int .i64 (q : Int) ∧ p ≤ q ∧ q ≤ n ∧ Hid (∀ i (hi : i < E.length), p ≤ i → i < q → E[i].2 = wt)) (fun i _ => n - (intOf i).toNat)
    case atStart => exact ⟨rfl, p, rfl, Nat.le_refl _, hpl, fun i hi k1 k2 => absurd k2 (by omega)⟩
    case round =>
      obtain ⟨rfl, q, rfl, hpq, hqn, HI⟩ := hrel
      have x0 : (0 : Int) ≤ (p : Int) := by omega
      have x1 : (p : Int) ≤ (q : Int) := by omega
      have x2 : (q : Int) ≤ (cap : Int) := by omega
      have x3 : (0 : Int) ≤ (q : Int) := by omega
      by_cases hlt : q < n
      · have e1 : decide (q < n) = true := by simp; omega
        have hql : q < E.length := by rw [HN.out]; exact hlt
        obtain ⟨hcl, _⟩ := RZ.cell2 HG3.out.rz hql
        obtain ⟨⟨z0, z1⟩, hz⟩ : ∃ z, E[q]'hql = z := ⟨_, rfl⟩
        have HZ : Hid (E[q]'hql = (z0, z1)) := hz
        rw [hz] at hcl
        obtain ⟨y0, y1⟩ := duo_own rfl rfl hcl
        have i2 : (q : Int) < (n : Int) := by omega
        clear hcl hz
        by_cases hw : z1 = wt
        · have t : (z1 == wt) = true := by simp [hw]
          have HI2 : Hid (∀ i (hi : i < E.length), p ≤ i → i < q + 1 → E[i].2 = wt) := fun i hi k1 k2 => by
            rcases Nat.lt_or_ge i q with r | r
            · exact HI.out i hi k1 r
            · have : i = q := by omega
              subst this
              rw [HZ.out]; exact hw
          clear hw HI
          go_wp2_with fail
          go_roundw
          case rel => exact ⟨trivial, q + 1, by go_num, by omega, by omega, HI2⟩
          case measure => simp [intOf] <;> omega
        · have t : (z1 == wt) = false := by simp [hw]
          have HNW : Hid (∀ (hi : q < E.length), E[q].2 ≠ wt) := fun hi => by rw [HZ.out]; exact hw
          by_cases hcp : cap = p
          · have hqp : q = p := by omega
            subst hcp
            omega
          · have HR : Hid (P (.returned (.slice (some ⟨g, p * 2, none⟩) (q - p) (cap - p))) wr) := HQ.out wr q _ HB3.out hpq hqn HI.out HNW.out ⟨cap - p, by omega, by omega, .inl rfl⟩
            clear hw HI
            go_wp2
            first | exact HR.out | (go_ret; exact HR.out)
      · have e1 : decide (q < n) = false := by simp; omega
        have hqn2 : q = n := by omega
        have HNW : Hid (∀ (hi : q < E.length), E[q].2 ≠ wt) := fun hi => by have := HN.out; omega
        by_cases hcp : cap = p
        · have hqp : q = p := by omega
          have HR : Hid (P (.returned (.slice (some ⟨g, 0, none⟩) 0 0)) wr) := HQ.out wr q _ HB3.out hpq hqn HI.out HNW.out ⟨0, by omega, by omega, .inr ⟨rfl, hqp⟩⟩
          subst hqp
          subst hqn2
          subst hcp
          clear HI
          go_wp2
          first | exact HR.out | (go_ret; exact HR.out)
        · have HR : Hid (P (.returned (.slice (some ⟨g, p * 2, none⟩) (q - p) (cap - p))) wr) := HQ.out wr q _ HB3.out hpq hqn HI.out HNW.out ⟨cap - p, by omega, by omega, .inl rfl⟩
          clear HI
          subst hqn2
          go_wp2
          first | exact HR.out | (go_ret; exact HR.out)
end Go.Proofs.Ytongeppdaeekeaa
