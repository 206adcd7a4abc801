/- Statements that came in: their data as rows of a tree, in the first world. -/
import Derived.Test.YtnofibjchhcmeabDoorRows
import Derived.Test.YtnofibjchhcmeabDoorNd
import Derived.Deep.Slices
import Derived.ProofKit
import Derived.OpenShut
import Derived.ShutString
import Derived.ChangeOld
namespace Go.Proofs.YtnofibjchhcmeabDoor
open Go.ChangeShapes Go.WideShapes Go.ChangeAt Go.RowKit Go.Deep
set_option linter.unusedVariables false
set_option linter.unusedSimpArgs false
set_option maxRecDepth 100000

theorem cells42 : Tryd.prog.cellsOf 42 = 5 := by kernel_rfl
theorem cells39 : Tryd.prog.cellsOf 39 = 6 := by kernel_rfl
theorem cells37 : Tryd.prog.cellsOf 37 = 1 := by kernel_rfl
theorem cells27 : Tryd.prog.cellsOf 27 = 1 := by kernel_rfl
theorem cells40 : Tryd.prog.cellsOf 40 = 1 := by kernel_rfl
theorem cells36 : Tryd.prog.cellsOf 36 = 1 := by kernel_rfl
theorem cells22 : Tryd.prog.cellsOf 22 = 1 := by kernel_rfl
theorem cells2 : Tryd.prog.cellsOf 2 = 1 := by kernel_rfl
theorem cells3 : Tryd.prog.cellsOf 3 = 1 := by kernel_rfl
theorem cells9 : Tryd.prog.cellsOf 9 = 1 := by kernel_rfl

/-- all texts are as long as texts may be -/
def EStr : EL → Prop
  | .leaf => True
  | .inner _ (_, _, s, _) _ a r => s.size ≤ maxLen ∧ EStr a ∧ EStr r
def SStr : SL → Prop
  | .leaf => True
  | .inner _ (_, s, _, a) _ .leaf r => s.size ≤ maxLen ∧ EStr a ∧ SStr r
  | .inner _ (_, s, _, a) _ (.inner _ _ _ d e) r => s.size ≤ maxLen ∧ EStr a ∧ SStr d ∧ SStr e ∧ SStr r

section
variable {H : Type} {enc : TypeId × Value → H} {W : World}

theorem open_expr1 {n : Nat} {cs : List Value} {d : DataW H} {pl : List MemPlace} (h : DataW.trod enc Tryd.prog W 0 (fun _ => true) true n 42 cs = some (d, pl)) :
    ∃ (k nm : Int) (s : ByteArray) (p : Int) (va : Value) (da : DataW H) (pa : List MemPlace) (m : Nat), cs = [.int .i64 k, .int .i64 nm, .string s, .int .i64 p, va] ∧ s.size ≤ maxLen ∧ DataW.trod enc Tryd.prog W 0 (fun _ => true) true m 37 [va] = some (da, pa) ∧ Rows.uptoBulk da < Rows.uptoBulk d := by
  obtain ⟨xs, m, rfl, hx, hl, hxl, hf⟩ := DataW.trod_struct Tryd.underlying42 h
  rw [cells42] at hl
  match cs, hl with
  | [c0, c1, c2, c3, c4], _ =>
    have f0 := hf 0 _ rfl
    have f1 := hf 1 _ rfl
    have f2 := hf 2 _ rfl
    have f3 := hf 3 _ rfl
    have f4 := hf 4 _ rfl
    match xs, hxl with
    | [x0, x1, x2, x3, x4], _ =>
      simp [cells40, cells2, cells9, cells22, cells37] at f0 f1 f2 f3 f4
      obtain ⟨k, e0, _⟩ := DataW.trod_int Tryd.underlying40 f0
      obtain ⟨nm, e1, _⟩ := DataW.trod_int Tryd.underlying2 f1
      obtain ⟨s, e2, _, hs⟩ := DataW.trod_string Tryd.underlying9 f2
      obtain ⟨p, e3, _⟩ := DataW.trod_int Tryd.underlying22 f3
      simp at e0 e1 e2 e3
      subst e0 e1 e2 e3
      refine ⟨k, nm, s, p, c4, x4.1, x4.2, m, rfl, hs, f4, ?_⟩
      injection hx with hx1 hx2
      rw [hx1]
      simp only [List.map_cons, List.map_nil, Rows.uptoBulk, Rows.uptoBulkAll]
      omega

theorem bulk_app (a b : List (DataW H)) : Rows.uptoBulkAll (a ++ b) = Rows.uptoBulkAll a + Rows.uptoBulkAll b := by
  induction a with
  | nil => simp [Rows.uptoBulkAll]
  | cons x a ih => simp only [List.cons_append, Rows.uptoBulkAll, ih]; omega
theorem bulk_pos (d : DataW H) : 1 ≤ Rows.uptoBulk d := by
  cases d with
  | lit x => cases x <;> simp [Rows.uptoBulk]
  | _ => simp [Rows.uptoBulk]
theorem addn (b o j : Nat) : (⟨b, o, none⟩ : Addr).add j = ⟨b, o + j, none⟩ := by
  unfold Addr.add
  split
  · rename_i h; subst h; rfl
  · rfl
theorem range_drop (D : Nat → DataW H) (len i : Nat) (hi : i < len) : ((List.range len).map D).drop i = D i :: ((List.range len).map D).drop (i + 1) := by
  rw [List.drop_eq_getElem_cons (by simpa using hi)]
  simp

theorem open_exprs : ∀ (B : Nat) {n : Nat} {v : Value} {d : DataW H} {pl : List MemPlace}, Rows.uptoBulk d ≤ B → DataW.trod enc Tryd.prog W 0 (fun _ => true) true n 37 [v] = some (d, pl) → ∃ l, ESlP W (fun _ => True) v l ∧ ecnt l < Rows.uptoBulk d ∧ EStr l := by
  intro B
  induction B with
  | zero => intro n v d pl hB h; have := bulk_pos d; omega
  | succ B ih =>
    intro n v d pl hB h
    rcases open_slice Tryd.underlying37 h with ⟨hc, hx⟩ | ⟨a, len, cap, m, n', D, Pl, hc, _, hl, hcap, hm, hx, hall⟩
    · simp only [List.cons.injEq, and_true] at hc
      exact ⟨.leaf, ⟨none, 0, 0, 0, hc, Nat.le_refl _, Nat.zero_le _, fun h => absurd h (by simp [elen]), trivial⟩, bulk_pos d, trivial⟩
    · simp only [List.cons.injEq, and_true] at hc
      simp only [if_true] at hm
      subst hm
      injection hx with hx1 hx2
      obtain ⟨b, o, spot⟩ := a
      have hbd : Rows.uptoBulkAll ((List.range len).map D) < Rows.uptoBulk d := by rw [hx1]; simp only [Rows.uptoBulk]; omega
      have hsp : 0 < len → spot = none := by
        intro h0
        obtain ⟨cs', hcs, ht⟩ := hall 0 (by omega)
        rw [cells42] at hcs
        obtain ⟨_, _, _, _, _, _, _, _, rfl, _⟩ := open_expr1 ht
        obtain ⟨_, _, hcell⟩ := World.cells?_some hcs
        simpa [Addr.add] using World.cell?_spot (hcell 0 (by omega))
      have hone : ∀ i, i < len → ∃ (k nm : Int) (s : ByteArray) (p : Int) (ad : Option Addr) (cap' b' o' : Nat) (l : EL), spot = none ∧ W.cell? ⟨b, o + 5 * i, none⟩ = some (.int .i64 k) ∧ W.cell? ⟨b, o + 5 * i + 1, none⟩ = some (.int .i64 nm) ∧ W.cell? ⟨b, o + 5 * i + 2, none⟩ = some (.string s) ∧ W.cell? ⟨b, o + 5 * i + 3, none⟩ = some (.int .i64 p) ∧ s.size ≤ maxLen ∧ W.cell? ⟨b, o + 5 * i + 4, none⟩ = some (.slice ad (elen l) cap') ∧ elen l ≤ cap' ∧ cap' ≤ maxLen ∧ (0 < elen l → ad = some ⟨b', o', none⟩ ∧ True) ∧ EAt W (fun _ => True) l b' o' ∧ ecnt l + 1 ≤ Rows.uptoBulk (D i) ∧ EStr l := by
        intro i hi
        obtain ⟨cs', hcs, ht⟩ := hall i (by omega)
        rw [cells42] at hcs
        obtain ⟨k, nm, s, p, va, da, pa, m', rfl, hs, ht', hbk⟩ := open_expr1 ht
        have hle : Rows.uptoBulk (D i) ≤ Rows.uptoBulkAll ((List.range len).map D) := by
          have e : (List.range len).map D = ((List.range len).map D).take i ++ (D i :: ((List.range len).map D).drop (i + 1)) := by rw [← range_drop D len i hi, List.take_append_drop]
          rw [e, bulk_app]
          simp only [Rows.uptoBulkAll]
          omega
        obtain ⟨l, ⟨ad, cap', b', o', rfl, g1, g2, g3, g4⟩, hcnt, hes⟩ := ih (by omega) ht'
        obtain ⟨_, hlen, hcell⟩ := World.cells?_some hcs
        have q0 := hcell 0 (by omega)
        have q1 := hcell 1 (by omega)
        have q2 := hcell 2 (by omega)
        have q3 := hcell 3 (by omega)
        have q4 := hcell 4 (by omega)
        have hspot : spot = none := hsp (by omega)
        subst hspot
        simp only [addn, Nat.add_zero, List.getElem_cons_zero, List.getElem_cons_succ] at q0 q1 q2 q3 q4
        rw [Nat.mul_comm i 5] at q0 q1 q2 q3 q4
        exact ⟨k, nm, s, p, ad, cap', b', o', l, rfl, q0, q1, q2, q3, hs, q4, g1, g2, g3, g4, by omega, hes⟩
      have hrow : ∀ c, c ≤ len → ∃ l : EL, elen l = c ∧ EAt W (fun _ => True) l b (o + 5 * (len - c)) ∧ ecnt l ≤ Rows.uptoBulkAll (((List.range len).map D).drop (len - c)) ∧ EStr l := by
        intro c
        induction c with
        | zero => intro _; exact ⟨.leaf, rfl, trivial, Nat.zero_le _, trivial⟩
        | succ c ihc =>
          intro hc'
          obtain ⟨r, hr1, hr2, hr3, hr4⟩ := ihc (by omega)
          obtain ⟨k, nm, s, p, ad, cap', b', o', l, _, q0, q1, q2, q3, hs, q4, g1, g2, g3, g4, hcn, hes⟩ := hone (len - (c + 1)) (by omega)
          have e1 : len - (c + 1) + 1 = len - c := by omega
          refine ⟨.inner 0 (k, nm, s, p) () l r, by simp only [elen]; omega, ⟨q0, q1, q2, q3, ⟨ad, cap', b', o', q4, g1, g2, g3, g4⟩, ?_⟩, ?_, ⟨hs, hes, hr4⟩⟩
          · rw [show o + 5 * (len - (c + 1)) + 5 = o + 5 * (len - c) by omega]; exact hr2
          · rw [range_drop D len _ (by omega), e1]
            simp only [ecnt, Rows.uptoBulkAll]
            omega
      obtain ⟨l, h1, h2, h3, h4⟩ := hrow len (Nat.le_refl _)
      rw [Nat.sub_self, Nat.mul_zero, Nat.add_zero] at h2
      rw [Nat.sub_self, List.drop_zero] at h3
      refine ⟨l, ⟨some ⟨b, o, spot⟩, m, b, o, by rw [h1]; exact hc, by omega, hcap, fun h0 => ⟨by rw [hsp (by omega)], trivial⟩, h2⟩, by omega, h4⟩

theorem open_stmt1 {n : Nat} {cs : List Value} {d : DataW H} {pl : List MemPlace} (h : DataW.trod enc Tryd.prog W 0 (fun _ => true) true n 39 cs = some (d, pl)) :
    ∃ (k : Int) (s : ByteArray) (c : Int) (va vb ve : Value) (da db de : DataW H) (pa pb pe : List MemPlace) (m : Nat), cs = [.int .i64 k, .string s, .int .i64 c, va, vb, ve] ∧ s.size ≤ maxLen ∧ DataW.trod enc Tryd.prog W 0 (fun _ => true) true m 37 [va] = some (da, pa) ∧ DataW.trod enc Tryd.prog W 0 (fun _ => true) true m 27 [vb] = some (db, pb) ∧ DataW.trod enc Tryd.prog W 0 (fun _ => true) true m 27 [ve] = some (de, pe) ∧ Rows.uptoBulk da + Rows.uptoBulk db + Rows.uptoBulk de < Rows.uptoBulk d := by
  obtain ⟨xs, m, rfl, hx, hl, hxl, hf⟩ := DataW.trod_struct Tryd.underlying39 h
  rw [cells39] at hl
  match cs, hl with
  | [c0, c1, c2, c3, c4, c5], _ =>
    have f0 := hf 0 _ rfl
    have f1 := hf 1 _ rfl
    have f2 := hf 2 _ rfl
    have f3 := hf 3 _ rfl
    have f4 := hf 4 _ rfl
    have f5 := hf 5 _ rfl
    match xs, hxl with
    | [x0, x1, x2, x3, x4, x5], _ =>
      simp [cells36, cells3, cells9, cells27, cells37] at f0 f1 f2 f3 f4 f5
      obtain ⟨k, e0, _⟩ := DataW.trod_int Tryd.underlying36 f0
      obtain ⟨s, e1, _, hs⟩ := DataW.trod_string Tryd.underlying9 f1
      obtain ⟨c, e2, _⟩ := DataW.trod_int Tryd.underlying3 f2
      simp at e0 e1 e2
      subst e0 e1 e2
      refine ⟨k, s, c, c3, c4, c5, x3.1, x4.1, x5.1, x3.2, x4.2, x5.2, m, rfl, hs, f3, f4, f5, ?_⟩
      injection hx with hx1 hx2
      rw [hx1]
      simp only [List.map_cons, List.map_nil, Rows.uptoBulk, Rows.uptoBulkAll]
      omega

theorem open_stmts : ∀ (B : Nat) {n : Nat} {v : Value} {d : DataW H} {pl : List MemPlace}, Rows.uptoBulk d ≤ B → DataW.trod enc Tryd.prog W 0 (fun _ => true) true n 27 [v] = some (d, pl) → ∃ l, SSlP W (fun _ => True) v l ∧ scnt l < Rows.uptoBulk d ∧ SStr l := by
  intro B
  induction B with
  | zero => intro n v d pl hB h; have := bulk_pos d; omega
  | succ B ih =>
    intro n v d pl hB h
    rcases open_slice Tryd.underlying27 h with ⟨hc, hx⟩ | ⟨a, len, cap, m, n', D, Pl, hc, _, hl, hcap, hm, hx, hall⟩
    · simp only [List.cons.injEq, and_true] at hc
      exact ⟨.leaf, ⟨none, 0, 0, 0, hc, Nat.le_refl _, Nat.zero_le _, fun h => absurd h (by simp [slen]), trivial⟩, bulk_pos d, trivial⟩
    · simp only [List.cons.injEq, and_true] at hc
      simp only [if_true] at hm
      subst hm
      injection hx with hx1 hx2
      obtain ⟨b, o, spot⟩ := a
      have hbd : Rows.uptoBulkAll ((List.range len).map D) < Rows.uptoBulk d := by rw [hx1]; simp only [Rows.uptoBulk]; omega
      have hsp : 0 < len → spot = none := by
        intro h0
        obtain ⟨cs', hcs, ht⟩ := hall 0 (by omega)
        rw [cells39] at hcs
        obtain ⟨_, _, _, _, _, _, _, _, _, _, _, _, _, rfl, _⟩ := open_stmt1 ht
        obtain ⟨_, _, hcell⟩ := World.cells?_some hcs
        simpa [Addr.add] using World.cell?_spot (hcell 0 (by omega))
      have hone : ∀ i, i < len → ∃ (k : Int) (s : ByteArray) (c : Int) (va : Value) (a : EL) (l1 l2 : SL) (r : SL → SL), spot = none ∧ (∀ r, SAt W (fun _ => True) r b (o + 6 * i + 6) → SAt W (fun _ => True) (SL.cons k s c a l1 l2 r) b (o + 6 * i)) ∧ ecnt a + scnt l1 + scnt l2 + 1 ≤ Rows.uptoBulk (D i) ∧ s.size ≤ maxLen ∧ EStr a ∧ SStr l1 ∧ SStr l2 := by
        intro i hi
        obtain ⟨cs', hcs, ht⟩ := hall i (by omega)
        rw [cells39] at hcs
        obtain ⟨k, s, c, va, vb, ve, da, db, de, pa, pb, pe, m', rfl, hs, ta, tb, te, hbk⟩ := open_stmt1 ht
        have hle : Rows.uptoBulk (D i) ≤ Rows.uptoBulkAll ((List.range len).map D) := by
          have e : (List.range len).map D = ((List.range len).map D).take i ++ (D i :: ((List.range len).map D).drop (i + 1)) := by rw [← range_drop D len i hi, List.take_append_drop]
          rw [e, bulk_app]
          simp only [Rows.uptoBulkAll]
          omega
        obtain ⟨a, ha, hac, has⟩ := open_exprs B (by omega) ta
        obtain ⟨l1, ⟨ad1, cap1, b1, o1, rfl, g1, g2, g3, g4⟩, hc1, hs1⟩ := ih (by omega) tb
        obtain ⟨l2, ⟨ad2, cap2, b2, o2, rfl, i1, i2, i3, i4⟩, hc2, hs2⟩ := ih (by omega) te
        obtain ⟨_, hlen, hcell⟩ := World.cells?_some hcs
        have q0 := hcell 0 (by omega)
        have q1 := hcell 1 (by omega)
        have q2 := hcell 2 (by omega)
        have q3 := hcell 3 (by omega)
        have q4 := hcell 4 (by omega)
        have q5 := hcell 5 (by omega)
        have hspot : spot = none := hsp (by omega)
        subst hspot
        simp only [addn, Nat.add_zero, List.getElem_cons_zero, List.getElem_cons_succ] at q0 q1 q2 q3 q4 q5
        rw [Nat.mul_comm i 6] at q0 q1 q2 q3 q4 q5
        exact ⟨k, s, c, va, a, l1, l2, id, rfl, fun r hr => ⟨q0, q1, q2, ⟨va, q3, ha⟩, ⟨ad1, cap1, b1, o1, q4, g1, g2, g3, g4⟩, ⟨ad2, cap2, b2, o2, q5, i1, i2, i3, i4⟩, hr⟩, by omega, hs, has, hs1, hs2⟩
      have hrow : ∀ c, c ≤ len → ∃ l : SL, slen l = c ∧ SAt W (fun _ => True) l b (o + 6 * (len - c)) ∧ scnt l ≤ Rows.uptoBulkAll (((List.range len).map D).drop (len - c)) ∧ SStr l := by
        intro c
        induction c with
        | zero => intro _; exact ⟨.leaf, rfl, trivial, Nat.zero_le _, trivial⟩
        | succ c ihc =>
          intro hc'
          obtain ⟨r, hr1, hr2, hr3, hr4⟩ := ihc (by omega)
          obtain ⟨k, s, c0, va, a, l1, l2, _, _, hat, hcn, hs, has, hs1, hs2⟩ := hone (len - (c + 1)) (by omega)
          have e1 : len - (c + 1) + 1 = len - c := by omega
          refine ⟨SL.cons k s c0 a l1 l2 r, by simp only [slen]; omega, hat r ?_, ?_, ⟨hs, has, hs1, hs2, hr4⟩⟩
          · rw [show o + 6 * (len - (c + 1)) + 6 = o + 6 * (len - c) by omega]; exact hr2
          · rw [range_drop D len _ (by omega), e1]
            simp only [SL.cons, scnt, Rows.uptoBulkAll]
            omega
      obtain ⟨l, h1, h2, h3, h4⟩ := hrow len (Nat.le_refl _)
      rw [Nat.sub_self, Nat.mul_zero, Nat.add_zero] at h2
      rw [Nat.sub_self, List.drop_zero] at h3
      refine ⟨l, ⟨some ⟨b, o, spot⟩, m, b, o, by rw [h1]; exact hc, by omega, hcap, fun h0 => ⟨by rw [hsp (by omega)], trivial⟩, h2⟩, by omega, h4⟩
end
end Go.Proofs.YtnofibjchhcmeabDoor
