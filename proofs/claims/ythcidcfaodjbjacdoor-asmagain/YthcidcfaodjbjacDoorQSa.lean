/- What the document's Same answers of the same instructions. -/
import Derived.Test.YthcidcfaodjbjacDoorIChk
import Derived.Deep.RegionHeld3
namespace Go.Proofs.YthcidcfaodjbjacDoor
open Go.RowKit
set_option linter.unusedVariables false
set_option linter.unusedSimpArgs false

theorem inEq_refl (x : In) : inEq x x = true := by unfold inEq; simp

set_option maxRecDepth 100000 in
set_option maxHeartbeats 4000000 in
theorem refSame_true (l : List In) (va vb : Value) (w : World) (ha : ISl w va l) (hb : ISl w vb l) : Calls Tryd.prog 8 #[va, vb] w fun e w' => e = .returned (.bool true) ∧ Below w.heap.size w w' := by
  obtain ⟨ad, cap, b, o, rfl, h2, h3, h4, h5⟩ := ha
  obtain ⟨ad', cap', b', o', rfl, h2', h3', h4', h5'⟩ := hb
  have H5 : Hid (∀ i (h : i < l.length), IAt w b (o + i * 6) l[i]) := h5
  have H5' : Hid (∀ i (h : i < l.length), IAt w b' (o' + i * 6) l[i]) := h5'
  have H4 : Hid (0 < l.length → ad = some ⟨b, o, none⟩) := h4
  have H4' : Hid (0 < l.length → ad' = some ⟨b', o', none⟩) := h4'
  unfold maxLen at h3 h3'
  have hg := guard25
  have HE : ∀ (x : In) w, (binOp .neq 50 (.agg #[.int .i64 x.kind, .int .i64 x.op, .int .i64 x.a, .int .i64 x.b, .int .i64 x.c, .int .i64 x.k]) (.agg #[.int .i64 x.kind, .int .i64 x.op, .int .i64 x.a, .int .i64 x.b, .int .i64 x.c, .int .i64 x.k])).run Tryd.prog w = .ok (.bool false) w := fun x w => by
    have h9 := neq_in x x w
    rw [inEq_refl] at h9
    exact h9
  obtain ⟨n, hn⟩ : ∃ n, l.length = n := ⟨_, rfl⟩
  have HN : Hid (l.length = n) := hn
  rw [hn] at h2 h2'
  rw [hn]
  clear h4 h5 h4' h5' hn
  go_enter Tryd.func8, Tryd.ntmps8
  go_wp2
  go_loopw [5] (fun i wr => ∃ k : Nat, k ≤ n ∧ i = .int .i64 k ∧ Hid (Below w.heap.size w wr)) (fun i _ => n - (intOf i).toNat)
  case atStart => exact ⟨0, Nat.zero_le _, rfl, Below.refl _ _⟩
  case round =>
    obtain ⟨k, hk, rfl, HB⟩ := hrel
    by_cases hlt : k < n
    · have hkl : k < l.length := by rw [HN.out]; exact hlt
      have e1 := H4.out (by omega)
      have e2 := H4'.out (by omega)
      subst e1 e2
      have hx : IAt wr.drew b (o + k * 6) l[k] := (H5.out k hkl).block (HB.out.block b (H5.out k hkl).lt)
      have hy : IAt wr.drew b' (o' + k * 6) l[k] := (H5'.out k hkl).block (HB.out.block b' (H5'.out k hkl).lt)
      obtain ⟨x, hxe⟩ : ∃ x, l[k] = x := ⟨_, rfl⟩
      rw [hxe] at hx hy
      obtain ⟨x0, x1, x2, x3, x4, x5⟩ := hx
      obtain ⟨y0, y1, y2, y3, y4, y5⟩ := hy
      have HEx := HE x
      have HB2 : Hid (Below w.heap.size w wr.drew) := HB.out.drew
      clear hxe
      go_wp2_with fail
      go_region_held3 (fun w' => (w'.cell? ⟨b, o + k * 6, none⟩ = some (.int .i64 x.kind) ∧ w'.cell? ⟨b, o + k * 6 + 1, none⟩ = some (.int .i64 x.op) ∧ w'.cell? ⟨b, o + k * 6 + 2, none⟩ = some (.int .i64 x.a) ∧ w'.cell? ⟨b, o + k * 6 + 3, none⟩ = some (.int .i64 x.b) ∧ w'.cell? ⟨b, o + k * 6 + 4, none⟩ = some (.int .i64 x.c) ∧ w'.cell? ⟨b, o + k * 6 + 5, none⟩ = some (.int .i64 x.k)) ∧ w'.cell? ⟨b', o' + k * 6, none⟩ = some (.int .i64 x.kind) ∧ w'.cell? ⟨b', o' + k * 6 + 1, none⟩ = some (.int .i64 x.op) ∧ w'.cell? ⟨b', o' + k * 6 + 2, none⟩ = some (.int .i64 x.a) ∧ w'.cell? ⟨b', o' + k * 6 + 3, none⟩ = some (.int .i64 x.b) ∧ w'.cell? ⟨b', o' + k * 6 + 4, none⟩ = some (.int .i64 x.c) ∧ w'.cell? ⟨b', o' + k * 6 + 5, none⟩ = some (.int .i64 x.k)) (go_keep) (fail)
      go_wp2
      go_roundw
      case rel => exact ⟨k + 1, hlt, by go_num, HB2⟩
      case measure => simp [intOf]; omega
    · go_wp2
      go_ret
      exact ⟨rfl, HB.out⟩
end Go.Proofs.YthcidcfaodjbjacDoor
