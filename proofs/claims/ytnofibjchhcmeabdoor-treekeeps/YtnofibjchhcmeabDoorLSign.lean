/- The closure that gathers a sign byte by byte. -/
import Derived.Test.YtnofibjchhcmeabDoorLSkip
namespace Go.Proofs.YtnofibjchhcmeabDoor
open Go.RowKit
set_option linter.unusedVariables false

set_option maxRecDepth 100000 in
theorem toL (L : List UInt8) : (⟨L.toArray⟩ : ByteArray).toList = L := by rw [ByteArray.toList_eq]

set_option maxRecDepth 100000 in
theorem WS.drew {w : World} {pb : Nat} {L : List UInt8} (h : WS w pb L) : WS w.drew pb L := h.below (Below.refl _ _).drew

set_option maxRecDepth 100000 in
set_option maxHeartbeats 1000000 in
theorem sign1_any (rb : Nat) (row : List UInt8) (b : UInt8) (w : World) (hL : row.length ≤ 2) (hw : WS w rb row) :
    Calls Tryd.prog 89 #[.int .u8 (b.toNat : Int), .pointer (some ⟨rb, 0, none⟩)] w fun e w' => e = .returned (.bool (isS (row ++ [b]))) ∧ WS w' rb (row ++ [b]) ∧ Below rb w w' := by
  obtain ⟨v, c0, f0, o0, p0⟩ := hw
  have HO : Hid (Own w (rb + 1) v row) := o0
  clear o0
  obtain ⟨i0, hi, hz0, hz1, hz2⟩ := info_parts info5
  go_enter Tryd.func89, Tryd.ntmps89
  go_wp2_with (at_builtin; refine wpList_append_own _ rfl _ _ 105 rfl (rb + 1) 5 i0 (.int .u8 0) 1 1 Tryd.underlying105 hi hz0 hz1 hz2 rfl (by decide) _ _ _ rfl (HO.out.alloc _) ⟨w.heap.size, 0, none⟩ 1 1 (bc [b]) rfl rfl ?c1 ?c2 ?c3 ?c4 ?c5 ?_)
  case c1 =>
    intro j u hj
    match j, hj with
    | 0, hj => simp [bc] at hj; subst hj; simp [Addr.add]
  case c2 => exact bc_one _
  case c3 => unfold maxLen; omega
  case c4 => omega
  case c5 => simp; omega
  · intro v' w1 hown' hgrow _
    obtain ⟨k1, k2, k3, k4, k5⟩ := WS.after (M := [b]) c0 f0 HO.out p0 ((Below.refl _ _).alloc (Nat.le_refl _) _) hown' hgrow
    have K4 : Hid (WS (w1.setCell ⟨rb, 0, none⟩ v') rb (row ++ [b])) := k4
    have K5 : Hid (Below rb w (w1.setCell ⟨rb, 0, none⟩ v')) := k5
    have kc : (w1.setCell ⟨rb, 0, none⟩ v').cell? ⟨rb, 0, none⟩ = some v' := World.cell?_setCell_same w1 _ _ k1
    have hrd : Rd (w1.setCell ⟨rb, 0, none⟩ v') v' (row ++ [b]) := by
      obtain ⟨v2, d1, d2, d3, d4⟩ := k4
      rw [kc] at d1
      cases d1
      exact d3.rd
    have hcv : (convert 105 9 v').run Tryd.prog (w1.setCell ⟨rb, 0, none⟩ v') = .ok (.string ⟨(row ++ [b]).toArray⟩) (w1.setCell ⟨rb, 0, none⟩ v') := hrd.str
    obtain ⟨g, cap', rfl⟩ : ∃ g cap', v' = .slice (some ⟨g, 0, none⟩) (row.length + 1) cap' := by
      rcases hown'.2 with ⟨_, h⟩ | ⟨g, cap', _, h, _⟩
      · omega
      · exact ⟨g, cap', h⟩
    clear k4 k5 hown' hgrow c0 f0 p0 hrd
    go_wp2_with fail
    refine (isSign_any ⟨(row ++ [b]).toArray⟩ (by show (row ++ [b]).toArray.size ≤ 1000; simp; omega) _).mono ?_
    rintro e w' ⟨rfl, rfl⟩
    rw [toL]
    go_wp2
    go_ret
    exact ⟨rfl, K4.out, K5.out⟩

set_option maxRecDepth 100000 in
theorem isS_len (L : List UInt8) (h : isS L = true) : L.length ≤ 2 := by
  unfold isS at h
  rcases L with _ | ⟨a, _ | ⟨b, _ | ⟨c, r⟩⟩⟩
  · simp
  · simp
  · simp
  · exfalso
    have : signs2.contains (a :: b :: c :: r) = true := by simpa using h
    have := List.contains_iff_mem.1 this
    unfold signs2 at this
    simp at this

set_option maxRecDepth 100000 in
theorem looksS (pb rb B : Nat) (hpb : pb < rb) (hB : B ≤ rb) : Looks 89 #[.pointer (some ⟨rb, 0, none⟩)] pb (fun row w => WS w rb row ∧ row.length ≤ 2) sgStep (FB B pb) where
  call := fun st b w h => (sign1_any rb st b w h.2 h.1).mono fun e w' ⟨h1, h2, h3⟩ =>
    ⟨h1, fun hs => ⟨h2, isS_len _ hs⟩, FB.below (h3.mono hB), h3.block pb hpb, h3.size⟩
  enters := enters54
  drew := fun _ _ h => ⟨h.1.drew, h.2⟩
  move := fun _ w q h => ⟨h.1.other (fun k hk hne => Below.heap_setCell _ _ _ _ hne) (by simp [World.setCell]) hpb, h.2⟩
  fdrew := fun _ _ h => h.drew
  fmove := fun _ _ q h => h.set 1 _
  ftrans := fun _ _ _ h k => h.trans k
  frefl := fun _ => FB.refl _ _ _
end Go.Proofs.YtnofibjchhcmeabDoor
