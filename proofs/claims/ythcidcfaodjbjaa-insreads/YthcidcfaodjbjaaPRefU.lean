/- The document's bytes of numbers. -/
import Derived.Test.YthcidcfaodjbjaaPWriter
namespace Go.Proofs.Ythcidcfaodjbjaa
open Go.RowKit
set_option linter.unusedVariables false

theorem info5s : (Try.prog.info? 5).map (fun i => (i.zero, i.size, i.bytes)) = some (some (.int .u8 0), 1, 1) := by kernel_rfl

/-- the last byte of one's own is turned -/
theorem Own.setLast {w : World} {base g cap q : Nat} {P : List UInt8} {c : UInt8} (hq : P.length = q) (h : Own w base (.slice (some ⟨g, 0, none⟩) (q + 1) cap) (P ++ [c])) (d : UInt8) :
    Own (w.setCell ⟨g, q, none⟩ (.int .u8 (d.toNat : Int))) base (.slice (some ⟨g, 0, none⟩) (q + 1) cap) (P ++ [d]) ∧ w.cell? ⟨g, q, none⟩ = some (.int .u8 (c.toNat : Int)) ∧ w.frozen? ⟨g, q, none⟩ = false ∧ base ≤ g := by
  subst hq
  have hrd := h.rd
  have hb := (World.ownsRow.lt h g rfl).1
  obtain ⟨h1, h2⟩ := h
  rcases h2 with ⟨h2, _⟩ | ⟨g', cap', cur, e1, e2, e3, e4, e5, e6, e7⟩
  · cases h2
  · injection e1 with ea eb ec
    injection ea with ea
    injection ea with ea _ _
    subst ea ec
    have hcell : w.cell? ⟨g, P.length, none⟩ = some (.int .u8 (c.toNat : Int)) := by
      rcases hrd with ⟨q, _⟩ | ⟨b, off, cap2, q, _, _, _, q4⟩
      · cases q
      · injection q with qa _ _
        injection qa with qa
        injection qa with qa qb _
        subst qa qb
        have := q4 P.length (by simp)
        rw [Nat.zero_add] at this
        rw [this]
        simp
    refine ⟨⟨by rw [bc_len]; simp, Or.inr ⟨g, cap, cur.setIfInBounds P.length (.int .u8 (d.toNat : Int)), by simp, e2, ?_, by simpa using e4, e5, by simpa using e6, ?_⟩⟩, hcell, ?_, hb⟩
    · simp only [World.setCell, Array.getElem?_modify, if_true, e3]
      simp
    · have hl : (P ++ [d]).length = P.length + 1 := by simp
      have hl2 : (P ++ [c]).length = P.length + 1 := by simp
      rw [hl, Nat.mul_one]
      rw [hl2, Nat.mul_one] at e7
      rw [Array.toList_setIfInBounds, List.take_set, e7, bc_app, bc_app]
      have : (bc P).length = P.length := bc_len P
      rw [List.set_append_right _ _ (by omega), this, Nat.sub_self]
      rfl
    · unfold World.frozen?
      simp only [e3]
      simp

theorem add_byte (m : Nat) : IntKind.u8.wrap (((UInt8.ofNat (m % 128)).toNat : Int) + 128) = ((UInt8.ofNat (m % 128 + 128)).toNat : Int) := by
  have h1 : (UInt8.ofNat (m % 128)).toNat = m % 128 := by simp [UInt8.toNat_ofNat']; omega
  have h2 : (UInt8.ofNat (m % 128 + 128)).toNat = m % 128 + 128 := by simp [UInt8.toNat_ofNat']; omega
  rw [h1, h2, IntKind.wrap_u8]
  omega

set_option maxRecDepth 100000 in
set_option maxHeartbeats 2000000 in
theorem ruint (n : Nat) (w : World) (hn : n ≤ 18446744073709551615) : Calls Try.prog 41 #[.int .u64 (n : Int)] w fun e w' => NewPost w (uintB n) e w' := by
  have S : Hid (UI n [] [] n 9) := UI.start n [] hn
  obtain ⟨i0, hi, hz0, hz1, hz2⟩ := info_parts info5
  go_enter Try.func41, Try.ntmps41
  go_wp2
  go_loopw [0, 3] (fun t bv wr => ∃ (P : List UInt8) (m f : Nat) (a : Option Addr) (cap : Nat), t = .int .u64 (m : Int) ∧ bv = .slice a P.length cap ∧ m ≤ 18446744073709551615 ∧ Hid (UI n [] P m f) ∧ Hid (Own wr w.heap.size (.slice a P.length cap) P) ∧ Hid (Below w.heap.size w wr)) (fun t _ _ => (intOf t).toNat)
  case atStart => exact ⟨[], n, 9, none, 0, rfl, rfl, hn, S, World.ownsRow_nil _ _ _ _, Below.refl _ _⟩
  case round =>
    obtain ⟨P, m, f, a, cap, rfl, rfl, hm64, HU, HO, HB⟩ := hrel
    have hlen : P.length ≤ 9 := by have := HU.out.2.2; omega
    obtain ⟨q, hq⟩ : ∃ q, P.length = q := ⟨_, rfl⟩
    have HQ : Hid (P.length = q) := hq
    rw [hq] at HO hlen ⊢
    have HOA : Hid (∀ o, (wr.alloc o).ownsRow w.heap.size 5 1 (.slice a q cap) q (bc P)) := by
      intro o
      have := World.ownsRow.alloc HO.out o
      rw [hq] at this
      exact this
    have hws : w.heap.size ≤ wr.heap.size := HB.out.size
    obtain ⟨c, hc⟩ : ∃ c, UInt8.ofNat (m % 128) = c := ⟨_, rfl⟩
    have HCT : Hid (((m % 128 : Nat) : Int) = (c.toNat : Int)) := by show _ = _; rw [← hc]; exact (byte_of (m % 128) (by omega)).symm
    have HC : Hid (UInt8.ofNat (m % 128) = c) := hc
    clear hc hq
    go_wp2_with (at_builtin; refine wpList_append_own _ rfl _ _ 40 rfl w.heap.size 5 i0 (.int .u8 0) 1 1 Try.underlying40 hi hz0 hz1 hz2 rfl (by decide) _ _ _ rfl (HOA.out _) ⟨wr.heap.size, 0, none⟩ 1 1 (bc [c]) rfl rfl ?c1 ?c2 ?c3 ?c4 ?c5 ?_)
    case c1 =>
      intro j u hj
      match j, hj with
      | 0, hj => simp [bc] at hj; subst hj; simp [Addr.add]; have := HCT.out; omega
    case c2 => exact bc_one _
    case c3 => unfold maxLen; omega
    case c4 => omega
    case c5 => simp; omega
    intro v' w1 hown' hgrow _
    have hO1 : Own w1 w.heap.size v' (P ++ [c]) := by
      unfold Own
      rw [bc_app, List.length_append, HQ.out]
      exact hown'
    have HB1 : Hid (Below w.heap.size w w1) := (HB.out.alloc hws _).grown hgrow (by simp; omega) (fun k hk => (World.ownsRow.lt HO.out k hk).1)
    obtain ⟨g, cap', rfl⟩ : ∃ g cap', v' = .slice (some ⟨g, 0, none⟩) (q + 1) cap' := by
      rcases hown'.2 with ⟨_, h⟩ | ⟨g, cap', _, h, _⟩
      · omega
      · exact ⟨g, cap', h⟩
    have HO1 : Hid (Own w1 w.heap.size (.slice (some ⟨g, 0, none⟩) (q + 1) cap') (P ++ [c])) := hO1
    clear hown' hgrow hO1 HOA
    by_cases hm : m < 128
    · have HF : Hid (P ++ [c] = uintB n) := by
        show _ = _
        rw [← HC.out, Nat.mod_eq_of_lt hm]
        exact HU.out.done hm
      have hz : m / 128 = 0 := by omega
      have hz' : (m : Int) / 128 = 0 := by omega
      go_wp2
      go_ret
      exact ⟨_, rfl, by rw [← HF.out]; exact HO1.out, HB1.out⟩
    · obtain ⟨f', ef, hst⟩ := HU.out.step hm
      have HS : Hid (UI n [] (P ++ [UInt8.ofNat (m % 128 + 128)]) (m / 128) f') := hst
      obtain ⟨d, hd⟩ : ∃ d, UInt8.ofNat (m % 128 + 128) = d := ⟨_, rfl⟩
      obtain ⟨k1, k2, k3, k4⟩ := HO1.out.setLast HQ.out d
      have HK1 : Hid (Own (w1.setCell ⟨g, q, none⟩ (.int .u8 (d.toNat : Int))) w.heap.size (.slice (some ⟨g, 0, none⟩) (q + 1) cap') (P ++ [d])) := k1
      have HBK : Hid (Below w.heap.size w (w1.setCell ⟨g, q, none⟩ (.int .u8 (d.toNat : Int)))) := HB1.out.setCell (p := ⟨g, q, none⟩) k4 _
      have hadd : IntKind.u8.wrap ((c.toNat : Int) + 128) = (d.toNat : Int) := by rw [← HC.out, ← hd]; exact add_byte m
      rw [hd] at HS
      have hnz : ¬ (m : Int) / 128 = 0 := by omega
      have hnz2 : ((m : Int) / 128 == 0) = false := by simp; omega
      have hcap : q + 1 ≤ cap' ∧ cap' ≤ maxLen := by
        rcases HO1.out.2 with ⟨h, _⟩ | ⟨g', cap2, _, h, _, _, h4, h5, _⟩
        · cases h
        · injection h with _ _ h
          subst h
          have := HQ.out
          simp at h4
          exact ⟨by omega, h5⟩
      unfold maxLen at hcap
      clear hst ef k1 hd k4
      go_wp2
      go_roundw
      case rel => exact ⟨P ++ [d], m / 128, f', some ⟨g, 0, none⟩, cap', by go_num, by have := HQ.out; simp [this], by omega, HS, by have := HQ.out; simpa [this] using HK1, HBK⟩
      case measure => simp [intOf]; omega
end Go.Proofs.Ythcidcfaodjbjaa
