/- What the document's Pieces answers: what stands between blanks, ahead of a remark. -/
import Derived.Test.YthcidcfaodjbjabDoorQLn
namespace Go.Proofs.YthcidcfaodjbjabDoor
open Go.RowKit Go.Maps
set_option linter.unusedVariables false

inductive CI (w : World) (s : ByteArray) (t nw i : Value) (wr : World) : Prop
  | mk (k : Nat) (B : ByteArray) (names : List ByteArray) (da : Option Addr) (dc : Nat) (hk : k ≤ s.size) (hbk : B.size ≤ k) (hi : i = .int .i64 k) (hnw : nw = .string B) (ht : t = .slice da names.length dc) (hn : names.length ≤ k)
      (hf : fieldsL (saidL s.data.toList) = names.map (·.data.toList) ++ fieldsG (saidL (s.data.toList.drop k)) B.data.toList) (hs : Strs wr w.heap.size (.slice da names.length dc) names) (hb : Below w.heap.size w wr) : CI w s t nw i wr
theorem said_next (l : List UInt8) (k : Nat) (hk : k < l.length) (h : l[k] ≠ 35) : saidL (l.drop k) = l[k] :: saidL (l.drop (k + 1)) := by
  rw [List.drop_eq_getElem_cons hk, saidL, if_neg h]

set_option maxRecDepth 100000 in
set_option maxHeartbeats 4000000 in
theorem rpieces_any (s : ByteArray) (hs : s.size ≤ 8192) (w : World) : Calls Tryd.prog 27 #[.string s] w (LnP w (fieldsL (saidL s.data.toList))) := by
  obtain ⟨i0, hi, hz0, hz1, hz2⟩ := info_parts info9
  obtain ⟨post, hpost⟩ : ∃ q : Ending → World → Prop, q = LnP w (fieldsL (saidL s.data.toList)) := ⟨_, rfl⟩
  have HPO : Hid (∀ v w' P, P.map (·.data.toList) = fieldsL (saidL s.data.toList) → Strs w' w.heap.size v P → Below w.heap.size w w' → post (.returned v) w') := by
    rw [hpost]
    intro v w' P h1 h2 h3
    exact ⟨v, P, h1, rfl, h2, h3⟩
  rw [← hpost]
  clear hpost
  have HSL : Hid (s.data.toList.length = s.size) := by show _ = _; simp
  go_enter Tryd.func27, Tryd.ntmps27
  go_wp2
  go_loopw [3, 4, 5] (fun t f i wr => CI w s t f i wr) (fun _ _ i _ => s.size - (intOf i).toNat)
  case atStart => exact CI.mk 0 ⟨#[]⟩ [] none 0 (Nat.zero_le _) (Nat.le_refl _) rfl rfl rfl (Nat.le_refl _) rfl (Strs.nil _ _) (Below.refl _ _)
  case round =>
    obtain ⟨k, B, names, da, dc, hk, hbk, rfl, rfl, rfl, hn, hf, hst, hb⟩ := hrel
    have HF : Hid (fieldsL (saidL s.data.toList) = names.map (·.data.toList) ++ fieldsG (saidL (s.data.toList.drop k)) B.data.toList) := hf
    have HS : Hid (Strs wr w.heap.size (.slice da names.length dc) names) := hst
    have HB : Hid (Below w.heap.size w wr) := hb
    have hws := hb.size
    clear hf hst hb
    by_cases hlt : k < s.size
    · have hkl : k < s.data.toList.length := by rw [HSL.out]; exact hlt
      obtain ⟨c, hc⟩ : ∃ c, s[k] = c := ⟨_, rfl⟩
      have hkb : s.data.toList[k] = c := hc
      by_cases h35 : c = 35
      · have h35' : (s[k].toNat : Int) = 35 := by rw [hc, h35]; rfl
        have HFE : Hid (fieldsL (saidL s.data.toList) = names.map (·.data.toList) ++ fieldsG [] B.data.toList) := by
          show _ = _
          rw [HF.out, List.drop_eq_getElem_cons hkl, hkb, h35]
          rfl
        clear h35 hkb hc
        -- the end: what is left is a piece
        by_cases hB : B.toList = []
        · have HE : Hid (names.map (·.data.toList) = fieldsL (saidL s.data.toList)) := by
            show _ = _
            rw [HFE.out, ← ByteArray.toList_eq, hB]; simp [fieldsG]
          go_wp2
          all_goals first | exact HPO.out _ _ _ HE.out HS.out HB.out | (go_ret; exact HPO.out _ _ _ HE.out HS.out HB.out)
        · have HE : Hid ((names ++ [B]).map (·.data.toList) = fieldsL (saidL s.data.toList)) := by
            show _ = _
            have h1 : B.data.toList ≠ [] := by rw [← ByteArray.toList_eq]; exact hB
            rw [HFE.out, List.map_append]; simp [fieldsG, h1]
          have hBe : B.toList.isEmpty = false := by simpa using hB
          have HSA : Hid (∀ o, (wr.alloc o).ownsRow w.heap.size 9 1 (.slice da names.length dc) names.length (names.map fun x => Value.string x)) := fun o => World.ownsRow.alloc HS.out o
          have HBA : Hid (∀ o, Below w.heap.size w (wr.alloc o)) := fun o => HB.out.alloc hws o
          go_wp2_with (at_builtin; refine wpList_append_own_at _ rfl _ _ 47 rfl w.heap.size 9 i0 (.string ⟨#[]⟩) 1 16 Tryd.underlying47 hi hz0 hz1 hz2 rfl (by decide) _ _ _ rfl (HSA.out _) ⟨wr.heap.size, 0, none⟩ 1 1 [.string B] rfl rfl ?c1x1 (strs_one [B]) ?c3x1 ?c4x1 ?c5x1 ?_)
          try case c1x1 => exact one_new _ _ _
          case c3x1 => unfold maxLen; omega
          case c4x1 => omega
          case c5x1 => first | omega | (simp; omega)
          intro v' w3 hown' hgrow hnil hloc
          have HB3 : Hid (Below w.heap.size w w3) := (HBA.out _).grown hgrow (by simp; omega) (fun k hk => (HS.out.own k hk).1)
          have HS3 : Hid (Strs w3 w.heap.size v' (names ++ [B])) := by show w3.ownsRow _ _ _ _ _ _; simpa using hown'
          clear hown' hgrow hnil hloc HSA HBA
          go_wp2
          first | exact HPO.out _ _ _ HE.out HS3.out HB3.out | (go_ret; exact HPO.out _ _ _ HE.out HS3.out HB3.out)
      · have HN : Hid (fieldsL (saidL s.data.toList) = names.map (·.data.toList) ++ fieldsG (c :: saidL (s.data.toList.drop (k + 1))) B.data.toList) := by
          show _ = _
          rw [HF.out, said_next _ k hkl (by rw [hkb]; exact h35), hkb]
        by_cases hsep : sepB c = true
        · have hsc : c = 32 ∨ c = 9 ∨ c = 13 := by
            unfold sepB at hsep
            simp only [Bool.or_eq_true, beq_iff_eq] at hsep
            rcases hsep with (h | h) | h
            · exact Or.inl h
            · exact Or.inr (Or.inl h)
            · exact Or.inr (Or.inr h)
          have HN2 : Hid (fieldsL (saidL s.data.toList) = names.map (·.data.toList) ++ (if B.data.toList = [] then fieldsG (saidL (s.data.toList.drop (k + 1))) [] else B.data.toList :: fieldsG (saidL (s.data.toList.drop (k + 1))) [])) := by
            show _ = _
            rw [HN.out]
            show _ ++ (if sepB c = true then _ else _) = _
            rw [if_pos hsep]
          have hcn : (s[k].toNat : Int) = (c.toNat : Int) := by rw [hc]
          clear HN hsep h35 hkb hc
          by_cases hB : B.toList = []
          · have HF2 : Hid (fieldsL (saidL s.data.toList) = names.map (·.data.toList) ++ fieldsG (saidL (s.data.toList.drop (k + 1))) (⟨#[]⟩ : ByteArray).data.toList) := by
              show _ = _
              rw [HN2.out, if_pos (by rw [← ByteArray.toList_eq]; exact hB)]
            rcases hsc with rfl | rfl | rfl
            all_goals
              go_wp2
              go_roundw
              case rel => exact CI.mk (k + 1) ⟨#[]⟩ names da dc (by omega) (Nat.zero_le _) (by go_num) rfl rfl (by omega) HF2.out HS.out HB.out
              case measure => simp [intOf]; omega
          · have HF2 : Hid (fieldsL (saidL s.data.toList) = (names ++ [B]).map (·.data.toList) ++ fieldsG (saidL (s.data.toList.drop (k + 1))) (⟨#[]⟩ : ByteArray).data.toList) := by
              show _ = _
              rw [HN2.out, if_neg (by rw [← ByteArray.toList_eq]; exact hB), List.map_append, List.append_assoc]
              rfl
            have hBe : B.toList.isEmpty = false := by simpa using hB
            rcases hsc with rfl | rfl | rfl
            · have hdummy := hk
              have HSA : Hid (∀ o, (wr.alloc o).ownsRow w.heap.size 9 1 (.slice da names.length dc) names.length (names.map fun x => Value.string x)) := fun o => World.ownsRow.alloc HS.out o
              have HBA : Hid (∀ o, Below w.heap.size w (wr.alloc o)) := fun o => HB.out.alloc hws o
              go_wp2_with (at_builtin; refine wpList_append_own_at _ rfl _ _ 47 rfl w.heap.size 9 i0 (.string ⟨#[]⟩) 1 16 Tryd.underlying47 hi hz0 hz1 hz2 rfl (by decide) _ _ _ rfl (HSA.out _) ⟨wr.heap.size, 0, none⟩ 1 1 [.string B] rfl rfl ?c1x2 (strs_one [B]) ?c3x2 ?c4x2 ?c5x2 ?_)
              try case c1x2 => exact one_new _ _ _
              case c3x2 => unfold maxLen; omega
              case c4x2 => omega
              case c5x2 => first | omega | (simp; omega)
              intro v' w3 hown' hgrow hnil hloc
              have HB3 : Hid (Below w.heap.size w w3) := (HBA.out _).grown hgrow (by simp; omega) (fun k hk => (HS.out.own k hk).1)
              have HS3 : Hid (Strs w3 w.heap.size v' (names ++ [B])) := by show w3.ownsRow _ _ _ _ _ _; simpa using hown'
              obtain ⟨da', dc', hv'⟩ := HS3.out.form
              subst hv'
              clear hown' hgrow hnil hloc HSA HBA
              go_wp2
              go_roundw
              case rel => exact CI.mk (k + 1) ⟨#[]⟩ (names ++ [B]) da' dc' (by omega) (Nat.zero_le _) (by go_num) rfl rfl (by simp; omega) HF2.out HS3.out HB3.out
              case measure => simp [intOf]; omega
            · have hdummy := hk
              have HSA : Hid (∀ o, (wr.alloc o).ownsRow w.heap.size 9 1 (.slice da names.length dc) names.length (names.map fun x => Value.string x)) := fun o => World.ownsRow.alloc HS.out o
              have HBA : Hid (∀ o, Below w.heap.size w (wr.alloc o)) := fun o => HB.out.alloc hws o
              go_wp2_with (at_builtin; refine wpList_append_own_at _ rfl _ _ 47 rfl w.heap.size 9 i0 (.string ⟨#[]⟩) 1 16 Tryd.underlying47 hi hz0 hz1 hz2 rfl (by decide) _ _ _ rfl (HSA.out _) ⟨wr.heap.size, 0, none⟩ 1 1 [.string B] rfl rfl ?c1x3 (strs_one [B]) ?c3x3 ?c4x3 ?c5x3 ?_)
              try case c1x3 => exact one_new _ _ _
              case c3x3 => unfold maxLen; omega
              case c4x3 => omega
              case c5x3 => first | omega | (simp; omega)
              intro v' w3 hown' hgrow hnil hloc
              have HB3 : Hid (Below w.heap.size w w3) := (HBA.out _).grown hgrow (by simp; omega) (fun k hk => (HS.out.own k hk).1)
              have HS3 : Hid (Strs w3 w.heap.size v' (names ++ [B])) := by show w3.ownsRow _ _ _ _ _ _; simpa using hown'
              obtain ⟨da', dc', hv'⟩ := HS3.out.form
              subst hv'
              clear hown' hgrow hnil hloc HSA HBA
              go_wp2
              go_roundw
              case rel => exact CI.mk (k + 1) ⟨#[]⟩ (names ++ [B]) da' dc' (by omega) (Nat.zero_le _) (by go_num) rfl rfl (by simp; omega) HF2.out HS3.out HB3.out
              case measure => simp [intOf]; omega
            · have hdummy := hk
              have HSA : Hid (∀ o, (wr.alloc o).ownsRow w.heap.size 9 1 (.slice da names.length dc) names.length (names.map fun x => Value.string x)) := fun o => World.ownsRow.alloc HS.out o
              have HBA : Hid (∀ o, Below w.heap.size w (wr.alloc o)) := fun o => HB.out.alloc hws o
              go_wp2_with (at_builtin; refine wpList_append_own_at _ rfl _ _ 47 rfl w.heap.size 9 i0 (.string ⟨#[]⟩) 1 16 Tryd.underlying47 hi hz0 hz1 hz2 rfl (by decide) _ _ _ rfl (HSA.out _) ⟨wr.heap.size, 0, none⟩ 1 1 [.string B] rfl rfl ?c1x4 (strs_one [B]) ?c3x4 ?c4x4 ?c5x4 ?_)
              try case c1x4 => exact one_new _ _ _
              case c3x4 => unfold maxLen; omega
              case c4x4 => omega
              case c5x4 => first | omega | (simp; omega)
              intro v' w3 hown' hgrow hnil hloc
              have HB3 : Hid (Below w.heap.size w w3) := (HBA.out _).grown hgrow (by simp; omega) (fun k hk => (HS.out.own k hk).1)
              have HS3 : Hid (Strs w3 w.heap.size v' (names ++ [B])) := by show w3.ownsRow _ _ _ _ _ _; simpa using hown'
              obtain ⟨da', dc', hv'⟩ := HS3.out.form
              subst hv'
              clear hown' hgrow hnil hloc HSA HBA
              go_wp2
              go_roundw
              case rel => exact CI.mk (k + 1) ⟨#[]⟩ (names ++ [B]) da' dc' (by omega) (Nat.zero_le _) (by go_num) rfl rfl (by simp; omega) HF2.out HS3.out HB3.out
              case measure => simp [intOf]; omega
        · have hs32 : ((s[k].toNat : Int) == 32) = false := by
            rw [hc]; have : c ≠ 32 := fun e => hsep (by rw [e]; rfl)
            have : c.toNat ≠ 32 := fun e => this (UInt8.toNat_inj.1 e)
            simp; omega
          have hs9 : ((s[k].toNat : Int) == 9) = false := by
            rw [hc]; have : c ≠ 9 := fun e => hsep (by rw [e]; rfl)
            have : c.toNat ≠ 9 := fun e => this (UInt8.toNat_inj.1 e)
            simp; omega
          have hs13 : ((s[k].toNat : Int) == 13) = false := by
            rw [hc]; have : c ≠ 13 := fun e => hsep (by rw [e]; rfl)
            have : c.toNat ≠ 13 := fun e => this (UInt8.toNat_inj.1 e)
            simp; omega
          have hs35 : ((s[k].toNat : Int) == 35) = false := by
            rw [hc]
            have : c.toNat ≠ 35 := fun e => h35 (UInt8.toNat_inj.1 e)
            simp; omega
          have HF2 : Hid (fieldsL (saidL s.data.toList) = names.map (·.data.toList) ++ fieldsG (saidL (s.data.toList.drop (k + 1))) (B ++ s.extract k (k + 1)).data.toList) := by
            show _ = _
            rw [HN.out]
            show _ ++ (if sepB c = true then _ else _) = _
            rw [if_neg hsep]
            congr 2
            rw [ByteArray.data_append, Array.toList_append, ByteArray.data_extract, Array.toList_extract, List.extract_eq_take_drop, List.drop_eq_getElem_cons hkl, hkb]
            simp
          have HSZ : Hid ((B ++ s.extract k (k + 1)).size ≤ k + 1) := by
            show _ ≤ _
            rw [ByteArray.size_append, ByteArray.size_extract]; omega
          clear HN hsep h35 hkb hc
          go_wp2
          go_roundw
          case rel => exact CI.mk (k + 1) (B ++ s.extract k (k + 1)) names da dc (by omega) HSZ.out (by go_num) rfl rfl (by omega) HF2.out HS.out HB.out
          case measure => simp [intOf]; omega
    · have hke : k = s.size := by omega
      subst hke
      have HFE : Hid (fieldsL (saidL s.data.toList) = names.map (·.data.toList) ++ fieldsG [] B.data.toList) := by
        show _ = _
        rw [HF.out, List.drop_eq_nil_of_le (by simp)]
        rfl
      -- the end: what is left is a piece
      by_cases hB : B.toList = []
      · have HE : Hid (names.map (·.data.toList) = fieldsL (saidL s.data.toList)) := by
          show _ = _
          rw [HFE.out, ← ByteArray.toList_eq, hB]; simp [fieldsG]
        go_wp2
        all_goals first | exact HPO.out _ _ _ HE.out HS.out HB.out | (go_ret; exact HPO.out _ _ _ HE.out HS.out HB.out)
      · have HE : Hid ((names ++ [B]).map (·.data.toList) = fieldsL (saidL s.data.toList)) := by
          show _ = _
          have h1 : B.data.toList ≠ [] := by rw [← ByteArray.toList_eq]; exact hB
          rw [HFE.out, List.map_append]; simp [fieldsG, h1]
        have hBe : B.toList.isEmpty = false := by simpa using hB
        have HSA : Hid (∀ o, (wr.alloc o).ownsRow w.heap.size 9 1 (.slice da names.length dc) names.length (names.map fun x => Value.string x)) := fun o => World.ownsRow.alloc HS.out o
        have HBA : Hid (∀ o, Below w.heap.size w (wr.alloc o)) := fun o => HB.out.alloc hws o
        go_wp2_with (at_builtin; refine wpList_append_own_at _ rfl _ _ 47 rfl w.heap.size 9 i0 (.string ⟨#[]⟩) 1 16 Tryd.underlying47 hi hz0 hz1 hz2 rfl (by decide) _ _ _ rfl (HSA.out _) ⟨wr.heap.size, 0, none⟩ 1 1 [.string B] rfl rfl ?c1x5 (strs_one [B]) ?c3x5 ?c4x5 ?c5x5 ?_)
        try case c1x5 => exact one_new _ _ _
        case c3x5 => unfold maxLen; omega
        case c4x5 => omega
        case c5x5 => first | omega | (simp; omega)
        intro v' w3 hown' hgrow hnil hloc
        have HB3 : Hid (Below w.heap.size w w3) := (HBA.out _).grown hgrow (by simp; omega) (fun k hk => (HS.out.own k hk).1)
        have HS3 : Hid (Strs w3 w.heap.size v' (names ++ [B])) := by show w3.ownsRow _ _ _ _ _ _; simpa using hown'
        clear hown' hgrow hnil hloc HSA HBA
        go_wp2
        first | exact HPO.out _ _ _ HE.out HS3.out HB3.out | (go_ret; exact HPO.out _ _ _ HE.out HS3.out HB3.out)
end Go.Proofs.YthcidcfaodjbjabDoor
