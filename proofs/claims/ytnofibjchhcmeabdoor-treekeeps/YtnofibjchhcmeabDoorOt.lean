/- What stands behind an else. -/
import Derived.Test.YtnofibjchhcmeabDoorBl
namespace Go.Proofs.YtnofibjchhcmeabDoor
open Go.RowKit Go.Maps
set_option linter.unusedVariables false

/-- one statement as a row of its own -/
theorem ssl_one {w : World} {ok : Nat → Prop} {k : Nat} {x : PT} {v bv ev : Value} (h : w.heap[k]? = some (.cells #[.int .i64 x.kind, .string x.name, .int .i64 x.cell, v, bv, ev] 39)) (hk : ok k) (hm : TM w ok ⟨x, v, bv, ev⟩) : SSlP w ok (.slice (some ⟨k, 0, none⟩) 1 1) (srow [x]) := by
  obtain ⟨c0, c1, c2, c3, c4, c5⟩ := c6 h
  refine ⟨some ⟨k, 0, none⟩, 1, k, 0, rfl, Nat.le_refl _, by unfold maxLen; decide, fun _ => ⟨rfl, hk⟩, ?_⟩
  refine SAt.of_cells [⟨x, v, bv, ev⟩] 0 (fun j u hj => ?_) (fun y hy => by simp at hy; subst hy; exact hm)
  rw [Nat.zero_add]
  match j, hj with
  | 0, hj => simp [scs, sc] at hj; subst hj; exact c0
  | 1, hj => simp [scs, sc] at hj; subst hj; exact c1
  | 2, hj => simp [scs, sc] at hj; subst hj; exact c2
  | 3, hj => simp [scs, sc] at hj; subst hj; exact c3
  | 4, hj => simp [scs, sc] at hj; subst hj; exact c4
  | 5, hj => simp [scs, sc] at hj; subst hj; exact c5

set_option maxRecDepth 100000 in
set_option maxHeartbeats 4000000 in
theorem other_any {pb g c : Nat} {L : List Tok} {b : Nat} (hE : TEnd L) (row ch : Nat → Nat → Nat → TR) (p n : Nat) (w : World) (h : PS w pb g c L p 0 b n) (hs : SG w pb) (hn : n ≤ 600) (hb12 : b ≤ 12)
    (hblk : ∀ W, PS W pb g c L p 0 b n → SG W pb → ¬ (tk L p).text = [105, 102] → Calls Tryd.prog 82 #[.pointer (some ⟨pb, 0, none⟩)] W (BPost W (fun j => W.heap.size ≤ j) pb g c L b (blockP L row b p n)))
    (hch : ∀ W, PS W pb g c L p 0 (b + 1) n → SG W pb → (tk L p).text = [105, 102] → b < 12 → Calls Tryd.prog 61 #[.pointer (some ⟨pb, 0, none⟩)] W (TPost W (fun j => W.heap.size ≤ j) pb g c L (b + 1) (ch (b + 1) p n))) :
    Calls Tryd.prog 84 #[.pointer (some ⟨pb, 0, none⟩)] w (BPost w (fun j => w.heap.size ≤ j) pb g c L b (otherP L row ch b p n)) := by
  have HPL : Hid (pb < w.heap.size ∧ g < w.heap.size) := ⟨h.lt, h.gl⟩
  have HSG : Hid (SG w pb) := hs
  have HS0 : Hid (PS w pb g c L p 0 b n) := h
  have hlk := looksAt_tk ⟨#[105, 102]⟩ h
  unfold otherP
  by_cases e1 : ¬ (tk L p).text = [105, 102]
  · rw [if_pos e1]
    have HBK : Hid (∀ W, PS W pb g c L p 0 b n → SG W pb → Calls Tryd.prog 82 #[.pointer (some ⟨pb, 0, none⟩)] W (BPost W (fun j => W.heap.size ≤ j) pb g c L b (blockP L row b p n))) := fun W h1 h2 => hblk W h1 h2 e1
    generalize blockP L row b p n = R at HBK ⊢
    obtain ⟨P, hP⟩ : ∃ P, BPost w (fun j => w.heap.size ≤ j) pb g c L b R = P := ⟨_, rfl⟩
    have HP : Hid (BPost w (fun j => w.heap.size ≤ j) pb g c L b R = P) := hP
    rw [hP]
    have hkb : ((tk L p).text == (⟨#[105, 102]⟩ : ByteArray).data.toList) = false := by simpa using e1
    rw [hkb] at hlk
    clear h hs hblk hch hP hkb
    go_enter Tryd.func84, Tryd.ntmps84
    go_wp2_with fail
    refine hlk.mono ?_
    rintro e w1 ⟨rfl, hb⟩
    have HS1 : Hid (PS w1 pb g c L p 0 b n) := HS0.out.below hb
    have HG1 : Hid (Gr w w1 pb) := Gr.below hb
    have hs1 : w.heap.size ≤ w1.heap.size := hb.size
    clear hb
    go_wp2_with fail
    refine (HBK.out _ HS1.out (HSG.out.gr HG1.out)).mono ?_
    rcases R with ⟨k, ek⟩ | ⟨l, q, m⟩
    · rintro e w2 ⟨rfl, hg⟩
      refine ⟨rfl, ?_⟩
      rw [← HP.out]
      exact ⟨rfl, HG1.out.trans hg⟩
    · rintro e w2 ⟨v1, v2, v3, rfl, hss, hp, hg, hm⟩
      have HF : Hid (P (.returned (.slice v1 v2 v3)) w2) := by
        show P _ _
        rw [← HP.out]
        exact ⟨v1, v2, v3, rfl, hss.mono fun j hj => Nat.le_trans hs1 hj, hp, HG1.out.trans hg, hm⟩
      clear hss hp hg
      go_wp2
      first | exact HF.out | (go_ret; exact HF.out)
  rw [if_neg e1]
  replace e1 := Decidable.of_not_not e1
  have hkb : ((tk L p).text == (⟨#[105, 102]⟩ : ByteArray).data.toList) = true := by rw [e1]; rfl
  rw [hkb] at hlk
  obtain ⟨t, ht⟩ : ∃ t, tk L p = t := ⟨_, rfl⟩
  have HLK : Hid (∀ W, PS W pb g c L p 0 b n → Calls Tryd.prog 46 #[.pointer (some ⟨pb, 0, none⟩)] W fun e w' => e = .returned (tv t) ∧ Below W.heap.size W w') := fun W hW => by have := look_tk hW; rwa [ht] at this
  have HCH : Hid (b < 12 → ∀ W, PS W pb g c L p 0 (b + 1) n → SG W pb → Calls Tryd.prog 61 #[.pointer (some ⟨pb, 0, none⟩)] W (TPost W (fun j => W.heap.size ≤ j) pb g c L (b + 1) (ch (b + 1) p n))) := fun hb W h1 h2 => hch W h1 h2 e1 hb
  rw [ht]
  generalize ch (b + 1) p n = R at HCH ⊢
  obtain ⟨P, hP⟩ : ∃ P, BPost w (fun j => w.heap.size ≤ j) pb g c L b (if 12 ≤ b then .error (t.pos, 41) else R) = P := ⟨_, rfl⟩
  have HP : Hid (BPost w (fun j => w.heap.size ≤ j) pb g c L b (if 12 ≤ b then .error (t.pos, 41) else R) = P) := hP
  rw [hP]
  unfold tv at HLK
  clear h hs hblk hch hP hkb e1 ht
  go_enter Tryd.func84, Tryd.ntmps84
  go_wp2_with fail
  refine hlk.mono ?_
  rintro e w1 ⟨rfl, hb⟩
  have HS1 : Hid (PS w1 pb g c L p 0 b n) := HS0.out.below hb
  have HG1 : Hid (Gr w w1 pb) := Gr.below hb
  clear hb hlk
  go_wp2_with fail
  refine (HLK.out _ HS1.out).mono ?_
  rintro e w2 ⟨rfl, hb⟩
  have HS2 : Hid (PS w2 pb g c L p 0 b n) := HS1.out.below hb
  have HG2 : Hid (Gr w w2 pb) := HG1.out.trans (Gr.below hb)
  have HEB : Hid (12 ≤ b → Calls Tryd.prog 95 #[.pointer (some ⟨pb, 0, none⟩), tv t] w2 fun e w' => e = gaveUpT (t.pos : Int) 41 ∧ Gr w2 w' pb) := fun h => enters_bad pb g c L p 0 b n t w2 HS2.out h (by omega)
  have HEO : Hid (b < 12 → Calls Tryd.prog 95 #[.pointer (some ⟨pb, 0, none⟩), tv t] w2 fun e w' => e = .returned (.tuple #[]) ∧ PS w' pb g c L p 0 (b + 1) n ∧ Gr w2 w' pb) := fun h => enters_ok pb g c L p 0 b n t w2 HS2.out h
  unfold tv at HEB HEO
  clear hb HLK
  go_wp2_with fail
  by_cases e2 : 12 ≤ b
  · rw [if_pos e2] at HP
    refine (HEB.out e2).mono ?_
    rintro e w3 ⟨rfl, hg⟩
    refine ⟨rfl, ?_⟩
    rw [← HP.out]
    exact ⟨rfl, HG2.out.trans hg⟩
  rw [if_neg e2] at HP
  refine (HEO.out (by omega)).mono ?_
  rintro e w3 ⟨rfl, hp, hg⟩
  have HS3 : Hid (PS w3 pb g c L p 0 (b + 1) n) := hp
  have HG3 : Hid (Gr w w3 pb) := HG2.out.trans hg
  clear hp hg HEB HEO
  go_wp2_with fail
  refine (HCH.out (by omega) _ HS3.out (HSG.out.gr HG3.out)).mono ?_
  rcases R with ⟨k, ek⟩ | ⟨l, q, m⟩
  · rintro e w4 ⟨rfl, hg⟩
    refine ⟨rfl, ?_⟩
    rw [← HP.out]
    exact ⟨rfl, HG3.out.trans hg⟩
  rcases l with _ | ⟨x, _ | ⟨y, l⟩⟩
  · intro e w8 hep; exact hep.elim
  · rintro e w4 ⟨v1, v2, v3, b1, b2, b3, e1, e2, e3, rfl, hes, hbs, hels, hp, hg, hm⟩
    have hs3 : w.heap.size ≤ w3.heap.size := HG3.out.size
    have HTM : Hid (TM w4 (fun j => w.heap.size ≤ j) ⟨x, .slice v1 v2 v3, .slice b1 b2 b3, .slice e1 e2 e3⟩) := ⟨hes.mono fun j hj => Nat.le_trans hs3 hj, hbs.mono fun j hj => Nat.le_trans hs3 hj, hels.mono fun j hj => Nat.le_trans hs3 hj⟩
    have HS4 : Hid (PS w4 pb g c L q 0 (b + 1) m) := hp
    have HG4 : Hid (Gr w w4 pb) := HG3.out.trans hg
    have HM4 : Hid (m ≤ 600 ∧ w.heap.size ≤ w4.heap.size) := ⟨hm, HG4.out.size⟩
    have BL := (Below.refl w4.heap.size w4).alloc (Nat.le_refl _) (.cells #[.int .i64 x.kind, .string x.name, .int .i64 x.cell, .slice v1 v2 v3, .slice b1 b2 b3, .slice e1 e2 e3] 39)
    have HS5 : Hid (PS (w4.alloc (.cells #[.int .i64 x.kind, .string x.name, .int .i64 x.cell, .slice v1 v2 v3, .slice b1 b2 b3, .slice e1 e2 e3] 39)) pb g c L q 0 (b + 1) m) := hp.below BL
    have c2 := HS5.out.c2
    have f2 := HS5.out.f2
    have hl5 := HS5.out.lt
    have hcb : ((b + 1 : Nat) : Int) = (b : Int) + 1 := by omega
    rw [hcb] at c2
    have X5 := heap_alloc_new w4 (.cells #[.int .i64 x.kind, .string x.name, .int .i64 x.cell, .slice v1 v2 v3, .slice b1 b2 b3, .slice e1 e2 e3] 39)
    have HG5 : Hid (Gr w (w4.alloc (.cells #[.int .i64 x.kind, .string x.name, .int .i64 x.cell, .slice v1 v2 v3, .slice b1 b2 b3, .slice e1 e2 e3] 39)) pb) := HG4.out.alloc _
    have HT5 : Hid (TM (w4.alloc (.cells #[.int .i64 x.kind, .string x.name, .int .i64 x.cell, .slice v1 v2 v3, .slice b1 b2 b3, .slice e1 e2 e3] 39)) (fun j => w.heap.size ≤ j) ⟨x, .slice v1 v2 v3, .slice b1 b2 b3, .slice e1 e2 e3⟩) := HTM.out.keep fun k _ hk => BL.block k hk
    have hpl4 : pb < w4.heap.size := hp.lt
    have hsz5 : (w4.alloc (.cells #[.int .i64 x.kind, .string x.name, .int .i64 x.cell, .slice v1 v2 v3, .slice b1 b2 b3, .slice e1 e2 e3] 39)).heap.size = w4.heap.size + 1 := by simp
    clear hes hbs hels hp hg hm BL hcb
    have hv4 : (w4.setCell ⟨pb, 2, none⟩ (.int .i64 (b : Int))).heap.size = w4.heap.size := by simp [World.setCell]
    have D6 := heap_alloc_new (w4.setCell ⟨pb, 2, none⟩ (.int .i64 (b : Int))) (.cells #[.int .i64 x.kind, .string x.name, .int .i64 x.cell, .slice v1 v2 v3, .slice b1 b2 b3, .slice e1 e2 e3] 39)
    have BL6 := (Below.refl (w4.setCell ⟨pb, 2, none⟩ (.int .i64 (b : Int))).heap.size (w4.setCell ⟨pb, 2, none⟩ (.int .i64 (b : Int)))).alloc (Nat.le_refl _) (.cells #[.int .i64 x.kind, .string x.name, .int .i64 x.cell, .slice v1 v2 v3, .slice b1 b2 b3, .slice e1 e2 e3] 39)
    rw [hv4] at D6 BL6
    obtain ⟨n0, n1, n2, n3, n4, n5⟩ := c6 D6
    have HF : Hid (P (.returned (.slice (some ⟨w4.heap.size + 1, 0, none⟩) 1 1)) (((w4.setCell ⟨pb, 2, none⟩ (.int .i64 (b : Int))).alloc (.cells #[.int .i64 x.kind, .string x.name, .int .i64 x.cell, .slice v1 v2 v3, .slice b1 b2 b3, .slice e1 e2 e3] 39)).alloc (.cells #[.int .i64 x.kind, .string x.name, .int .i64 x.cell, .slice v1 v2 v3, .slice b1 b2 b3, .slice e1 e2 e3] 39))) := by
      show P _ _
      rw [← HP.out]
      have hsz6 : ((w4.setCell ⟨pb, 2, none⟩ (.int .i64 (b : Int))).alloc (.cells #[.int .i64 x.kind, .string x.name, .int .i64 x.cell, .slice v1 v2 v3, .slice b1 b2 b3, .slice e1 e2 e3] 39)).heap.size = w4.heap.size + 1 := by simp [World.setCell]
      have hn7 := heap_alloc_new ((w4.setCell ⟨pb, 2, none⟩ (.int .i64 (b : Int))).alloc (.cells #[.int .i64 x.kind, .string x.name, .int .i64 x.cell, .slice v1 v2 v3, .slice b1 b2 b3, .slice e1 e2 e3] 39)) (.cells #[.int .i64 x.kind, .string x.name, .int .i64 x.cell, .slice v1 v2 v3, .slice b1 b2 b3, .slice e1 e2 e3] 39)
      have BL7 := (Below.refl ((w4.setCell ⟨pb, 2, none⟩ (.int .i64 (b : Int))).alloc (.cells #[.int .i64 x.kind, .string x.name, .int .i64 x.cell, .slice v1 v2 v3, .slice b1 b2 b3, .slice e1 e2 e3] 39)).heap.size ((w4.setCell ⟨pb, 2, none⟩ (.int .i64 (b : Int))).alloc (.cells #[.int .i64 x.kind, .string x.name, .int .i64 x.cell, .slice v1 v2 v3, .slice b1 b2 b3, .slice e1 e2 e3] 39))).alloc (Nat.le_refl _) (.cells #[.int .i64 x.kind, .string x.name, .int .i64 x.cell, .slice v1 v2 v3, .slice b1 b2 b3, .slice e1 e2 e3] 39)
      rw [hsz6] at hn7 BL7
      have hs6 : PS ((w4.setCell ⟨pb, 2, none⟩ (.int .i64 (b : Int))).alloc (.cells #[.int .i64 x.kind, .string x.name, .int .i64 x.cell, .slice v1 v2 v3, .slice b1 b2 b3, .slice e1 e2 e3] 39)) pb g c L q 0 b m := (HS4.out.set2 b).below (by rw [hv4]; exact BL6)
      have ht6 : TM (((w4.setCell ⟨pb, 2, none⟩ (.int .i64 (b : Int))).alloc (.cells #[.int .i64 x.kind, .string x.name, .int .i64 x.cell, .slice v1 v2 v3, .slice b1 b2 b3, .slice e1 e2 e3] 39)).alloc (.cells #[.int .i64 x.kind, .string x.name, .int .i64 x.cell, .slice v1 v2 v3, .slice b1 b2 b3, .slice e1 e2 e3] 39)) (fun j => w.heap.size ≤ j) ⟨x, .slice v1 v2 v3, .slice b1 b2 b3, .slice e1 e2 e3⟩ := HTM.out.keep fun k hk hk2 => (BL7.block k (by omega)).trans ((BL6.block k hk2).trans (Below.heap_setCell _ _ _ _ (by show k ≠ pb; have := HPL.out; omega)))
      exact ⟨some ⟨w4.heap.size + 1, 0, none⟩, 1, 1, rfl, ssl_one hn7 (by have := HM4.out; show w.heap.size ≤ w4.heap.size + 1; omega) ht6, hs6.below (by rw [hsz6]; exact BL7), (((HG4.out.set 2 _).alloc _).alloc _), HM4.out.1⟩
    clear D6 X5 hsz5 BL6 hv4
    go_wp2
    first | exact HF.out | (go_ret; exact HF.out)
  · intro e w8 hep; exact hep.elim
end Go.Proofs.YtnofibjchhcmeabDoor
