/- What is written is read: one line, plain. -/
import Derived.Test.YthcidcfaodjbjacDoorTxD
import Derived.Test.YthcidcfaodjbjacDoorParP
import Derived.Test.YthcidcfaodjbjacDoorNPlainC
namespace Go.Proofs.YthcidcfaodjbjacDoor
set_option linter.unusedVariables false
/-- a byte that ends no piece and no line -/
def okB (b : UInt8) : Bool := !sepB b && !(b == 10) && !(b == 35) && !(b == 58)
def cln (s : List UInt8) : Bool := !s.isEmpty && s.all okB
theorem okD {b : UInt8} (h : isD b = true) : okB b = true := by
  have h2 : 48 ≤ b.toNat ∧ b.toNat ≤ 57 := of_decide_eq_true h
  have ne : ∀ c : UInt8, ¬ (48 ≤ c.toNat ∧ c.toNat ≤ 57) → (b == c) = false := fun c hc => by
    apply beq_eq_false_iff_ne.2
    rintro rfl
    exact hc h2
  unfold okB sepB
  rw [ne 32 (by decide), ne 9 (by decide), ne 13 (by decide), ne 10 (by decide), ne 35 (by decide), ne 58 (by decide)]
  rfl
theorem text_cln (n : Int) (h1 : -9223372036854775808 ≤ n) (h2 : n ≤ 9223372036854775807) : cln (text n) = true := by
  have hm2 : (mag n).toNat ≤ 9223372036854775808 := by unfold mag; split <;> omega
  obtain ⟨a1, a2, a3, _, _, _⟩ := digsF_facts 20 (mag n).toNat (by omega) (by omega)
  have hd : (digsF 20 (mag n).toNat).all okB = true := List.all_eq_true.2 fun b hb => okD (List.all_eq_true.1 a1 b hb)
  have hne : digsF 20 (mag n).toNat ≠ [] := fun e => by rw [e] at a3; simp at a3
  unfold cln text
  rw [List.all_append, hd]
  split
  · simp; decide
  · cases h : digsF 20 (mag n).toNat with
    | nil => exact absurd h hne
    | cons _ _ => rfl
theorem cons_cln {b : UInt8} {s : List UInt8} (hb : okB b = true) (h : cln s = true) : cln (b :: s) = true := by
  unfold cln at h ⊢
  rw [Bool.and_eq_true] at h
  rw [List.all_cons, hb, h.2]
  rfl
theorem piece_cln {x : In} (hw : InW x) (c : UInt8) : cln (pieceT x c) = true := by
  unfold pieceT labelT
  repeat' split
  · exact cons_cln (by decide) (text_cln _ hw.a.1 hw.a.2)
  · exact cons_cln (by decide) (text_cln _ hw.b.1 hw.b.2)
  · exact cons_cln (by decide) (text_cln _ hw.c.1 hw.c.2)
  · exact text_cln _ hw.c.1 hw.c.2
  · exact cons_cln (by decide) (text_cln _ hw.k.1 hw.k.2)
  · exact text_cln _ hw.k.1 hw.k.2
theorem small_text (n : Int) (h1 : 0 ≤ n) (h2 : n ≤ 255) : smallL (text n) = some n := by
  unfold smallL
  rw [(parse_text n (by omega) (by omega)).1]
  exact if_pos ⟨rfl, h1, h2⟩
theorem num_text (n : Int) (h1 : -9223372036854775808 ≤ n) (h2 : n ≤ 9223372036854775807) : numL (text n) = some n := by
  unfold numL
  rw [(parse_text n (by omega) (by omega)).1]
  exact if_pos rfl
theorem labs_ok : ((List.range 600).all fun n => labB (labelT (n : Int))) = true := by decide +kernel
theorem lab_text (n : Int) (h1 : 0 ≤ n) (h2 : n < 600) : labB (labelT n) = true := by
  obtain ⟨k, rfl⟩ : ∃ k : Nat, n = k := ⟨n.toNat, by omega⟩
  exact List.all_eq_true.1 labs_ok k (List.mem_range.2 (by omega))
/-- as it stands ahead of labels' places -/
def baseI (x : In) : In := if labI x = true then ⟨x.kind, x.op, x.a, x.b, x.c, 0⟩ else x
/-- the label that it names -/
def nameI (x : In) : List UInt8 := if labI x = true then labelT x.k else []
theorem ins_form (x : In) (W P : List UInt8) (K O : Int) (h1 : wordOf x = (W, P)) (h2 : meanL W = some ⟨K, O, W, P⟩) (h3 : readAll (⟨K, O, 0, 0, 0, 0⟩, []) P (P.map (pieceT x)) = some (baseI x, nameI x)) : insL (wordOf x).1 ((wordOf x).2.map (pieceT x)) = some (baseI x, nameI x) := by
  unfold insL
  rw [h1]
  dsimp only
  rw [h2]
  simp only [Option.bind_some, List.length_map, if_pos]
  exact h3
theorem base_no {x : In} (h : labI x = false) : baseI x = x ∧ nameI x = [] := by
  unfold baseI nameI
  rw [h]
  exact ⟨rfl, rfl⟩
theorem base_yes {x : In} (h : labI x = true) : baseI x = ⟨x.kind, x.op, x.a, x.b, x.c, 0⟩ ∧ nameI x = labelT x.k := by
  unfold baseI nameI
  rw [h]
  exact ⟨rfl, rfl⟩
theorem ins_back {x : In} {cells long : Int} (hw : InW x) (h : oneC x cells long = 0) (hl : long ≤ 600) : insL (wordOf x).1 ((wordOf x).2.map (pieceT x)) = some (baseI x, nameI x) := by
  obtain ⟨kd, op, xa, xb, xc, xk⟩ := x
  by_cases hk : kd < 1 ∨ 13 < kd
  · rw [oneC_none _ _ _ hk] at h; cases h
  have hk : kd = 1 ∨ kd = 2 ∨ kd = 3 ∨ kd = 4 ∨ kd = 5 ∨ kd = 6 ∨ kd = 7 ∨ kd = 8 ∨ kd = 9 ∨ kd = 10 ∨ kd = 11 ∨ kd = 12 ∨ kd = 13 := by omega
  have hn := num_text xk hw.k.1 hw.k.2
  have sa := small_text xa
  have sb := small_text xb
  have sc := small_text xc
  have lk := lab_text xk
  rcases hk with rfl | rfl | rfl | rfl | rfl | rfl | rfl | rfl | rfl | rfl | rfl | rfl | rfl
  · rw [oneC_1] at h
    (repeat' split at h) <;> first | (cases h; done) | skip
    obtain ⟨rfl, rfl, rfl, rfl, rfl⟩ : op = 0 ∧ xa = 0 ∧ xb = 0 ∧ xc = 0 ∧ xk = 0 := by omega
    exact ins_form _ _ _ _ _ rfl rfl rfl
  · rw [oneC_2] at h
    (repeat' split at h) <;> first | (cases h; done) | skip
    obtain ⟨rfl, rfl, rfl⟩ : op = 0 ∧ xb = 0 ∧ xc = 0 := by omega
    refine ins_form _ _ _ _ _ rfl rfl ?_
    rw [(base_no rfl).1, (base_no rfl).2]
    simp [readAll, readL, regL, pieceT, hn, sa (by omega) (by omega)]
  · rw [oneC_3] at h
    (repeat' split at h) <;> first | (cases h; done) | skip
    obtain ⟨rfl, rfl, rfl⟩ : op = 0 ∧ xc = 0 ∧ xk = 0 := by omega
    refine ins_form _ _ _ _ _ rfl rfl ?_
    rw [(base_no rfl).1, (base_no rfl).2]
    simp [readAll, readL, regL, pieceT, sa (by omega) (by omega), sb (by omega) (by omega)]
  · rw [oneC_4] at h
    (repeat' split at h) <;> first | (cases h; done) | skip
    obtain ⟨rfl, rfl⟩ : xc = 0 ∧ xk = 0 := by omega
    have ho : op = 19 ∨ op = 20 ∨ op = 21 := by omega
    rcases ho with rfl | rfl | rfl
    all_goals
      refine ins_form _ _ _ _ _ rfl rfl ?_
      rw [(base_no rfl).1, (base_no rfl).2]
      simp [readAll, readL, regL, pieceT, sa (by omega) (by omega), sb (by omega) (by omega)]
  · rw [oneC_5] at h
    (repeat' split at h) <;> first | (cases h; done) | skip
    obtain rfl : xk = 0 := by omega
    have ho : op = 1 ∨ op = 2 ∨ op = 3 ∨ op = 4 ∨ op = 5 ∨ op = 6 ∨ op = 7 ∨ op = 8 ∨ op = 9 ∨ op = 10 ∨ op = 11 ∨ op = 12 ∨ op = 13 ∨ op = 14 ∨ op = 15 ∨ op = 16 ∨ op = 17 ∨ op = 18 := by omega
    have sa' := sa (by omega) (by omega)
    have sb' := sb (by omega) (by omega)
    have sc' := sc (by omega) (by omega)
    rcases ho with rfl | rfl | rfl | rfl | rfl | rfl | rfl | rfl | rfl | rfl | rfl | rfl | rfl | rfl | rfl | rfl | rfl | rfl
    all_goals
      refine ins_form _ _ _ _ _ rfl rfl ?_
      rw [(base_no rfl).1, (base_no rfl).2]
      simp [readAll, readL, regL, pieceT, sa', sb', sc']
  · rw [oneC_6] at h
    (repeat' split at h) <;> first | (cases h; done) | skip
    obtain ⟨rfl, rfl⟩ : op = 0 ∧ xc = 0 := by omega
    refine ins_form _ _ _ _ _ rfl rfl ?_
    rw [(base_no rfl).1, (base_no rfl).2]
    simp [readAll, readL, regL, pieceT, hn, sa (by omega) (by omega), sb (by omega) (by omega)]
  · rw [oneC_7] at h
    (repeat' split at h) <;> first | (cases h; done) | skip
    obtain ⟨rfl, rfl⟩ : op = 0 ∧ xc = 0 := by omega
    refine ins_form _ _ _ _ _ rfl rfl ?_
    rw [(base_no rfl).1, (base_no rfl).2]
    simp [readAll, readL, regL, pieceT, hn, sa (by omega) (by omega), sb (by omega) (by omega)]
  · rw [oneC_8] at h
    (repeat' split at h) <;> first | (cases h; done) | skip
    obtain ⟨rfl, rfl, rfl⟩ : op = 0 ∧ xb = 0 ∧ xk = 0 := by omega
    refine ins_form _ _ _ _ _ rfl rfl ?_
    rw [(base_no rfl).1, (base_no rfl).2]
    simp [readAll, readL, regL, pieceT, sa (by omega) (by omega), sc (by omega) (by omega)]
  · rw [oneC_9] at h
    (repeat' split at h) <;> first | (cases h; done) | skip
    obtain ⟨rfl, rfl, rfl, rfl⟩ : op = 0 ∧ xb = 0 ∧ xc = 0 ∧ xk = 0 := by omega
    refine ins_form _ _ _ _ _ rfl rfl ?_
    rw [(base_no rfl).1, (base_no rfl).2]
    simp [readAll, readL, regL, pieceT, sa (by omega) (by omega)]
  · rw [oneC_10] at h
    (repeat' split at h) <;> first | (cases h; done) | skip
    obtain ⟨rfl, rfl, rfl, rfl⟩ : op = 0 ∧ xa = 0 ∧ xb = 0 ∧ xc = 0 := by omega
    refine ins_form _ _ _ _ _ rfl rfl ?_
    rw [(base_yes rfl).1, (base_yes rfl).2]
    simp [readAll, readL, pieceT, lk (by omega) (by omega)]
  · rw [oneC_11] at h
    (repeat' split at h) <;> first | (cases h; done) | skip
    obtain ⟨rfl, rfl, rfl⟩ : op = 0 ∧ xb = 0 ∧ xc = 0 := by omega
    refine ins_form _ _ _ _ _ rfl rfl ?_
    rw [(base_yes rfl).1, (base_yes rfl).2]
    simp [readAll, readL, regL, pieceT, sa (by omega) (by omega), lk (by omega) (by omega)]
  · rw [oneC_12] at h
    (repeat' split at h) <;> first | (cases h; done) | skip
    obtain ⟨rfl, rfl, rfl⟩ : op = 0 ∧ xb = 0 ∧ xc = 0 := by omega
    refine ins_form _ _ _ _ _ rfl rfl ?_
    rw [(base_yes rfl).1, (base_yes rfl).2]
    simp [readAll, readL, regL, pieceT, sa (by omega) (by omega), lk (by omega) (by omega)]
  · rw [oneC_13] at h
    (repeat' split at h) <;> first | (cases h; done) | skip
    obtain ⟨rfl, rfl, rfl, rfl⟩ : op = 0 ∧ xb = 0 ∧ xc = 0 ∧ xk = 0 := by omega
    refine ins_form _ _ _ _ _ rfl rfl ?_
    rw [(base_no rfl).1, (base_no rfl).2]
    simp [readAll, readL, regL, pieceT, sa (by omega) (by omega)]
end Go.Proofs.YthcidcfaodjbjacDoor
