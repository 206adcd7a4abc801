/- Statements, whatever they are: one induction over the fuel; Parse of every text. -/
import Derived.Test.YtnofibjchhcmeabDoorEa
import Derived.Test.YtnofibjchhcmeabDoorRp
import Derived.Test.YtnofibjchhcmeabDoorPb
import Derived.Test.YtnofibjchhcmeabDoorSe
import Derived.Test.YtnofibjchhcmeabDoorSo
import Derived.Test.YtnofibjchhcmeabDoorSd
import Derived.Test.YtnofibjchhcmeabDoorSi
import Derived.Test.YtnofibjchhcmeabDoorSp
import Derived.Test.YtnofibjchhcmeabDoorEs
namespace Go.Proofs.YtnofibjchhcmeabDoor
open Go.RowKit
set_option linter.unusedVariables false

def FdT (r : TR) : Prop := ∀ k, r ≠ .error (k, -1)
theorem fdT_ok {x : List PT × Nat × Nat} : FdT (.ok x) := by intro k e; cases e
theorem fdT_err {k : Nat} {e : Int} (h : e ≠ -1) : FdT (.error (k, e)) := by
  intro k' e'
  injection e' with e'
  injection e' with _ e'
  exact h e'
theorem mkS_fd (t : Tok) (x : PT) (q n : Nat) : FdT (mkS t x q n) := by
  unfold mkS
  split
  · exact fdT_err (by decide)
  · exact fdT_ok
theorem lastP_fed (L : List Tok) (p n : Nat) : Fed (lastP L p n) := by
  unfold lastP
  have h := ex1_fed L p 0 n
  rcases e : ex1 L p 0 n with e1 | ⟨x, q, m⟩
  · rw [e] at h; exact h
  · simp only
    split
    · intro k e'; injection e' with e'; injection e' with _ e'; exact absurd e' (by decide)
    · intro k e'; cases e'
theorem valueP_fed (L : List Tok) (p n : Nat) : Fed (valueP L p n) := by
  unfold valueP
  split
  · intro k e'; injection e' with e'; injection e' with _ e'; exact absurd e' (by decide)
  · exact lastP_fed L _ _
theorem withinT_fed (L : List Tok) (a b : List UInt8) (p n : Nat) : Fed (withinT L a b p n) := withinP_fed fun _ => ex1_fed L _ _ _
theorem ofPart_fd {t : Tok} {k : Int} {s : ByteArray} {c : Int} {r : PR} (h : Fed r) : FdT (ofPart t k s c r) := by
  unfold ofPart
  rcases r with ⟨k', e⟩ | ⟨x, q, m⟩
  · intro k'' e'; injection e' with e'; cases e'; exact h _ rfl
  · exact mkS_fd _ _ _ _
theorem fd_of_fed {k : Nat} {e : Int} (h : Fed (.error (k, e))) : FdT (.error (k, e)) := by
  intro k' e'; injection e' with e'; cases e'; exact h _ rfl
theorem blockP_fd {L : List Tok} {row : Nat → Nat → Nat → TR} {b p n : Nat} (h : p < L.length → FdT (row (b + 1) (p + 1) n)) (hl : (tk L p).text = [123] → p < L.length) : FdT (blockP L row b p n) := by
  unfold blockP
  split
  · exact fdT_err (by decide)
  · rename_i h0
    split
    · exact fdT_err (by decide)
    · have := h (hl (Decidable.of_not_not h0))
      rcases e : row (b + 1) (p + 1) n with ⟨k, e1⟩ | ⟨y, r, i⟩
      · rw [e] at this; exact this
      · exact fdT_ok
theorem tk_in {L : List Tok} {p : Nat} (h : ¬ (tk L p).text = []) : p < L.length := by
  rcases Nat.lt_or_ge p L.length with h1 | h1
  · exact h1
  · exfalso
    apply h
    unfold tk
    rw [List.getD, List.getElem?_eq_none h1]
    rfl
theorem chooseP_fd {L : List Tok} {row ch : Nat → Nat → Nat → TR} {b p n : Nat} (hrow : ∀ b q m, p + 2 ≤ q → q ≤ L.length → FdT (row b q m)) (hch : ∀ b q m, p + 2 ≤ q → q < L.length → FdT (ch b q m)) (hf : FwdT 0 row) : FdT (chooseP L row ch b p n) := by
  unfold chooseP
  have h1 := withinT_fed L [40] [41] (p + 1) n
  rcases e : withinT L [40] [41] (p + 1) n with ⟨k, e1⟩ | ⟨x, q, m⟩
  · rw [e] at h1; exact fd_of_fed h1
  · simp only
    obtain ⟨w1, _⟩ := withinT_fwd e
    have h2 : FdT (blockP L row b q m) := blockP_fd (fun hq => hrow _ _ _ (by omega) (by omega)) (fun ht => tk_in (by rw [ht]; simp))
    rcases e2 : blockP L row b q m with ⟨k, e1⟩ | ⟨l, r, i⟩
    · rw [e2] at h2; exact h2
    · simp only
      obtain ⟨w2, _⟩ := blockP_fwd hf _ _ _ _ _ _ e2
      split
      · have h3 : FdT (otherP L row ch b (r + 1) i) := by
          unfold otherP
          split
          · exact blockP_fd (fun hq => hrow _ _ _ (by omega) (by omega)) (fun ht => tk_in (by rw [ht]; simp))
          · rename_i h0
            split
            · exact fdT_err (by decide)
            · exact hch _ _ _ (by omega) (tk_in (by rw [Decidable.of_not_not h0]; simp))
        rcases e3 : otherP L row ch b (r + 1) i with ⟨k, e1⟩ | ⟨l2, r2, i2⟩
        · rw [e3] at h3; exact h3
        · exact mkS_fd _ _ _ _
      · exact mkS_fd _ _ _ _
theorem repeatP_fd {L : List Tok} {row : Nat → Nat → Nat → TR} {b p n : Nat} (hrow : ∀ b q m, p + 2 ≤ q → q ≤ L.length → FdT (row b q m)) : FdT (repeatP L row b p n) := by
  unfold repeatP
  have h1 := withinT_fed L [40] [41] (p + 1) n
  rcases e : withinT L [40] [41] (p + 1) n with ⟨k, e1⟩ | ⟨x, q, m⟩
  · rw [e] at h1; exact fd_of_fed h1
  · simp only
    obtain ⟨w1, _⟩ := withinT_fwd e
    have h2 : FdT (blockP L row b q m) := blockP_fd (fun hq => hrow _ _ _ (by omega) (by omega)) (fun ht => tk_in (by rw [ht]; simp))
    rcases e2 : blockP L row b q m with ⟨k, e1⟩ | ⟨l, r, i⟩
    · rw [e2] at h2; exact h2
    · exact mkS_fd _ _ _ _
theorem stmtP_fd {L : List Tok} {row ch : Nat → Nat → Nat → TR} {b p n : Nat} (hrow : ∀ b q m, p + 2 ≤ q → q ≤ L.length → FdT (row b q m)) (hch : ∀ b q m, p + 2 ≤ q → q < L.length → FdT (ch b q m)) (hf : FwdT 0 row) : FdT (stmtP L row ch b p n) := by
  unfold stmtP
  split
  · exact ofPart_fd (valueP_fed L _ _)
  split
  · unfold declareP
    split
    · exact fdT_err (by decide)
    · exact ofPart_fd (valueP_fed L _ _)
  split
  · unfold storeP
    have h1 := withinT_fed L [91] [93] (p + 1) n
    rcases e : withinT L [91] [93] (p + 1) n with ⟨k, e1⟩ | ⟨x, q, m⟩
    · rw [e] at h1; exact fd_of_fed h1
    · simp only
      have h2 := valueP_fed L q m
      rcases e2 : valueP L q m with ⟨k, e1⟩ | ⟨y, r, i⟩
      · rw [e2] at h2; exact fd_of_fed h2
      · exact mkS_fd _ _ _ _
  split
  · exact ofPart_fd (lastP_fed L _ _)
  split
  · exact ofPart_fd (lastP_fed L _ _)
  split
  · unfold intoP
    split
    · exact fdT_err (by decide)
    · split
      · exact fdT_err (by decide)
      · exact ofPart_fd (lastP_fed L _ _)
  split
  · unfold stopP
    split
    · exact fdT_err (by decide)
    · exact mkS_fd _ _ _ _
  split
  · exact chooseP_fd hrow hch hf
  split
  · exact repeatP_fd hrow
  · exact fdT_err (by decide)
/-- a statement is read where there is a token -/
theorem stmtP_in {L : List Tok} {row ch : Nat → Nat → Nat → TR} {b p n : Nat} {x : List PT × Nat × Nat} (h : stmtP L row ch b p n = .ok x) : p < L.length := by
  rcases Nat.lt_or_ge p L.length with h1 | h1
  · exact h1
  · exfalso
    have ht : tk L p = noTok := by unfold tk; rw [List.getD, List.getElem?_eq_none h1]; rfl
    unfold stmtP at h
    rw [ht] at h
    simp [noTok] at h
theorem stmtF_fd (L : List Tok) : ∀ f, (∀ b p n, 2 * (L.length - p) + 1 ≤ f → FdT (stmtF L f 0 b p n)) ∧ (∀ b p n, 2 * (L.length - p) + 2 ≤ f → FdT (stmtF L f 1 b p n)) ∧ (∀ b p n, 2 * (L.length - p) + 1 ≤ f → FdT (stmtF L f 2 b p n)) := by
  intro f
  induction f with
  | zero => exact ⟨fun b p n h => by omega, fun b p n h => by omega, fun b p n h => by omega⟩
  | succ f ih =>
    obtain ⟨i0, i1, i2⟩ := ih
    have hf : FwdT 0 (stmtF L f 1) := (stmtF_fwd L f).2.1
    refine ⟨fun b p n h => ?_, fun b p n h => ?_, fun b p n h => ?_⟩
    · show FdT (stmtP L (stmtF L f 1) (stmtF L f 2) b p n)
      exact stmtP_fd (fun b q m h1 h2 => i1 _ _ _ (by omega)) (fun b q m h1 h2 => i2 _ _ _ (by omega)) hf
    · rw [stmtF_row]
      split
      · exact fdT_ok
      · have h0 := i0 b p n (by omega)
        rcases e : stmtF L f 0 b p n with ⟨k, e1⟩ | ⟨x, q, m⟩
        · rw [e] at h0; exact h0
        · simp only
          obtain ⟨w1, _⟩ := (stmtF_fwd L f).1 _ _ _ _ _ _ e
          have hpl : p < L.length := by
            cases f with
            | zero => cases e
            | succ f => exact stmtP_in e
          have h1 := i1 b q m (by omega)
          rcases e2 : stmtF L f 1 b q m with ⟨k, e1⟩ | ⟨l, r, i⟩
          · rw [e2] at h1; exact h1
          · exact fdT_ok
    · show FdT (chooseP L (stmtF L f 1) (stmtF L f 2) b p n)
      exact chooseP_fd (fun b q m h1 h2 => i1 _ _ _ (by omega)) (fun b q m h1 h2 => i2 _ _ _ (by omega)) hf
theorem stmtT_fd (L : List Tok) (b p n : Nat) : FdT (stmtT L b p n) := (stmtF_fd L _).1 b p n (by omega)
theorem textF_fd (L : List Tok) : ∀ f p n, L.length - p + 1 ≤ f → FdT (textF L f p n) := by
  intro f
  induction f with
  | zero => intro p n h; omega
  | succ f ih =>
    intro p n h
    unfold textF
    split
    · exact fdT_ok
    · have h0 := stmtT_fd L 0 p n
      rcases e : stmtT L 0 p n with ⟨k, e1⟩ | ⟨x, q, m⟩
      · rw [e] at h0; exact h0
      · simp only
        obtain ⟨w1, _⟩ := (stmtF_fwd L _).1 _ _ _ _ _ _ e
        have hpl : p < L.length := stmtP_in (show stmtP L (stmtF L (2 * L.length + 1) 1) (stmtF L (2 * L.length + 1) 2) 0 p n = _ from e)
        have h1 := ih q m (by omega)
        rcases e2 : textF L f q m with ⟨k, e1⟩ | ⟨l, r, i⟩
        · rw [e2] at h1; exact h1
        · exact fdT_ok
end Go.Proofs.YtnofibjchhcmeabDoor
namespace Go.Proofs.YtnofibjchhcmeabDoor
open Go.RowKit Go.Maps
set_option linter.unusedVariables false

theorem signed_ok {pb g c : Nat} {L : List Tok} {b : Nat} (hE : TEnd L) : SignedOk pb g c L b := fun on hon op p o n w h hs hn ho hp hf => signed_any hE hon op p o n w h hs hn ho hp hf
theorem ex_all {pb g c : Nat} {L : List Tok} {b : Nat} (hE : TEnd L) : ExOk pb g c L b (ex1 L) := ex1_any hE (Or.inl (signed_ok hE))
/-- an if, with so much fuel -/
def ChB (pb g c : Nat) (L : List Tok) (b f : Nat) : Prop := ∀ p n W, PS W pb g c L p 0 b n → SG W pb → n ≤ 600 → (tk L p).text = [105, 102] → FedT (stmtF L f 2 b p n) → Calls Tryd.prog 61 #[.pointer (some ⟨pb, 0, none⟩)] W (TPost W (fun j => W.heap.size ≤ j) pb g c L b (stmtF L f 2 b p n))
theorem block_f {pb g c : Nat} {L : List Tok} (hE : TEnd L) (hLL : L.length ≤ 8193) {F b : Nat} (hb : b ≤ 12) (hst : ∀ f, f < F → ∀ b, b ≤ 12 → StB pb g c L b f) :
    ∀ q m W, PS W pb g c L q 0 b m → SG W pb → m ≤ 600 → FedT (blockP L (stmtF L F 1) b q m) → Calls Tryd.prog 82 #[.pointer (some ⟨pb, 0, none⟩)] W (BPost W (fun j => W.heap.size ≤ j) pb g c L b (blockP L (stmtF L F 1) b q m)) :=
  fun q m W h1 h2 h3 h4 => block_any hE hLL F (fun hb' f hf => hst f hf (b + 1) (by omega)) q m W h1 h2 h3 hb h4
theorem other_f {pb g c : Nat} {L : List Tok} (hE : TEnd L) (hLL : L.length ≤ 8193) {F b : Nat} (hb : b ≤ 12) (hst : ∀ f, f < F → ∀ b, b ≤ 12 → StB pb g c L b f) (hch : ∀ b, b ≤ 12 → ChB pb g c L b F) :
    ∀ q m W, PS W pb g c L q 0 b m → SG W pb → m ≤ 600 → FedT (otherP L (stmtF L F 1) (stmtF L F 2) b q m) → Calls Tryd.prog 84 #[.pointer (some ⟨pb, 0, none⟩)] W (BPost W (fun j => W.heap.size ≤ j) pb g c L b (otherP L (stmtF L F 1) (stmtF L F 2) b q m)) := by
  intro q m W h1 h2 h3 h4
  refine other_any hE (stmtF L F 1) (stmtF L F 2) q m W h1 h2 h3 hb (fun V v1 v2 hif => ?_) (fun V v1 v2 hif hlt => ?_)
  · refine block_f hE hLL hb hst q m V v1 v2 h3 ?_
    unfold otherP at h4
    rw [if_pos hif] at h4
    exact h4
  · refine hch (b + 1) (by omega) q m V v1 v2 h3 hif ?_
    unfold otherP at h4
    rw [if_neg (not_not_intro hif), if_neg (by omega)] at h4
    exact h4
theorem choose_f {pb g c : Nat} {L : List Tok} (hE : TEnd L) (hLL : L.length ≤ 8193) {F b : Nat} (hb : b ≤ 12) (hst : ∀ f, f < F → ∀ b, b ≤ 12 → StB pb g c L b f) (hch : ∀ b, b ≤ 12 → ChB pb g c L b F) : ChB pb g c L b (F + 1) := by
  intro p n W h hs hn ht hf
  exact choose_any hE (ex_all hE) (stmtF L F 1) (stmtF L F 2) p n W h hs hn (hE.text (by rw [ht]; simp)) (block_f hE hLL hb hst) (other_f hE hLL hb hst hch) hf
theorem stmt_f {pb g c : Nat} {L : List Tok} (hE : TEnd L) (hLL : L.length ≤ 8193) {F b : Nat} (hb : b ≤ 12) (hst : ∀ f, f < F → ∀ b, b ≤ 12 → StB pb g c L b f) (hch : ∀ b, b ≤ 12 → ChB pb g c L b F) : StB pb g c L b (F + 1) := by
  intro p n W h hs hn hf
  have hx : ExOk pb g c L b (ex1 L) := ex_all hE
  replace hf : FedT (stmtP L (stmtF L F 1) (stmtF L F 2) b p n) := hf
  show Calls _ _ _ _ (TPost _ _ _ _ _ _ _ (stmtP L (stmtF L F 1) (stmtF L F 2) b p n))
  unfold stmtP at hf ⊢
  by_cases k2 : (tk L p).kind = 2
  · rw [if_pos k2]
    exact stmt_set p n W _ h hs k2 fun V v1 v2 => set_any hE hx p n V v1 v2 hn (hE.kind (by omega))
  rw [if_neg k2] at hf ⊢
  by_cases q1 : (tk L p).text = [118, 97, 114]
  · rw [if_pos q1]
    exact stmt_var p n W _ h hs k2 q1 fun V v1 v2 => declare_any hE hx p n V v1 v2 hn (hE.text (by rw [q1]; simp))
  rw [if_neg q1] at hf ⊢
  by_cases q2 : (tk L p).text = [109]
  · rw [if_pos q2]
    exact stmt_m p n W _ h hs k2 q2 fun V v1 v2 => store_any hE hx p n V v1 v2 hn (hE.text (by rw [q2]; simp))
  rw [if_neg q2] at hf ⊢
  by_cases t1 : (tk L p).text = [101, 109, 105, 116]
  · rw [if_pos t1]
    exact stmt_emit p n W _ h hs k2 t1 fun V v1 v2 => tell_any hE hx 4 p n V v1 v2 hn (hE.text (by rw [t1]; simp))
  rw [if_neg t1] at hf ⊢
  by_cases t2 : (tk L p).text = [102, 97, 105, 108]
  · rw [if_pos t2]
    exact stmt_fail p n W _ h hs k2 t2 fun V v1 v2 => tell_any hE hx 8 p n V v1 v2 hn (hE.text (by rw [t2]; simp))
  rw [if_neg t2] at hf ⊢
  by_cases q3 : (tk L p).text = [105, 110, 116, 111]
  · rw [if_pos q3]
    exact stmt_into p n W _ h hs k2 q3 fun V v1 v2 => into_any hE hx p n V v1 v2 hn (hE.text (by rw [q3]; simp))
  rw [if_neg q3] at hf ⊢
  by_cases q4 : (tk L p).text = [115, 116, 111, 112]
  · rw [if_pos q4]
    exact stmt_stop p n W _ h hs k2 q4 fun V v1 v2 => stop_any hE p n V v1 hn (hE.text (by rw [q4]; simp))
  rw [if_neg q4] at hf ⊢
  by_cases q5 : (tk L p).text = [105, 102]
  · rw [if_pos q5] at hf ⊢
    exact stmt_if p n W _ h hs k2 q5 fun V v1 v2 => choose_any hE hx (stmtF L F 1) (stmtF L F 2) p n V v1 v2 hn (hE.text (by rw [q5]; simp)) (block_f hE hLL hb hst) (other_f hE hLL hb hst hch) hf
  rw [if_neg q5] at hf ⊢
  by_cases q6 : (tk L p).text = [119, 104, 105, 108, 101]
  · rw [if_pos q6] at hf ⊢
    exact stmt_while p n W _ h hs k2 q6 fun V v1 v2 => repeat_any hE hx (stmtF L F 1) p n V v1 v2 hn (hE.text (by rw [q6]; simp)) (block_f hE hLL hb hst) hf
  rw [if_neg q6]
  refine stmt_bad p n W h hs k2 ?_
  intro l hl
  simp at hl
  rcases hl with rfl | rfl | rfl | rfl | rfl | rfl | rfl | rfl
  · exact q1
  · exact q2
  · exact t1
  · exact t2
  · exact q3
  · exact q4
  · exact q5
  · exact q6
theorem stmt_both {pb g c : Nat} {L : List Tok} (hE : TEnd L) (hLL : L.length ≤ 8193) : ∀ F, ∀ f, f ≤ F → ∀ b, b ≤ 12 → StB pb g c L b f ∧ ChB pb g c L b f := by
  intro F
  induction F with
  | zero =>
    intro f hf b hb
    obtain rfl : f = 0 := by omega
    exact ⟨fun p n W _ _ _ h => absurd rfl (h 0), fun p n W _ _ _ _ h => absurd rfl (h 0)⟩
  | succ F ih =>
    intro f hf b hb
    rcases Nat.lt_or_ge F f with h1 | h1
    · obtain rfl : f = F + 1 := by omega
      have hst : ∀ f, f < F → ∀ b, b ≤ 12 → StB pb g c L b f := fun f hf b hb => (ih f (by omega) b hb).1
      have hch : ∀ b, b ≤ 12 → ChB pb g c L b F := fun b hb => (ih F (Nat.le_refl _) b hb).2
      exact ⟨stmt_f hE hLL hb hst hch, choose_f hE hLL hb hst hch⟩
    · exact ih f h1 b hb
theorem st_ok {pb g c : Nat} {L : List Tok} (hE : TEnd L) (hLL : L.length ≤ 8193) : StOk pb g c L := fun p n W h hs hn hf => (stmt_both hE hLL (2 * L.length + 2) _ (Nat.le_refl _) 0 (by omega)).1 p n W h hs hn hf
/-- Parse of a text that can be cut -/
theorem parse_all (s : ByteArray) (w : World) (L : List Tok) (hcut : cut s.data.toList = .inl L) (hm : s.size ≤ maxLen) (hsg : ∃ A t fr, SA A ∧ w.heap[0]? = some (.cells A t fr)) : Calls Tryd.prog 19 #[.string s] w (PPost w (outT (textF L (L.length + 1) 0 0))) := by
  obtain ⟨hE, hl1, hl2⟩ := cut_end hcut
  exact parse_cut s w L hcut hm hsg (fun pb g c => st_ok hE (by omega)) (textF_fd L _ 0 0 (by omega))
end Go.Proofs.YtnofibjchhcmeabDoor
