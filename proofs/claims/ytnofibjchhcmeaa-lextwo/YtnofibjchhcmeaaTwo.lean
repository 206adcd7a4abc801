/- The statement LexTwo: a text behind another one, with a line's end between, is cut into the tokens of both. No condition. -/
import Derived.Test.YtnofibjchhcmeaaRows
import Derived.Test.YtnofibjchhcmeaaSame
import Derived.WalkKit
import Derived.ProofKit
import Derived.OpenShut
import Derived.ShutString
import Derived.ChangeOld
import Derived.Below
namespace Go.Proofs.Ytnofibjchhcmeaa.lexTwo
open Go.ChangeShapes Go.WideShapes Go.ChangeAt Go.RowKit
open Go.ChangeMaps (open_string shut_string)
set_option linter.unusedVariables false

theorem own : ownKnob Try.prog.godebug = none := by kernel_rfl
theorem laidOut : laidOutB Try.prog = true := by kernel_rfl

theorem one_ne {R : List UInt8} {o : Nat} {e : Int} (h : tokOf R = .bad o e) (hR : R ≠ []) : e ≠ 0 := by
  cases R with
  | nil => exact absurd rfl hR
  | cons b T =>
    replace h : (if isD b = true then numTok (b :: T) else if isL b = true then wordTok (b :: T) else signTok (b :: T)) = .bad o e := h
    unfold numTok wordTok signTok at h
    dsimp only at h
    repeat' split at h
    all_goals first | (cases h; done) | (injection h with h1 h2; subst h2; decide)
theorem cutG_err : ∀ (f p : Nat) (R : List UInt8) (k : Nat) (e : Int), R.length < f → cutG f p R = .err k e → e ≠ 0 ∧ k ≤ p + R.length := by
  intro f
  induction f with
  | zero => intro p R k e h; omega
  | succ f ih =>
    intro p R k e h he
    cases R with
    | nil => cases he
    | cons b T =>
      rw [cutG_cons] at he
      rcases e1 : tokOf (b :: T) with ⟨kd, m, n⟩ | ⟨o, e'⟩
      · rw [e1] at he
        dsimp only at he
        rcases e2 : cutS f (p + n) ((b :: T).drop n) with l | ⟨k', e'⟩
        · rw [e2] at he; cases he
        · rw [e2] at he
          cases he
          have ht := tokOf_tok e1
          have := ih _ _ _ _ (by simp at h ⊢; omega) e2
          refine ⟨this.1, Nat.le_trans this.2 ?_⟩
          have hg := gapLen_le ((b :: T).drop n)
          simp only [List.length_drop] at hg ⊢
          have := ht.2.1
          omega
      · rw [e1] at he
        cases he
        refine ⟨one_ne e1 (by simp), ?_⟩
        have ho : o ≤ (b :: T).length := by
          replace e1 : (if isD b = true then numTok (b :: T) else if isL b = true then wordTok (b :: T) else signTok (b :: T)) = .bad o e := e1
          unfold numTok wordTok signTok at e1
          dsimp only at e1
          repeat' split at e1
          all_goals first | (cases e1; done) | (injection e1 with h1 h2; subst h1; first | exact Nat.zero_le _ | exact ga_le _ _ _)
        omega
theorem cut_err (L : List UInt8) (k : Nat) (e : Int) (h : cut L = .err k e) : e ≠ 0 ∧ k ≤ L.length := by
  unfold cut at h
  split at h
  · cases h; exact ⟨by decide, Nat.zero_le _⟩
  · have hg := gapLen_le L
    have := cutG_err _ _ _ _ _ (by simp; omega) h
    simp only [List.length_drop] at this
    exact ⟨this.1, by omega⟩

theorem cutPost_shape {w : World} {r : CutR} {e : Ending} {w' : World} (h : CutPost w r e w') : ∃ p n c k er, e = .returned (.tuple #[.slice p n c, .int .i64 k, .int .i64 er]) ∧ Below w.heap.size w w' := by
  cases r with
  | ok l =>
    obtain ⟨v, h1, h2, h3⟩ := h
    rcases h2.2 with ⟨hv, _⟩ | ⟨g, cap, cur, hv, _⟩
    · subst hv; exact ⟨_, _, _, _, _, h1, h3⟩
    · subst hv; exact ⟨_, _, _, _, _, h1, h3⟩
  | err k er => exact ⟨_, _, _, _, _, h.1, h.2⟩

theorem cat_list (s t : ByteArray) : (s ++ ⟨#[10]⟩ ++ t).data.toList = s.data.toList ++ 10 :: t.data.toList := by
  simp [ByteArray.data_append]
theorem cat_size (s t : ByteArray) : (s ++ ⟨#[10]⟩ ++ t).size = s.size + 1 + t.size := by
  rw [ByteArray.size_append, ByteArray.size_append]; rfl

set_option maxHeartbeats 1000000 in
theorem walk_long (s t : ByteArray) (hs : s.size ≤ maxLen) (ht : t.size ≤ maxLen) (h : ¬ (s.size ≤ 8192 ∧ t.size ≤ 8192 ∧ s.size + 1 + t.size ≤ 8192)) (w : World) :
    Calls Try.prog 7 #[.string s, .string t] w fun e w' => e = .returned (.bool true) ∧ Below w.heap.size w w' := by
  unfold maxLen at hs ht
  by_cases h1 : 8192 < s.size
  · clear h
    go_enter Try.func7, Try.ntmps7
    go_wp2
    go_ret
    exact ⟨rfl, Below.refl _ _⟩
  · by_cases h2 : 8192 < t.size
    · clear h
      go_enter Try.func7, Try.ntmps7
      go_wp2
      go_ret
      exact ⟨rfl, Below.refl _ _⟩
    · have h3 : 8192 < s.size + 1 + t.size := by omega
      clear h
      go_enter Try.func7, Try.ntmps7
      go_wp2
      go_ret
      exact ⟨rfl, Below.refl _ _⟩

set_option maxRecDepth 100000 in
set_option maxHeartbeats 2000000 in
theorem walk_e (s t : ByteArray) (h1 : s.size ≤ 8192) (h2 : t.size ≤ 8192) (h3 : s.size + 1 + t.size ≤ 8192) (k : Nat) (er : Int) (hc : cut s.data.toList = .err k er) (w : World) :
    Calls Try.prog 7 #[.string s, .string t] w fun e w' => e = .returned (.bool true) ∧ Below w.heap.size w w' := by
  have hne := (cut_err _ _ _ hc).1
  have hne' : (er == 0) = false := by simpa using hne
  have HU : Hid (cut (s ++ ⟨#[10]⟩ ++ t).data.toList = .err k er) := by
    show _ = _
    rw [cat_list, cut_two _ _ (by simp; omega), hc]; rfl
  have HC : Hid (cut s.data.toList = .err k er) := hc
  have HM : Hid ((s ++ ⟨#[10]⟩ ++ t).size ≤ maxLen) := by show _ ≤ _; rw [cat_size]; unfold maxLen; omega
  clear hc
  go_enter Try.func7, Try.ntmps7
  go_wp2_with fail
  refine (cut_any s w (by unfold maxLen; omega)).mono ?_
  rw [HC.out]
  rintro e w1 ⟨rfl, hb1⟩
  have HB1 : Hid (Below w.heap.size w w1) := hb1
  clear hb1
  go_wp2_with fail
  refine (cut_any t w1 (by unfold maxLen; omega)).mono ?_
  intro e w2 hp
  obtain ⟨p2, n2, c2, k2, e2, rfl, hb2⟩ := cutPost_shape hp
  have HB2 : Hid (Below w.heap.size w w2) := HB1.out.trans (hb2.mono HB1.out.size)
  clear hb2 hp
  go_wp2_with fail
  refine (cut_any _ w2 HM.out).mono ?_
  rw [HU.out]
  rintro e w3 ⟨rfl, hb3⟩
  have HB3 : Hid (Below w.heap.size w w3) := HB2.out.trans (hb3.mono HB2.out.size)
  clear hb3
  go_wp2_with fail
  refine (alive_any _).mono ?_
  rintro e w4 ⟨rfl, hb4⟩
  have HB4 : Hid (Below w.heap.size w w4) := HB3.out.trans (hb4.mono HB3.out.size)
  clear hb4
  go_wp2
  go_ret
  exact ⟨rfl, HB4.out⟩

set_option maxRecDepth 100000 in
set_option maxHeartbeats 2000000 in
theorem walk_f (s t : ByteArray) (h1 : s.size ≤ 8192) (h2 : t.size ≤ 8192) (h3 : s.size + 1 + t.size ≤ 8192) (a : List Tok) (k : Nat) (er : Int) (ha : cut s.data.toList = .ok a) (hc : cut t.data.toList = .err k er) (w : World) :
    Calls Try.prog 7 #[.string s, .string t] w fun e w' => e = .returned (.bool true) ∧ Below w.heap.size w w' := by
  have hne := (cut_err _ _ _ hc).1
  have hk := (cut_err _ _ _ hc).2
  have hlt : t.data.toList.length = t.size := by simp
  have hne' : (er == 0) = false := by simpa using hne
  have hls : s.data.toList.length = s.size := by simp
  have HU : Hid (cut (s ++ ⟨#[10]⟩ ++ t).data.toList = .err (k + (s.size + 1)) er) := by
    show _ = _
    rw [cat_list, cut_two _ _ (by simp; omega), ha, hc, hls]; rfl
  have HA : Hid (cut s.data.toList = .ok a) := ha
  have HC : Hid (cut t.data.toList = .err k er) := hc
  have HM : Hid ((s ++ ⟨#[10]⟩ ++ t).size ≤ maxLen) := by show _ ≤ _; rw [cat_size]; unfold maxLen; omega
  have hkk : k ≤ 8192 := by omega
  obtain ⟨kk, hkk2⟩ : ∃ kk, k + (s.size + 1) = kk := ⟨_, rfl⟩
  rw [hkk2] at HU
  clear hc ha hk hlt hls
  go_enter Try.func7, Try.ntmps7
  go_wp2_with fail
  refine (cut_any s w (by unfold maxLen; omega)).mono ?_
  intro e w1 hp
  rw [HA.out] at hp
  obtain ⟨v1, rfl, hto, hb1⟩ := hp
  obtain ⟨p1, n1, c1, rfl⟩ : ∃ p n c, v1 = .slice p n c := by
    rcases hto.2 with ⟨hv, _⟩ | ⟨g, cap, cur, hv, _⟩
    · exact ⟨_, _, _, hv⟩
    · exact ⟨_, _, _, hv⟩
  have HB1 : Hid (Below w.heap.size w w1) := hb1
  clear hb1 hto
  go_wp2_with fail
  refine (cut_any t w1 (by unfold maxLen; omega)).mono ?_
  rw [HC.out]
  rintro e w2 ⟨rfl, hb2⟩
  have HB2 : Hid (Below w.heap.size w w2) := HB1.out.trans (hb2.mono HB1.out.size)
  clear hb2
  go_wp2_with fail
  refine (cut_any _ w2 HM.out).mono ?_
  rw [HU.out]
  rintro e w3 ⟨rfl, hb3⟩
  have HB3 : Hid (Below w.heap.size w w3) := HB2.out.trans (hb3.mono HB2.out.size)
  clear hb3
  have hkz : ((kk : Int) == (s.size : Int) + 1 + (k : Int)) = true := by simp; omega
  go_wp2_with fail
  refine (alive_any _).mono ?_
  rintro e w4 ⟨rfl, hb4⟩
  have HB4 : Hid (Below w.heap.size w w4) := HB3.out.trans (hb4.mono HB3.out.size)
  clear hb4
  go_wp2
  go_ret
  exact ⟨rfl, HB4.out⟩

theorem elem22 : Try.prog.elem 22 = 33 := by kernel_rfl
theorem under22 : Try.prog.underlying 22 = some (.slice (Try.prog.elem 22)) := by kernel_rfl
theorem sz33 (w : World) : (sizeOf 33).run Try.prog w = .ok 4 w := by kernel_rfl
theorem slice_l22 (W : World) (g m n c : Nat) (hm : m ≤ n) (hc : ¬ c = m) :
    (Instr.slice 22 (.slice (some ⟨g, 0, none⟩) n c) (some (.int .i64 (m : Int))) none none).run Try.prog W = .ok (.slice (some ⟨g, m * 4, none⟩) (n - m) (c - m)) W := by
  rw [run_slice_l (P := Try.prog) W 22 _ n c under22 .i64 m (by omega) (by omega), elem22, sz33]
  simp [sliced, Addr.add, Result.andThen, hc]
  omega
theorem sliceAt_l22 (W : World) (g m n c : Nat) (hm : m ≤ n) (hc : ¬ c = m) :
    (Instr.sliceAt 22 (.slice (some ⟨g, 0, none⟩) n c) (some (.int .i64 (m : Int))) none none).run Try.prog W = .ok (.slice (some ⟨g, m * 4, none⟩) (n - m) (c - m)) W := by
  rw [run_sliceAt_slice (P := Try.prog) W 22 _ _ _ _ under22]; exact slice_l22 W g m n c hm hc

theorem alikes_refl (p : Bool) (a : List Tok) : alikes p a a := ⟨rfl, fun _ _ _ => ⟨rfl, rfl, rfl, fun _ => rfl⟩⟩
theorem alikes_shift (d : Nat) (b : List Tok) : alikes false (b.map fun t => { t with pos := t.pos + d }) b := by
  refine ⟨by simp, fun i h1 h2 => ?_⟩
  rw [List.getElem_map]
  exact ⟨rfl, rfl, rfl, fun h => by cases h⟩

set_option maxRecDepth 100000 in
set_option maxHeartbeats 4000000 in
theorem walk_g (s t : ByteArray) (h1 : s.size ≤ 8192) (h2 : t.size ≤ 8192) (h3 : s.size + 1 + t.size ≤ 8192) (a b : List Tok) (ha : cut s.data.toList = .ok a) (hb : cut t.data.toList = .ok b) (hla : a.length ≤ 1000000) (hlb : b.length ≤ 1000000) (w : World) :
    Calls Try.prog 7 #[.string s, .string t] w fun e w' => e = .returned (.bool true) ∧ Below w.heap.size w w' := by
  have hna : a ≠ [] := (cut_placed _ _ ha).2
  have hnb : b ≠ [] := (cut_placed _ _ hb).2
  have hpa : 0 < a.length := List.length_pos_iff.2 hna
  have hpb : 0 < b.length := List.length_pos_iff.2 hnb
  obtain ⟨sb, hsb⟩ : ∃ sb, (b.map fun t => { t with pos := t.pos + (s.data.toList.length + 1) }) = sb := ⟨_, rfl⟩
  have hal : alikes false sb b := hsb ▸ alikes_shift _ b
  have HU : Hid (cut (s ++ ⟨#[10]⟩ ++ t).data.toList = .ok (a.dropLast ++ sb)) := by
    show _ = _
    rw [cat_list, cut_two _ _ (by simp; omega), ha, hb, ← hsb]; rfl
  have HA : Hid (cut s.data.toList = .ok a) := ha
  have HB : Hid (cut t.data.toList = .ok b) := hb
  have HM : Hid ((s ++ ⟨#[10]⟩ ++ t).size ≤ maxLen) := by show _ ≤ _; rw [cat_size]; unfold maxLen; omega
  have HNA : Hid (a ≠ []) := hna
  have HNB : Hid (b ≠ []) := hnb
  have HAL : Hid (alikes false sb b) := hal
  have hsl : sb.length = b.length := hal.1
  obtain ⟨m, hm⟩ : ∃ m, a.length = m + 1 := ⟨a.length - 1, by omega⟩
  obtain ⟨D, hD⟩ : ∃ D, a.dropLast = D := ⟨_, rfl⟩
  have hDl : D.length = m := by rw [← hD]; simp; omega
  have HD : Hid (a.dropLast = D) := hD
  rw [hD] at HU
  obtain ⟨B, hB⟩ : ∃ B, b.length = B := ⟨_, rfl⟩
  have HAe : Hid (a.length = m + 1) := hm
  have HBe : Hid (b.length = B) := hB
  have HCe : Hid ((D ++ sb).length = m + B) := by show _ = _; rw [List.length_append, hDl, hsl]; omega
  have HDl : Hid (D.length = m) := hDl
  have HSl : Hid (sb.length = B) := by show _ = _; omega
  rw [hm] at hla hpa
  rw [hB] at hlb hpb
  clear hna hnb hal ha hb hsb hm hD hDl hsl hB
  go_enter Try.func7, Try.ntmps7
  go_wp2_with fail
  refine (cut_any s w (by unfold maxLen; omega)).mono ?_
  intro e w1 hp
  rw [HA.out] at hp
  obtain ⟨v1, rfl, hto1, hb1⟩ := hp
  obtain ⟨g1, c1, rfl, q11, q12, q13, q14, q15⟩ := hto1.read HNA.out
  rw [HAe.out] at q11 ⊢
  have HQ1 : Hid (∀ i (hi : i < a.length), w1.cell? ⟨g1, i * 4, none⟩ = some (.int .i64 a[i].kind) ∧ w1.cell? ⟨g1, i * 4 + 1, none⟩ = some (.string ⟨a[i].text.toArray⟩) ∧ w1.cell? ⟨g1, i * 4 + 2, none⟩ = some (.int .i64 a[i].num) ∧ w1.cell? ⟨g1, i * 4 + 3, none⟩ = some (.int .i64 (a[i].pos : Int))) := q15
  have HB1 : Hid (Below w.heap.size w w1) := hb1
  clear hb1 hto1 q15
  go_wp2_with fail
  refine (cut_any t w1 (by unfold maxLen; omega)).mono ?_
  intro e w2 hp
  rw [HB.out] at hp
  obtain ⟨v2, rfl, hto2, hb2⟩ := hp
  obtain ⟨g2, c2, rfl, q21, q22, q23, q24, q25⟩ := hto2.read HNB.out
  rw [HBe.out] at q21 ⊢
  have HQ2 : Hid (∀ i (hi : i < b.length), w2.cell? ⟨g2, i * 4, none⟩ = some (.int .i64 b[i].kind) ∧ w2.cell? ⟨g2, i * 4 + 1, none⟩ = some (.string ⟨b[i].text.toArray⟩) ∧ w2.cell? ⟨g2, i * 4 + 2, none⟩ = some (.int .i64 b[i].num) ∧ w2.cell? ⟨g2, i * 4 + 3, none⟩ = some (.int .i64 (b[i].pos : Int))) := q25
  have HB12 : Hid (Below w1.heap.size w1 w2) := hb2
  clear hb2 hto2 q25
  go_wp2_with fail
  refine (cut_any _ w2 HM.out).mono ?_
  intro e w3 hp
  rw [HU.out] at hp
  obtain ⟨v3, rfl, hto3, hb3⟩ := hp
  obtain ⟨g3, c3, rfl, q31, q32, q33, q34, q35⟩ := hto3.read (by intro e; have := congrArg List.length e; rw [HCe.out] at this; simp at this; omega)
  rw [HCe.out] at q31 ⊢
  have HQ3 : Hid (∀ i (hi : i < (D ++ sb).length), w3.cell? ⟨g3, i * 4, none⟩ = some (.int .i64 (D ++ sb)[i].kind) ∧ w3.cell? ⟨g3, i * 4 + 1, none⟩ = some (.string ⟨(D ++ sb)[i].text.toArray⟩) ∧ w3.cell? ⟨g3, i * 4 + 2, none⟩ = some (.int .i64 (D ++ sb)[i].num) ∧ w3.cell? ⟨g3, i * 4 + 3, none⟩ = some (.int .i64 ((D ++ sb)[i].pos : Int))) := q35
  have HB23 : Hid (Below w2.heap.size w2 w3) := hb3
  clear hb3 hto3 q35
  have q12' := q12
  have q22' := q22
  have q32' := q32
  unfold maxLen at q12 q22 q32
  have hs12 := HB12.out.size
  have hs23 := HB23.out.size
  -- what the two calls of Same answer, wherever they are made
  have SA : Hid (∀ w' : World, Below w3.heap.size w3 w' → Calls Try.prog 10 #[.slice (some ⟨g3, 0, none⟩) m c3, .slice (some ⟨g1, 0, none⟩) m c1, .bool true] w' fun e w'' => e = .returned (.bool true) ∧ Below w3.heap.size w3 w'') := by
    intro w' hw'
    have h := same_some true g3 0 c3 g1 0 c1 D D w' (alikes_refl _ _) (by rw [HDl.out]; omega) (by rw [HDl.out]; omega) q32' q12' (by have := hw'.size; omega) (by have := hw'.size; omega) ?_ ?_
    · rw [HDl.out] at h
      exact h.mono fun e w'' ⟨x1, x2⟩ => ⟨x1, hw'.trans (x2.mono hw'.size)⟩
    · intro i hi
      have hi2 : i < (D ++ sb).length := by rw [List.length_append]; omega
      have := HQ3.out i hi2
      rw [List.getElem_append_left hi] at this
      rw [Nat.zero_add]
      exact ⟨(hw'.cell (p := ⟨g3, i * 4, none⟩) q34).trans this.1, (hw'.cell (p := ⟨g3, i * 4 + 1, none⟩) q34).trans this.2.1, (hw'.cell (p := ⟨g3, i * 4 + 2, none⟩) q34).trans this.2.2.1, (hw'.cell (p := ⟨g3, i * 4 + 3, none⟩) q34).trans this.2.2.2⟩
    · intro i hi
      have hi1 : i < m := by have := HDl.out; omega
      have hi2 : i < a.length := by have := HAe.out; omega
      have := HQ1.out i hi2
      have hx : a[i] = D[i] := by
        have hi3 : i < a.dropLast.length := by rw [HD.out]; exact hi
        have e1 : a.dropLast[i] = a[i] := List.getElem_dropLast hi3
        have e2 : ∀ (X Y : List Tok) (e : X = Y) (h1 : i < X.length) (h2 : i < Y.length), X[i] = Y[i] := by intro X Y e h1 h2; subst e; rfl
        rw [← e1]
        exact e2 _ _ HD.out _ _
      rw [hx] at this
      have hbb : Below w1.heap.size w1 w' := HB12.out.trans ((HB23.out.mono hs12).trans (hw'.mono (by omega)))
      rw [Nat.zero_add]
      exact ⟨(hbb.cell (p := ⟨g1, i * 4, none⟩) q14).trans this.1, (hbb.cell (p := ⟨g1, i * 4 + 1, none⟩) q14).trans this.2.1, (hbb.cell (p := ⟨g1, i * 4 + 2, none⟩) q14).trans this.2.2.1, (hbb.cell (p := ⟨g1, i * 4 + 3, none⟩) q14).trans this.2.2.2⟩
  have SB : Hid (∀ w' : World, Below w3.heap.size w3 w' → Calls Try.prog 10 #[.slice (some ⟨g3, m * 4, none⟩) B (c3 - m), .slice (some ⟨g2, 0, none⟩) B c2, .bool false] w' fun e w'' => e = .returned (.bool true) ∧ Below w3.heap.size w3 w'') := by
    intro w' hw'
    have hsbl : sb.length = B := HSl.out
    have h := same_some false g3 (m * 4) (c3 - m) g2 0 c2 sb b w' HAL.out (by omega) (by have := HBe.out; omega) (by unfold maxLen; omega) q22' (by have := hw'.size; omega) (by have := hw'.size; omega) ?_ ?_
    · rw [hsbl, HBe.out] at h
      exact h.mono fun e w'' ⟨x1, x2⟩ => ⟨x1, hw'.trans (x2.mono hw'.size)⟩
    · intro i hi
      have hdl := HDl.out
      have hi2 : m + i < (D ++ sb).length := by rw [List.length_append]; omega
      have := HQ3.out (m + i) hi2
      have hx : (D ++ sb)[m + i] = sb[i] := by
        rw [List.getElem_append_right (by omega)]
        congr 1
        omega
      rw [hx, Nat.add_mul] at this
      exact ⟨(hw'.cell (p := ⟨g3, m * 4 + i * 4, none⟩) q34).trans this.1, (hw'.cell (p := ⟨g3, m * 4 + i * 4 + 1, none⟩) q34).trans this.2.1, (hw'.cell (p := ⟨g3, m * 4 + i * 4 + 2, none⟩) q34).trans this.2.2.1, (hw'.cell (p := ⟨g3, m * 4 + i * 4 + 3, none⟩) q34).trans this.2.2.2⟩
    · intro i hi
      have := HQ2.out i hi
      have hbb : Below w2.heap.size w2 w' := HB23.out.trans (hw'.mono (by omega))
      rw [Nat.zero_add]
      exact ⟨(hbb.cell (p := ⟨g2, i * 4, none⟩) q24).trans this.1, (hbb.cell (p := ⟨g2, i * 4 + 1, none⟩) q24).trans this.2.1, (hbb.cell (p := ⟨g2, i * 4 + 2, none⟩) q24).trans this.2.2.1, (hbb.cell (p := ⟨g2, i * 4 + 3, none⟩) q24).trans this.2.2.2⟩
  have B0 : Hid (Below w3.heap.size w3 w3.drew) := (Below.refl _ _).drew
  have HB3 : Hid (Below w.heap.size w w3) := HB1.out.trans ((HB12.out.mono HB1.out.size).trans (HB23.out.mono (by have := HB1.out.size; omega)))
  clear q13 q14 q23 q24 q33 q34 q12' q22' q32' hs12 hs23
  have e16 : ∀ W : World, (Instr.slice 22 (.slice (some ⟨g3, 0, none⟩) (m + B) c3) (some (.int .i64 (m : Int))) none none).run Try.prog W = .ok (.slice (some ⟨g3, m * 4, none⟩) B (c3 - m)) W := fun W => by have h := slice_l22 W g3 m (m + B) c3 (by omega) (by omega); rw [Nat.add_sub_cancel_left] at h; exact h
  have e16' : ∀ W : World, (Instr.sliceAt 22 (.slice (some ⟨g3, 0, none⟩) (m + B) c3) (some (.int .i64 (m : Int))) none none).run Try.prog W = .ok (.slice (some ⟨g3, m * 4, none⟩) B (c3 - m)) W := fun W => by have h := sliceAt_l22 W g3 m (m + B) c3 (by omega) (by omega); rw [Nat.add_sub_cancel_left] at h; exact h
  have wmm : IntKind.i64.wrap (m : Int) = (m : Int) := by rw [IntKind.wrap_i64]; omega
  have w00 : (0 : Int) ≤ (m : Int) := by omega
  have wm : (m : Int) ≤ (c3 : Int) := by omega
  have wm1 : (m : Int) ≤ (c1 : Int) := by omega
  have hm3 : m ≤ c3 := by omega
  have hm1 : m ≤ c1 := by omega
  have hne3 : ¬ c3 = m := by omega
  have hne3' : ¬ m = c3 := by omega
  have hz3 : ¬ c3 = 0 := by omega
  have hz1 : ¬ c1 = 0 := by omega
  go_wp2_with fail
  go_region_held3 (fun w' => True) (exact trivial) (first | (go_at_call 11; refine (alive_any _).mono ?_; rintro e w6 ⟨rfl, hb6⟩) | (go_at_call 10; have hq4 := hb4; refine (SB.out _ hb4).mono ?_; rintro e w5 ⟨rfl, hb5⟩) | (go_at_call 10; refine (SA.out _ B0.out).mono ?_; rintro e w4 ⟨rfl, hb4⟩))
  have HBF : Hid (Below w.heap.size w w6) := HB3.out.trans ((hb5.trans (hb6.mono hb5.size)).mono HB3.out.size)
  clear hb4 hb5 hb6
  go_wp2
  go_ret
  exact ⟨rfl, HBF.out⟩

theorem cutG_len : ∀ (f p : Nat) (R : List UInt8) (l : List Tok), cutG f p R = .ok l → l.length ≤ R.length + 1 := by
  intro f
  induction f with
  | zero => intro p R l h; cases h
  | succ f ih =>
    intro p R l h
    cases R with
    | nil => rw [cutG_nil] at h; cases h; simp
    | cons b T =>
      rw [cutG_cons] at h
      rcases e1 : tokOf (b :: T) with ⟨kd, m, n⟩ | ⟨o, e'⟩
      · rw [e1] at h
        dsimp only at h
        have ht := tokOf_tok e1
        rcases e2 : cutS f (p + n) ((b :: T).drop n) with l' | ⟨k', e'⟩
        · rw [e2] at h
          cases h
          have := ih _ _ _ e2
          simp only [List.length_drop, List.length_cons] at this ⊢
          omega
        · rw [e2] at h; cases h
      · rw [e1] at h; cases h
theorem cut_len (L : List UInt8) (l : List Tok) (h : cut L = .ok l) : l.length ≤ 8193 := by
  unfold cut at h
  split at h
  · cases h
  · have := cutG_len _ _ _ _ h
    simp only [List.length_drop] at this
    omega

theorem walk (s t : ByteArray) (hs : s.size ≤ maxLen) (ht : t.size ≤ maxLen) (w : World) :
    Calls Try.prog 7 #[.string s, .string t] w fun e w' => e = .returned (.bool true) ∧ Below w.heap.size w w' := by
  by_cases h : s.size ≤ 8192 ∧ t.size ≤ 8192 ∧ s.size + 1 + t.size ≤ 8192
  · obtain ⟨h1, h2, h3⟩ := h
    rcases ea : cut s.data.toList with a | ⟨k, er⟩
    · rcases eb : cut t.data.toList with b | ⟨k, er⟩
      · exact walk_g s t h1 h2 h3 a b ea eb (by have := cut_len _ _ ea; omega) (by have := cut_len _ _ eb; omega) w
      · exact walk_f s t h1 h2 h3 a k er ea eb w
    · exact walk_e s t h1 h2 h3 k er ea w
  · exact walk_long s t hs ht h w

/-! ### THE ROW's STEP: WRITTEN OUT -/
set_option maxRecDepth 100000 in
theorem lifted (os : Os) (started : os.Started) (H : Type) (enc : TypeId × Value → H) :
    ReturnsInHanded {} Try.checked os 7 .any (Rows.lexTwoSpec.pre6 enc Try.prog Try.f7 Rows.lexTwoRow.domain false) (Rows.lexTwoSpec.post enc Try.prog Try.f7 false true false false) := by
  refine returnsInHanded_of_change (C := Try.checked) own started (by kernel_rfl) Try.func7
    (ChangeSpec.witness6 (enc := enc) (C := Try.checked) false ⟨#[], #[.string ByteArray.empty, .string ByteArray.empty], []⟩ 8 (by kernel_rfl) (by kernel_rfl) (by kernel_rfl) (by kernel_rfl)) ?_
  intro W base args ds gs before hval0 hW hcnd _
  have hval : ∀ (j : Nat) t v, Try.f7.params[j]? = some t → args[j]? = some v → Value.okWide Try.prog W .any base t v := hval0
  have hW' := hW
  obtain ⟨p, q, hA0, hV, rfl, hfz, hnd⟩ := hW
  have hA : DataW.TrodAll enc Try.prog W 0 (fun _ => true) true Try.f7.params.toList args.toList ds p := hA0
  rw [Try.params7] at hA hval
  obtain ⟨v0, vs0, d0, ds0, p0, q0, hargs, rfl, rfl, h0, r0⟩ := trodAll_cons hA
  obtain ⟨v1, vs1, d1, ds1, p1, q1, rfl, rfl, rfl, h1, r1⟩ := trodAll_cons r0
  obtain ⟨rfl, rfl, rfl⟩ := trodAll_nil r1
  obtain rfl : args = #[v0, v1] := by cases args; simp_all
  obtain ⟨rfl, rfl⟩ := trodVars_none hV
  obtain ⟨a0, rfl, rfl, rfl, w0⟩ := open_string Try.underlying9 (hval 0 9 v0 rfl rfl) h0
  obtain ⟨a1, rfl, rfl, rfl, w1⟩ := open_string Try.underlying9 (hval 1 9 v1 rfl rfl) h1
  clear hA0 hval0
  refine (walk a0 a1 w0 w1 W).mono fun e W' ⟨he, bel⟩ => ?_
  subst he
  exact ⟨_, rfl, _, _, _, [], _, [], hW', trodAll_mk1 (shut_bool Try.underlying4 _), (trodAll_cons_mk (shut_string Try.underlying9 w0) (trodAll_cons_mk (shut_string Try.underlying9 w1) trodAll_mk0)), rfl, bel.frame _, fun h => by cases h⟩

theorem over : Rows.lexTwoRow.holds Try.pinned (OpenSpec.ofChange Rows.lexTwoSpec) :=
  OpenClaim.holds_of_wide 7 Try.f7 rfl rfl rfl rfl rfl rfl rfl ⟨rfl, rfl, rfl, rfl, rfl⟩ rfl rfl rfl rfl rfl (by kernel_rfl) Try.func7 (by kernel_rfl)
    (of_decide_eq_true (by kernel_rfl)) (by unfold Func.isWrapper; first | (rw [if_pos (by decide +kernel)]; kernel_rfl) | (rw [if_neg (by decide +kernel)]; exact ⟨rfl, rfl⟩))
    (fun os started H enc _ => lifted os started H enc)

/-- ████ THE STATEMENT ████ -/
theorem proved : Rows.LexTwoSaid := over
#print axioms proved
end Go.Proofs.Ytnofibjchhcmeaa.lexTwo
