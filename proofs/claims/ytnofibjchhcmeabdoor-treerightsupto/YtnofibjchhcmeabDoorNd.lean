/- How many expressions and statements there are. -/
import Derived.Test.YtnofibjchhcmeabDoorSw
import Derived.Deep.RegionHeld3
namespace Go.Proofs.YtnofibjchhcmeabDoor
open Go.RowKit Go.Maps
set_option linter.unusedVariables false

theorem elen_le (l : EL) : elen l ≤ ecnt l := by
  induction l with
  | leaf => exact Nat.le_refl _
  | inner i d v a r _ ih => simp only [elen, ecnt]; omega
def NQ (w : World) (n : Nat) (e : Ending) (w' : World) : Prop := e = .returned (.int .i64 (n : Int)) ∧ Below w.heap.size w w'
def ES (w : World) (l : EL) (ok : Nat → Prop) (b o : Nat) (u3 u10 : Value) (wr : World) : Prop :=
  ∃ (r : EL) (i m : Nat), u10 = .int .i64 (i : Int) ∧ u3 = .int .i64 (m : Int) ∧ i + elen r = elen l ∧ m + (ecnt r - elen r) = ecnt l ∧ elen l ≤ m ∧ EAt wr ok r b (o + i * 5) ∧ Below w.heap.size w wr

set_option maxRecDepth 100000 in
set_option maxHeartbeats 4000000 in
theorem exprNodes_any : ∀ (N : Nat) (l : EL) (ok : Nat → Prop) (v : Value) (w : World), ecnt l ≤ N → N ≤ 1000000 → ESlP w ok v l → Calls Tryd.prog 24 #[v] w (NQ w (ecnt l)) := by
  intro N
  induction N using Nat.strongRecOn with
  | _ N ih =>
  intro l ok v w hc hN hes
  obtain ⟨ad, cap, b, o, rfl, h2, h3, h4, h5⟩ := hes
  obtain ⟨P, hP⟩ : ∃ P, NQ w (ecnt l) = P := ⟨_, rfl⟩
  have HP : Hid (NQ w (ecnt l) = P) := hP
  rw [hP]
  have hll := elen_le l
  have HIH : Hid (∀ M, M < N → ∀ (l : EL) (ok : Nat → Prop) (v : Value) (w : World), ecnt l ≤ M → M ≤ 1000000 → ESlP w ok v l → Calls Tryd.prog 24 #[v] w (NQ w (ecnt l))) := ih
  have E0 : Hid (ES w l ok b o (.int .i64 (elen l : Int)) (.int .i64 0) w) := ⟨l, 0, elen l, rfl, rfl, by omega, by omega, Nat.le_refl _, by simpa using h5, Below.refl _ _⟩
  have HAD : Hid (0 < elen l → ad = some ⟨b, o, none⟩ ∧ ok b) := h4
  unfold maxLen at h3
  clear ih hP h4 h5
  go_enter Tryd.func24, Tryd.ntmps24
  go_wp2
  go_loopw [3, 10] (fun u3 u10 wr => Hid (ES w l ok b o u3 u10 wr)) (fun _ u10 _ => elen l - (intOf u10).toNat)
  case atStart => exact E0
  case round =>
    clear E0
    obtain ⟨r, i, m, rfl, rfl, hi, hm, hml, hat, hbl⟩ := hrel.out
    clear hrel
    have HBL : Hid (Below w.heap.size w wr) := hbl
    have hsz := hbl.size
    have hlr := elen_le r
    cases r with
    | leaf =>
      have hi' : i = elen l := by simpa [elen] using hi
      have hm' : m = ecnt l := by simpa [elen, ecnt] using hm
      subst hi' hm'
      have HF : Hid (P (.returned (.int .i64 (ecnt l : Int))) wr) := by show P _ _; rw [← HP.out]; exact ⟨rfl, HBL.out⟩
      clear hbl hat hi hm
      go_wp2
      first | exact HF.out | (go_ret; exact HF.out)
    | inner j d q a r =>
      obtain ⟨k, n, s, p⟩ := d
      obtain ⟨g1, g2, g3, g4, ⟨ad', cap', b', o', f1, f2, f3, f4, f5⟩, hr⟩ := hat
      simp only [elen, ecnt] at hi hm hlr
      obtain ⟨e1, e2⟩ := HAD.out (by omega)
      subst e1
      have hlr2 := elen_le r
      have hbl2 : b < wr.heap.size := World.block_lt_of_cell? wr ⟨b, o + i * 5, none⟩ g1
      have HCA : Hid (∀ W, Below wr.heap.size wr W → Calls Tryd.prog 24 #[.slice ad' (elen a) cap'] W (NQ W (ecnt a))) := fun W hW => HIH.out (ecnt a) (by omega) a ok _ W (Nat.le_refl _) (by omega) (ESlP.keep ⟨ad', cap', b', o', rfl, f2, f3, f4, f5⟩ fun k _ hk => hW.block k hk)
      have HRA : Hid (∀ W, Below wr.heap.size wr W → EAt W ok r b (o + (i + 1) * 5)) := fun W hW => (EAt.keep (fun k _ hk => hW.block k hk) (fun _ => e2) hr |> fun h => by rw [show o + (i + 1) * 5 = o + i * 5 + 5 by omega]; exact h)
      have HNM : Hid (i + (elen r + 1) = elen l ∧ m + (ecnt a + ecnt r + 1 - (elen r + 1)) = ecnt l) := ⟨hi, hm⟩
      have hil : (i : Int) < (elen l : Int) := by omega
      clear hr f5 hbl hi hm f4 f2
      go_wp2_with fail
      refine (HCA.out _ ((Below.refl _ wr).alloc (Nat.le_refl _) _)).mono ?_
      rintro e w2 ⟨rfl, hb2⟩
      have B2 : Below wr.heap.size wr w2 := ((Below.refl wr.heap.size wr).alloc (Nat.le_refl _) (.cells #[.int .i64 k, .int .i64 n, .string s, .int .i64 p, .slice ad' (elen a) cap'] 42)).trans (hb2.mono (by simp))
      have HE2 : Hid (ES w l ok b o (.int .i64 ((m + ecnt a : Nat) : Int)) (.int .i64 ((i + 1 : Nat) : Int)) w2) := ⟨r, i + 1, m + ecnt a, rfl, rfl, by have := HNM.out; omega, by have := HNM.out; omega, by omega, HRA.out w2 B2, HBL.out.trans (B2.mono HBL.out.size)⟩
      have hw1 : wrap64 ((m : Int) + (ecnt a : Int)) = (m : Int) + (ecnt a : Int) := by have := HNM.out; unfold wrap64; omega
      have HEM : Hid (((m + ecnt a : Nat) : Int) = (m : Int) + (ecnt a : Int) ∧ ((i + 1 : Nat) : Int) = (i : Int) + 1) := ⟨by omega, by omega⟩
      clear hb2 B2
      go_wp2
      go_roundw
      case rel =>
        have := HE2.out
        rw [HEM.out.1, HEM.out.2] at this
        first | exact this | (rw [hw1]; exact this)
      case measure => simp [intOf]; omega

theorem w64s (z : Int) (h : 0 ≤ z ∧ z ≤ 3000000) : wrap64 z = z := by unfold wrap64; omega
theorem sum_le {m na nb ne sr lr sl N : Nat} (h1 : m + (na + nb + ne + sr + 1 - (lr + 1)) = sl) (h2 : lr ≤ sr) (h3 : sl ≤ N) (h4 : N ≤ 1000000) : m + na + nb + ne ≤ 1000000 := by omega
theorem sum_i {m na nb ne sr lr sl : Nat} (h1 : m + (na + nb + ne + sr + 1 - (lr + 1)) = sl) (h2 : lr ≤ sr) : m + (na + nb + ne) + (sr - lr) = sl := by omega
theorem w3a {m na nb ne : Nat} (h : m + na + nb + ne ≤ 1000000) : wrap64 ((na : Int) + (nb : Int)) = (na : Int) + (nb : Int) ∧ wrap64 ((na : Int) + (nb : Int) + (ne : Int)) = (na : Int) + (nb : Int) + (ne : Int) ∧ wrap64 ((m : Int) + ((na : Int) + (nb : Int) + (ne : Int))) = (m : Int) + ((na : Int) + (nb : Int) + (ne : Int)) := ⟨w64s _ ⟨by omega, by omega⟩, w64s _ ⟨by omega, by omega⟩, w64s _ ⟨by omega, by omega⟩⟩
theorem i64s (z : Int) (h : 0 ≤ z ∧ z ≤ 3000000) : IntKind.i64.wrap z = z := by simp [IntKind.wrap, IntKind.bits, IntKind.signed]; omega
theorem w3b {m na nb ne : Nat} (h : m + na + nb + ne ≤ 1000000) : IntKind.i64.wrap ((na : Int) + (nb : Int)) = (na : Int) + (nb : Int) ∧ IntKind.i64.wrap ((na : Int) + (nb : Int) + (ne : Int)) = (na : Int) + (nb : Int) + (ne : Int) ∧ IntKind.i64.wrap ((m : Int) + ((na : Int) + (nb : Int) + (ne : Int))) = (m : Int) + ((na : Int) + (nb : Int) + (ne : Int)) := ⟨i64s _ ⟨by omega, by omega⟩, i64s _ ⟨by omega, by omega⟩, i64s _ ⟨by omega, by omega⟩⟩
theorem cast_sum (m na nb ne : Nat) : ((m + (na + nb + ne) : Nat) : Int) = (m : Int) + ((na : Int) + (nb : Int) + (ne : Int)) := by omega
def scnt : SL → Nat
  | .leaf => 0
  | .inner _ (_, _, _, a) _ .leaf r => ecnt a + scnt r + 1
  | .inner _ (_, _, _, a) _ (.inner _ _ _ d e) r => ecnt a + scnt d + scnt e + scnt r + 1
theorem scnt_inner (i : Nat) (k : Int) (s : ByteArray) (c : Int) (a : EL) (v : Unit) (x r : SL) : scnt (.inner i (k, s, c, a) v x r) = ecnt a + scnt (slft x) + scnt (srgt x) + scnt r + 1 := by
  cases x <;> simp [scnt, slft, srgt]
theorem slen_le (l : SL) : slen l ≤ scnt l := by
  induction l using sl_ind with
  | h0 => exact Nat.le_refl _
  | h1 i d v x r _ _ ih => obtain ⟨k, s, c, a⟩ := d; rw [scnt_inner]; simp only [slen]; omega
theorem SAt.parts {w : World} {ok : Nat → Prop} {i : Nat} {k : Int} {s : ByteArray} {c : Int} {a : EL} {v : Unit} {x r : SL} {b o : Nat} (h : SAt w ok (.inner i (k, s, c, a) v x r) b o) :
    w.cell? ⟨b, o, none⟩ = some (.int .i64 k) ∧ w.cell? ⟨b, o + 1, none⟩ = some (.string s) ∧ w.cell? ⟨b, o + 2, none⟩ = some (.int .i64 c) ∧ ∃ va vb ve, w.cell? ⟨b, o + 3, none⟩ = some va ∧ w.cell? ⟨b, o + 4, none⟩ = some vb ∧ w.cell? ⟨b, o + 5, none⟩ = some ve ∧ ESlP w ok va a ∧ SSlP w ok vb (slft x) ∧ SSlP w ok ve (srgt x) ∧ SAt w ok r b (o + 6) := by
  cases x with
  | leaf =>
    obtain ⟨h1, h2, h3, ⟨u, h4, h5⟩, ⟨ad, cap, h6, h7⟩, ⟨ad', cap', h8, h9⟩, hr⟩ := h
    exact ⟨h1, h2, h3, u, _, _, h4, h6, h8, h5, ⟨ad, cap, 0, 0, rfl, Nat.zero_le _, h7, fun q => absurd q (Nat.lt_irrefl 0), trivial⟩, ⟨ad', cap', 0, 0, rfl, Nat.zero_le _, h9, fun q => absurd q (Nat.lt_irrefl 0), trivial⟩, hr⟩
  | inner j d' v' p q =>
    obtain ⟨h1, h2, h3, ⟨u, h4, h5⟩, ⟨ad, cap, b', o', f1, f2, f3, f4, f5⟩, ⟨ad', cap', b'', o'', g1, g2, g3, g4, g5⟩, hr⟩ := h
    exact ⟨h1, h2, h3, u, _, _, h4, f1, g1, h5, ⟨ad, cap, b', o', rfl, f2, f3, f4, f5⟩, ⟨ad', cap', b'', o'', rfl, g2, g3, g4, g5⟩, hr⟩
def NS (w : World) (l : SL) (ok : Nat → Prop) (b o : Nat) (u3 u10 : Value) (wr : World) : Prop :=
  ∃ (r : SL) (i m : Nat), u10 = .int .i64 (i : Int) ∧ u3 = .int .i64 (m : Int) ∧ i + slen r = slen l ∧ m + (scnt r - slen r) = scnt l ∧ slen l ≤ m ∧ SAt wr ok r b (o + i * 6) ∧ Below w.heap.size w wr

set_option maxRecDepth 100000 in
set_option maxHeartbeats 8000000 in
theorem nodes_any : ∀ (N : Nat) (l : SL) (ok : Nat → Prop) (v : Value) (w : World), scnt l ≤ N → N ≤ 1000000 → SSlP w ok v l → Calls Tryd.prog 15 #[v] w (NQ w (scnt l)) := by
  intro N
  induction N using Nat.strongRecOn with
  | _ N ih =>
  intro l ok v w hc hN hes
  obtain ⟨ad, cap, b, o, rfl, h2, h3, h4, h5⟩ := hes
  obtain ⟨P, hP⟩ : ∃ P, NQ w (scnt l) = P := ⟨_, rfl⟩
  have HP : Hid (NQ w (scnt l) = P) := hP
  rw [hP]
  have hll := slen_le l
  have HIH : Hid (∀ M, M < N → ∀ (l : SL) (ok : Nat → Prop) (v : Value) (w : World), scnt l ≤ M → M ≤ 1000000 → SSlP w ok v l → Calls Tryd.prog 15 #[v] w (NQ w (scnt l))) := ih
  have E0 : Hid (NS w l ok b o (.int .i64 (slen l : Int)) (.int .i64 0) w) := ⟨l, 0, slen l, rfl, rfl, by omega, by omega, Nat.le_refl _, by simpa using h5, Below.refl _ _⟩
  have HAD : Hid (0 < slen l → ad = some ⟨b, o, none⟩ ∧ ok b) := h4
  unfold maxLen at h3
  clear ih hP h4 h5
  go_enter Tryd.func15, Tryd.ntmps15
  go_wp2
  go_loopw [3, 10] (fun u3 u10 wr => Hid (NS w l ok b o u3 u10 wr)) (fun _ u10 _ => slen l - (intOf u10).toNat)
  case atStart => exact E0
  case round =>
    clear E0
    obtain ⟨r, i, m, rfl, rfl, hi, hm, hml, hat, hbl⟩ := hrel.out
    clear hrel
    have HBL : Hid (Below w.heap.size w wr) := hbl
    have hsz := hbl.size
    have hlr := slen_le r
    cases r with
    | leaf =>
      have hi' : i = slen l := by simpa [slen] using hi
      have hm' : m = scnt l := by simpa [slen, scnt] using hm
      subst hi' hm'
      have HF : Hid (P (.returned (.int .i64 (scnt l : Int))) wr) := by show P _ _; rw [← HP.out]; exact ⟨rfl, HBL.out⟩
      clear hbl hat hi hm
      go_wp2
      first | exact HF.out | (go_ret; exact HF.out)
    | inner j d q x r =>
      obtain ⟨k, s, c, a⟩ := d
      obtain ⟨g1, g2, g3, va, vb, ve, g4, g5, g6, pa, pb, pe, hr⟩ := hat.parts
      rw [scnt_inner] at hm hlr
      simp only [slen] at hi hm hlr
      obtain ⟨e1, e2⟩ := HAD.out (by omega)
      subst e1
      have hlr2 := slen_le r
      have HRA : Hid (∀ W, Below wr.heap.size wr W → SAt W ok r b (o + (i + 1) * 6)) := fun W hW => (SAt.keep (fun k _ hk => hW.block k hk) r (fun _ => e2) hr |> fun h => by rw [show o + (i + 1) * 6 = o + i * 6 + 6 by omega]; exact h)
      have HNM : Hid (i + (slen r + 1) = slen l ∧ m + (ecnt a + scnt (slft x) + scnt (srgt x) + scnt r + 1 - (slen r + 1)) = scnt l) := ⟨hi, hm⟩
      have HCA : Hid (∀ W, Below wr.heap.size wr W → Calls Tryd.prog 24 #[va] W (NQ W (ecnt a))) := fun W hW => exprNodes_any (ecnt a) a ok _ W (Nat.le_refl _) (by omega) (ESlP.keep pa fun k _ hk => hW.block k hk)
      have HCB : Hid (∀ W, Below wr.heap.size wr W → Calls Tryd.prog 15 #[vb] W (NQ W (scnt (slft x)))) := fun W hW => HIH.out (scnt (slft x)) (by omega) _ ok _ W (Nat.le_refl _) (by omega) (SSlP.keep pb fun k _ hk => hW.block k hk)
      have HCE : Hid (∀ W, Below wr.heap.size wr W → Calls Tryd.prog 15 #[ve] W (NQ W (scnt (srgt x)))) := fun W hW => HIH.out (scnt (srgt x)) (by omega) _ ok _ W (Nat.le_refl _) (by omega) (SSlP.keep pe fun k _ hk => hW.block k hk)
      obtain ⟨a1, a2, a3, rfl⟩ := pa.sl
      obtain ⟨b1, b2, b3, rfl⟩ := pb.sl
      obtain ⟨c1, c2, c3, rfl⟩ := pe.sl
      have hil : (i : Int) < (slen l : Int) := by omega
      obtain ⟨na, hna⟩ : ∃ na, ecnt a = na := ⟨_, rfl⟩
      obtain ⟨nb, hnb⟩ : ∃ nb, scnt (slft x) = nb := ⟨_, rfl⟩
      obtain ⟨ne, hne⟩ : ∃ ne, scnt (srgt x) = ne := ⟨_, rfl⟩
      rw [hna, hnb, hne] at HNM
      rw [hna] at HCA
      rw [hnb] at HCB
      rw [hne] at HCE
      have hnm := HNM.out
      unfold NQ at HCA HCB HCE
      clear hr hbl hi hm pa pb pe hat hna hnb hne
      go_wp2_with fail
      have HW0 : Hid (Below wr.heap.size wr (wr.alloc (.cells #[.int .i64 k, .string s, .int .i64 c, .slice a1 a2 a3, .slice b1 b2 b3, .slice c1 c2 c3] 39)) ∧ wr.heap.size < (wr.alloc (.cells #[.int .i64 k, .string s, .int .i64 c, .slice a1 a2 a3, .slice b1 b2 b3, .slice c1 c2 c3] 39)).heap.size) := ⟨(Below.refl _ wr).alloc (Nat.le_refl _) _, by simp⟩
      have q3 : (wr.alloc (.cells #[.int .i64 k, .string s, .int .i64 c, .slice a1 a2 a3, .slice b1 b2 b3, .slice c1 c2 c3] 39)).cell? ⟨wr.heap.size, 3, none⟩ = some (.slice a1 a2 a3) := by simp
      have q4 : (wr.alloc (.cells #[.int .i64 k, .string s, .int .i64 c, .slice a1 a2 a3, .slice b1 b2 b3, .slice c1 c2 c3] 39)).cell? ⟨wr.heap.size, 4, none⟩ = some (.slice b1 b2 b3) := by simp
      have q5 : (wr.alloc (.cells #[.int .i64 k, .string s, .int .i64 c, .slice a1 a2 a3, .slice b1 b2 b3, .slice c1 c2 c3] 39)).cell? ⟨wr.heap.size, 5, none⟩ = some (.slice c1 c2 c3) := by simp
      generalize (wr.alloc (.cells #[.int .i64 k, .string s, .int .i64 c, .slice a1 a2 a3, .slice b1 b2 b3, .slice c1 c2 c3] 39)) = W0 at HW0 q3 q4 q5 ⊢
      generalize wr.heap.size = N0 at *
      have HKP : Hid (∀ W W' : World, Below W.heap.size W W' → Hid (Below N0 wr W ∧ N0 < W.heap.size) → (W.cell? ⟨N0, 3, none⟩ = some (.slice a1 a2 a3) ∧ W.cell? ⟨N0, 4, none⟩ = some (.slice b1 b2 b3) ∧ W.cell? ⟨N0, 5, none⟩ = some (.slice c1 c2 c3)) → ((W'.cell? ⟨N0, 3, none⟩ = some (.slice a1 a2 a3) ∧ W'.cell? ⟨N0, 4, none⟩ = some (.slice b1 b2 b3) ∧ W'.cell? ⟨N0, 5, none⟩ = some (.slice c1 c2 c3)) ∧ (Below N0 wr W' ∧ N0 < W'.heap.size))) := by
        intro W W' hb h4 ⟨h1, h2, h3⟩
        have h5 := h4.out
        exact ⟨⟨(hb.cell (p := ⟨N0, 3, none⟩) h5.2).trans h1, (hb.cell (p := ⟨N0, 4, none⟩) h5.2).trans h2, (hb.cell (p := ⟨N0, 5, none⟩) h5.2).trans h3⟩, h5.1.trans (hb.mono (by omega)), Nat.lt_of_lt_of_le h5.2 hb.size⟩
      have HCA' : Hid (∀ W, Hid (Below N0 wr W ∧ N0 < W.heap.size) → (W.cell? ⟨N0, 3, none⟩ = some (.slice a1 a2 a3) ∧ W.cell? ⟨N0, 4, none⟩ = some (.slice b1 b2 b3) ∧ W.cell? ⟨N0, 5, none⟩ = some (.slice c1 c2 c3)) → Calls Tryd.prog 24 #[.slice a1 a2 a3] W fun e w' => e = .returned (.int .i64 (na : Int)) ∧ ((w'.cell? ⟨N0, 3, none⟩ = some (.slice a1 a2 a3) ∧ w'.cell? ⟨N0, 4, none⟩ = some (.slice b1 b2 b3) ∧ w'.cell? ⟨N0, 5, none⟩ = some (.slice c1 c2 c3)) ∧ (Below N0 wr w' ∧ N0 < w'.heap.size))) := fun W hW hc => (HCA.out W hW.out.1).mono fun e w' h => ⟨h.1, HKP.out W w' h.2 hW hc⟩
      have HCB' : Hid (∀ W, Hid (Below N0 wr W ∧ N0 < W.heap.size) → (W.cell? ⟨N0, 3, none⟩ = some (.slice a1 a2 a3) ∧ W.cell? ⟨N0, 4, none⟩ = some (.slice b1 b2 b3) ∧ W.cell? ⟨N0, 5, none⟩ = some (.slice c1 c2 c3)) → Calls Tryd.prog 15 #[.slice b1 b2 b3] W fun e w' => e = .returned (.int .i64 (nb : Int)) ∧ ((w'.cell? ⟨N0, 3, none⟩ = some (.slice a1 a2 a3) ∧ w'.cell? ⟨N0, 4, none⟩ = some (.slice b1 b2 b3) ∧ w'.cell? ⟨N0, 5, none⟩ = some (.slice c1 c2 c3)) ∧ (Below N0 wr w' ∧ N0 < w'.heap.size))) := fun W hW hc => (HCB.out W hW.out.1).mono fun e w' h => ⟨h.1, HKP.out W w' h.2 hW hc⟩
      have HCE' : Hid (∀ W, Hid (Below N0 wr W ∧ N0 < W.heap.size) → (W.cell? ⟨N0, 3, none⟩ = some (.slice a1 a2 a3) ∧ W.cell? ⟨N0, 4, none⟩ = some (.slice b1 b2 b3) ∧ W.cell? ⟨N0, 5, none⟩ = some (.slice c1 c2 c3)) → Calls Tryd.prog 15 #[.slice c1 c2 c3] W fun e w' => e = .returned (.int .i64 (ne : Int)) ∧ ((w'.cell? ⟨N0, 3, none⟩ = some (.slice a1 a2 a3) ∧ w'.cell? ⟨N0, 4, none⟩ = some (.slice b1 b2 b3) ∧ w'.cell? ⟨N0, 5, none⟩ = some (.slice c1 c2 c3)) ∧ (Below N0 wr w' ∧ N0 < w'.heap.size))) := fun W hW hc => (HCE.out W hW.out.1).mono fun e w' h => ⟨h.1, HKP.out W w' h.2 hW hc⟩
      have HW0d : Hid (Below N0 wr W0.drew ∧ N0 < W0.drew.heap.size) := ⟨HW0.out.1.drew, HW0.out.2⟩
      have hS0 : (W0.drew.cell? ⟨N0, 3, none⟩ = some (.slice a1 a2 a3) ∧ W0.drew.cell? ⟨N0, 4, none⟩ = some (.slice b1 b2 b3) ∧ W0.drew.cell? ⟨N0, 5, none⟩ = some (.slice c1 c2 c3)) := ⟨q3, q4, q5⟩
      have hsm : m + na + nb + ne ≤ 1000000 := sum_le HNM.out.2 hlr2 hc hN
      have HWW : Hid (IntKind.i64.wrap ((na : Int) + (nb : Int)) = (na : Int) + (nb : Int) ∧ IntKind.i64.wrap ((na : Int) + (nb : Int) + (ne : Int)) = (na : Int) + (nb : Int) + (ne : Int) ∧ IntKind.i64.wrap ((m : Int) + ((na : Int) + (nb : Int) + (ne : Int))) = (m : Int) + ((na : Int) + (nb : Int) + (ne : Int))) := w3b hsm
      have hil2 : i + 1 ≤ slen l := by have := HNM.out.1; rw [← this]; exact Nat.add_le_add_left (Nat.succ_le_succ (Nat.zero_le _)) i
      have HFIN : Hid (∀ W, Below N0 wr W → NS w l ok b o (.int .i64 ((m : Int) + ((na : Int) + (nb : Int) + (ne : Int)))) (.int .i64 ((i : Int) + 1)) W) := by
        intro W hW
        refine ⟨r, i + 1, m + (na + nb + ne), by simp, by rw [cast_sum], by have := HNM.out.1; rw [← this, Nat.add_assoc, Nat.add_comm 1], sum_i HNM.out.2 hlr2, Nat.le_trans hml (Nat.le_add_right _ _), HRA.out W hW, HBL.out.trans (hW.mono hsz)⟩
      clear HCA HCB HCE HIH HKP HW0 hlr hlr2 hnm HRA HNM hll hc hN hml hsm HBL
      go_region_held3 (fun w' => (w'.cell? ⟨N0, 3, none⟩ = some (.slice a1 a2 a3) ∧ w'.cell? ⟨N0, 4, none⟩ = some (.slice b1 b2 b3) ∧ w'.cell? ⟨N0, 5, none⟩ = some (.slice c1 c2 c3))) (first | assumption | go_keep) (first | (go_at_call 24; refine (HCA'.out _ (by assumption) (by assumption)).mono ?_; rintro e wx ⟨rfl, hSx, hbx⟩; have HWx : Hid (Below N0 wr wx ∧ N0 < wx.heap.size) := hbx; clear hbx) | (go_at_call_of 15 (Value.slice b1 b2 b3); refine (HCB'.out _ (by assumption) (by assumption)).mono ?_; rintro e wx ⟨rfl, hSx, hbx⟩; have HWx : Hid (Below N0 wr wx ∧ N0 < wx.heap.size) := hbx; clear hbx) | (go_at_call_of 15 (Value.slice c1 c2 c3); refine (HCE'.out _ (by assumption) (by assumption)).mono ?_; rintro e wx ⟨rfl, hSx, hbx⟩; have HWx : Hid (Below N0 wr wx ∧ N0 < wx.heap.size) := hbx; clear hbx))
      rw [HWW.out.1, HWW.out.2.1, HWW.out.2.2]
      go_wp2
      go_roundw
      case rel => exact HFIN.out _ (by first | exact HWx.out.1 | exact HWx.out.1.drew)
      case measure => simp [intOf]; omega
end Go.Proofs.YtnofibjchhcmeabDoor
