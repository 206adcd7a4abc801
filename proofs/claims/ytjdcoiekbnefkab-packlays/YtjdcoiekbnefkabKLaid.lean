/- Things laid down one behind the other. -/
import Derived.Test.YtjdcoiekbnefkabKWriter
import Derived.Test.YtjdcoiekbnefkabKSmall
namespace Go.Proofs.Ytjdcoiekbnefkab
open Go.RowKit
set_option linter.unusedVariables false

def flagB (b : Bool) : List UInt8 := if b then [1] else [0]
def intsB (l : List Int) : List UInt8 := uintB l.length ++ l.flatMap (fun n => uintB (zig n))

set_option maxRecDepth 100000 in
set_option maxHeartbeats 1000000 in
theorem flag_any (pb : Nat) (L : List UInt8) (b : Bool) (w : World) (hL : L.length ≤ 900000000) (hw : WS w pb L) :
    Calls Try.prog 43 #[.pointer (some ⟨pb, 0, none⟩), .bool b] w fun e w' => e = .returned (.tuple #[]) ∧ WS w' pb (L ++ flagB b) ∧ Below pb w w' := by
  obtain ⟨i0, hi, hz0, hz1, hz2⟩ := info_parts info5
  obtain ⟨v, c0, f0, o0, p0⟩ := hw
  have HO : Hid (Own w (pb + 1) v L) := o0
  clear o0
  cases b with
  | true =>
    go_enter Try.func43, Try.ntmps43
    go_wp2_with (at_builtin; refine wpList_append_own _ rfl _ _ 37 rfl (pb + 1) 5 i0 (.int .u8 0) 1 1 Try.underlying37 hi hz0 hz1 hz2 rfl (by decide) _ _ _ rfl (HO.out.alloc _) ⟨w.heap.size, 0, none⟩ 1 1 (bc [1]) rfl rfl ?c1 ?c2 ?c3 ?c4 ?c5 ?_)
    case c1 =>
      intro j u hj
      match j, hj with
      | 0, hj => simp [bc] at hj; subst hj; simp [Addr.add]
    case c2 => exact bc_one _
    case c3 => unfold maxLen; omega
    case c4 => omega
    case c5 => simp; omega
    · intro v' w1 hown' hgrow _
      obtain ⟨k1, k2, k3, k4, k5⟩ := WS.after (M := [1]) c0 f0 HO.out p0 ((Below.refl _ _).alloc (Nat.le_refl _) _) hown' hgrow
      obtain ⟨a', n', c', rfl⟩ : ∃ a n c, v' = .slice a n c := by
        rcases hown'.2 with ⟨h, _⟩ | ⟨g, cap, cur, h, _⟩
        · exact ⟨_, _, _, h⟩
        · exact ⟨_, _, _, h⟩
      have K4 : Hid _ := k4
      have K5 : Hid _ := k5
      clear k4 k5 hown' hgrow c0 f0 p0
      go_wp2
      go_returns
      exact ⟨rfl, K4.out, K5.out⟩
  | false =>
    go_enter Try.func43, Try.ntmps43
    go_wp2_with (at_builtin; refine wpList_append_own _ rfl _ _ 37 rfl (pb + 1) 5 i0 (.int .u8 0) 1 1 Try.underlying37 hi hz0 hz1 hz2 rfl (by decide) _ _ _ rfl (HO.out.alloc _) ⟨w.heap.size, 0, none⟩ 1 1 (bc [0]) rfl rfl ?d1 ?d2 ?d3 ?d4 ?d5 ?_)
    case d1 =>
      intro j u hj
      match j, hj with
      | 0, hj => simp [bc] at hj; subst hj; simp [Addr.add]
    case d2 => exact bc_one _
    case d3 => unfold maxLen; omega
    case d4 => omega
    case d5 => simp; omega
    · intro v' w1 hown' hgrow _
      obtain ⟨k1, k2, k3, k4, k5⟩ := WS.after (M := [0]) c0 f0 HO.out p0 ((Below.refl _ _).alloc (Nat.le_refl _) _) hown' hgrow
      obtain ⟨a', n', c', rfl⟩ : ∃ a n c, v' = .slice a n c := by
        rcases hown'.2 with ⟨h, _⟩ | ⟨g, cap, cur, h, _⟩
        · exact ⟨_, _, _, h⟩
        · exact ⟨_, _, _, h⟩
      have K4 : Hid _ := k4
      have K5 : Hid _ := k5
      clear k4 k5 hown' hgrow c0 f0 p0
      go_wp2
      go_end0
      exact ⟨rfl, K4.out, K5.out⟩

set_option maxRecDepth 100000 in
theorem flat_len (l : List Int) : (l.flatMap (fun n => uintB (zig n))).length ≤ 10 * l.length := by
  induction l with
  | nil => simp
  | cons x l ih =>
    have := uintF_len 9 (zig x)
    simp only [List.flatMap_cons, List.length_append, List.length_cons]
    unfold uintB at *
    omega
set_option maxRecDepth 100000 in
theorem take_flat (l : List Int) (j : Nat) (h : j < l.length) : (l.take (j + 1)).flatMap (fun n => uintB (zig n)) = (l.take j).flatMap (fun n => uintB (zig n)) ++ uintB (zig l[j]) := by
  rw [List.take_succ_eq_append_getElem h, List.flatMap_append]
  simp

set_option maxRecDepth 100000 in
set_option maxHeartbeats 2000000 in
theorem wints_any (pb : Nat) (L : List UInt8) (l : List Int) (v : Value) (w : World) (hL : L.length ≤ 900000000) (hl : l.length ≤ 1000000) (hv : NSl w v l) (hlt : ∀ b o n c, v = .slice (some ⟨b, o, none⟩) n c → 0 < n → b < pb) (hw : WS w pb L) :
    Calls Try.prog 45 #[.pointer (some ⟨pb, 0, none⟩), v] w fun e w' => e = .returned (.tuple #[]) ∧ WS w' pb (L ++ intsB l) ∧ Below pb w w' := by
  obtain ⟨ad, cap, rfl, h2, h3, h4, h5⟩ := hv
  have HW : Hid (WS w pb L) := hw
  have HZ : Hid (∀ n ∈ l, -9223372036854775808 ≤ n ∧ n ≤ 9223372036854775807) := h4
  have HC : Hid (0 < l.length → ∃ b o, ad = some ⟨b, o, none⟩ ∧ b < w.heap.size ∧ ∀ i (h : i < l.length), w.cell? ⟨b, o + i, none⟩ = some (.int .i64 l[i])) := h5
  have HLT : Hid (∀ b o n c, Value.slice ad l.length cap = .slice (some ⟨b, o, none⟩) n c → 0 < n → b < pb) := hlt
  obtain ⟨n, hn⟩ : ∃ n, l.length = n := ⟨_, rfl⟩
  have HN : Hid (l.length = n) := hn
  have hul := uintF_len 9 n
  rw [hn] at h2 hl ⊢
  unfold maxLen at h3
  clear h4 h5 hlt hn hw
  go_enter Try.func45, Try.ntmps45
  go_wp2_with fail
  refine (uint_any pb n L w (by omega) (by omega) HW.out).mono ?_
  rintro e w1 ⟨rfl, h6, h7⟩
  obtain ⟨Q, hQ⟩ : ∃ Q, L ++ uintB n = Q := ⟨_, rfl⟩
  rw [hQ] at h6
  have HQ : Hid (L ++ uintB n = Q) := hQ
  have hQl : Q.length ≤ 900000010 := by rw [← hQ, List.length_append]; unfold uintB; omega
  have H6 : Hid (WS w1 pb Q) := h6
  have H7 : Hid (Below pb w w1) := h7
  clear h6 h7 hQ hul
  go_wp2
  go_loopw [13] (fun t wr => ∃ (j : Nat), j ≤ n ∧ t = .int .i64 (j : Int) ∧ Hid (WS wr pb (Q ++ (l.take j).flatMap (fun n => uintB (zig n)))) ∧ Hid (Below pb w wr)) (fun t _ => n - (intOf t).toNat)
  case atStart => exact ⟨0, Nat.zero_le _, rfl, by simpa using H6, H7⟩
  case round =>
    obtain ⟨j, hj, rfl, HWr, HB⟩ := hrel
    by_cases hjn : j < n
    · have hjl : j < l.length := by have := HN.out; omega
      obtain ⟨b, o, had, hb, hcell⟩ := HC.out (by omega)
      subst had
      have hbp : b < pb := HLT.out b o _ _ rfl (by omega)
      obtain ⟨x, hx⟩ : ∃ x, l[j] = x := ⟨_, rfl⟩
      have c1 : wr.cell? ⟨b, o + j, none⟩ = some (.int .i64 x) := by rw [← hx]; exact (HB.out.cell (p := ⟨b, o + j, none⟩) hbp).trans (hcell j hjl)
      have hz := HZ.out x (by rw [← hx]; exact List.getElem_mem hjl)
      have HT : Hid ((l.take (j + 1)).flatMap (fun n => uintB (zig n)) = (l.take j).flatMap (fun n => uintB (zig n)) ++ uintB (zig x)) := by show _ = _; rw [take_flat l j hjl, hx]
      obtain ⟨M, hM⟩ : ∃ M, Q ++ (l.take j).flatMap (fun n => uintB (zig n)) = M := ⟨_, rfl⟩
      have HM : Hid (Q ++ (l.take j).flatMap (fun n => uintB (zig n)) = M) := hM
      have hMl : M.length ≤ 1000000000 := by rw [← hM, List.length_append]; have := flat_len (l.take j); rw [List.length_take] at this; omega
      rw [hM] at HWr
      clear hx hM hcell
      go_wp2_with fail
      refine (int_any pb M x wr hz.1 hz.2 hMl HWr.out).mono ?_
      rintro e w2 ⟨rfl, k1, k2⟩
      have K1 : Hid (WS w2 pb (Q ++ (l.take (j + 1)).flatMap (fun n => uintB (zig n)))) := by show WS _ _ _; rw [HT.out, ← List.append_assoc, HM.out]; exact k1
      have K2 : Hid (Below pb w w2) := HB.out.trans k2
      clear k1 k2
      go_wp2
      go_roundw
      case rel => exact ⟨j + 1, by omega, by go_num, K1, K2⟩
      case measure => simp [intOf]; omega
    · have HF : Hid (WS wr pb (L ++ intsB l)) := by
        show WS _ _ _
        have := HWr.out
        rw [List.take_of_length_le (by have := HN.out; omega), ← HQ.out, List.append_assoc, ← HN.out] at this
        exact this
      go_wp2
      go_end0
      exact ⟨rfl, HF.out, HB.out⟩

/-- from 0 to 4 -/
def kindI (k : Int) : Int := ((k.tmod 5) + 5) % 5
set_option maxRecDepth 100000 in
theorem kindI_in (k : Int) : 0 ≤ kindI k ∧ kindI k ≤ 4 := by
  unfold kindI
  have h1 := Int.tmod_lt_of_pos k (show (0 : Int) < 5 by omega)
  have h0 : -5 < k.tmod 5 := by
    have := Int.lt_tmod_of_pos k (show (0 : Int) < 5 by omega)
    omega
  omega
set_option maxRecDepth 100000 in
set_option maxHeartbeats 400000 in
theorem kind_any (k : Int) (w : World) (h : -9223372036854775808 ≤ k ∧ k ≤ 9223372036854775807) : Calls Try.prog 40 #[.int .i64 k] w fun e w' => e = .returned (.int .i64 (kindI k)) ∧ w' = w := by
  have h1 := Int.tmod_lt_of_pos k (show (0 : Int) < 5 by omega)
  have h0 : -5 < k.tmod 5 := by
    have := Int.lt_tmod_of_pos k (show (0 : Int) < 5 by omega)
    omega
  have HK : Hid (kindI k = ((k.tmod 5) + 5) % 5) := rfl
  go_enter Try.func40, Try.ntmps40
  go_wp2
  go_ret
  exact ⟨by rw [HK.out]; rfl, rfl⟩

/-- a thing's bytes -/
def itB (x : It) : List UInt8 :=
  if kindI x.k = 0 then uintB x.u.toNat else if kindI x.k = 1 then uintB (zig x.n) else if kindI x.k = 2 then flagB x.f else if kindI x.k = 3 then textB x.s else intsB x.l
set_option maxRecDepth 100000 in
theorem itB_len (x : It) (h : x.s.size ≤ 1024 ∧ x.l.length ≤ 256) : (itB x).length ≤ 2570 := by
  unfold itB
  split
  · have := uintF_len 9 x.u.toNat; unfold uintB; omega
  · split
    · have := uintF_len 9 (zig x.n); unfold uintB; omega
    · split
      · unfold flagB; split <;> simp
      · split
        · have := uintF_len 9 x.s.size; unfold textB uintB; simp; omega
        · have := uintF_len 9 x.l.length; have := flat_len x.l; unfold intsB; rw [List.length_append]; unfold uintB at *; omega
def laidB (l : List It) : List UInt8 := l.flatMap itB
set_option maxRecDepth 100000 in
theorem laid_take (l : List It) (j : Nat) (h : j < l.length) : laidB (l.take (j + 1)) = laidB (l.take j) ++ itB l[j] := by
  unfold laidB
  rw [List.take_succ_eq_append_getElem h, List.flatMap_append]
  simp
set_option maxRecDepth 100000 in
theorem laid_len (l : List It) (h : ∀ i (hi : i < l.length), l[i].s.size ≤ 1024 ∧ l[i].l.length ≤ 256) : (laidB l).length ≤ 2570 * l.length := by
  induction l with
  | nil => simp [laidB]
  | cons x l ih =>
    have h1 := itB_len x (h 0 (by simp))
    have h2 := ih (fun i hi => h (i + 1) (by simp; omega))
    unfold laidB at *
    simp only [List.flatMap_cons, List.length_append, List.length_cons]
    omega

def LaidPost (w : World) (L : List UInt8) (e : Ending) (w' : World) : Prop := ∃ v', e = .returned v' ∧ Rd w' v' L ∧ Below w.heap.size w w'

set_option maxRecDepth 100000 in
set_option maxHeartbeats 4000000 in
theorem laid_any (l : List It) (a0 : Option Addr) (c0 : Nat) (w : World) (h0 : Its w (.slice a0 l.length c0) l) (hs : smallB l = true) :
    Calls Try.prog 18 #[.slice a0 l.length c0] w (LaidPost w (laidB l)) := by
  have hsm := small_get hs
  obtain ⟨n, hn⟩ : ∃ n, l.length = n := ⟨_, rfl⟩
  have HN : Hid (l.length = n) := hn
  have hn64 : n ≤ 64 := by rw [← hn]; exact hsm.1
  have HSM : Hid (∀ i (hi : i < l.length), l[i].s.size ≤ 1024 ∧ l[i].l.length ≤ 256) := hsm.2
  obtain ⟨ad, cap, b, o, e0, h2, h3, h40, h5⟩ := h0
  injection e0 with e0 _ e2
  subst e0 e2
  have H5 : Hid (∀ i (h : i < l.length), IAt w l[i] b (o + 6 * i)) := h5
  have H4 : Hid (0 < l.length → a0 = some ⟨b, o, none⟩) := h40
  have HTL : Hid (∀ j, j ≤ n → (laidB (l.take j)).length ≤ 200000) := by
    intro j hj
    have := laid_len (l.take j) (fun i hi => by rw [List.getElem_take]; exact HSM.out i (by simp at hi; omega))
    rw [List.length_take] at this
    omega
  rw [hn] at h2 ⊢
  unfold maxLen at h3
  clear h40 h5 hn hsm hs
  go_enter Try.func18, Try.ntmps18
  go_wp2_with fail
  refine (new_any w).mono ?_
  rintro e w2 ⟨rfl, hws, b2⟩
  obtain ⟨pb, hpb⟩ : ∃ pb, w.heap.size = pb := ⟨_, rfl⟩
  have HPB : Hid (w.heap.size = pb) := hpb
  rw [hpb] at hws b2 ⊢
  have HW2 : Hid (WS w2 pb []) := hws
  have HB2 : Hid (Below pb w w2) := b2
  clear hws b2 hpb
  go_wp2
  go_loopw [4] (fun i wr => ∃ (j : Nat), j ≤ n ∧ i = .int .i64 (j : Int) ∧ Hid (WS wr pb (laidB (l.take j))) ∧ Hid (Below pb w wr)) (fun i _ => n - (intOf i).toNat)
  case atStart => exact ⟨0, Nat.zero_le _, rfl, HW2, HB2⟩
  case round =>
    obtain ⟨j, hj, rfl, HW, HB⟩ := hrel
    by_cases hlt : j < n
    · have hjl : j < l.length := by have := HN.out; omega
      obtain ⟨x, hx⟩ : ∃ x, l[j] = x := ⟨_, rfl⟩
      have hat := H5.out j hjl
      have hat2 := hat.below (HB.out.mono (by rw [HPB.out]; exact Nat.le_refl _))
      rw [hx] at hat hat2
      have had := H4.out (by have := HN.out; omega)
      subst had
      obtain ⟨k0, k1, k2, k3, k4, ⟨v5, k5, hv5⟩, hk, hu, hnn, hss⟩ := hat2
      rw [Nat.mul_comm 6 j] at k0 k1 k2 k3 k4 k5
      have hsz := HSM.out j hjl
      rw [hx] at hsz
      have HTK : Hid (laidB (l.take (j + 1)) = laidB (l.take j) ++ itB x) := by show _ = _; rw [laid_take l j hjl, hx]
      obtain ⟨Q, hQ⟩ : ∃ Q, laidB (l.take j) = Q := ⟨_, rfl⟩
      have hQl : Q.length ≤ 200000 := by rw [← hQ]; exact HTL.out j hj
      rw [hQ] at HW HTK
      have hkin := kindI_in x.k
      obtain ⟨kk, hkk⟩ : ∃ kk, kindI x.k = kk := ⟨_, rfl⟩
      have HKC : Hid (Calls Try.prog 40 #[.int .i64 x.k] wr fun e w' => e = .returned (.int .i64 kk) ∧ w' = wr) := by rw [← hkk]; exact kind_any x.k wr hk
      rw [hkk] at hkin
      have HNV : Hid (NSl wr v5 x.l) := hv5
      have HLTV : Hid (∀ b o n c, v5 = .slice (some ⟨b, o, none⟩) n c → 0 < n → b < pb) := by
        intro b' o' n' c' e9 hn'
        obtain ⟨v6, q5, hv6⟩ := hat.c5
        rw [Nat.mul_comm 6 j] at q5
        have hbw : b < pb := by rw [← HPB.out]; exact World.block_lt_of_cell? w ⟨b, o + 6 * j, none⟩ hat.c0
        have e56 : v6 = v5 := by
          have := (HB.out.cell (p := ⟨b, o + j * 6 + 5, none⟩) hbw).trans q5
          rw [k5] at this
          injection this with this
          exact this.symm
        subst e56
        obtain ⟨ad6, cap6, e6, _, _, _, h6⟩ := hv6
        rw [e9] at e6
        injection e6 with e61 e62 _
        obtain ⟨b7, o7, e7, hb7, _⟩ := h6 (by omega)
        rw [← e61] at e7
        injection e7 with e7
        injection e7 with e7 _ _
        rw [e7, ← HPB.out]
        exact hb7
      have HIT : Hid (itB x = if kk = 0 then uintB x.u.toNat else if kk = 1 then uintB (zig x.n) else if kk = 2 then flagB x.f else if kk = 3 then textB x.s else intsB x.l) := by show _ = _; unfold itB; rw [hkk]
      obtain ⟨ad5, cap5, hv5e, hv51, hv52, _, _⟩ := hv5
      subst hv5e
      clear hat hx hQ hkk
      obtain ⟨un, hun⟩ : ∃ un : Nat, x.u = (un : Int) := ⟨x.u.toNat, by omega⟩
      rw [hun] at k1 hu HIT
      rw [Int.toNat_natCast] at HIT
      have hcs : kk = 0 ∨ kk = 1 ∨ kk = 2 ∨ kk = 3 ∨ kk = 4 := by omega
      clear hun hkin
      rcases hcs with rfl | rfl | rfl | rfl | rfl
      · have HIK : Hid (itB x = uintB un) := by show _ = _; rw [HIT.out]; simp
        clear HIT
        go_wp2_with fail
        refine HKC.out.mono ?_
        rintro e w3 ⟨rfl, hw3⟩
        rw [hw3]
        clear hw3 w3
        go_wp2_with fail
        refine (uint_any pb un Q wr (by omega) (by omega) HW.out).mono ?_
        rintro e w3 ⟨rfl, q1, q2⟩
        have K1 : Hid (WS w3 pb (laidB (l.take (j + 1)))) := by show WS _ _ _; rw [HTK.out, HIK.out]; exact q1
        have K2 : Hid (Below pb w w3) := HB.out.trans q2
        clear q1 q2
        go_wp2
        go_roundw
        case rel => exact ⟨j + 1, by omega, by go_num, K1, K2⟩
        case measure => simp [intOf]; omega
      · have HIK : Hid (itB x = uintB (zig x.n)) := by show _ = _; rw [HIT.out]; simp
        clear HIT
        go_wp2_with fail
        refine HKC.out.mono ?_
        rintro e w3 ⟨rfl, hw3⟩
        rw [hw3]
        clear hw3 w3
        go_wp2_with fail
        refine (int_any pb Q x.n wr hnn.1 hnn.2 (by omega) HW.out).mono ?_
        rintro e w3 ⟨rfl, q1, q2⟩
        have K1 : Hid (WS w3 pb (laidB (l.take (j + 1)))) := by show WS _ _ _; rw [HTK.out, HIK.out]; exact q1
        have K2 : Hid (Below pb w w3) := HB.out.trans q2
        clear q1 q2
        go_wp2
        go_roundw
        case rel => exact ⟨j + 1, by omega, by go_num, K1, K2⟩
        case measure => simp [intOf]; omega
      · have HIK : Hid (itB x = flagB x.f) := by show _ = _; rw [HIT.out]; simp
        clear HIT
        go_wp2_with fail
        refine HKC.out.mono ?_
        rintro e w3 ⟨rfl, hw3⟩
        rw [hw3]
        clear hw3 w3
        go_wp2_with fail
        refine (flag_any pb Q x.f wr (by omega) HW.out).mono ?_
        rintro e w3 ⟨rfl, q1, q2⟩
        have K1 : Hid (WS w3 pb (laidB (l.take (j + 1)))) := by show WS _ _ _; rw [HTK.out, HIK.out]; exact q1
        have K2 : Hid (Below pb w w3) := HB.out.trans q2
        clear q1 q2
        go_wp2
        go_roundw
        case rel => exact ⟨j + 1, by omega, by go_num, K1, K2⟩
        case measure => simp [intOf]; omega
      · have HIK : Hid (itB x = textB x.s) := by show _ = _; rw [HIT.out]; simp
        clear HIT
        go_wp2_with fail
        refine HKC.out.mono ?_
        rintro e w3 ⟨rfl, hw3⟩
        rw [hw3]
        clear hw3 w3
        go_wp2_with fail
        refine (text_any pb Q x.s wr (by omega) (by omega) HW.out).mono ?_
        rintro e w3 ⟨rfl, q1, q2⟩
        have K1 : Hid (WS w3 pb (laidB (l.take (j + 1)))) := by show WS _ _ _; rw [HTK.out, HIK.out]; exact q1
        have K2 : Hid (Below pb w w3) := HB.out.trans q2
        clear q1 q2
        go_wp2
        go_roundw
        case rel => exact ⟨j + 1, by omega, by go_num, K1, K2⟩
        case measure => simp [intOf]; omega
      · have HIK : Hid (itB x = intsB x.l) := by show _ = _; rw [HIT.out]; simp
        clear HIT
        go_wp2_with fail
        refine HKC.out.mono ?_
        rintro e w3 ⟨rfl, hw3⟩
        rw [hw3]
        clear hw3 w3
        go_wp2_with fail
        refine (wints_any pb Q x.l _ wr (by omega) (by omega) HNV.out HLTV.out HW.out).mono ?_
        rintro e w3 ⟨rfl, q1, q2⟩
        have K1 : Hid (WS w3 pb (laidB (l.take (j + 1)))) := by show WS _ _ _; rw [HTK.out, HIK.out]; exact q1
        have K2 : Hid (Below pb w w3) := HB.out.trans q2
        clear q1 q2
        go_wp2
        go_roundw
        case rel => exact ⟨j + 1, by omega, by go_num, K1, K2⟩
        case measure => simp [intOf]; omega
    · have HF : Hid (WS wr pb (laidB l)) := by
        show WS _ _ _
        have := HW.out
        rw [List.take_of_length_le (by have := HN.out; omega)] at this
        exact this
      have hll : (laidB l).length ≤ 1000000000 := by
        have := HTL.out n (Nat.le_refl _)
        rw [List.take_of_length_le (by have := HN.out; omega)] at this
        omega
      have HBw : Hid (Below w.heap.size w wr) := by show Below _ _ _; rw [HPB.out]; exact HB.out
      go_wp2_with fail
      refine (bytes_any pb _ wr hll HF.out).mono ?_
      rintro e w3 ⟨v3, rfl, q1, q2⟩
      have K1 : Hid (Rd w3 v3 (laidB l)) := q1
      have K2 : Hid (Below w.heap.size w w3) := HBw.out.trans (q2.mono HBw.out.size)
      clear q1 q2
      go_wp2
      go_ret
      exact ⟨v3, rfl, K1.out, K2.out⟩
end Go.Proofs.Ytjdcoiekbnefkab
