/- PackOwn, walked: what is answered is new memory. -/
import Derived.Test.YtjdcoiekbnefkacOwnP
import Derived.Test.YtjdcoiekbnefkacSmall
import Derived.Test.YtjdcoiekbnefkacAlive
import Derived.Test.YtjdcoiekbnefkacRefS
import Derived.Deep.DeepCutAuto
namespace Go.Proofs.Ytjdcoiekbnefkac
open Go.RowKit
set_option linter.unusedVariables false

/-- bytes that are being turned, if there are some -/
def TZ (B : Nat) (w w' : World) (g n : Nat) : Prop := (n = 0 ∧ w' = w) ∨ (0 < n ∧ B ≤ g ∧ g < w.heap.size ∧ TB w w' g n)
theorem TZ.below {B : Nat} {w w' : World} {g n : Nat} (h : TZ B w w' g n) : Below B w w' := by
  rcases h with ⟨_, rfl⟩ | ⟨_, h2, h3, h4⟩
  · exact Below.refl _ _
  · exact ⟨h4.1.1.os, h4.1.1.tape, h4.1.1.output, h4.1.1.size, fun k hk => h4.1.1.block k (by omega) (fun e => by cases e; omega)⟩
theorem TZ.size {B : Nat} {w w' : World} {g n : Nat} (h : TZ B w w' g n) : w'.heap.size = w.heap.size := by
  rcases h with ⟨_, rfl⟩ | ⟨_, h2, h3, h4⟩
  · rfl
  · exact h4.1.2
theorem TZ.get {B : Nat} {w w' : World} {g n j : Nat} (h : TZ B w w' g n) (hj : j < n) : ∃ c : UInt8, w'.cell? ⟨g, j, none⟩ = some (.int .u8 (c.toNat : Int)) ∧ w'.frozen? ⟨g, j, none⟩ = false := by
  rcases h with ⟨_, rfl⟩ | ⟨_, h2, h3, h4⟩
  · omega
  · obtain ⟨c, hc⟩ := h4.2.2 j hj
    exact ⟨c, hc, h4.frozen j⟩
theorem TZ.set {B : Nat} {w w' : World} {g n j : Nat} (h : TZ B w w' g n) (hj : j < n) (c : UInt8) : TZ B w (w'.setCell ⟨g, j, none⟩ (.int .u8 (c.toNat : Int))) g n := by
  rcases h with ⟨_, rfl⟩ | ⟨h1, h2, h3, h4⟩
  · omega
  · exact Or.inr ⟨h1, h2, h3, h4.set j hj c⟩
theorem TZ.far {B C : Nat} {w w' : World} {g n : Nat} (h : TZ B w w' g n) (hC : 0 < n → g < C) : ∀ k, C ≤ k → w'.heap[k]? = w.heap[k]? := by
  intro k hk
  rcases h with ⟨_, rfl⟩ | ⟨h1, h2, h3, h4⟩
  · rfl
  · have := hC h1
    by_cases hs : k < w.heap.size
    · exact h4.1.1.block k hs (fun e => by cases e; omega)
    · rw [Array.getElem?_eq_none (by have := h4.1.2; omega), Array.getElem?_eq_none (by omega)]
theorem Wr.tz {w : World} {B : Nat} {v : Value} {L : List UInt8} (h : Wr w B v L) : ∃ a g cap, v = .slice a L.length cap ∧ L.length ≤ cap ∧ cap ≤ maxLen ∧ (0 < L.length → a = some ⟨g, 0, none⟩) ∧ TZ B w w g L.length := by
  rcases h with ⟨rfl, rfl⟩ | ⟨g, cap, e1, e2, e3, e4, e5, e6, e7⟩
  · exact ⟨none, 0, 0, rfl, Nat.le_refl _, Nat.zero_le _, fun h => absurd h (by simp), Or.inl ⟨rfl, rfl⟩⟩
  · refine ⟨_, g, cap, e1, e2, e3, fun _ => rfl, ?_⟩
    by_cases h0 : L.length = 0
    · exact Or.inl ⟨h0, rfl⟩
    · exact Or.inr ⟨by omega, e4, e5, TB.start rfl e6 e7⟩

theorem uR_low (c : UInt8) (R : List UInt8) (h : c.toNat < 128) : uR (c :: R) 0 = (c.toNat, R, 0) := by
  have : tk 0 0 (c :: R) = .ok c.toNat R := by
    unfold tk
    rw [if_neg (by omega), if_pos h]
    simp
    omega
  unfold uR
  rw [if_pos rfl, this]

set_option maxRecDepth 100000 in
set_option maxHeartbeats 4000000 in
theorem own_walk (l : List It) (a0 : Option Addr) (c0 : Nat) (a1 : Option Addr) (n1 c1 : Nat) (L : List UInt8) (w : World) (h0 : Its w (.slice a0 l.length c0) l) (hn1 : L.length = n1) (hm1 : n1 ≤ maxLen) (h1 : RdX w (.slice a1 n1 c1) L) :
    Calls Try.prog 7 #[.slice a0 l.length c0, .slice a1 n1 c1] w fun e w' => e = .returned (.bool true) ∧ Below w.heap.size w w' := by
  have HI : Hid (Its w (.slice a0 l.length c0) l) := h0
  have HL : Hid (RdX w (.slice a1 n1 c1) L) := h1
  have HLN : Hid (L.length = n1) := hn1
  have HC : Hid _ := small_any _ l w h0
  obtain ⟨sb, hsb⟩ : ∃ sb, smallB l = sb := ⟨_, rfl⟩
  have HSB : Hid (smallB l = sb) := hsb
  rw [hsb] at HC
  unfold maxLen at hm1
  obtain ⟨i0, hi, hz0, hz1, hz2⟩ := info_parts info5
  clear h0 h1 hn1 hsb
  go_enter Try.func7, Try.ntmps7
  go_wp2_with fail
  refine Calls.mono HC.out ?_
  rintro e w1 ⟨rfl, hb1⟩
  have HB1 : Hid (Below w.heap.size w w1) := hb1
  clear hb1 HC
  rcases sb with _ | _
  case false =>
    go_wp2
    go_ret
    exact ⟨rfl, HB1.out⟩
  by_cases h4 : 4096 < n1
  · go_wp2
    go_ret
    exact ⟨rfl, HB1.out⟩
  have hsm := small_get HSB.out
  obtain ⟨n, hn⟩ : ∃ n, l.length = n := ⟨_, rfl⟩
  have HN : Hid (l.length = n) := hn
  have hn64 : n ≤ 64 := by rw [← hn]; exact hsm.1
  have HSM : Hid (∀ i (hi : i < l.length), l[i].s.size ≤ 1024 ∧ l[i].l.length ≤ 256) := hsm.2
  obtain ⟨ad, cap, b, o, e0, h2, h3, h40, h5⟩ := HI.out
  injection e0 with e0 _ e2
  subst e0 e2
  have H5 : Hid (∀ i (h : i < l.length), IAt w l[i] b (o + 6 * i)) := h5
  have H4 : Hid (0 < l.length → a0 = some ⟨b, o, none⟩) := h40
  rw [hn] at h2 ⊢
  unfold maxLen at h3
  clear h40 h5 hn hsm HI HSB
  go_wp2_with fail
  refine (new_any w1).mono ?_
  rintro e w2 ⟨rfl, hws, b2⟩
  obtain ⟨pb, hpb⟩ : ∃ pb, w1.heap.size = pb := ⟨_, rfl⟩
  rw [hpb] at hws b2 ⊢
  have HW2 : Hid (WS w2 pb []) := hws
  have hwpb : w.heap.size ≤ pb := by have := HB1.out.size; omega
  have HB2 : Hid (Below w.heap.size w w2) := HB1.out.trans (b2.mono hwpb)
  clear hws b2 hpb
  go_wp2
  go_loopw [6] (fun i wr => ∃ (j : Nat) (P : List UInt8), j ≤ n ∧ P.length ≤ 1034 * j ∧ i = .int .i64 (j : Int) ∧ Hid (WS wr pb P) ∧ Hid (Below w.heap.size w wr)) (fun i _ => n - (intOf i).toNat)
  case atStart => exact ⟨0, [], Nat.zero_le _, by simp, rfl, HW2, HB2⟩
  case round =>
    obtain ⟨j, P, hj, hP, rfl, HW, HB⟩ := hrel
    by_cases hlt : j < n
    · have hjl : j < l.length := by have := HN.out; omega
      obtain ⟨x, hx⟩ : ∃ x, l[j] = x := ⟨_, rfl⟩
      have hat := (H5.out j hjl).below HB.out
      rw [hx] at hat
      have had := H4.out (by have := HN.out; omega)
      subst had
      have c4 := hat.c4
      rw [Nat.mul_comm 6 j] at c4
      have hs4 := (HSM.out j hjl).1
      rw [hx] at hs4
      have hu := uintF_len 9 x.s.size
      have HTL : Hid ((textB x.s).length ≤ 1034) := by show _ ≤ _; unfold textB uintB; simp; omega
      clear hat hx hu
      go_wp2_with fail
      refine (text_any pb P x.s wr (by omega) (by omega) HW.out).mono ?_
      rintro e w3 ⟨rfl, hws3, b3⟩
      have HW3 : Hid (WS w3 pb (P ++ textB x.s)) := hws3
      have HB3 : Hid (Below w.heap.size w w3) := HB.out.trans (b3.mono hwpb)
      clear hws3 b3
      go_wp2
      go_roundw
      case rel => exact ⟨j + 1, P ++ textB x.s, by omega, by rw [List.length_append]; have := HTL.out; omega, by go_num, HW3, HB3⟩
      case measure => simp [intOf]; omega
    · have hPl : P.length ≤ 70000 := by omega
      clear hP
      rename World => w4
      go_wp2_with fail
      refine (bytes_new pb P w4 (by omega) HW.out).mono ?_
      rintro e w5 ⟨v5, rfl, hwr5, b5⟩
      have cv5 := hwr5.rd.str
      obtain ⟨aa, ga, ca, rfl, hpa1, hpa2, hpa3, htz⟩ := hwr5.tz
      have HTZ : Hid (TZ w4.heap.size w5 w5 ga P.length) := htz
      have HB5 : Hid (Below w4.heap.size w4 w5) := b5
      obtain ⟨np, hnp⟩ : ∃ np, P.length = np := ⟨_, rfl⟩
      have HNP : Hid (P.length = np) := hnp
      rw [hnp] at hPl hpa1 hpa3 HTZ cv5 ⊢
      have HAA : Hid (0 < np → aa = some ⟨ga, 0, none⟩) := hpa3
      unfold maxLen at hpa2
      clear hwr5 b5 htz hnp hpa3
      go_wp2
      go_loopw [9] (fun i wr => ∃ (j : Nat), j ≤ np ∧ i = .int .i64 (j : Int) ∧ Hid (TZ w4.heap.size w5 wr ga np)) (fun i _ => np - (intOf i).toNat)
      case atStart => exact ⟨0, Nat.zero_le _, rfl, HTZ⟩
      case round =>
        obtain ⟨j2, hj2, rfl, HT⟩ := hrel
        by_cases hlt2 : j2 < np
        · have haa := HAA.out (by omega)
          subst haa
          obtain ⟨c, hc, hf⟩ := HT.out.get hlt2
          obtain ⟨d, hd⟩ := xor_byte c
          have HS : Hid _ := HT.out.set hlt2 d
          go_wp2
          go_roundw
          case rel => exact ⟨j2 + 1, by omega, by go_num, HS⟩
          case measure => simp [intOf]; omega
        · have HB6 : Hid (Below w4.heap.size w4 wr) := HB5.out.trans HT.out.below
          have HB6w : Hid (Below w.heap.size w wr) := HB.out.trans (HB6.out.mono HB.out.size)
          rename World => w6
          have HL6 : Hid (RdX w6 (.slice a1 n1 c1) L) := HL.out.below HB6w.out
          go_upto_region 16 with fail
          go_cut [10] (fun s wx => ∃ ob oc, s = .slice ob n1 oc ∧ Hid (Own wx w6.heap.size (.slice ob n1 oc) L) ∧ Hid (Below w6.heap.size w6 wx))
          case first =>
            rcases a1 with _ | x1
            · obtain ⟨rfl, rfl, h00⟩ : n1 = 0 ∧ c1 = 0 ∧ L = [] := by
                rcases HL.out with ⟨h, h9⟩ | ⟨_, _, h, _⟩
                · injection h with _ h2 h3; exact ⟨h2, h3, h9⟩
                · cases h
              have HOE : Hid (Own (w6.alloc (.cells #[] 5)) w6.heap.size (.slice (some ⟨w6.heap.size, 0, none⟩) 0 0) L) := by rw [h00]; exact own_empty w6
              have HBE : Hid (Below w6.heap.size w6 (w6.alloc (.cells #[] 5))) := (Below.refl _ _).alloc (Nat.le_refl _) _
              clear h00
              go_wp2_with fail
              go_meet
              case rel => exact ⟨_, _, rfl, HOE, HBE⟩
            · go_wp2_with (at_builtin; refine wpList_append_own _ rfl _ _ 26 rfl w6.heap.size 5 i0 (.int .u8 0) 1 1 Try.underlying26 hi hz0 hz1 hz2 rfl (by decide) _ _ _ rfl (own_empty w6) x1 n1 c1 (bc L) rfl ?d0 ?d1 ?d2 ?d3 ?d4 ?d5 ?_)
              case d0 => rw [bc_len, Nat.mul_one]; exact HLN.out
              case d1 =>
                intro j u hj
                obtain ⟨h1, rfl⟩ := bc_get L j u hj
                have h2 : w6.cell? (x1.add j) = some (.int .u8 (L[j].toNat : Int)) := by
                  rcases HL6.out with ⟨h3, _⟩ | ⟨y, cy, h3, _, _, h4⟩
                  · cases h3
                  · simp only [Value.slice.injEq, Option.some.injEq] at h3
                    obtain ⟨rfl, _, _⟩ := h3
                    exact h4 j h1
                rw [World.cell?_alloc_lt]
                · exact h2
                · exact cellX_lt h2
              case d2 => exact bc_one L
              case d3 => unfold maxLen; omega
              case d4 => omega
              case d5 => simp
              intro v1 w7 hown hgrow _
              have HOE : Hid (Own w7 w6.heap.size v1 L) := by show Own _ _ _ _; unfold Own; rw [HLN.out]; simpa using hown
              have HBE : Hid (Below w6.heap.size w6 w7) := ((Below.refl _ _).alloc (Nat.le_refl _) _).grown hgrow (by simp) (fun k hk => by simp [Value.ownBlock] at hk; omega)
              obtain ⟨ob, oc, rfl⟩ : ∃ ob oc, v1 = .slice ob n1 oc := by
                have := own_slice HOE.out
                rw [HLN.out] at this
                exact this
              clear hown hgrow
              go_wp2_with fail
              go_meet
              case rel => exact ⟨_, _, rfl, HOE, HBE⟩
          case rest =>
            obtain ⟨ob, oc, rfl, HO, HB7⟩ := hcut
            rename World => w7
            have HRN : Hid (Rd w7 (.slice ob n1 oc) L) := HO.out.rd
            go_wp2_with fail
            refine (read_new _ L w7 (by have := HLN.out; omega) HRN.out).mono ?_
            rintro e w8 ⟨pr, rfl, hpr, hrs, b8, hkeep⟩
            have HK : Hid (∀ w'', (∀ k, w7.heap.size ≤ k → w''.heap[k]? = w8.heap[k]?) → w8.heap.size ≤ w''.heap.size → RS w'' pr L 0) := hkeep
            have HB8 : Hid (Below w7.heap.size w7 w8) := b8
            have hpr8 := hrs.lt
            have HO8 : Hid (Own w8 w6.heap.size (.slice ob n1 oc) L) := (HO.out.below b8)
            obtain ⟨oa, go, oc', heq, ho1, ho2, ho3, htz8⟩ := HO8.out.wr.tz
            have HTZ8 : Hid (TZ w6.heap.size w8 w8 go n1) := by show TZ _ _ _ _ _; rw [← HLN.out]; exact htz8
            injection heq with hq1 hq2 hq3
            clear hq2
            subst hq1 hq3
            have HOA : Hid (0 < n1 → ob = some ⟨go, 0, none⟩) := by show _ → _; rw [← HLN.out]; exact ho3
            have HGO : Hid (0 < n1 → go < w7.heap.size) := fun h => (World.ownsRow.lt HO.out go (by rw [HOA.out h]; rfl)).2
            have hoc1 : n1 ≤ oc := by have := HLN.out; omega
            unfold maxLen at ho2
            clear hrs b8 hkeep ho1 ho3 htz8
            go_wp2
            go_loopw [12] (fun i wr => ∃ (j : Nat), j ≤ n1 ∧ i = .int .i64 (j : Int) ∧ Hid (TZ w6.heap.size w8 wr go n1)) (fun i _ => n1 - (intOf i).toNat)
            case atStart => exact ⟨0, Nat.zero_le _, rfl, HTZ8⟩
            case round =>
              obtain ⟨j3, hj3, rfl, HT3⟩ := hrel
              by_cases hlt3 : j3 < n1
              · have hoa := HOA.out (by omega)
                subst hoa
                obtain ⟨c, hc, hf⟩ := HT3.out.get hlt3
                obtain ⟨d, hd⟩ := xor_byte c
                have HS : Hid _ := HT3.out.set hlt3 d
                go_wp2
                go_roundw
                case rel => exact ⟨j3 + 1, by omega, by go_num, HS⟩
                case measure => simp [intOf]; omega
              · rename World => w9
                have HB9 : Hid (Below w6.heap.size w6 w9) := (HB7.out.trans (HB8.out.mono HB7.out.size)).trans HT3.out.below
                have HB9w : Hid (Below w.heap.size w w9) := HB6w.out.trans (HB9.out.mono HB6w.out.size)
                have HB94 : Hid (Below w4.heap.size w4 w9) := HB6.out.trans (HB9.out.mono HB6.out.size)
                have HR9 : Hid (RS w9 pr L 0) := HK.out w9 (HT3.out.far HGO.out) (by rw [HT3.out.size]; exact Nat.le_refl _)
                have hpr4 : w4.heap.size ≤ pr := Nat.le_trans HB6.out.size (Nat.le_trans HB7.out.size hpr)
                have hprw : w.heap.size ≤ pr := Nat.le_trans HB.out.size hpr4
                have HL9 : Hid (RdX w9 (.slice a1 n1 c1) L) := HL.out.below HB9w.out
                have hPn : P.length ≤ 1000000000 := by have := HNP.out; omega
                cases L with
                | nil =>
                  have e0 : n1 = 0 := by have := HLN.out; simpa using this.symm
                  have e1 : ¬ (0 < (n1 : Int)) := by omega
                  have e2 : ((n1 : Int) == 0) = true := by simp [e0]
                  have e3 : ¬ 0 < n1 := by omega
                  clear e0
                  go_wp2_with fail
                  refine (ruint_any pr 0 [] w9 HR9.out).mono ?_
                  intro e w10 hp
                  obtain ⟨rfl, h2, h3, h4⟩ := hp
                  obtain ⟨r9, hr9⟩ : ∃ r9 : Nat, (uR [] 0).1 = r9 := ⟨_, rfl⟩
                  rw [hr9]
                  clear hr9
                  have HB10 : Hid (Below w.heap.size w w10) := HB9w.out.trans (h3.mono hprw)
                  skip
                  have HW10 : Hid (WS w10 pb P) := HW.out.below (HB94.out.trans (h3.mono hpr4))
                  clear h2 h3 h4
                  go_wp2_with fail
                  refine (bytes_any pb P _ hPn HW10.out).mono ?_
                  rintro e w11 ⟨v11, rfl, r11, b11⟩
                  have cv11 := r11.str
                  have B11 : Hid (Below w.heap.size w w11) := HB10.out.trans (b11.mono HB10.out.size)
                  obtain ⟨a11, c11, rfl⟩ := rd_slice r11
                  clear r11 b11
                  go_wp2_with fail
                  refine (alive_any _).mono ?_
                  rintro e w12 ⟨rfl, b12⟩
                  have BF : Hid (Below w.heap.size w w12) := B11.out.trans (b12.mono B11.out.size)
                  clear b12
                  go_wp2
                  go_ret
                  exact ⟨rfl, BF.out⟩
                | cons c R =>
                  obtain ⟨xb, xo, rfl, hx0⟩ : ∃ xb xo, a1 = some ⟨xb, xo, none⟩ ∧ w9.cell? ⟨xb, xo, none⟩ = some (.int .u8 (c.toNat : Int)) := by
                    rcases HL9.out with ⟨_, h⟩ | ⟨y, cy, h, _, _, h4⟩
                    · cases h
                    · injection h with h _ _
                      have := h4 0 (by simp)
                      obtain ⟨yb, yo, ys⟩ := y
                      have hsp : ys = none := by simpa [Addr.add] using World.cell?_spot this
                      subst hsp
                      exact ⟨yb, yo, h, by simpa [Addr.add] using this⟩
                  have hn0 : 0 < n1 := by have := HLN.out; simp at this; omega
                  have hc255 := c.toNat_lt
                  by_cases hc8 : 128 ≤ c.toNat
                  · go_wp2_with fail
                    refine (ruint_any pr 0 (c :: R) w9 HR9.out).mono ?_
                    intro e w10 hp
                    obtain ⟨rfl, h2, h3, h4⟩ := hp
                    obtain ⟨r9, hr9⟩ : ∃ r9 : Nat, (uR (c :: R) 0).1 = r9 := ⟨_, rfl⟩
                    rw [hr9]
                    clear hr9
                    have HB10 : Hid (Below w.heap.size w w10) := HB9w.out.trans (h3.mono hprw)
                    skip
                    have HW10 : Hid (WS w10 pb P) := HW.out.below (HB94.out.trans (h3.mono hpr4))
                    clear h2 h3 h4
                    go_wp2_with fail
                    refine (bytes_any pb P _ hPn HW10.out).mono ?_
                    rintro e w11 ⟨v11, rfl, r11, b11⟩
                    have cv11 := r11.str
                    have B11 : Hid (Below w.heap.size w w11) := HB10.out.trans (b11.mono HB10.out.size)
                    obtain ⟨a11, c11, rfl⟩ := rd_slice r11
                    clear r11 b11
                    go_wp2_with fail
                    refine (alive_any _).mono ?_
                    rintro e w12 ⟨rfl, b12⟩
                    have BF : Hid (Below w.heap.size w w12) := B11.out.trans (b12.mono B11.out.size)
                    clear b12
                    go_wp2
                    go_ret
                    exact ⟨rfl, BF.out⟩
                  · have HUL : Hid ((uR (c :: R) 0).1 = c.toNat) := by show _ = _; rw [uR_low c R (by omega)]
                    go_wp2_with fail
                    refine (ruint_any pr 0 (c :: R) w9 HR9.out).mono ?_
                    intro e w10 hp
                    obtain ⟨rfl, h2, h3, h4⟩ := hp
                    rw [HUL.out]
                    have HB10 : Hid (Below w.heap.size w w10) := HB9w.out.trans (h3.mono hprw)
                    skip
                    have HW10 : Hid (WS w10 pb P) := HW.out.below (HB94.out.trans (h3.mono hpr4))
                    clear h2 h3 h4
                    go_wp2_with fail
                    refine (bytes_any pb P _ hPn HW10.out).mono ?_
                    rintro e w11 ⟨v11, rfl, r11, b11⟩
                    have cv11 := r11.str
                    have B11 : Hid (Below w.heap.size w w11) := HB10.out.trans (b11.mono HB10.out.size)
                    obtain ⟨a11, c11, rfl⟩ := rd_slice r11
                    clear r11 b11
                    go_wp2_with fail
                    refine (alive_any _).mono ?_
                    rintro e w12 ⟨rfl, b12⟩
                    have BF : Hid (Below w.heap.size w w12) := B11.out.trans (b12.mono B11.out.size)
                    clear b12
                    go_wp2
                    go_ret
                    exact ⟨rfl, BF.out⟩
end Go.Proofs.Ytjdcoiekbnefkac
