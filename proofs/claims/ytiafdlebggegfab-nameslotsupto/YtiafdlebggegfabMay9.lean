/- The document's may answers something, of a statement of the kind 9. -/
import Derived.Test.YtiafdlebggegfabMayB
namespace Go.Proofs.Ytiafdlebggegfab
open Go.RowKit Go.Maps Go.WideMaps
set_option linter.unusedVariables false

set_option maxRecDepth 100000 in
set_option maxHeartbeats 8000000 in
theorem may_9 (M : Nat) (HI : Hid (MayC M)) (hM : M ≤ 1000000000) (a : EL) (b e : SL) (hN : a.cnt + b.cnt + e.cnt < M + 1) (s : ByteArray) (c : Int) (aa ab ae : Option Addr) (ca cb ce : Nat) (bl : Int) (w : World) (hs : s.size ≤ maxLen) (hb0 : 0 ≤ bl) (hb1 : bl ≤ 12) (hA : ESl w (.slice aa a.len ca) a) (hB : SSl w (.slice ab b.len cb) b) (hE : SSl w (.slice ae e.len ce) e) : SaysB 15 #[sV 9 s c (.slice aa a.len ca) (.slice ab b.len cb) (.slice ae e.len ce), .int .i64 bl] w := by
  obtain ⟨aa', ca', ba, oa, e0, h1, h2, h3, h4⟩ := hA
  cases e0
  obtain ⟨ab', cb', bb, ob, e0, b1, b2, b3, b4⟩ := hB
  cases e0
  obtain ⟨ae', ce', be, oe, e0, e1, e2, e3, e4⟩ := hE
  cases e0
  have HA0 : Hid (EAt w a ba oa) := h4
  have HB0 : Hid (SAt w b bb ob) := b4
  have HE0 : Hid (SAt w e be oe) := e4
  obtain ⟨na, hna⟩ : ∃ m, a.len = m := ⟨_, rfl⟩
  have HLA : Hid (a.len = na) := hna
  obtain ⟨nb, hnb⟩ : ∃ m, b.len = m := ⟨_, rfl⟩
  have HLB : Hid (b.len = nb) := hnb
  obtain ⟨ne, hne⟩ : ∃ m, e.len = m := ⟨_, rfl⟩
  have HLE : Hid (e.len = ne) := hne
  have g1 : na ≤ 1000000000 := by have := a.len_le; omega
  have g2 : nb ≤ 1000000000 := by have := b.len_le; omega
  have g3 : ne ≤ 1000000000 := by have := e.len_le; omega
  have HCA : Hid (a.cnt ≤ 1000000000) := by show _ ≤ _; omega
  have HCB : Hid (b.cnt < M + 1) := by show _ < _; omega
  have HCE : Hid (e.cnt < M + 1) := by show _ < _; omega
  rw [hna] at h1 h3 ⊢
  rw [hnb] at b1 b3 ⊢
  rw [hne] at e1 e3 ⊢
  clear h4 b4 e4 hna hnb hne hN
  unfold maxLen at h2 b2 e2
  unfold sV SaysB
  have HBX : Hid (∀ o, Below w.heap.size w (w.alloc o)) := fun o => (Below.refl _ _).alloc (Nat.le_refl _) o
  have HB2 : Hid (∀ o o', Below w.heap.size w ((w.alloc o).alloc o')) := fun o o' => ((Below.refl _ _).alloc (Nat.le_refl _) o).alloc (by simp) o'
  have HBq : Hid (∀ o o' n, Below w.heap.size w (((w.alloc o).alloc o').drewN n)) := fun o o' n => below_drewN (HB2.out o o') n
  by_cases cs : s = ⟨#[]⟩
  case neg =>
    have cs' : ([] == s.toList) = false := by rw [beq_eq_false_iff_ne]; intro h; exact cs (ba_of s [] h.symm)
    have cs2 : ([] != s.toList) = true := by simpa using cs'
    have HL : Hid (∀ o', Below (w.heap.size + 1) (w.alloc (.cells #[.int .i64 9, .string s, .int .i64 c, .slice aa na ca, .slice ab nb cb, .slice ae ne ce] 43)) ((w.alloc (.cells #[.int .i64 9, .string s, .int .i64 c, .slice aa na ca, .slice ab nb cb, .slice ae ne ce] 43)).alloc o')) := fun o' => (Below.refl _ _).alloc (by simp) o'
    have HLq : Hid (∀ o' n, Below (w.heap.size + 1) (w.alloc (.cells #[.int .i64 9, .string s, .int .i64 c, .slice aa na ca, .slice ab nb cb, .slice ae ne ce] 43)) (((w.alloc (.cells #[.int .i64 9, .string s, .int .i64 c, .slice aa na ca, .slice ab nb cb, .slice ae ne ce] 43)).alloc o').drewN n)) := fun o' n => below_drewN (HL.out o') n
    go_enter Try.func15, Try.ntmps15
    go_wp2_with fail
    all_goals (go_ret; first | exact ⟨_, rfl, HB2.out _ _⟩ | exact ⟨rfl, HB2.out _ _⟩ | exact HB2.out _ _)
  subst cs
  by_cases cc : c = 0
  case neg =>
    have cc' : (0 != c) = true := by simpa using fun h => cc h.symm
    have HL : Hid (∀ o', Below (w.heap.size + 1) (w.alloc (.cells #[.int .i64 9, .string ⟨#[]⟩, .int .i64 c, .slice aa na ca, .slice ab nb cb, .slice ae ne ce] 43)) ((w.alloc (.cells #[.int .i64 9, .string ⟨#[]⟩, .int .i64 c, .slice aa na ca, .slice ab nb cb, .slice ae ne ce] 43)).alloc o')) := fun o' => (Below.refl _ _).alloc (by simp) o'
    have HLq : Hid (∀ o' n, Below (w.heap.size + 1) (w.alloc (.cells #[.int .i64 9, .string ⟨#[]⟩, .int .i64 c, .slice aa na ca, .slice ab nb cb, .slice ae ne ce] 43)) (((w.alloc (.cells #[.int .i64 9, .string ⟨#[]⟩, .int .i64 c, .slice aa na ca, .slice ab nb cb, .slice ae ne ce] 43)).alloc o').drewN n)) := fun o' n => below_drewN (HL.out o') n
    go_enter Try.func15, Try.ntmps15
    go_wp2_with fail
    all_goals (go_ret; first | exact ⟨_, rfl, HB2.out _ _⟩ | exact ⟨rfl, HB2.out _ _⟩ | exact HB2.out _ _)
  subst cc
  by_cases cm : na = 0
  case neg =>
    have cm' : ((na : Int) == 0) = false := by simp; omega
    have cm2 : ((na : Int) != 0) = true := by simp; omega
    have HL : Hid (∀ o', Below (w.heap.size + 1) (w.alloc (.cells #[.int .i64 9, .string ⟨#[]⟩, .int .i64 0, .slice aa na ca, .slice ab nb cb, .slice ae ne ce] 43)) ((w.alloc (.cells #[.int .i64 9, .string ⟨#[]⟩, .int .i64 0, .slice aa na ca, .slice ab nb cb, .slice ae ne ce] 43)).alloc o')) := fun o' => (Below.refl _ _).alloc (by simp) o'
    have HLq : Hid (∀ o' n, Below (w.heap.size + 1) (w.alloc (.cells #[.int .i64 9, .string ⟨#[]⟩, .int .i64 0, .slice aa na ca, .slice ab nb cb, .slice ae ne ce] 43)) (((w.alloc (.cells #[.int .i64 9, .string ⟨#[]⟩, .int .i64 0, .slice aa na ca, .slice ab nb cb, .slice ae ne ce] 43)).alloc o').drewN n)) := fun o' n => below_drewN (HL.out o') n
    go_enter Try.func15, Try.ntmps15
    go_wp2_with fail
    all_goals (go_ret; first | exact ⟨_, rfl, HB2.out _ _⟩ | exact ⟨rfl, HB2.out _ _⟩ | exact HB2.out _ _)
  subst cm
  by_cases cb0 : nb = 0
  case neg =>
    have cb' : ((nb : Int) == 0) = false := by simp; omega
    have cb2 : ((nb : Int) != 0) = true := by simp; omega
    have HL : Hid (∀ o', Below (w.heap.size + 1) (w.alloc (.cells #[.int .i64 9, .string ⟨#[]⟩, .int .i64 0, .slice aa 0 ca, .slice ab nb cb, .slice ae ne ce] 43)) ((w.alloc (.cells #[.int .i64 9, .string ⟨#[]⟩, .int .i64 0, .slice aa 0 ca, .slice ab nb cb, .slice ae ne ce] 43)).alloc o')) := fun o' => (Below.refl _ _).alloc (by simp) o'
    have HLq : Hid (∀ o' n, Below (w.heap.size + 1) (w.alloc (.cells #[.int .i64 9, .string ⟨#[]⟩, .int .i64 0, .slice aa 0 ca, .slice ab nb cb, .slice ae ne ce] 43)) (((w.alloc (.cells #[.int .i64 9, .string ⟨#[]⟩, .int .i64 0, .slice aa 0 ca, .slice ab nb cb, .slice ae ne ce] 43)).alloc o').drewN n)) := fun o' n => below_drewN (HL.out o') n
    go_enter Try.func15, Try.ntmps15
    go_wp2_with fail
    all_goals (go_ret; first | exact ⟨_, rfl, HB2.out _ _⟩ | exact ⟨rfl, HB2.out _ _⟩ | exact HB2.out _ _)
  subst cb0
  by_cases ce0 : ne = 0
  case neg =>
    have ce' : ((ne : Int) == 0) = false := by simp; omega
    have ce2 : ((ne : Int) != 0) = true := by simp; omega
    have HL : Hid (∀ o', Below (w.heap.size + 1) (w.alloc (.cells #[.int .i64 9, .string ⟨#[]⟩, .int .i64 0, .slice aa 0 ca, .slice ab 0 cb, .slice ae ne ce] 43)) ((w.alloc (.cells #[.int .i64 9, .string ⟨#[]⟩, .int .i64 0, .slice aa 0 ca, .slice ab 0 cb, .slice ae ne ce] 43)).alloc o')) := fun o' => (Below.refl _ _).alloc (by simp) o'
    have HLq : Hid (∀ o' n, Below (w.heap.size + 1) (w.alloc (.cells #[.int .i64 9, .string ⟨#[]⟩, .int .i64 0, .slice aa 0 ca, .slice ab 0 cb, .slice ae ne ce] 43)) (((w.alloc (.cells #[.int .i64 9, .string ⟨#[]⟩, .int .i64 0, .slice aa 0 ca, .slice ab 0 cb, .slice ae ne ce] 43)).alloc o').drewN n)) := fun o' n => below_drewN (HL.out o') n
    go_enter Try.func15, Try.ntmps15
    go_wp2_with fail
    all_goals (go_ret; first | exact ⟨_, rfl, HB2.out _ _⟩ | exact ⟨rfl, HB2.out _ _⟩ | exact HB2.out _ _)
  subst ce0
  by_cases cbl : bl < 12
  all_goals
    have HL : Hid (∀ o', Below (w.heap.size + 1) (w.alloc (.cells #[.int .i64 9, .string ⟨#[]⟩, .int .i64 0, .slice aa 0 ca, .slice ab 0 cb, .slice ae 0 ce] 43)) ((w.alloc (.cells #[.int .i64 9, .string ⟨#[]⟩, .int .i64 0, .slice aa 0 ca, .slice ab 0 cb, .slice ae 0 ce] 43)).alloc o')) := fun o' => (Below.refl _ _).alloc (by simp) o'
    have HLq : Hid (∀ o' n, Below (w.heap.size + 1) (w.alloc (.cells #[.int .i64 9, .string ⟨#[]⟩, .int .i64 0, .slice aa 0 ca, .slice ab 0 cb, .slice ae 0 ce] 43)) (((w.alloc (.cells #[.int .i64 9, .string ⟨#[]⟩, .int .i64 0, .slice aa 0 ca, .slice ab 0 cb, .slice ae 0 ce] 43)).alloc o').drewN n)) := fun o' n => below_drewN (HL.out o') n
    go_enter Try.func15, Try.ntmps15
    go_wp2_with fail
    go_rounds 1
    go_wp2
    go_rounds 1
    go_wp2
    go_rounds 1
    go_ret
    first | exact ⟨_, rfl, HB2.out _ _⟩ | exact ⟨rfl, HB2.out _ _⟩ | exact HB2.out _ _

end Go.Proofs.Ytiafdlebggegfab
