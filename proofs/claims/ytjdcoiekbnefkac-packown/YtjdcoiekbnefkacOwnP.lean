/- Memory that is answered is new: it may be turned, and nothing else turns with it. -/
import Derived.Test.YtjdcoiekbnefkacWhole
import Derived.Test.YtjdcoiekbnefkacItems
import Derived.Test.YtjdcoiekbnefkacBlock
namespace Go.Proofs.Ytjdcoiekbnefkac
open Go.RowKit
set_option linter.unusedVariables false

/-- new bytes that may be written, in a block from B on -/
def Wr (w : World) (B : Nat) (v : Value) (L : List UInt8) : Prop :=
  (v = .slice none 0 0 ∧ L = []) ∨ ∃ g cap, v = .slice (some ⟨g, 0, none⟩) L.length cap ∧ L.length ≤ cap ∧ cap ≤ maxLen ∧ B ≤ g ∧ g < w.heap.size ∧ (∃ cur, w.heap[g]? = some (.cells cur 5 (0, 0))) ∧ ∀ i (h : i < L.length), w.cell? ⟨g, i, none⟩ = some (.int .u8 (L[i].toNat : Int))
theorem Own.wr {w : World} {base : Nat} {v : Value} {L : List UInt8} (h : Own w base v L) : Wr w base v L := by
  have hlt := World.ownsRow.lt h
  have hrd := h.rd
  obtain ⟨h1, h2⟩ := h
  rcases h2 with ⟨h2, h3⟩ | ⟨g, cap, cur, e1, e2, e3, e4, e5, e6, e7⟩
  · exact Or.inl ⟨h2, List.eq_nil_of_length_eq_zero h3⟩
  · right
    refine ⟨g, cap, e1, e4, e5, e2, (hlt g (by rw [e1]; rfl)).2, ⟨cur, e3⟩, ?_⟩
    rcases hrd with ⟨q, _⟩ | ⟨b, off, cap', q, _, _, _, q4⟩
    · rw [e1] at q; cases q
    · rw [e1] at q
      injection q with q1 q2 q3
      injection q1 with q1
      injection q1 with qa qb qc
      subst qa qb
      intro i hi
      have := q4 i hi
      rw [Nat.zero_add] at this
      exact this
theorem Wr.rd {w : World} {B : Nat} {v : Value} {L : List UInt8} (h : Wr w B v L) : Rd w v L := by
  rcases h with h | ⟨g, cap, e1, e2, e3, e4, e5, e6, e7⟩
  · exact Or.inl h
  · exact Or.inr ⟨g, 0, cap, e1, e2, e3, e5, fun i hi => by rw [Nat.zero_add]; exact e7 i hi⟩

/-- bytes that are being turned: only their block, and they stay bytes -/
def TB (w w' : World) (g n : Nat) : Prop := Only w w' g ∧ (∃ cur, w'.heap[g]? = some (.cells cur 5 (0, 0))) ∧ ∀ i, i < n → ∃ c : UInt8, w'.cell? ⟨g, i, none⟩ = some (.int .u8 (c.toNat : Int))
theorem TB.start {w : World} {g n : Nat} {L : List UInt8} (hn : L.length = n) (h1 : ∃ cur, w.heap[g]? = some (.cells cur 5 (0, 0))) (h2 : ∀ i (h : i < L.length), w.cell? ⟨g, i, none⟩ = some (.int .u8 (L[i].toNat : Int))) : TB w w g n :=
  ⟨Only.refl _ _, h1, fun i hi => ⟨L[i]'(by omega), h2 i (by omega)⟩⟩
theorem TB.frozen {w w' : World} {g n : Nat} (h : TB w w' g n) (p : Nat) : w'.frozen? ⟨g, p, none⟩ = false := by
  obtain ⟨_, ⟨cur, h⟩, _⟩ := h
  unfold World.frozen?
  simp only [h]
  simp
theorem TB.set {w w' : World} {g n : Nat} (h : TB w w' g n) (p : Nat) (hp : p < n) (c : UInt8) : TB w (w'.setCell ⟨g, p, none⟩ (.int .u8 (c.toNat : Int))) g n := by
  obtain ⟨h1, ⟨cur, h2⟩, h3⟩ := h
  refine ⟨h1.set p _, ⟨cur.setIfInBounds p (.int .u8 (c.toNat : Int)), ?_⟩, fun i hi => ?_⟩
  · simp only [World.setCell, Array.getElem?_modify, if_true, h2]
    simp
  · by_cases e : i = p
    · subst e
      obtain ⟨d, hd⟩ := h3 i hi
      exact ⟨c, World.cell?_setCell_same w' _ _ hd⟩
    · obtain ⟨d, hd⟩ := h3 i hi
      exact ⟨d, by rw [World.cell?_setCell_other w' _ _ _ (by intro q; injection q with _ q _; exact e q.symm)]; exact hd⟩
theorem xor_byte (c : UInt8) : ∃ d : UInt8, bits .xor .u8 (c.toNat : Int) 255 = (d.toNat : Int) := by
  have h : 0 ≤ bits .xor .u8 (c.toNat : Int) 255 ∧ bits .xor .u8 (c.toNat : Int) 255 < 256 := by
    show 0 ≤ IntKind.u8.wrap ((BitVec.ofInt 8 (c.toNat : Int) ^^^ BitVec.ofInt 8 255).toNat : Int) ∧ IntKind.u8.wrap ((BitVec.ofInt 8 (c.toNat : Int) ^^^ BitVec.ofInt 8 255).toNat : Int) < 256
    rw [IntKind.wrap_u8]
    omega
  refine ⟨UInt8.ofNat (bits .xor .u8 (c.toNat : Int) 255).toNat, ?_⟩
  simp [UInt8.toNat_ofNat']
  omega

/-- the bytes that are answered are new -/
def NewB (w : World) (L : List UInt8) (e : Ending) (w' : World) : Prop := ∃ v', e = .returned v' ∧ Wr w' w.heap.size v' L ∧ Below w.heap.size w w'
set_option maxHeartbeats 1000000 in
theorem bytes_new (pb : Nat) (L : List UInt8) (w : World) (hL : L.length ≤ 1000000000) (hw : WS w pb L) :
    Calls Try.prog 24 #[.pointer (some ⟨pb, 0, none⟩)] w fun e w' => NewB w L e w' := by
  obtain ⟨v, c0, f0, o0, p0⟩ := hw
  have HO : Hid (Own w (pb + 1) v L) := o0
  have hfit : ∃ a n c, v = .slice a n c := by
    rcases o0.2 with ⟨h, _⟩ | ⟨g, cap, cur, h, _⟩
    · exact ⟨_, _, _, h⟩
    · exact ⟨_, _, _, h⟩
  obtain ⟨a, n, c, rfl⟩ := hfit
  clear o0
  go_enter Try.func24, Try.ntmps24
  go_wp2_with fail
  refine (clone_any _ L w hL HO.out.rd).mono ?_
  rintro e w1 ⟨v1, rfl, h1, h2⟩
  have H2 : Hid (Below w.heap.size w w1) := h2
  rcases h1.wr with ⟨rfl, hn⟩ | ⟨g, cap, rfl, e1, e2, e3, e4, e5, e6⟩
  · have HN : Hid (L = []) := hn
    clear h1 h2 hn
    go_wp2_with fail
    refine (from_nil w1).mono ?_
    rintro e w2 ⟨rfl, rfl⟩
    go_wp2
    go_ret
    exact ⟨_, rfl, Or.inl ⟨rfl, HN.out⟩, H2.out⟩
  · have HW : Hid (Wr w1 w.heap.size (.slice (some ⟨g, 0, none⟩) L.length L.length) L) := Or.inr ⟨g, L.length, rfl, Nat.le_refl _, by omega, e3, e4, e5, e6⟩
    obtain ⟨n1, hn1⟩ : ∃ n1, L.length = n1 := ⟨_, rfl⟩
    have HN1 : Hid (L.length = n1) := hn1
    have HF : Hid (Calls Try.prog 46 #[.slice (some ⟨g, 0, none⟩) n1 cap, .int .i64 0] w1 fun e w' => e = .returned (.slice (some ⟨g, 0, none⟩) n1 n1) ∧ w' = w1) := by
      have h := from_some g 0 n1 cap 0 w1 (Nat.zero_le _) (by omega) e2
      refine h.mono ?_
      rintro e w' ⟨rfl, rfl⟩
      refine ⟨?_, rfl⟩
      split <;> simp
    clear h1 h2 e5 e6
    rw [hn1] at e1 ⊢
    clear hn1
    go_wp2_with fail
    refine HF.out.mono ?_
    rintro e w2 ⟨rfl, rfl⟩
    go_wp2
    go_ret
    exact ⟨_, rfl, by rw [← HN1.out]; exact HW.out, H2.out⟩

/-- a reader's bytes are its own: what is turned ahead of them turns nothing in it -/
def ReadNew (w : World) (L : List UInt8) (e : Ending) (w' : World) : Prop := ∃ pb, e = .returned (.pointer (some ⟨pb, 0, none⟩)) ∧ w.heap.size ≤ pb ∧ RS w' pb L 0 ∧ Below w.heap.size w w' ∧ ∀ w'', (∀ k, w.heap.size ≤ k → w''.heap[k]? = w'.heap[k]?) → w'.heap.size ≤ w''.heap.size → RS w'' pb L 0
set_option maxHeartbeats 1000000 in
theorem read_new (v : Value) (L : List UInt8) (w : World) (hL : L.length ≤ 1000000000) (h : Rd w v L) :
    Calls Try.prog 9 #[v] w fun e w' => ReadNew w L e w' := by
  have HR : Hid (Rd w v L) := h
  obtain ⟨a, c, rfl⟩ : ∃ a c, v = .slice a L.length c := by
    rcases h with ⟨rfl, rfl⟩ | ⟨b, off, cap, rfl, _⟩
    · exact ⟨_, _, rfl⟩
    · exact ⟨_, _, rfl⟩
  clear h
  go_enter Try.func9, Try.ntmps9
  go_wp2_with fail
  refine (clone_any _ L w hL HR.out).mono ?_
  rintro e w1 ⟨v1, rfl, o1, b1⟩
  have O1 : Hid (Wr w1 w.heap.size v1 L) := o1.wr
  have B1 : Hid (Below w.heap.size w w1) := b1
  obtain ⟨a1, n1, c1, rfl⟩ : ∃ a n c, v1 = .slice a n c := by
    rcases o1.2 with ⟨h, _⟩ | ⟨g, cap, cur, h, _⟩
    · exact ⟨_, _, _, h⟩
    · exact ⟨_, _, _, h⟩
  clear o1 b1
  go_wp2
  go_ret
  have key : ∀ w'', (∀ k, w.heap.size ≤ k → w''.heap[k]? = (w1.alloc (.cells #[.slice a1 n1 c1, .int .i64 0] 58)).heap[k]?) → (w1.alloc (.cells #[.slice a1 n1 c1, .int .i64 0] 58)).heap.size ≤ w''.heap.size → RS w'' w1.heap.size L 0 := by
    intro w'' hk hs
    have hb := hk w1.heap.size B1.out.size
    have hs' : w1.heap.size < w''.heap.size := by simp at hs; omega
    refine ⟨.slice a1 n1 c1, (World.cell?_of_block (a := ⟨w1.heap.size, 0, none⟩) hb).trans (by simp), (World.cell?_of_block (a := ⟨w1.heap.size, 1, none⟩) hb).trans (by simp), (World.frozen?_of_block (a := ⟨w1.heap.size, 0, none⟩) hb).trans (by simp), (World.frozen?_of_block (a := ⟨w1.heap.size, 1, none⟩) hb).trans (by simp), hs', ?_⟩
    rcases O1.out with h9 | ⟨g, cap, e1, e2, e3, e4, e5, e6, e7⟩
    · exact Or.inl h9
    · refine Or.inr ⟨g, 0, cap, e1, e2, e3, by omega, e5, fun i hi => ?_⟩
      rw [Nat.zero_add]
      refine (World.cell?_of_block (a := ⟨g, i, none⟩) (hk g e4)).trans ?_
      rw [World.cell?_alloc_lt]
      · exact e7 i hi
      · exact e5
  exact ⟨w1.heap.size, rfl, B1.out.size, key _ (fun _ _ => rfl) (Nat.le_refl _), B1.out.alloc B1.out.size _, key⟩
end Go.Proofs.Ytjdcoiekbnefkac
