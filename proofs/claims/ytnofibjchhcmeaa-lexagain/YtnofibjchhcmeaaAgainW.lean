/- The walk of LexAgain. -/
import Derived.Test.YtnofibjchhcmeaaAgainQ
namespace Go.Proofs.Ytnofibjchhcmeaa
open Go.RowKit Go.Maps
set_option linter.unusedVariables false

/-- a text that is not cut -/
theorem again_err (s : ByteArray) (hs : s.size ≤ maxLen) (k : Nat) (er : Int) (hc : cut s.data.toList = .err k er) (wa : Option Addr) (n wc : Nat) (w : World) :
    Calls Try.prog 6 #[.string s, .slice wa n wc] w fun e w' => e = .returned (.bool true) ∧ Below w.heap.size w w' := by
  have hne := (cut_err2 _ _ _ hc).1
  have hne' : (er == 0) = false := by simpa using hne
  have HC : Hid (cut s.data.toList = .err k er) := hc
  clear hc
  go_enter Try.func6, Try.ntmps6
  go_wp2_with fail
  refine (cut_any s w hs).mono ?_
  rw [HC.out]
  rintro e w1 ⟨rfl, hb1⟩
  have HB1 : Hid (Below w.heap.size w w1) := hb1
  clear hb1
  go_wp2_with fail
  refine (alive_any _).mono ?_
  rintro e w4 ⟨rfl, hb4⟩
  have HB4 : Hid (Below w.heap.size w w4) := HB1.out.trans (hb4.mono HB1.out.size)
  clear hb4
  go_wp2
  go_ret
  exact ⟨rfl, HB4.out⟩

/-- the gaps as they lie -/
def GRow (w : World) (gg : Nat) : Prop := ∀ j, j < 5 → w.cell? ⟨gg, j, none⟩ = some (.string ⟨(gapsL.getD j [32]).toArray⟩)
theorem GRow.new (w : World) : GRow (w.alloc (.cells #[.string ⟨#[32]⟩, .string ⟨#[10]⟩, .string ⟨#[35, 32, 97, 32, 39, 32, 36, 32, 55, 97, 10]⟩, .string ⟨#[9, 13, 10]⟩, .string ⟨#[32, 32]⟩] 9)) w.heap.size := by
  intro j hj
  match j, hj with
  | 0, _ => simp [gapsL]
  | 1, _ => simp [gapsL]
  | 2, _ => simp [gapsL]
  | 3, _ => simp [gapsL]
  | 4, _ => simp [gapsL]
theorem GRow.below {w w' : World} {gg : Nat} (h : GRow w gg) (hg : gg < w.heap.size) (hb : Below w.heap.size w w') : GRow w' gg := fun j hj => (hb.cell (p := ⟨gg, j, none⟩) hg).trans (h j hj)

theorem addr_block (a : Addr) (i : Nat) : (a.add i).block = a.block := by unfold Addr.add; split <;> rfl
/-- the row of tokens as it lies -/
def TAt (w : World) (g : Nat) (l : List Tok) : Prop := ∀ i (hi : i < l.length), w.cell? ⟨g, i * 4, none⟩ = some (.int .i64 l[i].kind) ∧ w.cell? ⟨g, i * 4 + 1, none⟩ = some (.string ⟨l[i].text.toArray⟩) ∧ w.cell? ⟨g, i * 4 + 2, none⟩ = some (.int .i64 l[i].num) ∧ w.cell? ⟨g, i * 4 + 3, none⟩ = some (.int .i64 (l[i].pos : Int))
theorem TAt.below {w w' : World} {g : Nat} {l : List Tok} (h : TAt w g l) (hg : g < w.heap.size) (hb : Below w.heap.size w w') : TAt w' g l := fun i hi => by
  obtain ⟨c0, c1, c2, c3⟩ := h i hi
  exact ⟨(hb.cell (p := ⟨g, i * 4, none⟩) hg).trans c0, (hb.cell (p := ⟨g, i * 4 + 1, none⟩) hg).trans c1, (hb.cell (p := ⟨g, i * 4 + 2, none⟩) hg).trans c2, (hb.cell (p := ⟨g, i * 4 + 3, none⟩) hg).trans c3⟩
theorem same_at (m g1 c1 g2 c2 : Nat) (a b : List Tok) (w : World) (hal : alikes false a b) (ha : a.length = m) (hb : b.length = m) (hn1 : m ≤ c1) (hn2 : m ≤ c2) (hm1 : c1 ≤ maxLen) (hm2 : c2 ≤ maxLen) (hg1 : g1 < w.heap.size) (hg2 : g2 < w.heap.size) (h1 : TAt w g1 a) (h2 : TAt w g2 b) :
    Calls Try.prog 10 #[.slice (some ⟨g1, 0, none⟩) m c1, .slice (some ⟨g2, 0, none⟩) m c2, .bool false] w fun e w' => e = .returned (.bool true) ∧ Below w.heap.size w w' := by
  have h := same_some false g1 0 c1 g2 0 c2 a b w hal (by omega) (by omega) hm1 hm2 hg1 hg2 (fun i hi => by rw [Nat.zero_add]; exact h1 i hi) (fun i hi => by rw [Nat.zero_add]; exact h2 i hi)
  rw [ha, hb] at h
  exact h

end Go.Proofs.Ytnofibjchhcmeaa
