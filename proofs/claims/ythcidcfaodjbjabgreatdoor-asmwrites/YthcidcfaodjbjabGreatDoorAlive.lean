/- The chapter's first example is read as it says. -/
import Derived.Test.YthcidcfaodjbjabGreatDoorPar
namespace Go.Proofs.YthcidcfaodjbjabGreatDoor
open Go.RowKit
set_option linter.unusedVariables false

def txt1 : ByteArray := ⟨#[99, 111, 110, 115, 116, 32, 114, 51, 32, 53, 10, 108, 49, 58, 10, 101, 109, 105, 116, 32, 114, 51, 10, 111, 116, 104, 101, 114, 32, 114, 51, 32, 108, 49, 10, 104, 97, 108, 116, 10]⟩
def txt2 : ByteArray := ⟨#[106, 117, 109, 112, 32, 121, 10, 104, 97, 108, 116]⟩
set_option maxRecDepth 1000000 in
theorem read1 : parseA txt1.data.toList 0 = ([⟨2, 0, 3, 0, 0, 5⟩, ⟨9, 0, 3, 0, 0, 0⟩, ⟨12, 0, 3, 0, 0, 1⟩, ⟨1, 0, 0, 0, 0, 0⟩], 0, 0) := by kernel_rfl
set_option maxRecDepth 1000000 in
theorem read2 : parseA txt2.data.toList 0 = ([], 1, 91) := by kernel_rfl

set_option maxRecDepth 100000 in
set_option maxHeartbeats 2000000 in
theorem alive_any (m : Int) (w : World) (hm : w.cell? ⟨0, 0, none⟩ = some (.int .i64 m)) : Calls Tryz.prog 6 #[] w fun e w' => e = .returned (.bool true) ∧ Below w.heap.size w w' := by
  have hm0 : 0 < w.heap.size := World.block_lt_of_cell? w ⟨0, 0, none⟩ hm
  have P1 : Hid (Calls Tryz.prog 19 #[.string txt1, .int .i64 0] w (ParseP w ([⟨2, 0, 3, 0, 0, 5⟩, ⟨9, 0, 3, 0, 0, 0⟩, ⟨12, 0, 3, 0, 0, 1⟩, ⟨1, 0, 0, 0, 0, 0⟩], 0, 0))) := by rw [← read1]; exact parse_list txt1 (by unfold maxLen; decide) 0 m w hm
  have P2 : Hid (∀ W, W.cell? ⟨0, 0, none⟩ = some (.int .i64 m) → Calls Tryz.prog 19 #[.string txt2, .int .i64 0] W (ParseP W ([], 1, 91))) := fun W hW => by rw [← read2]; exact parse_list txt2 (by unfold maxLen; decide) 0 m W hW
  have HE : ∀ W, (binOp .eql 41 (.agg #[.int .i64 12, .int .i64 0, .int .i64 3, .int .i64 0, .int .i64 0, .int .i64 1]) (.agg #[.int .i64 12, .int .i64 0, .int .i64 3, .int .i64 0, .int .i64 0, .int .i64 1])).run Tryz.prog W = .ok (.bool true) W := fun W => eql_in ⟨12, 0, 3, 0, 0, 1⟩ ⟨12, 0, 3, 0, 0, 1⟩ W
  have hg := guard25
  unfold txt1 at P1
  unfold txt2 at P2
  go_enter Tryz.func6, Tryz.ntmps6
  go_wp2_with fail
  refine P1.out.mono ?_
  rintro e w1 ⟨v, rfl, ho, hb⟩
  have HB1 : Hid (Below w.heap.size w w1) := hb
  have hm1 : w1.cell? ⟨0, 0, none⟩ = some (.int .i64 m) := (hb.cell (p := ⟨0, 0, none⟩) hm0).trans hm
  obtain ⟨ad, cap, b, o, rfl, h2, h3, h4, h5⟩ := ho.isl
  rw [h4 (by decide)]
  have i2 := h5 2 (by decide)
  have HI2 : Hid (IAt w1 b (o + 2 * 6) ⟨12, 0, 3, 0, 0, 1⟩) := i2
  have h2' : 4 ≤ cap := h2
  unfold maxLen at h3
  clear ho hb h4 h5 i2 h2
  go_wp2_with fail
  refine (P2.out w1 hm1).mono ?_
  rintro e w2 ⟨v2, rfl, ho2, hb2⟩
  have HB2 : Hid (Below w.heap.size w w2) := HB1.out.trans (hb2.mono HB1.out.size)
  obtain ⟨y0, y1, y2, y3, y4, y5⟩ := HI2.out.block (hb2.block b HI2.out.lt)
  clear hb2 ho2
  go_wp2
  go_ret
  exact ⟨rfl, HB2.out⟩
end Go.Proofs.YthcidcfaodjbjabGreatDoor
