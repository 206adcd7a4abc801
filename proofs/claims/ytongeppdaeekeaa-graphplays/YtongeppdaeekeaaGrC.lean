/- A graph in memory; what only reads it. -/
import Derived.Test.YtongeppdaeekeaaGrB
namespace Go.Proofs.Ytongeppdaeekeaa
open Go.RowKit Go.Maps
set_option linter.unusedVariables false

/-- edges that may be -/
structure OkE (room : Nat) (E : Ed) : Prop where
  srt : srtE E
  up : ∀ e ∈ E, 0 ≤ e.2 ∧ e.2 < e.1
  len : E.length ≤ room
  r1 : 1 ≤ room ∧ room ≤ 512
structure GV (w : World) (gb room : Nat) (ev : Value) (E : Ed) : Prop where
  bl : w.heap[gb]? = some (.cells #[.int .i64 (room : Int), ev] 131)
  rz : RZ kE w ev E
  ne : ev.ownBlock ≠ some gb
  ok : OkE room E
section
variable {w w' : World} {gb room : Nat} {ev : Value} {E : Ed}
theorem GV.lt (h : GV w gb room ev E) : gb < w.heap.size := (Array.getElem?_eq_some_iff.1 h.bl).1
theorem GV.below (h : GV w gb room ev E) (b : Below w.heap.size w w') : GV w' gb room ev E := ⟨(b.block gb h.lt).trans h.bl, h.rz.below b, h.ne, h.ok⟩
theorem GV.cell (h : GV w gb room ev E) : w.cell? ⟨gb, 0, none⟩ = some (.int .i64 (room : Int)) ∧ w.cell? ⟨gb, 1, none⟩ = some ev := ⟨by rw [cell_of_row w gb _ _ _ _ h.bl]; rfl, by rw [cell_of_row w gb _ _ _ _ h.bl]; rfl⟩
theorem GV.l512 (h : GV w gb room ev E) : E.length ≤ 512 := by have := h.ok.len; have := h.ok.r1; omega
set_option maxRecDepth 100000 in
set_option maxHeartbeats 4000000 in
theorem find_any (h : GV w gb room ev E) (x : Int × Int) : Calls Try.prog 72 #[.pointer (some ⟨gb, 0, none⟩), edA x] w (AN w (.tuple #[.int .i64 (plE E x : Int), .bool (hasE E x)])) := by
  obtain ⟨V, hV⟩ : ∃ V, w.alloc (.cells #[.int .i64 x.1, .int .i64 x.2] 90) = V := ⟨_, rfl⟩
  have HVV : Hid (w.alloc (.cells #[.int .i64 x.1, .int .i64 x.2] 90) = V) := hV
  obtain ⟨g, hg⟩ : ∃ g, w.heap.size = g := ⟨_, rfl⟩
  have HG : Hid (w.heap.size = g) := hg
  have hbv : Below w.heap.size w V := by rw [← hV]; exact bl1 w _
  have c1 : V.drew.cell? ⟨gb, 1, none⟩ = some ev := (h.below hbv).cell.2
  have e0 : V.heap[g]? = some (.cells #[.int .i64 x.1, .int .i64 x.2] 90) := by rw [← hV, ← hg]; exact heap_alloc_new _ _
  have x0 : V.drew.cell? ⟨g, 0, none⟩ = some (.int .i64 x.1) := by
    show V.cell? _ = _
    rw [cell_of_row V g _ _ _ _ e0]; rfl
  have x1 : V.drew.cell? ⟨g, 1, none⟩ = some (.int .i64 x.2) := by
    show V.cell? _ = _
    rw [cell_of_row V g _ _ _ _ e0]; rfl
  have HBS : Hid (Calls Try.prog 93 #[ev, .agg #[.int .i64 x.1, .int .i64 x.2], .func (.func 94) #[] #[]] V.drew (AN V.drew (.tuple #[.int .i64 (plE E x : Int), .bool (hasE E x)]))) := bs_any V.drew E ev ((h.rz.below hbv).rs.below (Below.refl _ _).drew) h.ok.srt (by have := h.l512; omega) x
  have HF : Hid (∀ W, Below V.heap.size V W → AN w (.tuple #[.int .i64 (plE E x : Int), .bool (hasE E x)]) (.returned (.tuple #[.int .i64 (plE E x : Int), .bool (hasE E x)])) W) := fun W hW => ⟨rfl, hbv.trans (hW.mono hbv.size)⟩
  obtain ⟨a, c, e⟩ := h.rz.sl
  subst e
  clear h hV hg hbv e0
  generalize AN w (.tuple #[.int .i64 (plE E x : Int), .bool (hasE E x)]) = P at *
  generalize plE E x = p at *
  generalize hasE E x = bb at *
  generalize E.length = n at *
  obtain ⟨y0, y1⟩ := x
  have hcC : ∀ W, Below V.heap.size V W → W.cell? ⟨gb, 1, none⟩ = some (.slice a n c) ∧ W.cell? ⟨g, 0, none⟩ = some (.int .i64 y0) ∧ W.cell? ⟨g, 1, none⟩ = some (.int .i64 y1) := fun W hW =>
    ⟨(hW.cell (p := ⟨gb, 1, none⟩) (World.block_lt_of_cell? V _ c1)).trans c1, (hW.cell (p := ⟨g, 0, none⟩) (World.block_lt_of_cell? V _ x0)).trans x0, (hW.cell (p := ⟨g, 1, none⟩) (World.block_lt_of_cell? V _ x1)).trans x1⟩
  have HC : Hid _ := hcC
  clear hcC c1 x0 x1
  unfold edA
  go_enter Try.func72, Try.ntmps72
  go_upto_region 1 with fail
  rw [HVV.out, HG.out]
  clear HVV HG
  have hSd := HC.out V.drew (Below.refl _ _).drew
  go_region_held3 (fun W => W.cell? ⟨gb, 1, none⟩ = some (.slice a n c) ∧ W.cell? ⟨g, 0, none⟩ = some (.int .i64 y0) ∧ W.cell? ⟨g, 1, none⟩ = some (.int .i64 y1))
    (first | with_reducible exact hSd | with_reducible exact hS3)
    (first
      | (go_at_call 93; refine HBS.out.mono ?_; rintro e w3 ⟨rfl, b3⟩
         have E3 : Below V.heap.size V w3 := (Below.refl _ V).drew.trans (b3.mono (Nat.le_refl _))
         have hS3 := HC.out w3 E3))
  have HR : Hid (P (.returned (.tuple #[.int .i64 (p : Int), .bool bb])) w3) := HF.out w3 E3
  clear hSd hS3 E3 b3
  go_wp2
  first | exact HR.out | (go_ret2; exact HR.out)
set_option maxRecDepth 100000 in
set_option maxHeartbeats 2000000 in
theorem ghas_any (h : GV w gb room ev E) (r wt : Int) : Calls Try.prog 29 #[.pointer (some ⟨gb, 0, none⟩), .int .i64 r, .int .i64 wt] w (AN w (.bool (hasE E (r, wt)))) := by
  have HFI : Hid (Calls Try.prog 72 #[.pointer (some ⟨gb, 0, none⟩), .agg #[.int .i64 r, .int .i64 wt]] w (AN w (.tuple #[.int .i64 (plE E (r, wt) : Int), .bool (hasE E (r, wt))]))) := find_any h (r, wt)
  have HF : Hid (∀ W, Below w.heap.size w W → AN w (.bool (hasE E (r, wt))) (.returned (.bool (hasE E (r, wt)))) W) := fun W hW => ⟨rfl, hW⟩
  clear h
  generalize AN w (.bool (hasE E (r, wt))) = P at *
  generalize plE E (r, wt) = p at *
  generalize hasE E (r, wt) = bb at *
  go_enter Try.func29, Try.ntmps29
  go_wp2_with fail
  refine HFI.out.mono ?_
  rintro e w3 ⟨rfl, b3⟩
  have HR : Hid (P (.returned (.bool bb)) w3) := HF.out w3 b3
  clear b3
  go_wp2
  first | exact HR.out | (go_ret; exact HR.out)
set_option maxRecDepth 100000 in
theorem glen_any (h : GV w gb room ev E) : Calls Try.prog 28 #[.pointer (some ⟨gb, 0, none⟩)] w (SameW w (.int .i64 (E.length : Int))) := by
  have c1 := h.cell.2
  have HF : Hid (SameW w (.int .i64 (E.length : Int)) (.returned (.int .i64 (E.length : Int))) w) := ⟨rfl, rfl⟩
  obtain ⟨a, c, e⟩ := h.rz.sl
  subst e
  clear h
  generalize SameW w (.int .i64 (E.length : Int)) = P at *
  generalize E.length = n at *
  go_enter Try.func28, Try.ntmps28
  go_wp2
  first | exact HF.out | (go_ret; exact HF.out)
end
/-- a graph is made, or refused -/
def GNewQ (room : Int) (w : World) (e : Ending) (w' : World) : Prop :=
  Below w.heap.size w w' ∧ (((room < 1 ∨ 512 < room) ∧ e = .returned (.tuple #[.pointer none, .int .i64 161])) ∨
    ((1 ≤ room ∧ room ≤ 512) ∧ ∃ gb, w.heap.size ≤ gb ∧ e = .returned (.tuple #[.pointer (some ⟨gb, 0, none⟩), .int .i64 0]) ∧ GV w' gb room.toNat (.slice none 0 0) []))
set_option maxRecDepth 100000 in
set_option maxHeartbeats 2000000 in
theorem gnew_any (room : Int) (w : World) : Calls Try.prog 25 #[.int .i64 room] w (GNewQ room w) := by
  have HB : Hid ((room < 1 ∨ 512 < room) → GNewQ room w (.returned (.tuple #[.pointer none, .int .i64 161])) w) := fun h => ⟨Below.refl _ _, .inl ⟨h, rfl⟩⟩
  have HO : Hid ((1 ≤ room ∧ room ≤ 512) → GNewQ room w (.returned (.tuple #[.pointer (some ⟨w.heap.size, 0, none⟩), .int .i64 0])) (w.alloc (.cells #[.int .i64 room, .slice none 0 0] 131))) := fun h =>
    ⟨bl1 w _, .inr ⟨h, w.heap.size, Nat.le_refl _, rfl, ⟨by rw [show ((room.toNat : Nat) : Int) = room by omega]; exact heap_alloc_new _ _, RZ.nil _ _, by simp [Value.ownBlock], ⟨.nil, fun e he => absurd he (by simp), Nat.zero_le _, by omega⟩⟩⟩⟩
  generalize GNewQ room w = P at *
  by_cases h1 : room < 1
  · have HR := HB.out (.inl h1)
    have HR2 : Hid (P (.returned (.tuple #[.pointer none, .int .i64 161])) w) := HR
    have t1 : decide (room < 1) = true := by simp [h1]
    clear HR HB HO
    go_enter Try.func25, Try.ntmps25
    go_wp2
    first | exact HR2.out | (go_ret2; exact HR2.out)
  · have t1 : decide (room < 1) = false := by simp; omega
    by_cases h2 : 512 < room
    · have HR := HB.out (.inr h2)
      have HR2 : Hid (P (.returned (.tuple #[.pointer none, .int .i64 161])) w) := HR
      have t2 : decide (512 < room) = true := by simp [h2]
      clear HR HB HO
      go_enter Try.func25, Try.ntmps25
      go_wp2
      first | exact HR2.out | (go_ret2; exact HR2.out)
    · have t2 : decide (512 < room) = false := by simp; omega
      have HR := HO.out (by omega)
      have HR2 : Hid (P (.returned (.tuple #[.pointer (some ⟨w.heap.size, 0, none⟩), .int .i64 0])) (w.alloc (.cells #[.int .i64 room, .slice none 0 0] 131))) := HR
      clear HR HB HO
      go_enter Try.func25, Try.ntmps25
      go_wp2
      first | exact HR2.out | (go_ret2; exact HR2.out)
end Go.Proofs.Ytongeppdaeekeaa
