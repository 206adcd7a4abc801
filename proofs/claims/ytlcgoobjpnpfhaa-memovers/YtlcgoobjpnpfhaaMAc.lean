/- Nothing is laid over any more; an overlay is made. -/
import Derived.Test.YtlcgoobjpnpfhaaMAb
namespace Go.Proofs.Ytlcgoobjpnpfhaa
open Go.RowKit Go.Maps
set_option linter.unusedVariables false
theorem size42 : (Try.prog.info? 42).map (·.size) = some 128 := by kernel_rfl
theorem ovC_one (S : List (Int × Int)) : ∀ u ∈ ovC S, u.oneCell' = true := by
  intro u hu
  unfold ovC at hu
  rcases List.mem_append.1 hu with h | h
  · obtain ⟨x, _, rfl⟩ := List.mem_map.1 h; rfl
  · obtain ⟨x, _, rfl⟩ := List.mem_map.1 h; rfl
/-- nothing laid over, cell by cell -/
def ovZ : Array Value := (List.replicate 64 (Value.int .i64 0) ++ List.replicate 64 (Value.bool false)).toArray
theorem ovZ_is : ovZ = (ovC []).toArray := by
  unfold ovZ ovC
  rw [ofM_nil, toldM_nil]
  simp
theorem zero42 (w : World) : (zeroValue 42).run Try.prog w = .ok (.agg ovZ) w := by kernel_rfl
set_option maxRecDepth 100000 in
set_option maxHeartbeats 2000000 in
theorem oclear_any (ob : Nat) (S : List (Int × Int)) (w : World) (h : OV w ob S) : Calls Try.prog 23 #[.pointer (some ⟨ob, 0, none⟩)] w fun e w' => e = .returned (.tuple #[]) ∧ OV w' ob [] ∧ Ch (fun x => x = ob) w w' := by
  have H : Hid (OV w ob S) := h
  have HO : Hid (ovZ.all (·.oneCell') = true) := by show _ = _; rw [ovZ_is]; exact all_oneCell_toArray (ovC_one [])
  have HF : Hid (OV (w.setRow ob ovZ) ob [] ∧ Ch (fun x => x = ob) w (w.setRow ob ovZ)) := by
    refine ⟨?_, ⟨rfl, rfl, rfl, by simp [World.setRow], fun k hk hn => setRow_other w ob k _ hn⟩⟩
    unfold OV
    rw [← ovZ_is]
    exact setRow_heap w ob _ _ _ _ h
  have hz : ∀ W, (zeroValue 42).run Try.prog W = .ok (.agg ovZ) W := zero42
  clear h
  go_enter Try.func23, Try.ntmps23
  go_wp2_with (refine wpList_store_row rfl 42 _ _ rfl ob ovZ rfl rfl 42 _ H.out ?c1 ?c2 HO.out ?_)
  case c1 => rw [size42]; rfl
  case c2 => have := ovC_len S; simp [this]; rfl
  go_wp2
  first | exact ⟨rfl, HF.out.1, HF.out.2⟩ | (go_end0; exact ⟨rfl, HF.out.1, HF.out.2⟩)
theorem OV.new (w : World) : OV (w.alloc (Obj.cells ovZ 42)) w.heap.size [] := by
  unfold OV
  rw [← ovZ_is]
  exact heap_alloc_new w _
end Go.Proofs.Ytlcgoobjpnpfhaa
