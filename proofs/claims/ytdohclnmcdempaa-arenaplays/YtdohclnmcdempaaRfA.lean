/- The document's arena: one comes back, one goes. -/
import Derived.Test.YtdohclnmcdempaaArE
namespace Go.Proofs.Ytdohclnmcdempaa
open Go.RowKit Go.Maps
set_option linter.unusedVariables false

theorem size28 : (Try.prog.info? 28).map (·.size) = some 2 := by kernel_rfl
theorem results_cell_tmp2 {fn : Func} {p u x : Tmp} {ty : TypeId} (h : fn.results = #[.cell p ty, .tmp u, .tmp x]) (tmps : Array Value) (P : Program) (w : World) :
    (results fn tmps).run P w =
      ((asAddr (tmps.getD p undef)).run P w).andThen fun a w₁ => ((loadVar ty a).run P w₁).andThen fun v w₂ => .ok (.tuple #[v, tmps.getD u undef, tmps.getD x undef]) w₂ := by
  simp only [results, h]
  simp [Sem.run_bind, Result.andThen]
theorem ret_A2 {fn : Func} {q u : Nat} (h : fn.results = #[.cell q 28, .tmp u]) (tmps : Array Value) (g : Nat) (hb : tmps.getD q undef = .pointer (some ⟨g, 0, none⟩)) (W : World) (a b : Value) (hg : W.heap[g]? = some (.cells #[a, b] 28)) :
    (results fn tmps).run Try.prog W = .ok (.tuple #[.agg #[a, b], tmps.getD u undef]) W := by
  rw [results_cell_tmp h, hb]
  simp [asAddr, run_loadVar_row W g 28 28 #[a, b] _ _ hg Try.underlying28 rfl size28]
theorem ret_A3 {fn : Func} {q u x : Nat} (h : fn.results = #[.cell q 28, .tmp u, .tmp x]) (tmps : Array Value) (g : Nat) (hb : tmps.getD q undef = .pointer (some ⟨g, 0, none⟩)) (W : World) (a b : Value) (hg : W.heap[g]? = some (.cells #[a, b] 28)) :
    (results fn tmps).run Try.prog W = .ok (.tuple #[.agg #[a, b], tmps.getD u undef, tmps.getD x undef]) W := by
  rw [results_cell_tmp2 h, hb]
  simp [asAddr, run_loadVar_row W g 28 28 #[a, b] _ _ hg Try.underlying28 rfl size28]
theorem put2A {W : World} {g : Nat} {x y a b : Value} (h : W.heap[g]? = some (.cells #[x, y] 28)) : ((W.setCell ⟨g, 0, none⟩ a).setCell ⟨g, 1, none⟩ b).heap[g]? = some (.cells #[a, b] 28) := by
  have e1 := heap_setCell_same W g 0 _ 28 a h
  rw [heap_setCell_same _ g 1 _ 28 b e1]
  rfl
theorem GSl.keepO {w w' : World} {v : Value} {G : List Int} (h : GSl w v G) (hk : ∀ k, v.ownBlock = some k → w'.heap[k]? = w.heap[k]?) : GSl w' v G := by
  obtain ⟨a, c, b, o, rfl, h2, h3, h4, h5⟩ := h
  refine ⟨a, c, b, o, rfl, h2, h3, h4, fun i hi => ?_⟩
  have ha := h4 (by omega)
  subst ha
  exact (World.cell?_of_block (a := ⟨b, o + i, none⟩) (hk b rfl)).trans (h5 i hi)
theorem GSl.drop {w : World} {a : Option Addr} {N c : Nat} {G : List Int} (h : GSl w (.slice a N c) G) (k : Nat) (hk : k ≤ N) : GSl w (sliced a k N c 1) (G.drop k) := by
  obtain ⟨a', c', b, o, e, h2, h3, h4, h5⟩ := h
  injection e with e1 e2 e3
  subst e1 e2 e3
  refine ⟨_, _, b, o + k, by unfold sliced; rw [List.length_drop], by rw [List.length_drop]; omega, by omega, fun hp => ?_, fun i hi => ?_⟩
  · rw [List.length_drop] at hp
    rw [if_neg (by omega), h4 (by omega)]
    simp [addn]
  · rw [List.length_drop] at hi
    have := h5 (k + i) (by omega)
    rw [Nat.add_assoc, this]
    simp
/-- whether a slot is among the free ones -/
def inB (L : List Nat) (s : Int) : Bool := decide (s ∈ cs L)
theorem inB_nat (L : List Nat) (s : Nat) : inB L (s : Int) = decide (s ∈ L) := by
  unfold inB cs
  apply decide_eq_decide.2
  constructor
  · intro h
    obtain ⟨y, hy, e⟩ := List.mem_map.1 h
    have : y = s := Int.ofNat.inj e
    exact this ▸ hy
  · exact fun h => List.mem_map.2 ⟨s, h, rfl⟩
set_option maxRecDepth 100000 in
set_option maxHeartbeats 2000000 in
theorem rfree_any (n : Int) (v : Value) (L : List Nat) (s : Int) (w : World) (hv : GSl w v (cs L)) (hL : L.length ≤ 1000) : Calls Try.prog 32 #[.agg #[.int .i64 n, v], .int .i64 s] w fun e w' => e = .returned (.bool (inB L s)) ∧ Below w.heap.size w w' := by
  obtain ⟨va, vc, vb, vo, rfl, h2, h3, h4, h5⟩ := hv
  rw [cs_len] at h2 h4 ⊢
  obtain ⟨M, hM⟩ : ∃ M, L.length = M := ⟨_, rfl⟩
  have HMA : Hid (L.length = M) := hM
  have HVA : Hid (0 < M → va = some ⟨vb, vo, none⟩) := by rw [← hM]; exact h4
  have HVC : Hid (∀ i, (h : i < M) → w.cell? ⟨vb, vo + i, none⟩ = some (.int .i64 ((L[i]'(by rw [HMA.out]; exact h) : Nat) : Int))) := fun i h => by
    have := h5 i (by rw [cs_len, HMA.out]; exact h)
    rw [cs_at _ _ _ (by rw [HMA.out]; exact h)] at this
    exact this
  rw [hM] at h2 hL ⊢
  clear hM h4 h5
  obtain ⟨P, hP⟩ : ∃ P : Bool → Prop, (fun b : Bool => b = inB L s) = P := ⟨_, rfl⟩
  have HP : Hid (∀ b, P b ↔ b = inB L s) := fun b => by rw [← hP]
  clear hP
  have HR : Hid (∀ b (W : World), P b → Below w.heap.size w W → (fun (e : Ending) (w' : World) => e = .returned (.bool (inB L s)) ∧ Below w.heap.size w w') (.returned (.bool b)) W) := fun b W hb hW => ⟨by rw [(HP.out b).1 hb], hW⟩
  generalize (fun (e : Ending) (w' : World) => e = .returned (.bool (inB L s)) ∧ Below w.heap.size w w') = Q at *
  have HB0 : Hid (Below w.heap.size w (w.alloc (.cells #[.int .i64 n, .slice va M vc] 28))) := bl1 _ _
  have c1 : (w.alloc (.cells #[.int .i64 n, .slice va M vc] 28)).cell? ⟨w.heap.size, 1, none⟩ = some (.slice va M vc) := by simp
  go_enter Try.func32, Try.ntmps32
  go_wp2_with fail
  generalize w.alloc (.cells #[.int .i64 n, .slice va M vc] 28) = U at *
  go_loopw [5] (fun i wr => ∃ q : Nat, i = .int .i64 (q : Int) ∧ q ≤ M ∧ wr = U ∧ Hid (∀ j (h : j < L.length), j < q → ((L[j] : Nat) : Int) ≠ s)) (fun i _ => M - (intOf i).toNat)
  case atStart => exact ⟨0, rfl, Nat.zero_le _, rfl, fun j h h' => absurd h' (Nat.not_lt_zero _)⟩
  case round =>
    obtain ⟨q, rfl, hq, rfl, HN⟩ := hrel
    by_cases hlt : q < M
    · have e1 : decide (q < M) = true := by simp; omega
      have hva := HVA.out (by omega)
      subst hva
      obtain ⟨x, hx⟩ : ∃ x : Nat, L[q]'(by rw [HMA.out]; exact hlt) = x := ⟨_, rfl⟩
      have cx := HVC.out q hlt
      rw [hx] at cx
      have cx := (HB0.out.cell (p := ⟨vb, vo + q, none⟩) (World.block_lt_of_cell? w _ cx)).trans cx
      by_cases he : (x : Int) = s
      · have HT : Hid (P true) := by
          show P true
          rw [HP.out]
          unfold inB
          rw [eq_comm]
          apply decide_eq_true
          rw [← he, ← hx]
          exact List.mem_map.2 ⟨_, List.getElem_mem _, rfl⟩
        have e2 : ((x : Int) == s) = true := by simp [he]
        clear he hx
        go_wp2
        first | exact HR.out _ _ HT.out HB0.out | (go_ret; exact HR.out _ _ HT.out HB0.out)
      · have e2 : ((x : Int) == s) = false := by simp [he]
        have HN2 : Hid (∀ j (h : j < L.length), j < q + 1 → ((L[j] : Nat) : Int) ≠ s) := fun j h h' => by
          rcases Nat.lt_or_ge j q with r | r
          · exact HN.out j h r
          · have : j = q := by omega
            subst this
            rw [hx]; exact he
        clear he hx
        go_wp2_with fail
        go_roundw
        case rel => exact ⟨q + 1, by go_num, by omega, trivial, HN2⟩
        case measure => simp [intOf] <;> omega
    · have e1 : decide (q < M) = false := by simp; omega
      have HF : Hid (P false) := by
        show P false
        rw [HP.out]
        unfold inB
        rw [eq_comm]
        apply decide_eq_false
        intro hm
        obtain ⟨y, hy, e⟩ := List.mem_map.1 hm
        obtain ⟨j, hj, rfl⟩ := List.getElem_of_mem hy
        exact HN.out j hj (by have := HMA.out; omega) e
      go_wp2
      first | exact HR.out _ _ HF.out HB0.out | (go_ret; exact HR.out _ _ HF.out HB0.out)
end Go.Proofs.Ytdohclnmcdempaa
