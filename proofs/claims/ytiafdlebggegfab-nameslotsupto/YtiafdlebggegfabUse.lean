/- A walker's small calls: a name is used, declared; a reduction is named. -/
import Derived.Test.YtiafdlebggegfabMem
namespace Go.Proofs.Ytiafdlebggegfab
open Go.RowKit Go.Maps Go.WideMaps
set_option linter.unusedVariables false

/-- what an append to the registers and a store into the field leave -/
theorem WSt.pushed {w w1 : World} {pb mb base : Nat} {cells r : Int} {v v' : Value} {st : Sta} {o : Obj} (h : WSt w pb mb base cells v st)
    (hown' : w1.ownsRow base 3 1 v' (st.out.length + 1) ((st.out.map fun x => Value.int .i64 x) ++ [.int .i64 r])) (hg : (w.alloc o).grownBy w1 v.ownBlock) (hloc : v'.ownBlock = v.ownBlock ∨ v'.ownBlock = some (w.heap.size + 1)) :
    w1.cell? ⟨pb, 2, none⟩ = some v ∧ w1.frozen? ⟨pb, 2, none⟩ = false ∧ WSt (w1.setCell ⟨pb, 2, none⟩ v') pb mb base cells v' ⟨st.T, st.out ++ [r], st.most⟩ ∧ FW pb mb w (w1.setCell ⟨pb, 2, none⟩ v') v v' := by
  have hpl := h.pl
  have hml := h.ml
  have hbs := h.bs
  have hown := h.ints.own
  have hsz1 := hg.size
  have hsa : (w.alloc o).heap.size = w.heap.size + 1 := by simp
  have hblk : ∀ k, k < w.heap.size → some k ≠ v.ownBlock → w1.heap[k]? = w.heap[k]? := fun k hk hne => (hg.block k (by omega) hne).trans (Below.heap_alloc _ _ _ hk)
  have hpb : w1.heap[pb]? = w.heap[pb]? := hblk pb (by omega) (fun e => by have := (hown pb e.symm).1; omega)
  have hmb : w1.heap[mb]? = w.heap[mb]? := hblk mb (by omega) (fun e => by have := (hown mb e.symm).1; omega)
  have c2 : w1.cell? ⟨pb, 2, none⟩ = some v := (World.cell?_of_block (w := w) (a := ⟨pb, 2, none⟩) hpb).trans h.c2
  have f2 : w1.frozen? ⟨pb, 2, none⟩ = false := (World.frozen?_of_block (w := w) (a := ⟨pb, 2, none⟩) hpb).trans h.f2
  obtain ⟨D, m1, m2⟩ := h.map
  have q1 : ∀ (i : Nat), i ≠ 2 → (w1.setCell ⟨pb, 2, none⟩ v').cell? ⟨pb, i, none⟩ = w.cell? ⟨pb, i, none⟩ := fun i hi => by
    rw [World.cell?_setCell_other w1 _ _ _ (by intro e; cases e; exact hi rfl)]
    exact World.cell?_of_block (w := w) (a := ⟨pb, i, none⟩) hpb
  refine ⟨c2, f2, ⟨(q1 0 (by decide)).trans h.c0, (q1 1 (by decide)).trans h.c1, World.cell?_setCell_same w1 _ _ c2, (q1 3 (by decide)).trans h.c3, ?_, ?_, ?_, ⟨D, ?_, m2⟩, h.pl, h.ml, h.ne, ?_⟩, ⟨hg.os, hg.tape, hg.output, ?_, ?_, ?_⟩⟩
  · simpa using f2
  · have : w1.frozen? ⟨pb, 3, none⟩ = false := (World.frozen?_of_block (w := w) (a := ⟨pb, 3, none⟩) hpb).trans h.f3
    simpa using this
  · have := ownsRow_setCell_below hown' (a := ⟨pb, 2, none⟩) (by show pb < base; omega) v'
    unfold Ints
    simp only [List.length_append, List.length_cons, List.length_nil, List.map_append, List.map_cons, List.map_nil]
    exact this
  · exact (ownsMap_keep m1 hmb).setCell (a := ⟨pb, 2, none⟩) h.ne v'
  · have : (w1.setCell ⟨pb, 2, none⟩ v').heap.size = w1.heap.size := by simp [World.setCell]
    omega
  · have : (w1.setCell ⟨pb, 2, none⟩ v').heap.size = w1.heap.size := by simp [World.setCell]
    omega
  · intro k hk h1 h2 h3
    rw [Below.heap_setCell _ _ _ _ h1]
    exact hblk k hk h3
  · intro k hk
    rcases hloc with e | e
    · exact Or.inl (e ▸ hk)
    · rw [e] at hk
      cases hk
      right; omega

set_option maxRecDepth 100000 in
set_option maxHeartbeats 1000000 in
theorem use_some (pb mb base : Nat) (cells : Int) (v : Value) (st : Sta) (s : ByteArray) (r : Int) (w : World) (h : WSt w pb mb base cells v st) (hs : s.size ≤ maxLen) (hl : st.out.length ≤ 1000000000) (hf : find st.T s.data.toList = some r) :
    Calls Try.prog 35 #[.pointer (some ⟨pb, 0, none⟩), .string s] w fun e w' => e = .returned (.int .i64 0) ∧ ∃ v', WSt w' pb mb base cells v' ⟨st.T, st.out ++ [r], st.most⟩ ∧ FW pb mb w w' v v' := by
  obtain ⟨D, m1, m2⟩ := h.map
  have HM : Hid (w.ownsMap Try.prog 9 (plainElem Try.prog 3) mb st.T.length D) := m1
  have HH : Hid (Maps.has D (kl s.data.toList) = true) := by show _ = _; rw [m2.has, hf]; rfl
  have HA : Hid (D.atKey (kl s.data.toList) (rl 0) = rl r) := m2.at_ _ _ hf
  have HK : Hid (keyOf Try.prog 9 (.string s) = some (kl s.data.toList)) := keyOf_string_mk Try.underlying9 hs
  have HW : Hid (WSt w pb mb base cells v st) := h
  have c0 := h.c0
  have c2 := h.c2
  have hbs := h.bs
  have HO : Hid (w.ownsRow base 3 1 v st.out.length (st.out.map fun x => Value.int .i64 x)) := h.ints
  obtain ⟨i0, hi, hz0, hz1, hz2⟩ := info_parts info3
  clear m1 m2 h hf
  go_enter Try.func35, Try.ntmps35
  go_wp2_with (first
    | (at_lookup; refine wpList_lookup_own_ok_int _ rfl _ _ 51 rfl 9 3 .i64 law9 Try.underlying51 Try.underlying3 (zero3 _) mb _ D rfl HM.out _ _ rfl HK.out ?_; intro c hat hwc; rw [HH.out]; obtain rfl : c = r := (by have := hat.symm.trans HA.out; injection this with e; injection e); clear hat)
    | (at_builtin; refine wpList_append_own_at _ rfl _ _ 25 rfl base 3 i0 (.int .i64 0) 1 8 Try.underlying25 hi hz0 hz1 hz2 rfl (by decide) _ _ _ rfl (HO.out.alloc _) ⟨w.heap.size, 0, none⟩ 1 1 [.int .i64 c] rfl rfl (cell_one_new _ _ _) (ints_one [c]) (by unfold maxLen; omega) (by omega) (by simp; omega) ?_))
  intro v' w1 hown' hgrow hnil hloc
  obtain ⟨k1, k2, k3, k4⟩ := HW.out.pushed hown' hgrow hloc
  obtain ⟨g, cap', rfl⟩ : ∃ g cap', v' = .slice (some ⟨g, 0, none⟩) (st.out.length + 1) cap' := by
    rcases hown'.2 with ⟨_, h⟩ | ⟨g, cap', _, h, _⟩
    · omega
    · exact ⟨g, cap', h⟩
  have K3 : Hid _ := k3
  have K4 : Hid _ := k4
  clear k3 k4 hown' hgrow hnil hloc c0 c2
  go_wp2
  go_ret
  exact ⟨rfl, _, K3.out, K4.out⟩

set_option maxRecDepth 100000 in
set_option maxHeartbeats 1000000 in
theorem use_none (pb mb base : Nat) (cells : Int) (v : Value) (st : Sta) (s : ByteArray) (w : World) (h : WSt w pb mb base cells v st) (hs : s.size ≤ maxLen) (hf : find st.T s.data.toList = none) :
    Calls Try.prog 35 #[.pointer (some ⟨pb, 0, none⟩), .string s] w fun e w' => e = .returned (.int .i64 60) ∧ w' = w := by
  obtain ⟨D, m1, m2⟩ := h.map
  have HM : Hid (w.ownsMap Try.prog 9 (plainElem Try.prog 3) mb st.T.length D) := m1
  have HH : Hid (Maps.has D (kl s.data.toList) = false) := by show _ = _; rw [m2.has, hf]; rfl
  have HK : Hid (keyOf Try.prog 9 (.string s) = some (kl s.data.toList)) := keyOf_string_mk Try.underlying9 hs
  have c0 := h.c0
  clear m1 m2 h hf
  go_enter Try.func35, Try.ntmps35
  go_wp2_with (at_lookup; refine wpList_lookup_own_ok_int _ rfl _ _ 51 rfl 9 3 .i64 law9 Try.underlying51 Try.underlying3 (zero3 _) mb _ D rfl HM.out _ _ rfl HK.out ?_; intro c hat hwc; rw [HH.out]; clear hat)
  go_ret
  exact ⟨rfl, rfl⟩

/-- a name is used -/
def usedS (st : Sta) (s : ByteArray) : Res := match find st.T s.data.toList with
  | some r => .ok ⟨st.T, st.out ++ [r], st.most⟩
  | none => .err 60
theorem use_any (pb mb base : Nat) (cells : Int) (v : Value) (st : Sta) (s : ByteArray) (w : World) (h : WSt w pb mb base cells v st) (hs : s.size ≤ maxLen) (hl : st.out.length ≤ 1000000000) :
    Calls Try.prog 35 #[.pointer (some ⟨pb, 0, none⟩), .string s] w (RPost pb mb base cells w v (usedS st s)) := by
  unfold usedS
  rcases hf : find st.T s.data.toList with _ | r
  · refine (use_none pb mb base cells v st s w h hs hf).mono ?_
    rintro e w' ⟨rfl, rfl⟩
    exact ⟨rfl, rfl, v, FW.refl _ _ _ _⟩
  · exact use_some pb mb base cells v st s r w h hs hl hf

theorem find_snoc (T : Tab) (s : List UInt8) (r : Int) (t : List UInt8) : find (T ++ [(s, r)]) t = match find T t with
    | some q => some q
    | none => if s = t then some r else none := by
  unfold find
  rw [List.find?_append]
  generalize List.find? (fun x => x.1 == t) T = q
  cases q with
  | some q => rfl
  | none =>
    by_cases h : s = t
    · subst h; simp
    · have : (s == t) = false := by simpa using h
      simp [h]
theorem Rep.put {T : Tab} {D : DataW Unit} (h : Rep T D) (s : List UInt8) (hf : find T s = none) (r : Int) : Rep (T ++ [(s, r)]) (D.put (kl s) (rl r)) := by
  have hk : WideAt.IsKeyLit (kl s) := trivial
  refine ⟨fun t => ?_, fun t q hq => ?_, ?_, h.tidy.put hk _⟩
  · by_cases ht : s = t
    · subst ht
      rw [has_put_same h.tidy.isMap hk, find_snoc, hf]; simp
    · rw [has_put_other (fun e => ht (by injection e with e; exact e.symm)), h.has, find_snoc]
      cases find T t with
      | some q => rfl
      | none => simp [ht]
  · by_cases ht : s = t
    · subst ht
      rw [find_snoc, hf] at hq
      simp at hq
      subst hq
      rw [atKey_put_same h.tidy.isMap hk]
    · rw [atKey_put_other (fun e => ht (by injection e with e; exact e.symm))]
      refine h.at_ t q ?_
      rw [find_snoc] at hq
      cases h2 : find T t with
      | some p => rw [h2] at hq; exact hq
      | none => rw [h2] at hq; simp [ht] at hq
  · rw [size_put h.tidy, h.has, hf, h.size]; simp

/-- what a store into the map and one into the field of the most leave -/
theorem WSt.declared {w w1 : World} {pb mb base : Nat} {cells m : Int} {v : Value} {st : Sta} {s : List UInt8} {D : DataW Unit} (h : WSt w pb mb base cells v st) (hf : find st.T s = none) (hr : Rep st.T D)
    (hown : w1.ownsMap Try.prog 9 (plainElem Try.prog 3) mb (st.T.length + 1) (D.put (kl s) (rl (st.T.length : Int)))) (hg : w.grownBy w1 (some mb)) :
    w1.cell? ⟨pb, 3, none⟩ = some (.int .i64 st.most) ∧ w1.frozen? ⟨pb, 3, none⟩ = false ∧ WSt (w1.setCell ⟨pb, 3, none⟩ (.int .i64 m)) pb mb base cells v ⟨st.T ++ [(s, (st.T.length : Int))], st.out, m⟩ ∧ FW pb mb w (w1.setCell ⟨pb, 3, none⟩ (.int .i64 m)) v v := by
  have hpl := h.pl
  have hml := h.ml
  have hbs := h.bs
  have hne := h.ne
  have hsz1 := hg.size
  have ho := h.ints.own
  have hpb : w1.heap[pb]? = w.heap[pb]? := hg.block pb (by omega) (by intro e; cases e; exact hne rfl)
  have c3 : w1.cell? ⟨pb, 3, none⟩ = some (.int .i64 st.most) := (World.cell?_of_block (w := w) (a := ⟨pb, 3, none⟩) hpb).trans h.c3
  have f3 : w1.frozen? ⟨pb, 3, none⟩ = false := (World.frozen?_of_block (w := w) (a := ⟨pb, 3, none⟩) hpb).trans h.f3
  have q1 : ∀ (i : Nat), i ≠ 3 → (w1.setCell ⟨pb, 3, none⟩ (.int .i64 m)).cell? ⟨pb, i, none⟩ = w.cell? ⟨pb, i, none⟩ := fun i hi => by
    rw [World.cell?_setCell_other w1 _ _ _ (by intro e; cases e; exact hi rfl)]
    exact World.cell?_of_block (w := w) (a := ⟨pb, i, none⟩) hpb
  have hs2 : (w1.setCell ⟨pb, 3, none⟩ (.int .i64 m)).heap.size = w1.heap.size := by simp [World.setCell]
  refine ⟨c3, f3, ⟨(q1 0 (by decide)).trans h.c0, (q1 1 (by decide)).trans h.c1, (q1 2 (by decide)).trans h.c2, World.cell?_setCell_same w1 _ _ c3, ?_, ?_, ?_, ⟨_, ?_, hr.put s hf _⟩, h.pl, h.ml, h.ne, by omega⟩, ⟨hg.os, hg.tape, hg.output, by omega, ?_, fun k hk => Or.inl hk⟩⟩
  · have : w1.frozen? ⟨pb, 2, none⟩ = false := (World.frozen?_of_block (w := w) (a := ⟨pb, 2, none⟩) hpb).trans h.f2
    simpa using this
  · simpa using f3
  · refine h.ints.keep fun k hk => ?_
    have := ho k hk
    rw [Below.heap_setCell _ _ _ _ (by show k ≠ pb; omega)]
    exact hg.block k this.2 (by intro e; cases e; omega)
  · simp only [List.length_append, List.length_cons, List.length_nil]
    exact hown.setCell (a := ⟨pb, 3, none⟩) h.ne _
  · intro k hk h1 h2 h3
    rw [Below.heap_setCell _ _ _ _ h1]
    exact hg.block k hk (by intro e; cases e; exact h2 rfl)

/-- a name is declared -/
def declS (st : Sta) (s : ByteArray) : Res := match find st.T s.data.toList with
  | some _ => .err 61
  | none => if 11 ≤ st.T.length then .err 62 else .ok ⟨st.T ++ [(s.data.toList, (st.T.length : Int))], st.out ++ [(st.T.length : Int)], max st.most ((st.T.length : Int) - 3 + 1)⟩

set_option maxRecDepth 100000 in
set_option maxHeartbeats 2000000 in
theorem declare_any (pb mb base : Nat) (cells : Int) (v : Value) (st : Sta) (s : ByteArray) (w : World) (h : WSt w pb mb base cells v st) (hs : s.size ≤ maxLen) (hl : st.out.length ≤ 1000000000) (hT : 3 ≤ st.T.length) (hm0 : 0 ≤ st.most) (hm1 : st.most ≤ 1000) (hT2 : st.T.length ≤ 1000) :
    Calls Try.prog 34 #[.pointer (some ⟨pb, 0, none⟩), .string s] w (RPost pb mb base cells w v (declS st s)) := by
  obtain ⟨D, m1, m2⟩ := h.map
  have HM : Hid (w.ownsMap Try.prog 9 (plainElem Try.prog 3) mb st.T.length D) := m1
  have HRep : Hid (Rep st.T D) := m2
  have HK : Hid (keyOf Try.prog 9 (.string s) = some (kl s.data.toList)) := keyOf_string_mk Try.underlying9 hs
  have HW : Hid (WSt w pb mb base cells v st) := h
  have hsz : Maps.size D = st.T.length := m2.size
  have HSZ : Hid (Maps.size D = st.T.length) := hsz
  have c0 := h.c0
  obtain ⟨n, hn⟩ : ∃ n, st.T.length = n := ⟨_, rfl⟩
  have HN : Hid (st.T.length = n) := hn
  unfold declS
  rcases hf : find st.T s.data.toList with _ | r
  · have HH : Hid (Maps.has D (kl s.data.toList) = false) := by show _ = _; rw [m2.has, hf]; rfl
    have HF : Hid (find st.T s.data.toList = none) := hf
    rw [hn] at hT hT2
    dsimp only
    rw [hn]
    by_cases h11 : 11 ≤ n
    · rw [if_pos h11]
      have hge : (8 : Int) ≤ (n : Int) - 3 := by omega
      clear m1 m2 h hf hsz hn
      go_enter Try.func34, Try.ntmps34
      go_wp2_with (first | (at_lookup; refine wpList_lookup_own_ok_int _ rfl _ _ 51 rfl 9 3 .i64 law9 Try.underlying51 Try.underlying3 (zero3 _) mb _ D rfl HM.out _ _ rfl HK.out ?_; intro c hat hwc; rw [HH.out]; clear hat) | (at_len; refine wpList_len_own _ rfl _ 51 rfl 9 3 Try.underlying51 _ mb _ D rfl HM.out ?_; rw [HSZ.out, HN.out]))
      go_ret
      exact ⟨rfl, rfl, v, FW.refl _ _ _ _⟩
    · rw [if_neg h11]
      have hlt : ¬ (8 : Int) ≤ (n : Int) - 3 := by omega
      have hlt' : (n : Int) - 3 < 8 := by omega
      have c3 := h.c3
      have hreg : (3 : Int) + ((n : Int) - 3) = (n : Int) := by omega
      clear m1 m2 h hf hsz hn
      go_enter Try.func34, Try.ntmps34
      go_wp2_with (first | (at_lookup; refine wpList_lookup_own_ok_int _ rfl _ _ 51 rfl 9 3 .i64 law9 Try.underlying51 Try.underlying3 (zero3 _) mb _ D rfl HM.out _ _ rfl HK.out ?_; intro c hat hwc; rw [HH.out]; clear hat) | (at_len; refine wpList_len_own _ rfl _ 51 rfl 9 3 Try.underlying51 _ mb _ D rfl HM.out ?_; rw [HSZ.out, HN.out]) | (at_mapUpdate; refine wpList_mapUpdate_own _ rfl _ _ _ 51 rfl 9 3 law9 Try.underlying51 _ mb _ D rfl HM.out (by have := HN.out; unfold maxLen; omega) _ _ _ rfl rfl HK.out _ [] (plainElem_int Try.underlying3 ?w9) ?_))
      case w9 => exact WalkArith.wf_i64 (by omega)
      · intro w1 hown1 hgrow1
        obtain ⟨k1, k2, k3, k4⟩ := HW.out.declared (m := max st.most ((n : Int) - 3 + 1)) HF.out HRep.out (by rw [HN.out]; rw [HN.out] at hown1; exact hown1) hgrow1
        have HFs : Hid (find (st.T ++ [(s.data.toList, (st.T.length : Int))]) s.data.toList = some (n : Int)) := by show _ = _; rw [find_snoc, HF.out, HN.out]; simp
        obtain ⟨mx, hmx⟩ : ∃ mx, max st.most ((n : Int) - 3 + 1) = mx := ⟨_, rfl⟩
        rw [hmx] at k3 k4 ⊢
        have K3 : Hid _ := k3
        have K4 : Hid _ := k4
        clear k3 k4 hown1 hgrow1 c3
        have hTn : (st.T ++ [(s.data.toList, (st.T.length : Int))]) = (st.T ++ [(s.data.toList, (n : Int))]) := by rw [HN.out]
        have HTn : Hid (st.T ++ [(s.data.toList, (st.T.length : Int))] = (st.T ++ [(s.data.toList, (n : Int))])) := hTn
        clear hTn
        by_cases hle : (n : Int) - 3 + 1 ≤ st.most
        · have e : mx = st.most := by omega
          subst e
          have HMX : Hid _ := hmx
          clear hmx
          go_wp2_with fail
          refine (use_some pb mb base cells v _ s n _ K3.out hs hl HFs.out).mono ?_
          rintro e w3 ⟨rfl, v', hw3, hf3⟩
          have HF3 : Hid (WSt w3 pb mb base cells v' ⟨st.T ++ [(s.data.toList, (n : Int))], st.out ++ [(n : Int)], st.most⟩) := by rw [← HTn.out]; exact hw3
          have HG3 : Hid _ := K4.out.trans hf3
          clear hw3 hf3
          go_wp2
          go_ret
          exact ⟨rfl, v', by rw [HMX.out]; exact HF3.out, HG3.out⟩
        · have e : mx = (n : Int) - 3 + 1 := by omega
          subst e
          have HMX : Hid _ := hmx
          clear hmx
          go_wp2_with fail
          refine (use_some pb mb base cells v _ s n _ K3.out hs hl HFs.out).mono ?_
          rintro e w3 ⟨rfl, v', hw3, hf3⟩
          have HF3 : Hid (WSt w3 pb mb base cells v' ⟨st.T ++ [(s.data.toList, (n : Int))], st.out ++ [(n : Int)], (n : Int) - 3 + 1⟩) := by rw [← HTn.out]; exact hw3
          have HG3 : Hid _ := K4.out.trans hf3
          clear hw3 hf3
          go_wp2
          go_ret
          exact ⟨rfl, v', by rw [HMX.out]; exact HF3.out, HG3.out⟩
  · have HH : Hid (Maps.has D (kl s.data.toList) = true) := by show _ = _; rw [m2.has, hf]; rfl
    clear m1 m2 h hf hsz hn
    go_enter Try.func34, Try.ntmps34
    go_wp2_with (at_lookup; refine wpList_lookup_own_ok_int _ rfl _ _ 51 rfl 9 3 .i64 law9 Try.underlying51 Try.underlying3 (zero3 _) mb _ D rfl HM.out _ _ rfl HK.out ?_; intro c hat hwc; rw [HH.out]; clear hat)
    go_ret
    exact ⟨rfl, rfl, v, FW.refl _ _ _ _⟩

/-- a reduction is named -/
def intoS (cells : Int) (st : Sta) (c : Int) : Res := if cells ≤ c then .err 63 else .ok st
set_option maxHeartbeats 1000000 in
theorem into_any (pb mb base : Nat) (cells : Int) (v : Value) (st : Sta) (c : Int) (w : World) (h : WSt w pb mb base cells v st) :
    Calls Try.prog 36 #[.pointer (some ⟨pb, 0, none⟩), .int .i64 c] w (RPost pb mb base cells w v (intoS cells st c)) := by
  have c1 := h.c1
  have HW : Hid (WSt w pb mb base cells v st) := h
  unfold intoS
  clear h
  by_cases hc : cells ≤ c
  · rw [if_pos hc]
    go_enter Try.func36, Try.ntmps36
    go_wp2
    go_ret
    exact ⟨rfl, rfl, v, FW.refl _ _ _ _⟩
  · rw [if_neg hc]
    go_enter Try.func36, Try.ntmps36
    go_wp2
    go_ret
    exact ⟨rfl, v, HW.out, FW.refl _ _ _ _⟩

/-- a statement's value -/
def sV (k : Int) (s : ByteArray) (c : Int) (va vb ve : Value) : Value := .agg #[.int .i64 k, .string s, .int .i64 c, va, vb, ve]
theorem ownS_eq (cells k : Int) (s : ByteArray) (c : Int) (st : Sta) : ownS cells k s c st = if k = 1 then declS st s else if k = 2 then usedS st s else if k = 5 then intoS cells st c else .ok st := rfl
theorem RPost.after0 {pb mb base : Nat} {cells : Int} {w w1 : World} {v : Value} {r : Res} {e : Ending} {w' : World} (h : RPost pb mb base cells w1 v r e w') (k : Below w.heap.size w w1) : RPost pb mb base cells w v r e w' := h.pre ((FW.refl pb mb w v).after k)

set_option maxRecDepth 100000 in
set_option maxHeartbeats 2000000 in
theorem own_any (pb mb base : Nat) (cells k : Int) (v : Value) (st : Sta) (s : ByteArray) (c : Int) (aa ab ae : Option Addr) (na ca nb cb ne ce : Nat) (w : World) (h : WSt w pb mb base cells v st) (hs : s.size ≤ maxLen) (hl : st.out.length ≤ 1000000000) (hT : 3 ≤ st.T.length) (hm0 : 0 ≤ st.most) (hm1 : st.most ≤ 1000) (hT2 : st.T.length ≤ 1000) :
    Calls Try.prog 28 #[.pointer (some ⟨pb, 0, none⟩), sV k s c (.slice aa na ca) (.slice ab nb cb) (.slice ae ne ce)] w (RPost pb mb base cells w v (ownS cells k s c st)) := by
  have HW : Hid (∀ o, WSt (w.alloc o) pb mb base cells v st) := fun o => h.below ((Below.refl _ _).alloc (Nat.le_refl _) o)
  have HB : Hid (∀ o, Below w.heap.size w (w.alloc o)) := fun o => (Below.refl _ _).alloc (Nat.le_refl _) o
  have HW0 : Hid (WSt w pb mb base cells v st) := h
  clear h
  rw [ownS_eq]
  unfold sV
  by_cases k1 : k = 1
  · subst k1
    rw [if_pos rfl]
    rcases hr : declS st s with x | st1
    · have HR : Hid (declS st s = .err x) := hr
      clear hr
      go_enter Try.func28, Try.ntmps28
      go_wp2_with fail
      refine (declare_any pb mb base cells v st s _ (HW.out _) hs hl hT hm0 hm1 hT2).mono ?_
      intro e w2 hp
      rw [HR.out] at hp
      replace hp := hp.after0 (HB.out _)
      obtain ⟨rfl, hx, hp⟩ := hp
      have HP : Hid _ := hp
      clear hp
      go_wp2
      go_ret
      exact ⟨rfl, hx, HP.out⟩
    · have HR : Hid (declS st s = .ok st1) := hr
      clear hr
      go_enter Try.func28, Try.ntmps28
      go_wp2_with fail
      refine (declare_any pb mb base cells v st s _ (HW.out _) hs hl hT hm0 hm1 hT2).mono ?_
      intro e w2 hp
      rw [HR.out] at hp
      replace hp := hp.after0 (HB.out _)
      obtain ⟨rfl, hp⟩ := hp
      have HP : Hid _ := hp
      clear hp
      go_wp2
      go_ret
      exact ⟨rfl, HP.out⟩
  · rw [if_neg k1]
    by_cases k2 : k = 2
    · subst k2
      rw [if_pos rfl]
      rcases hr : usedS st s with x | st1
      · have HR : Hid (usedS st s = .err x) := hr
        clear hr
        go_enter Try.func28, Try.ntmps28
        go_wp2_with fail
        refine (use_any pb mb base cells v st s _ (HW.out _) hs hl).mono ?_
        intro e w2 hp
        rw [HR.out] at hp
        replace hp := hp.after0 (HB.out _)
        obtain ⟨rfl, hx, hp⟩ := hp
        have HP : Hid _ := hp
        clear hp
        go_wp2
        go_ret
        exact ⟨rfl, hx, HP.out⟩
      · have HR : Hid (usedS st s = .ok st1) := hr
        clear hr
        go_enter Try.func28, Try.ntmps28
        go_wp2_with fail
        refine (use_any pb mb base cells v st s _ (HW.out _) hs hl).mono ?_
        intro e w2 hp
        rw [HR.out] at hp
        replace hp := hp.after0 (HB.out _)
        obtain ⟨rfl, hp⟩ := hp
        have HP : Hid _ := hp
        clear hp
        go_wp2
        go_ret
        exact ⟨rfl, HP.out⟩
    · rw [if_neg k2]
      by_cases k5 : k = 5
      · subst k5
        rw [if_pos rfl]
        rcases hr : intoS cells st c with x | st1
        · have HR : Hid (intoS cells st c = .err x) := hr
          clear hr
          go_enter Try.func28, Try.ntmps28
          go_wp2_with fail
          refine (into_any pb mb base cells v st c _ (HW.out _) ).mono ?_
          intro e w2 hp
          rw [HR.out] at hp
          replace hp := hp.after0 (HB.out _)
          obtain ⟨rfl, hx, hp⟩ := hp
          have HP : Hid _ := hp
          clear hp
          go_wp2
          go_ret
          exact ⟨rfl, hx, HP.out⟩
        · have HR : Hid (intoS cells st c = .ok st1) := hr
          clear hr
          go_enter Try.func28, Try.ntmps28
          go_wp2_with fail
          refine (into_any pb mb base cells v st c _ (HW.out _) ).mono ?_
          intro e w2 hp
          rw [HR.out] at hp
          replace hp := hp.after0 (HB.out _)
          obtain ⟨rfl, hp⟩ := hp
          have HP : Hid _ := hp
          clear hp
          go_wp2
          go_ret
          exact ⟨rfl, HP.out⟩
      · rw [if_neg k5]
        go_enter Try.func28, Try.ntmps28
        go_wp2
        go_ret
        exact ⟨rfl, v, HW.out _, (FW.refl pb mb w v).after (HB.out _)⟩
end Go.Proofs.Ytiafdlebggegfab
