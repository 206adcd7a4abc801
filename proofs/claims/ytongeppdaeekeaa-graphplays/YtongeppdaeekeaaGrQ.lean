/- Plain: who falls with an age. -/
import Derived.WalkKit
namespace Go.Proofs.Ytongeppdaeekeaa
set_option linter.unusedVariables false

/-- edges: reader, writer -/
abbrev Ed := List (Int × Int)
def readersOf (E : Ed) (w : Int) : List Int := (E.filter (fun e => e.2 == w)).map (·.1)
theorem mem_readersOf {E : Ed} {w r : Int} : r ∈ readersOf E w ↔ (r, w) ∈ E := by
  unfold readersOf
  rw [List.mem_map]
  constructor
  · rintro ⟨e, he, rfl⟩
    rw [List.mem_filter] at he
    obtain ⟨h1, h2⟩ := he
    have : e.2 = w := by simpa using h2
    rw [← this]; exact h1
  · intro h
    exact ⟨(r, w), by rw [List.mem_filter]; exact ⟨h, by simp⟩, rfl⟩
/-- F is those who fall with an age, rising -/
structure FallsOf (E : Ed) (age : Int) (F : List Int) : Prop where
  srt : F.Pairwise (· < ·)
  head : F.head? = some age
  from' : ∀ x ∈ F, x = age ∨ ∃ v ∈ F, (x, v) ∈ E
  clo : ∀ e ∈ E, e.2 ∈ F → e.1 ∈ F
theorem FallsOf.mem {E : Ed} {age : Int} {F : List Int} (h : FallsOf E age F) : age ∈ F := List.mem_of_head? h.head
theorem FallsOf.ge {E : Ed} {age : Int} {F : List Int} (h : FallsOf E age F) : ∀ x ∈ F, age ≤ x := by
  have h1 := h.head
  have h2 := h.srt
  match F, h1, h2 with
  | y :: F, h1, h2 =>
    simp at h1
    subst h1
    intro x hx
    rw [List.pairwise_cons] at h2
    rcases List.mem_cons.1 hx with rfl | hx
    · exact Int.le_refl _
    · exact Int.le_of_lt (h2.1 x hx)
/-- edges go up -/
def Up (E : Ed) : Prop := ∀ e ∈ E, e.2 < e.1
theorem falls_sub {E E' : Ed} {age : Int} {F G : List Int} (hu : Up E) (hE : ∀ e, e ∈ E → e ∈ E') (hF : FallsOf E age F) (hg : age ∈ G) (hc : ∀ e ∈ E', e.2 ∈ G → e.1 ∈ G) : ∀ x ∈ F, x ∈ G := by
  have : ∀ (n : Nat) (x : Int), (x - age).toNat = n → x ∈ F → x ∈ G := by
    intro n
    induction n using Nat.strongRecOn with
    | _ n ih =>
      intro x hn hx
      rcases hF.from' x hx with rfl | ⟨v, hv, hxv⟩
      · exact hg
      · have h1 := hu _ hxv
        have h2 := hF.ge v hv
        have h3 : v < x := h1
        exact hc _ (hE _ hxv) (ih (v - age).toNat (by omega) v rfl hv)
  exact fun x hx => this _ x rfl hx
theorem srt_ext : ∀ (F G : List Int), F.Pairwise (· < ·) → G.Pairwise (· < ·) → (∀ x, x ∈ F ↔ x ∈ G) → F = G
  | [], [], _, _, _ => rfl
  | [], y :: G, _, _, h => by have := (h y).2 (by simp); simp at this
  | x :: F, [], _, _, h => by have := (h x).1 (by simp); simp at this
  | x :: F, y :: G, hF, hG, h => by
    rw [List.pairwise_cons] at hF hG
    have hxy : x = y := by
      rcases List.mem_cons.1 ((h x).1 (by simp)) with r | r
      · exact r
      · have h1 := hG.1 x r
        rcases List.mem_cons.1 ((h y).2 (by simp)) with q | q
        · exact q.symm
        · have h2 := hF.1 y q; omega
    subst hxy
    rw [srt_ext F G hF.2 hG.2 (fun z => by
      constructor
      · intro hz
        rcases List.mem_cons.1 ((h z).1 (by simp [hz])) with r | r
        · have := hF.1 z hz; omega
        · exact r
      · intro hz
        rcases List.mem_cons.1 ((h z).2 (by simp [hz])) with r | r
        · have := hG.1 z hz; omega
        · exact r)]
theorem FallsOf.ext {E E' : Ed} {age : Int} {F G : List Int} (hu : Up E) (hE : ∀ e, e ∈ E ↔ e ∈ E') (hF : FallsOf E age F) (hG : FallsOf E' age G) : F = G :=
  srt_ext F G hF.srt hG.srt fun x => ⟨falls_sub hu (fun e => (hE e).1) hF hG.mem hG.clo x, falls_sub (fun e he => hu e ((hE e).2 he)) (fun e => (hE e).2) hG hF.mem hF.clo x⟩
/-- how far the way to those who fall has come: F is told, H is to be looked at -/
structure FS (E : Ed) (age : Int) (F H : List Int) : Prop where
  srt : F.Pairwise (· < ·)
  one : (F = [] ∧ H = [age]) ∨ F.head? = some age
  from' : ∀ x, x ∈ F ∨ x ∈ H → x = age ∨ ∃ v ∈ F, (x, v) ∈ E
  clo : ∀ e ∈ E, e.2 ∈ F → e.1 ∈ F ∨ e.1 ∈ H
  le : ∀ x ∈ H, ∀ f ∈ F, f ≤ x
theorem FS.first (E : Ed) (age : Int) : FS E age [] [age] :=
  ⟨.nil, .inl ⟨rfl, rfl⟩, fun x hx => by rcases hx with h | h <;> simp at h; exact .inl h, fun e _ h => absurd h (by simp), fun x _ f hf => absurd hf (by simp)⟩
theorem FS.done {E : Ed} {age : Int} {F : List Int} (h : FS E age F []) : FallsOf E age F := by
  refine ⟨h.srt, ?_, fun x hx => h.from' x (.inl hx), fun e he hf => ?_⟩
  · rcases h.one with ⟨_, h1⟩ | h1
    · cases h1
    · exact h1
  · rcases h.clo e he hf with r | r
    · exact r
    · cases r
theorem FS.perm {E : Ed} {age : Int} {F H H' : List Int} (h : FS E age F H) (hp : H.Perm H') : FS E age F H' := by
  have hm := fun x => hp.mem_iff (a := x)
  refine ⟨h.srt, ?_, fun x hx => h.from' x (hx.imp id (hm x).2), fun e he hf => (h.clo e he hf).imp id (hm _).1, fun x hx => h.le x ((hm x).2 hx)⟩
  rcases h.one with ⟨h1, rfl⟩ | h1
  · exact .inl ⟨h1, (List.perm_singleton.1 hp.symm)⟩
  · exact .inr h1
/-- the least one stands there already -/
theorem FS.again {E : Ed} {age z : Int} {F H : List Int} (h : FS E age F (z :: H)) (hz : F.getLast? = some z) : FS E age F H := by
  have hzF : z ∈ F := List.mem_of_getLast? hz
  refine ⟨h.srt, ?_, fun x hx => h.from' x (hx.imp id (fun q => by simp [q])), fun e he hf => ?_, fun x hx => h.le x (by simp [hx])⟩
  · rcases h.one with ⟨rfl, _⟩ | h1
    · cases hz
    · exact .inr h1
  · rcases h.clo e he hf with r | r
    · exact .inl r
    · rcases List.mem_cons.1 r with r | r
      · rw [r]; exact .inl hzF
      · exact .inr r
theorem last_lt {F : List Int} {z : Int} (hs : F.Pairwise (· < ·)) (hle : ∀ f ∈ F, f ≤ z) (hz : F.getLast? ≠ some z) : ∀ f ∈ F, f < z := by
  intro f hf
  rcases List.eq_nil_or_concat F with rfl | ⟨G, y, rfl⟩
  · cases hf
  · rw [List.concat_eq_append] at *
    rw [List.pairwise_append] at hs
    have hy : y ≠ z := fun e => hz (by simp [e])
    have hyz := hle y (by simp)
    rcases List.mem_append.1 hf with r | r
    · have := hs.2.2 f r y (by simp); omega
    · rw [List.mem_singleton.1 r]; omega
theorem FS.next {E : Ed} {age z : Int} {F H : List Int} (hu : Up E) (h : FS E age F (z :: H)) (hmin : ∀ x ∈ H, z ≤ x) (hz : F.getLast? ≠ some z) : FS E age (F ++ [z]) (H ++ readersOf E z) := by
  have hlt := last_lt h.srt (h.le z (by simp)) hz
  refine ⟨?_, ?_, fun x hx => ?_, fun e he hf => ?_, fun x hx f hf => ?_⟩
  · rw [List.pairwise_append]
    exact ⟨h.srt, List.pairwise_singleton _ _, fun a ha b hb => by rw [List.mem_singleton.1 hb]; exact hlt a ha⟩
  · right
    rcases h.one with ⟨rfl, h1⟩ | h1
    · simp at h1
      simp [h1.1]
    · rw [List.head?_append, h1]; rfl
  · have old : ∀ x, x ∈ F ∨ x ∈ z :: H → x = age ∨ ∃ v ∈ F ++ [z], (x, v) ∈ E := fun x hx => by
      rcases h.from' x hx with r | ⟨v, hv, hxv⟩
      · exact .inl r
      · exact .inr ⟨v, by simp [hv], hxv⟩
    rcases hx with hx | hx
    · rcases List.mem_append.1 hx with r | r
      · exact old x (.inl r)
      · exact old x (.inr (by rw [List.mem_singleton.1 r]; simp))
    · rcases List.mem_append.1 hx with r | r
      · exact old x (.inr (by simp [r]))
      · exact .inr ⟨z, by simp, mem_readersOf.1 r⟩
  · rcases List.mem_append.1 hf with r | r
    · rcases h.clo e he r with q | q
      · exact .inl (by simp [q])
      · rcases List.mem_cons.1 q with q | q
        · exact .inl (by simp [q])
        · exact .inr (by simp [q])
    · have : e.2 = z := by simpa using r
      exact .inr (List.mem_append.2 (.inr (mem_readersOf.2 (by rw [← this]; exact he))))
  · have hzx : z ≤ x := by
      rcases List.mem_append.1 hx with r | r
      · exact hmin x r
      · have := hu _ (mem_readersOf.1 r)
        exact Int.le_of_lt this
    rcases List.mem_append.1 hf with r | r
    · have := hlt f r; omega
    · rw [List.mem_singleton.1 r]; exact hzx
/-- edges whose writer is above all that are told -/
def aboveE (E : Ed) (F : List Int) : Nat := (E.filter (fun e => F.all (fun f => decide (f < e.2)))).length
theorem above_next (E : Ed) (F : List Int) (z : Int) (hlt : ∀ f ∈ F, f < z) : aboveE E (F ++ [z]) + (readersOf E z).length ≤ aboveE E F := by
  unfold aboveE readersOf
  rw [List.length_map]
  induction E with
  | nil => simp
  | cons e E ih =>
    by_cases h1 : e.2 = z
    · have h2 : (F ++ [z]).all (fun f => decide (f < e.2)) = false := by rw [List.all_append]; simp [h1]
      have h3 : F.all (fun f => decide (f < e.2)) = true := by rw [List.all_eq_true]; intro f hf; simp [h1]; exact hlt f hf
      have hb : (e.2 == z) = true := by simp [h1]
      simp only [List.filter_cons, h2, h3, hb, if_true, Bool.false_eq_true, if_false, List.length_cons]; omega
    · have hb : (e.2 == z) = false := by simp [h1]
      by_cases h2 : (F ++ [z]).all (fun f => decide (f < e.2)) = true
      · have h3 : F.all (fun f => decide (f < e.2)) = true := by rw [List.all_append, Bool.and_eq_true] at h2; exact h2.1
        simp only [List.filter_cons, h2, h3, hb, if_true, Bool.false_eq_true, if_false, List.length_cons]; omega
      · rw [Bool.not_eq_true] at h2
        by_cases h3 : F.all (fun f => decide (f < e.2)) = true
        · simp only [List.filter_cons, h2, h3, hb, if_true, Bool.false_eq_true, if_false, List.length_cons]; omega
        · rw [Bool.not_eq_true] at h3
          simp only [List.filter_cons, h2, h3, hb, Bool.false_eq_true, if_false]; omega
theorem above_le (E : Ed) (F : List Int) : aboveE E F ≤ E.length := by unfold aboveE; exact List.length_filter_le _ _
end Go.Proofs.Ytongeppdaeekeaa
