/- Which statements may be: what the document's may is asked. -/
import Derived.Test.YtiafdlebggegfabFits
import Derived.Test.YtiafdlebggegfabStmt
namespace Go.Proofs.Ytiafdlebggegfab
open Go.RowKit Go.Maps Go.WideMaps
set_option linter.unusedVariables false

theorem below_drewN {B : Nat} {w w' : World} (h : Below B w w') (n : Nat) : Below B w (w'.drewN n) := by
  induction n with
  | zero => exact h
  | succ n ih => exact ih.drew
def MayC (M : Nat) : Prop := ∀ (a : EL) (b e : SL), a.cnt + b.cnt + e.cnt < M → ∀ (k : Int) (s : ByteArray) (c : Int) (aa ab ae : Option Addr) (ca cb ce : Nat) (bl : Int) (w : World), s.size ≤ maxLen → 0 ≤ bl → bl ≤ 12 → ESl w (.slice aa a.len ca) a → SSl w (.slice ab b.len cb) b → SSl w (.slice ae e.len ce) e →
  SaysB 15 #[sV k s c (.slice aa a.len ca) (.slice ab b.len cb) (.slice ae e.len ce), .int .i64 bl] w
end Go.Proofs.Ytiafdlebggegfab
