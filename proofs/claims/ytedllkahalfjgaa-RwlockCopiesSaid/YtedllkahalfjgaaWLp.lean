/- The body of a function's first loop; a post whose other exits are shut. -/
import Derived.Test.YtedllkahalfjgaaWFr
namespace Go.Proofs.Ytedllkahalfjgaa
open Go Go.RowKit

/-- The body of the first loop. -/
def loopOf : Code → Option Code
  | .loop b => some b
  | .seq a b => (loopOf a).or (loopOf b)
  | .cond _ a b => (loopOf a).or (loopOf b)
  | .block _ b => loopOf b
  | .scope b => loopOf b
  | _ => none
theorem wp_calmW {P : Program} {c : Code} {Q : Exit → Act → World → Prop} {a : Act} {w : World} (h : c.wp P (Exit.then (Q .normal) (fun _ _ _ => False)) a w) : c.wp P Q a w :=
  Code.wp_mono (Q := Exit.then (Q .normal) (fun _ _ _ => False)) (fun e _ _ hq => by cases e <;> first | exact hq | exact hq.elim) h
end Go.Proofs.Ytedllkahalfjgaa
