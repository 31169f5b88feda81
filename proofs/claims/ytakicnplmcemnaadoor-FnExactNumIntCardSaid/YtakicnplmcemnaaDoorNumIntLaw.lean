/-
  At every int, the law FnExactNumInt answers true: the program's NumInt answers as the model's. Conditions: none beyond the card's own (the statement FnExactNumIntCardSaid, as it was given; the table that it lists is tied to the program's text by the texts given with the seat).
-/
import Derived.Test.YtakicnplmcemnaaDoorRows
import Derived.Test.YtakicnplmcemnaaDoorTie
import Derived.Test.YtakicnplmcemnaaDoorCards
import Derived.Test.YtakicnplmcemnaaDoorPart5
import Derived.SevenTiedAt
namespace Go.Proofs.YtakicnplmcemnaaDoor.numIntLaw
open Go.ChangeShapes Go.WideShapes Go.ChangeAt Go.RowKit Go.Siskin

theorem wf_int {n : Int} (h : (Lit.int .i64 n).wf = true) : -9223372036854775808 ≤ n ∧ n ≤ 9223372036854775807 := by
  simp only [Lit.wf, Bool.and_eq_true, decide_eq_true_eq] at h
  exact ⟨Int.le_trans (by decide) h.1, Int.le_trans h.2 (by decide)⟩

end Go.Proofs.YtakicnplmcemnaaDoor.numIntLaw
namespace Go.Proofs.YtakicnplmcemnaaDoor

#print axioms numIntLaw_holds
end Go.Proofs.YtakicnplmcemnaaDoor
