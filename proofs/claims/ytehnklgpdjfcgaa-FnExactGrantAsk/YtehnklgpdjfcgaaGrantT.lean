/- Grant: the structure. Written by rowsin.py. -/
import Derived.Test.YtehnklgpdjfcgaaBase
namespace Go.Proofs.Ytehnklgpdjfcgaa
open Go.RowKit

structure Gr where
  tp : ByteArray
  si : ByteArray
  un : Int
/-- the value of a field, by its place -/
def grC (c : Gr) (o : Nat) : Value := if o = 0 then .string c.tp else if o = 1 then .string c.si else .int .i64 c.un
/-- as a value -/
def grV (c : Gr) : Value := .agg #[.string c.tp, .string c.si, .int .i64 c.un]
def grNone : Gr := ⟨⟨#[]⟩, ⟨#[]⟩, 0⟩
end Go.Proofs.Ytehnklgpdjfcgaa
