/- Entry: the structure. Written by rowsin.py. -/
import Derived.Test.YtimmoclemcnhnaaBase
namespace Go.Proofs.Ytimmoclemcnhnaa
open Go.RowKit

structure En where
  ke : ByteArray
  na : ByteArray
  va : ByteArray
/-- the value of a field, by its place -/
def enC (c : En) (o : Nat) : Value := if o = 0 then .string c.ke else if o = 1 then .string c.na else .string c.va
/-- as a value -/
def enV (c : En) : Value := .agg #[.string c.ke, .string c.na, .string c.va]
def enNone : En := ⟨⟨#[]⟩, ⟨#[]⟩, ⟨#[]⟩⟩
end Go.Proofs.Ytimmoclemcnhnaa
