/- The walks of the specification's l01Split and HostRight. -/
import Derived.Test.YtehnklgpdjfcgaaSplit
import Derived.Test.YtehnklgpdjfcgaaSpecLabel
namespace Go.Proofs.Ytehnklgpdjfcgaa
open Go.RowKit

theorem infoStr : (Try.prog.info? 9).map (fun i => (i.zero, i.size, i.bytes)) = some (some (.string ⟨#[]⟩), 1, 16) := by kernel_rfl
/-- the cells of texts -/
def strCells (L : List ByteArray) : List Value := L.map Value.string
theorem strCells_snoc (L : List ByteArray) (x : ByteArray) : strCells L ++ [.string x] = strCells (L ++ [x]) := by simp [strCells]

theorem splitB_ne (s : ByteArray) (c : Nat) : ∃ n, (splitB s c).length = n + 1 := ⟨(splitTo s c s.size).1.length, by simp [splitB]⟩

end Go.Proofs.Ytehnklgpdjfcgaa
