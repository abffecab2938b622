/- The law FnExactUrlRead, walked, over what the program's UrlRead answers. -/
import Derived.Test.YtknjkakokcblnaaDoorSpecUrlRead
namespace Go.Proofs.YtknjkakokcblnaaDoor
open Go.RowKit


/-- what UrlRead tells -/
def readV (t : ByteArray) : Value := if 8000 < t.size then urlOut ⟨#[]⟩ ⟨#[]⟩ ⟨#[]⟩ 0 2 else if readOk t = true then urlOut (readU t).1 (readU t).2.1 (readU t).2.2.2 (readU t).2.2.1 0 else urlOut ⟨#[]⟩ ⟨#[]⟩ ⟨#[]⟩ 0 3
theorem readV_form (t : ByteArray) : ∃ sc ho pa po c, readV t = .agg #[.string sc, .string ho, .int .i64 po, .string pa, .int .i64 c] := by
  unfold readV
  split
  · exact ⟨_, _, _, _, _, rfl⟩
  · split
    · exact ⟨_, _, _, _, _, rfl⟩
    · exact ⟨_, _, _, _, _, rfl⟩
theorem specUrlRead_any (t : ByteArray) (w : World) :
    Calls Tryd.prog 22 #[.string t] w fun e w' => e = .returned (readV t) ∧ Below w.heap.size w w' := by
  unfold readV
  by_cases h : 8000 < t.size
  · rw [if_pos h]; exact specUrlRead_size t w h
  · rw [if_neg h]; exact specUrlRead_more t w (by omega)

end Go.Proofs.YtknjkakokcblnaaDoor
