/- The walks of PutText and its law: both answer the length's bytes and the text behind them. -/
import Derived.Test.YtcnimhkabeapkaeNumWalk
import Derived.Test.YtcnimhkabeapkaeTogether
namespace Go.Proofs.Ytcnimhkabeapkae
open Go.RowKit

/-- the bytes of a text's length, and the text -/
def textB (t : ByteArray) : ByteArray := ⟨(numB (foldN (t.size : Int))).toArray⟩ ++ t
theorem head_small (t : ByteArray) (h : t.size ≤ 1048576) : (⟨(numB (foldN (t.size : Int))).toArray⟩ : ByteArray).size ≤ 10 := numB_ten (foldN_lt (by omega) (by omega))

set_option maxHeartbeats 400000 in
theorem specPutText_no (t : ByteArray) (w : World) (h : 8000 < t.size) :
    Calls Try.prog 7 #[.string t] w fun e w' => e = .returned (.string ByteArray.empty) ∧ Below w.heap.size w w' := by
  go_enter Try.func7, Try.ntmps7
  go_wp2
  go_ret
  exact ⟨rfl, Below.refl _ _⟩

set_option maxHeartbeats 400000 in
theorem implPutText_no (t : ByteArray) (w : World) (h : 8000 < t.size) :
    Calls Try.prog 8 #[.string t] w fun e w' => e = .returned (.string ByteArray.empty) ∧ Below w.heap.size w w' := by
  go_enter Try.func8, Try.ntmps8
  go_wp2
  go_ret
  exact ⟨rfl, Below.refl _ _⟩

set_option maxHeartbeats 400000 in
theorem specPutText_yes (t : ByteArray) (w : World) (h : t.size ≤ 8000) :
    Calls Try.prog 7 #[.string t] w fun e w' => e = .returned (.string (textB t)) ∧ Below w.heap.size w w' := by
  have hh := head_small t (by omega)
  have H1 := fun W => specPutNum_any (t.size : Int) W (by omega) (by omega)
  have HT : Hid (textB t = ⟨(numB (foldN (t.size : Int))).toArray⟩ ++ t) := rfl
  generalize (⟨(numB (foldN (t.size : Int))).toArray⟩ : ByteArray) = b at *
  have G1 : Hid (∀ W, Calls Try.prog 15 #[.int .i64 (t.size : Int)] W fun e w' => e = .returned (.string b) ∧ Below W.heap.size W w') := H1
  clear H1
  go_enter Try.func7, Try.ntmps7
  go_wp2_with fail
  refine (G1.out _).mono ?_
  rintro e w1 ⟨rfl, hb1⟩
  go_wp2
  go_ret
  exact ⟨ret_text HT.out.symm, hb1⟩

set_option maxHeartbeats 400000 in
theorem implPutText_yes (t : ByteArray) (w : World) (h : t.size ≤ 8000) :
    Calls Try.prog 8 #[.string t] w fun e w' => e = .returned (.string (textB t)) ∧ Below w.heap.size w w' := by
  have hh := head_small t (by omega)
  have H1 := fun W => implPutNum_any (t.size : Int) W (by omega) (by omega)
  have HT : Hid (textB t = ⟨(numB (foldN (t.size : Int))).toArray⟩ ++ t) := rfl
  generalize (⟨(numB (foldN (t.size : Int))).toArray⟩ : ByteArray) = b at *
  have G1 : Hid (∀ W, Calls Try.prog 17 #[.int .i64 (t.size : Int)] W fun e w' => e = .returned (.string b) ∧ Below W.heap.size W w') := H1
  clear H1
  go_enter Try.func8, Try.ntmps8
  go_wp2_with fail
  refine (G1.out _).mono ?_
  rintro e w1 ⟨rfl, hb1⟩
  go_wp2_with fail
  refine (together_any b t _ (by omega)).mono ?_
  rintro e w2 ⟨rfl, hb2⟩
  go_wp2
  go_ret
  exact ⟨ret_text HT.out.symm, hb1.trans (hb2.mono hb1.size)⟩

theorem putText_same (t : ByteArray) : ∃ b : ByteArray,
    (∀ W, Calls Try.prog 7 #[.string t] W fun e w' => e = .returned (.string b) ∧ Below W.heap.size W w') ∧
    (∀ W, Calls Try.prog 8 #[.string t] W fun e w' => e = .returned (.string b) ∧ Below W.heap.size W w') := by
  by_cases h : 8000 < t.size
  · exact ⟨_, fun W => specPutText_no t W h, fun W => implPutText_no t W h⟩
  · exact ⟨_, fun W => specPutText_yes t W (by omega), fun W => implPutText_yes t W (by omega)⟩

end Go.Proofs.Ytcnimhkabeapkae
