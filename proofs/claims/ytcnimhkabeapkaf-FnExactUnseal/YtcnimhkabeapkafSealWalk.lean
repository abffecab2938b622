/- The walks of Seal: the program's and the specification's both answer the text and behind it the four bytes of its CRC. -/
import Derived.Test.YtcnimhkabeapkafTogether
import Derived.Test.YtcnimhkabeapkafCrcWalk
namespace Go.Proofs.Ytcnimhkabeapkaf
open Go.RowKit

/-- the four bytes of a number, the lowest first -/
def four (n : Nat) : List UInt8 := [UInt8.ofNat (n % 256), UInt8.ofNat (n / 256 % 256), UInt8.ofNat (n / 65536 % 256), UInt8.ofNat (n / 16777216)]
theorem four_cells (n : Nat) (hn : n < 4294967296) : Lib.byteCells (four n) = [.int .u8 ((n : Int) % 256), .int .u8 ((n : Int) / 256 % 256), .int .u8 ((n : Int) / 65536 % 256), .int .u8 ((n : Int) / 16777216)] := by
  have h : n / 16777216 < 256 := by omega
  simp [Lib.byteCells, four]
  omega
theorem four_row (n : Nat) (w : World) (t : TypeId) (hn : n < 4294967296) :
    RowAt (w.alloc (.cells #[.int .u8 ((n : Int) % 256), .int .u8 ((n : Int) / 256 % 256), .int .u8 ((n : Int) / 65536 % 256), .int .u8 ((n : Int) / 16777216)] t)) w.heap.size t (Lib.byteCells (four n) ++ []) := by
  rw [four_cells n hn]
  unfold RowAt; rw [heap_alloc_new]; simp

set_option maxHeartbeats 400000 in
theorem specFour_any (n : Nat) (w : World) (hn : n < 4294967296) :
    Calls Try.prog 18 #[.int .i64 n] w fun e w' => e = .returned (.string ⟨(four n).toArray⟩) ∧ Below w.heap.size w w' := by
  go_enter Try.func18, Try.ntmps18
  go_wp2_with fail
  rw [text_of_row (P := Try.prog) _ 43 9 5 Try.underlying43 Try.underlying5 Try.underlying9 w.heap.size 4 4 5 _ _ (four_row n w _ hn) rfl]
  go_wp2
  go_ret
  exact ⟨rfl, (Below.refl _ _).alloc (Nat.le_refl _) _⟩

set_option maxHeartbeats 400000 in
theorem crcText_any (n : Nat) (w : World) (hn : n < 4294967296) :
    Calls Try.prog 21 #[.int .i64 n] w fun e w' => e = .returned (.string ⟨(four n).toArray⟩) ∧ Below w.heap.size w w' := by
  go_enter Try.func21, Try.ntmps21
  go_wp2
  refine wp_loop_rounds 5 ?_
  rw [rounds_succ]; go_wp2
  rw [rounds_succ]; go_wp2
  rw [rounds_succ]; go_wp2
  rw [rounds_succ]; go_wp2
  rw [rounds_succ]; go_wp2
  rw [text_of_row (P := Try.prog) _ 43 9 5 Try.underlying43 Try.underlying5 Try.underlying9 w.heap.size 4 4 45 _ _ (four_row n w _ hn) rfl]
  go_wp2
  go_ret
  exact ⟨rfl, (Below.refl _ _).alloc (Nat.le_refl _) _⟩

/-- the seal of a text -/
def sealB (s : ByteArray) : ByteArray := s ++ ⟨(four (crcOf 0 s)).toArray⟩
theorem crcOf_lt (s : ByteArray) : crcOf 0 s < 4294967296 := xor_lt (reg_lt (by decide) _) (by omega)

set_option maxHeartbeats 400000 in
theorem specSeal_yes (s : ByteArray) (w : World) (hs : s.size ≤ 7996) :
    Calls Try.prog 7 #[.string s] w fun e w' => e = .returned (.string (sealB s)) ∧ Below w.heap.size w w' := by
  have hc := crcOf_lt s
  have HS : Hid (sealB s = s ++ ⟨(four (crcOf 0 s)).toArray⟩) := rfl
  have hf : (⟨(four (crcOf 0 s)).toArray⟩ : ByteArray).size ≤ 4 := Nat.le_of_eq rfl
  go_enter Try.func7, Try.ntmps7
  go_wp2_with fail
  refine (specCrc_any 0 s _ (by omega) (by unfold maxLen; omega)).mono ?_
  rintro e w1 ⟨rfl, rfl⟩
  go_wp2_with fail
  refine (specFour_any _ _ hc).mono ?_
  generalize (⟨(four (crcOf 0 s)).toArray⟩ : ByteArray) = f at *
  rintro e w2 ⟨rfl, hb⟩
  go_wp2
  go_ret
  exact ⟨ret_text HS.out.symm, hb⟩

set_option maxHeartbeats 400000 in
theorem implSeal_yes (s : ByteArray) (w : World) (hs : s.size ≤ 7996) :
    Calls Try.prog 8 #[.string s] w fun e w' => e = .returned (.string (sealB s)) ∧ Below w.heap.size w w' := by
  have hc := crcOf_lt s
  have HS : Hid (sealB s = s ++ ⟨(four (crcOf 0 s)).toArray⟩) := rfl
  have hf : (⟨(four (crcOf 0 s)).toArray⟩ : ByteArray).size ≤ 4 := Nat.le_of_eq rfl
  go_enter Try.func8, Try.ntmps8
  go_wp2_with fail
  refine (implCrc_yes s _ (by omega)).mono ?_
  rintro e w1 ⟨rfl, rfl⟩
  go_wp2_with fail
  refine (crcText_any _ _ hc).mono ?_
  generalize (⟨(four (crcOf 0 s)).toArray⟩ : ByteArray) = f at *
  rintro e w2 ⟨rfl, hb⟩
  go_wp2_with fail
  refine (together_any s f _ (by omega)).mono ?_
  rintro e w3 ⟨rfl, hb2⟩
  go_wp2
  go_ret
  exact ⟨ret_text HS.out.symm, hb.trans (hb2.mono hb.size)⟩

set_option maxHeartbeats 400000 in
theorem specSeal_no (s : ByteArray) (w : World) (hs : 7996 < s.size) :
    Calls Try.prog 7 #[.string s] w fun e w' => e = .returned (.string ByteArray.empty) ∧ w' = w := by
  go_enter Try.func7, Try.ntmps7
  go_wp2
  go_ret
  exact ⟨rfl, rfl⟩

set_option maxHeartbeats 400000 in
theorem implSeal_no (s : ByteArray) (w : World) (hs : 7996 < s.size) :
    Calls Try.prog 8 #[.string s] w fun e w' => e = .returned (.string ByteArray.empty) ∧ w' = w := by
  go_enter Try.func8, Try.ntmps8
  go_wp2
  go_ret
  exact ⟨rfl, rfl⟩

end Go.Proofs.Ytcnimhkabeapkaf
