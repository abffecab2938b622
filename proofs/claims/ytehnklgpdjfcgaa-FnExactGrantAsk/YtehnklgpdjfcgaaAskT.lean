/- Askings of grants, as plain functions. -/
import Derived.Test.YtehnklgpdjfcgaaBoxG
import Derived.Lib.Bytealg
namespace Go.Proofs.Ytehnklgpdjfcgaa
open Go.RowKit

/-- who asks -/
structure Aq where
  tp : ByteArray
  si : ByteArray
  tc : Bool
  sa : Bool
  re : Bool
  ye : Bool
def aqV (a : Aq) : Value := .agg #[.string a.tp, .string a.si, .bool a.tc, .bool a.sa, .bool a.re, .bool a.ye]
/-- does a site go by https? -/
def httpsB (s : ByteArray) : Bool := Lib.hasPrefix s.data.toList [104, 116, 116, 112, 115, 58, 47, 47]
/-- nothing new is wanted -/
def freeG (L : List Gr) (a : Aq) (now : Int) : Bool := (a.tp.toList == a.si.toList) || hereG L a.tp a.si now
def askR (L : List Gr) (a : Aq) (now : Int) : GO :=
  if freeG L a now = true then ⟨L, false, 0⟩
  else if (a.sa || !(httpsB a.si)) = true then noG 11
  else if a.tc = false then noG 10
  else if (!a.re && !a.ye) = true then ⟨L, true, 11⟩
  else ⟨(putR L a.tp a.si now).ar, true, (putR L a.tp a.si now).co⟩
def askG (L : List Gr) (a : Aq) (now : Int) : GO := if L.length ≤ 400 then (if mayG L a.tp a.si now = true then askR L a now else noG 1) else noG 2
theorem put_may {L : List Gr} {tp si : ByteArray} {now : Int} (h : mayG L tp si now = true) : putG L tp si now = putR L tp si now := by
  unfold putG; rw [if_pos (begin_may h)]
theorem https_short {s : ByteArray} (h : s.size < 8) : httpsB s = false := by
  unfold httpsB
  cases hq : Lib.hasPrefix s.data.toList [104, 116, 116, 112, 115, 58, 47, 47] with
  | false => rfl
  | true =>
    unfold Lib.hasPrefix at hq
    have h1 : s.data.toList.length < 8 := by rw [Array.length_toList]; exact h
    rw [List.isPrefixOf_iff_prefix] at hq
    have := hq.length_le
    simp at this
    omega
theorem https_cut (s : ByteArray) : ((s.extract 0 8).toList == [104, 116, 116, 112, 115, 58, 47, 47]) = httpsB s := by
  unfold httpsB Lib.hasPrefix
  rw [Lib.toList_data]
  have e : (s.extract 0 8).data.toList = s.data.toList.take 8 := by simp [ByteArray.data_extract]
  rw [e, Bool.eq_iff_iff, beq_iff_eq, List.isPrefixOf_iff_prefix, List.prefix_iff_eq_take]
  exact eq_comm
theorem askR_len {L : List Gr} {a : Aq} {now : Int} (h : L.length ≤ 8) : (askR L a now).ar.length ≤ 8 := by
  unfold askR
  split
  · exact h
  · split
    · exact Nat.zero_le _
    · split
      · exact Nat.zero_le _
      · split
        · exact h
        · exact putR_len _ _ _ _
theorem askG_len (L : List Gr) (a : Aq) (now : Int) : (askG L a now).ar.length ≤ 8 := by
  unfold askG
  split
  · split
    · rename_i h
      exact askR_len (grantsB_parts (mayG_parts h).1).1
    · exact Nat.zero_le _
  · exact Nat.zero_le _
end Go.Proofs.Ytehnklgpdjfcgaa
