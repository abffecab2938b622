/- 7 of this claim's texts, one behind the other. -/
import Derived.Test.YthcpmbolnmlohaaShelf
import Derived.Test.YthcpmbolnmlohaaPart1
import Derived.Shelf.Strings.OnBuilder
import Derived.WalkKit
import Derived.WalkSpells
import Derived.WalkLawsBesides
import Derived.Deep.RegionHeld3
/- A row of texts that is owned, joined by the library. -/
namespace Go.Proofs.Ythcpmbolnmlohaa
open Go.RowKit

theorem builderX : Builder.Extra Try.prog Try.lays156_ren where
  sizeBuilder := by kernel_rfl
  liesBuilder := by kernel_rfl
  t5 := Try.underlying5
  a5 := Try.isAgg5
  z5 := Try.sizeOf5
  v5 := Try.zeroValue5
  infoByte := by kernel_rfl
  cellsByte := by kernel_rfl
  sizeByte := by kernel_rfl
  neB5 := by decide
/-- texts with sep between -/
def joinB (L : List ByteArray) (sep : ByteArray) : ByteArray := ⟨(Lib.join (L.map (·.data.toList)) sep.data.toList).toArray⟩
theorem join_own (L : List ByteArray) (v : Value) (B : Nat) (t : TypeId) (sep : ByteArray) (w : World) (h : w.ownsRow B t 1 v L.length (strCells L)) (hN : L.length ≤ 140737488355328) (hz : (joinB L sep).size ≤ 140737488355328) :
    Calls Try.prog 19 #[v, .string sep] w fun e w' => e = .returned (.string (joinB L sep)) ∧ Below w.heap.size w w' := by
  obtain ⟨p, c, rfl, hs⟩ := slice_of_own h
  by_cases h0 : L.length = 0
  · have hL : L = [] := List.length_eq_zero_iff.1 h0
    subst hL
    exact (Any.strings_Join_none Try.lays156 builderX p c sep w).mono fun _ _ ⟨h1, h2⟩ => ⟨h1, h2 ▸ Below.refl _ _⟩
  · obtain ⟨g, rfl, -, hg, hc⟩ := hs (by omega)
    have hcap : L.length ≤ c := by
      obtain ⟨_, ⟨e, h0'⟩ | ⟨g', cap, cur, e, _, _, hle, _⟩⟩ := h
      · omega
      · injection e with _ _ e3
        omega
    refine Any.strings_Join Try.lays156 builderX g 0 c L sep w (fun j x hj => ?_) hg hN hcap hz
    obtain ⟨hj1, rfl⟩ := List.getElem?_eq_some_iff.1 hj
    have e : atL L j = L[j] := by simp [atL, hj1]
    rw [Nat.zero_add, ← e]
    exact (hc j hj1).1
/-- a row of one text, built -/
theorem own_one (w : World) (t : TypeId) (x : ByteArray) : (w.alloc (.cells #[.string x] t)).ownsRow w.heap.size t 1 (.slice (some ⟨w.heap.size, 0, none⟩) 1 1) [x].length (strCells [x]) :=
  ⟨rfl, .inr ⟨w.heap.size, 1, #[.string x], rfl, Nat.le_refl _, heap_alloc_new w _, Nat.le_refl _, by decide, rfl, rfl⟩⟩
end Go.Proofs.Ythcpmbolnmlohaa

/- Texts joined by '; ' are their flat text. -/
namespace Go.Proofs.Ythcpmbolnmlohaa
open Go.RowKit

theorem join_flat (p : ByteArray) (r : List ByteArray) : joinB (p :: r) semi = p ++ flat r := by
  apply ByteArray.ext
  apply Array.toList_inj.1
  show Lib.join ((p :: r).map (·.data.toList)) semi.data.toList = _
  rw [List.map_cons, Lib.join_cons]
  have e : ∀ r : List ByteArray, Lib.joinTail semi.data.toList (r.map (·.data.toList)) = (flat r).data.toList := by
    intro r
    induction r with
    | nil => rfl
    | cons q r ih =>
      have e2 : (flat (q :: r)).data.toList = semi.data.toList ++ q.data.toList ++ (flat r).data.toList := by show (semi ++ q ++ flat r).data.toList = _; simp
      rw [e2, ← ih]
      unfold Lib.joinTail
      simp
  rw [e]; simp
theorem len_snoc (L : List ByteArray) (x : ByteArray) : (L ++ [x]).length = L.length + 1 := by simp
theorem own_cast {w : World} {B n m : Nat} {t : TypeId} {v : Value} {xs ys : List Value} (h : w.ownsRow B t 1 v n xs) (hn : n = m) (hx : xs = ys) : w.ownsRow B t 1 v m ys := hn ▸ hx ▸ h
theorem joinB_nil (sep : ByteArray) : joinB [] sep = ⟨#[]⟩ := rfl
end Go.Proofs.Ythcpmbolnmlohaa

/- The walks of the program's isSmall, isDigit, inWord and WordRight. Written by implword.py. -/
namespace Go.Proofs.Ythcpmbolnmlohaa
open Go.RowKit

def betw (n lo hi : Nat) : Bool := decide (lo ≤ n ∧ n ≤ hi)
theorem betw_yes {n lo hi : Nat} (h1 : lo ≤ n) (h2 : n ≤ hi) : betw n lo hi = true := by unfold betw; rw [decide_eq_true_iff]; exact ⟨h1, h2⟩
theorem betw_no {n lo hi : Nat} (h : ¬ (lo ≤ n ∧ n ≤ hi)) : betw n lo hi = false := by unfold betw; rw [decide_eq_false_iff_not]; exact h
set_option maxRecDepth 10000 in
theorem isSmallW_any (n : Nat) (w : World) : Calls Try.prog 21 #[.int .u8 (n : Int)] w fun e w' => e = .returned (.bool (betw n 97 122)) ∧ w' = w := by
  rcases (show (n < 97) ∨ (97 ≤ n ∧ n ≤ 122) ∨ (122 < n) by omega) with c1 | ⟨c1, c2⟩ | c1
  · have b1 : decide ((97 : Int) ≤ (n : Int)) = false := by rw [decide_eq_false_iff_not]; omega
    go_enter Try.func21, Try.ntmps21
    go_wp2
    go_ret
    exact ⟨ret_bool (betw_no (by omega)).symm, rfl⟩
  · go_enter Try.func21, Try.ntmps21
    go_wp2
    go_ret
    exact ⟨ret_bool (by rw [betw_yes c1 c2, decide_eq_true_iff]; omega), rfl⟩
  · have b1 : decide ((n : Int) ≤ 122) = false := by rw [decide_eq_false_iff_not]; omega
    go_enter Try.func21, Try.ntmps21
    go_wp2
    go_ret
    exact ⟨ret_bool (betw_no (by omega)).symm, rfl⟩
set_option maxRecDepth 10000 in
theorem isDigitW_any (n : Nat) (w : World) : Calls Try.prog 22 #[.int .u8 (n : Int)] w fun e w' => e = .returned (.bool (betw n 48 57)) ∧ w' = w := by
  rcases (show (n < 48) ∨ (48 ≤ n ∧ n ≤ 57) ∨ (57 < n) by omega) with c1 | ⟨c1, c2⟩ | c1
  · have b1 : decide ((48 : Int) ≤ (n : Int)) = false := by rw [decide_eq_false_iff_not]; omega
    go_enter Try.func22, Try.ntmps22
    go_wp2
    go_ret
    exact ⟨ret_bool (betw_no (by omega)).symm, rfl⟩
  · go_enter Try.func22, Try.ntmps22
    go_wp2
    go_ret
    exact ⟨ret_bool (by rw [betw_yes c1 c2, decide_eq_true_iff]; omega), rfl⟩
  · have b1 : decide ((n : Int) ≤ 57) = false := by rw [decide_eq_false_iff_not]; omega
    go_enter Try.func22, Try.ntmps22
    go_wp2
    go_ret
    exact ⟨ret_bool (betw_no (by omega)).symm, rfl⟩
set_option maxRecDepth 10000 in
set_option maxHeartbeats 2000000 in
theorem inWord_any (n : Nat) (w : World) : Calls Try.prog 12 #[.int .u8 (n : Int)] w fun e w' => e = .returned (.bool (wordC n)) ∧ w' = w := by
  have K1 : Hid (∀ W, Calls Try.prog 21 #[.int .u8 (n : Int)] W fun e w' => e = .returned (.bool (betw n 97 122)) ∧ w' = W) := fun W => isSmallW_any n W
  have K2 : Hid (∀ W, Calls Try.prog 22 #[.int .u8 (n : Int)] W fun e w' => e = .returned (.bool (betw n 48 57)) ∧ w' = W) := fun W => isDigitW_any n W
  rcases (show (n ≤ 44) ∨ (45 ≤ n ∧ n ≤ 45) ∨ (46 ≤ n ∧ n ≤ 46) ∨ (47 ≤ n ∧ n ≤ 47) ∨ (48 ≤ n ∧ n ≤ 57) ∨ (58 ≤ n ∧ n ≤ 64) ∨ (65 ≤ n ∧ n ≤ 90) ∨ (91 ≤ n ∧ n ≤ 94) ∨ (95 ≤ n ∧ n ≤ 95) ∨ (96 ≤ n ∧ n ≤ 96) ∨ (97 ≤ n ∧ n ≤ 122) ∨ (123 ≤ n) by omega)
    with c1 | ⟨c1, c2⟩ | ⟨c1, c2⟩ | ⟨c1, c2⟩ | ⟨c1, c2⟩ | ⟨c1, c2⟩ | ⟨c1, c2⟩ | ⟨c1, c2⟩ | ⟨c1, c2⟩ | ⟨c1, c2⟩ | ⟨c1, c2⟩ | c1
  · have HW : Hid (wordC n = false) := wordC_no (by omega)
    rw [betw_no (by omega)] at K1
    rw [betw_no (by omega)] at K2
    have b1 : decide ((65 : Int) ≤ (n : Int)) = false := by rw [decide_eq_false_iff_not]; omega
    have b2 : decide ((n : Int) ≤ 90) = true := by rw [decide_eq_true_iff]; omega
    have b3 : ((n : Int) == 95) = false := by rw [beq_eq_false_iff_ne]; omega
    have b4 : ((n : Int) == 45) = false := by rw [beq_eq_false_iff_ne]; omega
    have b5 : ((n : Int) == 46) = false := by rw [beq_eq_false_iff_ne]; omega
    go_enter Try.func12, Try.ntmps12
    go_wp2_with (first | (go_at_call 21; refine (K1.out _).mono ?_; rintro e w1 ⟨rfl, rfl⟩) | (go_at_call 22; refine (K2.out _).mono ?_; rintro e w2 ⟨rfl, rfl⟩))
    go_ret
    exact ⟨ret_bool HW.out.symm, rfl⟩
  · have HW : Hid (wordC n = true) := wordC_yes (by omega)
    rw [betw_no (by omega)] at K1
    rw [betw_no (by omega)] at K2
    have b1 : decide ((65 : Int) ≤ (n : Int)) = false := by rw [decide_eq_false_iff_not]; omega
    have b2 : decide ((n : Int) ≤ 90) = true := by rw [decide_eq_true_iff]; omega
    have b3 : ((n : Int) == 95) = false := by rw [beq_eq_false_iff_ne]; omega
    have b4 : ((n : Int) == 45) = true := by rw [beq_iff_eq]; omega
    have b5 : ((n : Int) == 46) = false := by rw [beq_eq_false_iff_ne]; omega
    go_enter Try.func12, Try.ntmps12
    go_wp2_with (first | (go_at_call 21; refine (K1.out _).mono ?_; rintro e w1 ⟨rfl, rfl⟩) | (go_at_call 22; refine (K2.out _).mono ?_; rintro e w2 ⟨rfl, rfl⟩))
    go_ret
    exact ⟨ret_bool HW.out.symm, rfl⟩
  · have HW : Hid (wordC n = true) := wordC_yes (by omega)
    rw [betw_no (by omega)] at K1
    rw [betw_no (by omega)] at K2
    have b1 : decide ((65 : Int) ≤ (n : Int)) = false := by rw [decide_eq_false_iff_not]; omega
    have b2 : decide ((n : Int) ≤ 90) = true := by rw [decide_eq_true_iff]; omega
    have b3 : ((n : Int) == 95) = false := by rw [beq_eq_false_iff_ne]; omega
    have b4 : ((n : Int) == 45) = false := by rw [beq_eq_false_iff_ne]; omega
    have b5 : ((n : Int) == 46) = true := by rw [beq_iff_eq]; omega
    go_enter Try.func12, Try.ntmps12
    go_wp2_with (first | (go_at_call 21; refine (K1.out _).mono ?_; rintro e w1 ⟨rfl, rfl⟩) | (go_at_call 22; refine (K2.out _).mono ?_; rintro e w2 ⟨rfl, rfl⟩))
    go_ret
    exact ⟨ret_bool HW.out.symm, rfl⟩
  · have HW : Hid (wordC n = false) := wordC_no (by omega)
    rw [betw_no (by omega)] at K1
    rw [betw_no (by omega)] at K2
    have b1 : decide ((65 : Int) ≤ (n : Int)) = false := by rw [decide_eq_false_iff_not]; omega
    have b2 : decide ((n : Int) ≤ 90) = true := by rw [decide_eq_true_iff]; omega
    have b3 : ((n : Int) == 95) = false := by rw [beq_eq_false_iff_ne]; omega
    have b4 : ((n : Int) == 45) = false := by rw [beq_eq_false_iff_ne]; omega
    have b5 : ((n : Int) == 46) = false := by rw [beq_eq_false_iff_ne]; omega
    go_enter Try.func12, Try.ntmps12
    go_wp2_with (first | (go_at_call 21; refine (K1.out _).mono ?_; rintro e w1 ⟨rfl, rfl⟩) | (go_at_call 22; refine (K2.out _).mono ?_; rintro e w2 ⟨rfl, rfl⟩))
    go_ret
    exact ⟨ret_bool HW.out.symm, rfl⟩
  · have HW : Hid (wordC n = true) := wordC_yes (by omega)
    rw [betw_no (by omega)] at K1
    rw [betw_yes (by omega) (by omega)] at K2
    have b1 : decide ((65 : Int) ≤ (n : Int)) = false := by rw [decide_eq_false_iff_not]; omega
    have b2 : decide ((n : Int) ≤ 90) = true := by rw [decide_eq_true_iff]; omega
    have b3 : ((n : Int) == 95) = false := by rw [beq_eq_false_iff_ne]; omega
    have b4 : ((n : Int) == 45) = false := by rw [beq_eq_false_iff_ne]; omega
    have b5 : ((n : Int) == 46) = false := by rw [beq_eq_false_iff_ne]; omega
    go_enter Try.func12, Try.ntmps12
    go_wp2_with (first | (go_at_call 21; refine (K1.out _).mono ?_; rintro e w1 ⟨rfl, rfl⟩) | (go_at_call 22; refine (K2.out _).mono ?_; rintro e w2 ⟨rfl, rfl⟩))
    go_ret
    exact ⟨ret_bool HW.out.symm, rfl⟩
  · have HW : Hid (wordC n = false) := wordC_no (by omega)
    rw [betw_no (by omega)] at K1
    rw [betw_no (by omega)] at K2
    have b1 : decide ((65 : Int) ≤ (n : Int)) = false := by rw [decide_eq_false_iff_not]; omega
    have b2 : decide ((n : Int) ≤ 90) = true := by rw [decide_eq_true_iff]; omega
    have b3 : ((n : Int) == 95) = false := by rw [beq_eq_false_iff_ne]; omega
    have b4 : ((n : Int) == 45) = false := by rw [beq_eq_false_iff_ne]; omega
    have b5 : ((n : Int) == 46) = false := by rw [beq_eq_false_iff_ne]; omega
    go_enter Try.func12, Try.ntmps12
    go_wp2_with (first | (go_at_call 21; refine (K1.out _).mono ?_; rintro e w1 ⟨rfl, rfl⟩) | (go_at_call 22; refine (K2.out _).mono ?_; rintro e w2 ⟨rfl, rfl⟩))
    go_ret
    exact ⟨ret_bool HW.out.symm, rfl⟩
  · have HW : Hid (wordC n = true) := wordC_yes (by omega)
    rw [betw_no (by omega)] at K1
    rw [betw_no (by omega)] at K2
    have b1 : decide ((65 : Int) ≤ (n : Int)) = true := by rw [decide_eq_true_iff]; omega
    have b2 : decide ((n : Int) ≤ 90) = true := by rw [decide_eq_true_iff]; omega
    have b3 : ((n : Int) == 95) = false := by rw [beq_eq_false_iff_ne]; omega
    have b4 : ((n : Int) == 45) = false := by rw [beq_eq_false_iff_ne]; omega
    have b5 : ((n : Int) == 46) = false := by rw [beq_eq_false_iff_ne]; omega
    go_enter Try.func12, Try.ntmps12
    go_wp2_with (first | (go_at_call 21; refine (K1.out _).mono ?_; rintro e w1 ⟨rfl, rfl⟩) | (go_at_call 22; refine (K2.out _).mono ?_; rintro e w2 ⟨rfl, rfl⟩))
    go_ret
    exact ⟨ret_bool HW.out.symm, rfl⟩
  · have HW : Hid (wordC n = false) := wordC_no (by omega)
    rw [betw_no (by omega)] at K1
    rw [betw_no (by omega)] at K2
    have b1 : decide ((65 : Int) ≤ (n : Int)) = true := by rw [decide_eq_true_iff]; omega
    have b2 : decide ((n : Int) ≤ 90) = false := by rw [decide_eq_false_iff_not]; omega
    have b3 : ((n : Int) == 95) = false := by rw [beq_eq_false_iff_ne]; omega
    have b4 : ((n : Int) == 45) = false := by rw [beq_eq_false_iff_ne]; omega
    have b5 : ((n : Int) == 46) = false := by rw [beq_eq_false_iff_ne]; omega
    go_enter Try.func12, Try.ntmps12
    go_wp2_with (first | (go_at_call 21; refine (K1.out _).mono ?_; rintro e w1 ⟨rfl, rfl⟩) | (go_at_call 22; refine (K2.out _).mono ?_; rintro e w2 ⟨rfl, rfl⟩))
    go_ret
    exact ⟨ret_bool HW.out.symm, rfl⟩
  · have HW : Hid (wordC n = true) := wordC_yes (by omega)
    rw [betw_no (by omega)] at K1
    rw [betw_no (by omega)] at K2
    have b1 : decide ((65 : Int) ≤ (n : Int)) = true := by rw [decide_eq_true_iff]; omega
    have b2 : decide ((n : Int) ≤ 90) = false := by rw [decide_eq_false_iff_not]; omega
    have b3 : ((n : Int) == 95) = true := by rw [beq_iff_eq]; omega
    have b4 : ((n : Int) == 45) = false := by rw [beq_eq_false_iff_ne]; omega
    have b5 : ((n : Int) == 46) = false := by rw [beq_eq_false_iff_ne]; omega
    go_enter Try.func12, Try.ntmps12
    go_wp2_with (first | (go_at_call 21; refine (K1.out _).mono ?_; rintro e w1 ⟨rfl, rfl⟩) | (go_at_call 22; refine (K2.out _).mono ?_; rintro e w2 ⟨rfl, rfl⟩))
    go_ret
    exact ⟨ret_bool HW.out.symm, rfl⟩
  · have HW : Hid (wordC n = false) := wordC_no (by omega)
    rw [betw_no (by omega)] at K1
    rw [betw_no (by omega)] at K2
    have b1 : decide ((65 : Int) ≤ (n : Int)) = true := by rw [decide_eq_true_iff]; omega
    have b2 : decide ((n : Int) ≤ 90) = false := by rw [decide_eq_false_iff_not]; omega
    have b3 : ((n : Int) == 95) = false := by rw [beq_eq_false_iff_ne]; omega
    have b4 : ((n : Int) == 45) = false := by rw [beq_eq_false_iff_ne]; omega
    have b5 : ((n : Int) == 46) = false := by rw [beq_eq_false_iff_ne]; omega
    go_enter Try.func12, Try.ntmps12
    go_wp2_with (first | (go_at_call 21; refine (K1.out _).mono ?_; rintro e w1 ⟨rfl, rfl⟩) | (go_at_call 22; refine (K2.out _).mono ?_; rintro e w2 ⟨rfl, rfl⟩))
    go_ret
    exact ⟨ret_bool HW.out.symm, rfl⟩
  · have HW : Hid (wordC n = true) := wordC_yes (by omega)
    rw [betw_yes (by omega) (by omega)] at K1
    rw [betw_no (by omega)] at K2
    have b1 : decide ((65 : Int) ≤ (n : Int)) = true := by rw [decide_eq_true_iff]; omega
    have b2 : decide ((n : Int) ≤ 90) = false := by rw [decide_eq_false_iff_not]; omega
    have b3 : ((n : Int) == 95) = false := by rw [beq_eq_false_iff_ne]; omega
    have b4 : ((n : Int) == 45) = false := by rw [beq_eq_false_iff_ne]; omega
    have b5 : ((n : Int) == 46) = false := by rw [beq_eq_false_iff_ne]; omega
    go_enter Try.func12, Try.ntmps12
    go_wp2_with (first | (go_at_call 21; refine (K1.out _).mono ?_; rintro e w1 ⟨rfl, rfl⟩) | (go_at_call 22; refine (K2.out _).mono ?_; rintro e w2 ⟨rfl, rfl⟩))
    go_ret
    exact ⟨ret_bool HW.out.symm, rfl⟩
  · have HW : Hid (wordC n = false) := wordC_no (by omega)
    rw [betw_no (by omega)] at K1
    rw [betw_no (by omega)] at K2
    have b1 : decide ((65 : Int) ≤ (n : Int)) = true := by rw [decide_eq_true_iff]; omega
    have b2 : decide ((n : Int) ≤ 90) = false := by rw [decide_eq_false_iff_not]; omega
    have b3 : ((n : Int) == 95) = false := by rw [beq_eq_false_iff_ne]; omega
    have b4 : ((n : Int) == 45) = false := by rw [beq_eq_false_iff_ne]; omega
    have b5 : ((n : Int) == 46) = false := by rw [beq_eq_false_iff_ne]; omega
    go_enter Try.func12, Try.ntmps12
    go_wp2_with (first | (go_at_call 21; refine (K1.out _).mono ?_; rintro e w1 ⟨rfl, rfl⟩) | (go_at_call 22; refine (K2.out _).mono ?_; rintro e w2 ⟨rfl, rfl⟩))
    go_ret
    exact ⟨ret_bool HW.out.symm, rfl⟩

theorem wordB_long {t : ByteArray} (h : 20 < t.size) : wordB t = false := by unfold wordB; rw [decide_eq_false (show ¬ t.size ≤ 20 by omega), Bool.and_false]
set_option maxRecDepth 10000 in
set_option maxHeartbeats 2000000 in
theorem wordRight_any (t : ByteArray) (w : World) :
    Calls Try.prog 6 #[.string t] w fun e w' => e = .returned (.bool (wordB t)) ∧ w' = w := by
  by_cases h20 : 20 < t.size
  · have HR : Hid (wordB t = false) := wordB_long h20
    go_enter Try.func6, Try.ntmps6
    go_wp2
    go_ret
    exact ⟨ret_bool HR.out.symm, rfl⟩
  have HA : Hid ((∀ k (h : k < t.size), wordC t[k].toNat = false → wordB t = false) ∧ ((∀ i (h : i < t.size), wordC t[i].toNat = true) → wordB t = true)) := ⟨fun k h hk => wordB_at k h hk, fun h => by rw [wordB_all h, decide_eq_true_iff]; omega⟩
  generalize wordB t = R at *
  have q20 : decide ((20 : Int) < (t.size : Int)) = false := by rw [decide_eq_false_iff_not]; omega
  go_enter Try.func6, Try.ntmps6
  go_wp2
  go_loop [9] (fun i => ∃ k : Nat, k ≤ t.size ∧ i = .int .i64 k ∧ Hid (∀ i (h : i < t.size), i < k → wordC t[i].toNat = true)) (fun i => t.size - (intOf i).toNat)
  case atStart => exact ⟨0, Nat.zero_le _, rfl, fun i _ hi => absurd hi (by omega)⟩
  case round =>
    obtain ⟨k, hk, rfl, HR⟩ := hrel
    by_cases hlt : k < t.size
    · have k0 : (0 : Int) ≤ k := by omega
      have k1 : (k : Int) < t.size := by omega
      have KW : Hid (∀ W, Calls Try.prog 12 #[.int .u8 (t[k].toNat : Int)] W fun e w' => e = .returned (.bool (wordC t[k].toNat)) ∧ w' = W) := fun W => inWord_any _ W
      cases hc : wordC t[k].toNat with
      | true =>
        rw [hc] at KW
        have HN : Hid (∀ i (h : i < t.size), i < k + 1 → wordC t[i].toNat = true) := fun i h hi => by
          by_cases e : i = k
          · subst e; exact hc
          · exact HR.out i h (by omega)
        clear hc
        go_wp2_with (go_at_call 12; refine (KW.out _).mono ?_; rintro e w1 ⟨rfl, rfl⟩)
        go_round
        case rel => exact ⟨k + 1, by omega, by go_num, HN⟩
        case measure => simp [intOf]; omega
      | false =>
        rw [hc] at KW
        have HQ : Hid (R = false) := HA.out.1 k hlt hc
        clear hc
        go_wp2_with (go_at_call 12; refine (KW.out _).mono ?_; rintro e w1 ⟨rfl, rfl⟩)
        go_ret
        exact ⟨ret_bool HQ.out.symm, rfl⟩
    · go_wp2
      go_ret
      exact ⟨ret_bool (HA.out.2 (fun i h => HR.out i h (by omega))).symm, rfl⟩
end Go.Proofs.Ythcpmbolnmlohaa

/- The walks of the program's pairRight and pairText. Written by implset.py. -/
namespace Go.Proofs.Ythcpmbolnmlohaa
open Go.RowKit

set_option maxRecDepth 10000 in
set_option maxHeartbeats 2000000 in
theorem pairRight_any (na va : ByteArray) (w : World) :
    Calls Try.prog 17 #[pairV na va] w fun e w' => e = .returned (.bool (pairB na va)) ∧ Below w.heap.size w w' := by
  have K1 : Hid (∀ W, Calls Try.prog 6 #[.string na] W fun e w' => e = .returned (.bool (wordB na)) ∧ w' = W) := fun W => wordRight_any na W
  have K2 : Hid (∀ W, Calls Try.prog 6 #[.string va] W fun e w' => e = .returned (.bool (wordB va)) ∧ w' = W) := fun W => wordRight_any va W
  have HP : Hid (pairB na va = (!na.toList.isEmpty && wordB na && wordB va)) := rfl
  generalize pairB na va = R at *
  generalize wordB na = b1 at *
  generalize wordB va = b2 at *
  unfold pairV
  cases he : na.toList.isEmpty with
  | true =>
    have HR : Hid (R = false) := by show _ = _; rw [HP.out, he]; rfl
    go_enter Try.func17, Try.ntmps17
    go_wp2
    go_ret
    exact ⟨ret_bool HR.out.symm, (Below.refl _ _).alloc (Nat.le_refl _) _⟩
  | false =>
    cases b1 with
    | false =>
      have HR : Hid (R = false) := by show _ = _; rw [HP.out, he]; rfl
      go_enter Try.func17, Try.ntmps17
      go_wp2_with fail
      refine (K1.out _).mono ?_
      rintro e w1 ⟨rfl, rfl⟩
      go_wp2
      go_ret
      exact ⟨ret_bool HR.out.symm, (Below.refl _ _).alloc (Nat.le_refl _) _⟩
    | true =>
      have HR : Hid (R = b2) := by show _ = _; rw [HP.out, he]; cases b2 <;> rfl
      go_enter Try.func17, Try.ntmps17
      go_wp2_with fail
      refine (K1.out _).mono ?_
      rintro e w1 ⟨rfl, rfl⟩
      go_wp2_with fail
      refine (K2.out _).mono ?_
      rintro e w2 ⟨rfl, rfl⟩
      go_wp2
      go_ret
      exact ⟨ret_bool HR.out.symm, (Below.refl _ _).alloc (Nat.le_refl _) _⟩
set_option maxRecDepth 10000 in
set_option maxHeartbeats 1000000 in
theorem pairText_any (na va : ByteArray) (w : World) (h1 : na.size ≤ 1048576) (h2 : va.size ≤ 1048576) :
    Calls Try.prog 18 #[pairV na va] w fun e w' => e = .returned (.string (na ++ equ ++ va)) ∧ Below w.heap.size w w' := by
  have z0 : (na ++ ⟨#[61]⟩ : ByteArray).size ≤ 1048577 := by rw [ByteArray.size_append]; show na.size + 1 ≤ 1048577; omega
  unfold pairV
  go_enter Try.func18, Try.ntmps18
  go_wp2
  go_ret
  exact ⟨rfl, (Below.refl _ _).alloc (Nat.le_refl _) _⟩
end Go.Proofs.Ythcpmbolnmlohaa

/- The walks of the program's PairsText. -/
namespace Go.Proofs.Ythcpmbolnmlohaa
open Go.RowKit

/-- the texts of the first k pairs -/
def partsP (L : List (ByteArray × ByteArray)) (k : Nat) : List ByteArray := (L.take k).map pairT
theorem partsP_succ {L : List (ByteArray × ByteArray)} {k : Nat} (h : k < L.length) : partsP L (k + 1) = partsP L k ++ [(atP L k).1 ++ equ ++ (atP L k).2] := by
  unfold partsP
  rw [List.take_succ_eq_append_getElem h, List.map_append, atP_eq h]; rfl
theorem partsP_all (L : List (ByteArray × ByteArray)) : joinB (partsP L L.length) semi = joinP L := by
  unfold partsP
  rw [List.take_length]
  cases L with
  | nil => rfl
  | cons p L => rw [List.map_cons, join_flat]; rfl
theorem partsP_len (L : List (ByteArray × ByteArray)) (k : Nat) : (partsP L k).length ≤ k := by unfold partsP; simp; omega
theorem flat_size (r : List ByteArray) (m : Nat) (h : ∀ x ∈ r, x.size ≤ m) : (flat r).size ≤ r.length * (m + 2) := by
  induction r with
  | nil => exact Nat.zero_le _
  | cons p r ih =>
    have h1 := h p (by simp)
    have h2 := ih (fun x hx => h x (by simp [hx]))
    show (semi ++ p ++ flat r).size ≤ _
    rw [ByteArray.size_append, ByteArray.size_append, List.length_cons, Nat.add_mul]
    have e : semi.size = 2 := rfl
    omega
theorem joinP_size {L : List (ByteArray × ByteArray)} (h : pairsB L = true) : (joinP L).size ≤ 1000 := by
  unfold pairsB at h
  rw [Bool.and_eq_true, decide_eq_true_eq, List.all_eq_true] at h
  obtain ⟨h20, ha⟩ := h
  have hp : ∀ p ∈ L, (pairT p).size ≤ 41 := fun p hp => by
    have := pairB_small (ha p hp)
    unfold pairT
    rw [ByteArray.size_append, ByteArray.size_append]
    have e : equ.size = 1 := rfl
    omega
  cases L with
  | nil => exact Nat.zero_le _
  | cons p L =>
    have h1 := hp p (by simp)
    have h2 := flat_size (L.map pairT) 41 (fun x hx => by
      obtain ⟨q, hq, rfl⟩ := List.mem_map.1 hx
      exact hp q (by simp [hq]))
    rw [List.length_map] at h2
    rw [List.length_cons] at h20
    show (pairT p ++ flat (L.map pairT)).size ≤ 1000
    rw [ByteArray.size_append]
    omega
set_option maxRecDepth 10000 in
set_option maxHeartbeats 8000000 in
theorem pairsText_any (v : Value) (B : Nat) (L : List (ByteArray × ByteArray)) (w : World) (hs : SliceP w B v L) (hn : L.length ≤ 1048576) (hf : ∀ i, i < L.length → (atP L i).1.size ≤ 1048576 ∧ (atP L i).2.size ≤ 1048576) :
    Calls Try.prog 10 #[v] w fun e w' => e = .returned (.string (pairsT L)) ∧ Below w.heap.size w w' := by
  obtain ⟨p, cap, rfl, hg⟩ := hs
  have HT : Hid (pairsT L = if pairsB L = true then joinP L else ⟨#[]⟩) := rfl
  by_cases h20 : 20 < L.length
  · have HR : Hid (pairsT L = ⟨#[]⟩) := by show _ = _; rw [HT.out, pairsB_many h20]; rfl
    go_enter Try.func10, Try.ntmps10
    go_wp2
    go_ret
    exact ⟨ret_text HR.out.symm, Below.refl _ _⟩
  obtain ⟨i0, hi, hy0, hy1, hy2⟩ := info_parts infoStr
  have q20 : decide ((20 : Int) < (L.length : Int)) = false := by rw [decide_eq_false_iff_not]; omega
  have HG : Hid (0 < L.length → ∃ g, p = some ⟨g, 0, none⟩ ∧ B ≤ g ∧ g < w.heap.size ∧ ∀ j, j < L.length → ∀ o, o < 2 → w.cell? ⟨g, j * 2 + o, none⟩ = some (pairC (atP L) j o) ∧ w.frozen? ⟨g, j * 2 + o, none⟩ = false) := hg
  have HF : Hid (∀ i, i < L.length → (atP L i).1.size ≤ 1048576 ∧ (atP L i).2.size ≤ 1048576) := hf
  clear hg hf
  generalize hR : pairsT L = R at *
  have HR : Hid (pairsT L = R) := hR
  clear hR
  go_enter Try.func10, Try.ntmps10
  go_wp2
  go_loopw [3, 11] (fun v i wr => ∃ k : Nat, k ≤ L.length ∧ i = .int .i64 k ∧ Hid (wr.ownsRow w.heap.size 9 1 v (partsP L k).length (strCells (partsP L k))) ∧ Hid (Below w.heap.size w wr) ∧ Hid (∀ j, j < k → pairB (atP L j).1 (atP L j).2 = true)) (fun _ i _ => L.length - (intOf i).toNat)
  case atStart => exact ⟨0, Nat.zero_le _, rfl, World.ownsRow_nil _ _ _ _, Below.refl _ _, fun j hj => absurd hj (by omega)⟩
  case round =>
    obtain ⟨k, hk, rfl, HO, HB, HA⟩ := hrel
    have hpl := partsP_len L k
    have hbs := HB.out.size
    by_cases hlt : k < L.length
    · obtain ⟨g, rfl, -, hgw, hc⟩ := HG.out (by omega)
      have c0 : wr.cell? ⟨g, k * 2, none⟩ = some (.string (atP L k).1) := by rw [(bcell HB.out).1 _ _ hgw]; exact (hc k hlt 0 (by omega)).1
      have c1 : wr.cell? ⟨g, k * 2 + 1, none⟩ = some (.string (atP L k).2) := by rw [(bcell HB.out).1 _ _ hgw]; exact (hc k hlt 1 (by omega)).1
      have k0 : (0 : Int) ≤ k := by omega
      have k1 : (k : Int) < L.length := by omega
      clear hc
      have hz := HF.out k hlt
      have KR : Hid (∀ W, Calls Try.prog 17 #[.agg #[.string (atP L k).1, .string (atP L k).2]] W fun e w' => e = .returned (.bool (pairB (atP L k).1 (atP L k).2)) ∧ Below W.heap.size W w') := fun W => pairRight_any _ _ W
      have KT : Hid (∀ W, Calls Try.prog 18 #[.agg #[.string (atP L k).1, .string (atP L k).2]] W fun e w' => e = .returned (.string ((atP L k).1 ++ equ ++ (atP L k).2)) ∧ Below W.heap.size W w') := fun W => pairText_any _ _ W hz.1 hz.2
      have HP : Hid (partsP L (k + 1) = partsP L k ++ [(atP L k).1 ++ equ ++ (atP L k).2]) := partsP_succ hlt
      clear hz
      have HBX : Hid (∀ b, pairB (atP L k).1 (atP L k).2 = b → (b = false → R = ⟨#[]⟩) ∧ (b = true → ∀ j, j < k + 1 → pairB (atP L j).1 (atP L j).2 = true)) := fun b e => ⟨fun hb => by rw [HT.out, pairsB_at k hlt (e.trans hb)]; rfl, fun hb j hj => by
        by_cases ej : j = k
        · subst ej; exact e.trans hb
        · exact HA.out j (by omega)⟩
      generalize hpb : pairB (atP L k).1 (atP L k).2 = pb at *
      have HPB : Hid ((pb = false → R = ⟨#[]⟩) ∧ (pb = true → ∀ j, j < k + 1 → pairB (atP L j).1 (atP L j).2 = true)) := HBX.out pb rfl
      clear HBX hpb
      generalize (atP L k).1 ++ equ ++ (atP L k).2 = tx at *
      generalize (atP L k).1 = n1 at *
      generalize (atP L k).2 = v1 at *
      go_wp2_with fail
      refine (KR.out _).mono ?_
      rintro e w1 ⟨rfl, hb1⟩
      have d0 : w1.cell? ⟨wr.heap.size, 0, none⟩ = some (.string n1) := by rw [(bcell hb1).1 _ _ (by simp)]; simp
      have d1 : w1.cell? ⟨wr.heap.size, 1, none⟩ = some (.string v1) := by rw [(bcell hb1).1 _ _ (by simp)]; simp
      have A1 : Hid (Below wr.heap.size wr w1) := ((Below.refl _ _).alloc (Nat.le_refl _) _).trans (hb1.mono (by simp))
      clear hb1
      cases pb with
      | false =>
        go_wp2
        go_ret
        exact ⟨ret_text (HPB.out.1 (by first | rfl | trivial)).symm, HB.out.trans (A1.out.mono HB.out.size)⟩
      | true =>
        go_wp2_with fail
        refine (KT.out _).mono ?_
        rintro e w3 ⟨rfl, hb3⟩
        have A3 : Hid (Below wr.heap.size wr w3) := A1.out.trans (hb3.mono A1.out.size)
        have O3 : Hid (w3.ownsRow w.heap.size 9 1 u3 (partsP L k).length (strCells (partsP L k))) := own_below HO.out A3.out
        have B3 : Hid (Below w.heap.size w w3) := HB.out.trans (A3.out.mono HB.out.size)
        have hz3 := B3.out.size
        clear hb3 A1 A3 d0 d1
        go_wp2_with (at_builtin; go_must (refine wpList_append_own _ rfl _ _ 37 rfl w.heap.size 9 i0 (.string ⟨#[]⟩) 1 16 Try.underlying37 hi hy0 hy1 hy2 rfl (by decide) _ _ _ rfl (O3.out.alloc _) ⟨w3.heap.size, 0, none⟩ 1 1 [.string tx] rfl rfl (cell_one_new _ _ _) (by intro u hu; simp at hu; subst hu; rfl) (by unfold maxLen; omega) (by omega) (by simp; omega) ?_))
        intro v4 w4 ho4 hg4 _
        rw [strCells_snoc] at ho4
        have G1 : Hid (w4.ownsRow w.heap.size 9 1 v4 (partsP L k ++ [tx]).length (strCells (partsP L k ++ [tx]))) := by show World.ownsRow _ _ _ _ _ _ _; simpa using ho4
        have G2 : Hid (Below w.heap.size w w4) := (B3.out.alloc hz3 _).grown hg4 (by simp; omega) (fun j hj => (O3.out.lt j hj).1)
        clear ho4 hg4
        go_wp2
        go_roundw
        case rel => exact ⟨k + 1, by omega, by go_num, by rw [HP.out]; exact G1, G2, HPB.out.2 (by first | rfl | trivial)⟩
        case measure => simp [intOf]; omega
    · obtain rfl : k = L.length := by omega
      have hpb : pairsB L = true := pairsB_all (by omega) HA.out
      have HJ : Hid (joinB (partsP L L.length) semi = R ∧ R.size ≤ 1000) := by
        have e : R = joinP L := by rw [HT.out, if_pos hpb]
        exact ⟨by rw [partsP_all, e], by rw [e]; exact joinP_size hpb⟩
      have KJ : Hid (Calls Try.prog 19 #[u3, .string ⟨#[59, 32]⟩] wr fun e w' => e = .returned (.string R) ∧ Below wr.heap.size wr w') := by
        have h := join_own (partsP L L.length) _ _ _ semi _ HO.out (by omega) (by rw [HJ.out.1]; exact Nat.le_trans HJ.out.2 (by decide))
        rw [HJ.out.1] at h
        exact h
      clear hpb
      go_wp2_with (go_at_call 19; refine KJ.out.mono ?_; rintro e w9 ⟨rfl, hb9⟩)
      go_ret
      exact ⟨rfl, HB.out.trans (hb9.mono HB.out.size)⟩
end Go.Proofs.Ythcpmbolnmlohaa

/- The walks of the specification's l04Join and PairsText. -/
namespace Go.Proofs.Ythcpmbolnmlohaa
open Go.RowKit

theorem joinP_take_succ {L : List (ByteArray × ByteArray)} {k : Nat} (h : k < L.length) : joinP (L.take (k + 1)) = (if k = 0 then ⟨#[]⟩ else joinP (L.take k) ++ ⟨#[59, 32]⟩) ++ (atP L k).1 ++ ⟨#[61]⟩ ++ (atP L k).2 := by
  rw [List.take_succ_eq_append_getElem h, atP_eq h]
  by_cases h0 : k = 0
  · subst h0
    rw [if_pos rfl]
    show pairT L[0] ++ flat [] = _
    rw [flat, app_nil, nil_app]; rfl
  · rw [if_neg h0, joinP_snoc _ _ (by intro e; have := congrArg List.length e; rw [List.length_take, List.length_nil] at this; omega)]
    show joinP (L.take k) ++ semi ++ (L[k].1 ++ equ ++ L[k].2) = _
    simp only [ByteArray.append_assoc]; rfl
theorem joinP_take_size {L : List (ByteArray × ByteArray)} (h : ∀ j, j < L.length → (atP L j).1.size ≤ 20 ∧ (atP L j).2.size ≤ 20) : ∀ k, k ≤ L.length → (joinP (L.take k)).size ≤ 43 * k
  | 0, _ => by rw [List.take_zero]; exact Nat.le_refl _
  | k + 1, hk => by
    have ih := joinP_take_size h k (by omega)
    have hz := h k (by omega)
    have e1 : (⟨#[59, 32]⟩ : ByteArray).size = 2 := rfl
    have e2 : (⟨#[61]⟩ : ByteArray).size = 1 := rfl
    rw [joinP_take_succ (by omega), ByteArray.size_append, ByteArray.size_append, ByteArray.size_append]
    split
    · have : (⟨#[]⟩ : ByteArray).size = 0 := rfl
      omega
    · rw [ByteArray.size_append]; omega
set_option maxRecDepth 10000 in
set_option maxHeartbeats 4000000 in
theorem specJoin_any (v : Value) (B : Nat) (L : List (ByteArray × ByteArray)) (w : World) (hs : SliceP w B v L) (hn : L.length ≤ 20) (hf : ∀ j, j < L.length → (atP L j).1.size ≤ 20 ∧ (atP L j).2.size ≤ 20) :
    Calls Try.prog 15 #[v] w fun e w' => e = .returned (.string (joinP L)) ∧ Below w.heap.size w w' := by
  obtain ⟨p, cap, rfl, hg⟩ := hs
  have HG : Hid (0 < L.length → ∃ g, p = some ⟨g, 0, none⟩ ∧ B ≤ g ∧ g < w.heap.size ∧ ∀ j, j < L.length → ∀ o, o < 2 → w.cell? ⟨g, j * 2 + o, none⟩ = some (pairC (atP L) j o) ∧ w.frozen? ⟨g, j * 2 + o, none⟩ = false) := hg
  have HZ : Hid (∀ k, k ≤ L.length → (joinP (L.take k)).size ≤ 43 * k) := joinP_take_size hf
  have HF : Hid (∀ j, j < L.length → (atP L j).1.size ≤ 20 ∧ (atP L j).2.size ≤ 20) := hf
  have HE : Hid (joinP L = joinP (L.take L.length)) := by show _ = _; rw [List.take_length]
  have H0 : Hid (joinP (L.take 0) = ⟨#[]⟩) := rfl
  clear hg hf
  generalize joinP L = R at *
  go_enter Try.func15, Try.ntmps15
  go_wp2
  go_loopw [3, 4] (fun x i wr => ∃ k : Nat, k ≤ L.length ∧ i = .int .i64 k ∧ x = .string (joinP (L.take k)) ∧ Hid (Below w.heap.size w wr)) (fun _ i _ => L.length - (intOf i).toNat)
  case atStart => exact ⟨0, Nat.zero_le _, rfl, by rw [H0.out], Below.refl _ _⟩
  case round =>
    obtain ⟨k, hk, rfl, rfl, HB⟩ := hrel
    by_cases hlt : k < L.length
    · obtain ⟨g, rfl, -, hgw, hc⟩ := HG.out (by omega)
      have c0 : wr.cell? ⟨g, k * 2, none⟩ = some (.string (atP L k).1) := by rw [(bcell HB.out).1 _ _ hgw]; exact (hc k hlt 0 (by omega)).1
      have c1 : wr.cell? ⟨g, k * 2 + 1, none⟩ = some (.string (atP L k).2) := by rw [(bcell HB.out).1 _ _ hgw]; exact (hc k hlt 1 (by omega)).1
      have k0 : (0 : Int) ≤ k := by omega
      have k1 : (k : Int) < L.length := by omega
      have hz := HF.out k hlt
      have hx := HZ.out k hk
      have HS : Hid (joinP (L.take (k + 1)) = (if k = 0 then ⟨#[]⟩ else joinP (L.take k) ++ ⟨#[59, 32]⟩) ++ (atP L k).1 ++ ⟨#[61]⟩ ++ (atP L k).2) := joinP_take_succ hlt
      clear hc
      generalize (atP L k).1 = n1 at *
      generalize (atP L k).2 = v1 at *
      have main : ∀ X : ByteArray, X.size ≤ 1000 → Hid (∀ W, Sem.run Try.prog (Op.stringOp .add X n1) W = .ok (.string (X ++ n1)) W) ∧ Hid (∀ W, Sem.run Try.prog (Op.stringOp .add (X ++ n1) ⟨#[61]⟩) W = .ok (.string (X ++ n1 ++ ⟨#[61]⟩)) W) ∧ Hid (∀ W, Sem.run Try.prog (Op.stringOp .add (X ++ n1 ++ ⟨#[61]⟩) v1) W = .ok (.string (X ++ n1 ++ ⟨#[61]⟩ ++ v1)) W) ∧ (X ++ n1).size ≤ 1020 ∧ (X ++ n1 ++ ⟨#[61]⟩).size ≤ 1021 := by
        intro X hX
        have s1 : (X ++ n1).size ≤ 1020 := by rw [ByteArray.size_append]; omega
        have s2 : (X ++ n1 ++ ⟨#[61]⟩).size ≤ 1021 := by rw [ByteArray.size_append]; show _ + 1 ≤ 1021; omega
        have e1 : (⟨#[61]⟩ : ByteArray).size = 1 := rfl
        exact ⟨fun W => run_string_add_sum W X n1 (by omega), fun W => run_string_add_sum W _ _ (by omega), fun W => run_string_add_sum W _ _ (by omega), s1, s2⟩
      by_cases h0 : k = 0
      · subst h0
        rw [if_pos rfl] at HS
        have hx0 := H0.out
        rw [hx0]
        obtain ⟨m1, m2, m3, s1, s2⟩ := main ⟨#[]⟩ (by decide)
        have a1 := m1.out
        have a2 := m2.out
        have a3 := m3.out
        clear m1 m2 m3 main
        go_wp2_with fail
        go_region_held3 (fun w' => w'.cell? ⟨g, 0, none⟩ = some (.string n1) ∧ w'.cell? ⟨g, 1, none⟩ = some (.string v1)) (go_keep) (fail)
        go_wp2
        go_roundw
        case rel => exact ⟨1, by omega, by go_num, by rw [HS.out], HB.out.trans (Below.drew (Below.refl _ _))⟩
        case measure => simp [intOf]; omega
      · rw [if_neg h0] at HS
        have q0 : decide ((0 : Int) < (k : Int)) = true := by rw [decide_eq_true_iff]; omega
        generalize joinP (L.take k) = x at *
        have hxz : (x ++ ⟨#[59, 32]⟩ : ByteArray).size ≤ 1000 := by rw [ByteArray.size_append]; show x.size + 2 ≤ 1000; omega
        obtain ⟨m1, m2, m3, s1, s2⟩ := main (x ++ ⟨#[59, 32]⟩) hxz
        have a1 := m1.out
        have a2 := m2.out
        have a3 := m3.out
        clear m1 m2 m3 main
        go_wp2_with fail
        go_region_held3 (fun w' => w'.cell? ⟨g, k * 2, none⟩ = some (.string n1) ∧ w'.cell? ⟨g, k * 2 + 1, none⟩ = some (.string v1)) (go_keep) (fail)
        go_wp2
        go_roundw
        case rel => exact ⟨k + 1, by omega, by go_num, by rw [HS.out], HB.out.trans (Below.drew (Below.refl _ _))⟩
        case measure => simp [intOf]; omega
    · obtain rfl : k = L.length := by omega
      rw [← HE.out]
      go_wp2
      go_ret
      exact ⟨rfl, HB.out⟩
set_option maxRecDepth 10000 in
set_option maxHeartbeats 4000000 in
theorem specPairsText_any (v : Value) (B : Nat) (L : List (ByteArray × ByteArray)) (w : World) (hs : SliceP w B v L) (hn : L.length ≤ 1048576) (hf : ∀ i, i < L.length → (atP L i).1.size ≤ 1048576 ∧ (atP L i).2.size ≤ 1048576) :
    Calls Try.prog 8 #[v] w fun e w' => e = .returned (.string (pairsT L)) ∧ Below w.heap.size w w' := by
  have HSl : Hid (SliceP w B v L) := hs
  obtain ⟨p, cap, rfl, hg⟩ := hs
  have HT : Hid (pairsT L = if pairsB L = true then joinP L else ⟨#[]⟩) := rfl
  by_cases h20 : 20 < L.length
  · have HR : Hid (pairsT L = ⟨#[]⟩) := by show _ = _; rw [HT.out, pairsB_many h20]; rfl
    go_enter Try.func8, Try.ntmps8
    go_wp2
    go_ret
    exact ⟨ret_text HR.out.symm, Below.refl _ _⟩
  have q20 : decide ((20 : Int) < (L.length : Int)) = false := by rw [decide_eq_false_iff_not]; omega
  have HG : Hid (0 < L.length → ∃ g, p = some ⟨g, 0, none⟩ ∧ B ≤ g ∧ g < w.heap.size ∧ ∀ j, j < L.length → ∀ o, o < 2 → w.cell? ⟨g, j * 2 + o, none⟩ = some (pairC (atP L) j o) ∧ w.frozen? ⟨g, j * 2 + o, none⟩ = false) := hg
  have HF : Hid (∀ i, i < L.length → (atP L i).1.size ≤ 1048576 ∧ (atP L i).2.size ≤ 1048576) := hf
  clear hg hf
  generalize pairsT L = R at *
  go_enter Try.func8, Try.ntmps8
  go_wp2
  go_loopw [3] (fun i wr => ∃ k : Nat, k ≤ L.length ∧ i = .int .i64 k ∧ Hid (Below w.heap.size w wr) ∧ Hid (∀ j, j < k → pairB (atP L j).1 (atP L j).2 = true)) (fun i _ => L.length - (intOf i).toNat)
  case atStart => exact ⟨0, Nat.zero_le _, rfl, Below.refl _ _, fun j hj => absurd hj (by omega)⟩
  case round =>
    obtain ⟨k, hk, rfl, HB, HA⟩ := hrel
    by_cases hlt : k < L.length
    · obtain ⟨g, rfl, -, hgw, hc⟩ := HG.out (by omega)
      have c0 : wr.cell? ⟨g, k * 2, none⟩ = some (.string (atP L k).1) := by rw [(bcell HB.out).1 _ _ hgw]; exact (hc k hlt 0 (by omega)).1
      have c1 : wr.cell? ⟨g, k * 2 + 1, none⟩ = some (.string (atP L k).2) := by rw [(bcell HB.out).1 _ _ hgw]; exact (hc k hlt 1 (by omega)).1
      have k0 : (0 : Int) ≤ k := by omega
      have k1 : (k : Int) < L.length := by omega
      clear hc
      have hz := HF.out k hlt
      have KR : Hid (∀ W, Calls Try.prog 14 #[.agg #[.string (atP L k).1, .string (atP L k).2]] W fun e w' => e = .returned (.bool (pairB (atP L k).1 (atP L k).2)) ∧ Below W.heap.size W w') := fun W => specPairRight_any _ _ W hz.1 hz.2
      have HBX : Hid (∀ b, pairB (atP L k).1 (atP L k).2 = b → (b = false → R = ⟨#[]⟩) ∧ (b = true → ∀ j, j < k + 1 → pairB (atP L j).1 (atP L j).2 = true)) := fun b e => ⟨fun hb => by rw [HT.out, pairsB_at k hlt (e.trans hb)]; rfl, fun hb j hj => by
        by_cases ej : j = k
        · subst ej; exact e.trans hb
        · exact HA.out j (by omega)⟩
      generalize hpb : pairB (atP L k).1 (atP L k).2 = pb at *
      have HPB : Hid ((pb = false → R = ⟨#[]⟩) ∧ (pb = true → ∀ j, j < k + 1 → pairB (atP L j).1 (atP L j).2 = true)) := HBX.out pb rfl
      clear HBX hpb hz
      generalize (atP L k).1 = n1 at *
      generalize (atP L k).2 = v1 at *
      go_wp2_with fail
      refine (KR.out _).mono ?_
      rintro e w1 ⟨rfl, hb1⟩
      have B1 : Hid (Below w.heap.size w w1) := HB.out.trans (hb1.mono HB.out.size)
      clear hb1
      cases pb with
      | false =>
        go_wp2
        go_ret
        exact ⟨ret_text (HPB.out.1 (by first | rfl | trivial)).symm, B1.out⟩
      | true =>
        go_wp2
        go_roundw
        case rel => exact ⟨k + 1, by omega, by go_num, B1, HPB.out.2 (by first | rfl | trivial)⟩
        case measure => simp [intOf]; omega
    · obtain rfl : k = L.length := by omega
      have hpb : pairsB L = true := pairsB_all (by omega) HA.out
      have KJ : Hid (Calls Try.prog 15 #[.slice p L.length cap] wr fun e w' => e = .returned (.string R) ∧ Below wr.heap.size wr w') := by
        have h := specJoin_any _ B L wr (SliceR.below HSl.out HB.out) (by omega) (fun j hj => pairB_small (HA.out j hj))
        have e : joinP L = R := by rw [HT.out, if_pos hpb]
        rw [e] at h; exact h
      clear hpb
      go_wp2_with (go_at_call 15; refine KJ.out.mono ?_; rintro e w9 ⟨rfl, hb9⟩)
      go_ret
      exact ⟨rfl, HB.out.trans (hb9.mono HB.out.size)⟩
end Go.Proofs.Ythcpmbolnmlohaa

/- The law FnExactPairsText, walked. -/
namespace Go.Proofs.Ythcpmbolnmlohaa
open Go.RowKit
theorem lawPairsText_any (a : Option Addr) (cap : Nat) (L : List (ByteArray × ByteArray)) (w : World) (hr : PairRow w a L) (hn : L.length ≤ maxLen) :
    Calls Try.prog 4 #[.slice a L.length cap] w fun e w' => e = .returned (.bool true) ∧ Below w.heap.size w w' :=
  lawPairsText_of w (fun v B L W hs h1 h2 => pairsText_any v B L W hs h1 h2) (fun v B L W hs h1 h2 => specPairsText_any v B L W hs h1 h2) a cap L hr hn
end Go.Proofs.Ythcpmbolnmlohaa
