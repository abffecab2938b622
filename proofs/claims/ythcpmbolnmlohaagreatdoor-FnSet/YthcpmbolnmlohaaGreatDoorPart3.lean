/- 21 of this claim's texts, one behind the other. -/
import Derived.Test.YthcpmbolnmlohaaGreatDoorShelf
import Derived.Test.YthcpmbolnmlohaaGreatDoorPart1
import Derived.Shelf.Strings.OnBuilder
import Derived.Test.YthcpmbolnmlohaaGreatDoorPart2
import Derived.WalkKit
import Derived.WalkSpells
import Derived.WalkLawsBesides
import Derived.Lib.ParseIntB
import Derived.Lib.ParseIntBCases
import Derived.Lib.ParseIntBTie
import Derived.Deep.RegionHeld3
import Derived.Laws.Bits64
import Derived.Maps.AppendAt
import Derived.Deep.DeepCutAuto
import Derived.Lib.SplitLaws
/- A row of texts that is owned, joined by the library. -/
namespace Go.Proofs.YthcpmbolnmlohaaGreatDoor
open Go.RowKit

theorem builderX : Builder.Extra Tryz.prog Tryz.lays156_ren where
  sizeBuilder := by kernel_rfl
  liesBuilder := by kernel_rfl
  t5 := Tryz.underlying5
  a5 := Tryz.isAgg5
  z5 := Tryz.sizeOf5
  v5 := Tryz.zeroValue5
  infoByte := by kernel_rfl
  cellsByte := by kernel_rfl
  sizeByte := by kernel_rfl
  neB5 := by decide
/-- texts with sep between -/
def joinB (L : List ByteArray) (sep : ByteArray) : ByteArray := ⟨(Lib.join (L.map (·.data.toList)) sep.data.toList).toArray⟩
theorem join_own (L : List ByteArray) (v : Value) (B : Nat) (t : TypeId) (sep : ByteArray) (w : World) (h : w.ownsRow B t 1 v L.length (strCells L)) (hN : L.length ≤ 140737488355328) (hz : (joinB L sep).size ≤ 140737488355328) :
    Calls Tryz.prog 26 #[v, .string sep] w fun e w' => e = .returned (.string (joinB L sep)) ∧ Below w.heap.size w w' := by
  obtain ⟨p, c, rfl, hs⟩ := slice_of_own h
  by_cases h0 : L.length = 0
  · have hL : L = [] := List.length_eq_zero_iff.1 h0
    subst hL
    exact (Any.strings_Join_none Tryz.lays156 builderX p c sep w).mono fun _ _ ⟨h1, h2⟩ => ⟨h1, h2 ▸ Below.refl _ _⟩
  · obtain ⟨g, rfl, -, hg, hc⟩ := hs (by omega)
    have hcap : L.length ≤ c := by
      obtain ⟨_, ⟨e, h0'⟩ | ⟨g', cap, cur, e, _, _, hle, _⟩⟩ := h
      · omega
      · injection e with _ _ e3
        omega
    refine Any.strings_Join Tryz.lays156 builderX g 0 c L sep w (fun j x hj => ?_) hg hN hcap hz
    obtain ⟨hj1, rfl⟩ := List.getElem?_eq_some_iff.1 hj
    have e : atL L j = L[j] := by simp [atL, hj1]
    rw [Nat.zero_add, ← e]
    exact (hc j hj1).1
/-- a row of one text, built -/
theorem own_one (w : World) (t : TypeId) (x : ByteArray) : (w.alloc (.cells #[.string x] t)).ownsRow w.heap.size t 1 (.slice (some ⟨w.heap.size, 0, none⟩) 1 1) [x].length (strCells [x]) :=
  ⟨rfl, .inr ⟨w.heap.size, 1, #[.string x], rfl, Nat.le_refl _, heap_alloc_new w _, Nat.le_refl _, by decide, rfl, rfl⟩⟩
end Go.Proofs.YthcpmbolnmlohaaGreatDoor

/- Texts joined by '; ' are their flat text. -/
namespace Go.Proofs.YthcpmbolnmlohaaGreatDoor
open Go.RowKit

theorem join_flat (p : ByteArray) (r : List ByteArray) : joinB (p :: r) semi = p ++ flat r := by
  apply ByteArray.ext
  apply Array.toList_inj.1
  show Lib.join ((p :: r).map (·.data.toList)) semi.data.toList = _
  rw [List.map_cons, Lib.join_cons]
  have e : ∀ r : List ByteArray, Lib.joinTail semi.data.toList (r.map (·.data.toList)) = (flat r).data.toList := by
    intro r
    induction r with
    | nil => rfl
    | cons q r ih =>
      have e2 : (flat (q :: r)).data.toList = semi.data.toList ++ q.data.toList ++ (flat r).data.toList := by show (semi ++ q ++ flat r).data.toList = _; simp
      rw [e2, ← ih]
      unfold Lib.joinTail
      simp
  rw [e]; simp
theorem len_snoc (L : List ByteArray) (x : ByteArray) : (L ++ [x]).length = L.length + 1 := by simp
theorem own_cast {w : World} {B n m : Nat} {t : TypeId} {v : Value} {xs ys : List Value} (h : w.ownsRow B t 1 v n xs) (hn : n = m) (hx : xs = ys) : w.ownsRow B t 1 v m ys := hn ▸ hx ▸ h
theorem joinB_nil (sep : ByteArray) : joinB [] sep = ⟨#[]⟩ := rfl
end Go.Proofs.YthcpmbolnmlohaaGreatDoor

/- The walks of the program's isSmall, isDigit, inWord and WordRight. Written by implword.py. -/
namespace Go.Proofs.YthcpmbolnmlohaaGreatDoor
open Go.RowKit

def betw (n lo hi : Nat) : Bool := decide (lo ≤ n ∧ n ≤ hi)
theorem betw_yes {n lo hi : Nat} (h1 : lo ≤ n) (h2 : n ≤ hi) : betw n lo hi = true := by unfold betw; rw [decide_eq_true_iff]; exact ⟨h1, h2⟩
theorem betw_no {n lo hi : Nat} (h : ¬ (lo ≤ n ∧ n ≤ hi)) : betw n lo hi = false := by unfold betw; rw [decide_eq_false_iff_not]; exact h
set_option maxRecDepth 10000 in
theorem isSmallW_any (n : Nat) (w : World) : Calls Tryz.prog 62 #[.int .u8 (n : Int)] w fun e w' => e = .returned (.bool (betw n 97 122)) ∧ w' = w := by
  rcases (show (n < 97) ∨ (97 ≤ n ∧ n ≤ 122) ∨ (122 < n) by omega) with c1 | ⟨c1, c2⟩ | c1
  · have b1 : decide ((97 : Int) ≤ (n : Int)) = false := by rw [decide_eq_false_iff_not]; omega
    go_enter Tryz.func62, Tryz.ntmps62
    go_wp2
    go_ret
    exact ⟨ret_bool (betw_no (by omega)).symm, rfl⟩
  · go_enter Tryz.func62, Tryz.ntmps62
    go_wp2
    go_ret
    exact ⟨ret_bool (by rw [betw_yes c1 c2, decide_eq_true_iff]; omega), rfl⟩
  · have b1 : decide ((n : Int) ≤ 122) = false := by rw [decide_eq_false_iff_not]; omega
    go_enter Tryz.func62, Tryz.ntmps62
    go_wp2
    go_ret
    exact ⟨ret_bool (betw_no (by omega)).symm, rfl⟩
set_option maxRecDepth 10000 in
theorem isDigitW_any (n : Nat) (w : World) : Calls Tryz.prog 63 #[.int .u8 (n : Int)] w fun e w' => e = .returned (.bool (betw n 48 57)) ∧ w' = w := by
  rcases (show (n < 48) ∨ (48 ≤ n ∧ n ≤ 57) ∨ (57 < n) by omega) with c1 | ⟨c1, c2⟩ | c1
  · have b1 : decide ((48 : Int) ≤ (n : Int)) = false := by rw [decide_eq_false_iff_not]; omega
    go_enter Tryz.func63, Tryz.ntmps63
    go_wp2
    go_ret
    exact ⟨ret_bool (betw_no (by omega)).symm, rfl⟩
  · go_enter Tryz.func63, Tryz.ntmps63
    go_wp2
    go_ret
    exact ⟨ret_bool (by rw [betw_yes c1 c2, decide_eq_true_iff]; omega), rfl⟩
  · have b1 : decide ((n : Int) ≤ 57) = false := by rw [decide_eq_false_iff_not]; omega
    go_enter Tryz.func63, Tryz.ntmps63
    go_wp2
    go_ret
    exact ⟨ret_bool (betw_no (by omega)).symm, rfl⟩
set_option maxRecDepth 10000 in
set_option maxHeartbeats 2000000 in
theorem inWord_any (n : Nat) (w : World) : Calls Tryz.prog 41 #[.int .u8 (n : Int)] w fun e w' => e = .returned (.bool (wordC n)) ∧ w' = w := by
  have K1 : Hid (∀ W, Calls Tryz.prog 62 #[.int .u8 (n : Int)] W fun e w' => e = .returned (.bool (betw n 97 122)) ∧ w' = W) := fun W => isSmallW_any n W
  have K2 : Hid (∀ W, Calls Tryz.prog 63 #[.int .u8 (n : Int)] W fun e w' => e = .returned (.bool (betw n 48 57)) ∧ w' = W) := fun W => isDigitW_any n W
  rcases (show (n ≤ 44) ∨ (45 ≤ n ∧ n ≤ 45) ∨ (46 ≤ n ∧ n ≤ 46) ∨ (47 ≤ n ∧ n ≤ 47) ∨ (48 ≤ n ∧ n ≤ 57) ∨ (58 ≤ n ∧ n ≤ 64) ∨ (65 ≤ n ∧ n ≤ 90) ∨ (91 ≤ n ∧ n ≤ 94) ∨ (95 ≤ n ∧ n ≤ 95) ∨ (96 ≤ n ∧ n ≤ 96) ∨ (97 ≤ n ∧ n ≤ 122) ∨ (123 ≤ n) by omega)
    with c1 | ⟨c1, c2⟩ | ⟨c1, c2⟩ | ⟨c1, c2⟩ | ⟨c1, c2⟩ | ⟨c1, c2⟩ | ⟨c1, c2⟩ | ⟨c1, c2⟩ | ⟨c1, c2⟩ | ⟨c1, c2⟩ | ⟨c1, c2⟩ | c1
  · have HW : Hid (wordC n = false) := wordC_no (by omega)
    rw [betw_no (by omega)] at K1
    rw [betw_no (by omega)] at K2
    have b1 : decide ((65 : Int) ≤ (n : Int)) = false := by rw [decide_eq_false_iff_not]; omega
    have b2 : decide ((n : Int) ≤ 90) = true := by rw [decide_eq_true_iff]; omega
    have b3 : ((n : Int) == 95) = false := by rw [beq_eq_false_iff_ne]; omega
    have b4 : ((n : Int) == 45) = false := by rw [beq_eq_false_iff_ne]; omega
    have b5 : ((n : Int) == 46) = false := by rw [beq_eq_false_iff_ne]; omega
    go_enter Tryz.func41, Tryz.ntmps41
    go_wp2_with (first | (go_at_call 62; refine (K1.out _).mono ?_; rintro e w1 ⟨rfl, rfl⟩) | (go_at_call 63; refine (K2.out _).mono ?_; rintro e w2 ⟨rfl, rfl⟩))
    go_ret
    exact ⟨ret_bool HW.out.symm, rfl⟩
  · have HW : Hid (wordC n = true) := wordC_yes (by omega)
    rw [betw_no (by omega)] at K1
    rw [betw_no (by omega)] at K2
    have b1 : decide ((65 : Int) ≤ (n : Int)) = false := by rw [decide_eq_false_iff_not]; omega
    have b2 : decide ((n : Int) ≤ 90) = true := by rw [decide_eq_true_iff]; omega
    have b3 : ((n : Int) == 95) = false := by rw [beq_eq_false_iff_ne]; omega
    have b4 : ((n : Int) == 45) = true := by rw [beq_iff_eq]; omega
    have b5 : ((n : Int) == 46) = false := by rw [beq_eq_false_iff_ne]; omega
    go_enter Tryz.func41, Tryz.ntmps41
    go_wp2_with (first | (go_at_call 62; refine (K1.out _).mono ?_; rintro e w1 ⟨rfl, rfl⟩) | (go_at_call 63; refine (K2.out _).mono ?_; rintro e w2 ⟨rfl, rfl⟩))
    go_ret
    exact ⟨ret_bool HW.out.symm, rfl⟩
  · have HW : Hid (wordC n = true) := wordC_yes (by omega)
    rw [betw_no (by omega)] at K1
    rw [betw_no (by omega)] at K2
    have b1 : decide ((65 : Int) ≤ (n : Int)) = false := by rw [decide_eq_false_iff_not]; omega
    have b2 : decide ((n : Int) ≤ 90) = true := by rw [decide_eq_true_iff]; omega
    have b3 : ((n : Int) == 95) = false := by rw [beq_eq_false_iff_ne]; omega
    have b4 : ((n : Int) == 45) = false := by rw [beq_eq_false_iff_ne]; omega
    have b5 : ((n : Int) == 46) = true := by rw [beq_iff_eq]; omega
    go_enter Tryz.func41, Tryz.ntmps41
    go_wp2_with (first | (go_at_call 62; refine (K1.out _).mono ?_; rintro e w1 ⟨rfl, rfl⟩) | (go_at_call 63; refine (K2.out _).mono ?_; rintro e w2 ⟨rfl, rfl⟩))
    go_ret
    exact ⟨ret_bool HW.out.symm, rfl⟩
  · have HW : Hid (wordC n = false) := wordC_no (by omega)
    rw [betw_no (by omega)] at K1
    rw [betw_no (by omega)] at K2
    have b1 : decide ((65 : Int) ≤ (n : Int)) = false := by rw [decide_eq_false_iff_not]; omega
    have b2 : decide ((n : Int) ≤ 90) = true := by rw [decide_eq_true_iff]; omega
    have b3 : ((n : Int) == 95) = false := by rw [beq_eq_false_iff_ne]; omega
    have b4 : ((n : Int) == 45) = false := by rw [beq_eq_false_iff_ne]; omega
    have b5 : ((n : Int) == 46) = false := by rw [beq_eq_false_iff_ne]; omega
    go_enter Tryz.func41, Tryz.ntmps41
    go_wp2_with (first | (go_at_call 62; refine (K1.out _).mono ?_; rintro e w1 ⟨rfl, rfl⟩) | (go_at_call 63; refine (K2.out _).mono ?_; rintro e w2 ⟨rfl, rfl⟩))
    go_ret
    exact ⟨ret_bool HW.out.symm, rfl⟩
  · have HW : Hid (wordC n = true) := wordC_yes (by omega)
    rw [betw_no (by omega)] at K1
    rw [betw_yes (by omega) (by omega)] at K2
    have b1 : decide ((65 : Int) ≤ (n : Int)) = false := by rw [decide_eq_false_iff_not]; omega
    have b2 : decide ((n : Int) ≤ 90) = true := by rw [decide_eq_true_iff]; omega
    have b3 : ((n : Int) == 95) = false := by rw [beq_eq_false_iff_ne]; omega
    have b4 : ((n : Int) == 45) = false := by rw [beq_eq_false_iff_ne]; omega
    have b5 : ((n : Int) == 46) = false := by rw [beq_eq_false_iff_ne]; omega
    go_enter Tryz.func41, Tryz.ntmps41
    go_wp2_with (first | (go_at_call 62; refine (K1.out _).mono ?_; rintro e w1 ⟨rfl, rfl⟩) | (go_at_call 63; refine (K2.out _).mono ?_; rintro e w2 ⟨rfl, rfl⟩))
    go_ret
    exact ⟨ret_bool HW.out.symm, rfl⟩
  · have HW : Hid (wordC n = false) := wordC_no (by omega)
    rw [betw_no (by omega)] at K1
    rw [betw_no (by omega)] at K2
    have b1 : decide ((65 : Int) ≤ (n : Int)) = false := by rw [decide_eq_false_iff_not]; omega
    have b2 : decide ((n : Int) ≤ 90) = true := by rw [decide_eq_true_iff]; omega
    have b3 : ((n : Int) == 95) = false := by rw [beq_eq_false_iff_ne]; omega
    have b4 : ((n : Int) == 45) = false := by rw [beq_eq_false_iff_ne]; omega
    have b5 : ((n : Int) == 46) = false := by rw [beq_eq_false_iff_ne]; omega
    go_enter Tryz.func41, Tryz.ntmps41
    go_wp2_with (first | (go_at_call 62; refine (K1.out _).mono ?_; rintro e w1 ⟨rfl, rfl⟩) | (go_at_call 63; refine (K2.out _).mono ?_; rintro e w2 ⟨rfl, rfl⟩))
    go_ret
    exact ⟨ret_bool HW.out.symm, rfl⟩
  · have HW : Hid (wordC n = true) := wordC_yes (by omega)
    rw [betw_no (by omega)] at K1
    rw [betw_no (by omega)] at K2
    have b1 : decide ((65 : Int) ≤ (n : Int)) = true := by rw [decide_eq_true_iff]; omega
    have b2 : decide ((n : Int) ≤ 90) = true := by rw [decide_eq_true_iff]; omega
    have b3 : ((n : Int) == 95) = false := by rw [beq_eq_false_iff_ne]; omega
    have b4 : ((n : Int) == 45) = false := by rw [beq_eq_false_iff_ne]; omega
    have b5 : ((n : Int) == 46) = false := by rw [beq_eq_false_iff_ne]; omega
    go_enter Tryz.func41, Tryz.ntmps41
    go_wp2_with (first | (go_at_call 62; refine (K1.out _).mono ?_; rintro e w1 ⟨rfl, rfl⟩) | (go_at_call 63; refine (K2.out _).mono ?_; rintro e w2 ⟨rfl, rfl⟩))
    go_ret
    exact ⟨ret_bool HW.out.symm, rfl⟩
  · have HW : Hid (wordC n = false) := wordC_no (by omega)
    rw [betw_no (by omega)] at K1
    rw [betw_no (by omega)] at K2
    have b1 : decide ((65 : Int) ≤ (n : Int)) = true := by rw [decide_eq_true_iff]; omega
    have b2 : decide ((n : Int) ≤ 90) = false := by rw [decide_eq_false_iff_not]; omega
    have b3 : ((n : Int) == 95) = false := by rw [beq_eq_false_iff_ne]; omega
    have b4 : ((n : Int) == 45) = false := by rw [beq_eq_false_iff_ne]; omega
    have b5 : ((n : Int) == 46) = false := by rw [beq_eq_false_iff_ne]; omega
    go_enter Tryz.func41, Tryz.ntmps41
    go_wp2_with (first | (go_at_call 62; refine (K1.out _).mono ?_; rintro e w1 ⟨rfl, rfl⟩) | (go_at_call 63; refine (K2.out _).mono ?_; rintro e w2 ⟨rfl, rfl⟩))
    go_ret
    exact ⟨ret_bool HW.out.symm, rfl⟩
  · have HW : Hid (wordC n = true) := wordC_yes (by omega)
    rw [betw_no (by omega)] at K1
    rw [betw_no (by omega)] at K2
    have b1 : decide ((65 : Int) ≤ (n : Int)) = true := by rw [decide_eq_true_iff]; omega
    have b2 : decide ((n : Int) ≤ 90) = false := by rw [decide_eq_false_iff_not]; omega
    have b3 : ((n : Int) == 95) = true := by rw [beq_iff_eq]; omega
    have b4 : ((n : Int) == 45) = false := by rw [beq_eq_false_iff_ne]; omega
    have b5 : ((n : Int) == 46) = false := by rw [beq_eq_false_iff_ne]; omega
    go_enter Tryz.func41, Tryz.ntmps41
    go_wp2_with (first | (go_at_call 62; refine (K1.out _).mono ?_; rintro e w1 ⟨rfl, rfl⟩) | (go_at_call 63; refine (K2.out _).mono ?_; rintro e w2 ⟨rfl, rfl⟩))
    go_ret
    exact ⟨ret_bool HW.out.symm, rfl⟩
  · have HW : Hid (wordC n = false) := wordC_no (by omega)
    rw [betw_no (by omega)] at K1
    rw [betw_no (by omega)] at K2
    have b1 : decide ((65 : Int) ≤ (n : Int)) = true := by rw [decide_eq_true_iff]; omega
    have b2 : decide ((n : Int) ≤ 90) = false := by rw [decide_eq_false_iff_not]; omega
    have b3 : ((n : Int) == 95) = false := by rw [beq_eq_false_iff_ne]; omega
    have b4 : ((n : Int) == 45) = false := by rw [beq_eq_false_iff_ne]; omega
    have b5 : ((n : Int) == 46) = false := by rw [beq_eq_false_iff_ne]; omega
    go_enter Tryz.func41, Tryz.ntmps41
    go_wp2_with (first | (go_at_call 62; refine (K1.out _).mono ?_; rintro e w1 ⟨rfl, rfl⟩) | (go_at_call 63; refine (K2.out _).mono ?_; rintro e w2 ⟨rfl, rfl⟩))
    go_ret
    exact ⟨ret_bool HW.out.symm, rfl⟩
  · have HW : Hid (wordC n = true) := wordC_yes (by omega)
    rw [betw_yes (by omega) (by omega)] at K1
    rw [betw_no (by omega)] at K2
    have b1 : decide ((65 : Int) ≤ (n : Int)) = true := by rw [decide_eq_true_iff]; omega
    have b2 : decide ((n : Int) ≤ 90) = false := by rw [decide_eq_false_iff_not]; omega
    have b3 : ((n : Int) == 95) = false := by rw [beq_eq_false_iff_ne]; omega
    have b4 : ((n : Int) == 45) = false := by rw [beq_eq_false_iff_ne]; omega
    have b5 : ((n : Int) == 46) = false := by rw [beq_eq_false_iff_ne]; omega
    go_enter Tryz.func41, Tryz.ntmps41
    go_wp2_with (first | (go_at_call 62; refine (K1.out _).mono ?_; rintro e w1 ⟨rfl, rfl⟩) | (go_at_call 63; refine (K2.out _).mono ?_; rintro e w2 ⟨rfl, rfl⟩))
    go_ret
    exact ⟨ret_bool HW.out.symm, rfl⟩
  · have HW : Hid (wordC n = false) := wordC_no (by omega)
    rw [betw_no (by omega)] at K1
    rw [betw_no (by omega)] at K2
    have b1 : decide ((65 : Int) ≤ (n : Int)) = true := by rw [decide_eq_true_iff]; omega
    have b2 : decide ((n : Int) ≤ 90) = false := by rw [decide_eq_false_iff_not]; omega
    have b3 : ((n : Int) == 95) = false := by rw [beq_eq_false_iff_ne]; omega
    have b4 : ((n : Int) == 45) = false := by rw [beq_eq_false_iff_ne]; omega
    have b5 : ((n : Int) == 46) = false := by rw [beq_eq_false_iff_ne]; omega
    go_enter Tryz.func41, Tryz.ntmps41
    go_wp2_with (first | (go_at_call 62; refine (K1.out _).mono ?_; rintro e w1 ⟨rfl, rfl⟩) | (go_at_call 63; refine (K2.out _).mono ?_; rintro e w2 ⟨rfl, rfl⟩))
    go_ret
    exact ⟨ret_bool HW.out.symm, rfl⟩

theorem wordB_long {t : ByteArray} (h : 20 < t.size) : wordB t = false := by unfold wordB; rw [decide_eq_false (show ¬ t.size ≤ 20 by omega), Bool.and_false]
set_option maxRecDepth 10000 in
set_option maxHeartbeats 2000000 in
theorem wordRight_any (t : ByteArray) (w : World) :
    Calls Tryz.prog 13 #[.string t] w fun e w' => e = .returned (.bool (wordB t)) ∧ w' = w := by
  by_cases h20 : 20 < t.size
  · have HR : Hid (wordB t = false) := wordB_long h20
    go_enter Tryz.func13, Tryz.ntmps13
    go_wp2
    go_ret
    exact ⟨ret_bool HR.out.symm, rfl⟩
  have HA : Hid ((∀ k (h : k < t.size), wordC t[k].toNat = false → wordB t = false) ∧ ((∀ i (h : i < t.size), wordC t[i].toNat = true) → wordB t = true)) := ⟨fun k h hk => wordB_at k h hk, fun h => by rw [wordB_all h, decide_eq_true_iff]; omega⟩
  generalize wordB t = R at *
  have q20 : decide ((20 : Int) < (t.size : Int)) = false := by rw [decide_eq_false_iff_not]; omega
  go_enter Tryz.func13, Tryz.ntmps13
  go_wp2
  go_loop [9] (fun i => ∃ k : Nat, k ≤ t.size ∧ i = .int .i64 k ∧ Hid (∀ i (h : i < t.size), i < k → wordC t[i].toNat = true)) (fun i => t.size - (intOf i).toNat)
  case atStart => exact ⟨0, Nat.zero_le _, rfl, fun i _ hi => absurd hi (by omega)⟩
  case round =>
    obtain ⟨k, hk, rfl, HR⟩ := hrel
    by_cases hlt : k < t.size
    · have k0 : (0 : Int) ≤ k := by omega
      have k1 : (k : Int) < t.size := by omega
      have KW : Hid (∀ W, Calls Tryz.prog 41 #[.int .u8 (t[k].toNat : Int)] W fun e w' => e = .returned (.bool (wordC t[k].toNat)) ∧ w' = W) := fun W => inWord_any _ W
      cases hc : wordC t[k].toNat with
      | true =>
        rw [hc] at KW
        have HN : Hid (∀ i (h : i < t.size), i < k + 1 → wordC t[i].toNat = true) := fun i h hi => by
          by_cases e : i = k
          · subst e; exact hc
          · exact HR.out i h (by omega)
        clear hc
        go_wp2_with (go_at_call 41; refine (KW.out _).mono ?_; rintro e w1 ⟨rfl, rfl⟩)
        go_round
        case rel => exact ⟨k + 1, by omega, by go_num, HN⟩
        case measure => simp [intOf]; omega
      | false =>
        rw [hc] at KW
        have HQ : Hid (R = false) := HA.out.1 k hlt hc
        clear hc
        go_wp2_with (go_at_call 41; refine (KW.out _).mono ?_; rintro e w1 ⟨rfl, rfl⟩)
        go_ret
        exact ⟨ret_bool HQ.out.symm, rfl⟩
    · go_wp2
      go_ret
      exact ⟨ret_bool (HA.out.2 (fun i h => HR.out i h (by omega))).symm, rfl⟩
end Go.Proofs.YthcpmbolnmlohaaGreatDoor

/- The walks of the program's pairRight and pairText. Written by implset.py. -/
namespace Go.Proofs.YthcpmbolnmlohaaGreatDoor
open Go.RowKit

set_option maxRecDepth 10000 in
set_option maxHeartbeats 2000000 in
theorem pairRight_any (na va : ByteArray) (w : World) :
    Calls Tryz.prog 32 #[pairV na va] w fun e w' => e = .returned (.bool (pairB na va)) ∧ Below w.heap.size w w' := by
  have K1 : Hid (∀ W, Calls Tryz.prog 13 #[.string na] W fun e w' => e = .returned (.bool (wordB na)) ∧ w' = W) := fun W => wordRight_any na W
  have K2 : Hid (∀ W, Calls Tryz.prog 13 #[.string va] W fun e w' => e = .returned (.bool (wordB va)) ∧ w' = W) := fun W => wordRight_any va W
  have HP : Hid (pairB na va = (!na.toList.isEmpty && wordB na && wordB va)) := rfl
  generalize pairB na va = R at *
  generalize wordB na = b1 at *
  generalize wordB va = b2 at *
  unfold pairV
  cases he : na.toList.isEmpty with
  | true =>
    have HR : Hid (R = false) := by show _ = _; rw [HP.out, he]; rfl
    go_enter Tryz.func32, Tryz.ntmps32
    go_wp2
    go_ret
    exact ⟨ret_bool HR.out.symm, (Below.refl _ _).alloc (Nat.le_refl _) _⟩
  | false =>
    cases b1 with
    | false =>
      have HR : Hid (R = false) := by show _ = _; rw [HP.out, he]; rfl
      go_enter Tryz.func32, Tryz.ntmps32
      go_wp2_with fail
      refine (K1.out _).mono ?_
      rintro e w1 ⟨rfl, rfl⟩
      go_wp2
      go_ret
      exact ⟨ret_bool HR.out.symm, (Below.refl _ _).alloc (Nat.le_refl _) _⟩
    | true =>
      have HR : Hid (R = b2) := by show _ = _; rw [HP.out, he]; cases b2 <;> rfl
      go_enter Tryz.func32, Tryz.ntmps32
      go_wp2_with fail
      refine (K1.out _).mono ?_
      rintro e w1 ⟨rfl, rfl⟩
      go_wp2_with fail
      refine (K2.out _).mono ?_
      rintro e w2 ⟨rfl, rfl⟩
      go_wp2
      go_ret
      exact ⟨ret_bool HR.out.symm, (Below.refl _ _).alloc (Nat.le_refl _) _⟩
set_option maxRecDepth 10000 in
set_option maxHeartbeats 1000000 in
theorem pairText_any (na va : ByteArray) (w : World) (h1 : na.size ≤ 1048576) (h2 : va.size ≤ 1048576) :
    Calls Tryz.prog 24 #[pairV na va] w fun e w' => e = .returned (.string (na ++ equ ++ va)) ∧ Below w.heap.size w w' := by
  have z0 : (na ++ ⟨#[61]⟩ : ByteArray).size ≤ 1048577 := by rw [ByteArray.size_append]; show na.size + 1 ≤ 1048577; omega
  unfold pairV
  go_enter Tryz.func24, Tryz.ntmps24
  go_wp2
  go_ret
  exact ⟨rfl, (Below.refl _ _).alloc (Nat.le_refl _) _⟩
end Go.Proofs.YthcpmbolnmlohaaGreatDoor

/- The walks of the program's PairsText. -/
namespace Go.Proofs.YthcpmbolnmlohaaGreatDoor
open Go.RowKit

/-- the texts of the first k pairs -/
def partsP (L : List (ByteArray × ByteArray)) (k : Nat) : List ByteArray := (L.take k).map pairT
theorem partsP_succ {L : List (ByteArray × ByteArray)} {k : Nat} (h : k < L.length) : partsP L (k + 1) = partsP L k ++ [(atP L k).1 ++ equ ++ (atP L k).2] := by
  unfold partsP
  rw [List.take_succ_eq_append_getElem h, List.map_append, atP_eq h]; rfl
theorem partsP_all (L : List (ByteArray × ByteArray)) : joinB (partsP L L.length) semi = joinP L := by
  unfold partsP
  rw [List.take_length]
  cases L with
  | nil => rfl
  | cons p L => rw [List.map_cons, join_flat]; rfl
theorem partsP_len (L : List (ByteArray × ByteArray)) (k : Nat) : (partsP L k).length ≤ k := by unfold partsP; simp; omega
theorem flat_size (r : List ByteArray) (m : Nat) (h : ∀ x ∈ r, x.size ≤ m) : (flat r).size ≤ r.length * (m + 2) := by
  induction r with
  | nil => exact Nat.zero_le _
  | cons p r ih =>
    have h1 := h p (by simp)
    have h2 := ih (fun x hx => h x (by simp [hx]))
    show (semi ++ p ++ flat r).size ≤ _
    rw [ByteArray.size_append, ByteArray.size_append, List.length_cons, Nat.add_mul]
    have e : semi.size = 2 := rfl
    omega
theorem joinP_size {L : List (ByteArray × ByteArray)} (h : pairsB L = true) : (joinP L).size ≤ 1000 := by
  unfold pairsB at h
  rw [Bool.and_eq_true, decide_eq_true_eq, List.all_eq_true] at h
  obtain ⟨h20, ha⟩ := h
  have hp : ∀ p ∈ L, (pairT p).size ≤ 41 := fun p hp => by
    have := pairB_small (ha p hp)
    unfold pairT
    rw [ByteArray.size_append, ByteArray.size_append]
    have e : equ.size = 1 := rfl
    omega
  cases L with
  | nil => exact Nat.zero_le _
  | cons p L =>
    have h1 := hp p (by simp)
    have h2 := flat_size (L.map pairT) 41 (fun x hx => by
      obtain ⟨q, hq, rfl⟩ := List.mem_map.1 hx
      exact hp q (by simp [hq]))
    rw [List.length_map] at h2
    rw [List.length_cons] at h20
    show (pairT p ++ flat (L.map pairT)).size ≤ 1000
    rw [ByteArray.size_append]
    omega
set_option maxRecDepth 10000 in
set_option maxHeartbeats 8000000 in
theorem pairsText_any (v : Value) (B : Nat) (L : List (ByteArray × ByteArray)) (w : World) (hs : SliceP w B v L) (hn : L.length ≤ 1048576) (hf : ∀ i, i < L.length → (atP L i).1.size ≤ 1048576 ∧ (atP L i).2.size ≤ 1048576) :
    Calls Tryz.prog 16 #[v] w fun e w' => e = .returned (.string (pairsT L)) ∧ Below w.heap.size w w' := by
  obtain ⟨p, cap, rfl, hg⟩ := hs
  have HT : Hid (pairsT L = if pairsB L = true then joinP L else ⟨#[]⟩) := rfl
  by_cases h20 : 20 < L.length
  · have HR : Hid (pairsT L = ⟨#[]⟩) := by show _ = _; rw [HT.out, pairsB_many h20]; rfl
    go_enter Tryz.func16, Tryz.ntmps16
    go_wp2
    go_ret
    exact ⟨ret_text HR.out.symm, Below.refl _ _⟩
  obtain ⟨i0, hi, hy0, hy1, hy2⟩ := info_parts infoStr
  have q20 : decide ((20 : Int) < (L.length : Int)) = false := by rw [decide_eq_false_iff_not]; omega
  have HG : Hid (0 < L.length → ∃ g, p = some ⟨g, 0, none⟩ ∧ B ≤ g ∧ g < w.heap.size ∧ ∀ j, j < L.length → ∀ o, o < 2 → w.cell? ⟨g, j * 2 + o, none⟩ = some (pairC (atP L) j o) ∧ w.frozen? ⟨g, j * 2 + o, none⟩ = false) := hg
  have HF : Hid (∀ i, i < L.length → (atP L i).1.size ≤ 1048576 ∧ (atP L i).2.size ≤ 1048576) := hf
  clear hg hf
  generalize hR : pairsT L = R at *
  have HR : Hid (pairsT L = R) := hR
  clear hR
  go_enter Tryz.func16, Tryz.ntmps16
  go_wp2
  go_loopw [3, 11] (fun v i wr => ∃ k : Nat, k ≤ L.length ∧ i = .int .i64 k ∧ Hid (wr.ownsRow w.heap.size 9 1 v (partsP L k).length (strCells (partsP L k))) ∧ Hid (Below w.heap.size w wr) ∧ Hid (∀ j, j < k → pairB (atP L j).1 (atP L j).2 = true)) (fun _ i _ => L.length - (intOf i).toNat)
  case atStart => exact ⟨0, Nat.zero_le _, rfl, World.ownsRow_nil _ _ _ _, Below.refl _ _, fun j hj => absurd hj (by omega)⟩
  case round =>
    obtain ⟨k, hk, rfl, HO, HB, HA⟩ := hrel
    have hpl := partsP_len L k
    have hbs := HB.out.size
    by_cases hlt : k < L.length
    · obtain ⟨g, rfl, -, hgw, hc⟩ := HG.out (by omega)
      have c0 : wr.cell? ⟨g, k * 2, none⟩ = some (.string (atP L k).1) := by rw [(bcell HB.out).1 _ _ hgw]; exact (hc k hlt 0 (by omega)).1
      have c1 : wr.cell? ⟨g, k * 2 + 1, none⟩ = some (.string (atP L k).2) := by rw [(bcell HB.out).1 _ _ hgw]; exact (hc k hlt 1 (by omega)).1
      have k0 : (0 : Int) ≤ k := by omega
      have k1 : (k : Int) < L.length := by omega
      clear hc
      have hz := HF.out k hlt
      have KR : Hid (∀ W, Calls Tryz.prog 32 #[.agg #[.string (atP L k).1, .string (atP L k).2]] W fun e w' => e = .returned (.bool (pairB (atP L k).1 (atP L k).2)) ∧ Below W.heap.size W w') := fun W => pairRight_any _ _ W
      have KT : Hid (∀ W, Calls Tryz.prog 24 #[.agg #[.string (atP L k).1, .string (atP L k).2]] W fun e w' => e = .returned (.string ((atP L k).1 ++ equ ++ (atP L k).2)) ∧ Below W.heap.size W w') := fun W => pairText_any _ _ W hz.1 hz.2
      have HP : Hid (partsP L (k + 1) = partsP L k ++ [(atP L k).1 ++ equ ++ (atP L k).2]) := partsP_succ hlt
      clear hz
      have HBX : Hid (∀ b, pairB (atP L k).1 (atP L k).2 = b → (b = false → R = ⟨#[]⟩) ∧ (b = true → ∀ j, j < k + 1 → pairB (atP L j).1 (atP L j).2 = true)) := fun b e => ⟨fun hb => by rw [HT.out, pairsB_at k hlt (e.trans hb)]; rfl, fun hb j hj => by
        by_cases ej : j = k
        · subst ej; exact e.trans hb
        · exact HA.out j (by omega)⟩
      generalize hpb : pairB (atP L k).1 (atP L k).2 = pb at *
      have HPB : Hid ((pb = false → R = ⟨#[]⟩) ∧ (pb = true → ∀ j, j < k + 1 → pairB (atP L j).1 (atP L j).2 = true)) := HBX.out pb rfl
      clear HBX hpb
      generalize (atP L k).1 ++ equ ++ (atP L k).2 = tx at *
      generalize (atP L k).1 = n1 at *
      generalize (atP L k).2 = v1 at *
      go_wp2_with fail
      refine (KR.out _).mono ?_
      rintro e w1 ⟨rfl, hb1⟩
      have d0 : w1.cell? ⟨wr.heap.size, 0, none⟩ = some (.string n1) := by rw [(bcell hb1).1 _ _ (by simp)]; simp
      have d1 : w1.cell? ⟨wr.heap.size, 1, none⟩ = some (.string v1) := by rw [(bcell hb1).1 _ _ (by simp)]; simp
      have A1 : Hid (Below wr.heap.size wr w1) := ((Below.refl _ _).alloc (Nat.le_refl _) _).trans (hb1.mono (by simp))
      clear hb1
      cases pb with
      | false =>
        go_wp2
        go_ret
        exact ⟨ret_text (HPB.out.1 (by first | rfl | trivial)).symm, HB.out.trans (A1.out.mono HB.out.size)⟩
      | true =>
        go_wp2_with fail
        refine (KT.out _).mono ?_
        rintro e w3 ⟨rfl, hb3⟩
        have A3 : Hid (Below wr.heap.size wr w3) := A1.out.trans (hb3.mono A1.out.size)
        have O3 : Hid (w3.ownsRow w.heap.size 9 1 u3 (partsP L k).length (strCells (partsP L k))) := own_below HO.out A3.out
        have B3 : Hid (Below w.heap.size w w3) := HB.out.trans (A3.out.mono HB.out.size)
        have hz3 := B3.out.size
        clear hb3 A1 A3 d0 d1
        go_wp2_with (at_builtin; go_must (refine wpList_append_own _ rfl _ _ 47 rfl w.heap.size 9 i0 (.string ⟨#[]⟩) 1 16 Tryz.underlying47 hi hy0 hy1 hy2 rfl (by decide) _ _ _ rfl (O3.out.alloc _) ⟨w3.heap.size, 0, none⟩ 1 1 [.string tx] rfl rfl (cell_one_new _ _ _) (by intro u hu; simp at hu; subst hu; rfl) (by unfold maxLen; omega) (by omega) (by simp; omega) ?_))
        intro v4 w4 ho4 hg4 _
        rw [strCells_snoc] at ho4
        have G1 : Hid (w4.ownsRow w.heap.size 9 1 v4 (partsP L k ++ [tx]).length (strCells (partsP L k ++ [tx]))) := by show World.ownsRow _ _ _ _ _ _ _; simpa using ho4
        have G2 : Hid (Below w.heap.size w w4) := (B3.out.alloc hz3 _).grown hg4 (by simp; omega) (fun j hj => (O3.out.lt j hj).1)
        clear ho4 hg4
        go_wp2
        go_roundw
        case rel => exact ⟨k + 1, by omega, by go_num, by rw [HP.out]; exact G1, G2, HPB.out.2 (by first | rfl | trivial)⟩
        case measure => simp [intOf]; omega
    · obtain rfl : k = L.length := by omega
      have hpb : pairsB L = true := pairsB_all (by omega) HA.out
      have HJ : Hid (joinB (partsP L L.length) semi = R ∧ R.size ≤ 1000) := by
        have e : R = joinP L := by rw [HT.out, if_pos hpb]
        exact ⟨by rw [partsP_all, e], by rw [e]; exact joinP_size hpb⟩
      have KJ : Hid (Calls Tryz.prog 26 #[u3, .string ⟨#[59, 32]⟩] wr fun e w' => e = .returned (.string R) ∧ Below wr.heap.size wr w') := by
        have h := join_own (partsP L L.length) _ _ _ semi _ HO.out (by omega) (by rw [HJ.out.1]; exact Nat.le_trans HJ.out.2 (by decide))
        rw [HJ.out.1] at h
        exact h
      clear hpb
      go_wp2_with (go_at_call 26; refine KJ.out.mono ?_; rintro e w9 ⟨rfl, hb9⟩)
      go_ret
      exact ⟨rfl, HB.out.trans (hb9.mono HB.out.size)⟩
end Go.Proofs.YthcpmbolnmlohaaGreatDoor

/- What the program reads of a text: a right SetCookie comes back from its text there too; so both readers tell the same of every text. -/
namespace Go.Proofs.YthcpmbolnmlohaaGreatDoor

/-- the number that the program takes a text for -/
def parseI (t : ByteArray) : Int := match Lib.parseIntB 64 t.data.toList with | .ok v => v | .«syntax» => 0 | .range => Lib.intSat 64 t.data.toList
theorem parseI_bounds (t : ByteArray) : -9223372036854775808 ≤ parseI t ∧ parseI t ≤ 9223372036854775807 := by
  unfold parseI
  cases h : Lib.parseIntB 64 t.data.toList with
  | ok v =>
    have := Lib.parseIntB_bounds h
    have e : ((2 ^ (64 - 1) : Nat) : Int) = 9223372036854775808 := by decide
    rw [e] at this
    show _ ≤ v ∧ v ≤ _
    omega
  | «syntax» => show _ ≤ (0 : Int) ∧ (0 : Int) ≤ _; omega
  | range =>
    show _ ≤ Lib.intSat 64 t.data.toList ∧ Lib.intSat 64 t.data.toList ≤ _
    unfold Lib.intSat
    split <;> constructor <;> decide
theorem uint_digits (M : Nat) : ∀ (l : List UInt8) (acc : Nat), (∀ c ∈ l, 48 ≤ c.toNat ∧ c.toNat ≤ 57) → M ≤ 18446744073709551615 → l.foldl (fun a c => a * 10 + (c.toNat - 48)) acc ≤ M → Lib.parseUintM M acc l = .ok (l.foldl (fun a c => a * 10 + (c.toNat - 48)) acc)
  | [], acc, _, _, _ => rfl
  | c :: l, acc, hd, hM, hle => by
    have mono : ∀ (l : List UInt8) (a : Nat), a ≤ l.foldl (fun a c => a * 10 + (c.toNat - 48)) a := by
      intro l
      induction l with
      | nil => intro a; exact Nat.le_refl _
      | cons c l ih => intro a; rw [List.foldl_cons]; exact Nat.le_trans (by omega) (ih _)
    rw [List.foldl_cons] at hle ⊢
    have h1 := mono l (acc * 10 + (c.toNat - 48))
    have hc := hd c (by simp)
    rw [Lib.parseUintM, if_pos hc, if_neg (by omega), if_neg (by omega)]
    exact uint_digits M l _ (fun x hx => hd x (by simp [hx])) hM hle
/-- digits of a number are taken for it -/
theorem parse_back (n : Int) (h1 : 0 ≤ n) (h2 : n ≤ 1000000) : parseI (decB n) = n := by
  by_cases h0 : n = 0
  · subst h0; decide
  have hd : decB n = ⟨(decA n.natAbs).toArray⟩ := by rw [decB, if_neg (by omega), if_neg (by omega)]
  have hnum := decA_num n.natAbs
  have hdig := decA_dig n.natAbs
  obtain ⟨c, l, hc, hn⟩ := decA_lead n.natAbs (by omega)
  have hc0 := hdig c (by rw [hc]; simp)
  have e : ∀ (l : List UInt8) (a : Nat), l.foldl (fun a c => a * 10 + (c.toNat - 48)) a = l.foldl (fun n c => 10 * n + (c.toNat - 48)) a := by
    intro l
    induction l with
    | nil => intro a; rfl
    | cons c l ih => intro a; rw [List.foldl_cons, List.foldl_cons, ih, Nat.mul_comm a 10]
  have hf : (decA n.natAbs).foldl (fun a c => a * 10 + (c.toNat - 48)) 0 = n.natAbs := (e _ 0).trans hnum
  have hu := uint_digits 18446744073709551615 (decA n.natAbs) 0 hdig (Nat.le_refl _) (by rw [hf]; omega)
  rw [hf] at hu
  have hb : Lib.parseUintB 64 (decA n.natAbs) = .ok n.natAbs := by
    unfold Lib.parseUintB
    rw [if_neg (by rw [hc]; simp)]
    exact hu
  have hp : Lib.parseIntB 64 (decA n.natAbs) = .ok n := by
    rw [hc] at hb ⊢
    rw [Lib.parseIntB_plain 64 c l (by omega) (by omega), hb]
    show Lib.signlessC 9223372036854775808 (.ok n.natAbs) = _
    unfold Lib.signlessC
    simp only
    rw [if_neg (by omega)]
    congr 1
    omega
  unfold parseI
  rw [hd]
  simp only [hp]

/-- what a piece with a value turns -/
def iVal (c : SC) (x : ByteArray) : SC :=
  if ((pairP x).1.toList == tDomain) = true then { c with dm := (pairP x).2 }
  else if ((pairP x).1.toList == tPath) = true then { c with pa := (pairP x).2 }
  else if ((pairP x).1.toList == tAge) = true then { c with ag := parseI (pairP x).2 }
  else c
def tNoneW : List UInt8 := [83, 97, 109, 101, 83, 105, 116, 101, 61, 78, 111, 110, 101]
def tStrictW : List UInt8 := [83, 97, 109, 101, 83, 105, 116, 101, 61, 83, 116, 114, 105, 99, 116]
/-- what a piece turns -/
def iPut (c : SC) (x : ByteArray) : SC :=
  if (x.toList == tNoneW) = true then { c with mo := c.mo + 1 + 1 }
  else if (x.toList == tStrictW) = true then { c with mo := c.mo + 1 }
  else if (x.toList == tSecure) = true then { c with se := true }
  else if (x.toList == tParted) = true then { c with pt := true }
  else iVal c x
/-- the pieces from the second one to the i-th turn one after another -/
def iTo (L : List ByteArray) : Nat → SC
  | 0 => ⟨(pairP (atL L 0)).1, (pairP (atL L 0)).2, ⟨#[]⟩, ⟨#[]⟩, -1, false, 0, false⟩
  | i + 1 => iPut (iTo L i) (atL L (i + 1))
def iRead (t : ByteArray) : SC := iTo (piecesL t) ((piecesL t).length - 1)
theorem iTo_foldl (p : ByteArray) (r : List ByteArray) (i : Nat) (h : i ≤ r.length) : iTo (p :: r) i = (r.take i).foldl iPut ⟨(pairP p).1, (pairP p).2, ⟨#[]⟩, ⟨#[]⟩, -1, false, 0, false⟩ := by
  induction i with
  | zero => rfl
  | succ i ih =>
    have hl : i < r.length := by omega
    have e : atL (p :: r) (i + 1) = r[i] := by simp [atL, hl]
    rw [iTo, ih (by omega), e, List.take_succ_eq_append_getElem hl, List.foldl_append]
    rfl
theorem ne_len {x : ByteArray} {l : List UInt8} (h : x.size ≠ l.length) : ¬ (x.toList == l) = true := by
  rw [beq_iff_eq]
  intro e
  apply h
  rw [← e, Lib.toList_data]; exact Lib.size_eq x
theorem ne_head {x : ByteArray} {l : List UInt8} (i : Nat) (h : x.data.toList[i]? ≠ l[i]?) : ¬ (x.toList == l) = true := by
  rw [beq_iff_eq, Lib.toList_data]
  intro e
  rw [e] at h; exact h rfl
theorem app_at (a b : ByteArray) (i : Nat) (h : i < a.size) : (a ++ b).data.toList[i]? = a.data.toList[i]? := by
  have e : (a ++ b).data.toList = a.data.toList ++ b.data.toList := by simp
  rw [e, List.getElem?_append_left (by rw [← Lib.size_eq]; exact h)]
theorem iput1 (c : SC) (dm : ByteArray) (h : c.dm = ⟨#[]⟩) : (o1 dm).foldl iPut c = { c with dm := dm } := by
  unfold o1; split
  · rename_i e; rw [nil_of e, ← h]; rfl
  · show iPut c (nDomain ++ equ ++ dm) = _
    have k : ∀ l : List UInt8, l[0]? ≠ some 68 → ¬ ((nDomain ++ equ ++ dm).toList == l) = true := fun l hl => ne_head 0 (by rw [app_at _ _ _ (by decide)]; exact fun e => hl (e.symm.trans (by decide)))
    unfold iPut
    rw [if_neg (k _ (by decide)), if_neg (k _ (by decide)), if_neg (k _ (by decide)), if_neg (k _ (by decide))]
    unfold iVal
    rw [pair_mid dm (a := nDomain) (by decide), if_pos (by rw [Lib.toList_data]; dsimp only; decide)]
theorem iput2 (c : SC) (pa : ByteArray) (h : c.pa = ⟨#[]⟩) : (o2 pa).foldl iPut c = { c with pa := pa } := by
  unfold o2; split
  · rename_i e; rw [nil_of e, ← h]; rfl
  · show iPut c (nPath ++ equ ++ pa) = _
    have k : ∀ l : List UInt8, l[2]? ≠ some 116 → ¬ ((nPath ++ equ ++ pa).toList == l) = true := fun l hl => ne_head 2 (by rw [app_at _ _ _ (by decide)]; exact fun e => hl (e.symm.trans (by decide)))
    unfold iPut
    rw [if_neg (k _ (by decide)), if_neg (k _ (by decide)), if_neg (k _ (by decide)), if_neg (k _ (by decide))]
    unfold iVal
    rw [pair_mid pa (a := nPath) (by decide), if_neg (by rw [Lib.toList_data]; dsimp only; decide), if_pos (by rw [Lib.toList_data]; dsimp only; decide)]
theorem iput3 (c : SC) (ag : Int) (h : c.ag = -1) (h1 : -1 ≤ ag) (h2 : ag ≤ 1000000) : (o3 ag).foldl iPut c = { c with ag := ag } := by
  unfold o3; split
  · show iPut c (nAge ++ equ ++ decB ag) = _
    have k : ∀ l : List UInt8, l[0]? ≠ some 77 → ¬ ((nAge ++ equ ++ decB ag).toList == l) = true := fun l hl => ne_head 0 (by rw [app_at _ _ _ (by decide)]; exact fun e => hl (e.symm.trans (by decide)))
    unfold iPut
    rw [if_neg (k _ (by decide)), if_neg (k _ (by decide)), if_neg (k _ (by decide)), if_neg (k _ (by decide))]
    unfold iVal
    rw [pair_mid (decB ag) (a := nAge) (by decide), if_neg (by rw [Lib.toList_data]; dsimp only; decide), if_neg (by rw [Lib.toList_data]; dsimp only; decide), if_pos (by rw [Lib.toList_data]; dsimp only; decide), parse_back ag (by omega) h2]
  · have e : ag = -1 := by omega
    rw [e, ← h]; rfl
theorem iput4 (c : SC) (se : Bool) (h : c.se = false) : (o4 se).foldl iPut c = { c with se := se } := by
  unfold o4; split
  · rename_i e
    show iPut c nSecure = _
    unfold iPut
    rw [if_neg (by rw [Lib.toList_data]; decide), if_neg (by rw [Lib.toList_data]; decide), if_pos (by rw [Lib.toList_data]; decide), e]
  · rename_i e
    rw [Bool.eq_false_iff.mpr e, ← h]; rfl
theorem iput5 (c : SC) (mo : Int) (h : c.mo = 0) (hm : modeB mo = true) : (o5 mo).foldl iPut c = { c with mo := mo } := by
  unfold o5; split
  · rename_i e
    show iPut c (nSame ++ equ ++ vStrict) = _
    unfold iPut
    rw [if_neg (by rw [Lib.toList_data]; decide), if_pos (by rw [Lib.toList_data]; decide), e, h]; rfl
  · split
    · rename_i e
      show iPut c (nSame ++ equ ++ vNone) = _
      unfold iPut
      rw [if_pos (by rw [Lib.toList_data]; decide), e, h]; rfl
    · unfold modeB at hm
      rw [Bool.and_eq_true, decide_eq_true_eq, decide_eq_true_eq] at hm
      have e : mo = 0 := by omega
      rw [e, ← h]; rfl
theorem iput6 (c : SC) (pt : Bool) (h : c.pt = false) : (o6 pt).foldl iPut c = { c with pt := pt } := by
  unfold o6; split
  · rename_i e
    show iPut c nParted = _
    unfold iPut
    rw [if_neg (by rw [Lib.toList_data]; decide), if_neg (by rw [Lib.toList_data]; decide), if_neg (by rw [Lib.toList_data]; decide), if_pos (by rw [Lib.toList_data]; decide), e]
  · rename_i e
    rw [Bool.eq_false_iff.mpr e, ← h]; rfl
theorem iset_back (na va dm pa : ByteArray) (ag : Int) (se : Bool) (mo : Int) (pt : Bool) (h : setB na va dm pa ag mo = true) : iRead (setT na va dm pa ag se mo pt) = ⟨na, va, dm, pa, ag, se, mo, pt⟩ := by
  obtain ⟨hp, L1, w5, w6, w7⟩ := set_pieces na va dm pa ag se mo pt h
  unfold iRead
  rw [hp, List.length_cons, Nat.add_sub_cancel, iTo_foldl _ _ _ (Nat.le_refl _), List.take_length, pair_mid va L1]
  simp only [List.foldl_append]
  rw [iput1 _ dm rfl, iput2 _ pa rfl, iput3 _ ag rfl w5 w6, iput4 _ se rfl, iput5 _ mo rfl w7, iput6 _ pt rfl]
/-- is it right, and the text of what the program reads of it? -/
def iOk (t : ByteArray) : Bool := setB (iRead t).na (iRead t).va (iRead t).dm (iRead t).pa (iRead t).ag (iRead t).mo && ((scTx (iRead t)).toList == t.toList)
theorem setT_ne (na va dm pa : ByteArray) (ag : Int) (se : Bool) (mo : Int) (pt : Bool) : (setT na va dm pa ag se mo pt).toList.isEmpty = false := by
  rw [setT_flat, Lib.toList_data]
  show ((na ++ equ ++ va ++ flat _).data.toList).isEmpty = false
  rw [← Bool.not_eq_true, List.isEmpty_iff]
  intro hh
  have := congrArg List.length hh
  simp [equ] at this
theorem toList_inj {a b : ByteArray} (h : (a.toList == b.toList) = true) : a = b := by
  rw [beq_iff_eq, Lib.toList_data, Lib.toList_data] at h
  apply ByteArray.ext
  exact Array.toList_inj.1 h
/-- both readers tell the same -/
theorem readers_same (t : ByteArray) : (iOk t = scOk t) ∧ (scOk t = true → iRead t = scRead t) := by
  have right : ∀ c : SC, (scTx c).toList.isEmpty = false → setB c.na c.va c.dm c.pa c.ag c.mo = true := by
    intro c hc
    unfold scTx setTx at hc
    by_cases hb : setB c.na c.va c.dm c.pa c.ag c.mo = true
    · exact hb
    · rw [if_neg hb] at hc; simp at hc
  by_cases hs : scOk t = true
  · have h1 := hs
    unfold scOk at h1
    rw [Bool.and_eq_true] at h1
    have ht := toList_inj h1.2
    have hb := right (scRead t) (by rw [ht]; simpa using h1.1)
    have hT : setT (scRead t).na (scRead t).va (scRead t).dm (scRead t).pa (scRead t).ag (scRead t).se (scRead t).mo (scRead t).pt = t := by
      have : scTx (scRead t) = _ := rfl
      unfold scTx setTx at ht
      rw [if_pos hb] at ht; exact ht
    have hi := iset_back _ _ _ _ _ (scRead t).se _ (scRead t).pt hb
    rw [hT] at hi
    have hi' : iRead t = scRead t := hi
    refine ⟨?_, fun _ => hi'⟩
    rw [hs]
    unfold iOk
    rw [hi', hb, ht]; simp
  · refine ⟨?_, fun h => absurd h hs⟩
    rw [Bool.not_eq_true] at hs
    rw [hs, ← Bool.not_eq_true]
    intro hi
    unfold iOk at hi
    rw [Bool.and_eq_true] at hi
    obtain ⟨hb, hq⟩ := hi
    have ht := toList_inj hq
    have hT : setT (iRead t).na (iRead t).va (iRead t).dm (iRead t).pa (iRead t).ag (iRead t).se (iRead t).mo (iRead t).pt = t := by
      unfold scTx setTx at ht
      rw [if_pos hb] at ht; exact ht
    have hc := set_back _ _ _ _ _ (iRead t).se _ (iRead t).pt hb
    rw [hT] at hc
    have hc' : scRead t = iRead t := hc
    have hne := setT_ne (iRead t).na (iRead t).va (iRead t).dm (iRead t).pa (iRead t).ag (iRead t).se (iRead t).mo (iRead t).pt
    rw [hT] at hne
    have : scOk t = true := by
      unfold scOk
      rw [hc', ht, hne]; simp
    rw [this] at hs; cases hs
end Go.Proofs.YthcpmbolnmlohaaGreatDoor

/- The specification's source of draws: what it tells is somewhere in its bounds; it writes into its own block alone. -/
namespace Go.Proofs.YthcpmbolnmlohaaGreatDoor
open Go.RowKit

/-- the bytes of a source: readable, and of a block below g -/
def BytesOf (w : World) (g : Nat) (a : Option Addr) (len : Nat) : Prop := ∀ i, i < len → ∃ (x : Addr) (z : Int), a = some x ∧ x.block < g ∧ w.cell? (x.add i) = some (.int .u8 z) ∧ 0 ≤ z ∧ z < 256
/-- a source of draws lies in block g -/
def SrcAt (w : World) (g : Nat) : Prop :=
  g < w.heap.size ∧ ∃ (a : Option Addr) (len cap at' : Nat) (mix size : Int), (w.cell? ⟨g, 0, none⟩ = some (.slice a len cap) ∧ w.cell? ⟨g, 1, none⟩ = some (.int .i64 at') ∧ w.cell? ⟨g, 2, none⟩ = some (.int .u64 mix) ∧ w.cell? ⟨g, 3, none⟩ = some (.int .i64 size)) ∧
    (0 ≤ mix ∧ mix < 18446744073709551616 ∧ 0 ≤ size ∧ size ≤ 12 ∧ len ≤ 1048576 ∧ at' ≤ len) ∧ (∀ o, w.frozen? ⟨g, o, none⟩ = false) ∧ BytesOf w g a len

theorem setCell_twice (W : World) (p : Addr) (u v : Value) : (W.setCell p u).setCell p v = W.setCell p v := by
  unfold World.setCell
  congr 1
  apply Array.ext
  · simp
  · intro i h1 h2
    simp only [Array.getElem_modify]
    split
    · have hi : i < W.heap.size := by simpa using h2
      cases W.heap[i] with
      | cells c e f => by_cases hs : p.spot.isSome = true <;> simp [hs]
      | _ => rfl
    · rfl
theorem xor_range (a b : Int) : 0 ≤ bits BinOp.xor IntKind.u64 a b ∧ bits BinOp.xor IntKind.u64 a b < 18446744073709551616 := by
  show 0 ≤ IntKind.u64.wrap _ ∧ IntKind.u64.wrap _ < _
  rw [IntKind.wrap_u64]
  exact ⟨Int.emod_nonneg _ (by decide), Int.emod_lt_of_pos _ (by decide)⟩
theorem draw_range (x most : Int) (h1 : 1 < most) (h2 : most < 9223372036854775808) : 0 ≤ wrap64 ((IntKind.u64.wrap x).tmod most) ∧ wrap64 ((IntKind.u64.wrap x).tmod most) < most := by
  rw [IntKind.wrap_u64]
  have h0 : 0 ≤ x % 18446744073709551616 := Int.emod_nonneg _ (by decide)
  generalize x % 18446744073709551616 = y at *
  rw [Int.tmod_eq_emod_of_nonneg h0]
  have a1 := Int.emod_nonneg y (b := most) (by omega)
  have a2 := Int.emod_lt_of_pos y (b := most) (by omega)
  generalize y % most = r at *
  unfold wrap64
  omega
theorem BytesOf.setCell {w : World} {g o : Nat} {a : Option Addr} {len : Nat} (hb : BytesOf w g a len) (v : Value) : BytesOf (w.setCell ⟨g, o, none⟩ v) g a len := by
  intro i hi
  obtain ⟨x, z, e, hx, hc, hz⟩ := hb i hi
  have hxb : (x.add i).block = x.block := by unfold Addr.add; split <;> rfl
  refine ⟨x, z, e, hx, ?_, hz⟩
  rw [World.cell?_setCell_far _ _ _ _ (by rw [hxb]; show g ≠ _; omega)]
  exact hc
theorem grown_setCell {w w' : World} {g o : Nat} (h : w.grownBy w' (some g)) (v : Value) : w.grownBy (w'.setCell ⟨g, o, none⟩ v) (some g) :=
  ⟨h.os, h.tape, h.output, by have := h.size; simp [World.setCell]; omega, fun j hj hne => by
    have hj' : j ≠ g := fun h => hne (by rw [h])
    rw [Below.heap_setCell _ _ _ _ hj']; exact h.block j hj hne⟩
theorem grown_refl (w : World) (r : Option Nat) : w.grownBy w r := ⟨rfl, rfl, rfl, Nat.le_refl _, fun _ _ _ => rfl⟩
/-- a source turned: its place moved on -/
theorem src_on {w : World} {g : Nat} {a : Option Addr} {len cap k k' : Nat} {mix size : Int} (hg : g < w.heap.size)
    (c0 : w.cell? ⟨g, 0, none⟩ = some (.slice a len cap)) (c1 : w.cell? ⟨g, 1, none⟩ = some (.int .i64 k)) (c2 : w.cell? ⟨g, 2, none⟩ = some (.int .u64 mix)) (c3 : w.cell? ⟨g, 3, none⟩ = some (.int .i64 size))
    (m0 : 0 ≤ mix) (m1 : mix < 18446744073709551616) (hs0 : 0 ≤ size) (hs1 : size ≤ 12) (hl : len ≤ 1048576) (hk : k' ≤ len) (hf : ∀ o, w.frozen? ⟨g, o, none⟩ = false) (hb : BytesOf w g a len) :
    SrcAt (w.setCell ⟨g, 1, none⟩ (.int .i64 k')) g := by
  refine ⟨by simpa [World.setCell] using hg, a, len, cap, k', mix, size, ⟨?_, ?_, ?_, ?_⟩, ⟨m0, m1, hs0, hs1, hl, hk⟩, ?_, hb.setCell _⟩
  · rw [World.cell?_setCell_other _ _ _ _ (by simp)]; exact c0
  · exact World.cell?_setCell_same _ _ _ c1
  · rw [World.cell?_setCell_other _ _ _ _ (by simp)]; exact c2
  · rw [World.cell?_setCell_other _ _ _ _ (by simp)]; exact c3
  · intro o; rw [World.frozen?_setCell]; exact hf o
/-- a source turned: its mix another one -/
theorem src_mix {w : World} {g : Nat} {M : Int} (h : SrcAt w g) (hM : 0 ≤ M ∧ M < 18446744073709551616) : SrcAt (w.setCell ⟨g, 2, none⟩ (.int .u64 M)) g := by
  obtain ⟨hg, a, len, cap, k, mix, size, ⟨c0, c1, c2, c3⟩, ⟨m0, m1, s0, s1, hl, hk⟩, hf, hb⟩ := h
  refine ⟨by simpa [World.setCell] using hg, a, len, cap, k, M, size, ⟨?_, ?_, ?_, ?_⟩, ⟨hM.1, hM.2, s0, s1, hl, hk⟩, ?_, hb.setCell _⟩
  · rw [World.cell?_setCell_other _ _ _ _ (by simp)]; exact c0
  · rw [World.cell?_setCell_other _ _ _ _ (by simp)]; exact c1
  · exact World.cell?_setCell_same _ _ _ c2
  · rw [World.cell?_setCell_other _ _ _ _ (by simp)]; exact c3
  · intro o; rw [World.frozen?_setCell]; exact hf o
theorem SrcAt.drew {w : World} {g : Nat} (h : SrcAt w g) : SrcAt w.drew g := h
theorem grown_drew {w w' : World} {r : Option Nat} (h : w.grownBy w' r) : w.grownBy w'.drew r := ⟨h.os, h.tape, h.output, h.size, h.block⟩

set_option maxRecDepth 10000 in
set_option maxHeartbeats 1000000 in
theorem srcN_any (g : Nat) (most : Int) (w : World) (hs : SrcAt w g) (hm : most < 9223372036854775808) :
    Calls Tryz.prog 27 #[.pointer (some ⟨g, 0, none⟩), .int .i64 most] w fun e w' => ∃ r : Int, e = .returned (.int .i64 r) ∧ 0 ≤ r ∧ (1 < most → r < most) ∧ (most ≤ 1 → r = 0) ∧ SrcAt w' g ∧ w.grownBy w' (some g) := by
  have HS : Hid (SrcAt w g) := hs
  obtain ⟨hg, a, len, cap, k, mix, size, ⟨c0, c1, c2, c3⟩, ⟨m0, m1, s0, s1, hl, hk⟩, hf, hb⟩ := hs
  have hcc : ∀ (W : World) (p : Addr) (u v : Value), (W.setCell p u).setCell p v = W.setCell p v := setCell_twice
  by_cases h1 : most ≤ 1
  · go_enter Tryz.func27, Tryz.ntmps27
    go_wp2
    go_ret
    exact ⟨0, rfl, Int.le_refl _, fun h => absurd h (by omega), fun _ => rfl, HS.out, ⟨rfl, rfl, rfl, Nat.le_refl _, fun _ _ _ => rfl⟩⟩
  have q1 : decide (most ≤ 1) = false := by rw [decide_eq_false_iff_not]; exact h1
  by_cases hlt : k < len
  · obtain ⟨x, z, rfl, hx, hz, z0, z1⟩ := hb k hlt
    have k0 : (0 : Int) ≤ k := by omega
    have k1 : (k : Int) < (len : Int) := by omega
    have HBy : Hid (BytesOf w g (some x) len) := hb
    clear hb
    go_enter Tryz.func27, Tryz.ntmps27
    go_wp2
    go_region
    go_wp2
    go_region
    go_wp2
    go_region
    go_wp2
    go_region
    go_wp2
    go_region
    go_wp2
    go_ret
    exact ⟨_, rfl, (draw_range _ most h1 hm).1, fun _ => (draw_range _ most h1 hm).2, fun h => absurd h (by omega),
      src_mix (src_on (k' := k + 1) hg c0 c1 c2 c3 m0 m1 s0 s1 hl (by omega) hf HBy.out) (xor_range _ _), grown_drew (grown_drew (grown_drew (grown_drew (grown_drew (grown_setCell (grown_setCell (grown_refl _ _) _) _)))))⟩
  · have HBy : Hid (BytesOf w g a len) := hb
    clear hb
    go_enter Tryz.func27, Tryz.ntmps27
    go_wp2
    go_region
    go_wp2
    go_region
    go_wp2
    go_region
    go_wp2
    go_region
    go_wp2
    go_ret
    exact ⟨_, rfl, (draw_range _ most h1 hm).1, fun _ => (draw_range _ most h1 hm).2, fun h => absurd h (by omega),
      src_mix HS.out (xor_range _ _), grown_drew (grown_drew (grown_drew (grown_drew (grown_setCell (grown_refl _ _) _))))⟩
end Go.Proofs.YthcpmbolnmlohaaGreatDoor

/- More of the specification's source of draws: one of so many, one of some texts, a source from bytes. -/
namespace Go.Proofs.YthcpmbolnmlohaaGreatDoor
open Go.RowKit

set_option maxRecDepth 10000 in
set_option maxHeartbeats 400000 in
theorem srcOne_any (g : Nat) (most : Int) (w : World) (hs : SrcAt w g) (hm : most < 9223372036854775808) :
    Calls Tryz.prog 43 #[.pointer (some ⟨g, 0, none⟩), .int .i64 most] w fun e w' => (∃ b : Bool, e = .returned (.bool b)) ∧ SrcAt w' g ∧ w.grownBy w' (some g) := by
  have HN : Hid (Calls Tryz.prog 27 #[.pointer (some ⟨g, 0, none⟩), .int .i64 most] w fun e w' => ∃ r : Int, e = .returned (.int .i64 r) ∧ 0 ≤ r ∧ (1 < most → r < most) ∧ (most ≤ 1 → r = 0) ∧ SrcAt w' g ∧ w.grownBy w' (some g)) := srcN_any g most w hs hm
  clear hs
  go_enter Tryz.func43, Tryz.ntmps43
  go_wp2_with fail
  refine HN.out.mono ?_
  rintro e w1 ⟨r, rfl, _, _, _, h1, h2⟩
  go_wp2
  go_ret
  exact ⟨⟨_, rfl⟩, h1, h2⟩

/-- a row of texts in block h -/
def TextsAt (w : World) (h n : Nat) (f : Nat → ByteArray) : Prop := ∀ j, j < n → w.cell? ⟨h, j, none⟩ = some (.string (f j))
theorem TextsAt.kept {w w' : World} {h n : Nat} {f : Nat → ByteArray} {r : Option Nat} (ht : TextsAt w h n f) (hg : w.grownBy w' r) (hne : some h ≠ r) : TextsAt w' h n f :=
  fun j hj => hg.cell (a := ⟨h, j, none⟩) (ht j hj) hne

set_option maxRecDepth 10000 in
set_option maxHeartbeats 400000 in
theorem srcPick_any (g h n cap : Nat) (f : Nat → ByteArray) (w : World) (hs : SrcAt w g) (ht : TextsAt w h (n + 2) f) (hne : h ≠ g) (hn : n ≤ 1048576) :
    Calls Tryz.prog 29 #[.pointer (some ⟨g, 0, none⟩), .slice (some ⟨h, 0, none⟩) (n + 2) cap] w fun e w' => (∃ j, j < n + 2 ∧ e = .returned (.string (f j))) ∧ SrcAt w' g ∧ w.grownBy w' (some g) := by
  have HN : Hid (Calls Tryz.prog 27 #[.pointer (some ⟨g, 0, none⟩), .int .i64 ((n : Int) + 2)] w fun e w' => ∃ r : Int, e = .returned (.int .i64 r) ∧ 0 ≤ r ∧ (1 < (n : Int) + 2 → r < (n : Int) + 2) ∧ ((n : Int) + 2 ≤ 1 → r = 0) ∧ SrcAt w' g ∧ w.grownBy w' (some g)) := srcN_any g _ w hs (by omega)
  have HT : Hid (TextsAt w h (n + 2) f) := ht
  clear hs ht
  go_enter Tryz.func29, Tryz.ntmps29
  go_wp2_with fail
  refine HN.out.mono ?_
  rintro e w1 ⟨r, rfl, r0, r1, _, h1, h2⟩
  have r2 := r1 (by omega)
  obtain ⟨j, rfl⟩ : ∃ j : Nat, r = j := ⟨r.toNat, by omega⟩
  have hj : j < n + 2 := by omega
  have hc := HT.out.kept h2 (by simpa using hne) j hj
  clear r1
  go_wp2
  go_ret
  exact ⟨⟨j, hj, rfl⟩, h1, h2⟩

/-- the bytes that a source is made from -/
def CodeRow (w : World) (a : Option Addr) (len : Nat) : Prop := ∀ i, i < len → ∃ (x : Addr) (z : Int), a = some x ∧ x.block < w.heap.size ∧ w.cell? (x.add i) = some (.int .u8 z) ∧ 0 ≤ z ∧ z < 256
theorem add_block (x : Addr) (i : Nat) : (x.add i).block = x.block := by unfold Addr.add; split <;> rfl
theorem CodeRow.bytes {w w' : World} {a : Option Addr} {len : Nat} (h : CodeRow w a len) (hb : Below w.heap.size w w') : BytesOf w' w.heap.size a len := by
  intro i hi
  obtain ⟨x, z, e, hx, hc, hz⟩ := h i hi
  exact ⟨x, z, e, by omega, by rw [hb.cell (p := x.add i) (by rw [add_block]; exact hx)]; exact hc, hz⟩

theorem wrap_range (x : Int) : 0 ≤ IntKind.u64.wrap x ∧ IntKind.u64.wrap x < 18446744073709551616 := by
  rw [IntKind.wrap_u64]
  exact ⟨Int.emod_nonneg _ (by decide), Int.emod_lt_of_pos _ (by decide)⟩
theorem src_size {w : World} {g : Nat} {a : Option Addr} {len cap : Nat} {mix size size' : Int} (hg : g < w.heap.size)
    (c0 : w.cell? ⟨g, 0, none⟩ = some (.slice a len cap)) (c1 : w.cell? ⟨g, 1, none⟩ = some (.int .i64 0)) (c2 : w.cell? ⟨g, 2, none⟩ = some (.int .u64 mix)) (c3 : w.cell? ⟨g, 3, none⟩ = some (.int .i64 size))
    (m0 : 0 ≤ mix) (m1 : mix < 18446744073709551616) (hs0 : 0 ≤ size') (hs1 : size' ≤ 12) (hl : len ≤ 1048576) (hf : ∀ o, w.frozen? ⟨g, o, none⟩ = false) (hb : BytesOf w g a len) :
    SrcAt (w.setCell ⟨g, 3, none⟩ (.int .i64 size')) g := by
  refine ⟨by simpa [World.setCell] using hg, a, len, cap, 0, mix, size', ⟨?_, ?_, ?_, ?_⟩, ⟨m0, m1, hs0, hs1, hl, Nat.zero_le _⟩, ?_, hb.setCell _⟩
  · rw [World.cell?_setCell_other _ _ _ _ (by simp)]; exact c0
  · rw [World.cell?_setCell_other _ _ _ _ (by simp)]; exact c1
  · rw [World.cell?_setCell_other _ _ _ _ (by simp)]; exact c2
  · exact World.cell?_setCell_same _ _ _ c3
  · intro o; rw [World.frozen?_setCell]; exact hf o

set_option maxRecDepth 10000 in
set_option maxHeartbeats 1000000 in
theorem source_any (a : Option Addr) (len cap : Nat) (w : World) (hr : CodeRow w a len) (hl : len ≤ 1048576) :
    Calls Tryz.prog 22 #[.slice a len cap] w fun e w' => e = .returned (.pointer (some ⟨w.heap.size, 0, none⟩)) ∧ SrcAt w' w.heap.size ∧ Below w.heap.size w w' := by
  have HR : Hid (CodeRow w a len) := hr
  clear hr
  have hcc : ∀ (W : World) (p : Addr) (u v : Value), (W.setCell p u).setCell p v = W.setCell p v := setCell_twice
  go_enter Tryz.func22, Tryz.ntmps22
  go_wp2
  go_loopw [4] (fun i wr => ∃ (k : Nat) (mix : Int), k ≤ len ∧ i = .int .i64 k ∧ w.heap.size < wr.heap.size ∧ (wr.cell? ⟨w.heap.size, 0, none⟩ = some (.slice a len cap) ∧ wr.cell? ⟨w.heap.size, 1, none⟩ = some (.int .i64 0) ∧ wr.cell? ⟨w.heap.size, 2, none⟩ = some (.int .u64 mix) ∧ wr.cell? ⟨w.heap.size, 3, none⟩ = some (.int .i64 0)) ∧ 0 ≤ mix ∧ mix < 18446744073709551616 ∧ (∀ o, wr.frozen? ⟨w.heap.size, o, none⟩ = false) ∧ Below w.heap.size w wr) (fun i _ => len - (intOf i).toNat)
  case atStart => exact ⟨0, 88172645463325252, by omega, rfl, by simp, ⟨by simp, by simp, by simp, by simp⟩, by decide, by decide, by simp, (Below.refl _ _).alloc (Nat.le_refl _) _⟩
  case round =>
    obtain ⟨k, mix, hk, rfl, hz, ⟨c0, c1, c2, c3⟩, m0, m1, hf, hb⟩ := hrel
    have HBy : Hid (BytesOf wr w.heap.size a len) := HR.out.bytes hb
    have HB : Hid (Below w.heap.size w wr) := hb
    clear hb
    by_cases hgo : k < len ∧ k < 64
    · obtain ⟨h1, h2⟩ := hgo
      obtain ⟨x, z, rfl, hx, hzc, z0, z1⟩ := HBy.out k h1
      have k0 : (0 : Int) ≤ k := by omega
      have k1 : (k : Int) < (len : Int) := by omega
      have q2 : (k : Int) < 64 := by omega
      go_wp2
      go_region
      go_wp2
      go_roundw
      case rel =>
        refine ⟨k + 1, IntKind.u64.wrap (bits BinOp.xor IntKind.u64 mix z * 1099511628211), by omega, by go_num, ?_, ⟨?_, ?_, ?_, ?_⟩, ?_, ?_, ?_, ?_⟩
        · simpa [World.setCell] using hz
        · exact (World.cell?_setCell_other _ _ _ _ (by simp)).trans c0
        · exact (World.cell?_setCell_other _ _ _ _ (by simp)).trans c1
        · exact World.cell?_setCell_same _ _ _ c2
        · exact (World.cell?_setCell_other _ _ _ _ (by simp)).trans c3
        · exact (wrap_range _).1
        · exact (wrap_range _).2
        · intro o
          exact (World.frozen?_setCell _ _ _ _).trans (hf o)
        · exact (HB.out.setCell (Nat.le_refl _) _).drew
      case measure => simp [intOf]; omega
    · have hq : (¬ k < len ∧ decide (k < len) = false) ∨ (k < len ∧ ¬ k < 64 ∧ decide (k < 64) = false ∧ decide ((k : Int) < 64) = false) := by
        by_cases h : k < len
        · exact .inr ⟨h, by omega, by rw [decide_eq_false_iff_not]; omega, by rw [decide_eq_false_iff_not]; omega⟩
        · exact .inl ⟨h, by rw [decide_eq_false_iff_not]; omega⟩
      have hd0 : (0 : Int) ≤ (len : Int) / 20 := by omega
      by_cases h12 : (12 : Int) < (len : Int) / 20
      · rcases hq with ⟨q1, q1'⟩ | ⟨q1, q2, q2', q2''⟩
        all_goals
          go_wp2
          go_ret
          exact ⟨rfl, src_size hz c0 c1 c2 c3 m0 m1 (by decide) (by decide) hl hf HBy.out, HB.out.setCell (Nat.le_refl _) _⟩
      · have q3 : decide ((12 : Int) < (len : Int) / 20) = false := by rw [decide_eq_false_iff_not]; exact h12
        rcases hq with ⟨q1, q1'⟩ | ⟨q1, q2, q2', q2''⟩
        all_goals
          go_wp2
          go_ret
          exact ⟨rfl, src_size hz c0 c1 c2 c3 m0 m1 hd0 (by omega) hl hf HBy.out, HB.out.setCell (Nat.le_refl _) _⟩
end Go.Proofs.YthcpmbolnmlohaaGreatDoor

/- The walk of the specification's UrlText. -/
namespace Go.Proofs.YthcpmbolnmlohaaGreatDoor
open Go.RowKit

/-- the text of a right url, else the empty one -/
def urlT (sc ho pa : ByteArray) (po : Int) : ByteArray := if urlB sc ho pa po = true then placeT sc ho po ++ pa else ⟨#[]⟩
theorem schemeB_size {t : ByteArray} (h : schemeB t = true) : t.size ≤ 5 := by
  have hl : t.size = t.toList.length := by rw [ByteArray.toList_eq]; rfl
  unfold schemeB at h
  rw [Bool.or_eq_true, beq_iff_eq, beq_iff_eq] at h
  rcases h with h | h <;> rw [hl, h] <;> decide
theorem urlB_parts {sc ho pa : ByteArray} {po : Int} (h : urlB sc ho pa po = true) : sc.size ≤ 5 ∧ ho.size ≤ 100 ∧ 1 ≤ po ∧ po ≤ 65535 ∧ pa.size ≤ 40 := by
  unfold urlB placeB at h
  simp only [Bool.and_eq_true, decide_eq_true_eq] at h
  obtain ⟨⟨⟨h1, h2⟩, h3, h4⟩, h5⟩ := h
  refine ⟨schemeB_size h1, ?_, h3, h4, ?_⟩
  · by_cases hz : 100 < ho.size
    · rw [hostB_size hz] at h2; cases h2
    · omega
  · by_cases hz : 40 < pa.size
    · rw [pathB_size (.inr hz)] at h5; cases h5
    · omega
theorem placeT_size {sc ho : ByteArray} {po : Int} (h1 : sc.size ≤ 5) (h2 : ho.size ≤ 100) (h3 : 1 ≤ po) (h4 : po ≤ 65535) : (placeT sc ho po).size ≤ 200 := by
  have hd := decB_size (n := po) (by omega) (by omega)
  have e1 : (⟨#[58, 47, 47]⟩ : ByteArray).size = 3 := rfl
  have e2 : (⟨#[58]⟩ : ByteArray).size = 1 := rfl
  unfold placeT
  split
  · rw [ByteArray.size_append, ByteArray.size_append]; omega
  · rw [ByteArray.size_append, ByteArray.size_append, ByteArray.size_append, ByteArray.size_append]; omega

end Go.Proofs.YthcpmbolnmlohaaGreatDoor

/- The specification's drawn hosts and urls: what they tell is short. -/
namespace Go.Proofs.YthcpmbolnmlohaaGreatDoor
open Go.RowKit

/-- n texts of at most N bytes in block h -/
def ShortRow (w : World) (h n N : Nat) : Prop := ∀ j, j < n → ∃ x : ByteArray, w.cell? ⟨h, j, none⟩ = some (.string x) ∧ x.size ≤ N
def shortB (cs : Array Value) (n N : Nat) : Bool := (List.range n).all fun j => match cs[j]? with | some (.string x) => decide (x.size ≤ N) | _ => false
theorem short_made (w : World) (cs : Array Value) (t : TypeId) (n N : Nat) (h : shortB cs n N = true) : ShortRow (w.alloc (.cells cs t)) w.heap.size n N := by
  intro j hj
  have := List.all_eq_true.mp h j (List.mem_range.mpr hj)
  rw [World.cell?_alloc_new]
  revert this
  cases cs[j]? with
  | none => intro h; cases h
  | some v =>
    cases v with
    | string x => intro h; exact ⟨x, rfl, by simpa using h⟩
    | _ => intro h; cases h
theorem short_made_at (w : World) (b : Nat) (hb : b = w.heap.size) (cs : Array Value) (t : TypeId) (n N : Nat) (h : shortB cs n N = true) : ShortRow (w.alloc (.cells cs t)) b n N := by
  subst hb; exact short_made w cs t n N h

set_option maxRecDepth 10000 in
set_option maxHeartbeats 400000 in
theorem srcPick_short (g h n cap N : Nat) (w : World) (hs : SrcAt w g) (ht : ShortRow w h (n + 2) N) (hne : h ≠ g) (hn : n ≤ 1048576) :
    Calls Tryz.prog 29 #[.pointer (some ⟨g, 0, none⟩), .slice (some ⟨h, 0, none⟩) (n + 2) cap] w fun e w' => (∃ t : ByteArray, e = .returned (.string t) ∧ t.size ≤ N) ∧ SrcAt w' g ∧ w.grownBy w' (some g) := by
  classical
  let f : Nat → ByteArray := fun j => if hj : j < n + 2 then (ht j hj).choose else ⟨#[]⟩
  refine (srcPick_any g h n cap f w hs ?_ hne hn).mono ?_
  · intro j hj
    simp only [f, dif_pos hj]
    exact (ht j hj).choose_spec.1
  · rintro e w' ⟨⟨j, hj, rfl⟩, h1, h2⟩
    refine ⟨⟨_, rfl, ?_⟩, h1, h2⟩
    simp only [f, dif_pos hj]
    exact (ht j hj).choose_spec.2

theorem cell_lt {w : World} {a : Addr} {v : Value} (h : w.cell? a = some v) : a.block < w.heap.size := by
  unfold World.cell? at h
  split at h
  · rename_i hb
    exact (Array.getElem?_eq_some_iff.mp hb).1
  · cases h
theorem SrcAt.alloc {w : World} {g : Nat} (h : SrcAt w g) (o : Obj) : SrcAt (w.alloc o) g := by
  obtain ⟨hg, a, len, cap, k, mix, size, ⟨c0, c1, c2, c3⟩, hm, hf, hb⟩ := h
  refine ⟨by simp; omega, a, len, cap, k, mix, size, ⟨?_, ?_, ?_, ?_⟩, hm, ?_, ?_⟩
  · rw [World.cell?_alloc_lt _ _ _ hg]; exact c0
  · rw [World.cell?_alloc_lt _ _ _ hg]; exact c1
  · rw [World.cell?_alloc_lt _ _ _ hg]; exact c2
  · rw [World.cell?_alloc_lt _ _ _ hg]; exact c3
  · intro o'
    rw [World.frozen?_of_block (w := w) (Below.heap_alloc _ _ _ hg)]; exact hf o'
  · intro i hi
    obtain ⟨x, z, e, hx, hc, hz⟩ := hb i hi
    exact ⟨x, z, e, hx, (World.cell?_of_block (w := w) (Below.heap_alloc _ _ _ (cell_lt hc))).trans hc, hz⟩

set_option maxRecDepth 10000 in
set_option maxHeartbeats 1000000 in
theorem srcHost_any (g : Nat) (w : World) (hs : SrcAt w g) :
    Calls Tryz.prog 51 #[.pointer (some ⟨g, 0, none⟩)] w fun e w' => (∃ t : ByteArray, e = .returned (.string t) ∧ t.size ≤ 20) ∧ SrcAt w' g ∧ w.grownBy w' (some g) := by
  have HO : Hid (Calls Tryz.prog 43 #[.pointer (some ⟨g, 0, none⟩), .int .i64 20] w fun e w' => (∃ b : Bool, e = .returned (.bool b)) ∧ SrcAt w' g ∧ w.grownBy w' (some g)) := srcOne_any g 20 w hs (by decide)
  clear hs
  go_enter Tryz.func51, Tryz.ntmps51
  go_wp2_with fail
  refine HO.out.mono ?_
  rintro e w1 ⟨⟨b, rfl⟩, h1, h2⟩
  cases b with
  | true =>
    go_wp2_with fail
    refine (srcPick_short g w1.heap.size 4 6 20 _ (h1.alloc _) (short_made w1 _ _ _ _ (by rfl)) (by have := h1.1; omega) (by decide)).mono ?_
    rintro e w2 ⟨⟨t, rfl, ht⟩, h3, h4⟩
    go_wp2
    go_ret
    exact ⟨⟨t, rfl, ht⟩, h3, h2.trans ((World.grownBy_alloc _ _ _).trans h4)⟩
  | false =>
    go_wp2_with fail
    refine (srcPick_short g w1.heap.size 6 8 20 _ (h1.alloc _) (short_made w1 _ _ _ _ (by rfl)) (by have := h1.1; omega) (by decide)).mono ?_
    rintro e w2 ⟨⟨t, rfl, ht⟩, h3, h4⟩
    go_wp2
    go_ret
    exact ⟨⟨t, rfl, ht⟩, h3, h2.trans ((World.grownBy_alloc _ _ _).trans h4)⟩
end Go.Proofs.YthcpmbolnmlohaaGreatDoor

/- The specification's drawn urls: their texts are short. -/
namespace Go.Proofs.YthcpmbolnmlohaaGreatDoor
open Go.RowKit

/-- four cells in block b, none of them frozen -/
def U4 (w : World) (b : Nat) (v0 v1 v2 v3 : Value) : Prop := b < w.heap.size ∧ (w.cell? ⟨b, 0, none⟩ = some v0 ∧ w.cell? ⟨b, 1, none⟩ = some v1 ∧ w.cell? ⟨b, 2, none⟩ = some v2 ∧ w.cell? ⟨b, 3, none⟩ = some v3) ∧ ∀ o, w.frozen? ⟨b, o, none⟩ = false
theorem U4.kept {w w' : World} {b : Nat} {v0 v1 v2 v3 : Value} {r : Option Nat} (h : U4 w b v0 v1 v2 v3) (hg : w.grownBy w' r) (hne : some b ≠ r) : U4 w' b v0 v1 v2 v3 := by
  obtain ⟨hb, ⟨c0, c1, c2, c3⟩, hf⟩ := h
  have hs := hg.size
  refine ⟨by omega, ⟨hg.cell (a := ⟨b, 0, none⟩) c0 hne, hg.cell (a := ⟨b, 1, none⟩) c1 hne, hg.cell (a := ⟨b, 2, none⟩) c2 hne, hg.cell (a := ⟨b, 3, none⟩) c3 hne⟩, ?_⟩
  intro o
  rw [World.frozen?_of_block (w := w) (a := ⟨b, o, none⟩) (hg.block b hb hne)]
  exact hf o
theorem U4.made (w : World) (v0 v1 v2 v3 : Value) (t : TypeId) : U4 (w.alloc (.cells #[v0, v1, v2, v3] t)) w.heap.size v0 v1 v2 v3 := by
  refine ⟨by simp, ⟨by simp, by simp, by simp, by simp⟩, by simp⟩
theorem U4.alloc {w : World} {b : Nat} {v0 v1 v2 v3 : Value} (h : U4 w b v0 v1 v2 v3) (o : Obj) : U4 (w.alloc o) b v0 v1 v2 v3 := h.kept (World.grownBy_alloc w o none) (by simp)
/-- a cell of a block that the call has made is written -/
theorem grown_new {w w' : World} {r : Option Nat} {p : Addr} (h : w.grownBy w' r) (hp : w.heap.size ≤ p.block) (v : Value) : w.grownBy (w'.setCell p v) r :=
  ⟨h.os, h.tape, h.output, by have := h.size; simp [World.setCell]; omega, fun j hj hne => by
    rw [Below.heap_setCell _ _ _ _ (by omega)]; exact h.block j hj hne⟩
theorem SrcAt.setCell {w : World} {g : Nat} {p : Addr} (h : SrcAt w g) (hp : g < p.block) (v : Value) : SrcAt (w.setCell p v) g := by
  obtain ⟨hg, a, len, cap, k, mix, size, ⟨c0, c1, c2, c3⟩, hm, hf, hby⟩ := h
  have hne : p.block ≠ g := by omega
  refine ⟨by simpa [World.setCell] using hg, a, len, cap, k, mix, size, ⟨?_, ?_, ?_, ?_⟩, hm, ?_, ?_⟩
  · rw [World.cell?_setCell_far _ _ _ _ hne]; exact c0
  · rw [World.cell?_setCell_far _ _ _ _ hne]; exact c1
  · rw [World.cell?_setCell_far _ _ _ _ hne]; exact c2
  · rw [World.cell?_setCell_far _ _ _ _ hne]; exact c3
  · intro o; rw [World.frozen?_setCell]; exact hf o
  · intro i hi
    obtain ⟨x, z, e, hx, hc, hz⟩ := hby i hi
    refine ⟨x, z, e, hx, ?_, hz⟩
    rw [World.cell?_setCell_far _ _ _ _ (by rw [add_block]; omega)]
    exact hc
theorem U4.far {w : World} {b : Nat} {v0 v1 v2 v3 : Value} {p : Addr} (h : U4 w b v0 v1 v2 v3) (hp : p.block ≠ b) (v : Value) : U4 (w.setCell p v) b v0 v1 v2 v3 := by
  obtain ⟨hb, ⟨c0, c1, c2, c3⟩, hf⟩ := h
  refine ⟨by simpa [World.setCell] using hb, ⟨?_, ?_, ?_, ?_⟩, ?_⟩
  · rw [World.cell?_setCell_far _ _ _ _ hp]; exact c0
  · rw [World.cell?_setCell_far _ _ _ _ hp]; exact c1
  · rw [World.cell?_setCell_far _ _ _ _ hp]; exact c2
  · rw [World.cell?_setCell_far _ _ _ _ hp]; exact c3
  · intro o; rw [World.frozen?_setCell]; exact hf o
theorem U4.set0 {w : World} {b : Nat} {v0 v1 v2 v3 : Value} (h : U4 w b v0 v1 v2 v3) (v : Value) : U4 (w.setCell ⟨b, 0, none⟩ v) b v v1 v2 v3 := by
  obtain ⟨hb, ⟨c0, c1, c2, c3⟩, hf⟩ := h
  refine ⟨by simpa [World.setCell] using hb, ⟨?_, ?_, ?_, ?_⟩, ?_⟩
  · exact World.cell?_setCell_same _ _ _ c0
  · rw [World.cell?_setCell_other _ _ _ _ (by simp)]; exact c1
  · rw [World.cell?_setCell_other _ _ _ _ (by simp)]; exact c2
  · rw [World.cell?_setCell_other _ _ _ _ (by simp)]; exact c3
  · intro o; rw [World.frozen?_setCell]; exact hf o
theorem U4.set1 {w : World} {b : Nat} {v0 v1 v2 v3 : Value} (h : U4 w b v0 v1 v2 v3) (v : Value) : U4 (w.setCell ⟨b, 1, none⟩ v) b v0 v v2 v3 := by
  obtain ⟨hb, ⟨c0, c1, c2, c3⟩, hf⟩ := h
  refine ⟨by simpa [World.setCell] using hb, ⟨?_, ?_, ?_, ?_⟩, ?_⟩
  · rw [World.cell?_setCell_other _ _ _ _ (by simp)]; exact c0
  · exact World.cell?_setCell_same _ _ _ c1
  · rw [World.cell?_setCell_other _ _ _ _ (by simp)]; exact c2
  · rw [World.cell?_setCell_other _ _ _ _ (by simp)]; exact c3
  · intro o; rw [World.frozen?_setCell]; exact hf o
theorem U4.set2 {w : World} {b : Nat} {v0 v1 v2 v3 : Value} (h : U4 w b v0 v1 v2 v3) (v : Value) : U4 (w.setCell ⟨b, 2, none⟩ v) b v0 v1 v v3 := by
  obtain ⟨hb, ⟨c0, c1, c2, c3⟩, hf⟩ := h
  refine ⟨by simpa [World.setCell] using hb, ⟨?_, ?_, ?_, ?_⟩, ?_⟩
  · rw [World.cell?_setCell_other _ _ _ _ (by simp)]; exact c0
  · rw [World.cell?_setCell_other _ _ _ _ (by simp)]; exact c1
  · exact World.cell?_setCell_same _ _ _ c2
  · rw [World.cell?_setCell_other _ _ _ _ (by simp)]; exact c3
  · intro o; rw [World.frozen?_setCell]; exact hf o
theorem U4.set3 {w : World} {b : Nat} {v0 v1 v2 v3 : Value} (h : U4 w b v0 v1 v2 v3) (v : Value) : U4 (w.setCell ⟨b, 3, none⟩ v) b v0 v1 v2 v := by
  obtain ⟨hb, ⟨c0, c1, c2, c3⟩, hf⟩ := h
  refine ⟨by simpa [World.setCell] using hb, ⟨?_, ?_, ?_, ?_⟩, ?_⟩
  · rw [World.cell?_setCell_other _ _ _ _ (by simp)]; exact c0
  · rw [World.cell?_setCell_other _ _ _ _ (by simp)]; exact c1
  · rw [World.cell?_setCell_other _ _ _ _ (by simp)]; exact c2
  · exact World.cell?_setCell_same _ _ _ c3
  · intro o; rw [World.frozen?_setCell]; exact hf o

end Go.Proofs.YthcpmbolnmlohaaGreatDoor

/- The specification's spoil: a text changed a little is at most one byte longer. -/
namespace Go.Proofs.YthcpmbolnmlohaaGreatDoor
open Go.RowKit

set_option maxRecDepth 10000 in
set_option maxHeartbeats 2000000 in
theorem spoil_any (g : Nat) (t : ByteArray) (w : World) (hs : SrcAt w g) (ht : t.size ≤ 1048576) :
    Calls Tryz.prog 28 #[.pointer (some ⟨g, 0, none⟩), .string t] w fun e w' => (∃ x : ByteArray, e = .returned (.string x) ∧ x.size ≤ t.size + 1) ∧ SrcAt w' g ∧ w.grownBy w' (some g) := by
  have HN : Hid (Calls Tryz.prog 27 #[.pointer (some ⟨g, 0, none⟩), .int .i64 ((t.size : Int) + 1)] w fun e w' => ∃ r : Int, e = .returned (.int .i64 r) ∧ 0 ≤ r ∧ (1 < (t.size : Int) + 1 → r < (t.size : Int) + 1) ∧ ((t.size : Int) + 1 ≤ 1 → r = 0) ∧ SrcAt w' g ∧ w.grownBy w' (some g)) := srcN_any g _ w hs (by omega)
  clear hs
  go_enter Tryz.func28, Tryz.ntmps28
  go_wp2_with fail
  refine HN.out.mono ?_
  rintro e w1 ⟨r, rfl, r0, r1, r1', s1, g1⟩
  obtain ⟨k, rfl⟩ : ∃ k : Nat, r = k := ⟨r.toNat, by omega⟩
  have hk : k ≤ t.size := by omega
  clear HN r0 r1 r1'
  go_wp2_with fail
  refine (srcN_any g 17 _ s1 (by decide)).mono ?_
  rintro e w2 ⟨r, rfl, r0, r1, _, s2, g2⟩
  have r2 := r1 (by decide)
  obtain ⟨j, rfl⟩ : ∃ j : Nat, r = j := ⟨r.toNat, by omega⟩
  have hj : j < 17 := by omega
  have G2 : Hid (w.grownBy w2 (some g)) := g1.trans g2
  clear r1 r0 g1 g2 s1
  go_wp2_with fail
  have hr : RowAt (w2.alloc (.cells #[.int .u8 (((⟨#[32, 10, 48, 97, 45, 110, 44, 58, 93, 255, 40, 120, 126, 49, 128, 225, 59]⟩ : ByteArray)[j]'hj).toNat : Int)] 5)) w2.heap.size 5 (Lib.byteCells [UInt8.ofNat ((⟨#[32, 10, 48, 97, 45, 110, 44, 58, 93, 255, 40, 120, 126, 49, 128, 225, 59]⟩ : ByteArray)[j]'hj).toNat] ++ []) := one_row _ w2 _ (UInt8.toNat_lt _)
  rw [text_of_row (P := Tryz.prog) _ 22 9 5 Tryz.underlying22 Tryz.underlying5 Tryz.underlying9 w2.heap.size 1 1 5 _ _ hr rfl]
  have hc1 : (⟨[UInt8.ofNat ((⟨#[32, 10, 48, 97, 45, 110, 44, 58, 93, 255, 40, 120, 126, 49, 128, 225, 59]⟩ : ByteArray)[j]'hj).toNat].toArray⟩ : ByteArray).size ≤ 1 := Nat.le_refl _
  clear hr
  generalize (⟨[UInt8.ofNat ((⟨#[32, 10, 48, 97, 45, 110, 44, 58, 93, 255, 40, 120, 126, 49, 128, 225, 59]⟩ : ByteArray)[j]'hj).toNat].toArray⟩ : ByteArray) = c at *
  have s3 := s2.alloc (.cells #[.int .u8 (((⟨#[32, 10, 48, 97, 45, 110, 44, 58, 93, 255, 40, 120, 126, 49, 128, 225, 59]⟩ : ByteArray)[j]'hj).toNat : Int)] 5)
  have G3 : Hid (w.grownBy (w2.alloc (.cells #[.int .u8 (((⟨#[32, 10, 48, 97, 45, 110, 44, 58, 93, 255, 40, 120, 126, 49, 128, 225, 59]⟩ : ByteArray)[j]'hj).toNat : Int)] 5)) (some g)) := G2.out.trans (World.grownBy_alloc _ _ _)
  generalize ((⟨#[32, 10, 48, 97, 45, 110, 44, 58, 93, 255, 40, 120, 126, 49, 128, 225, 59]⟩ : ByteArray)[j]'hj) = cc at *
  generalize w2.alloc (.cells #[.int .u8 (cc.toNat : Int)] 5) = w3 at *
  clear s2 G2
  by_cases he : k = t.size
  · subst he
    go_wp2_with fail
    go_region
    go_wp2
    go_ret
    exact ⟨⟨_, rfl, by rw [ByteArray.size_append]; omega⟩, s3.drew, grown_drew G3.out⟩
  · have q : ((k : Int) == (t.size : Int)) = false := by rw [beq_eq_false_iff_ne]; omega
    have hlt : k < t.size := by omega
    have e1 : (t.extract 0 k).size = k := by rw [ByteArray.size_extract]; omega
    have e2 : (t.extract k t.size).size = t.size - k := by rw [ByteArray.size_extract]; omega
    have e3 : (t.extract (k + 1) t.size).size = t.size - (k + 1) := by rw [ByteArray.size_extract]; omega
    have HZ1 : Hid ((t.extract 0 k ++ c ++ t.extract k t.size).size ≤ t.size + 1) := by show _ ≤ _; rw [ByteArray.size_append, ByteArray.size_append]; omega
    have HZ2 : Hid ((t.extract 0 k ++ t.extract (k + 1) t.size).size ≤ t.size + 1) := by show _ ≤ _; rw [ByteArray.size_append]; omega
    have HZ3 : Hid ((t.extract 0 k ++ c ++ t.extract (k + 1) t.size).size ≤ t.size + 1) := by show _ ≤ _; rw [ByteArray.size_append, ByteArray.size_append]; omega
    go_wp2_with fail
    refine (srcOne_any g 3 _ s3 (by decide)).mono ?_
    rintro e w4 ⟨⟨b, rfl⟩, s4, g4⟩
    have G4 : Hid (w.grownBy w4 (some g)) := G3.out.trans g4
    clear s3 G3 g4
    cases b with
    | true =>
      go_wp2_with fail
      go_region
      go_wp2
      go_ret
      exact ⟨⟨_, rfl, HZ1.out⟩, s4.drew, grown_drew G4.out⟩
    | false =>
      go_wp2_with fail
      refine (srcOne_any g 2 _ s4 (by decide)).mono ?_
      rintro e w5 ⟨⟨b, rfl⟩, s5, g5⟩
      have G5 : Hid (w.grownBy w5 (some g)) := G4.out.trans g5
      clear s4 G4 g5
      cases b with
      | true =>
        go_wp2_with fail
        go_region
        go_wp2
        go_ret
        exact ⟨⟨_, rfl, HZ2.out⟩, s5.drew, grown_drew G5.out⟩
      | false =>
        go_wp2_with fail
        go_region
        go_wp2
        go_ret
        exact ⟨⟨_, rfl, HZ3.out⟩, s5.drew, grown_drew G5.out⟩
end Go.Proofs.YthcpmbolnmlohaaGreatDoor

/- The specification's draws over urls: a drawn url, a drawn text, a drawn host: all short. -/
namespace Go.Proofs.YthcpmbolnmlohaaGreatDoor
open Go.RowKit

theorem CodeRow.below {w w' : World} {a : Option Addr} {len : Nat} (h : CodeRow w a len) (hb : Below w.heap.size w w') : CodeRow w' a len := by
  intro i hi
  obtain ⟨x, z, e, hx, hc, hz⟩ := h i hi
  exact ⟨x, z, e, Nat.lt_of_lt_of_le hx hb.size, by rw [hb.cell (p := x.add i) (by rw [add_block]; exact hx)]; exact hc, hz⟩
/-- a draw's world: nothing that was there is turned -/
theorem below_grown {w w1 w2 : World} {B g : Nat} (h : Below B w w1) (hg : w1.grownBy w2 (some g)) (hB : B ≤ w1.heap.size) (hBg : B ≤ g) : Below B w w2 := h.grown hg hB (fun k e => by injection e with e; omega)

theorem SrcAt.below {w w' : World} {g : Nat} (h : SrcAt w g) (hb : Below w.heap.size w w') : SrcAt w' g := by
  obtain ⟨hg, a, len, cap, k, mix, size, ⟨c0, c1, c2, c3⟩, hm, hf, hby⟩ := h
  refine ⟨Nat.lt_of_lt_of_le hg hb.size, a, len, cap, k, mix, size, ⟨?_, ?_, ?_, ?_⟩, hm, ?_, ?_⟩
  · rw [(bcell hb).1 _ _ hg]; exact c0
  · rw [(bcell hb).1 _ _ hg]; exact c1
  · rw [(bcell hb).1 _ _ hg]; exact c2
  · rw [(bcell hb).1 _ _ hg]; exact c3
  · intro o; rw [(bcell hb).2 _ _ hg]; exact hf o
  · intro i hi
    obtain ⟨x, z, e, hx, hc, hz⟩ := hby i hi
    exact ⟨x, z, e, hx, by rw [hb.cell (p := x.add i) (by rw [add_block]; omega)]; exact hc, hz⟩




end Go.Proofs.YthcpmbolnmlohaaGreatDoor

/- The specification's drawn SetCookies: what they tell is short. Written by drawset.py. -/
namespace Go.Proofs.YthcpmbolnmlohaaGreatDoor
open Go.RowKit

theorem U8.kept {w w' : World} {b : Nat} {v0 v1 v2 v3 v4 v5 v6 v7 : Value} {r : Option Nat} (h : U8 w b v0 v1 v2 v3 v4 v5 v6 v7) (hg : w.grownBy w' r) (hne : some b ≠ r) : U8 w' b v0 v1 v2 v3 v4 v5 v6 v7 := by
  obtain ⟨hb, ⟨c0, c1, c2, c3, c4, c5, c6, c7⟩, hf⟩ := h
  exact ⟨Nat.lt_of_lt_of_le hb hg.size, ⟨hg.cell (a := ⟨b, 0, none⟩) c0 hne, hg.cell (a := ⟨b, 1, none⟩) c1 hne, hg.cell (a := ⟨b, 2, none⟩) c2 hne, hg.cell (a := ⟨b, 3, none⟩) c3 hne, hg.cell (a := ⟨b, 4, none⟩) c4 hne, hg.cell (a := ⟨b, 5, none⟩) c5 hne, hg.cell (a := ⟨b, 6, none⟩) c6 hne, hg.cell (a := ⟨b, 7, none⟩) c7 hne⟩, fun o => (World.frozen?_of_block (a := ⟨b, o, none⟩) (hg.block b hb hne)).trans (hf o)⟩
def smallC (c : SC) : Prop := c.na.size ≤ 30 ∧ c.va.size ≤ 30 ∧ c.dm.size ≤ 30 ∧ c.pa.size ≤ 30 ∧ -9223372036854775808 ≤ c.ag ∧ c.ag ≤ 9223372036854775807
/-- a SetCookie that is being drawn, in block u; the answer's block is still empty -/
def SetAt (w : World) (g u : Nat) (W : World) : Prop := w.heap.size < u ∧ g < w.heap.size ∧ SrcAt W g ∧ w.grownBy W (some g) ∧ U8 W w.heap.size (.string ⟨#[]⟩) (.string ⟨#[]⟩) (.string ⟨#[]⟩) (.string ⟨#[]⟩) (.int .i64 0) (.bool false) (.int .i64 0) (.bool false) ∧ ∃ c : SC, U8 W u (.string c.na) (.string c.va) (.string c.dm) (.string c.pa) (.int .i64 c.ag) (.bool c.se) (.int .i64 c.mo) (.bool c.pt) ∧ smallC c
theorem SetAt.on {w W W' : World} {g u : Nat} (h : SetAt w g u W) (hs : SrcAt W' g) (hg : W.grownBy W' (some g)) : SetAt w g u W' := by
  obtain ⟨h1, h2, _, h4, h5, c, h6, h7⟩ := h
  exact ⟨h1, h2, hs, h4.trans hg, h5.kept hg (by intro e; injection e with e; omega), c, h6.kept hg (by intro e; injection e with e; omega), h7⟩
theorem SetAt.new {w W : World} {g u : Nat} (h : SetAt w g u W) (o : Obj) : SetAt w g u (W.alloc o) := h.on (h.2.2.1.alloc o) (World.grownBy_alloc _ _ _)
theorem SetAt.set0 {w W : World} {g u : Nat} (h : SetAt w g u W) (x : ByteArray) (hx : x.size ≤ 30) : SetAt w g u (W.setCell ⟨u, 0, none⟩ (.string x)) := by
  obtain ⟨h1, h2, h3, h4, h5, c, h6, a1, a2, a3, a4, a5, a6⟩ := h
  exact ⟨h1, h2, h3.setCell (p := ⟨u, 0, none⟩) (by show g < u; omega) _, grown_new (p := ⟨u, 0, none⟩) h4 (by show _ ≤ u; omega) _, h5.far (p := ⟨u, 0, none⟩) (by show ¬ u = _; omega) _, { c with na := x }, h6.set0 _, hx, a2, a3, a4, a5, a6⟩
theorem SetAt.set1 {w W : World} {g u : Nat} (h : SetAt w g u W) (x : ByteArray) (hx : x.size ≤ 30) : SetAt w g u (W.setCell ⟨u, 1, none⟩ (.string x)) := by
  obtain ⟨h1, h2, h3, h4, h5, c, h6, a1, a2, a3, a4, a5, a6⟩ := h
  exact ⟨h1, h2, h3.setCell (p := ⟨u, 1, none⟩) (by show g < u; omega) _, grown_new (p := ⟨u, 1, none⟩) h4 (by show _ ≤ u; omega) _, h5.far (p := ⟨u, 1, none⟩) (by show ¬ u = _; omega) _, { c with va := x }, h6.set1 _, a1, hx, a3, a4, a5, a6⟩
theorem SetAt.set2 {w W : World} {g u : Nat} (h : SetAt w g u W) (x : ByteArray) (hx : x.size ≤ 30) : SetAt w g u (W.setCell ⟨u, 2, none⟩ (.string x)) := by
  obtain ⟨h1, h2, h3, h4, h5, c, h6, a1, a2, a3, a4, a5, a6⟩ := h
  exact ⟨h1, h2, h3.setCell (p := ⟨u, 2, none⟩) (by show g < u; omega) _, grown_new (p := ⟨u, 2, none⟩) h4 (by show _ ≤ u; omega) _, h5.far (p := ⟨u, 2, none⟩) (by show ¬ u = _; omega) _, { c with dm := x }, h6.set2 _, a1, a2, hx, a4, a5, a6⟩
theorem SetAt.set3 {w W : World} {g u : Nat} (h : SetAt w g u W) (x : ByteArray) (hx : x.size ≤ 30) : SetAt w g u (W.setCell ⟨u, 3, none⟩ (.string x)) := by
  obtain ⟨h1, h2, h3, h4, h5, c, h6, a1, a2, a3, a4, a5, a6⟩ := h
  exact ⟨h1, h2, h3.setCell (p := ⟨u, 3, none⟩) (by show g < u; omega) _, grown_new (p := ⟨u, 3, none⟩) h4 (by show _ ≤ u; omega) _, h5.far (p := ⟨u, 3, none⟩) (by show ¬ u = _; omega) _, { c with pa := x }, h6.set3 _, a1, a2, a3, hx, a5, a6⟩
theorem SetAt.set4 {w W : World} {g u : Nat} (h : SetAt w g u W) (x : Int) (hx : -9223372036854775808 ≤ x ∧ x ≤ 9223372036854775807) : SetAt w g u (W.setCell ⟨u, 4, none⟩ (.int .i64 x)) := by
  obtain ⟨h1, h2, h3, h4, h5, c, h6, a1, a2, a3, a4, a5, a6⟩ := h
  exact ⟨h1, h2, h3.setCell (p := ⟨u, 4, none⟩) (by show g < u; omega) _, grown_new (p := ⟨u, 4, none⟩) h4 (by show _ ≤ u; omega) _, h5.far (p := ⟨u, 4, none⟩) (by show ¬ u = _; omega) _, { c with ag := x }, h6.set4 _, a1, a2, a3, a4, hx.1, hx.2⟩
theorem SetAt.set5 {w W : World} {g u : Nat} (h : SetAt w g u W) (x : Bool) : SetAt w g u (W.setCell ⟨u, 5, none⟩ (.bool x)) := by
  obtain ⟨h1, h2, h3, h4, h5, c, h6, a1, a2, a3, a4, a5, a6⟩ := h
  exact ⟨h1, h2, h3.setCell (p := ⟨u, 5, none⟩) (by show g < u; omega) _, grown_new (p := ⟨u, 5, none⟩) h4 (by show _ ≤ u; omega) _, h5.far (p := ⟨u, 5, none⟩) (by show ¬ u = _; omega) _, { c with se := x }, h6.set5 _, a1, a2, a3, a4, a5, a6⟩
theorem SetAt.set6 {w W : World} {g u : Nat} (h : SetAt w g u W) (x : Int) : SetAt w g u (W.setCell ⟨u, 6, none⟩ (.int .i64 x)) := by
  obtain ⟨h1, h2, h3, h4, h5, c, h6, a1, a2, a3, a4, a5, a6⟩ := h
  exact ⟨h1, h2, h3.setCell (p := ⟨u, 6, none⟩) (by show g < u; omega) _, grown_new (p := ⟨u, 6, none⟩) h4 (by show _ ≤ u; omega) _, h5.far (p := ⟨u, 6, none⟩) (by show ¬ u = _; omega) _, { c with mo := x }, h6.set6 _, a1, a2, a3, a4, a5, a6⟩
theorem SetAt.set7 {w W : World} {g u : Nat} (h : SetAt w g u W) (x : Bool) : SetAt w g u (W.setCell ⟨u, 7, none⟩ (.bool x)) := by
  obtain ⟨h1, h2, h3, h4, h5, c, h6, a1, a2, a3, a4, a5, a6⟩ := h
  exact ⟨h1, h2, h3.setCell (p := ⟨u, 7, none⟩) (by show g < u; omega) _, grown_new (p := ⟨u, 7, none⟩) h4 (by show _ ≤ u; omega) _, h5.far (p := ⟨u, 7, none⟩) (by show ¬ u = _; omega) _, { c with pt := x }, h6.set7 _, a1, a2, a3, a4, a5, a6⟩
set_option maxRecDepth 10000 in
set_option maxHeartbeats 1000000 in
theorem srcWord_any (g : Nat) (w : World) (hs : SrcAt w g) :
    Calls Tryz.prog 50 #[.pointer (some ⟨g, 0, none⟩)] w fun e w' => (∃ t : ByteArray, e = .returned (.string t) ∧ t.size ≤ 20) ∧ SrcAt w' g ∧ w.grownBy w' (some g) := by
  have hg := hs.1
  have HS : Hid (SrcAt w g) := hs
  clear hs
  go_enter Tryz.func50, Tryz.ntmps50
  go_wp2_with fail
  refine (srcPick_short g w.heap.size 3 5 20 _ (HS.out.alloc _) (short_made w _ _ _ _ (by rfl)) (by omega) (by decide)).mono ?_
  rintro e w1 ⟨⟨t, rfl, ht⟩, s1, g1⟩
  go_wp2
  go_ret
  exact ⟨⟨t, rfl, ht⟩, s1, (World.grownBy_alloc _ _ _).trans g1⟩
set_option maxRecDepth 10000 in
set_option maxHeartbeats 4000000 in
theorem srcSet_any (g : Nat) (w : World) (hs : SrcAt w g) :
    Calls Tryz.prog 23 #[.pointer (some ⟨g, 0, none⟩)] w fun e w' => (∃ c : SC, e = .returned (scV c) ∧ smallC c) ∧ SrcAt w' g ∧ w.grownBy w' (some g) := by
  have hg := hs.1
  have HS : Hid (SrcAt w g) := hs
  clear hs
  have KO : Hid (∀ (m : Int) (W : World), SrcAt W g → m < 9223372036854775808 → Calls Tryz.prog 43 #[.pointer (some ⟨g, 0, none⟩), .int .i64 m] W fun e w' => (∃ b : Bool, e = .returned (.bool b)) ∧ SrcAt w' g ∧ W.grownBy w' (some g)) := fun m W h hm => srcOne_any g m W h hm
  go_enter Tryz.func23, Tryz.ntmps23
  go_wp2_with fail
  refine (srcPick_short g (w.heap.size + 1) 1 3 20 _ ((HS.out.alloc _).alloc _) (short_made_at _ _ (by simp) _ _ _ _ (by rfl)) (by omega) (by decide)).mono ?_
  rintro e w1 ⟨⟨na, rfl, hna⟩, s1, g1⟩
  have R1 : Hid (U8 w1 w.heap.size (.string ⟨#[]⟩) (.string ⟨#[]⟩) (.string ⟨#[]⟩) (.string ⟨#[]⟩) (.int .i64 0) (.bool false) (.int .i64 0) (.bool false)) := ((U8.made w (.string ⟨#[]⟩) (.string ⟨#[]⟩) (.string ⟨#[]⟩) (.string ⟨#[]⟩) (.int .i64 0) (.bool false) (.int .i64 0) (.bool false) 24).kept (World.grownBy_alloc _ _ none) (by simp)).kept g1 (by simp; omega)
  have G1 : Hid (w.grownBy w1 (some g)) := (World.grownBy_alloc _ _ _).trans ((World.grownBy_alloc _ _ _).trans g1)
  clear g1
  go_wp2_with fail
  refine (srcWord_any g _ s1).mono ?_
  rintro e w2 ⟨⟨va, rfl, hva⟩, s2, g2⟩
  have R2 : Hid (U8 w2 w.heap.size (.string ⟨#[]⟩) (.string ⟨#[]⟩) (.string ⟨#[]⟩) (.string ⟨#[]⟩) (.int .i64 0) (.bool false) (.int .i64 0) (.bool false)) := R1.out.kept g2 (by simp; omega)
  have G2 : Hid (w.grownBy w2 (some g)) := G1.out.trans g2
  clear g2 s1 R1 G1
  go_wp2_with fail
  refine (srcN_any g 3 _ s2 (by decide)).mono ?_
  rintro e w3 ⟨mo, rfl, _, _, _, s3, g3⟩
  have R3 : Hid (U8 w3 w.heap.size (.string ⟨#[]⟩) (.string ⟨#[]⟩) (.string ⟨#[]⟩) (.string ⟨#[]⟩) (.int .i64 0) (.bool false) (.int .i64 0) (.bool false)) := R2.out.kept g3 (by simp; omega)
  have G3 : Hid (w.grownBy w3 (some g)) := G2.out.trans g3
  clear g3 s2 R2 G2
  go_wp2_with fail
  refine (KO.out 3 _ s3 (by decide)).mono ?_
  rintro e w4 ⟨⟨b1, rfl⟩, s4, g4⟩
  have R4 : Hid (U8 w4 w.heap.size (.string ⟨#[]⟩) (.string ⟨#[]⟩) (.string ⟨#[]⟩) (.string ⟨#[]⟩) (.int .i64 0) (.bool false) (.int .i64 0) (.bool false)) := R3.out.kept g4 (by simp; omega)
  have G4 : Hid (w.grownBy w4 (some g)) := G3.out.trans g4
  clear g4 s3 R3 G3
  go_wp2_with fail
  refine (KO.out 3 _ s4 (by decide)).mono ?_
  rintro e w5 ⟨⟨b2, rfl⟩, s5, g5⟩
  have R5 : Hid (U8 w5 w.heap.size (.string ⟨#[]⟩) (.string ⟨#[]⟩) (.string ⟨#[]⟩) (.string ⟨#[]⟩) (.int .i64 0) (.bool false) (.int .i64 0) (.bool false)) := R4.out.kept g5 (by simp; omega)
  have G5 : Hid (w.grownBy w5 (some g)) := G4.out.trans g5
  clear g5 s4 R4 G4
  have M5 : Hid (SetAt w g w5.heap.size (w5.alloc (.cells #[.string na, .string va, .string ⟨#[]⟩, .string ⟨#[]⟩, .int .i64 (-1), .bool (!b1), .int .i64 mo, .bool b2] 24))) := ⟨R5.out.1, hg, s5.alloc _, G5.out.trans (World.grownBy_alloc _ _ _), R5.out.kept (World.grownBy_alloc _ _ none) (by simp), ⟨na, va, ⟨#[]⟩, ⟨#[]⟩, -1, !b1, mo, b2⟩, U8.made w5 _ _ _ _ _ _ _ _ _, by show na.size ≤ 30; omega, by show va.size ≤ 30; omega, Nat.zero_le _, Nat.zero_le _, by show (-9223372036854775808 : Int) ≤ -1; decide, by show (-1 : Int) ≤ 9223372036854775807; decide⟩
  clear R5 G5 s5
  go_upto_region 2 with fail
  generalize w5.alloc (.cells #[.string na, .string va, .string ⟨#[]⟩, .string ⟨#[]⟩, .int .i64 (-1), .bool (!b1), .int .i64 mo, .bool b2] 24) = w6 at *
  generalize w5.heap.size = u at *
  go_upto_if 18 with (go_at_call 43; refine (KO.out 3 _ M5.out.2.2.1 (by decide)).mono ?_; rintro e wA ⟨⟨bA, rfl⟩, sA, gA⟩)
  have MA : Hid (SetAt w g u wA) := M5.out.on sA gA
  clear sA gA M5
  go_cut [3] (fun s wx => s = .pointer (some ⟨u, 0, none⟩) ∧ Hid (SetAt w g u wx))
  case first =>
    cases bA with
    | true =>
      go_wp2_with fail
      refine (srcHost_any g _ MA.out.2.2.1).mono ?_
      rintro e wB ⟨⟨tB, rfl, hB⟩, sB, gB⟩
      have MB : Hid (SetAt w g u wB) := MA.out.on sB gB
      clear sB gB
      obtain ⟨-, -, -, -, -, cc, ⟨-, ⟨f0, f1, f2, f3, f4, f5, f6, f7⟩, ff⟩, -⟩ := MB.out
      go_wp2_with fail
      go_meet
      case rel => exact ⟨rfl, MB.out.set2 tB (by omega)⟩
    | false =>
      go_wp2_with fail
      go_meet
      case rel => exact ⟨rfl, MA⟩
  case rest =>
    obtain ⟨rfl, N0⟩ := hcut
    clear MA
    go_upto_if 23 with (go_at_call 43; refine (KO.out 3 _ N0.out.2.2.1 (by decide)).mono ?_; rintro e wA ⟨⟨bA, rfl⟩, sA, gA⟩)
    have MA : Hid (SetAt w g u wA) := N0.out.on sA gA
    clear sA gA N0
    go_cut [3] (fun s wx => s = .pointer (some ⟨u, 0, none⟩) ∧ Hid (SetAt w g u wx))
    case first =>
      cases bA with
      | true =>
        have hgw : g < wA.heap.size := MA.out.2.2.1.1
        go_wp2_with fail
        refine (srcPick_short g wA.heap.size 1 3 25 _ (MA.out.2.2.1.alloc _) (short_made wA _ _ _ _ (by rfl)) (by omega) (by decide)).mono ?_
        rintro e wB ⟨⟨tB, rfl, hB⟩, sB, gB⟩
        have MB : Hid (SetAt w g u wB) := (MA.out.new _).on sB gB
        clear sB gB
        obtain ⟨-, -, -, -, -, cc, ⟨-, ⟨f0, f1, f2, f3, f4, f5, f6, f7⟩, ff⟩, -⟩ := MB.out
        go_wp2_with fail
        go_meet
        case rel => exact ⟨rfl, MB.out.set3 tB (by omega)⟩
      | false =>
        go_wp2_with fail
        go_meet
        case rel => exact ⟨rfl, MA⟩
    case rest =>
      obtain ⟨rfl, N1⟩ := hcut
      clear MA
      go_upto_if 29 with (go_at_call 43; refine (KO.out 2 _ N1.out.2.2.1 (by decide)).mono ?_; rintro e wA ⟨⟨bA, rfl⟩, sA, gA⟩)
      have MA : Hid (SetAt w g u wA) := N1.out.on sA gA
      clear sA gA N1
      go_cut [3] (fun s wx => s = .pointer (some ⟨u, 0, none⟩) ∧ Hid (SetAt w g u wx))
      case first =>
        cases bA with
        | true =>
          go_wp2_with fail
          refine (srcN_any g 30 _ MA.out.2.2.1 (by decide)).mono ?_
          rintro e wB ⟨r, rfl, r0, r1, _, sB, gB⟩
          have r2 := r1 (by decide)
          have MB : Hid (SetAt w g u wB) := MA.out.on sB gB
          clear sB gB r1
          obtain ⟨-, -, -, -, -, cc, ⟨-, ⟨f0, f1, f2, f3, f4, f5, f6, f7⟩, ff⟩, -⟩ := MB.out
          go_wp2_with fail
          go_meet
          case rel => exact ⟨rfl, MB.out.set4 r (by omega)⟩
        | false =>
          go_wp2_with fail
          go_meet
          case rel => exact ⟨rfl, MA⟩
      case rest =>
        obtain ⟨rfl, N2⟩ := hcut
        clear MA
        go_upto_if 34 with (go_at_call 43; refine (KO.out 15 _ N2.out.2.2.1 (by decide)).mono ?_; rintro e wA ⟨⟨bA, rfl⟩, sA, gA⟩)
        have MA : Hid (SetAt w g u wA) := N2.out.on sA gA
        clear sA gA N2
        go_cut [3] (fun s wx => s = .pointer (some ⟨u, 0, none⟩) ∧ Hid (SetAt w g u wx))
        case first =>
          cases bA with
          | false =>
            go_wp2_with fail
            go_meet
            case rel => exact ⟨rfl, MA⟩
          | true =>
            go_wp2_with fail
            refine (srcN_any g 4 _ MA.out.2.2.1 (by decide)).mono ?_
            rintro e wD ⟨r, rfl, r0, r1, _, sD, gD⟩
            have r2 := r1 (by decide)
            have MD : Hid (SetAt w g u wD) := MA.out.on sD gD
            clear sD gD r1
            rcases (show r = 0 ∨ r = 1 ∨ r = 2 ∨ r = 3 by omega) with rfl | rfl | rfl | rfl
            · skip
              have hgw : g < wD.heap.size := MD.out.2.2.1.1
              go_wp2_with fail
              refine (srcPick_short g wD.heap.size 1 3 25 _ (MD.out.2.2.1.alloc _) (short_made wD _ _ _ _ (by rfl)) (by omega) (by decide)).mono ?_
              rintro e wB ⟨⟨tB, rfl, hB⟩, sB, gB⟩
              have MB : Hid (SetAt w g u wB) := (MD.out.new _).on sB gB
              clear sB gB
              obtain ⟨-, -, -, -, -, cc, ⟨-, ⟨f0, f1, f2, f3, f4, f5, f6, f7⟩, ff⟩, -⟩ := MB.out
              go_wp2_with fail
              go_meet
              case rel => exact ⟨rfl, MB.out.set0 tB (by omega)⟩
            · skip
              have hgw : g < wD.heap.size := MD.out.2.2.1.1
              go_wp2_with fail
              refine (srcN_any g 3 _ (MD.out.2.2.1.alloc _) (by decide)).mono ?_
              rintro e wB ⟨r, rfl, r0, r1, _, sB, gB⟩
              have r2 := r1 (by decide)
              obtain ⟨j, rfl⟩ : ∃ j : Nat, r = j := ⟨r.toNat, by omega⟩
              have hneB : (some wD.heap.size : Option Nat) ≠ some g := by simp; omega
              obtain ⟨x, hv, hx⟩ : ∃ x : Int, wB.cell? ⟨wD.heap.size, j, none⟩ = some (.int .i64 x) ∧ -9223372036854775808 ≤ x ∧ x ≤ 9223372036854775807 := by
                rcases j with _ | _ | _ | j
                · exact ⟨-2, gB.cell (a := ⟨wD.heap.size, 0, none⟩) (by simp) hneB, by decide, by decide⟩
                · exact ⟨1000000, gB.cell (a := ⟨wD.heap.size, 1, none⟩) (by simp) hneB, by decide, by decide⟩
                · exact ⟨1000001, gB.cell (a := ⟨wD.heap.size, 2, none⟩) (by simp) hneB, by decide, by decide⟩
                · omega
              have MB : Hid (SetAt w g u wB) := (MD.out.new _).on sB gB
              clear sB gB r1 hneB
              obtain ⟨-, -, -, -, -, cc, ⟨-, ⟨f0, f1, f2, f3, f4, f5, f6, f7⟩, ff⟩, -⟩ := MB.out
              go_wp2_with fail
              go_meet
              case rel => exact ⟨rfl, MB.out.set4 x hx⟩
            · skip
              have hgw : g < wD.heap.size := MD.out.2.2.1.1
              go_wp2_with fail
              refine (srcN_any g 2 _ (MD.out.2.2.1.alloc _) (by decide)).mono ?_
              rintro e wB ⟨r, rfl, r0, r1, _, sB, gB⟩
              have r2 := r1 (by decide)
              obtain ⟨j, rfl⟩ : ∃ j : Nat, r = j := ⟨r.toNat, by omega⟩
              have hneB : (some wD.heap.size : Option Nat) ≠ some g := by simp; omega
              obtain ⟨x, hv, hx⟩ : ∃ x : Int, wB.cell? ⟨wD.heap.size, j, none⟩ = some (.int .i64 x) ∧ -9223372036854775808 ≤ x ∧ x ≤ 9223372036854775807 := by
                rcases j with _ | _ | j
                · exact ⟨-1, gB.cell (a := ⟨wD.heap.size, 0, none⟩) (by simp) hneB, by decide, by decide⟩
                · exact ⟨3, gB.cell (a := ⟨wD.heap.size, 1, none⟩) (by simp) hneB, by decide, by decide⟩
                · omega
              have MB : Hid (SetAt w g u wB) := (MD.out.new _).on sB gB
              clear sB gB r1 hneB
              obtain ⟨-, -, -, -, -, cc, ⟨-, ⟨f0, f1, f2, f3, f4, f5, f6, f7⟩, ff⟩, -⟩ := MB.out
              go_wp2_with fail
              go_meet
              case rel => exact ⟨rfl, MB.out.set6 x⟩
            · skip
              have hgw : g < wD.heap.size := MD.out.2.2.1.1
              go_wp2_with fail
              refine (srcPick_short g wD.heap.size 0 2 25 _ (MD.out.2.2.1.alloc _) (short_made wD _ _ _ _ (by rfl)) (by omega) (by decide)).mono ?_
              rintro e wB ⟨⟨tB, rfl, hB⟩, sB, gB⟩
              have MB : Hid (SetAt w g u wB) := (MD.out.new _).on sB gB
              clear sB gB
              obtain ⟨-, -, -, -, -, cc, ⟨-, ⟨f0, f1, f2, f3, f4, f5, f6, f7⟩, ff⟩, -⟩ := MB.out
              go_wp2_with fail
              go_meet
              case rel => exact ⟨rfl, MB.out.set3 tB (by omega)⟩
        case rest =>
          obtain ⟨rfl, N9⟩ := hcut
          clear MA
          obtain ⟨h1, h2, hS, hGr, ⟨-, ⟨d0, d1, d2, d3, d4, d5, d6, d7⟩, df⟩, c, ⟨hu8, ⟨f0, f1, f2, f3, f4, f5, f6, f7⟩, ff⟩, hsm⟩ := N9.out
          have HSr : Hid (SrcAt wc g) := hS
          have HGg : Hid (w.grownBy wc (some g)) := hGr
          have HU : Hid (U8 wc w.heap.size (.string ⟨#[]⟩) (.string ⟨#[]⟩) (.string ⟨#[]⟩) (.string ⟨#[]⟩) (.int .i64 0) (.bool false) (.int .i64 0) (.bool false)) := N9.out.2.2.2.2.1
          have hne : ¬ u = w.heap.size := by omega
          clear hS hGr
          go_wp2
          exact bodyPost_ret (v := scV c) (by simp [scV, setV, results, Tryz.results23, go_sem, d0, d1, d2, d3, d4, d5, d6, d7]) rfl ⟨⟨c, rfl, hsm⟩, (SrcAt.setCell (SrcAt.setCell (SrcAt.setCell (SrcAt.setCell (SrcAt.setCell (SrcAt.setCell (SrcAt.setCell (SrcAt.setCell HSr.out (p := ⟨w.heap.size, 0, none⟩) h2 _) (p := ⟨w.heap.size, 1, none⟩) h2 _) (p := ⟨w.heap.size, 2, none⟩) h2 _) (p := ⟨w.heap.size, 3, none⟩) h2 _) (p := ⟨w.heap.size, 4, none⟩) h2 _) (p := ⟨w.heap.size, 5, none⟩) h2 _) (p := ⟨w.heap.size, 6, none⟩) h2 _) (p := ⟨w.heap.size, 7, none⟩) h2 _), (grown_new (p := ⟨w.heap.size, 7, none⟩) (grown_new (p := ⟨w.heap.size, 6, none⟩) (grown_new (p := ⟨w.heap.size, 5, none⟩) (grown_new (p := ⟨w.heap.size, 4, none⟩) (grown_new (p := ⟨w.heap.size, 3, none⟩) (grown_new (p := ⟨w.heap.size, 2, none⟩) (grown_new (p := ⟨w.heap.size, 1, none⟩) (grown_new (p := ⟨w.heap.size, 0, none⟩) HGg.out (Nat.le_refl _) _) (Nat.le_refl _) _) (Nat.le_refl _) _) (Nat.le_refl _) _) (Nat.le_refl _) _) (Nat.le_refl _) _) (Nat.le_refl _) _) (Nat.le_refl _) _)⟩
end Go.Proofs.YthcpmbolnmlohaaGreatDoor

/- Rows that a call owns, beside a source that it draws from. -/
namespace Go.Proofs.YthcpmbolnmlohaaGreatDoor
open Go.RowKit

theorem row_kept {w w' : World} {base n size : Nat} {e : TypeId} {v : Value} {xs : List Value} {row : Option Nat} (h : w.ownsRow base e size v n xs) (hg : w.grownBy w' row) (hne : ∀ b, row = some b → b < base) : w'.ownsRow base e size v n xs := by
  obtain ⟨hl, ⟨rfl, h0⟩ | ⟨g, cap, cur, rfl, hb, hh, r⟩⟩ := h
  · exact ⟨hl, .inl ⟨rfl, h0⟩⟩
  · refine ⟨hl, .inr ⟨g, cap, cur, rfl, hb, ?_, r⟩⟩
    rw [hg.block g (Array.getElem?_eq_some_iff.mp hh).1 (fun e => by have := hne g e.symm; omega)]
    exact hh
theorem row_below {w w' : World} {B n : Nat} {e : TypeId} {v : Value} {xs : List Value} (h : w.ownsRow B e 1 v n xs) (hb : Below w.heap.size w w') : w'.ownsRow B e 1 v n xs := by
  obtain ⟨hl, h0 | ⟨g, cap, cur, rfl, hbg, hh, r⟩⟩ := h
  · exact ⟨hl, .inl h0⟩
  · have hg : g < w.heap.size := (Array.getElem?_eq_some_iff.mp hh).1
    exact ⟨hl, .inr ⟨g, cap, cur, rfl, hbg, by rw [hb.block g hg]; exact hh, r⟩⟩
theorem grown_of_below {w w1 w2 : World} {r : Option Nat} (h : w.grownBy w1 r) (hb : Below w1.heap.size w1 w2) : w.grownBy w2 r :=
  ⟨hb.os.trans h.os, hb.tape.trans h.tape, hb.output.trans h.output, Nat.le_trans h.size hb.size, fun k hk hne => (hb.block k (Nat.lt_of_lt_of_le hk h.size)).trans (h.block k hk hne)⟩
/-- a row that the call owns grows: what was there is as it was -/
theorem rows_grown {w w1 w2 w3 : World} {r r2 : Option Nat} (h : w.grownBy w1 r) (h2 : w1.grownBy w2 r2) (h3 : w2.grownBy w3 r2) (hr : ∀ b, r2 = some b → w.heap.size ≤ b) : w.grownBy w3 r :=
  ⟨h3.os.trans (h2.os.trans h.os), h3.tape.trans (h2.tape.trans h.tape), h3.output.trans (h2.output.trans h.output), Nat.le_trans h.size (Nat.le_trans h2.size h3.size), fun k hk hne => by
    have e1 := h.block k hk hne
    have hn : ¬ some k = r2 := fun e => by have := hr k e.symm; omega
    exact (h3.block k (Nat.lt_of_lt_of_le hk (Nat.le_trans h.size h2.size)) hn).trans ((h2.block k (Nat.lt_of_lt_of_le hk h.size) hn).trans e1)⟩
theorem SrcAt.grown {w w' : World} {g : Nat} {r : Option Nat} (h : SrcAt w g) (hg : w.grownBy w' r) (hr : ∀ b, r = some b → g < b) : SrcAt w' g := by
  obtain ⟨hgw, a, len, cap, k, mix, size, ⟨c0, c1, c2, c3⟩, hm, hf, hby⟩ := h
  have hne : ∀ b, b ≤ g → ¬ some b = r := fun b hb e => by have := hr b e.symm; omega
  have hblk : ∀ b, b ≤ g → w'.heap[b]? = w.heap[b]? := fun b hb => hg.block b (by omega) (hne b hb)
  refine ⟨Nat.lt_of_lt_of_le hgw hg.size, a, len, cap, k, mix, size, ⟨?_, ?_, ?_, ?_⟩, hm, ?_, ?_⟩
  · rw [← c0]; simp only [World.cell?, hblk g (Nat.le_refl _)]
  · rw [← c1]; simp only [World.cell?, hblk g (Nat.le_refl _)]
  · rw [← c2]; simp only [World.cell?, hblk g (Nat.le_refl _)]
  · rw [← c3]; simp only [World.cell?, hblk g (Nat.le_refl _)]
  · intro o; rw [← hf o]; simp only [World.frozen?, hblk g (Nat.le_refl _)]
  · intro i hi
    obtain ⟨x, z, e, hx, hc, hz⟩ := hby i hi
    refine ⟨x, z, e, hx, ?_, hz⟩
    exact hg.cell (a := x.add i) hc (hne _ (by rw [add_block]; omega))
end Go.Proofs.YthcpmbolnmlohaaGreatDoor

/- The walks of the specification's l04Join and PairsText. -/
namespace Go.Proofs.YthcpmbolnmlohaaGreatDoor
open Go.RowKit

theorem joinP_take_succ {L : List (ByteArray × ByteArray)} {k : Nat} (h : k < L.length) : joinP (L.take (k + 1)) = (if k = 0 then ⟨#[]⟩ else joinP (L.take k) ++ ⟨#[59, 32]⟩) ++ (atP L k).1 ++ ⟨#[61]⟩ ++ (atP L k).2 := by
  rw [List.take_succ_eq_append_getElem h, atP_eq h]
  by_cases h0 : k = 0
  · subst h0
    rw [if_pos rfl]
    show pairT L[0] ++ flat [] = _
    rw [flat, app_nil, nil_app]; rfl
  · rw [if_neg h0, joinP_snoc _ _ (by intro e; have := congrArg List.length e; rw [List.length_take, List.length_nil] at this; omega)]
    show joinP (L.take k) ++ semi ++ (L[k].1 ++ equ ++ L[k].2) = _
    simp only [ByteArray.append_assoc]; rfl
theorem joinP_take_size {L : List (ByteArray × ByteArray)} (h : ∀ j, j < L.length → (atP L j).1.size ≤ 20 ∧ (atP L j).2.size ≤ 20) : ∀ k, k ≤ L.length → (joinP (L.take k)).size ≤ 43 * k
  | 0, _ => by rw [List.take_zero]; exact Nat.le_refl _
  | k + 1, hk => by
    have ih := joinP_take_size h k (by omega)
    have hz := h k (by omega)
    have e1 : (⟨#[59, 32]⟩ : ByteArray).size = 2 := rfl
    have e2 : (⟨#[61]⟩ : ByteArray).size = 1 := rfl
    rw [joinP_take_succ (by omega), ByteArray.size_append, ByteArray.size_append, ByteArray.size_append]
    split
    · have : (⟨#[]⟩ : ByteArray).size = 0 := rfl
      omega
    · rw [ByteArray.size_append]; omega
set_option maxRecDepth 10000 in
set_option maxHeartbeats 4000000 in
theorem specJoin_any (v : Value) (B : Nat) (L : List (ByteArray × ByteArray)) (w : World) (hs : SliceP w B v L) (hn : L.length ≤ 20) (hf : ∀ j, j < L.length → (atP L j).1.size ≤ 20 ∧ (atP L j).2.size ≤ 20) :
    Calls Tryz.prog 47 #[v] w fun e w' => e = .returned (.string (joinP L)) ∧ Below w.heap.size w w' := by
  obtain ⟨p, cap, rfl, hg⟩ := hs
  have HG : Hid (0 < L.length → ∃ g, p = some ⟨g, 0, none⟩ ∧ B ≤ g ∧ g < w.heap.size ∧ ∀ j, j < L.length → ∀ o, o < 2 → w.cell? ⟨g, j * 2 + o, none⟩ = some (pairC (atP L) j o) ∧ w.frozen? ⟨g, j * 2 + o, none⟩ = false) := hg
  have HZ : Hid (∀ k, k ≤ L.length → (joinP (L.take k)).size ≤ 43 * k) := joinP_take_size hf
  have HF : Hid (∀ j, j < L.length → (atP L j).1.size ≤ 20 ∧ (atP L j).2.size ≤ 20) := hf
  have HE : Hid (joinP L = joinP (L.take L.length)) := by show _ = _; rw [List.take_length]
  have H0 : Hid (joinP (L.take 0) = ⟨#[]⟩) := rfl
  clear hg hf
  generalize joinP L = R at *
  go_enter Tryz.func47, Tryz.ntmps47
  go_wp2
  go_loopw [3, 4] (fun x i wr => ∃ k : Nat, k ≤ L.length ∧ i = .int .i64 k ∧ x = .string (joinP (L.take k)) ∧ Hid (Below w.heap.size w wr)) (fun _ i _ => L.length - (intOf i).toNat)
  case atStart => exact ⟨0, Nat.zero_le _, rfl, by rw [H0.out], Below.refl _ _⟩
  case round =>
    obtain ⟨k, hk, rfl, rfl, HB⟩ := hrel
    by_cases hlt : k < L.length
    · obtain ⟨g, rfl, -, hgw, hc⟩ := HG.out (by omega)
      have c0 : wr.cell? ⟨g, k * 2, none⟩ = some (.string (atP L k).1) := by rw [(bcell HB.out).1 _ _ hgw]; exact (hc k hlt 0 (by omega)).1
      have c1 : wr.cell? ⟨g, k * 2 + 1, none⟩ = some (.string (atP L k).2) := by rw [(bcell HB.out).1 _ _ hgw]; exact (hc k hlt 1 (by omega)).1
      have k0 : (0 : Int) ≤ k := by omega
      have k1 : (k : Int) < L.length := by omega
      have hz := HF.out k hlt
      have hx := HZ.out k hk
      have HS : Hid (joinP (L.take (k + 1)) = (if k = 0 then ⟨#[]⟩ else joinP (L.take k) ++ ⟨#[59, 32]⟩) ++ (atP L k).1 ++ ⟨#[61]⟩ ++ (atP L k).2) := joinP_take_succ hlt
      clear hc
      generalize (atP L k).1 = n1 at *
      generalize (atP L k).2 = v1 at *
      have main : ∀ X : ByteArray, X.size ≤ 1000 → Hid (∀ W, Sem.run Tryz.prog (Op.stringOp .add X n1) W = .ok (.string (X ++ n1)) W) ∧ Hid (∀ W, Sem.run Tryz.prog (Op.stringOp .add (X ++ n1) ⟨#[61]⟩) W = .ok (.string (X ++ n1 ++ ⟨#[61]⟩)) W) ∧ Hid (∀ W, Sem.run Tryz.prog (Op.stringOp .add (X ++ n1 ++ ⟨#[61]⟩) v1) W = .ok (.string (X ++ n1 ++ ⟨#[61]⟩ ++ v1)) W) ∧ (X ++ n1).size ≤ 1020 ∧ (X ++ n1 ++ ⟨#[61]⟩).size ≤ 1021 := by
        intro X hX
        have s1 : (X ++ n1).size ≤ 1020 := by rw [ByteArray.size_append]; omega
        have s2 : (X ++ n1 ++ ⟨#[61]⟩).size ≤ 1021 := by rw [ByteArray.size_append]; show _ + 1 ≤ 1021; omega
        have e1 : (⟨#[61]⟩ : ByteArray).size = 1 := rfl
        exact ⟨fun W => run_string_add_sum W X n1 (by omega), fun W => run_string_add_sum W _ _ (by omega), fun W => run_string_add_sum W _ _ (by omega), s1, s2⟩
      by_cases h0 : k = 0
      · subst h0
        rw [if_pos rfl] at HS
        have hx0 := H0.out
        rw [hx0]
        obtain ⟨m1, m2, m3, s1, s2⟩ := main ⟨#[]⟩ (by decide)
        have a1 := m1.out
        have a2 := m2.out
        have a3 := m3.out
        clear m1 m2 m3 main
        go_wp2_with fail
        go_region_held3 (fun w' => w'.cell? ⟨g, 0, none⟩ = some (.string n1) ∧ w'.cell? ⟨g, 1, none⟩ = some (.string v1)) (go_keep) (fail)
        go_wp2
        go_roundw
        case rel => exact ⟨1, by omega, by go_num, by rw [HS.out], HB.out.trans (Below.drew (Below.refl _ _))⟩
        case measure => simp [intOf]; omega
      · rw [if_neg h0] at HS
        have q0 : decide ((0 : Int) < (k : Int)) = true := by rw [decide_eq_true_iff]; omega
        generalize joinP (L.take k) = x at *
        have hxz : (x ++ ⟨#[59, 32]⟩ : ByteArray).size ≤ 1000 := by rw [ByteArray.size_append]; show x.size + 2 ≤ 1000; omega
        obtain ⟨m1, m2, m3, s1, s2⟩ := main (x ++ ⟨#[59, 32]⟩) hxz
        have a1 := m1.out
        have a2 := m2.out
        have a3 := m3.out
        clear m1 m2 m3 main
        go_wp2_with fail
        go_region_held3 (fun w' => w'.cell? ⟨g, k * 2, none⟩ = some (.string n1) ∧ w'.cell? ⟨g, k * 2 + 1, none⟩ = some (.string v1)) (go_keep) (fail)
        go_wp2
        go_roundw
        case rel => exact ⟨k + 1, by omega, by go_num, by rw [HS.out], HB.out.trans (Below.drew (Below.refl _ _))⟩
        case measure => simp [intOf]; omega
    · obtain rfl : k = L.length := by omega
      rw [← HE.out]
      go_wp2
      go_ret
      exact ⟨rfl, HB.out⟩
set_option maxRecDepth 10000 in
set_option maxHeartbeats 4000000 in
theorem specPairsText_any (v : Value) (B : Nat) (L : List (ByteArray × ByteArray)) (w : World) (hs : SliceP w B v L) (hn : L.length ≤ 1048576) (hf : ∀ i, i < L.length → (atP L i).1.size ≤ 1048576 ∧ (atP L i).2.size ≤ 1048576) :
    Calls Tryz.prog 19 #[v] w fun e w' => e = .returned (.string (pairsT L)) ∧ Below w.heap.size w w' := by
  have HSl : Hid (SliceP w B v L) := hs
  obtain ⟨p, cap, rfl, hg⟩ := hs
  have HT : Hid (pairsT L = if pairsB L = true then joinP L else ⟨#[]⟩) := rfl
  by_cases h20 : 20 < L.length
  · have HR : Hid (pairsT L = ⟨#[]⟩) := by show _ = _; rw [HT.out, pairsB_many h20]; rfl
    go_enter Tryz.func19, Tryz.ntmps19
    go_wp2
    go_ret
    exact ⟨ret_text HR.out.symm, Below.refl _ _⟩
  have q20 : decide ((20 : Int) < (L.length : Int)) = false := by rw [decide_eq_false_iff_not]; omega
  have HG : Hid (0 < L.length → ∃ g, p = some ⟨g, 0, none⟩ ∧ B ≤ g ∧ g < w.heap.size ∧ ∀ j, j < L.length → ∀ o, o < 2 → w.cell? ⟨g, j * 2 + o, none⟩ = some (pairC (atP L) j o) ∧ w.frozen? ⟨g, j * 2 + o, none⟩ = false) := hg
  have HF : Hid (∀ i, i < L.length → (atP L i).1.size ≤ 1048576 ∧ (atP L i).2.size ≤ 1048576) := hf
  clear hg hf
  generalize pairsT L = R at *
  go_enter Tryz.func19, Tryz.ntmps19
  go_wp2
  go_loopw [3] (fun i wr => ∃ k : Nat, k ≤ L.length ∧ i = .int .i64 k ∧ Hid (Below w.heap.size w wr) ∧ Hid (∀ j, j < k → pairB (atP L j).1 (atP L j).2 = true)) (fun i _ => L.length - (intOf i).toNat)
  case atStart => exact ⟨0, Nat.zero_le _, rfl, Below.refl _ _, fun j hj => absurd hj (by omega)⟩
  case round =>
    obtain ⟨k, hk, rfl, HB, HA⟩ := hrel
    by_cases hlt : k < L.length
    · obtain ⟨g, rfl, -, hgw, hc⟩ := HG.out (by omega)
      have c0 : wr.cell? ⟨g, k * 2, none⟩ = some (.string (atP L k).1) := by rw [(bcell HB.out).1 _ _ hgw]; exact (hc k hlt 0 (by omega)).1
      have c1 : wr.cell? ⟨g, k * 2 + 1, none⟩ = some (.string (atP L k).2) := by rw [(bcell HB.out).1 _ _ hgw]; exact (hc k hlt 1 (by omega)).1
      have k0 : (0 : Int) ≤ k := by omega
      have k1 : (k : Int) < L.length := by omega
      clear hc
      have hz := HF.out k hlt
      have KR : Hid (∀ W, Calls Tryz.prog 46 #[.agg #[.string (atP L k).1, .string (atP L k).2]] W fun e w' => e = .returned (.bool (pairB (atP L k).1 (atP L k).2)) ∧ Below W.heap.size W w') := fun W => specPairRight_any _ _ W hz.1 hz.2
      have HBX : Hid (∀ b, pairB (atP L k).1 (atP L k).2 = b → (b = false → R = ⟨#[]⟩) ∧ (b = true → ∀ j, j < k + 1 → pairB (atP L j).1 (atP L j).2 = true)) := fun b e => ⟨fun hb => by rw [HT.out, pairsB_at k hlt (e.trans hb)]; rfl, fun hb j hj => by
        by_cases ej : j = k
        · subst ej; exact e.trans hb
        · exact HA.out j (by omega)⟩
      generalize hpb : pairB (atP L k).1 (atP L k).2 = pb at *
      have HPB : Hid ((pb = false → R = ⟨#[]⟩) ∧ (pb = true → ∀ j, j < k + 1 → pairB (atP L j).1 (atP L j).2 = true)) := HBX.out pb rfl
      clear HBX hpb hz
      generalize (atP L k).1 = n1 at *
      generalize (atP L k).2 = v1 at *
      go_wp2_with fail
      refine (KR.out _).mono ?_
      rintro e w1 ⟨rfl, hb1⟩
      have B1 : Hid (Below w.heap.size w w1) := HB.out.trans (hb1.mono HB.out.size)
      clear hb1
      cases pb with
      | false =>
        go_wp2
        go_ret
        exact ⟨ret_text (HPB.out.1 (by first | rfl | trivial)).symm, B1.out⟩
      | true =>
        go_wp2
        go_roundw
        case rel => exact ⟨k + 1, by omega, by go_num, B1, HPB.out.2 (by first | rfl | trivial)⟩
        case measure => simp [intOf]; omega
    · obtain rfl : k = L.length := by omega
      have hpb : pairsB L = true := pairsB_all (by omega) HA.out
      have KJ : Hid (Calls Tryz.prog 47 #[.slice p L.length cap] wr fun e w' => e = .returned (.string R) ∧ Below wr.heap.size wr w') := by
        have h := specJoin_any _ B L wr (SliceR.below HSl.out HB.out) (by omega) (fun j hj => pairB_small (HA.out j hj))
        have e : joinP L = R := by rw [HT.out, if_pos hpb]
        rw [e] at h; exact h
      clear hpb
      go_wp2_with (go_at_call 47; refine KJ.out.mono ?_; rintro e w9 ⟨rfl, hb9⟩)
      go_ret
      exact ⟨rfl, HB.out.trans (hb9.mono HB.out.size)⟩
end Go.Proofs.YthcpmbolnmlohaaGreatDoor

/- The specification's drawn texts of SetCookies, words, pairs and texts of pairs. -/
namespace Go.Proofs.YthcpmbolnmlohaaGreatDoor
open Go.RowKit

theorem setTx_size (c : SC) : (setTx c.na c.va c.dm c.pa c.ag c.se c.mo c.pt).size ≤ 1000 := by
  unfold setTx
  split
  · rename_i hR
    obtain ⟨h1, h2, h3, h4, h5, h6⟩ := setB_parts hR
    have s0 := setT0_size h1 h2
    have s1 := setT1_size (dm := c.dm) s0 h3
    have s2 := setT2_size (pa := c.pa) s1 h4
    have s3 := setT3_size (ag := c.ag) s2 (by omega) (by omega)
    have s4 := setT4_size (se := c.se) s3
    have s5 := setT5_size (mo := c.mo) s4
    unfold setT setT6
    split
    · rw [ByteArray.size_append]; show _ + 13 ≤ 1000; omega
    · omega
  · exact Nat.zero_le _
set_option maxRecDepth 10000 in
set_option maxHeartbeats 1000000 in
theorem drawSetText_any (a : Option Addr) (len cap : Nat) (w : World) (hr : CodeRow w a len) (hl : len ≤ 1048576) :
    Calls Tryz.prog 4 #[.slice a len cap] w fun e w' => (∃ c : SC, e = .returned (scV c) ∧ smallC c) ∧ Below w.heap.size w w' := by
  have H1 : Hid (∀ W, Below w.heap.size w W → Calls Tryz.prog 22 #[.slice a len cap] W fun e w' => e = .returned (.pointer (some ⟨W.heap.size, 0, none⟩)) ∧ SrcAt w' W.heap.size ∧ Below W.heap.size W w') := fun W hb => source_any a len cap W (hr.below hb) hl
  clear hr
  have HU0 : Hid (U8 (w.alloc (.cells #[.string ⟨#[]⟩, .string ⟨#[]⟩, .string ⟨#[]⟩, .string ⟨#[]⟩, .int .i64 0, .bool false, .int .i64 0, .bool false] 24)) w.heap.size (.string ⟨#[]⟩) (.string ⟨#[]⟩) (.string ⟨#[]⟩) (.string ⟨#[]⟩) (.int .i64 0) (.bool false) (.int .i64 0) (.bool false)) := U8.made w (.string ⟨#[]⟩) (.string ⟨#[]⟩) (.string ⟨#[]⟩) (.string ⟨#[]⟩) (.int .i64 0) (.bool false) (.int .i64 0) (.bool false) 24
  have HB0 : Hid (Below w.heap.size w (w.alloc (.cells #[.string ⟨#[]⟩, .string ⟨#[]⟩, .string ⟨#[]⟩, .string ⟨#[]⟩, .int .i64 0, .bool false, .int .i64 0, .bool false] 24))) := (Below.refl _ _).alloc (Nat.le_refl _) _
  have HZ0 : Hid ((w.alloc (.cells #[.string ⟨#[]⟩, .string ⟨#[]⟩, .string ⟨#[]⟩, .string ⟨#[]⟩, .int .i64 0, .bool false, .int .i64 0, .bool false] 24)).heap.size = w.heap.size + 1) := by show _ = _; simp
  go_enter Tryz.func4, Tryz.ntmps4
  go_wp2_with fail
  refine (H1.out _ HB0.out).mono ?_
  rintro e w1 ⟨rfl, s1, hb1⟩
  have HU1 : Hid (U8 w1 w.heap.size (.string ⟨#[]⟩) (.string ⟨#[]⟩) (.string ⟨#[]⟩) (.string ⟨#[]⟩) (.int .i64 0) (.bool false) (.int .i64 0) (.bool false)) := U8.below HU0.out hb1
  have HB1 : Hid (Below (w.heap.size + 1) (w.alloc (.cells #[.string ⟨#[]⟩, .string ⟨#[]⟩, .string ⟨#[]⟩, .string ⟨#[]⟩, .int .i64 0, .bool false, .int .i64 0, .bool false] 24)) w1) := by
    have h := hb1
    rw [HZ0.out] at h; exact h
  have S1 : Hid (SrcAt w1 (w.heap.size + 1)) := by
    have h := s1
    rw [HZ0.out] at h; exact h
  clear hb1 H1 s1
  go_wp2_with fail
  refine (srcSet_any _ _ S1.out).mono ?_
  rintro e w2 ⟨⟨c, rfl, hc⟩, _, g2⟩
  have B2 : Hid (Below w.heap.size w w2) := HB0.out.trans ((HB1.out.grown g2 (by have := HB1.out.size; have := HZ0.out; omega) (fun k e => by injection e with e; omega)).mono (Nat.le_succ _))
  obtain ⟨-, ⟨r0, r1, r2, r3, r4, r5, r6, r7⟩, rf⟩ := U8.kept HU1.out g2 (by intro e; injection e with e; omega)
  have HC : Hid (smallC c) := hc
  clear g2 HU0 HU1 HB0 HB1 hc
  unfold scV setV
  go_wp2
  exact bodyPost_ret (v := scV c) (by simp [scV, setV, results, Tryz.results4, go_sem, r0, r1, r2, r3, r4, r5, r6, r7]) rfl ⟨⟨c, rfl, HC.out⟩, (Below.setCell (Below.setCell (Below.setCell (Below.setCell (Below.setCell (Below.setCell (Below.setCell (Below.setCell B2.out (p := ⟨w.heap.size, 0, none⟩) (Nat.le_refl _) _) (p := ⟨w.heap.size, 1, none⟩) (Nat.le_refl _) _) (p := ⟨w.heap.size, 2, none⟩) (Nat.le_refl _) _) (p := ⟨w.heap.size, 3, none⟩) (Nat.le_refl _) _) (p := ⟨w.heap.size, 4, none⟩) (Nat.le_refl _) _) (p := ⟨w.heap.size, 5, none⟩) (Nat.le_refl _) _) (p := ⟨w.heap.size, 6, none⟩) (Nat.le_refl _) _) (p := ⟨w.heap.size, 7, none⟩) (Nat.le_refl _) _)⟩
set_option maxRecDepth 10000 in
set_option maxHeartbeats 1000000 in
theorem drawWord_any (a : Option Addr) (len cap : Nat) (w : World) (hr : CodeRow w a len) (hl : len ≤ 1048576) :
    Calls Tryz.prog 8 #[.slice a len cap] w fun e w' => (∃ t : ByteArray, e = .returned (.string t) ∧ t.size ≤ 30) ∧ Below w.heap.size w w' := by
  have H1 : Hid (Calls Tryz.prog 22 #[.slice a len cap] w fun e w' => e = .returned (.pointer (some ⟨w.heap.size, 0, none⟩)) ∧ SrcAt w' w.heap.size ∧ Below w.heap.size w w') := source_any a len cap w hr hl
  clear hr
  go_enter Tryz.func8, Tryz.ntmps8
  go_wp2_with fail
  refine H1.out.mono ?_
  rintro e w1 ⟨rfl, s1, hb1⟩
  have hgw := s1.1
  go_wp2_with fail
  refine (srcPick_short w.heap.size w1.heap.size 5 7 30 _ (s1.alloc _) (short_made w1 _ _ _ _ (by rfl)) (by omega) (by decide)).mono ?_
  rintro e w2 ⟨⟨t, rfl, ht⟩, _, g2⟩
  go_wp2
  go_ret
  exact ⟨⟨t, rfl, ht⟩, below_grown (hb1.alloc hb1.size _) g2 (by have := hb1.size; simp; omega) (Nat.le_refl _)⟩
set_option maxRecDepth 10000 in
set_option maxHeartbeats 1000000 in
theorem drawSetRead_any (a : Option Addr) (len cap : Nat) (w : World) (hr : CodeRow w a len) (hl : len ≤ 1048576) :
    Calls Tryz.prog 6 #[.slice a len cap] w fun e w' => (∃ t : ByteArray, e = .returned (.string t) ∧ t.size ≤ 2000) ∧ Below w.heap.size w w' := by
  have H1 : Hid (Calls Tryz.prog 22 #[.slice a len cap] w fun e w' => e = .returned (.pointer (some ⟨w.heap.size, 0, none⟩)) ∧ SrcAt w' w.heap.size ∧ Below w.heap.size w w') := source_any a len cap w hr hl
  clear hr
  go_enter Tryz.func6, Tryz.ntmps6
  go_wp2_with fail
  refine H1.out.mono ?_
  rintro e w1 ⟨rfl, s1, hb1⟩
  go_wp2_with fail
  refine (srcSet_any _ _ s1).mono ?_
  rintro e w2 ⟨⟨c, rfl, hc⟩, s2, g2⟩
  have B2 : Hid (Below w.heap.size w w2) := below_grown hb1 g2 hb1.size (Nat.le_refl _)
  have KT : Hid (∀ W, Calls Tryz.prog 9 #[scV c] W fun e w' => e = .returned (.string (setTx c.na c.va c.dm c.pa c.ag c.se c.mo c.pt)) ∧ Below W.heap.size W w') := fun W => specSetText_any c.na c.va c.dm c.pa c.ag c.se c.mo c.pt W (by have := hc.1; omega) (by have := hc.2.1; omega)
  have ht := setTx_size c
  clear hb1 g2 s1 hc
  generalize setTx c.na c.va c.dm c.pa c.ag c.se c.mo c.pt = t at *
  go_wp2_with fail
  refine (KT.out _).mono ?_
  rintro e w3 ⟨rfl, hb3⟩
  have s3 := s2.below hb3
  have B3 : Hid (Below w.heap.size w w3) := B2.out.trans (hb3.mono B2.out.size)
  clear hb3 s2 B2 KT
  go_wp2_with fail
  refine (srcN_any _ 4 _ s3 (by decide)).mono ?_
  rintro e w4 ⟨r, rfl, r0, r1, _, s4, g4⟩
  have r2 := r1 (by decide)
  have B4 : Hid (Below w.heap.size w w4) := below_grown B3.out g4 B3.out.size (Nat.le_refl _)
  have hgw := s4.1
  clear g4 s3 B3 r1
  rcases (show r = 0 ∨ r = 1 ∨ r = 2 ∨ r = 3 by omega) with rfl | rfl | rfl | rfl
  · go_wp2_with fail
    refine (spoil_any _ t _ s4 (by omega)).mono ?_
    rintro e w5 ⟨⟨x, rfl, hx⟩, _, g5⟩
    go_wp2
    go_ret
    exact ⟨⟨x, rfl, by omega⟩, below_grown B4.out g5 B4.out.size (Nat.le_refl _)⟩
  · go_wp2_with fail
    refine (srcPick_short w.heap.size w4.heap.size 6 8 100 _ (s4.alloc _) (short_made w4 _ _ _ _ (by rfl)) (by omega) (by decide)).mono ?_
    rintro e w5 ⟨⟨x, rfl, hx⟩, _, g5⟩
    go_wp2
    go_ret
    exact ⟨⟨x, rfl, by omega⟩, below_grown (B4.out.alloc B4.out.size _) g5 (by have := B4.out.size; simp; omega) (Nat.le_refl _)⟩
  · go_wp2
    go_ret
    exact ⟨⟨t, rfl, by omega⟩, B4.out⟩
  · go_wp2
    go_ret
    exact ⟨⟨t, rfl, by omega⟩, B4.out⟩
end Go.Proofs.YthcpmbolnmlohaaGreatDoor

/- The specification's drawn pairs and their texts; the laws' lwPairs. -/
namespace Go.Proofs.YthcpmbolnmlohaaGreatDoor
open Go.RowKit

theorem infoPairD : (Tryz.prog.info? 46).map (fun i => (i.zero, i.size, i.bytes)) = some (some (.agg #[.string ⟨#[]⟩, .string ⟨#[]⟩]), 2, 32) := by kernel_rfl
theorem cell_two (w : World) (a b : Value) (t : TypeId) : ∀ j u, [a, b][j]? = some u → (w.alloc (.cells #[a, b] t)).cell? ((⟨w.heap.size, 0, none⟩ : Addr).add j) = some u := by
  intro j u h
  have e : (⟨w.heap.size, 0, none⟩ : Addr).add j = ⟨w.heap.size, j, none⟩ := by unfold Addr.add; split <;> simp_all
  rw [e]
  match j, h with
  | 0, h => simpa using h
  | 1, h => simpa using h
  | j + 2, h => simp at h
/-- short pairs -/
def fewP (L : List (ByteArray × ByteArray)) : Prop := ∀ p ∈ L, p.1.size ≤ 30 ∧ p.2.size ≤ 30
theorem fewP_snoc {L : List (ByteArray × ByteArray)} {p : ByteArray × ByteArray} (h : fewP L) (h1 : p.1.size ≤ 30) (h2 : p.2.size ≤ 30) : fewP (L ++ [p]) := by
  intro q hq
  rcases List.mem_append.1 hq with hq | hq
  · exact h q hq
  · rw [List.mem_singleton] at hq; subst hq; exact ⟨h1, h2⟩
theorem fewP_at {L : List (ByteArray × ByteArray)} (h : fewP L) (i : Nat) (hi : i < L.length) : (atP L i).1.size ≤ 30 ∧ (atP L i).2.size ≤ 30 := by
  rw [atP_eq hi]; exact h _ (List.getElem_mem hi)
set_option maxRecDepth 10000 in
set_option maxHeartbeats 2000000 in
theorem srcPairs_any (g : Nat) (w : World) (hs : SrcAt w g) :
    Calls Tryz.prog 42 #[.pointer (some ⟨g, 0, none⟩)] w fun e w' => (∃ v L, e = .returned v ∧ SliceP w' w.heap.size v L ∧ L.length ≤ 4 ∧ fewP L) ∧ SrcAt w' g ∧ w.grownBy w' (some g) := by
  obtain ⟨i0, hi, hy0, hy1, hy2⟩ := info_parts infoPairD
  have hg := hs.1
  have O0 : Hid ((w.alloc (.cells #[] 46)).ownsRow w.heap.size 46 2 (.slice (some ⟨w.heap.size, 0, none⟩) 0 0) 0 []) := World.ownsRow_made (e := 46) (size := 2) w #[] 0 (Nat.le_refl _) (Nat.zero_le _) rfl
  have S0 : Hid (SrcAt (w.alloc (.cells #[] 46)) g) := hs.alloc _
  have G0 : Hid (w.grownBy (w.alloc (.cells #[] 46)) (some g)) := World.grownBy_alloc _ _ _
  clear hs
  go_enter Tryz.func42, Tryz.ntmps42
  go_wp2_with fail
  refine (srcN_any g 4 _ S0.out (by decide)).mono ?_
  rintro e w1 ⟨r, rfl, r0, r1, _, s1, g1⟩
  have r2 := r1 (by decide)
  have O1 : Hid (w1.ownsRow w.heap.size 46 2 (.slice (some ⟨w.heap.size, 0, none⟩) 0 0) 0 []) := row_kept O0.out g1 (fun b e => by injection e with e; omega)
  have G1 : Hid (w.grownBy w1 (some g)) := G0.out.trans g1
  have S1 : Hid (SrcAt w1 g) := s1
  clear g1 s1 O0 S0 G0 r1
  go_wp2
  go_loopw [3, 4] (fun v i wr => ∃ (k : Nat) (L : List (ByteArray × ByteArray)), k ≤ 3 ∧ i = .int .i64 (k : Int) ∧ L.length + k ≤ 3 ∧ Hid (fewP L) ∧ Hid (wr.ownsRow w.heap.size 46 2 v L.length (pairCells L)) ∧ Hid (SrcAt wr g) ∧ Hid (w.grownBy wr (some g))) (fun _ i _ => (intOf i).toNat)
  case atStart => exact ⟨r.toNat, [], by omega, by rw [Int.toNat_of_nonneg r0], by simp; omega, fun p hp => absurd hp (by simp), O1, S1, G1⟩
  case round =>
    obtain ⟨k, L, hk, rfl, hL, HF, HO, HS, HG⟩ := hrel
    have hwz := HG.out.size
    have hgr := HS.out.1
    by_cases h0 : 0 < k
    · have q0 : decide ((0 : Int) < (k : Int)) = true := by rw [decide_eq_true_iff]; omega
      go_wp2_with fail
      refine (srcPick_short g wr.heap.size 1 3 20 _ (HS.out.alloc _) (short_made wr _ _ _ _ (by rfl)) (by omega) (by decide)).mono ?_
      rintro e w2 ⟨⟨n1, rfl, hn1⟩, s2, g2⟩
      have O2 : Hid (w2.ownsRow w.heap.size 46 2 u3 L.length (pairCells L)) := row_kept (HO.out.alloc _) g2 (fun b e => by injection e with e; omega)
      have G2 : Hid (w.grownBy w2 (some g)) := HG.out.trans ((World.grownBy_alloc _ _ _).trans g2)
      clear g2
      go_wp2_with fail
      refine (srcWord_any g _ s2).mono ?_
      rintro e w3 ⟨⟨v1, rfl, hv1⟩, s3, g3⟩
      have O3 : Hid (w3.ownsRow w.heap.size 46 2 u3 L.length (pairCells L)) := row_kept O2.out g3 (fun b e => by injection e with e; omega)
      have G3 : Hid (w.grownBy w3 (some g)) := G2.out.trans g3
      have S3 : Hid (SrcAt w3 g) := s3
      have hz3 := G3.out.size
      clear g3 s2 s3 O2 G2
      have HF4 : Hid (fewP (L ++ [(n1, v1)])) := fewP_snoc HF.out (by show n1.size ≤ 30; omega) (by show v1.size ≤ 30; omega)
      go_wp2_with (at_builtin; go_must (refine wpList_append_own _ rfl _ _ 33 rfl w.heap.size 46 i0 (.agg #[.string ⟨#[]⟩, .string ⟨#[]⟩]) 2 32 Tryz.underlying33 hi hy0 hy1 hy2 rfl (by decide) _ _ _ rfl (O3.out.alloc _) ⟨w3.heap.size, 0, none⟩ 1 1 [.string n1, .string v1] rfl rfl (cell_two _ _ _ _) (by intro u hu; simp at hu; rcases hu with rfl | rfl <;> rfl) (by unfold maxLen; omega) (by omega) (by simp; omega) ?_))
      intro v4 w4 ho4 hg4 _
      have O4 : Hid (w4.ownsRow w.heap.size 46 2 v4 (L ++ [(n1, v1)]).length (pairCells (L ++ [(n1, v1)]))) := by show World.ownsRow _ _ _ _ _ _ _; rw [List.length_append, ← pairCells_snoc]; exact ho4
      have hrow : ∀ b, u3.ownBlock = some b → w.heap.size ≤ b := fun b e => (O3.out.lt b e).1
      have G4 : Hid (w.grownBy w4 (some g)) := rows_grown G3.out (World.grownBy_alloc _ _ _) hg4 hrow
      have S4 : Hid (SrcAt w4 g) := (S3.out.alloc _).grown hg4 (fun b e => by have := hrow b e; omega)
      clear ho4 hg4 hrow
      go_wp2
      go_roundw
      case rel => exact ⟨k - 1, L ++ [(n1, v1)], by omega, by rw [Int.ofNat_sub (by omega)]; rfl, by simp; omega, HF4, O4, S4, G4⟩
      case measure => simp [intOf]; omega
    · have q0 : decide ((0 : Int) < (k : Int)) = false := by rw [decide_eq_false_iff_not]; omega
      go_wp2_with fail
      refine (srcOne_any g 15 _ HS.out (by decide)).mono ?_
      rintro e w2 ⟨⟨b, rfl⟩, s2, g2⟩
      have O2 : Hid (w2.ownsRow w.heap.size 46 2 u3 L.length (pairCells L)) := row_kept HO.out g2 (fun b e => by injection e with e; omega)
      have G2 : Hid (w.grownBy w2 (some g)) := HG.out.trans g2
      have S2 : Hid (SrcAt w2 g) := s2
      have hg2 := s2.1
      have hz2 := G2.out.size
      clear g2 s2
      cases b with
      | false =>
        go_wp2
        go_ret
        exact ⟨⟨_, L, rfl, sliceP_of_own O2.out, by omega, HF.out⟩, S2.out, G2.out⟩
      | true =>
        go_wp2_with fail
        refine (srcPick_short g w2.heap.size 0 2 20 _ (S2.out.alloc _) (short_made w2 _ _ _ _ (by rfl)) (by omega) (by decide)).mono ?_
        rintro e w3 ⟨⟨n1, rfl, hn1⟩, s3, g3⟩
        have O3 : Hid (w3.ownsRow w.heap.size 46 2 u3 L.length (pairCells L)) := row_kept (O2.out.alloc _) g3 (fun b e => by injection e with e; omega)
        have G3 : Hid (w.grownBy w3 (some g)) := G2.out.trans ((World.grownBy_alloc _ _ _).trans g3)
        have S3 : Hid (SrcAt w3 g) := s3
        have hz3 := G3.out.size
        clear g3 s3
        have HF4 : Hid (fewP (L ++ [(n1, (⟨#[]⟩ : ByteArray))])) := fewP_snoc HF.out (by show n1.size ≤ 30; omega) (Nat.zero_le _)
        go_wp2_with (at_builtin; go_must (refine wpList_append_own _ rfl _ _ 33 rfl w.heap.size 46 i0 (.agg #[.string ⟨#[]⟩, .string ⟨#[]⟩]) 2 32 Tryz.underlying33 hi hy0 hy1 hy2 rfl (by decide) _ _ _ rfl (O3.out.alloc _) ⟨w3.heap.size, 0, none⟩ 1 1 [.string n1, .string (⟨#[]⟩ : ByteArray)] rfl rfl (cell_two _ _ _ _) (by intro u hu; simp at hu; rcases hu with rfl | rfl <;> rfl) (by unfold maxLen; omega) (by omega) (by simp; omega) ?_))
        intro v4 w4 ho4 hg4 _
        have O4 : Hid (w4.ownsRow w.heap.size 46 2 v4 (L ++ [(n1, (⟨#[]⟩ : ByteArray))]).length (pairCells (L ++ [(n1, (⟨#[]⟩ : ByteArray))]))) := by show World.ownsRow _ _ _ _ _ _ _; rw [List.length_append, ← pairCells_snoc]; exact ho4
        have hrow : ∀ b, u3.ownBlock = some b → w.heap.size ≤ b := fun b e => (O3.out.lt b e).1
        have G4 : Hid (w.grownBy w4 (some g)) := rows_grown G3.out (World.grownBy_alloc _ _ _) hg4 hrow
        have S4 : Hid (SrcAt w4 g) := (S3.out.alloc _).grown hg4 (fun b e => by have := hrow b e; omega)
        clear ho4 hg4 hrow
        go_wp2
        go_ret
        exact ⟨⟨_, L ++ [(n1, (⟨#[]⟩ : ByteArray))], rfl, sliceP_of_own O4.out, by simp; omega, HF4.out⟩, S4.out, G4.out⟩
set_option maxRecDepth 10000 in
set_option maxHeartbeats 1000000 in
theorem drawPairsText_any (a : Option Addr) (len cap : Nat) (w : World) (hr : CodeRow w a len) (hl : len ≤ 1048576) :
    Calls Tryz.prog 15 #[.slice a len cap] w fun e w' => (∃ v L, e = .returned v ∧ SliceP w' w.heap.size v L ∧ L.length ≤ 4 ∧ fewP L) ∧ Below w.heap.size w w' := by
  have H1 : Hid (Calls Tryz.prog 22 #[.slice a len cap] w fun e w' => e = .returned (.pointer (some ⟨w.heap.size, 0, none⟩)) ∧ SrcAt w' w.heap.size ∧ Below w.heap.size w w') := source_any a len cap w hr hl
  clear hr
  go_enter Tryz.func15, Tryz.ntmps15
  go_wp2_with fail
  refine H1.out.mono ?_
  rintro e w1 ⟨rfl, s1, hb1⟩
  go_wp2_with fail
  refine (srcPairs_any _ _ s1).mono ?_
  rintro e w2 ⟨⟨v, L, rfl, hs, h4, hf⟩, _, g2⟩
  have B2 : Hid (Below w.heap.size w w2) := below_grown hb1 g2 hb1.size (Nat.le_refl _)
  have HS : Hid (SliceP w2 w.heap.size v L) := SliceR.mono hs hb1.size
  have HF : Hid (fewP L) := hf
  clear hs g2 s1 hb1 hf
  go_wp2
  go_ret
  exact ⟨⟨v, L, rfl, HS.out, h4, HF.out⟩, B2.out⟩
theorem pairsT_size {L : List (ByteArray × ByteArray)} (h4 : L.length ≤ 4) : (pairsT L).size ≤ 1000 := by
  unfold pairsT
  split
  · rename_i hb
    have e := joinP_take_size (L := L) (fun j hj => by
      unfold pairsB at hb
      rw [Bool.and_eq_true, List.all_eq_true] at hb
      rw [atP_eq hj]
      exact pairB_small (hb.2 _ (List.getElem_mem hj))) L.length (Nat.le_refl _)
    rw [List.take_length] at e; omega
  · exact Nat.zero_le _
set_option maxRecDepth 10000 in
set_option maxHeartbeats 1000000 in
theorem drawPairsRead_any (a : Option Addr) (len cap : Nat) (w : World) (hr : CodeRow w a len) (hl : len ≤ 1048576) :
    Calls Tryz.prog 17 #[.slice a len cap] w fun e w' => (∃ t : ByteArray, e = .returned (.string t) ∧ t.size ≤ 2000) ∧ Below w.heap.size w w' := by
  have H1 : Hid (Calls Tryz.prog 22 #[.slice a len cap] w fun e w' => e = .returned (.pointer (some ⟨w.heap.size, 0, none⟩)) ∧ SrcAt w' w.heap.size ∧ Below w.heap.size w w') := source_any a len cap w hr hl
  clear hr
  go_enter Tryz.func17, Tryz.ntmps17
  go_wp2_with fail
  refine H1.out.mono ?_
  rintro e w1 ⟨rfl, s1, hb1⟩
  go_wp2_with fail
  refine (srcPairs_any _ _ s1).mono ?_
  rintro e w2 ⟨⟨v, L, rfl, hs, h4, hf⟩, s2, g2⟩
  have B2 : Hid (Below w.heap.size w w2) := below_grown hb1 g2 hb1.size (Nat.le_refl _)
  have KT : Hid (Calls Tryz.prog 19 #[v] w2 fun e w' => e = .returned (.string (pairsT L)) ∧ Below w2.heap.size w2 w') := specPairsText_any v _ L w2 hs (by omega) (fun i hi => by have := fewP_at hf i hi; omega)
  have ht := pairsT_size h4
  clear hb1 g2 s1 hf hs
  generalize pairsT L = t at *
  go_wp2_with fail
  refine KT.out.mono ?_
  rintro e w3 ⟨rfl, hb3⟩
  have s3 := s2.below hb3
  have B3 : Hid (Below w.heap.size w w3) := B2.out.trans (hb3.mono B2.out.size)
  clear hb3 s2 B2 KT
  go_wp2_with fail
  refine (srcOne_any _ 3 _ s3 (by decide)).mono ?_
  rintro e w4 ⟨⟨b, rfl⟩, s4, g4⟩
  have B4 : Hid (Below w.heap.size w w4) := below_grown B3.out g4 B3.out.size (Nat.le_refl _)
  clear g4 s3 B3
  cases b with
  | true =>
    go_wp2_with fail
    refine (spoil_any _ t _ s4 (by omega)).mono ?_
    rintro e w5 ⟨⟨x, rfl, hx⟩, _, g5⟩
    go_wp2
    go_ret
    exact ⟨⟨x, rfl, by omega⟩, below_grown B4.out g5 B4.out.size (Nat.le_refl _)⟩
  | false =>
    go_wp2
    go_ret
    exact ⟨⟨t, rfl, by omega⟩, B4.out⟩
set_option maxRecDepth 10000 in
set_option maxHeartbeats 2000000 in
theorem lwPairs_any (a b : Value) (L : List (ByteArray × ByteArray)) (B B' : Nat) (w : World) (ha : SliceP w B a L) (hb : SliceP w B' b L) (hn : L.length ≤ 1048576) :
    Calls Tryz.prog 20 #[a, b] w fun e w' => e = .returned (.bool true) ∧ Below w.heap.size w w' := by
  obtain ⟨p, cap, rfl, h1⟩ := ha
  obtain ⟨p', cap', rfl, h2⟩ := hb
  have H1 : Hid (0 < L.length → ∃ g, p = some ⟨g, 0, none⟩ ∧ B ≤ g ∧ g < w.heap.size ∧ ∀ j, j < L.length → ∀ o, o < 2 → w.cell? ⟨g, j * 2 + o, none⟩ = some (pairC (atP L) j o) ∧ w.frozen? ⟨g, j * 2 + o, none⟩ = false) := h1
  have H2 : Hid (0 < L.length → ∃ g, p' = some ⟨g, 0, none⟩ ∧ B' ≤ g ∧ g < w.heap.size ∧ ∀ j, j < L.length → ∀ o, o < 2 → w.cell? ⟨g, j * 2 + o, none⟩ = some (pairC (atP L) j o) ∧ w.frozen? ⟨g, j * 2 + o, none⟩ = false) := h2
  clear h1 h2
  go_enter Tryz.func20, Tryz.ntmps20
  go_wp2
  go_loopw [5] (fun i wr => ∃ k : Nat, k ≤ L.length ∧ i = .int .i64 k ∧ Hid (Below w.heap.size w wr)) (fun i _ => L.length - (intOf i).toNat)
  case atStart => exact ⟨0, by omega, rfl, Below.refl _ _⟩
  case round =>
    obtain ⟨k, hk, rfl, HB⟩ := hrel
    by_cases hlt : k < L.length
    · obtain ⟨g, rfl, -, hg, hc⟩ := H1.out (by omega)
      obtain ⟨g', rfl, -, hg', hc'⟩ := H2.out (by omega)
      have c0 : wr.cell? ⟨g, k * 2, none⟩ = some (.string (atP L k).1) := by rw [(bcell HB.out).1 _ _ hg]; exact (hc k hlt 0 (by omega)).1
      have c1 : wr.cell? ⟨g, k * 2 + 1, none⟩ = some (.string (atP L k).2) := by rw [(bcell HB.out).1 _ _ hg]; exact (hc k hlt 1 (by omega)).1
      have d0 : wr.cell? ⟨g', k * 2, none⟩ = some (.string (atP L k).1) := by rw [(bcell HB.out).1 _ _ hg']; exact (hc' k hlt 0 (by omega)).1
      have d1 : wr.cell? ⟨g', k * 2 + 1, none⟩ = some (.string (atP L k).2) := by rw [(bcell HB.out).1 _ _ hg']; exact (hc' k hlt 1 (by omega)).1
      have k0 : (0 : Int) ≤ k := by omega
      have k1 : (k : Int) < L.length := by omega
      clear hc hc'
      generalize (atP L k).1 = y0 at *
      generalize (atP L k).2 = y1 at *
      go_wp2_with fail
      go_region_held3 (fun w' => w'.cell? ⟨g, k * 2, none⟩ = some (.string y0) ∧ w'.cell? ⟨g, k * 2 + 1, none⟩ = some (.string y1) ∧ w'.cell? ⟨g', k * 2, none⟩ = some (.string y0) ∧ w'.cell? ⟨g', k * 2 + 1, none⟩ = some (.string y1)) (go_keep) (fail)
      go_wp2
      go_roundw
      case rel => exact ⟨k + 1, by omega, by go_num, HB.out.trans (Below.drew (Below.refl _ _))⟩
      case measure => simp [intOf]; omega
    · go_wp2
      go_ret
      exact ⟨rfl, HB.out⟩
end Go.Proofs.YthcpmbolnmlohaaGreatDoor

/- Pairs come back from their text, and what was read is told by its own text: what FnSet says. -/
namespace Go.Proofs.YthcpmbolnmlohaaGreatDoor
open Go.RowKit

theorem pairB_bytes {p : ByteArray × ByteArray} (h : pairB p.1 p.2 = true) : Lacks (pairT p) 59 ∧ Lacks p.1 61 := by
  unfold pairB at h
  rw [Bool.and_eq_true, Bool.and_eq_true] at h
  have h1 := wordB_bytes h.1.2
  have h2 := wordB_bytes h.2
  exact ⟨Lacks.app (Lacks.app h1.1 (by decide)) h2.1, h1.2⟩
theorem pairs_pieces {L : List (ByteArray × ByteArray)} (h : pairsB L = true) (hne : L ≠ []) : (piecesL (joinP L)).map pairP = L := by
  have ha : ∀ p ∈ L, pairB p.1 p.2 = true := by
    unfold pairsB at h
    rw [Bool.and_eq_true, List.all_eq_true] at h
    exact h.2
  cases L with
  | nil => exact absurd rfl hne
  | cons p r =>
    show (piecesL (pairT p ++ flat (r.map pairT))).map pairP = p :: r
    rw [pieces_flat _ _ (pairB_bytes (ha p (List.mem_cons_self ..))).1 (fun q hq => by
      rw [List.mem_map] at hq
      obtain ⟨x, hx, rfl⟩ := hq
      exact (pairB_bytes (ha x (List.mem_cons_of_mem _ hx))).1)]
    have back : ∀ x ∈ p :: r, pairP (pairT x) = x := fun x hx => by
      show pairP (x.1 ++ equ ++ x.2) = x
      rw [pair_mid _ (pairB_bytes (ha x hx)).2]
    rw [List.map_cons, back p (List.mem_cons_self ..), List.map_map]
    congr 1
    have : ∀ x ∈ r, (pairP ∘ pairT) x = id x := fun x hx => back x (List.mem_cons_of_mem _ hx)
    rw [List.map_congr_left this, List.map_id]
theorem empty_empty : (⟨#[]⟩ : ByteArray).toList.isEmpty = true := by rw [Lib.toList_data]; rfl
theorem pairs_got {L : List (ByteArray × ByteArray)} (h : (pairsT L).toList.isEmpty = false) : pairsGot (pairsT L) = (L, 0) := by
  have hb : pairsB L = true := by
    cases hb : pairsB L with
    | true => rfl
    | false => rw [pairsT, if_neg (by rw [hb]; decide), empty_empty] at h; cases h
  have e : pairsT L = joinP L := by rw [pairsT, if_pos hb]
  have hne : L ≠ [] := by
    intro hh
    rw [e, hh] at h
    exact absurd (h.symm.trans empty_empty) (by decide)
  have hz := joinP_size hb
  have hp := pairs_pieces hb hne
  unfold pairsGot
  rw [h, e, hp, e, if_neg (by omega), if_neg (by decide), if_pos (by simp)]
theorem pairs_text {t : ByteArray} (h : (pairsGot t).2 = 0) : pairsT (pairsGot t).1 = t := by
  unfold pairsGot at h ⊢
  by_cases h8 : 8000 < t.size
  · rw [if_pos h8] at h; exact absurd h (by decide)
  rw [if_neg h8] at h ⊢
  by_cases he : t.toList.isEmpty = true
  · rw [if_pos he, nil_of he]; rfl
  rw [if_neg he] at h ⊢
  by_cases hs : ((pairsT ((piecesL t).map pairP)).toList == t.toList) = true
  · rw [if_pos hs]; exact toList_inj hs
  · rw [if_neg hs] at h; exact absurd h (by decide)
theorem pairs_few (t : ByteArray) : (pairsGot t).1.length ≤ 20 ∧ ∀ i, i < (pairsGot t).1.length → (atP (pairsGot t).1 i).1.size ≤ 1048576 ∧ (atP (pairsGot t).1 i).2.size ≤ 1048576 := by
  have nil : ∀ k : Int, (([], k) : List (ByteArray × ByteArray) × Int).1.length ≤ 20 ∧ ∀ i, i < (([], k) : List (ByteArray × ByteArray) × Int).1.length → (atP (([], k) : List (ByteArray × ByteArray) × Int).1 i).1.size ≤ 1048576 ∧ (atP (([], k) : List (ByteArray × ByteArray) × Int).1 i).2.size ≤ 1048576 := fun k => ⟨Nat.zero_le _, fun i hi => absurd hi (Nat.not_lt_zero _)⟩
  unfold pairsGot
  by_cases h8 : 8000 < t.size
  · rw [if_pos h8]; exact nil _
  rw [if_neg h8]
  by_cases he : t.toList.isEmpty = true
  · rw [if_pos he]; exact nil _
  rw [if_neg he]
  by_cases hs : ((pairsT ((piecesL t).map pairP)).toList == t.toList) = true
  · rw [if_pos hs]
    have e := toList_inj hs
    generalize (piecesL t).map pairP = L at *
    have hb : pairsB L = true := by
      cases hb : pairsB L with
      | true => rfl
      | false => rw [pairsT, if_neg (by rw [hb]; decide)] at e; rw [← e, empty_empty] at he; exact absurd rfl he
    unfold pairsB at hb
    rw [Bool.and_eq_true, List.all_eq_true, decide_eq_true_iff] at hb
    refine ⟨hb.1, fun i hi => ?_⟩
    have := pairB_small (hb.2 _ (List.getElem_mem hi))
    show (atP L i).1.size ≤ _ ∧ (atP L i).2.size ≤ _
    rw [atP_eq hi]; omega
  · rw [if_neg hs]; exact nil _
theorem set_text {t : ByteArray} (h : (scGot t).2 = 0) : scTx (scGot t).1 = t ∧ (scGot t).1.dm.size ≤ 100 := by
  unfold scGot at h ⊢
  by_cases h8 : 8000 < t.size
  · rw [if_pos h8] at h; exact absurd h (by decide)
  rw [if_neg h8] at h ⊢
  by_cases hs : scOk t = true
  · rw [if_pos hs]
    unfold scOk at hs
    rw [Bool.and_eq_true] at hs
    have e := toList_inj hs.2
    refine ⟨e, ?_⟩
    generalize scRead t = c at *
    show c.dm.size ≤ 100
    have hb : setB c.na c.va c.dm c.pa c.ag c.mo = true := by
      cases hb : setB c.na c.va c.dm c.pa c.ag c.mo with
      | true => rfl
      | false =>
        have h1 := hs.1
        rw [← e, scTx, setTx, if_neg (by rw [hb]; decide), empty_empty] at h1
        exact absurd h1 (by decide)
    exact (setB_parts hb).2.2.1
  · rw [if_neg hs] at h; exact absurd h (by decide)
theorem set_again (c : SC) (h : (scTx c).toList.isEmpty = false) : scGot (scTx c) = (c, 0) := by
  have hb : setB c.na c.va c.dm c.pa c.ag c.mo = true := by
    cases hb : setB c.na c.va c.dm c.pa c.ag c.mo with
    | true => rfl
    | false => rw [scTx, setTx, if_neg (by rw [hb]; decide), empty_empty] at h; cases h
  have hz := setTx_size c
  exact set_got _ _ _ _ _ _ _ _ hb (by
    rw [setTx, if_pos hb] at hz; omega)
end Go.Proofs.YthcpmbolnmlohaaGreatDoor

/- Operations of the law FnSet, each by a closed equation. -/
namespace Go.Proofs.YthcpmbolnmlohaaGreatDoor
open Go.RowKit

theorem out_pairs (v : Value) (k : Int) (W : World) : Sem.run Tryz.prog (Instr.field 37 (.agg #[v, .int .i64 k]) 0) W = .ok v W := by kernel_rfl
theorem out_code (v : Value) (k : Int) (W : World) : Sem.run Tryz.prog (Instr.field 37 (.agg #[v, .int .i64 k]) 1) W = .ok (.int .i64 k) W := by kernel_rfl
end Go.Proofs.YthcpmbolnmlohaaGreatDoor

/- What the library's Split cuts a text into at a byte is splitB's list. -/
namespace Go.Proofs.YthcpmbolnmlohaaGreatDoor
theorem first_split {c : UInt8} : ∀ {l : List UInt8}, c ∈ l → ∃ A B, l = A ++ c :: B ∧ ∀ x ∈ A, x ≠ c
  | [], h => by cases h
  | b :: l, h => by
    by_cases e : b = c
    · exact ⟨[], l, by rw [e]; rfl, fun x hx => by cases hx⟩
    · obtain ⟨A, B, rfl, hA⟩ := first_split (l := l) (by cases h with | head => exact absurd rfl e | tail _ h => exact h)
      refine ⟨b :: A, B, rfl, ?_⟩
      intro x hx
      cases hx with
      | head => exact e
      | tail _ hx => exact hA x hx
/-- a list of bytes cut at a byte -/
def cutL (c : UInt8) : List UInt8 → List (List UInt8)
  | [] => [[]]
  | b :: l => if b = c then [] :: cutL c l else match cutL c l with
    | [] => [[b]]
    | p :: r => (b :: p) :: r
theorem cutL_none (c : UInt8) : ∀ A : List UInt8, (∀ x ∈ A, x ≠ c) → cutL c A = [A]
  | [], _ => rfl
  | b :: A, h => by
    rw [cutL, if_neg (h b (by simp)), cutL_none c A (fun x hx => h x (by simp [hx]))]
theorem cutL_app (c : UInt8) (B : List UInt8) : ∀ A : List UInt8, (∀ x ∈ A, x ≠ c) → cutL c (A ++ c :: B) = A :: cutL c B
  | [], _ => by rw [List.nil_append, cutL, if_pos rfl]
  | b :: A, h => by
    rw [List.cons_append, cutL, if_neg (h b (by simp)), cutL_app c B A (fun x hx => h x (by simp [hx]))]
theorem index_one (c : UInt8) (A B : List UInt8) (h : ∀ x ∈ A, x ≠ c) : Lib.index (A ++ c :: B) [c] = A.length := by
  refine Lib.index_first (by simp) ?_ ?_
  · simp [Lib.occAt]
  · intro j hj
    rw [← Bool.not_eq_true]
    intro ho
    have e := Lib.occAt_head rfl ho
    rw [List.getElem?_append_left hj] at e
    exact h c (List.mem_of_getElem? e) rfl
theorem splitK_cutL (c : UInt8) : ∀ (k : Nat) (l : List UInt8), l.count c = k → Lib.splitK [c] 0 k l = cutL c l
  | 0, l, h => by
    rw [cutL_none c l (fun x hx e => by subst e; exact absurd (List.count_pos_iff.2 hx) (by omega))]
    rfl
  | k + 1, l, h => by
    obtain ⟨A, B, rfl, hA⟩ := first_split (List.count_pos_iff.1 (show 0 < l.count c by omega))
    have hi := index_one c A B hA
    have h0 : A.count c = 0 := List.count_eq_zero.2 (fun hx => hA c hx rfl)
    have hB : B.count c = k := by
      rw [List.count_append, List.count_cons_self, h0] at h; omega
    rw [Lib.splitK, if_neg (by rw [hi, beq_iff_eq]; omega), hi, cutL_app c B A hA]
    congr 1
    · simp
    · rw [← splitK_cutL c k B hB]
      congr 1
      rw [show ((A.length : Int)).toNat + [c].length = A.length + 1 by simp, ← List.drop_drop, List.drop_left]
      rfl
theorem extract_list (s : ByteArray) (a b : Nat) : (s.extract a b).data.toList = (s.data.toList.drop a).take (b - a) := by
  simp
theorem byte_list {s : ByteArray} {i : Nat} (h : i < s.size) : s.data.toList[i]'(by simpa using h) = s[i] := by simp; rfl
theorem splitTo_cut (s : ByteArray) (c : UInt8) : ∀ i, i ≤ s.size →
    cutL c s.data.toList = (splitTo s c.toNat i).1.map (·.data.toList) ++ cutL c (s.data.toList.drop (splitTo s c.toNat i).2) ∧
      ∀ j (h : j < s.size), (splitTo s c.toNat i).2 ≤ j → j < i → s[j] ≠ c
  | 0, _ => ⟨by simp [splitTo], fun j _ _ h => by omega⟩
  | i + 1, hi => by
    obtain ⟨e, hn⟩ := splitTo_cut s c i (by omega)
    have hlt : i < s.size := by omega
    have hle := (splitTo_le s c.toNat i).1
    by_cases hc : s[i].toNat = c.toNat
    · rw [splitTo_hit hlt hc]
      refine ⟨?_, fun j _ h1 h2 => by simp at h1; omega⟩
      rw [e]
      generalize (splitTo s c.toNat i).2 = f at *
      have hl : i < s.data.toList.length := by simpa using hlt
      have hd : s.data.toList.drop f = ((s.data.toList.drop f).take (i - f)) ++ c :: s.data.toList.drop (i + 1) := by
        have hci : s.data.toList[i] = c := by rw [byte_list hlt]; exact UInt8.toNat_inj.1 hc
        conv => lhs; rw [← List.take_append_drop (i - f) (s.data.toList.drop f)]
        congr 1
        rw [List.drop_drop, show f + (i - f) = i by omega, List.drop_eq_getElem_cons hl, hci]
      have hA : ∀ x ∈ (s.data.toList.drop f).take (i - f), x ≠ c := by
        intro x hx
        obtain ⟨k, hk, rfl⟩ := List.getElem_of_mem hx
        have hk2 : k < i - f := by rw [List.length_take] at hk; omega
        rw [List.getElem_take, List.getElem_drop]
        have := hn (f + k) (by omega) (by omega) (by omega)
        rw [← byte_list (by omega)] at this
        exact this
      conv => lhs; rw [hd, cutL_app c _ _ hA]
      simp
    · rw [splitTo_miss hlt hc]
      refine ⟨e, fun j h h1 h2 => ?_⟩
      by_cases hj : j = i
      · subst hj; exact fun e => hc (by rw [e])
      · exact hn j h h1 (by omega)
theorem splitB_cut (s : ByteArray) (c : UInt8) : (splitB s c.toNat).map (·.data.toList) = cutL c s.data.toList := by
  obtain ⟨e, hn⟩ := splitTo_cut s c s.size (Nat.le_refl _)
  have hle := (splitTo_le s c.toNat s.size).1
  unfold splitB
  rw [e]
  generalize (splitTo s c.toNat s.size).2 = f at *
  rw [cutL_none c (s.data.toList.drop f)]
  · rw [List.map_append]; congr 1
    simp only [List.map_cons, List.map_nil, extract_list]
    rw [List.take_of_length_le (by simp)]
  · intro x hx
    obtain ⟨k, hk, rfl⟩ := List.getElem_of_mem hx
    rw [List.getElem_drop]
    have hk2 : f + k < s.size := by rw [List.length_drop] at hk; simp at hk; omega
    have := hn (f + k) hk2 (by omega) hk2
    rw [← byte_list hk2] at this
    exact this
theorem datas_inj : ∀ {A B : List ByteArray}, A.map (·.data.toList) = B.map (·.data.toList) → A = B
  | [], [], _ => rfl
  | [], b :: B, h => by cases h
  | a :: A, [], h => by cases h
  | a :: A, b :: B, h => by
    simp only [List.map_cons, List.cons.injEq] at h
    obtain ⟨h1, h2⟩ := h
    rw [datas_inj h2]
    congr 1
    cases a; cases b
    congr 1
    exact Array.toList_inj.1 h1
theorem lib_split (s : ByteArray) (c : UInt8) : Lib.splitB ⟨#[c]⟩ 0 (Lib.countB s ⟨#[c]⟩) s = splitB s c.toNat := by
  apply datas_inj
  rw [Lib.splitB_data, splitB_cut]
  exact splitK_cutL c _ _ (Lib.count_one c s.data.toList).symm
theorem lib_count (s : ByteArray) (c : UInt8) : Lib.countB s ⟨#[c]⟩ + 1 = (splitB s c.toNat).length := by
  rw [← lib_split, Lib.splitB_all ⟨#[c]⟩ (Nat.le_refl 1) 0 _ s rfl]
end Go.Proofs.YthcpmbolnmlohaaGreatDoor
