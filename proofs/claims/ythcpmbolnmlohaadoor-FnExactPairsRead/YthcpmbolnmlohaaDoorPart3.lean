/- 13 of this claim's texts, one behind the other. -/
import Derived.Test.YthcpmbolnmlohaaDoorShelf
import Derived.Test.YthcpmbolnmlohaaDoorPart1
import Derived.Shelf.Strings.OnBuilder
import Derived.WalkKit
import Derived.WalkSpells
import Derived.WalkLawsBesides
import Derived.Lib.SplitLaws
import Derived.Lib.IndexMore
import Derived.Lib.CutLaws
import Derived.Lib.CountLaws
import Derived.Deep.QuietTactic
import Derived.BigQuiet
import Derived.Deep.RegionWith
import Derived.Deep.DeepCutAuto
import Derived.Deep.RegionHeld3
/- A row of texts that is owned, joined by the library. -/
namespace Go.Proofs.YthcpmbolnmlohaaDoor
open Go.RowKit

theorem builderX : Builder.Extra Tryd.prog Tryd.lays156_ren where
  sizeBuilder := by kernel_rfl
  liesBuilder := by kernel_rfl
  t5 := Tryd.underlying5
  a5 := Tryd.isAgg5
  z5 := Tryd.sizeOf5
  v5 := Tryd.zeroValue5
  infoByte := by kernel_rfl
  cellsByte := by kernel_rfl
  sizeByte := by kernel_rfl
  neB5 := by decide
/-- texts with sep between -/
def joinB (L : List ByteArray) (sep : ByteArray) : ByteArray := ⟨(Lib.join (L.map (·.data.toList)) sep.data.toList).toArray⟩
theorem join_own (L : List ByteArray) (v : Value) (B : Nat) (t : TypeId) (sep : ByteArray) (w : World) (h : w.ownsRow B t 1 v L.length (strCells L)) (hN : L.length ≤ 140737488355328) (hz : (joinB L sep).size ≤ 140737488355328) :
    Calls Tryd.prog 34 #[v, .string sep] w fun e w' => e = .returned (.string (joinB L sep)) ∧ Below w.heap.size w w' := by
  obtain ⟨p, c, rfl, hs⟩ := slice_of_own h
  by_cases h0 : L.length = 0
  · have hL : L = [] := List.length_eq_zero_iff.1 h0
    subst hL
    exact (Any.strings_Join_none Tryd.lays156 builderX p c sep w).mono fun _ _ ⟨h1, h2⟩ => ⟨h1, h2 ▸ Below.refl _ _⟩
  · obtain ⟨g, rfl, -, hg, hc⟩ := hs (by omega)
    have hcap : L.length ≤ c := by
      obtain ⟨_, ⟨e, h0'⟩ | ⟨g', cap, cur, e, _, _, hle, _⟩⟩ := h
      · omega
      · injection e with _ _ e3
        omega
    refine Any.strings_Join Tryd.lays156 builderX g 0 c L sep w (fun j x hj => ?_) hg hN hcap hz
    obtain ⟨hj1, rfl⟩ := List.getElem?_eq_some_iff.1 hj
    have e : atL L j = L[j] := by simp [atL, hj1]
    rw [Nat.zero_add, ← e]
    exact (hc j hj1).1
/-- a row of one text, built -/
theorem own_one (w : World) (t : TypeId) (x : ByteArray) : (w.alloc (.cells #[.string x] t)).ownsRow w.heap.size t 1 (.slice (some ⟨w.heap.size, 0, none⟩) 1 1) [x].length (strCells [x]) :=
  ⟨rfl, .inr ⟨w.heap.size, 1, #[.string x], rfl, Nat.le_refl _, heap_alloc_new w _, Nat.le_refl _, by decide, rfl, rfl⟩⟩
end Go.Proofs.YthcpmbolnmlohaaDoor

/- Texts joined by '; ' are their flat text. -/
namespace Go.Proofs.YthcpmbolnmlohaaDoor
open Go.RowKit

theorem join_flat (p : ByteArray) (r : List ByteArray) : joinB (p :: r) semi = p ++ flat r := by
  apply ByteArray.ext
  apply Array.toList_inj.1
  show Lib.join ((p :: r).map (·.data.toList)) semi.data.toList = _
  rw [List.map_cons, Lib.join_cons]
  have e : ∀ r : List ByteArray, Lib.joinTail semi.data.toList (r.map (·.data.toList)) = (flat r).data.toList := by
    intro r
    induction r with
    | nil => rfl
    | cons q r ih =>
      have e2 : (flat (q :: r)).data.toList = semi.data.toList ++ q.data.toList ++ (flat r).data.toList := by show (semi ++ q ++ flat r).data.toList = _; simp
      rw [e2, ← ih]
      unfold Lib.joinTail
      simp
  rw [e]; simp
theorem len_snoc (L : List ByteArray) (x : ByteArray) : (L ++ [x]).length = L.length + 1 := by simp
theorem own_cast {w : World} {B n m : Nat} {t : TypeId} {v : Value} {xs ys : List Value} (h : w.ownsRow B t 1 v n xs) (hn : n = m) (hx : xs = ys) : w.ownsRow B t 1 v m ys := hn ▸ hx ▸ h
theorem joinB_nil (sep : ByteArray) : joinB [] sep = ⟨#[]⟩ := rfl
end Go.Proofs.YthcpmbolnmlohaaDoor

/- The walks of the program's isSmall, isDigit, inWord and WordRight. Written by implword.py. -/
namespace Go.Proofs.YthcpmbolnmlohaaDoor
open Go.RowKit

def betw (n lo hi : Nat) : Bool := decide (lo ≤ n ∧ n ≤ hi)
theorem betw_yes {n lo hi : Nat} (h1 : lo ≤ n) (h2 : n ≤ hi) : betw n lo hi = true := by unfold betw; rw [decide_eq_true_iff]; exact ⟨h1, h2⟩
theorem betw_no {n lo hi : Nat} (h : ¬ (lo ≤ n ∧ n ≤ hi)) : betw n lo hi = false := by unfold betw; rw [decide_eq_false_iff_not]; exact h
set_option maxRecDepth 10000 in
theorem isSmallW_any (n : Nat) (w : World) : Calls Tryd.prog 114 #[.int .u8 (n : Int)] w fun e w' => e = .returned (.bool (betw n 97 122)) ∧ w' = w := by
  rcases (show (n < 97) ∨ (97 ≤ n ∧ n ≤ 122) ∨ (122 < n) by omega) with c1 | ⟨c1, c2⟩ | c1
  · have b1 : decide ((97 : Int) ≤ (n : Int)) = false := by rw [decide_eq_false_iff_not]; omega
    go_enter Tryd.func114, Tryd.ntmps114
    go_wp2
    go_ret
    exact ⟨ret_bool (betw_no (by omega)).symm, rfl⟩
  · go_enter Tryd.func114, Tryd.ntmps114
    go_wp2
    go_ret
    exact ⟨ret_bool (by rw [betw_yes c1 c2, decide_eq_true_iff]; omega), rfl⟩
  · have b1 : decide ((n : Int) ≤ 122) = false := by rw [decide_eq_false_iff_not]; omega
    go_enter Tryd.func114, Tryd.ntmps114
    go_wp2
    go_ret
    exact ⟨ret_bool (betw_no (by omega)).symm, rfl⟩
set_option maxRecDepth 10000 in
theorem isDigitW_any (n : Nat) (w : World) : Calls Tryd.prog 115 #[.int .u8 (n : Int)] w fun e w' => e = .returned (.bool (betw n 48 57)) ∧ w' = w := by
  rcases (show (n < 48) ∨ (48 ≤ n ∧ n ≤ 57) ∨ (57 < n) by omega) with c1 | ⟨c1, c2⟩ | c1
  · have b1 : decide ((48 : Int) ≤ (n : Int)) = false := by rw [decide_eq_false_iff_not]; omega
    go_enter Tryd.func115, Tryd.ntmps115
    go_wp2
    go_ret
    exact ⟨ret_bool (betw_no (by omega)).symm, rfl⟩
  · go_enter Tryd.func115, Tryd.ntmps115
    go_wp2
    go_ret
    exact ⟨ret_bool (by rw [betw_yes c1 c2, decide_eq_true_iff]; omega), rfl⟩
  · have b1 : decide ((n : Int) ≤ 57) = false := by rw [decide_eq_false_iff_not]; omega
    go_enter Tryd.func115, Tryd.ntmps115
    go_wp2
    go_ret
    exact ⟨ret_bool (betw_no (by omega)).symm, rfl⟩
set_option maxRecDepth 10000 in
set_option maxHeartbeats 2000000 in
theorem inWord_any (n : Nat) (w : World) : Calls Tryd.prog 98 #[.int .u8 (n : Int)] w fun e w' => e = .returned (.bool (wordC n)) ∧ w' = w := by
  have K1 : Hid (∀ W, Calls Tryd.prog 114 #[.int .u8 (n : Int)] W fun e w' => e = .returned (.bool (betw n 97 122)) ∧ w' = W) := fun W => isSmallW_any n W
  have K2 : Hid (∀ W, Calls Tryd.prog 115 #[.int .u8 (n : Int)] W fun e w' => e = .returned (.bool (betw n 48 57)) ∧ w' = W) := fun W => isDigitW_any n W
  rcases (show (n ≤ 44) ∨ (45 ≤ n ∧ n ≤ 45) ∨ (46 ≤ n ∧ n ≤ 46) ∨ (47 ≤ n ∧ n ≤ 47) ∨ (48 ≤ n ∧ n ≤ 57) ∨ (58 ≤ n ∧ n ≤ 64) ∨ (65 ≤ n ∧ n ≤ 90) ∨ (91 ≤ n ∧ n ≤ 94) ∨ (95 ≤ n ∧ n ≤ 95) ∨ (96 ≤ n ∧ n ≤ 96) ∨ (97 ≤ n ∧ n ≤ 122) ∨ (123 ≤ n) by omega)
    with c1 | ⟨c1, c2⟩ | ⟨c1, c2⟩ | ⟨c1, c2⟩ | ⟨c1, c2⟩ | ⟨c1, c2⟩ | ⟨c1, c2⟩ | ⟨c1, c2⟩ | ⟨c1, c2⟩ | ⟨c1, c2⟩ | ⟨c1, c2⟩ | c1
  · have HW : Hid (wordC n = false) := wordC_no (by omega)
    rw [betw_no (by omega)] at K1
    rw [betw_no (by omega)] at K2
    have b1 : decide ((65 : Int) ≤ (n : Int)) = false := by rw [decide_eq_false_iff_not]; omega
    have b2 : decide ((n : Int) ≤ 90) = true := by rw [decide_eq_true_iff]; omega
    have b3 : ((n : Int) == 95) = false := by rw [beq_eq_false_iff_ne]; omega
    have b4 : ((n : Int) == 45) = false := by rw [beq_eq_false_iff_ne]; omega
    have b5 : ((n : Int) == 46) = false := by rw [beq_eq_false_iff_ne]; omega
    go_enter Tryd.func98, Tryd.ntmps98
    go_wp2_with (first | (go_at_call 114; refine (K1.out _).mono ?_; rintro e w1 ⟨rfl, rfl⟩) | (go_at_call 115; refine (K2.out _).mono ?_; rintro e w2 ⟨rfl, rfl⟩))
    go_ret
    exact ⟨ret_bool HW.out.symm, rfl⟩
  · have HW : Hid (wordC n = true) := wordC_yes (by omega)
    rw [betw_no (by omega)] at K1
    rw [betw_no (by omega)] at K2
    have b1 : decide ((65 : Int) ≤ (n : Int)) = false := by rw [decide_eq_false_iff_not]; omega
    have b2 : decide ((n : Int) ≤ 90) = true := by rw [decide_eq_true_iff]; omega
    have b3 : ((n : Int) == 95) = false := by rw [beq_eq_false_iff_ne]; omega
    have b4 : ((n : Int) == 45) = true := by rw [beq_iff_eq]; omega
    have b5 : ((n : Int) == 46) = false := by rw [beq_eq_false_iff_ne]; omega
    go_enter Tryd.func98, Tryd.ntmps98
    go_wp2_with (first | (go_at_call 114; refine (K1.out _).mono ?_; rintro e w1 ⟨rfl, rfl⟩) | (go_at_call 115; refine (K2.out _).mono ?_; rintro e w2 ⟨rfl, rfl⟩))
    go_ret
    exact ⟨ret_bool HW.out.symm, rfl⟩
  · have HW : Hid (wordC n = true) := wordC_yes (by omega)
    rw [betw_no (by omega)] at K1
    rw [betw_no (by omega)] at K2
    have b1 : decide ((65 : Int) ≤ (n : Int)) = false := by rw [decide_eq_false_iff_not]; omega
    have b2 : decide ((n : Int) ≤ 90) = true := by rw [decide_eq_true_iff]; omega
    have b3 : ((n : Int) == 95) = false := by rw [beq_eq_false_iff_ne]; omega
    have b4 : ((n : Int) == 45) = false := by rw [beq_eq_false_iff_ne]; omega
    have b5 : ((n : Int) == 46) = true := by rw [beq_iff_eq]; omega
    go_enter Tryd.func98, Tryd.ntmps98
    go_wp2_with (first | (go_at_call 114; refine (K1.out _).mono ?_; rintro e w1 ⟨rfl, rfl⟩) | (go_at_call 115; refine (K2.out _).mono ?_; rintro e w2 ⟨rfl, rfl⟩))
    go_ret
    exact ⟨ret_bool HW.out.symm, rfl⟩
  · have HW : Hid (wordC n = false) := wordC_no (by omega)
    rw [betw_no (by omega)] at K1
    rw [betw_no (by omega)] at K2
    have b1 : decide ((65 : Int) ≤ (n : Int)) = false := by rw [decide_eq_false_iff_not]; omega
    have b2 : decide ((n : Int) ≤ 90) = true := by rw [decide_eq_true_iff]; omega
    have b3 : ((n : Int) == 95) = false := by rw [beq_eq_false_iff_ne]; omega
    have b4 : ((n : Int) == 45) = false := by rw [beq_eq_false_iff_ne]; omega
    have b5 : ((n : Int) == 46) = false := by rw [beq_eq_false_iff_ne]; omega
    go_enter Tryd.func98, Tryd.ntmps98
    go_wp2_with (first | (go_at_call 114; refine (K1.out _).mono ?_; rintro e w1 ⟨rfl, rfl⟩) | (go_at_call 115; refine (K2.out _).mono ?_; rintro e w2 ⟨rfl, rfl⟩))
    go_ret
    exact ⟨ret_bool HW.out.symm, rfl⟩
  · have HW : Hid (wordC n = true) := wordC_yes (by omega)
    rw [betw_no (by omega)] at K1
    rw [betw_yes (by omega) (by omega)] at K2
    have b1 : decide ((65 : Int) ≤ (n : Int)) = false := by rw [decide_eq_false_iff_not]; omega
    have b2 : decide ((n : Int) ≤ 90) = true := by rw [decide_eq_true_iff]; omega
    have b3 : ((n : Int) == 95) = false := by rw [beq_eq_false_iff_ne]; omega
    have b4 : ((n : Int) == 45) = false := by rw [beq_eq_false_iff_ne]; omega
    have b5 : ((n : Int) == 46) = false := by rw [beq_eq_false_iff_ne]; omega
    go_enter Tryd.func98, Tryd.ntmps98
    go_wp2_with (first | (go_at_call 114; refine (K1.out _).mono ?_; rintro e w1 ⟨rfl, rfl⟩) | (go_at_call 115; refine (K2.out _).mono ?_; rintro e w2 ⟨rfl, rfl⟩))
    go_ret
    exact ⟨ret_bool HW.out.symm, rfl⟩
  · have HW : Hid (wordC n = false) := wordC_no (by omega)
    rw [betw_no (by omega)] at K1
    rw [betw_no (by omega)] at K2
    have b1 : decide ((65 : Int) ≤ (n : Int)) = false := by rw [decide_eq_false_iff_not]; omega
    have b2 : decide ((n : Int) ≤ 90) = true := by rw [decide_eq_true_iff]; omega
    have b3 : ((n : Int) == 95) = false := by rw [beq_eq_false_iff_ne]; omega
    have b4 : ((n : Int) == 45) = false := by rw [beq_eq_false_iff_ne]; omega
    have b5 : ((n : Int) == 46) = false := by rw [beq_eq_false_iff_ne]; omega
    go_enter Tryd.func98, Tryd.ntmps98
    go_wp2_with (first | (go_at_call 114; refine (K1.out _).mono ?_; rintro e w1 ⟨rfl, rfl⟩) | (go_at_call 115; refine (K2.out _).mono ?_; rintro e w2 ⟨rfl, rfl⟩))
    go_ret
    exact ⟨ret_bool HW.out.symm, rfl⟩
  · have HW : Hid (wordC n = true) := wordC_yes (by omega)
    rw [betw_no (by omega)] at K1
    rw [betw_no (by omega)] at K2
    have b1 : decide ((65 : Int) ≤ (n : Int)) = true := by rw [decide_eq_true_iff]; omega
    have b2 : decide ((n : Int) ≤ 90) = true := by rw [decide_eq_true_iff]; omega
    have b3 : ((n : Int) == 95) = false := by rw [beq_eq_false_iff_ne]; omega
    have b4 : ((n : Int) == 45) = false := by rw [beq_eq_false_iff_ne]; omega
    have b5 : ((n : Int) == 46) = false := by rw [beq_eq_false_iff_ne]; omega
    go_enter Tryd.func98, Tryd.ntmps98
    go_wp2_with (first | (go_at_call 114; refine (K1.out _).mono ?_; rintro e w1 ⟨rfl, rfl⟩) | (go_at_call 115; refine (K2.out _).mono ?_; rintro e w2 ⟨rfl, rfl⟩))
    go_ret
    exact ⟨ret_bool HW.out.symm, rfl⟩
  · have HW : Hid (wordC n = false) := wordC_no (by omega)
    rw [betw_no (by omega)] at K1
    rw [betw_no (by omega)] at K2
    have b1 : decide ((65 : Int) ≤ (n : Int)) = true := by rw [decide_eq_true_iff]; omega
    have b2 : decide ((n : Int) ≤ 90) = false := by rw [decide_eq_false_iff_not]; omega
    have b3 : ((n : Int) == 95) = false := by rw [beq_eq_false_iff_ne]; omega
    have b4 : ((n : Int) == 45) = false := by rw [beq_eq_false_iff_ne]; omega
    have b5 : ((n : Int) == 46) = false := by rw [beq_eq_false_iff_ne]; omega
    go_enter Tryd.func98, Tryd.ntmps98
    go_wp2_with (first | (go_at_call 114; refine (K1.out _).mono ?_; rintro e w1 ⟨rfl, rfl⟩) | (go_at_call 115; refine (K2.out _).mono ?_; rintro e w2 ⟨rfl, rfl⟩))
    go_ret
    exact ⟨ret_bool HW.out.symm, rfl⟩
  · have HW : Hid (wordC n = true) := wordC_yes (by omega)
    rw [betw_no (by omega)] at K1
    rw [betw_no (by omega)] at K2
    have b1 : decide ((65 : Int) ≤ (n : Int)) = true := by rw [decide_eq_true_iff]; omega
    have b2 : decide ((n : Int) ≤ 90) = false := by rw [decide_eq_false_iff_not]; omega
    have b3 : ((n : Int) == 95) = true := by rw [beq_iff_eq]; omega
    have b4 : ((n : Int) == 45) = false := by rw [beq_eq_false_iff_ne]; omega
    have b5 : ((n : Int) == 46) = false := by rw [beq_eq_false_iff_ne]; omega
    go_enter Tryd.func98, Tryd.ntmps98
    go_wp2_with (first | (go_at_call 114; refine (K1.out _).mono ?_; rintro e w1 ⟨rfl, rfl⟩) | (go_at_call 115; refine (K2.out _).mono ?_; rintro e w2 ⟨rfl, rfl⟩))
    go_ret
    exact ⟨ret_bool HW.out.symm, rfl⟩
  · have HW : Hid (wordC n = false) := wordC_no (by omega)
    rw [betw_no (by omega)] at K1
    rw [betw_no (by omega)] at K2
    have b1 : decide ((65 : Int) ≤ (n : Int)) = true := by rw [decide_eq_true_iff]; omega
    have b2 : decide ((n : Int) ≤ 90) = false := by rw [decide_eq_false_iff_not]; omega
    have b3 : ((n : Int) == 95) = false := by rw [beq_eq_false_iff_ne]; omega
    have b4 : ((n : Int) == 45) = false := by rw [beq_eq_false_iff_ne]; omega
    have b5 : ((n : Int) == 46) = false := by rw [beq_eq_false_iff_ne]; omega
    go_enter Tryd.func98, Tryd.ntmps98
    go_wp2_with (first | (go_at_call 114; refine (K1.out _).mono ?_; rintro e w1 ⟨rfl, rfl⟩) | (go_at_call 115; refine (K2.out _).mono ?_; rintro e w2 ⟨rfl, rfl⟩))
    go_ret
    exact ⟨ret_bool HW.out.symm, rfl⟩
  · have HW : Hid (wordC n = true) := wordC_yes (by omega)
    rw [betw_yes (by omega) (by omega)] at K1
    rw [betw_no (by omega)] at K2
    have b1 : decide ((65 : Int) ≤ (n : Int)) = true := by rw [decide_eq_true_iff]; omega
    have b2 : decide ((n : Int) ≤ 90) = false := by rw [decide_eq_false_iff_not]; omega
    have b3 : ((n : Int) == 95) = false := by rw [beq_eq_false_iff_ne]; omega
    have b4 : ((n : Int) == 45) = false := by rw [beq_eq_false_iff_ne]; omega
    have b5 : ((n : Int) == 46) = false := by rw [beq_eq_false_iff_ne]; omega
    go_enter Tryd.func98, Tryd.ntmps98
    go_wp2_with (first | (go_at_call 114; refine (K1.out _).mono ?_; rintro e w1 ⟨rfl, rfl⟩) | (go_at_call 115; refine (K2.out _).mono ?_; rintro e w2 ⟨rfl, rfl⟩))
    go_ret
    exact ⟨ret_bool HW.out.symm, rfl⟩
  · have HW : Hid (wordC n = false) := wordC_no (by omega)
    rw [betw_no (by omega)] at K1
    rw [betw_no (by omega)] at K2
    have b1 : decide ((65 : Int) ≤ (n : Int)) = true := by rw [decide_eq_true_iff]; omega
    have b2 : decide ((n : Int) ≤ 90) = false := by rw [decide_eq_false_iff_not]; omega
    have b3 : ((n : Int) == 95) = false := by rw [beq_eq_false_iff_ne]; omega
    have b4 : ((n : Int) == 45) = false := by rw [beq_eq_false_iff_ne]; omega
    have b5 : ((n : Int) == 46) = false := by rw [beq_eq_false_iff_ne]; omega
    go_enter Tryd.func98, Tryd.ntmps98
    go_wp2_with (first | (go_at_call 114; refine (K1.out _).mono ?_; rintro e w1 ⟨rfl, rfl⟩) | (go_at_call 115; refine (K2.out _).mono ?_; rintro e w2 ⟨rfl, rfl⟩))
    go_ret
    exact ⟨ret_bool HW.out.symm, rfl⟩

theorem wordB_long {t : ByteArray} (h : 20 < t.size) : wordB t = false := by unfold wordB; rw [decide_eq_false (show ¬ t.size ≤ 20 by omega), Bool.and_false]
set_option maxRecDepth 10000 in
set_option maxHeartbeats 2000000 in
theorem wordRight_any (t : ByteArray) (w : World) :
    Calls Tryd.prog 76 #[.string t] w fun e w' => e = .returned (.bool (wordB t)) ∧ w' = w := by
  by_cases h20 : 20 < t.size
  · have HR : Hid (wordB t = false) := wordB_long h20
    go_enter Tryd.func76, Tryd.ntmps76
    go_wp2
    go_ret
    exact ⟨ret_bool HR.out.symm, rfl⟩
  have HA : Hid ((∀ k (h : k < t.size), wordC t[k].toNat = false → wordB t = false) ∧ ((∀ i (h : i < t.size), wordC t[i].toNat = true) → wordB t = true)) := ⟨fun k h hk => wordB_at k h hk, fun h => by rw [wordB_all h, decide_eq_true_iff]; omega⟩
  generalize wordB t = R at *
  have q20 : decide ((20 : Int) < (t.size : Int)) = false := by rw [decide_eq_false_iff_not]; omega
  go_enter Tryd.func76, Tryd.ntmps76
  go_wp2
  go_loop [9] (fun i => ∃ k : Nat, k ≤ t.size ∧ i = .int .i64 k ∧ Hid (∀ i (h : i < t.size), i < k → wordC t[i].toNat = true)) (fun i => t.size - (intOf i).toNat)
  case atStart => exact ⟨0, Nat.zero_le _, rfl, fun i _ hi => absurd hi (by omega)⟩
  case round =>
    obtain ⟨k, hk, rfl, HR⟩ := hrel
    by_cases hlt : k < t.size
    · have k0 : (0 : Int) ≤ k := by omega
      have k1 : (k : Int) < t.size := by omega
      have KW : Hid (∀ W, Calls Tryd.prog 98 #[.int .u8 (t[k].toNat : Int)] W fun e w' => e = .returned (.bool (wordC t[k].toNat)) ∧ w' = W) := fun W => inWord_any _ W
      cases hc : wordC t[k].toNat with
      | true =>
        rw [hc] at KW
        have HN : Hid (∀ i (h : i < t.size), i < k + 1 → wordC t[i].toNat = true) := fun i h hi => by
          by_cases e : i = k
          · subst e; exact hc
          · exact HR.out i h (by omega)
        clear hc
        go_wp2_with (go_at_call 98; refine (KW.out _).mono ?_; rintro e w1 ⟨rfl, rfl⟩)
        go_round
        case rel => exact ⟨k + 1, by omega, by go_num, HN⟩
        case measure => simp [intOf]; omega
      | false =>
        rw [hc] at KW
        have HQ : Hid (R = false) := HA.out.1 k hlt hc
        clear hc
        go_wp2_with (go_at_call 98; refine (KW.out _).mono ?_; rintro e w1 ⟨rfl, rfl⟩)
        go_ret
        exact ⟨ret_bool HQ.out.symm, rfl⟩
    · go_wp2
      go_ret
      exact ⟨ret_bool (HA.out.2 (fun i h => HR.out i h (by omega))).symm, rfl⟩
end Go.Proofs.YthcpmbolnmlohaaDoor

/- The walks of the program's pairRight and pairText. Written by implset.py. -/
namespace Go.Proofs.YthcpmbolnmlohaaDoor
open Go.RowKit

set_option maxRecDepth 10000 in
set_option maxHeartbeats 2000000 in
theorem pairRight_any (na va : ByteArray) (w : World) :
    Calls Tryd.prog 46 #[pairV na va] w fun e w' => e = .returned (.bool (pairB na va)) ∧ Below w.heap.size w w' := by
  have K1 : Hid (∀ W, Calls Tryd.prog 76 #[.string na] W fun e w' => e = .returned (.bool (wordB na)) ∧ w' = W) := fun W => wordRight_any na W
  have K2 : Hid (∀ W, Calls Tryd.prog 76 #[.string va] W fun e w' => e = .returned (.bool (wordB va)) ∧ w' = W) := fun W => wordRight_any va W
  have HP : Hid (pairB na va = (!na.toList.isEmpty && wordB na && wordB va)) := rfl
  generalize pairB na va = R at *
  generalize wordB na = b1 at *
  generalize wordB va = b2 at *
  unfold pairV
  cases he : na.toList.isEmpty with
  | true =>
    have HR : Hid (R = false) := by show _ = _; rw [HP.out, he]; rfl
    go_enter Tryd.func46, Tryd.ntmps46
    go_wp2
    go_ret
    exact ⟨ret_bool HR.out.symm, (Below.refl _ _).alloc (Nat.le_refl _) _⟩
  | false =>
    cases b1 with
    | false =>
      have HR : Hid (R = false) := by show _ = _; rw [HP.out, he]; rfl
      go_enter Tryd.func46, Tryd.ntmps46
      go_wp2_with fail
      refine (K1.out _).mono ?_
      rintro e w1 ⟨rfl, rfl⟩
      go_wp2
      go_ret
      exact ⟨ret_bool HR.out.symm, (Below.refl _ _).alloc (Nat.le_refl _) _⟩
    | true =>
      have HR : Hid (R = b2) := by show _ = _; rw [HP.out, he]; cases b2 <;> rfl
      go_enter Tryd.func46, Tryd.ntmps46
      go_wp2_with fail
      refine (K1.out _).mono ?_
      rintro e w1 ⟨rfl, rfl⟩
      go_wp2_with fail
      refine (K2.out _).mono ?_
      rintro e w2 ⟨rfl, rfl⟩
      go_wp2
      go_ret
      exact ⟨ret_bool HR.out.symm, (Below.refl _ _).alloc (Nat.le_refl _) _⟩
set_option maxRecDepth 10000 in
set_option maxHeartbeats 1000000 in
theorem pairText_any (na va : ByteArray) (w : World) (h1 : na.size ≤ 1048576) (h2 : va.size ≤ 1048576) :
    Calls Tryd.prog 51 #[pairV na va] w fun e w' => e = .returned (.string (na ++ equ ++ va)) ∧ Below w.heap.size w w' := by
  have z0 : (na ++ ⟨#[61]⟩ : ByteArray).size ≤ 1048577 := by rw [ByteArray.size_append]; show na.size + 1 ≤ 1048577; omega
  unfold pairV
  go_enter Tryd.func51, Tryd.ntmps51
  go_wp2
  go_ret
  exact ⟨rfl, (Below.refl _ _).alloc (Nat.le_refl _) _⟩
end Go.Proofs.YthcpmbolnmlohaaDoor

/- The walks of the program's PairsText. -/
namespace Go.Proofs.YthcpmbolnmlohaaDoor
open Go.RowKit

/-- the texts of the first k pairs -/
def partsP (L : List (ByteArray × ByteArray)) (k : Nat) : List ByteArray := (L.take k).map pairT
theorem partsP_succ {L : List (ByteArray × ByteArray)} {k : Nat} (h : k < L.length) : partsP L (k + 1) = partsP L k ++ [(atP L k).1 ++ equ ++ (atP L k).2] := by
  unfold partsP
  rw [List.take_succ_eq_append_getElem h, List.map_append, atP_eq h]; rfl
theorem partsP_all (L : List (ByteArray × ByteArray)) : joinB (partsP L L.length) semi = joinP L := by
  unfold partsP
  rw [List.take_length]
  cases L with
  | nil => rfl
  | cons p L => rw [List.map_cons, join_flat]; rfl
theorem partsP_len (L : List (ByteArray × ByteArray)) (k : Nat) : (partsP L k).length ≤ k := by unfold partsP; simp; omega
theorem flat_size (r : List ByteArray) (m : Nat) (h : ∀ x ∈ r, x.size ≤ m) : (flat r).size ≤ r.length * (m + 2) := by
  induction r with
  | nil => exact Nat.zero_le _
  | cons p r ih =>
    have h1 := h p (by simp)
    have h2 := ih (fun x hx => h x (by simp [hx]))
    show (semi ++ p ++ flat r).size ≤ _
    rw [ByteArray.size_append, ByteArray.size_append, List.length_cons, Nat.add_mul]
    have e : semi.size = 2 := rfl
    omega
theorem joinP_size {L : List (ByteArray × ByteArray)} (h : pairsB L = true) : (joinP L).size ≤ 1000 := by
  unfold pairsB at h
  rw [Bool.and_eq_true, decide_eq_true_eq, List.all_eq_true] at h
  obtain ⟨h20, ha⟩ := h
  have hp : ∀ p ∈ L, (pairT p).size ≤ 41 := fun p hp => by
    have := pairB_small (ha p hp)
    unfold pairT
    rw [ByteArray.size_append, ByteArray.size_append]
    have e : equ.size = 1 := rfl
    omega
  cases L with
  | nil => exact Nat.zero_le _
  | cons p L =>
    have h1 := hp p (by simp)
    have h2 := flat_size (L.map pairT) 41 (fun x hx => by
      obtain ⟨q, hq, rfl⟩ := List.mem_map.1 hx
      exact hp q (by simp [hq]))
    rw [List.length_map] at h2
    rw [List.length_cons] at h20
    show (pairT p ++ flat (L.map pairT)).size ≤ 1000
    rw [ByteArray.size_append]
    omega
set_option maxRecDepth 10000 in
set_option maxHeartbeats 8000000 in
theorem pairsText_any (v : Value) (B : Nat) (L : List (ByteArray × ByteArray)) (w : World) (hs : SliceP w B v L) (hn : L.length ≤ 1048576) (hf : ∀ i, i < L.length → (atP L i).1.size ≤ 1048576 ∧ (atP L i).2.size ≤ 1048576) :
    Calls Tryd.prog 60 #[v] w fun e w' => e = .returned (.string (pairsT L)) ∧ Below w.heap.size w w' := by
  obtain ⟨p, cap, rfl, hg⟩ := hs
  have HT : Hid (pairsT L = if pairsB L = true then joinP L else ⟨#[]⟩) := rfl
  by_cases h20 : 20 < L.length
  · have HR : Hid (pairsT L = ⟨#[]⟩) := by show _ = _; rw [HT.out, pairsB_many h20]; rfl
    go_enter Tryd.func60, Tryd.ntmps60
    go_wp2
    go_ret
    exact ⟨ret_text HR.out.symm, Below.refl _ _⟩
  obtain ⟨i0, hi, hy0, hy1, hy2⟩ := info_parts infoStr
  have q20 : decide ((20 : Int) < (L.length : Int)) = false := by rw [decide_eq_false_iff_not]; omega
  have HG : Hid (0 < L.length → ∃ g, p = some ⟨g, 0, none⟩ ∧ B ≤ g ∧ g < w.heap.size ∧ ∀ j, j < L.length → ∀ o, o < 2 → w.cell? ⟨g, j * 2 + o, none⟩ = some (pairC (atP L) j o) ∧ w.frozen? ⟨g, j * 2 + o, none⟩ = false) := hg
  have HF : Hid (∀ i, i < L.length → (atP L i).1.size ≤ 1048576 ∧ (atP L i).2.size ≤ 1048576) := hf
  clear hg hf
  generalize hR : pairsT L = R at *
  have HR : Hid (pairsT L = R) := hR
  clear hR
  go_enter Tryd.func60, Tryd.ntmps60
  go_wp2
  go_loopw [3, 11] (fun v i wr => ∃ k : Nat, k ≤ L.length ∧ i = .int .i64 k ∧ Hid (wr.ownsRow w.heap.size 9 1 v (partsP L k).length (strCells (partsP L k))) ∧ Hid (Below w.heap.size w wr) ∧ Hid (∀ j, j < k → pairB (atP L j).1 (atP L j).2 = true)) (fun _ i _ => L.length - (intOf i).toNat)
  case atStart => exact ⟨0, Nat.zero_le _, rfl, World.ownsRow_nil _ _ _ _, Below.refl _ _, fun j hj => absurd hj (by omega)⟩
  case round =>
    obtain ⟨k, hk, rfl, HO, HB, HA⟩ := hrel
    have hpl := partsP_len L k
    have hbs := HB.out.size
    by_cases hlt : k < L.length
    · obtain ⟨g, rfl, -, hgw, hc⟩ := HG.out (by omega)
      have c0 : wr.cell? ⟨g, k * 2, none⟩ = some (.string (atP L k).1) := by rw [(bcell HB.out).1 _ _ hgw]; exact (hc k hlt 0 (by omega)).1
      have c1 : wr.cell? ⟨g, k * 2 + 1, none⟩ = some (.string (atP L k).2) := by rw [(bcell HB.out).1 _ _ hgw]; exact (hc k hlt 1 (by omega)).1
      have k0 : (0 : Int) ≤ k := by omega
      have k1 : (k : Int) < L.length := by omega
      clear hc
      have hz := HF.out k hlt
      have KR : Hid (∀ W, Calls Tryd.prog 46 #[.agg #[.string (atP L k).1, .string (atP L k).2]] W fun e w' => e = .returned (.bool (pairB (atP L k).1 (atP L k).2)) ∧ Below W.heap.size W w') := fun W => pairRight_any _ _ W
      have KT : Hid (∀ W, Calls Tryd.prog 51 #[.agg #[.string (atP L k).1, .string (atP L k).2]] W fun e w' => e = .returned (.string ((atP L k).1 ++ equ ++ (atP L k).2)) ∧ Below W.heap.size W w') := fun W => pairText_any _ _ W hz.1 hz.2
      have HP : Hid (partsP L (k + 1) = partsP L k ++ [(atP L k).1 ++ equ ++ (atP L k).2]) := partsP_succ hlt
      clear hz
      have HBX : Hid (∀ b, pairB (atP L k).1 (atP L k).2 = b → (b = false → R = ⟨#[]⟩) ∧ (b = true → ∀ j, j < k + 1 → pairB (atP L j).1 (atP L j).2 = true)) := fun b e => ⟨fun hb => by rw [HT.out, pairsB_at k hlt (e.trans hb)]; rfl, fun hb j hj => by
        by_cases ej : j = k
        · subst ej; exact e.trans hb
        · exact HA.out j (by omega)⟩
      generalize hpb : pairB (atP L k).1 (atP L k).2 = pb at *
      have HPB : Hid ((pb = false → R = ⟨#[]⟩) ∧ (pb = true → ∀ j, j < k + 1 → pairB (atP L j).1 (atP L j).2 = true)) := HBX.out pb rfl
      clear HBX hpb
      generalize (atP L k).1 ++ equ ++ (atP L k).2 = tx at *
      generalize (atP L k).1 = n1 at *
      generalize (atP L k).2 = v1 at *
      go_wp2_with fail
      refine (KR.out _).mono ?_
      rintro e w1 ⟨rfl, hb1⟩
      have d0 : w1.cell? ⟨wr.heap.size, 0, none⟩ = some (.string n1) := by rw [(bcell hb1).1 _ _ (by simp)]; simp
      have d1 : w1.cell? ⟨wr.heap.size, 1, none⟩ = some (.string v1) := by rw [(bcell hb1).1 _ _ (by simp)]; simp
      have A1 : Hid (Below wr.heap.size wr w1) := ((Below.refl _ _).alloc (Nat.le_refl _) _).trans (hb1.mono (by simp))
      clear hb1
      cases pb with
      | false =>
        go_wp2
        go_ret
        exact ⟨ret_text (HPB.out.1 (by first | rfl | trivial)).symm, HB.out.trans (A1.out.mono HB.out.size)⟩
      | true =>
        go_wp2_with fail
        refine (KT.out _).mono ?_
        rintro e w3 ⟨rfl, hb3⟩
        have A3 : Hid (Below wr.heap.size wr w3) := A1.out.trans (hb3.mono A1.out.size)
        have O3 : Hid (w3.ownsRow w.heap.size 9 1 u3 (partsP L k).length (strCells (partsP L k))) := own_below HO.out A3.out
        have B3 : Hid (Below w.heap.size w w3) := HB.out.trans (A3.out.mono HB.out.size)
        have hz3 := B3.out.size
        clear hb3 A1 A3 d0 d1
        go_wp2_with (at_builtin; go_must (refine wpList_append_own _ rfl _ _ 52 rfl w.heap.size 9 i0 (.string ⟨#[]⟩) 1 16 Tryd.underlying52 hi hy0 hy1 hy2 rfl (by decide) _ _ _ rfl (O3.out.alloc _) ⟨w3.heap.size, 0, none⟩ 1 1 [.string tx] rfl rfl (cell_one_new _ _ _) (by intro u hu; simp at hu; subst hu; rfl) (by unfold maxLen; omega) (by omega) (by simp; omega) ?_))
        intro v4 w4 ho4 hg4 _
        rw [strCells_snoc] at ho4
        have G1 : Hid (w4.ownsRow w.heap.size 9 1 v4 (partsP L k ++ [tx]).length (strCells (partsP L k ++ [tx]))) := by show World.ownsRow _ _ _ _ _ _ _; simpa using ho4
        have G2 : Hid (Below w.heap.size w w4) := (B3.out.alloc hz3 _).grown hg4 (by simp; omega) (fun j hj => (O3.out.lt j hj).1)
        clear ho4 hg4
        go_wp2
        go_roundw
        case rel => exact ⟨k + 1, by omega, by go_num, by rw [HP.out]; exact G1, G2, HPB.out.2 (by first | rfl | trivial)⟩
        case measure => simp [intOf]; omega
    · obtain rfl : k = L.length := by omega
      have hpb : pairsB L = true := pairsB_all (by omega) HA.out
      have HJ : Hid (joinB (partsP L L.length) semi = R ∧ R.size ≤ 1000) := by
        have e : R = joinP L := by rw [HT.out, if_pos hpb]
        exact ⟨by rw [partsP_all, e], by rw [e]; exact joinP_size hpb⟩
      have KJ : Hid (Calls Tryd.prog 34 #[u3, .string ⟨#[59, 32]⟩] wr fun e w' => e = .returned (.string R) ∧ Below wr.heap.size wr w') := by
        have h := join_own (partsP L L.length) _ _ _ semi _ HO.out (by omega) (by rw [HJ.out.1]; exact Nat.le_trans HJ.out.2 (by decide))
        rw [HJ.out.1] at h
        exact h
      clear hpb
      go_wp2_with (go_at_call 34; refine KJ.out.mono ?_; rintro e w9 ⟨rfl, hb9⟩)
      go_ret
      exact ⟨rfl, HB.out.trans (hb9.mono HB.out.size)⟩
end Go.Proofs.YthcpmbolnmlohaaDoor

/- What the library's Split cuts a text into at a byte is splitB's list. -/
namespace Go.Proofs.YthcpmbolnmlohaaDoor
theorem first_split {c : UInt8} : ∀ {l : List UInt8}, c ∈ l → ∃ A B, l = A ++ c :: B ∧ ∀ x ∈ A, x ≠ c
  | [], h => by cases h
  | b :: l, h => by
    by_cases e : b = c
    · exact ⟨[], l, by rw [e]; rfl, fun x hx => by cases hx⟩
    · obtain ⟨A, B, rfl, hA⟩ := first_split (l := l) (by cases h with | head => exact absurd rfl e | tail _ h => exact h)
      refine ⟨b :: A, B, rfl, ?_⟩
      intro x hx
      cases hx with
      | head => exact e
      | tail _ hx => exact hA x hx
/-- a list of bytes cut at a byte -/
def cutL (c : UInt8) : List UInt8 → List (List UInt8)
  | [] => [[]]
  | b :: l => if b = c then [] :: cutL c l else match cutL c l with
    | [] => [[b]]
    | p :: r => (b :: p) :: r
theorem cutL_none (c : UInt8) : ∀ A : List UInt8, (∀ x ∈ A, x ≠ c) → cutL c A = [A]
  | [], _ => rfl
  | b :: A, h => by
    rw [cutL, if_neg (h b (by simp)), cutL_none c A (fun x hx => h x (by simp [hx]))]
theorem cutL_app (c : UInt8) (B : List UInt8) : ∀ A : List UInt8, (∀ x ∈ A, x ≠ c) → cutL c (A ++ c :: B) = A :: cutL c B
  | [], _ => by rw [List.nil_append, cutL, if_pos rfl]
  | b :: A, h => by
    rw [List.cons_append, cutL, if_neg (h b (by simp)), cutL_app c B A (fun x hx => h x (by simp [hx]))]
theorem index_one (c : UInt8) (A B : List UInt8) (h : ∀ x ∈ A, x ≠ c) : Lib.index (A ++ c :: B) [c] = A.length := by
  refine Lib.index_first (by simp) ?_ ?_
  · simp [Lib.occAt]
  · intro j hj
    rw [← Bool.not_eq_true]
    intro ho
    have e := Lib.occAt_head rfl ho
    rw [List.getElem?_append_left hj] at e
    exact h c (List.mem_of_getElem? e) rfl
theorem splitK_cutL (c : UInt8) : ∀ (k : Nat) (l : List UInt8), l.count c = k → Lib.splitK [c] 0 k l = cutL c l
  | 0, l, h => by
    rw [cutL_none c l (fun x hx e => by subst e; exact absurd (List.count_pos_iff.2 hx) (by omega))]
    rfl
  | k + 1, l, h => by
    obtain ⟨A, B, rfl, hA⟩ := first_split (List.count_pos_iff.1 (show 0 < l.count c by omega))
    have hi := index_one c A B hA
    have h0 : A.count c = 0 := List.count_eq_zero.2 (fun hx => hA c hx rfl)
    have hB : B.count c = k := by
      rw [List.count_append, List.count_cons_self, h0] at h; omega
    rw [Lib.splitK, if_neg (by rw [hi, beq_iff_eq]; omega), hi, cutL_app c B A hA]
    congr 1
    · simp
    · rw [← splitK_cutL c k B hB]
      congr 1
      rw [show ((A.length : Int)).toNat + [c].length = A.length + 1 by simp, ← List.drop_drop, List.drop_left]
      rfl
theorem extract_list (s : ByteArray) (a b : Nat) : (s.extract a b).data.toList = (s.data.toList.drop a).take (b - a) := by
  simp
theorem byte_list {s : ByteArray} {i : Nat} (h : i < s.size) : s.data.toList[i]'(by simpa using h) = s[i] := by simp; rfl
theorem splitTo_cut (s : ByteArray) (c : UInt8) : ∀ i, i ≤ s.size →
    cutL c s.data.toList = (splitTo s c.toNat i).1.map (·.data.toList) ++ cutL c (s.data.toList.drop (splitTo s c.toNat i).2) ∧
      ∀ j (h : j < s.size), (splitTo s c.toNat i).2 ≤ j → j < i → s[j] ≠ c
  | 0, _ => ⟨by simp [splitTo], fun j _ _ h => by omega⟩
  | i + 1, hi => by
    obtain ⟨e, hn⟩ := splitTo_cut s c i (by omega)
    have hlt : i < s.size := by omega
    have hle := (splitTo_le s c.toNat i).1
    by_cases hc : s[i].toNat = c.toNat
    · rw [splitTo_hit hlt hc]
      refine ⟨?_, fun j _ h1 h2 => by simp at h1; omega⟩
      rw [e]
      generalize (splitTo s c.toNat i).2 = f at *
      have hl : i < s.data.toList.length := by simpa using hlt
      have hd : s.data.toList.drop f = ((s.data.toList.drop f).take (i - f)) ++ c :: s.data.toList.drop (i + 1) := by
        have hci : s.data.toList[i] = c := by rw [byte_list hlt]; exact UInt8.toNat_inj.1 hc
        conv => lhs; rw [← List.take_append_drop (i - f) (s.data.toList.drop f)]
        congr 1
        rw [List.drop_drop, show f + (i - f) = i by omega, List.drop_eq_getElem_cons hl, hci]
      have hA : ∀ x ∈ (s.data.toList.drop f).take (i - f), x ≠ c := by
        intro x hx
        obtain ⟨k, hk, rfl⟩ := List.getElem_of_mem hx
        have hk2 : k < i - f := by rw [List.length_take] at hk; omega
        rw [List.getElem_take, List.getElem_drop]
        have := hn (f + k) (by omega) (by omega) (by omega)
        rw [← byte_list (by omega)] at this
        exact this
      conv => lhs; rw [hd, cutL_app c _ _ hA]
      simp
    · rw [splitTo_miss hlt hc]
      refine ⟨e, fun j h h1 h2 => ?_⟩
      by_cases hj : j = i
      · subst hj; exact fun e => hc (by rw [e])
      · exact hn j h h1 (by omega)
theorem splitB_cut (s : ByteArray) (c : UInt8) : (splitB s c.toNat).map (·.data.toList) = cutL c s.data.toList := by
  obtain ⟨e, hn⟩ := splitTo_cut s c s.size (Nat.le_refl _)
  have hle := (splitTo_le s c.toNat s.size).1
  unfold splitB
  rw [e]
  generalize (splitTo s c.toNat s.size).2 = f at *
  rw [cutL_none c (s.data.toList.drop f)]
  · rw [List.map_append]; congr 1
    simp only [List.map_cons, List.map_nil, extract_list]
    rw [List.take_of_length_le (by simp)]
  · intro x hx
    obtain ⟨k, hk, rfl⟩ := List.getElem_of_mem hx
    rw [List.getElem_drop]
    have hk2 : f + k < s.size := by rw [List.length_drop] at hk; simp at hk; omega
    have := hn (f + k) hk2 (by omega) hk2
    rw [← byte_list hk2] at this
    exact this
theorem datas_inj : ∀ {A B : List ByteArray}, A.map (·.data.toList) = B.map (·.data.toList) → A = B
  | [], [], _ => rfl
  | [], b :: B, h => by cases h
  | a :: A, [], h => by cases h
  | a :: A, b :: B, h => by
    simp only [List.map_cons, List.cons.injEq] at h
    obtain ⟨h1, h2⟩ := h
    rw [datas_inj h2]
    congr 1
    cases a; cases b
    congr 1
    exact Array.toList_inj.1 h1
theorem lib_split (s : ByteArray) (c : UInt8) : Lib.splitB ⟨#[c]⟩ 0 (Lib.countB s ⟨#[c]⟩) s = splitB s c.toNat := by
  apply datas_inj
  rw [Lib.splitB_data, splitB_cut]
  exact splitK_cutL c _ _ (Lib.count_one c s.data.toList).symm
theorem lib_count (s : ByteArray) (c : UInt8) : Lib.countB s ⟨#[c]⟩ + 1 = (splitB s c.toNat).length := by
  rw [← lib_split, Lib.splitB_all ⟨#[c]⟩ (Nat.le_refl 1) 0 _ s rfl]
end Go.Proofs.YthcpmbolnmlohaaDoor

/- What the library finds, cuts, splits and trims is what the plain functions tell. -/
namespace Go.Proofs.YthcpmbolnmlohaaDoor

theorem isAt_occ (t x : ByteArray) (i : Nat) (h : i + x.size ≤ t.size) : Lib.occAt t.data.toList x.data.toList i = isAt t x i := by
  have e1 : x.data.toList.length = x.size := (Lib.size_eq x).symm
  have e2 : t.data.toList.length = t.size := (Lib.size_eq t).symm
  rw [Lib.occAt_iff_take _ _ _ (by omega)]
  unfold isAt
  rw [Lib.toList_data, Lib.toList_data, extract_list, e1, Nat.add_sub_cancel_left]
theorem findTo_noL {t x : ByteArray} : ∀ {i : Nat}, findTo t x i = none → ∀ j, j < i → ¬ (j + x.size ≤ t.size ∧ isAt t x j = true)
  | 0, _, j, hj => by omega
  | i + 1, h, j, hj => by
    cases hf : findTo t x i with
    | some k => rw [findTo, hf] at h; cases h
    | none =>
      by_cases e : j = i
      · subst e
        intro hc
        rw [findTo_hit hf hc.1 hc.2] at h; cases h
      · exact findTo_noL hf j (by omega)
theorem findTo_firstL {t x : ByteArray} : ∀ {i k : Nat}, findTo t x i = some k → ∀ j, j < k → ¬ (j + x.size ≤ t.size ∧ isAt t x j = true)
  | 0, _, h => by cases h
  | i + 1, k, h => by
    intro j hj
    cases hf : findTo t x i with
    | some m =>
      rw [findTo, hf] at h
      obtain rfl : m = k := by simpa using h
      exact findTo_firstL hf j hj
    | none =>
      have hk := (findTo_lt h).1
      exact findTo_noL hf j (by omega)
/-- the library's first place is the specification's -/
theorem index_find (t x : ByteArray) (hx : 0 < x.size) : Lib.indexB t x = findI t x := by
  have e1 : x.data.toList.length = x.size := (Lib.size_eq x).symm
  have e2 : t.data.toList.length = t.size := (Lib.size_eq t).symm
  have hne : x.data.toList ≠ [] := fun e => by rw [e] at e1; simp at e1; omega
  show Lib.index t.data.toList x.data.toList = _
  unfold findI findN
  cases hf : findTo t x (t.size + 1) with
  | some k =>
    obtain ⟨h1, h2, h3⟩ := findTo_lt hf
    refine Lib.index_first (by omega) (by rw [isAt_occ t x k h2]; exact h3) (fun j hj => ?_)
    have := findTo_firstL hf j hj
    cases ho : Lib.occAt t.data.toList x.data.toList j with
    | false => rfl
    | true =>
      exfalso
      apply this
      have hr : j + x.size ≤ t.size := (Lib.occAt_room ho).elim (fun h => by omega) (fun h => absurd h hne)
      exact ⟨hr, by rw [← isAt_occ t x j hr]; exact ho⟩
  | none =>
    rcases Lib.index_spec t.data.toList x.data.toList with ⟨h, _⟩ | ⟨i, h1, h2, h3, _⟩
    · exact h
    · exfalso
      have hr : i + x.size ≤ t.size := (Lib.occAt_room h3).elim (fun h => by omega) (fun h => absurd h hne)
      exact findTo_noL hf i (by omega) ⟨hr, by rw [← isAt_occ t x i hr]; exact h3⟩
theorem pieces_lib (t : ByteArray) : Lib.splitB semi 0 (Lib.countB t semi) t = piecesL t := by
  generalize hn : t.size = n
  induction n using Nat.strongRecOn generalizing t with
  | _ n ih =>
    have ei := index_find t semi (by decide)
    by_cases h : 0 ≤ findI t semi
    · obtain ⟨h1, h2⟩ := find_in h
      have e : semi.size = 2 := rfl
      rw [e] at h1
      obtain ⟨k, hk⟩ : ∃ k : Nat, findI t semi = k := ⟨_, h2⟩
      rw [hk] at ei h1
      have hkn : k + 2 ≤ t.size := by simpa using h1
      have hz : (t.extract (k + 2) t.size).size = t.size - (k + 2) := by rw [ByteArray.size_extract]; omega
      rw [piecesL_more hk, Lib.countB_hit t semi k (by decide) ei, Nat.add_comm 1, Lib.splitB_hit semi 0 _ t k ei, e, ih _ (by omega) _ hz]
      rfl
    · rw [piecesL_last h, Lib.splitB_miss semi 0 _ t (by rw [ei, findI_neg h])]
theorem pieces_count (t : ByteArray) : Lib.countB t semi + 1 = (piecesL t).length := by
  rw [← pieces_lib, Lib.splitB_all semi (by decide) 0 _ t rfl]
theorem pair_lib (t : ByteArray) : (⟨(Lib.cut t.data.toList equ.data.toList).1.toArray⟩ : ByteArray) = (pairP t).1 ∧ (⟨(Lib.cut t.data.toList equ.data.toList).2.1.toArray⟩ : ByteArray) = (pairP t).2 := by
  have ei := index_find t equ (by decide)
  by_cases h : 0 ≤ findI t equ
  · obtain ⟨k, hk⟩ : ∃ k : Nat, findI t equ = k := ⟨_, (find_in h).2⟩
    rw [hk] at ei
    obtain ⟨a, b, -⟩ := Lib.cutB_hit t equ k ei
    rw [pairP_yes hk]
    exact ⟨a, b⟩
  · rw [findI_neg h] at ei
    obtain ⟨a, b, -⟩ := Lib.cutB_miss t equ ei
    rw [pairP_no h]
    exact ⟨a, b⟩
end Go.Proofs.YthcpmbolnmlohaaDoor

/- The walks of the specification's l02Place, UrlRight, l02Text and UrlText. -/
namespace Go.Proofs.YthcpmbolnmlohaaDoor
open Go.RowKit

def schemeB (t : ByteArray) : Bool := (t.toList == [104, 116, 116, 112]) || (t.toList == [104, 116, 116, 112, 115])
def placeB (sc ho : ByteArray) (po : Int) : Bool := schemeB sc && hostB ho && (decide (1 ≤ po) && decide (po ≤ 65535))
def urlB (sc ho pa : ByteArray) (po : Int) : Bool := placeB sc ho po && pathB pa


set_option maxRecDepth 10000 in
set_option maxHeartbeats 400000 in
theorem specIs_any (n lo hi : Int) (w : World) :
    Calls Tryd.prog 39 #[.int .i64 n, .int .i64 lo, .int .i64 hi] w fun e w' => e = .returned (.bool (decide (lo ≤ n) && decide (n ≤ hi))) ∧ w' = w := by
  by_cases h : lo ≤ n
  · go_enter Tryd.func39, Tryd.ntmps39
    go_wp2
    go_ret
    exact ⟨ret_bool (by simp [h]), rfl⟩
  · have q : decide (lo ≤ n) = false := by rw [decide_eq_false_iff_not]; exact h
    go_enter Tryd.func39, Tryd.ntmps39
    go_wp2
    go_ret
    exact ⟨ret_bool (by simp), rfl⟩


/-- a Url, as a value -/
def urlV (sc ho pa : ByteArray) (po : Int) : Value := .agg #[.string sc, .string ho, .int .i64 po, .string pa]


def usualP (sc : ByteArray) : Int := if (sc.toList == [104, 116, 116, 112, 115]) = true then 443 else 80
/-- the text of a place -/
def placeT (sc ho : ByteArray) (po : Int) : ByteArray := if po = usualP sc then sc ++ ⟨#[58, 47, 47]⟩ ++ ho else sc ++ ⟨#[58, 47, 47]⟩ ++ ho ++ ⟨#[58]⟩ ++ decB po


theorem decB_size {n : Int} (h1 : -9223372036854775808 ≤ n) (h2 : n ≤ 9223372036854775807) : (decB n).size ≤ 21 := by
  unfold decB
  split
  · exact (by decide : 1 ≤ 21)
  · split
    · have := decA_twenty (m := n.natAbs) (by omega)
      rw [ByteArray.size_append]
      show 1 + (decA n.natAbs).length ≤ 21
      omega
    · have := decA_twenty (m := n.natAbs) (by omega)
      show (decA n.natAbs).length ≤ 21
      omega
theorem specDec_any (n : Int) (w : World) (h1 : -9223372036854775808 ≤ n) (h2 : n ≤ 9223372036854775807) :
    Calls Tryd.prog 78 #[.int .i64 n] w fun e w' => e = .returned (.string (decB n)) ∧ Below w.heap.size w w' := by
  by_cases h0 : n = 0
  · subst h0; exact specDec_zero w
  by_cases hn : n < 0
  · obtain ⟨m, hm⟩ : ∃ m : Nat, n = -(m : Int) := ⟨n.natAbs, by omega⟩
    subst hm
    exact specDec_neg m w (by omega) (by omega)
  · obtain ⟨m, rfl⟩ := Int.eq_ofNat_of_zero_le (show 0 ≤ n by omega)
    exact specDec_pos m w (by omega) (by omega)

end Go.Proofs.YthcpmbolnmlohaaDoor

/- What a right SetCookie is; the walks of the specification's l04Mode and SetRight. -/
namespace Go.Proofs.YthcpmbolnmlohaaDoor
open Go.RowKit

/-- a SetCookie, as a value -/
def setV (na va dm pa : ByteArray) (ag : Int) (se : Bool) (mo : Int) (pt : Bool) : Value := .agg #[.string na, .string va, .string dm, .string pa, .int .i64 ag, .bool se, .int .i64 mo, .bool pt]
def ageB (ag : Int) : Bool := decide (-1 ≤ ag) && decide (ag ≤ 1000000)
def modeB (mo : Int) : Bool := decide (0 ≤ mo) && decide (mo ≤ 2)
/-- empty, or as it is to be -/
def orB (t : ByteArray) (b : Bool) : Bool := t.toList.isEmpty || b
def setB (na va dm pa : ByteArray) (ag mo : Int) : Bool := !na.toList.isEmpty && wordB na && wordB va && orB dm (hostB dm) && orB pa (pathB pa) && ageB ag && modeB mo

set_option maxRecDepth 10000 in
theorem specMode_any (mo : Int) (w : World) :
    Calls Tryd.prog 45 #[.int .i64 mo] w fun e w' => e = .returned (.bool (modeB mo)) ∧ w' = w := by
  have H : Hid (∀ W, Calls Tryd.prog 39 #[.int .i64 mo, .int .i64 0, .int .i64 2] W fun e w' => e = .returned (.bool (modeB mo)) ∧ w' = W) := fun W => specIs_any mo 0 2 W
  generalize modeB mo = b at *
  go_enter Tryd.func45, Tryd.ntmps45
  go_wp2_with (go_at_call 39; refine (H.out _).mono ?_; rintro e w1 ⟨rfl, rfl⟩)
  go_ret
  exact ⟨rfl, rfl⟩
set_option maxRecDepth 10000 in
set_option maxHeartbeats 4000000 in
theorem specSetRight_any (na va dm pa : ByteArray) (ag : Int) (se : Bool) (mo : Int) (pt : Bool) (w : World) (hna : na.size ≤ 1048576) (hva : va.size ≤ 1048576) :
    Calls Tryd.prog 17 #[setV na va dm pa ag se mo pt] w fun e w' => e = .returned (.bool (setB na va dm pa ag mo)) ∧ Below w.heap.size w w' := by
  have K1 : Hid (∀ W, Calls Tryd.prog 42 #[.string na] W fun e w' => e = .returned (.bool (wordB na)) ∧ w' = W) := fun W => specWord_any na W hna
  have K2 : Hid (∀ W, Calls Tryd.prog 42 #[.string va] W fun e w' => e = .returned (.bool (wordB va)) ∧ w' = W) := fun W => specWord_any va W hva
  have K3 : Hid (∀ W, Calls Tryd.prog 43 #[.string dm] W fun e w' => e = .returned (.bool (hostB dm)) ∧ Below W.heap.size W w') := fun W => specHost_any dm W
  have K4 : Hid (∀ W, Calls Tryd.prog 44 #[.string pa] W fun e w' => e = .returned (.bool (pathB pa)) ∧ w' = W) := fun W => specPath_any pa W
  have K5 : Hid (∀ W, Calls Tryd.prog 39 #[.int .i64 ag, .int .i64 (-1), .int .i64 1000000] W fun e w' => e = .returned (.bool (ageB ag)) ∧ w' = W) := fun W => specIs_any ag (-1) 1000000 W
  have K6 : Hid (∀ W, Calls Tryd.prog 45 #[.int .i64 mo] W fun e w' => e = .returned (.bool (modeB mo)) ∧ w' = W) := fun W => specMode_any mo W
  have HE : Hid (setB na va dm pa ag mo = (!na.toList.isEmpty && wordB na && wordB va && orB dm (hostB dm) && orB pa (pathB pa) && ageB ag && modeB mo)) := rfl
  unfold orB at HE
  clear hna hva
  unfold setV
  generalize setB na va dm pa ag mo = R at *
  generalize wordB na = b1 at *
  generalize wordB va = b2 at *
  generalize hostB dm = b3 at *
  generalize pathB pa = b4 at *
  generalize ageB ag = b5 at *
  generalize modeB mo = b6 at *
  cases hnE : na.toList.isEmpty with
  | true =>
    have HR : Hid (R = false) := by show _ = _; rw [HE.out]; first | rfl | simp [*]
    go_enter Tryd.func17, Tryd.ntmps17
    go_wp2
    go_ret
    exact ⟨ret_bool HR.out.symm, (Below.refl _ _).alloc (Nat.le_refl _) _⟩
  | false =>
    cases b1 with
    | false =>
      have HR : Hid (R = false) := by show _ = _; rw [HE.out]; first | rfl | simp [*]
      go_enter Tryd.func17, Tryd.ntmps17
      go_wp2_with fail
      refine (K1.out _).mono ?_
      rintro e w1 ⟨rfl, rfl⟩
      go_wp2
      go_ret
      exact ⟨ret_bool HR.out.symm, (Below.refl _ _).alloc (Nat.le_refl _) _⟩
    | true =>
      cases b2 with
      | false =>
        have HR : Hid (R = false) := by show _ = _; rw [HE.out]; first | rfl | simp [*]
        go_enter Tryd.func17, Tryd.ntmps17
        go_wp2_with fail
        refine (K1.out _).mono ?_
        rintro e w1 ⟨rfl, rfl⟩
        go_wp2_with fail
        refine (K2.out _).mono ?_
        rintro e w2 ⟨rfl, rfl⟩
        go_wp2
        go_ret
        exact ⟨ret_bool HR.out.symm, (Below.refl _ _).alloc (Nat.le_refl _) _⟩
      | true =>
        cases hdm : dm.toList.isEmpty with
        | true =>
          cases hpa : pa.toList.isEmpty with
          | true =>
            cases b5 with
            | false =>
              have HR : Hid (R = false) := by show _ = _; rw [HE.out]; first | rfl | simp [*]
              go_enter Tryd.func17, Tryd.ntmps17
              go_wp2_with fail
              refine (K1.out _).mono ?_
              rintro e w1 ⟨rfl, rfl⟩
              go_wp2_with fail
              refine (K2.out _).mono ?_
              rintro e w2 ⟨rfl, rfl⟩
              go_wp2_with fail
              refine (K5.out _).mono ?_
              rintro e w5 ⟨rfl, rfl⟩
              go_wp2
              go_ret
              exact ⟨ret_bool HR.out.symm, (Below.refl _ _).alloc (Nat.le_refl _) _⟩
            | true =>
              have HR : Hid (R = b6) := by show _ = _; rw [HE.out]; first | rfl | simp [*]
              go_enter Tryd.func17, Tryd.ntmps17
              go_wp2_with fail
              refine (K1.out _).mono ?_
              rintro e w1 ⟨rfl, rfl⟩
              go_wp2_with fail
              refine (K2.out _).mono ?_
              rintro e w2 ⟨rfl, rfl⟩
              go_wp2_with fail
              refine (K5.out _).mono ?_
              rintro e w5 ⟨rfl, rfl⟩
              go_wp2_with fail
              refine (K6.out _).mono ?_
              rintro e w6 ⟨rfl, rfl⟩
              go_wp2
              go_ret
              exact ⟨ret_bool HR.out.symm, (Below.refl _ _).alloc (Nat.le_refl _) _⟩
          | false =>
            cases b4 with
            | false =>
              have HR : Hid (R = false) := by show _ = _; rw [HE.out]; first | rfl | simp [*]
              go_enter Tryd.func17, Tryd.ntmps17
              go_wp2_with fail
              refine (K1.out _).mono ?_
              rintro e w1 ⟨rfl, rfl⟩
              go_wp2_with fail
              refine (K2.out _).mono ?_
              rintro e w2 ⟨rfl, rfl⟩
              go_wp2_with fail
              refine (K4.out _).mono ?_
              rintro e w4 ⟨rfl, rfl⟩
              go_wp2
              go_ret
              exact ⟨ret_bool HR.out.symm, (Below.refl _ _).alloc (Nat.le_refl _) _⟩
            | true =>
              cases b5 with
              | false =>
                have HR : Hid (R = false) := by show _ = _; rw [HE.out]; first | rfl | simp [*]
                go_enter Tryd.func17, Tryd.ntmps17
                go_wp2_with fail
                refine (K1.out _).mono ?_
                rintro e w1 ⟨rfl, rfl⟩
                go_wp2_with fail
                refine (K2.out _).mono ?_
                rintro e w2 ⟨rfl, rfl⟩
                go_wp2_with fail
                refine (K4.out _).mono ?_
                rintro e w4 ⟨rfl, rfl⟩
                go_wp2_with fail
                refine (K5.out _).mono ?_
                rintro e w5 ⟨rfl, rfl⟩
                go_wp2
                go_ret
                exact ⟨ret_bool HR.out.symm, (Below.refl _ _).alloc (Nat.le_refl _) _⟩
              | true =>
                have HR : Hid (R = b6) := by show _ = _; rw [HE.out]; first | rfl | simp [*]
                go_enter Tryd.func17, Tryd.ntmps17
                go_wp2_with fail
                refine (K1.out _).mono ?_
                rintro e w1 ⟨rfl, rfl⟩
                go_wp2_with fail
                refine (K2.out _).mono ?_
                rintro e w2 ⟨rfl, rfl⟩
                go_wp2_with fail
                refine (K4.out _).mono ?_
                rintro e w4 ⟨rfl, rfl⟩
                go_wp2_with fail
                refine (K5.out _).mono ?_
                rintro e w5 ⟨rfl, rfl⟩
                go_wp2_with fail
                refine (K6.out _).mono ?_
                rintro e w6 ⟨rfl, rfl⟩
                go_wp2
                go_ret
                exact ⟨ret_bool HR.out.symm, (Below.refl _ _).alloc (Nat.le_refl _) _⟩
        | false =>
          cases b3 with
          | false =>
            have HR : Hid (R = false) := by show _ = _; rw [HE.out]; first | rfl | simp [*]
            go_enter Tryd.func17, Tryd.ntmps17
            go_wp2_with fail
            refine (K1.out _).mono ?_
            rintro e w1 ⟨rfl, rfl⟩
            go_wp2_with fail
            refine (K2.out _).mono ?_
            rintro e w2 ⟨rfl, rfl⟩
            go_wp2_with fail
            refine (K3.out _).mono ?_
            rintro e w3 ⟨rfl, hb3⟩
            have g3 : w3.cell? ⟨w.heap.size, 3, none⟩ = some (.string pa) := by rw [(bcell hb3).1 _ _ (by simp)]; simp
            have g4 : w3.cell? ⟨w.heap.size, 4, none⟩ = some (.int .i64 ag) := by rw [(bcell hb3).1 _ _ (by simp)]; simp
            have g6 : w3.cell? ⟨w.heap.size, 6, none⟩ = some (.int .i64 mo) := by rw [(bcell hb3).1 _ _ (by simp)]; simp
            have B3 : Hid (Below w.heap.size w w3) := ((Below.refl _ _).alloc (Nat.le_refl _) _).trans (hb3.mono (by simp))
            clear hb3
            go_wp2
            go_ret
            exact ⟨ret_bool HR.out.symm, B3.out⟩
          | true =>
            cases hpa : pa.toList.isEmpty with
            | true =>
              cases b5 with
              | false =>
                have HR : Hid (R = false) := by show _ = _; rw [HE.out]; first | rfl | simp [*]
                go_enter Tryd.func17, Tryd.ntmps17
                go_wp2_with fail
                refine (K1.out _).mono ?_
                rintro e w1 ⟨rfl, rfl⟩
                go_wp2_with fail
                refine (K2.out _).mono ?_
                rintro e w2 ⟨rfl, rfl⟩
                go_wp2_with fail
                refine (K3.out _).mono ?_
                rintro e w3 ⟨rfl, hb3⟩
                have g3 : w3.cell? ⟨w.heap.size, 3, none⟩ = some (.string pa) := by rw [(bcell hb3).1 _ _ (by simp)]; simp
                have g4 : w3.cell? ⟨w.heap.size, 4, none⟩ = some (.int .i64 ag) := by rw [(bcell hb3).1 _ _ (by simp)]; simp
                have g6 : w3.cell? ⟨w.heap.size, 6, none⟩ = some (.int .i64 mo) := by rw [(bcell hb3).1 _ _ (by simp)]; simp
                have B3 : Hid (Below w.heap.size w w3) := ((Below.refl _ _).alloc (Nat.le_refl _) _).trans (hb3.mono (by simp))
                clear hb3
                go_wp2_with fail
                refine (K5.out _).mono ?_
                rintro e w5 ⟨rfl, rfl⟩
                go_wp2
                go_ret
                exact ⟨ret_bool HR.out.symm, B3.out⟩
              | true =>
                have HR : Hid (R = b6) := by show _ = _; rw [HE.out]; first | rfl | simp [*]
                go_enter Tryd.func17, Tryd.ntmps17
                go_wp2_with fail
                refine (K1.out _).mono ?_
                rintro e w1 ⟨rfl, rfl⟩
                go_wp2_with fail
                refine (K2.out _).mono ?_
                rintro e w2 ⟨rfl, rfl⟩
                go_wp2_with fail
                refine (K3.out _).mono ?_
                rintro e w3 ⟨rfl, hb3⟩
                have g3 : w3.cell? ⟨w.heap.size, 3, none⟩ = some (.string pa) := by rw [(bcell hb3).1 _ _ (by simp)]; simp
                have g4 : w3.cell? ⟨w.heap.size, 4, none⟩ = some (.int .i64 ag) := by rw [(bcell hb3).1 _ _ (by simp)]; simp
                have g6 : w3.cell? ⟨w.heap.size, 6, none⟩ = some (.int .i64 mo) := by rw [(bcell hb3).1 _ _ (by simp)]; simp
                have B3 : Hid (Below w.heap.size w w3) := ((Below.refl _ _).alloc (Nat.le_refl _) _).trans (hb3.mono (by simp))
                clear hb3
                go_wp2_with fail
                refine (K5.out _).mono ?_
                rintro e w5 ⟨rfl, rfl⟩
                go_wp2_with fail
                refine (K6.out _).mono ?_
                rintro e w6 ⟨rfl, rfl⟩
                go_wp2
                go_ret
                exact ⟨ret_bool HR.out.symm, B3.out⟩
            | false =>
              cases b4 with
              | false =>
                have HR : Hid (R = false) := by show _ = _; rw [HE.out]; first | rfl | simp [*]
                go_enter Tryd.func17, Tryd.ntmps17
                go_wp2_with fail
                refine (K1.out _).mono ?_
                rintro e w1 ⟨rfl, rfl⟩
                go_wp2_with fail
                refine (K2.out _).mono ?_
                rintro e w2 ⟨rfl, rfl⟩
                go_wp2_with fail
                refine (K3.out _).mono ?_
                rintro e w3 ⟨rfl, hb3⟩
                have g3 : w3.cell? ⟨w.heap.size, 3, none⟩ = some (.string pa) := by rw [(bcell hb3).1 _ _ (by simp)]; simp
                have g4 : w3.cell? ⟨w.heap.size, 4, none⟩ = some (.int .i64 ag) := by rw [(bcell hb3).1 _ _ (by simp)]; simp
                have g6 : w3.cell? ⟨w.heap.size, 6, none⟩ = some (.int .i64 mo) := by rw [(bcell hb3).1 _ _ (by simp)]; simp
                have B3 : Hid (Below w.heap.size w w3) := ((Below.refl _ _).alloc (Nat.le_refl _) _).trans (hb3.mono (by simp))
                clear hb3
                go_wp2_with fail
                refine (K4.out _).mono ?_
                rintro e w4 ⟨rfl, rfl⟩
                go_wp2
                go_ret
                exact ⟨ret_bool HR.out.symm, B3.out⟩
              | true =>
                cases b5 with
                | false =>
                  have HR : Hid (R = false) := by show _ = _; rw [HE.out]; first | rfl | simp [*]
                  go_enter Tryd.func17, Tryd.ntmps17
                  go_wp2_with fail
                  refine (K1.out _).mono ?_
                  rintro e w1 ⟨rfl, rfl⟩
                  go_wp2_with fail
                  refine (K2.out _).mono ?_
                  rintro e w2 ⟨rfl, rfl⟩
                  go_wp2_with fail
                  refine (K3.out _).mono ?_
                  rintro e w3 ⟨rfl, hb3⟩
                  have g3 : w3.cell? ⟨w.heap.size, 3, none⟩ = some (.string pa) := by rw [(bcell hb3).1 _ _ (by simp)]; simp
                  have g4 : w3.cell? ⟨w.heap.size, 4, none⟩ = some (.int .i64 ag) := by rw [(bcell hb3).1 _ _ (by simp)]; simp
                  have g6 : w3.cell? ⟨w.heap.size, 6, none⟩ = some (.int .i64 mo) := by rw [(bcell hb3).1 _ _ (by simp)]; simp
                  have B3 : Hid (Below w.heap.size w w3) := ((Below.refl _ _).alloc (Nat.le_refl _) _).trans (hb3.mono (by simp))
                  clear hb3
                  go_wp2_with fail
                  refine (K4.out _).mono ?_
                  rintro e w4 ⟨rfl, rfl⟩
                  go_wp2_with fail
                  refine (K5.out _).mono ?_
                  rintro e w5 ⟨rfl, rfl⟩
                  go_wp2
                  go_ret
                  exact ⟨ret_bool HR.out.symm, B3.out⟩
                | true =>
                  have HR : Hid (R = b6) := by show _ = _; rw [HE.out]; first | rfl | simp [*]
                  go_enter Tryd.func17, Tryd.ntmps17
                  go_wp2_with fail
                  refine (K1.out _).mono ?_
                  rintro e w1 ⟨rfl, rfl⟩
                  go_wp2_with fail
                  refine (K2.out _).mono ?_
                  rintro e w2 ⟨rfl, rfl⟩
                  go_wp2_with fail
                  refine (K3.out _).mono ?_
                  rintro e w3 ⟨rfl, hb3⟩
                  have g3 : w3.cell? ⟨w.heap.size, 3, none⟩ = some (.string pa) := by rw [(bcell hb3).1 _ _ (by simp)]; simp
                  have g4 : w3.cell? ⟨w.heap.size, 4, none⟩ = some (.int .i64 ag) := by rw [(bcell hb3).1 _ _ (by simp)]; simp
                  have g6 : w3.cell? ⟨w.heap.size, 6, none⟩ = some (.int .i64 mo) := by rw [(bcell hb3).1 _ _ (by simp)]; simp
                  have B3 : Hid (Below w.heap.size w w3) := ((Below.refl _ _).alloc (Nat.le_refl _) _).trans (hb3.mono (by simp))
                  clear hb3
                  go_wp2_with fail
                  refine (K4.out _).mono ?_
                  rintro e w4 ⟨rfl, rfl⟩
                  go_wp2_with fail
                  refine (K5.out _).mono ?_
                  rintro e w5 ⟨rfl, rfl⟩
                  go_wp2_with fail
                  refine (K6.out _).mono ?_
                  rintro e w6 ⟨rfl, rfl⟩
                  go_wp2
                  go_ret
                  exact ⟨ret_bool HR.out.symm, B3.out⟩
end Go.Proofs.YthcpmbolnmlohaaDoor

/- The text of a SetCookie; the walks of the specification's l04Text and SetText. -/
namespace Go.Proofs.YthcpmbolnmlohaaDoor
open Go.RowKit

def kDomain : ByteArray := ⟨#[59, 32, 68, 111, 109, 97, 105, 110, 61]⟩
def kPath : ByteArray := ⟨#[59, 32, 80, 97, 116, 104, 61]⟩
def kAge : ByteArray := ⟨#[59, 32, 77, 97, 120, 45, 65, 103, 101, 61]⟩
def kSecure : ByteArray := ⟨#[59, 32, 83, 101, 99, 117, 114, 101]⟩
def kStrict : ByteArray := ⟨#[59, 32, 83, 97, 109, 101, 83, 105, 116, 101, 61, 83, 116, 114, 105, 99, 116]⟩
def kNone : ByteArray := ⟨#[59, 32, 83, 97, 109, 101, 83, 105, 116, 101, 61, 78, 111, 110, 101]⟩
def kParted : ByteArray := ⟨#[59, 32, 80, 97, 114, 116, 105, 116, 105, 111, 110, 101, 100]⟩
def setT0 (na va : ByteArray) : ByteArray := na ++ ⟨#[61]⟩ ++ va
def setT1 (x dm : ByteArray) : ByteArray := if dm.toList.isEmpty = true then x else x ++ kDomain ++ dm
def setT2 (x pa : ByteArray) : ByteArray := if pa.toList.isEmpty = true then x else x ++ kPath ++ pa
def setT3 (x : ByteArray) (ag : Int) : ByteArray := if 0 ≤ ag then x ++ kAge ++ decB ag else x
def setT4 (x : ByteArray) (se : Bool) : ByteArray := if se = true then x ++ kSecure else x
def setT5 (x : ByteArray) (mo : Int) : ByteArray := if mo = 1 then x ++ kStrict else if mo = 2 then x ++ kNone else x
def setT6 (x : ByteArray) (pt : Bool) : ByteArray := if pt = true then x ++ kParted else x
def setT (na va dm pa : ByteArray) (ag : Int) (se : Bool) (mo : Int) (pt : Bool) : ByteArray := setT6 (setT5 (setT4 (setT3 (setT2 (setT1 (setT0 na va) dm) pa) ag) se) mo) pt
theorem setT0_size {na va : ByteArray} (h1 : na.size ≤ 20) (h2 : va.size ≤ 20) : (setT0 na va).size ≤ 41 := by
  unfold setT0; rw [ByteArray.size_append, ByteArray.size_append]; show na.size + 1 + va.size ≤ 41; omega
theorem setT1_size {x dm : ByteArray} (h1 : x.size ≤ 41) (h2 : dm.size ≤ 100) : (setT1 x dm).size ≤ 150 := by
  unfold setT1; split
  · omega
  · rw [ByteArray.size_append, ByteArray.size_append]; show x.size + 9 + dm.size ≤ 150; omega
theorem setT2_size {x pa : ByteArray} (h1 : x.size ≤ 150) (h2 : pa.size ≤ 100) : (setT2 x pa).size ≤ 257 := by
  unfold setT2; split
  · omega
  · rw [ByteArray.size_append, ByteArray.size_append]; show x.size + 7 + pa.size ≤ 257; omega
theorem setT3_size {x : ByteArray} {ag : Int} (h1 : x.size ≤ 257) (h2 : -9223372036854775808 ≤ ag) (h3 : ag ≤ 9223372036854775807) : (setT3 x ag).size ≤ 288 := by
  have := decB_size h2 h3
  unfold setT3; split
  · rw [ByteArray.size_append, ByteArray.size_append]; show x.size + 10 + (decB ag).size ≤ 288; omega
  · omega
theorem setT4_size {x : ByteArray} {se : Bool} (h1 : x.size ≤ 288) : (setT4 x se).size ≤ 296 := by
  unfold setT4; split
  · rw [ByteArray.size_append]; show x.size + 8 ≤ 296; omega
  · omega
theorem setT5_size {x : ByteArray} {mo : Int} (h1 : x.size ≤ 296) : (setT5 x mo).size ≤ 313 := by
  unfold setT5; split
  · rw [ByteArray.size_append]; show x.size + 17 ≤ 313; omega
  · split
    · rw [ByteArray.size_append]; show x.size + 15 ≤ 313; omega
    · omega

set_option maxRecDepth 10000 in
set_option maxHeartbeats 4000000 in
theorem specSetT_any (na va dm pa : ByteArray) (ag : Int) (se : Bool) (mo : Int) (pt : Bool) (w : World) (h1 : na.size ≤ 20) (h2 : va.size ≤ 20) (h3 : dm.size ≤ 100) (h4 : pa.size ≤ 100) (h5 : -9223372036854775808 ≤ ag) (h6 : ag ≤ 9223372036854775807) :
    Calls Tryd.prog 50 #[setV na va dm pa ag se mo pt] w fun e w' => e = .returned (.string (setT na va dm pa ag se mo pt)) ∧ Below w.heap.size w w' := by
  have s0 := setT0_size h1 h2
  have s1 := setT1_size (dm := dm) s0 h3
  have s2 := setT2_size (pa := pa) s1 h4
  have s3 := setT3_size (ag := ag) s2 h5 h6
  have s4 := setT4_size (se := se) s3
  have s5 := setT5_size (mo := mo) s4
  have hd := decB_size h5 h6
  have KD : Hid (∀ W, Calls Tryd.prog 78 #[.int .i64 ag] W fun e w' => e = .returned (.string (decB ag)) ∧ Below W.heap.size W w') := fun W => specDec_any ag W h5 h6
  have E0 : Hid (setT0 na va = na ++ ⟨#[61]⟩ ++ va) := rfl
  have E1 : Hid (setT1 (setT0 na va) dm = if dm.toList.isEmpty = true then setT0 na va else setT0 na va ++ ⟨#[59, 32, 68, 111, 109, 97, 105, 110, 61]⟩ ++ dm) := rfl
  generalize hx0 : setT0 na va = x0 at *
  have E2 : Hid (setT2 (setT1 x0 dm) pa = if pa.toList.isEmpty = true then setT1 x0 dm else setT1 x0 dm ++ ⟨#[59, 32, 80, 97, 116, 104, 61]⟩ ++ pa) := rfl
  have EF : Hid (setT na va dm pa ag se mo pt = setT6 (setT5 (setT4 (setT3 (setT2 (setT1 x0 dm) pa) ag) se) mo) pt) := by show _ = _; rw [← hx0]; rfl
  generalize setT1 x0 dm = x1 at *
  have E3 : Hid (setT3 (setT2 x1 pa) ag = if 0 ≤ ag then setT2 x1 pa ++ ⟨#[59, 32, 77, 97, 120, 45, 65, 103, 101, 61]⟩ ++ decB ag else setT2 x1 pa) := rfl
  generalize setT2 x1 pa = x2 at *
  have E4 : Hid (setT4 (setT3 x2 ag) se = if se = true then setT3 x2 ag ++ ⟨#[59, 32, 83, 101, 99, 117, 114, 101]⟩ else setT3 x2 ag) := rfl
  generalize setT3 x2 ag = x3 at *
  have E5 : Hid (setT5 (setT4 x3 se) mo = if mo = 1 then setT4 x3 se ++ ⟨#[59, 32, 83, 97, 109, 101, 83, 105, 116, 101, 61, 83, 116, 114, 105, 99, 116]⟩ else if mo = 2 then setT4 x3 se ++ ⟨#[59, 32, 83, 97, 109, 101, 83, 105, 116, 101, 61, 78, 111, 110, 101]⟩ else setT4 x3 se) := rfl
  generalize setT4 x3 se = x4 at *
  have E6 : Hid (setT6 (setT5 x4 mo) pt = if pt = true then setT5 x4 mo ++ ⟨#[59, 32, 80, 97, 114, 116, 105, 116, 105, 111, 110, 101, 100]⟩ else setT5 x4 mo) := rfl
  generalize setT5 x4 mo = x5 at *
  generalize setT6 x5 pt = x6 at *
  generalize setT na va dm pa ag se mo pt = R at *
  generalize decB ag = dd at *
  clear hx0
  unfold setV
  have z0 : (na ++ ⟨#[61]⟩ : ByteArray).size ≤ 21 := by rw [ByteArray.size_append]; show na.size + 1 ≤ 21; omega
  have z1 : (x0 ++ ⟨#[59, 32, 68, 111, 109, 97, 105, 110, 61]⟩ : ByteArray).size ≤ 50 := by rw [ByteArray.size_append]; show x0.size + 9 ≤ 50; omega
  have z2 : (x1 ++ ⟨#[59, 32, 80, 97, 116, 104, 61]⟩ : ByteArray).size ≤ 157 := by rw [ByteArray.size_append]; show x1.size + 7 ≤ 157; omega
  have z3 : (x2 ++ ⟨#[59, 32, 77, 97, 120, 45, 65, 103, 101, 61]⟩ : ByteArray).size ≤ 267 := by rw [ByteArray.size_append]; show x2.size + 10 ≤ 267; omega
  go_enter Tryd.func50, Tryd.ntmps50
  go_upto_if 12 with fail
  have hb0 : Below w.heap.size w (w.alloc (.cells #[.string na, .string va, .string dm, .string pa, .int .i64 ag, .bool se, .int .i64 mo, .bool pt] 32)) := (Below.refl _ _).alloc (Nat.le_refl _) _
  have hz0 : w.heap.size < (w.alloc (.cells #[.string na, .string va, .string dm, .string pa, .int .i64 ag, .bool se, .int .i64 mo, .bool pt] 32)).heap.size := by simp
  have p2 : (w.alloc (.cells #[.string na, .string va, .string dm, .string pa, .int .i64 ag, .bool se, .int .i64 mo, .bool pt] 32)).cell? ⟨w.heap.size, 2, none⟩ = some (.string dm) := by simp
  have p3 : (w.alloc (.cells #[.string na, .string va, .string dm, .string pa, .int .i64 ag, .bool se, .int .i64 mo, .bool pt] 32)).cell? ⟨w.heap.size, 3, none⟩ = some (.string pa) := by simp
  have p4 : (w.alloc (.cells #[.string na, .string va, .string dm, .string pa, .int .i64 ag, .bool se, .int .i64 mo, .bool pt] 32)).cell? ⟨w.heap.size, 4, none⟩ = some (.int .i64 ag) := by simp
  have p5 : (w.alloc (.cells #[.string na, .string va, .string dm, .string pa, .int .i64 ag, .bool se, .int .i64 mo, .bool pt] 32)).cell? ⟨w.heap.size, 5, none⟩ = some (.bool se) := by simp
  have p6 : (w.alloc (.cells #[.string na, .string va, .string dm, .string pa, .int .i64 ag, .bool se, .int .i64 mo, .bool pt] 32)).cell? ⟨w.heap.size, 6, none⟩ = some (.int .i64 mo) := by simp
  have p7 : (w.alloc (.cells #[.string na, .string va, .string dm, .string pa, .int .i64 ag, .bool se, .int .i64 mo, .bool pt] 32)).cell? ⟨w.heap.size, 7, none⟩ = some (.bool pt) := by simp
  generalize w.alloc (.cells #[.string na, .string va, .string dm, .string pa, .int .i64 ag, .bool se, .int .i64 mo, .bool pt] 32) = w0 at *
  have HB0 : Hid (Below w.heap.size w w0) := hb0
  clear hb0
  go_cut [3] (fun s wx => s = .string x1 ∧ wx = w0)
  case first =>
    cases hdm : dm.toList.isEmpty with
    | true =>
      have HX : Hid (x1 = x0) := by show _ = _; rw [E1.out, if_pos hdm]
      go_wp2_with fail
      go_meet
      case rel => exact ⟨by rw [HX.out, E0.out], rfl⟩
    | false =>
      have HX : Hid (x1 = x0 ++ ⟨#[59, 32, 68, 111, 109, 97, 105, 110, 61]⟩ ++ dm) := by show _ = _; rw [E1.out, if_neg (by rw [hdm]; decide)]
      go_wp2_with fail
      go_meet
      case rel => exact ⟨by rw [HX.out, E0.out], rfl⟩
  case rest =>
    obtain ⟨rfl, rfl⟩ := hcut
    go_upto_if 20 with fail
    go_cut [3] (fun s wx => s = .string x2 ∧ wx = wc)
    case first =>
      cases hpa : pa.toList.isEmpty with
      | true =>
        have HX : Hid (x2 = x1) := by show _ = _; rw [E2.out, if_pos hpa]
        go_wp2_with fail
        go_meet
        case rel => exact ⟨by rw [HX.out], rfl⟩
      | false =>
        have HX : Hid (x2 = x1 ++ ⟨#[59, 32, 80, 97, 116, 104, 61]⟩ ++ pa) := by show _ = _; rw [E2.out, if_neg (by rw [hpa]; decide)]
        go_wp2_with fail
        go_meet
        case rel => exact ⟨by rw [HX.out], rfl⟩
    case rest =>
      obtain ⟨rfl, rfl⟩ := hcut
      go_upto_if 28 with fail
      go_cut [3] (fun s wx => s = .string x3 ∧ Hid (Below wc.heap.size wc wx))
      case first =>
        by_cases hag : 0 ≤ ag
        · have HX : Hid (x3 = x2 ++ ⟨#[59, 32, 77, 97, 120, 45, 65, 103, 101, 61]⟩ ++ dd) := by show _ = _; rw [E3.out, if_pos hag]
          have qa : decide ((0 : Int) ≤ ag) = true := by rw [decide_eq_true_iff]; exact hag
          go_wp2_with (go_at_call 78; refine (KD.out _).mono ?_; rintro e w1 ⟨rfl, hb1⟩)
          go_meet
          case rel => exact ⟨by rw [HX.out], hb1⟩
        · have HX : Hid (x3 = x2) := by show _ = _; rw [E3.out, if_neg hag]
          have qa : decide ((0 : Int) ≤ ag) = false := by rw [decide_eq_false_iff_not]; exact hag
          go_wp2_with fail
          go_meet
          case rel => exact ⟨by rw [HX.out], Below.refl _ _⟩
      case rest =>
        obtain ⟨rfl, HBd⟩ := hcut
        have d5 : wc.cell? ⟨w.heap.size, 5, none⟩ = some (.bool se) := by rw [(bcell HBd.out).1 _ _ hz0]; exact p5
        have d6 : wc.cell? ⟨w.heap.size, 6, none⟩ = some (.int .i64 mo) := by rw [(bcell HBd.out).1 _ _ hz0]; exact p6
        have d7 : wc.cell? ⟨w.heap.size, 7, none⟩ = some (.bool pt) := by rw [(bcell HBd.out).1 _ _ hz0]; exact p7
        have HF : Hid (Below w.heap.size w wc) := HB0.out.trans (HBd.out.mono HB0.out.size)
        go_upto_if 36 with fail
        go_cut [3] (fun s wx => s = .string x4 ∧ wx = wc)
        case first =>
          cases se with
          | true =>
            have HX : Hid (x4 = x3 ++ ⟨#[59, 32, 83, 101, 99, 117, 114, 101]⟩) := by show _ = _; rw [E4.out, if_pos rfl]
            go_wp2_with fail
            go_meet
            case rel => exact ⟨by rw [HX.out], rfl⟩
          | false =>
            have HX : Hid (x4 = x3) := by show _ = _; rw [E4.out, if_neg (by decide)]
            go_wp2_with fail
            go_meet
            case rel => exact ⟨by rw [HX.out], rfl⟩
        case rest =>
          obtain ⟨rfl, rfl⟩ := hcut
          by_cases hm1 : mo = 1
          · subst hm1
            have HX : Hid (x5 = x4 ++ ⟨#[59, 32, 83, 97, 109, 101, 83, 105, 116, 101, 61, 83, 116, 114, 105, 99, 116]⟩) := by show _ = _; rw [E5.out, if_pos rfl]
            have z5 : (x4 ++ ⟨#[59, 32, 83, 97, 109, 101, 83, 105, 116, 101, 61, 83, 116, 114, 105, 99, 116]⟩ : ByteArray).size ≤ 313 := by rw [← HX.out]; exact s5
            cases pt with
            | true =>
              go_wp2
              go_ret
              exact ⟨ret_text (by rw [EF.out, E6.out, if_pos (by trivial), HX.out]), HF.out⟩
            | false =>
              go_wp2
              go_ret
              exact ⟨ret_text (by rw [EF.out, E6.out, if_neg (by decide), HX.out]), HF.out⟩
          · have q1 : (mo == 1) = false := by rw [beq_eq_false_iff_ne]; exact hm1
            by_cases hm2 : mo = 2
            · subst hm2
              have HX : Hid (x5 = x4 ++ ⟨#[59, 32, 83, 97, 109, 101, 83, 105, 116, 101, 61, 78, 111, 110, 101]⟩) := by show _ = _; rw [E5.out, if_neg (by decide), if_pos rfl]
              have z5 : (x4 ++ ⟨#[59, 32, 83, 97, 109, 101, 83, 105, 116, 101, 61, 78, 111, 110, 101]⟩ : ByteArray).size ≤ 313 := by rw [← HX.out]; exact s5
              cases pt with
              | true =>
                go_wp2
                go_ret
                exact ⟨ret_text (by rw [EF.out, E6.out, if_pos (by trivial), HX.out]), HF.out⟩
              | false =>
                go_wp2
                go_ret
                exact ⟨ret_text (by rw [EF.out, E6.out, if_neg (by decide), HX.out]), HF.out⟩
            · have q2 : (mo == 2) = false := by rw [beq_eq_false_iff_ne]; exact hm2
              have HX : Hid (x5 = x4) := by show _ = _; rw [E5.out, if_neg hm1, if_neg hm2]
              cases pt with
              | true =>
                go_wp2
                go_ret
                exact ⟨ret_text (by rw [EF.out, E6.out, if_pos (by trivial), HX.out]), HF.out⟩
              | false =>
                go_wp2
                go_ret
                exact ⟨ret_text (by rw [EF.out, E6.out, if_neg (by decide), HX.out]), HF.out⟩
/-- what SetText tells -/
def setTx (na va dm pa : ByteArray) (ag : Int) (se : Bool) (mo : Int) (pt : Bool) : ByteArray := if setB na va dm pa ag mo = true then setT na va dm pa ag se mo pt else ⟨#[]⟩
theorem setB_parts {na va dm pa : ByteArray} {ag mo : Int} (h : setB na va dm pa ag mo = true) : na.size ≤ 20 ∧ va.size ≤ 20 ∧ dm.size ≤ 100 ∧ pa.size ≤ 100 ∧ -1 ≤ ag ∧ ag ≤ 1000000 := by
  have he : ∀ t : ByteArray, t.toList.isEmpty = true → t.size = 0 := fun t ht => by
    rw [Lib.toList_data, List.isEmpty_iff] at ht
    rw [Lib.size_eq, ht]; rfl
  unfold setB orB ageB at h
  simp only [Bool.and_eq_true, Bool.or_eq_true, decide_eq_true_eq] at h
  obtain ⟨⟨⟨⟨⟨⟨_, h1⟩, h2⟩, h3⟩, h4⟩, h5⟩, _⟩ := h
  refine ⟨wordB_size h1, wordB_size h2, ?_, ?_, h5.1, h5.2⟩
  · rcases h3 with h | h
    · rw [he _ h]; omega
    · by_cases hz : 100 < dm.size
      · rw [hostB_size hz] at h; cases h
      · omega
  · rcases h4 with h | h
    · rw [he _ h]; omega
    · by_cases hz : 40 < pa.size
      · rw [pathB_size (.inr hz)] at h; cases h
      · omega
set_option maxRecDepth 10000 in
set_option maxHeartbeats 1000000 in
theorem specSetText_any (na va dm pa : ByteArray) (ag : Int) (se : Bool) (mo : Int) (pt : Bool) (w : World) (hna : na.size ≤ 1048576) (hva : va.size ≤ 1048576) :
    Calls Tryd.prog 20 #[setV na va dm pa ag se mo pt] w fun e w' => e = .returned (.string (setTx na va dm pa ag se mo pt)) ∧ Below w.heap.size w w' := by
  have KR : Hid (∀ W, Calls Tryd.prog 17 #[.agg #[.string na, .string va, .string dm, .string pa, .int .i64 ag, .bool se, .int .i64 mo, .bool pt]] W fun e w' => e = .returned (.bool (setB na va dm pa ag mo)) ∧ Below W.heap.size W w') := fun W => specSetRight_any na va dm pa ag se mo pt W hna hva
  have KT : Hid (setB na va dm pa ag mo = true → ∀ W, Calls Tryd.prog 50 #[.agg #[.string na, .string va, .string dm, .string pa, .int .i64 ag, .bool se, .int .i64 mo, .bool pt]] W fun e w' => e = .returned (.string (setT na va dm pa ag se mo pt)) ∧ Below W.heap.size W w') := fun h W => by
    obtain ⟨a, b, c, d, e, f⟩ := setB_parts h
    exact specSetT_any na va dm pa ag se mo pt W a b c d (by omega) (by omega)
  have HY : Hid (setB na va dm pa ag mo = true → setTx na va dm pa ag se mo pt = setT na va dm pa ag se mo pt) := fun h => by rw [setTx, if_pos h]
  have HN : Hid (setB na va dm pa ag mo = false → setTx na va dm pa ag se mo pt = ⟨#[]⟩) := fun h => by rw [setTx, if_neg (by rw [h]; decide)]
  have B0 : Hid (∀ t : TypeId, Below w.heap.size w (w.alloc (.cells #[.string na, .string va, .string dm, .string pa, .int .i64 ag, .bool se, .int .i64 mo, .bool pt] t))) := fun t => (Below.refl _ _).alloc (Nat.le_refl _) _
  unfold setV
  clear hna hva
  generalize setTx na va dm pa ag se mo pt = R at *
  generalize setT na va dm pa ag se mo pt = T at *
  generalize setB na va dm pa ag mo = b at *
  cases b with
  | false =>
    have HZ : Hid (R = ⟨#[]⟩) := HN.out rfl
    go_enter Tryd.func20, Tryd.ntmps20
    go_wp2_with fail
    refine (KR.out _).mono ?_
    rintro e w1 ⟨rfl, hb1⟩
    have B1 : Hid (Below w.heap.size w w1) := (B0.out _).trans (hb1.mono (by simp))
    clear hb1
    go_wp2
    go_ret
    exact ⟨ret_text HZ.out.symm, B1.out⟩
  | true =>
    have HZ : Hid (R = T) := HY.out rfl
    have KT2 : Hid _ := KT.out rfl
    clear KT HN HY
    go_enter Tryd.func20, Tryd.ntmps20
    go_wp2_with fail
    refine (KR.out _).mono ?_
    rintro e w1 ⟨rfl, hb1⟩
    have B1 : Hid (Below w.heap.size w w1) := (B0.out _).trans (hb1.mono (by simp))
    have c0 : w1.cell? ⟨w.heap.size, 0, none⟩ = some (.string na) := by rw [(bcell hb1).1 _ _ (by simp)]; simp
    have c1 : w1.cell? ⟨w.heap.size, 1, none⟩ = some (.string va) := by rw [(bcell hb1).1 _ _ (by simp)]; simp
    have c2 : w1.cell? ⟨w.heap.size, 2, none⟩ = some (.string dm) := by rw [(bcell hb1).1 _ _ (by simp)]; simp
    have c3 : w1.cell? ⟨w.heap.size, 3, none⟩ = some (.string pa) := by rw [(bcell hb1).1 _ _ (by simp)]; simp
    have c4 : w1.cell? ⟨w.heap.size, 4, none⟩ = some (.int .i64 ag) := by rw [(bcell hb1).1 _ _ (by simp)]; simp
    have c5 : w1.cell? ⟨w.heap.size, 5, none⟩ = some (.bool se) := by rw [(bcell hb1).1 _ _ (by simp)]; simp
    have c6 : w1.cell? ⟨w.heap.size, 6, none⟩ = some (.int .i64 mo) := by rw [(bcell hb1).1 _ _ (by simp)]; simp
    have c7 : w1.cell? ⟨w.heap.size, 7, none⟩ = some (.bool pt) := by rw [(bcell hb1).1 _ _ (by simp)]; simp
    clear hb1
    go_wp2_with fail
    refine (KT2.out _).mono ?_
    rintro e w2 ⟨rfl, hb2⟩
    go_wp2
    go_ret
    exact ⟨ret_text HZ.out.symm, B1.out.trans (hb2.mono B1.out.size)⟩
end Go.Proofs.YthcpmbolnmlohaaDoor

/- What a list of cells holds, kept by whatever leaves old blocks as they were. -/
namespace Go.Proofs.YthcpmbolnmlohaaDoor
open Go.RowKit
theorem cell_in {W : World} {p : Addr} {v : Value} (h : W.cell? p = some v) : p.block < W.heap.size := by
  by_cases hb : p.block < W.heap.size
  · exact hb
  · exfalso
    simp [World.cell?, Array.getElem?_eq_none (show W.heap.size ≤ p.block by omega)] at h
/-- what these cells hold -/
def Cells (W : World) : List (Addr × Value) → Prop
  | [] => True
  | p :: L => W.cell? p.1 = some p.2 ∧ Cells W L
theorem Cells.below {W W' : World} : ∀ {L : List (Addr × Value)}, Cells W L → Below W.heap.size W W' → Cells W' L
  | [], _, _ => trivial
  | _ :: _, h, hb => ⟨(@Below.cell _ _ _ hb _ (cell_in h.1)).trans h.1, Cells.below h.2 hb⟩
theorem Cells.join {W : World} : ∀ {L M : List (Addr × Value)}, Cells W L → Cells W M → Cells W (L ++ M)
  | [], _, _, h => h
  | _ :: _, _, h, k => ⟨h.1, Cells.join h.2 k⟩
/-- a slice of texts, wherever it lies -/
def SliceH (w : World) (v : Value) (n : Nat) (f : Nat → ByteArray) : Prop := Hid (SliceS w 0 v n f)
theorem SliceH.out {w : World} {v : Value} {n : Nat} {f : Nat → ByteArray} (h : SliceH w v n f) : SliceS w 0 v n f := Hid.out h
theorem strip {w : World} {B n : Nat} {v : Value} {f : Nat → ByteArray} (h : SliceS w B v n f) : SliceH w v n f := by
  obtain ⟨p, cap, rfl, h⟩ := h
  exact (⟨p, cap, rfl, fun hn => by obtain ⟨g, e, _, r⟩ := h hn; exact ⟨g, e, Nat.zero_le _, r⟩⟩ : SliceS w 0 _ n f)
theorem SliceH.below {w w' : World} {v : Value} {n : Nat} {f : Nat → ByteArray} (h : SliceH w v n f) (hb : Below w.heap.size w w') : SliceH w' v n f := SliceS.below h.out hb
end Go.Proofs.YthcpmbolnmlohaaDoor

/- The walk of the specification's l04Read. -/
namespace Go.Proofs.YthcpmbolnmlohaaDoor
open Go.RowKit

/-- a SetCookie's eight fields -/
structure SC where
  na : ByteArray
  va : ByteArray
  dm : ByteArray
  pa : ByteArray
  ag : Int
  se : Bool
  mo : Int
  pt : Bool
def tDomain : List UInt8 := [68, 111, 109, 97, 105, 110]
def tPath : List UInt8 := [80, 97, 116, 104]
def tAge : List UInt8 := [77, 97, 120, 45, 65, 103, 101]
def tSecure : List UInt8 := [83, 101, 99, 117, 114, 101]
def tParted : List UInt8 := [80, 97, 114, 116, 105, 116, 105, 111, 110, 101, 100]
def tSame : List UInt8 := [83, 97, 109, 101, 83, 105, 116, 101]
def tStrict : List UInt8 := [83, 116, 114, 105, 99, 116]
/-- what a piece turns -/
def scPut (c : SC) (x : ByteArray) : SC :=
  if ((pairP x).1.toList == tDomain) = true then { c with dm := (pairP x).2 }
  else if ((pairP x).1.toList == tPath) = true then { c with pa := (pairP x).2 }
  else if ((pairP x).1.toList == tAge) = true then { c with ag := numI (pairP x).2 }
  else if ((pairP x).1.toList == tSecure) = true then { c with se := true }
  else if ((pairP x).1.toList == tParted) = true then { c with pt := true }
  else if ((pairP x).1.toList == tSame) = true then { c with mo := if ((pairP x).2.toList == tStrict) = true then 1 else 2 }
  else c
/-- the pieces from the second one to the i-th turn one after another -/
def scTo (L : List ByteArray) : Nat → SC
  | 0 => ⟨(pairP (atL L 0)).1, (pairP (atL L 0)).2, ⟨#[]⟩, ⟨#[]⟩, -1, false, 0, false⟩
  | i + 1 => scPut (scTo L i) (atL L (i + 1))
def scRead (t : ByteArray) : SC := scTo (piecesL t) ((piecesL t).length - 1)
def scV (c : SC) : Value := setV c.na c.va c.dm c.pa c.ag c.se c.mo c.pt
/-- eight cells in block b, none of them frozen -/
def U8 (w : World) (b : Nat) (v0 v1 v2 v3 v4 v5 v6 v7 : Value) : Prop := b < w.heap.size ∧ (w.cell? ⟨b, 0, none⟩ = some v0 ∧ w.cell? ⟨b, 1, none⟩ = some v1 ∧ w.cell? ⟨b, 2, none⟩ = some v2 ∧ w.cell? ⟨b, 3, none⟩ = some v3 ∧ w.cell? ⟨b, 4, none⟩ = some v4 ∧ w.cell? ⟨b, 5, none⟩ = some v5 ∧ w.cell? ⟨b, 6, none⟩ = some v6 ∧ w.cell? ⟨b, 7, none⟩ = some v7) ∧ ∀ o, w.frozen? ⟨b, o, none⟩ = false
theorem U8.below {w w' : World} {b : Nat} {v0 v1 v2 v3 v4 v5 v6 v7 : Value} (h : U8 w b v0 v1 v2 v3 v4 v5 v6 v7) (hb : Below w.heap.size w w') : U8 w' b v0 v1 v2 v3 v4 v5 v6 v7 := by
  obtain ⟨hz, ⟨c0, c1, c2, c3, c4, c5, c6, c7⟩, hf⟩ := h
  exact ⟨Nat.lt_of_lt_of_le hz hb.size, ⟨by rw [(bcell hb).1 _ _ hz]; exact c0, by rw [(bcell hb).1 _ _ hz]; exact c1, by rw [(bcell hb).1 _ _ hz]; exact c2, by rw [(bcell hb).1 _ _ hz]; exact c3, by rw [(bcell hb).1 _ _ hz]; exact c4, by rw [(bcell hb).1 _ _ hz]; exact c5, by rw [(bcell hb).1 _ _ hz]; exact c6, by rw [(bcell hb).1 _ _ hz]; exact c7⟩, fun o => by rw [(bcell hb).2 _ _ hz]; exact hf o⟩
theorem U8.made (w : World) (v0 v1 v2 v3 v4 v5 v6 v7 : Value) (t : TypeId) : U8 (w.alloc (.cells #[v0, v1, v2, v3, v4, v5, v6, v7] t)) w.heap.size v0 v1 v2 v3 v4 v5 v6 v7 :=
  ⟨by simp, ⟨by simp, by simp, by simp, by simp, by simp, by simp, by simp, by simp⟩, by simp⟩
theorem U8.far {w : World} {b : Nat} {v0 v1 v2 v3 v4 v5 v6 v7 : Value} {p : Addr} (h : U8 w b v0 v1 v2 v3 v4 v5 v6 v7) (hp : p.block ≠ b) (v : Value) : U8 (w.setCell p v) b v0 v1 v2 v3 v4 v5 v6 v7 := by
  obtain ⟨hb, ⟨c0, c1, c2, c3, c4, c5, c6, c7⟩, hf⟩ := h
  refine ⟨by simpa [World.setCell] using hb, ⟨?_, ?_, ?_, ?_, ?_, ?_, ?_, ?_⟩, ?_⟩
  · rw [World.cell?_setCell_far _ _ _ _ hp]; exact c0
  · rw [World.cell?_setCell_far _ _ _ _ hp]; exact c1
  · rw [World.cell?_setCell_far _ _ _ _ hp]; exact c2
  · rw [World.cell?_setCell_far _ _ _ _ hp]; exact c3
  · rw [World.cell?_setCell_far _ _ _ _ hp]; exact c4
  · rw [World.cell?_setCell_far _ _ _ _ hp]; exact c5
  · rw [World.cell?_setCell_far _ _ _ _ hp]; exact c6
  · rw [World.cell?_setCell_far _ _ _ _ hp]; exact c7
  · intro o; rw [World.frozen?_setCell]; exact hf o
theorem U8.set0 {w : World} {b : Nat} {v0 v1 v2 v3 v4 v5 v6 v7 : Value} (h : U8 w b v0 v1 v2 v3 v4 v5 v6 v7) (v : Value) : U8 (w.setCell ⟨b, 0, none⟩ v) b v v1 v2 v3 v4 v5 v6 v7 := by
  obtain ⟨hb, ⟨c0, c1, c2, c3, c4, c5, c6, c7⟩, hf⟩ := h
  refine ⟨by simpa [World.setCell] using hb, ⟨?_, ?_, ?_, ?_, ?_, ?_, ?_, ?_⟩, ?_⟩
  · exact World.cell?_setCell_same _ _ _ c0
  · exact (World.cell?_setCell_other _ _ _ _ (by simp)).trans c1
  · exact (World.cell?_setCell_other _ _ _ _ (by simp)).trans c2
  · exact (World.cell?_setCell_other _ _ _ _ (by simp)).trans c3
  · exact (World.cell?_setCell_other _ _ _ _ (by simp)).trans c4
  · exact (World.cell?_setCell_other _ _ _ _ (by simp)).trans c5
  · exact (World.cell?_setCell_other _ _ _ _ (by simp)).trans c6
  · exact (World.cell?_setCell_other _ _ _ _ (by simp)).trans c7
  · intro o; rw [World.frozen?_setCell]; exact hf o
theorem U8.set1 {w : World} {b : Nat} {v0 v1 v2 v3 v4 v5 v6 v7 : Value} (h : U8 w b v0 v1 v2 v3 v4 v5 v6 v7) (v : Value) : U8 (w.setCell ⟨b, 1, none⟩ v) b v0 v v2 v3 v4 v5 v6 v7 := by
  obtain ⟨hb, ⟨c0, c1, c2, c3, c4, c5, c6, c7⟩, hf⟩ := h
  refine ⟨by simpa [World.setCell] using hb, ⟨?_, ?_, ?_, ?_, ?_, ?_, ?_, ?_⟩, ?_⟩
  · exact (World.cell?_setCell_other _ _ _ _ (by simp)).trans c0
  · exact World.cell?_setCell_same _ _ _ c1
  · exact (World.cell?_setCell_other _ _ _ _ (by simp)).trans c2
  · exact (World.cell?_setCell_other _ _ _ _ (by simp)).trans c3
  · exact (World.cell?_setCell_other _ _ _ _ (by simp)).trans c4
  · exact (World.cell?_setCell_other _ _ _ _ (by simp)).trans c5
  · exact (World.cell?_setCell_other _ _ _ _ (by simp)).trans c6
  · exact (World.cell?_setCell_other _ _ _ _ (by simp)).trans c7
  · intro o; rw [World.frozen?_setCell]; exact hf o
theorem U8.set2 {w : World} {b : Nat} {v0 v1 v2 v3 v4 v5 v6 v7 : Value} (h : U8 w b v0 v1 v2 v3 v4 v5 v6 v7) (v : Value) : U8 (w.setCell ⟨b, 2, none⟩ v) b v0 v1 v v3 v4 v5 v6 v7 := by
  obtain ⟨hb, ⟨c0, c1, c2, c3, c4, c5, c6, c7⟩, hf⟩ := h
  refine ⟨by simpa [World.setCell] using hb, ⟨?_, ?_, ?_, ?_, ?_, ?_, ?_, ?_⟩, ?_⟩
  · exact (World.cell?_setCell_other _ _ _ _ (by simp)).trans c0
  · exact (World.cell?_setCell_other _ _ _ _ (by simp)).trans c1
  · exact World.cell?_setCell_same _ _ _ c2
  · exact (World.cell?_setCell_other _ _ _ _ (by simp)).trans c3
  · exact (World.cell?_setCell_other _ _ _ _ (by simp)).trans c4
  · exact (World.cell?_setCell_other _ _ _ _ (by simp)).trans c5
  · exact (World.cell?_setCell_other _ _ _ _ (by simp)).trans c6
  · exact (World.cell?_setCell_other _ _ _ _ (by simp)).trans c7
  · intro o; rw [World.frozen?_setCell]; exact hf o
theorem U8.set3 {w : World} {b : Nat} {v0 v1 v2 v3 v4 v5 v6 v7 : Value} (h : U8 w b v0 v1 v2 v3 v4 v5 v6 v7) (v : Value) : U8 (w.setCell ⟨b, 3, none⟩ v) b v0 v1 v2 v v4 v5 v6 v7 := by
  obtain ⟨hb, ⟨c0, c1, c2, c3, c4, c5, c6, c7⟩, hf⟩ := h
  refine ⟨by simpa [World.setCell] using hb, ⟨?_, ?_, ?_, ?_, ?_, ?_, ?_, ?_⟩, ?_⟩
  · exact (World.cell?_setCell_other _ _ _ _ (by simp)).trans c0
  · exact (World.cell?_setCell_other _ _ _ _ (by simp)).trans c1
  · exact (World.cell?_setCell_other _ _ _ _ (by simp)).trans c2
  · exact World.cell?_setCell_same _ _ _ c3
  · exact (World.cell?_setCell_other _ _ _ _ (by simp)).trans c4
  · exact (World.cell?_setCell_other _ _ _ _ (by simp)).trans c5
  · exact (World.cell?_setCell_other _ _ _ _ (by simp)).trans c6
  · exact (World.cell?_setCell_other _ _ _ _ (by simp)).trans c7
  · intro o; rw [World.frozen?_setCell]; exact hf o
theorem U8.set4 {w : World} {b : Nat} {v0 v1 v2 v3 v4 v5 v6 v7 : Value} (h : U8 w b v0 v1 v2 v3 v4 v5 v6 v7) (v : Value) : U8 (w.setCell ⟨b, 4, none⟩ v) b v0 v1 v2 v3 v v5 v6 v7 := by
  obtain ⟨hb, ⟨c0, c1, c2, c3, c4, c5, c6, c7⟩, hf⟩ := h
  refine ⟨by simpa [World.setCell] using hb, ⟨?_, ?_, ?_, ?_, ?_, ?_, ?_, ?_⟩, ?_⟩
  · exact (World.cell?_setCell_other _ _ _ _ (by simp)).trans c0
  · exact (World.cell?_setCell_other _ _ _ _ (by simp)).trans c1
  · exact (World.cell?_setCell_other _ _ _ _ (by simp)).trans c2
  · exact (World.cell?_setCell_other _ _ _ _ (by simp)).trans c3
  · exact World.cell?_setCell_same _ _ _ c4
  · exact (World.cell?_setCell_other _ _ _ _ (by simp)).trans c5
  · exact (World.cell?_setCell_other _ _ _ _ (by simp)).trans c6
  · exact (World.cell?_setCell_other _ _ _ _ (by simp)).trans c7
  · intro o; rw [World.frozen?_setCell]; exact hf o
theorem U8.set5 {w : World} {b : Nat} {v0 v1 v2 v3 v4 v5 v6 v7 : Value} (h : U8 w b v0 v1 v2 v3 v4 v5 v6 v7) (v : Value) : U8 (w.setCell ⟨b, 5, none⟩ v) b v0 v1 v2 v3 v4 v v6 v7 := by
  obtain ⟨hb, ⟨c0, c1, c2, c3, c4, c5, c6, c7⟩, hf⟩ := h
  refine ⟨by simpa [World.setCell] using hb, ⟨?_, ?_, ?_, ?_, ?_, ?_, ?_, ?_⟩, ?_⟩
  · exact (World.cell?_setCell_other _ _ _ _ (by simp)).trans c0
  · exact (World.cell?_setCell_other _ _ _ _ (by simp)).trans c1
  · exact (World.cell?_setCell_other _ _ _ _ (by simp)).trans c2
  · exact (World.cell?_setCell_other _ _ _ _ (by simp)).trans c3
  · exact (World.cell?_setCell_other _ _ _ _ (by simp)).trans c4
  · exact World.cell?_setCell_same _ _ _ c5
  · exact (World.cell?_setCell_other _ _ _ _ (by simp)).trans c6
  · exact (World.cell?_setCell_other _ _ _ _ (by simp)).trans c7
  · intro o; rw [World.frozen?_setCell]; exact hf o
theorem U8.set6 {w : World} {b : Nat} {v0 v1 v2 v3 v4 v5 v6 v7 : Value} (h : U8 w b v0 v1 v2 v3 v4 v5 v6 v7) (v : Value) : U8 (w.setCell ⟨b, 6, none⟩ v) b v0 v1 v2 v3 v4 v5 v v7 := by
  obtain ⟨hb, ⟨c0, c1, c2, c3, c4, c5, c6, c7⟩, hf⟩ := h
  refine ⟨by simpa [World.setCell] using hb, ⟨?_, ?_, ?_, ?_, ?_, ?_, ?_, ?_⟩, ?_⟩
  · exact (World.cell?_setCell_other _ _ _ _ (by simp)).trans c0
  · exact (World.cell?_setCell_other _ _ _ _ (by simp)).trans c1
  · exact (World.cell?_setCell_other _ _ _ _ (by simp)).trans c2
  · exact (World.cell?_setCell_other _ _ _ _ (by simp)).trans c3
  · exact (World.cell?_setCell_other _ _ _ _ (by simp)).trans c4
  · exact (World.cell?_setCell_other _ _ _ _ (by simp)).trans c5
  · exact World.cell?_setCell_same _ _ _ c6
  · exact (World.cell?_setCell_other _ _ _ _ (by simp)).trans c7
  · intro o; rw [World.frozen?_setCell]; exact hf o
theorem U8.set7 {w : World} {b : Nat} {v0 v1 v2 v3 v4 v5 v6 v7 : Value} (h : U8 w b v0 v1 v2 v3 v4 v5 v6 v7) (v : Value) : U8 (w.setCell ⟨b, 7, none⟩ v) b v0 v1 v2 v3 v4 v5 v6 v := by
  obtain ⟨hb, ⟨c0, c1, c2, c3, c4, c5, c6, c7⟩, hf⟩ := h
  refine ⟨by simpa [World.setCell] using hb, ⟨?_, ?_, ?_, ?_, ?_, ?_, ?_, ?_⟩, ?_⟩
  · exact (World.cell?_setCell_other _ _ _ _ (by simp)).trans c0
  · exact (World.cell?_setCell_other _ _ _ _ (by simp)).trans c1
  · exact (World.cell?_setCell_other _ _ _ _ (by simp)).trans c2
  · exact (World.cell?_setCell_other _ _ _ _ (by simp)).trans c3
  · exact (World.cell?_setCell_other _ _ _ _ (by simp)).trans c4
  · exact (World.cell?_setCell_other _ _ _ _ (by simp)).trans c5
  · exact (World.cell?_setCell_other _ _ _ _ (by simp)).trans c6
  · exact World.cell?_setCell_same _ _ _ c7
  · intro o; rw [World.frozen?_setCell]; exact hf o
def UC (w : World) (b : Nat) (c : SC) : Prop := U8 w b (.string c.na) (.string c.va) (.string c.dm) (.string c.pa) (.int .i64 c.ag) (.bool c.se) (.int .i64 c.mo) (.bool c.pt)
theorem UC.below {w w' : World} {b : Nat} {c : SC} (h : UC w b c) (hb : Below w.heap.size w w') : UC w' b c := U8.below h hb
set_option maxRecDepth 10000 in
set_option maxHeartbeats 8000000 in
theorem specSetRd_any (t : ByteArray) (w : World) (ht : t.size ≤ 8000) :
    Calls Tryd.prog 53 #[.string t] w fun e w' => e = .returned (scV (scRead t)) ∧ Below w.heap.size w w' := by
  have KP : Hid (∀ W, Calls Tryd.prog 56 #[.string t] W fun e w' => ∃ v, e = .returned v ∧ w'.ownsRow W.heap.size 9 1 v (piecesL t).length (strCells (piecesL t)) ∧ Below W.heap.size W w') := fun W => specPieces_any t W (by omega)
  have hlen := piecesL_len t
  have hsm := piecesL_small t
  have hpos : 0 < (piecesL t).length := by
    by_cases h : 0 ≤ findI t semi
    · rw [piecesL_more (find_in h).2]; simp
    · rw [piecesL_last h]; simp
  have HSM : Hid (∀ i, i < (piecesL t).length → (atL (piecesL t) i).size ≤ 8000) := fun i hi => by
    have e : atL (piecesL t) i = (piecesL t)[i] := by simp [atL, hi]
    rw [e]; have := hsm _ (List.getElem_mem hi); omega
  have HE : Hid (scRead t = scTo (piecesL t) ((piecesL t).length - 1)) := rfl
  clear hsm
  generalize scRead t = RR at *
  generalize piecesL t = L at *
  have hL : L.length ≤ 8001 := by omega
  clear hlen
  go_enter Tryd.func53, Tryd.ntmps53
  go_wp2_with fail
  refine (KP.out _).mono ?_
  rintro e w1 ⟨vL, rfl, ho, hb1⟩
  have RZ1 : Hid (U8 w1 w.heap.size (.string ⟨#[]⟩) (.string ⟨#[]⟩) (.string ⟨#[]⟩) (.string ⟨#[]⟩) (.int .i64 0) (.bool false) (.int .i64 0) (.bool false)) := (U8.made w (.string ⟨#[]⟩) (.string ⟨#[]⟩) (.string ⟨#[]⟩) (.string ⟨#[]⟩) (.int .i64 0) (.bool false) (.int .i64 0) (.bool false) 32).below hb1
  have B1 : Hid (Below w.heap.size w w1) := ((Below.refl _ _).alloc (Nat.le_refl _) _).trans (hb1.mono (by simp))
  have SL1 : Hid (SliceS w1 0 vL L.length (atL L)) := by
    obtain ⟨p, cap, e, h⟩ := slice_of_own ho
    exact (⟨p, cap, e, fun hn => by obtain ⟨g, e, _, r⟩ := h hn; exact ⟨g, e, Nat.zero_le _, r⟩⟩ : SliceS w1 0 vL L.length (atL L))
  clear ho hb1 KP
  obtain ⟨pL, cL, rfl, hg⟩ := SL1.out
  obtain ⟨g, rfl, -, hgw, hc⟩ := hg hpos
  have hc0 := (hc 0 hpos).1
  have HC : Hid (∀ j, j < L.length → w1.cell? ⟨g, j, none⟩ = some (.string (atL L j))) := fun j hj => (hc j hj).1
  have lp : (0 : Int) < (L.length : Int) := by omega
  have KQ : Hid (∀ (j : Nat) (W : World), j < L.length → Calls Tryd.prog 57 #[.string (atL L j)] W fun e w' => e = .returned (.agg #[.string (pairP (atL L j)).1, .string (pairP (atL L j)).2]) ∧ Below W.heap.size W w') := fun j W hj => specPair_any (atL L j) W (by have := HSM.out j hj; omega)
  clear hg hc SL1
  have HT0 : Hid (scTo L 0 = ⟨(pairP (atL L 0)).1, (pairP (atL L 0)).2, ⟨#[]⟩, ⟨#[]⟩, -1, false, 0, false⟩) := rfl
  go_wp2_with fail
  refine (KQ.out 0 _ hpos).mono ?_
  rintro e w2 ⟨rfl, hb2⟩
  have RZ2 : Hid (U8 w2 w.heap.size (.string ⟨#[]⟩) (.string ⟨#[]⟩) (.string ⟨#[]⟩) (.string ⟨#[]⟩) (.int .i64 0) (.bool false) (.int .i64 0) (.bool false)) := RZ1.out.below hb2
  have B2 : Hid (Below w.heap.size w w2) := B1.out.trans (hb2.mono B1.out.size)
  have HC2 : Hid (∀ j, j < L.length → w2.cell? ⟨g, j, none⟩ = some (.string (atL L j))) := fun j hj => by rw [(bcell hb2).1 _ _ hgw]; exact HC.out j hj
  have hgw2 : g < w2.heap.size := Nat.lt_of_lt_of_le hgw hb2.size
  clear hb2 HC RZ1 B1 hc0
  generalize (pairP (atL L 0)).1 = n0 at *
  generalize (pairP (atL L 0)).2 = v0 at *
  have z0 : w.heap.size < w2.heap.size := RZ2.out.1
  go_wp2
  have UC0 : Hid (UC ((w2.alloc (.cells #[.string n0, .string v0] 64)).alloc (.cells #[.string n0, .string v0, .string ⟨#[]⟩, .string ⟨#[]⟩, .int .i64 (-1), .bool false, .int .i64 0, .bool false] 32)) (w2.heap.size + 1) (scTo L 0)) := by
    show UC _ _ _
    rw [HT0.out]
    have h := U8.made (w2.alloc (.cells #[.string n0, .string v0] 64)) (.string n0) (.string v0) (.string ⟨#[]⟩) (.string ⟨#[]⟩) (.int .i64 (-1)) (.bool false) (.int .i64 0) (.bool false) 32
    have e : (w2.alloc (.cells #[.string n0, .string v0] 64)).heap.size = w2.heap.size + 1 := by simp
    rw [e] at h
    exact h
  have BB : Hid (∀ o o', Below w2.heap.size w2 ((w2.alloc o).alloc o')) := fun o o' => ((Below.refl _ _).alloc (Nat.le_refl _) _).alloc (by simp) _
  have RZ3 : Hid (U8 ((w2.alloc (.cells #[.string n0, .string v0] 64)).alloc (.cells #[.string n0, .string v0, .string ⟨#[]⟩, .string ⟨#[]⟩, .int .i64 (-1), .bool false, .int .i64 0, .bool false] 32)) w.heap.size (.string ⟨#[]⟩) (.string ⟨#[]⟩) (.string ⟨#[]⟩) (.string ⟨#[]⟩) (.int .i64 0) (.bool false) (.int .i64 0) (.bool false)) := RZ2.out.below (BB.out _ _)
  have HC3 : Hid (∀ j, j < L.length → ((w2.alloc (.cells #[.string n0, .string v0] 64)).alloc (.cells #[.string n0, .string v0, .string ⟨#[]⟩, .string ⟨#[]⟩, .int .i64 (-1), .bool false, .int .i64 0, .bool false] 32)).cell? ⟨g, j, none⟩ = some (.string (atL L j))) := fun j hj => by rw [(bcell (BB.out _ _)).1 _ _ hgw2]; exact HC2.out j hj
  have B3 : Hid (Below w.heap.size w ((w2.alloc (.cells #[.string n0, .string v0] 64)).alloc (.cells #[.string n0, .string v0, .string ⟨#[]⟩, .string ⟨#[]⟩, .int .i64 (-1), .bool false, .int .i64 0, .bool false] 32))) := B2.out.trans ((BB.out _ _).mono B2.out.size)
  have z3 : w2.heap.size + 2 ≤ ((w2.alloc (.cells #[.string n0, .string v0] 64)).alloc (.cells #[.string n0, .string v0, .string ⟨#[]⟩, .string ⟨#[]⟩, .int .i64 (-1), .bool false, .int .i64 0, .bool false] 32)).heap.size := by simp
  clear RZ2 HC2 B2 BB HT0
  generalize ((w2.alloc (.cells #[.string n0, .string v0] 64)).alloc (.cells #[.string n0, .string v0, .string ⟨#[]⟩, .string ⟨#[]⟩, .int .i64 (-1), .bool false, .int .i64 0, .bool false] 32)) = ws at *
  go_loopw [6, 7] (fun i _ wr => ∃ k : Nat, k + 1 ≤ L.length ∧ i = .int .i64 ((k : Int) + 1) ∧ w2.heap.size + 2 ≤ wr.heap.size ∧ Hid (UC wr (w2.heap.size + 1) (scTo L k)) ∧ Hid (∀ j, j < L.length → wr.cell? ⟨g, j, none⟩ = some (.string (atL L j))) ∧ Hid (U8 wr w.heap.size (.string ⟨#[]⟩) (.string ⟨#[]⟩) (.string ⟨#[]⟩) (.string ⟨#[]⟩) (.int .i64 0) (.bool false) (.int .i64 0) (.bool false)) ∧ Hid (Below w.heap.size w wr)) (fun i _ _ => L.length - (intOf i).toNat)
  case atStart => exact ⟨0, by omega, rfl, z3, UC0, HC3, RZ3, B3⟩
  case round =>
    obtain ⟨k, hk, rfl, hz, HU, HCr, HZ, HB⟩ := hrel
    by_cases hlt : k + 1 < L.length
    · have hck := HCr.out (k + 1) hlt
      have k0 : (0 : Int) ≤ (k : Int) + 1 := by omega
      have k1 : (k : Int) + 1 < L.length := by omega
      have KQ1 : Hid (Calls Tryd.prog 57 #[.string (atL L (k + 1))] wr fun e w' => e = .returned (.agg #[.string (pairP (atL L (k + 1))).1, .string (pairP (atL L (k + 1))).2]) ∧ Below wr.heap.size wr w') := KQ.out (k + 1) wr hlt
      have KN : Hid (∀ W, Calls Tryd.prog 80 #[.string (pairP (atL L (k + 1))).2] W fun e w' => e = .returned (.int .i64 (numI (pairP (atL L (k + 1))).2)) ∧ w' = W) := fun W => specNum_any _ W
      have HN : Hid (scTo L (k + 1) = scPut (scTo L k) (atL L (k + 1))) := rfl
      unfold scPut at HN
      generalize pairP (atL L (k + 1)) = pp at *
      obtain ⟨n1, v1⟩ := pp
      have HN1 : Hid (scTo L (k + 1) = if (n1.toList == tDomain) = true then { scTo L k with dm := v1 } else if (n1.toList == tPath) = true then { scTo L k with pa := v1 } else if (n1.toList == tAge) = true then { scTo L k with ag := numI v1 } else if (n1.toList == tSecure) = true then { scTo L k with se := true } else if (n1.toList == tParted) = true then { scTo L k with pt := true } else if (n1.toList == tSame) = true then { scTo L k with mo := if (v1.toList == tStrict) = true then 1 else 2 } else scTo L k) := HN.out
      have KN1 : Hid (∀ W, Calls Tryd.prog 80 #[.string v1] W fun e w' => e = .returned (.int .i64 (numI v1)) ∧ w' = W) := KN.out
      have KQ2 : Hid (Calls Tryd.prog 57 #[.string (atL L (k + 1))] wr fun e w' => e = .returned (.agg #[.string n1, .string v1]) ∧ Below wr.heap.size wr w') := KQ1.out
      clear HN KN KQ1
      generalize scTo L k = c at *
      generalize numI v1 = nv at *
      generalize atL L (k + 1) = x at *
      go_wp2_with fail
      refine KQ2.out.mono ?_
      rintro e w3 ⟨rfl, hb3⟩
      have hg3 : g < wr.heap.size := by omega
      have BA : Hid (∀ o, Below wr.heap.size wr (w3.alloc o)) := fun o => hb3.alloc hb3.size _
      have z3' : wr.heap.size ≤ w3.heap.size := hb3.size
      have U3 : Hid (UC w3 (w2.heap.size + 1) c) := HU.out.below hb3
      have Z3 : Hid (U8 w3 w.heap.size (.string ⟨#[]⟩) (.string ⟨#[]⟩) (.string ⟨#[]⟩) (.string ⟨#[]⟩) (.int .i64 0) (.bool false) (.int .i64 0) (.bool false)) := HZ.out.below hb3
      have C3 : Hid (∀ j, j < L.length → w3.cell? ⟨g, j, none⟩ = some (.string (atL L j))) := fun j hj => by rw [(bcell hb3).1 _ _ hg3]; exact HCr.out j hj
      have B4 : Hid (Below w.heap.size w w3) := HB.out.trans (hb3.mono HB.out.size)
      have hg4 : g < w3.heap.size := by omega
      have NW : Hid (∀ (W : World) o, Below W.heap.size W (W.alloc o)) := fun W o => (Below.refl _ _).alloc (Nat.le_refl _) _
      obtain ⟨-, ⟨d0, d1, d2, d3, d4, d5, d6, d7⟩, df⟩ := HU.out.below hb3
      have zb : w2.heap.size + 1 < w3.heap.size := by omega
      clear hb3 hck
      cases e0 : (n1.toList == tDomain) with
      | true =>
        have f0 : (n1.toList == [68, 111, 109, 97, 105, 110]) = true := e0
        have HX : Hid (scTo L (k + 1) = { c with dm := v1 }) := by show _ = _; rw [HN1.out, if_pos e0]
        go_wp2_with fail
        go_roundw
        case rel =>
          refine ⟨k + 1, by omega, by go_num, by simp [World.setCell]; omega, ?_, ?_, ?_, ?_⟩
          · show UC _ _ _
            rw [HX.out]
            exact U8.below (U8.set2 U3.out (.string v1)) (NW.out _ _)
          · intro j hj
            rw [(bcell (NW.out _ _)).1 _ _ (by simpa [World.setCell] using hg4)]
            exact (World.cell?_setCell_far _ _ _ _ (by show ¬ w2.heap.size + 1 = g; omega)).trans (C3.out j hj)
          · exact U8.below (U8.far Z3.out (p := ⟨w2.heap.size + 1, 2, none⟩) (by show ¬ w2.heap.size + 1 = w.heap.size; omega) (.string v1)) (NW.out _ _)
          · exact Below.trans (Below.setCell B4.out (p := ⟨w2.heap.size + 1, 2, none⟩) (by show w.heap.size ≤ w2.heap.size + 1; omega) (.string v1)) ((NW.out _ _).mono (by have := B4.out.size; simp [World.setCell]; omega))
        case measure => simp [intOf]; omega
      | false =>
        have f0 : (n1.toList == [68, 111, 109, 97, 105, 110]) = false := e0
        cases e1 : (n1.toList == tPath) with
        | true =>
          have f1 : (n1.toList == [80, 97, 116, 104]) = true := e1
          have f0 : (n1.toList == [68, 111, 109, 97, 105, 110]) = false := e0
          have HX : Hid (scTo L (k + 1) = { c with pa := v1 }) := by show _ = _; rw [HN1.out, if_neg (by rw [e0]; decide), if_pos e1]
          go_wp2_with fail
          go_roundw
          case rel =>
            refine ⟨k + 1, by omega, by go_num, by simp [World.setCell]; omega, ?_, ?_, ?_, ?_⟩
            · show UC _ _ _
              rw [HX.out]
              exact U8.below (U8.set3 U3.out (.string v1)) (NW.out _ _)
            · intro j hj
              rw [(bcell (NW.out _ _)).1 _ _ (by simpa [World.setCell] using hg4)]
              exact (World.cell?_setCell_far _ _ _ _ (by show ¬ w2.heap.size + 1 = g; omega)).trans (C3.out j hj)
            · exact U8.below (U8.far Z3.out (p := ⟨w2.heap.size + 1, 3, none⟩) (by show ¬ w2.heap.size + 1 = w.heap.size; omega) (.string v1)) (NW.out _ _)
            · exact Below.trans (Below.setCell B4.out (p := ⟨w2.heap.size + 1, 3, none⟩) (by show w.heap.size ≤ w2.heap.size + 1; omega) (.string v1)) ((NW.out _ _).mono (by have := B4.out.size; simp [World.setCell]; omega))
          case measure => simp [intOf]; omega
        | false =>
          have f1 : (n1.toList == [80, 97, 116, 104]) = false := e1
          cases e2 : (n1.toList == tAge) with
          | true =>
            have f2 : (n1.toList == [77, 97, 120, 45, 65, 103, 101]) = true := e2
            have f0 : (n1.toList == [68, 111, 109, 97, 105, 110]) = false := e0
            have f1 : (n1.toList == [80, 97, 116, 104]) = false := e1
            have HX : Hid (scTo L (k + 1) = { c with ag := nv }) := by show _ = _; rw [HN1.out, if_neg (by rw [e0]; decide), if_neg (by rw [e1]; decide), if_pos e2]
            go_wp2_with (go_at_call 80; refine (KN1.out _).mono ?_; rintro e w4 ⟨rfl, rfl⟩)
            go_roundw
            case rel =>
              refine ⟨k + 1, by omega, by go_num, by simp [World.setCell]; omega, ?_, ?_, ?_, ?_⟩
              · show UC _ _ _
                rw [HX.out]
                exact U8.below (U8.set4 U3.out (.int .i64 nv)) (NW.out _ _)
              · intro j hj
                rw [(bcell (NW.out _ _)).1 _ _ (by simpa [World.setCell] using hg4)]
                exact (World.cell?_setCell_far _ _ _ _ (by show ¬ w2.heap.size + 1 = g; omega)).trans (C3.out j hj)
              · exact U8.below (U8.far Z3.out (p := ⟨w2.heap.size + 1, 4, none⟩) (by show ¬ w2.heap.size + 1 = w.heap.size; omega) (.int .i64 nv)) (NW.out _ _)
              · exact Below.trans (Below.setCell B4.out (p := ⟨w2.heap.size + 1, 4, none⟩) (by show w.heap.size ≤ w2.heap.size + 1; omega) (.int .i64 nv)) ((NW.out _ _).mono (by have := B4.out.size; simp [World.setCell]; omega))
            case measure => simp [intOf]; omega
          | false =>
            have f2 : (n1.toList == [77, 97, 120, 45, 65, 103, 101]) = false := e2
            cases e3 : (n1.toList == tSecure) with
            | true =>
              have f3 : (n1.toList == [83, 101, 99, 117, 114, 101]) = true := e3
              have f0 : (n1.toList == [68, 111, 109, 97, 105, 110]) = false := e0
              have f1 : (n1.toList == [80, 97, 116, 104]) = false := e1
              have f2 : (n1.toList == [77, 97, 120, 45, 65, 103, 101]) = false := e2
              have HX : Hid (scTo L (k + 1) = { c with se := true }) := by show _ = _; rw [HN1.out, if_neg (by rw [e0]; decide), if_neg (by rw [e1]; decide), if_neg (by rw [e2]; decide), if_pos e3]
              go_wp2_with fail
              go_roundw
              case rel =>
                refine ⟨k + 1, by omega, by go_num, by simp [World.setCell]; omega, ?_, ?_, ?_, ?_⟩
                · show UC _ _ _
                  rw [HX.out]
                  exact U8.below (U8.set5 U3.out (.bool true)) (NW.out _ _)
                · intro j hj
                  rw [(bcell (NW.out _ _)).1 _ _ (by simpa [World.setCell] using hg4)]
                  exact (World.cell?_setCell_far _ _ _ _ (by show ¬ w2.heap.size + 1 = g; omega)).trans (C3.out j hj)
                · exact U8.below (U8.far Z3.out (p := ⟨w2.heap.size + 1, 5, none⟩) (by show ¬ w2.heap.size + 1 = w.heap.size; omega) (.bool true)) (NW.out _ _)
                · exact Below.trans (Below.setCell B4.out (p := ⟨w2.heap.size + 1, 5, none⟩) (by show w.heap.size ≤ w2.heap.size + 1; omega) (.bool true)) ((NW.out _ _).mono (by have := B4.out.size; simp [World.setCell]; omega))
              case measure => simp [intOf]; omega
            | false =>
              have f3 : (n1.toList == [83, 101, 99, 117, 114, 101]) = false := e3
              cases e4 : (n1.toList == tParted) with
              | true =>
                have f4 : (n1.toList == [80, 97, 114, 116, 105, 116, 105, 111, 110, 101, 100]) = true := e4
                have f0 : (n1.toList == [68, 111, 109, 97, 105, 110]) = false := e0
                have f1 : (n1.toList == [80, 97, 116, 104]) = false := e1
                have f2 : (n1.toList == [77, 97, 120, 45, 65, 103, 101]) = false := e2
                have f3 : (n1.toList == [83, 101, 99, 117, 114, 101]) = false := e3
                have HX : Hid (scTo L (k + 1) = { c with pt := true }) := by show _ = _; rw [HN1.out, if_neg (by rw [e0]; decide), if_neg (by rw [e1]; decide), if_neg (by rw [e2]; decide), if_neg (by rw [e3]; decide), if_pos e4]
                go_wp2_with fail
                go_roundw
                case rel =>
                  refine ⟨k + 1, by omega, by go_num, by simp [World.setCell]; omega, ?_, ?_, ?_, ?_⟩
                  · show UC _ _ _
                    rw [HX.out]
                    exact U8.below (U8.set7 U3.out (.bool true)) (NW.out _ _)
                  · intro j hj
                    rw [(bcell (NW.out _ _)).1 _ _ (by simpa [World.setCell] using hg4)]
                    exact (World.cell?_setCell_far _ _ _ _ (by show ¬ w2.heap.size + 1 = g; omega)).trans (C3.out j hj)
                  · exact U8.below (U8.far Z3.out (p := ⟨w2.heap.size + 1, 7, none⟩) (by show ¬ w2.heap.size + 1 = w.heap.size; omega) (.bool true)) (NW.out _ _)
                  · exact Below.trans (Below.setCell B4.out (p := ⟨w2.heap.size + 1, 7, none⟩) (by show w.heap.size ≤ w2.heap.size + 1; omega) (.bool true)) ((NW.out _ _).mono (by have := B4.out.size; simp [World.setCell]; omega))
                case measure => simp [intOf]; omega
              | false =>
                have f4 : (n1.toList == [80, 97, 114, 116, 105, 116, 105, 111, 110, 101, 100]) = false := e4
                cases e5 : (n1.toList == tSame) with
                | true =>
                  have f5 : (n1.toList == [83, 97, 109, 101, 83, 105, 116, 101]) = true := e5
                  have f0 : (n1.toList == [68, 111, 109, 97, 105, 110]) = false := e0
                  have f1 : (n1.toList == [80, 97, 116, 104]) = false := e1
                  have f2 : (n1.toList == [77, 97, 120, 45, 65, 103, 101]) = false := e2
                  have f3 : (n1.toList == [83, 101, 99, 117, 114, 101]) = false := e3
                  have f4 : (n1.toList == [80, 97, 114, 116, 105, 116, 105, 111, 110, 101, 100]) = false := e4
                  cases eS : (v1.toList == tStrict) with
                  | true =>
                    have fS : (v1.toList == [83, 116, 114, 105, 99, 116]) = true := eS
                    have HX : Hid (scTo L (k + 1) = { c with mo := 1 }) := by show _ = _; rw [HN1.out, if_neg (by rw [e0]; decide), if_neg (by rw [e1]; decide), if_neg (by rw [e2]; decide), if_neg (by rw [e3]; decide), if_neg (by rw [e4]; decide), if_pos e5, if_pos eS]
                    go_wp2_with fail
                    go_roundw
                    case rel =>
                      refine ⟨k + 1, by omega, by go_num, by simp [World.setCell]; omega, ?_, ?_, ?_, ?_⟩
                      · show UC _ _ _
                        rw [HX.out]
                        exact U8.below (U8.set6 (U8.set6 U3.out (.int .i64 2)) (.int .i64 1)) (NW.out _ _)
                      · intro j hj
                        rw [(bcell (NW.out _ _)).1 _ _ (by simpa [World.setCell] using hg4)]
                        exact (World.cell?_setCell_far _ _ _ _ (by show ¬ w2.heap.size + 1 = g; omega)).trans ((World.cell?_setCell_far _ _ _ _ (by show ¬ w2.heap.size + 1 = g; omega)).trans (C3.out j hj))
                      · exact U8.below (U8.far (U8.far Z3.out (p := ⟨w2.heap.size + 1, 6, none⟩) (by show ¬ w2.heap.size + 1 = w.heap.size; omega) (.int .i64 2)) (p := ⟨w2.heap.size + 1, 6, none⟩) (by show ¬ w2.heap.size + 1 = w.heap.size; omega) (.int .i64 1)) (NW.out _ _)
                      · exact Below.trans (Below.setCell (Below.setCell B4.out (p := ⟨w2.heap.size + 1, 6, none⟩) (by show w.heap.size ≤ w2.heap.size + 1; omega) (.int .i64 2)) (p := ⟨w2.heap.size + 1, 6, none⟩) (by show w.heap.size ≤ w2.heap.size + 1; omega) (.int .i64 1)) ((NW.out _ _).mono (by have := B4.out.size; simp [World.setCell]; omega))
                    case measure => simp [intOf]; omega
                  | false =>
                    have fS : (v1.toList == [83, 116, 114, 105, 99, 116]) = false := eS
                    have HX : Hid (scTo L (k + 1) = { c with mo := 2 }) := by show _ = _; rw [HN1.out, if_neg (by rw [e0]; decide), if_neg (by rw [e1]; decide), if_neg (by rw [e2]; decide), if_neg (by rw [e3]; decide), if_neg (by rw [e4]; decide), if_pos e5, if_neg (by rw [eS]; decide)]
                    go_wp2_with fail
                    go_roundw
                    case rel =>
                      refine ⟨k + 1, by omega, by go_num, by simp [World.setCell]; omega, ?_, ?_, ?_, ?_⟩
                      · show UC _ _ _
                        rw [HX.out]
                        exact U8.below (U8.set6 U3.out (.int .i64 2)) (NW.out _ _)
                      · intro j hj
                        rw [(bcell (NW.out _ _)).1 _ _ (by simpa [World.setCell] using hg4)]
                        exact (World.cell?_setCell_far _ _ _ _ (by show ¬ w2.heap.size + 1 = g; omega)).trans (C3.out j hj)
                      · exact U8.below (U8.far Z3.out (p := ⟨w2.heap.size + 1, 6, none⟩) (by show ¬ w2.heap.size + 1 = w.heap.size; omega) (.int .i64 2)) (NW.out _ _)
                      · exact Below.trans (Below.setCell B4.out (p := ⟨w2.heap.size + 1, 6, none⟩) (by show w.heap.size ≤ w2.heap.size + 1; omega) (.int .i64 2)) ((NW.out _ _).mono (by have := B4.out.size; simp [World.setCell]; omega))
                    case measure => simp [intOf]; omega
                | false =>
                  have f5 : (n1.toList == [83, 97, 109, 101, 83, 105, 116, 101]) = false := e5
                  have HX : Hid (scTo L (k + 1) = c) := by show _ = _; rw [HN1.out, if_neg (by rw [e0]; decide), if_neg (by rw [e1]; decide), if_neg (by rw [e2]; decide), if_neg (by rw [e3]; decide), if_neg (by rw [e4]; decide), if_neg (by rw [e5]; decide)]
                  go_wp2_with fail
                  go_roundw
                  case rel =>
                    refine ⟨k + 1, by omega, by go_num, by simp; omega, ?_, ?_, ?_, ?_⟩
                    · show UC _ _ _
                      rw [HX.out]
                      exact U8.below U3.out (NW.out _ _)
                    · intro j hj
                      rw [(bcell (NW.out _ _)).1 _ _ (by simpa [World.setCell] using hg4)]
                      exact C3.out j hj
                    · exact U8.below Z3.out (NW.out _ _)
                    · exact Below.trans B4.out ((NW.out _ _).mono (by have := B4.out.size; simp; omega))
                  case measure => simp [intOf]; omega
    · have HX : Hid (RR = scTo L k) := by show _ = _; rw [HE.out, show L.length - 1 = k by omega]
      have q9 : ¬ (k : Int) + 1 < L.length := by omega
      obtain ⟨hu, ⟨d0, d1, d2, d3, d4, d5, d6, d7⟩, df⟩ := HU.out
      obtain ⟨hzz, ⟨g0, g1, g2, g3, g4, g5, g6, g7⟩, gf⟩ := HZ.out
      generalize scTo L k = c at *
      go_wp2
      have FR := (U8.set7 (U8.set6 (U8.set5 (U8.set4 (U8.set3 (U8.set2 (U8.set1 (U8.set0 HZ.out (.string c.na)) (.string c.va)) (.string c.dm)) (.string c.pa)) (.int .i64 c.ag)) (.bool c.se)) (.int .i64 c.mo)) (.bool c.pt))
      have FB := (Below.setCell (Below.setCell (Below.setCell (Below.setCell (Below.setCell (Below.setCell (Below.setCell (Below.setCell HB.out (p := ⟨w.heap.size, 0, none⟩) (Nat.le_refl _) (.string c.na)) (p := ⟨w.heap.size, 1, none⟩) (Nat.le_refl _) (.string c.va)) (p := ⟨w.heap.size, 2, none⟩) (Nat.le_refl _) (.string c.dm)) (p := ⟨w.heap.size, 3, none⟩) (Nat.le_refl _) (.string c.pa)) (p := ⟨w.heap.size, 4, none⟩) (Nat.le_refl _) (.int .i64 c.ag)) (p := ⟨w.heap.size, 5, none⟩) (Nat.le_refl _) (.bool c.se)) (p := ⟨w.heap.size, 6, none⟩) (Nat.le_refl _) (.int .i64 c.mo)) (p := ⟨w.heap.size, 7, none⟩) (Nat.le_refl _) (.bool c.pt))
      generalize ((((((((wr.setCell ⟨w.heap.size, 0, none⟩ (.string c.na)).setCell ⟨w.heap.size, 1, none⟩ (.string c.va)).setCell ⟨w.heap.size, 2, none⟩ (.string c.dm)).setCell ⟨w.heap.size, 3, none⟩ (.string c.pa)).setCell ⟨w.heap.size, 4, none⟩ (.int .i64 c.ag)).setCell ⟨w.heap.size, 5, none⟩ (.bool c.se)).setCell ⟨w.heap.size, 6, none⟩ (.int .i64 c.mo)).setCell ⟨w.heap.size, 7, none⟩ (.bool c.pt)) = W at *
      obtain ⟨hy, ⟨f0, f1, f2, f3, f4, f5, f6, f7⟩, _⟩ := FR
      exact bodyPost_ret (v := scV c) (by simp [scV, setV, results, Tryd.results53, go_sem, f0, f1, f2, f3, f4, f5, f6, f7]) rfl ⟨by rw [HX.out], FB⟩
end Go.Proofs.YthcpmbolnmlohaaDoor

/- The walk of the specification's SetRead. -/
namespace Go.Proofs.YthcpmbolnmlohaaDoor
open Go.RowKit

def scZ : SC := ⟨⟨#[]⟩, ⟨#[]⟩, ⟨#[]⟩, ⟨#[]⟩, 0, false, 0, false⟩
/-- a SetOut, as a value -/
def scOutV (c : SC) (code : Int) : Value := .agg #[.string c.na, .string c.va, .string c.dm, .string c.pa, .int .i64 c.ag, .bool c.se, .int .i64 c.mo, .bool c.pt, .int .i64 code]
def scTx (c : SC) : ByteArray := setTx c.na c.va c.dm c.pa c.ag c.se c.mo c.pt
/-- is it the text of what is read of it? -/
def scOk (t : ByteArray) : Bool := !t.toList.isEmpty && ((scTx (scRead t)).toList == t.toList)
/-- what SetRead tells -/
def scGot (t : ByteArray) : SC × Int := if 8000 < t.size then (scZ, 2) else if scOk t = true then (scRead t, 0) else (scZ, 3)
theorem scTo_na (L : List ByteArray) : ∀ i, (scTo L i).na = (pairP (atL L 0)).1 ∧ (scTo L i).va = (pairP (atL L 0)).2
  | 0 => ⟨rfl, rfl⟩
  | i + 1 => by
    have ih := scTo_na L i
    rw [scTo]
    unfold scPut
    split
    · exact ih
    · split
      · exact ih
      · split
        · exact ih
        · split
          · exact ih
          · split
            · exact ih
            · split
              · exact ih
              · exact ih
theorem scRead_small {t : ByteArray} : (scRead t).na.size ≤ t.size ∧ (scRead t).va.size ≤ t.size := by
  have h := scTo_na (piecesL t) ((piecesL t).length - 1)
  unfold scRead
  rw [h.1, h.2]
  have hp := pairP_size (atL (piecesL t) 0)
  have hl : (atL (piecesL t) 0).size ≤ t.size := by
    by_cases h0 : 0 < (piecesL t).length
    · have e : atL (piecesL t) 0 = (piecesL t)[0] := by simp [atL, h0]
      rw [e]; exact piecesL_small t _ (List.getElem_mem h0)
    · have e : atL (piecesL t) 0 = ⟨#[]⟩ := by simp [atL, h0]
      rw [e]; exact Nat.zero_le _
  omega
/-- nine cells in block b, none of them frozen -/
def U9 (w : World) (b : Nat) (v0 v1 v2 v3 v4 v5 v6 v7 v8 : Value) : Prop := b < w.heap.size ∧ (w.cell? ⟨b, 0, none⟩ = some v0 ∧ w.cell? ⟨b, 1, none⟩ = some v1 ∧ w.cell? ⟨b, 2, none⟩ = some v2 ∧ w.cell? ⟨b, 3, none⟩ = some v3 ∧ w.cell? ⟨b, 4, none⟩ = some v4 ∧ w.cell? ⟨b, 5, none⟩ = some v5 ∧ w.cell? ⟨b, 6, none⟩ = some v6 ∧ w.cell? ⟨b, 7, none⟩ = some v7 ∧ w.cell? ⟨b, 8, none⟩ = some v8) ∧ ∀ o, w.frozen? ⟨b, o, none⟩ = false
theorem U9.below {w w' : World} {b : Nat} {v0 v1 v2 v3 v4 v5 v6 v7 v8 : Value} (h : U9 w b v0 v1 v2 v3 v4 v5 v6 v7 v8) (hb : Below w.heap.size w w') : U9 w' b v0 v1 v2 v3 v4 v5 v6 v7 v8 := by
  obtain ⟨hz, ⟨c0, c1, c2, c3, c4, c5, c6, c7, c8⟩, hf⟩ := h
  exact ⟨Nat.lt_of_lt_of_le hz hb.size, ⟨by rw [(bcell hb).1 _ _ hz]; exact c0, by rw [(bcell hb).1 _ _ hz]; exact c1, by rw [(bcell hb).1 _ _ hz]; exact c2, by rw [(bcell hb).1 _ _ hz]; exact c3, by rw [(bcell hb).1 _ _ hz]; exact c4, by rw [(bcell hb).1 _ _ hz]; exact c5, by rw [(bcell hb).1 _ _ hz]; exact c6, by rw [(bcell hb).1 _ _ hz]; exact c7, by rw [(bcell hb).1 _ _ hz]; exact c8⟩, fun o => by rw [(bcell hb).2 _ _ hz]; exact hf o⟩
theorem U9.made (w : World) (v0 v1 v2 v3 v4 v5 v6 v7 v8 : Value) (t : TypeId) : U9 (w.alloc (.cells #[v0, v1, v2, v3, v4, v5, v6, v7, v8] t)) w.heap.size v0 v1 v2 v3 v4 v5 v6 v7 v8 :=
  ⟨by simp, ⟨by simp, by simp, by simp, by simp, by simp, by simp, by simp, by simp, by simp⟩, by simp⟩
theorem U9.set0 {w : World} {b : Nat} {v0 v1 v2 v3 v4 v5 v6 v7 v8 : Value} (h : U9 w b v0 v1 v2 v3 v4 v5 v6 v7 v8) (v : Value) : U9 (w.setCell ⟨b, 0, none⟩ v) b v v1 v2 v3 v4 v5 v6 v7 v8 := by
  obtain ⟨hb, ⟨c0, c1, c2, c3, c4, c5, c6, c7, c8⟩, hf⟩ := h
  refine ⟨by simpa [World.setCell] using hb, ⟨?_, ?_, ?_, ?_, ?_, ?_, ?_, ?_, ?_⟩, ?_⟩
  · exact World.cell?_setCell_same _ _ _ c0
  · exact (World.cell?_setCell_other _ _ _ _ (by simp)).trans c1
  · exact (World.cell?_setCell_other _ _ _ _ (by simp)).trans c2
  · exact (World.cell?_setCell_other _ _ _ _ (by simp)).trans c3
  · exact (World.cell?_setCell_other _ _ _ _ (by simp)).trans c4
  · exact (World.cell?_setCell_other _ _ _ _ (by simp)).trans c5
  · exact (World.cell?_setCell_other _ _ _ _ (by simp)).trans c6
  · exact (World.cell?_setCell_other _ _ _ _ (by simp)).trans c7
  · exact (World.cell?_setCell_other _ _ _ _ (by simp)).trans c8
  · intro o; rw [World.frozen?_setCell]; exact hf o
theorem U9.set1 {w : World} {b : Nat} {v0 v1 v2 v3 v4 v5 v6 v7 v8 : Value} (h : U9 w b v0 v1 v2 v3 v4 v5 v6 v7 v8) (v : Value) : U9 (w.setCell ⟨b, 1, none⟩ v) b v0 v v2 v3 v4 v5 v6 v7 v8 := by
  obtain ⟨hb, ⟨c0, c1, c2, c3, c4, c5, c6, c7, c8⟩, hf⟩ := h
  refine ⟨by simpa [World.setCell] using hb, ⟨?_, ?_, ?_, ?_, ?_, ?_, ?_, ?_, ?_⟩, ?_⟩
  · exact (World.cell?_setCell_other _ _ _ _ (by simp)).trans c0
  · exact World.cell?_setCell_same _ _ _ c1
  · exact (World.cell?_setCell_other _ _ _ _ (by simp)).trans c2
  · exact (World.cell?_setCell_other _ _ _ _ (by simp)).trans c3
  · exact (World.cell?_setCell_other _ _ _ _ (by simp)).trans c4
  · exact (World.cell?_setCell_other _ _ _ _ (by simp)).trans c5
  · exact (World.cell?_setCell_other _ _ _ _ (by simp)).trans c6
  · exact (World.cell?_setCell_other _ _ _ _ (by simp)).trans c7
  · exact (World.cell?_setCell_other _ _ _ _ (by simp)).trans c8
  · intro o; rw [World.frozen?_setCell]; exact hf o
theorem U9.set2 {w : World} {b : Nat} {v0 v1 v2 v3 v4 v5 v6 v7 v8 : Value} (h : U9 w b v0 v1 v2 v3 v4 v5 v6 v7 v8) (v : Value) : U9 (w.setCell ⟨b, 2, none⟩ v) b v0 v1 v v3 v4 v5 v6 v7 v8 := by
  obtain ⟨hb, ⟨c0, c1, c2, c3, c4, c5, c6, c7, c8⟩, hf⟩ := h
  refine ⟨by simpa [World.setCell] using hb, ⟨?_, ?_, ?_, ?_, ?_, ?_, ?_, ?_, ?_⟩, ?_⟩
  · exact (World.cell?_setCell_other _ _ _ _ (by simp)).trans c0
  · exact (World.cell?_setCell_other _ _ _ _ (by simp)).trans c1
  · exact World.cell?_setCell_same _ _ _ c2
  · exact (World.cell?_setCell_other _ _ _ _ (by simp)).trans c3
  · exact (World.cell?_setCell_other _ _ _ _ (by simp)).trans c4
  · exact (World.cell?_setCell_other _ _ _ _ (by simp)).trans c5
  · exact (World.cell?_setCell_other _ _ _ _ (by simp)).trans c6
  · exact (World.cell?_setCell_other _ _ _ _ (by simp)).trans c7
  · exact (World.cell?_setCell_other _ _ _ _ (by simp)).trans c8
  · intro o; rw [World.frozen?_setCell]; exact hf o
theorem U9.set3 {w : World} {b : Nat} {v0 v1 v2 v3 v4 v5 v6 v7 v8 : Value} (h : U9 w b v0 v1 v2 v3 v4 v5 v6 v7 v8) (v : Value) : U9 (w.setCell ⟨b, 3, none⟩ v) b v0 v1 v2 v v4 v5 v6 v7 v8 := by
  obtain ⟨hb, ⟨c0, c1, c2, c3, c4, c5, c6, c7, c8⟩, hf⟩ := h
  refine ⟨by simpa [World.setCell] using hb, ⟨?_, ?_, ?_, ?_, ?_, ?_, ?_, ?_, ?_⟩, ?_⟩
  · exact (World.cell?_setCell_other _ _ _ _ (by simp)).trans c0
  · exact (World.cell?_setCell_other _ _ _ _ (by simp)).trans c1
  · exact (World.cell?_setCell_other _ _ _ _ (by simp)).trans c2
  · exact World.cell?_setCell_same _ _ _ c3
  · exact (World.cell?_setCell_other _ _ _ _ (by simp)).trans c4
  · exact (World.cell?_setCell_other _ _ _ _ (by simp)).trans c5
  · exact (World.cell?_setCell_other _ _ _ _ (by simp)).trans c6
  · exact (World.cell?_setCell_other _ _ _ _ (by simp)).trans c7
  · exact (World.cell?_setCell_other _ _ _ _ (by simp)).trans c8
  · intro o; rw [World.frozen?_setCell]; exact hf o
theorem U9.set4 {w : World} {b : Nat} {v0 v1 v2 v3 v4 v5 v6 v7 v8 : Value} (h : U9 w b v0 v1 v2 v3 v4 v5 v6 v7 v8) (v : Value) : U9 (w.setCell ⟨b, 4, none⟩ v) b v0 v1 v2 v3 v v5 v6 v7 v8 := by
  obtain ⟨hb, ⟨c0, c1, c2, c3, c4, c5, c6, c7, c8⟩, hf⟩ := h
  refine ⟨by simpa [World.setCell] using hb, ⟨?_, ?_, ?_, ?_, ?_, ?_, ?_, ?_, ?_⟩, ?_⟩
  · exact (World.cell?_setCell_other _ _ _ _ (by simp)).trans c0
  · exact (World.cell?_setCell_other _ _ _ _ (by simp)).trans c1
  · exact (World.cell?_setCell_other _ _ _ _ (by simp)).trans c2
  · exact (World.cell?_setCell_other _ _ _ _ (by simp)).trans c3
  · exact World.cell?_setCell_same _ _ _ c4
  · exact (World.cell?_setCell_other _ _ _ _ (by simp)).trans c5
  · exact (World.cell?_setCell_other _ _ _ _ (by simp)).trans c6
  · exact (World.cell?_setCell_other _ _ _ _ (by simp)).trans c7
  · exact (World.cell?_setCell_other _ _ _ _ (by simp)).trans c8
  · intro o; rw [World.frozen?_setCell]; exact hf o
theorem U9.set5 {w : World} {b : Nat} {v0 v1 v2 v3 v4 v5 v6 v7 v8 : Value} (h : U9 w b v0 v1 v2 v3 v4 v5 v6 v7 v8) (v : Value) : U9 (w.setCell ⟨b, 5, none⟩ v) b v0 v1 v2 v3 v4 v v6 v7 v8 := by
  obtain ⟨hb, ⟨c0, c1, c2, c3, c4, c5, c6, c7, c8⟩, hf⟩ := h
  refine ⟨by simpa [World.setCell] using hb, ⟨?_, ?_, ?_, ?_, ?_, ?_, ?_, ?_, ?_⟩, ?_⟩
  · exact (World.cell?_setCell_other _ _ _ _ (by simp)).trans c0
  · exact (World.cell?_setCell_other _ _ _ _ (by simp)).trans c1
  · exact (World.cell?_setCell_other _ _ _ _ (by simp)).trans c2
  · exact (World.cell?_setCell_other _ _ _ _ (by simp)).trans c3
  · exact (World.cell?_setCell_other _ _ _ _ (by simp)).trans c4
  · exact World.cell?_setCell_same _ _ _ c5
  · exact (World.cell?_setCell_other _ _ _ _ (by simp)).trans c6
  · exact (World.cell?_setCell_other _ _ _ _ (by simp)).trans c7
  · exact (World.cell?_setCell_other _ _ _ _ (by simp)).trans c8
  · intro o; rw [World.frozen?_setCell]; exact hf o
theorem U9.set6 {w : World} {b : Nat} {v0 v1 v2 v3 v4 v5 v6 v7 v8 : Value} (h : U9 w b v0 v1 v2 v3 v4 v5 v6 v7 v8) (v : Value) : U9 (w.setCell ⟨b, 6, none⟩ v) b v0 v1 v2 v3 v4 v5 v v7 v8 := by
  obtain ⟨hb, ⟨c0, c1, c2, c3, c4, c5, c6, c7, c8⟩, hf⟩ := h
  refine ⟨by simpa [World.setCell] using hb, ⟨?_, ?_, ?_, ?_, ?_, ?_, ?_, ?_, ?_⟩, ?_⟩
  · exact (World.cell?_setCell_other _ _ _ _ (by simp)).trans c0
  · exact (World.cell?_setCell_other _ _ _ _ (by simp)).trans c1
  · exact (World.cell?_setCell_other _ _ _ _ (by simp)).trans c2
  · exact (World.cell?_setCell_other _ _ _ _ (by simp)).trans c3
  · exact (World.cell?_setCell_other _ _ _ _ (by simp)).trans c4
  · exact (World.cell?_setCell_other _ _ _ _ (by simp)).trans c5
  · exact World.cell?_setCell_same _ _ _ c6
  · exact (World.cell?_setCell_other _ _ _ _ (by simp)).trans c7
  · exact (World.cell?_setCell_other _ _ _ _ (by simp)).trans c8
  · intro o; rw [World.frozen?_setCell]; exact hf o
theorem U9.set7 {w : World} {b : Nat} {v0 v1 v2 v3 v4 v5 v6 v7 v8 : Value} (h : U9 w b v0 v1 v2 v3 v4 v5 v6 v7 v8) (v : Value) : U9 (w.setCell ⟨b, 7, none⟩ v) b v0 v1 v2 v3 v4 v5 v6 v v8 := by
  obtain ⟨hb, ⟨c0, c1, c2, c3, c4, c5, c6, c7, c8⟩, hf⟩ := h
  refine ⟨by simpa [World.setCell] using hb, ⟨?_, ?_, ?_, ?_, ?_, ?_, ?_, ?_, ?_⟩, ?_⟩
  · exact (World.cell?_setCell_other _ _ _ _ (by simp)).trans c0
  · exact (World.cell?_setCell_other _ _ _ _ (by simp)).trans c1
  · exact (World.cell?_setCell_other _ _ _ _ (by simp)).trans c2
  · exact (World.cell?_setCell_other _ _ _ _ (by simp)).trans c3
  · exact (World.cell?_setCell_other _ _ _ _ (by simp)).trans c4
  · exact (World.cell?_setCell_other _ _ _ _ (by simp)).trans c5
  · exact (World.cell?_setCell_other _ _ _ _ (by simp)).trans c6
  · exact World.cell?_setCell_same _ _ _ c7
  · exact (World.cell?_setCell_other _ _ _ _ (by simp)).trans c8
  · intro o; rw [World.frozen?_setCell]; exact hf o
theorem U9.set8 {w : World} {b : Nat} {v0 v1 v2 v3 v4 v5 v6 v7 v8 : Value} (h : U9 w b v0 v1 v2 v3 v4 v5 v6 v7 v8) (v : Value) : U9 (w.setCell ⟨b, 8, none⟩ v) b v0 v1 v2 v3 v4 v5 v6 v7 v := by
  obtain ⟨hb, ⟨c0, c1, c2, c3, c4, c5, c6, c7, c8⟩, hf⟩ := h
  refine ⟨by simpa [World.setCell] using hb, ⟨?_, ?_, ?_, ?_, ?_, ?_, ?_, ?_, ?_⟩, ?_⟩
  · exact (World.cell?_setCell_other _ _ _ _ (by simp)).trans c0
  · exact (World.cell?_setCell_other _ _ _ _ (by simp)).trans c1
  · exact (World.cell?_setCell_other _ _ _ _ (by simp)).trans c2
  · exact (World.cell?_setCell_other _ _ _ _ (by simp)).trans c3
  · exact (World.cell?_setCell_other _ _ _ _ (by simp)).trans c4
  · exact (World.cell?_setCell_other _ _ _ _ (by simp)).trans c5
  · exact (World.cell?_setCell_other _ _ _ _ (by simp)).trans c6
  · exact (World.cell?_setCell_other _ _ _ _ (by simp)).trans c7
  · exact World.cell?_setCell_same _ _ _ c8
  · intro o; rw [World.frozen?_setCell]; exact hf o
set_option maxRecDepth 10000 in
set_option maxHeartbeats 4000000 in
theorem specSetRead_any (t : ByteArray) (w : World) :
    Calls Tryd.prog 22 #[.string t] w fun e w' => e = .returned (scOutV (scGot t).1 (scGot t).2) ∧ Below w.heap.size w w' := by
  have B0 : Hid (∀ ty, Below w.heap.size w (w.alloc (.cells #[.string ⟨#[]⟩, .string ⟨#[]⟩, .string ⟨#[]⟩, .string ⟨#[]⟩, .int .i64 0, .bool false, .int .i64 0, .bool false, .int .i64 0] ty))) := fun ty => (Below.refl _ _).alloc (Nat.le_refl _) _
  have UZ : Hid (∀ ty, U9 (w.alloc (.cells #[.string ⟨#[]⟩, .string ⟨#[]⟩, .string ⟨#[]⟩, .string ⟨#[]⟩, .int .i64 0, .bool false, .int .i64 0, .bool false, .int .i64 0] ty)) w.heap.size (.string ⟨#[]⟩) (.string ⟨#[]⟩) (.string ⟨#[]⟩) (.string ⟨#[]⟩) (.int .i64 0) (.bool false) (.int .i64 0) (.bool false) (.int .i64 0)) := fun ty => U9.made w (.string ⟨#[]⟩) (.string ⟨#[]⟩) (.string ⟨#[]⟩) (.string ⟨#[]⟩) (.int .i64 0) (.bool false) (.int .i64 0) (.bool false) (.int .i64 0) ty
  by_cases h8 : 8000 < t.size
  · have HX : Hid (scGot t = (scZ, 2)) := by show _ = _; rw [scGot, if_pos h8]
    generalize scGot t = G at *
    go_enter Tryd.func22, Tryd.ntmps22
    go_wp2
    exact bodyPost_ret (v := scOutV scZ 2) (by simp [scOutV, scZ, results, Tryd.results22, go_sem]) rfl ⟨by rw [HX.out], (Below.refl _ _).alloc (Nat.le_refl _) _⟩
  have q8 : decide ((8000 : Int) < (t.size : Int)) = false := by rw [decide_eq_false_iff_not]; omega
  have KR : Hid (∀ W, Calls Tryd.prog 53 #[.string t] W fun e w' => e = .returned (.agg #[.string (scRead t).na, .string (scRead t).va, .string (scRead t).dm, .string (scRead t).pa, .int .i64 (scRead t).ag, .bool (scRead t).se, .int .i64 (scRead t).mo, .bool (scRead t).pt]) ∧ Below W.heap.size W w') := fun W => specSetRd_any t W (by omega)
  have hsm := scRead_small (t := t)
  have KT : Hid (∀ W, Calls Tryd.prog 20 #[.agg #[.string (scRead t).na, .string (scRead t).va, .string (scRead t).dm, .string (scRead t).pa, .int .i64 (scRead t).ag, .bool (scRead t).se, .int .i64 (scRead t).mo, .bool (scRead t).pt]] W fun e w' => e = .returned (.string (scTx (scRead t))) ∧ Below W.heap.size W w') := fun W => specSetText_any _ _ _ _ _ _ _ _ W (by omega) (by omega)
  have HY : Hid (scOk t = true → scGot t = (scRead t, 0)) := fun h => by rw [scGot, if_neg h8, if_pos h]
  have HN : Hid (scOk t = false → scGot t = (scZ, 3)) := fun h => by rw [scGot, if_neg h8, if_neg (by rw [h]; decide)]
  have HO : Hid (scOk t = (!t.toList.isEmpty && ((scTx (scRead t)).toList == t.toList))) := rfl
  generalize scGot t = G at *
  generalize scOk t = ok at *
  generalize scTx (scRead t) = TX at *
  generalize scRead t = c at *
  clear hsm
  go_enter Tryd.func22, Tryd.ntmps22
  go_wp2_with fail
  refine (KR.out _).mono ?_
  rintro e w1 ⟨rfl, hb1⟩
  have U1 : Hid (U9 w1 w.heap.size (.string ⟨#[]⟩) (.string ⟨#[]⟩) (.string ⟨#[]⟩) (.string ⟨#[]⟩) (.int .i64 0) (.bool false) (.int .i64 0) (.bool false) (.int .i64 0)) := (UZ.out _).below hb1
  have B1 : Hid (Below w.heap.size w w1) := (B0.out _).trans (hb1.mono (by simp))
  clear hb1
  cases hemp : t.toList.isEmpty with
  | true =>
    have HX : Hid (G = (scZ, 3)) := HN.out (by rw [HO.out, hemp]; rfl)
    obtain ⟨hz1, ⟨g0, g1, g2, g3, g4, g5, g6, g7, g8⟩, gf⟩ := U1.out
    go_wp2
    have FR := (U9.set8 (U9.set7 (U9.set6 (U9.set5 (U9.set4 (U9.set3 (U9.set2 (U9.set1 (U9.set0 U1.out (.string ⟨#[]⟩)) (.string ⟨#[]⟩)) (.string ⟨#[]⟩)) (.string ⟨#[]⟩)) (.int .i64 0)) (.bool false)) (.int .i64 0)) (.bool false)) (.int .i64 3)).below ((Below.refl _ _).alloc (Nat.le_refl _) (.cells #[.string c.na, .string c.va, .string c.dm, .string c.pa, .int .i64 c.ag, .bool c.se, .int .i64 c.mo, .bool c.pt] 32))
    have FB := (Below.setCell (Below.setCell (Below.setCell (Below.setCell (Below.setCell (Below.setCell (Below.setCell (Below.setCell (Below.setCell B1.out (p := ⟨w.heap.size, 0, none⟩) (Nat.le_refl _) (.string ⟨#[]⟩)) (p := ⟨w.heap.size, 1, none⟩) (Nat.le_refl _) (.string ⟨#[]⟩)) (p := ⟨w.heap.size, 2, none⟩) (Nat.le_refl _) (.string ⟨#[]⟩)) (p := ⟨w.heap.size, 3, none⟩) (Nat.le_refl _) (.string ⟨#[]⟩)) (p := ⟨w.heap.size, 4, none⟩) (Nat.le_refl _) (.int .i64 0)) (p := ⟨w.heap.size, 5, none⟩) (Nat.le_refl _) (.bool false)) (p := ⟨w.heap.size, 6, none⟩) (Nat.le_refl _) (.int .i64 0)) (p := ⟨w.heap.size, 7, none⟩) (Nat.le_refl _) (.bool false)) (p := ⟨w.heap.size, 8, none⟩) (Nat.le_refl _) (.int .i64 3)).alloc (by have := B1.out.size; simp [World.setCell]; omega) (.cells #[.string c.na, .string c.va, .string c.dm, .string c.pa, .int .i64 c.ag, .bool c.se, .int .i64 c.mo, .bool c.pt] 32)
    generalize ((((((((((w1.setCell ⟨w.heap.size, 0, none⟩ (.string ⟨#[]⟩)).setCell ⟨w.heap.size, 1, none⟩ (.string ⟨#[]⟩)).setCell ⟨w.heap.size, 2, none⟩ (.string ⟨#[]⟩)).setCell ⟨w.heap.size, 3, none⟩ (.string ⟨#[]⟩)).setCell ⟨w.heap.size, 4, none⟩ (.int .i64 0)).setCell ⟨w.heap.size, 5, none⟩ (.bool false)).setCell ⟨w.heap.size, 6, none⟩ (.int .i64 0)).setCell ⟨w.heap.size, 7, none⟩ (.bool false)).setCell ⟨w.heap.size, 8, none⟩ (.int .i64 3)).alloc (.cells #[.string c.na, .string c.va, .string c.dm, .string c.pa, .int .i64 c.ag, .bool c.se, .int .i64 c.mo, .bool c.pt] 32)) = W at *
    obtain ⟨hy, ⟨f0, f1, f2, f3, f4, f5, f6, f7, f8⟩, _⟩ := FR
    exact bodyPost_ret (v := scOutV scZ 3) (by simp [scOutV, scZ, results, Tryd.results22, go_sem, f0, f1, f2, f3, f4, f5, f6, f7, f8]) rfl ⟨by rw [HX.out], FB⟩
  | false =>
    have NW : Hid (∀ (W : World) o, Below W.heap.size W (W.alloc o)) := fun W o => (Below.refl _ _).alloc (Nat.le_refl _) _
    go_wp2_with fail
    refine (KT.out _).mono ?_
    rintro e w2 ⟨rfl, hb2⟩
    have U2' : Hid (U9 w2 w.heap.size (.string ⟨#[]⟩) (.string ⟨#[]⟩) (.string ⟨#[]⟩) (.string ⟨#[]⟩) (.int .i64 0) (.bool false) (.int .i64 0) (.bool false) (.int .i64 0)) := (U1.out.below (NW.out _ _)).below hb2
    have C2 : Hid (U8 w2 w1.heap.size (.string c.na) (.string c.va) (.string c.dm) (.string c.pa) (.int .i64 c.ag) (.bool c.se) (.int .i64 c.mo) (.bool c.pt)) := (U8.made w1 (.string c.na) (.string c.va) (.string c.dm) (.string c.pa) (.int .i64 c.ag) (.bool c.se) (.int .i64 c.mo) (.bool c.pt) 32).below hb2
    have B2 : Hid (Below w.heap.size w w2) := (B1.out.trans ((NW.out _ _).mono B1.out.size)).trans (hb2.mono (by have := B1.out.size; simp; omega))
    clear hb2 U1 NW
    obtain ⟨hz2, ⟨g0, g1, g2, g3, g4, g5, g6, g7, g8⟩, gf⟩ := U2'.out
    obtain ⟨hzc, ⟨r0, r1, r2, r3, r4, r5, r6, r7⟩, rf⟩ := C2.out
    cases heq : (TX.toList == t.toList) with
    | false =>
      have HX : Hid (G = (scZ, 3)) := HN.out (by rw [HO.out, hemp, heq]; rfl)
      go_wp2
      have FR := (U9.set8 (U9.set7 (U9.set6 (U9.set5 (U9.set4 (U9.set3 (U9.set2 (U9.set1 (U9.set0 U2'.out (.string ⟨#[]⟩)) (.string ⟨#[]⟩)) (.string ⟨#[]⟩)) (.string ⟨#[]⟩)) (.int .i64 0)) (.bool false)) (.int .i64 0)) (.bool false)) (.int .i64 3))
      have FB := (Below.setCell (Below.setCell (Below.setCell (Below.setCell (Below.setCell (Below.setCell (Below.setCell (Below.setCell (Below.setCell B2.out (p := ⟨w.heap.size, 0, none⟩) (Nat.le_refl _) (.string ⟨#[]⟩)) (p := ⟨w.heap.size, 1, none⟩) (Nat.le_refl _) (.string ⟨#[]⟩)) (p := ⟨w.heap.size, 2, none⟩) (Nat.le_refl _) (.string ⟨#[]⟩)) (p := ⟨w.heap.size, 3, none⟩) (Nat.le_refl _) (.string ⟨#[]⟩)) (p := ⟨w.heap.size, 4, none⟩) (Nat.le_refl _) (.int .i64 0)) (p := ⟨w.heap.size, 5, none⟩) (Nat.le_refl _) (.bool false)) (p := ⟨w.heap.size, 6, none⟩) (Nat.le_refl _) (.int .i64 0)) (p := ⟨w.heap.size, 7, none⟩) (Nat.le_refl _) (.bool false)) (p := ⟨w.heap.size, 8, none⟩) (Nat.le_refl _) (.int .i64 3))
      generalize (((((((((w2.setCell ⟨w.heap.size, 0, none⟩ (.string ⟨#[]⟩)).setCell ⟨w.heap.size, 1, none⟩ (.string ⟨#[]⟩)).setCell ⟨w.heap.size, 2, none⟩ (.string ⟨#[]⟩)).setCell ⟨w.heap.size, 3, none⟩ (.string ⟨#[]⟩)).setCell ⟨w.heap.size, 4, none⟩ (.int .i64 0)).setCell ⟨w.heap.size, 5, none⟩ (.bool false)).setCell ⟨w.heap.size, 6, none⟩ (.int .i64 0)).setCell ⟨w.heap.size, 7, none⟩ (.bool false)).setCell ⟨w.heap.size, 8, none⟩ (.int .i64 3)) = W at *
      obtain ⟨hy, ⟨f0, f1, f2, f3, f4, f5, f6, f7, f8⟩, _⟩ := FR
      exact bodyPost_ret (v := scOutV scZ 3) (by simp [scOutV, scZ, results, Tryd.results22, go_sem, f0, f1, f2, f3, f4, f5, f6, f7, f8]) rfl ⟨by rw [HX.out], FB⟩
    | true =>
      have HX : Hid (G = (c, 0)) := HY.out (by rw [HO.out, hemp, heq]; rfl)
      go_wp2
      have FR := (U9.set8 (U9.set7 (U9.set6 (U9.set5 (U9.set4 (U9.set3 (U9.set2 (U9.set1 (U9.set0 U2'.out (.string c.na)) (.string c.va)) (.string c.dm)) (.string c.pa)) (.int .i64 c.ag)) (.bool c.se)) (.int .i64 c.mo)) (.bool c.pt)) (.int .i64 0))
      have FB := (Below.setCell (Below.setCell (Below.setCell (Below.setCell (Below.setCell (Below.setCell (Below.setCell (Below.setCell (Below.setCell B2.out (p := ⟨w.heap.size, 0, none⟩) (Nat.le_refl _) (.string c.na)) (p := ⟨w.heap.size, 1, none⟩) (Nat.le_refl _) (.string c.va)) (p := ⟨w.heap.size, 2, none⟩) (Nat.le_refl _) (.string c.dm)) (p := ⟨w.heap.size, 3, none⟩) (Nat.le_refl _) (.string c.pa)) (p := ⟨w.heap.size, 4, none⟩) (Nat.le_refl _) (.int .i64 c.ag)) (p := ⟨w.heap.size, 5, none⟩) (Nat.le_refl _) (.bool c.se)) (p := ⟨w.heap.size, 6, none⟩) (Nat.le_refl _) (.int .i64 c.mo)) (p := ⟨w.heap.size, 7, none⟩) (Nat.le_refl _) (.bool c.pt)) (p := ⟨w.heap.size, 8, none⟩) (Nat.le_refl _) (.int .i64 0))
      generalize (((((((((w2.setCell ⟨w.heap.size, 0, none⟩ (.string c.na)).setCell ⟨w.heap.size, 1, none⟩ (.string c.va)).setCell ⟨w.heap.size, 2, none⟩ (.string c.dm)).setCell ⟨w.heap.size, 3, none⟩ (.string c.pa)).setCell ⟨w.heap.size, 4, none⟩ (.int .i64 c.ag)).setCell ⟨w.heap.size, 5, none⟩ (.bool c.se)).setCell ⟨w.heap.size, 6, none⟩ (.int .i64 c.mo)).setCell ⟨w.heap.size, 7, none⟩ (.bool c.pt)).setCell ⟨w.heap.size, 8, none⟩ (.int .i64 0)) = W at *
      obtain ⟨hy, ⟨f0, f1, f2, f3, f4, f5, f6, f7, f8⟩, _⟩ := FR
      exact bodyPost_ret (v := scOutV c 0) (by simp [scOutV, results, Tryd.results22, go_sem, f0, f1, f2, f3, f4, f5, f6, f7, f8]) rfl ⟨by rw [HX.out], FB⟩
end Go.Proofs.YthcpmbolnmlohaaDoor
