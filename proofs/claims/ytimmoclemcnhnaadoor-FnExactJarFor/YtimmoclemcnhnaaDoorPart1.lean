/- 22 of this claim's texts, one behind the other. -/
import Derived.Test.YtimmoclemcnhnaaDoorRows
import Derived.Below
import Derived.WalkKit
import Derived.WalkSpells
import Derived.WalkLawsBesides
import Derived.Laws.CopyOwn
import Derived.Lib.BufferWrite
import Derived.Laws.IdiomStrings
import Derived.Deep.QuietTactic
import Derived.BigQuiet
import Derived.Deep.RegionWith
import Derived.Laws.ResultCell
import Derived.Lib.SmallJoins
import Derived.Deep.RegionHeld3
import Derived.Deep.Slices
/- Small facts that the walks close with: equal values make equal endings; what lies below a block is as it was. -/
namespace Go.Proofs.YtimmoclemcnhnaaDoor
open Go.RowKit
theorem ret_bool {a b : Bool} (h : a = b) : Ending.returned (.bool a) = .returned (.bool b) := by rw [h]
theorem val_int {k : IntKind} {a b : Int} (h : a = b) : Value.int k a = .int k b := by rw [h]
theorem ret_int {k : IntKind} {a b : Int} (h : a = b) : Ending.returned (.int k a) = .returned (.int k b) := by rw [h]
theorem ret_text {a b : ByteArray} (h : a = b) : Ending.returned (.string a) = .returned (.string b) := by rw [h]
theorem bcell {W w1 : World} (hb : Below W.heap.size W w1) : (∀ b o, b < W.heap.size → w1.cell? ⟨b, o, none⟩ = W.cell? ⟨b, o, none⟩) ∧ (∀ b o, b < W.heap.size → w1.frozen? ⟨b, o, none⟩ = W.frozen? ⟨b, o, none⟩) :=
  ⟨fun b o h => hb.cell (p := ⟨b, o, none⟩) h, fun b o h => hb.frozen (p := ⟨b, o, none⟩) h⟩
theorem own_shape {w : World} {base n : Nat} {e : TypeId} {v : Value} {xs : List Value} (h : w.ownsRow base e 1 v (n + 1) xs) : ∃ g cap, v = .slice (some ⟨g, 0, none⟩) (n + 1) cap := by
  obtain ⟨_, ⟨_, h0⟩ | ⟨g, cap, _, hv, _⟩⟩ := h
  · omega
  · exact ⟨g, cap, hv⟩
end Go.Proofs.YtimmoclemcnhnaaDoor

/- What a label and a path of a url are, as plain functions, with the facts that walks close with. -/
namespace Go.Proofs.YtimmoclemcnhnaaDoor
/-- may the byte stand in a label? -/
def labC (c : Nat) : Bool := decide ((97 ≤ c ∧ c ≤ 122) ∨ (48 ≤ c ∧ c ≤ 57) ∨ c = 45)
def labelB (t : ByteArray) : Bool := decide (1 ≤ t.size ∧ t.size ≤ 12 ∧ (∀ h : 0 < t.size, ¬ t[0].toNat = 45) ∧ (∀ h : t.size - 1 < t.size, ¬ t[t.size - 1].toNat = 45) ∧ ∀ i (h : i < t.size), labC t[i].toNat = true)
theorem labelB_size {t : ByteArray} (h : t.size < 1 ∨ 12 < t.size) : labelB t = false := by
  unfold labelB; rw [decide_eq_false_iff_not]; rintro ⟨a, b, _⟩; omega
theorem labelB_first {t : ByteArray} (h : 0 < t.size) (hc : t[0].toNat = 45) : labelB t = false := by
  unfold labelB; rw [decide_eq_false_iff_not]; rintro ⟨_, _, a, _⟩; exact a h hc
theorem labelB_last {t : ByteArray} (h : t.size - 1 < t.size) (hc : t[t.size - 1].toNat = 45) : labelB t = false := by
  unfold labelB; rw [decide_eq_false_iff_not]; rintro ⟨_, _, _, a, _⟩; exact a h hc
theorem labelB_at {t : ByteArray} (k : Nat) (h : k < t.size) (hk : labC t[k].toNat = false) : labelB t = false := by
  unfold labelB; rw [decide_eq_false_iff_not]; rintro ⟨_, _, _, _, c⟩; rw [c k h] at hk; cases hk
theorem labelB_true {t : ByteArray} (h1 : 1 ≤ t.size) (h2 : t.size ≤ 12) (h3 : ∀ h : 0 < t.size, ¬ t[0].toNat = 45) (h4 : ∀ h : t.size - 1 < t.size, ¬ t[t.size - 1].toNat = 45)
    (h : ∀ i (h : i < t.size), labC t[i].toNat = true) : labelB t = true := by
  unfold labelB; rw [decide_eq_true_iff]; exact ⟨h1, h2, h3, h4, h⟩
theorem labC_yes {c : Nat} (h : (97 ≤ c ∧ c ≤ 122) ∨ (48 ≤ c ∧ c ≤ 57) ∨ c = 45) : labC c = true := by unfold labC; rw [decide_eq_true_iff]; exact h
theorem labC_no {c : Nat} (h : ¬ ((97 ≤ c ∧ c ≤ 122) ∨ (48 ≤ c ∧ c ≤ 57) ∨ c = 45)) : labC c = false := by unfold labC; rw [decide_eq_false_iff_not]; exact h
theorem all_succ {t : ByteArray} {P : Nat → Bool} {k : Nat} (hr : ∀ i (h : i < t.size), i < k → P t[i].toNat = true) (hk : k < t.size) (ho : P t[k].toNat = true) :
    ∀ i (h : i < t.size), i < k + 1 → P t[i].toNat = true := by
  intro i h hi
  by_cases e : i = k
  · subst e; exact ho
  · exact hr i h (by omega)
/-- may the byte stand in a path? -/
def pathC (c : Nat) : Bool := decide (33 ≤ c ∧ c ≤ 126 ∧ ¬ c = 63 ∧ ¬ c = 35 ∧ ¬ c = 59)
def pathB (t : ByteArray) : Bool := decide (1 ≤ t.size ∧ t.size ≤ 40 ∧ (∀ h : 0 < t.size, t[0].toNat = 47) ∧ ∀ i (h : i < t.size), pathC t[i].toNat = true)
theorem pathB_size {t : ByteArray} (h : t.size < 1 ∨ 40 < t.size) : pathB t = false := by
  unfold pathB; rw [decide_eq_false_iff_not]; rintro ⟨a, b, _⟩; omega
theorem pathB_first {t : ByteArray} (h : 0 < t.size) (hc : ¬ t[0].toNat = 47) : pathB t = false := by
  unfold pathB; rw [decide_eq_false_iff_not]; rintro ⟨_, _, a, _⟩; exact hc (a h)
theorem pathB_at {t : ByteArray} (k : Nat) (h : k < t.size) (hk : pathC t[k].toNat = false) : pathB t = false := by
  unfold pathB; rw [decide_eq_false_iff_not]; rintro ⟨_, _, _, c⟩; rw [c k h] at hk; cases hk
theorem pathB_true {t : ByteArray} (h1 : 1 ≤ t.size) (h2 : t.size ≤ 40) (h3 : ∀ h : 0 < t.size, t[0].toNat = 47) (h : ∀ i (h : i < t.size), pathC t[i].toNat = true) : pathB t = true := by
  unfold pathB; rw [decide_eq_true_iff]; exact ⟨h1, h2, h3, h⟩
theorem pathC_yes {c : Nat} (h : 33 ≤ c ∧ c ≤ 126 ∧ ¬ c = 63 ∧ ¬ c = 35 ∧ ¬ c = 59) : pathC c = true := by unfold pathC; rw [decide_eq_true_iff]; exact h
theorem pathC_no {c : Nat} (h : ¬ (33 ≤ c ∧ c ≤ 126 ∧ ¬ c = 63 ∧ ¬ c = 35 ∧ ¬ c = 59)) : pathC c = false := by unfold pathC; rw [decide_eq_false_iff_not]; exact h
end Go.Proofs.YtimmoclemcnhnaaDoor

/- What a word is; the walk of the specification's WordRight. -/
namespace Go.Proofs.YtimmoclemcnhnaaDoor
open Go.RowKit

/-- may the byte stand in a word? -/
def wordC (c : Nat) : Bool := decide ((97 ≤ c ∧ c ≤ 122) ∨ (65 ≤ c ∧ c ≤ 90) ∨ (48 ≤ c ∧ c ≤ 57) ∨ c = 95 ∨ c = 45 ∨ c = 46)
def wordB (t : ByteArray) : Bool := decide (∀ i (h : i < t.size), wordC t[i].toNat = true) && decide (t.size ≤ 20)
theorem wordC_yes {c : Nat} (h : (97 ≤ c ∧ c ≤ 122) ∨ (65 ≤ c ∧ c ≤ 90) ∨ (48 ≤ c ∧ c ≤ 57) ∨ c = 95 ∨ c = 45 ∨ c = 46) : wordC c = true := by unfold wordC; rw [decide_eq_true_iff]; exact h
theorem wordC_no {c : Nat} (h : ¬ ((97 ≤ c ∧ c ≤ 122) ∨ (65 ≤ c ∧ c ≤ 90) ∨ (48 ≤ c ∧ c ≤ 57) ∨ c = 95 ∨ c = 45 ∨ c = 46)) : wordC c = false := by unfold wordC; rw [decide_eq_false_iff_not]; exact h
theorem wordB_at {t : ByteArray} (k : Nat) (h : k < t.size) (hk : wordC t[k].toNat = false) : wordB t = false := by
  unfold wordB; rw [decide_eq_false (fun h' => by rw [h' k h] at hk; cases hk)]; rfl
theorem wordB_all {t : ByteArray} (h : ∀ i (h : i < t.size), wordC t[i].toNat = true) : wordB t = decide (t.size ≤ 20) := by
  unfold wordB; rw [decide_eq_true h]; rfl
theorem wordB_size {t : ByteArray} (h : wordB t = true) : t.size ≤ 20 := by
  unfold wordB at h
  rw [Bool.and_eq_true, decide_eq_true_eq, decide_eq_true_eq] at h
  exact h.2

set_option maxRecDepth 10000 in
set_option maxHeartbeats 2000000 in
theorem specWord_any (t : ByteArray) (w : World) (ht : t.size ≤ 1048576) :
    Calls Tryd.prog 168 #[.string t] w fun e w' => e = .returned (.bool (wordB t)) ∧ w' = w := by
  have HA : Hid ((∀ k (h : k < t.size), wordC t[k].toNat = false → wordB t = false) ∧ ((∀ i (h : i < t.size), wordC t[i].toNat = true) → wordB t = decide (t.size ≤ 20))) := ⟨fun k h hk => wordB_at k h hk, fun h => wordB_all h⟩
  generalize wordB t = R at *
  go_enter Tryd.func168, Tryd.ntmps168
  go_wp2
  go_loop [3, 4] (fun i _ => ∃ k : Nat, k ≤ t.size ∧ i = .int .i64 k ∧ Hid (∀ i (h : i < t.size), i < k → wordC t[i].toNat = true)) (fun i _ => t.size - (intOf i).toNat)
  case atStart => exact ⟨0, Nat.zero_le _, rfl, fun i _ hi => absurd hi (by omega)⟩
  case round =>
    obtain ⟨k, hk, rfl, HR⟩ := hrel
    by_cases hlt : k < t.size
    · rcases (show (t[k].toNat ≤ 44) ∨ (45 ≤ t[k].toNat ∧ t[k].toNat ≤ 45) ∨ (46 ≤ t[k].toNat ∧ t[k].toNat ≤ 46) ∨ (47 ≤ t[k].toNat ∧ t[k].toNat ≤ 47) ∨ (48 ≤ t[k].toNat ∧ t[k].toNat ≤ 57) ∨ (58 ≤ t[k].toNat ∧ t[k].toNat ≤ 64) ∨ (65 ≤ t[k].toNat ∧ t[k].toNat ≤ 90) ∨ (91 ≤ t[k].toNat ∧ t[k].toNat ≤ 94) ∨ (95 ≤ t[k].toNat ∧ t[k].toNat ≤ 95) ∨ (96 ≤ t[k].toNat ∧ t[k].toNat ≤ 96) ∨ (97 ≤ t[k].toNat ∧ t[k].toNat ≤ 122) ∨ (123 ≤ t[k].toNat) by omega)
        with c1 | ⟨c1, c2⟩ | ⟨c1, c2⟩ | ⟨c1, c2⟩ | ⟨c1, c2⟩ | ⟨c1, c2⟩ | ⟨c1, c2⟩ | ⟨c1, c2⟩ | ⟨c1, c2⟩ | ⟨c1, c2⟩ | ⟨c1, c2⟩ | c1
      · have b0 : decide ((97 : Int) ≤ (t[k].toNat : Int)) = false := by rw [decide_eq_false_iff_not]; omega
        have b1 : decide ((t[k].toNat : Int) ≤ 122) = true := by rw [decide_eq_true_iff]; omega
        have b2 : decide ((65 : Int) ≤ (t[k].toNat : Int)) = false := by rw [decide_eq_false_iff_not]; omega
        have b3 : decide ((t[k].toNat : Int) ≤ 90) = true := by rw [decide_eq_true_iff]; omega
        have b4 : decide ((48 : Int) ≤ (t[k].toNat : Int)) = false := by rw [decide_eq_false_iff_not]; omega
        have b5 : decide ((t[k].toNat : Int) ≤ 57) = true := by rw [decide_eq_true_iff]; omega
        have b6 : ((t[k].toNat : Int) == 95) = false := by rw [beq_eq_false_iff_ne]; omega
        have b7 : ((t[k].toNat : Int) == 45) = false := by rw [beq_eq_false_iff_ne]; omega
        have b8 : ((t[k].toNat : Int) == 46) = false := by rw [beq_eq_false_iff_ne]; omega
        have HK : Hid (R = false) := HA.out.1 k hlt (wordC_no (by omega))
        go_wp2
        go_ret
        exact ⟨ret_bool HK.out.symm, rfl⟩
      · have b0 : decide ((97 : Int) ≤ (t[k].toNat : Int)) = false := by rw [decide_eq_false_iff_not]; omega
        have b1 : decide ((t[k].toNat : Int) ≤ 122) = true := by rw [decide_eq_true_iff]; omega
        have b2 : decide ((65 : Int) ≤ (t[k].toNat : Int)) = false := by rw [decide_eq_false_iff_not]; omega
        have b3 : decide ((t[k].toNat : Int) ≤ 90) = true := by rw [decide_eq_true_iff]; omega
        have b4 : decide ((48 : Int) ≤ (t[k].toNat : Int)) = false := by rw [decide_eq_false_iff_not]; omega
        have b5 : decide ((t[k].toNat : Int) ≤ 57) = true := by rw [decide_eq_true_iff]; omega
        have b6 : ((t[k].toNat : Int) == 95) = false := by rw [beq_eq_false_iff_ne]; omega
        have b7 : ((t[k].toNat : Int) == 45) = true := by rw [beq_iff_eq]; omega
        have b8 : ((t[k].toNat : Int) == 46) = false := by rw [beq_eq_false_iff_ne]; omega
        have HK : Hid (wordC t[k].toNat = true) := wordC_yes (by omega)
        go_wp2
        go_round
        case rel => exact ⟨k + 1, by omega, by go_num, all_succ HR.out hlt HK.out⟩
        case measure => simp [intOf]; omega
      · have b0 : decide ((97 : Int) ≤ (t[k].toNat : Int)) = false := by rw [decide_eq_false_iff_not]; omega
        have b1 : decide ((t[k].toNat : Int) ≤ 122) = true := by rw [decide_eq_true_iff]; omega
        have b2 : decide ((65 : Int) ≤ (t[k].toNat : Int)) = false := by rw [decide_eq_false_iff_not]; omega
        have b3 : decide ((t[k].toNat : Int) ≤ 90) = true := by rw [decide_eq_true_iff]; omega
        have b4 : decide ((48 : Int) ≤ (t[k].toNat : Int)) = false := by rw [decide_eq_false_iff_not]; omega
        have b5 : decide ((t[k].toNat : Int) ≤ 57) = true := by rw [decide_eq_true_iff]; omega
        have b6 : ((t[k].toNat : Int) == 95) = false := by rw [beq_eq_false_iff_ne]; omega
        have b7 : ((t[k].toNat : Int) == 45) = false := by rw [beq_eq_false_iff_ne]; omega
        have b8 : ((t[k].toNat : Int) == 46) = true := by rw [beq_iff_eq]; omega
        have HK : Hid (wordC t[k].toNat = true) := wordC_yes (by omega)
        go_wp2
        go_round
        case rel => exact ⟨k + 1, by omega, by go_num, all_succ HR.out hlt HK.out⟩
        case measure => simp [intOf]; omega
      · have b0 : decide ((97 : Int) ≤ (t[k].toNat : Int)) = false := by rw [decide_eq_false_iff_not]; omega
        have b1 : decide ((t[k].toNat : Int) ≤ 122) = true := by rw [decide_eq_true_iff]; omega
        have b2 : decide ((65 : Int) ≤ (t[k].toNat : Int)) = false := by rw [decide_eq_false_iff_not]; omega
        have b3 : decide ((t[k].toNat : Int) ≤ 90) = true := by rw [decide_eq_true_iff]; omega
        have b4 : decide ((48 : Int) ≤ (t[k].toNat : Int)) = false := by rw [decide_eq_false_iff_not]; omega
        have b5 : decide ((t[k].toNat : Int) ≤ 57) = true := by rw [decide_eq_true_iff]; omega
        have b6 : ((t[k].toNat : Int) == 95) = false := by rw [beq_eq_false_iff_ne]; omega
        have b7 : ((t[k].toNat : Int) == 45) = false := by rw [beq_eq_false_iff_ne]; omega
        have b8 : ((t[k].toNat : Int) == 46) = false := by rw [beq_eq_false_iff_ne]; omega
        have HK : Hid (R = false) := HA.out.1 k hlt (wordC_no (by omega))
        go_wp2
        go_ret
        exact ⟨ret_bool HK.out.symm, rfl⟩
      · have b0 : decide ((97 : Int) ≤ (t[k].toNat : Int)) = false := by rw [decide_eq_false_iff_not]; omega
        have b1 : decide ((t[k].toNat : Int) ≤ 122) = true := by rw [decide_eq_true_iff]; omega
        have b2 : decide ((65 : Int) ≤ (t[k].toNat : Int)) = false := by rw [decide_eq_false_iff_not]; omega
        have b3 : decide ((t[k].toNat : Int) ≤ 90) = true := by rw [decide_eq_true_iff]; omega
        have b4 : decide ((48 : Int) ≤ (t[k].toNat : Int)) = true := by rw [decide_eq_true_iff]; omega
        have b5 : decide ((t[k].toNat : Int) ≤ 57) = true := by rw [decide_eq_true_iff]; omega
        have b6 : ((t[k].toNat : Int) == 95) = false := by rw [beq_eq_false_iff_ne]; omega
        have b7 : ((t[k].toNat : Int) == 45) = false := by rw [beq_eq_false_iff_ne]; omega
        have b8 : ((t[k].toNat : Int) == 46) = false := by rw [beq_eq_false_iff_ne]; omega
        have HK : Hid (wordC t[k].toNat = true) := wordC_yes (by omega)
        go_wp2
        go_round
        case rel => exact ⟨k + 1, by omega, by go_num, all_succ HR.out hlt HK.out⟩
        case measure => simp [intOf]; omega
      · have b0 : decide ((97 : Int) ≤ (t[k].toNat : Int)) = false := by rw [decide_eq_false_iff_not]; omega
        have b1 : decide ((t[k].toNat : Int) ≤ 122) = true := by rw [decide_eq_true_iff]; omega
        have b2 : decide ((65 : Int) ≤ (t[k].toNat : Int)) = false := by rw [decide_eq_false_iff_not]; omega
        have b3 : decide ((t[k].toNat : Int) ≤ 90) = true := by rw [decide_eq_true_iff]; omega
        have b4 : decide ((48 : Int) ≤ (t[k].toNat : Int)) = true := by rw [decide_eq_true_iff]; omega
        have b5 : decide ((t[k].toNat : Int) ≤ 57) = false := by rw [decide_eq_false_iff_not]; omega
        have b6 : ((t[k].toNat : Int) == 95) = false := by rw [beq_eq_false_iff_ne]; omega
        have b7 : ((t[k].toNat : Int) == 45) = false := by rw [beq_eq_false_iff_ne]; omega
        have b8 : ((t[k].toNat : Int) == 46) = false := by rw [beq_eq_false_iff_ne]; omega
        have HK : Hid (R = false) := HA.out.1 k hlt (wordC_no (by omega))
        go_wp2
        go_ret
        exact ⟨ret_bool HK.out.symm, rfl⟩
      · have b0 : decide ((97 : Int) ≤ (t[k].toNat : Int)) = false := by rw [decide_eq_false_iff_not]; omega
        have b1 : decide ((t[k].toNat : Int) ≤ 122) = true := by rw [decide_eq_true_iff]; omega
        have b2 : decide ((65 : Int) ≤ (t[k].toNat : Int)) = true := by rw [decide_eq_true_iff]; omega
        have b3 : decide ((t[k].toNat : Int) ≤ 90) = true := by rw [decide_eq_true_iff]; omega
        have b4 : decide ((48 : Int) ≤ (t[k].toNat : Int)) = true := by rw [decide_eq_true_iff]; omega
        have b5 : decide ((t[k].toNat : Int) ≤ 57) = false := by rw [decide_eq_false_iff_not]; omega
        have b6 : ((t[k].toNat : Int) == 95) = false := by rw [beq_eq_false_iff_ne]; omega
        have b7 : ((t[k].toNat : Int) == 45) = false := by rw [beq_eq_false_iff_ne]; omega
        have b8 : ((t[k].toNat : Int) == 46) = false := by rw [beq_eq_false_iff_ne]; omega
        have HK : Hid (wordC t[k].toNat = true) := wordC_yes (by omega)
        go_wp2
        go_round
        case rel => exact ⟨k + 1, by omega, by go_num, all_succ HR.out hlt HK.out⟩
        case measure => simp [intOf]; omega
      · have b0 : decide ((97 : Int) ≤ (t[k].toNat : Int)) = false := by rw [decide_eq_false_iff_not]; omega
        have b1 : decide ((t[k].toNat : Int) ≤ 122) = true := by rw [decide_eq_true_iff]; omega
        have b2 : decide ((65 : Int) ≤ (t[k].toNat : Int)) = true := by rw [decide_eq_true_iff]; omega
        have b3 : decide ((t[k].toNat : Int) ≤ 90) = false := by rw [decide_eq_false_iff_not]; omega
        have b4 : decide ((48 : Int) ≤ (t[k].toNat : Int)) = true := by rw [decide_eq_true_iff]; omega
        have b5 : decide ((t[k].toNat : Int) ≤ 57) = false := by rw [decide_eq_false_iff_not]; omega
        have b6 : ((t[k].toNat : Int) == 95) = false := by rw [beq_eq_false_iff_ne]; omega
        have b7 : ((t[k].toNat : Int) == 45) = false := by rw [beq_eq_false_iff_ne]; omega
        have b8 : ((t[k].toNat : Int) == 46) = false := by rw [beq_eq_false_iff_ne]; omega
        have HK : Hid (R = false) := HA.out.1 k hlt (wordC_no (by omega))
        go_wp2
        go_ret
        exact ⟨ret_bool HK.out.symm, rfl⟩
      · have b0 : decide ((97 : Int) ≤ (t[k].toNat : Int)) = false := by rw [decide_eq_false_iff_not]; omega
        have b1 : decide ((t[k].toNat : Int) ≤ 122) = true := by rw [decide_eq_true_iff]; omega
        have b2 : decide ((65 : Int) ≤ (t[k].toNat : Int)) = true := by rw [decide_eq_true_iff]; omega
        have b3 : decide ((t[k].toNat : Int) ≤ 90) = false := by rw [decide_eq_false_iff_not]; omega
        have b4 : decide ((48 : Int) ≤ (t[k].toNat : Int)) = true := by rw [decide_eq_true_iff]; omega
        have b5 : decide ((t[k].toNat : Int) ≤ 57) = false := by rw [decide_eq_false_iff_not]; omega
        have b6 : ((t[k].toNat : Int) == 95) = true := by rw [beq_iff_eq]; omega
        have b7 : ((t[k].toNat : Int) == 45) = false := by rw [beq_eq_false_iff_ne]; omega
        have b8 : ((t[k].toNat : Int) == 46) = false := by rw [beq_eq_false_iff_ne]; omega
        have HK : Hid (wordC t[k].toNat = true) := wordC_yes (by omega)
        go_wp2
        go_round
        case rel => exact ⟨k + 1, by omega, by go_num, all_succ HR.out hlt HK.out⟩
        case measure => simp [intOf]; omega
      · have b0 : decide ((97 : Int) ≤ (t[k].toNat : Int)) = false := by rw [decide_eq_false_iff_not]; omega
        have b1 : decide ((t[k].toNat : Int) ≤ 122) = true := by rw [decide_eq_true_iff]; omega
        have b2 : decide ((65 : Int) ≤ (t[k].toNat : Int)) = true := by rw [decide_eq_true_iff]; omega
        have b3 : decide ((t[k].toNat : Int) ≤ 90) = false := by rw [decide_eq_false_iff_not]; omega
        have b4 : decide ((48 : Int) ≤ (t[k].toNat : Int)) = true := by rw [decide_eq_true_iff]; omega
        have b5 : decide ((t[k].toNat : Int) ≤ 57) = false := by rw [decide_eq_false_iff_not]; omega
        have b6 : ((t[k].toNat : Int) == 95) = false := by rw [beq_eq_false_iff_ne]; omega
        have b7 : ((t[k].toNat : Int) == 45) = false := by rw [beq_eq_false_iff_ne]; omega
        have b8 : ((t[k].toNat : Int) == 46) = false := by rw [beq_eq_false_iff_ne]; omega
        have HK : Hid (R = false) := HA.out.1 k hlt (wordC_no (by omega))
        go_wp2
        go_ret
        exact ⟨ret_bool HK.out.symm, rfl⟩
      · have b0 : decide ((97 : Int) ≤ (t[k].toNat : Int)) = true := by rw [decide_eq_true_iff]; omega
        have b1 : decide ((t[k].toNat : Int) ≤ 122) = true := by rw [decide_eq_true_iff]; omega
        have b2 : decide ((65 : Int) ≤ (t[k].toNat : Int)) = true := by rw [decide_eq_true_iff]; omega
        have b3 : decide ((t[k].toNat : Int) ≤ 90) = false := by rw [decide_eq_false_iff_not]; omega
        have b4 : decide ((48 : Int) ≤ (t[k].toNat : Int)) = true := by rw [decide_eq_true_iff]; omega
        have b5 : decide ((t[k].toNat : Int) ≤ 57) = false := by rw [decide_eq_false_iff_not]; omega
        have b6 : ((t[k].toNat : Int) == 95) = false := by rw [beq_eq_false_iff_ne]; omega
        have b7 : ((t[k].toNat : Int) == 45) = false := by rw [beq_eq_false_iff_ne]; omega
        have b8 : ((t[k].toNat : Int) == 46) = false := by rw [beq_eq_false_iff_ne]; omega
        have HK : Hid (wordC t[k].toNat = true) := wordC_yes (by omega)
        go_wp2
        go_round
        case rel => exact ⟨k + 1, by omega, by go_num, all_succ HR.out hlt HK.out⟩
        case measure => simp [intOf]; omega
      · have b0 : decide ((97 : Int) ≤ (t[k].toNat : Int)) = true := by rw [decide_eq_true_iff]; omega
        have b1 : decide ((t[k].toNat : Int) ≤ 122) = false := by rw [decide_eq_false_iff_not]; omega
        have b2 : decide ((65 : Int) ≤ (t[k].toNat : Int)) = true := by rw [decide_eq_true_iff]; omega
        have b3 : decide ((t[k].toNat : Int) ≤ 90) = false := by rw [decide_eq_false_iff_not]; omega
        have b4 : decide ((48 : Int) ≤ (t[k].toNat : Int)) = true := by rw [decide_eq_true_iff]; omega
        have b5 : decide ((t[k].toNat : Int) ≤ 57) = false := by rw [decide_eq_false_iff_not]; omega
        have b6 : ((t[k].toNat : Int) == 95) = false := by rw [beq_eq_false_iff_ne]; omega
        have b7 : ((t[k].toNat : Int) == 45) = false := by rw [beq_eq_false_iff_ne]; omega
        have b8 : ((t[k].toNat : Int) == 46) = false := by rw [beq_eq_false_iff_ne]; omega
        have HK : Hid (R = false) := HA.out.1 k hlt (wordC_no (by omega))
        go_wp2
        go_ret
        exact ⟨ret_bool HK.out.symm, rfl⟩
    · have HQ : Hid (R = decide (t.size ≤ 20)) := HA.out.2 (fun i h => HR.out i h (by omega))
      go_wp2
      go_ret
      exact ⟨ret_bool (by rw [HQ.out]; congr 1; exact propext ⟨fun h => by omega, fun h => by omega⟩), rfl⟩
end Go.Proofs.YtimmoclemcnhnaaDoor

/- A text cut at a byte, as a plain function that goes byte by byte; what a host's labels are. -/
namespace Go.Proofs.YtimmoclemcnhnaaDoor
/-- the cuts among the first i bytes, and where the last one ends -/
def splitTo (s : ByteArray) (c : Nat) : Nat → List ByteArray × Nat
  | 0 => ([], 0)
  | i + 1 => if h : i < s.size then (if s[i].toNat = c then ((splitTo s c i).1 ++ [s.extract (splitTo s c i).2 i], i + 1) else splitTo s c i) else splitTo s c i
def splitB (s : ByteArray) (c : Nat) : List ByteArray := (splitTo s c s.size).1 ++ [s.extract (splitTo s c s.size).2 s.size]
theorem splitTo_hit {s : ByteArray} {c i : Nat} (h : i < s.size) (hc : s[i].toNat = c) : splitTo s c (i + 1) = ((splitTo s c i).1 ++ [s.extract (splitTo s c i).2 i], i + 1) := by
  rw [splitTo, dif_pos h, if_pos hc]
theorem splitTo_miss {s : ByteArray} {c i : Nat} (h : i < s.size) (hc : ¬ s[i].toNat = c) : splitTo s c (i + 1) = splitTo s c i := by
  rw [splitTo, dif_pos h, if_neg hc]
theorem splitTo_le (s : ByteArray) (c i : Nat) : (splitTo s c i).2 ≤ i ∧ (splitTo s c i).1.length ≤ i := by
  induction i with
  | zero => exact ⟨Nat.le_refl _, Nat.le_refl _⟩
  | succ i ih =>
    rw [splitTo]
    split
    · split
      · exact ⟨Nat.le_refl _, by simp; omega⟩
      · exact ⟨by omega, by omega⟩
    · exact ⟨by omega, by omega⟩
theorem splitB_len (s : ByteArray) (c : Nat) : (splitB s c).length ≤ s.size + 1 := by
  have := (splitTo_le s c s.size).2
  unfold splitB; simp; omega
/-- a right host -/
def hostB (s : ByteArray) : Bool := decide (s.size ≤ 100) && (splitB s 46).all labelB && decide ((splitB s 46).length ≤ 6)
theorem hostB_size {s : ByteArray} (h : 100 < s.size) : hostB s = false := by
  unfold hostB; rw [decide_eq_false (by omega)]; rfl
theorem hostB_at {s : ByteArray} (k : Nat) (h : k < (splitB s 46).length) (hl : labelB ((splitB s 46)[k]) = false) : hostB s = false := by
  have : (splitB s 46).all labelB = false := by
    rw [List.all_eq_false]
    exact ⟨_, List.getElem_mem h, by simp [hl]⟩
  unfold hostB; rw [this]; simp
theorem hostB_all {s : ByteArray} (hs : s.size ≤ 100) (h : ∀ k (h : k < (splitB s 46).length), labelB ((splitB s 46)[k]) = true) : hostB s = decide ((splitB s 46).length ≤ 6) := by
  have : (splitB s 46).all labelB = true := by
    rw [List.all_eq_true]
    intro x hx
    obtain ⟨k, hk, rfl⟩ := List.getElem_of_mem hx
    exact h k hk
  unfold hostB; rw [this, decide_eq_true hs]; rfl
theorem splitTo_little (s : ByteArray) (c : Nat) : ∀ i, ∀ x ∈ (splitTo s c i).1, x.size ≤ s.size
  | 0, x, h => by cases h
  | i + 1, x, h => by
    rw [splitTo] at h
    split at h
    · split at h
      · rw [List.mem_append] at h
        rcases h with h | h
        · exact splitTo_little s c i x h
        · rw [List.mem_singleton] at h
          rw [h, ByteArray.size_extract]; omega
      · exact splitTo_little s c i x h
    · exact splitTo_little s c i x h
theorem splitB_small (s : ByteArray) (c : Nat) : ∀ x ∈ splitB s c, x.size ≤ s.size := by
  intro x h
  unfold splitB at h
  rw [List.mem_append, List.mem_singleton] at h
  rcases h with h | h
  · exact splitTo_little s c _ x h
  · rw [h, ByteArray.size_extract]; omega
end Go.Proofs.YtimmoclemcnhnaaDoor

/- The walks of the specification's l02Label and l02Path. -/
namespace Go.Proofs.YtimmoclemcnhnaaDoor
open Go.RowKit

set_option maxRecDepth 10000 in
set_option maxHeartbeats 400000 in
theorem specLabel_any (t : ByteArray) (w : World) :
    Calls Tryd.prog 68 #[.string t] w fun e w' => e = .returned (.bool (labelB t)) ∧ w' = w := by
  by_cases h1 : t.size < 1
  · go_enter Tryd.func68, Tryd.ntmps68
    go_wp2
    go_ret
    exact ⟨ret_bool (labelB_size (.inl h1)).symm, rfl⟩
  have q1 : decide ((t.size : Int) < 1) = false := by rw [decide_eq_false_iff_not]; omega
  by_cases h2 : 12 < t.size
  · go_enter Tryd.func68, Tryd.ntmps68
    go_wp2
    go_ret
    exact ⟨ret_bool (labelB_size (.inr h2)).symm, rfl⟩
  have q2 : decide ((12 : Int) < (t.size : Int)) = false := by rw [decide_eq_false_iff_not]; omega
  have hp : 0 < t.size := by omega
  have hl : t.size - 1 < t.size := by omega
  by_cases h3 : t[0].toNat = 45
  · have q3 : ((t[0].toNat : Int) == 45) = true := by rw [beq_iff_eq]; omega
    have H3 : Hid (t[0].toNat = 45) := h3
    clear h3
    go_enter Tryd.func68, Tryd.ntmps68
    go_wp2
    go_ret
    exact ⟨ret_bool (labelB_first hp H3.out).symm, rfl⟩
  have q3 : ((t[0].toNat : Int) == 45) = false := by rw [beq_eq_false_iff_ne]; omega
  have H3 : Hid (¬ t[0].toNat = 45) := h3
  clear h3
  by_cases h4 : t[t.size - 1].toNat = 45
  · have q4 : ((t[t.size - 1].toNat : Int) == 45) = true := by rw [beq_iff_eq]; omega
    have H4 : Hid (t[t.size - 1].toNat = 45) := h4
    clear h4
    go_enter Tryd.func68, Tryd.ntmps68
    go_wp2
    go_ret
    exact ⟨ret_bool (labelB_last hl H4.out).symm, rfl⟩
  have q4 : ((t[t.size - 1].toNat : Int) == 45) = false := by rw [beq_eq_false_iff_ne]; omega
  have H4 : Hid (¬ t[t.size - 1].toNat = 45) := h4
  clear h4
  go_enter Tryd.func68, Tryd.ntmps68
  go_wp2
  go_loop [4, 5] (fun i _ => ∃ k : Nat, k ≤ t.size ∧ i = .int .i64 k ∧ Hid (∀ i (h : i < t.size), i < k → labC t[i].toNat = true)) (fun i _ => t.size - (intOf i).toNat)
  case atStart => exact ⟨0, Nat.zero_le _, rfl, fun i _ hi => absurd hi (by omega)⟩
  case round =>
    obtain ⟨k, hk, rfl, HR⟩ := hrel
    by_cases hlt : k < t.size
    · rcases (show (t[k].toNat < 45) ∨ (45 ≤ t[k].toNat ∧ t[k].toNat ≤ 45) ∨ (46 ≤ t[k].toNat ∧ t[k].toNat < 48) ∨ (48 ≤ t[k].toNat ∧ t[k].toNat ≤ 57) ∨ (58 ≤ t[k].toNat ∧ t[k].toNat < 97) ∨ (97 ≤ t[k].toNat ∧ t[k].toNat ≤ 122) ∨ (122 < t[k].toNat) by omega)
        with c1 | ⟨c1, c2⟩ | ⟨c1, c2⟩ | ⟨c1, c2⟩ | ⟨c1, c2⟩ | ⟨c1, c2⟩ | c1
      · have b1 : decide ((97 : Int) ≤ (t[k].toNat : Int)) = false := by rw [decide_eq_false_iff_not]; omega
        have b2 : decide ((48 : Int) ≤ (t[k].toNat : Int)) = false := by rw [decide_eq_false_iff_not]; omega
        have b3 : ((t[k].toNat : Int) == 45) = false := by rw [beq_eq_false_iff_ne]; omega
        go_wp2
        go_ret
        exact ⟨ret_bool (labelB_at k hlt (labC_no (by omega))).symm, rfl⟩
      · have b1 : decide ((97 : Int) ≤ (t[k].toNat : Int)) = false := by rw [decide_eq_false_iff_not]; omega
        have b2 : decide ((48 : Int) ≤ (t[k].toNat : Int)) = false := by rw [decide_eq_false_iff_not]; omega
        have b3 : ((t[k].toNat : Int) == 45) = true := by rw [beq_iff_eq]; omega
        go_wp2
        go_round
        case rel => exact ⟨k + 1, by omega, by go_num, all_succ HR.out hlt (labC_yes (by omega))⟩
        case measure => simp [intOf]; omega
      · have b1 : decide ((97 : Int) ≤ (t[k].toNat : Int)) = false := by rw [decide_eq_false_iff_not]; omega
        have b2 : decide ((48 : Int) ≤ (t[k].toNat : Int)) = false := by rw [decide_eq_false_iff_not]; omega
        have b3 : ((t[k].toNat : Int) == 45) = false := by rw [beq_eq_false_iff_ne]; omega
        go_wp2
        go_ret
        exact ⟨ret_bool (labelB_at k hlt (labC_no (by omega))).symm, rfl⟩
      · have b1 : decide ((97 : Int) ≤ (t[k].toNat : Int)) = false := by rw [decide_eq_false_iff_not]; omega
        go_wp2
        go_round
        case rel => exact ⟨k + 1, by omega, by go_num, all_succ HR.out hlt (labC_yes (by omega))⟩
        case measure => simp [intOf]; omega
      · have b1 : decide ((97 : Int) ≤ (t[k].toNat : Int)) = false := by rw [decide_eq_false_iff_not]; omega
        have b2 : decide ((t[k].toNat : Int) ≤ 57) = false := by rw [decide_eq_false_iff_not]; omega
        have b3 : ((t[k].toNat : Int) == 45) = false := by rw [beq_eq_false_iff_ne]; omega
        go_wp2
        go_ret
        exact ⟨ret_bool (labelB_at k hlt (labC_no (by omega))).symm, rfl⟩
      · go_wp2
        go_round
        case rel => exact ⟨k + 1, by omega, by go_num, all_succ HR.out hlt (labC_yes (by omega))⟩
        case measure => simp [intOf]; omega
      · have b1 : decide ((t[k].toNat : Int) ≤ 122) = false := by rw [decide_eq_false_iff_not]; omega
        have b2 : decide ((t[k].toNat : Int) ≤ 57) = false := by rw [decide_eq_false_iff_not]; omega
        have b3 : ((t[k].toNat : Int) == 45) = false := by rw [beq_eq_false_iff_ne]; omega
        go_wp2
        go_ret
        exact ⟨ret_bool (labelB_at k hlt (labC_no (by omega))).symm, rfl⟩
    · go_wp2
      go_ret
      exact ⟨ret_bool (labelB_true (by omega) (by omega) (fun _ => H3.out) (fun _ => H4.out) (fun i h => HR.out i h (by omega))).symm, rfl⟩

set_option maxRecDepth 10000 in
set_option maxHeartbeats 400000 in
theorem specPath_any (t : ByteArray) (w : World) :
    Calls Tryd.prog 120 #[.string t] w fun e w' => e = .returned (.bool (pathB t)) ∧ w' = w := by
  by_cases h1 : t.size < 1
  · go_enter Tryd.func120, Tryd.ntmps120
    go_wp2
    go_ret
    exact ⟨ret_bool (pathB_size (.inl h1)).symm, rfl⟩
  have q1 : decide ((t.size : Int) < 1) = false := by rw [decide_eq_false_iff_not]; omega
  by_cases h2 : 40 < t.size
  · go_enter Tryd.func120, Tryd.ntmps120
    go_wp2
    go_ret
    exact ⟨ret_bool (pathB_size (.inr h2)).symm, rfl⟩
  have q2 : decide ((40 : Int) < (t.size : Int)) = false := by rw [decide_eq_false_iff_not]; omega
  have hp : 0 < t.size := by omega
  by_cases h3 : t[0].toNat = 47
  case neg =>
    have q3 : ((t[0].toNat : Int) != 47) = true := by rw [bne_iff_ne]; omega
    have H3 : Hid (¬ t[0].toNat = 47) := h3
    clear h3
    go_enter Tryd.func120, Tryd.ntmps120
    go_wp2
    go_ret
    exact ⟨ret_bool (pathB_first hp H3.out).symm, rfl⟩
  have q3 : ((t[0].toNat : Int) != 47) = false := by rw [bne_eq_false_iff_eq]; omega
  have H3 : Hid (t[0].toNat = 47) := h3
  clear h3
  go_enter Tryd.func120, Tryd.ntmps120
  go_wp2
  go_loop [3] (fun i => ∃ k : Nat, k ≤ t.size ∧ i = .int .i64 k ∧ Hid (∀ i (h : i < t.size), i < k → pathC t[i].toNat = true)) (fun i => t.size - (intOf i).toNat)
  case atStart => exact ⟨0, Nat.zero_le _, rfl, fun i _ hi => absurd hi (by omega)⟩
  case round =>
    obtain ⟨k, hk, rfl, HR⟩ := hrel
    by_cases hlt : k < t.size
    · by_cases d1 : t[k].toNat < 33
      · go_wp2
        go_ret
        exact ⟨ret_bool (pathB_at k hlt (pathC_no (by omega))).symm, rfl⟩
      have b1 : decide ((t[k].toNat : Int) < 33) = false := by rw [decide_eq_false_iff_not]; omega
      by_cases d2 : 126 < t[k].toNat
      · go_wp2
        go_ret
        exact ⟨ret_bool (pathB_at k hlt (pathC_no (by omega))).symm, rfl⟩
      have b2 : decide ((126 : Int) < (t[k].toNat : Int)) = false := by rw [decide_eq_false_iff_not]; omega
      by_cases d3 : t[k].toNat = 63
      · have b3 : ((t[k].toNat : Int) == 63) = true := by rw [beq_iff_eq]; omega
        have D3 : Hid (t[k].toNat = 63) := d3
        clear d3
        go_wp2
        go_ret
        exact ⟨ret_bool (pathB_at k hlt (pathC_no (by have := D3.out; omega))).symm, rfl⟩
      have b3 : ((t[k].toNat : Int) == 63) = false := by rw [beq_eq_false_iff_ne]; omega
      by_cases d4 : t[k].toNat = 35
      · have b4 : ((t[k].toNat : Int) == 35) = true := by rw [beq_iff_eq]; omega
        have D4 : Hid (t[k].toNat = 35) := d4
        clear d4
        go_wp2
        go_ret
        exact ⟨ret_bool (pathB_at k hlt (pathC_no (by have := D4.out; omega))).symm, rfl⟩
      have b4 : ((t[k].toNat : Int) == 35) = false := by rw [beq_eq_false_iff_ne]; omega
      by_cases d5 : t[k].toNat = 59
      · have b5 : ((t[k].toNat : Int) == 59) = true := by rw [beq_iff_eq]; omega
        have D5 : Hid (t[k].toNat = 59) := d5
        clear d5
        go_wp2
        go_ret
        exact ⟨ret_bool (pathB_at k hlt (pathC_no (by have := D5.out; omega))).symm, rfl⟩
      have b5 : ((t[k].toNat : Int) == 59) = false := by rw [beq_eq_false_iff_ne]; omega
      have HC : Hid (pathC t[k].toNat = true) := pathC_yes (by omega)
      clear d3 d4 d5
      go_wp2
      go_round
      case rel => exact ⟨k + 1, by omega, by go_num, all_succ HR.out hlt HC.out⟩
      case measure => simp [intOf]; omega
    · go_wp2
      go_ret
      exact ⟨ret_bool (pathB_true (by omega) (by omega) (fun _ => H3.out) (fun i h => HR.out i h (by omega))).symm, rfl⟩
end Go.Proofs.YtimmoclemcnhnaaDoor

/- The walks of the specification's l01Split and HostRight. -/
namespace Go.Proofs.YtimmoclemcnhnaaDoor
open Go.RowKit

theorem infoStr : (Tryd.prog.info? 9).map (fun i => (i.zero, i.size, i.bytes)) = some (some (.string ⟨#[]⟩), 1, 16) := by kernel_rfl
/-- the cells of texts -/
def strCells (L : List ByteArray) : List Value := L.map Value.string
theorem strCells_snoc (L : List ByteArray) (x : ByteArray) : strCells L ++ [.string x] = strCells (L ++ [x]) := by simp [strCells]

set_option maxRecDepth 10000 in
set_option maxHeartbeats 400000 in
theorem split_any (s : ByteArray) (c : Nat) (w : World) (hs : s.size ≤ 1048576) :
    Calls Tryd.prog 62 #[.string s, .int .u8 c] w fun e w' => ∃ v, e = .returned v ∧ w'.ownsRow w.heap.size 9 1 v (splitB s c).length (strCells (splitB s c)) ∧ Below w.heap.size w w' := by
  obtain ⟨i0, hi, hz0, hz1, hz2⟩ := info_parts infoStr
  go_enter Tryd.func62, Tryd.ntmps62
  go_wp2
  go_loopw [5, 6, 7] (fun v f i wr => ∃ k : Nat, k ≤ s.size ∧ i = .int .i64 k ∧ f = .int .i64 ((splitTo s c k).2 : Nat) ∧ wr.ownsRow w.heap.size 9 1 v (splitTo s c k).1.length (strCells (splitTo s c k).1) ∧ Below w.heap.size w wr) (fun _ _ i _ => s.size - (intOf i).toNat)
  case atStart => exact ⟨0, Nat.zero_le _, rfl, rfl, World.ownsRow_made w #[] 0 (Nat.le_refl _) (Nat.zero_le _) rfl, (Below.refl _ _).alloc (Nat.le_refl _) _⟩
  case round =>
    obtain ⟨k, hk, rfl, rfl, hown, hb⟩ := hrel
    have hle := splitTo_le s c k
    have hbs := hb.size
    by_cases hlt : k < s.size
    · by_cases hit : s[k].toNat = c
      · have HS : Hid (splitTo s c (k + 1) = ((splitTo s c k).1 ++ [s.extract (splitTo s c k).2 k], k + 1)) := splitTo_hit hlt hit
        have q : ((s[k].toNat : Int) == (c : Int)) = true := by rw [beq_iff_eq]; omega
        clear hit
        generalize splitTo s c k = r at *
        obtain ⟨L, f⟩ := r
        have hown2 : wr.ownsRow w.heap.size 9 1 u5 L.length (strCells L) := hown
        have hf1 : f ≤ k := hle.1
        have hf2 : L.length ≤ k := hle.2
        clear hown hle
        go_wp2_with (at_builtin; go_must (refine wpList_append_own _ rfl _ _ 23 rfl w.heap.size 9 i0 (.string ⟨#[]⟩) 1 16 Tryd.underlying23 hi hz0 hz1 hz2 rfl (by decide) _ _ _ rfl (hown2.alloc _) ⟨wr.heap.size, 0, none⟩ 1 1 [.string (s.extract f k)] rfl rfl (cell_one_new _ _ _) (by intro u hu; simp at hu; subst hu; rfl) (by unfold maxLen; omega) (by omega) (by simp; omega) ?_))
        intro v' w2 hown3 hgrow _
        rw [strCells_snoc] at hown3
        have hb2 : Below w.heap.size w w2 := (hb.alloc hbs _).grown hgrow (by simp; omega) (fun j hj => (hown2.lt j hj).1)
        clear hown2 hgrow hb
        go_wp2
        go_roundw
        case rel => exact ⟨k + 1, by omega, by go_num, by rw [HS.out]; go_num, by rw [HS.out]; simpa using hown3, hb2⟩
        case measure => simp [intOf]; omega
      · have HS : Hid (splitTo s c (k + 1) = splitTo s c k) := splitTo_miss hlt hit
        have q : ((s[k].toNat : Int) == (c : Int)) = false := by rw [beq_eq_false_iff_ne]; omega
        clear hit
        generalize splitTo s c k = r at *
        obtain ⟨L, f⟩ := r
        have hown2 : wr.ownsRow w.heap.size 9 1 u5 L.length (strCells L) := hown
        clear hown hle
        go_wp2
        go_roundw
        case rel => exact ⟨k + 1, by omega, by go_num, by rw [HS.out], by rw [HS.out]; exact hown2, hb⟩
        case measure => simp [intOf]; omega
    · obtain rfl : k = s.size := by omega
      have HS : Hid (splitB s c = (splitTo s c s.size).1 ++ [s.extract (splitTo s c s.size).2 s.size]) := rfl
      generalize splitTo s c s.size = r at *
      obtain ⟨L, f⟩ := r
      have hown2 : wr.ownsRow w.heap.size 9 1 u5 L.length (strCells L) := hown
      have hf1 : f ≤ s.size := hle.1
      have hf2 : L.length ≤ s.size := hle.2
      clear hown hle
      go_wp2_with (at_builtin; go_must (refine wpList_append_own _ rfl _ _ 23 rfl w.heap.size 9 i0 (.string ⟨#[]⟩) 1 16 Tryd.underlying23 hi hz0 hz1 hz2 rfl (by decide) _ _ _ rfl (hown2.alloc _) ⟨wr.heap.size, 0, none⟩ 1 1 [.string (s.extract f s.size)] rfl rfl (cell_one_new _ _ _) (by intro u hu; simp at hu; subst hu; rfl) (by unfold maxLen; omega) (by omega) (by simp; omega) ?_))
      intro v' w2 hown3 hgrow _
      rw [strCells_snoc] at hown3
      have hb2 : Below w.heap.size w w2 := (hb.alloc hbs _).grown hgrow (by simp; omega) (fun j hj => (hown2.lt j hj).1)
      clear hown2 hgrow hb
      go_wp2
      go_ret
      exact ⟨_, rfl, by rw [HS.out]; simpa using hown3, hb2⟩

theorem splitB_ne (s : ByteArray) (c : Nat) : ∃ n, (splitB s c).length = n + 1 := ⟨(splitTo s c s.size).1.length, by simp [splitB]⟩

set_option maxRecDepth 10000 in
set_option maxHeartbeats 400000 in
theorem specHost_any (s : ByteArray) (w : World) :
    Calls Tryd.prog 20 #[.string s] w fun e w' => e = .returned (.bool (hostB s)) ∧ Below w.heap.size w w' := by
  by_cases h1 : 100 < s.size
  · go_enter Tryd.func20, Tryd.ntmps20
    go_wp2
    go_ret
    exact ⟨ret_bool (hostB_size h1).symm, Below.refl _ _⟩
  have HA : Hid ((∀ k (h : k < (splitB s 46).length), labelB ((splitB s 46)[k]) = false → hostB s = false) ∧ ((∀ k (h : k < (splitB s 46).length), labelB ((splitB s 46)[k]) = true) → hostB s = decide ((splitB s 46).length ≤ 6))) :=
    ⟨fun k h hl => hostB_at k h hl, fun h => hostB_all (by omega) h⟩
  have hn := splitB_len s 46
  obtain ⟨n, hn1⟩ := splitB_ne s 46
  have HC : Hid (∀ W, Calls Tryd.prog 62 #[.string s, .int .u8 46] W fun e w' => ∃ v, e = .returned v ∧ w'.ownsRow W.heap.size 9 1 v (splitB s 46).length (strCells (splitB s 46)) ∧ Below W.heap.size W w') := fun W => split_any s 46 W (by omega)
  generalize splitB s 46 = L at *
  go_enter Tryd.func20, Tryd.ntmps20
  go_wp2_with fail
  refine (HC.out _).mono ?_
  rintro e w1 ⟨v, rfl, hown, hb⟩
  rw [hn1] at hown
  obtain ⟨g, cap, rfl⟩ := own_shape hown
  have hL : n + 1 ≤ 101 := by omega
  have hcell : ∀ k (h : k < L.length), w1.cell? ⟨g, k, none⟩ = some (.string L[k]) := by
    intro k hk
    rw [hown.cellAt k (by omega)]
    simp [strCells, hk]
  have HN : Hid (L.length = n + 1) := hn1
  clear hn1 hn hown
  go_wp2
  go_loop [4] (fun i => ∃ k : Nat, k ≤ n + 1 ∧ i = .int .i64 k ∧ Hid (∀ j (h : j < L.length), j < k → labelB L[j] = true)) (fun i => n + 1 - (intOf i).toNat)
  case atStart => exact ⟨0, by omega, rfl, fun j _ hj => absurd hj (by omega)⟩
  case round =>
    obtain ⟨k, hk, rfl, HR⟩ := hrel
    by_cases hlt : k < n + 1
    · have hkl : k < L.length := by rw [HN.out]; exact hlt
      have hck := hcell k hkl
      cases hlab : labelB L[k] with
      | true =>
        have HC2 : Hid (∀ W, Calls Tryd.prog 68 #[.string L[k]] W fun e w' => e = .returned (.bool true) ∧ w' = W) := fun W => by rw [← hlab]; exact specLabel_any L[k] W
        have HL : Hid (labelB L[k] = true) := hlab
        clear hlab hcell
        generalize hx : L[k] = x at *
        have HX : Hid (L[k] = x) := hx
        clear hx
        go_wp2_with (go_at_call 68; refine (HC2.out _).mono ?_; rintro e w2 ⟨rfl, rfl⟩)
        go_round
        case rel =>
          refine ⟨k + 1, by omega, by go_num, ?_⟩
          intro j hj hjk
          by_cases e : j = k
          · subst e; rw [HX.out]; exact HL.out
          · exact HR.out j hj (by omega)
        case measure => simp [intOf]; omega
      | false =>
        have HC2 : Hid (∀ W, Calls Tryd.prog 68 #[.string L[k]] W fun e w' => e = .returned (.bool false) ∧ w' = W) := fun W => by rw [← hlab]; exact specLabel_any L[k] W
        have HF : Hid (hostB s = false) := HA.out.1 k hkl hlab
        clear hlab hcell
        generalize L[k] = x at *
        go_wp2_with (go_at_call 68; refine (HC2.out _).mono ?_; rintro e w2 ⟨rfl, rfl⟩)
        go_ret
        exact ⟨ret_bool HF.out.symm, hb⟩
    · have HF : Hid (hostB s = decide (((n + 1 : Nat) : Int) ≤ 6)) := by
        show _ = _
        rw [HA.out.2 (fun j hj => HR.out j hj (by have := HN.out; omega)), HN.out]
        congr 1
        exact propext ⟨fun h => by omega, fun h => by omega⟩
      clear hcell
      go_wp2
      go_ret
      exact ⟨ret_bool (by rw [HF.out]; simp), hb⟩
end Go.Proofs.YtimmoclemcnhnaaDoor

/- Run equations at rows of bytes that a call makes itself: make, copy from a text, string of a row: each stated at whatever program; the world behind is a letter of which the row and Below are known. -/
namespace Go.Proofs.YtimmoclemcnhnaaDoor
open Go.RowKit

theorem infoU8 : (Tryd.prog.info? 5).map (fun i => (i.zero, i.size, i.bytes)) = some (some (.int .u8 0), 1, 1) := by kernel_rfl
theorem sizeU8 : (Tryd.prog.info? 5).map (·.size) = some 1 := by kernel_rfl

/-- the block g holds the cells L, none of them frozen -/
def RowAt (w : World) (g : Nat) (t : TypeId) (L : List Value) : Prop := w.heap[g]? = some (.cells L.toArray t (0, 0))

theorem make_row {P : Program} (w : World) (t e : TypeId) (z : Value) (h1 : P.underlying t = some (.slice e))
    (hi : (P.info? e).map (fun i => (i.zero, i.size, i.bytes)) = some (some z, 1, 1)) (L : Int) (n : Nat) (hL : L = (n : Int)) (b2 : n ≤ 281474976710656) :
    ∃ w' Z, Sem.run P (Instr.makeSlice t (.int .i64 L) (.int .i64 L)) w = .ok (.slice (some ⟨w.heap.size, 0, none⟩) n n) w' ∧
      RowAt w' w.heap.size e Z ∧ Z.length = n ∧ w'.heap.size = w.heap.size + 1 ∧ Below w.heap.size w w' := by
  obtain ⟨i, h2, h3, h4, h5⟩ := info_parts hi
  subst hL
  have hrun := run_make (P := P) w t e i z h1 h2 h3 .i64 .i64 n n (by omega) (Int.le_refl _) (by rw [h5]; omega) (by omega)
  simp only [Int.toNat_natCast, h4, Nat.mul_one] at hrun
  refine ⟨_, (madeCells z.cells n).toList, hrun, ?_, by simp [size_madeCells], by simp, (Below.refl _ _).alloc (Nat.le_refl _) _⟩
  unfold RowAt; rw [heap_alloc_new]

theorem copy_text {P : Program} (w : World) (dT sT ty elem : TypeId) (hu : P.underlying dT = some (.slice elem)) (hsz : (P.info? elem).map (·.size) = some 1)
    (dp : Option Addr) (dLen dCap : Nat) (x : ByteArray) (hle : x.size ≤ dLen)
    (g off : Nat) (cur : List Value) (t : TypeId) (hg : RowAt w g t cur) (hpos : 0 < x.size → dp = some ⟨g, off, none⟩)
    (hfit : off + x.size ≤ cur.length) :
    ∃ w', Sem.run P (Builtin.copy_ #[dT, sT] ty #[.slice dp dLen dCap, .string x]) w = .ok (goInt x.size) w' ∧
      RowAt w' g t (splice cur off (Lib.byteCells x.data.toList)) ∧ w'.heap.size = w.heap.size ∧ (∀ B w0, Below B w0 w → B ≤ g → Below B w0 w') := by
  by_cases h0 : x.size = 0
  · have hrun := Lib.run_copy_empty_string (P := P) w dT sT ty elem dp dLen dCap x hu (by rw [Option.isSome_iff_exists]; exact ⟨1, hsz⟩) h0
    have hnil : x.data.toList = [] := List.eq_nil_of_length_eq_zero (by rw [← Lib.size_eq]; exact h0)
    exact ⟨w, by rw [hrun, h0]; rfl, by rw [hnil]; simpa [splice, Lib.byteCells] using hg, rfl, fun _ _ h _ => h⟩
  · obtain rfl := hpos (by omega)
    have hrun := Lib.run_copy_row_string (P := P) w dT sT ty elem g off dLen dCap x cur.toArray t hu hsz hg hle (by simpa using hfit)
    refine ⟨_, hrun, ?_, by simp [World.setRow], fun B w0 hb hBg => below_setRow hb hBg _⟩
    have := setRow_heap w g _ (List.take off cur ++ (Lib.byteCells x.data.toList ++ List.drop (off + x.size) cur)).toArray t _ hg
    have hl : (Lib.byteCells x.data.toList).length = x.size := by rw [Lib.byteCells_length, ← Lib.size_eq]
    unfold RowAt splice
    rw [hl]
    simpa using this

theorem row_cell {w : World} {g : Nat} {t : TypeId} {L : List Value} (hg : RowAt w g t L) (j : Nat) : w.cell? ⟨g, j, none⟩ = L[j]? := by
  simp [World.cell?, RowAt] at *
  rw [hg]; simp

/-- string(b), b the first n cells of a row whose first cells are the bytes l -/
theorem text_of_row {P : Program} (w : World) (src dst e : TypeId) (hs : P.underlying src = some (.slice e)) (he : P.underlying e = some (.int .u8)) (hd : P.underlying dst = some .string)
    (g n cap : Nat) (t : TypeId) (l : List UInt8) (more : List Value) (hg : RowAt w g t (Lib.byteCells l ++ more)) (hn : l.length = n) :
    Sem.run P (convert src dst (.slice (some ⟨g, 0, none⟩) n cap)) w = .ok (.string ⟨l.toArray⟩) w := by
  subst hn
  refine run_convert_bytes_back (P := P) w src dst e ⟨g, 0, none⟩ cap l hs he hd ?_
  intro j hj
  have ha : (⟨g, 0, none⟩ : Addr).add j = ⟨g, j, none⟩ := by
    unfold Addr.add; split
    · rename_i h; subst h; rfl
    · simp
  rw [ha, row_cell hg, List.getElem?_append_left (by rw [Lib.byteCells_length]; exact hj)]
  simp [Lib.byteCells, hj]

theorem splice_two {α : Type} (Z X Y : List α) (h : Z.length = X.length + Y.length) : splice (splice Z 0 X) X.length Y = X ++ Y := by
  unfold splice
  simp
  omega
theorem byteCells_append (a b : List UInt8) : Lib.byteCells (a ++ b) = Lib.byteCells a ++ Lib.byteCells b := by simp [Lib.byteCells]
theorem text_append (x y : ByteArray) : (⟨(x.data.toList ++ y.data.toList).toArray⟩ : ByteArray) = x ++ y := by
  apply ByteArray.ext; simp
theorem size_list (l : List UInt8) : (⟨l.toArray⟩ : ByteArray).size = l.length := rfl
theorem len_cells (x : ByteArray) : (Lib.byteCells x.data.toList).length = x.size := by rw [Lib.byteCells_length, ← Lib.size_eq]
end Go.Proofs.YtimmoclemcnhnaaDoor

/- A number's digits, as a plain function. -/
namespace Go.Proofs.YtimmoclemcnhnaaDoor
open Go.RowKit
/-- the digits of m, none of 0; f: more than enough rounds -/
def decF : Nat → Nat → List UInt8
  | 0, _ => []
  | f + 1, m => if m = 0 then [] else decF f (m / 10) ++ [UInt8.ofNat (48 + m % 10)]
def decA (m : Nat) : List UInt8 := decF m m
theorem decF_enough (f : Nat) : ∀ g m, m ≤ f → m ≤ g → decF f m = decF g m := by
  induction f with
  | zero =>
    intro g m hf _
    obtain rfl : m = 0 := by omega
    cases g with
    | zero => rfl
    | succ g => rw [decF, decF, if_pos rfl]
  | succ f ih =>
    intro g m hf hg
    cases g with
    | zero =>
      obtain rfl : m = 0 := by omega
      rw [decF, decF, if_pos rfl]
    | succ g =>
      rw [decF, decF]
      split
      · rfl
      · rw [ih g (m / 10) (by omega) (by omega)]
theorem decA_zero : decA 0 = [] := rfl
theorem decA_pos {m : Nat} (h : 0 < m) : decA m = decA (m / 10) ++ [UInt8.ofNat (48 + m % 10)] := by
  unfold decA
  cases m with
  | zero => omega
  | succ m => rw [decF, if_neg (by omega), decF_enough m ((m + 1) / 10) ((m + 1) / 10) (by omega) (by omega)]
theorem decA_len (k : Nat) : ∀ m, m < 10 ^ k → (decA m).length ≤ k := by
  induction k with
  | zero => intro m h; obtain rfl : m = 0 := by simpa using h
            exact Nat.le_refl _
  | succ k ih =>
    intro m h
    by_cases h0 : m = 0
    · subst h0; rw [decA_zero]; simp
    · rw [decA_pos (by omega)]
      have := ih (m / 10) (by rw [Nat.div_lt_iff_lt_mul (by omega)]; rw [Nat.pow_succ] at h; omega)
      simp; omega
theorem decA_twenty {m : Nat} (h : m ≤ 9223372036854775808) : (decA m).length ≤ 20 := decA_len 20 m (Nat.lt_of_le_of_lt h (by decide))
/-- the digits of a number, a sign ahead of one below 0 -/
def decB (n : Int) : ByteArray := if n = 0 then ⟨#[48]⟩ else if n < 0 then ⟨#[45]⟩ ++ ⟨(decA n.natAbs).toArray⟩ else ⟨(decA n.natAbs).toArray⟩
theorem dec_step {m m0 : Nat} {o : List UInt8} (h : decA m ++ o = decA m0) (hm : 0 < m) : decA (m / 10) ++ (UInt8.ofNat (48 + m % 10) :: o) = decA m0 := by
  rw [← h, decA_pos hm]; simp
theorem one_row (k : Nat) (w : World) (t : TypeId) (hk : k < 256) : RowAt (w.alloc (.cells #[.int .u8 (k : Int)] t)) w.heap.size t (Lib.byteCells [UInt8.ofNat k] ++ []) := by
  unfold RowAt; rw [heap_alloc_new]
  simp [Lib.byteCells]
  omega
theorem cons_text (b : UInt8) (o : List UInt8) : (⟨[b].toArray⟩ : ByteArray) ++ ⟨o.toArray⟩ = ⟨(b :: o).toArray⟩ := by
  apply ByteArray.ext; simp
end Go.Proofs.YtimmoclemcnhnaaDoor

/- The walk of the specification's l01Dec: a number's digits. -/
namespace Go.Proofs.YtimmoclemcnhnaaDoor
open Go.RowKit

set_option maxRecDepth 10000 in
set_option maxHeartbeats 400000 in
theorem specDec_zero (w : World) :
    Calls Tryd.prog 56 #[.int .i64 0] w fun e w' => e = .returned (.string (decB 0)) ∧ Below w.heap.size w w' := by
  go_enter Tryd.func56, Tryd.ntmps56
  go_wp2
  go_ret
  exact ⟨rfl, Below.refl _ _⟩

set_option maxRecDepth 10000 in
set_option maxHeartbeats 400000 in
theorem specDec_pos (n : Nat) (w : World) (hn : 0 < n) (hm : n ≤ 9223372036854775807) :
    Calls Tryd.prog 56 #[.int .i64 ((n : Int))] w fun e w' => e = .returned (.string (decB ((n : Int)))) ∧ Below w.heap.size w w' := by
  have q1 : (((n : Int)) == 0) = false := by rw [beq_eq_false_iff_ne]; omega
  have q2 : decide ((n : Int) < 0) = false := by rw [decide_eq_false_iff_not]; omega
  have HD : Hid (decB n = ⟨(decA n).toArray⟩) := by
    show _ = _
    rw [decB, if_neg (by omega), if_neg (by omega)]; rfl
  have hl := decA_twenty (m := n) (by omega)
  go_enter Tryd.func56, Tryd.ntmps56
  go_wp2
  go_loopw [0, 4, 5] (fun x o _ wr => ∃ (m : Nat) (z : Int) (l : List UInt8), m ≤ n ∧ x = .int .i64 z ∧ z = (m : Int) ∧ o = .string ⟨l.toArray⟩ ∧ Hid (decA m ++ l = decA n) ∧ Below w.heap.size w wr) (fun x _ _ _ => (intOf x).natAbs)
  case atStart => exact ⟨n, _, [], Nat.le_refl _, rfl, rfl, rfl, List.append_nil _, Below.refl _ _⟩
  case round =>
    obtain ⟨m, z, l, hmn, rfl, rfl, rfl, HL, hb⟩ := hrel
    have hll : l.length ≤ 20 := by
      have := congrArg List.length HL.out
      rw [List.length_append] at this; omega
    have hbs := hb.size
    by_cases h0 : 0 < m
    · have q3 : (((m : Int)) != 0) = true := by rw [bne_iff_ne]; omega
      have hsz : (⟨l.toArray⟩ : ByteArray).size ≤ 20 := hll
      have hr : RowAt (wr.alloc (.cells #[.int .u8 (48 + (m : Int) % 10)] 5)) wr.heap.size 5 (Lib.byteCells [UInt8.ofNat (48 + m % 10)] ++ []) := by
        rw [show (48 + (m : Int) % 10) = ((48 + m % 10 : Nat) : Int) by omega]; exact one_row _ wr _ (by omega)
      have HS : Hid (decA (m / 10) ++ (UInt8.ofNat (48 + m % 10) :: l) = decA n) := dec_step HL.out h0
      have HT : Hid ((⟨[UInt8.ofNat (48 + m % 10)].toArray⟩ : ByteArray) ++ ⟨l.toArray⟩ = ⟨(UInt8.ofNat (48 + m % 10) :: l).toArray⟩) := cons_text _ _
      have hone : (⟨[UInt8.ofNat (48 + m % 10)].toArray⟩ : ByteArray).size ≤ 1 := Nat.le_refl _
      have q4 : decide ((m : Int) % 10 < 0) = false := by rw [decide_eq_false_iff_not]; omega
      go_wp2_with fail
      rw [text_of_row (P := Tryd.prog) _ 22 9 5 Tryd.underlying22 Tryd.underlying5 Tryd.underlying9 wr.heap.size 1 1 5 _ _ hr rfl]
      clear hr
      generalize (⟨[UInt8.ofNat (48 + m % 10)].toArray⟩ : ByteArray) = b1 at *
      generalize (⟨l.toArray⟩ : ByteArray) = o1 at *
      have hb2 : Below w.heap.size w (wr.alloc (.cells #[.int .u8 (48 + (m : Int) % 10)] 5)) := hb.alloc hbs _
      go_wp2
      go_roundw
      case rel => exact ⟨m / 10, _, UInt8.ofNat (48 + m % 10) :: l, by omega, rfl, by omega, by rw [HT.out], HS, hb2⟩
      case measure => simp [intOf]; omega
    · obtain rfl : m = 0 := by omega
      have HE : Hid (l = decA n) := by
        show _ = _
        rw [← HL.out, decA_zero]; rfl
      go_wp2
      go_ret
      exact ⟨ret_text (by rw [HD.out, HE.out]), hb⟩

set_option maxRecDepth 10000 in
set_option maxHeartbeats 400000 in
theorem specDec_neg (n : Nat) (w : World) (hn : 0 < n) (hm : n ≤ 9223372036854775808) :
    Calls Tryd.prog 56 #[.int .i64 (-(n : Int))] w fun e w' => e = .returned (.string (decB (-(n : Int)))) ∧ Below w.heap.size w w' := by
  have q1 : ((-(n : Int)) == 0) = false := by rw [beq_eq_false_iff_ne]; omega
  have q2 : -(n : Int) < 0 := by omega
  have HD : Hid (decB (-(n : Int)) = ⟨#[45]⟩ ++ ⟨(decA n).toArray⟩) := by
    show _ = _
    rw [decB, if_neg (by omega), if_pos (by omega), show (-(n : Int)).natAbs = n by omega]
  have hl := decA_twenty (m := n) (by omega)
  go_enter Tryd.func56, Tryd.ntmps56
  go_wp2
  go_loopw [0, 4, 5] (fun x o _ wr => ∃ (m : Nat) (z : Int) (l : List UInt8), m ≤ n ∧ x = .int .i64 z ∧ z = -(m : Int) ∧ o = .string ⟨l.toArray⟩ ∧ Hid (decA m ++ l = decA n) ∧ Below w.heap.size w wr) (fun x _ _ _ => (intOf x).natAbs)
  case atStart => exact ⟨n, _, [], Nat.le_refl _, rfl, rfl, rfl, List.append_nil _, Below.refl _ _⟩
  case round =>
    obtain ⟨m, z, l, hmn, rfl, rfl, rfl, HL, hb⟩ := hrel
    have hll : l.length ≤ 20 := by
      have := congrArg List.length HL.out
      rw [List.length_append] at this; omega
    have hbs := hb.size
    by_cases h0 : 0 < m
    · have q3 : ((-(m : Int)) != 0) = true := by rw [bne_iff_ne]; omega
      have hsz : (⟨l.toArray⟩ : ByteArray).size ≤ 20 := hll
      by_cases h10 : 0 < m % 10
      · have q5 : (0 : Int) < (m : Int) % 10 := by omega
        have hr : RowAt (wr.alloc (.cells #[.int .u8 (48 + (m : Int) % 10)] 5)) wr.heap.size 5 (Lib.byteCells [UInt8.ofNat (48 + m % 10)] ++ []) := by
          rw [show (48 + (m : Int) % 10 : Int) = ((48 + m % 10 : Nat) : Int) by omega]; exact one_row _ wr _ (by omega)
        have hb2 : Below w.heap.size w (wr.alloc (.cells #[.int .u8 (48 + (m : Int) % 10)] 5)) := hb.alloc hbs _
        have HS : Hid (decA (m / 10) ++ (UInt8.ofNat (48 + m % 10) :: l) = decA n) := dec_step HL.out h0
        have HT : Hid ((⟨[UInt8.ofNat (48 + m % 10)].toArray⟩ : ByteArray) ++ ⟨l.toArray⟩ = ⟨(UInt8.ofNat (48 + m % 10) :: l).toArray⟩) := cons_text _ _
        have hone : (⟨[UInt8.ofNat (48 + m % 10)].toArray⟩ : ByteArray).size ≤ 1 := Nat.le_refl _
        go_wp2_with fail
        rw [text_of_row (P := Tryd.prog) _ 22 9 5 Tryd.underlying22 Tryd.underlying5 Tryd.underlying9 wr.heap.size 1 1 5 _ _ hr rfl]
        clear hr
        generalize (⟨[UInt8.ofNat (48 + m % 10)].toArray⟩ : ByteArray) = b1 at *
        generalize (⟨l.toArray⟩ : ByteArray) = o1 at *
        go_wp2
        go_roundw
        case rel => exact ⟨m / 10, _, UInt8.ofNat (48 + m % 10) :: l, by omega, rfl, by omega, by rw [HT.out], HS, hb2⟩
        case measure => simp [intOf]; omega
      · have e10 : (m : Int) % 10 = 0 := by omega
        have q5 : decide ((0 : Int) < (m : Int) % 10) = false := by rw [decide_eq_false_iff_not]; omega
        have hr : RowAt (wr.alloc (.cells #[.int .u8 (48)] 5)) wr.heap.size 5 (Lib.byteCells [UInt8.ofNat (48 + m % 10)] ++ []) := by
          rw [show (48 : Int) = ((48 + m % 10 : Nat) : Int) by omega]; exact one_row _ wr _ (by omega)
        have hb2 : Below w.heap.size w (wr.alloc (.cells #[.int .u8 (48)] 5)) := hb.alloc hbs _
        have HS : Hid (decA (m / 10) ++ (UInt8.ofNat (48 + m % 10) :: l) = decA n) := dec_step HL.out h0
        have HT : Hid ((⟨[UInt8.ofNat (48 + m % 10)].toArray⟩ : ByteArray) ++ ⟨l.toArray⟩ = ⟨(UInt8.ofNat (48 + m % 10) :: l).toArray⟩) := cons_text _ _
        have hone : (⟨[UInt8.ofNat (48 + m % 10)].toArray⟩ : ByteArray).size ≤ 1 := Nat.le_refl _
        go_wp2_with fail
        rw [text_of_row (P := Tryd.prog) _ 22 9 5 Tryd.underlying22 Tryd.underlying5 Tryd.underlying9 wr.heap.size 1 1 5 _ _ hr rfl]
        clear hr
        generalize (⟨[UInt8.ofNat (48 + m % 10)].toArray⟩ : ByteArray) = b1 at *
        generalize (⟨l.toArray⟩ : ByteArray) = o1 at *
        go_wp2
        go_roundw
        case rel => exact ⟨m / 10, _, UInt8.ofNat (48 + m % 10) :: l, by omega, rfl, by omega, by rw [HT.out], HS, hb2⟩
        case measure => simp [intOf]; omega
    · obtain rfl : m = 0 := by omega
      have HE : Hid (l = decA n) := by
        show _ = _
        rw [← HL.out, decA_zero]; rfl
      have hsz : (⟨l.toArray⟩ : ByteArray).size ≤ 20 := hll
      have HD2 : Hid (decB (-(n : Int)) = ⟨#[45]⟩ ++ ⟨l.toArray⟩) := by
        show _ = _
        rw [HD.out, HE.out]
      clear hll
      generalize (⟨l.toArray⟩ : ByteArray) = o1 at *
      go_wp2
      go_ret
      exact ⟨ret_text HD2.out.symm, hb⟩

end Go.Proofs.YtimmoclemcnhnaaDoor

/- The walks of the specification's l02Place, UrlRight, l02Text and UrlText. -/
namespace Go.Proofs.YtimmoclemcnhnaaDoor
open Go.RowKit

def schemeB (t : ByteArray) : Bool := (t.toList == [104, 116, 116, 112]) || (t.toList == [104, 116, 116, 112, 115])
def placeB (sc ho : ByteArray) (po : Int) : Bool := schemeB sc && hostB ho && (decide (1 ≤ po) && decide (po ≤ 65535))
def urlB (sc ho pa : ByteArray) (po : Int) : Bool := placeB sc ho po && pathB pa

set_option maxRecDepth 10000 in
set_option maxHeartbeats 400000 in
theorem specScheme_any (t : ByteArray) (w : World) :
    Calls Tryd.prog 170 #[.string t] w fun e w' => e = .returned (.bool (schemeB t)) ∧ w' = w := by
  unfold schemeB
  cases h : (t.toList == [104, 116, 116, 112]) <;>
  · go_enter Tryd.func170, Tryd.ntmps170
    go_wp2
    go_ret
    exact ⟨rfl, rfl⟩

set_option maxRecDepth 10000 in
set_option maxHeartbeats 400000 in
theorem specIs_any (n lo hi : Int) (w : World) :
    Calls Tryd.prog 121 #[.int .i64 n, .int .i64 lo, .int .i64 hi] w fun e w' => e = .returned (.bool (decide (lo ≤ n) && decide (n ≤ hi))) ∧ w' = w := by
  by_cases h : lo ≤ n
  · go_enter Tryd.func121, Tryd.ntmps121
    go_wp2
    go_ret
    exact ⟨ret_bool (by simp [h]), rfl⟩
  · have q : decide (lo ≤ n) = false := by rw [decide_eq_false_iff_not]; exact h
    go_enter Tryd.func121, Tryd.ntmps121
    go_wp2
    go_ret
    exact ⟨ret_bool (by simp), rfl⟩

set_option maxRecDepth 10000 in
set_option maxHeartbeats 400000 in
theorem specPlace_any (sc ho : ByteArray) (po : Int) (w : World) :
    Calls Tryd.prog 119 #[.string sc, .string ho, .int .i64 po] w fun e w' => e = .returned (.bool (placeB sc ho po)) ∧ Below w.heap.size w w' := by
  have H1 := fun W => specScheme_any sc W
  have H2 := fun W => specHost_any ho W
  have H3 := fun W => specIs_any po 1 65535 W
  have HP : Hid (placeB sc ho po = (schemeB sc && hostB ho && (decide (1 ≤ po) && decide (po ≤ 65535)))) := rfl
  generalize schemeB sc = b1 at *
  generalize hostB ho = b2 at *
  generalize (decide (1 ≤ po) && decide (po ≤ 65535)) = b3 at *
  have G1 : Hid (∀ W, Calls Tryd.prog 170 #[.string sc] W fun e w' => e = .returned (.bool b1) ∧ w' = W) := H1
  have G2 : Hid (∀ W, Calls Tryd.prog 20 #[.string ho] W fun e w' => e = .returned (.bool b2) ∧ Below W.heap.size W w') := H2
  have G3 : Hid (∀ W, Calls Tryd.prog 121 #[.int .i64 po, .int .i64 1, .int .i64 65535] W fun e w' => e = .returned (.bool b3) ∧ w' = W) := H3
  clear H1 H2 H3
  cases b1 with
  | false =>
    go_enter Tryd.func119, Tryd.ntmps119
    go_wp2_with (go_at_call 170; refine (G1.out _).mono ?_; rintro e w1 ⟨rfl, rfl⟩)
    go_ret
    exact ⟨ret_bool (by rw [HP.out]; rfl), Below.refl _ _⟩
  | true =>
    cases b2 with
    | false =>
      go_enter Tryd.func119, Tryd.ntmps119
      go_wp2_with (first | (go_at_call 170; refine (G1.out _).mono ?_; rintro e w1 ⟨rfl, rfl⟩) | (go_at_call 20; refine (G2.out _).mono ?_; rintro e w2 ⟨rfl, hb⟩))
      go_ret
      exact ⟨ret_bool (by rw [HP.out]; rfl), hb⟩
    | true =>
      go_enter Tryd.func119, Tryd.ntmps119
      go_wp2_with (first | (go_at_call 170; refine (G1.out _).mono ?_; rintro e w1 ⟨rfl, rfl⟩) | (go_at_call 20; refine (G2.out _).mono ?_; rintro e w2 ⟨rfl, hb⟩) | (go_at_call 121; refine (G3.out _).mono ?_; rintro e w3 ⟨rfl, rfl⟩))
      go_ret
      exact ⟨ret_bool (by rw [HP.out]; rfl), hb⟩

/-- a Url, as a value -/
def urlV (sc ho pa : ByteArray) (po : Int) : Value := .agg #[.string sc, .string ho, .int .i64 po, .string pa]

set_option maxRecDepth 10000 in
set_option maxHeartbeats 400000 in
theorem specUrlRight_any (sc ho pa : ByteArray) (po : Int) (w : World) :
    Calls Tryd.prog 72 #[urlV sc ho pa po] w fun e w' => e = .returned (.bool (urlB sc ho pa po)) ∧ Below w.heap.size w w' := by
  have H1 := fun W => specPlace_any sc ho po W
  have H2 := fun W => specPath_any pa W
  have HP : Hid (urlB sc ho pa po = (placeB sc ho po && pathB pa)) := rfl
  generalize placeB sc ho po = b1 at *
  generalize pathB pa = b2 at *
  have G1 : Hid (∀ W, Calls Tryd.prog 119 #[.string sc, .string ho, .int .i64 po] W fun e w' => e = .returned (.bool b1) ∧ Below W.heap.size W w') := H1
  have G2 : Hid (∀ W, Calls Tryd.prog 120 #[.string pa] W fun e w' => e = .returned (.bool b2) ∧ w' = W) := H2
  clear H1 H2
  unfold urlV
  cases b1 with
  | false =>
    go_enter Tryd.func72, Tryd.ntmps72
    go_wp2_with fail
    refine (G1.out _).mono ?_
    rintro e w1 ⟨rfl, hb⟩
    go_wp2
    go_ret
    exact ⟨ret_bool (by rw [HP.out]; rfl), ((Below.refl _ _).alloc (Nat.le_refl _) _).trans (hb.mono (by simp))⟩
  | true =>
    go_enter Tryd.func72, Tryd.ntmps72
    go_wp2_with fail
    refine (G1.out _).mono ?_
    rintro e w1 ⟨rfl, hb⟩
    have hc3 : w1.cell? ⟨w.heap.size, 3, none⟩ = some (.string pa) := by rw [(bcell hb).1 _ _ (by simp)]; simp
    go_wp2_with (go_at_call 120; refine (G2.out _).mono ?_; rintro e w2 ⟨rfl, rfl⟩)
    go_ret
    exact ⟨ret_bool (by rw [HP.out]; rfl), ((Below.refl _ _).alloc (Nat.le_refl _) _).trans (hb.mono (by simp))⟩

def usualP (sc : ByteArray) : Int := if (sc.toList == [104, 116, 116, 112, 115]) = true then 443 else 80
/-- the text of a place -/
def placeT (sc ho : ByteArray) (po : Int) : ByteArray := if po = usualP sc then sc ++ ⟨#[58, 47, 47]⟩ ++ ho else sc ++ ⟨#[58, 47, 47]⟩ ++ ho ++ ⟨#[58]⟩ ++ decB po


theorem decB_size {n : Int} (h1 : -9223372036854775808 ≤ n) (h2 : n ≤ 9223372036854775807) : (decB n).size ≤ 21 := by
  unfold decB
  split
  · exact (by decide : 1 ≤ 21)
  · split
    · have := decA_twenty (m := n.natAbs) (by omega)
      rw [ByteArray.size_append]
      show 1 + (decA n.natAbs).length ≤ 21
      omega
    · have := decA_twenty (m := n.natAbs) (by omega)
      show (decA n.natAbs).length ≤ 21
      omega
theorem specDec_any (n : Int) (w : World) (h1 : -9223372036854775808 ≤ n) (h2 : n ≤ 9223372036854775807) :
    Calls Tryd.prog 56 #[.int .i64 n] w fun e w' => e = .returned (.string (decB n)) ∧ Below w.heap.size w w' := by
  by_cases h0 : n = 0
  · subst h0; exact specDec_zero w
  by_cases hn : n < 0
  · obtain ⟨m, hm⟩ : ∃ m : Nat, n = -(m : Int) := ⟨n.natAbs, by omega⟩
    subst hm
    exact specDec_neg m w (by omega) (by omega)
  · obtain ⟨m, rfl⟩ := Int.eq_ofNat_of_zero_le (show 0 ≤ n by omega)
    exact specDec_pos m w (by omega) (by omega)

end Go.Proofs.YtimmoclemcnhnaaDoor

/- What a right SetCookie is; the walks of the specification's l04Mode and SetRight. -/
namespace Go.Proofs.YtimmoclemcnhnaaDoor
open Go.RowKit

/-- a SetCookie, as a value -/
def setV (na va dm pa : ByteArray) (ag : Int) (se : Bool) (mo : Int) (pt : Bool) : Value := .agg #[.string na, .string va, .string dm, .string pa, .int .i64 ag, .bool se, .int .i64 mo, .bool pt]
def ageB (ag : Int) : Bool := decide (-1 ≤ ag) && decide (ag ≤ 1000000)
def modeB (mo : Int) : Bool := decide (0 ≤ mo) && decide (mo ≤ 2)
/-- empty, or as it is to be -/
def orB (t : ByteArray) (b : Bool) : Bool := t.toList.isEmpty || b
def setB (na va dm pa : ByteArray) (ag mo : Int) : Bool := !na.toList.isEmpty && wordB na && wordB va && orB dm (hostB dm) && orB pa (pathB pa) && ageB ag && modeB mo

set_option maxRecDepth 10000 in
theorem specMode_any (mo : Int) (w : World) :
    Calls Tryd.prog 169 #[.int .i64 mo] w fun e w' => e = .returned (.bool (modeB mo)) ∧ w' = w := by
  have H : Hid (∀ W, Calls Tryd.prog 121 #[.int .i64 mo, .int .i64 0, .int .i64 2] W fun e w' => e = .returned (.bool (modeB mo)) ∧ w' = W) := fun W => specIs_any mo 0 2 W
  generalize modeB mo = b at *
  go_enter Tryd.func169, Tryd.ntmps169
  go_wp2_with (go_at_call 121; refine (H.out _).mono ?_; rintro e w1 ⟨rfl, rfl⟩)
  go_ret
  exact ⟨rfl, rfl⟩
end Go.Proofs.YtimmoclemcnhnaaDoor

/- What a cookie is, and when it is right. Written by cookie6.py. -/
namespace Go.Proofs.YtimmoclemcnhnaaDoor
open Go.RowKit

/-- a cookie -/
structure Ck where
  na : ByteArray
  va : ByteArray
  ho : ByteArray
  al : Bool
  pa : ByteArray
  se : Bool
  mo : Int
  pt : ByteArray
  un : Int
  ma : Int
/-- the value of a field, by its place -/
def ckC (c : Ck) (o : Nat) : Value := if o = 0 then .string c.na else if o = 1 then .string c.va else if o = 2 then .string c.ho else if o = 3 then .bool c.al else if o = 4 then .string c.pa else if o = 5 then .bool c.se else if o = 6 then .int .i64 c.mo else if o = 7 then .string c.pt else if o = 8 then .int .i64 c.un else .int .i64 c.ma
/-- a cookie, as a value -/
def ckV (c : Ck) : Value := .agg #[.string c.na, .string c.va, .string c.ho, .bool c.al, .string c.pa, .bool c.se, .int .i64 c.mo, .string c.pt, .int .i64 c.un, .int .i64 c.ma]
def ckNone : Ck := ⟨⟨#[]⟩, ⟨#[]⟩, ⟨#[]⟩, false, ⟨#[]⟩, false, 0, ⟨#[]⟩, 0, 0⟩
def timeB (n : Int) : Bool := decide (0 ≤ n) && decide (n ≤ 1000000)
def partB (t : ByteArray) : Bool := decide (t.size ≤ 120)
/-- of no mode for strangers and of no part, or secure -/
def safeB (se : Bool) (mo : Int) (pt : ByteArray) : Bool := se || ((mo != 2) && pt.toList.isEmpty)
/-- a right cookie -/
def ckB (c : Ck) : Bool := !c.na.toList.isEmpty && wordB c.na && wordB c.va && hostB c.ho && pathB c.pa && modeB c.mo && partB c.pt && timeB c.un && timeB c.ma && safeB c.se c.mo c.pt
theorem ckB_parts {c : Ck} (h : ckB c = true) : wordB c.na = true ∧ wordB c.va = true ∧ hostB c.ho = true ∧ pathB c.pa = true ∧ modeB c.mo = true ∧ partB c.pt = true ∧ timeB c.un = true ∧ timeB c.ma = true ∧ safeB c.se c.mo c.pt = true := by
  unfold ckB at h
  simp only [Bool.and_eq_true] at h
  obtain ⟨⟨⟨⟨⟨⟨⟨⟨⟨_, h1⟩, h2⟩, h3⟩, h4⟩, h5⟩, h6⟩, h7⟩, h8⟩, h9⟩ := h
  exact ⟨h1, h2, h3, h4, h5, h6, h7, h8, h9⟩
end Go.Proofs.YtimmoclemcnhnaaDoor

/- What the laws do with a Cookie besides their calls: its size is looked at, it is handed on field by field, two are held against each other. -/
namespace Go.Proofs.YtimmoclemcnhnaaDoor
open Go.RowKit

set_option maxRecDepth 10000 in
set_option maxHeartbeats 1000000 in
theorem szCookie_at (x0 : ByteArray) (x1 : ByteArray) (x2 : ByteArray) (x3 : Bool) (x4 : ByteArray) (x5 : Bool) (x6 : Int) (x7 : ByteArray) (x8 : Int) (x9 : Int) (l : Int) (w : World) (h0 : x0.size ≤ maxLen) (h1 : x1.size ≤ maxLen) (h2 : x2.size ≤ maxLen) (h4 : x4.size ≤ maxLen) (h7 : x7.size ≤ maxLen) (l0 : 0 ≤ l) (l1 : l ≤ 1048576) :
    Calls Tryd.prog 70 #[.agg #[.string x0, .string x1, .string x2, .bool x3, .string x4, .bool x5, .int .i64 x6, .string x7, .int .i64 x8, .int .i64 x9], .int .i64 l] w fun e w' => (∃ r : Int, e = .returned (.int .i64 r) ∧ (r < 0 ∨ (0 ≤ r ∧ r ≤ 1048576 ∧ x0.size + x1.size + x2.size + x4.size + x7.size ≤ 1048576))) ∧ Below w.heap.size w w' := by
  unfold maxLen at h0 h1 h2 h4 h7
  by_cases c0 : l < x0.size
  · have q0 : l - (x0.size : Int) < 0 := by omega
    go_enter Tryd.func70, Tryd.ntmps70
    go_wp2
    go_ret
    exact ⟨⟨-1, rfl, .inl (by omega)⟩, (Below.refl _ _).alloc (Nat.le_refl _) _⟩
  have q0 : decide (l - (x0.size : Int) < 0) = false := by rw [decide_eq_false_iff_not]; omega
  by_cases c1 : l < x0.size + x1.size
  · have q1 : l - (x0.size : Int) - (x1.size : Int) < 0 := by omega
    go_enter Tryd.func70, Tryd.ntmps70
    go_wp2
    go_ret
    exact ⟨⟨-1, rfl, .inl (by omega)⟩, (Below.refl _ _).alloc (Nat.le_refl _) _⟩
  have q1 : decide (l - (x0.size : Int) - (x1.size : Int) < 0) = false := by rw [decide_eq_false_iff_not]; omega
  by_cases c2 : l < x0.size + x1.size + x2.size
  · have q2 : l - (x0.size : Int) - (x1.size : Int) - (x2.size : Int) < 0 := by omega
    go_enter Tryd.func70, Tryd.ntmps70
    go_wp2
    go_ret
    exact ⟨⟨-1, rfl, .inl (by omega)⟩, (Below.refl _ _).alloc (Nat.le_refl _) _⟩
  have q2 : decide (l - (x0.size : Int) - (x1.size : Int) - (x2.size : Int) < 0) = false := by rw [decide_eq_false_iff_not]; omega
  by_cases c4 : l < x0.size + x1.size + x2.size + x4.size
  · have q4 : l - (x0.size : Int) - (x1.size : Int) - (x2.size : Int) - (x4.size : Int) < 0 := by omega
    go_enter Tryd.func70, Tryd.ntmps70
    go_wp2
    go_ret
    exact ⟨⟨-1, rfl, .inl (by omega)⟩, (Below.refl _ _).alloc (Nat.le_refl _) _⟩
  have q4 : decide (l - (x0.size : Int) - (x1.size : Int) - (x2.size : Int) - (x4.size : Int) < 0) = false := by rw [decide_eq_false_iff_not]; omega
  by_cases c7 : l < x0.size + x1.size + x2.size + x4.size + x7.size
  · have q7 : l - (x0.size : Int) - (x1.size : Int) - (x2.size : Int) - (x4.size : Int) - (x7.size : Int) < 0 := by omega
    go_enter Tryd.func70, Tryd.ntmps70
    go_wp2
    go_ret
    exact ⟨⟨-1, rfl, .inl (by omega)⟩, (Below.refl _ _).alloc (Nat.le_refl _) _⟩
  have q7 : decide (l - (x0.size : Int) - (x1.size : Int) - (x2.size : Int) - (x4.size : Int) - (x7.size : Int) < 0) = false := by rw [decide_eq_false_iff_not]; omega
  go_enter Tryd.func70, Tryd.ntmps70
  go_wp2
  go_ret
  exact ⟨⟨l - (x0.size : Int) - (x1.size : Int) - (x2.size : Int) - (x4.size : Int) - (x7.size : Int), rfl, .inr ⟨by omega, by omega, by omega⟩⟩, (Below.refl _ _).alloc (Nat.le_refl _) _⟩
set_option maxRecDepth 10000 in
set_option maxHeartbeats 1000000 in
theorem toCookie_any (x0 : ByteArray) (x1 : ByteArray) (x2 : ByteArray) (x3 : Bool) (x4 : ByteArray) (x5 : Bool) (x6 : Int) (x7 : ByteArray) (x8 : Int) (x9 : Int) (w : World) :
    Calls Tryd.prog 76 #[.agg #[.string x0, .string x1, .string x2, .bool x3, .string x4, .bool x5, .int .i64 x6, .string x7, .int .i64 x8, .int .i64 x9]] w fun e w' => e = .returned (.agg #[.string x0, .string x1, .string x2, .bool x3, .string x4, .bool x5, .int .i64 x6, .string x7, .int .i64 x8, .int .i64 x9]) ∧ Below w.heap.size w w' := by
  go_enter Tryd.func76, Tryd.ntmps76
  go_wp2
  exact bodyPost_ret (v := .agg #[.string x0, .string x1, .string x2, .bool x3, .string x4, .bool x5, .int .i64 x6, .string x7, .int .i64 x8, .int .i64 x9]) (by simp [results, Tryd.results76, go_sem]) rfl ⟨rfl, (((Below.refl _ _).alloc (Nat.le_refl _) _).alloc (by simp) _).alloc (by simp; omega) _⟩
set_option maxRecDepth 10000 in
set_option maxHeartbeats 1000000 in
theorem eqCookie_any (x0 : ByteArray) (x1 : ByteArray) (x2 : ByteArray) (x3 : Bool) (x4 : ByteArray) (x5 : Bool) (x6 : Int) (x7 : ByteArray) (x8 : Int) (x9 : Int) (w : World) :
    Calls Tryd.prog 85 #[.agg #[.string x0, .string x1, .string x2, .bool x3, .string x4, .bool x5, .int .i64 x6, .string x7, .int .i64 x8, .int .i64 x9], .agg #[.string x0, .string x1, .string x2, .bool x3, .string x4, .bool x5, .int .i64 x6, .string x7, .int .i64 x8, .int .i64 x9]] w fun e w' => e = .returned (.bool true) ∧ Below w.heap.size w w' := by
  go_enter Tryd.func85, Tryd.ntmps85
  go_wp2
  go_ret
  exact ⟨rfl, ((Below.refl _ _).alloc (Nat.le_refl _) _).alloc (by simp) _⟩
end Go.Proofs.YtimmoclemcnhnaaDoor

/- A struct of 10 one-cell fields, by value, opened. -/
namespace Go.Proofs.YtimmoclemcnhnaaDoor
open Go.ChangeShapes Go.WideShapes Go.ChangeAt Go.RowKit Go.Joins Go.Deep

theorem array10 {α : Type} {cs : Array α} (h : cs.size = 10) : ∃ c0 c1 c2 c3 c4 c5 c6 c7 c8 c9, cs = #[c0, c1, c2, c3, c4, c5, c6, c7, c8, c9] := by
  obtain ⟨l⟩ := cs
  match l, h with
  | [c0, c1, c2, c3, c4, c5, c6, c7, c8, c9], _ => exact ⟨c0, c1, c2, c3, c4, c5, c6, c7, c8, c9, rfl⟩
theorem trod_struct10 {H : Type} {enc : TypeId × Value → H} {P : Program} {w : World} {base : Nat} {spare : Nat → Bool} {held : Bool} {t : TypeId} {f0 f1 f2 f3 f4 f5 f6 f7 f8 f9 : Field} {fuel : Nat} {cs : List Value} {x : DataW H × List MemPlace} (ht : P.underlying t = some (.struct #[f0, f1, f2, f3, f4, f5, f6, f7, f8, f9])) (h : DataW.trod enc P w base spare held fuel t cs = some x) :
    ∃ (y0 y1 y2 y3 y4 y5 y6 y7 y8 y9 : DataW H × List MemPlace) (n : Nat), DataW.trod enc P w base spare held n f0.type ((cs.drop f0.offset).take (P.cellsOf f0.type)) = some y0 ∧ DataW.trod enc P w base spare held n f1.type ((cs.drop f1.offset).take (P.cellsOf f1.type)) = some y1 ∧ DataW.trod enc P w base spare held n f2.type ((cs.drop f2.offset).take (P.cellsOf f2.type)) = some y2 ∧ DataW.trod enc P w base spare held n f3.type ((cs.drop f3.offset).take (P.cellsOf f3.type)) = some y3 ∧ DataW.trod enc P w base spare held n f4.type ((cs.drop f4.offset).take (P.cellsOf f4.type)) = some y4 ∧ DataW.trod enc P w base spare held n f5.type ((cs.drop f5.offset).take (P.cellsOf f5.type)) = some y5 ∧ DataW.trod enc P w base spare held n f6.type ((cs.drop f6.offset).take (P.cellsOf f6.type)) = some y6 ∧ DataW.trod enc P w base spare held n f7.type ((cs.drop f7.offset).take (P.cellsOf f7.type)) = some y7 ∧ DataW.trod enc P w base spare held n f8.type ((cs.drop f8.offset).take (P.cellsOf f8.type)) = some y8 ∧ DataW.trod enc P w base spare held n f9.type ((cs.drop f9.offset).take (P.cellsOf f9.type)) = some y9 := by
  obtain ⟨xs, n, _, rfl, hl, hlen, hf⟩ := DataW.trod_struct ht h
  match xs, hlen with
  | [y0, y1, y2, y3, y4, y5, y6, y7, y8, y9], _ => exact ⟨y0, y1, y2, y3, y4, y5, y6, y7, y8, y9, n, by simpa using hf 0 f0 rfl, by simpa using hf 1 f1 rfl, by simpa using hf 2 f2 rfl, by simpa using hf 3 f3 rfl, by simpa using hf 4 f4 rfl, by simpa using hf 5 f5 rfl, by simpa using hf 6 f6 rfl, by simpa using hf 7 f7 rfl, by simpa using hf 8 f8 rfl, by simpa using hf 9 f9 rfl⟩
theorem open_agg10 {H : Type} {enc : TypeId × Value → H} {P : Program} {w : World} {base : Nat} {spare : Nat → Bool} {held : Bool} {r : Reach} {b0 : Nat} {t : TypeId} {f0 f1 f2 f3 f4 f5 f6 f7 f8 f9 : Field} {v : Value} {d : DataW H} {p : List MemPlace} (hs : P.underlying t = some (.struct #[f0, f1, f2, f3, f4, f5, f6, f7, f8, f9])) (hone : oneCellFields P #[f0, f1, f2, f3, f4, f5, f6, f7, f8, f9] = true) (hC : P.cellsOf t = 10)
    (hv : Value.okWide P w r b0 t v) (h : DataW.Trod enc P w base spare held t v d p) :
    ∃ (c0 c1 c2 c3 c4 c5 c6 c7 c8 c9 : Value) (y0 y1 y2 y3 y4 y5 y6 y7 y8 y9 : DataW H × List MemPlace) (n : Nat), v = .agg #[c0, c1, c2, c3, c4, c5, c6, c7, c8, c9] ∧ DataW.trod enc P w base spare held n f0.type [c0] = some y0 ∧ DataW.trod enc P w base spare held n f1.type [c1] = some y1 ∧ DataW.trod enc P w base spare held n f2.type [c2] = some y2 ∧ DataW.trod enc P w base spare held n f3.type [c3] = some y3 ∧ DataW.trod enc P w base spare held n f4.type [c4] = some y4 ∧ DataW.trod enc P w base spare held n f5.type [c5] = some y5 ∧ DataW.trod enc P w base spare held n f6.type [c6] = some y6 ∧ DataW.trod enc P w base spare held n f7.type [c7] = some y7 ∧ DataW.trod enc P w base spare held n f8.type [c8] = some y8 ∧ DataW.trod enc P w base spare held n f9.type [c9] = some y9 := by
  obtain ⟨cs, rfl, hsz⟩ := okWide_struct hs hv
  obtain ⟨c0, c1, c2, c3, c4, c5, c6, c7, c8, c9, rfl⟩ := array10 (hsz.trans hC)
  obtain ⟨fuel, hf⟩ := h
  obtain ⟨y0, y1, y2, y3, y4, y5, y6, y7, y8, y9, n, h0, h1, h2, h3, h4, h5, h6, h7, h8, h9⟩ := trod_struct10 hs hf
  obtain ⟨o0, k0⟩ := hone_of hone 0 f0 rfl
  obtain ⟨o1, k1⟩ := hone_of hone 1 f1 rfl
  obtain ⟨o2, k2⟩ := hone_of hone 2 f2 rfl
  obtain ⟨o3, k3⟩ := hone_of hone 3 f3 rfl
  obtain ⟨o4, k4⟩ := hone_of hone 4 f4 rfl
  obtain ⟨o5, k5⟩ := hone_of hone 5 f5 rfl
  obtain ⟨o6, k6⟩ := hone_of hone 6 f6 rfl
  obtain ⟨o7, k7⟩ := hone_of hone 7 f7 rfl
  obtain ⟨o8, k8⟩ := hone_of hone 8 f8 rfl
  obtain ⟨o9, k9⟩ := hone_of hone 9 f9 rfl
  exact ⟨c0, c1, c2, c3, c4, c5, c6, c7, c8, c9, y0, y1, y2, y3, y4, y5, y6, y7, y8, y9, n, rfl, by simpa [Value.cells, o0, k0] using h0, by simpa [Value.cells, o1, k1] using h1, by simpa [Value.cells, o2, k2] using h2, by simpa [Value.cells, o3, k3] using h3, by simpa [Value.cells, o4, k4] using h4, by simpa [Value.cells, o5, k5] using h5, by simpa [Value.cells, o6, k6] using h6, by simpa [Value.cells, o7, k7] using h7, by simpa [Value.cells, o8, k8] using h8, by simpa [Value.cells, o9, k9] using h9⟩
end Go.Proofs.YtimmoclemcnhnaaDoor

/- Rows of texts that a law reads, marks and reads again; the marks' texts. -/
namespace Go.Proofs.YtimmoclemcnhnaaDoor
open Go.RowKit

/-- the mark of a number above 0 -/
def markT (k : Nat) : ByteArray := ⟨#[109]⟩ ++ ⟨(decA k).toArray⟩

/-- a slice of n texts, f of each place, that lies from block B on -/
def SliceS (w : World) (B : Nat) (v : Value) (n : Nat) (f : Nat → ByteArray) : Prop :=
  ∃ p cap, v = .slice p n cap ∧ (0 < n → ∃ g, p = some ⟨g, 0, none⟩ ∧ B ≤ g ∧ g < w.heap.size ∧ ∀ j, j < n → w.cell? ⟨g, j, none⟩ = some (.string (f j)) ∧ w.frozen? ⟨g, j, none⟩ = false)
theorem SliceS.below {w w' : World} {B n : Nat} {v : Value} {f : Nat → ByteArray} (h : SliceS w B v n f) (hb : Below w.heap.size w w') : SliceS w' B v n f := by
  obtain ⟨p, cap, rfl, h⟩ := h
  refine ⟨p, cap, rfl, fun hn => ?_⟩
  obtain ⟨g, rfl, hB, hg, hc⟩ := h hn
  have hs := hb.size
  refine ⟨g, rfl, hB, by omega, fun j hj => ⟨?_, ?_⟩⟩
  · rw [(bcell hb).1 _ _ hg]; exact (hc j hj).1
  · rw [(bcell hb).2 _ _ hg]; exact (hc j hj).2
/-- a row below B stays while rows from B on are written -/
theorem SliceS.kept {w w' : World} {B B' n : Nat} {v : Value} {f : Nat → ByteArray} (h : SliceS w B v n f) (hb : Below B' w w') (hlt : ∀ g cap m, v = .slice (some ⟨g, 0, none⟩) m cap → g < B') : SliceS w' B v n f := by
  obtain ⟨p, cap, rfl, h⟩ := h
  refine ⟨p, cap, rfl, fun hn => ?_⟩
  obtain ⟨g, rfl, hB, hg, hc⟩ := h hn
  have hs := hb.size
  have hl := hlt g cap n rfl
  refine ⟨g, rfl, hB, by omega, fun j hj => ⟨?_, ?_⟩⟩
  · rw [hb.cell (p := ⟨g, j, none⟩) hl]; exact (hc j hj).1
  · rw [hb.frozen (p := ⟨g, j, none⟩) hl]; exact (hc j hj).2
theorem SliceS.lt {w : World} {B n : Nat} {v : Value} {f : Nat → ByteArray} (h : SliceS w B v (n + 1) f) : ∀ g cap m, v = .slice (some ⟨g, 0, none⟩) m cap → g < w.heap.size := by
  obtain ⟨p, cap, rfl, h⟩ := h
  obtain ⟨g, rfl, hB, hg, hc⟩ := h (by omega)
  intro g' cap' m e
  injection e with e1
  injection e1 with e1
  injection e1 with e1
  omega
theorem SliceS.mono {w : World} {B B' n : Nat} {v : Value} {f : Nat → ByteArray} (h : SliceS w B v n f) (hB : B' ≤ B) : SliceS w B' v n f := by
  obtain ⟨p, cap, rfl, h⟩ := h
  refine ⟨p, cap, rfl, fun hn => ?_⟩
  obtain ⟨g, rfl, h1, h2⟩ := h hn
  exact ⟨g, rfl, by omega, h2⟩

set_option maxRecDepth 10000 in
set_option maxHeartbeats 400000 in
theorem markText_any (n : Nat) (w : World) (hn : 0 < n) (hm : n ≤ 9223372036854775807) :
    Calls Tryd.prog 86 #[.int .i64 (n : Int)] w fun e w' => e = .returned (.string (markT n)) ∧ Below w.heap.size w w' := by
  have q2 : decide (n = 0) = false := by rw [decide_eq_false_iff_not]; omega
  have q3 : ¬ n = 0 := by omega
  have hl := decA_twenty (m := n) (by omega)
  go_enter Tryd.func86, Tryd.ntmps86
  go_wp2
  go_loopw [0, 3] (fun x o wr => ∃ (m : Nat) (z : Int) (l : List UInt8), m ≤ n ∧ x = .int .i64 z ∧ z = (m : Int) ∧ o = .string ⟨l.toArray⟩ ∧ Hid (decA m ++ l = decA n) ∧ Below w.heap.size w wr) (fun x _ _ => (intOf x).natAbs)
  case atStart => exact ⟨n, _, [], Nat.le_refl _, rfl, rfl, rfl, List.append_nil _, Below.refl _ _⟩
  case round =>
    obtain ⟨m, z, l, hmn, rfl, rfl, rfl, HL, hb⟩ := hrel
    have hll : l.length ≤ 20 := by
      have := congrArg List.length HL.out
      rw [List.length_append] at this; omega
    have hbs := hb.size
    by_cases h0 : 0 < m
    · have hsz : (⟨l.toArray⟩ : ByteArray).size ≤ 20 := hll
      have hr : RowAt (wr.alloc (.cells #[.int .u8 (48 + (m : Int) % 10)] 5)) wr.heap.size 5 (Lib.byteCells [UInt8.ofNat (48 + m % 10)] ++ []) := by
        rw [show (48 + (m : Int) % 10) = ((48 + m % 10 : Nat) : Int) by omega]; exact one_row _ wr _ (by omega)
      have HS : Hid (decA (m / 10) ++ (UInt8.ofNat (48 + m % 10) :: l) = decA n) := dec_step HL.out h0
      have HT : Hid ((⟨[UInt8.ofNat (48 + m % 10)].toArray⟩ : ByteArray) ++ ⟨l.toArray⟩ = ⟨(UInt8.ofNat (48 + m % 10) :: l).toArray⟩) := cons_text _ _
      have hone : (⟨[UInt8.ofNat (48 + m % 10)].toArray⟩ : ByteArray).size ≤ 1 := Nat.le_refl _
      go_wp2_with fail
      rw [text_of_row (P := Tryd.prog) _ 22 9 5 Tryd.underlying22 Tryd.underlying5 Tryd.underlying9 wr.heap.size 1 1 5 _ _ hr rfl]
      clear hr
      generalize (⟨[UInt8.ofNat (48 + m % 10)].toArray⟩ : ByteArray) = b1 at *
      generalize (⟨l.toArray⟩ : ByteArray) = o1 at *
      have hb2 : Below w.heap.size w (wr.alloc (.cells #[.int .u8 (48 + (m : Int) % 10)] 5)) := hb.alloc hbs _
      go_wp2
      go_roundw
      case rel => exact ⟨m / 10, _, UInt8.ofNat (48 + m % 10) :: l, by omega, rfl, by omega, by rw [HT.out], HS, hb2⟩
      case measure => simp [intOf]; omega
    · obtain rfl : m = 0 := by omega
      have HE : Hid (markT n = ⟨#[109]⟩ ++ ⟨l.toArray⟩) := by
        show _ = _
        rw [markT, ← HL.out, decA_zero]; rfl
      have hsz : (⟨l.toArray⟩ : ByteArray).size ≤ 20 := hll
      clear hll
      generalize (⟨l.toArray⟩ : ByteArray) = o1 at *
      go_wp2
      go_ret
      exact ⟨ret_text HE.out.symm, hb⟩
end Go.Proofs.YtimmoclemcnhnaaDoor

/- A row of texts that a call owns, as a slice of texts. -/
namespace Go.Proofs.YtimmoclemcnhnaaDoor
open Go.RowKit

def atL (L : List ByteArray) (j : Nat) : ByteArray := L.getD j ⟨#[]⟩
theorem slice_of_own {w : World} {B : Nat} {t : TypeId} {v : Value} {L : List ByteArray} (h : w.ownsRow B t 1 v L.length (strCells L)) : SliceS w B v L.length (atL L) := by
  obtain ⟨h1, ⟨rfl, h0⟩ | ⟨g, cap, cur, rfl, hg, h3, h4, h5, h6, h7⟩⟩ := h
  · exact ⟨none, 0, by rw [h0], fun h => absurd h (by omega)⟩
  · refine ⟨_, cap, rfl, fun hn => ⟨g, rfl, hg, ?_, fun j hj => ?_⟩⟩
    · exact (Array.getElem?_eq_some_iff.mp h3).1
    · have e : cur[j]? = some (.string (atL L j)) := by
        have e1 : (cur.toList.take (L.length * 1))[j]? = (strCells L)[j]? := by rw [h7]
        rw [List.getElem?_take_of_lt (by omega)] at e1
        rw [← Array.getElem?_toList, e1]
        simp [strCells, atL, hj]
      refine ⟨?_, ?_⟩
      · simp [World.cell?, h3, e]
      · simp [World.frozen?, h3]
theorem own_below {w w' : World} {B n : Nat} {e : TypeId} {v : Value} {xs : List Value} (h : w.ownsRow B e 1 v n xs) (hb : Below w.heap.size w w') : w'.ownsRow B e 1 v n xs := by
  obtain ⟨hl, h0 | ⟨g, cap, cur, rfl, hbg, hh, r⟩⟩ := h
  · exact ⟨hl, .inl h0⟩
  · have hg : g < w.heap.size := (Array.getElem?_eq_some_iff.mp hh).1
    exact ⟨hl, .inr ⟨g, cap, cur, rfl, hbg, by rw [hb.block g hg]; exact hh, r⟩⟩
end Go.Proofs.YtimmoclemcnhnaaDoor

/- A slice of elements of several cells each. -/
namespace Go.Proofs.YtimmoclemcnhnaaDoor
open Go.RowKit

/-- a slice of n elements of sz cells each, f of each place and cell, that lies from block B on -/
def SliceR (w : World) (B sz : Nat) (v : Value) (n : Nat) (f : Nat → Nat → Value) : Prop :=
  ∃ p cap, v = .slice p n cap ∧ (0 < n → ∃ g, p = some ⟨g, 0, none⟩ ∧ B ≤ g ∧ g < w.heap.size ∧ ∀ j, j < n → ∀ o, o < sz → w.cell? ⟨g, j * sz + o, none⟩ = some (f j o) ∧ w.frozen? ⟨g, j * sz + o, none⟩ = false)
theorem SliceR.below {w w' : World} {B sz n : Nat} {v : Value} {f : Nat → Nat → Value} (h : SliceR w B sz v n f) (hb : Below w.heap.size w w') : SliceR w' B sz v n f := by
  obtain ⟨p, cap, rfl, h⟩ := h
  refine ⟨p, cap, rfl, fun hn => ?_⟩
  obtain ⟨g, rfl, hB, hg, hc⟩ := h hn
  have hs := hb.size
  refine ⟨g, rfl, hB, by omega, fun j hj o ho => ⟨?_, ?_⟩⟩
  · rw [(bcell hb).1 _ _ hg]; exact (hc j hj o ho).1
  · rw [(bcell hb).2 _ _ hg]; exact (hc j hj o ho).2
/-- a row below B' stays while rows from B' on are written -/
theorem SliceR.kept {w w' : World} {B B' sz n : Nat} {v : Value} {f : Nat → Nat → Value} (h : SliceR w B sz v n f) (hb : Below B' w w') (hlt : 0 < n → ∀ g cap m, v = .slice (some ⟨g, 0, none⟩) m cap → g < B') : SliceR w' B sz v n f := by
  obtain ⟨p, cap, rfl, h⟩ := h
  refine ⟨p, cap, rfl, fun hn => ?_⟩
  obtain ⟨g, rfl, hB, hg, hc⟩ := h hn
  have hs := hb.size
  have hl := hlt hn g cap n rfl
  refine ⟨g, rfl, hB, by omega, fun j hj o ho => ⟨?_, ?_⟩⟩
  · rw [hb.cell (p := ⟨g, j * sz + o, none⟩) hl]; exact (hc j hj o ho).1
  · rw [hb.frozen (p := ⟨g, j * sz + o, none⟩) hl]; exact (hc j hj o ho).2
theorem SliceR.lt {w : World} {B sz n : Nat} {v : Value} {f : Nat → Nat → Value} (h : SliceR w B sz v n f) : 0 < n → ∀ g cap m, v = .slice (some ⟨g, 0, none⟩) m cap → g < w.heap.size := by
  obtain ⟨p, cap, rfl, h⟩ := h
  intro hn
  obtain ⟨g, rfl, hB, hg, hc⟩ := h hn
  intro g' cap' m e
  injection e with e1
  injection e1 with e1
  injection e1 with e1
  omega
theorem SliceR.mono {w : World} {B B' sz n : Nat} {v : Value} {f : Nat → Nat → Value} (h : SliceR w B sz v n f) (hB : B' ≤ B) : SliceR w B' sz v n f := by
  obtain ⟨p, cap, rfl, h⟩ := h
  refine ⟨p, cap, rfl, fun hn => ?_⟩
  obtain ⟨g, rfl, h1, h2⟩ := h hn
  exact ⟨g, rfl, by omega, h2⟩
theorem sliceR_none (w : World) (B sz : Nat) (p : Option Addr) (cap : Nat) (f : Nat → Nat → Value) : SliceR w B sz (.slice p 0 cap) 0 f := ⟨p, cap, rfl, fun h => absurd h (by omega)⟩
/-- a row that is owned, as a slice -/
theorem sliceR_of_own {w : World} {B sz n : Nat} {t : TypeId} {v : Value} {xs : List Value} {f : Nat → Nat → Value} (h : w.ownsRow B t sz v n xs) (hf : ∀ j, j < n → ∀ o, o < sz → xs[j * sz + o]? = some (f j o)) : SliceR w B sz v n f := by
  obtain ⟨h1, ⟨rfl, h0⟩ | ⟨g, cap, cur, rfl, hg, h3, h4, h5, h6, h7⟩⟩ := h
  · exact ⟨.none, 0, by rw [h0], fun h => absurd h (by omega)⟩
  · refine ⟨_, cap, rfl, fun hn => ⟨g, rfl, hg, (Array.getElem?_eq_some_iff.mp h3).1, fun j hj o ho => ?_⟩⟩
    have hlt : j * sz + o < n * sz := by
      have : (j + 1) * sz ≤ n * sz := Nat.mul_le_mul_right sz hj
      rw [Nat.add_mul, Nat.one_mul] at this; omega
    have e : cur[j * sz + o]? = some (f j o) := by
      have e1 : (cur.toList.take (n * sz))[j * sz + o]? = xs[j * sz + o]? := by rw [h7]
      rw [List.getElem?_take_of_lt hlt] at e1
      rw [← Array.getElem?_toList, e1]
      exact hf j hj o ho
    exact ⟨by simp [World.cell?, h3, e], by simp [World.frozen?, h3]⟩
theorem ownR_below {w w' : World} {B n sz : Nat} {e : TypeId} {v : Value} {xs : List Value} (h : w.ownsRow B e sz v n xs) (hb : Below w.heap.size w w') : w'.ownsRow B e sz v n xs := by
  obtain ⟨hl, h0 | ⟨g, cap, cur, rfl, hbg, hh, r⟩⟩ := h
  · exact ⟨hl, .inl h0⟩
  · have hg : g < w.heap.size := (Array.getElem?_eq_some_iff.mp hh).1
    exact ⟨hl, .inr ⟨g, cap, cur, rfl, hbg, by rw [hb.block g hg]; exact hh, r⟩⟩
theorem addr_blk (x : Addr) (k : Nat) : (x.add k).block = x.block := by unfold Addr.add; split <;> rfl
end Go.Proofs.YtimmoclemcnhnaaDoor

/- The laws' eqStringS, markStringS, heldStringS. -/
namespace Go.Proofs.YtimmoclemcnhnaaDoor
open Go.RowKit

end Go.Proofs.YtimmoclemcnhnaaDoor

/- What the laws do with a Pair besides their calls: its size is looked at, it is handed on field by field, two are held against each other. -/
namespace Go.Proofs.YtimmoclemcnhnaaDoor
open Go.RowKit

set_option maxRecDepth 10000 in
set_option maxHeartbeats 1000000 in
theorem eqPair_any (x0 : ByteArray) (x1 : ByteArray) (w : World) :
    Calls Tryd.prog 84 #[.agg #[.string x0, .string x1], .agg #[.string x0, .string x1]] w fun e w' => e = .returned (.bool true) ∧ Below w.heap.size w w' := by
  go_enter Tryd.func84, Tryd.ntmps84
  go_wp2
  go_ret
  exact ⟨rfl, ((Below.refl _ _).alloc (Nat.le_refl _) _).alloc (by simp) _⟩
end Go.Proofs.YtimmoclemcnhnaaDoor

/- What the laws do with a slice of Pairs besides their calls. Written by slices.py. -/
namespace Go.Proofs.YtimmoclemcnhnaaDoor
open Go.RowKit

/-- the mark of each cell -/
def markPairC (q j o : Nat) : Value := .string (markT (q + j * 2 + o))
set_option maxRecDepth 10000 in
set_option maxHeartbeats 4000000 in
theorem eqPairS_any (a b : Value) (n B B' : Nat) (f : Nat → Nat → Value) (x : Nat → Nat → ByteArray) (hf : ∀ j, j < n → ∀ o, o < 2 → f j o = .string (x j o)) (w : World) (ha : SliceR w B 2 a n f) (hb : SliceR w B' 2 b n f) (hn : n ≤ 1048576) :
    Calls Tryd.prog 29 #[a, b] w fun e w' => e = .returned (.bool true) ∧ Below w.heap.size w w' := by
  obtain ⟨p, cap, rfl, h1⟩ := ha
  obtain ⟨p', cap', rfl, h2⟩ := hb
  have H1 : Hid (0 < n → ∃ g, p = some ⟨g, 0, none⟩ ∧ B ≤ g ∧ g < w.heap.size ∧ ∀ j, j < n → ∀ o, o < 2 → w.cell? ⟨g, j * 2 + o, none⟩ = some (f j o) ∧ w.frozen? ⟨g, j * 2 + o, none⟩ = false) := h1
  have H2 : Hid (0 < n → ∃ g, p' = some ⟨g, 0, none⟩ ∧ B' ≤ g ∧ g < w.heap.size ∧ ∀ j, j < n → ∀ o, o < 2 → w.cell? ⟨g, j * 2 + o, none⟩ = some (f j o) ∧ w.frozen? ⟨g, j * 2 + o, none⟩ = false) := h2
  have HF : Hid (∀ j, j < n → ∀ o, o < 2 → f j o = .string (x j o)) := hf
  clear h1 h2 hf
  go_enter Tryd.func29, Tryd.ntmps29
  go_wp2
  go_loopw [5] (fun i wr => ∃ k : Nat, k ≤ n ∧ i = .int .i64 k ∧ Hid (Below w.heap.size w wr)) (fun i _ => n - (intOf i).toNat)
  case atStart => exact ⟨0, by omega, rfl, Below.refl _ _⟩
  case round =>
    obtain ⟨k, hk, rfl, HB⟩ := hrel
    by_cases hlt : k < n
    · obtain ⟨g, rfl, -, hg, hc⟩ := H1.out (by omega)
      obtain ⟨g', rfl, -, hg', hc'⟩ := H2.out (by omega)
      have hgr : g < wr.heap.size := Nat.lt_of_lt_of_le hg HB.out.size
      have hgr' : g' < wr.heap.size := Nat.lt_of_lt_of_le hg' HB.out.size
      have c0 : wr.cell? ⟨g, k * 2, none⟩ = some (.string (x k 0)) := by rw [(bcell HB.out).1 _ _ hg, ← HF.out k hlt 0 (by omega)]; exact (hc k hlt 0 (by omega)).1
      have d0 : wr.cell? ⟨g', k * 2, none⟩ = some (.string (x k 0)) := by rw [(bcell HB.out).1 _ _ hg', ← HF.out k hlt 0 (by omega)]; exact (hc' k hlt 0 (by omega)).1
      have c1 : wr.cell? ⟨g, k * 2 + 1, none⟩ = some (.string (x k 1)) := by rw [(bcell HB.out).1 _ _ hg, ← HF.out k hlt 1 (by omega)]; exact (hc k hlt 1 (by omega)).1
      have d1 : wr.cell? ⟨g', k * 2 + 1, none⟩ = some (.string (x k 1)) := by rw [(bcell HB.out).1 _ _ hg', ← HF.out k hlt 1 (by omega)]; exact (hc' k hlt 1 (by omega)).1
      have k0 : (0 : Int) ≤ k := by omega
      have k1 : (k : Int) < n := by omega
      clear hc hc'
      have KE : Hid (∀ W, Calls Tryd.prog 84 #[.agg #[.string (x k 0), .string (x k 1)], .agg #[.string (x k 0), .string (x k 1)]] W fun e w' => e = .returned (.bool true) ∧ Below W.heap.size W w') := fun W => eqPair_any (x k 0) (x k 1) W
      generalize x k 0 = y0 at *
      generalize x k 1 = y1 at *
      go_wp2_with fail
      go_region_held3 (fun w' => w'.cell? ⟨g, k * 2, none⟩ = some (.string y0) ∧ w'.cell? ⟨g, k * 2 + 1, none⟩ = some (.string y1) ∧ w'.cell? ⟨g', k * 2, none⟩ = some (.string y0) ∧ w'.cell? ⟨g', k * 2 + 1, none⟩ = some (.string y1)) (go_keep)
        (first | (go_at_call 84; refine (KE.out _).mono ?_; rintro e w2 ⟨rfl, hb2⟩; have A2 : Below wr.heap.size wr w2 := (Below.drew (Below.refl _ _)).trans hb2; have l0 : w2.cell? ⟨g, k * 2, none⟩ = some (.string y0) := ((bcell A2).1 _ _ hgr).trans c0; have l1 : w2.cell? ⟨g, k * 2 + 1, none⟩ = some (.string y1) := ((bcell A2).1 _ _ hgr).trans c1; have m0 : w2.cell? ⟨g', k * 2, none⟩ = some (.string y0) := ((bcell A2).1 _ _ hgr').trans d0; have m1 : w2.cell? ⟨g', k * 2 + 1, none⟩ = some (.string y1) := ((bcell A2).1 _ _ hgr').trans d1))
      all_goals go_wp2
      all_goals go_roundw
      case rel => exact ⟨k + 1, by omega, by go_num, HB.out.trans (A2.mono HB.out.size)⟩
      case measure => simp [intOf]; omega
    · go_wp2
      go_ret
      exact ⟨rfl, HB.out⟩
/-- one cell turned -/
def updR (f : Nat → Nat → Value) (k o : Nat) (u : Value) (j p : Nat) : Value := if j = k ∧ p = o then u else f j p
theorem SliceR.congr {w : World} {B sz n : Nat} {v : Value} {f h : Nat → Nat → Value} (hs : SliceR w B sz v n f) (he : ∀ j, j < n → ∀ o, o < sz → f j o = h j o) : SliceR w B sz v n h := by
  obtain ⟨p, cap, rfl, hg⟩ := hs
  refine ⟨p, cap, rfl, fun hn => ?_⟩
  obtain ⟨g, rfl, hB, hlt, hc⟩ := hg hn
  exact ⟨g, rfl, hB, hlt, fun j hj o ho => by rw [← he j hj o ho]; exact hc j hj o ho⟩
theorem SliceR.set {w : World} {B sz n m g cap : Nat} {f : Nat → Nat → Value} (hs : SliceR w B sz (.slice (some ⟨g, 0, none⟩) m cap) n f) (k o : Nat) (hk : k < n) (ho : o < sz) (u : Value) : SliceR (w.setCell ⟨g, k * sz + o, none⟩ u) B sz (.slice (some ⟨g, 0, none⟩) m cap) n (updR f k o u) := by
  obtain ⟨p, cap', e, hg⟩ := hs
  injection e with e1 e2 e3
  subst e1 e2 e3
  refine ⟨_, _, rfl, fun hn => ?_⟩
  obtain ⟨g', e, hB, hlt, hc⟩ := hg hn
  injection e with e
  injection e with e
  subst e
  refine ⟨g, rfl, hB, by simpa [World.setCell] using hlt, fun j hj p hp => ⟨?_, ?_⟩⟩
  · unfold updR
    by_cases hjp : j = k ∧ p = o
    · rw [if_pos hjp, hjp.1, hjp.2]; exact World.cell?_setCell_same _ _ _ (hc k hk o ho).1
    · rw [if_neg hjp, World.cell?_setCell_other _ _ _ _ (by
        intro h
        injection h with _ h
        apply hjp
        by_cases hjk : j = k
        · subst hjk; exact ⟨rfl, by omega⟩
        · exfalso
          rcases Nat.lt_or_gt_of_ne hjk with hl | hl
          · have : (j + 1) * sz ≤ k * sz := Nat.mul_le_mul_right sz hl
            rw [Nat.add_mul, Nat.one_mul] at this; omega
          · have : (k + 1) * sz ≤ j * sz := Nat.mul_le_mul_right sz hl
            rw [Nat.add_mul, Nat.one_mul] at this; omega)]
      exact (hc j hj p hp).1
  · rw [World.frozen?_setCell]; exact (hc j hj p hp).2
theorem grownG_below {a w w' : World} {G : Nat} (h : a.grownBy w (some G)) (hb : Below w.heap.size w w') : a.grownBy w' (some G) :=
  ⟨hb.os.trans h.os, hb.tape.trans h.tape, hb.output.trans h.output, Nat.le_trans h.size hb.size, fun k hk hne => (hb.block k (Nat.lt_of_lt_of_le hk h.size)).trans (h.block k hk hne)⟩
theorem grownG_set {a w : World} {G : Nat} (h : a.grownBy w (some G)) (o : Nat) (v : Value) : a.grownBy (w.setCell ⟨G, o, none⟩ v) (some G) :=
  ⟨h.os, h.tape, h.output, by simpa [World.setCell] using h.size, fun k hk hne => (Below.heap_setCell _ _ _ _ (fun e => hne (congrArg some e))).trans (h.block k hk hne)⟩
def markedPair (f : Nat → Nat → Value) (q k j o : Nat) : Value := if j < k then markPairC q j o else f j o
set_option maxRecDepth 10000 in
set_option maxHeartbeats 4000000 in
theorem markPairS_any (a : Value) (n B q : Nat) (f : Nat → Nat → Value) (w : World) (ha : SliceR w B 2 a n f) (hn : n ≤ 1048576) (hq : 0 < q) (hq2 : q ≤ 1048576) :
    Calls Tryd.prog 32 #[a, .int .i64 (q : Int)] w fun e w' => e = .returned (.int .i64 ((q + n * 2 : Nat) : Int)) ∧ SliceR w' B 2 a n (markPairC q) ∧ (∀ G, (0 < n → a.ownBlock = some G) → w.grownBy w' (some G)) := by
  have HA : Hid (SliceR w B 2 a n f) := ha
  obtain ⟨p, cap, rfl, h1⟩ := ha
  have HG : Hid (0 < n → ∃ g, p = some ⟨g, 0, none⟩ ∧ B ≤ g ∧ g < w.heap.size) := fun h => by
    obtain ⟨g, e, h2, h3, -⟩ := h1 h
    exact ⟨g, e, h2, h3⟩
  clear h1
  have HM : Hid (∀ (m : Nat) (W : World), 0 < m → m ≤ 9223372036854775807 → Calls Tryd.prog 86 #[.int .i64 (m : Int)] W fun e w' => e = .returned (.string (markT m)) ∧ Below W.heap.size W w') := fun m W h1 h2 => markText_any m W h1 h2
  go_enter Tryd.func32, Tryd.ntmps32
  go_wp2
  go_loopw [1, 5] (fun kk i wr => ∃ k : Nat, k ≤ n ∧ i = .int .i64 k ∧ kk = .int .i64 ((q + k * 2 : Nat) : Int) ∧ Hid (SliceR wr B 2 (.slice p n cap) n (markedPair f q k)) ∧ Hid (∀ G, (0 < n → (Value.slice p n cap).ownBlock = some G) → w.grownBy wr (some G))) (fun _ i _ => n - (intOf i).toNat)
  case atStart => exact ⟨0, by omega, rfl, by go_num, HA, fun _ _ => ⟨rfl, rfl, rfl, Nat.le_refl _, fun _ _ _ => rfl⟩⟩
  case round =>
    obtain ⟨k, hk, rfl, rfl, HR, HB⟩ := hrel
    by_cases hlt : k < n
    · obtain ⟨g, rfl, hBg, hgw⟩ := HG.out (by omega)
      have k0 : (0 : Int) ≤ k := by omega
      have k1 : (k : Int) < n := by omega
      have HN0 : Hid (∀ W, Calls Tryd.prog 86 #[.int .i64 ((q : Int) + (k : Int) * 2)] W fun e w' => e = .returned (.string (markT (q + k * 2 + 0))) ∧ Below W.heap.size W w') := fun W => by
        have h := HM.out (q + k * 2 + 0) W (by omega) (by omega)
        have e : (((q + k * 2 + 0 : Nat)) : Int) = ((q : Int) + (k : Int) * 2) := by omega
        rw [e] at h; exact h
      have HN1 : Hid (∀ W, Calls Tryd.prog 86 #[.int .i64 ((q : Int) + (k : Int) * 2 + 1)] W fun e w' => e = .returned (.string (markT (q + k * 2 + 1))) ∧ Below W.heap.size W w') := fun W => by
        have h := HM.out (q + k * 2 + 1) W (by omega) (by omega)
        have e : (((q + k * 2 + 1 : Nat)) : Int) = ((q : Int) + (k : Int) * 2 + 1) := by omega
        rw [e] at h; exact h
      go_wp2_with fail
      refine (HN0.out _).mono ?_
      rintro e w1 ⟨rfl, hb1⟩
      have S1 : Hid (SliceR w1 B 2 (.slice (some ⟨g, 0, none⟩) n cap) n (markedPair f q k)) := HR.out.below hb1
      have B1 : Hid (w.grownBy w1 (some g)) := grownG_below (HB.out g (fun _ => rfl)) hb1
      obtain ⟨hx0, hf0⟩ : w1.cell? ⟨g, k * 2, none⟩ = some ((markedPair f q k) k 0) ∧ w1.frozen? ⟨g, k * 2, none⟩ = false := by
        obtain ⟨p', cap', e, hh⟩ := S1.out
        injection e with e1
        obtain ⟨g', e2, -, -, hc⟩ := hh (by omega)
        rw [e2] at e1
        injection e1 with e1
        injection e1 with e1
        subst e1
        exact hc k hlt 0 (by omega)
      generalize (markedPair f q k) k 0 = z0 at hx0
      clear hb1
      go_wp2_with fail
      refine (HN1.out _).mono ?_
      rintro e w2 ⟨rfl, hb2⟩
      have S2 : Hid (SliceR w2 B 2 (.slice (some ⟨g, 0, none⟩) n cap) n (updR (markedPair f q k) k 0 (.string (markT (q + k * 2 + 0))))) := (SliceR.set S1.out k 0 hlt (by omega) (.string (markT (q + k * 2 + 0)))).below hb2
      have B2 : Hid (w.grownBy w2 (some g)) := grownG_below (grownG_set B1.out (k * 2 + 0) (.string (markT (q + k * 2 + 0)))) hb2
      obtain ⟨hx1, hf1⟩ : w2.cell? ⟨g, k * 2 + 1, none⟩ = some ((updR (markedPair f q k) k 0 (.string (markT (q + k * 2 + 0)))) k 1) ∧ w2.frozen? ⟨g, k * 2 + 1, none⟩ = false := by
        obtain ⟨p', cap', e, hh⟩ := S2.out
        injection e with e1
        obtain ⟨g', e2, -, -, hc⟩ := hh (by omega)
        rw [e2] at e1
        injection e1 with e1
        injection e1 with e1
        subst e1
        exact hc k hlt 1 (by omega)
      generalize (updR (markedPair f q k) k 0 (.string (markT (q + k * 2 + 0)))) k 1 = z1 at hx1
      clear hb2
      go_wp2
      go_roundw
      case rel =>
        refine ⟨k + 1, by omega, by go_num, by go_num, ?_, ?_⟩
        · refine SliceR.congr (SliceR.set S2.out k 1 hlt (by omega) (.string (markT (q + k * 2 + 1)))) (fun j hj o ho => ?_)
          unfold markedPair
          by_cases e : j = k
          · subst e
            rw [if_pos (Nat.lt_succ_self _)]
            rcases (show o = 0 ∨ o = 1 by omega) with rfl | rfl <;> simp [updR, markPairC]
          · by_cases h : j < k
            · rw [if_pos (by omega)]; simp [updR, e, h]
            · rw [if_neg (by omega)]; simp [updR, e, h]
        · intro G hG
          obtain rfl : g = G := Option.some.inj (hG (by omega))
          exact grownG_set B2.out (k * 2 + 1) _
      case measure => simp [intOf]; omega
    · obtain rfl : k = n := by omega
      have HS : Hid (SliceR wr B 2 (.slice p k cap) k (markPairC q)) := SliceR.congr HR.out (fun j hj o ho => by unfold markedPair; rw [if_pos hj])
      go_wp2
      go_ret
      exact ⟨rfl, HS.out, HB.out⟩
set_option maxRecDepth 10000 in
set_option maxHeartbeats 4000000 in
theorem heldPairS_any (a : Value) (n B q : Nat) (w : World) (ha : SliceR w B 2 a n (markPairC q)) (hn : n ≤ 1048576) (hq : 0 < q) (hq2 : q ≤ 1048576) :
    Calls Tryd.prog 33 #[a, .int .i64 (q : Int)] w fun e w' => e = .returned (.int .i64 ((q + n * 2 : Nat) : Int)) ∧ Below w.heap.size w w' := by
  obtain ⟨p, cap, rfl, h1⟩ := ha
  have HG : Hid (0 < n → ∃ g, p = some ⟨g, 0, none⟩ ∧ B ≤ g ∧ g < w.heap.size ∧ ∀ j, j < n → ∀ o, o < 2 → w.cell? ⟨g, j * 2 + o, none⟩ = some (markPairC q j o) ∧ w.frozen? ⟨g, j * 2 + o, none⟩ = false) := h1
  clear h1
  have HM : Hid (∀ (m : Nat) (W : World), 0 < m → m ≤ 9223372036854775807 → Calls Tryd.prog 86 #[.int .i64 (m : Int)] W fun e w' => e = .returned (.string (markT m)) ∧ Below W.heap.size W w') := fun m W h1 h2 => markText_any m W h1 h2
  go_enter Tryd.func33, Tryd.ntmps33
  go_wp2
  go_loopw [1, 4, 5] (fun kk r i wr => ∃ k : Nat, k ≤ n ∧ i = .int .i64 k ∧ kk = .int .i64 ((q + k * 2 : Nat) : Int) ∧ Hid (Below w.heap.size w wr)) (fun _ _ i _ => n - (intOf i).toNat)
  case atStart => exact ⟨0, by omega, rfl, by go_num, Below.refl _ _⟩
  case round =>
    obtain ⟨k, hk, rfl, rfl, HB⟩ := hrel
    by_cases hlt : k < n
    · obtain ⟨g, rfl, -, hg, hc⟩ := HG.out (by omega)
      have k0 : (0 : Int) ≤ k := by omega
      have k1 : (k : Int) < n := by omega
      have hgr : g < wr.heap.size := Nat.lt_of_lt_of_le hg HB.out.size
      have HN0 : Hid (∀ W, Calls Tryd.prog 86 #[.int .i64 ((q : Int) + (k : Int) * 2)] W fun e w' => e = .returned (.string (markT (q + k * 2 + 0))) ∧ Below W.heap.size W w') := fun W => by
        have h := HM.out (q + k * 2 + 0) W (by omega) (by omega)
        have e : (((q + k * 2 + 0 : Nat)) : Int) = ((q : Int) + (k : Int) * 2) := by omega
        rw [e] at h; exact h
      have c0 : wr.cell? ⟨g, k * 2, none⟩ = some (.string (markT (q + k * 2 + 0))) := by rw [(bcell HB.out).1 _ _ hg]; exact (hc k hlt 0 (by omega)).1
      have HN1 : Hid (∀ W, Calls Tryd.prog 86 #[.int .i64 ((q : Int) + (k : Int) * 2 + 1)] W fun e w' => e = .returned (.string (markT (q + k * 2 + 1))) ∧ Below W.heap.size W w') := fun W => by
        have h := HM.out (q + k * 2 + 1) W (by omega) (by omega)
        have e : (((q + k * 2 + 1 : Nat)) : Int) = ((q : Int) + (k : Int) * 2 + 1) := by omega
        rw [e] at h; exact h
      have c1 : wr.cell? ⟨g, k * 2 + 1, none⟩ = some (.string (markT (q + k * 2 + 1))) := by rw [(bcell HB.out).1 _ _ hg]; exact (hc k hlt 1 (by omega)).1
      clear hc
      generalize markT (q + k * 2 + 0) = t0 at *
      generalize markT (q + k * 2 + 1) = t1 at *
      go_wp2_with fail
      go_region_held3 (fun w' => w'.cell? ⟨g, k * 2, none⟩ = some (.string t0) ∧ w'.cell? ⟨g, k * 2 + 1, none⟩ = some (.string t1)) (go_keep)
        (first | (go_at_call 86; refine (HN0.out _).mono ?_; rintro e w1 ⟨rfl, hb1⟩; have A1 : Below wr.heap.size wr w1 := (Below.drew (Below.refl _ _)).trans hb1; have hgr1 : g < w1.heap.size := Nat.lt_of_lt_of_le hgr A1.size; have E1 : Hid (Below w.heap.size w w1) := HB.out.trans (A1.mono HB.out.size); have c1_0 : w1.cell? ⟨g, k * 2, none⟩ = some (.string t0) := ((bcell A1).1 _ _ hgr).trans c0; have c1_1 : w1.cell? ⟨g, k * 2 + 1, none⟩ = some (.string t1) := ((bcell A1).1 _ _ hgr).trans c1))
      clear hb1 A1 c0 c1
      go_wp2_with fail
      go_region_held3 (fun w' => w'.cell? ⟨g, k * 2 + 1, none⟩ = some (.string t1)) (go_keep)
        (first | (go_at_call 86; refine (HN1.out _).mono ?_; rintro e w2 ⟨rfl, hb2⟩; have A2 : Below w1.heap.size w1 w2 := (Below.drew (Below.refl _ _)).trans hb2; have hgr2 : g < w2.heap.size := Nat.lt_of_lt_of_le hgr1 A2.size; have E2 : Hid (Below w.heap.size w w2) := E1.out.trans (A2.mono E1.out.size); have c2_1 : w2.cell? ⟨g, k * 2 + 1, none⟩ = some (.string t1) := ((bcell A2).1 _ _ hgr1).trans c1_1))
      clear hb2 A2 c1_1
      go_wp2
      go_roundw
      case rel => exact ⟨k + 1, by omega, by go_num, by go_num, E2⟩
      case measure => simp [intOf]; omega
    · obtain rfl : k = n := by omega
      go_wp2
      go_ret
      exact ⟨rfl, HB.out⟩
end Go.Proofs.YtimmoclemcnhnaaDoor

/- What a list of cells holds, kept by whatever leaves old blocks as they were. -/
namespace Go.Proofs.YtimmoclemcnhnaaDoor
open Go.RowKit
theorem cell_in {W : World} {p : Addr} {v : Value} (h : W.cell? p = some v) : p.block < W.heap.size := by
  by_cases hb : p.block < W.heap.size
  · exact hb
  · exfalso
    simp [World.cell?, Array.getElem?_eq_none (show W.heap.size ≤ p.block by omega)] at h
/-- what these cells hold -/
def Cells (W : World) : List (Addr × Value) → Prop
  | [] => True
  | p :: L => W.cell? p.1 = some p.2 ∧ Cells W L
theorem Cells.below {W W' : World} : ∀ {L : List (Addr × Value)}, Cells W L → Below W.heap.size W W' → Cells W' L
  | [], _, _ => trivial
  | _ :: _, h, hb => ⟨(@Below.cell _ _ _ hb _ (cell_in h.1)).trans h.1, Cells.below h.2 hb⟩
theorem Cells.join {W : World} : ∀ {L M : List (Addr × Value)}, Cells W L → Cells W M → Cells W (L ++ M)
  | [], _, _, h => h
  | _ :: _, _, h, k => ⟨h.1, Cells.join h.2 k⟩
/-- a slice of texts, wherever it lies -/
def SliceH (w : World) (v : Value) (n : Nat) (f : Nat → ByteArray) : Prop := Hid (SliceS w 0 v n f)
theorem SliceH.out {w : World} {v : Value} {n : Nat} {f : Nat → ByteArray} (h : SliceH w v n f) : SliceS w 0 v n f := Hid.out h
theorem strip {w : World} {B n : Nat} {v : Value} {f : Nat → ByteArray} (h : SliceS w B v n f) : SliceH w v n f := by
  obtain ⟨p, cap, rfl, h⟩ := h
  exact (⟨p, cap, rfl, fun hn => by obtain ⟨g, e, _, r⟩ := h hn; exact ⟨g, e, Nat.zero_le _, r⟩⟩ : SliceS w 0 _ n f)
theorem SliceH.below {w w' : World} {v : Value} {n : Nat} {f : Nat → ByteArray} (h : SliceH w v n f) (hb : Below w.heap.size w w') : SliceH w' v n f := SliceS.below h.out hb
end Go.Proofs.YtimmoclemcnhnaaDoor

/- Slices of cookies; a slice of cookies that came in; the laws' szCookieS, toCookieS and eqCookieS over it. Written by cookiesin.py. -/
namespace Go.Proofs.YtimmoclemcnhnaaDoor
open Go.ChangeShapes Go.WideShapes Go.ChangeAt Go.RowKit Go.Joins Go.Deep

theorem ck_wf {n : Int} (h : (Lit.int .i64 n).wf = true) : -9223372036854775808 ≤ n ∧ n ≤ 9223372036854775807 := by
  simp [Lit.wf] at h
  have e1 : IntKind.i64.min = -9223372036854775808 := by decide
  have e2 : IntKind.i64.max = 9223372036854775807 := by decide
  omega
def atC (L : List Ck) (j : Nat) : Ck := L.getD j ckNone
/-- the cells of cookies -/
def ckR (L : List Ck) (j o : Nat) : Value := ckC (atC L j) o
/-- a slice of cookies -/
def SliceC (w : World) (B : Nat) (v : Value) (L : List Ck) : Prop := SliceR w B 10 v L.length (ckR L) ∧ ∃ p c, v = .slice p L.length c ∧ L.length ≤ c
theorem SliceC.below {w w' : World} {B : Nat} {v : Value} {L : List Ck} (h : SliceC w B v L) (hb : Below w.heap.size w w') : SliceC w' B v L := ⟨h.1.below hb, h.2⟩
theorem SliceC.mono {w : World} {B B' : Nat} {v : Value} {L : List Ck} (h : SliceC w B v L) (hB : B' ≤ B) : SliceC w B' v L := ⟨h.1.mono hB, h.2⟩
theorem trod_cells10 {H : Type} {enc : TypeId × Value → H} {P : Program} {w : World} {base : Nat} {spare : Nat → Bool} {held : Bool} {t : TypeId} {f0 f1 f2 f3 f4 f5 f6 f7 f8 f9 : Field} {fuel : Nat} {v0 v1 v2 v3 v4 v5 v6 v7 v8 v9 : Value} {x : DataW H × List MemPlace} (ht : P.underlying t = some (.struct #[f0, f1, f2, f3, f4, f5, f6, f7, f8, f9])) (hone : oneCellFields P #[f0, f1, f2, f3, f4, f5, f6, f7, f8, f9] = true) (h : DataW.trod enc P w base spare held fuel t [v0, v1, v2, v3, v4, v5, v6, v7, v8, v9] = some x) :
    ∃ (y0 y1 y2 y3 y4 y5 y6 y7 y8 y9 : DataW H × List MemPlace) (n : Nat), DataW.trod enc P w base spare held n f0.type [v0] = some y0 ∧ DataW.trod enc P w base spare held n f1.type [v1] = some y1 ∧ DataW.trod enc P w base spare held n f2.type [v2] = some y2 ∧ DataW.trod enc P w base spare held n f3.type [v3] = some y3 ∧ DataW.trod enc P w base spare held n f4.type [v4] = some y4 ∧ DataW.trod enc P w base spare held n f5.type [v5] = some y5 ∧ DataW.trod enc P w base spare held n f6.type [v6] = some y6 ∧ DataW.trod enc P w base spare held n f7.type [v7] = some y7 ∧ DataW.trod enc P w base spare held n f8.type [v8] = some y8 ∧ DataW.trod enc P w base spare held n f9.type [v9] = some y9 := by
  obtain ⟨y0, y1, y2, y3, y4, y5, y6, y7, y8, y9, n, h0, h1, h2, h3, h4, h5, h6, h7, h8, h9⟩ := trod_struct10 ht h
  obtain ⟨o0, k0⟩ := hone_of hone 0 f0 rfl
  obtain ⟨o1, k1⟩ := hone_of hone 1 f1 rfl
  obtain ⟨o2, k2⟩ := hone_of hone 2 f2 rfl
  obtain ⟨o3, k3⟩ := hone_of hone 3 f3 rfl
  obtain ⟨o4, k4⟩ := hone_of hone 4 f4 rfl
  obtain ⟨o5, k5⟩ := hone_of hone 5 f5 rfl
  obtain ⟨o6, k6⟩ := hone_of hone 6 f6 rfl
  obtain ⟨o7, k7⟩ := hone_of hone 7 f7 rfl
  obtain ⟨o8, k8⟩ := hone_of hone 8 f8 rfl
  obtain ⟨o9, k9⟩ := hone_of hone 9 f9 rfl
  exact ⟨y0, y1, y2, y3, y4, y5, y6, y7, y8, y9, n, by simpa [o0, k0] using h0, by simpa [o1, k1] using h1, by simpa [o2, k2] using h2, by simpa [o3, k3] using h3, by simpa [o4, k4] using h4, by simpa [o5, k5] using h5, by simpa [o6, k6] using h6, by simpa [o7, k7] using h7, by simpa [o8, k8] using h8, by simpa [o9, k9] using h9⟩
/-- cookies that a slice leads to -/
def CkRow (w : World) (a : Option Addr) (L : List Ck) : Prop := ∀ i, i < L.length → ∃ x, a = some x ∧ x.block < w.heap.size ∧ (∀ o, o < 10 → w.cell? (x.add (i * 10 + o)) = some (ckC (atC L i) o)) ∧ (atC L i).na.size ≤ maxLen ∧ (atC L i).va.size ≤ maxLen ∧ (atC L i).ho.size ≤ maxLen ∧ (atC L i).pa.size ≤ maxLen ∧ (atC L i).pt.size ≤ maxLen ∧ -9223372036854775808 ≤ (atC L i).mo ∧ (atC L i).mo ≤ 9223372036854775807 ∧ -9223372036854775808 ≤ (atC L i).un ∧ (atC L i).un ≤ 9223372036854775807 ∧ -9223372036854775808 ≤ (atC L i).ma ∧ (atC L i).ma ≤ 9223372036854775807
theorem CkRow.below {w w' : World} {a : Option Addr} {L : List Ck} (h : CkRow w a L) (hb : Below w.heap.size w w') : CkRow w' a L := by
  intro i hi
  obtain ⟨x, e, hx, hc, hs⟩ := h i hi
  exact ⟨x, e, Nat.lt_of_lt_of_le hx hb.size, fun o ho => by rw [hb.cell (p := x.add (i * 10 + o)) (by rw [addr_blk]; exact hx)]; exact hc o ho, hs⟩
theorem list10 {α : Type} {cs : List α} (h : cs.length = 10) : ∃ c0 c1 c2 c3 c4 c5 c6 c7 c8 c9, cs = [c0, c1, c2, c3, c4, c5, c6, c7, c8, c9] := by
  match cs, h with
  | [c0, c1, c2, c3, c4, c5, c6, c7, c8, c9], _ => exact ⟨c0, c1, c2, c3, c4, c5, c6, c7, c8, c9, rfl⟩
set_option maxRecDepth 10000 in
set_option maxHeartbeats 4000000 in
theorem ckRow_of {H : Type} {enc : TypeId × Value → H} {W : World} {a : Option Addr} {len cap : Nat} {d : DataW H} {p : List MemPlace}
    (h : ∃ fuel, DataW.trod enc Tryd.prog W 0 (fun _ => true) true fuel 36 (Value.slice a len cap).cells.toList = some (d, p)) : (∃ L, L.length = len ∧ CkRow W a L) ∧ len ≤ maxLen := by
  obtain ⟨fuel, hf⟩ := h
  rcases Go.Deep.open_slice Tryd.underlying36 hf with ⟨hcs, _⟩ | ⟨x, l, c, m, n, D, Pl, hcs, _, hl, hm, hmm, _, hcell⟩
  · simp [Value.cells] at hcs
    obtain ⟨rfl, rfl, rfl⟩ := hcs
    exact ⟨⟨[], rfl, fun i hi => absurd hi (by simp)⟩, Nat.zero_le _⟩
  · simp [Value.cells] at hcs
    obtain ⟨rfl, rfl, rfl⟩ := hcs
    have hmc : m = cap := by simpa using hmm
    have ce : Tryd.prog.cellsOf 87 = 10 := by kernel_rfl
    have each : ∀ i, i < len → ∃ q : Ck, (∀ o, o < 10 → W.cell? (x.add (i * 10 + o)) = some (ckC q o)) ∧ q.na.size ≤ maxLen ∧ q.va.size ≤ maxLen ∧ q.ho.size ≤ maxLen ∧ q.pa.size ≤ maxLen ∧ q.pt.size ≤ maxLen ∧ -9223372036854775808 ≤ q.mo ∧ q.mo ≤ 9223372036854775807 ∧ -9223372036854775808 ≤ q.un ∧ q.un ≤ 9223372036854775807 ∧ -9223372036854775808 ≤ q.ma ∧ q.ma ≤ 9223372036854775807 := fun i hi => by
      obtain ⟨cs', h1, h2⟩ := hcell i (by omega)
      rw [ce] at h1
      obtain ⟨_, hlen, hc⟩ := World.cells?_some h1
      obtain ⟨v0, v1, v2, v3, v4, v5, v6, v7, v8, v9, rfl⟩ := list10 hlen
      obtain ⟨y0, y1, y2, y3, y4, y5, y6, y7, y8, y9, n', g0, g1, g2, g3, g4, g5, g6, g7, g8, g9⟩ := trod_cells10 Tryd.underlying87 (by kernel_rfl) h2
      obtain ⟨s0, e0, -, z0⟩ := DataW.trod_string Tryd.underlying9 g0
      obtain ⟨s1, e1, -, z1⟩ := DataW.trod_string Tryd.underlying9 g1
      obtain ⟨s2, e2, -, z2⟩ := DataW.trod_string Tryd.underlying9 g2
      obtain ⟨s3, e3, -⟩ := DataW.trod_bool Tryd.underlying4 g3
      obtain ⟨s4, e4, -, z4⟩ := DataW.trod_string Tryd.underlying9 g4
      obtain ⟨s5, e5, -⟩ := DataW.trod_bool Tryd.underlying4 g5
      obtain ⟨s6, e6, -, z6⟩ := DataW.trod_int Tryd.underlying2 g6
      obtain ⟨s7, e7, -, z7⟩ := DataW.trod_string Tryd.underlying9 g7
      obtain ⟨s8, e8, -, z8⟩ := DataW.trod_int Tryd.underlying2 g8
      obtain ⟨s9, e9, -, z9⟩ := DataW.trod_int Tryd.underlying2 g9
      simp only [List.cons.injEq, and_true] at e0 e1 e2 e3 e4 e5 e6 e7 e8 e9
      subst e0 e1 e2 e3 e4 e5 e6 e7 e8 e9
      refine ⟨⟨s0, s1, s2, s3, s4, s5, s6, s7, s8, s9⟩, fun o ho => ?_, z0, z1, z2, z4, z7, (ck_wf z6).1, (ck_wf z6).2, (ck_wf z8).1, (ck_wf z8).2, (ck_wf z9).1, (ck_wf z9).2⟩
      have hco := hc o ho
      rw [add_add] at hco
      rw [hco]
      match o, ho with
      | 0, _ => rfl
      | 1, _ => rfl
      | 2, _ => rfl
      | 3, _ => rfl
      | 4, _ => rfl
      | 5, _ => rfl
      | 6, _ => rfl
      | 7, _ => rfl
      | 8, _ => rfl
      | 9, _ => rfl
    obtain ⟨q, hq⟩ := @Go.Deep.choose_lt Ck ⟨ckNone⟩ len _ each
    refine ⟨⟨(List.range len).map q, by simp, fun i hi => ?_⟩, by omega⟩
    have hi' : i < len := by simpa using hi
    have e : atC ((List.range len).map q) i = q i := by simp [atC, hi']
    rw [e]
    refine ⟨x, rfl, ?_, hq i hi'⟩
    have := World.block_lt_of_cell? W _ ((hq i hi').1 0 (by omega))
    rw [addr_blk] at this; exact this
set_option maxRecDepth 10000 in
set_option maxHeartbeats 4000000 in
theorem szCookieS_any (a : Option Addr) (cap : Nat) (L : List Ck) (l : Int) (w : World) (hr : CkRow w a L) (hn : L.length ≤ maxLen) (h0 : 0 ≤ l) (h1 : l ≤ 1048576) :
    Calls Tryd.prog 23 #[.slice a L.length cap, .int .i64 l] w fun e w' => (∃ r : Int, e = .returned (.int .i64 r) ∧ (r < 0 ∨ (0 ≤ r ∧ r ≤ 1048576 ∧ L.length ≤ 1048576 ∧ ∀ i, i < L.length → (atC L i).na.size + (atC L i).va.size + (atC L i).ho.size + (atC L i).pa.size + (atC L i).pt.size ≤ 1048576))) ∧ Below w.heap.size w w' := by
  unfold maxLen at hn
  by_cases hl : l < L.length
  · have q : decide (l - (L.length : Int) < 0) = true := by rw [decide_eq_true_iff]; omega
    go_enter Tryd.func23, Tryd.ntmps23
    go_wp2
    go_ret
    exact ⟨⟨_, rfl, .inl (by decide)⟩, Below.refl _ _⟩
  have q : decide (l - (L.length : Int) < 0) = false := by rw [decide_eq_false_iff_not]; omega
  have HR : Hid (CkRow w a L) := hr
  clear hr
  go_enter Tryd.func23, Tryd.ntmps23
  go_wp2
  go_loopw [1, 5] (fun v i wr => ∃ (k : Nat) (z : Int), k ≤ L.length ∧ v = .int .i64 z ∧ i = .int .i64 k ∧ 0 ≤ z ∧ z ≤ 1048576 ∧ Hid (∀ i, i < k → (atC L i).na.size + (atC L i).va.size + (atC L i).ho.size + (atC L i).pa.size + (atC L i).pt.size ≤ 1048576) ∧ Hid (Below w.heap.size w wr)) (fun _ i _ => L.length - (intOf i).toNat)
  case atStart => exact ⟨0, _, Nat.zero_le _, rfl, rfl, by omega, by omega, fun i hi => absurd hi (by omega), Below.refl _ _⟩
  case round =>
    obtain ⟨k, z, hk, rfl, rfl, z0, zl, HS, HB⟩ := hrel
    by_cases hlt : k < L.length
    · obtain ⟨x, rfl, hx, hc, hs0, hs1, hs2, hs4, hs7, -⟩ := HR.out.below HB.out k hlt
      have c0 : wr.cell? (x.add (k * 10)) = some (.string (atC L k).na) := hc 0 (by omega)
      have c1 : wr.cell? ⟨(x.add (k * 10)).block, (x.add (k * 10)).off + 1, none⟩ = some (.string (atC L k).va) := by rw [show (.string (atC L k).va) = ckC (atC L k) 1 from rfl, ← hc 1 (by omega), ← add_add]; rfl
      have c2 : wr.cell? ⟨(x.add (k * 10)).block, (x.add (k * 10)).off + 2, none⟩ = some (.string (atC L k).ho) := by rw [show (.string (atC L k).ho) = ckC (atC L k) 2 from rfl, ← hc 2 (by omega), ← add_add]; rfl
      have c3 : wr.cell? ⟨(x.add (k * 10)).block, (x.add (k * 10)).off + 3, none⟩ = some (.bool (atC L k).al) := by rw [show (.bool (atC L k).al) = ckC (atC L k) 3 from rfl, ← hc 3 (by omega), ← add_add]; rfl
      have c4 : wr.cell? ⟨(x.add (k * 10)).block, (x.add (k * 10)).off + 4, none⟩ = some (.string (atC L k).pa) := by rw [show (.string (atC L k).pa) = ckC (atC L k) 4 from rfl, ← hc 4 (by omega), ← add_add]; rfl
      have c5 : wr.cell? ⟨(x.add (k * 10)).block, (x.add (k * 10)).off + 5, none⟩ = some (.bool (atC L k).se) := by rw [show (.bool (atC L k).se) = ckC (atC L k) 5 from rfl, ← hc 5 (by omega), ← add_add]; rfl
      have c6 : wr.cell? ⟨(x.add (k * 10)).block, (x.add (k * 10)).off + 6, none⟩ = some (.int .i64 (atC L k).mo) := by rw [show (.int .i64 (atC L k).mo) = ckC (atC L k) 6 from rfl, ← hc 6 (by omega), ← add_add]; rfl
      have c7 : wr.cell? ⟨(x.add (k * 10)).block, (x.add (k * 10)).off + 7, none⟩ = some (.string (atC L k).pt) := by rw [show (.string (atC L k).pt) = ckC (atC L k) 7 from rfl, ← hc 7 (by omega), ← add_add]; rfl
      have c8 : wr.cell? ⟨(x.add (k * 10)).block, (x.add (k * 10)).off + 8, none⟩ = some (.int .i64 (atC L k).un) := by rw [show (.int .i64 (atC L k).un) = ckC (atC L k) 8 from rfl, ← hc 8 (by omega), ← add_add]; rfl
      have c9 : wr.cell? ⟨(x.add (k * 10)).block, (x.add (k * 10)).off + 9, none⟩ = some (.int .i64 (atC L k).ma) := by rw [show (.int .i64 (atC L k).ma) = ckC (atC L k) 9 from rfl, ← hc 9 (by omega), ← add_add]; rfl
      have KZ : Hid (∀ W, Calls Tryd.prog 70 #[.agg #[.string (atC L k).na, .string (atC L k).va, .string (atC L k).ho, .bool (atC L k).al, .string (atC L k).pa, .bool (atC L k).se, .int .i64 (atC L k).mo, .string (atC L k).pt, .int .i64 (atC L k).un, .int .i64 (atC L k).ma], .int .i64 z] W fun e w' => (∃ r : Int, e = .returned (.int .i64 r) ∧ (r < 0 ∨ (0 ≤ r ∧ r ≤ 1048576 ∧ (atC L k).na.size + (atC L k).va.size + (atC L k).ho.size + (atC L k).pa.size + (atC L k).pt.size ≤ 1048576))) ∧ Below W.heap.size W w') := fun W => szCookie_at (atC L k).na (atC L k).va (atC L k).ho (atC L k).al (atC L k).pa (atC L k).se (atC L k).mo (atC L k).pt (atC L k).un (atC L k).ma z W hs0 hs1 hs2 hs4 hs7 z0 zl
      have k0 : (0 : Int) ≤ k := by omega
      have k1 : (k : Int) < L.length := by omega
      have HN : Hid ((atC L k).na.size + (atC L k).va.size + (atC L k).ho.size + (atC L k).pa.size + (atC L k).pt.size ≤ 1048576 → ∀ i, i < k + 1 → (atC L i).na.size + (atC L i).va.size + (atC L i).ho.size + (atC L i).pa.size + (atC L i).pt.size ≤ 1048576) := fun hs i hi => by
        by_cases e : i = k
        · subst e; exact hs
        · exact HS.out i (by omega)
      clear hc hs0 hs1 hs2 hs4 hs7
      generalize atC L k = y at *
      obtain ⟨na, va, ho, al, pa, se, mo, pt, un, ma⟩ := y
      dsimp only at *
      go_wp2_with fail
      refine (KZ.out _).mono ?_
      rintro e w1 ⟨⟨r, rfl, hr⟩, hb1⟩
      have B1 : Hid (Below w.heap.size w w1) := HB.out.trans (hb1.mono HB.out.size)
      clear hb1 c0 c1 c2 c3 c4 c5 c6 c7 c8 c9
      rcases hr with hr | ⟨r0, r1, hsum⟩
      · have q2 : decide (r < 0) = true := by rw [decide_eq_true_iff]; exact hr
        go_wp2
        go_ret
        exact ⟨⟨_, rfl, .inl (by decide)⟩, B1.out⟩
      · have q2 : decide (r < 0) = false := by rw [decide_eq_false_iff_not]; omega
        have HN2 : Hid (∀ i, i < k + 1 → (atC L i).na.size + (atC L i).va.size + (atC L i).ho.size + (atC L i).pa.size + (atC L i).pt.size ≤ 1048576) := HN.out hsum
        clear hsum
        go_wp2
        go_roundw
        case rel => exact ⟨k + 1, r, by omega, rfl, by go_num, r0, r1, HN2, B1⟩
        case measure => simp [intOf]; omega
    · go_wp2
      go_ret
      exact ⟨⟨_, rfl, .inr ⟨z0, zl, by omega, fun i hi => HS.out i (by omega)⟩⟩, HB.out⟩
theorem infoCookie : (Tryd.prog.info? 90).map (fun i => (i.zero, i.size, i.bytes)) = some (some (.agg #[.string ⟨#[]⟩, .string ⟨#[]⟩, .string ⟨#[]⟩, .bool false, .string ⟨#[]⟩, .bool false, .int .i64 0, .string ⟨#[]⟩, .int .i64 0, .int .i64 0]), 10, 120) := by kernel_rfl
/-- the first k as they are, the others empty -/
def uptoC (L : List Ck) (k j o : Nat) : Value := if j < k then ckC (atC L j) o else ckC ckNone o
theorem make_cookies (w : World) (n : Nat) (hn : n ≤ 1048576) :
    ∃ w', Sem.run Tryd.prog (Instr.makeSlice 43 (.int .i64 (n : Int)) (.int .i64 (n : Int))) w = .ok (.slice (some ⟨w.heap.size, 0, none⟩) n n) w' ∧ SliceR w' w.heap.size 10 (.slice (some ⟨w.heap.size, 0, none⟩) n n) n (fun _ o => ckC ckNone o) ∧ w.heap.size < w'.heap.size ∧ Below w.heap.size w w' := by
  obtain ⟨i, h2, h3, h4, h5⟩ := info_parts infoCookie
  have hrun := run_make (P := Tryd.prog) w 43 90 i (.agg #[.string ⟨#[]⟩, .string ⟨#[]⟩, .string ⟨#[]⟩, .bool false, .string ⟨#[]⟩, .bool false, .int .i64 0, .string ⟨#[]⟩, .int .i64 0, .int .i64 0]) Tryd.underlying43 h2 h3 .i64 .i64 n n (by omega) (Int.le_refl _) (by rw [h5]; omega) (by omega)
  simp only [Int.toNat_natCast, h4] at hrun
  refine ⟨_, hrun, ?_, by simp, (Below.refl _ _).alloc (Nat.le_refl _) _⟩
  refine ⟨_, _, rfl, fun _ => ⟨w.heap.size, rfl, Nat.le_refl _, by simp, fun j hj o ho => ⟨?_, by simp⟩⟩⟩
  rw [World.cell?_alloc_new]
  have hz : j * 10 + o < n * 10 := by omega
  have hm : (j * 10 + o) % 10 = o := by omega
  have e : (madeCells (Value.agg #[.string ⟨#[]⟩, .string ⟨#[]⟩, .string ⟨#[]⟩, .bool false, .string ⟨#[]⟩, .bool false, .int .i64 0, .string ⟨#[]⟩, .int .i64 0, .int .i64 0]).cells (n * 10))[j * 10 + o]? = some (ckC ckNone o) := by
    rw [Array.getElem?_eq_some_iff]
    refine ⟨by rw [size_madeCells]; exact hz, ?_⟩
    unfold madeCells
    rw [Array.getElem_map, Array.getElem_range]
    show (#[.string ⟨#[]⟩, .string ⟨#[]⟩, .string ⟨#[]⟩, .bool false, .string ⟨#[]⟩, .bool false, .int .i64 0, .string ⟨#[]⟩, .int .i64 0, .int .i64 0] : Array Value)[(j * 10 + o) % 10]! = _
    rw [hm]
    match o, ho with
    | 0, _ => rfl
    | 1, _ => rfl
    | 2, _ => rfl
    | 3, _ => rfl
    | 4, _ => rfl
    | 5, _ => rfl
    | 6, _ => rfl
    | 7, _ => rfl
    | 8, _ => rfl
    | 9, _ => rfl
  exact e
/-- ten cells written: one cookie put at its place -/
theorem SliceR.put10 {w : World} {B n m g cap : Nat} {f : Nat → Nat → Value} (hs : SliceR w B 10 (.slice (some ⟨g, 0, none⟩) m cap) n f) (k : Nat) (hk : k < n) (c : Ck) :
    SliceR ((((((((((w.setCell ⟨g, k * 10 + 0, none⟩ (.string c.na)).setCell ⟨g, k * 10 + 1, none⟩ (.string c.va)).setCell ⟨g, k * 10 + 2, none⟩ (.string c.ho)).setCell ⟨g, k * 10 + 3, none⟩ (.bool c.al)).setCell ⟨g, k * 10 + 4, none⟩ (.string c.pa)).setCell ⟨g, k * 10 + 5, none⟩ (.bool c.se)).setCell ⟨g, k * 10 + 6, none⟩ (.int .i64 c.mo)).setCell ⟨g, k * 10 + 7, none⟩ (.string c.pt)).setCell ⟨g, k * 10 + 8, none⟩ (.int .i64 c.un)).setCell ⟨g, k * 10 + 9, none⟩ (.int .i64 c.ma)) B 10 (.slice (some ⟨g, 0, none⟩) m cap) n (fun j o => if j = k then ckC c o else f j o) := by
  refine SliceR.congr (SliceR.set (SliceR.set (SliceR.set (SliceR.set (SliceR.set (SliceR.set (SliceR.set (SliceR.set (SliceR.set (SliceR.set (hs) k 0 hk (by omega) _) k 1 hk (by omega) _) k 2 hk (by omega) _) k 3 hk (by omega) _) k 4 hk (by omega) _) k 5 hk (by omega) _) k 6 hk (by omega) _) k 7 hk (by omega) _) k 8 hk (by omega) _) k 9 hk (by omega) _) (fun j hj o ho => ?_)
  by_cases e : j = k
  · subst e
    match o, ho with
    | 0, _ => simp [updR, ckC]
    | 1, _ => simp [updR, ckC]
    | 2, _ => simp [updR, ckC]
    | 3, _ => simp [updR, ckC]
    | 4, _ => simp [updR, ckC]
    | 5, _ => simp [updR, ckC]
    | 6, _ => simp [updR, ckC]
    | 7, _ => simp [updR, ckC]
    | 8, _ => simp [updR, ckC]
    | 9, _ => simp [updR, ckC]
  · simp [updR, e]
set_option maxRecDepth 10000 in
set_option maxHeartbeats 4000000 in
theorem toCookieS_any (a : Option Addr) (cap : Nat) (L : List Ck) (w : World) (hr : CkRow w a L) (hn : L.length ≤ 1048576) :
    Calls Tryd.prog 26 #[.slice a L.length cap] w fun e w' => ∃ v, e = .returned v ∧ SliceC w' w.heap.size v L ∧ Below w.heap.size w w' := by
  have HR : Hid (CkRow w a L) := hr
  clear hr
  obtain ⟨w1, hmk, hs1, hz1, hb1⟩ := make_cookies w L.length hn
  have HS1 : Hid (SliceR w1 w.heap.size 10 (.slice (some ⟨w.heap.size, 0, none⟩) L.length L.length) L.length (uptoC L 0)) := SliceR.congr hs1 (fun j _ o _ => by unfold uptoC; rw [if_neg (by omega)])
  have HB1 : Hid (Below w.heap.size w w1) := hb1
  clear hs1 hb1
  go_enter Tryd.func26, Tryd.ntmps26
  go_wp2
  clear hmk
  go_loopw [4] (fun i wr => ∃ k : Nat, k ≤ L.length ∧ i = .int .i64 k ∧ Hid (SliceR wr w.heap.size 10 (.slice (some ⟨w.heap.size, 0, none⟩) L.length L.length) L.length (uptoC L k)) ∧ Hid (Below w.heap.size w wr)) (fun i _ => L.length - (intOf i).toNat)
  case atStart => exact ⟨0, Nat.zero_le _, rfl, HS1, HB1⟩
  case round =>
    obtain ⟨k, hk, rfl, HS, HB⟩ := hrel
    by_cases hlt : k < L.length
    · obtain ⟨x, rfl, hx, hc, -⟩ := HR.out.below HB.out k hlt
      have c0 : wr.cell? (x.add (k * 10)) = some (.string (atC L k).na) := hc 0 (by omega)
      have c1 : wr.cell? ⟨(x.add (k * 10)).block, (x.add (k * 10)).off + 1, none⟩ = some (.string (atC L k).va) := by rw [show (.string (atC L k).va) = ckC (atC L k) 1 from rfl, ← hc 1 (by omega), ← add_add]; rfl
      have c2 : wr.cell? ⟨(x.add (k * 10)).block, (x.add (k * 10)).off + 2, none⟩ = some (.string (atC L k).ho) := by rw [show (.string (atC L k).ho) = ckC (atC L k) 2 from rfl, ← hc 2 (by omega), ← add_add]; rfl
      have c3 : wr.cell? ⟨(x.add (k * 10)).block, (x.add (k * 10)).off + 3, none⟩ = some (.bool (atC L k).al) := by rw [show (.bool (atC L k).al) = ckC (atC L k) 3 from rfl, ← hc 3 (by omega), ← add_add]; rfl
      have c4 : wr.cell? ⟨(x.add (k * 10)).block, (x.add (k * 10)).off + 4, none⟩ = some (.string (atC L k).pa) := by rw [show (.string (atC L k).pa) = ckC (atC L k) 4 from rfl, ← hc 4 (by omega), ← add_add]; rfl
      have c5 : wr.cell? ⟨(x.add (k * 10)).block, (x.add (k * 10)).off + 5, none⟩ = some (.bool (atC L k).se) := by rw [show (.bool (atC L k).se) = ckC (atC L k) 5 from rfl, ← hc 5 (by omega), ← add_add]; rfl
      have c6 : wr.cell? ⟨(x.add (k * 10)).block, (x.add (k * 10)).off + 6, none⟩ = some (.int .i64 (atC L k).mo) := by rw [show (.int .i64 (atC L k).mo) = ckC (atC L k) 6 from rfl, ← hc 6 (by omega), ← add_add]; rfl
      have c7 : wr.cell? ⟨(x.add (k * 10)).block, (x.add (k * 10)).off + 7, none⟩ = some (.string (atC L k).pt) := by rw [show (.string (atC L k).pt) = ckC (atC L k) 7 from rfl, ← hc 7 (by omega), ← add_add]; rfl
      have c8 : wr.cell? ⟨(x.add (k * 10)).block, (x.add (k * 10)).off + 8, none⟩ = some (.int .i64 (atC L k).un) := by rw [show (.int .i64 (atC L k).un) = ckC (atC L k) 8 from rfl, ← hc 8 (by omega), ← add_add]; rfl
      have c9 : wr.cell? ⟨(x.add (k * 10)).block, (x.add (k * 10)).off + 9, none⟩ = some (.int .i64 (atC L k).ma) := by rw [show (.int .i64 (atC L k).ma) = ckC (atC L k) 9 from rfl, ← hc 9 (by omega), ← add_add]; rfl
      have KT : Hid (∀ W, Calls Tryd.prog 76 #[.agg #[.string (atC L k).na, .string (atC L k).va, .string (atC L k).ho, .bool (atC L k).al, .string (atC L k).pa, .bool (atC L k).se, .int .i64 (atC L k).mo, .string (atC L k).pt, .int .i64 (atC L k).un, .int .i64 (atC L k).ma]] W fun e w' => e = .returned (.agg #[.string (atC L k).na, .string (atC L k).va, .string (atC L k).ho, .bool (atC L k).al, .string (atC L k).pa, .bool (atC L k).se, .int .i64 (atC L k).mo, .string (atC L k).pt, .int .i64 (atC L k).un, .int .i64 (atC L k).ma]) ∧ Below W.heap.size W w') := fun W => toCookie_any _ _ _ _ _ _ _ _ _ _ W
      have HP : Hid (∀ w2 f, SliceR w2 w.heap.size 10 (.slice (some ⟨w.heap.size, 0, none⟩) L.length L.length) L.length f → SliceR ((((((((((w2.setCell ⟨w.heap.size, k * 10 + 0, none⟩ (.string (atC L k).na)).setCell ⟨w.heap.size, k * 10 + 1, none⟩ (.string (atC L k).va)).setCell ⟨w.heap.size, k * 10 + 2, none⟩ (.string (atC L k).ho)).setCell ⟨w.heap.size, k * 10 + 3, none⟩ (.bool (atC L k).al)).setCell ⟨w.heap.size, k * 10 + 4, none⟩ (.string (atC L k).pa)).setCell ⟨w.heap.size, k * 10 + 5, none⟩ (.bool (atC L k).se)).setCell ⟨w.heap.size, k * 10 + 6, none⟩ (.int .i64 (atC L k).mo)).setCell ⟨w.heap.size, k * 10 + 7, none⟩ (.string (atC L k).pt)).setCell ⟨w.heap.size, k * 10 + 8, none⟩ (.int .i64 (atC L k).un)).setCell ⟨w.heap.size, k * 10 + 9, none⟩ (.int .i64 (atC L k).ma)) w.heap.size 10 (.slice (some ⟨w.heap.size, 0, none⟩) L.length L.length) L.length (fun j o => if j = k then ckC (atC L k) o else f j o)) := fun w2 f hh => SliceR.put10 hh k hlt (atC L k)
      have HU : Hid (∀ j o, (if j = k then ckC (atC L k) o else uptoC L k j o) = uptoC L (k + 1) j o) := fun j o => by
        unfold uptoC
        by_cases e : j = k
        · subst e; rw [if_pos rfl, if_pos (by omega)]
        · rw [if_neg e]
          by_cases h : j < k
          · rw [if_pos h, if_pos (by omega)]
          · rw [if_neg h, if_neg (by omega)]
      have k0 : (0 : Int) ≤ k := by omega
      have k1 : (k : Int) < L.length := by omega
      clear hc
      generalize atC L k = y at *
      obtain ⟨na, va, ho, al, pa, se, mo, pt, un, ma⟩ := y
      dsimp only at *
      go_wp2_with fail
      refine (KT.out _).mono ?_
      rintro e w2 ⟨rfl, hb2⟩
      have S2 : Hid (SliceR w2 w.heap.size 10 (.slice (some ⟨w.heap.size, 0, none⟩) L.length L.length) L.length (uptoC L k)) := SliceR.below HS.out hb2
      have B2 : Hid (Below w.heap.size w w2) := HB.out.trans (hb2.mono HB.out.size)
      clear hb2 hx c0 c1 c2 c3 c4 c5 c6 c7 c8 c9
      obtain ⟨d0, f0, d1, f1, d2, f2, d3, f3, d4, f4, d5, f5, d6, f6, d7, f7, d8, f8, d9, f9⟩ : w2.cell? ⟨w.heap.size, k * 10, none⟩ = some (uptoC L k k 0) ∧ w2.frozen? ⟨w.heap.size, k * 10, none⟩ = false ∧ w2.cell? ⟨w.heap.size, k * 10 + 1, none⟩ = some (uptoC L k k 1) ∧ w2.frozen? ⟨w.heap.size, k * 10 + 1, none⟩ = false ∧ w2.cell? ⟨w.heap.size, k * 10 + 2, none⟩ = some (uptoC L k k 2) ∧ w2.frozen? ⟨w.heap.size, k * 10 + 2, none⟩ = false ∧ w2.cell? ⟨w.heap.size, k * 10 + 3, none⟩ = some (uptoC L k k 3) ∧ w2.frozen? ⟨w.heap.size, k * 10 + 3, none⟩ = false ∧ w2.cell? ⟨w.heap.size, k * 10 + 4, none⟩ = some (uptoC L k k 4) ∧ w2.frozen? ⟨w.heap.size, k * 10 + 4, none⟩ = false ∧ w2.cell? ⟨w.heap.size, k * 10 + 5, none⟩ = some (uptoC L k k 5) ∧ w2.frozen? ⟨w.heap.size, k * 10 + 5, none⟩ = false ∧ w2.cell? ⟨w.heap.size, k * 10 + 6, none⟩ = some (uptoC L k k 6) ∧ w2.frozen? ⟨w.heap.size, k * 10 + 6, none⟩ = false ∧ w2.cell? ⟨w.heap.size, k * 10 + 7, none⟩ = some (uptoC L k k 7) ∧ w2.frozen? ⟨w.heap.size, k * 10 + 7, none⟩ = false ∧ w2.cell? ⟨w.heap.size, k * 10 + 8, none⟩ = some (uptoC L k k 8) ∧ w2.frozen? ⟨w.heap.size, k * 10 + 8, none⟩ = false ∧ w2.cell? ⟨w.heap.size, k * 10 + 9, none⟩ = some (uptoC L k k 9) ∧ w2.frozen? ⟨w.heap.size, k * 10 + 9, none⟩ = false := by
        obtain ⟨p, c, e, hh⟩ := S2.out
        injection e with e1
        obtain ⟨g, e2, -, -, hc⟩ := hh (by omega)
        rw [e2] at e1
        injection e1 with e1
        injection e1 with e1
        subst e1
        exact ⟨(hc k hlt 0 (by omega)).1, (hc k hlt 0 (by omega)).2, (hc k hlt 1 (by omega)).1, (hc k hlt 1 (by omega)).2, (hc k hlt 2 (by omega)).1, (hc k hlt 2 (by omega)).2, (hc k hlt 3 (by omega)).1, (hc k hlt 3 (by omega)).2, (hc k hlt 4 (by omega)).1, (hc k hlt 4 (by omega)).2, (hc k hlt 5 (by omega)).1, (hc k hlt 5 (by omega)).2, (hc k hlt 6 (by omega)).1, (hc k hlt 6 (by omega)).2, (hc k hlt 7 (by omega)).1, (hc k hlt 7 (by omega)).2, (hc k hlt 8 (by omega)).1, (hc k hlt 8 (by omega)).2, (hc k hlt 9 (by omega)).1, (hc k hlt 9 (by omega)).2⟩
      generalize uptoC L k k 0 = z0 at *
      generalize uptoC L k k 1 = z1 at *
      generalize uptoC L k k 2 = z2 at *
      generalize uptoC L k k 3 = z3 at *
      generalize uptoC L k k 4 = z4 at *
      generalize uptoC L k k 5 = z5 at *
      generalize uptoC L k k 6 = z6 at *
      generalize uptoC L k k 7 = z7 at *
      generalize uptoC L k k 8 = z8 at *
      generalize uptoC L k k 9 = z9 at *
      have HN : Hid (SliceR ((((((((((w2.setCell ⟨w.heap.size, k * 10 + 0, none⟩ (.string na)).setCell ⟨w.heap.size, k * 10 + 1, none⟩ (.string va)).setCell ⟨w.heap.size, k * 10 + 2, none⟩ (.string ho)).setCell ⟨w.heap.size, k * 10 + 3, none⟩ (.bool al)).setCell ⟨w.heap.size, k * 10 + 4, none⟩ (.string pa)).setCell ⟨w.heap.size, k * 10 + 5, none⟩ (.bool se)).setCell ⟨w.heap.size, k * 10 + 6, none⟩ (.int .i64 mo)).setCell ⟨w.heap.size, k * 10 + 7, none⟩ (.string pt)).setCell ⟨w.heap.size, k * 10 + 8, none⟩ (.int .i64 un)).setCell ⟨w.heap.size, k * 10 + 9, none⟩ (.int .i64 ma)) w.heap.size 10 (.slice (some ⟨w.heap.size, 0, none⟩) L.length L.length) L.length (uptoC L (k + 1))) := SliceR.congr (HP.out w2 _ S2.out) (fun j hj o ho => HU.out j o)
      go_wp2
      go_roundw
      case rel => exact ⟨k + 1, by omega, by go_num, HN, (((((((((B2.out.setCell (Nat.le_refl _) _).setCell (Nat.le_refl _) _).setCell (Nat.le_refl _) _).setCell (Nat.le_refl _) _).setCell (Nat.le_refl _) _).setCell (Nat.le_refl _) _).setCell (Nat.le_refl _) _).setCell (Nat.le_refl _) _).setCell (Nat.le_refl _) _).setCell (Nat.le_refl _) _⟩
      case measure => simp [intOf]; omega
    · go_wp2
      go_ret
      refine ⟨_, rfl, ⟨?_, _, _, rfl, Nat.le_refl _⟩, HB.out⟩
      exact SliceR.congr HS.out (fun j hj o ho => by unfold uptoC ckR; rw [if_pos (by omega)])
set_option maxRecDepth 10000 in
set_option maxHeartbeats 8000000 in
theorem eqCookieS_any (a b : Value) (L : List Ck) (B B' : Nat) (w : World) (ha : SliceC w B a L) (hb : SliceC w B' b L) (hn : L.length ≤ 1048576) :
    Calls Tryd.prog 30 #[a, b] w fun e w' => e = .returned (.bool true) ∧ Below w.heap.size w w' := by
  obtain ⟨⟨p, cap, rfl, h1⟩, -⟩ := ha
  obtain ⟨⟨p', cap', rfl, h2⟩, -⟩ := hb
  have H1 : Hid (0 < L.length → ∃ g, p = some ⟨g, 0, none⟩ ∧ B ≤ g ∧ g < w.heap.size ∧ ∀ j, j < L.length → ∀ o, o < 10 → w.cell? ⟨g, j * 10 + o, none⟩ = some (ckR L j o) ∧ w.frozen? ⟨g, j * 10 + o, none⟩ = false) := h1
  have H2 : Hid (0 < L.length → ∃ g, p' = some ⟨g, 0, none⟩ ∧ B' ≤ g ∧ g < w.heap.size ∧ ∀ j, j < L.length → ∀ o, o < 10 → w.cell? ⟨g, j * 10 + o, none⟩ = some (ckR L j o) ∧ w.frozen? ⟨g, j * 10 + o, none⟩ = false) := h2
  clear h1 h2
  go_enter Tryd.func30, Tryd.ntmps30
  go_wp2
  go_loopw [5] (fun i wr => ∃ k : Nat, k ≤ L.length ∧ i = .int .i64 k ∧ Hid (Below w.heap.size w wr)) (fun i _ => L.length - (intOf i).toNat)
  case atStart => exact ⟨0, by omega, rfl, Below.refl _ _⟩
  case round =>
    obtain ⟨k, hk, rfl, HB⟩ := hrel
    by_cases hlt : k < L.length
    · obtain ⟨g, rfl, -, hg, hc⟩ := H1.out (by omega)
      obtain ⟨g', rfl, -, hg', hc'⟩ := H2.out (by omega)
      have hgr : g < wr.heap.size := Nat.lt_of_lt_of_le hg HB.out.size
      have hgr' : g' < wr.heap.size := Nat.lt_of_lt_of_le hg' HB.out.size
      have hx : ∀ o, o < 10 → wr.cell? ⟨g, k * 10 + o, none⟩ = some (ckC (atC L k) o) := fun o ho => by rw [(bcell HB.out).1 _ _ hg]; exact (hc k hlt o ho).1
      have hx' : ∀ o, o < 10 → wr.cell? ⟨g', k * 10 + o, none⟩ = some (ckC (atC L k) o) := fun o ho => by rw [(bcell HB.out).1 _ _ hg']; exact (hc' k hlt o ho).1
      have c0 : wr.cell? ⟨g, k * 10, none⟩ = some (.string (atC L k).na) := hx 0 (by omega)
      have d0 : wr.cell? ⟨g', k * 10, none⟩ = some (.string (atC L k).na) := hx' 0 (by omega)
      have c1 : wr.cell? ⟨g, k * 10 + 1, none⟩ = some (.string (atC L k).va) := hx 1 (by omega)
      have d1 : wr.cell? ⟨g', k * 10 + 1, none⟩ = some (.string (atC L k).va) := hx' 1 (by omega)
      have c2 : wr.cell? ⟨g, k * 10 + 2, none⟩ = some (.string (atC L k).ho) := hx 2 (by omega)
      have d2 : wr.cell? ⟨g', k * 10 + 2, none⟩ = some (.string (atC L k).ho) := hx' 2 (by omega)
      have c3 : wr.cell? ⟨g, k * 10 + 3, none⟩ = some (.bool (atC L k).al) := hx 3 (by omega)
      have d3 : wr.cell? ⟨g', k * 10 + 3, none⟩ = some (.bool (atC L k).al) := hx' 3 (by omega)
      have c4 : wr.cell? ⟨g, k * 10 + 4, none⟩ = some (.string (atC L k).pa) := hx 4 (by omega)
      have d4 : wr.cell? ⟨g', k * 10 + 4, none⟩ = some (.string (atC L k).pa) := hx' 4 (by omega)
      have c5 : wr.cell? ⟨g, k * 10 + 5, none⟩ = some (.bool (atC L k).se) := hx 5 (by omega)
      have d5 : wr.cell? ⟨g', k * 10 + 5, none⟩ = some (.bool (atC L k).se) := hx' 5 (by omega)
      have c6 : wr.cell? ⟨g, k * 10 + 6, none⟩ = some (.int .i64 (atC L k).mo) := hx 6 (by omega)
      have d6 : wr.cell? ⟨g', k * 10 + 6, none⟩ = some (.int .i64 (atC L k).mo) := hx' 6 (by omega)
      have c7 : wr.cell? ⟨g, k * 10 + 7, none⟩ = some (.string (atC L k).pt) := hx 7 (by omega)
      have d7 : wr.cell? ⟨g', k * 10 + 7, none⟩ = some (.string (atC L k).pt) := hx' 7 (by omega)
      have c8 : wr.cell? ⟨g, k * 10 + 8, none⟩ = some (.int .i64 (atC L k).un) := hx 8 (by omega)
      have d8 : wr.cell? ⟨g', k * 10 + 8, none⟩ = some (.int .i64 (atC L k).un) := hx' 8 (by omega)
      have c9 : wr.cell? ⟨g, k * 10 + 9, none⟩ = some (.int .i64 (atC L k).ma) := hx 9 (by omega)
      have d9 : wr.cell? ⟨g', k * 10 + 9, none⟩ = some (.int .i64 (atC L k).ma) := hx' 9 (by omega)
      have k0 : (0 : Int) ≤ k := by omega
      have k1 : (k : Int) < L.length := by omega
      clear hc hc' hx hx'
      have KE : Hid (∀ W, Calls Tryd.prog 85 #[.agg #[.string (atC L k).na, .string (atC L k).va, .string (atC L k).ho, .bool (atC L k).al, .string (atC L k).pa, .bool (atC L k).se, .int .i64 (atC L k).mo, .string (atC L k).pt, .int .i64 (atC L k).un, .int .i64 (atC L k).ma], .agg #[.string (atC L k).na, .string (atC L k).va, .string (atC L k).ho, .bool (atC L k).al, .string (atC L k).pa, .bool (atC L k).se, .int .i64 (atC L k).mo, .string (atC L k).pt, .int .i64 (atC L k).un, .int .i64 (atC L k).ma]] W fun e w' => e = .returned (.bool true) ∧ Below W.heap.size W w') := fun W => eqCookie_any (atC L k).na (atC L k).va (atC L k).ho (atC L k).al (atC L k).pa (atC L k).se (atC L k).mo (atC L k).pt (atC L k).un (atC L k).ma W
      generalize atC L k = y at *
      obtain ⟨na, va, ho, al, pa, se, mo, pt, un, ma⟩ := y
      dsimp only at *
      go_wp2_with fail
      go_region_held3 (fun w' => w'.cell? ⟨g, k * 10, none⟩ = some (.string na) ∧ w'.cell? ⟨g, k * 10 + 1, none⟩ = some (.string va) ∧ w'.cell? ⟨g, k * 10 + 2, none⟩ = some (.string ho) ∧ w'.cell? ⟨g, k * 10 + 3, none⟩ = some (.bool al) ∧ w'.cell? ⟨g, k * 10 + 4, none⟩ = some (.string pa) ∧ w'.cell? ⟨g, k * 10 + 5, none⟩ = some (.bool se) ∧ w'.cell? ⟨g, k * 10 + 6, none⟩ = some (.int .i64 mo) ∧ w'.cell? ⟨g, k * 10 + 7, none⟩ = some (.string pt) ∧ w'.cell? ⟨g, k * 10 + 8, none⟩ = some (.int .i64 un) ∧ w'.cell? ⟨g, k * 10 + 9, none⟩ = some (.int .i64 ma) ∧ w'.cell? ⟨g', k * 10, none⟩ = some (.string na) ∧ w'.cell? ⟨g', k * 10 + 1, none⟩ = some (.string va) ∧ w'.cell? ⟨g', k * 10 + 2, none⟩ = some (.string ho) ∧ w'.cell? ⟨g', k * 10 + 3, none⟩ = some (.bool al) ∧ w'.cell? ⟨g', k * 10 + 4, none⟩ = some (.string pa) ∧ w'.cell? ⟨g', k * 10 + 5, none⟩ = some (.bool se) ∧ w'.cell? ⟨g', k * 10 + 6, none⟩ = some (.int .i64 mo) ∧ w'.cell? ⟨g', k * 10 + 7, none⟩ = some (.string pt) ∧ w'.cell? ⟨g', k * 10 + 8, none⟩ = some (.int .i64 un) ∧ w'.cell? ⟨g', k * 10 + 9, none⟩ = some (.int .i64 ma)) (go_keep)
        (first | (go_at_call 85; refine (KE.out _).mono ?_; rintro e w2 ⟨rfl, hb2⟩; have A2 : Below wr.heap.size wr w2 := (Below.drew (Below.refl _ _)).trans hb2; have l0 : w2.cell? ⟨g, k * 10, none⟩ = some (.string na) := ((bcell A2).1 _ _ hgr).trans c0; have m0 : w2.cell? ⟨g', k * 10, none⟩ = some (.string na) := ((bcell A2).1 _ _ hgr').trans d0; have l1 : w2.cell? ⟨g, k * 10 + 1, none⟩ = some (.string va) := ((bcell A2).1 _ _ hgr).trans c1; have m1 : w2.cell? ⟨g', k * 10 + 1, none⟩ = some (.string va) := ((bcell A2).1 _ _ hgr').trans d1; have l2 : w2.cell? ⟨g, k * 10 + 2, none⟩ = some (.string ho) := ((bcell A2).1 _ _ hgr).trans c2; have m2 : w2.cell? ⟨g', k * 10 + 2, none⟩ = some (.string ho) := ((bcell A2).1 _ _ hgr').trans d2; have l3 : w2.cell? ⟨g, k * 10 + 3, none⟩ = some (.bool al) := ((bcell A2).1 _ _ hgr).trans c3; have m3 : w2.cell? ⟨g', k * 10 + 3, none⟩ = some (.bool al) := ((bcell A2).1 _ _ hgr').trans d3; have l4 : w2.cell? ⟨g, k * 10 + 4, none⟩ = some (.string pa) := ((bcell A2).1 _ _ hgr).trans c4; have m4 : w2.cell? ⟨g', k * 10 + 4, none⟩ = some (.string pa) := ((bcell A2).1 _ _ hgr').trans d4; have l5 : w2.cell? ⟨g, k * 10 + 5, none⟩ = some (.bool se) := ((bcell A2).1 _ _ hgr).trans c5; have m5 : w2.cell? ⟨g', k * 10 + 5, none⟩ = some (.bool se) := ((bcell A2).1 _ _ hgr').trans d5; have l6 : w2.cell? ⟨g, k * 10 + 6, none⟩ = some (.int .i64 mo) := ((bcell A2).1 _ _ hgr).trans c6; have m6 : w2.cell? ⟨g', k * 10 + 6, none⟩ = some (.int .i64 mo) := ((bcell A2).1 _ _ hgr').trans d6; have l7 : w2.cell? ⟨g, k * 10 + 7, none⟩ = some (.string pt) := ((bcell A2).1 _ _ hgr).trans c7; have m7 : w2.cell? ⟨g', k * 10 + 7, none⟩ = some (.string pt) := ((bcell A2).1 _ _ hgr').trans d7; have l8 : w2.cell? ⟨g, k * 10 + 8, none⟩ = some (.int .i64 un) := ((bcell A2).1 _ _ hgr).trans c8; have m8 : w2.cell? ⟨g', k * 10 + 8, none⟩ = some (.int .i64 un) := ((bcell A2).1 _ _ hgr').trans d8; have l9 : w2.cell? ⟨g, k * 10 + 9, none⟩ = some (.int .i64 ma) := ((bcell A2).1 _ _ hgr).trans c9; have m9 : w2.cell? ⟨g', k * 10 + 9, none⟩ = some (.int .i64 ma) := ((bcell A2).1 _ _ hgr').trans d9))
      all_goals go_wp2
      all_goals go_roundw
      case rel => exact ⟨k + 1, by omega, by go_num, HB.out.trans (A2.mono HB.out.size)⟩
      case measure => simp [intOf]; omega
    · go_wp2
      go_ret
      exact ⟨rfl, HB.out⟩
end Go.Proofs.YtimmoclemcnhnaaDoor
