/- 5 of this claim's texts, one behind the other. -/
import Derived.Test.YthcpmbolnmlohaaRows
import Derived.Below
import Derived.WalkKit
import Derived.WalkSpells
import Derived.WalkLawsBesides
/- Small facts that the walks close with: equal values make equal endings; what lies below a block is as it was. -/
namespace Go.Proofs.Ythcpmbolnmlohaa
open Go.RowKit
theorem ret_bool {a b : Bool} (h : a = b) : Ending.returned (.bool a) = .returned (.bool b) := by rw [h]
theorem val_int {k : IntKind} {a b : Int} (h : a = b) : Value.int k a = .int k b := by rw [h]
theorem ret_int {k : IntKind} {a b : Int} (h : a = b) : Ending.returned (.int k a) = .returned (.int k b) := by rw [h]
theorem ret_text {a b : ByteArray} (h : a = b) : Ending.returned (.string a) = .returned (.string b) := by rw [h]
theorem bcell {W w1 : World} (hb : Below W.heap.size W w1) : (∀ b o, b < W.heap.size → w1.cell? ⟨b, o, none⟩ = W.cell? ⟨b, o, none⟩) ∧ (∀ b o, b < W.heap.size → w1.frozen? ⟨b, o, none⟩ = W.frozen? ⟨b, o, none⟩) :=
  ⟨fun b o h => hb.cell (p := ⟨b, o, none⟩) h, fun b o h => hb.frozen (p := ⟨b, o, none⟩) h⟩
theorem own_shape {w : World} {base n : Nat} {e : TypeId} {v : Value} {xs : List Value} (h : w.ownsRow base e 1 v (n + 1) xs) : ∃ g cap, v = .slice (some ⟨g, 0, none⟩) (n + 1) cap := by
  obtain ⟨_, ⟨_, h0⟩ | ⟨g, cap, _, hv, _⟩⟩ := h
  · omega
  · exact ⟨g, cap, hv⟩
end Go.Proofs.Ythcpmbolnmlohaa

/- What a label and a path of a url are, as plain functions, with the facts that walks close with. -/
namespace Go.Proofs.Ythcpmbolnmlohaa
/-- may the byte stand in a label? -/
def labC (c : Nat) : Bool := decide ((97 ≤ c ∧ c ≤ 122) ∨ (48 ≤ c ∧ c ≤ 57) ∨ c = 45)
def labelB (t : ByteArray) : Bool := decide (1 ≤ t.size ∧ t.size ≤ 12 ∧ (∀ h : 0 < t.size, ¬ t[0].toNat = 45) ∧ (∀ h : t.size - 1 < t.size, ¬ t[t.size - 1].toNat = 45) ∧ ∀ i (h : i < t.size), labC t[i].toNat = true)
theorem labelB_size {t : ByteArray} (h : t.size < 1 ∨ 12 < t.size) : labelB t = false := by
  unfold labelB; rw [decide_eq_false_iff_not]; rintro ⟨a, b, _⟩; omega
theorem labelB_first {t : ByteArray} (h : 0 < t.size) (hc : t[0].toNat = 45) : labelB t = false := by
  unfold labelB; rw [decide_eq_false_iff_not]; rintro ⟨_, _, a, _⟩; exact a h hc
theorem labelB_last {t : ByteArray} (h : t.size - 1 < t.size) (hc : t[t.size - 1].toNat = 45) : labelB t = false := by
  unfold labelB; rw [decide_eq_false_iff_not]; rintro ⟨_, _, _, a, _⟩; exact a h hc
theorem labelB_at {t : ByteArray} (k : Nat) (h : k < t.size) (hk : labC t[k].toNat = false) : labelB t = false := by
  unfold labelB; rw [decide_eq_false_iff_not]; rintro ⟨_, _, _, _, c⟩; rw [c k h] at hk; cases hk
theorem labelB_true {t : ByteArray} (h1 : 1 ≤ t.size) (h2 : t.size ≤ 12) (h3 : ∀ h : 0 < t.size, ¬ t[0].toNat = 45) (h4 : ∀ h : t.size - 1 < t.size, ¬ t[t.size - 1].toNat = 45)
    (h : ∀ i (h : i < t.size), labC t[i].toNat = true) : labelB t = true := by
  unfold labelB; rw [decide_eq_true_iff]; exact ⟨h1, h2, h3, h4, h⟩
theorem labC_yes {c : Nat} (h : (97 ≤ c ∧ c ≤ 122) ∨ (48 ≤ c ∧ c ≤ 57) ∨ c = 45) : labC c = true := by unfold labC; rw [decide_eq_true_iff]; exact h
theorem labC_no {c : Nat} (h : ¬ ((97 ≤ c ∧ c ≤ 122) ∨ (48 ≤ c ∧ c ≤ 57) ∨ c = 45)) : labC c = false := by unfold labC; rw [decide_eq_false_iff_not]; exact h
theorem all_succ {t : ByteArray} {P : Nat → Bool} {k : Nat} (hr : ∀ i (h : i < t.size), i < k → P t[i].toNat = true) (hk : k < t.size) (ho : P t[k].toNat = true) :
    ∀ i (h : i < t.size), i < k + 1 → P t[i].toNat = true := by
  intro i h hi
  by_cases e : i = k
  · subst e; exact ho
  · exact hr i h (by omega)
/-- may the byte stand in a path? -/
def pathC (c : Nat) : Bool := decide (33 ≤ c ∧ c ≤ 126 ∧ ¬ c = 63 ∧ ¬ c = 35 ∧ ¬ c = 59)
def pathB (t : ByteArray) : Bool := decide (1 ≤ t.size ∧ t.size ≤ 40 ∧ (∀ h : 0 < t.size, t[0].toNat = 47) ∧ ∀ i (h : i < t.size), pathC t[i].toNat = true)
theorem pathB_size {t : ByteArray} (h : t.size < 1 ∨ 40 < t.size) : pathB t = false := by
  unfold pathB; rw [decide_eq_false_iff_not]; rintro ⟨a, b, _⟩; omega
theorem pathB_first {t : ByteArray} (h : 0 < t.size) (hc : ¬ t[0].toNat = 47) : pathB t = false := by
  unfold pathB; rw [decide_eq_false_iff_not]; rintro ⟨_, _, a, _⟩; exact hc (a h)
theorem pathB_at {t : ByteArray} (k : Nat) (h : k < t.size) (hk : pathC t[k].toNat = false) : pathB t = false := by
  unfold pathB; rw [decide_eq_false_iff_not]; rintro ⟨_, _, _, c⟩; rw [c k h] at hk; cases hk
theorem pathB_true {t : ByteArray} (h1 : 1 ≤ t.size) (h2 : t.size ≤ 40) (h3 : ∀ h : 0 < t.size, t[0].toNat = 47) (h : ∀ i (h : i < t.size), pathC t[i].toNat = true) : pathB t = true := by
  unfold pathB; rw [decide_eq_true_iff]; exact ⟨h1, h2, h3, h⟩
theorem pathC_yes {c : Nat} (h : 33 ≤ c ∧ c ≤ 126 ∧ ¬ c = 63 ∧ ¬ c = 35 ∧ ¬ c = 59) : pathC c = true := by unfold pathC; rw [decide_eq_true_iff]; exact h
theorem pathC_no {c : Nat} (h : ¬ (33 ≤ c ∧ c ≤ 126 ∧ ¬ c = 63 ∧ ¬ c = 35 ∧ ¬ c = 59)) : pathC c = false := by unfold pathC; rw [decide_eq_false_iff_not]; exact h
end Go.Proofs.Ythcpmbolnmlohaa

/- What a word is; the walk of the specification's WordRight. -/
namespace Go.Proofs.Ythcpmbolnmlohaa
open Go.RowKit

/-- may the byte stand in a word? -/
def wordC (c : Nat) : Bool := decide ((97 ≤ c ∧ c ≤ 122) ∨ (65 ≤ c ∧ c ≤ 90) ∨ (48 ≤ c ∧ c ≤ 57) ∨ c = 95 ∨ c = 45 ∨ c = 46)
def wordB (t : ByteArray) : Bool := decide (∀ i (h : i < t.size), wordC t[i].toNat = true) && decide (t.size ≤ 20)
theorem wordC_yes {c : Nat} (h : (97 ≤ c ∧ c ≤ 122) ∨ (65 ≤ c ∧ c ≤ 90) ∨ (48 ≤ c ∧ c ≤ 57) ∨ c = 95 ∨ c = 45 ∨ c = 46) : wordC c = true := by unfold wordC; rw [decide_eq_true_iff]; exact h
theorem wordC_no {c : Nat} (h : ¬ ((97 ≤ c ∧ c ≤ 122) ∨ (65 ≤ c ∧ c ≤ 90) ∨ (48 ≤ c ∧ c ≤ 57) ∨ c = 95 ∨ c = 45 ∨ c = 46)) : wordC c = false := by unfold wordC; rw [decide_eq_false_iff_not]; exact h
theorem wordB_at {t : ByteArray} (k : Nat) (h : k < t.size) (hk : wordC t[k].toNat = false) : wordB t = false := by
  unfold wordB; rw [decide_eq_false (fun h' => by rw [h' k h] at hk; cases hk)]; rfl
theorem wordB_all {t : ByteArray} (h : ∀ i (h : i < t.size), wordC t[i].toNat = true) : wordB t = decide (t.size ≤ 20) := by
  unfold wordB; rw [decide_eq_true h]; rfl
theorem wordB_size {t : ByteArray} (h : wordB t = true) : t.size ≤ 20 := by
  unfold wordB at h
  rw [Bool.and_eq_true, decide_eq_true_eq, decide_eq_true_eq] at h
  exact h.2

set_option maxRecDepth 10000 in
set_option maxHeartbeats 2000000 in
theorem specWord_any (t : ByteArray) (w : World) (ht : t.size ≤ 1048576) :
    Calls Try.prog 5 #[.string t] w fun e w' => e = .returned (.bool (wordB t)) ∧ w' = w := by
  have HA : Hid ((∀ k (h : k < t.size), wordC t[k].toNat = false → wordB t = false) ∧ ((∀ i (h : i < t.size), wordC t[i].toNat = true) → wordB t = decide (t.size ≤ 20))) := ⟨fun k h hk => wordB_at k h hk, fun h => wordB_all h⟩
  generalize wordB t = R at *
  go_enter Try.func5, Try.ntmps5
  go_wp2
  go_loop [3, 4] (fun i _ => ∃ k : Nat, k ≤ t.size ∧ i = .int .i64 k ∧ Hid (∀ i (h : i < t.size), i < k → wordC t[i].toNat = true)) (fun i _ => t.size - (intOf i).toNat)
  case atStart => exact ⟨0, Nat.zero_le _, rfl, fun i _ hi => absurd hi (by omega)⟩
  case round =>
    obtain ⟨k, hk, rfl, HR⟩ := hrel
    by_cases hlt : k < t.size
    · rcases (show (t[k].toNat ≤ 44) ∨ (45 ≤ t[k].toNat ∧ t[k].toNat ≤ 45) ∨ (46 ≤ t[k].toNat ∧ t[k].toNat ≤ 46) ∨ (47 ≤ t[k].toNat ∧ t[k].toNat ≤ 47) ∨ (48 ≤ t[k].toNat ∧ t[k].toNat ≤ 57) ∨ (58 ≤ t[k].toNat ∧ t[k].toNat ≤ 64) ∨ (65 ≤ t[k].toNat ∧ t[k].toNat ≤ 90) ∨ (91 ≤ t[k].toNat ∧ t[k].toNat ≤ 94) ∨ (95 ≤ t[k].toNat ∧ t[k].toNat ≤ 95) ∨ (96 ≤ t[k].toNat ∧ t[k].toNat ≤ 96) ∨ (97 ≤ t[k].toNat ∧ t[k].toNat ≤ 122) ∨ (123 ≤ t[k].toNat) by omega)
        with c1 | ⟨c1, c2⟩ | ⟨c1, c2⟩ | ⟨c1, c2⟩ | ⟨c1, c2⟩ | ⟨c1, c2⟩ | ⟨c1, c2⟩ | ⟨c1, c2⟩ | ⟨c1, c2⟩ | ⟨c1, c2⟩ | ⟨c1, c2⟩ | c1
      · have b0 : decide ((97 : Int) ≤ (t[k].toNat : Int)) = false := by rw [decide_eq_false_iff_not]; omega
        have b1 : decide ((t[k].toNat : Int) ≤ 122) = true := by rw [decide_eq_true_iff]; omega
        have b2 : decide ((65 : Int) ≤ (t[k].toNat : Int)) = false := by rw [decide_eq_false_iff_not]; omega
        have b3 : decide ((t[k].toNat : Int) ≤ 90) = true := by rw [decide_eq_true_iff]; omega
        have b4 : decide ((48 : Int) ≤ (t[k].toNat : Int)) = false := by rw [decide_eq_false_iff_not]; omega
        have b5 : decide ((t[k].toNat : Int) ≤ 57) = true := by rw [decide_eq_true_iff]; omega
        have b6 : ((t[k].toNat : Int) == 95) = false := by rw [beq_eq_false_iff_ne]; omega
        have b7 : ((t[k].toNat : Int) == 45) = false := by rw [beq_eq_false_iff_ne]; omega
        have b8 : ((t[k].toNat : Int) == 46) = false := by rw [beq_eq_false_iff_ne]; omega
        have HK : Hid (R = false) := HA.out.1 k hlt (wordC_no (by omega))
        go_wp2
        go_ret
        exact ⟨ret_bool HK.out.symm, rfl⟩
      · have b0 : decide ((97 : Int) ≤ (t[k].toNat : Int)) = false := by rw [decide_eq_false_iff_not]; omega
        have b1 : decide ((t[k].toNat : Int) ≤ 122) = true := by rw [decide_eq_true_iff]; omega
        have b2 : decide ((65 : Int) ≤ (t[k].toNat : Int)) = false := by rw [decide_eq_false_iff_not]; omega
        have b3 : decide ((t[k].toNat : Int) ≤ 90) = true := by rw [decide_eq_true_iff]; omega
        have b4 : decide ((48 : Int) ≤ (t[k].toNat : Int)) = false := by rw [decide_eq_false_iff_not]; omega
        have b5 : decide ((t[k].toNat : Int) ≤ 57) = true := by rw [decide_eq_true_iff]; omega
        have b6 : ((t[k].toNat : Int) == 95) = false := by rw [beq_eq_false_iff_ne]; omega
        have b7 : ((t[k].toNat : Int) == 45) = true := by rw [beq_iff_eq]; omega
        have b8 : ((t[k].toNat : Int) == 46) = false := by rw [beq_eq_false_iff_ne]; omega
        have HK : Hid (wordC t[k].toNat = true) := wordC_yes (by omega)
        go_wp2
        go_round
        case rel => exact ⟨k + 1, by omega, by go_num, all_succ HR.out hlt HK.out⟩
        case measure => simp [intOf]; omega
      · have b0 : decide ((97 : Int) ≤ (t[k].toNat : Int)) = false := by rw [decide_eq_false_iff_not]; omega
        have b1 : decide ((t[k].toNat : Int) ≤ 122) = true := by rw [decide_eq_true_iff]; omega
        have b2 : decide ((65 : Int) ≤ (t[k].toNat : Int)) = false := by rw [decide_eq_false_iff_not]; omega
        have b3 : decide ((t[k].toNat : Int) ≤ 90) = true := by rw [decide_eq_true_iff]; omega
        have b4 : decide ((48 : Int) ≤ (t[k].toNat : Int)) = false := by rw [decide_eq_false_iff_not]; omega
        have b5 : decide ((t[k].toNat : Int) ≤ 57) = true := by rw [decide_eq_true_iff]; omega
        have b6 : ((t[k].toNat : Int) == 95) = false := by rw [beq_eq_false_iff_ne]; omega
        have b7 : ((t[k].toNat : Int) == 45) = false := by rw [beq_eq_false_iff_ne]; omega
        have b8 : ((t[k].toNat : Int) == 46) = true := by rw [beq_iff_eq]; omega
        have HK : Hid (wordC t[k].toNat = true) := wordC_yes (by omega)
        go_wp2
        go_round
        case rel => exact ⟨k + 1, by omega, by go_num, all_succ HR.out hlt HK.out⟩
        case measure => simp [intOf]; omega
      · have b0 : decide ((97 : Int) ≤ (t[k].toNat : Int)) = false := by rw [decide_eq_false_iff_not]; omega
        have b1 : decide ((t[k].toNat : Int) ≤ 122) = true := by rw [decide_eq_true_iff]; omega
        have b2 : decide ((65 : Int) ≤ (t[k].toNat : Int)) = false := by rw [decide_eq_false_iff_not]; omega
        have b3 : decide ((t[k].toNat : Int) ≤ 90) = true := by rw [decide_eq_true_iff]; omega
        have b4 : decide ((48 : Int) ≤ (t[k].toNat : Int)) = false := by rw [decide_eq_false_iff_not]; omega
        have b5 : decide ((t[k].toNat : Int) ≤ 57) = true := by rw [decide_eq_true_iff]; omega
        have b6 : ((t[k].toNat : Int) == 95) = false := by rw [beq_eq_false_iff_ne]; omega
        have b7 : ((t[k].toNat : Int) == 45) = false := by rw [beq_eq_false_iff_ne]; omega
        have b8 : ((t[k].toNat : Int) == 46) = false := by rw [beq_eq_false_iff_ne]; omega
        have HK : Hid (R = false) := HA.out.1 k hlt (wordC_no (by omega))
        go_wp2
        go_ret
        exact ⟨ret_bool HK.out.symm, rfl⟩
      · have b0 : decide ((97 : Int) ≤ (t[k].toNat : Int)) = false := by rw [decide_eq_false_iff_not]; omega
        have b1 : decide ((t[k].toNat : Int) ≤ 122) = true := by rw [decide_eq_true_iff]; omega
        have b2 : decide ((65 : Int) ≤ (t[k].toNat : Int)) = false := by rw [decide_eq_false_iff_not]; omega
        have b3 : decide ((t[k].toNat : Int) ≤ 90) = true := by rw [decide_eq_true_iff]; omega
        have b4 : decide ((48 : Int) ≤ (t[k].toNat : Int)) = true := by rw [decide_eq_true_iff]; omega
        have b5 : decide ((t[k].toNat : Int) ≤ 57) = true := by rw [decide_eq_true_iff]; omega
        have b6 : ((t[k].toNat : Int) == 95) = false := by rw [beq_eq_false_iff_ne]; omega
        have b7 : ((t[k].toNat : Int) == 45) = false := by rw [beq_eq_false_iff_ne]; omega
        have b8 : ((t[k].toNat : Int) == 46) = false := by rw [beq_eq_false_iff_ne]; omega
        have HK : Hid (wordC t[k].toNat = true) := wordC_yes (by omega)
        go_wp2
        go_round
        case rel => exact ⟨k + 1, by omega, by go_num, all_succ HR.out hlt HK.out⟩
        case measure => simp [intOf]; omega
      · have b0 : decide ((97 : Int) ≤ (t[k].toNat : Int)) = false := by rw [decide_eq_false_iff_not]; omega
        have b1 : decide ((t[k].toNat : Int) ≤ 122) = true := by rw [decide_eq_true_iff]; omega
        have b2 : decide ((65 : Int) ≤ (t[k].toNat : Int)) = false := by rw [decide_eq_false_iff_not]; omega
        have b3 : decide ((t[k].toNat : Int) ≤ 90) = true := by rw [decide_eq_true_iff]; omega
        have b4 : decide ((48 : Int) ≤ (t[k].toNat : Int)) = true := by rw [decide_eq_true_iff]; omega
        have b5 : decide ((t[k].toNat : Int) ≤ 57) = false := by rw [decide_eq_false_iff_not]; omega
        have b6 : ((t[k].toNat : Int) == 95) = false := by rw [beq_eq_false_iff_ne]; omega
        have b7 : ((t[k].toNat : Int) == 45) = false := by rw [beq_eq_false_iff_ne]; omega
        have b8 : ((t[k].toNat : Int) == 46) = false := by rw [beq_eq_false_iff_ne]; omega
        have HK : Hid (R = false) := HA.out.1 k hlt (wordC_no (by omega))
        go_wp2
        go_ret
        exact ⟨ret_bool HK.out.symm, rfl⟩
      · have b0 : decide ((97 : Int) ≤ (t[k].toNat : Int)) = false := by rw [decide_eq_false_iff_not]; omega
        have b1 : decide ((t[k].toNat : Int) ≤ 122) = true := by rw [decide_eq_true_iff]; omega
        have b2 : decide ((65 : Int) ≤ (t[k].toNat : Int)) = true := by rw [decide_eq_true_iff]; omega
        have b3 : decide ((t[k].toNat : Int) ≤ 90) = true := by rw [decide_eq_true_iff]; omega
        have b4 : decide ((48 : Int) ≤ (t[k].toNat : Int)) = true := by rw [decide_eq_true_iff]; omega
        have b5 : decide ((t[k].toNat : Int) ≤ 57) = false := by rw [decide_eq_false_iff_not]; omega
        have b6 : ((t[k].toNat : Int) == 95) = false := by rw [beq_eq_false_iff_ne]; omega
        have b7 : ((t[k].toNat : Int) == 45) = false := by rw [beq_eq_false_iff_ne]; omega
        have b8 : ((t[k].toNat : Int) == 46) = false := by rw [beq_eq_false_iff_ne]; omega
        have HK : Hid (wordC t[k].toNat = true) := wordC_yes (by omega)
        go_wp2
        go_round
        case rel => exact ⟨k + 1, by omega, by go_num, all_succ HR.out hlt HK.out⟩
        case measure => simp [intOf]; omega
      · have b0 : decide ((97 : Int) ≤ (t[k].toNat : Int)) = false := by rw [decide_eq_false_iff_not]; omega
        have b1 : decide ((t[k].toNat : Int) ≤ 122) = true := by rw [decide_eq_true_iff]; omega
        have b2 : decide ((65 : Int) ≤ (t[k].toNat : Int)) = true := by rw [decide_eq_true_iff]; omega
        have b3 : decide ((t[k].toNat : Int) ≤ 90) = false := by rw [decide_eq_false_iff_not]; omega
        have b4 : decide ((48 : Int) ≤ (t[k].toNat : Int)) = true := by rw [decide_eq_true_iff]; omega
        have b5 : decide ((t[k].toNat : Int) ≤ 57) = false := by rw [decide_eq_false_iff_not]; omega
        have b6 : ((t[k].toNat : Int) == 95) = false := by rw [beq_eq_false_iff_ne]; omega
        have b7 : ((t[k].toNat : Int) == 45) = false := by rw [beq_eq_false_iff_ne]; omega
        have b8 : ((t[k].toNat : Int) == 46) = false := by rw [beq_eq_false_iff_ne]; omega
        have HK : Hid (R = false) := HA.out.1 k hlt (wordC_no (by omega))
        go_wp2
        go_ret
        exact ⟨ret_bool HK.out.symm, rfl⟩
      · have b0 : decide ((97 : Int) ≤ (t[k].toNat : Int)) = false := by rw [decide_eq_false_iff_not]; omega
        have b1 : decide ((t[k].toNat : Int) ≤ 122) = true := by rw [decide_eq_true_iff]; omega
        have b2 : decide ((65 : Int) ≤ (t[k].toNat : Int)) = true := by rw [decide_eq_true_iff]; omega
        have b3 : decide ((t[k].toNat : Int) ≤ 90) = false := by rw [decide_eq_false_iff_not]; omega
        have b4 : decide ((48 : Int) ≤ (t[k].toNat : Int)) = true := by rw [decide_eq_true_iff]; omega
        have b5 : decide ((t[k].toNat : Int) ≤ 57) = false := by rw [decide_eq_false_iff_not]; omega
        have b6 : ((t[k].toNat : Int) == 95) = true := by rw [beq_iff_eq]; omega
        have b7 : ((t[k].toNat : Int) == 45) = false := by rw [beq_eq_false_iff_ne]; omega
        have b8 : ((t[k].toNat : Int) == 46) = false := by rw [beq_eq_false_iff_ne]; omega
        have HK : Hid (wordC t[k].toNat = true) := wordC_yes (by omega)
        go_wp2
        go_round
        case rel => exact ⟨k + 1, by omega, by go_num, all_succ HR.out hlt HK.out⟩
        case measure => simp [intOf]; omega
      · have b0 : decide ((97 : Int) ≤ (t[k].toNat : Int)) = false := by rw [decide_eq_false_iff_not]; omega
        have b1 : decide ((t[k].toNat : Int) ≤ 122) = true := by rw [decide_eq_true_iff]; omega
        have b2 : decide ((65 : Int) ≤ (t[k].toNat : Int)) = true := by rw [decide_eq_true_iff]; omega
        have b3 : decide ((t[k].toNat : Int) ≤ 90) = false := by rw [decide_eq_false_iff_not]; omega
        have b4 : decide ((48 : Int) ≤ (t[k].toNat : Int)) = true := by rw [decide_eq_true_iff]; omega
        have b5 : decide ((t[k].toNat : Int) ≤ 57) = false := by rw [decide_eq_false_iff_not]; omega
        have b6 : ((t[k].toNat : Int) == 95) = false := by rw [beq_eq_false_iff_ne]; omega
        have b7 : ((t[k].toNat : Int) == 45) = false := by rw [beq_eq_false_iff_ne]; omega
        have b8 : ((t[k].toNat : Int) == 46) = false := by rw [beq_eq_false_iff_ne]; omega
        have HK : Hid (R = false) := HA.out.1 k hlt (wordC_no (by omega))
        go_wp2
        go_ret
        exact ⟨ret_bool HK.out.symm, rfl⟩
      · have b0 : decide ((97 : Int) ≤ (t[k].toNat : Int)) = true := by rw [decide_eq_true_iff]; omega
        have b1 : decide ((t[k].toNat : Int) ≤ 122) = true := by rw [decide_eq_true_iff]; omega
        have b2 : decide ((65 : Int) ≤ (t[k].toNat : Int)) = true := by rw [decide_eq_true_iff]; omega
        have b3 : decide ((t[k].toNat : Int) ≤ 90) = false := by rw [decide_eq_false_iff_not]; omega
        have b4 : decide ((48 : Int) ≤ (t[k].toNat : Int)) = true := by rw [decide_eq_true_iff]; omega
        have b5 : decide ((t[k].toNat : Int) ≤ 57) = false := by rw [decide_eq_false_iff_not]; omega
        have b6 : ((t[k].toNat : Int) == 95) = false := by rw [beq_eq_false_iff_ne]; omega
        have b7 : ((t[k].toNat : Int) == 45) = false := by rw [beq_eq_false_iff_ne]; omega
        have b8 : ((t[k].toNat : Int) == 46) = false := by rw [beq_eq_false_iff_ne]; omega
        have HK : Hid (wordC t[k].toNat = true) := wordC_yes (by omega)
        go_wp2
        go_round
        case rel => exact ⟨k + 1, by omega, by go_num, all_succ HR.out hlt HK.out⟩
        case measure => simp [intOf]; omega
      · have b0 : decide ((97 : Int) ≤ (t[k].toNat : Int)) = true := by rw [decide_eq_true_iff]; omega
        have b1 : decide ((t[k].toNat : Int) ≤ 122) = false := by rw [decide_eq_false_iff_not]; omega
        have b2 : decide ((65 : Int) ≤ (t[k].toNat : Int)) = true := by rw [decide_eq_true_iff]; omega
        have b3 : decide ((t[k].toNat : Int) ≤ 90) = false := by rw [decide_eq_false_iff_not]; omega
        have b4 : decide ((48 : Int) ≤ (t[k].toNat : Int)) = true := by rw [decide_eq_true_iff]; omega
        have b5 : decide ((t[k].toNat : Int) ≤ 57) = false := by rw [decide_eq_false_iff_not]; omega
        have b6 : ((t[k].toNat : Int) == 95) = false := by rw [beq_eq_false_iff_ne]; omega
        have b7 : ((t[k].toNat : Int) == 45) = false := by rw [beq_eq_false_iff_ne]; omega
        have b8 : ((t[k].toNat : Int) == 46) = false := by rw [beq_eq_false_iff_ne]; omega
        have HK : Hid (R = false) := HA.out.1 k hlt (wordC_no (by omega))
        go_wp2
        go_ret
        exact ⟨ret_bool HK.out.symm, rfl⟩
    · have HQ : Hid (R = decide (t.size ≤ 20)) := HA.out.2 (fun i h => HR.out i h (by omega))
      go_wp2
      go_ret
      exact ⟨ret_bool (by rw [HQ.out]; congr 1; exact propext ⟨fun h => by omega, fun h => by omega⟩), rfl⟩
end Go.Proofs.Ythcpmbolnmlohaa

/- The walks of the program's isSmall, isDigit, inWord and WordRight. Written by implword.py. -/
namespace Go.Proofs.Ythcpmbolnmlohaa
open Go.RowKit

def betw (n lo hi : Nat) : Bool := decide (lo ≤ n ∧ n ≤ hi)
theorem betw_yes {n lo hi : Nat} (h1 : lo ≤ n) (h2 : n ≤ hi) : betw n lo hi = true := by unfold betw; rw [decide_eq_true_iff]; exact ⟨h1, h2⟩
theorem betw_no {n lo hi : Nat} (h : ¬ (lo ≤ n ∧ n ≤ hi)) : betw n lo hi = false := by unfold betw; rw [decide_eq_false_iff_not]; exact h
set_option maxRecDepth 10000 in
theorem isSmallW_any (n : Nat) (w : World) : Calls Try.prog 21 #[.int .u8 (n : Int)] w fun e w' => e = .returned (.bool (betw n 97 122)) ∧ w' = w := by
  rcases (show (n < 97) ∨ (97 ≤ n ∧ n ≤ 122) ∨ (122 < n) by omega) with c1 | ⟨c1, c2⟩ | c1
  · have b1 : decide ((97 : Int) ≤ (n : Int)) = false := by rw [decide_eq_false_iff_not]; omega
    go_enter Try.func21, Try.ntmps21
    go_wp2
    go_ret
    exact ⟨ret_bool (betw_no (by omega)).symm, rfl⟩
  · go_enter Try.func21, Try.ntmps21
    go_wp2
    go_ret
    exact ⟨ret_bool (by rw [betw_yes c1 c2, decide_eq_true_iff]; omega), rfl⟩
  · have b1 : decide ((n : Int) ≤ 122) = false := by rw [decide_eq_false_iff_not]; omega
    go_enter Try.func21, Try.ntmps21
    go_wp2
    go_ret
    exact ⟨ret_bool (betw_no (by omega)).symm, rfl⟩
set_option maxRecDepth 10000 in
theorem isDigitW_any (n : Nat) (w : World) : Calls Try.prog 22 #[.int .u8 (n : Int)] w fun e w' => e = .returned (.bool (betw n 48 57)) ∧ w' = w := by
  rcases (show (n < 48) ∨ (48 ≤ n ∧ n ≤ 57) ∨ (57 < n) by omega) with c1 | ⟨c1, c2⟩ | c1
  · have b1 : decide ((48 : Int) ≤ (n : Int)) = false := by rw [decide_eq_false_iff_not]; omega
    go_enter Try.func22, Try.ntmps22
    go_wp2
    go_ret
    exact ⟨ret_bool (betw_no (by omega)).symm, rfl⟩
  · go_enter Try.func22, Try.ntmps22
    go_wp2
    go_ret
    exact ⟨ret_bool (by rw [betw_yes c1 c2, decide_eq_true_iff]; omega), rfl⟩
  · have b1 : decide ((n : Int) ≤ 57) = false := by rw [decide_eq_false_iff_not]; omega
    go_enter Try.func22, Try.ntmps22
    go_wp2
    go_ret
    exact ⟨ret_bool (betw_no (by omega)).symm, rfl⟩
set_option maxRecDepth 10000 in
set_option maxHeartbeats 2000000 in
theorem inWord_any (n : Nat) (w : World) : Calls Try.prog 12 #[.int .u8 (n : Int)] w fun e w' => e = .returned (.bool (wordC n)) ∧ w' = w := by
  have K1 : Hid (∀ W, Calls Try.prog 21 #[.int .u8 (n : Int)] W fun e w' => e = .returned (.bool (betw n 97 122)) ∧ w' = W) := fun W => isSmallW_any n W
  have K2 : Hid (∀ W, Calls Try.prog 22 #[.int .u8 (n : Int)] W fun e w' => e = .returned (.bool (betw n 48 57)) ∧ w' = W) := fun W => isDigitW_any n W
  rcases (show (n ≤ 44) ∨ (45 ≤ n ∧ n ≤ 45) ∨ (46 ≤ n ∧ n ≤ 46) ∨ (47 ≤ n ∧ n ≤ 47) ∨ (48 ≤ n ∧ n ≤ 57) ∨ (58 ≤ n ∧ n ≤ 64) ∨ (65 ≤ n ∧ n ≤ 90) ∨ (91 ≤ n ∧ n ≤ 94) ∨ (95 ≤ n ∧ n ≤ 95) ∨ (96 ≤ n ∧ n ≤ 96) ∨ (97 ≤ n ∧ n ≤ 122) ∨ (123 ≤ n) by omega)
    with c1 | ⟨c1, c2⟩ | ⟨c1, c2⟩ | ⟨c1, c2⟩ | ⟨c1, c2⟩ | ⟨c1, c2⟩ | ⟨c1, c2⟩ | ⟨c1, c2⟩ | ⟨c1, c2⟩ | ⟨c1, c2⟩ | ⟨c1, c2⟩ | c1
  · have HW : Hid (wordC n = false) := wordC_no (by omega)
    rw [betw_no (by omega)] at K1
    rw [betw_no (by omega)] at K2
    have b1 : decide ((65 : Int) ≤ (n : Int)) = false := by rw [decide_eq_false_iff_not]; omega
    have b2 : decide ((n : Int) ≤ 90) = true := by rw [decide_eq_true_iff]; omega
    have b3 : ((n : Int) == 95) = false := by rw [beq_eq_false_iff_ne]; omega
    have b4 : ((n : Int) == 45) = false := by rw [beq_eq_false_iff_ne]; omega
    have b5 : ((n : Int) == 46) = false := by rw [beq_eq_false_iff_ne]; omega
    go_enter Try.func12, Try.ntmps12
    go_wp2_with (first | (go_at_call 21; refine (K1.out _).mono ?_; rintro e w1 ⟨rfl, rfl⟩) | (go_at_call 22; refine (K2.out _).mono ?_; rintro e w2 ⟨rfl, rfl⟩))
    go_ret
    exact ⟨ret_bool HW.out.symm, rfl⟩
  · have HW : Hid (wordC n = true) := wordC_yes (by omega)
    rw [betw_no (by omega)] at K1
    rw [betw_no (by omega)] at K2
    have b1 : decide ((65 : Int) ≤ (n : Int)) = false := by rw [decide_eq_false_iff_not]; omega
    have b2 : decide ((n : Int) ≤ 90) = true := by rw [decide_eq_true_iff]; omega
    have b3 : ((n : Int) == 95) = false := by rw [beq_eq_false_iff_ne]; omega
    have b4 : ((n : Int) == 45) = true := by rw [beq_iff_eq]; omega
    have b5 : ((n : Int) == 46) = false := by rw [beq_eq_false_iff_ne]; omega
    go_enter Try.func12, Try.ntmps12
    go_wp2_with (first | (go_at_call 21; refine (K1.out _).mono ?_; rintro e w1 ⟨rfl, rfl⟩) | (go_at_call 22; refine (K2.out _).mono ?_; rintro e w2 ⟨rfl, rfl⟩))
    go_ret
    exact ⟨ret_bool HW.out.symm, rfl⟩
  · have HW : Hid (wordC n = true) := wordC_yes (by omega)
    rw [betw_no (by omega)] at K1
    rw [betw_no (by omega)] at K2
    have b1 : decide ((65 : Int) ≤ (n : Int)) = false := by rw [decide_eq_false_iff_not]; omega
    have b2 : decide ((n : Int) ≤ 90) = true := by rw [decide_eq_true_iff]; omega
    have b3 : ((n : Int) == 95) = false := by rw [beq_eq_false_iff_ne]; omega
    have b4 : ((n : Int) == 45) = false := by rw [beq_eq_false_iff_ne]; omega
    have b5 : ((n : Int) == 46) = true := by rw [beq_iff_eq]; omega
    go_enter Try.func12, Try.ntmps12
    go_wp2_with (first | (go_at_call 21; refine (K1.out _).mono ?_; rintro e w1 ⟨rfl, rfl⟩) | (go_at_call 22; refine (K2.out _).mono ?_; rintro e w2 ⟨rfl, rfl⟩))
    go_ret
    exact ⟨ret_bool HW.out.symm, rfl⟩
  · have HW : Hid (wordC n = false) := wordC_no (by omega)
    rw [betw_no (by omega)] at K1
    rw [betw_no (by omega)] at K2
    have b1 : decide ((65 : Int) ≤ (n : Int)) = false := by rw [decide_eq_false_iff_not]; omega
    have b2 : decide ((n : Int) ≤ 90) = true := by rw [decide_eq_true_iff]; omega
    have b3 : ((n : Int) == 95) = false := by rw [beq_eq_false_iff_ne]; omega
    have b4 : ((n : Int) == 45) = false := by rw [beq_eq_false_iff_ne]; omega
    have b5 : ((n : Int) == 46) = false := by rw [beq_eq_false_iff_ne]; omega
    go_enter Try.func12, Try.ntmps12
    go_wp2_with (first | (go_at_call 21; refine (K1.out _).mono ?_; rintro e w1 ⟨rfl, rfl⟩) | (go_at_call 22; refine (K2.out _).mono ?_; rintro e w2 ⟨rfl, rfl⟩))
    go_ret
    exact ⟨ret_bool HW.out.symm, rfl⟩
  · have HW : Hid (wordC n = true) := wordC_yes (by omega)
    rw [betw_no (by omega)] at K1
    rw [betw_yes (by omega) (by omega)] at K2
    have b1 : decide ((65 : Int) ≤ (n : Int)) = false := by rw [decide_eq_false_iff_not]; omega
    have b2 : decide ((n : Int) ≤ 90) = true := by rw [decide_eq_true_iff]; omega
    have b3 : ((n : Int) == 95) = false := by rw [beq_eq_false_iff_ne]; omega
    have b4 : ((n : Int) == 45) = false := by rw [beq_eq_false_iff_ne]; omega
    have b5 : ((n : Int) == 46) = false := by rw [beq_eq_false_iff_ne]; omega
    go_enter Try.func12, Try.ntmps12
    go_wp2_with (first | (go_at_call 21; refine (K1.out _).mono ?_; rintro e w1 ⟨rfl, rfl⟩) | (go_at_call 22; refine (K2.out _).mono ?_; rintro e w2 ⟨rfl, rfl⟩))
    go_ret
    exact ⟨ret_bool HW.out.symm, rfl⟩
  · have HW : Hid (wordC n = false) := wordC_no (by omega)
    rw [betw_no (by omega)] at K1
    rw [betw_no (by omega)] at K2
    have b1 : decide ((65 : Int) ≤ (n : Int)) = false := by rw [decide_eq_false_iff_not]; omega
    have b2 : decide ((n : Int) ≤ 90) = true := by rw [decide_eq_true_iff]; omega
    have b3 : ((n : Int) == 95) = false := by rw [beq_eq_false_iff_ne]; omega
    have b4 : ((n : Int) == 45) = false := by rw [beq_eq_false_iff_ne]; omega
    have b5 : ((n : Int) == 46) = false := by rw [beq_eq_false_iff_ne]; omega
    go_enter Try.func12, Try.ntmps12
    go_wp2_with (first | (go_at_call 21; refine (K1.out _).mono ?_; rintro e w1 ⟨rfl, rfl⟩) | (go_at_call 22; refine (K2.out _).mono ?_; rintro e w2 ⟨rfl, rfl⟩))
    go_ret
    exact ⟨ret_bool HW.out.symm, rfl⟩
  · have HW : Hid (wordC n = true) := wordC_yes (by omega)
    rw [betw_no (by omega)] at K1
    rw [betw_no (by omega)] at K2
    have b1 : decide ((65 : Int) ≤ (n : Int)) = true := by rw [decide_eq_true_iff]; omega
    have b2 : decide ((n : Int) ≤ 90) = true := by rw [decide_eq_true_iff]; omega
    have b3 : ((n : Int) == 95) = false := by rw [beq_eq_false_iff_ne]; omega
    have b4 : ((n : Int) == 45) = false := by rw [beq_eq_false_iff_ne]; omega
    have b5 : ((n : Int) == 46) = false := by rw [beq_eq_false_iff_ne]; omega
    go_enter Try.func12, Try.ntmps12
    go_wp2_with (first | (go_at_call 21; refine (K1.out _).mono ?_; rintro e w1 ⟨rfl, rfl⟩) | (go_at_call 22; refine (K2.out _).mono ?_; rintro e w2 ⟨rfl, rfl⟩))
    go_ret
    exact ⟨ret_bool HW.out.symm, rfl⟩
  · have HW : Hid (wordC n = false) := wordC_no (by omega)
    rw [betw_no (by omega)] at K1
    rw [betw_no (by omega)] at K2
    have b1 : decide ((65 : Int) ≤ (n : Int)) = true := by rw [decide_eq_true_iff]; omega
    have b2 : decide ((n : Int) ≤ 90) = false := by rw [decide_eq_false_iff_not]; omega
    have b3 : ((n : Int) == 95) = false := by rw [beq_eq_false_iff_ne]; omega
    have b4 : ((n : Int) == 45) = false := by rw [beq_eq_false_iff_ne]; omega
    have b5 : ((n : Int) == 46) = false := by rw [beq_eq_false_iff_ne]; omega
    go_enter Try.func12, Try.ntmps12
    go_wp2_with (first | (go_at_call 21; refine (K1.out _).mono ?_; rintro e w1 ⟨rfl, rfl⟩) | (go_at_call 22; refine (K2.out _).mono ?_; rintro e w2 ⟨rfl, rfl⟩))
    go_ret
    exact ⟨ret_bool HW.out.symm, rfl⟩
  · have HW : Hid (wordC n = true) := wordC_yes (by omega)
    rw [betw_no (by omega)] at K1
    rw [betw_no (by omega)] at K2
    have b1 : decide ((65 : Int) ≤ (n : Int)) = true := by rw [decide_eq_true_iff]; omega
    have b2 : decide ((n : Int) ≤ 90) = false := by rw [decide_eq_false_iff_not]; omega
    have b3 : ((n : Int) == 95) = true := by rw [beq_iff_eq]; omega
    have b4 : ((n : Int) == 45) = false := by rw [beq_eq_false_iff_ne]; omega
    have b5 : ((n : Int) == 46) = false := by rw [beq_eq_false_iff_ne]; omega
    go_enter Try.func12, Try.ntmps12
    go_wp2_with (first | (go_at_call 21; refine (K1.out _).mono ?_; rintro e w1 ⟨rfl, rfl⟩) | (go_at_call 22; refine (K2.out _).mono ?_; rintro e w2 ⟨rfl, rfl⟩))
    go_ret
    exact ⟨ret_bool HW.out.symm, rfl⟩
  · have HW : Hid (wordC n = false) := wordC_no (by omega)
    rw [betw_no (by omega)] at K1
    rw [betw_no (by omega)] at K2
    have b1 : decide ((65 : Int) ≤ (n : Int)) = true := by rw [decide_eq_true_iff]; omega
    have b2 : decide ((n : Int) ≤ 90) = false := by rw [decide_eq_false_iff_not]; omega
    have b3 : ((n : Int) == 95) = false := by rw [beq_eq_false_iff_ne]; omega
    have b4 : ((n : Int) == 45) = false := by rw [beq_eq_false_iff_ne]; omega
    have b5 : ((n : Int) == 46) = false := by rw [beq_eq_false_iff_ne]; omega
    go_enter Try.func12, Try.ntmps12
    go_wp2_with (first | (go_at_call 21; refine (K1.out _).mono ?_; rintro e w1 ⟨rfl, rfl⟩) | (go_at_call 22; refine (K2.out _).mono ?_; rintro e w2 ⟨rfl, rfl⟩))
    go_ret
    exact ⟨ret_bool HW.out.symm, rfl⟩
  · have HW : Hid (wordC n = true) := wordC_yes (by omega)
    rw [betw_yes (by omega) (by omega)] at K1
    rw [betw_no (by omega)] at K2
    have b1 : decide ((65 : Int) ≤ (n : Int)) = true := by rw [decide_eq_true_iff]; omega
    have b2 : decide ((n : Int) ≤ 90) = false := by rw [decide_eq_false_iff_not]; omega
    have b3 : ((n : Int) == 95) = false := by rw [beq_eq_false_iff_ne]; omega
    have b4 : ((n : Int) == 45) = false := by rw [beq_eq_false_iff_ne]; omega
    have b5 : ((n : Int) == 46) = false := by rw [beq_eq_false_iff_ne]; omega
    go_enter Try.func12, Try.ntmps12
    go_wp2_with (first | (go_at_call 21; refine (K1.out _).mono ?_; rintro e w1 ⟨rfl, rfl⟩) | (go_at_call 22; refine (K2.out _).mono ?_; rintro e w2 ⟨rfl, rfl⟩))
    go_ret
    exact ⟨ret_bool HW.out.symm, rfl⟩
  · have HW : Hid (wordC n = false) := wordC_no (by omega)
    rw [betw_no (by omega)] at K1
    rw [betw_no (by omega)] at K2
    have b1 : decide ((65 : Int) ≤ (n : Int)) = true := by rw [decide_eq_true_iff]; omega
    have b2 : decide ((n : Int) ≤ 90) = false := by rw [decide_eq_false_iff_not]; omega
    have b3 : ((n : Int) == 95) = false := by rw [beq_eq_false_iff_ne]; omega
    have b4 : ((n : Int) == 45) = false := by rw [beq_eq_false_iff_ne]; omega
    have b5 : ((n : Int) == 46) = false := by rw [beq_eq_false_iff_ne]; omega
    go_enter Try.func12, Try.ntmps12
    go_wp2_with (first | (go_at_call 21; refine (K1.out _).mono ?_; rintro e w1 ⟨rfl, rfl⟩) | (go_at_call 22; refine (K2.out _).mono ?_; rintro e w2 ⟨rfl, rfl⟩))
    go_ret
    exact ⟨ret_bool HW.out.symm, rfl⟩

theorem wordB_long {t : ByteArray} (h : 20 < t.size) : wordB t = false := by unfold wordB; rw [decide_eq_false (show ¬ t.size ≤ 20 by omega), Bool.and_false]
set_option maxRecDepth 10000 in
set_option maxHeartbeats 2000000 in
theorem wordRight_any (t : ByteArray) (w : World) :
    Calls Try.prog 6 #[.string t] w fun e w' => e = .returned (.bool (wordB t)) ∧ w' = w := by
  by_cases h20 : 20 < t.size
  · have HR : Hid (wordB t = false) := wordB_long h20
    go_enter Try.func6, Try.ntmps6
    go_wp2
    go_ret
    exact ⟨ret_bool HR.out.symm, rfl⟩
  have HA : Hid ((∀ k (h : k < t.size), wordC t[k].toNat = false → wordB t = false) ∧ ((∀ i (h : i < t.size), wordC t[i].toNat = true) → wordB t = true)) := ⟨fun k h hk => wordB_at k h hk, fun h => by rw [wordB_all h, decide_eq_true_iff]; omega⟩
  generalize wordB t = R at *
  have q20 : decide ((20 : Int) < (t.size : Int)) = false := by rw [decide_eq_false_iff_not]; omega
  go_enter Try.func6, Try.ntmps6
  go_wp2
  go_loop [9] (fun i => ∃ k : Nat, k ≤ t.size ∧ i = .int .i64 k ∧ Hid (∀ i (h : i < t.size), i < k → wordC t[i].toNat = true)) (fun i => t.size - (intOf i).toNat)
  case atStart => exact ⟨0, Nat.zero_le _, rfl, fun i _ hi => absurd hi (by omega)⟩
  case round =>
    obtain ⟨k, hk, rfl, HR⟩ := hrel
    by_cases hlt : k < t.size
    · have k0 : (0 : Int) ≤ k := by omega
      have k1 : (k : Int) < t.size := by omega
      have KW : Hid (∀ W, Calls Try.prog 12 #[.int .u8 (t[k].toNat : Int)] W fun e w' => e = .returned (.bool (wordC t[k].toNat)) ∧ w' = W) := fun W => inWord_any _ W
      cases hc : wordC t[k].toNat with
      | true =>
        rw [hc] at KW
        have HN : Hid (∀ i (h : i < t.size), i < k + 1 → wordC t[i].toNat = true) := fun i h hi => by
          by_cases e : i = k
          · subst e; exact hc
          · exact HR.out i h (by omega)
        clear hc
        go_wp2_with (go_at_call 12; refine (KW.out _).mono ?_; rintro e w1 ⟨rfl, rfl⟩)
        go_round
        case rel => exact ⟨k + 1, by omega, by go_num, HN⟩
        case measure => simp [intOf]; omega
      | false =>
        rw [hc] at KW
        have HQ : Hid (R = false) := HA.out.1 k hlt hc
        clear hc
        go_wp2_with (go_at_call 12; refine (KW.out _).mono ?_; rintro e w1 ⟨rfl, rfl⟩)
        go_ret
        exact ⟨ret_bool HQ.out.symm, rfl⟩
    · go_wp2
      go_ret
      exact ⟨ret_bool (HA.out.2 (fun i h => HR.out i h (by omega))).symm, rfl⟩
end Go.Proofs.Ythcpmbolnmlohaa

/- The law FnExactWordRight, walked. -/
namespace Go.Proofs.Ythcpmbolnmlohaa
open Go.RowKit
set_option maxRecDepth 10000 in
set_option maxHeartbeats 400000 in
theorem lawWord_any (t : ByteArray) (w : World) :
    Calls Try.prog 3 #[.string t] w fun e w' => e = .returned (.bool true) ∧ Below w.heap.size w w' := by
  by_cases h1 : 1048576 < t.size
  · go_enter Try.func3, Try.ntmps3
    go_wp2
    go_ret
    exact ⟨rfl, Below.refl _ _⟩
  have H1 : Hid (∀ W, Calls Try.prog 5 #[.string t] W fun e w' => e = .returned (.bool (wordB t)) ∧ w' = W) := fun W => specWord_any t W (by omega)
  have H2 : Hid (∀ W, Calls Try.prog 6 #[.string t] W fun e w' => e = .returned (.bool (wordB t)) ∧ w' = W) := fun W => wordRight_any t W
  generalize wordB t = b at *
  go_enter Try.func3, Try.ntmps3
  go_wp2_with fail
  refine (H1.out _).mono ?_
  rintro e w1 ⟨rfl, rfl⟩
  go_wp2_with fail
  refine (H2.out _).mono ?_
  rintro e w2 ⟨rfl, rfl⟩
  go_wp2
  go_ret
  exact ⟨rfl, Below.refl _ _⟩
end Go.Proofs.Ythcpmbolnmlohaa
