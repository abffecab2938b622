/- 10 of this claim's texts, one behind the other. -/
import Derived.Test.YtmlacbjlafdenagDoorRows
import Derived.Below
import Derived.WalkKit
import Derived.WalkSpells
import Derived.WalkLawsBesides
import Derived.Lib.SplitLaws
import Derived.Lib.IndexAny
/- Small facts that the walks close with: equal values make equal endings; what lies below a block is as it was. -/
namespace Go.Proofs.YtmlacbjlafdenagDoor
open Go.RowKit
theorem ret_bool {a b : Bool} (h : a = b) : Ending.returned (.bool a) = .returned (.bool b) := by rw [h]
theorem val_int {k : IntKind} {a b : Int} (h : a = b) : Value.int k a = .int k b := by rw [h]
theorem ret_int {k : IntKind} {a b : Int} (h : a = b) : Ending.returned (.int k a) = .returned (.int k b) := by rw [h]
theorem ret_text {a b : ByteArray} (h : a = b) : Ending.returned (.string a) = .returned (.string b) := by rw [h]
theorem bcell {W w1 : World} (hb : Below W.heap.size W w1) : (∀ b o, b < W.heap.size → w1.cell? ⟨b, o, none⟩ = W.cell? ⟨b, o, none⟩) ∧ (∀ b o, b < W.heap.size → w1.frozen? ⟨b, o, none⟩ = W.frozen? ⟨b, o, none⟩) :=
  ⟨fun b o h => hb.cell (p := ⟨b, o, none⟩) h, fun b o h => hb.frozen (p := ⟨b, o, none⟩) h⟩
theorem own_shape {w : World} {base n : Nat} {e : TypeId} {v : Value} {xs : List Value} (h : w.ownsRow base e 1 v (n + 1) xs) : ∃ g cap, v = .slice (some ⟨g, 0, none⟩) (n + 1) cap := by
  obtain ⟨_, ⟨_, h0⟩ | ⟨g, cap, _, hv, _⟩⟩ := h
  · omega
  · exact ⟨g, cap, hv⟩
end Go.Proofs.YtmlacbjlafdenagDoor

/- What a label and a path of a url are, as plain functions, with the facts that walks close with. -/
namespace Go.Proofs.YtmlacbjlafdenagDoor
/-- may the byte stand in a label? -/
def labC (c : Nat) : Bool := decide ((97 ≤ c ∧ c ≤ 122) ∨ (48 ≤ c ∧ c ≤ 57) ∨ c = 45)
def labelB (t : ByteArray) : Bool := decide (1 ≤ t.size ∧ t.size ≤ 12 ∧ (∀ h : 0 < t.size, ¬ t[0].toNat = 45) ∧ (∀ h : t.size - 1 < t.size, ¬ t[t.size - 1].toNat = 45) ∧ ∀ i (h : i < t.size), labC t[i].toNat = true)
theorem labelB_size {t : ByteArray} (h : t.size < 1 ∨ 12 < t.size) : labelB t = false := by
  unfold labelB; rw [decide_eq_false_iff_not]; rintro ⟨a, b, _⟩; omega
theorem labelB_first {t : ByteArray} (h : 0 < t.size) (hc : t[0].toNat = 45) : labelB t = false := by
  unfold labelB; rw [decide_eq_false_iff_not]; rintro ⟨_, _, a, _⟩; exact a h hc
theorem labelB_last {t : ByteArray} (h : t.size - 1 < t.size) (hc : t[t.size - 1].toNat = 45) : labelB t = false := by
  unfold labelB; rw [decide_eq_false_iff_not]; rintro ⟨_, _, _, a, _⟩; exact a h hc
theorem labelB_at {t : ByteArray} (k : Nat) (h : k < t.size) (hk : labC t[k].toNat = false) : labelB t = false := by
  unfold labelB; rw [decide_eq_false_iff_not]; rintro ⟨_, _, _, _, c⟩; rw [c k h] at hk; cases hk
theorem labelB_true {t : ByteArray} (h1 : 1 ≤ t.size) (h2 : t.size ≤ 12) (h3 : ∀ h : 0 < t.size, ¬ t[0].toNat = 45) (h4 : ∀ h : t.size - 1 < t.size, ¬ t[t.size - 1].toNat = 45)
    (h : ∀ i (h : i < t.size), labC t[i].toNat = true) : labelB t = true := by
  unfold labelB; rw [decide_eq_true_iff]; exact ⟨h1, h2, h3, h4, h⟩
theorem labC_yes {c : Nat} (h : (97 ≤ c ∧ c ≤ 122) ∨ (48 ≤ c ∧ c ≤ 57) ∨ c = 45) : labC c = true := by unfold labC; rw [decide_eq_true_iff]; exact h
theorem labC_no {c : Nat} (h : ¬ ((97 ≤ c ∧ c ≤ 122) ∨ (48 ≤ c ∧ c ≤ 57) ∨ c = 45)) : labC c = false := by unfold labC; rw [decide_eq_false_iff_not]; exact h
theorem all_succ {t : ByteArray} {P : Nat → Bool} {k : Nat} (hr : ∀ i (h : i < t.size), i < k → P t[i].toNat = true) (hk : k < t.size) (ho : P t[k].toNat = true) :
    ∀ i (h : i < t.size), i < k + 1 → P t[i].toNat = true := by
  intro i h hi
  by_cases e : i = k
  · subst e; exact ho
  · exact hr i h (by omega)
/-- may the byte stand in a path? -/
def pathC (c : Nat) : Bool := decide (33 ≤ c ∧ c ≤ 126 ∧ ¬ c = 63 ∧ ¬ c = 35 ∧ ¬ c = 59)
def pathB (t : ByteArray) : Bool := decide (1 ≤ t.size ∧ t.size ≤ 40 ∧ (∀ h : 0 < t.size, t[0].toNat = 47) ∧ ∀ i (h : i < t.size), pathC t[i].toNat = true)
theorem pathB_size {t : ByteArray} (h : t.size < 1 ∨ 40 < t.size) : pathB t = false := by
  unfold pathB; rw [decide_eq_false_iff_not]; rintro ⟨a, b, _⟩; omega
theorem pathB_first {t : ByteArray} (h : 0 < t.size) (hc : ¬ t[0].toNat = 47) : pathB t = false := by
  unfold pathB; rw [decide_eq_false_iff_not]; rintro ⟨_, _, a, _⟩; exact hc (a h)
theorem pathB_at {t : ByteArray} (k : Nat) (h : k < t.size) (hk : pathC t[k].toNat = false) : pathB t = false := by
  unfold pathB; rw [decide_eq_false_iff_not]; rintro ⟨_, _, _, c⟩; rw [c k h] at hk; cases hk
theorem pathB_true {t : ByteArray} (h1 : 1 ≤ t.size) (h2 : t.size ≤ 40) (h3 : ∀ h : 0 < t.size, t[0].toNat = 47) (h : ∀ i (h : i < t.size), pathC t[i].toNat = true) : pathB t = true := by
  unfold pathB; rw [decide_eq_true_iff]; exact ⟨h1, h2, h3, h⟩
theorem pathC_yes {c : Nat} (h : 33 ≤ c ∧ c ≤ 126 ∧ ¬ c = 63 ∧ ¬ c = 35 ∧ ¬ c = 59) : pathC c = true := by unfold pathC; rw [decide_eq_true_iff]; exact h
theorem pathC_no {c : Nat} (h : ¬ (33 ≤ c ∧ c ≤ 126 ∧ ¬ c = 63 ∧ ¬ c = 35 ∧ ¬ c = 59)) : pathC c = false := by unfold pathC; rw [decide_eq_false_iff_not]; exact h
end Go.Proofs.YtmlacbjlafdenagDoor

/- A text cut at a byte, as a plain function that goes byte by byte; what a host's labels are. -/
namespace Go.Proofs.YtmlacbjlafdenagDoor
/-- the cuts among the first i bytes, and where the last one ends -/
def splitTo (s : ByteArray) (c : Nat) : Nat → List ByteArray × Nat
  | 0 => ([], 0)
  | i + 1 => if h : i < s.size then (if s[i].toNat = c then ((splitTo s c i).1 ++ [s.extract (splitTo s c i).2 i], i + 1) else splitTo s c i) else splitTo s c i
def splitB (s : ByteArray) (c : Nat) : List ByteArray := (splitTo s c s.size).1 ++ [s.extract (splitTo s c s.size).2 s.size]
theorem splitTo_hit {s : ByteArray} {c i : Nat} (h : i < s.size) (hc : s[i].toNat = c) : splitTo s c (i + 1) = ((splitTo s c i).1 ++ [s.extract (splitTo s c i).2 i], i + 1) := by
  rw [splitTo, dif_pos h, if_pos hc]
theorem splitTo_miss {s : ByteArray} {c i : Nat} (h : i < s.size) (hc : ¬ s[i].toNat = c) : splitTo s c (i + 1) = splitTo s c i := by
  rw [splitTo, dif_pos h, if_neg hc]
theorem splitTo_le (s : ByteArray) (c i : Nat) : (splitTo s c i).2 ≤ i ∧ (splitTo s c i).1.length ≤ i := by
  induction i with
  | zero => exact ⟨Nat.le_refl _, Nat.le_refl _⟩
  | succ i ih =>
    rw [splitTo]
    split
    · split
      · exact ⟨Nat.le_refl _, by simp; omega⟩
      · exact ⟨by omega, by omega⟩
    · exact ⟨by omega, by omega⟩
theorem splitB_len (s : ByteArray) (c : Nat) : (splitB s c).length ≤ s.size + 1 := by
  have := (splitTo_le s c s.size).2
  unfold splitB; simp; omega
/-- a right host -/
def hostB (s : ByteArray) : Bool := decide (s.size ≤ 100) && (splitB s 46).all labelB && decide ((splitB s 46).length ≤ 6)
theorem hostB_size {s : ByteArray} (h : 100 < s.size) : hostB s = false := by
  unfold hostB; rw [decide_eq_false (by omega)]; rfl
theorem hostB_at {s : ByteArray} (k : Nat) (h : k < (splitB s 46).length) (hl : labelB ((splitB s 46)[k]) = false) : hostB s = false := by
  have : (splitB s 46).all labelB = false := by
    rw [List.all_eq_false]
    exact ⟨_, List.getElem_mem h, by simp [hl]⟩
  unfold hostB; rw [this]; simp
theorem hostB_all {s : ByteArray} (hs : s.size ≤ 100) (h : ∀ k (h : k < (splitB s 46).length), labelB ((splitB s 46)[k]) = true) : hostB s = decide ((splitB s 46).length ≤ 6) := by
  have : (splitB s 46).all labelB = true := by
    rw [List.all_eq_true]
    intro x hx
    obtain ⟨k, hk, rfl⟩ := List.getElem_of_mem hx
    exact h k hk
  unfold hostB; rw [this, decide_eq_true hs]; rfl
end Go.Proofs.YtmlacbjlafdenagDoor

/- The walks of the specification's l02Label and l02Path. -/
namespace Go.Proofs.YtmlacbjlafdenagDoor
open Go.RowKit

set_option maxRecDepth 10000 in
set_option maxHeartbeats 400000 in
theorem specLabel_any (t : ByteArray) (w : World) :
    Calls Tryd.prog 59 #[.string t] w fun e w' => e = .returned (.bool (labelB t)) ∧ w' = w := by
  by_cases h1 : t.size < 1
  · go_enter Tryd.func59, Tryd.ntmps59
    go_wp2
    go_ret
    exact ⟨ret_bool (labelB_size (.inl h1)).symm, rfl⟩
  have q1 : decide ((t.size : Int) < 1) = false := by rw [decide_eq_false_iff_not]; omega
  by_cases h2 : 12 < t.size
  · go_enter Tryd.func59, Tryd.ntmps59
    go_wp2
    go_ret
    exact ⟨ret_bool (labelB_size (.inr h2)).symm, rfl⟩
  have q2 : decide ((12 : Int) < (t.size : Int)) = false := by rw [decide_eq_false_iff_not]; omega
  have hp : 0 < t.size := by omega
  have hl : t.size - 1 < t.size := by omega
  by_cases h3 : t[0].toNat = 45
  · have q3 : ((t[0].toNat : Int) == 45) = true := by rw [beq_iff_eq]; omega
    have H3 : Hid (t[0].toNat = 45) := h3
    clear h3
    go_enter Tryd.func59, Tryd.ntmps59
    go_wp2
    go_ret
    exact ⟨ret_bool (labelB_first hp H3.out).symm, rfl⟩
  have q3 : ((t[0].toNat : Int) == 45) = false := by rw [beq_eq_false_iff_ne]; omega
  have H3 : Hid (¬ t[0].toNat = 45) := h3
  clear h3
  by_cases h4 : t[t.size - 1].toNat = 45
  · have q4 : ((t[t.size - 1].toNat : Int) == 45) = true := by rw [beq_iff_eq]; omega
    have H4 : Hid (t[t.size - 1].toNat = 45) := h4
    clear h4
    go_enter Tryd.func59, Tryd.ntmps59
    go_wp2
    go_ret
    exact ⟨ret_bool (labelB_last hl H4.out).symm, rfl⟩
  have q4 : ((t[t.size - 1].toNat : Int) == 45) = false := by rw [beq_eq_false_iff_ne]; omega
  have H4 : Hid (¬ t[t.size - 1].toNat = 45) := h4
  clear h4
  go_enter Tryd.func59, Tryd.ntmps59
  go_wp2
  go_loop [4, 5] (fun i _ => ∃ k : Nat, k ≤ t.size ∧ i = .int .i64 k ∧ Hid (∀ i (h : i < t.size), i < k → labC t[i].toNat = true)) (fun i _ => t.size - (intOf i).toNat)
  case atStart => exact ⟨0, Nat.zero_le _, rfl, fun i _ hi => absurd hi (by omega)⟩
  case round =>
    obtain ⟨k, hk, rfl, HR⟩ := hrel
    by_cases hlt : k < t.size
    · rcases (show (t[k].toNat < 45) ∨ (45 ≤ t[k].toNat ∧ t[k].toNat ≤ 45) ∨ (46 ≤ t[k].toNat ∧ t[k].toNat < 48) ∨ (48 ≤ t[k].toNat ∧ t[k].toNat ≤ 57) ∨ (58 ≤ t[k].toNat ∧ t[k].toNat < 97) ∨ (97 ≤ t[k].toNat ∧ t[k].toNat ≤ 122) ∨ (122 < t[k].toNat) by omega)
        with c1 | ⟨c1, c2⟩ | ⟨c1, c2⟩ | ⟨c1, c2⟩ | ⟨c1, c2⟩ | ⟨c1, c2⟩ | c1
      · have b1 : decide ((97 : Int) ≤ (t[k].toNat : Int)) = false := by rw [decide_eq_false_iff_not]; omega
        have b2 : decide ((48 : Int) ≤ (t[k].toNat : Int)) = false := by rw [decide_eq_false_iff_not]; omega
        have b3 : ((t[k].toNat : Int) == 45) = false := by rw [beq_eq_false_iff_ne]; omega
        go_wp2
        go_ret
        exact ⟨ret_bool (labelB_at k hlt (labC_no (by omega))).symm, rfl⟩
      · have b1 : decide ((97 : Int) ≤ (t[k].toNat : Int)) = false := by rw [decide_eq_false_iff_not]; omega
        have b2 : decide ((48 : Int) ≤ (t[k].toNat : Int)) = false := by rw [decide_eq_false_iff_not]; omega
        have b3 : ((t[k].toNat : Int) == 45) = true := by rw [beq_iff_eq]; omega
        go_wp2
        go_round
        case rel => exact ⟨k + 1, by omega, by go_num, all_succ HR.out hlt (labC_yes (by omega))⟩
        case measure => simp [intOf]; omega
      · have b1 : decide ((97 : Int) ≤ (t[k].toNat : Int)) = false := by rw [decide_eq_false_iff_not]; omega
        have b2 : decide ((48 : Int) ≤ (t[k].toNat : Int)) = false := by rw [decide_eq_false_iff_not]; omega
        have b3 : ((t[k].toNat : Int) == 45) = false := by rw [beq_eq_false_iff_ne]; omega
        go_wp2
        go_ret
        exact ⟨ret_bool (labelB_at k hlt (labC_no (by omega))).symm, rfl⟩
      · have b1 : decide ((97 : Int) ≤ (t[k].toNat : Int)) = false := by rw [decide_eq_false_iff_not]; omega
        go_wp2
        go_round
        case rel => exact ⟨k + 1, by omega, by go_num, all_succ HR.out hlt (labC_yes (by omega))⟩
        case measure => simp [intOf]; omega
      · have b1 : decide ((97 : Int) ≤ (t[k].toNat : Int)) = false := by rw [decide_eq_false_iff_not]; omega
        have b2 : decide ((t[k].toNat : Int) ≤ 57) = false := by rw [decide_eq_false_iff_not]; omega
        have b3 : ((t[k].toNat : Int) == 45) = false := by rw [beq_eq_false_iff_ne]; omega
        go_wp2
        go_ret
        exact ⟨ret_bool (labelB_at k hlt (labC_no (by omega))).symm, rfl⟩
      · go_wp2
        go_round
        case rel => exact ⟨k + 1, by omega, by go_num, all_succ HR.out hlt (labC_yes (by omega))⟩
        case measure => simp [intOf]; omega
      · have b1 : decide ((t[k].toNat : Int) ≤ 122) = false := by rw [decide_eq_false_iff_not]; omega
        have b2 : decide ((t[k].toNat : Int) ≤ 57) = false := by rw [decide_eq_false_iff_not]; omega
        have b3 : ((t[k].toNat : Int) == 45) = false := by rw [beq_eq_false_iff_ne]; omega
        go_wp2
        go_ret
        exact ⟨ret_bool (labelB_at k hlt (labC_no (by omega))).symm, rfl⟩
    · go_wp2
      go_ret
      exact ⟨ret_bool (labelB_true (by omega) (by omega) (fun _ => H3.out) (fun _ => H4.out) (fun i h => HR.out i h (by omega))).symm, rfl⟩

set_option maxRecDepth 10000 in
set_option maxHeartbeats 400000 in
theorem specPath_any (t : ByteArray) (w : World) :
    Calls Tryd.prog 55 #[.string t] w fun e w' => e = .returned (.bool (pathB t)) ∧ w' = w := by
  by_cases h1 : t.size < 1
  · go_enter Tryd.func55, Tryd.ntmps55
    go_wp2
    go_ret
    exact ⟨ret_bool (pathB_size (.inl h1)).symm, rfl⟩
  have q1 : decide ((t.size : Int) < 1) = false := by rw [decide_eq_false_iff_not]; omega
  by_cases h2 : 40 < t.size
  · go_enter Tryd.func55, Tryd.ntmps55
    go_wp2
    go_ret
    exact ⟨ret_bool (pathB_size (.inr h2)).symm, rfl⟩
  have q2 : decide ((40 : Int) < (t.size : Int)) = false := by rw [decide_eq_false_iff_not]; omega
  have hp : 0 < t.size := by omega
  by_cases h3 : t[0].toNat = 47
  case neg =>
    have q3 : ((t[0].toNat : Int) != 47) = true := by rw [bne_iff_ne]; omega
    have H3 : Hid (¬ t[0].toNat = 47) := h3
    clear h3
    go_enter Tryd.func55, Tryd.ntmps55
    go_wp2
    go_ret
    exact ⟨ret_bool (pathB_first hp H3.out).symm, rfl⟩
  have q3 : ((t[0].toNat : Int) != 47) = false := by rw [bne_eq_false_iff_eq]; omega
  have H3 : Hid (t[0].toNat = 47) := h3
  clear h3
  go_enter Tryd.func55, Tryd.ntmps55
  go_wp2
  go_loop [3] (fun i => ∃ k : Nat, k ≤ t.size ∧ i = .int .i64 k ∧ Hid (∀ i (h : i < t.size), i < k → pathC t[i].toNat = true)) (fun i => t.size - (intOf i).toNat)
  case atStart => exact ⟨0, Nat.zero_le _, rfl, fun i _ hi => absurd hi (by omega)⟩
  case round =>
    obtain ⟨k, hk, rfl, HR⟩ := hrel
    by_cases hlt : k < t.size
    · by_cases d1 : t[k].toNat < 33
      · go_wp2
        go_ret
        exact ⟨ret_bool (pathB_at k hlt (pathC_no (by omega))).symm, rfl⟩
      have b1 : decide ((t[k].toNat : Int) < 33) = false := by rw [decide_eq_false_iff_not]; omega
      by_cases d2 : 126 < t[k].toNat
      · go_wp2
        go_ret
        exact ⟨ret_bool (pathB_at k hlt (pathC_no (by omega))).symm, rfl⟩
      have b2 : decide ((126 : Int) < (t[k].toNat : Int)) = false := by rw [decide_eq_false_iff_not]; omega
      by_cases d3 : t[k].toNat = 63
      · have b3 : ((t[k].toNat : Int) == 63) = true := by rw [beq_iff_eq]; omega
        have D3 : Hid (t[k].toNat = 63) := d3
        clear d3
        go_wp2
        go_ret
        exact ⟨ret_bool (pathB_at k hlt (pathC_no (by have := D3.out; omega))).symm, rfl⟩
      have b3 : ((t[k].toNat : Int) == 63) = false := by rw [beq_eq_false_iff_ne]; omega
      by_cases d4 : t[k].toNat = 35
      · have b4 : ((t[k].toNat : Int) == 35) = true := by rw [beq_iff_eq]; omega
        have D4 : Hid (t[k].toNat = 35) := d4
        clear d4
        go_wp2
        go_ret
        exact ⟨ret_bool (pathB_at k hlt (pathC_no (by have := D4.out; omega))).symm, rfl⟩
      have b4 : ((t[k].toNat : Int) == 35) = false := by rw [beq_eq_false_iff_ne]; omega
      by_cases d5 : t[k].toNat = 59
      · have b5 : ((t[k].toNat : Int) == 59) = true := by rw [beq_iff_eq]; omega
        have D5 : Hid (t[k].toNat = 59) := d5
        clear d5
        go_wp2
        go_ret
        exact ⟨ret_bool (pathB_at k hlt (pathC_no (by have := D5.out; omega))).symm, rfl⟩
      have b5 : ((t[k].toNat : Int) == 59) = false := by rw [beq_eq_false_iff_ne]; omega
      have HC : Hid (pathC t[k].toNat = true) := pathC_yes (by omega)
      clear d3 d4 d5
      go_wp2
      go_round
      case rel => exact ⟨k + 1, by omega, by go_num, all_succ HR.out hlt HC.out⟩
      case measure => simp [intOf]; omega
    · go_wp2
      go_ret
      exact ⟨ret_bool (pathB_true (by omega) (by omega) (fun _ => H3.out) (fun i h => HR.out i h (by omega))).symm, rfl⟩
end Go.Proofs.YtmlacbjlafdenagDoor

/- The walks of the specification's l01Split and HostRight. -/
namespace Go.Proofs.YtmlacbjlafdenagDoor
open Go.RowKit

theorem infoStr : (Tryd.prog.info? 9).map (fun i => (i.zero, i.size, i.bytes)) = some (some (.string ⟨#[]⟩), 1, 16) := by kernel_rfl
/-- the cells of texts -/
def strCells (L : List ByteArray) : List Value := L.map Value.string
theorem strCells_snoc (L : List ByteArray) (x : ByteArray) : strCells L ++ [.string x] = strCells (L ++ [x]) := by simp [strCells]

set_option maxRecDepth 10000 in
set_option maxHeartbeats 400000 in
theorem split_any (s : ByteArray) (c : Nat) (w : World) (hs : s.size ≤ 1048576) :
    Calls Tryd.prog 58 #[.string s, .int .u8 c] w fun e w' => ∃ v, e = .returned v ∧ w'.ownsRow w.heap.size 9 1 v (splitB s c).length (strCells (splitB s c)) ∧ Below w.heap.size w w' := by
  obtain ⟨i0, hi, hz0, hz1, hz2⟩ := info_parts infoStr
  go_enter Tryd.func58, Tryd.ntmps58
  go_wp2
  go_loopw [5, 6, 7] (fun v f i wr => ∃ k : Nat, k ≤ s.size ∧ i = .int .i64 k ∧ f = .int .i64 ((splitTo s c k).2 : Nat) ∧ wr.ownsRow w.heap.size 9 1 v (splitTo s c k).1.length (strCells (splitTo s c k).1) ∧ Below w.heap.size w wr) (fun _ _ i _ => s.size - (intOf i).toNat)
  case atStart => exact ⟨0, Nat.zero_le _, rfl, rfl, World.ownsRow_made w #[] 0 (Nat.le_refl _) (Nat.zero_le _) rfl, (Below.refl _ _).alloc (Nat.le_refl _) _⟩
  case round =>
    obtain ⟨k, hk, rfl, rfl, hown, hb⟩ := hrel
    have hle := splitTo_le s c k
    have hbs := hb.size
    by_cases hlt : k < s.size
    · by_cases hit : s[k].toNat = c
      · have HS : Hid (splitTo s c (k + 1) = ((splitTo s c k).1 ++ [s.extract (splitTo s c k).2 k], k + 1)) := splitTo_hit hlt hit
        have q : ((s[k].toNat : Int) == (c : Int)) = true := by rw [beq_iff_eq]; omega
        clear hit
        generalize splitTo s c k = r at *
        obtain ⟨L, f⟩ := r
        have hown2 : wr.ownsRow w.heap.size 9 1 u5 L.length (strCells L) := hown
        have hf1 : f ≤ k := hle.1
        have hf2 : L.length ≤ k := hle.2
        clear hown hle
        go_wp2_with (at_builtin; go_must (refine wpList_append_own _ rfl _ _ 61 rfl w.heap.size 9 i0 (.string ⟨#[]⟩) 1 16 Tryd.underlying61 hi hz0 hz1 hz2 rfl (by decide) _ _ _ rfl (hown2.alloc _) ⟨wr.heap.size, 0, none⟩ 1 1 [.string (s.extract f k)] rfl rfl (cell_one_new _ _ _) (by intro u hu; simp at hu; subst hu; rfl) (by unfold maxLen; omega) (by omega) (by simp; omega) ?_))
        intro v' w2 hown3 hgrow _
        rw [strCells_snoc] at hown3
        have hb2 : Below w.heap.size w w2 := (hb.alloc hbs _).grown hgrow (by simp; omega) (fun j hj => (hown2.lt j hj).1)
        clear hown2 hgrow hb
        go_wp2
        go_roundw
        case rel => exact ⟨k + 1, by omega, by go_num, by rw [HS.out]; go_num, by rw [HS.out]; simpa using hown3, hb2⟩
        case measure => simp [intOf]; omega
      · have HS : Hid (splitTo s c (k + 1) = splitTo s c k) := splitTo_miss hlt hit
        have q : ((s[k].toNat : Int) == (c : Int)) = false := by rw [beq_eq_false_iff_ne]; omega
        clear hit
        generalize splitTo s c k = r at *
        obtain ⟨L, f⟩ := r
        have hown2 : wr.ownsRow w.heap.size 9 1 u5 L.length (strCells L) := hown
        clear hown hle
        go_wp2
        go_roundw
        case rel => exact ⟨k + 1, by omega, by go_num, by rw [HS.out], by rw [HS.out]; exact hown2, hb⟩
        case measure => simp [intOf]; omega
    · obtain rfl : k = s.size := by omega
      have HS : Hid (splitB s c = (splitTo s c s.size).1 ++ [s.extract (splitTo s c s.size).2 s.size]) := rfl
      generalize splitTo s c s.size = r at *
      obtain ⟨L, f⟩ := r
      have hown2 : wr.ownsRow w.heap.size 9 1 u5 L.length (strCells L) := hown
      have hf1 : f ≤ s.size := hle.1
      have hf2 : L.length ≤ s.size := hle.2
      clear hown hle
      go_wp2_with (at_builtin; go_must (refine wpList_append_own _ rfl _ _ 61 rfl w.heap.size 9 i0 (.string ⟨#[]⟩) 1 16 Tryd.underlying61 hi hz0 hz1 hz2 rfl (by decide) _ _ _ rfl (hown2.alloc _) ⟨wr.heap.size, 0, none⟩ 1 1 [.string (s.extract f s.size)] rfl rfl (cell_one_new _ _ _) (by intro u hu; simp at hu; subst hu; rfl) (by unfold maxLen; omega) (by omega) (by simp; omega) ?_))
      intro v' w2 hown3 hgrow _
      rw [strCells_snoc] at hown3
      have hb2 : Below w.heap.size w w2 := (hb.alloc hbs _).grown hgrow (by simp; omega) (fun j hj => (hown2.lt j hj).1)
      clear hown2 hgrow hb
      go_wp2
      go_ret
      exact ⟨_, rfl, by rw [HS.out]; simpa using hown3, hb2⟩

theorem splitB_ne (s : ByteArray) (c : Nat) : ∃ n, (splitB s c).length = n + 1 := ⟨(splitTo s c s.size).1.length, by simp [splitB]⟩

set_option maxRecDepth 10000 in
set_option maxHeartbeats 400000 in
theorem specHost_any (s : ByteArray) (w : World) :
    Calls Tryd.prog 41 #[.string s] w fun e w' => e = .returned (.bool (hostB s)) ∧ Below w.heap.size w w' := by
  by_cases h1 : 100 < s.size
  · go_enter Tryd.func41, Tryd.ntmps41
    go_wp2
    go_ret
    exact ⟨ret_bool (hostB_size h1).symm, Below.refl _ _⟩
  have HA : Hid ((∀ k (h : k < (splitB s 46).length), labelB ((splitB s 46)[k]) = false → hostB s = false) ∧ ((∀ k (h : k < (splitB s 46).length), labelB ((splitB s 46)[k]) = true) → hostB s = decide ((splitB s 46).length ≤ 6))) :=
    ⟨fun k h hl => hostB_at k h hl, fun h => hostB_all (by omega) h⟩
  have hn := splitB_len s 46
  obtain ⟨n, hn1⟩ := splitB_ne s 46
  have HC : Hid (∀ W, Calls Tryd.prog 58 #[.string s, .int .u8 46] W fun e w' => ∃ v, e = .returned v ∧ w'.ownsRow W.heap.size 9 1 v (splitB s 46).length (strCells (splitB s 46)) ∧ Below W.heap.size W w') := fun W => split_any s 46 W (by omega)
  generalize splitB s 46 = L at *
  go_enter Tryd.func41, Tryd.ntmps41
  go_wp2_with fail
  refine (HC.out _).mono ?_
  rintro e w1 ⟨v, rfl, hown, hb⟩
  rw [hn1] at hown
  obtain ⟨g, cap, rfl⟩ := own_shape hown
  have hL : n + 1 ≤ 101 := by omega
  have hcell : ∀ k (h : k < L.length), w1.cell? ⟨g, k, none⟩ = some (.string L[k]) := by
    intro k hk
    rw [hown.cellAt k (by omega)]
    simp [strCells, hk]
  have HN : Hid (L.length = n + 1) := hn1
  clear hn1 hn hown
  go_wp2
  go_loop [4] (fun i => ∃ k : Nat, k ≤ n + 1 ∧ i = .int .i64 k ∧ Hid (∀ j (h : j < L.length), j < k → labelB L[j] = true)) (fun i => n + 1 - (intOf i).toNat)
  case atStart => exact ⟨0, by omega, rfl, fun j _ hj => absurd hj (by omega)⟩
  case round =>
    obtain ⟨k, hk, rfl, HR⟩ := hrel
    by_cases hlt : k < n + 1
    · have hkl : k < L.length := by rw [HN.out]; exact hlt
      have hck := hcell k hkl
      cases hlab : labelB L[k] with
      | true =>
        have HC2 : Hid (∀ W, Calls Tryd.prog 59 #[.string L[k]] W fun e w' => e = .returned (.bool true) ∧ w' = W) := fun W => by rw [← hlab]; exact specLabel_any L[k] W
        have HL : Hid (labelB L[k] = true) := hlab
        clear hlab hcell
        generalize hx : L[k] = x at *
        have HX : Hid (L[k] = x) := hx
        clear hx
        go_wp2_with (go_at_call 59; refine (HC2.out _).mono ?_; rintro e w2 ⟨rfl, rfl⟩)
        go_round
        case rel =>
          refine ⟨k + 1, by omega, by go_num, ?_⟩
          intro j hj hjk
          by_cases e : j = k
          · subst e; rw [HX.out]; exact HL.out
          · exact HR.out j hj (by omega)
        case measure => simp [intOf]; omega
      | false =>
        have HC2 : Hid (∀ W, Calls Tryd.prog 59 #[.string L[k]] W fun e w' => e = .returned (.bool false) ∧ w' = W) := fun W => by rw [← hlab]; exact specLabel_any L[k] W
        have HF : Hid (hostB s = false) := HA.out.1 k hkl hlab
        clear hlab hcell
        generalize L[k] = x at *
        go_wp2_with (go_at_call 59; refine (HC2.out _).mono ?_; rintro e w2 ⟨rfl, rfl⟩)
        go_ret
        exact ⟨ret_bool HF.out.symm, hb⟩
    · have HF : Hid (hostB s = decide (((n + 1 : Nat) : Int) ≤ 6)) := by
        show _ = _
        rw [HA.out.2 (fun j hj => HR.out j hj (by have := HN.out; omega)), HN.out]
        congr 1
        exact propext ⟨fun h => by omega, fun h => by omega⟩
      clear hcell
      go_wp2
      go_ret
      exact ⟨ret_bool (by rw [HF.out]; simp), hb⟩
end Go.Proofs.YtmlacbjlafdenagDoor

/- The first place of a text in another one, and the number that digits tell, as plain functions. -/
namespace Go.Proofs.YtmlacbjlafdenagDoor
/-- does x stand in t at place i? -/
def isAt (t x : ByteArray) (i : Nat) : Bool := (t.extract i (i + x.size)).toList == x.toList
/-- the first place of x in t among the first i ones -/
def findTo (t x : ByteArray) : Nat → Option Nat
  | 0 => none
  | i + 1 => match findTo t x i with
    | some k => some k
    | none => if i + x.size ≤ t.size ∧ isAt t x i = true then some i else none
def findN (t x : ByteArray) : Option Nat := findTo t x (t.size + 1)
/-- as the specification tells it: -1 of none -/
def findI (t x : ByteArray) : Int := match findN t x with | some k => (k : Int) | none => -1
theorem findTo_hit {t x : ByteArray} {i : Nat} (h : findTo t x i = none) (h1 : i + x.size ≤ t.size) (h2 : isAt t x i = true) : findTo t x (i + 1) = some i := by
  rw [findTo, h]; simp [h1, h2]
theorem findTo_miss {t x : ByteArray} {i : Nat} (h : findTo t x i = none) (h2 : ¬ (i + x.size ≤ t.size ∧ isAt t x i = true)) : findTo t x (i + 1) = none := by
  rw [findTo, h]; simp only; rw [if_neg h2]
theorem findTo_keep {t x : ByteArray} {i k : Nat} (h : findTo t x i = some k) (j : Nat) : findTo t x (i + j) = some k := by
  induction j with
  | zero => exact h
  | succ j ih => rw [← Nat.add_assoc, findTo, ih]
theorem findTo_after {t x : ByteArray} {i : Nat} (h : findTo t x i = none) (hi : t.size < i + x.size) (j : Nat) : findTo t x (i + j) = none := by
  induction j with
  | zero => exact h
  | succ j ih => rw [← Nat.add_assoc]; exact findTo_miss ih (by omega)
theorem findTo_lt {t x : ByteArray} {i k : Nat} (h : findTo t x i = some k) : k < i ∧ k + x.size ≤ t.size ∧ isAt t x k = true := by
  induction i with
  | zero => cases h
  | succ i ih =>
    rw [findTo] at h
    cases hf : findTo t x i with
    | some m =>
      rw [hf] at h
      obtain rfl : m = k := by simpa using h
      have := ih hf
      exact ⟨by omega, this.2⟩
    | none =>
      rw [hf] at h
      simp only at h
      split at h
      · rename_i hc
        obtain rfl : i = k := by simpa using h
        exact ⟨by omega, hc⟩
      · cases h
theorem findI_hit {t x : ByteArray} {i : Nat} (h : findTo t x i = none) (h1 : i + x.size ≤ t.size) (h2 : isAt t x i = true) : findI t x = i := by
  have h3 := findTo_keep (findTo_hit h h1 h2) (t.size - i)
  unfold findI findN
  rw [show t.size + 1 = i + 1 + (t.size - i) by omega, h3]
theorem findI_none {t x : ByteArray} {i : Nat} (h : findTo t x i = none) (hi : t.size < i + x.size) (hle : i ≤ t.size + 1) : findI t x = -1 := by
  have h3 := findTo_after h hi (t.size + 1 - i)
  unfold findI findN
  rw [show t.size + 1 = i + (t.size + 1 - i) by omega, h3]
/-- the number of the first i bytes as digits -/
def numTo (t : ByteArray) : Nat → Nat
  | 0 => 0
  | i + 1 => if h : i < t.size then 10 * numTo t i + (t[i].toNat - 48) else numTo t i
theorem numTo_succ {t : ByteArray} {i : Nat} (h : i < t.size) : numTo t (i + 1) = 10 * numTo t i + (t[i].toNat - 48) := by rw [numTo, dif_pos h]
theorem numTo_lt (t : ByteArray) (hd : ∀ i (h : i < t.size), 48 ≤ t[i].toNat ∧ t[i].toNat ≤ 57) (i : Nat) : numTo t i < 10 ^ i := by
  induction i with
  | zero => exact (by decide : 0 < 10 ^ 0)
  | succ i ih =>
    rw [numTo, Nat.pow_succ]
    split
    · rename_i h
      have := hd i h
      omega
    · omega
def digC (c : Nat) : Bool := decide (48 ≤ c ∧ c ≤ 57)
/-- digits that are no number of at most nine of them: -1 -/
def numI (t : ByteArray) : Int := if 1 ≤ t.size ∧ t.size ≤ 9 ∧ (1 < t.size → ∀ h : 0 < t.size, ¬ t[0].toNat = 48) ∧ ∀ i (h : i < t.size), digC t[i].toNat = true then (numTo t t.size : Int) else -1
theorem numI_size {t : ByteArray} (h : t.size < 1 ∨ 9 < t.size) : numI t = -1 := by
  unfold numI; rw [if_neg]; rintro ⟨a, b, _⟩; omega
theorem numI_first {t : ByteArray} (h : 1 < t.size) (hc : t[0].toNat = 48) : numI t = -1 := by
  unfold numI; rw [if_neg]; rintro ⟨_, _, a, _⟩; exact a h (by omega) hc
theorem numI_at {t : ByteArray} (k : Nat) (h : k < t.size) (hk : digC t[k].toNat = false) : numI t = -1 := by
  unfold numI; rw [if_neg]; rintro ⟨_, _, _, c⟩; rw [c k h] at hk; cases hk
theorem numI_yes {t : ByteArray} (h1 : 1 ≤ t.size) (h2 : t.size ≤ 9) (h3 : 1 < t.size → ∀ h : 0 < t.size, ¬ t[0].toNat = 48) (h : ∀ i (h : i < t.size), digC t[i].toNat = true) : numI t = numTo t t.size := by
  unfold numI; rw [if_pos ⟨h1, h2, h3, h⟩]
theorem digC_yes {c : Nat} (h : 48 ≤ c ∧ c ≤ 57) : digC c = true := by unfold digC; rw [decide_eq_true_iff]; exact h
theorem digC_no {c : Nat} (h : ¬ (48 ≤ c ∧ c ≤ 57)) : digC c = false := by unfold digC; rw [decide_eq_false_iff_not]; exact h
theorem digC_of {c : Nat} (h : digC c = true) : 48 ≤ c ∧ c ≤ 57 := by unfold digC at h; rwa [decide_eq_true_iff] at h
end Go.Proofs.YtmlacbjlafdenagDoor

/- The walks of the specification's l02Find (from place 0 on) and l02Num. -/
namespace Go.Proofs.YtmlacbjlafdenagDoor
open Go.RowKit

set_option maxRecDepth 10000 in
set_option maxHeartbeats 400000 in
theorem specFind_any (t x : ByteArray) (w : World) (ht : t.size ≤ 1048576) (hx : x.size ≤ 1048576) :
    Calls Tryd.prog 42 #[.string t, .int .i64 0, .string x] w fun e w' => e = .returned (.int .i64 (findI t x)) ∧ w' = w := by
  go_enter Tryd.func42, Tryd.ntmps42
  go_wp2
  go_loop [7] (fun i => ∃ k : Nat, k ≤ t.size + 1 ∧ i = .int .i64 k ∧ Hid (findTo t x k = none)) (fun i => t.size + 1 - (intOf i).toNat)
  case atStart => exact ⟨0, by omega, rfl, rfl⟩
  case round =>
    obtain ⟨k, hk, rfl, HN⟩ := hrel
    by_cases hle : k + x.size ≤ t.size
    · cases hat : isAt t x k with
      | true =>
        have HF : Hid (findI t x = k) := findI_hit HN.out hle hat
        have q : ((t.extract k (k + x.size)).toList == x.toList) = true := hat
        clear hat
        go_wp2
        go_ret
        exact ⟨ret_int HF.out.symm, rfl⟩
      | false =>
        have HF : Hid (findTo t x (k + 1) = none) := findTo_miss HN.out (by rw [hat]; simp)
        have q : ((t.extract k (k + x.size)).toList == x.toList) = false := hat
        clear hat
        go_wp2
        go_round
        case rel => exact ⟨k + 1, by omega, by go_num, HF⟩
        case measure => simp [intOf]; omega
    · have HF : Hid (findI t x = -1) := findI_none HN.out (by omega) hk
      go_wp2
      go_ret
      exact ⟨ret_int HF.out.symm, rfl⟩

set_option maxRecDepth 10000 in
set_option maxHeartbeats 400000 in
theorem specNum_any (t : ByteArray) (w : World) :
    Calls Tryd.prog 48 #[.string t] w fun e w' => e = .returned (.int .i64 (numI t)) ∧ w' = w := by
  by_cases h1 : t.size < 1
  · go_enter Tryd.func48, Tryd.ntmps48
    go_wp2
    go_ret
    exact ⟨ret_int (numI_size (.inl h1)).symm, rfl⟩
  have q1 : decide ((t.size : Int) < 1) = false := by rw [decide_eq_false_iff_not]; omega
  by_cases h2 : 9 < t.size
  · go_enter Tryd.func48, Tryd.ntmps48
    go_wp2
    go_ret
    exact ⟨ret_int (numI_size (.inr h2)).symm, rfl⟩
  have q2 : decide ((9 : Int) < (t.size : Int)) = false := by rw [decide_eq_false_iff_not]; omega
  have hp : 0 < t.size := by omega
  by_cases h3 : 1 < t.size ∧ t[0].toNat = 48
  · obtain ⟨h4, h5⟩ := h3
    have q3 : ((t[0].toNat : Int) == 48) = true := by rw [beq_iff_eq]; omega
    have H5 : Hid (t[0].toNat = 48) := h5
    clear h5
    go_enter Tryd.func48, Tryd.ntmps48
    go_wp2
    go_ret
    exact ⟨ret_int (numI_first h4 H5.out).symm, rfl⟩
  have H3 : Hid (1 < t.size → ∀ h : 0 < t.size, ¬ t[0].toNat = 48) := fun h _ hc => h3 ⟨h, hc⟩
  have HB : Hid (∀ k ≤ 9, 10 ^ k ≤ 1000000000) := fun k hk => Nat.le_trans (Nat.pow_le_pow_right (by omega) hk) (by decide)
  by_cases h4 : 1 < t.size
  all_goals
    first
      | (have q3 : ((t[0].toNat : Int) == 48) = false := by rw [beq_eq_false_iff_ne]; intro hc; exact h3 ⟨h4, by omega⟩)
      | (have q3 : decide ((1 : Int) < (t.size : Int)) = false := by rw [decide_eq_false_iff_not]; omega)
    clear h3
    go_enter Tryd.func48, Tryd.ntmps48
    go_wp2
    go_loop [3, 4] (fun n i => ∃ k : Nat, k ≤ t.size ∧ i = .int .i64 k ∧ n = .int .i64 (numTo t k : Nat) ∧ Hid (∀ i (h : i < t.size), i < k → digC t[i].toNat = true) ∧ Hid (numTo t k < 10 ^ k)) (fun _ i => t.size - (intOf i).toNat)
    case atStart => exact ⟨0, Nat.zero_le _, rfl, rfl, fun i _ hi => absurd hi (by omega), (by decide : 0 < 10 ^ 0)⟩
    case round =>
      obtain ⟨k, hk, rfl, rfl, HR, HL⟩ := hrel
      by_cases hlt : k < t.size
      · by_cases d1 : t[k].toNat < 48
        · go_wp2
          go_ret
          exact ⟨ret_int (numI_at k hlt (digC_no (by omega))).symm, rfl⟩
        have b1 : decide ((t[k].toNat : Int) < 48) = false := by rw [decide_eq_false_iff_not]; omega
        by_cases d2 : 57 < t[k].toNat
        · go_wp2
          go_ret
          exact ⟨ret_int (numI_at k hlt (digC_no (by omega))).symm, rfl⟩
        have b2 : decide ((57 : Int) < (t[k].toNat : Int)) = false := by rw [decide_eq_false_iff_not]; omega
        have hn : numTo t k ≤ 1000000000 := Nat.le_trans (Nat.le_of_lt HL.out) (HB.out k (by omega))
        have HS : Hid (numTo t (k + 1) = 10 * numTo t k + (t[k].toNat - 48)) := numTo_succ hlt
        have HL2 : Hid (numTo t (k + 1) < 10 ^ (k + 1)) := by
          show _ < _
          have := HL.out
          rw [HS.out, Nat.pow_succ]; omega
        generalize numTo t k = v at *
        go_wp2
        go_round
        case rel => exact ⟨k + 1, by omega, by go_num, val_int (by rw [HS.out]; omega), all_succ HR.out hlt (digC_yes (by omega)), HL2⟩
        case measure => simp [intOf]; omega
      · obtain rfl : k = t.size := by omega
        have HF : Hid (numI t = numTo t t.size) := numI_yes (by omega) (by omega) H3.out (fun i h => HR.out i h h)
        go_wp2
        go_ret
        exact ⟨ret_int HF.out.symm, rfl⟩
end Go.Proofs.YtmlacbjlafdenagDoor

/- The walk of the specification's RuleRight. -/
namespace Go.Proofs.YtmlacbjlafdenagDoor
open Go.RowKit

/-- does it begin with an exclamation mark? -/
def bangB (s : ByteArray) : Bool := decide (∃ h : 0 < s.size, s[0].toNat = 33)
/-- does it begin with a star and a point, and go on? -/
def starB (s : ByteArray) : Bool := decide (2 < s.size) && ((s.extract 0 2).toList == [42, 46])
/-- a right rule -/
def ruleB (s : ByteArray) : Bool := if bangB s = true then hostB (s.extract 1 s.size) && decide (0 ≤ findI s ⟨#[46]⟩) else if starB s = true then hostB (s.extract 2 s.size) else hostB s
theorem bangB_yes {s : ByteArray} (h : 0 < s.size) (h1 : s[0].toNat = 33) : bangB s = true := by unfold bangB; rw [decide_eq_true_iff]; exact ⟨h, h1⟩
theorem bangB_no {s : ByteArray} (h : ¬ ∃ h : 0 < s.size, s[0].toNat = 33) : bangB s = false := by unfold bangB; rw [decide_eq_false_iff_not]; exact h
theorem ruleB_bang {s : ByteArray} (h : bangB s = true) : ruleB s = (hostB (s.extract 1 s.size) && decide (0 ≤ findI s ⟨#[46]⟩)) := by rw [ruleB, if_pos h]
theorem ruleB_star {s : ByteArray} (h : bangB s = false) (h2 : starB s = true) : ruleB s = hostB (s.extract 2 s.size) := by rw [ruleB, if_neg (by simp [h]), if_pos h2]
theorem ruleB_host {s : ByteArray} (h : bangB s = false) (h2 : starB s = false) : ruleB s = hostB s := by rw [ruleB, if_neg (by simp [h]), if_neg (by simp [h2])]

set_option maxRecDepth 10000 in
set_option maxHeartbeats 400000 in
theorem specRule_any (s : ByteArray) (w : World) (hs : s.size ≤ 1048576) :
    Calls Tryd.prog 25 #[.string s] w fun e w' => e = .returned (.bool (ruleB s)) ∧ Below w.heap.size w w' := by
  by_cases hb : ∃ h : 0 < s.size, s[0].toNat = 33
  · obtain ⟨hp, h33⟩ := hb
    have HR : Hid (ruleB s = (hostB (s.extract 1 s.size) && decide (0 ≤ findI s ⟨#[46]⟩))) := ruleB_bang (bangB_yes hp h33)
    have q1 : ((s[0].toNat : Int) == 33) = true := by rw [beq_iff_eq]; omega
    have H1 := fun W => specHost_any (s.extract 1 s.size) W
    have H2 := fun W => specFind_any s ⟨#[46]⟩ W hs (by decide)
    generalize hostB (s.extract 1 s.size) = b at *
    generalize findI s ⟨#[46]⟩ = f at *
    have G1 : Hid (∀ W, Calls Tryd.prog 41 #[.string (s.extract 1 s.size)] W fun e w' => e = .returned (.bool b) ∧ Below W.heap.size W w') := H1
    have G2 : Hid (∀ W, Calls Tryd.prog 42 #[.string s, .int .i64 0, .string ⟨#[46]⟩] W fun e w' => e = .returned (.int .i64 f) ∧ w' = W) := H2
    clear H1 H2 h33
    cases b with
    | false =>
      go_enter Tryd.func25, Tryd.ntmps25
      go_wp2_with (go_at_call 41; refine (G1.out _).mono ?_; rintro e w1 ⟨rfl, hb1⟩)
      go_ret
      exact ⟨ret_bool (by rw [HR.out]; rfl), hb1⟩
    | true =>
      go_enter Tryd.func25, Tryd.ntmps25
      go_wp2_with (first | (go_at_call 41; refine (G1.out _).mono ?_; rintro e w1 ⟨rfl, hb1⟩) | (go_at_call 42; refine (G2.out _).mono ?_; rintro e w2 ⟨rfl, rfl⟩))
      go_ret
      exact ⟨ret_bool (by rw [HR.out]; rfl), hb1⟩
  · have hbf := bangB_no hb
    cases hst : starB s with
    | true =>
      have HR : Hid (ruleB s = hostB (s.extract 2 s.size)) := ruleB_star hbf hst
      unfold starB at hst
      rw [Bool.and_eq_true, decide_eq_true_eq] at hst
      obtain ⟨h2, q3⟩ := hst
      have hp : 0 < s.size := by omega
      have q1 : ((s[0].toNat : Int) == 33) = false := by
        rw [beq_eq_false_iff_ne]
        intro e
        exact hb ⟨hp, by omega⟩
      have H1 := fun W => specHost_any (s.extract 2 s.size) W
      generalize hostB (s.extract 2 s.size) = b at *
      have G1 : Hid (∀ W, Calls Tryd.prog 41 #[.string (s.extract 2 s.size)] W fun e w' => e = .returned (.bool b) ∧ Below W.heap.size W w') := H1
      clear H1 hb hbf
      go_enter Tryd.func25, Tryd.ntmps25
      go_wp2_with (go_at_call 41; refine (G1.out _).mono ?_; rintro e w1 ⟨rfl, hb1⟩)
      go_ret
      exact ⟨ret_bool HR.out.symm, hb1⟩
    | false =>
      have HR : Hid (ruleB s = hostB s) := ruleB_host hbf hst
      have H1 := fun W => specHost_any s W
      generalize hostB s = b at *
      have G1 : Hid (∀ W, Calls Tryd.prog 41 #[.string s] W fun e w' => e = .returned (.bool b) ∧ Below W.heap.size W w') := H1
      clear H1
      unfold starB at hst
      by_cases h0 : 0 < s.size
      · have q1 : ((s[0].toNat : Int) == 33) = false := by
          rw [beq_eq_false_iff_ne]
          intro e
          exact hb ⟨h0, by omega⟩
        by_cases h2 : 2 < s.size
        · have q3 : ((s.extract 0 2).toList == [42, 46]) = false := by
            rw [decide_eq_true h2, Bool.true_and] at hst; exact hst
          clear hst hb hbf
          go_enter Tryd.func25, Tryd.ntmps25
          go_wp2_with (go_at_call 41; refine (G1.out _).mono ?_; rintro e w1 ⟨rfl, hb1⟩)
          go_ret
          exact ⟨ret_bool HR.out.symm, hb1⟩
        · have q2 : decide ((2 : Int) < (s.size : Int)) = false := by rw [decide_eq_false_iff_not]; omega
          clear hst hb hbf
          go_enter Tryd.func25, Tryd.ntmps25
          go_wp2_with (go_at_call 41; refine (G1.out _).mono ?_; rintro e w1 ⟨rfl, hb1⟩)
          go_ret
          exact ⟨ret_bool HR.out.symm, hb1⟩
      · have q0 : decide ((0 : Int) < (s.size : Int)) = false := by rw [decide_eq_false_iff_not]; omega
        have q2 : decide ((2 : Int) < (s.size : Int)) = false := by rw [decide_eq_false_iff_not]; omega
        clear hst hb hbf
        go_enter Tryd.func25, Tryd.ntmps25
        go_wp2_with (go_at_call 41; refine (G1.out _).mono ?_; rintro e w1 ⟨rfl, hb1⟩)
        go_ret
        exact ⟨ret_bool HR.out.symm, hb1⟩
end Go.Proofs.YtmlacbjlafdenagDoor

/- What the library's Split cuts a text into at a byte is splitB's list. -/
namespace Go.Proofs.YtmlacbjlafdenagDoor
theorem first_split {c : UInt8} : ∀ {l : List UInt8}, c ∈ l → ∃ A B, l = A ++ c :: B ∧ ∀ x ∈ A, x ≠ c
  | [], h => by cases h
  | b :: l, h => by
    by_cases e : b = c
    · exact ⟨[], l, by rw [e]; rfl, fun x hx => by cases hx⟩
    · obtain ⟨A, B, rfl, hA⟩ := first_split (l := l) (by cases h with | head => exact absurd rfl e | tail _ h => exact h)
      refine ⟨b :: A, B, rfl, ?_⟩
      intro x hx
      cases hx with
      | head => exact e
      | tail _ hx => exact hA x hx
/-- a list of bytes cut at a byte -/
def cutL (c : UInt8) : List UInt8 → List (List UInt8)
  | [] => [[]]
  | b :: l => if b = c then [] :: cutL c l else match cutL c l with
    | [] => [[b]]
    | p :: r => (b :: p) :: r
theorem cutL_none (c : UInt8) : ∀ A : List UInt8, (∀ x ∈ A, x ≠ c) → cutL c A = [A]
  | [], _ => rfl
  | b :: A, h => by
    rw [cutL, if_neg (h b (by simp)), cutL_none c A (fun x hx => h x (by simp [hx]))]
theorem cutL_app (c : UInt8) (B : List UInt8) : ∀ A : List UInt8, (∀ x ∈ A, x ≠ c) → cutL c (A ++ c :: B) = A :: cutL c B
  | [], _ => by rw [List.nil_append, cutL, if_pos rfl]
  | b :: A, h => by
    rw [List.cons_append, cutL, if_neg (h b (by simp)), cutL_app c B A (fun x hx => h x (by simp [hx]))]
theorem index_one (c : UInt8) (A B : List UInt8) (h : ∀ x ∈ A, x ≠ c) : Lib.index (A ++ c :: B) [c] = A.length := by
  refine Lib.index_first (by simp) ?_ ?_
  · simp [Lib.occAt]
  · intro j hj
    rw [← Bool.not_eq_true]
    intro ho
    have e := Lib.occAt_head rfl ho
    rw [List.getElem?_append_left hj] at e
    exact h c (List.mem_of_getElem? e) rfl
theorem splitK_cutL (c : UInt8) : ∀ (k : Nat) (l : List UInt8), l.count c = k → Lib.splitK [c] 0 k l = cutL c l
  | 0, l, h => by
    rw [cutL_none c l (fun x hx e => by subst e; exact absurd (List.count_pos_iff.2 hx) (by omega))]
    rfl
  | k + 1, l, h => by
    obtain ⟨A, B, rfl, hA⟩ := first_split (List.count_pos_iff.1 (show 0 < l.count c by omega))
    have hi := index_one c A B hA
    have h0 : A.count c = 0 := List.count_eq_zero.2 (fun hx => hA c hx rfl)
    have hB : B.count c = k := by
      rw [List.count_append, List.count_cons_self, h0] at h; omega
    rw [Lib.splitK, if_neg (by rw [hi, beq_iff_eq]; omega), hi, cutL_app c B A hA]
    congr 1
    · simp
    · rw [← splitK_cutL c k B hB]
      congr 1
      rw [show ((A.length : Int)).toNat + [c].length = A.length + 1 by simp, ← List.drop_drop, List.drop_left]
      rfl
theorem extract_list (s : ByteArray) (a b : Nat) : (s.extract a b).data.toList = (s.data.toList.drop a).take (b - a) := by
  simp
theorem byte_list {s : ByteArray} {i : Nat} (h : i < s.size) : s.data.toList[i]'(by simpa using h) = s[i] := by simp; rfl
theorem splitTo_cut (s : ByteArray) (c : UInt8) : ∀ i, i ≤ s.size →
    cutL c s.data.toList = (splitTo s c.toNat i).1.map (·.data.toList) ++ cutL c (s.data.toList.drop (splitTo s c.toNat i).2) ∧
      ∀ j (h : j < s.size), (splitTo s c.toNat i).2 ≤ j → j < i → s[j] ≠ c
  | 0, _ => ⟨by simp [splitTo], fun j _ _ h => by omega⟩
  | i + 1, hi => by
    obtain ⟨e, hn⟩ := splitTo_cut s c i (by omega)
    have hlt : i < s.size := by omega
    have hle := (splitTo_le s c.toNat i).1
    by_cases hc : s[i].toNat = c.toNat
    · rw [splitTo_hit hlt hc]
      refine ⟨?_, fun j _ h1 h2 => by simp at h1; omega⟩
      rw [e]
      generalize (splitTo s c.toNat i).2 = f at *
      have hl : i < s.data.toList.length := by simpa using hlt
      have hd : s.data.toList.drop f = ((s.data.toList.drop f).take (i - f)) ++ c :: s.data.toList.drop (i + 1) := by
        have hci : s.data.toList[i] = c := by rw [byte_list hlt]; exact UInt8.toNat_inj.1 hc
        conv => lhs; rw [← List.take_append_drop (i - f) (s.data.toList.drop f)]
        congr 1
        rw [List.drop_drop, show f + (i - f) = i by omega, List.drop_eq_getElem_cons hl, hci]
      have hA : ∀ x ∈ (s.data.toList.drop f).take (i - f), x ≠ c := by
        intro x hx
        obtain ⟨k, hk, rfl⟩ := List.getElem_of_mem hx
        have hk2 : k < i - f := by rw [List.length_take] at hk; omega
        rw [List.getElem_take, List.getElem_drop]
        have := hn (f + k) (by omega) (by omega) (by omega)
        rw [← byte_list (by omega)] at this
        exact this
      conv => lhs; rw [hd, cutL_app c _ _ hA]
      simp
    · rw [splitTo_miss hlt hc]
      refine ⟨e, fun j h h1 h2 => ?_⟩
      by_cases hj : j = i
      · subst hj; exact fun e => hc (by rw [e])
      · exact hn j h h1 (by omega)
theorem splitB_cut (s : ByteArray) (c : UInt8) : (splitB s c.toNat).map (·.data.toList) = cutL c s.data.toList := by
  obtain ⟨e, hn⟩ := splitTo_cut s c s.size (Nat.le_refl _)
  have hle := (splitTo_le s c.toNat s.size).1
  unfold splitB
  rw [e]
  generalize (splitTo s c.toNat s.size).2 = f at *
  rw [cutL_none c (s.data.toList.drop f)]
  · rw [List.map_append]; congr 1
    simp only [List.map_cons, List.map_nil, extract_list]
    rw [List.take_of_length_le (by simp)]
  · intro x hx
    obtain ⟨k, hk, rfl⟩ := List.getElem_of_mem hx
    rw [List.getElem_drop]
    have hk2 : f + k < s.size := by rw [List.length_drop] at hk; simp at hk; omega
    have := hn (f + k) hk2 (by omega) hk2
    rw [← byte_list hk2] at this
    exact this
theorem datas_inj : ∀ {A B : List ByteArray}, A.map (·.data.toList) = B.map (·.data.toList) → A = B
  | [], [], _ => rfl
  | [], b :: B, h => by cases h
  | a :: A, [], h => by cases h
  | a :: A, b :: B, h => by
    simp only [List.map_cons, List.cons.injEq] at h
    obtain ⟨h1, h2⟩ := h
    rw [datas_inj h2]
    congr 1
    cases a; cases b
    congr 1
    exact Array.toList_inj.1 h1
theorem lib_split (s : ByteArray) (c : UInt8) : Lib.splitB ⟨#[c]⟩ 0 (Lib.countB s ⟨#[c]⟩) s = splitB s c.toNat := by
  apply datas_inj
  rw [Lib.splitB_data, splitB_cut]
  exact splitK_cutL c _ _ (Lib.count_one c s.data.toList).symm
theorem lib_count (s : ByteArray) (c : UInt8) : Lib.countB s ⟨#[c]⟩ + 1 = (splitB s c.toNat).length := by
  rw [← lib_split, Lib.splitB_all ⟨#[c]⟩ (Nat.le_refl 1) 0 _ s rfl]
end Go.Proofs.YtmlacbjlafdenagDoor

/- What a right rule is, in the words of the library's functions. -/
namespace Go.Proofs.YtmlacbjlafdenagDoor

theorem findTo_none {t x : ByteArray} : ∀ {n : Nat}, findTo t x n = none → ∀ i, i < n → ¬ (i + x.size ≤ t.size ∧ isAt t x i = true)
  | 0, _, i, hi => absurd hi (by omega)
  | n + 1, h, i, hi => by
    rw [findTo] at h
    cases hf : findTo t x n with
    | some m => rw [hf] at h; cases h
    | none =>
      rw [hf] at h
      simp only at h
      by_cases e : i = n
      · subst e
        intro hc
        rw [if_pos hc] at h; cases h
      · exact findTo_none hf i (by omega)
theorem isAt_one {t : ByteArray} {c : UInt8} {i : Nat} (h : i < t.size) : isAt t ⟨#[c]⟩ i = true ↔ t.data.toList[i]? = some c := by
  have e : (t.extract i (i + (⟨#[c]⟩ : ByteArray).size)).toList = (t.data.toList.drop i).take 1 := by
    rw [Lib.toList_data, extract_list]
    rw [show (⟨#[c]⟩ : ByteArray).size = 1 from rfl, Nat.add_sub_cancel_left]
  have hl : i < t.data.toList.length := by simpa using h
  unfold isAt
  rw [e, Lib.toList_data, beq_iff_eq, List.drop_eq_getElem_cons hl, List.take_succ_cons, List.take_zero, List.getElem?_eq_getElem hl]
  simp
theorem find_mem (t : ByteArray) (c : UInt8) : 0 ≤ findI t ⟨#[c]⟩ ↔ c ∈ t.data.toList := by
  have h1 : (⟨#[c]⟩ : ByteArray).size = 1 := rfl
  unfold findI findN
  cases hf : findTo t ⟨#[c]⟩ (t.size + 1) with
  | some k =>
    simp only
    obtain ⟨_, hk, ha⟩ := findTo_lt hf
    rw [h1] at hk
    exact ⟨fun _ => List.mem_of_getElem? ((isAt_one (by omega)).1 ha), fun _ => by omega⟩
  | none =>
    simp only
    refine ⟨fun h => absurd h (by omega), fun h => ?_⟩
    obtain ⟨i, hi, e⟩ := List.getElem_of_mem h
    have hi2 : i < t.size := by simpa using hi
    exact absurd ⟨by rw [h1]; omega, (isAt_one hi2).2 (by rw [List.getElem?_eq_getElem hi, e])⟩ (findTo_none hf i (by omega))
theorem bytes_ext {a b : ByteArray} (h : a.data.toList = b.data.toList) : a = b := by
  cases a; cases b
  congr 1
  exact Array.toList_inj.1 h
theorem extract_to (s : ByteArray) (k : Nat) : (s.extract k s.size).data.toList = s.data.toList.drop k := by
  rw [extract_list, List.take_of_length_le]
  rw [List.length_drop, ← Lib.size_eq]
  omega
theorem bangB_lib (s : ByteArray) : bangB s = Lib.hasPrefix s.data.toList [33] := by
  have e := Lib.hasPrefix_raw s ⟨#[33]⟩
  have hd : (⟨#[33]⟩ : ByteArray).data.toList = [33] := rfl
  rw [hd] at e
  rw [← e]
  have h1 : (⟨#[33]⟩ : ByteArray).size = 1 := rfl
  unfold bangB
  rw [h1]
  by_cases h : 0 < s.size
  · have e2 := isAt_one (t := s) (c := 33) h
    unfold isAt at e2
    rw [h1, Nat.zero_add] at e2
    rw [decide_eq_true (show 1 ≤ s.size by omega), Bool.true_and]
    have hl : 0 < s.data.toList.length := by simpa using h
    rw [List.getElem?_eq_getElem hl, byte_list h] at e2
    rw [Bool.eq_iff_iff, decide_eq_true_iff, e2]
    constructor
    · rintro ⟨_, h3⟩
      congr 1
      exact UInt8.toNat_inj.1 h3
    · intro h3
      exact ⟨h, by rw [Option.some.inj h3]; rfl⟩
  · rw [decide_eq_false (show ¬ 1 ≤ s.size by omega), Bool.false_and, decide_eq_false_iff_not]
    rintro ⟨h2, _⟩; exact h h2
theorem starB_lib (s : ByteArray) : starB s = (decide (2 < s.size) && Lib.hasPrefix s.data.toList [42, 46]) := by
  have e := Lib.hasPrefix_raw s ⟨#[42, 46]⟩
  have hd : (⟨#[42, 46]⟩ : ByteArray).data.toList = [42, 46] := rfl
  have hd2 : (⟨#[42, 46]⟩ : ByteArray).toList = [42, 46] := by rw [Lib.toList_data]
  have h2 : (⟨#[42, 46]⟩ : ByteArray).size = 2 := rfl
  rw [hd, hd2, h2] at e
  unfold starB
  rw [← e]
  by_cases h : 2 < s.size
  · rw [decide_eq_true (show 2 ≤ s.size by omega), Bool.true_and]
  · rw [decide_eq_false h]; simp
/-- without the exclamation mark -/
def unbang (s : ByteArray) : ByteArray := ⟨(Lib.trimPrefix s.data.toList [33]).toArray⟩
theorem unbang_yes {s : ByteArray} (h : bangB s = true) : unbang s = s.extract 1 s.size := by
  rw [bangB_lib] at h
  apply bytes_ext
  rw [extract_to, unbang, Lib.trimPrefix, if_pos h]
  simp
/-- without the star and the point -/
def unstar (s : ByteArray) : ByteArray := ⟨(Lib.trimPrefix s.data.toList [42, 46]).toArray⟩
theorem hostB_starpoint : hostB ⟨#[42, 46]⟩ = false := hostB_at 0 (by decide) (by decide)
theorem hostB_empty : hostB ⟨#[]⟩ = false := hostB_at 0 (by decide) (by decide)
theorem ruleB_yes {s : ByteArray} (h : bangB s = true) : ruleB s = (hostB (unbang s) && decide (0 ≤ Lib.indexByte (unbang s).data.toList 46)) := by
  rw [ruleB_bang h, unbang_yes h]
  congr 1
  rw [← Lib.contains_iff_indexByte, extract_to, Bool.eq_iff_iff, decide_eq_true_iff, find_mem, List.contains_iff_mem]
  have hp : Lib.hasPrefix s.data.toList [33] = true := by rw [← bangB_lib]; exact h
  unfold Lib.hasPrefix at hp
  obtain ⟨r, hr⟩ := List.isPrefixOf_iff_prefix.1 hp
  rw [← hr]
  simp
theorem ruleB_no {s : ByteArray} (h : bangB s = false) : ruleB s = hostB (unstar s) := by
  have hst := starB_lib s
  cases hp : Lib.hasPrefix s.data.toList [42, 46] with
  | false =>
    rw [hp, Bool.and_false] at hst
    rw [ruleB_host h hst]
    congr 1
    apply bytes_ext
    rw [unstar, Lib.trimPrefix, if_neg (by rw [hp]; decide)]
  | true =>
    rw [hp, Bool.and_true] at hst
    by_cases h2 : 2 < s.size
    · rw [decide_eq_true h2] at hst
      rw [ruleB_star h hst]
      congr 1
      apply bytes_ext
      rw [extract_to, unstar, Lib.trimPrefix, if_pos hp]
      simp
    · rw [decide_eq_false h2] at hst
      rw [ruleB_host h hst]
      have hle : s.data.toList.length ≤ 2 := by rw [← Lib.size_eq]; omega
      unfold Lib.hasPrefix at hp
      have hp2 := List.isPrefixOf_iff_prefix.1 hp
      have e : s.data.toList = [42, 46] := (hp2.eq_of_length_le (by simpa using hle)).symm
      have e1 : s = ⟨#[42, 46]⟩ := bytes_ext (by rw [e])
      have e2 : unstar s = ⟨#[]⟩ := bytes_ext (by rw [unstar, e]; rfl)
      rw [e2, hostB_empty, e1, hostB_starpoint]
theorem unbang_le (s : ByteArray) : (unbang s).size ≤ s.size := by
  have : (unbang s).size = (Lib.trimPrefix s.data.toList [33]).length := by simp [unbang, ByteArray.size]
  rw [this, Lib.size_eq s]
  unfold Lib.trimPrefix
  split
  · rw [List.length_drop]; omega
  · exact Nat.le_refl _
theorem unstar_le (s : ByteArray) : (unstar s).size ≤ s.size := by
  have : (unstar s).size = (Lib.trimPrefix s.data.toList [42, 46]).length := by simp [unstar, ByteArray.size]
  rw [this, Lib.size_eq s]
  unfold Lib.trimPrefix
  split
  · rw [List.length_drop]; omega
  · exact Nat.le_refl _
end Go.Proofs.YtmlacbjlafdenagDoor
