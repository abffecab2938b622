/- 26 of this claim's texts, one behind the other. -/
import Derived.Test.YtclpamjgglfljaaDoorRows
import Derived.Below
import Derived.WalkKit
import Derived.WalkSpells
import Derived.WalkLawsBesides
import Derived.Laws.CopyOwn
import Derived.Lib.BufferWrite
import Derived.Laws.IdiomStrings
import Derived.Deep.QuietTactic
import Derived.BigQuiet
import Derived.Deep.RegionWith
import Derived.Deep.RegionHeld3
import Derived.Laws.ResultCell
import Derived.Lib.SmallJoins
import Derived.Deep.Slices
/- Small facts that the walks close with: equal values make equal endings; what lies below a block is as it was. -/
namespace Go.Proofs.YtclpamjgglfljaaDoor
open Go.RowKit
theorem ret_bool {a b : Bool} (h : a = b) : Ending.returned (.bool a) = .returned (.bool b) := by rw [h]
theorem val_int {k : IntKind} {a b : Int} (h : a = b) : Value.int k a = .int k b := by rw [h]
theorem ret_int {k : IntKind} {a b : Int} (h : a = b) : Ending.returned (.int k a) = .returned (.int k b) := by rw [h]
theorem ret_text {a b : ByteArray} (h : a = b) : Ending.returned (.string a) = .returned (.string b) := by rw [h]
theorem bcell {W w1 : World} (hb : Below W.heap.size W w1) : (∀ b o, b < W.heap.size → w1.cell? ⟨b, o, none⟩ = W.cell? ⟨b, o, none⟩) ∧ (∀ b o, b < W.heap.size → w1.frozen? ⟨b, o, none⟩ = W.frozen? ⟨b, o, none⟩) :=
  ⟨fun b o h => hb.cell (p := ⟨b, o, none⟩) h, fun b o h => hb.frozen (p := ⟨b, o, none⟩) h⟩
theorem own_shape {w : World} {base n : Nat} {e : TypeId} {v : Value} {xs : List Value} (h : w.ownsRow base e 1 v (n + 1) xs) : ∃ g cap, v = .slice (some ⟨g, 0, none⟩) (n + 1) cap := by
  obtain ⟨_, ⟨_, h0⟩ | ⟨g, cap, _, hv, _⟩⟩ := h
  · omega
  · exact ⟨g, cap, hv⟩
end Go.Proofs.YtclpamjgglfljaaDoor

/- Frame: the structure. Written by rowsin.py. -/
namespace Go.Proofs.YtclpamjgglfljaaDoor
open Go.RowKit

structure Fr where
  id : Int
  pa : Int
  sc : ByteArray
  ho : ByteArray
  po : Int
  pt : ByteArray
  sb : Bool
  fl : Bool
  tc : Int
/-- the value of a field, by its place -/
def frC (c : Fr) (o : Nat) : Value := if o = 0 then .int .i64 c.id else if o = 1 then .int .i64 c.pa else if o = 2 then .string c.sc else if o = 3 then .string c.ho else if o = 4 then .int .i64 c.po else if o = 5 then .string c.pt else if o = 6 then .bool c.sb else if o = 7 then .bool c.fl else .int .i64 c.tc
/-- as a value -/
def frV (c : Fr) : Value := .agg #[.int .i64 c.id, .int .i64 c.pa, .string c.sc, .string c.ho, .int .i64 c.po, .string c.pt, .bool c.sb, .bool c.fl, .int .i64 c.tc]
def frNone : Fr := ⟨0, 0, ⟨#[]⟩, ⟨#[]⟩, 0, ⟨#[]⟩, false, false, 0⟩
end Go.Proofs.YtclpamjgglfljaaDoor

/- What a label and a path of a url are, as plain functions, with the facts that walks close with. -/
namespace Go.Proofs.YtclpamjgglfljaaDoor
/-- may the byte stand in a label? -/
def labC (c : Nat) : Bool := decide ((97 ≤ c ∧ c ≤ 122) ∨ (48 ≤ c ∧ c ≤ 57) ∨ c = 45)
def labelB (t : ByteArray) : Bool := decide (1 ≤ t.size ∧ t.size ≤ 12 ∧ (∀ h : 0 < t.size, ¬ t[0].toNat = 45) ∧ (∀ h : t.size - 1 < t.size, ¬ t[t.size - 1].toNat = 45) ∧ ∀ i (h : i < t.size), labC t[i].toNat = true)
theorem labelB_size {t : ByteArray} (h : t.size < 1 ∨ 12 < t.size) : labelB t = false := by
  unfold labelB; rw [decide_eq_false_iff_not]; rintro ⟨a, b, _⟩; omega
theorem labelB_first {t : ByteArray} (h : 0 < t.size) (hc : t[0].toNat = 45) : labelB t = false := by
  unfold labelB; rw [decide_eq_false_iff_not]; rintro ⟨_, _, a, _⟩; exact a h hc
theorem labelB_last {t : ByteArray} (h : t.size - 1 < t.size) (hc : t[t.size - 1].toNat = 45) : labelB t = false := by
  unfold labelB; rw [decide_eq_false_iff_not]; rintro ⟨_, _, _, a, _⟩; exact a h hc
theorem labelB_at {t : ByteArray} (k : Nat) (h : k < t.size) (hk : labC t[k].toNat = false) : labelB t = false := by
  unfold labelB; rw [decide_eq_false_iff_not]; rintro ⟨_, _, _, _, c⟩; rw [c k h] at hk; cases hk
theorem labelB_true {t : ByteArray} (h1 : 1 ≤ t.size) (h2 : t.size ≤ 12) (h3 : ∀ h : 0 < t.size, ¬ t[0].toNat = 45) (h4 : ∀ h : t.size - 1 < t.size, ¬ t[t.size - 1].toNat = 45)
    (h : ∀ i (h : i < t.size), labC t[i].toNat = true) : labelB t = true := by
  unfold labelB; rw [decide_eq_true_iff]; exact ⟨h1, h2, h3, h4, h⟩
theorem labC_yes {c : Nat} (h : (97 ≤ c ∧ c ≤ 122) ∨ (48 ≤ c ∧ c ≤ 57) ∨ c = 45) : labC c = true := by unfold labC; rw [decide_eq_true_iff]; exact h
theorem labC_no {c : Nat} (h : ¬ ((97 ≤ c ∧ c ≤ 122) ∨ (48 ≤ c ∧ c ≤ 57) ∨ c = 45)) : labC c = false := by unfold labC; rw [decide_eq_false_iff_not]; exact h
theorem all_succ {t : ByteArray} {P : Nat → Bool} {k : Nat} (hr : ∀ i (h : i < t.size), i < k → P t[i].toNat = true) (hk : k < t.size) (ho : P t[k].toNat = true) :
    ∀ i (h : i < t.size), i < k + 1 → P t[i].toNat = true := by
  intro i h hi
  by_cases e : i = k
  · subst e; exact ho
  · exact hr i h (by omega)
/-- may the byte stand in a path? -/
def pathC (c : Nat) : Bool := decide (33 ≤ c ∧ c ≤ 126 ∧ ¬ c = 63 ∧ ¬ c = 35 ∧ ¬ c = 59)
def pathB (t : ByteArray) : Bool := decide (1 ≤ t.size ∧ t.size ≤ 40 ∧ (∀ h : 0 < t.size, t[0].toNat = 47) ∧ ∀ i (h : i < t.size), pathC t[i].toNat = true)
theorem pathB_size {t : ByteArray} (h : t.size < 1 ∨ 40 < t.size) : pathB t = false := by
  unfold pathB; rw [decide_eq_false_iff_not]; rintro ⟨a, b, _⟩; omega
theorem pathB_first {t : ByteArray} (h : 0 < t.size) (hc : ¬ t[0].toNat = 47) : pathB t = false := by
  unfold pathB; rw [decide_eq_false_iff_not]; rintro ⟨_, _, a, _⟩; exact hc (a h)
theorem pathB_at {t : ByteArray} (k : Nat) (h : k < t.size) (hk : pathC t[k].toNat = false) : pathB t = false := by
  unfold pathB; rw [decide_eq_false_iff_not]; rintro ⟨_, _, _, c⟩; rw [c k h] at hk; cases hk
theorem pathB_true {t : ByteArray} (h1 : 1 ≤ t.size) (h2 : t.size ≤ 40) (h3 : ∀ h : 0 < t.size, t[0].toNat = 47) (h : ∀ i (h : i < t.size), pathC t[i].toNat = true) : pathB t = true := by
  unfold pathB; rw [decide_eq_true_iff]; exact ⟨h1, h2, h3, h⟩
theorem pathC_yes {c : Nat} (h : 33 ≤ c ∧ c ≤ 126 ∧ ¬ c = 63 ∧ ¬ c = 35 ∧ ¬ c = 59) : pathC c = true := by unfold pathC; rw [decide_eq_true_iff]; exact h
theorem pathC_no {c : Nat} (h : ¬ (33 ≤ c ∧ c ≤ 126 ∧ ¬ c = 63 ∧ ¬ c = 35 ∧ ¬ c = 59)) : pathC c = false := by unfold pathC; rw [decide_eq_false_iff_not]; exact h
end Go.Proofs.YtclpamjgglfljaaDoor

/- A text cut at a byte, as a plain function that goes byte by byte; what a host's labels are. -/
namespace Go.Proofs.YtclpamjgglfljaaDoor
/-- the cuts among the first i bytes, and where the last one ends -/
def splitTo (s : ByteArray) (c : Nat) : Nat → List ByteArray × Nat
  | 0 => ([], 0)
  | i + 1 => if h : i < s.size then (if s[i].toNat = c then ((splitTo s c i).1 ++ [s.extract (splitTo s c i).2 i], i + 1) else splitTo s c i) else splitTo s c i
def splitB (s : ByteArray) (c : Nat) : List ByteArray := (splitTo s c s.size).1 ++ [s.extract (splitTo s c s.size).2 s.size]
theorem splitTo_hit {s : ByteArray} {c i : Nat} (h : i < s.size) (hc : s[i].toNat = c) : splitTo s c (i + 1) = ((splitTo s c i).1 ++ [s.extract (splitTo s c i).2 i], i + 1) := by
  rw [splitTo, dif_pos h, if_pos hc]
theorem splitTo_miss {s : ByteArray} {c i : Nat} (h : i < s.size) (hc : ¬ s[i].toNat = c) : splitTo s c (i + 1) = splitTo s c i := by
  rw [splitTo, dif_pos h, if_neg hc]
theorem splitTo_le (s : ByteArray) (c i : Nat) : (splitTo s c i).2 ≤ i ∧ (splitTo s c i).1.length ≤ i := by
  induction i with
  | zero => exact ⟨Nat.le_refl _, Nat.le_refl _⟩
  | succ i ih =>
    rw [splitTo]
    split
    · split
      · exact ⟨Nat.le_refl _, by simp; omega⟩
      · exact ⟨by omega, by omega⟩
    · exact ⟨by omega, by omega⟩
theorem splitB_len (s : ByteArray) (c : Nat) : (splitB s c).length ≤ s.size + 1 := by
  have := (splitTo_le s c s.size).2
  unfold splitB; simp; omega
/-- a right host -/
def hostB (s : ByteArray) : Bool := decide (s.size ≤ 100) && (splitB s 46).all labelB && decide ((splitB s 46).length ≤ 6)
theorem hostB_size {s : ByteArray} (h : 100 < s.size) : hostB s = false := by
  unfold hostB; rw [decide_eq_false (by omega)]; rfl
theorem hostB_at {s : ByteArray} (k : Nat) (h : k < (splitB s 46).length) (hl : labelB ((splitB s 46)[k]) = false) : hostB s = false := by
  have : (splitB s 46).all labelB = false := by
    rw [List.all_eq_false]
    exact ⟨_, List.getElem_mem h, by simp [hl]⟩
  unfold hostB; rw [this]; simp
theorem hostB_all {s : ByteArray} (hs : s.size ≤ 100) (h : ∀ k (h : k < (splitB s 46).length), labelB ((splitB s 46)[k]) = true) : hostB s = decide ((splitB s 46).length ≤ 6) := by
  have : (splitB s 46).all labelB = true := by
    rw [List.all_eq_true]
    intro x hx
    obtain ⟨k, hk, rfl⟩ := List.getElem_of_mem hx
    exact h k hk
  unfold hostB; rw [this, decide_eq_true hs]; rfl
theorem splitTo_little (s : ByteArray) (c : Nat) : ∀ i, ∀ x ∈ (splitTo s c i).1, x.size ≤ s.size
  | 0, x, h => by cases h
  | i + 1, x, h => by
    rw [splitTo] at h
    split at h
    · split at h
      · rw [List.mem_append] at h
        rcases h with h | h
        · exact splitTo_little s c i x h
        · rw [List.mem_singleton] at h
          rw [h, ByteArray.size_extract]; omega
      · exact splitTo_little s c i x h
    · exact splitTo_little s c i x h
theorem splitB_small (s : ByteArray) (c : Nat) : ∀ x ∈ splitB s c, x.size ≤ s.size := by
  intro x h
  unfold splitB at h
  rw [List.mem_append, List.mem_singleton] at h
  rcases h with h | h
  · exact splitTo_little s c _ x h
  · rw [h, ByteArray.size_extract]; omega
end Go.Proofs.YtclpamjgglfljaaDoor

/- The walks of the specification's l02Label and l02Path. -/
namespace Go.Proofs.YtclpamjgglfljaaDoor
open Go.RowKit

set_option maxRecDepth 10000 in
set_option maxHeartbeats 400000 in
theorem specLabel_any (t : ByteArray) (w : World) :
    Calls Tryd.prog 80 #[.string t] w fun e w' => e = .returned (.bool (labelB t)) ∧ w' = w := by
  by_cases h1 : t.size < 1
  · go_enter Tryd.func80, Tryd.ntmps80
    go_wp2
    go_ret
    exact ⟨ret_bool (labelB_size (.inl h1)).symm, rfl⟩
  have q1 : decide ((t.size : Int) < 1) = false := by rw [decide_eq_false_iff_not]; omega
  by_cases h2 : 12 < t.size
  · go_enter Tryd.func80, Tryd.ntmps80
    go_wp2
    go_ret
    exact ⟨ret_bool (labelB_size (.inr h2)).symm, rfl⟩
  have q2 : decide ((12 : Int) < (t.size : Int)) = false := by rw [decide_eq_false_iff_not]; omega
  have hp : 0 < t.size := by omega
  have hl : t.size - 1 < t.size := by omega
  by_cases h3 : t[0].toNat = 45
  · have q3 : ((t[0].toNat : Int) == 45) = true := by rw [beq_iff_eq]; omega
    have H3 : Hid (t[0].toNat = 45) := h3
    clear h3
    go_enter Tryd.func80, Tryd.ntmps80
    go_wp2
    go_ret
    exact ⟨ret_bool (labelB_first hp H3.out).symm, rfl⟩
  have q3 : ((t[0].toNat : Int) == 45) = false := by rw [beq_eq_false_iff_ne]; omega
  have H3 : Hid (¬ t[0].toNat = 45) := h3
  clear h3
  by_cases h4 : t[t.size - 1].toNat = 45
  · have q4 : ((t[t.size - 1].toNat : Int) == 45) = true := by rw [beq_iff_eq]; omega
    have H4 : Hid (t[t.size - 1].toNat = 45) := h4
    clear h4
    go_enter Tryd.func80, Tryd.ntmps80
    go_wp2
    go_ret
    exact ⟨ret_bool (labelB_last hl H4.out).symm, rfl⟩
  have q4 : ((t[t.size - 1].toNat : Int) == 45) = false := by rw [beq_eq_false_iff_ne]; omega
  have H4 : Hid (¬ t[t.size - 1].toNat = 45) := h4
  clear h4
  go_enter Tryd.func80, Tryd.ntmps80
  go_wp2
  go_loop [4, 5] (fun i _ => ∃ k : Nat, k ≤ t.size ∧ i = .int .i64 k ∧ Hid (∀ i (h : i < t.size), i < k → labC t[i].toNat = true)) (fun i _ => t.size - (intOf i).toNat)
  case atStart => exact ⟨0, Nat.zero_le _, rfl, fun i _ hi => absurd hi (by omega)⟩
  case round =>
    obtain ⟨k, hk, rfl, HR⟩ := hrel
    by_cases hlt : k < t.size
    · rcases (show (t[k].toNat < 45) ∨ (45 ≤ t[k].toNat ∧ t[k].toNat ≤ 45) ∨ (46 ≤ t[k].toNat ∧ t[k].toNat < 48) ∨ (48 ≤ t[k].toNat ∧ t[k].toNat ≤ 57) ∨ (58 ≤ t[k].toNat ∧ t[k].toNat < 97) ∨ (97 ≤ t[k].toNat ∧ t[k].toNat ≤ 122) ∨ (122 < t[k].toNat) by omega)
        with c1 | ⟨c1, c2⟩ | ⟨c1, c2⟩ | ⟨c1, c2⟩ | ⟨c1, c2⟩ | ⟨c1, c2⟩ | c1
      · have b1 : decide ((97 : Int) ≤ (t[k].toNat : Int)) = false := by rw [decide_eq_false_iff_not]; omega
        have b2 : decide ((48 : Int) ≤ (t[k].toNat : Int)) = false := by rw [decide_eq_false_iff_not]; omega
        have b3 : ((t[k].toNat : Int) == 45) = false := by rw [beq_eq_false_iff_ne]; omega
        go_wp2
        go_ret
        exact ⟨ret_bool (labelB_at k hlt (labC_no (by omega))).symm, rfl⟩
      · have b1 : decide ((97 : Int) ≤ (t[k].toNat : Int)) = false := by rw [decide_eq_false_iff_not]; omega
        have b2 : decide ((48 : Int) ≤ (t[k].toNat : Int)) = false := by rw [decide_eq_false_iff_not]; omega
        have b3 : ((t[k].toNat : Int) == 45) = true := by rw [beq_iff_eq]; omega
        go_wp2
        go_round
        case rel => exact ⟨k + 1, by omega, by go_num, all_succ HR.out hlt (labC_yes (by omega))⟩
        case measure => simp [intOf]; omega
      · have b1 : decide ((97 : Int) ≤ (t[k].toNat : Int)) = false := by rw [decide_eq_false_iff_not]; omega
        have b2 : decide ((48 : Int) ≤ (t[k].toNat : Int)) = false := by rw [decide_eq_false_iff_not]; omega
        have b3 : ((t[k].toNat : Int) == 45) = false := by rw [beq_eq_false_iff_ne]; omega
        go_wp2
        go_ret
        exact ⟨ret_bool (labelB_at k hlt (labC_no (by omega))).symm, rfl⟩
      · have b1 : decide ((97 : Int) ≤ (t[k].toNat : Int)) = false := by rw [decide_eq_false_iff_not]; omega
        go_wp2
        go_round
        case rel => exact ⟨k + 1, by omega, by go_num, all_succ HR.out hlt (labC_yes (by omega))⟩
        case measure => simp [intOf]; omega
      · have b1 : decide ((97 : Int) ≤ (t[k].toNat : Int)) = false := by rw [decide_eq_false_iff_not]; omega
        have b2 : decide ((t[k].toNat : Int) ≤ 57) = false := by rw [decide_eq_false_iff_not]; omega
        have b3 : ((t[k].toNat : Int) == 45) = false := by rw [beq_eq_false_iff_ne]; omega
        go_wp2
        go_ret
        exact ⟨ret_bool (labelB_at k hlt (labC_no (by omega))).symm, rfl⟩
      · go_wp2
        go_round
        case rel => exact ⟨k + 1, by omega, by go_num, all_succ HR.out hlt (labC_yes (by omega))⟩
        case measure => simp [intOf]; omega
      · have b1 : decide ((t[k].toNat : Int) ≤ 122) = false := by rw [decide_eq_false_iff_not]; omega
        have b2 : decide ((t[k].toNat : Int) ≤ 57) = false := by rw [decide_eq_false_iff_not]; omega
        have b3 : ((t[k].toNat : Int) == 45) = false := by rw [beq_eq_false_iff_ne]; omega
        go_wp2
        go_ret
        exact ⟨ret_bool (labelB_at k hlt (labC_no (by omega))).symm, rfl⟩
    · go_wp2
      go_ret
      exact ⟨ret_bool (labelB_true (by omega) (by omega) (fun _ => H3.out) (fun _ => H4.out) (fun i h => HR.out i h (by omega))).symm, rfl⟩

set_option maxRecDepth 10000 in
set_option maxHeartbeats 400000 in
theorem specPath_any (t : ByteArray) (w : World) :
    Calls Tryd.prog 46 #[.string t] w fun e w' => e = .returned (.bool (pathB t)) ∧ w' = w := by
  by_cases h1 : t.size < 1
  · go_enter Tryd.func46, Tryd.ntmps46
    go_wp2
    go_ret
    exact ⟨ret_bool (pathB_size (.inl h1)).symm, rfl⟩
  have q1 : decide ((t.size : Int) < 1) = false := by rw [decide_eq_false_iff_not]; omega
  by_cases h2 : 40 < t.size
  · go_enter Tryd.func46, Tryd.ntmps46
    go_wp2
    go_ret
    exact ⟨ret_bool (pathB_size (.inr h2)).symm, rfl⟩
  have q2 : decide ((40 : Int) < (t.size : Int)) = false := by rw [decide_eq_false_iff_not]; omega
  have hp : 0 < t.size := by omega
  by_cases h3 : t[0].toNat = 47
  case neg =>
    have q3 : ((t[0].toNat : Int) != 47) = true := by rw [bne_iff_ne]; omega
    have H3 : Hid (¬ t[0].toNat = 47) := h3
    clear h3
    go_enter Tryd.func46, Tryd.ntmps46
    go_wp2
    go_ret
    exact ⟨ret_bool (pathB_first hp H3.out).symm, rfl⟩
  have q3 : ((t[0].toNat : Int) != 47) = false := by rw [bne_eq_false_iff_eq]; omega
  have H3 : Hid (t[0].toNat = 47) := h3
  clear h3
  go_enter Tryd.func46, Tryd.ntmps46
  go_wp2
  go_loop [3] (fun i => ∃ k : Nat, k ≤ t.size ∧ i = .int .i64 k ∧ Hid (∀ i (h : i < t.size), i < k → pathC t[i].toNat = true)) (fun i => t.size - (intOf i).toNat)
  case atStart => exact ⟨0, Nat.zero_le _, rfl, fun i _ hi => absurd hi (by omega)⟩
  case round =>
    obtain ⟨k, hk, rfl, HR⟩ := hrel
    by_cases hlt : k < t.size
    · by_cases d1 : t[k].toNat < 33
      · go_wp2
        go_ret
        exact ⟨ret_bool (pathB_at k hlt (pathC_no (by omega))).symm, rfl⟩
      have b1 : decide ((t[k].toNat : Int) < 33) = false := by rw [decide_eq_false_iff_not]; omega
      by_cases d2 : 126 < t[k].toNat
      · go_wp2
        go_ret
        exact ⟨ret_bool (pathB_at k hlt (pathC_no (by omega))).symm, rfl⟩
      have b2 : decide ((126 : Int) < (t[k].toNat : Int)) = false := by rw [decide_eq_false_iff_not]; omega
      by_cases d3 : t[k].toNat = 63
      · have b3 : ((t[k].toNat : Int) == 63) = true := by rw [beq_iff_eq]; omega
        have D3 : Hid (t[k].toNat = 63) := d3
        clear d3
        go_wp2
        go_ret
        exact ⟨ret_bool (pathB_at k hlt (pathC_no (by have := D3.out; omega))).symm, rfl⟩
      have b3 : ((t[k].toNat : Int) == 63) = false := by rw [beq_eq_false_iff_ne]; omega
      by_cases d4 : t[k].toNat = 35
      · have b4 : ((t[k].toNat : Int) == 35) = true := by rw [beq_iff_eq]; omega
        have D4 : Hid (t[k].toNat = 35) := d4
        clear d4
        go_wp2
        go_ret
        exact ⟨ret_bool (pathB_at k hlt (pathC_no (by have := D4.out; omega))).symm, rfl⟩
      have b4 : ((t[k].toNat : Int) == 35) = false := by rw [beq_eq_false_iff_ne]; omega
      by_cases d5 : t[k].toNat = 59
      · have b5 : ((t[k].toNat : Int) == 59) = true := by rw [beq_iff_eq]; omega
        have D5 : Hid (t[k].toNat = 59) := d5
        clear d5
        go_wp2
        go_ret
        exact ⟨ret_bool (pathB_at k hlt (pathC_no (by have := D5.out; omega))).symm, rfl⟩
      have b5 : ((t[k].toNat : Int) == 59) = false := by rw [beq_eq_false_iff_ne]; omega
      have HC : Hid (pathC t[k].toNat = true) := pathC_yes (by omega)
      clear d3 d4 d5
      go_wp2
      go_round
      case rel => exact ⟨k + 1, by omega, by go_num, all_succ HR.out hlt HC.out⟩
      case measure => simp [intOf]; omega
    · go_wp2
      go_ret
      exact ⟨ret_bool (pathB_true (by omega) (by omega) (fun _ => H3.out) (fun i h => HR.out i h (by omega))).symm, rfl⟩
end Go.Proofs.YtclpamjgglfljaaDoor

/- The walks of the specification's l01Split and HostRight. -/
namespace Go.Proofs.YtclpamjgglfljaaDoor
open Go.RowKit

theorem infoStr : (Tryd.prog.info? 9).map (fun i => (i.zero, i.size, i.bytes)) = some (some (.string ⟨#[]⟩), 1, 16) := by kernel_rfl
/-- the cells of texts -/
def strCells (L : List ByteArray) : List Value := L.map Value.string
theorem strCells_snoc (L : List ByteArray) (x : ByteArray) : strCells L ++ [.string x] = strCells (L ++ [x]) := by simp [strCells]

set_option maxRecDepth 10000 in
set_option maxHeartbeats 400000 in
theorem split_any (s : ByteArray) (c : Nat) (w : World) (hs : s.size ≤ 1048576) :
    Calls Tryd.prog 79 #[.string s, .int .u8 c] w fun e w' => ∃ v, e = .returned v ∧ w'.ownsRow w.heap.size 9 1 v (splitB s c).length (strCells (splitB s c)) ∧ Below w.heap.size w w' := by
  obtain ⟨i0, hi, hz0, hz1, hz2⟩ := info_parts infoStr
  go_enter Tryd.func79, Tryd.ntmps79
  go_wp2
  go_loopw [5, 6, 7] (fun v f i wr => ∃ k : Nat, k ≤ s.size ∧ i = .int .i64 k ∧ f = .int .i64 ((splitTo s c k).2 : Nat) ∧ wr.ownsRow w.heap.size 9 1 v (splitTo s c k).1.length (strCells (splitTo s c k).1) ∧ Below w.heap.size w wr) (fun _ _ i _ => s.size - (intOf i).toNat)
  case atStart => exact ⟨0, Nat.zero_le _, rfl, rfl, World.ownsRow_made w #[] 0 (Nat.le_refl _) (Nat.zero_le _) rfl, (Below.refl _ _).alloc (Nat.le_refl _) _⟩
  case round =>
    obtain ⟨k, hk, rfl, rfl, hown, hb⟩ := hrel
    have hle := splitTo_le s c k
    have hbs := hb.size
    by_cases hlt : k < s.size
    · by_cases hit : s[k].toNat = c
      · have HS : Hid (splitTo s c (k + 1) = ((splitTo s c k).1 ++ [s.extract (splitTo s c k).2 k], k + 1)) := splitTo_hit hlt hit
        have q : ((s[k].toNat : Int) == (c : Int)) = true := by rw [beq_iff_eq]; omega
        clear hit
        generalize splitTo s c k = r at *
        obtain ⟨L, f⟩ := r
        have hown2 : wr.ownsRow w.heap.size 9 1 u5 L.length (strCells L) := hown
        have hf1 : f ≤ k := hle.1
        have hf2 : L.length ≤ k := hle.2
        clear hown hle
        go_wp2_with (at_builtin; go_must (refine wpList_append_own _ rfl _ _ 23 rfl w.heap.size 9 i0 (.string ⟨#[]⟩) 1 16 Tryd.underlying23 hi hz0 hz1 hz2 rfl (by decide) _ _ _ rfl (hown2.alloc _) ⟨wr.heap.size, 0, none⟩ 1 1 [.string (s.extract f k)] rfl rfl (cell_one_new _ _ _) (by intro u hu; simp at hu; subst hu; rfl) (by unfold maxLen; omega) (by omega) (by simp; omega) ?_))
        intro v' w2 hown3 hgrow _
        rw [strCells_snoc] at hown3
        have hb2 : Below w.heap.size w w2 := (hb.alloc hbs _).grown hgrow (by simp; omega) (fun j hj => (hown2.lt j hj).1)
        clear hown2 hgrow hb
        go_wp2
        go_roundw
        case rel => exact ⟨k + 1, by omega, by go_num, by rw [HS.out]; go_num, by rw [HS.out]; simpa using hown3, hb2⟩
        case measure => simp [intOf]; omega
      · have HS : Hid (splitTo s c (k + 1) = splitTo s c k) := splitTo_miss hlt hit
        have q : ((s[k].toNat : Int) == (c : Int)) = false := by rw [beq_eq_false_iff_ne]; omega
        clear hit
        generalize splitTo s c k = r at *
        obtain ⟨L, f⟩ := r
        have hown2 : wr.ownsRow w.heap.size 9 1 u5 L.length (strCells L) := hown
        clear hown hle
        go_wp2
        go_roundw
        case rel => exact ⟨k + 1, by omega, by go_num, by rw [HS.out], by rw [HS.out]; exact hown2, hb⟩
        case measure => simp [intOf]; omega
    · obtain rfl : k = s.size := by omega
      have HS : Hid (splitB s c = (splitTo s c s.size).1 ++ [s.extract (splitTo s c s.size).2 s.size]) := rfl
      generalize splitTo s c s.size = r at *
      obtain ⟨L, f⟩ := r
      have hown2 : wr.ownsRow w.heap.size 9 1 u5 L.length (strCells L) := hown
      have hf1 : f ≤ s.size := hle.1
      have hf2 : L.length ≤ s.size := hle.2
      clear hown hle
      go_wp2_with (at_builtin; go_must (refine wpList_append_own _ rfl _ _ 23 rfl w.heap.size 9 i0 (.string ⟨#[]⟩) 1 16 Tryd.underlying23 hi hz0 hz1 hz2 rfl (by decide) _ _ _ rfl (hown2.alloc _) ⟨wr.heap.size, 0, none⟩ 1 1 [.string (s.extract f s.size)] rfl rfl (cell_one_new _ _ _) (by intro u hu; simp at hu; subst hu; rfl) (by unfold maxLen; omega) (by omega) (by simp; omega) ?_))
      intro v' w2 hown3 hgrow _
      rw [strCells_snoc] at hown3
      have hb2 : Below w.heap.size w w2 := (hb.alloc hbs _).grown hgrow (by simp; omega) (fun j hj => (hown2.lt j hj).1)
      clear hown2 hgrow hb
      go_wp2
      go_ret
      exact ⟨_, rfl, by rw [HS.out]; simpa using hown3, hb2⟩

theorem splitB_ne (s : ByteArray) (c : Nat) : ∃ n, (splitB s c).length = n + 1 := ⟨(splitTo s c s.size).1.length, by simp [splitB]⟩

set_option maxRecDepth 10000 in
set_option maxHeartbeats 400000 in
theorem specHost_any (s : ByteArray) (w : World) :
    Calls Tryd.prog 65 #[.string s] w fun e w' => e = .returned (.bool (hostB s)) ∧ Below w.heap.size w w' := by
  by_cases h1 : 100 < s.size
  · go_enter Tryd.func65, Tryd.ntmps65
    go_wp2
    go_ret
    exact ⟨ret_bool (hostB_size h1).symm, Below.refl _ _⟩
  have HA : Hid ((∀ k (h : k < (splitB s 46).length), labelB ((splitB s 46)[k]) = false → hostB s = false) ∧ ((∀ k (h : k < (splitB s 46).length), labelB ((splitB s 46)[k]) = true) → hostB s = decide ((splitB s 46).length ≤ 6))) :=
    ⟨fun k h hl => hostB_at k h hl, fun h => hostB_all (by omega) h⟩
  have hn := splitB_len s 46
  obtain ⟨n, hn1⟩ := splitB_ne s 46
  have HC : Hid (∀ W, Calls Tryd.prog 79 #[.string s, .int .u8 46] W fun e w' => ∃ v, e = .returned v ∧ w'.ownsRow W.heap.size 9 1 v (splitB s 46).length (strCells (splitB s 46)) ∧ Below W.heap.size W w') := fun W => split_any s 46 W (by omega)
  generalize splitB s 46 = L at *
  go_enter Tryd.func65, Tryd.ntmps65
  go_wp2_with fail
  refine (HC.out _).mono ?_
  rintro e w1 ⟨v, rfl, hown, hb⟩
  rw [hn1] at hown
  obtain ⟨g, cap, rfl⟩ := own_shape hown
  have hL : n + 1 ≤ 101 := by omega
  have hcell : ∀ k (h : k < L.length), w1.cell? ⟨g, k, none⟩ = some (.string L[k]) := by
    intro k hk
    rw [hown.cellAt k (by omega)]
    simp [strCells, hk]
  have HN : Hid (L.length = n + 1) := hn1
  clear hn1 hn hown
  go_wp2
  go_loop [4] (fun i => ∃ k : Nat, k ≤ n + 1 ∧ i = .int .i64 k ∧ Hid (∀ j (h : j < L.length), j < k → labelB L[j] = true)) (fun i => n + 1 - (intOf i).toNat)
  case atStart => exact ⟨0, by omega, rfl, fun j _ hj => absurd hj (by omega)⟩
  case round =>
    obtain ⟨k, hk, rfl, HR⟩ := hrel
    by_cases hlt : k < n + 1
    · have hkl : k < L.length := by rw [HN.out]; exact hlt
      have hck := hcell k hkl
      cases hlab : labelB L[k] with
      | true =>
        have HC2 : Hid (∀ W, Calls Tryd.prog 80 #[.string L[k]] W fun e w' => e = .returned (.bool true) ∧ w' = W) := fun W => by rw [← hlab]; exact specLabel_any L[k] W
        have HL : Hid (labelB L[k] = true) := hlab
        clear hlab hcell
        generalize hx : L[k] = x at *
        have HX : Hid (L[k] = x) := hx
        clear hx
        go_wp2_with (go_at_call 80; refine (HC2.out _).mono ?_; rintro e w2 ⟨rfl, rfl⟩)
        go_round
        case rel =>
          refine ⟨k + 1, by omega, by go_num, ?_⟩
          intro j hj hjk
          by_cases e : j = k
          · subst e; rw [HX.out]; exact HL.out
          · exact HR.out j hj (by omega)
        case measure => simp [intOf]; omega
      | false =>
        have HC2 : Hid (∀ W, Calls Tryd.prog 80 #[.string L[k]] W fun e w' => e = .returned (.bool false) ∧ w' = W) := fun W => by rw [← hlab]; exact specLabel_any L[k] W
        have HF : Hid (hostB s = false) := HA.out.1 k hkl hlab
        clear hlab hcell
        generalize L[k] = x at *
        go_wp2_with (go_at_call 80; refine (HC2.out _).mono ?_; rintro e w2 ⟨rfl, rfl⟩)
        go_ret
        exact ⟨ret_bool HF.out.symm, hb⟩
    · have HF : Hid (hostB s = decide (((n + 1 : Nat) : Int) ≤ 6)) := by
        show _ = _
        rw [HA.out.2 (fun j hj => HR.out j hj (by have := HN.out; omega)), HN.out]
        congr 1
        exact propext ⟨fun h => by omega, fun h => by omega⟩
      clear hcell
      go_wp2
      go_ret
      exact ⟨ret_bool (by rw [HF.out]; simp), hb⟩
end Go.Proofs.YtclpamjgglfljaaDoor

/- Run equations at rows of bytes that a call makes itself: make, copy from a text, string of a row: each stated at whatever program; the world behind is a letter of which the row and Below are known. -/
namespace Go.Proofs.YtclpamjgglfljaaDoor
open Go.RowKit

theorem infoU8 : (Tryd.prog.info? 5).map (fun i => (i.zero, i.size, i.bytes)) = some (some (.int .u8 0), 1, 1) := by kernel_rfl
theorem sizeU8 : (Tryd.prog.info? 5).map (·.size) = some 1 := by kernel_rfl

/-- the block g holds the cells L, none of them frozen -/
def RowAt (w : World) (g : Nat) (t : TypeId) (L : List Value) : Prop := w.heap[g]? = some (.cells L.toArray t (0, 0))

theorem make_row {P : Program} (w : World) (t e : TypeId) (z : Value) (h1 : P.underlying t = some (.slice e))
    (hi : (P.info? e).map (fun i => (i.zero, i.size, i.bytes)) = some (some z, 1, 1)) (L : Int) (n : Nat) (hL : L = (n : Int)) (b2 : n ≤ 281474976710656) :
    ∃ w' Z, Sem.run P (Instr.makeSlice t (.int .i64 L) (.int .i64 L)) w = .ok (.slice (some ⟨w.heap.size, 0, none⟩) n n) w' ∧
      RowAt w' w.heap.size e Z ∧ Z.length = n ∧ w'.heap.size = w.heap.size + 1 ∧ Below w.heap.size w w' := by
  obtain ⟨i, h2, h3, h4, h5⟩ := info_parts hi
  subst hL
  have hrun := run_make (P := P) w t e i z h1 h2 h3 .i64 .i64 n n (by omega) (Int.le_refl _) (by rw [h5]; omega) (by omega)
  simp only [Int.toNat_natCast, h4, Nat.mul_one] at hrun
  refine ⟨_, (madeCells z.cells n).toList, hrun, ?_, by simp [size_madeCells], by simp, (Below.refl _ _).alloc (Nat.le_refl _) _⟩
  unfold RowAt; rw [heap_alloc_new]

theorem copy_text {P : Program} (w : World) (dT sT ty elem : TypeId) (hu : P.underlying dT = some (.slice elem)) (hsz : (P.info? elem).map (·.size) = some 1)
    (dp : Option Addr) (dLen dCap : Nat) (x : ByteArray) (hle : x.size ≤ dLen)
    (g off : Nat) (cur : List Value) (t : TypeId) (hg : RowAt w g t cur) (hpos : 0 < x.size → dp = some ⟨g, off, none⟩)
    (hfit : off + x.size ≤ cur.length) :
    ∃ w', Sem.run P (Builtin.copy_ #[dT, sT] ty #[.slice dp dLen dCap, .string x]) w = .ok (goInt x.size) w' ∧
      RowAt w' g t (splice cur off (Lib.byteCells x.data.toList)) ∧ w'.heap.size = w.heap.size ∧ (∀ B w0, Below B w0 w → B ≤ g → Below B w0 w') := by
  by_cases h0 : x.size = 0
  · have hrun := Lib.run_copy_empty_string (P := P) w dT sT ty elem dp dLen dCap x hu (by rw [Option.isSome_iff_exists]; exact ⟨1, hsz⟩) h0
    have hnil : x.data.toList = [] := List.eq_nil_of_length_eq_zero (by rw [← Lib.size_eq]; exact h0)
    exact ⟨w, by rw [hrun, h0]; rfl, by rw [hnil]; simpa [splice, Lib.byteCells] using hg, rfl, fun _ _ h _ => h⟩
  · obtain rfl := hpos (by omega)
    have hrun := Lib.run_copy_row_string (P := P) w dT sT ty elem g off dLen dCap x cur.toArray t hu hsz hg hle (by simpa using hfit)
    refine ⟨_, hrun, ?_, by simp [World.setRow], fun B w0 hb hBg => below_setRow hb hBg _⟩
    have := setRow_heap w g _ (List.take off cur ++ (Lib.byteCells x.data.toList ++ List.drop (off + x.size) cur)).toArray t _ hg
    have hl : (Lib.byteCells x.data.toList).length = x.size := by rw [Lib.byteCells_length, ← Lib.size_eq]
    unfold RowAt splice
    rw [hl]
    simpa using this

theorem row_cell {w : World} {g : Nat} {t : TypeId} {L : List Value} (hg : RowAt w g t L) (j : Nat) : w.cell? ⟨g, j, none⟩ = L[j]? := by
  simp [World.cell?, RowAt] at *
  rw [hg]; simp

/-- string(b), b the first n cells of a row whose first cells are the bytes l -/
theorem text_of_row {P : Program} (w : World) (src dst e : TypeId) (hs : P.underlying src = some (.slice e)) (he : P.underlying e = some (.int .u8)) (hd : P.underlying dst = some .string)
    (g n cap : Nat) (t : TypeId) (l : List UInt8) (more : List Value) (hg : RowAt w g t (Lib.byteCells l ++ more)) (hn : l.length = n) :
    Sem.run P (convert src dst (.slice (some ⟨g, 0, none⟩) n cap)) w = .ok (.string ⟨l.toArray⟩) w := by
  subst hn
  refine run_convert_bytes_back (P := P) w src dst e ⟨g, 0, none⟩ cap l hs he hd ?_
  intro j hj
  have ha : (⟨g, 0, none⟩ : Addr).add j = ⟨g, j, none⟩ := by
    unfold Addr.add; split
    · rename_i h; subst h; rfl
    · simp
  rw [ha, row_cell hg, List.getElem?_append_left (by rw [Lib.byteCells_length]; exact hj)]
  simp [Lib.byteCells, hj]

theorem splice_two {α : Type} (Z X Y : List α) (h : Z.length = X.length + Y.length) : splice (splice Z 0 X) X.length Y = X ++ Y := by
  unfold splice
  simp
  omega
theorem byteCells_append (a b : List UInt8) : Lib.byteCells (a ++ b) = Lib.byteCells a ++ Lib.byteCells b := by simp [Lib.byteCells]
theorem text_append (x y : ByteArray) : (⟨(x.data.toList ++ y.data.toList).toArray⟩ : ByteArray) = x ++ y := by
  apply ByteArray.ext; simp
theorem size_list (l : List UInt8) : (⟨l.toArray⟩ : ByteArray).size = l.length := rfl
theorem len_cells (x : ByteArray) : (Lib.byteCells x.data.toList).length = x.size := by rw [Lib.byteCells_length, ← Lib.size_eq]
end Go.Proofs.YtclpamjgglfljaaDoor

/- A number's digits, as a plain function. -/
namespace Go.Proofs.YtclpamjgglfljaaDoor
open Go.RowKit
/-- the digits of m, none of 0; f: more than enough rounds -/
def decF : Nat → Nat → List UInt8
  | 0, _ => []
  | f + 1, m => if m = 0 then [] else decF f (m / 10) ++ [UInt8.ofNat (48 + m % 10)]
def decA (m : Nat) : List UInt8 := decF m m
theorem decF_enough (f : Nat) : ∀ g m, m ≤ f → m ≤ g → decF f m = decF g m := by
  induction f with
  | zero =>
    intro g m hf _
    obtain rfl : m = 0 := by omega
    cases g with
    | zero => rfl
    | succ g => rw [decF, decF, if_pos rfl]
  | succ f ih =>
    intro g m hf hg
    cases g with
    | zero =>
      obtain rfl : m = 0 := by omega
      rw [decF, decF, if_pos rfl]
    | succ g =>
      rw [decF, decF]
      split
      · rfl
      · rw [ih g (m / 10) (by omega) (by omega)]
theorem decA_zero : decA 0 = [] := rfl
theorem decA_pos {m : Nat} (h : 0 < m) : decA m = decA (m / 10) ++ [UInt8.ofNat (48 + m % 10)] := by
  unfold decA
  cases m with
  | zero => omega
  | succ m => rw [decF, if_neg (by omega), decF_enough m ((m + 1) / 10) ((m + 1) / 10) (by omega) (by omega)]
theorem decA_len (k : Nat) : ∀ m, m < 10 ^ k → (decA m).length ≤ k := by
  induction k with
  | zero => intro m h; obtain rfl : m = 0 := by simpa using h
            exact Nat.le_refl _
  | succ k ih =>
    intro m h
    by_cases h0 : m = 0
    · subst h0; rw [decA_zero]; simp
    · rw [decA_pos (by omega)]
      have := ih (m / 10) (by rw [Nat.div_lt_iff_lt_mul (by omega)]; rw [Nat.pow_succ] at h; omega)
      simp; omega
theorem decA_twenty {m : Nat} (h : m ≤ 9223372036854775808) : (decA m).length ≤ 20 := decA_len 20 m (Nat.lt_of_le_of_lt h (by decide))
/-- the digits of a number, a sign ahead of one below 0 -/
def decB (n : Int) : ByteArray := if n = 0 then ⟨#[48]⟩ else if n < 0 then ⟨#[45]⟩ ++ ⟨(decA n.natAbs).toArray⟩ else ⟨(decA n.natAbs).toArray⟩
theorem dec_step {m m0 : Nat} {o : List UInt8} (h : decA m ++ o = decA m0) (hm : 0 < m) : decA (m / 10) ++ (UInt8.ofNat (48 + m % 10) :: o) = decA m0 := by
  rw [← h, decA_pos hm]; simp
theorem one_row (k : Nat) (w : World) (t : TypeId) (hk : k < 256) : RowAt (w.alloc (.cells #[.int .u8 (k : Int)] t)) w.heap.size t (Lib.byteCells [UInt8.ofNat k] ++ []) := by
  unfold RowAt; rw [heap_alloc_new]
  simp [Lib.byteCells]
  omega
theorem cons_text (b : UInt8) (o : List UInt8) : (⟨[b].toArray⟩ : ByteArray) ++ ⟨o.toArray⟩ = ⟨(b :: o).toArray⟩ := by
  apply ByteArray.ext; simp
end Go.Proofs.YtclpamjgglfljaaDoor

/- The walk of the specification's l01Dec: a number's digits. -/
namespace Go.Proofs.YtclpamjgglfljaaDoor
open Go.RowKit
end Go.Proofs.YtclpamjgglfljaaDoor

/- The walks of the specification's l02Place, UrlRight, l02Text and UrlText. -/
namespace Go.Proofs.YtclpamjgglfljaaDoor
open Go.RowKit

def schemeB (t : ByteArray) : Bool := (t.toList == [104, 116, 116, 112]) || (t.toList == [104, 116, 116, 112, 115])
def placeB (sc ho : ByteArray) (po : Int) : Bool := schemeB sc && hostB ho && (decide (1 ≤ po) && decide (po ≤ 65535))
def urlB (sc ho pa : ByteArray) (po : Int) : Bool := placeB sc ho po && pathB pa

set_option maxRecDepth 10000 in
set_option maxHeartbeats 400000 in
theorem specScheme_any (t : ByteArray) (w : World) :
    Calls Tryd.prog 67 #[.string t] w fun e w' => e = .returned (.bool (schemeB t)) ∧ w' = w := by
  unfold schemeB
  cases h : (t.toList == [104, 116, 116, 112]) <;>
  · go_enter Tryd.func67, Tryd.ntmps67
    go_wp2
    go_ret
    exact ⟨rfl, rfl⟩

set_option maxRecDepth 10000 in
set_option maxHeartbeats 400000 in
theorem specIs_any (n lo hi : Int) (w : World) :
    Calls Tryd.prog 42 #[.int .i64 n, .int .i64 lo, .int .i64 hi] w fun e w' => e = .returned (.bool (decide (lo ≤ n) && decide (n ≤ hi))) ∧ w' = w := by
  by_cases h : lo ≤ n
  · go_enter Tryd.func42, Tryd.ntmps42
    go_wp2
    go_ret
    exact ⟨ret_bool (by simp [h]), rfl⟩
  · have q : decide (lo ≤ n) = false := by rw [decide_eq_false_iff_not]; exact h
    go_enter Tryd.func42, Tryd.ntmps42
    go_wp2
    go_ret
    exact ⟨ret_bool (by simp), rfl⟩

set_option maxRecDepth 10000 in
set_option maxHeartbeats 400000 in
theorem specPlace_any (sc ho : ByteArray) (po : Int) (w : World) :
    Calls Tryd.prog 45 #[.string sc, .string ho, .int .i64 po] w fun e w' => e = .returned (.bool (placeB sc ho po)) ∧ Below w.heap.size w w' := by
  have H1 := fun W => specScheme_any sc W
  have H2 := fun W => specHost_any ho W
  have H3 := fun W => specIs_any po 1 65535 W
  have HP : Hid (placeB sc ho po = (schemeB sc && hostB ho && (decide (1 ≤ po) && decide (po ≤ 65535)))) := rfl
  generalize schemeB sc = b1 at *
  generalize hostB ho = b2 at *
  generalize (decide (1 ≤ po) && decide (po ≤ 65535)) = b3 at *
  have G1 : Hid (∀ W, Calls Tryd.prog 67 #[.string sc] W fun e w' => e = .returned (.bool b1) ∧ w' = W) := H1
  have G2 : Hid (∀ W, Calls Tryd.prog 65 #[.string ho] W fun e w' => e = .returned (.bool b2) ∧ Below W.heap.size W w') := H2
  have G3 : Hid (∀ W, Calls Tryd.prog 42 #[.int .i64 po, .int .i64 1, .int .i64 65535] W fun e w' => e = .returned (.bool b3) ∧ w' = W) := H3
  clear H1 H2 H3
  cases b1 with
  | false =>
    go_enter Tryd.func45, Tryd.ntmps45
    go_wp2_with (go_at_call 67; refine (G1.out _).mono ?_; rintro e w1 ⟨rfl, rfl⟩)
    go_ret
    exact ⟨ret_bool (by rw [HP.out]; rfl), Below.refl _ _⟩
  | true =>
    cases b2 with
    | false =>
      go_enter Tryd.func45, Tryd.ntmps45
      go_wp2_with (first | (go_at_call 67; refine (G1.out _).mono ?_; rintro e w1 ⟨rfl, rfl⟩) | (go_at_call 65; refine (G2.out _).mono ?_; rintro e w2 ⟨rfl, hb⟩))
      go_ret
      exact ⟨ret_bool (by rw [HP.out]; rfl), hb⟩
    | true =>
      go_enter Tryd.func45, Tryd.ntmps45
      go_wp2_with (first | (go_at_call 67; refine (G1.out _).mono ?_; rintro e w1 ⟨rfl, rfl⟩) | (go_at_call 65; refine (G2.out _).mono ?_; rintro e w2 ⟨rfl, hb⟩) | (go_at_call 42; refine (G3.out _).mono ?_; rintro e w3 ⟨rfl, rfl⟩))
      go_ret
      exact ⟨ret_bool (by rw [HP.out]; rfl), hb⟩

/-- a Url, as a value -/
def urlV (sc ho pa : ByteArray) (po : Int) : Value := .agg #[.string sc, .string ho, .int .i64 po, .string pa]

set_option maxRecDepth 10000 in
set_option maxHeartbeats 400000 in
theorem specUrlRight_any (sc ho pa : ByteArray) (po : Int) (w : World) :
    Calls Tryd.prog 26 #[urlV sc ho pa po] w fun e w' => e = .returned (.bool (urlB sc ho pa po)) ∧ Below w.heap.size w w' := by
  have H1 := fun W => specPlace_any sc ho po W
  have H2 := fun W => specPath_any pa W
  have HP : Hid (urlB sc ho pa po = (placeB sc ho po && pathB pa)) := rfl
  generalize placeB sc ho po = b1 at *
  generalize pathB pa = b2 at *
  have G1 : Hid (∀ W, Calls Tryd.prog 45 #[.string sc, .string ho, .int .i64 po] W fun e w' => e = .returned (.bool b1) ∧ Below W.heap.size W w') := H1
  have G2 : Hid (∀ W, Calls Tryd.prog 46 #[.string pa] W fun e w' => e = .returned (.bool b2) ∧ w' = W) := H2
  clear H1 H2
  unfold urlV
  cases b1 with
  | false =>
    go_enter Tryd.func26, Tryd.ntmps26
    go_wp2_with fail
    refine (G1.out _).mono ?_
    rintro e w1 ⟨rfl, hb⟩
    go_wp2
    go_ret
    exact ⟨ret_bool (by rw [HP.out]; rfl), ((Below.refl _ _).alloc (Nat.le_refl _) _).trans (hb.mono (by simp))⟩
  | true =>
    go_enter Tryd.func26, Tryd.ntmps26
    go_wp2_with fail
    refine (G1.out _).mono ?_
    rintro e w1 ⟨rfl, hb⟩
    have hc3 : w1.cell? ⟨w.heap.size, 3, none⟩ = some (.string pa) := by rw [(bcell hb).1 _ _ (by simp)]; simp
    go_wp2_with (go_at_call 46; refine (G2.out _).mono ?_; rintro e w2 ⟨rfl, rfl⟩)
    go_ret
    exact ⟨ret_bool (by rw [HP.out]; rfl), ((Below.refl _ _).alloc (Nat.le_refl _) _).trans (hb.mono (by simp))⟩

def usualP (sc : ByteArray) : Int := if (sc.toList == [104, 116, 116, 112, 115]) = true then 443 else 80
/-- the text of a place -/
def placeT (sc ho : ByteArray) (po : Int) : ByteArray := if po = usualP sc then sc ++ ⟨#[58, 47, 47]⟩ ++ ho else sc ++ ⟨#[58, 47, 47]⟩ ++ ho ++ ⟨#[58]⟩ ++ decB po


theorem decB_size {n : Int} (h1 : -9223372036854775808 ≤ n) (h2 : n ≤ 9223372036854775807) : (decB n).size ≤ 21 := by
  unfold decB
  split
  · exact (by decide : 1 ≤ 21)
  · split
    · have := decA_twenty (m := n.natAbs) (by omega)
      rw [ByteArray.size_append]
      show 1 + (decA n.natAbs).length ≤ 21
      omega
    · have := decA_twenty (m := n.natAbs) (by omega)
      show (decA n.natAbs).length ≤ 21
      omega

end Go.Proofs.YtclpamjgglfljaaDoor

/- The walk of the specification's UrlText. -/
namespace Go.Proofs.YtclpamjgglfljaaDoor
open Go.RowKit

/-- the text of a right url, else the empty one -/
def urlT (sc ho pa : ByteArray) (po : Int) : ByteArray := if urlB sc ho pa po = true then placeT sc ho po ++ pa else ⟨#[]⟩
theorem schemeB_size {t : ByteArray} (h : schemeB t = true) : t.size ≤ 5 := by
  have hl : t.size = t.toList.length := by rw [ByteArray.toList_eq]; rfl
  unfold schemeB at h
  rw [Bool.or_eq_true, beq_iff_eq, beq_iff_eq] at h
  rcases h with h | h <;> rw [hl, h] <;> decide
theorem urlB_parts {sc ho pa : ByteArray} {po : Int} (h : urlB sc ho pa po = true) : sc.size ≤ 5 ∧ ho.size ≤ 100 ∧ 1 ≤ po ∧ po ≤ 65535 ∧ pa.size ≤ 40 := by
  unfold urlB placeB at h
  simp only [Bool.and_eq_true, decide_eq_true_eq] at h
  obtain ⟨⟨⟨h1, h2⟩, h3, h4⟩, h5⟩ := h
  refine ⟨schemeB_size h1, ?_, h3, h4, ?_⟩
  · by_cases hz : 100 < ho.size
    · rw [hostB_size hz] at h2; cases h2
    · omega
  · by_cases hz : 40 < pa.size
    · rw [pathB_size (.inr hz)] at h5; cases h5
    · omega
theorem placeT_size {sc ho : ByteArray} {po : Int} (h1 : sc.size ≤ 5) (h2 : ho.size ≤ 100) (h3 : 1 ≤ po) (h4 : po ≤ 65535) : (placeT sc ho po).size ≤ 200 := by
  have hd := decB_size (n := po) (by omega) (by omega)
  have e1 : (⟨#[58, 47, 47]⟩ : ByteArray).size = 3 := rfl
  have e2 : (⟨#[58]⟩ : ByteArray).size = 1 := rfl
  unfold placeT
  split
  · rw [ByteArray.size_append, ByteArray.size_append]; omega
  · rw [ByteArray.size_append, ByteArray.size_append, ByteArray.size_append, ByteArray.size_append]; omega

end Go.Proofs.YtclpamjgglfljaaDoor

/- What the laws over a Url do besides their two calls: its size is looked at, and it is handed on field by field. -/
namespace Go.Proofs.YtclpamjgglfljaaDoor
open Go.RowKit

set_option maxRecDepth 10000 in
set_option maxHeartbeats 400000 in
theorem szUrl_any (sc ho pa : ByteArray) (po : Int) (w : World) (h1 : sc.size ≤ maxLen) (h2 : ho.size ≤ maxLen) (h3 : pa.size ≤ maxLen) :
    Calls Tryd.prog 7 #[urlV sc ho pa po, .int .i64 1048576] w fun e w' => (∃ r : Int, e = .returned (.int .i64 r) ∧ (r < 0 ∨ (0 ≤ r ∧ sc.size + ho.size + pa.size ≤ 1048576))) ∧ Below w.heap.size w w' := by
  unfold maxLen at h1 h2 h3
  unfold urlV
  by_cases c1 : 1048576 < sc.size
  · have q1 : (1048576 : Int) - (sc.size : Int) < 0 := by omega
    go_enter Tryd.func7, Tryd.ntmps7
    go_wp2
    go_ret
    exact ⟨⟨-1, rfl, .inl (by omega)⟩, (Below.refl _ _).alloc (Nat.le_refl _) _⟩
  have q1 : decide ((1048576 : Int) - (sc.size : Int) < 0) = false := by rw [decide_eq_false_iff_not]; omega
  by_cases c2 : 1048576 < sc.size + ho.size
  · have q2 : (1048576 : Int) - (sc.size : Int) - (ho.size : Int) < 0 := by omega
    go_enter Tryd.func7, Tryd.ntmps7
    go_wp2
    go_ret
    exact ⟨⟨-1, rfl, .inl (by omega)⟩, (Below.refl _ _).alloc (Nat.le_refl _) _⟩
  have q2 : decide ((1048576 : Int) - (sc.size : Int) - (ho.size : Int) < 0) = false := by rw [decide_eq_false_iff_not]; omega
  by_cases c3 : 1048576 < sc.size + ho.size + pa.size
  · have q3 : (1048576 : Int) - (sc.size : Int) - (ho.size : Int) - (pa.size : Int) < 0 := by omega
    go_enter Tryd.func7, Tryd.ntmps7
    go_wp2
    go_ret
    exact ⟨⟨-1, rfl, .inl (by omega)⟩, (Below.refl _ _).alloc (Nat.le_refl _) _⟩
  have q3 : decide ((1048576 : Int) - (sc.size : Int) - (ho.size : Int) - (pa.size : Int) < 0) = false := by rw [decide_eq_false_iff_not]; omega
  go_enter Tryd.func7, Tryd.ntmps7
  go_wp2
  go_ret
  exact ⟨⟨(1048576 : Int) - (sc.size : Int) - (ho.size : Int) - (pa.size : Int), rfl, .inr ⟨by omega, by omega⟩⟩, (Below.refl _ _).alloc (Nat.le_refl _) _⟩

set_option maxRecDepth 10000 in
set_option maxHeartbeats 400000 in
theorem toUrl_any (sc ho pa : ByteArray) (po : Int) (w : World) :
    Calls Tryd.prog 11 #[urlV sc ho pa po] w fun e w' => e = .returned (urlV sc ho pa po) ∧ Below w.heap.size w w' := by
  have HV : Hid (urlV sc ho pa po = .agg #[.string sc, .string ho, .int .i64 po, .string pa]) := rfl
  rw [HV.out]
  go_enter Tryd.func11, Tryd.ntmps11
  go_wp2
  exact bodyPost_ret (v := .agg #[.string sc, .string ho, .int .i64 po, .string pa]) (by simp [results, Tryd.results11, go_sem]) rfl ⟨rfl, (((Below.refl _ _).alloc (Nat.le_refl _) _).alloc (by simp) _).alloc (by simp; omega) _⟩
end Go.Proofs.YtclpamjgglfljaaDoor

/- The size of a Url against what is left; texts' sizes. -/
namespace Go.Proofs.YtclpamjgglfljaaDoor
open Go.RowKit

set_option maxRecDepth 10000 in
set_option maxHeartbeats 400000 in
theorem szUrl_at (sc ho pa : ByteArray) (po l : Int) (w : World) (h1 : sc.size ≤ maxLen) (h2 : ho.size ≤ maxLen) (h3 : pa.size ≤ maxLen) (l0 : 0 ≤ l) (l1 : l ≤ 1048576) :
    Calls Tryd.prog 7 #[.agg #[.string sc, .string ho, .int .i64 po, .string pa], .int .i64 l] w fun e w' => (∃ r : Int, e = .returned (.int .i64 r) ∧ (r < 0 ∨ (0 ≤ r ∧ r ≤ 1048576 ∧ sc.size + ho.size + pa.size ≤ 1048576))) ∧ Below w.heap.size w w' := by
  unfold maxLen at h1 h2 h3
  by_cases c1 : l < sc.size
  · have q1 : l - (sc.size : Int) < 0 := by omega
    go_enter Tryd.func7, Tryd.ntmps7
    go_wp2
    go_ret
    exact ⟨⟨-1, rfl, .inl (by omega)⟩, (Below.refl _ _).alloc (Nat.le_refl _) _⟩
  have q1 : decide (l - (sc.size : Int) < 0) = false := by rw [decide_eq_false_iff_not]; omega
  by_cases c2 : l < sc.size + ho.size
  · have q2 : l - (sc.size : Int) - (ho.size : Int) < 0 := by omega
    go_enter Tryd.func7, Tryd.ntmps7
    go_wp2
    go_ret
    exact ⟨⟨-1, rfl, .inl (by omega)⟩, (Below.refl _ _).alloc (Nat.le_refl _) _⟩
  have q2 : decide (l - (sc.size : Int) - (ho.size : Int) < 0) = false := by rw [decide_eq_false_iff_not]; omega
  by_cases c3 : l < sc.size + ho.size + pa.size
  · have q3 : l - (sc.size : Int) - (ho.size : Int) - (pa.size : Int) < 0 := by omega
    go_enter Tryd.func7, Tryd.ntmps7
    go_wp2
    go_ret
    exact ⟨⟨-1, rfl, .inl (by omega)⟩, (Below.refl _ _).alloc (Nat.le_refl _) _⟩
  have q3 : decide (l - (sc.size : Int) - (ho.size : Int) - (pa.size : Int) < 0) = false := by rw [decide_eq_false_iff_not]; omega
  go_enter Tryd.func7, Tryd.ntmps7
  go_wp2
  go_ret
  exact ⟨⟨l - (sc.size : Int) - (ho.size : Int) - (pa.size : Int), rfl, .inr ⟨by omega, by omega, by omega⟩⟩, (Below.refl _ _).alloc (Nat.le_refl _) _⟩
end Go.Proofs.YtclpamjgglfljaaDoor

/- What the laws do with a Frame besides their calls: its size is looked at, it is handed on field by field, two are held against each other. -/
namespace Go.Proofs.YtclpamjgglfljaaDoor
open Go.RowKit

theorem cell_under9 (w : World) (o : Obj) (b k : Nat) (h : b < w.heap.size) : (w.alloc o).cell? ⟨b, k, none⟩ = w.cell? ⟨b, k, none⟩ := (bcell ((Below.refl _ w).alloc (Nat.le_refl _) o)).1 _ _ h
theorem frozen_under9 (w : World) (o : Obj) (b k : Nat) (h : b < w.heap.size) : (w.alloc o).frozen? ⟨b, k, none⟩ = w.frozen? ⟨b, k, none⟩ := (bcell ((Below.refl _ w).alloc (Nat.le_refl _) o)).2 _ _ h
set_option maxRecDepth 10000 in
set_option maxHeartbeats 1000000 in
theorem eqUrl9_any (x0 : ByteArray) (x1 : ByteArray) (x2 : Int) (x3 : ByteArray) (w : World) :
    Calls Tryd.prog 63 #[.agg #[.string x0, .string x1, .int .i64 x2, .string x3], .agg #[.string x0, .string x1, .int .i64 x2, .string x3]] w fun e w' => e = .returned (.bool true) ∧ Below w.heap.size w w' := by
  go_enter Tryd.func63, Tryd.ntmps63
  go_wp2
  go_ret
  exact ⟨rfl, ((Below.refl _ _).alloc (Nat.le_refl _) _).alloc (by simp) _⟩
set_option maxRecDepth 10000 in
set_option maxHeartbeats 1000000 in
theorem szFrame_at (x0 x1 : Int) (x2 x3 : ByteArray) (x4 : Int) (x5 : ByteArray) (x6 x7 : Bool) (x8 : Int) (l : Int) (w : World) (h2 : x2.size ≤ maxLen) (h3 : x3.size ≤ maxLen) (h5 : x5.size ≤ maxLen) (l0 : 0 ≤ l) (l1 : l ≤ 1048576) :
    Calls Tryd.prog 22 #[.agg #[.int .i64 x0, .int .i64 x1, .string x2, .string x3, .int .i64 x4, .string x5, .bool x6, .bool x7, .int .i64 x8], .int .i64 l] w fun e w' => (∃ r : Int, e = .returned (.int .i64 r) ∧ (r < 0 ∨ (0 ≤ r ∧ r ≤ 1048576 ∧ x2.size + x3.size + x5.size ≤ 1048576))) ∧ Below w.heap.size w w' := by
  have KZ : Hid (∀ W, Calls Tryd.prog 7 #[.agg #[.string x2, .string x3, .int .i64 x4, .string x5], .int .i64 l] W fun e w' => (∃ r : Int, e = .returned (.int .i64 r) ∧ (r < 0 ∨ (0 ≤ r ∧ r ≤ 1048576 ∧ x2.size + x3.size + x5.size ≤ 1048576))) ∧ Below W.heap.size W w') := fun W => szUrl_at x2 x3 x5 x4 l W h2 h3 h5 l0 l1
  clear h2 h3 h5
  go_enter Tryd.func22, Tryd.ntmps22
  go_wp2_with fail
  refine (KZ.out _).mono ?_
  rintro e w1 ⟨⟨r, rfl, hr⟩, hb1⟩
  have B1 : Hid (Below w.heap.size w w1) := (((Below.refl _ _).alloc (Nat.le_refl _) _).trans (hb1.mono (by simp)))
  clear hb1
  rcases hr with hr | ⟨r0, r1, hsum⟩
  · have q2 : decide (r < 0) = true := by rw [decide_eq_true_iff]; exact hr
    go_wp2
    go_ret
    exact ⟨⟨_, rfl, .inl (by decide)⟩, B1.out⟩
  · have q2 : decide (r < 0) = false := by rw [decide_eq_false_iff_not]; omega
    go_wp2
    go_ret
    exact ⟨⟨_, rfl, .inr ⟨r0, r1, hsum⟩⟩, B1.out⟩
set_option maxRecDepth 10000 in
set_option maxHeartbeats 1000000 in
theorem toFrame_any (x0 x1 : Int) (x2 x3 : ByteArray) (x4 : Int) (x5 : ByteArray) (x6 x7 : Bool) (x8 : Int) (w : World) :
    Calls Tryd.prog 28 #[.agg #[.int .i64 x0, .int .i64 x1, .string x2, .string x3, .int .i64 x4, .string x5, .bool x6, .bool x7, .int .i64 x8]] w fun e w' => e = .returned (.agg #[.int .i64 x0, .int .i64 x1, .string x2, .string x3, .int .i64 x4, .string x5, .bool x6, .bool x7, .int .i64 x8]) ∧ Below w.heap.size w w' := by
  have KT : Hid (∀ W, Calls Tryd.prog 11 #[.agg #[.string x2, .string x3, .int .i64 x4, .string x5]] W fun e w' => e = .returned (.agg #[.string x2, .string x3, .int .i64 x4, .string x5]) ∧ Below W.heap.size W w') := fun W => toUrl_any x2 x3 x5 x4 W
  go_enter Tryd.func28, Tryd.ntmps28
  go_wp2_with fail
  refine (KT.out _).mono ?_
  rintro e w1 ⟨rfl, hb1⟩
  obtain ⟨W2, hW2⟩ : ∃ W2, W2 = ((w.alloc (.cells #[.int .i64 x0, .int .i64 x1, .string x2, .string x3, .int .i64 x4, .string x5, .bool x6, .bool x7, .int .i64 x8] 47)).alloc (.cells #[.int .i64 0, .int .i64 0, .string ⟨#[]⟩, .string ⟨#[]⟩, .int .i64 0, .string ⟨#[]⟩, .bool false, .bool false, .int .i64 0] 54)) := ⟨_, rfl⟩
  rw [← hW2] at hb1
  have hs2 : W2.heap.size = w.heap.size + 1 + 1 := by rw [hW2]; simp
  have a6 : W2.cell? ⟨w.heap.size, 6, none⟩ = some (.bool x6) := by rw [hW2]; exact (cell_under9 _ _ _ _ (by simp)).trans (by simp)
  have a6 : w1.cell? ⟨w.heap.size, 6, none⟩ = some (.bool x6) := ((bcell hb1).1 _ _ (by simp; omega)).trans ((cell_under9 _ _ _ _ (by omega)).trans a6)
  have a7 : W2.cell? ⟨w.heap.size, 7, none⟩ = some (.bool x7) := by rw [hW2]; exact (cell_under9 _ _ _ _ (by simp)).trans (by simp)
  have a7 : w1.cell? ⟨w.heap.size, 7, none⟩ = some (.bool x7) := ((bcell hb1).1 _ _ (by simp; omega)).trans ((cell_under9 _ _ _ _ (by omega)).trans a7)
  have a8 : W2.cell? ⟨w.heap.size, 8, none⟩ = some (.int .i64 x8) := by rw [hW2]; exact (cell_under9 _ _ _ _ (by simp)).trans (by simp)
  have a8 : w1.cell? ⟨w.heap.size, 8, none⟩ = some (.int .i64 x8) := ((bcell hb1).1 _ _ (by simp; omega)).trans ((cell_under9 _ _ _ _ (by omega)).trans a8)
  have r0 : W2.cell? ⟨w.heap.size + 1, 0, none⟩ = some (.int .i64 0) := by rw [hW2]; exact (World.cell?_alloc_at _ _ _ _ (by simp)).trans rfl
  have r0 : w1.cell? ⟨w.heap.size + 1, 0, none⟩ = some (.int .i64 0) := ((bcell hb1).1 _ _ (by simp; omega)).trans ((cell_under9 _ _ _ _ (by omega)).trans r0)
  have s0 : W2.frozen? ⟨w.heap.size + 1, 0, none⟩ = false := by rw [hW2]; rw [show w.heap.size + 1 = (w.alloc (.cells #[.int .i64 x0, .int .i64 x1, .string x2, .string x3, .int .i64 x4, .string x5, .bool x6, .bool x7, .int .i64 x8] 47)).heap.size by simp]; simp
  have s0 : w1.frozen? ⟨w.heap.size + 1, 0, none⟩ = false := ((bcell hb1).2 _ _ (by simp; omega)).trans ((frozen_under9 _ _ _ _ (by omega)).trans s0)
  have r1 : W2.cell? ⟨w.heap.size + 1, 1, none⟩ = some (.int .i64 0) := by rw [hW2]; exact (World.cell?_alloc_at _ _ _ _ (by simp)).trans rfl
  have r1 : w1.cell? ⟨w.heap.size + 1, 1, none⟩ = some (.int .i64 0) := ((bcell hb1).1 _ _ (by simp; omega)).trans ((cell_under9 _ _ _ _ (by omega)).trans r1)
  have s1 : W2.frozen? ⟨w.heap.size + 1, 1, none⟩ = false := by rw [hW2]; rw [show w.heap.size + 1 = (w.alloc (.cells #[.int .i64 x0, .int .i64 x1, .string x2, .string x3, .int .i64 x4, .string x5, .bool x6, .bool x7, .int .i64 x8] 47)).heap.size by simp]; simp
  have s1 : w1.frozen? ⟨w.heap.size + 1, 1, none⟩ = false := ((bcell hb1).2 _ _ (by simp; omega)).trans ((frozen_under9 _ _ _ _ (by omega)).trans s1)
  have r2 : W2.cell? ⟨w.heap.size + 1, 2, none⟩ = some (.string ⟨#[]⟩) := by rw [hW2]; exact (World.cell?_alloc_at _ _ _ _ (by simp)).trans rfl
  have r2 : w1.cell? ⟨w.heap.size + 1, 2, none⟩ = some (.string ⟨#[]⟩) := ((bcell hb1).1 _ _ (by simp; omega)).trans ((cell_under9 _ _ _ _ (by omega)).trans r2)
  have s2 : W2.frozen? ⟨w.heap.size + 1, 2, none⟩ = false := by rw [hW2]; rw [show w.heap.size + 1 = (w.alloc (.cells #[.int .i64 x0, .int .i64 x1, .string x2, .string x3, .int .i64 x4, .string x5, .bool x6, .bool x7, .int .i64 x8] 47)).heap.size by simp]; simp
  have s2 : w1.frozen? ⟨w.heap.size + 1, 2, none⟩ = false := ((bcell hb1).2 _ _ (by simp; omega)).trans ((frozen_under9 _ _ _ _ (by omega)).trans s2)
  have r3 : W2.cell? ⟨w.heap.size + 1, 3, none⟩ = some (.string ⟨#[]⟩) := by rw [hW2]; exact (World.cell?_alloc_at _ _ _ _ (by simp)).trans rfl
  have r3 : w1.cell? ⟨w.heap.size + 1, 3, none⟩ = some (.string ⟨#[]⟩) := ((bcell hb1).1 _ _ (by simp; omega)).trans ((cell_under9 _ _ _ _ (by omega)).trans r3)
  have s3 : W2.frozen? ⟨w.heap.size + 1, 3, none⟩ = false := by rw [hW2]; rw [show w.heap.size + 1 = (w.alloc (.cells #[.int .i64 x0, .int .i64 x1, .string x2, .string x3, .int .i64 x4, .string x5, .bool x6, .bool x7, .int .i64 x8] 47)).heap.size by simp]; simp
  have s3 : w1.frozen? ⟨w.heap.size + 1, 3, none⟩ = false := ((bcell hb1).2 _ _ (by simp; omega)).trans ((frozen_under9 _ _ _ _ (by omega)).trans s3)
  have r4 : W2.cell? ⟨w.heap.size + 1, 4, none⟩ = some (.int .i64 0) := by rw [hW2]; exact (World.cell?_alloc_at _ _ _ _ (by simp)).trans rfl
  have r4 : w1.cell? ⟨w.heap.size + 1, 4, none⟩ = some (.int .i64 0) := ((bcell hb1).1 _ _ (by simp; omega)).trans ((cell_under9 _ _ _ _ (by omega)).trans r4)
  have s4 : W2.frozen? ⟨w.heap.size + 1, 4, none⟩ = false := by rw [hW2]; rw [show w.heap.size + 1 = (w.alloc (.cells #[.int .i64 x0, .int .i64 x1, .string x2, .string x3, .int .i64 x4, .string x5, .bool x6, .bool x7, .int .i64 x8] 47)).heap.size by simp]; simp
  have s4 : w1.frozen? ⟨w.heap.size + 1, 4, none⟩ = false := ((bcell hb1).2 _ _ (by simp; omega)).trans ((frozen_under9 _ _ _ _ (by omega)).trans s4)
  have r5 : W2.cell? ⟨w.heap.size + 1, 5, none⟩ = some (.string ⟨#[]⟩) := by rw [hW2]; exact (World.cell?_alloc_at _ _ _ _ (by simp)).trans rfl
  have r5 : w1.cell? ⟨w.heap.size + 1, 5, none⟩ = some (.string ⟨#[]⟩) := ((bcell hb1).1 _ _ (by simp; omega)).trans ((cell_under9 _ _ _ _ (by omega)).trans r5)
  have s5 : W2.frozen? ⟨w.heap.size + 1, 5, none⟩ = false := by rw [hW2]; rw [show w.heap.size + 1 = (w.alloc (.cells #[.int .i64 x0, .int .i64 x1, .string x2, .string x3, .int .i64 x4, .string x5, .bool x6, .bool x7, .int .i64 x8] 47)).heap.size by simp]; simp
  have s5 : w1.frozen? ⟨w.heap.size + 1, 5, none⟩ = false := ((bcell hb1).2 _ _ (by simp; omega)).trans ((frozen_under9 _ _ _ _ (by omega)).trans s5)
  have r6 : W2.cell? ⟨w.heap.size + 1, 6, none⟩ = some (.bool false) := by rw [hW2]; exact (World.cell?_alloc_at _ _ _ _ (by simp)).trans rfl
  have r6 : w1.cell? ⟨w.heap.size + 1, 6, none⟩ = some (.bool false) := ((bcell hb1).1 _ _ (by simp; omega)).trans ((cell_under9 _ _ _ _ (by omega)).trans r6)
  have s6 : W2.frozen? ⟨w.heap.size + 1, 6, none⟩ = false := by rw [hW2]; rw [show w.heap.size + 1 = (w.alloc (.cells #[.int .i64 x0, .int .i64 x1, .string x2, .string x3, .int .i64 x4, .string x5, .bool x6, .bool x7, .int .i64 x8] 47)).heap.size by simp]; simp
  have s6 : w1.frozen? ⟨w.heap.size + 1, 6, none⟩ = false := ((bcell hb1).2 _ _ (by simp; omega)).trans ((frozen_under9 _ _ _ _ (by omega)).trans s6)
  have r7 : W2.cell? ⟨w.heap.size + 1, 7, none⟩ = some (.bool false) := by rw [hW2]; exact (World.cell?_alloc_at _ _ _ _ (by simp)).trans rfl
  have r7 : w1.cell? ⟨w.heap.size + 1, 7, none⟩ = some (.bool false) := ((bcell hb1).1 _ _ (by simp; omega)).trans ((cell_under9 _ _ _ _ (by omega)).trans r7)
  have s7 : W2.frozen? ⟨w.heap.size + 1, 7, none⟩ = false := by rw [hW2]; rw [show w.heap.size + 1 = (w.alloc (.cells #[.int .i64 x0, .int .i64 x1, .string x2, .string x3, .int .i64 x4, .string x5, .bool x6, .bool x7, .int .i64 x8] 47)).heap.size by simp]; simp
  have s7 : w1.frozen? ⟨w.heap.size + 1, 7, none⟩ = false := ((bcell hb1).2 _ _ (by simp; omega)).trans ((frozen_under9 _ _ _ _ (by omega)).trans s7)
  have r8 : W2.cell? ⟨w.heap.size + 1, 8, none⟩ = some (.int .i64 0) := by rw [hW2]; exact (World.cell?_alloc_at _ _ _ _ (by simp)).trans rfl
  have r8 : w1.cell? ⟨w.heap.size + 1, 8, none⟩ = some (.int .i64 0) := ((bcell hb1).1 _ _ (by simp; omega)).trans ((cell_under9 _ _ _ _ (by omega)).trans r8)
  have s8 : W2.frozen? ⟨w.heap.size + 1, 8, none⟩ = false := by rw [hW2]; rw [show w.heap.size + 1 = (w.alloc (.cells #[.int .i64 x0, .int .i64 x1, .string x2, .string x3, .int .i64 x4, .string x5, .bool x6, .bool x7, .int .i64 x8] 47)).heap.size by simp]; simp
  have s8 : w1.frozen? ⟨w.heap.size + 1, 8, none⟩ = false := ((bcell hb1).2 _ _ (by simp; omega)).trans ((frozen_under9 _ _ _ _ (by omega)).trans s8)
  have o0 : w1.cell? ⟨w.heap.size + 1 + 1, 0, none⟩ = some (.int .i64 x0) := ((bcell hb1).1 _ _ (by simp; omega)).trans (by rw [← hs2]; simp)
  have p0 : w1.frozen? ⟨w.heap.size + 1 + 1, 0, none⟩ = false := ((bcell hb1).2 _ _ (by simp; omega)).trans (by rw [← hs2]; simp)
  have o1 : w1.cell? ⟨w.heap.size + 1 + 1, 1, none⟩ = some (.int .i64 x1) := ((bcell hb1).1 _ _ (by simp; omega)).trans (by rw [← hs2]; simp)
  have p1 : w1.frozen? ⟨w.heap.size + 1 + 1, 1, none⟩ = false := ((bcell hb1).2 _ _ (by simp; omega)).trans (by rw [← hs2]; simp)
  have o2 : w1.cell? ⟨w.heap.size + 1 + 1, 2, none⟩ = some (.string ⟨#[]⟩) := ((bcell hb1).1 _ _ (by simp; omega)).trans (by rw [← hs2]; simp)
  have p2 : w1.frozen? ⟨w.heap.size + 1 + 1, 2, none⟩ = false := ((bcell hb1).2 _ _ (by simp; omega)).trans (by rw [← hs2]; simp)
  have o3 : w1.cell? ⟨w.heap.size + 1 + 1, 3, none⟩ = some (.string ⟨#[]⟩) := ((bcell hb1).1 _ _ (by simp; omega)).trans (by rw [← hs2]; simp)
  have p3 : w1.frozen? ⟨w.heap.size + 1 + 1, 3, none⟩ = false := ((bcell hb1).2 _ _ (by simp; omega)).trans (by rw [← hs2]; simp)
  have o4 : w1.cell? ⟨w.heap.size + 1 + 1, 4, none⟩ = some (.int .i64 0) := ((bcell hb1).1 _ _ (by simp; omega)).trans (by rw [← hs2]; simp)
  have p4 : w1.frozen? ⟨w.heap.size + 1 + 1, 4, none⟩ = false := ((bcell hb1).2 _ _ (by simp; omega)).trans (by rw [← hs2]; simp)
  have o5 : w1.cell? ⟨w.heap.size + 1 + 1, 5, none⟩ = some (.string ⟨#[]⟩) := ((bcell hb1).1 _ _ (by simp; omega)).trans (by rw [← hs2]; simp)
  have p5 : w1.frozen? ⟨w.heap.size + 1 + 1, 5, none⟩ = false := ((bcell hb1).2 _ _ (by simp; omega)).trans (by rw [← hs2]; simp)
  have o6 : w1.cell? ⟨w.heap.size + 1 + 1, 6, none⟩ = some (.bool false) := ((bcell hb1).1 _ _ (by simp; omega)).trans (by rw [← hs2]; simp)
  have p6 : w1.frozen? ⟨w.heap.size + 1 + 1, 6, none⟩ = false := ((bcell hb1).2 _ _ (by simp; omega)).trans (by rw [← hs2]; simp)
  have o7 : w1.cell? ⟨w.heap.size + 1 + 1, 7, none⟩ = some (.bool false) := ((bcell hb1).1 _ _ (by simp; omega)).trans (by rw [← hs2]; simp)
  have p7 : w1.frozen? ⟨w.heap.size + 1 + 1, 7, none⟩ = false := ((bcell hb1).2 _ _ (by simp; omega)).trans (by rw [← hs2]; simp)
  have o8 : w1.cell? ⟨w.heap.size + 1 + 1, 8, none⟩ = some (.int .i64 0) := ((bcell hb1).1 _ _ (by simp; omega)).trans (by rw [← hs2]; simp)
  have p8 : w1.frozen? ⟨w.heap.size + 1 + 1, 8, none⟩ = false := ((bcell hb1).2 _ _ (by simp; omega)).trans (by rw [← hs2]; simp)
  have B2 : Below w.heap.size w W2 := by rw [hW2]; exact ((Below.refl _ _).alloc (Nat.le_refl _) _).alloc (by simp) _
  have B1 : Hid (Below w.heap.size w w1) := (B2.alloc B2.size _).trans (hb1.mono (by simp; omega))
  clear hb1 hW2 hs2 B2
  go_wp2
  obtain ⟨Wz, hz⟩ : ∃ Wz, Wz = ((((((((((((((((w1.setCell ⟨w.heap.size + 1 + 1, 2, none⟩ (.string x2)).setCell ⟨w.heap.size + 1 + 1, 3, none⟩ (.string x3)).setCell ⟨w.heap.size + 1 + 1, 4, none⟩ (.int .i64 x4)).setCell ⟨w.heap.size + 1 + 1, 5, none⟩ (.string x5)).setCell ⟨w.heap.size + 1 + 1, 6, none⟩ (.bool x6)).setCell ⟨w.heap.size + 1 + 1, 7, none⟩ (.bool x7)).setCell ⟨w.heap.size + 1 + 1, 8, none⟩ (.int .i64 x8)).setCell ⟨w.heap.size + 1, 0, none⟩ (.int .i64 x0)).setCell ⟨w.heap.size + 1, 1, none⟩ (.int .i64 x1)).setCell ⟨w.heap.size + 1, 2, none⟩ (.string x2)).setCell ⟨w.heap.size + 1, 3, none⟩ (.string x3)).setCell ⟨w.heap.size + 1, 4, none⟩ (.int .i64 x4)).setCell ⟨w.heap.size + 1, 5, none⟩ (.string x5)).setCell ⟨w.heap.size + 1, 6, none⟩ (.bool x6)).setCell ⟨w.heap.size + 1, 7, none⟩ (.bool x7)).setCell ⟨w.heap.size + 1, 8, none⟩ (.int .i64 x8)) := ⟨_, rfl⟩
  rw [← hz]
  have BZ : Hid (Below w.heap.size w Wz) := by show Below _ _ _; rw [hz]; exact ((((((((((((((((B1.out.setCell (p := ⟨w.heap.size + 1 + 1, 2, none⟩) (show w.heap.size ≤ w.heap.size + 1 + 1 from by omega) _).setCell (p := ⟨w.heap.size + 1 + 1, 3, none⟩) (show w.heap.size ≤ w.heap.size + 1 + 1 from by omega) _).setCell (p := ⟨w.heap.size + 1 + 1, 4, none⟩) (show w.heap.size ≤ w.heap.size + 1 + 1 from by omega) _).setCell (p := ⟨w.heap.size + 1 + 1, 5, none⟩) (show w.heap.size ≤ w.heap.size + 1 + 1 from by omega) _).setCell (p := ⟨w.heap.size + 1 + 1, 6, none⟩) (show w.heap.size ≤ w.heap.size + 1 + 1 from by omega) _).setCell (p := ⟨w.heap.size + 1 + 1, 7, none⟩) (show w.heap.size ≤ w.heap.size + 1 + 1 from by omega) _).setCell (p := ⟨w.heap.size + 1 + 1, 8, none⟩) (show w.heap.size ≤ w.heap.size + 1 + 1 from by omega) _).setCell (p := ⟨w.heap.size + 1, 0, none⟩) (show w.heap.size ≤ w.heap.size + 1 from by omega) _).setCell (p := ⟨w.heap.size + 1, 1, none⟩) (show w.heap.size ≤ w.heap.size + 1 from by omega) _).setCell (p := ⟨w.heap.size + 1, 2, none⟩) (show w.heap.size ≤ w.heap.size + 1 from by omega) _).setCell (p := ⟨w.heap.size + 1, 3, none⟩) (show w.heap.size ≤ w.heap.size + 1 from by omega) _).setCell (p := ⟨w.heap.size + 1, 4, none⟩) (show w.heap.size ≤ w.heap.size + 1 from by omega) _).setCell (p := ⟨w.heap.size + 1, 5, none⟩) (show w.heap.size ≤ w.heap.size + 1 from by omega) _).setCell (p := ⟨w.heap.size + 1, 6, none⟩) (show w.heap.size ≤ w.heap.size + 1 from by omega) _).setCell (p := ⟨w.heap.size + 1, 7, none⟩) (show w.heap.size ≤ w.heap.size + 1 from by omega) _).setCell (p := ⟨w.heap.size + 1, 8, none⟩) (show w.heap.size ≤ w.heap.size + 1 from by omega) _)
  have q0 : Wz.cell? ⟨w.heap.size + 1, 0, none⟩ = some (.int .i64 x0) := by rw [hz]; rw [World.cell?_setCell_other _ _ _ _ (by simp)]; rw [World.cell?_setCell_other _ _ _ _ (by simp)]; rw [World.cell?_setCell_other _ _ _ _ (by simp)]; rw [World.cell?_setCell_other _ _ _ _ (by simp)]; rw [World.cell?_setCell_other _ _ _ _ (by simp)]; rw [World.cell?_setCell_other _ _ _ _ (by simp)]; rw [World.cell?_setCell_other _ _ _ _ (by simp)]; rw [World.cell?_setCell_other _ _ _ _ (by simp)]; refine World.cell?_setCell_same' _ _ _ ?_; rw [World.cell?_setCell_other _ _ _ _ (by simp)]; rw [World.cell?_setCell_other _ _ _ _ (by simp)]; rw [World.cell?_setCell_other _ _ _ _ (by simp)]; rw [World.cell?_setCell_other _ _ _ _ (by simp)]; rw [World.cell?_setCell_other _ _ _ _ (by simp)]; rw [World.cell?_setCell_other _ _ _ _ (by simp)]; rw [World.cell?_setCell_other _ _ _ _ (by simp)]; rw [r0]; rfl
  have q1 : Wz.cell? ⟨w.heap.size + 1, 1, none⟩ = some (.int .i64 x1) := by rw [hz]; rw [World.cell?_setCell_other _ _ _ _ (by simp)]; rw [World.cell?_setCell_other _ _ _ _ (by simp)]; rw [World.cell?_setCell_other _ _ _ _ (by simp)]; rw [World.cell?_setCell_other _ _ _ _ (by simp)]; rw [World.cell?_setCell_other _ _ _ _ (by simp)]; rw [World.cell?_setCell_other _ _ _ _ (by simp)]; rw [World.cell?_setCell_other _ _ _ _ (by simp)]; refine World.cell?_setCell_same' _ _ _ ?_; rw [World.cell?_setCell_other _ _ _ _ (by simp)]; rw [World.cell?_setCell_other _ _ _ _ (by simp)]; rw [World.cell?_setCell_other _ _ _ _ (by simp)]; rw [World.cell?_setCell_other _ _ _ _ (by simp)]; rw [World.cell?_setCell_other _ _ _ _ (by simp)]; rw [World.cell?_setCell_other _ _ _ _ (by simp)]; rw [World.cell?_setCell_other _ _ _ _ (by simp)]; rw [World.cell?_setCell_other _ _ _ _ (by simp)]; rw [r1]; rfl
  have q2 : Wz.cell? ⟨w.heap.size + 1, 2, none⟩ = some (.string x2) := by rw [hz]; rw [World.cell?_setCell_other _ _ _ _ (by simp)]; rw [World.cell?_setCell_other _ _ _ _ (by simp)]; rw [World.cell?_setCell_other _ _ _ _ (by simp)]; rw [World.cell?_setCell_other _ _ _ _ (by simp)]; rw [World.cell?_setCell_other _ _ _ _ (by simp)]; rw [World.cell?_setCell_other _ _ _ _ (by simp)]; refine World.cell?_setCell_same' _ _ _ ?_; rw [World.cell?_setCell_other _ _ _ _ (by simp)]; rw [World.cell?_setCell_other _ _ _ _ (by simp)]; rw [World.cell?_setCell_other _ _ _ _ (by simp)]; rw [World.cell?_setCell_other _ _ _ _ (by simp)]; rw [World.cell?_setCell_other _ _ _ _ (by simp)]; rw [World.cell?_setCell_other _ _ _ _ (by simp)]; rw [World.cell?_setCell_other _ _ _ _ (by simp)]; rw [World.cell?_setCell_other _ _ _ _ (by simp)]; rw [World.cell?_setCell_other _ _ _ _ (by simp)]; rw [r2]; rfl
  have q3 : Wz.cell? ⟨w.heap.size + 1, 3, none⟩ = some (.string x3) := by rw [hz]; rw [World.cell?_setCell_other _ _ _ _ (by simp)]; rw [World.cell?_setCell_other _ _ _ _ (by simp)]; rw [World.cell?_setCell_other _ _ _ _ (by simp)]; rw [World.cell?_setCell_other _ _ _ _ (by simp)]; rw [World.cell?_setCell_other _ _ _ _ (by simp)]; refine World.cell?_setCell_same' _ _ _ ?_; rw [World.cell?_setCell_other _ _ _ _ (by simp)]; rw [World.cell?_setCell_other _ _ _ _ (by simp)]; rw [World.cell?_setCell_other _ _ _ _ (by simp)]; rw [World.cell?_setCell_other _ _ _ _ (by simp)]; rw [World.cell?_setCell_other _ _ _ _ (by simp)]; rw [World.cell?_setCell_other _ _ _ _ (by simp)]; rw [World.cell?_setCell_other _ _ _ _ (by simp)]; rw [World.cell?_setCell_other _ _ _ _ (by simp)]; rw [World.cell?_setCell_other _ _ _ _ (by simp)]; rw [World.cell?_setCell_other _ _ _ _ (by simp)]; rw [r3]; rfl
  have q4 : Wz.cell? ⟨w.heap.size + 1, 4, none⟩ = some (.int .i64 x4) := by rw [hz]; rw [World.cell?_setCell_other _ _ _ _ (by simp)]; rw [World.cell?_setCell_other _ _ _ _ (by simp)]; rw [World.cell?_setCell_other _ _ _ _ (by simp)]; rw [World.cell?_setCell_other _ _ _ _ (by simp)]; refine World.cell?_setCell_same' _ _ _ ?_; rw [World.cell?_setCell_other _ _ _ _ (by simp)]; rw [World.cell?_setCell_other _ _ _ _ (by simp)]; rw [World.cell?_setCell_other _ _ _ _ (by simp)]; rw [World.cell?_setCell_other _ _ _ _ (by simp)]; rw [World.cell?_setCell_other _ _ _ _ (by simp)]; rw [World.cell?_setCell_other _ _ _ _ (by simp)]; rw [World.cell?_setCell_other _ _ _ _ (by simp)]; rw [World.cell?_setCell_other _ _ _ _ (by simp)]; rw [World.cell?_setCell_other _ _ _ _ (by simp)]; rw [World.cell?_setCell_other _ _ _ _ (by simp)]; rw [World.cell?_setCell_other _ _ _ _ (by simp)]; rw [r4]; rfl
  have q5 : Wz.cell? ⟨w.heap.size + 1, 5, none⟩ = some (.string x5) := by rw [hz]; rw [World.cell?_setCell_other _ _ _ _ (by simp)]; rw [World.cell?_setCell_other _ _ _ _ (by simp)]; rw [World.cell?_setCell_other _ _ _ _ (by simp)]; refine World.cell?_setCell_same' _ _ _ ?_; rw [World.cell?_setCell_other _ _ _ _ (by simp)]; rw [World.cell?_setCell_other _ _ _ _ (by simp)]; rw [World.cell?_setCell_other _ _ _ _ (by simp)]; rw [World.cell?_setCell_other _ _ _ _ (by simp)]; rw [World.cell?_setCell_other _ _ _ _ (by simp)]; rw [World.cell?_setCell_other _ _ _ _ (by simp)]; rw [World.cell?_setCell_other _ _ _ _ (by simp)]; rw [World.cell?_setCell_other _ _ _ _ (by simp)]; rw [World.cell?_setCell_other _ _ _ _ (by simp)]; rw [World.cell?_setCell_other _ _ _ _ (by simp)]; rw [World.cell?_setCell_other _ _ _ _ (by simp)]; rw [World.cell?_setCell_other _ _ _ _ (by simp)]; rw [r5]; rfl
  have q6 : Wz.cell? ⟨w.heap.size + 1, 6, none⟩ = some (.bool x6) := by rw [hz]; rw [World.cell?_setCell_other _ _ _ _ (by simp)]; rw [World.cell?_setCell_other _ _ _ _ (by simp)]; refine World.cell?_setCell_same' _ _ _ ?_; rw [World.cell?_setCell_other _ _ _ _ (by simp)]; rw [World.cell?_setCell_other _ _ _ _ (by simp)]; rw [World.cell?_setCell_other _ _ _ _ (by simp)]; rw [World.cell?_setCell_other _ _ _ _ (by simp)]; rw [World.cell?_setCell_other _ _ _ _ (by simp)]; rw [World.cell?_setCell_other _ _ _ _ (by simp)]; rw [World.cell?_setCell_other _ _ _ _ (by simp)]; rw [World.cell?_setCell_other _ _ _ _ (by simp)]; rw [World.cell?_setCell_other _ _ _ _ (by simp)]; rw [World.cell?_setCell_other _ _ _ _ (by simp)]; rw [World.cell?_setCell_other _ _ _ _ (by simp)]; rw [World.cell?_setCell_other _ _ _ _ (by simp)]; rw [World.cell?_setCell_other _ _ _ _ (by simp)]; rw [r6]; rfl
  have q7 : Wz.cell? ⟨w.heap.size + 1, 7, none⟩ = some (.bool x7) := by rw [hz]; rw [World.cell?_setCell_other _ _ _ _ (by simp)]; refine World.cell?_setCell_same' _ _ _ ?_; rw [World.cell?_setCell_other _ _ _ _ (by simp)]; rw [World.cell?_setCell_other _ _ _ _ (by simp)]; rw [World.cell?_setCell_other _ _ _ _ (by simp)]; rw [World.cell?_setCell_other _ _ _ _ (by simp)]; rw [World.cell?_setCell_other _ _ _ _ (by simp)]; rw [World.cell?_setCell_other _ _ _ _ (by simp)]; rw [World.cell?_setCell_other _ _ _ _ (by simp)]; rw [World.cell?_setCell_other _ _ _ _ (by simp)]; rw [World.cell?_setCell_other _ _ _ _ (by simp)]; rw [World.cell?_setCell_other _ _ _ _ (by simp)]; rw [World.cell?_setCell_other _ _ _ _ (by simp)]; rw [World.cell?_setCell_other _ _ _ _ (by simp)]; rw [World.cell?_setCell_other _ _ _ _ (by simp)]; rw [World.cell?_setCell_other _ _ _ _ (by simp)]; rw [r7]; rfl
  have q8 : Wz.cell? ⟨w.heap.size + 1, 8, none⟩ = some (.int .i64 x8) := by rw [hz]; refine World.cell?_setCell_same' _ _ _ ?_; rw [World.cell?_setCell_other _ _ _ _ (by simp)]; rw [World.cell?_setCell_other _ _ _ _ (by simp)]; rw [World.cell?_setCell_other _ _ _ _ (by simp)]; rw [World.cell?_setCell_other _ _ _ _ (by simp)]; rw [World.cell?_setCell_other _ _ _ _ (by simp)]; rw [World.cell?_setCell_other _ _ _ _ (by simp)]; rw [World.cell?_setCell_other _ _ _ _ (by simp)]; rw [World.cell?_setCell_other _ _ _ _ (by simp)]; rw [World.cell?_setCell_other _ _ _ _ (by simp)]; rw [World.cell?_setCell_other _ _ _ _ (by simp)]; rw [World.cell?_setCell_other _ _ _ _ (by simp)]; rw [World.cell?_setCell_other _ _ _ _ (by simp)]; rw [World.cell?_setCell_other _ _ _ _ (by simp)]; rw [World.cell?_setCell_other _ _ _ _ (by simp)]; rw [World.cell?_setCell_other _ _ _ _ (by simp)]; rw [r8]; rfl
  clear hz r0 r1 r2 r3 r4 r5 r6 r7 r8 s0 s1 s2 s3 s4 s5 s6 s7 s8 o0 o1 o2 o3 o4 o5 o6 o7 o8 p0 p1 p2 p3 p4 p5 p6 p7 p8 a6 a7 a8 B1 KT
  exact bodyPost_ret (v := .agg #[.int .i64 x0, .int .i64 x1, .string x2, .string x3, .int .i64 x4, .string x5, .bool x6, .bool x7, .int .i64 x8]) (by simp [results, Tryd.results28, go_sem, q0, q1, q2, q3, q4, q5, q6, q7, q8]) rfl ⟨rfl, BZ.out⟩
set_option maxRecDepth 10000 in
set_option maxHeartbeats 1000000 in
theorem eqFrame_any (x0 x1 : Int) (x2 x3 : ByteArray) (x4 : Int) (x5 : ByteArray) (x6 x7 : Bool) (x8 : Int) (w : World) :
    Calls Tryd.prog 37 #[.agg #[.int .i64 x0, .int .i64 x1, .string x2, .string x3, .int .i64 x4, .string x5, .bool x6, .bool x7, .int .i64 x8], .agg #[.int .i64 x0, .int .i64 x1, .string x2, .string x3, .int .i64 x4, .string x5, .bool x6, .bool x7, .int .i64 x8]] w fun e w' => e = .returned (.bool true) ∧ Below w.heap.size w w' := by
  have KE : Hid (∀ W, Calls Tryd.prog 63 #[.agg #[.string x2, .string x3, .int .i64 x4, .string x5], .agg #[.string x2, .string x3, .int .i64 x4, .string x5]] W fun e w' => e = .returned (.bool true) ∧ Below W.heap.size W w') := fun W => eqUrl9_any x2 x3 x4 x5 W
  go_enter Tryd.func37, Tryd.ntmps37
  go_wp2_with fail
  refine (KE.out _).mono ?_
  rintro e w1 ⟨rfl, hb1⟩
  obtain ⟨W2, hW2⟩ : ∃ W2, W2 = ((w.alloc (.cells #[.int .i64 x0, .int .i64 x1, .string x2, .string x3, .int .i64 x4, .string x5, .bool x6, .bool x7, .int .i64 x8] 54)).alloc (.cells #[.int .i64 x0, .int .i64 x1, .string x2, .string x3, .int .i64 x4, .string x5, .bool x6, .bool x7, .int .i64 x8] 54)) := ⟨_, rfl⟩
  rw [← hW2] at hb1
  have hs2 : W2.heap.size = w.heap.size + 1 + 1 := by rw [hW2]; simp
  have a6 : W2.cell? ⟨w.heap.size, 6, none⟩ = some (.bool x6) := by rw [hW2]; exact (cell_under9 _ _ _ _ (by simp)).trans (by simp)
  have b6 : W2.cell? ⟨w.heap.size + 1, 6, none⟩ = some (.bool x6) := by rw [hW2]; exact (World.cell?_alloc_at _ _ _ _ (by simp)).trans rfl
  have a6 : w1.cell? ⟨w.heap.size, 6, none⟩ = some (.bool x6) := ((bcell hb1).1 _ _ (by omega)).trans a6
  have b6 : w1.cell? ⟨w.heap.size + 1, 6, none⟩ = some (.bool x6) := ((bcell hb1).1 _ _ (by omega)).trans b6
  have a7 : W2.cell? ⟨w.heap.size, 7, none⟩ = some (.bool x7) := by rw [hW2]; exact (cell_under9 _ _ _ _ (by simp)).trans (by simp)
  have b7 : W2.cell? ⟨w.heap.size + 1, 7, none⟩ = some (.bool x7) := by rw [hW2]; exact (World.cell?_alloc_at _ _ _ _ (by simp)).trans rfl
  have a7 : w1.cell? ⟨w.heap.size, 7, none⟩ = some (.bool x7) := ((bcell hb1).1 _ _ (by omega)).trans a7
  have b7 : w1.cell? ⟨w.heap.size + 1, 7, none⟩ = some (.bool x7) := ((bcell hb1).1 _ _ (by omega)).trans b7
  have a8 : W2.cell? ⟨w.heap.size, 8, none⟩ = some (.int .i64 x8) := by rw [hW2]; exact (cell_under9 _ _ _ _ (by simp)).trans (by simp)
  have b8 : W2.cell? ⟨w.heap.size + 1, 8, none⟩ = some (.int .i64 x8) := by rw [hW2]; exact (World.cell?_alloc_at _ _ _ _ (by simp)).trans rfl
  have a8 : w1.cell? ⟨w.heap.size, 8, none⟩ = some (.int .i64 x8) := ((bcell hb1).1 _ _ (by omega)).trans a8
  have b8 : w1.cell? ⟨w.heap.size + 1, 8, none⟩ = some (.int .i64 x8) := ((bcell hb1).1 _ _ (by omega)).trans b8
  have B2 : Below w.heap.size w W2 := by rw [hW2]; exact ((Below.refl _ _).alloc (Nat.le_refl _) _).alloc (by simp) _
  have B1 : Hid (Below w.heap.size w w1) := B2.trans (hb1.mono (by omega))
  clear hb1 hW2 hs2 B2
  go_wp2
  go_ret
  exact ⟨rfl, B1.out⟩
end Go.Proofs.YtclpamjgglfljaaDoor

/- A struct of 6 one-cell fields, by value, opened. -/
namespace Go.Proofs.YtclpamjgglfljaaDoor
open Go.ChangeShapes Go.WideShapes Go.ChangeAt Go.RowKit Go.Joins Go.Deep

theorem array6 {α : Type} {cs : Array α} (h : cs.size = 6) : ∃ c0 c1 c2 c3 c4 c5, cs = #[c0, c1, c2, c3, c4, c5] := by
  obtain ⟨l⟩ := cs
  match l, h with
  | [c0, c1, c2, c3, c4, c5], _ => exact ⟨c0, c1, c2, c3, c4, c5, rfl⟩
theorem trod_struct6 {H : Type} {enc : TypeId × Value → H} {P : Program} {w : World} {base : Nat} {spare : Nat → Bool} {held : Bool} {t : TypeId} {f0 f1 f2 f3 f4 f5 : Field} {fuel : Nat} {cs : List Value} {x : DataW H × List MemPlace} (ht : P.underlying t = some (.struct #[f0, f1, f2, f3, f4, f5])) (h : DataW.trod enc P w base spare held fuel t cs = some x) :
    ∃ (y0 y1 y2 y3 y4 y5 : DataW H × List MemPlace) (n : Nat), DataW.trod enc P w base spare held n f0.type ((cs.drop f0.offset).take (P.cellsOf f0.type)) = some y0 ∧ DataW.trod enc P w base spare held n f1.type ((cs.drop f1.offset).take (P.cellsOf f1.type)) = some y1 ∧ DataW.trod enc P w base spare held n f2.type ((cs.drop f2.offset).take (P.cellsOf f2.type)) = some y2 ∧ DataW.trod enc P w base spare held n f3.type ((cs.drop f3.offset).take (P.cellsOf f3.type)) = some y3 ∧ DataW.trod enc P w base spare held n f4.type ((cs.drop f4.offset).take (P.cellsOf f4.type)) = some y4 ∧ DataW.trod enc P w base spare held n f5.type ((cs.drop f5.offset).take (P.cellsOf f5.type)) = some y5 := by
  obtain ⟨xs, n, _, rfl, hl, hlen, hf⟩ := DataW.trod_struct ht h
  match xs, hlen with
  | [y0, y1, y2, y3, y4, y5], _ => exact ⟨y0, y1, y2, y3, y4, y5, n, by simpa using hf 0 f0 rfl, by simpa using hf 1 f1 rfl, by simpa using hf 2 f2 rfl, by simpa using hf 3 f3 rfl, by simpa using hf 4 f4 rfl, by simpa using hf 5 f5 rfl⟩
theorem open_agg6 {H : Type} {enc : TypeId × Value → H} {P : Program} {w : World} {base : Nat} {spare : Nat → Bool} {held : Bool} {r : Reach} {b0 : Nat} {t : TypeId} {f0 f1 f2 f3 f4 f5 : Field} {v : Value} {d : DataW H} {p : List MemPlace} (hs : P.underlying t = some (.struct #[f0, f1, f2, f3, f4, f5])) (hone : oneCellFields P #[f0, f1, f2, f3, f4, f5] = true) (hC : P.cellsOf t = 6)
    (hv : Value.okWide P w r b0 t v) (h : DataW.Trod enc P w base spare held t v d p) :
    ∃ (c0 c1 c2 c3 c4 c5 : Value) (y0 y1 y2 y3 y4 y5 : DataW H × List MemPlace) (n : Nat), v = .agg #[c0, c1, c2, c3, c4, c5] ∧ DataW.trod enc P w base spare held n f0.type [c0] = some y0 ∧ DataW.trod enc P w base spare held n f1.type [c1] = some y1 ∧ DataW.trod enc P w base spare held n f2.type [c2] = some y2 ∧ DataW.trod enc P w base spare held n f3.type [c3] = some y3 ∧ DataW.trod enc P w base spare held n f4.type [c4] = some y4 ∧ DataW.trod enc P w base spare held n f5.type [c5] = some y5 := by
  obtain ⟨cs, rfl, hsz⟩ := okWide_struct hs hv
  obtain ⟨c0, c1, c2, c3, c4, c5, rfl⟩ := array6 (hsz.trans hC)
  obtain ⟨fuel, hf⟩ := h
  obtain ⟨y0, y1, y2, y3, y4, y5, n, h0, h1, h2, h3, h4, h5⟩ := trod_struct6 hs hf
  obtain ⟨o0, k0⟩ := hone_of hone 0 f0 rfl
  obtain ⟨o1, k1⟩ := hone_of hone 1 f1 rfl
  obtain ⟨o2, k2⟩ := hone_of hone 2 f2 rfl
  obtain ⟨o3, k3⟩ := hone_of hone 3 f3 rfl
  obtain ⟨o4, k4⟩ := hone_of hone 4 f4 rfl
  obtain ⟨o5, k5⟩ := hone_of hone 5 f5 rfl
  exact ⟨c0, c1, c2, c3, c4, c5, y0, y1, y2, y3, y4, y5, n, rfl, by simpa [Value.cells, o0, k0] using h0, by simpa [Value.cells, o1, k1] using h1, by simpa [Value.cells, o2, k2] using h2, by simpa [Value.cells, o3, k3] using h3, by simpa [Value.cells, o4, k4] using h4, by simpa [Value.cells, o5, k5] using h5⟩
end Go.Proofs.YtclpamjgglfljaaDoor

/- A struct of 4 one-cell fields, by value, opened. -/
namespace Go.Proofs.YtclpamjgglfljaaDoor
open Go.ChangeShapes Go.WideShapes Go.ChangeAt Go.RowKit Go.Joins Go.Deep

theorem array4 {α : Type} {cs : Array α} (h : cs.size = 4) : ∃ c0 c1 c2 c3, cs = #[c0, c1, c2, c3] := by
  obtain ⟨l⟩ := cs
  match l, h with
  | [c0, c1, c2, c3], _ => exact ⟨c0, c1, c2, c3, rfl⟩
theorem trod_struct4 {H : Type} {enc : TypeId × Value → H} {P : Program} {w : World} {base : Nat} {spare : Nat → Bool} {held : Bool} {t : TypeId} {f0 f1 f2 f3 : Field} {fuel : Nat} {cs : List Value} {x : DataW H × List MemPlace} (ht : P.underlying t = some (.struct #[f0, f1, f2, f3])) (h : DataW.trod enc P w base spare held fuel t cs = some x) :
    ∃ (y0 y1 y2 y3 : DataW H × List MemPlace) (n : Nat), DataW.trod enc P w base spare held n f0.type ((cs.drop f0.offset).take (P.cellsOf f0.type)) = some y0 ∧ DataW.trod enc P w base spare held n f1.type ((cs.drop f1.offset).take (P.cellsOf f1.type)) = some y1 ∧ DataW.trod enc P w base spare held n f2.type ((cs.drop f2.offset).take (P.cellsOf f2.type)) = some y2 ∧ DataW.trod enc P w base spare held n f3.type ((cs.drop f3.offset).take (P.cellsOf f3.type)) = some y3 := by
  obtain ⟨xs, n, _, rfl, hl, hlen, hf⟩ := DataW.trod_struct ht h
  match xs, hlen with
  | [y0, y1, y2, y3], _ => exact ⟨y0, y1, y2, y3, n, by simpa using hf 0 f0 rfl, by simpa using hf 1 f1 rfl, by simpa using hf 2 f2 rfl, by simpa using hf 3 f3 rfl⟩
end Go.Proofs.YtclpamjgglfljaaDoor

/- Rows of texts that a law reads, marks and reads again; the marks' texts. -/
namespace Go.Proofs.YtclpamjgglfljaaDoor
open Go.RowKit

/-- the mark of a number above 0 -/
def markT (k : Nat) : ByteArray := ⟨#[109]⟩ ++ ⟨(decA k).toArray⟩

/-- a slice of n texts, f of each place, that lies from block B on -/
def SliceS (w : World) (B : Nat) (v : Value) (n : Nat) (f : Nat → ByteArray) : Prop :=
  ∃ p cap, v = .slice p n cap ∧ (0 < n → ∃ g, p = some ⟨g, 0, none⟩ ∧ B ≤ g ∧ g < w.heap.size ∧ ∀ j, j < n → w.cell? ⟨g, j, none⟩ = some (.string (f j)) ∧ w.frozen? ⟨g, j, none⟩ = false)
theorem SliceS.below {w w' : World} {B n : Nat} {v : Value} {f : Nat → ByteArray} (h : SliceS w B v n f) (hb : Below w.heap.size w w') : SliceS w' B v n f := by
  obtain ⟨p, cap, rfl, h⟩ := h
  refine ⟨p, cap, rfl, fun hn => ?_⟩
  obtain ⟨g, rfl, hB, hg, hc⟩ := h hn
  have hs := hb.size
  refine ⟨g, rfl, hB, by omega, fun j hj => ⟨?_, ?_⟩⟩
  · rw [(bcell hb).1 _ _ hg]; exact (hc j hj).1
  · rw [(bcell hb).2 _ _ hg]; exact (hc j hj).2
/-- a row below B stays while rows from B on are written -/
theorem SliceS.kept {w w' : World} {B B' n : Nat} {v : Value} {f : Nat → ByteArray} (h : SliceS w B v n f) (hb : Below B' w w') (hlt : ∀ g cap m, v = .slice (some ⟨g, 0, none⟩) m cap → g < B') : SliceS w' B v n f := by
  obtain ⟨p, cap, rfl, h⟩ := h
  refine ⟨p, cap, rfl, fun hn => ?_⟩
  obtain ⟨g, rfl, hB, hg, hc⟩ := h hn
  have hs := hb.size
  have hl := hlt g cap n rfl
  refine ⟨g, rfl, hB, by omega, fun j hj => ⟨?_, ?_⟩⟩
  · rw [hb.cell (p := ⟨g, j, none⟩) hl]; exact (hc j hj).1
  · rw [hb.frozen (p := ⟨g, j, none⟩) hl]; exact (hc j hj).2
theorem SliceS.lt {w : World} {B n : Nat} {v : Value} {f : Nat → ByteArray} (h : SliceS w B v (n + 1) f) : ∀ g cap m, v = .slice (some ⟨g, 0, none⟩) m cap → g < w.heap.size := by
  obtain ⟨p, cap, rfl, h⟩ := h
  obtain ⟨g, rfl, hB, hg, hc⟩ := h (by omega)
  intro g' cap' m e
  injection e with e1
  injection e1 with e1
  injection e1 with e1
  omega
theorem SliceS.mono {w : World} {B B' n : Nat} {v : Value} {f : Nat → ByteArray} (h : SliceS w B v n f) (hB : B' ≤ B) : SliceS w B' v n f := by
  obtain ⟨p, cap, rfl, h⟩ := h
  refine ⟨p, cap, rfl, fun hn => ?_⟩
  obtain ⟨g, rfl, h1, h2⟩ := h hn
  exact ⟨g, rfl, by omega, h2⟩

set_option maxRecDepth 10000 in
set_option maxHeartbeats 400000 in
theorem markText_any (n : Nat) (w : World) (hn : 0 < n) (hm : n ≤ 9223372036854775807) :
    Calls Tryd.prog 38 #[.int .i64 (n : Int)] w fun e w' => e = .returned (.string (markT n)) ∧ Below w.heap.size w w' := by
  have q2 : decide (n = 0) = false := by rw [decide_eq_false_iff_not]; omega
  have q3 : ¬ n = 0 := by omega
  have hl := decA_twenty (m := n) (by omega)
  go_enter Tryd.func38, Tryd.ntmps38
  go_wp2
  go_loopw [0, 3] (fun x o wr => ∃ (m : Nat) (z : Int) (l : List UInt8), m ≤ n ∧ x = .int .i64 z ∧ z = (m : Int) ∧ o = .string ⟨l.toArray⟩ ∧ Hid (decA m ++ l = decA n) ∧ Below w.heap.size w wr) (fun x _ _ => (intOf x).natAbs)
  case atStart => exact ⟨n, _, [], Nat.le_refl _, rfl, rfl, rfl, List.append_nil _, Below.refl _ _⟩
  case round =>
    obtain ⟨m, z, l, hmn, rfl, rfl, rfl, HL, hb⟩ := hrel
    have hll : l.length ≤ 20 := by
      have := congrArg List.length HL.out
      rw [List.length_append] at this; omega
    have hbs := hb.size
    by_cases h0 : 0 < m
    · have hsz : (⟨l.toArray⟩ : ByteArray).size ≤ 20 := hll
      have hr : RowAt (wr.alloc (.cells #[.int .u8 (48 + (m : Int) % 10)] 5)) wr.heap.size 5 (Lib.byteCells [UInt8.ofNat (48 + m % 10)] ++ []) := by
        rw [show (48 + (m : Int) % 10) = ((48 + m % 10 : Nat) : Int) by omega]; exact one_row _ wr _ (by omega)
      have HS : Hid (decA (m / 10) ++ (UInt8.ofNat (48 + m % 10) :: l) = decA n) := dec_step HL.out h0
      have HT : Hid ((⟨[UInt8.ofNat (48 + m % 10)].toArray⟩ : ByteArray) ++ ⟨l.toArray⟩ = ⟨(UInt8.ofNat (48 + m % 10) :: l).toArray⟩) := cons_text _ _
      have hone : (⟨[UInt8.ofNat (48 + m % 10)].toArray⟩ : ByteArray).size ≤ 1 := Nat.le_refl _
      go_wp2_with fail
      rw [text_of_row (P := Tryd.prog) _ 87 9 5 Tryd.underlying87 Tryd.underlying5 Tryd.underlying9 wr.heap.size 1 1 5 _ _ hr rfl]
      clear hr
      generalize (⟨[UInt8.ofNat (48 + m % 10)].toArray⟩ : ByteArray) = b1 at *
      generalize (⟨l.toArray⟩ : ByteArray) = o1 at *
      have hb2 : Below w.heap.size w (wr.alloc (.cells #[.int .u8 (48 + (m : Int) % 10)] 5)) := hb.alloc hbs _
      go_wp2
      go_roundw
      case rel => exact ⟨m / 10, _, UInt8.ofNat (48 + m % 10) :: l, by omega, rfl, by omega, by rw [HT.out], HS, hb2⟩
      case measure => simp [intOf]; omega
    · obtain rfl : m = 0 := by omega
      have HE : Hid (markT n = ⟨#[109]⟩ ++ ⟨l.toArray⟩) := by
        show _ = _
        rw [markT, ← HL.out, decA_zero]; rfl
      have hsz : (⟨l.toArray⟩ : ByteArray).size ≤ 20 := hll
      clear hll
      generalize (⟨l.toArray⟩ : ByteArray) = o1 at *
      go_wp2
      go_ret
      exact ⟨ret_text HE.out.symm, hb⟩
end Go.Proofs.YtclpamjgglfljaaDoor

/- A row of texts that a call owns, as a slice of texts. -/
namespace Go.Proofs.YtclpamjgglfljaaDoor
open Go.RowKit

def atL (L : List ByteArray) (j : Nat) : ByteArray := L.getD j ⟨#[]⟩
theorem slice_of_own {w : World} {B : Nat} {t : TypeId} {v : Value} {L : List ByteArray} (h : w.ownsRow B t 1 v L.length (strCells L)) : SliceS w B v L.length (atL L) := by
  obtain ⟨h1, ⟨rfl, h0⟩ | ⟨g, cap, cur, rfl, hg, h3, h4, h5, h6, h7⟩⟩ := h
  · exact ⟨none, 0, by rw [h0], fun h => absurd h (by omega)⟩
  · refine ⟨_, cap, rfl, fun hn => ⟨g, rfl, hg, ?_, fun j hj => ?_⟩⟩
    · exact (Array.getElem?_eq_some_iff.mp h3).1
    · have e : cur[j]? = some (.string (atL L j)) := by
        have e1 : (cur.toList.take (L.length * 1))[j]? = (strCells L)[j]? := by rw [h7]
        rw [List.getElem?_take_of_lt (by omega)] at e1
        rw [← Array.getElem?_toList, e1]
        simp [strCells, atL, hj]
      refine ⟨?_, ?_⟩
      · simp [World.cell?, h3, e]
      · simp [World.frozen?, h3]
theorem own_below {w w' : World} {B n : Nat} {e : TypeId} {v : Value} {xs : List Value} (h : w.ownsRow B e 1 v n xs) (hb : Below w.heap.size w w') : w'.ownsRow B e 1 v n xs := by
  obtain ⟨hl, h0 | ⟨g, cap, cur, rfl, hbg, hh, r⟩⟩ := h
  · exact ⟨hl, .inl h0⟩
  · have hg : g < w.heap.size := (Array.getElem?_eq_some_iff.mp hh).1
    exact ⟨hl, .inr ⟨g, cap, cur, rfl, hbg, by rw [hb.block g hg]; exact hh, r⟩⟩
end Go.Proofs.YtclpamjgglfljaaDoor

/- A slice of elements of several cells each. -/
namespace Go.Proofs.YtclpamjgglfljaaDoor
open Go.RowKit

/-- a slice of n elements of sz cells each, f of each place and cell, that lies from block B on -/
def SliceR (w : World) (B sz : Nat) (v : Value) (n : Nat) (f : Nat → Nat → Value) : Prop :=
  ∃ p cap, v = .slice p n cap ∧ (0 < n → ∃ g, p = some ⟨g, 0, none⟩ ∧ B ≤ g ∧ g < w.heap.size ∧ ∀ j, j < n → ∀ o, o < sz → w.cell? ⟨g, j * sz + o, none⟩ = some (f j o) ∧ w.frozen? ⟨g, j * sz + o, none⟩ = false)
theorem SliceR.below {w w' : World} {B sz n : Nat} {v : Value} {f : Nat → Nat → Value} (h : SliceR w B sz v n f) (hb : Below w.heap.size w w') : SliceR w' B sz v n f := by
  obtain ⟨p, cap, rfl, h⟩ := h
  refine ⟨p, cap, rfl, fun hn => ?_⟩
  obtain ⟨g, rfl, hB, hg, hc⟩ := h hn
  have hs := hb.size
  refine ⟨g, rfl, hB, by omega, fun j hj o ho => ⟨?_, ?_⟩⟩
  · rw [(bcell hb).1 _ _ hg]; exact (hc j hj o ho).1
  · rw [(bcell hb).2 _ _ hg]; exact (hc j hj o ho).2
/-- a row below B' stays while rows from B' on are written -/
theorem SliceR.kept {w w' : World} {B B' sz n : Nat} {v : Value} {f : Nat → Nat → Value} (h : SliceR w B sz v n f) (hb : Below B' w w') (hlt : 0 < n → ∀ g cap m, v = .slice (some ⟨g, 0, none⟩) m cap → g < B') : SliceR w' B sz v n f := by
  obtain ⟨p, cap, rfl, h⟩ := h
  refine ⟨p, cap, rfl, fun hn => ?_⟩
  obtain ⟨g, rfl, hB, hg, hc⟩ := h hn
  have hs := hb.size
  have hl := hlt hn g cap n rfl
  refine ⟨g, rfl, hB, by omega, fun j hj o ho => ⟨?_, ?_⟩⟩
  · rw [hb.cell (p := ⟨g, j * sz + o, none⟩) hl]; exact (hc j hj o ho).1
  · rw [hb.frozen (p := ⟨g, j * sz + o, none⟩) hl]; exact (hc j hj o ho).2
theorem SliceR.lt {w : World} {B sz n : Nat} {v : Value} {f : Nat → Nat → Value} (h : SliceR w B sz v n f) : 0 < n → ∀ g cap m, v = .slice (some ⟨g, 0, none⟩) m cap → g < w.heap.size := by
  obtain ⟨p, cap, rfl, h⟩ := h
  intro hn
  obtain ⟨g, rfl, hB, hg, hc⟩ := h hn
  intro g' cap' m e
  injection e with e1
  injection e1 with e1
  injection e1 with e1
  omega
theorem SliceR.mono {w : World} {B B' sz n : Nat} {v : Value} {f : Nat → Nat → Value} (h : SliceR w B sz v n f) (hB : B' ≤ B) : SliceR w B' sz v n f := by
  obtain ⟨p, cap, rfl, h⟩ := h
  refine ⟨p, cap, rfl, fun hn => ?_⟩
  obtain ⟨g, rfl, h1, h2⟩ := h hn
  exact ⟨g, rfl, by omega, h2⟩
theorem sliceR_none (w : World) (B sz : Nat) (p : Option Addr) (cap : Nat) (f : Nat → Nat → Value) : SliceR w B sz (.slice p 0 cap) 0 f := ⟨p, cap, rfl, fun h => absurd h (by omega)⟩
/-- a row that is owned, as a slice -/
theorem sliceR_of_own {w : World} {B sz n : Nat} {t : TypeId} {v : Value} {xs : List Value} {f : Nat → Nat → Value} (h : w.ownsRow B t sz v n xs) (hf : ∀ j, j < n → ∀ o, o < sz → xs[j * sz + o]? = some (f j o)) : SliceR w B sz v n f := by
  obtain ⟨h1, ⟨rfl, h0⟩ | ⟨g, cap, cur, rfl, hg, h3, h4, h5, h6, h7⟩⟩ := h
  · exact ⟨.none, 0, by rw [h0], fun h => absurd h (by omega)⟩
  · refine ⟨_, cap, rfl, fun hn => ⟨g, rfl, hg, (Array.getElem?_eq_some_iff.mp h3).1, fun j hj o ho => ?_⟩⟩
    have hlt : j * sz + o < n * sz := by
      have : (j + 1) * sz ≤ n * sz := Nat.mul_le_mul_right sz hj
      rw [Nat.add_mul, Nat.one_mul] at this; omega
    have e : cur[j * sz + o]? = some (f j o) := by
      have e1 : (cur.toList.take (n * sz))[j * sz + o]? = xs[j * sz + o]? := by rw [h7]
      rw [List.getElem?_take_of_lt hlt] at e1
      rw [← Array.getElem?_toList, e1]
      exact hf j hj o ho
    exact ⟨by simp [World.cell?, h3, e], by simp [World.frozen?, h3]⟩
theorem ownR_below {w w' : World} {B n sz : Nat} {e : TypeId} {v : Value} {xs : List Value} (h : w.ownsRow B e sz v n xs) (hb : Below w.heap.size w w') : w'.ownsRow B e sz v n xs := by
  obtain ⟨hl, h0 | ⟨g, cap, cur, rfl, hbg, hh, r⟩⟩ := h
  · exact ⟨hl, .inl h0⟩
  · have hg : g < w.heap.size := (Array.getElem?_eq_some_iff.mp hh).1
    exact ⟨hl, .inr ⟨g, cap, cur, rfl, hbg, by rw [hb.block g hg]; exact hh, r⟩⟩
theorem addr_blk (x : Addr) (k : Nat) : (x.add k).block = x.block := by unfold Addr.add; split <;> rfl
end Go.Proofs.YtclpamjgglfljaaDoor

/- The laws' eqStringS, markStringS, heldStringS. -/
namespace Go.Proofs.YtclpamjgglfljaaDoor
open Go.RowKit

set_option maxRecDepth 10000 in
set_option maxHeartbeats 400000 in
theorem eqStringS_any (a b : Value) (n B B' : Nat) (f : Nat → ByteArray) (w : World) (ha : SliceS w B a n f) (hb : SliceS w B' b n f) (hn : n ≤ 1048576) :
    Calls Tryd.prog 15 #[a, b] w fun e w' => e = .returned (.bool true) ∧ Below w.heap.size w w' := by
  obtain ⟨p, cap, rfl, h1⟩ := ha
  obtain ⟨p', cap', rfl, h2⟩ := hb
  cases n with
  | zero =>
    clear h1 h2
    go_enter Tryd.func15, Tryd.ntmps15
    go_wp2
    go_loop [5] (fun i => i = .int .i64 0) (fun _ => 0)
    case atStart => rfl
    case round =>
      subst hrel
      go_wp2
      go_ret
      exact ⟨rfl, Below.refl _ _⟩
  | succ n =>
    obtain ⟨g, rfl, _, hg, hc⟩ := h1 (by omega)
    obtain ⟨g', rfl, _, hg', hc'⟩ := h2 (by omega)
    clear h1 h2
    have HC : Hid (∀ j, j < n + 1 → w.cell? ⟨g, j, none⟩ = some (.string (f j)) ∧ w.frozen? ⟨g, j, none⟩ = false) := hc
    have HC' : Hid (∀ j, j < n + 1 → w.cell? ⟨g', j, none⟩ = some (.string (f j)) ∧ w.frozen? ⟨g', j, none⟩ = false) := hc'
    clear hc hc'
    go_enter Tryd.func15, Tryd.ntmps15
    go_wp2
    go_loopw [5] (fun i wr => ∃ k : Nat, k ≤ n + 1 ∧ i = .int .i64 k ∧ Below w.heap.size w wr) (fun i _ => n + 1 - (intOf i).toNat)
    case atStart => exact ⟨0, by omega, rfl, Below.refl _ _⟩
    case round =>
      obtain ⟨k, hk, rfl, hb⟩ := hrel
      by_cases hlt : k < n + 1
      · have c1 : wr.cell? ⟨g, k, none⟩ = some (.string (f k)) := by rw [(bcell hb).1 _ _ hg]; exact (HC.out k hlt).1
        have c2 : wr.cell? ⟨g', k, none⟩ = some (.string (f k)) := by rw [(bcell hb).1 _ _ hg']; exact (HC'.out k hlt).1
        have k0 : (0 : Int) ≤ k := by omega
        have k1 : (k : Int) < (n : Int) + 1 := by omega
        generalize f k = x at *
        go_wp2_with fail
        go_region_held3 (fun w' => w'.cell? ⟨g, k, none⟩ = some (.string x) ∧ w'.cell? ⟨g', k, none⟩ = some (.string x)) (go_keep) (fail)
        go_wp2
        go_roundw
        case rel => exact ⟨k + 1, by omega, by go_num, hb.trans (Below.drew (Below.refl _ _))⟩
        case measure => simp [intOf]; omega
      · go_wp2
        go_ret
        exact ⟨rfl, hb⟩

/-- the first k places marked from q on, the rest as they were -/
def marked (f : Nat → ByteArray) (q k j : Nat) : ByteArray := if j < k then markT (q + j) else f j
theorem marked_step (f : Nat → ByteArray) (q k j : Nat) (h : j ≠ k) : marked f q (k + 1) j = marked f q k j := by
  unfold marked
  by_cases h1 : j < k
  · rw [if_pos (by omega), if_pos h1]
  · rw [if_neg (by omega), if_neg h1]
theorem marked_at (f : Nat → ByteArray) (q k : Nat) : marked f q (k + 1) k = markT (q + k) := by
  unfold marked; rw [if_pos (by omega)]
theorem marked_all (f : Nat → ByteArray) (q n j : Nat) (h : j < n) : marked f q n j = markT (q + j) := by
  unfold marked; rw [if_pos h]

set_option maxRecDepth 10000 in
set_option maxHeartbeats 400000 in
theorem markStringS_any (a : Value) (n B q : Nat) (f : Nat → ByteArray) (w : World) (ha : SliceS w B a n f) (hn : n ≤ 1048576) (hq : 0 < q) (hq2 : q ≤ 1048576) :
    Calls Tryd.prog 17 #[a, .int .i64 (q : Int)] w fun e w' => e = .returned (.int .i64 ((q + n : Nat) : Int)) ∧ SliceS w' B a n (fun j => markT (q + j)) ∧ (∀ B', B' ≤ B → B' ≤ w.heap.size → Below B' w w') := by
  obtain ⟨p, cap, rfl, h1⟩ := ha
  cases n with
  | zero =>
    clear h1
    go_enter Tryd.func17, Tryd.ntmps17
    go_wp2
    go_loop [1, 5] (fun kk i => kk = .int .i64 (q : Int) ∧ i = .int .i64 0) (fun _ _ => 0)
    case atStart => exact ⟨rfl, rfl⟩
    case round =>
      obtain ⟨rfl, rfl⟩ := hrel
      go_wp2
      go_ret
      exact ⟨rfl, ⟨p, cap, rfl, fun h => absurd h (by omega)⟩, fun _ _ _ => Below.refl _ _⟩
  | succ n =>
    obtain ⟨g, rfl, hBg, hg, hc⟩ := h1 (by omega)
    clear h1
    have HC : Hid (∀ j, j < n + 1 → w.cell? ⟨g, j, none⟩ = some (.string (f j)) ∧ w.frozen? ⟨g, j, none⟩ = false) := hc
    clear hc
    have HM : Hid (∀ (m : Nat) (W : World), 0 < m → m ≤ 9223372036854775807 → Calls Tryd.prog 38 #[.int .i64 (m : Int)] W fun e w' => e = .returned (.string (markT m)) ∧ Below W.heap.size W w') := fun m W h1 h2 => markText_any m W h1 h2
    go_enter Tryd.func17, Tryd.ntmps17
    go_wp2
    go_loopw [1, 5] (fun kk i wr => ∃ k : Nat, k ≤ n + 1 ∧ i = .int .i64 k ∧ kk = .int .i64 ((q + k : Nat) : Int)  ∧ g < wr.heap.size ∧ w.heap.size ≤ wr.heap.size ∧ Hid (∀ j, j < n + 1 → wr.cell? ⟨g, j, none⟩ = some (.string (marked f q k j)) ∧ wr.frozen? ⟨g, j, none⟩ = false) ∧ Hid (∀ B', B' ≤ B → B' ≤ w.heap.size → Below B' w wr)) (fun _ i _ => n + 1 - (intOf i).toNat)
    case atStart => exact ⟨0, by omega, rfl, rfl, hg, Nat.le_refl _, HC, fun _ _ _ => Below.refl _ _⟩
    case round =>
      obtain ⟨k, hk, rfl, rfl, hgr, hwr, HR, HB⟩ := hrel
      by_cases hlt : k < n + 1
      · have k0 : (0 : Int) ≤ k := by omega
        have k1 : (k : Int) < (n : Int) + 1 := by omega
        have HN : Hid (∀ W, Calls Tryd.prog 38 #[.int .i64 ((q : Int) + (k : Int))] W fun e w' => e = .returned (.string (markT (q + k))) ∧ Below W.heap.size W w') := fun W => HM.out (q + k) W (by omega) (by omega)
        go_wp2_with fail
        refine (HN.out _).mono ?_
        rintro e w1 ⟨rfl, hb⟩
        have hs := hb.size
        have c1 : w1.cell? ⟨g, k, none⟩ = some (.string (marked f q k k)) := by rw [(bcell hb).1 _ _ hgr]; exact (HR.out k hlt).1
        have c2 : w1.frozen? ⟨g, k, none⟩ = false := by rw [(bcell hb).2 _ _ hgr]; exact (HR.out k hlt).2
        have HR1 : Hid (∀ j, j < n + 1 → w1.cell? ⟨g, j, none⟩ = some (.string (marked f q k j)) ∧ w1.frozen? ⟨g, j, none⟩ = false) := fun j hj => ⟨by rw [(bcell hb).1 _ _ hgr]; exact (HR.out j hj).1, by rw [(bcell hb).2 _ _ hgr]; exact (HR.out j hj).2⟩
        have HB1 : Hid (∀ B', B' ≤ B → B' ≤ w.heap.size → Below B' w w1) := fun B' h1 h2 => (HB.out B' h1 h2).trans (hb.mono (by omega))
        clear hb
        generalize HT : markT (q + k) = t at *
        have HT' : Hid (markT (q + k) = t) := HT
        clear HT
        generalize marked f q k k = x at *
        go_wp2
        go_roundw
        case rel =>
          refine ⟨k + 1, by omega, by go_num, by go_num, ?_, ?_, ?_, ?_⟩
          · simp [World.setCell]; omega
          · simp [World.setCell]; omega
          · intro j hj
            by_cases e : j = k
            · subst e
              rw [marked_at, HT'.out]
              exact ⟨World.cell?_setCell_same _ _ _ c1, by rw [World.frozen?_setCell]; exact c2⟩
            · rw [marked_step f q k j e, World.cell?_setCell_other _ _ _ _ (by intro h; injection h with _ h; exact e h.symm), World.frozen?_setCell]
              exact HR1.out j hj
          · intro B' h1 h2
            exact (HB1.out B' h1 h2).setCell (by simpa using Nat.le_trans h1 hBg) _
        case measure => simp [intOf]; omega
      · obtain rfl : k = n + 1 := by omega
        go_wp2
        go_ret
        exact ⟨rfl, ⟨_, cap, rfl, fun _ => ⟨g, rfl, hBg, hgr, fun j hj => by have h := HR.out j hj; rw [marked_all f q (n + 1) j hj] at h; exact h⟩⟩, HB.out⟩

end Go.Proofs.YtclpamjgglfljaaDoor

/- What the laws do with a Pair besides their calls: its size is looked at, it is handed on field by field, two are held against each other. -/
namespace Go.Proofs.YtclpamjgglfljaaDoor
open Go.RowKit

end Go.Proofs.YtclpamjgglfljaaDoor

/- What the laws do with a slice of Pairs besides their calls. Written by slices.py. -/
namespace Go.Proofs.YtclpamjgglfljaaDoor
open Go.RowKit

/-- the mark of each cell -/
def markPairC (q j o : Nat) : Value := .string (markT (q + j * 2 + o))
/-- one cell turned -/
def updR (f : Nat → Nat → Value) (k o : Nat) (u : Value) (j p : Nat) : Value := if j = k ∧ p = o then u else f j p
theorem SliceR.congr {w : World} {B sz n : Nat} {v : Value} {f h : Nat → Nat → Value} (hs : SliceR w B sz v n f) (he : ∀ j, j < n → ∀ o, o < sz → f j o = h j o) : SliceR w B sz v n h := by
  obtain ⟨p, cap, rfl, hg⟩ := hs
  refine ⟨p, cap, rfl, fun hn => ?_⟩
  obtain ⟨g, rfl, hB, hlt, hc⟩ := hg hn
  exact ⟨g, rfl, hB, hlt, fun j hj o ho => by rw [← he j hj o ho]; exact hc j hj o ho⟩
theorem SliceR.set {w : World} {B sz n m g cap : Nat} {f : Nat → Nat → Value} (hs : SliceR w B sz (.slice (some ⟨g, 0, none⟩) m cap) n f) (k o : Nat) (hk : k < n) (ho : o < sz) (u : Value) : SliceR (w.setCell ⟨g, k * sz + o, none⟩ u) B sz (.slice (some ⟨g, 0, none⟩) m cap) n (updR f k o u) := by
  obtain ⟨p, cap', e, hg⟩ := hs
  injection e with e1 e2 e3
  subst e1 e2 e3
  refine ⟨_, _, rfl, fun hn => ?_⟩
  obtain ⟨g', e, hB, hlt, hc⟩ := hg hn
  injection e with e
  injection e with e
  subst e
  refine ⟨g, rfl, hB, by simpa [World.setCell] using hlt, fun j hj p hp => ⟨?_, ?_⟩⟩
  · unfold updR
    by_cases hjp : j = k ∧ p = o
    · rw [if_pos hjp, hjp.1, hjp.2]; exact World.cell?_setCell_same _ _ _ (hc k hk o ho).1
    · rw [if_neg hjp, World.cell?_setCell_other _ _ _ _ (by
        intro h
        injection h with _ h
        apply hjp
        by_cases hjk : j = k
        · subst hjk; exact ⟨rfl, by omega⟩
        · exfalso
          rcases Nat.lt_or_gt_of_ne hjk with hl | hl
          · have : (j + 1) * sz ≤ k * sz := Nat.mul_le_mul_right sz hl
            rw [Nat.add_mul, Nat.one_mul] at this; omega
          · have : (k + 1) * sz ≤ j * sz := Nat.mul_le_mul_right sz hl
            rw [Nat.add_mul, Nat.one_mul] at this; omega)]
      exact (hc j hj p hp).1
  · rw [World.frozen?_setCell]; exact (hc j hj p hp).2
theorem grownG_below {a w w' : World} {G : Nat} (h : a.grownBy w (some G)) (hb : Below w.heap.size w w') : a.grownBy w' (some G) :=
  ⟨hb.os.trans h.os, hb.tape.trans h.tape, hb.output.trans h.output, Nat.le_trans h.size hb.size, fun k hk hne => (hb.block k (Nat.lt_of_lt_of_le hk h.size)).trans (h.block k hk hne)⟩
theorem grownG_set {a w : World} {G : Nat} (h : a.grownBy w (some G)) (o : Nat) (v : Value) : a.grownBy (w.setCell ⟨G, o, none⟩ v) (some G) :=
  ⟨h.os, h.tape, h.output, by simpa [World.setCell] using h.size, fun k hk hne => (Below.heap_setCell _ _ _ _ (fun e => hne (congrArg some e))).trans (h.block k hk hne)⟩
end Go.Proofs.YtclpamjgglfljaaDoor

/- What a list of cells holds, kept by whatever leaves old blocks as they were. -/
namespace Go.Proofs.YtclpamjgglfljaaDoor
open Go.RowKit
theorem cell_in {W : World} {p : Addr} {v : Value} (h : W.cell? p = some v) : p.block < W.heap.size := by
  by_cases hb : p.block < W.heap.size
  · exact hb
  · exfalso
    simp [World.cell?, Array.getElem?_eq_none (show W.heap.size ≤ p.block by omega)] at h
/-- what these cells hold -/
def Cells (W : World) : List (Addr × Value) → Prop
  | [] => True
  | p :: L => W.cell? p.1 = some p.2 ∧ Cells W L
theorem Cells.below {W W' : World} : ∀ {L : List (Addr × Value)}, Cells W L → Below W.heap.size W W' → Cells W' L
  | [], _, _ => trivial
  | _ :: _, h, hb => ⟨(@Below.cell _ _ _ hb _ (cell_in h.1)).trans h.1, Cells.below h.2 hb⟩
theorem Cells.join {W : World} : ∀ {L M : List (Addr × Value)}, Cells W L → Cells W M → Cells W (L ++ M)
  | [], _, _, h => h
  | _ :: _, _, h, k => ⟨h.1, Cells.join h.2 k⟩
/-- a slice of texts, wherever it lies -/
def SliceH (w : World) (v : Value) (n : Nat) (f : Nat → ByteArray) : Prop := Hid (SliceS w 0 v n f)
theorem SliceH.out {w : World} {v : Value} {n : Nat} {f : Nat → ByteArray} (h : SliceH w v n f) : SliceS w 0 v n f := Hid.out h
theorem strip {w : World} {B n : Nat} {v : Value} {f : Nat → ByteArray} (h : SliceS w B v n f) : SliceH w v n f := by
  obtain ⟨p, cap, rfl, h⟩ := h
  exact (⟨p, cap, rfl, fun hn => by obtain ⟨g, e, _, r⟩ := h hn; exact ⟨g, e, Nat.zero_le _, r⟩⟩ : SliceS w 0 _ n f)
theorem SliceH.below {w w' : World} {v : Value} {n : Nat} {f : Nat → ByteArray} (h : SliceH w v n f) (hb : Below w.heap.size w w') : SliceH w' v n f := SliceS.below h.out hb
end Go.Proofs.YtclpamjgglfljaaDoor

/- Slices of frames; a slice of frames that came in; the laws' szFrameS, toFrameS and eqFrameS over it. Written by rowsin.py. -/
namespace Go.Proofs.YtclpamjgglfljaaDoor
open Go.ChangeShapes Go.WideShapes Go.ChangeAt Go.RowKit Go.Joins Go.Deep

theorem fr_wf {n : Int} (h : (Lit.int .i64 n).wf = true) : -9223372036854775808 ≤ n ∧ n ≤ 9223372036854775807 := by
  simp [Lit.wf] at h
  have e1 : IntKind.i64.min = -9223372036854775808 := by decide
  have e2 : IntKind.i64.max = 9223372036854775807 := by decide
  omega
def atF (L : List Fr) (j : Nat) : Fr := L.getD j frNone
/-- the cells of frames -/
def frR (L : List Fr) (j o : Nat) : Value := frC (atF L j) o
/-- a slice of frames -/
def SliceF (w : World) (B : Nat) (v : Value) (L : List Fr) : Prop := SliceR w B 9 v L.length (frR L) ∧ ∃ p c, v = .slice p L.length c ∧ L.length ≤ c ∧ (p = none → c = 0)
theorem SliceF.below {w w' : World} {B : Nat} {v : Value} {L : List Fr} (h : SliceF w B v L) (hb : Below w.heap.size w w') : SliceF w' B v L := ⟨h.1.below hb, h.2⟩
theorem SliceF.mono {w : World} {B B' : Nat} {v : Value} {L : List Fr} (h : SliceF w B v L) (hB : B' ≤ B) : SliceF w B' v L := ⟨h.1.mono hB, h.2⟩
set_option maxRecDepth 10000 in
theorem trod_cellsFr {H : Type} {enc : TypeId × Value → H} {w : World} {base : Nat} {spare : Nat → Bool} {held : Bool} {fuel : Nat} {v0 v1 v2 v3 v4 v5 v6 v7 v8 : Value} {x : DataW H × List MemPlace} (h : DataW.trod enc Tryd.prog w base spare held fuel 47 [v0, v1, v2, v3, v4, v5, v6, v7, v8] = some x) :
    ∃ (y0 y1 y2 y3 y4 y5 y6 y7 y8 : DataW H × List MemPlace) (n m : Nat), DataW.trod enc Tryd.prog w base spare held n 2 [v0] = some y0 ∧ DataW.trod enc Tryd.prog w base spare held n 2 [v1] = some y1 ∧ DataW.trod enc Tryd.prog w base spare held m 9 [v2] = some y2 ∧ DataW.trod enc Tryd.prog w base spare held m 9 [v3] = some y3 ∧ DataW.trod enc Tryd.prog w base spare held m 2 [v4] = some y4 ∧ DataW.trod enc Tryd.prog w base spare held m 9 [v5] = some y5 ∧ DataW.trod enc Tryd.prog w base spare held n 4 [v6] = some y6 ∧ DataW.trod enc Tryd.prog w base spare held n 4 [v7] = some y7 ∧ DataW.trod enc Tryd.prog w base spare held n 2 [v8] = some y8 := by
  have k1 : Tryd.prog.cellsOf 2 = 1 := by kernel_rfl
  have k2 : Tryd.prog.cellsOf 4 = 1 := by kernel_rfl
  have k3 : Tryd.prog.cellsOf 9 = 1 := by kernel_rfl
  have k4 : Tryd.prog.cellsOf 25 = 4 := by kernel_rfl
  obtain ⟨a0, a1, a2, a3, a4, a5, n, h0, h1, h2, h3, h4, h5⟩ := trod_struct6 Tryd.underlying47 h
  simp only [k1, k2, k4, List.drop_zero, List.drop_succ_cons, List.take_succ_cons, List.take_zero] at h0 h1 h2 h3 h4 h5
  obtain ⟨b0, b1, b2, b3, m, g0, g1, g2, g3⟩ := trod_struct4 Tryd.underlying25 h2
  simp only [k1, k3, List.drop_zero, List.drop_succ_cons, List.take_succ_cons, List.take_zero] at g0 g1 g2 g3
  exact ⟨a0, a1, b0, b1, b2, b3, a3, a4, a5, n, m, h0, h1, g0, g1, g2, g3, h3, h4, h5⟩
/-- frames that a slice leads to -/
def FrRow (w : World) (a : Option Addr) (L : List Fr) : Prop := ∀ i, i < L.length → ∃ x, a = some x ∧ x.block < w.heap.size ∧ (∀ o, o < 9 → w.cell? (x.add (i * 9 + o)) = some (frC (atF L i) o)) ∧ (atF L i).sc.size ≤ maxLen ∧ (atF L i).ho.size ≤ maxLen ∧ (atF L i).pt.size ≤ maxLen ∧ -9223372036854775808 ≤ (atF L i).id ∧ (atF L i).id ≤ 9223372036854775807 ∧ -9223372036854775808 ≤ (atF L i).pa ∧ (atF L i).pa ≤ 9223372036854775807 ∧ -9223372036854775808 ≤ (atF L i).po ∧ (atF L i).po ≤ 9223372036854775807 ∧ -9223372036854775808 ≤ (atF L i).tc ∧ (atF L i).tc ≤ 9223372036854775807
theorem FrRow.below {w w' : World} {a : Option Addr} {L : List Fr} (h : FrRow w a L) (hb : Below w.heap.size w w') : FrRow w' a L := by
  intro i hi
  obtain ⟨x, e, hx, hc, hs⟩ := h i hi
  exact ⟨x, e, Nat.lt_of_lt_of_le hx hb.size, fun o ho => by rw [hb.cell (p := x.add (i * 9 + o)) (by rw [addr_blk]; exact hx)]; exact hc o ho, hs⟩
theorem listFr {α : Type} {cs : List α} (h : cs.length = 9) : ∃ c0 c1 c2 c3 c4 c5 c6 c7 c8, cs = [c0, c1, c2, c3, c4, c5, c6, c7, c8] := by
  match cs, h with
  | [c0, c1, c2, c3, c4, c5, c6, c7, c8], _ => exact ⟨c0, c1, c2, c3, c4, c5, c6, c7, c8, rfl⟩
set_option maxRecDepth 10000 in
set_option maxHeartbeats 4000000 in
theorem frRow_of {H : Type} {enc : TypeId × Value → H} {W : World} {a : Option Addr} {len cap : Nat} {d : DataW H} {p : List MemPlace}
    (h : ∃ fuel, DataW.trod enc Tryd.prog W 0 (fun _ => true) true fuel 22 (Value.slice a len cap).cells.toList = some (d, p)) : (∃ L, L.length = len ∧ FrRow W a L) ∧ len ≤ maxLen := by
  obtain ⟨fuel, hf⟩ := h
  rcases Go.Deep.open_slice Tryd.underlying22 hf with ⟨hcs, _⟩ | ⟨x, l, c, m, n, D, Pl, hcs, _, hl, hm, hmm, _, hcell⟩
  · simp [Value.cells] at hcs
    obtain ⟨rfl, rfl, rfl⟩ := hcs
    exact ⟨⟨[], rfl, fun i hi => absurd hi (by simp)⟩, Nat.zero_le _⟩
  · simp [Value.cells] at hcs
    obtain ⟨rfl, rfl, rfl⟩ := hcs
    have hmc : m = cap := by simpa using hmm
    have ce : Tryd.prog.cellsOf 47 = 9 := by kernel_rfl
    have each : ∀ i, i < len → ∃ q : Fr, (∀ o, o < 9 → W.cell? (x.add (i * 9 + o)) = some (frC q o)) ∧ q.sc.size ≤ maxLen ∧ q.ho.size ≤ maxLen ∧ q.pt.size ≤ maxLen ∧ -9223372036854775808 ≤ q.id ∧ q.id ≤ 9223372036854775807 ∧ -9223372036854775808 ≤ q.pa ∧ q.pa ≤ 9223372036854775807 ∧ -9223372036854775808 ≤ q.po ∧ q.po ≤ 9223372036854775807 ∧ -9223372036854775808 ≤ q.tc ∧ q.tc ≤ 9223372036854775807 := fun i hi => by
      obtain ⟨cs', h1, h2⟩ := hcell i (by omega)
      rw [ce] at h1
      obtain ⟨_, hlen, hc⟩ := World.cells?_some h1
      obtain ⟨v0, v1, v2, v3, v4, v5, v6, v7, v8, rfl⟩ := listFr hlen
      obtain ⟨y0, y1, y2, y3, y4, y5, y6, y7, y8, n', m', g0, g1, g2, g3, g4, g5, g6, g7, g8⟩ := trod_cellsFr h2
      obtain ⟨s0, e0, -, z0⟩ := DataW.trod_int Tryd.underlying2 g0
      obtain ⟨s1, e1, -, z1⟩ := DataW.trod_int Tryd.underlying2 g1
      obtain ⟨s2, e2, -, z2⟩ := DataW.trod_string Tryd.underlying9 g2
      obtain ⟨s3, e3, -, z3⟩ := DataW.trod_string Tryd.underlying9 g3
      obtain ⟨s4, e4, -, z4⟩ := DataW.trod_int Tryd.underlying2 g4
      obtain ⟨s5, e5, -, z5⟩ := DataW.trod_string Tryd.underlying9 g5
      obtain ⟨s6, e6, -⟩ := DataW.trod_bool Tryd.underlying4 g6
      obtain ⟨s7, e7, -⟩ := DataW.trod_bool Tryd.underlying4 g7
      obtain ⟨s8, e8, -, z8⟩ := DataW.trod_int Tryd.underlying2 g8
      simp only [List.cons.injEq, and_true] at e0 e1 e2 e3 e4 e5 e6 e7 e8
      subst e0 e1 e2 e3 e4 e5 e6 e7 e8
      refine ⟨⟨s0, s1, s2, s3, s4, s5, s6, s7, s8⟩, fun o ho => ?_, z2, z3, z5, (fr_wf z0).1, (fr_wf z0).2, (fr_wf z1).1, (fr_wf z1).2, (fr_wf z4).1, (fr_wf z4).2, (fr_wf z8).1, (fr_wf z8).2⟩
      have hco := hc o ho
      rw [add_add] at hco
      rw [hco]
      match o, ho with
      | 0, _ => rfl
      | 1, _ => rfl
      | 2, _ => rfl
      | 3, _ => rfl
      | 4, _ => rfl
      | 5, _ => rfl
      | 6, _ => rfl
      | 7, _ => rfl
      | 8, _ => rfl
    obtain ⟨q, hq⟩ := @Go.Deep.choose_lt Fr ⟨frNone⟩ len _ each
    refine ⟨⟨(List.range len).map q, by simp, fun i hi => ?_⟩, by omega⟩
    have hi' : i < len := by simpa using hi
    have e : atF ((List.range len).map q) i = q i := by simp [atF, hi']
    rw [e]
    refine ⟨x, rfl, ?_, hq i hi'⟩
    have := World.block_lt_of_cell? W _ ((hq i hi').1 0 (by omega))
    rw [addr_blk] at this; exact this
set_option maxRecDepth 10000 in
set_option maxHeartbeats 4000000 in
theorem szFrameS_any (a : Option Addr) (cap : Nat) (L : List Fr) (l : Int) (w : World) (hr : FrRow w a L) (hn : L.length ≤ maxLen) (h0 : 0 ≤ l) (h1 : l ≤ 1048576) :
    Calls Tryd.prog 5 #[.slice a L.length cap, .int .i64 l] w fun e w' => (∃ r : Int, e = .returned (.int .i64 r) ∧ (r < 0 ∨ (0 ≤ r ∧ r ≤ 1048576 ∧ L.length ≤ 1048576 ∧ ∀ i, i < L.length → (atF L i).sc.size + (atF L i).ho.size + (atF L i).pt.size ≤ 1048576))) ∧ Below w.heap.size w w' := by
  unfold maxLen at hn
  by_cases hl : l < L.length
  · have q : decide (l - (L.length : Int) < 0) = true := by rw [decide_eq_true_iff]; omega
    go_enter Tryd.func5, Tryd.ntmps5
    go_wp2
    go_ret
    exact ⟨⟨_, rfl, .inl (by decide)⟩, Below.refl _ _⟩
  have q : decide (l - (L.length : Int) < 0) = false := by rw [decide_eq_false_iff_not]; omega
  have HR : Hid (FrRow w a L) := hr
  clear hr
  go_enter Tryd.func5, Tryd.ntmps5
  go_wp2
  go_loopw [1, 5] (fun v i wr => ∃ (k : Nat) (z : Int), k ≤ L.length ∧ v = .int .i64 z ∧ i = .int .i64 k ∧ 0 ≤ z ∧ z ≤ 1048576 ∧ Hid (∀ i, i < k → (atF L i).sc.size + (atF L i).ho.size + (atF L i).pt.size ≤ 1048576) ∧ Hid (Below w.heap.size w wr)) (fun _ i _ => L.length - (intOf i).toNat)
  case atStart => exact ⟨0, _, Nat.zero_le _, rfl, rfl, by omega, by omega, fun i hi => absurd hi (by omega), Below.refl _ _⟩
  case round =>
    obtain ⟨k, z, hk, rfl, rfl, z0, zl, HS, HB⟩ := hrel
    by_cases hlt : k < L.length
    · obtain ⟨x, rfl, hx, hc, hs2, hs3, hs5, -⟩ := HR.out.below HB.out k hlt
      have c0 : wr.cell? (x.add (k * 9)) = some (.int .i64 (atF L k).id) := hc 0 (by omega)
      have c1 : wr.cell? ⟨(x.add (k * 9)).block, (x.add (k * 9)).off + 1, none⟩ = some (.int .i64 (atF L k).pa) := by rw [show (.int .i64 (atF L k).pa) = frC (atF L k) 1 from rfl, ← hc 1 (by omega), ← add_add]; rfl
      have c2 : wr.cell? ⟨(x.add (k * 9)).block, (x.add (k * 9)).off + 2, none⟩ = some (.string (atF L k).sc) := by rw [show (.string (atF L k).sc) = frC (atF L k) 2 from rfl, ← hc 2 (by omega), ← add_add]; rfl
      have c3 : wr.cell? ⟨(x.add (k * 9)).block, (x.add (k * 9)).off + 3, none⟩ = some (.string (atF L k).ho) := by rw [show (.string (atF L k).ho) = frC (atF L k) 3 from rfl, ← hc 3 (by omega), ← add_add]; rfl
      have c4 : wr.cell? ⟨(x.add (k * 9)).block, (x.add (k * 9)).off + 4, none⟩ = some (.int .i64 (atF L k).po) := by rw [show (.int .i64 (atF L k).po) = frC (atF L k) 4 from rfl, ← hc 4 (by omega), ← add_add]; rfl
      have c5 : wr.cell? ⟨(x.add (k * 9)).block, (x.add (k * 9)).off + 5, none⟩ = some (.string (atF L k).pt) := by rw [show (.string (atF L k).pt) = frC (atF L k) 5 from rfl, ← hc 5 (by omega), ← add_add]; rfl
      have c6 : wr.cell? ⟨(x.add (k * 9)).block, (x.add (k * 9)).off + 6, none⟩ = some (.bool (atF L k).sb) := by rw [show (.bool (atF L k).sb) = frC (atF L k) 6 from rfl, ← hc 6 (by omega), ← add_add]; rfl
      have c7 : wr.cell? ⟨(x.add (k * 9)).block, (x.add (k * 9)).off + 7, none⟩ = some (.bool (atF L k).fl) := by rw [show (.bool (atF L k).fl) = frC (atF L k) 7 from rfl, ← hc 7 (by omega), ← add_add]; rfl
      have c8 : wr.cell? ⟨(x.add (k * 9)).block, (x.add (k * 9)).off + 8, none⟩ = some (.int .i64 (atF L k).tc) := by rw [show (.int .i64 (atF L k).tc) = frC (atF L k) 8 from rfl, ← hc 8 (by omega), ← add_add]; rfl
      have KZ : Hid (∀ W, Calls Tryd.prog 22 #[.agg #[.int .i64 (atF L k).id, .int .i64 (atF L k).pa, .string (atF L k).sc, .string (atF L k).ho, .int .i64 (atF L k).po, .string (atF L k).pt, .bool (atF L k).sb, .bool (atF L k).fl, .int .i64 (atF L k).tc], .int .i64 z] W fun e w' => (∃ r : Int, e = .returned (.int .i64 r) ∧ (r < 0 ∨ (0 ≤ r ∧ r ≤ 1048576 ∧ (atF L k).sc.size + (atF L k).ho.size + (atF L k).pt.size ≤ 1048576))) ∧ Below W.heap.size W w') := fun W => szFrame_at (atF L k).id (atF L k).pa (atF L k).sc (atF L k).ho (atF L k).po (atF L k).pt (atF L k).sb (atF L k).fl (atF L k).tc z W hs2 hs3 hs5 z0 zl
      have k0 : (0 : Int) ≤ k := by omega
      have k1 : (k : Int) < L.length := by omega
      have HN : Hid ((atF L k).sc.size + (atF L k).ho.size + (atF L k).pt.size ≤ 1048576 → ∀ i, i < k + 1 → (atF L i).sc.size + (atF L i).ho.size + (atF L i).pt.size ≤ 1048576) := fun hs i hi => by
        by_cases e : i = k
        · subst e; exact hs
        · exact HS.out i (by omega)
      clear hc hs2 hs3 hs5
      generalize atF L k = y at *
      obtain ⟨id, pa, sc, ho, po, pt, sb, fl, tc⟩ := y
      dsimp only at *
      go_wp2_with fail
      refine (KZ.out _).mono ?_
      rintro e w1 ⟨⟨r, rfl, hr⟩, hb1⟩
      have B1 : Hid (Below w.heap.size w w1) := HB.out.trans (hb1.mono HB.out.size)
      clear hb1 c0 c1 c2 c3 c4 c5 c6 c7 c8
      rcases hr with hr | ⟨r0, r1, hsum⟩
      · have q2 : decide (r < 0) = true := by rw [decide_eq_true_iff]; exact hr
        go_wp2
        go_ret
        exact ⟨⟨_, rfl, .inl (by decide)⟩, B1.out⟩
      · have q2 : decide (r < 0) = false := by rw [decide_eq_false_iff_not]; omega
        have HN2 : Hid (∀ i, i < k + 1 → (atF L i).sc.size + (atF L i).ho.size + (atF L i).pt.size ≤ 1048576) := HN.out hsum
        clear hsum
        go_wp2
        go_roundw
        case rel => exact ⟨k + 1, r, by omega, rfl, by go_num, r0, r1, HN2, B1⟩
        case measure => simp [intOf]; omega
    · go_wp2
      go_ret
      exact ⟨⟨_, rfl, .inr ⟨z0, zl, by omega, fun i hi => HS.out i (by omega)⟩⟩, HB.out⟩
theorem infoFrame : (Tryd.prog.info? 54).map (fun i => (i.zero, i.size, i.bytes)) = some (some (.agg #[.int .i64 0, .int .i64 0, .string ⟨#[]⟩, .string ⟨#[]⟩, .int .i64 0, .string ⟨#[]⟩, .bool false, .bool false, .int .i64 0]), 9, 88) := by kernel_rfl
/-- the first k as they are, the others empty -/
def uptoF (L : List Fr) (k j o : Nat) : Value := if j < k then frC (atF L j) o else frC frNone o
theorem make_Frames (w : World) (n : Nat) (hn : n ≤ 1048576) :
    ∃ w', Sem.run Tryd.prog (Instr.makeSlice 29 (.int .i64 (n : Int)) (.int .i64 (n : Int))) w = .ok (.slice (some ⟨w.heap.size, 0, none⟩) n n) w' ∧ SliceR w' w.heap.size 9 (.slice (some ⟨w.heap.size, 0, none⟩) n n) n (fun _ o => frC frNone o) ∧ w.heap.size < w'.heap.size ∧ Below w.heap.size w w' := by
  obtain ⟨i, h2, h3, h4, h5⟩ := info_parts infoFrame
  have hrun := run_make (P := Tryd.prog) w 29 54 i (.agg #[.int .i64 0, .int .i64 0, .string ⟨#[]⟩, .string ⟨#[]⟩, .int .i64 0, .string ⟨#[]⟩, .bool false, .bool false, .int .i64 0]) Tryd.underlying29 h2 h3 .i64 .i64 n n (by omega) (Int.le_refl _) (by rw [h5]; omega) (by omega)
  simp only [Int.toNat_natCast, h4] at hrun
  refine ⟨_, hrun, ?_, by simp, (Below.refl _ _).alloc (Nat.le_refl _) _⟩
  refine ⟨_, _, rfl, fun _ => ⟨w.heap.size, rfl, Nat.le_refl _, by simp, fun j hj o ho => ⟨?_, by simp⟩⟩⟩
  rw [World.cell?_alloc_new]
  have hz : j * 9 + o < n * 9 := by omega
  have hm : (j * 9 + o) % 9 = o := by omega
  have e : (madeCells (Value.agg #[.int .i64 0, .int .i64 0, .string ⟨#[]⟩, .string ⟨#[]⟩, .int .i64 0, .string ⟨#[]⟩, .bool false, .bool false, .int .i64 0]).cells (n * 9))[j * 9 + o]? = some (frC frNone o) := by
    rw [Array.getElem?_eq_some_iff]
    refine ⟨by rw [size_madeCells]; exact hz, ?_⟩
    unfold madeCells
    rw [Array.getElem_map, Array.getElem_range]
    show (#[.int .i64 0, .int .i64 0, .string ⟨#[]⟩, .string ⟨#[]⟩, .int .i64 0, .string ⟨#[]⟩, .bool false, .bool false, .int .i64 0] : Array Value)[(j * 9 + o) % 9]! = _
    rw [hm]
    match o, ho with
    | 0, _ => rfl
    | 1, _ => rfl
    | 2, _ => rfl
    | 3, _ => rfl
    | 4, _ => rfl
    | 5, _ => rfl
    | 6, _ => rfl
    | 7, _ => rfl
    | 8, _ => rfl
  exact e
/-- ten cells written: one frame put at its place -/
theorem SliceR.putFr {w : World} {B n m g cap : Nat} {f : Nat → Nat → Value} (hs : SliceR w B 9 (.slice (some ⟨g, 0, none⟩) m cap) n f) (k : Nat) (hk : k < n) (c : Fr) :
    SliceR (((((((((w.setCell ⟨g, k * 9 + 0, none⟩ (.int .i64 c.id)).setCell ⟨g, k * 9 + 1, none⟩ (.int .i64 c.pa)).setCell ⟨g, k * 9 + 2, none⟩ (.string c.sc)).setCell ⟨g, k * 9 + 3, none⟩ (.string c.ho)).setCell ⟨g, k * 9 + 4, none⟩ (.int .i64 c.po)).setCell ⟨g, k * 9 + 5, none⟩ (.string c.pt)).setCell ⟨g, k * 9 + 6, none⟩ (.bool c.sb)).setCell ⟨g, k * 9 + 7, none⟩ (.bool c.fl)).setCell ⟨g, k * 9 + 8, none⟩ (.int .i64 c.tc)) B 9 (.slice (some ⟨g, 0, none⟩) m cap) n (fun j o => if j = k then frC c o else f j o) := by
  refine SliceR.congr (SliceR.set (SliceR.set (SliceR.set (SliceR.set (SliceR.set (SliceR.set (SliceR.set (SliceR.set (SliceR.set (hs) k 0 hk (by omega) _) k 1 hk (by omega) _) k 2 hk (by omega) _) k 3 hk (by omega) _) k 4 hk (by omega) _) k 5 hk (by omega) _) k 6 hk (by omega) _) k 7 hk (by omega) _) k 8 hk (by omega) _) (fun j hj o ho => ?_)
  by_cases e : j = k
  · subst e
    match o, ho with
    | 0, _ => simp [updR, frC]
    | 1, _ => simp [updR, frC]
    | 2, _ => simp [updR, frC]
    | 3, _ => simp [updR, frC]
    | 4, _ => simp [updR, frC]
    | 5, _ => simp [updR, frC]
    | 6, _ => simp [updR, frC]
    | 7, _ => simp [updR, frC]
    | 8, _ => simp [updR, frC]
  · simp [updR, e]
set_option maxRecDepth 10000 in
set_option maxHeartbeats 4000000 in
theorem toFrameS_any (a : Option Addr) (cap : Nat) (L : List Fr) (w : World) (hr : FrRow w a L) (hn : L.length ≤ 1048576) :
    Calls Tryd.prog 9 #[.slice a L.length cap] w fun e w' => ∃ v, e = .returned v ∧ SliceF w' w.heap.size v L ∧ Below w.heap.size w w' := by
  have HR : Hid (FrRow w a L) := hr
  clear hr
  obtain ⟨w1, hmk, hs1, hz1, hb1⟩ := make_Frames w L.length hn
  have HS1 : Hid (SliceR w1 w.heap.size 9 (.slice (some ⟨w.heap.size, 0, none⟩) L.length L.length) L.length (uptoF L 0)) := SliceR.congr hs1 (fun j _ o _ => by unfold uptoF; rw [if_neg (by omega)])
  have HB1 : Hid (Below w.heap.size w w1) := hb1
  clear hs1 hb1
  go_enter Tryd.func9, Tryd.ntmps9
  go_wp2
  clear hmk
  go_loopw [4] (fun i wr => ∃ k : Nat, k ≤ L.length ∧ i = .int .i64 k ∧ Hid (SliceR wr w.heap.size 9 (.slice (some ⟨w.heap.size, 0, none⟩) L.length L.length) L.length (uptoF L k)) ∧ Hid (Below w.heap.size w wr)) (fun i _ => L.length - (intOf i).toNat)
  case atStart => exact ⟨0, Nat.zero_le _, rfl, HS1, HB1⟩
  case round =>
    obtain ⟨k, hk, rfl, HS, HB⟩ := hrel
    by_cases hlt : k < L.length
    · obtain ⟨x, rfl, hx, hc, -⟩ := HR.out.below HB.out k hlt
      have c0 : wr.cell? (x.add (k * 9)) = some (.int .i64 (atF L k).id) := hc 0 (by omega)
      have c1 : wr.cell? ⟨(x.add (k * 9)).block, (x.add (k * 9)).off + 1, none⟩ = some (.int .i64 (atF L k).pa) := by rw [show (.int .i64 (atF L k).pa) = frC (atF L k) 1 from rfl, ← hc 1 (by omega), ← add_add]; rfl
      have c2 : wr.cell? ⟨(x.add (k * 9)).block, (x.add (k * 9)).off + 2, none⟩ = some (.string (atF L k).sc) := by rw [show (.string (atF L k).sc) = frC (atF L k) 2 from rfl, ← hc 2 (by omega), ← add_add]; rfl
      have c3 : wr.cell? ⟨(x.add (k * 9)).block, (x.add (k * 9)).off + 3, none⟩ = some (.string (atF L k).ho) := by rw [show (.string (atF L k).ho) = frC (atF L k) 3 from rfl, ← hc 3 (by omega), ← add_add]; rfl
      have c4 : wr.cell? ⟨(x.add (k * 9)).block, (x.add (k * 9)).off + 4, none⟩ = some (.int .i64 (atF L k).po) := by rw [show (.int .i64 (atF L k).po) = frC (atF L k) 4 from rfl, ← hc 4 (by omega), ← add_add]; rfl
      have c5 : wr.cell? ⟨(x.add (k * 9)).block, (x.add (k * 9)).off + 5, none⟩ = some (.string (atF L k).pt) := by rw [show (.string (atF L k).pt) = frC (atF L k) 5 from rfl, ← hc 5 (by omega), ← add_add]; rfl
      have c6 : wr.cell? ⟨(x.add (k * 9)).block, (x.add (k * 9)).off + 6, none⟩ = some (.bool (atF L k).sb) := by rw [show (.bool (atF L k).sb) = frC (atF L k) 6 from rfl, ← hc 6 (by omega), ← add_add]; rfl
      have c7 : wr.cell? ⟨(x.add (k * 9)).block, (x.add (k * 9)).off + 7, none⟩ = some (.bool (atF L k).fl) := by rw [show (.bool (atF L k).fl) = frC (atF L k) 7 from rfl, ← hc 7 (by omega), ← add_add]; rfl
      have c8 : wr.cell? ⟨(x.add (k * 9)).block, (x.add (k * 9)).off + 8, none⟩ = some (.int .i64 (atF L k).tc) := by rw [show (.int .i64 (atF L k).tc) = frC (atF L k) 8 from rfl, ← hc 8 (by omega), ← add_add]; rfl
      have KT : Hid (∀ W, Calls Tryd.prog 28 #[.agg #[.int .i64 (atF L k).id, .int .i64 (atF L k).pa, .string (atF L k).sc, .string (atF L k).ho, .int .i64 (atF L k).po, .string (atF L k).pt, .bool (atF L k).sb, .bool (atF L k).fl, .int .i64 (atF L k).tc]] W fun e w' => e = .returned (.agg #[.int .i64 (atF L k).id, .int .i64 (atF L k).pa, .string (atF L k).sc, .string (atF L k).ho, .int .i64 (atF L k).po, .string (atF L k).pt, .bool (atF L k).sb, .bool (atF L k).fl, .int .i64 (atF L k).tc]) ∧ Below W.heap.size W w') := fun W => toFrame_any _ _ _ _ _ _ _ _ _ W
      have HP : Hid (∀ w2 f, SliceR w2 w.heap.size 9 (.slice (some ⟨w.heap.size, 0, none⟩) L.length L.length) L.length f → SliceR (((((((((w2.setCell ⟨w.heap.size, k * 9 + 0, none⟩ (.int .i64 (atF L k).id)).setCell ⟨w.heap.size, k * 9 + 1, none⟩ (.int .i64 (atF L k).pa)).setCell ⟨w.heap.size, k * 9 + 2, none⟩ (.string (atF L k).sc)).setCell ⟨w.heap.size, k * 9 + 3, none⟩ (.string (atF L k).ho)).setCell ⟨w.heap.size, k * 9 + 4, none⟩ (.int .i64 (atF L k).po)).setCell ⟨w.heap.size, k * 9 + 5, none⟩ (.string (atF L k).pt)).setCell ⟨w.heap.size, k * 9 + 6, none⟩ (.bool (atF L k).sb)).setCell ⟨w.heap.size, k * 9 + 7, none⟩ (.bool (atF L k).fl)).setCell ⟨w.heap.size, k * 9 + 8, none⟩ (.int .i64 (atF L k).tc)) w.heap.size 9 (.slice (some ⟨w.heap.size, 0, none⟩) L.length L.length) L.length (fun j o => if j = k then frC (atF L k) o else f j o)) := fun w2 f hh => SliceR.putFr hh k hlt (atF L k)
      have HU : Hid (∀ j o, (if j = k then frC (atF L k) o else uptoF L k j o) = uptoF L (k + 1) j o) := fun j o => by
        unfold uptoF
        by_cases e : j = k
        · subst e; rw [if_pos rfl, if_pos (by omega)]
        · rw [if_neg e]
          by_cases h : j < k
          · rw [if_pos h, if_pos (by omega)]
          · rw [if_neg h, if_neg (by omega)]
      have k0 : (0 : Int) ≤ k := by omega
      have k1 : (k : Int) < L.length := by omega
      clear hc
      generalize atF L k = y at *
      obtain ⟨id, pa, sc, ho, po, pt, sb, fl, tc⟩ := y
      dsimp only at *
      go_wp2_with fail
      refine (KT.out _).mono ?_
      rintro e w2 ⟨rfl, hb2⟩
      have S2 : Hid (SliceR w2 w.heap.size 9 (.slice (some ⟨w.heap.size, 0, none⟩) L.length L.length) L.length (uptoF L k)) := SliceR.below HS.out hb2
      have B2 : Hid (Below w.heap.size w w2) := HB.out.trans (hb2.mono HB.out.size)
      clear hb2 hx c0 c1 c2 c3 c4 c5 c6 c7 c8
      obtain ⟨d0, f0, d1, f1, d2, f2, d3, f3, d4, f4, d5, f5, d6, f6, d7, f7, d8, f8⟩ : w2.cell? ⟨w.heap.size, k * 9, none⟩ = some (uptoF L k k 0) ∧ w2.frozen? ⟨w.heap.size, k * 9, none⟩ = false ∧ w2.cell? ⟨w.heap.size, k * 9 + 1, none⟩ = some (uptoF L k k 1) ∧ w2.frozen? ⟨w.heap.size, k * 9 + 1, none⟩ = false ∧ w2.cell? ⟨w.heap.size, k * 9 + 2, none⟩ = some (uptoF L k k 2) ∧ w2.frozen? ⟨w.heap.size, k * 9 + 2, none⟩ = false ∧ w2.cell? ⟨w.heap.size, k * 9 + 3, none⟩ = some (uptoF L k k 3) ∧ w2.frozen? ⟨w.heap.size, k * 9 + 3, none⟩ = false ∧ w2.cell? ⟨w.heap.size, k * 9 + 4, none⟩ = some (uptoF L k k 4) ∧ w2.frozen? ⟨w.heap.size, k * 9 + 4, none⟩ = false ∧ w2.cell? ⟨w.heap.size, k * 9 + 5, none⟩ = some (uptoF L k k 5) ∧ w2.frozen? ⟨w.heap.size, k * 9 + 5, none⟩ = false ∧ w2.cell? ⟨w.heap.size, k * 9 + 6, none⟩ = some (uptoF L k k 6) ∧ w2.frozen? ⟨w.heap.size, k * 9 + 6, none⟩ = false ∧ w2.cell? ⟨w.heap.size, k * 9 + 7, none⟩ = some (uptoF L k k 7) ∧ w2.frozen? ⟨w.heap.size, k * 9 + 7, none⟩ = false ∧ w2.cell? ⟨w.heap.size, k * 9 + 8, none⟩ = some (uptoF L k k 8) ∧ w2.frozen? ⟨w.heap.size, k * 9 + 8, none⟩ = false := by
        obtain ⟨p, c, e, hh⟩ := S2.out
        injection e with e1
        obtain ⟨g, e2, -, -, hc⟩ := hh (by omega)
        rw [e2] at e1
        injection e1 with e1
        injection e1 with e1
        subst e1
        exact ⟨(hc k hlt 0 (by omega)).1, (hc k hlt 0 (by omega)).2, (hc k hlt 1 (by omega)).1, (hc k hlt 1 (by omega)).2, (hc k hlt 2 (by omega)).1, (hc k hlt 2 (by omega)).2, (hc k hlt 3 (by omega)).1, (hc k hlt 3 (by omega)).2, (hc k hlt 4 (by omega)).1, (hc k hlt 4 (by omega)).2, (hc k hlt 5 (by omega)).1, (hc k hlt 5 (by omega)).2, (hc k hlt 6 (by omega)).1, (hc k hlt 6 (by omega)).2, (hc k hlt 7 (by omega)).1, (hc k hlt 7 (by omega)).2, (hc k hlt 8 (by omega)).1, (hc k hlt 8 (by omega)).2⟩
      generalize uptoF L k k 0 = z0 at *
      generalize uptoF L k k 1 = z1 at *
      generalize uptoF L k k 2 = z2 at *
      generalize uptoF L k k 3 = z3 at *
      generalize uptoF L k k 4 = z4 at *
      generalize uptoF L k k 5 = z5 at *
      generalize uptoF L k k 6 = z6 at *
      generalize uptoF L k k 7 = z7 at *
      generalize uptoF L k k 8 = z8 at *
      have HN : Hid (SliceR (((((((((w2.setCell ⟨w.heap.size, k * 9 + 0, none⟩ (.int .i64 id)).setCell ⟨w.heap.size, k * 9 + 1, none⟩ (.int .i64 pa)).setCell ⟨w.heap.size, k * 9 + 2, none⟩ (.string sc)).setCell ⟨w.heap.size, k * 9 + 3, none⟩ (.string ho)).setCell ⟨w.heap.size, k * 9 + 4, none⟩ (.int .i64 po)).setCell ⟨w.heap.size, k * 9 + 5, none⟩ (.string pt)).setCell ⟨w.heap.size, k * 9 + 6, none⟩ (.bool sb)).setCell ⟨w.heap.size, k * 9 + 7, none⟩ (.bool fl)).setCell ⟨w.heap.size, k * 9 + 8, none⟩ (.int .i64 tc)) w.heap.size 9 (.slice (some ⟨w.heap.size, 0, none⟩) L.length L.length) L.length (uptoF L (k + 1))) := SliceR.congr (HP.out w2 _ S2.out) (fun j hj o ho => HU.out j o)
      go_wp2
      go_roundw
      case rel => exact ⟨k + 1, by omega, by go_num, HN, ((((((((B2.out.setCell (Nat.le_refl _) _).setCell (Nat.le_refl _) _).setCell (Nat.le_refl _) _).setCell (Nat.le_refl _) _).setCell (Nat.le_refl _) _).setCell (Nat.le_refl _) _).setCell (Nat.le_refl _) _).setCell (Nat.le_refl _) _).setCell (Nat.le_refl _) _⟩
      case measure => simp [intOf]; omega
    · go_wp2
      go_ret
      refine ⟨_, rfl, ⟨?_, _, _, rfl, Nat.le_refl _, fun h => by cases h⟩, HB.out⟩
      exact SliceR.congr HS.out (fun j hj o ho => by unfold uptoF frR; rw [if_pos (by omega)])
set_option maxRecDepth 10000 in
set_option maxHeartbeats 8000000 in
theorem eqFrameS_any (a b : Value) (L : List Fr) (B B' : Nat) (w : World) (ha : SliceF w B a L) (hb : SliceF w B' b L) (hn : L.length ≤ 1048576) :
    Calls Tryd.prog 14 #[a, b] w fun e w' => e = .returned (.bool true) ∧ Below w.heap.size w w' := by
  obtain ⟨⟨p, cap, rfl, h1⟩, -⟩ := ha
  obtain ⟨⟨p', cap', rfl, h2⟩, -⟩ := hb
  have H1 : Hid (0 < L.length → ∃ g, p = some ⟨g, 0, none⟩ ∧ B ≤ g ∧ g < w.heap.size ∧ ∀ j, j < L.length → ∀ o, o < 9 → w.cell? ⟨g, j * 9 + o, none⟩ = some (frR L j o) ∧ w.frozen? ⟨g, j * 9 + o, none⟩ = false) := h1
  have H2 : Hid (0 < L.length → ∃ g, p' = some ⟨g, 0, none⟩ ∧ B' ≤ g ∧ g < w.heap.size ∧ ∀ j, j < L.length → ∀ o, o < 9 → w.cell? ⟨g, j * 9 + o, none⟩ = some (frR L j o) ∧ w.frozen? ⟨g, j * 9 + o, none⟩ = false) := h2
  clear h1 h2
  go_enter Tryd.func14, Tryd.ntmps14
  go_wp2
  go_loopw [5] (fun i wr => ∃ k : Nat, k ≤ L.length ∧ i = .int .i64 k ∧ Hid (Below w.heap.size w wr)) (fun i _ => L.length - (intOf i).toNat)
  case atStart => exact ⟨0, by omega, rfl, Below.refl _ _⟩
  case round =>
    obtain ⟨k, hk, rfl, HB⟩ := hrel
    by_cases hlt : k < L.length
    · obtain ⟨g, rfl, -, hg, hc⟩ := H1.out (by omega)
      obtain ⟨g', rfl, -, hg', hc'⟩ := H2.out (by omega)
      have hgr : g < wr.heap.size := Nat.lt_of_lt_of_le hg HB.out.size
      have hgr' : g' < wr.heap.size := Nat.lt_of_lt_of_le hg' HB.out.size
      have hx : ∀ o, o < 9 → wr.cell? ⟨g, k * 9 + o, none⟩ = some (frC (atF L k) o) := fun o ho => by rw [(bcell HB.out).1 _ _ hg]; exact (hc k hlt o ho).1
      have hx' : ∀ o, o < 9 → wr.cell? ⟨g', k * 9 + o, none⟩ = some (frC (atF L k) o) := fun o ho => by rw [(bcell HB.out).1 _ _ hg']; exact (hc' k hlt o ho).1
      have c0 : wr.cell? ⟨g, k * 9, none⟩ = some (.int .i64 (atF L k).id) := hx 0 (by omega)
      have d0 : wr.cell? ⟨g', k * 9, none⟩ = some (.int .i64 (atF L k).id) := hx' 0 (by omega)
      have c1 : wr.cell? ⟨g, k * 9 + 1, none⟩ = some (.int .i64 (atF L k).pa) := hx 1 (by omega)
      have d1 : wr.cell? ⟨g', k * 9 + 1, none⟩ = some (.int .i64 (atF L k).pa) := hx' 1 (by omega)
      have c2 : wr.cell? ⟨g, k * 9 + 2, none⟩ = some (.string (atF L k).sc) := hx 2 (by omega)
      have d2 : wr.cell? ⟨g', k * 9 + 2, none⟩ = some (.string (atF L k).sc) := hx' 2 (by omega)
      have c3 : wr.cell? ⟨g, k * 9 + 3, none⟩ = some (.string (atF L k).ho) := hx 3 (by omega)
      have d3 : wr.cell? ⟨g', k * 9 + 3, none⟩ = some (.string (atF L k).ho) := hx' 3 (by omega)
      have c4 : wr.cell? ⟨g, k * 9 + 4, none⟩ = some (.int .i64 (atF L k).po) := hx 4 (by omega)
      have d4 : wr.cell? ⟨g', k * 9 + 4, none⟩ = some (.int .i64 (atF L k).po) := hx' 4 (by omega)
      have c5 : wr.cell? ⟨g, k * 9 + 5, none⟩ = some (.string (atF L k).pt) := hx 5 (by omega)
      have d5 : wr.cell? ⟨g', k * 9 + 5, none⟩ = some (.string (atF L k).pt) := hx' 5 (by omega)
      have c6 : wr.cell? ⟨g, k * 9 + 6, none⟩ = some (.bool (atF L k).sb) := hx 6 (by omega)
      have d6 : wr.cell? ⟨g', k * 9 + 6, none⟩ = some (.bool (atF L k).sb) := hx' 6 (by omega)
      have c7 : wr.cell? ⟨g, k * 9 + 7, none⟩ = some (.bool (atF L k).fl) := hx 7 (by omega)
      have d7 : wr.cell? ⟨g', k * 9 + 7, none⟩ = some (.bool (atF L k).fl) := hx' 7 (by omega)
      have c8 : wr.cell? ⟨g, k * 9 + 8, none⟩ = some (.int .i64 (atF L k).tc) := hx 8 (by omega)
      have d8 : wr.cell? ⟨g', k * 9 + 8, none⟩ = some (.int .i64 (atF L k).tc) := hx' 8 (by omega)
      have k0 : (0 : Int) ≤ k := by omega
      have k1 : (k : Int) < L.length := by omega
      clear hc hc' hx hx'
      have KE : Hid (∀ W, Calls Tryd.prog 37 #[.agg #[.int .i64 (atF L k).id, .int .i64 (atF L k).pa, .string (atF L k).sc, .string (atF L k).ho, .int .i64 (atF L k).po, .string (atF L k).pt, .bool (atF L k).sb, .bool (atF L k).fl, .int .i64 (atF L k).tc], .agg #[.int .i64 (atF L k).id, .int .i64 (atF L k).pa, .string (atF L k).sc, .string (atF L k).ho, .int .i64 (atF L k).po, .string (atF L k).pt, .bool (atF L k).sb, .bool (atF L k).fl, .int .i64 (atF L k).tc]] W fun e w' => e = .returned (.bool true) ∧ Below W.heap.size W w') := fun W => eqFrame_any (atF L k).id (atF L k).pa (atF L k).sc (atF L k).ho (atF L k).po (atF L k).pt (atF L k).sb (atF L k).fl (atF L k).tc W
      generalize atF L k = y at *
      obtain ⟨id, pa, sc, ho, po, pt, sb, fl, tc⟩ := y
      dsimp only at *
      go_wp2_with fail
      go_region_held3 (fun w' => w'.cell? ⟨g, k * 9, none⟩ = some (.int .i64 id) ∧ w'.cell? ⟨g, k * 9 + 1, none⟩ = some (.int .i64 pa) ∧ w'.cell? ⟨g, k * 9 + 2, none⟩ = some (.string sc) ∧ w'.cell? ⟨g, k * 9 + 3, none⟩ = some (.string ho) ∧ w'.cell? ⟨g, k * 9 + 4, none⟩ = some (.int .i64 po) ∧ w'.cell? ⟨g, k * 9 + 5, none⟩ = some (.string pt) ∧ w'.cell? ⟨g, k * 9 + 6, none⟩ = some (.bool sb) ∧ w'.cell? ⟨g, k * 9 + 7, none⟩ = some (.bool fl) ∧ w'.cell? ⟨g, k * 9 + 8, none⟩ = some (.int .i64 tc) ∧ w'.cell? ⟨g', k * 9, none⟩ = some (.int .i64 id) ∧ w'.cell? ⟨g', k * 9 + 1, none⟩ = some (.int .i64 pa) ∧ w'.cell? ⟨g', k * 9 + 2, none⟩ = some (.string sc) ∧ w'.cell? ⟨g', k * 9 + 3, none⟩ = some (.string ho) ∧ w'.cell? ⟨g', k * 9 + 4, none⟩ = some (.int .i64 po) ∧ w'.cell? ⟨g', k * 9 + 5, none⟩ = some (.string pt) ∧ w'.cell? ⟨g', k * 9 + 6, none⟩ = some (.bool sb) ∧ w'.cell? ⟨g', k * 9 + 7, none⟩ = some (.bool fl) ∧ w'.cell? ⟨g', k * 9 + 8, none⟩ = some (.int .i64 tc)) (go_keep)
        (first | (go_at_call 37; refine (KE.out _).mono ?_; rintro e w2 ⟨rfl, hb2⟩; have A2 : Below wr.heap.size wr w2 := (Below.drew (Below.refl _ _)).trans hb2; have l0 : w2.cell? ⟨g, k * 9, none⟩ = some (.int .i64 id) := ((bcell A2).1 _ _ hgr).trans c0; have m0 : w2.cell? ⟨g', k * 9, none⟩ = some (.int .i64 id) := ((bcell A2).1 _ _ hgr').trans d0; have l1 : w2.cell? ⟨g, k * 9 + 1, none⟩ = some (.int .i64 pa) := ((bcell A2).1 _ _ hgr).trans c1; have m1 : w2.cell? ⟨g', k * 9 + 1, none⟩ = some (.int .i64 pa) := ((bcell A2).1 _ _ hgr').trans d1; have l2 : w2.cell? ⟨g, k * 9 + 2, none⟩ = some (.string sc) := ((bcell A2).1 _ _ hgr).trans c2; have m2 : w2.cell? ⟨g', k * 9 + 2, none⟩ = some (.string sc) := ((bcell A2).1 _ _ hgr').trans d2; have l3 : w2.cell? ⟨g, k * 9 + 3, none⟩ = some (.string ho) := ((bcell A2).1 _ _ hgr).trans c3; have m3 : w2.cell? ⟨g', k * 9 + 3, none⟩ = some (.string ho) := ((bcell A2).1 _ _ hgr').trans d3; have l4 : w2.cell? ⟨g, k * 9 + 4, none⟩ = some (.int .i64 po) := ((bcell A2).1 _ _ hgr).trans c4; have m4 : w2.cell? ⟨g', k * 9 + 4, none⟩ = some (.int .i64 po) := ((bcell A2).1 _ _ hgr').trans d4; have l5 : w2.cell? ⟨g, k * 9 + 5, none⟩ = some (.string pt) := ((bcell A2).1 _ _ hgr).trans c5; have m5 : w2.cell? ⟨g', k * 9 + 5, none⟩ = some (.string pt) := ((bcell A2).1 _ _ hgr').trans d5; have l6 : w2.cell? ⟨g, k * 9 + 6, none⟩ = some (.bool sb) := ((bcell A2).1 _ _ hgr).trans c6; have m6 : w2.cell? ⟨g', k * 9 + 6, none⟩ = some (.bool sb) := ((bcell A2).1 _ _ hgr').trans d6; have l7 : w2.cell? ⟨g, k * 9 + 7, none⟩ = some (.bool fl) := ((bcell A2).1 _ _ hgr).trans c7; have m7 : w2.cell? ⟨g', k * 9 + 7, none⟩ = some (.bool fl) := ((bcell A2).1 _ _ hgr').trans d7; have l8 : w2.cell? ⟨g, k * 9 + 8, none⟩ = some (.int .i64 tc) := ((bcell A2).1 _ _ hgr).trans c8; have m8 : w2.cell? ⟨g', k * 9 + 8, none⟩ = some (.int .i64 tc) := ((bcell A2).1 _ _ hgr').trans d8))
      all_goals go_wp2
      all_goals go_roundw
      case rel => exact ⟨k + 1, by omega, by go_num, HB.out.trans (A2.mono HB.out.size)⟩
      case measure => simp [intOf]; omega
    · go_wp2
      go_ret
      exact ⟨rfl, HB.out⟩
end Go.Proofs.YtclpamjgglfljaaDoor

/- Frames as plain functions: where one stands, what is right. -/
namespace Go.Proofs.YtclpamjgglfljaaDoor
open Go.RowKit

def tmF (n : Int) : Bool := decide (0 ≤ n) && decide (n ≤ 1000000)
def uF (f : Fr) : Bool := urlB f.sc f.ho f.pt f.po
theorem atF_get {L : List Fr} {j : Nat} (h : j < L.length) : atF L j = L[j] := by simp [atF, h]
theorem atF_take {L : List Fr} {k j : Nat} (hk : k ≤ L.length) (hj : j < k) : atF (L.take k) j = atF L j := by
  rw [atF_get (by rw [List.length_take]; omega), atF_get (by omega), List.getElem_take]
theorem atF_snoc {L : List Fr} {x : Fr} {j : Nat} : atF (L ++ [x]) j = if j < L.length then atF L j else if j = L.length then x else frNone := by
  unfold atF
  rw [List.getD_eq_getElem?_getD, List.getD_eq_getElem?_getD]
  by_cases h : j < L.length
  · rw [if_pos h, List.getElem?_append_left h]
  · rw [if_neg h, List.getElem?_append_right (by omega)]
    by_cases e : j = L.length
    · rw [if_pos e, e]; simp
    · rw [if_neg e, List.getElem?_eq_none (by simp; omega)]; rfl
/-- where the first at which p holds stands; -1: nowhere -/
def fstF (p : Fr → Bool) (L : List Fr) : Int := if L.findIdx p < L.length then ((L.findIdx p : Nat) : Int) else -1
theorem fstF_is {p : Fr → Bool} {L : List Fr} {k : Nat} (hk : k < L.length) (h : p (atF L k) = true) (hn : ∀ j, j < k → p (atF L j) = false) : fstF p L = (k : Int) := by
  have e : L.findIdx p = k := by
    rw [List.findIdx_eq hk]
    refine ⟨by rw [← atF_get hk]; exact h, fun j hj => ?_⟩
    have := hn j hj
    rw [atF_get (by omega)] at this
    simpa using this
  unfold fstF; rw [e, if_pos hk]
theorem fstF_no {p : Fr → Bool} {L : List Fr} (hn : ∀ j, j < L.length → p (atF L j) = false) : fstF p L = -1 := by
  have e : L.findIdx p = L.length := by
    rw [List.findIdx_eq_length]
    intro x hx
    obtain ⟨j, hj, rfl⟩ := List.mem_iff_getElem.1 hx
    have := hn j hj
    rw [atF_get hj] at this
    simpa using this
  unfold fstF; rw [e, if_neg (Nat.lt_irrefl _)]
theorem fstF_cases (p : Fr → Bool) (L : List Fr) : (∃ k, k < L.length ∧ fstF p L = (k : Int) ∧ p (atF L k) = true ∧ ∀ j, j < k → p (atF L j) = false) ∨ (fstF p L = -1 ∧ ∀ j, j < L.length → p (atF L j) = false) := by
  by_cases h : L.findIdx p < L.length
  · refine .inl ⟨L.findIdx p, h, by unfold fstF; rw [if_pos h], ?_, fun j hj => ?_⟩
    · rw [atF_get h]; exact List.findIdx_getElem
    · rw [atF_get (by omega)]
      have := List.not_of_lt_findIdx hj
      simpa using this
  · refine .inr ⟨by unfold fstF; rw [if_neg h], fun j hj => ?_⟩
    have e : L.findIdx p = L.length := Nat.le_antisymm List.findIdx_le_length (by omega)
    rw [List.findIdx_eq_length] at e
    rw [atF_get hj]
    have := e L[j] (List.getElem_mem hj)
    simpa using this
theorem fstF_range (p : Fr → Bool) (L : List Fr) : -1 ≤ fstF p L ∧ fstF p L < (L.length : Int) + 1 := by
  rcases fstF_cases p L with ⟨k, hk, e, -⟩ | ⟨e, -⟩ <;> rw [e] <;> omega
/-- where the frame of that Id stands; -1: nowhere -/
def whF (L : List Fr) (id : Int) : Int := fstF (fun f => f.id == id) L
theorem whF_cases (L : List Fr) (id : Int) : (∃ k, k < L.length ∧ whF L id = (k : Int) ∧ (atF L k).id = id ∧ ∀ j, j < k → (atF L j).id ≠ id) ∨ (whF L id = -1 ∧ ∀ j, j < L.length → (atF L j).id ≠ id) := by
  rcases fstF_cases (fun f => f.id == id) L with ⟨k, hk, e, h, hn⟩ | ⟨e, hn⟩
  · exact .inl ⟨k, hk, e, by simpa using h, fun j hj => by simpa using hn j hj⟩
  · exact .inr ⟨e, fun j hj => by simpa using hn j hj⟩
theorem whF_is {L : List Fr} {id : Int} {k : Nat} (hk : k < L.length) (h : (atF L k).id = id) (hn : ∀ j, j < k → (atF L j).id ≠ id) : whF L id = (k : Int) :=
  fstF_is hk (by simpa using h) (fun j hj => by simpa using hn j hj)
theorem whF_no {L : List Fr} {id : Int} (hn : ∀ j, j < L.length → (atF L j).id ≠ id) : whF L id = -1 := fstF_no (fun j hj => by simpa using hn j hj)
/-- a top is no Sandbox -/
def boxF (pa : Int) (sb : Bool) : Bool := !(pa == 0) || !sb
/-- what does not hang on others -/
def frB (f : Fr) : Bool := tmF f.id && uF f && tmF f.tc && boxF f.pa f.sb
def lastF (L : List Fr) : Int := if L.length = 0 then 0 else (atF L (L.length - 1)).id
def holdF (L : List Fr) (pa : Int) : Bool := (pa == 0) || decide (0 ≤ whF L pa)
def okF (L : List Fr) (k : Nat) : Bool := frB (atF L k) && decide (lastF (L.take k) < (atF L k).id) && holdF (L.take k) (atF L k).pa
def framesB (L : List Fr) : Bool := decide (L.length ≤ 10) && decide (∀ i, i < L.length → okF L i = true)
theorem framesB_long {L : List Fr} (h : 10 < L.length) : framesB L = false := by unfold framesB; rw [decide_eq_false (by omega)]; rfl
theorem framesB_at {L : List Fr} (i : Nat) (h : i < L.length) (hi : okF L i = false) : framesB L = false := by
  unfold framesB
  rw [decide_eq_false (p := ∀ i, i < L.length → okF L i = true) (fun h' => by rw [h' i h] at hi; cases hi), Bool.and_false]
theorem framesB_all {L : List Fr} (ha : ∀ i, i < L.length → okF L i = true) : framesB L = decide (L.length ≤ 10) := by
  unfold framesB; rw [decide_eq_true ha, Bool.and_true]
theorem framesB_parts {L : List Fr} (h : framesB L = true) : L.length ≤ 10 ∧ ∀ i, i < L.length → okF L i = true := by
  unfold framesB at h
  simp only [Bool.and_eq_true, decide_eq_true_eq] at h
  exact h
theorem okF_succ {L : List Fr} {k : Nat} (h : ∀ i, i < k → okF L i = true) (hk : okF L k = true) : ∀ i, i < k + 1 → okF L i = true := by
  intro i hi
  by_cases e : i = k
  · subst e; exact hk
  · exact h i (by omega)
theorem lastF_zero (L : List Fr) : lastF (L.take 0) = 0 := rfl
theorem lastF_succ {L : List Fr} {m : Nat} (h : m < L.length) : lastF (L.take (m + 1)) = (atF L m).id := by
  have e : (L.take (m + 1)).length = m + 1 := by rw [List.length_take]; omega
  unfold lastF
  rw [e, if_neg (by omega), Nat.add_sub_cancel, atF_take (by omega) (by omega)]
theorem okF_time {L : List Fr} {i : Nat} (h : okF L i = true) : 0 ≤ (atF L i).id ∧ (atF L i).id ≤ 1000000 := by
  unfold okF frB tmF at h
  simp only [Bool.and_eq_true, decide_eq_true_eq] at h
  omega
theorem lastF_ge {L : List Fr} {k : Nat} (hk : k ≤ L.length) (h : ∀ i, i < k → okF L i = true) : 0 ≤ lastF (L.take k) := by
  cases k with
  | zero => exact Int.le_refl _
  | succ m => rw [lastF_succ (by omega)]; exact (okF_time (h m (by omega))).1
end Go.Proofs.YtclpamjgglfljaaDoor

/- A block that holds values, kept while others are written. -/
namespace Go.Proofs.YtclpamjgglfljaaDoor
open Go.RowKit

/-- the block's cells begin with these values, and may be written -/
def BoxV (w : World) (b : Nat) (vs : List Value) : Prop := b < w.heap.size ∧ ∀ (i : Nat) (v : Value), vs[i]? = some v → w.cell? ⟨b, i, none⟩ = some v ∧ w.frozen? ⟨b, i, none⟩ = false
theorem BoxV.of_block {w w' : World} {b : Nat} {vs : List Value} (h : BoxV w b vs) (hb : w'.heap[b]? = w.heap[b]?) (hs : w.heap.size ≤ w'.heap.size) : BoxV w' b vs :=
  ⟨Nat.lt_of_lt_of_le h.1 hs, fun i v e => ⟨by rw [World.cell?_of_block (a := ⟨b, i, none⟩) hb]; exact (h.2 i v e).1, by rw [World.frozen?_of_block (a := ⟨b, i, none⟩) hb]; exact (h.2 i v e).2⟩⟩
theorem BoxV.below {w w' : World} {b : Nat} {vs : List Value} (h : BoxV w b vs) (hb : Below w.heap.size w w') : BoxV w' b vs := h.of_block (hb.block b h.1) hb.size
theorem BoxV.grown {w w' : World} {b G : Nat} {vs : List Value} (h : BoxV w b vs) (hg : w.grownBy w' (some G)) (hne : b ≠ G) : BoxV w' b vs := h.of_block (hg.block b h.1 (fun e => hne (Option.some.inj e))) hg.size
theorem BoxV.at {w : World} {b : Nat} {vs : List Value} (h : BoxV w b vs) {i : Nat} {v : Value} (e : vs[i]? = some v) : w.cell? ⟨b, i, none⟩ = some v := (h.2 i v e).1
theorem BoxV.free {w : World} {b : Nat} {vs : List Value} (h : BoxV w b vs) {i : Nat} {v : Value} (e : vs[i]? = some v) : w.frozen? ⟨b, i, none⟩ = false := (h.2 i v e).2
theorem boxV_new (w : World) (vs : List Value) (t : TypeId) : BoxV (w.alloc (.cells vs.toArray t)) w.heap.size vs :=
  ⟨by simp, fun i v e => ⟨by rw [World.cell?_alloc_new]; simpa using e, by simp⟩⟩
theorem BoxV.alloc {w : World} {b : Nat} {vs : List Value} (h : BoxV w b vs) (o : Obj) : BoxV (w.alloc o) b vs := h.below ((Below.refl _ _).alloc (Nat.le_refl _) _)
theorem BoxV.drew {w : World} {b : Nat} {vs : List Value} (h : BoxV w b vs) : BoxV w.drew b vs := h.below (Below.drew (Below.refl _ _))
end Go.Proofs.YtclpamjgglfljaaDoor
