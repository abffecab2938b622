/- 6 of this claim's texts, one behind the other. -/
import Derived.Test.YtfoekelhcmlagaaRows
import Derived.Below
import Derived.WalkKit
import Derived.WalkSpells
import Derived.WalkLawsBesides
import Derived.Deep.QuietTactic
import Derived.BigQuiet
import Derived.Deep.RegionWith
import Derived.Lib.Strings
/- Small facts that the walks close with: equal values make equal endings; what lies below a block is as it was. -/
namespace Go.Proofs.Ytfoekelhcmlagaa
open Go.RowKit
theorem ret_bool {a b : Bool} (h : a = b) : Ending.returned (.bool a) = .returned (.bool b) := by rw [h]
theorem val_int {k : IntKind} {a b : Int} (h : a = b) : Value.int k a = .int k b := by rw [h]
theorem ret_int {k : IntKind} {a b : Int} (h : a = b) : Ending.returned (.int k a) = .returned (.int k b) := by rw [h]
theorem ret_text {a b : ByteArray} (h : a = b) : Ending.returned (.string a) = .returned (.string b) := by rw [h]
theorem bcell {W w1 : World} (hb : Below W.heap.size W w1) : (∀ b o, b < W.heap.size → w1.cell? ⟨b, o, none⟩ = W.cell? ⟨b, o, none⟩) ∧ (∀ b o, b < W.heap.size → w1.frozen? ⟨b, o, none⟩ = W.frozen? ⟨b, o, none⟩) :=
  ⟨fun b o h => hb.cell (p := ⟨b, o, none⟩) h, fun b o h => hb.frozen (p := ⟨b, o, none⟩) h⟩
theorem own_shape {w : World} {base n : Nat} {e : TypeId} {v : Value} {xs : List Value} (h : w.ownsRow base e 1 v (n + 1) xs) : ∃ g cap, v = .slice (some ⟨g, 0, none⟩) (n + 1) cap := by
  obtain ⟨_, ⟨_, h0⟩ | ⟨g, cap, _, hv, _⟩⟩ := h
  · omega
  · exact ⟨g, cap, hv⟩
end Go.Proofs.Ytfoekelhcmlagaa

/- What a label and a path of a url are, as plain functions, with the facts that walks close with. -/
namespace Go.Proofs.Ytfoekelhcmlagaa
/-- may the byte stand in a label? -/
def labC (c : Nat) : Bool := decide ((97 ≤ c ∧ c ≤ 122) ∨ (48 ≤ c ∧ c ≤ 57) ∨ c = 45)
def labelB (t : ByteArray) : Bool := decide (1 ≤ t.size ∧ t.size ≤ 12 ∧ (∀ h : 0 < t.size, ¬ t[0].toNat = 45) ∧ (∀ h : t.size - 1 < t.size, ¬ t[t.size - 1].toNat = 45) ∧ ∀ i (h : i < t.size), labC t[i].toNat = true)
theorem labelB_size {t : ByteArray} (h : t.size < 1 ∨ 12 < t.size) : labelB t = false := by
  unfold labelB; rw [decide_eq_false_iff_not]; rintro ⟨a, b, _⟩; omega
theorem labelB_first {t : ByteArray} (h : 0 < t.size) (hc : t[0].toNat = 45) : labelB t = false := by
  unfold labelB; rw [decide_eq_false_iff_not]; rintro ⟨_, _, a, _⟩; exact a h hc
theorem labelB_last {t : ByteArray} (h : t.size - 1 < t.size) (hc : t[t.size - 1].toNat = 45) : labelB t = false := by
  unfold labelB; rw [decide_eq_false_iff_not]; rintro ⟨_, _, _, a, _⟩; exact a h hc
theorem labelB_at {t : ByteArray} (k : Nat) (h : k < t.size) (hk : labC t[k].toNat = false) : labelB t = false := by
  unfold labelB; rw [decide_eq_false_iff_not]; rintro ⟨_, _, _, _, c⟩; rw [c k h] at hk; cases hk
theorem labelB_true {t : ByteArray} (h1 : 1 ≤ t.size) (h2 : t.size ≤ 12) (h3 : ∀ h : 0 < t.size, ¬ t[0].toNat = 45) (h4 : ∀ h : t.size - 1 < t.size, ¬ t[t.size - 1].toNat = 45)
    (h : ∀ i (h : i < t.size), labC t[i].toNat = true) : labelB t = true := by
  unfold labelB; rw [decide_eq_true_iff]; exact ⟨h1, h2, h3, h4, h⟩
theorem labC_yes {c : Nat} (h : (97 ≤ c ∧ c ≤ 122) ∨ (48 ≤ c ∧ c ≤ 57) ∨ c = 45) : labC c = true := by unfold labC; rw [decide_eq_true_iff]; exact h
theorem labC_no {c : Nat} (h : ¬ ((97 ≤ c ∧ c ≤ 122) ∨ (48 ≤ c ∧ c ≤ 57) ∨ c = 45)) : labC c = false := by unfold labC; rw [decide_eq_false_iff_not]; exact h
theorem all_succ {t : ByteArray} {P : Nat → Bool} {k : Nat} (hr : ∀ i (h : i < t.size), i < k → P t[i].toNat = true) (hk : k < t.size) (ho : P t[k].toNat = true) :
    ∀ i (h : i < t.size), i < k + 1 → P t[i].toNat = true := by
  intro i h hi
  by_cases e : i = k
  · subst e; exact ho
  · exact hr i h (by omega)
/-- may the byte stand in a path? -/
def pathC (c : Nat) : Bool := decide (33 ≤ c ∧ c ≤ 126 ∧ ¬ c = 63 ∧ ¬ c = 35 ∧ ¬ c = 59)
def pathB (t : ByteArray) : Bool := decide (1 ≤ t.size ∧ t.size ≤ 40 ∧ (∀ h : 0 < t.size, t[0].toNat = 47) ∧ ∀ i (h : i < t.size), pathC t[i].toNat = true)
theorem pathB_size {t : ByteArray} (h : t.size < 1 ∨ 40 < t.size) : pathB t = false := by
  unfold pathB; rw [decide_eq_false_iff_not]; rintro ⟨a, b, _⟩; omega
theorem pathB_first {t : ByteArray} (h : 0 < t.size) (hc : ¬ t[0].toNat = 47) : pathB t = false := by
  unfold pathB; rw [decide_eq_false_iff_not]; rintro ⟨_, _, a, _⟩; exact hc (a h)
theorem pathB_at {t : ByteArray} (k : Nat) (h : k < t.size) (hk : pathC t[k].toNat = false) : pathB t = false := by
  unfold pathB; rw [decide_eq_false_iff_not]; rintro ⟨_, _, _, c⟩; rw [c k h] at hk; cases hk
theorem pathB_true {t : ByteArray} (h1 : 1 ≤ t.size) (h2 : t.size ≤ 40) (h3 : ∀ h : 0 < t.size, t[0].toNat = 47) (h : ∀ i (h : i < t.size), pathC t[i].toNat = true) : pathB t = true := by
  unfold pathB; rw [decide_eq_true_iff]; exact ⟨h1, h2, h3, h⟩
theorem pathC_yes {c : Nat} (h : 33 ≤ c ∧ c ≤ 126 ∧ ¬ c = 63 ∧ ¬ c = 35 ∧ ¬ c = 59) : pathC c = true := by unfold pathC; rw [decide_eq_true_iff]; exact h
theorem pathC_no {c : Nat} (h : ¬ (33 ≤ c ∧ c ≤ 126 ∧ ¬ c = 63 ∧ ¬ c = 35 ∧ ¬ c = 59)) : pathC c = false := by unfold pathC; rw [decide_eq_false_iff_not]; exact h
end Go.Proofs.Ytfoekelhcmlagaa

/- The walks of the specification's l02Label and l02Path. -/
namespace Go.Proofs.Ytfoekelhcmlagaa
open Go.RowKit

set_option maxRecDepth 10000 in
set_option maxHeartbeats 400000 in
theorem specPath_any (t : ByteArray) (w : World) :
    Calls Try.prog 6 #[.string t] w fun e w' => e = .returned (.bool (pathB t)) ∧ w' = w := by
  by_cases h1 : t.size < 1
  · go_enter Try.func6, Try.ntmps6
    go_wp2
    go_ret
    exact ⟨ret_bool (pathB_size (.inl h1)).symm, rfl⟩
  have q1 : decide ((t.size : Int) < 1) = false := by rw [decide_eq_false_iff_not]; omega
  by_cases h2 : 40 < t.size
  · go_enter Try.func6, Try.ntmps6
    go_wp2
    go_ret
    exact ⟨ret_bool (pathB_size (.inr h2)).symm, rfl⟩
  have q2 : decide ((40 : Int) < (t.size : Int)) = false := by rw [decide_eq_false_iff_not]; omega
  have hp : 0 < t.size := by omega
  by_cases h3 : t[0].toNat = 47
  case neg =>
    have q3 : ((t[0].toNat : Int) != 47) = true := by rw [bne_iff_ne]; omega
    have H3 : Hid (¬ t[0].toNat = 47) := h3
    clear h3
    go_enter Try.func6, Try.ntmps6
    go_wp2
    go_ret
    exact ⟨ret_bool (pathB_first hp H3.out).symm, rfl⟩
  have q3 : ((t[0].toNat : Int) != 47) = false := by rw [bne_eq_false_iff_eq]; omega
  have H3 : Hid (t[0].toNat = 47) := h3
  clear h3
  go_enter Try.func6, Try.ntmps6
  go_wp2
  go_loop [3] (fun i => ∃ k : Nat, k ≤ t.size ∧ i = .int .i64 k ∧ Hid (∀ i (h : i < t.size), i < k → pathC t[i].toNat = true)) (fun i => t.size - (intOf i).toNat)
  case atStart => exact ⟨0, Nat.zero_le _, rfl, fun i _ hi => absurd hi (by omega)⟩
  case round =>
    obtain ⟨k, hk, rfl, HR⟩ := hrel
    by_cases hlt : k < t.size
    · by_cases d1 : t[k].toNat < 33
      · go_wp2
        go_ret
        exact ⟨ret_bool (pathB_at k hlt (pathC_no (by omega))).symm, rfl⟩
      have b1 : decide ((t[k].toNat : Int) < 33) = false := by rw [decide_eq_false_iff_not]; omega
      by_cases d2 : 126 < t[k].toNat
      · go_wp2
        go_ret
        exact ⟨ret_bool (pathB_at k hlt (pathC_no (by omega))).symm, rfl⟩
      have b2 : decide ((126 : Int) < (t[k].toNat : Int)) = false := by rw [decide_eq_false_iff_not]; omega
      by_cases d3 : t[k].toNat = 63
      · have b3 : ((t[k].toNat : Int) == 63) = true := by rw [beq_iff_eq]; omega
        have D3 : Hid (t[k].toNat = 63) := d3
        clear d3
        go_wp2
        go_ret
        exact ⟨ret_bool (pathB_at k hlt (pathC_no (by have := D3.out; omega))).symm, rfl⟩
      have b3 : ((t[k].toNat : Int) == 63) = false := by rw [beq_eq_false_iff_ne]; omega
      by_cases d4 : t[k].toNat = 35
      · have b4 : ((t[k].toNat : Int) == 35) = true := by rw [beq_iff_eq]; omega
        have D4 : Hid (t[k].toNat = 35) := d4
        clear d4
        go_wp2
        go_ret
        exact ⟨ret_bool (pathB_at k hlt (pathC_no (by have := D4.out; omega))).symm, rfl⟩
      have b4 : ((t[k].toNat : Int) == 35) = false := by rw [beq_eq_false_iff_ne]; omega
      by_cases d5 : t[k].toNat = 59
      · have b5 : ((t[k].toNat : Int) == 59) = true := by rw [beq_iff_eq]; omega
        have D5 : Hid (t[k].toNat = 59) := d5
        clear d5
        go_wp2
        go_ret
        exact ⟨ret_bool (pathB_at k hlt (pathC_no (by have := D5.out; omega))).symm, rfl⟩
      have b5 : ((t[k].toNat : Int) == 59) = false := by rw [beq_eq_false_iff_ne]; omega
      have HC : Hid (pathC t[k].toNat = true) := pathC_yes (by omega)
      clear d3 d4 d5
      go_wp2
      go_round
      case rel => exact ⟨k + 1, by omega, by go_num, all_succ HR.out hlt HC.out⟩
      case measure => simp [intOf]; omega
    · go_wp2
      go_ret
      exact ⟨ret_bool (pathB_true (by omega) (by omega) (fun _ => H3.out) (fun i h => HR.out i h (by omega))).symm, rfl⟩
end Go.Proofs.Ytfoekelhcmlagaa

/- The walk of the program's pathRight. -/
namespace Go.Proofs.Ytfoekelhcmlagaa
open Go.RowKit

set_option maxRecDepth 10000 in
set_option maxHeartbeats 400000 in
theorem pathRight_any (t : ByteArray) (w : World) :
    Calls Try.prog 8 #[.string t] w fun e w' => e = .returned (.bool (pathB t)) ∧ Below w.heap.size w w' := by
  by_cases h1 : t.size < 1
  · have q1 : ((t.size : Int) == 0) = true := by rw [beq_iff_eq]; omega
    go_enter Try.func8, Try.ntmps8
    go_wp2
    go_ret
    exact ⟨ret_bool (pathB_size (.inl h1)).symm, Below.refl _ _⟩
  have q1 : ((t.size : Int) == 0) = false := by rw [beq_eq_false_iff_ne]; omega
  by_cases h2 : 40 < t.size
  · go_enter Try.func8, Try.ntmps8
    go_wp2
    go_ret
    exact ⟨ret_bool (pathB_size (.inr h2)).symm, Below.refl _ _⟩
  have q2 : decide ((40 : Int) < (t.size : Int)) = false := by rw [decide_eq_false_iff_not]; omega
  have hp : 0 < t.size := by omega
  by_cases h3 : t[0].toNat = 47
  case neg =>
    have q3 : ((t[0].toNat : Int) != 47) = true := by rw [bne_iff_ne]; omega
    have H3 : Hid (¬ t[0].toNat = 47) := h3
    clear h3
    go_enter Try.func8, Try.ntmps8
    go_wp2
    go_ret
    exact ⟨ret_bool (pathB_first hp H3.out).symm, Below.refl _ _⟩
  have q3 : ((t[0].toNat : Int) != 47) = false := by rw [bne_eq_false_iff_eq]; omega
  have H3 : Hid (t[0].toNat = 47) := h3
  clear h3
  go_enter Try.func8, Try.ntmps8
  go_wp2
  go_loopw [4] (fun _ wr => ∃ k : Nat, k ≤ t.size ∧ wr = w.iter t k ∧ Hid (∀ i (h : i < t.size), i < k → pathC t[i].toNat = true)) (fun _ wr => t.size - wr.iterPos w.heap.size)
  case atStart => exact ⟨0, Nat.zero_le _, rfl, fun i _ hi => absurd hi (by omega)⟩
  case round =>
    obtain ⟨k, hk, rfl, HR⟩ := hrel
    by_cases hlt : k < t.size
    · by_cases ha : t[k].toNat < 128
      · have hnx : ∀ ty, (Instr.next (.pointer (some ⟨w.heap.size, 0, none⟩)) true ty).run Try.prog (w.iter t k) = _ := fun ty => run_next_ascii w t k ty hlt ha
        by_cases d1 : t[k].toNat < 33
        · go_wp2
          go_ret
          exact ⟨ret_bool (pathB_at k hlt (pathC_no (by omega))).symm, (Below.refl _ _).alloc (Nat.le_refl _) _⟩
        have b1 : decide ((t[k].toNat : Int) < 33) = false := by rw [decide_eq_false_iff_not]; omega
        by_cases d2 : 126 < t[k].toNat
        · go_wp2
          go_ret
          exact ⟨ret_bool (pathB_at k hlt (pathC_no (by omega))).symm, (Below.refl _ _).alloc (Nat.le_refl _) _⟩
        have b2 : decide ((126 : Int) < (t[k].toNat : Int)) = false := by rw [decide_eq_false_iff_not]; omega
        by_cases d3 : t[k].toNat = 63
        · have b3 : ((t[k].toNat : Int) == 63) = true := by rw [beq_iff_eq]; omega
          have D3 : Hid (t[k].toNat = 63) := d3
          clear d3
          go_wp2
          go_ret
          exact ⟨ret_bool (pathB_at k hlt (pathC_no (by have := D3.out; omega))).symm, (Below.refl _ _).alloc (Nat.le_refl _) _⟩
        have b3 : ((t[k].toNat : Int) == 63) = false := by rw [beq_eq_false_iff_ne]; omega
        by_cases d4 : t[k].toNat = 35
        · have b4 : ((t[k].toNat : Int) == 35) = true := by rw [beq_iff_eq]; omega
          have D4 : Hid (t[k].toNat = 35) := d4
          clear d4
          go_wp2
          go_ret
          exact ⟨ret_bool (pathB_at k hlt (pathC_no (by have := D4.out; omega))).symm, (Below.refl _ _).alloc (Nat.le_refl _) _⟩
        have b4 : ((t[k].toNat : Int) == 35) = false := by rw [beq_eq_false_iff_ne]; omega
        by_cases d5 : t[k].toNat = 59
        · have b5 : ((t[k].toNat : Int) == 59) = true := by rw [beq_iff_eq]; omega
          have D5 : Hid (t[k].toNat = 59) := d5
          clear d5
          go_wp2
          go_ret
          exact ⟨ret_bool (pathB_at k hlt (pathC_no (by have := D5.out; omega))).symm, (Below.refl _ _).alloc (Nat.le_refl _) _⟩
        have b5 : ((t[k].toNat : Int) == 59) = false := by rw [beq_eq_false_iff_ne]; omega
        have HC : Hid (pathC t[k].toNat = true) := pathC_yes (by omega)
        clear d3 d4 d5
        go_wp2
        go_roundw
        case rel => exact ⟨k + 1, by omega, rfl, all_succ HR.out hlt HC.out⟩
        case measure => simp; omega
      · have hnx : ∀ ty, (Instr.next (.pointer (some ⟨w.heap.size, 0, none⟩)) true ty).run Try.prog (w.iter t k) = _ := fun ty => run_next_any w t k ty hlt
        have hd := (decode_high t k hlt (by omega)).1
        have HK : Hid (pathB t = false) := pathB_at k hlt (pathC_no (by omega))
        generalize Utf8.decode t k = d at *
        obtain ⟨r, n⟩ := d
        have hd2 : 128 ≤ r := hd
        have b1 : decide ((r : Int) < 33) = false := by rw [decide_eq_false_iff_not]; omega
        have b2 : decide ((126 : Int) < (r : Int)) = true := by rw [decide_eq_true_iff]; omega
        clear hd
        go_wp2
        go_ret
        exact ⟨ret_bool HK.out.symm, (Below.refl _ _).alloc (Nat.le_refl _) _⟩
    · have hnx : ∀ ty, (Instr.next (.pointer (some ⟨w.heap.size, 0, none⟩)) true ty).run Try.prog (w.iter t k) = _ := fun ty => run_next_end w t k ty hlt
      go_wp2
      go_ret
      exact ⟨ret_bool (pathB_true (by omega) (by omega) (fun _ => H3.out) (fun i h => HR.out i h (by omega))).symm, (Below.refl _ _).alloc (Nat.le_refl _) _⟩
end Go.Proofs.Ytfoekelhcmlagaa

/- When a host fits a domain, and a path a prefix: plain facts. -/
namespace Go.Proofs.Ytfoekelhcmlagaa

/-- it is the domain, or ends with a point and the domain -/
def fitH (h d : ByteArray) : Bool := (h.toList == d.toList) || Lib.hasSuffix h.data.toList (46 :: d.data.toList)
theorem hasSuf_short {s p : List UInt8} (h : s.length < p.length) : Lib.hasSuffix s p = false := by
  rw [← Lib.hasSuffix_of_drop, decide_eq_false (by omega)]; rfl
theorem fitH_same {h d : ByteArray} (e : (h.toList == d.toList) = true) : fitH h d = true := by unfold fitH; rw [e]; rfl
theorem fitH_short {h d : ByteArray} (e : (h.toList == d.toList) = false) (l : h.size ≤ d.size) : fitH h d = false := by
  unfold fitH
  rw [e, hasSuf_short]; rfl
  rw [List.length_cons, ← Lib.size_eq, ← Lib.size_eq]; omega
theorem fitH_long {h d : ByteArray} {m : Nat} (e : (h.toList == d.toList) = false) (l : h.size = d.size + (m + 1)) (hm : m < h.size) : fitH h d = (((h.extract (m + 1) h.size).toList == d.toList) && ((h[m].toNat : Int) == 46)) := by
  have l1 : h.data.toList.length = d.data.toList.length + (m + 1) := by rw [← Lib.size_eq, ← Lib.size_eq]; exact l
  have hm1 : m < h.data.toList.length := by omega
  unfold fitH
  rw [e, Bool.false_or, ← Lib.hasSuffix_of_drop, List.length_cons, decide_eq_true (by omega), Bool.true_and]
  have e1 : h.data.toList.length - (d.data.toList.length + 1) = m := by omega
  have e2 : (h.extract (m + 1) h.size).toList = h.data.toList.drop (m + 1) := by
    rw [Lib.extract_toList, Lib.size_eq]
    exact List.take_of_length_le (by simp)
  rw [e1, e2, Lib.toList_data, List.drop_eq_getElem_cons hm1, Bool.and_comm]
  have e3 : h.data.toList[m] = h[m] := by rw [Array.getElem_toList]; rfl
  rw [e3]
  show ((h[m] == 46) && _) = _
  congr 1
  rw [Bool.eq_iff_iff, beq_iff_eq, beq_iff_eq]
  constructor
  · intro e; rw [e]; rfl
  · intro e
    apply UInt8.toNat.inj
    have : h[m].toNat = 46 := by omega
    rw [this]; rfl
/-- what the program asks of a host and a domain -/
theorem fitH_prog (h d : ByteArray) : fitH h d = ((h.toList == d.toList) || Lib.hasSuffix h.data.toList ((⟨#[46]⟩ : ByteArray) ++ d).data.toList) := by
  have e : ((⟨#[46]⟩ : ByteArray) ++ d).data.toList = 46 :: d.data.toList := by
    rw [ByteArray.data_append]; simp
  rw [e]; rfl

/-- the byte that stands at a place, or none -/
def byteI (t : ByteArray) (i : Nat) : Option Nat := if h : i < t.size then some t[i].toNat else none
/-- it is the prefix, or begins with it, and the prefix ends with a slash, or the next byte is one -/
def fitP (p q : ByteArray) : Bool := Lib.hasPrefix p.data.toList q.data.toList && (decide (p.size = q.size) || byteI q (q.size - 1) == some 47 || byteI p q.size == some 47)
theorem fitP_no {p q : ByteArray} (h : Lib.hasPrefix p.data.toList q.data.toList = false) : fitP p q = false := by unfold fitP; rw [h]; rfl
theorem fitP_yes {p q : ByteArray} (h : Lib.hasPrefix p.data.toList q.data.toList = true) : fitP p q = (decide (p.size = q.size) || byteI q (q.size - 1) == some 47 || byteI p q.size == some 47) := by unfold fitP; rw [h]; rfl
theorem pre_le {p q : ByteArray} (h : Lib.hasPrefix p.data.toList q.data.toList = true) : q.size ≤ p.size := by
  rw [← Lib.hasPrefix_raw, Bool.and_eq_true, decide_eq_true_eq] at h; exact h.1
theorem pre_cut {p q : ByteArray} (l : q.size ≤ p.size) : ((p.extract 0 q.size).toList == q.toList) = Lib.hasPrefix p.data.toList q.data.toList := by
  rw [← Lib.hasPrefix_raw, decide_eq_true l, Bool.true_and]
theorem pre_short {p q : ByteArray} (l : p.size < q.size) : Lib.hasPrefix p.data.toList q.data.toList = false := by
  rw [← Lib.hasPrefix_raw, decide_eq_false (by omega), Bool.false_and]
theorem byteI_at {t : ByteArray} {i : Nat} (h : i < t.size) : (byteI t i == some 47) = ((t[i].toNat : Int) == 47) := by
  unfold byteI
  rw [dif_pos h, Bool.eq_iff_iff, beq_iff_eq, beq_iff_eq]
  constructor
  · intro e; have := Option.some.inj e; omega
  · intro e; have : t[i].toNat = 47 := by omega
    rw [this]
theorem byteI_suffix {t : ByteArray} (h : 0 < t.size) : (byteI t (t.size - 1) == some 47) = Lib.hasSuffix t.data.toList [47] := by
  have hl : t.size - 1 < t.size := by omega
  have hl2 : t.data.toList.length - 1 < t.data.toList.length := by rw [← Lib.size_eq]; exact hl
  rw [byteI_at hl, ← Lib.hasSuffix_of_drop, List.length_singleton, decide_eq_true (by rw [← Lib.size_eq]; omega), Bool.true_and, List.drop_eq_getElem_cons hl2]
  have e0 : t.data.toList.drop (t.data.toList.length - 1 + 1) = [] := List.drop_eq_nil_of_le (by omega)
  have e3 : t.data.toList[t.data.toList.length - 1] = t[t.size - 1] := by rw [Array.getElem_toList]; rfl
  rw [e0, e3]
  show _ = ((t[t.size - 1] == 47) && (([] : List UInt8) == []))
  rw [Bool.eq_iff_iff]
  simp only [beq_iff_eq, Bool.and_eq_true, and_true, beq_self_eq_true]
  constructor
  · intro e
    apply UInt8.toNat.inj
    have : t[t.size - 1].toNat = 47 := by omega
    rw [this]; rfl
  · intro e; rw [e]; rfl
/-- what is left behind a prefix -/
theorem trim_rest {p q : ByteArray} (h : Lib.hasPrefix p.data.toList q.data.toList = true) : (⟨(Lib.trimPrefix p.data.toList q.data.toList).toArray⟩ : ByteArray) = p.extract q.size p.size := by
  have l := pre_le h
  exact Lib.trimPrefix_hit p q l (by rw [pre_cut l]; exact h)
theorem rest_empty {p q : ByteArray} (l : q.size ≤ p.size) : (p.extract q.size p.size).toList.isEmpty = decide (p.size = q.size) := by
  rw [Lib.extract_toList, Bool.eq_iff_iff, List.isEmpty_iff, decide_eq_true_eq, List.take_eq_nil_iff, List.drop_eq_nil_iff, ← Lib.size_eq]
  omega
theorem rest_slash {p q : ByteArray} (l : q.size ≤ p.size) : Lib.hasPrefix (p.extract q.size p.size).data.toList [47] = (byteI p q.size == some 47) := by
  rw [← Lib.toList_data, Lib.extract_toList, List.take_of_length_le (by simp)]
  unfold Lib.hasPrefix byteI
  by_cases h : q.size < p.size
  · have h2 : q.size < p.data.toList.length := by rw [← Lib.size_eq]; exact h
    have e3 : p.data.toList[q.size] = p[q.size] := by rw [Array.getElem_toList]; rfl
    rw [dif_pos h, List.drop_eq_getElem_cons h2, e3]
    show ((47 == p[q.size]) && true) = _
    rw [Bool.and_true, Bool.eq_iff_iff, beq_iff_eq, beq_iff_eq]
    constructor
    · intro e; rw [← e]; rfl
    · intro e
      apply UInt8.toNat.inj
      rw [Option.some.inj e]; rfl
  · rw [dif_neg h, List.drop_eq_nil_of_le (by rw [← Lib.size_eq]; omega)]; rfl
end Go.Proofs.Ytfoekelhcmlagaa

/- The walks of the specification's l06Path and PathFits. -/
namespace Go.Proofs.Ytfoekelhcmlagaa
open Go.RowKit

def pathF (p q : ByteArray) : Bool := pathB p && pathB q && fitP p q
set_option maxRecDepth 10000 in
set_option maxHeartbeats 1000000 in
theorem specL06Path_any (p q : ByteArray) (w : World) (hq : 0 < q.size) (hq2 : q.size ≤ 1048576) :
    Calls Try.prog 7 #[.string p, .string q] w fun e w' => e = .returned (.bool (fitP p q)) ∧ w' = w := by
  by_cases hl : p.size < q.size
  · have HQ : Hid (fitP p q = false) := fitP_no (pre_short hl)
    go_enter Try.func7, Try.ntmps7
    go_wp2
    go_ret
    exact ⟨ret_bool HQ.out.symm, rfl⟩
  have q0 : decide ((p.size : Int) < (q.size : Int)) = false := by rw [decide_eq_false_iff_not]; omega
  have hcut := pre_cut (p := p) (q := q) (by omega)
  cases hx : Lib.hasPrefix p.data.toList q.data.toList with
  | false =>
    have HQ : Hid (fitP p q = false) := fitP_no hx
    have q1 : ((p.extract 0 q.size).toList == q.toList) = false := by rw [hcut, hx]
    clear hx hcut
    go_enter Try.func7, Try.ntmps7
    go_wp2
    go_ret
    exact ⟨ret_bool HQ.out.symm, rfl⟩
  | true =>
    have HQ0 := fitP_yes hx
    have q1 : ((p.extract 0 q.size).toList == q.toList) = true := by rw [hcut, hx]
    clear hx hcut
    obtain ⟨m, hm⟩ : ∃ m : Nat, q.size = m + 1 := ⟨q.size - 1, by omega⟩
    have hm1 : m < q.size := by omega
    have e1 : q.size - 1 = m := by omega
    have hn : (q.size : Int) - 1 = (m : Int) := by omega
    rw [e1, byteI_at hm1] at HQ0
    clear hm e1
    by_cases hs : p.size = q.size
    · have HQ : Hid (fitP p q = true) := by show _ = _; rw [HQ0, decide_eq_true hs]; rfl
      have q2 : ((p.size : Int) == (q.size : Int)) = true := by rw [beq_iff_eq]; omega
      clear HQ0 hs
      go_enter Try.func7, Try.ntmps7
      go_wp2
      go_ret
      exact ⟨ret_bool HQ.out.symm, rfl⟩
    · have hlt : q.size < p.size := by omega
      have q2 : ((p.size : Int) == (q.size : Int)) = false := by rw [beq_eq_false_iff_ne]; omega
      rw [decide_eq_false hs, Bool.false_or, byteI_at hlt] at HQ0
      have HQ : Hid (fitP p q = (((q[m].toNat : Int) == 47) || ((p[q.size].toNat : Int) == 47))) := HQ0
      clear HQ0 hs
      generalize fitP p q = R at *
      cases h47 : ((q[m].toNat : Int) == 47) with
      | true =>
        have HZ : Hid (R = true) := by show _ = _; rw [HQ.out, h47]; rfl
        clear HQ
        go_enter Try.func7, Try.ntmps7
        go_wp2
        go_ret
        exact ⟨ret_bool HZ.out.symm, rfl⟩
      | false =>
        have HZ : Hid (R = ((p[q.size].toNat : Int) == 47)) := by show _ = _; rw [HQ.out, h47]; rfl
        clear HQ
        go_enter Try.func7, Try.ntmps7
        go_wp2
        go_ret
        exact ⟨ret_bool HZ.out.symm, rfl⟩

theorem pathB_pos {t : ByteArray} (h : pathB t = true) : 0 < t.size ∧ t.size ≤ 40 := by
  unfold pathB at h; rw [decide_eq_true_eq] at h; omega

set_option maxRecDepth 10000 in
set_option maxHeartbeats 1000000 in
theorem specPathFits_any (p q : ByteArray) (w : World) :
    Calls Try.prog 4 #[.string p, .string q] w fun e w' => e = .returned (.bool (pathF p q)) ∧ w' = w := by
  have K1 : Hid (∀ W, Calls Try.prog 6 #[.string p] W fun e w' => e = .returned (.bool (pathB p)) ∧ w' = W) := fun W => specPath_any p W
  have K2 : Hid (∀ W, Calls Try.prog 6 #[.string q] W fun e w' => e = .returned (.bool (pathB q)) ∧ w' = W) := fun W => specPath_any q W
  have K3 : Hid (pathB q = true → ∀ W, Calls Try.prog 7 #[.string p, .string q] W fun e w' => e = .returned (.bool (fitP p q)) ∧ w' = W) := fun b W => specL06Path_any p q W (pathB_pos b).1 (by have := pathB_pos b; omega)
  have HE : Hid (pathF p q = (pathB p && pathB q && fitP p q)) := rfl
  generalize pathF p q = R at *
  generalize pathB p = b1 at *
  generalize pathB q = b2 at *
  generalize fitP p q = b3 at *
  go_enter Try.func4, Try.ntmps4
  go_wp2_with fail
  refine (K1.out _).mono ?_
  rintro e w1 ⟨rfl, rfl⟩
  cases b1 with
  | false =>
    go_wp2
    go_ret
    exact ⟨ret_bool (by rw [HE.out]; rfl), rfl⟩
  | true =>
    go_wp2_with fail
    refine (K2.out _).mono ?_
    rintro e w2 ⟨rfl, rfl⟩
    cases b2 with
    | false =>
      go_wp2
      go_ret
      exact ⟨ret_bool (by rw [HE.out]; rfl), rfl⟩
    | true =>
      have K3b : Hid (∀ W, Calls Try.prog 7 #[.string p, .string q] W fun e w' => e = .returned (.bool b3) ∧ w' = W) := K3.out rfl
      clear K3
      go_wp2_with fail
      refine (K3b.out _).mono ?_
      rintro e w3 ⟨rfl, rfl⟩
      go_wp2
      go_ret
      exact ⟨ret_bool (by rw [HE.out]; rfl), rfl⟩
end Go.Proofs.Ytfoekelhcmlagaa
