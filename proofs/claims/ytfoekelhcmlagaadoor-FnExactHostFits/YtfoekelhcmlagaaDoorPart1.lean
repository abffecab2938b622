/- 20 of this claim's texts, one behind the other. -/
import Derived.Test.YtfoekelhcmlagaaDoorRows
import Derived.Below
import Derived.Lib.SplitLaws
import Derived.WalkKit
import Derived.WalkSpells
import Derived.WalkLawsBesides
import Derived.Test.YtfoekelhcmlagaaDoorShelf
import Derived.Laws.RangeAny
import Derived.Laws.CopyOwn
import Derived.Lib.BufferWrite
import Derived.Laws.IdiomStrings
import Derived.Deep.QuietTactic
import Derived.BigQuiet
import Derived.Deep.RegionWith
import Derived.Lib.Strings
import Derived.Handed
import Derived.Lay
import Derived.MakeChecks
import Derived.Lib.LaidTab
import Derived.Stop.LaidErr
/- Small facts that the walks close with: equal values make equal endings; what lies below a block is as it was. -/
namespace Go.Proofs.YtfoekelhcmlagaaDoor
open Go.RowKit
theorem ret_bool {a b : Bool} (h : a = b) : Ending.returned (.bool a) = .returned (.bool b) := by rw [h]
theorem val_int {k : IntKind} {a b : Int} (h : a = b) : Value.int k a = .int k b := by rw [h]
theorem ret_int {k : IntKind} {a b : Int} (h : a = b) : Ending.returned (.int k a) = .returned (.int k b) := by rw [h]
theorem ret_text {a b : ByteArray} (h : a = b) : Ending.returned (.string a) = .returned (.string b) := by rw [h]
theorem bcell {W w1 : World} (hb : Below W.heap.size W w1) : (∀ b o, b < W.heap.size → w1.cell? ⟨b, o, none⟩ = W.cell? ⟨b, o, none⟩) ∧ (∀ b o, b < W.heap.size → w1.frozen? ⟨b, o, none⟩ = W.frozen? ⟨b, o, none⟩) :=
  ⟨fun b o h => hb.cell (p := ⟨b, o, none⟩) h, fun b o h => hb.frozen (p := ⟨b, o, none⟩) h⟩
theorem own_shape {w : World} {base n : Nat} {e : TypeId} {v : Value} {xs : List Value} (h : w.ownsRow base e 1 v (n + 1) xs) : ∃ g cap, v = .slice (some ⟨g, 0, none⟩) (n + 1) cap := by
  obtain ⟨_, ⟨_, h0⟩ | ⟨g, cap, _, hv, _⟩⟩ := h
  · omega
  · exact ⟨g, cap, hv⟩
end Go.Proofs.YtfoekelhcmlagaaDoor

/- What a label and a path of a url are, as plain functions, with the facts that walks close with. -/
namespace Go.Proofs.YtfoekelhcmlagaaDoor
/-- may the byte stand in a label? -/
def labC (c : Nat) : Bool := decide ((97 ≤ c ∧ c ≤ 122) ∨ (48 ≤ c ∧ c ≤ 57) ∨ c = 45)
def labelB (t : ByteArray) : Bool := decide (1 ≤ t.size ∧ t.size ≤ 12 ∧ (∀ h : 0 < t.size, ¬ t[0].toNat = 45) ∧ (∀ h : t.size - 1 < t.size, ¬ t[t.size - 1].toNat = 45) ∧ ∀ i (h : i < t.size), labC t[i].toNat = true)
theorem labelB_size {t : ByteArray} (h : t.size < 1 ∨ 12 < t.size) : labelB t = false := by
  unfold labelB; rw [decide_eq_false_iff_not]; rintro ⟨a, b, _⟩; omega
theorem labelB_first {t : ByteArray} (h : 0 < t.size) (hc : t[0].toNat = 45) : labelB t = false := by
  unfold labelB; rw [decide_eq_false_iff_not]; rintro ⟨_, _, a, _⟩; exact a h hc
theorem labelB_last {t : ByteArray} (h : t.size - 1 < t.size) (hc : t[t.size - 1].toNat = 45) : labelB t = false := by
  unfold labelB; rw [decide_eq_false_iff_not]; rintro ⟨_, _, _, a, _⟩; exact a h hc
theorem labelB_at {t : ByteArray} (k : Nat) (h : k < t.size) (hk : labC t[k].toNat = false) : labelB t = false := by
  unfold labelB; rw [decide_eq_false_iff_not]; rintro ⟨_, _, _, _, c⟩; rw [c k h] at hk; cases hk
theorem labelB_true {t : ByteArray} (h1 : 1 ≤ t.size) (h2 : t.size ≤ 12) (h3 : ∀ h : 0 < t.size, ¬ t[0].toNat = 45) (h4 : ∀ h : t.size - 1 < t.size, ¬ t[t.size - 1].toNat = 45)
    (h : ∀ i (h : i < t.size), labC t[i].toNat = true) : labelB t = true := by
  unfold labelB; rw [decide_eq_true_iff]; exact ⟨h1, h2, h3, h4, h⟩
theorem labC_yes {c : Nat} (h : (97 ≤ c ∧ c ≤ 122) ∨ (48 ≤ c ∧ c ≤ 57) ∨ c = 45) : labC c = true := by unfold labC; rw [decide_eq_true_iff]; exact h
theorem labC_no {c : Nat} (h : ¬ ((97 ≤ c ∧ c ≤ 122) ∨ (48 ≤ c ∧ c ≤ 57) ∨ c = 45)) : labC c = false := by unfold labC; rw [decide_eq_false_iff_not]; exact h
theorem all_succ {t : ByteArray} {P : Nat → Bool} {k : Nat} (hr : ∀ i (h : i < t.size), i < k → P t[i].toNat = true) (hk : k < t.size) (ho : P t[k].toNat = true) :
    ∀ i (h : i < t.size), i < k + 1 → P t[i].toNat = true := by
  intro i h hi
  by_cases e : i = k
  · subst e; exact ho
  · exact hr i h (by omega)
/-- may the byte stand in a path? -/
def pathC (c : Nat) : Bool := decide (33 ≤ c ∧ c ≤ 126 ∧ ¬ c = 63 ∧ ¬ c = 35 ∧ ¬ c = 59)
def pathB (t : ByteArray) : Bool := decide (1 ≤ t.size ∧ t.size ≤ 40 ∧ (∀ h : 0 < t.size, t[0].toNat = 47) ∧ ∀ i (h : i < t.size), pathC t[i].toNat = true)
theorem pathB_size {t : ByteArray} (h : t.size < 1 ∨ 40 < t.size) : pathB t = false := by
  unfold pathB; rw [decide_eq_false_iff_not]; rintro ⟨a, b, _⟩; omega
theorem pathB_first {t : ByteArray} (h : 0 < t.size) (hc : ¬ t[0].toNat = 47) : pathB t = false := by
  unfold pathB; rw [decide_eq_false_iff_not]; rintro ⟨_, _, a, _⟩; exact hc (a h)
theorem pathB_at {t : ByteArray} (k : Nat) (h : k < t.size) (hk : pathC t[k].toNat = false) : pathB t = false := by
  unfold pathB; rw [decide_eq_false_iff_not]; rintro ⟨_, _, _, c⟩; rw [c k h] at hk; cases hk
theorem pathB_true {t : ByteArray} (h1 : 1 ≤ t.size) (h2 : t.size ≤ 40) (h3 : ∀ h : 0 < t.size, t[0].toNat = 47) (h : ∀ i (h : i < t.size), pathC t[i].toNat = true) : pathB t = true := by
  unfold pathB; rw [decide_eq_true_iff]; exact ⟨h1, h2, h3, h⟩
theorem pathC_yes {c : Nat} (h : 33 ≤ c ∧ c ≤ 126 ∧ ¬ c = 63 ∧ ¬ c = 35 ∧ ¬ c = 59) : pathC c = true := by unfold pathC; rw [decide_eq_true_iff]; exact h
theorem pathC_no {c : Nat} (h : ¬ (33 ≤ c ∧ c ≤ 126 ∧ ¬ c = 63 ∧ ¬ c = 35 ∧ ¬ c = 59)) : pathC c = false := by unfold pathC; rw [decide_eq_false_iff_not]; exact h
end Go.Proofs.YtfoekelhcmlagaaDoor

/- A text cut at a byte, as a plain function that goes byte by byte; what a host's labels are. -/
namespace Go.Proofs.YtfoekelhcmlagaaDoor
/-- the cuts among the first i bytes, and where the last one ends -/
def splitTo (s : ByteArray) (c : Nat) : Nat → List ByteArray × Nat
  | 0 => ([], 0)
  | i + 1 => if h : i < s.size then (if s[i].toNat = c then ((splitTo s c i).1 ++ [s.extract (splitTo s c i).2 i], i + 1) else splitTo s c i) else splitTo s c i
def splitB (s : ByteArray) (c : Nat) : List ByteArray := (splitTo s c s.size).1 ++ [s.extract (splitTo s c s.size).2 s.size]
theorem splitTo_hit {s : ByteArray} {c i : Nat} (h : i < s.size) (hc : s[i].toNat = c) : splitTo s c (i + 1) = ((splitTo s c i).1 ++ [s.extract (splitTo s c i).2 i], i + 1) := by
  rw [splitTo, dif_pos h, if_pos hc]
theorem splitTo_miss {s : ByteArray} {c i : Nat} (h : i < s.size) (hc : ¬ s[i].toNat = c) : splitTo s c (i + 1) = splitTo s c i := by
  rw [splitTo, dif_pos h, if_neg hc]
theorem splitTo_le (s : ByteArray) (c i : Nat) : (splitTo s c i).2 ≤ i ∧ (splitTo s c i).1.length ≤ i := by
  induction i with
  | zero => exact ⟨Nat.le_refl _, Nat.le_refl _⟩
  | succ i ih =>
    rw [splitTo]
    split
    · split
      · exact ⟨Nat.le_refl _, by simp; omega⟩
      · exact ⟨by omega, by omega⟩
    · exact ⟨by omega, by omega⟩
theorem splitB_len (s : ByteArray) (c : Nat) : (splitB s c).length ≤ s.size + 1 := by
  have := (splitTo_le s c s.size).2
  unfold splitB; simp; omega
/-- a right host -/
def hostB (s : ByteArray) : Bool := decide (s.size ≤ 100) && (splitB s 46).all labelB && decide ((splitB s 46).length ≤ 6)
theorem hostB_size {s : ByteArray} (h : 100 < s.size) : hostB s = false := by
  unfold hostB; rw [decide_eq_false (by omega)]; rfl
theorem hostB_at {s : ByteArray} (k : Nat) (h : k < (splitB s 46).length) (hl : labelB ((splitB s 46)[k]) = false) : hostB s = false := by
  have : (splitB s 46).all labelB = false := by
    rw [List.all_eq_false]
    exact ⟨_, List.getElem_mem h, by simp [hl]⟩
  unfold hostB; rw [this]; simp
theorem hostB_all {s : ByteArray} (hs : s.size ≤ 100) (h : ∀ k (h : k < (splitB s 46).length), labelB ((splitB s 46)[k]) = true) : hostB s = decide ((splitB s 46).length ≤ 6) := by
  have : (splitB s 46).all labelB = true := by
    rw [List.all_eq_true]
    intro x hx
    obtain ⟨k, hk, rfl⟩ := List.getElem_of_mem hx
    exact h k hk
  unfold hostB; rw [this, decide_eq_true hs]; rfl
theorem splitTo_little (s : ByteArray) (c : Nat) : ∀ i, ∀ x ∈ (splitTo s c i).1, x.size ≤ s.size
  | 0, x, h => by cases h
  | i + 1, x, h => by
    rw [splitTo] at h
    split at h
    · split at h
      · rw [List.mem_append] at h
        rcases h with h | h
        · exact splitTo_little s c i x h
        · rw [List.mem_singleton] at h
          rw [h, ByteArray.size_extract]; omega
      · exact splitTo_little s c i x h
    · exact splitTo_little s c i x h
theorem splitB_small (s : ByteArray) (c : Nat) : ∀ x ∈ splitB s c, x.size ≤ s.size := by
  intro x h
  unfold splitB at h
  rw [List.mem_append, List.mem_singleton] at h
  rcases h with h | h
  · exact splitTo_little s c _ x h
  · rw [h, ByteArray.size_extract]; omega
end Go.Proofs.YtfoekelhcmlagaaDoor

/- What the library's Split cuts a text into at a byte is splitB's list. -/
namespace Go.Proofs.YtfoekelhcmlagaaDoor
theorem first_split {c : UInt8} : ∀ {l : List UInt8}, c ∈ l → ∃ A B, l = A ++ c :: B ∧ ∀ x ∈ A, x ≠ c
  | [], h => by cases h
  | b :: l, h => by
    by_cases e : b = c
    · exact ⟨[], l, by rw [e]; rfl, fun x hx => by cases hx⟩
    · obtain ⟨A, B, rfl, hA⟩ := first_split (l := l) (by cases h with | head => exact absurd rfl e | tail _ h => exact h)
      refine ⟨b :: A, B, rfl, ?_⟩
      intro x hx
      cases hx with
      | head => exact e
      | tail _ hx => exact hA x hx
/-- a list of bytes cut at a byte -/
def cutL (c : UInt8) : List UInt8 → List (List UInt8)
  | [] => [[]]
  | b :: l => if b = c then [] :: cutL c l else match cutL c l with
    | [] => [[b]]
    | p :: r => (b :: p) :: r
theorem cutL_none (c : UInt8) : ∀ A : List UInt8, (∀ x ∈ A, x ≠ c) → cutL c A = [A]
  | [], _ => rfl
  | b :: A, h => by
    rw [cutL, if_neg (h b (by simp)), cutL_none c A (fun x hx => h x (by simp [hx]))]
theorem cutL_app (c : UInt8) (B : List UInt8) : ∀ A : List UInt8, (∀ x ∈ A, x ≠ c) → cutL c (A ++ c :: B) = A :: cutL c B
  | [], _ => by rw [List.nil_append, cutL, if_pos rfl]
  | b :: A, h => by
    rw [List.cons_append, cutL, if_neg (h b (by simp)), cutL_app c B A (fun x hx => h x (by simp [hx]))]
theorem index_one (c : UInt8) (A B : List UInt8) (h : ∀ x ∈ A, x ≠ c) : Lib.index (A ++ c :: B) [c] = A.length := by
  refine Lib.index_first (by simp) ?_ ?_
  · simp [Lib.occAt]
  · intro j hj
    rw [← Bool.not_eq_true]
    intro ho
    have e := Lib.occAt_head rfl ho
    rw [List.getElem?_append_left hj] at e
    exact h c (List.mem_of_getElem? e) rfl
theorem splitK_cutL (c : UInt8) : ∀ (k : Nat) (l : List UInt8), l.count c = k → Lib.splitK [c] 0 k l = cutL c l
  | 0, l, h => by
    rw [cutL_none c l (fun x hx e => by subst e; exact absurd (List.count_pos_iff.2 hx) (by omega))]
    rfl
  | k + 1, l, h => by
    obtain ⟨A, B, rfl, hA⟩ := first_split (List.count_pos_iff.1 (show 0 < l.count c by omega))
    have hi := index_one c A B hA
    have h0 : A.count c = 0 := List.count_eq_zero.2 (fun hx => hA c hx rfl)
    have hB : B.count c = k := by
      rw [List.count_append, List.count_cons_self, h0] at h; omega
    rw [Lib.splitK, if_neg (by rw [hi, beq_iff_eq]; omega), hi, cutL_app c B A hA]
    congr 1
    · simp
    · rw [← splitK_cutL c k B hB]
      congr 1
      rw [show ((A.length : Int)).toNat + [c].length = A.length + 1 by simp, ← List.drop_drop, List.drop_left]
      rfl
theorem extract_list (s : ByteArray) (a b : Nat) : (s.extract a b).data.toList = (s.data.toList.drop a).take (b - a) := by
  simp
theorem byte_list {s : ByteArray} {i : Nat} (h : i < s.size) : s.data.toList[i]'(by simpa using h) = s[i] := by simp; rfl
theorem splitTo_cut (s : ByteArray) (c : UInt8) : ∀ i, i ≤ s.size →
    cutL c s.data.toList = (splitTo s c.toNat i).1.map (·.data.toList) ++ cutL c (s.data.toList.drop (splitTo s c.toNat i).2) ∧
      ∀ j (h : j < s.size), (splitTo s c.toNat i).2 ≤ j → j < i → s[j] ≠ c
  | 0, _ => ⟨by simp [splitTo], fun j _ _ h => by omega⟩
  | i + 1, hi => by
    obtain ⟨e, hn⟩ := splitTo_cut s c i (by omega)
    have hlt : i < s.size := by omega
    have hle := (splitTo_le s c.toNat i).1
    by_cases hc : s[i].toNat = c.toNat
    · rw [splitTo_hit hlt hc]
      refine ⟨?_, fun j _ h1 h2 => by simp at h1; omega⟩
      rw [e]
      generalize (splitTo s c.toNat i).2 = f at *
      have hl : i < s.data.toList.length := by simpa using hlt
      have hd : s.data.toList.drop f = ((s.data.toList.drop f).take (i - f)) ++ c :: s.data.toList.drop (i + 1) := by
        have hci : s.data.toList[i] = c := by rw [byte_list hlt]; exact UInt8.toNat_inj.1 hc
        conv => lhs; rw [← List.take_append_drop (i - f) (s.data.toList.drop f)]
        congr 1
        rw [List.drop_drop, show f + (i - f) = i by omega, List.drop_eq_getElem_cons hl, hci]
      have hA : ∀ x ∈ (s.data.toList.drop f).take (i - f), x ≠ c := by
        intro x hx
        obtain ⟨k, hk, rfl⟩ := List.getElem_of_mem hx
        have hk2 : k < i - f := by rw [List.length_take] at hk; omega
        rw [List.getElem_take, List.getElem_drop]
        have := hn (f + k) (by omega) (by omega) (by omega)
        rw [← byte_list (by omega)] at this
        exact this
      conv => lhs; rw [hd, cutL_app c _ _ hA]
      simp
    · rw [splitTo_miss hlt hc]
      refine ⟨e, fun j h h1 h2 => ?_⟩
      by_cases hj : j = i
      · subst hj; exact fun e => hc (by rw [e])
      · exact hn j h h1 (by omega)
theorem splitB_cut (s : ByteArray) (c : UInt8) : (splitB s c.toNat).map (·.data.toList) = cutL c s.data.toList := by
  obtain ⟨e, hn⟩ := splitTo_cut s c s.size (Nat.le_refl _)
  have hle := (splitTo_le s c.toNat s.size).1
  unfold splitB
  rw [e]
  generalize (splitTo s c.toNat s.size).2 = f at *
  rw [cutL_none c (s.data.toList.drop f)]
  · rw [List.map_append]; congr 1
    simp only [List.map_cons, List.map_nil, extract_list]
    rw [List.take_of_length_le (by simp)]
  · intro x hx
    obtain ⟨k, hk, rfl⟩ := List.getElem_of_mem hx
    rw [List.getElem_drop]
    have hk2 : f + k < s.size := by rw [List.length_drop] at hk; simp at hk; omega
    have := hn (f + k) hk2 (by omega) hk2
    rw [← byte_list hk2] at this
    exact this
theorem datas_inj : ∀ {A B : List ByteArray}, A.map (·.data.toList) = B.map (·.data.toList) → A = B
  | [], [], _ => rfl
  | [], b :: B, h => by cases h
  | a :: A, [], h => by cases h
  | a :: A, b :: B, h => by
    simp only [List.map_cons, List.cons.injEq] at h
    obtain ⟨h1, h2⟩ := h
    rw [datas_inj h2]
    congr 1
    cases a; cases b
    congr 1
    exact Array.toList_inj.1 h1
theorem lib_split (s : ByteArray) (c : UInt8) : Lib.splitB ⟨#[c]⟩ 0 (Lib.countB s ⟨#[c]⟩) s = splitB s c.toNat := by
  apply datas_inj
  rw [Lib.splitB_data, splitB_cut]
  exact splitK_cutL c _ _ (Lib.count_one c s.data.toList).symm
theorem lib_count (s : ByteArray) (c : UInt8) : Lib.countB s ⟨#[c]⟩ + 1 = (splitB s c.toNat).length := by
  rw [← lib_split, Lib.splitB_all ⟨#[c]⟩ (Nat.le_refl 1) 0 _ s rfl]
end Go.Proofs.YtfoekelhcmlagaaDoor

/- The walks of the specification's l02Label and l02Path. -/
namespace Go.Proofs.YtfoekelhcmlagaaDoor
open Go.RowKit

set_option maxRecDepth 10000 in
set_option maxHeartbeats 400000 in
theorem specLabel_any (t : ByteArray) (w : World) :
    Calls Tryd.prog 89 #[.string t] w fun e w' => e = .returned (.bool (labelB t)) ∧ w' = w := by
  by_cases h1 : t.size < 1
  · go_enter Tryd.func89, Tryd.ntmps89
    go_wp2
    go_ret
    exact ⟨ret_bool (labelB_size (.inl h1)).symm, rfl⟩
  have q1 : decide ((t.size : Int) < 1) = false := by rw [decide_eq_false_iff_not]; omega
  by_cases h2 : 12 < t.size
  · go_enter Tryd.func89, Tryd.ntmps89
    go_wp2
    go_ret
    exact ⟨ret_bool (labelB_size (.inr h2)).symm, rfl⟩
  have q2 : decide ((12 : Int) < (t.size : Int)) = false := by rw [decide_eq_false_iff_not]; omega
  have hp : 0 < t.size := by omega
  have hl : t.size - 1 < t.size := by omega
  by_cases h3 : t[0].toNat = 45
  · have q3 : ((t[0].toNat : Int) == 45) = true := by rw [beq_iff_eq]; omega
    have H3 : Hid (t[0].toNat = 45) := h3
    clear h3
    go_enter Tryd.func89, Tryd.ntmps89
    go_wp2
    go_ret
    exact ⟨ret_bool (labelB_first hp H3.out).symm, rfl⟩
  have q3 : ((t[0].toNat : Int) == 45) = false := by rw [beq_eq_false_iff_ne]; omega
  have H3 : Hid (¬ t[0].toNat = 45) := h3
  clear h3
  by_cases h4 : t[t.size - 1].toNat = 45
  · have q4 : ((t[t.size - 1].toNat : Int) == 45) = true := by rw [beq_iff_eq]; omega
    have H4 : Hid (t[t.size - 1].toNat = 45) := h4
    clear h4
    go_enter Tryd.func89, Tryd.ntmps89
    go_wp2
    go_ret
    exact ⟨ret_bool (labelB_last hl H4.out).symm, rfl⟩
  have q4 : ((t[t.size - 1].toNat : Int) == 45) = false := by rw [beq_eq_false_iff_ne]; omega
  have H4 : Hid (¬ t[t.size - 1].toNat = 45) := h4
  clear h4
  go_enter Tryd.func89, Tryd.ntmps89
  go_wp2
  go_loop [4, 5] (fun i _ => ∃ k : Nat, k ≤ t.size ∧ i = .int .i64 k ∧ Hid (∀ i (h : i < t.size), i < k → labC t[i].toNat = true)) (fun i _ => t.size - (intOf i).toNat)
  case atStart => exact ⟨0, Nat.zero_le _, rfl, fun i _ hi => absurd hi (by omega)⟩
  case round =>
    obtain ⟨k, hk, rfl, HR⟩ := hrel
    by_cases hlt : k < t.size
    · rcases (show (t[k].toNat < 45) ∨ (45 ≤ t[k].toNat ∧ t[k].toNat ≤ 45) ∨ (46 ≤ t[k].toNat ∧ t[k].toNat < 48) ∨ (48 ≤ t[k].toNat ∧ t[k].toNat ≤ 57) ∨ (58 ≤ t[k].toNat ∧ t[k].toNat < 97) ∨ (97 ≤ t[k].toNat ∧ t[k].toNat ≤ 122) ∨ (122 < t[k].toNat) by omega)
        with c1 | ⟨c1, c2⟩ | ⟨c1, c2⟩ | ⟨c1, c2⟩ | ⟨c1, c2⟩ | ⟨c1, c2⟩ | c1
      · have b1 : decide ((97 : Int) ≤ (t[k].toNat : Int)) = false := by rw [decide_eq_false_iff_not]; omega
        have b2 : decide ((48 : Int) ≤ (t[k].toNat : Int)) = false := by rw [decide_eq_false_iff_not]; omega
        have b3 : ((t[k].toNat : Int) == 45) = false := by rw [beq_eq_false_iff_ne]; omega
        go_wp2
        go_ret
        exact ⟨ret_bool (labelB_at k hlt (labC_no (by omega))).symm, rfl⟩
      · have b1 : decide ((97 : Int) ≤ (t[k].toNat : Int)) = false := by rw [decide_eq_false_iff_not]; omega
        have b2 : decide ((48 : Int) ≤ (t[k].toNat : Int)) = false := by rw [decide_eq_false_iff_not]; omega
        have b3 : ((t[k].toNat : Int) == 45) = true := by rw [beq_iff_eq]; omega
        go_wp2
        go_round
        case rel => exact ⟨k + 1, by omega, by go_num, all_succ HR.out hlt (labC_yes (by omega))⟩
        case measure => simp [intOf]; omega
      · have b1 : decide ((97 : Int) ≤ (t[k].toNat : Int)) = false := by rw [decide_eq_false_iff_not]; omega
        have b2 : decide ((48 : Int) ≤ (t[k].toNat : Int)) = false := by rw [decide_eq_false_iff_not]; omega
        have b3 : ((t[k].toNat : Int) == 45) = false := by rw [beq_eq_false_iff_ne]; omega
        go_wp2
        go_ret
        exact ⟨ret_bool (labelB_at k hlt (labC_no (by omega))).symm, rfl⟩
      · have b1 : decide ((97 : Int) ≤ (t[k].toNat : Int)) = false := by rw [decide_eq_false_iff_not]; omega
        go_wp2
        go_round
        case rel => exact ⟨k + 1, by omega, by go_num, all_succ HR.out hlt (labC_yes (by omega))⟩
        case measure => simp [intOf]; omega
      · have b1 : decide ((97 : Int) ≤ (t[k].toNat : Int)) = false := by rw [decide_eq_false_iff_not]; omega
        have b2 : decide ((t[k].toNat : Int) ≤ 57) = false := by rw [decide_eq_false_iff_not]; omega
        have b3 : ((t[k].toNat : Int) == 45) = false := by rw [beq_eq_false_iff_ne]; omega
        go_wp2
        go_ret
        exact ⟨ret_bool (labelB_at k hlt (labC_no (by omega))).symm, rfl⟩
      · go_wp2
        go_round
        case rel => exact ⟨k + 1, by omega, by go_num, all_succ HR.out hlt (labC_yes (by omega))⟩
        case measure => simp [intOf]; omega
      · have b1 : decide ((t[k].toNat : Int) ≤ 122) = false := by rw [decide_eq_false_iff_not]; omega
        have b2 : decide ((t[k].toNat : Int) ≤ 57) = false := by rw [decide_eq_false_iff_not]; omega
        have b3 : ((t[k].toNat : Int) == 45) = false := by rw [beq_eq_false_iff_ne]; omega
        go_wp2
        go_ret
        exact ⟨ret_bool (labelB_at k hlt (labC_no (by omega))).symm, rfl⟩
    · go_wp2
      go_ret
      exact ⟨ret_bool (labelB_true (by omega) (by omega) (fun _ => H3.out) (fun _ => H4.out) (fun i h => HR.out i h (by omega))).symm, rfl⟩

set_option maxRecDepth 10000 in
set_option maxHeartbeats 400000 in
theorem specPath_any (t : ByteArray) (w : World) :
    Calls Tryd.prog 105 #[.string t] w fun e w' => e = .returned (.bool (pathB t)) ∧ w' = w := by
  by_cases h1 : t.size < 1
  · go_enter Tryd.func105, Tryd.ntmps105
    go_wp2
    go_ret
    exact ⟨ret_bool (pathB_size (.inl h1)).symm, rfl⟩
  have q1 : decide ((t.size : Int) < 1) = false := by rw [decide_eq_false_iff_not]; omega
  by_cases h2 : 40 < t.size
  · go_enter Tryd.func105, Tryd.ntmps105
    go_wp2
    go_ret
    exact ⟨ret_bool (pathB_size (.inr h2)).symm, rfl⟩
  have q2 : decide ((40 : Int) < (t.size : Int)) = false := by rw [decide_eq_false_iff_not]; omega
  have hp : 0 < t.size := by omega
  by_cases h3 : t[0].toNat = 47
  case neg =>
    have q3 : ((t[0].toNat : Int) != 47) = true := by rw [bne_iff_ne]; omega
    have H3 : Hid (¬ t[0].toNat = 47) := h3
    clear h3
    go_enter Tryd.func105, Tryd.ntmps105
    go_wp2
    go_ret
    exact ⟨ret_bool (pathB_first hp H3.out).symm, rfl⟩
  have q3 : ((t[0].toNat : Int) != 47) = false := by rw [bne_eq_false_iff_eq]; omega
  have H3 : Hid (t[0].toNat = 47) := h3
  clear h3
  go_enter Tryd.func105, Tryd.ntmps105
  go_wp2
  go_loop [3] (fun i => ∃ k : Nat, k ≤ t.size ∧ i = .int .i64 k ∧ Hid (∀ i (h : i < t.size), i < k → pathC t[i].toNat = true)) (fun i => t.size - (intOf i).toNat)
  case atStart => exact ⟨0, Nat.zero_le _, rfl, fun i _ hi => absurd hi (by omega)⟩
  case round =>
    obtain ⟨k, hk, rfl, HR⟩ := hrel
    by_cases hlt : k < t.size
    · by_cases d1 : t[k].toNat < 33
      · go_wp2
        go_ret
        exact ⟨ret_bool (pathB_at k hlt (pathC_no (by omega))).symm, rfl⟩
      have b1 : decide ((t[k].toNat : Int) < 33) = false := by rw [decide_eq_false_iff_not]; omega
      by_cases d2 : 126 < t[k].toNat
      · go_wp2
        go_ret
        exact ⟨ret_bool (pathB_at k hlt (pathC_no (by omega))).symm, rfl⟩
      have b2 : decide ((126 : Int) < (t[k].toNat : Int)) = false := by rw [decide_eq_false_iff_not]; omega
      by_cases d3 : t[k].toNat = 63
      · have b3 : ((t[k].toNat : Int) == 63) = true := by rw [beq_iff_eq]; omega
        have D3 : Hid (t[k].toNat = 63) := d3
        clear d3
        go_wp2
        go_ret
        exact ⟨ret_bool (pathB_at k hlt (pathC_no (by have := D3.out; omega))).symm, rfl⟩
      have b3 : ((t[k].toNat : Int) == 63) = false := by rw [beq_eq_false_iff_ne]; omega
      by_cases d4 : t[k].toNat = 35
      · have b4 : ((t[k].toNat : Int) == 35) = true := by rw [beq_iff_eq]; omega
        have D4 : Hid (t[k].toNat = 35) := d4
        clear d4
        go_wp2
        go_ret
        exact ⟨ret_bool (pathB_at k hlt (pathC_no (by have := D4.out; omega))).symm, rfl⟩
      have b4 : ((t[k].toNat : Int) == 35) = false := by rw [beq_eq_false_iff_ne]; omega
      by_cases d5 : t[k].toNat = 59
      · have b5 : ((t[k].toNat : Int) == 59) = true := by rw [beq_iff_eq]; omega
        have D5 : Hid (t[k].toNat = 59) := d5
        clear d5
        go_wp2
        go_ret
        exact ⟨ret_bool (pathB_at k hlt (pathC_no (by have := D5.out; omega))).symm, rfl⟩
      have b5 : ((t[k].toNat : Int) == 59) = false := by rw [beq_eq_false_iff_ne]; omega
      have HC : Hid (pathC t[k].toNat = true) := pathC_yes (by omega)
      clear d3 d4 d5
      go_wp2
      go_round
      case rel => exact ⟨k + 1, by omega, by go_num, all_succ HR.out hlt HC.out⟩
      case measure => simp [intOf]; omega
    · go_wp2
      go_ret
      exact ⟨ret_bool (pathB_true (by omega) (by omega) (fun _ => H3.out) (fun i h => HR.out i h (by omega))).symm, rfl⟩
end Go.Proofs.YtfoekelhcmlagaaDoor

/- The walks of the specification's l01Split and HostRight. -/
namespace Go.Proofs.YtfoekelhcmlagaaDoor
open Go.RowKit

theorem infoStr : (Tryd.prog.info? 9).map (fun i => (i.zero, i.size, i.bytes)) = some (some (.string ⟨#[]⟩), 1, 16) := by kernel_rfl
/-- the cells of texts -/
def strCells (L : List ByteArray) : List Value := L.map Value.string
theorem strCells_snoc (L : List ByteArray) (x : ByteArray) : strCells L ++ [.string x] = strCells (L ++ [x]) := by simp [strCells]

set_option maxRecDepth 10000 in
set_option maxHeartbeats 400000 in
theorem split_any (s : ByteArray) (c : Nat) (w : World) (hs : s.size ≤ 1048576) :
    Calls Tryd.prog 83 #[.string s, .int .u8 c] w fun e w' => ∃ v, e = .returned v ∧ w'.ownsRow w.heap.size 9 1 v (splitB s c).length (strCells (splitB s c)) ∧ Below w.heap.size w w' := by
  obtain ⟨i0, hi, hz0, hz1, hz2⟩ := info_parts infoStr
  go_enter Tryd.func83, Tryd.ntmps83
  go_wp2
  go_loopw [5, 6, 7] (fun v f i wr => ∃ k : Nat, k ≤ s.size ∧ i = .int .i64 k ∧ f = .int .i64 ((splitTo s c k).2 : Nat) ∧ wr.ownsRow w.heap.size 9 1 v (splitTo s c k).1.length (strCells (splitTo s c k).1) ∧ Below w.heap.size w wr) (fun _ _ i _ => s.size - (intOf i).toNat)
  case atStart => exact ⟨0, Nat.zero_le _, rfl, rfl, World.ownsRow_made w #[] 0 (Nat.le_refl _) (Nat.zero_le _) rfl, (Below.refl _ _).alloc (Nat.le_refl _) _⟩
  case round =>
    obtain ⟨k, hk, rfl, rfl, hown, hb⟩ := hrel
    have hle := splitTo_le s c k
    have hbs := hb.size
    by_cases hlt : k < s.size
    · by_cases hit : s[k].toNat = c
      · have HS : Hid (splitTo s c (k + 1) = ((splitTo s c k).1 ++ [s.extract (splitTo s c k).2 k], k + 1)) := splitTo_hit hlt hit
        have q : ((s[k].toNat : Int) == (c : Int)) = true := by rw [beq_iff_eq]; omega
        clear hit
        generalize splitTo s c k = r at *
        obtain ⟨L, f⟩ := r
        have hown2 : wr.ownsRow w.heap.size 9 1 u5 L.length (strCells L) := hown
        have hf1 : f ≤ k := hle.1
        have hf2 : L.length ≤ k := hle.2
        clear hown hle
        go_wp2_with (at_builtin; go_must (refine wpList_append_own _ rfl _ _ 23 rfl w.heap.size 9 i0 (.string ⟨#[]⟩) 1 16 Tryd.underlying23 hi hz0 hz1 hz2 rfl (by decide) _ _ _ rfl (hown2.alloc _) ⟨wr.heap.size, 0, none⟩ 1 1 [.string (s.extract f k)] rfl rfl (cell_one_new _ _ _) (by intro u hu; simp at hu; subst hu; rfl) (by unfold maxLen; omega) (by omega) (by simp; omega) ?_))
        intro v' w2 hown3 hgrow _
        rw [strCells_snoc] at hown3
        have hb2 : Below w.heap.size w w2 := (hb.alloc hbs _).grown hgrow (by simp; omega) (fun j hj => (hown2.lt j hj).1)
        clear hown2 hgrow hb
        go_wp2
        go_roundw
        case rel => exact ⟨k + 1, by omega, by go_num, by rw [HS.out]; go_num, by rw [HS.out]; simpa using hown3, hb2⟩
        case measure => simp [intOf]; omega
      · have HS : Hid (splitTo s c (k + 1) = splitTo s c k) := splitTo_miss hlt hit
        have q : ((s[k].toNat : Int) == (c : Int)) = false := by rw [beq_eq_false_iff_ne]; omega
        clear hit
        generalize splitTo s c k = r at *
        obtain ⟨L, f⟩ := r
        have hown2 : wr.ownsRow w.heap.size 9 1 u5 L.length (strCells L) := hown
        clear hown hle
        go_wp2
        go_roundw
        case rel => exact ⟨k + 1, by omega, by go_num, by rw [HS.out], by rw [HS.out]; exact hown2, hb⟩
        case measure => simp [intOf]; omega
    · obtain rfl : k = s.size := by omega
      have HS : Hid (splitB s c = (splitTo s c s.size).1 ++ [s.extract (splitTo s c s.size).2 s.size]) := rfl
      generalize splitTo s c s.size = r at *
      obtain ⟨L, f⟩ := r
      have hown2 : wr.ownsRow w.heap.size 9 1 u5 L.length (strCells L) := hown
      have hf1 : f ≤ s.size := hle.1
      have hf2 : L.length ≤ s.size := hle.2
      clear hown hle
      go_wp2_with (at_builtin; go_must (refine wpList_append_own _ rfl _ _ 23 rfl w.heap.size 9 i0 (.string ⟨#[]⟩) 1 16 Tryd.underlying23 hi hz0 hz1 hz2 rfl (by decide) _ _ _ rfl (hown2.alloc _) ⟨wr.heap.size, 0, none⟩ 1 1 [.string (s.extract f s.size)] rfl rfl (cell_one_new _ _ _) (by intro u hu; simp at hu; subst hu; rfl) (by unfold maxLen; omega) (by omega) (by simp; omega) ?_))
      intro v' w2 hown3 hgrow _
      rw [strCells_snoc] at hown3
      have hb2 : Below w.heap.size w w2 := (hb.alloc hbs _).grown hgrow (by simp; omega) (fun j hj => (hown2.lt j hj).1)
      clear hown2 hgrow hb
      go_wp2
      go_ret
      exact ⟨_, rfl, by rw [HS.out]; simpa using hown3, hb2⟩

theorem splitB_ne (s : ByteArray) (c : Nat) : ∃ n, (splitB s c).length = n + 1 := ⟨(splitTo s c s.size).1.length, by simp [splitB]⟩

set_option maxRecDepth 10000 in
set_option maxHeartbeats 400000 in
theorem specHost_any (s : ByteArray) (w : World) :
    Calls Tryd.prog 25 #[.string s] w fun e w' => e = .returned (.bool (hostB s)) ∧ Below w.heap.size w w' := by
  by_cases h1 : 100 < s.size
  · go_enter Tryd.func25, Tryd.ntmps25
    go_wp2
    go_ret
    exact ⟨ret_bool (hostB_size h1).symm, Below.refl _ _⟩
  have HA : Hid ((∀ k (h : k < (splitB s 46).length), labelB ((splitB s 46)[k]) = false → hostB s = false) ∧ ((∀ k (h : k < (splitB s 46).length), labelB ((splitB s 46)[k]) = true) → hostB s = decide ((splitB s 46).length ≤ 6))) :=
    ⟨fun k h hl => hostB_at k h hl, fun h => hostB_all (by omega) h⟩
  have hn := splitB_len s 46
  obtain ⟨n, hn1⟩ := splitB_ne s 46
  have HC : Hid (∀ W, Calls Tryd.prog 83 #[.string s, .int .u8 46] W fun e w' => ∃ v, e = .returned v ∧ w'.ownsRow W.heap.size 9 1 v (splitB s 46).length (strCells (splitB s 46)) ∧ Below W.heap.size W w') := fun W => split_any s 46 W (by omega)
  generalize splitB s 46 = L at *
  go_enter Tryd.func25, Tryd.ntmps25
  go_wp2_with fail
  refine (HC.out _).mono ?_
  rintro e w1 ⟨v, rfl, hown, hb⟩
  rw [hn1] at hown
  obtain ⟨g, cap, rfl⟩ := own_shape hown
  have hL : n + 1 ≤ 101 := by omega
  have hcell : ∀ k (h : k < L.length), w1.cell? ⟨g, k, none⟩ = some (.string L[k]) := by
    intro k hk
    rw [hown.cellAt k (by omega)]
    simp [strCells, hk]
  have HN : Hid (L.length = n + 1) := hn1
  clear hn1 hn hown
  go_wp2
  go_loop [4] (fun i => ∃ k : Nat, k ≤ n + 1 ∧ i = .int .i64 k ∧ Hid (∀ j (h : j < L.length), j < k → labelB L[j] = true)) (fun i => n + 1 - (intOf i).toNat)
  case atStart => exact ⟨0, by omega, rfl, fun j _ hj => absurd hj (by omega)⟩
  case round =>
    obtain ⟨k, hk, rfl, HR⟩ := hrel
    by_cases hlt : k < n + 1
    · have hkl : k < L.length := by rw [HN.out]; exact hlt
      have hck := hcell k hkl
      cases hlab : labelB L[k] with
      | true =>
        have HC2 : Hid (∀ W, Calls Tryd.prog 89 #[.string L[k]] W fun e w' => e = .returned (.bool true) ∧ w' = W) := fun W => by rw [← hlab]; exact specLabel_any L[k] W
        have HL : Hid (labelB L[k] = true) := hlab
        clear hlab hcell
        generalize hx : L[k] = x at *
        have HX : Hid (L[k] = x) := hx
        clear hx
        go_wp2_with (go_at_call 89; refine (HC2.out _).mono ?_; rintro e w2 ⟨rfl, rfl⟩)
        go_round
        case rel =>
          refine ⟨k + 1, by omega, by go_num, ?_⟩
          intro j hj hjk
          by_cases e : j = k
          · subst e; rw [HX.out]; exact HL.out
          · exact HR.out j hj (by omega)
        case measure => simp [intOf]; omega
      | false =>
        have HC2 : Hid (∀ W, Calls Tryd.prog 89 #[.string L[k]] W fun e w' => e = .returned (.bool false) ∧ w' = W) := fun W => by rw [← hlab]; exact specLabel_any L[k] W
        have HF : Hid (hostB s = false) := HA.out.1 k hkl hlab
        clear hlab hcell
        generalize L[k] = x at *
        go_wp2_with (go_at_call 89; refine (HC2.out _).mono ?_; rintro e w2 ⟨rfl, rfl⟩)
        go_ret
        exact ⟨ret_bool HF.out.symm, hb⟩
    · have HF : Hid (hostB s = decide (((n + 1 : Nat) : Int) ≤ 6)) := by
        show _ = _
        rw [HA.out.2 (fun j hj => HR.out j hj (by have := HN.out; omega)), HN.out]
        congr 1
        exact propext ⟨fun h => by omega, fun h => by omega⟩
      clear hcell
      go_wp2
      go_ret
      exact ⟨ret_bool (by rw [HF.out]; simp), hb⟩
end Go.Proofs.YtfoekelhcmlagaaDoor

/- The library's Split and the digits of a number, as the program calls them, over the contracts laid at this translation. -/
namespace Go.Proofs.YtfoekelhcmlagaaDoor
open Go.RowKit

/-- the library's variable MaxLen holds some number -/
def MaxI (w : World) : Prop := ∃ m : Int, w.cell? ⟨4, 0, none⟩ = some (.int .i64 m)
theorem MaxI.on {w w' : World} (h : MaxI w) (hb : Below w.heap.size w w') : MaxI w' := by
  obtain ⟨m, hm⟩ := h
  have hlt : 4 < w.heap.size := by
    by_cases h : 4 < w.heap.size
    · exact h
    · exfalso
      simp [World.cell?, Array.getElem?_eq_none (show w.heap.size ≤ 4 by omega)] at hm
  exact ⟨m, by rw [(bcell hb).1 _ _ hlt]; exact hm⟩

theorem split_call (s : ByteArray) (w : World) (hG : MaxI w) (hs : s.size < 4294967281) :
    Calls Tryd.prog 78 #[.string s, .string ⟨#[46]⟩] w fun e w' => e = .returned (.slice (some ⟨w.heap.size, 0, none⟩) (splitB s 46).length (splitB s 46).length) ∧ w' = w.alloc (.cells (strCells (splitB s 46)).toArray 9) := by
  obtain ⟨m, hm⟩ := hG
  have h := Any.strings_Split { Tryd.lays146 with } Tryd.lays146.i9 s ⟨#[46]⟩ m w hs hm (Nat.le_refl 1)
  rw [lib_split s 46, lib_count s 46] at h
  exact h
/-- all cuts and the bytes between them -/
theorem cutL_sum (c : UInt8) : ∀ l : List UInt8, ((cutL c l).map (fun p => p.length + 1)).sum = l.length + 1
  | [] => rfl
  | b :: l => by
    have ih := cutL_sum c l
    rw [cutL]
    split
    · simp only [List.map_cons, List.sum_cons, List.length_nil, List.length_cons, ih]; omega
    · split
      · rename_i h; rw [h] at ih; simp at ih
      · rename_i h
        rw [h] at ih
        simp only [List.map_cons, List.sum_cons, List.length_cons] at ih ⊢
        omega
theorem sum_le (L : List ByteArray) (h : ∀ x ∈ L, x.size ≤ 12) : (L.map (fun p => p.data.toList.length + 1)).sum ≤ 13 * L.length := by
  induction L with
  | nil => exact Nat.le_refl _
  | cons a L ih =>
    have h1 := h a (by simp)
    have h2 := ih (fun x hx => h x (by simp [hx]))
    have e : a.data.toList.length = a.size := (Lib.size_eq a).symm
    simp only [List.map_cons, List.sum_cons, List.length_cons, e]
    omega
theorem labelB_le {t : ByteArray} (h : labelB t = true) : t.size ≤ 12 := by
  by_cases hz : 12 < t.size
  · rw [labelB_size (.inr hz)] at h; cases h
  · omega
theorem host_size {s : ByteArray} (hn : (splitB s 46).length ≤ 6) (h : ∀ k (h : k < (splitB s 46).length), labelB ((splitB s 46)[k]) = true) : s.size ≤ 100 := by
  have e := splitB_cut s 46
  have e2 := cutL_sum 46 s.data.toList
  rw [← e, List.map_map] at e2
  have e3 := sum_le (splitB s 46) (fun x hx => by
    obtain ⟨k, hk, rfl⟩ := List.getElem_of_mem hx
    exact labelB_le (h k hk))
  have e4 : s.data.toList.length = s.size := (Lib.size_eq s).symm
  have e5 : ((splitB s 46).map (fun p => p.data.toList.length + 1)).sum = s.size + 1 := by rw [← e4]; exact e2
  omega
theorem hostB_six {s : ByteArray} (hn : (splitB s 46).length ≤ 6) (h : ∀ k (h : k < (splitB s 46).length), labelB ((splitB s 46)[k]) = true) : hostB s = true := by
  rw [hostB_all (host_size hn h) h]; simpa using hn
theorem hostB_many {s : ByteArray} (hn : 6 < (splitB s 46).length) : hostB s = false := by
  unfold hostB; rw [decide_eq_false (show ¬ (splitB s 46).length ≤ 6 by omega)]; simp
end Go.Proofs.YtfoekelhcmlagaaDoor

/- The walks of the program's inLabel, labelRight and pathRight. -/
namespace Go.Proofs.YtfoekelhcmlagaaDoor
open Go.RowKit

set_option maxRecDepth 10000 in
set_option maxHeartbeats 400000 in
theorem inLabel_any (n : Nat) (w : World) :
    Calls Tryd.prog 161 #[.int .i32 n] w fun e w' => e = .returned (.bool (labC n)) ∧ w' = w := by
  rcases (show (n < 45) ∨ (45 ≤ n ∧ n ≤ 45) ∨ (46 ≤ n ∧ n < 48) ∨ (48 ≤ n ∧ n ≤ 57) ∨ (58 ≤ n ∧ n < 97) ∨ (97 ≤ n ∧ n ≤ 122) ∨ (122 < n) by omega)
    with c1 | ⟨c1, c2⟩ | ⟨c1, c2⟩ | ⟨c1, c2⟩ | ⟨c1, c2⟩ | ⟨c1, c2⟩ | c1
  · have b1 : decide ((97 : Int) ≤ (n : Int)) = false := by rw [decide_eq_false_iff_not]; omega
    have b2 : decide ((48 : Int) ≤ (n : Int)) = false := by rw [decide_eq_false_iff_not]; omega
    have b3 : ((n : Int) == 45) = false := by rw [beq_eq_false_iff_ne]; omega
    go_enter Tryd.func161, Tryd.ntmps161
    go_wp2
    go_ret
    exact ⟨ret_bool (labC_no (by omega)).symm, rfl⟩
  · have b1 : decide ((97 : Int) ≤ (n : Int)) = false := by rw [decide_eq_false_iff_not]; omega
    have b2 : decide ((48 : Int) ≤ (n : Int)) = false := by rw [decide_eq_false_iff_not]; omega
    have b3 : ((n : Int) == 45) = true := by rw [beq_iff_eq]; omega
    go_enter Tryd.func161, Tryd.ntmps161
    go_wp2
    go_ret
    exact ⟨ret_bool (labC_yes (by omega)).symm, rfl⟩
  · have b1 : decide ((97 : Int) ≤ (n : Int)) = false := by rw [decide_eq_false_iff_not]; omega
    have b2 : decide ((48 : Int) ≤ (n : Int)) = false := by rw [decide_eq_false_iff_not]; omega
    have b3 : ((n : Int) == 45) = false := by rw [beq_eq_false_iff_ne]; omega
    go_enter Tryd.func161, Tryd.ntmps161
    go_wp2
    go_ret
    exact ⟨ret_bool (labC_no (by omega)).symm, rfl⟩
  · have b1 : decide ((97 : Int) ≤ (n : Int)) = false := by rw [decide_eq_false_iff_not]; omega
    go_enter Tryd.func161, Tryd.ntmps161
    go_wp2
    go_ret
    exact ⟨ret_bool (labC_yes (by omega)).symm, rfl⟩
  · have b1 : decide ((97 : Int) ≤ (n : Int)) = false := by rw [decide_eq_false_iff_not]; omega
    have b2 : decide ((n : Int) ≤ 57) = false := by rw [decide_eq_false_iff_not]; omega
    have b3 : ((n : Int) == 45) = false := by rw [beq_eq_false_iff_ne]; omega
    go_enter Tryd.func161, Tryd.ntmps161
    go_wp2
    go_ret
    exact ⟨ret_bool (labC_no (by omega)).symm, rfl⟩
  · go_enter Tryd.func161, Tryd.ntmps161
    go_wp2
    go_ret
    exact ⟨ret_bool (labC_yes (by omega)).symm, rfl⟩
  · have b1 : decide ((n : Int) ≤ 122) = false := by rw [decide_eq_false_iff_not]; omega
    have b2 : decide ((n : Int) ≤ 57) = false := by rw [decide_eq_false_iff_not]; omega
    have b3 : ((n : Int) == 45) = false := by rw [beq_eq_false_iff_ne]; omega
    go_enter Tryd.func161, Tryd.ntmps161
    go_wp2
    go_ret
    exact ⟨ret_bool (labC_no (by omega)).symm, rfl⟩

set_option maxRecDepth 10000 in
set_option maxHeartbeats 400000 in
theorem labelRight_any (t : ByteArray) (w : World) (ht : t.size ≤ 9223372036854775807) :
    Calls Tryd.prog 130 #[.string t] w fun e w' => e = .returned (.bool (labelB t)) ∧ Below w.heap.size w w' := by
  by_cases h1 : t.size < 1
  · have q1 : decide ((t.size : Int) - 1 < 0) = true := by rw [decide_eq_true_iff]; omega
    go_enter Tryd.func130, Tryd.ntmps130
    go_wp2
    go_ret
    exact ⟨ret_bool (labelB_size (.inl h1)).symm, Below.refl _ _⟩
  have q1 : decide ((t.size : Int) - 1 < 0) = false := by rw [decide_eq_false_iff_not]; omega
  by_cases h2 : 12 < t.size
  · have q2 : decide ((12 : Int) ≤ (t.size : Int) - 1) = true := by rw [decide_eq_true_iff]; omega
    go_enter Tryd.func130, Tryd.ntmps130
    go_wp2
    go_ret
    exact ⟨ret_bool (labelB_size (.inr h2)).symm, Below.refl _ _⟩
  have q2 : decide ((12 : Int) ≤ (t.size : Int) - 1) = false := by rw [decide_eq_false_iff_not]; omega
  have hp : 0 < t.size := by omega
  have hl : t.size - 1 < t.size := by omega
  by_cases h3 : t[0].toNat = 45
  · have q3 : ((t[0].toNat : Int) == 45) = true := by rw [beq_iff_eq]; omega
    have H3 : Hid (t[0].toNat = 45) := h3
    clear h3
    go_enter Tryd.func130, Tryd.ntmps130
    go_wp2
    go_ret
    exact ⟨ret_bool (labelB_first hp H3.out).symm, Below.refl _ _⟩
  have q3 : ((t[0].toNat : Int) == 45) = false := by rw [beq_eq_false_iff_ne]; omega
  have H3 : Hid (¬ t[0].toNat = 45) := h3
  clear h3
  by_cases h4 : t[t.size - 1].toNat = 45
  · have q4 : ((t[t.size - 1].toNat : Int) == 45) = true := by rw [beq_iff_eq]; omega
    have H4 : Hid (t[t.size - 1].toNat = 45) := h4
    clear h4
    go_enter Tryd.func130, Tryd.ntmps130
    go_wp2
    go_ret
    exact ⟨ret_bool (labelB_last hl H4.out).symm, Below.refl _ _⟩
  have q4 : ((t[t.size - 1].toNat : Int) == 45) = false := by rw [beq_eq_false_iff_ne]; omega
  have H4 : Hid (¬ t[t.size - 1].toNat = 45) := h4
  clear h4
  go_enter Tryd.func130, Tryd.ntmps130
  go_wp2
  go_loopw [5] (fun _ wr => ∃ k : Nat, k ≤ t.size ∧ wr = w.iter t k ∧ Hid (∀ i (h : i < t.size), i < k → labC t[i].toNat = true)) (fun _ wr => t.size - wr.iterPos w.heap.size)
  case atStart => exact ⟨0, Nat.zero_le _, rfl, fun i _ hi => absurd hi (by omega)⟩
  case round =>
    obtain ⟨k, hk, rfl, HR⟩ := hrel
    by_cases hlt : k < t.size
    · by_cases ha : t[k].toNat < 128
      · have hnx : ∀ ty, (Instr.next (.pointer (some ⟨w.heap.size, 0, none⟩)) true ty).run Tryd.prog (w.iter t k) = _ := fun ty => run_next_ascii w t k ty hlt ha
        cases hc : labC t[k].toNat with
        | true =>
          have HC : Hid (∀ W, Calls Tryd.prog 161 #[.int .i32 (t[k].toNat : Int)] W fun e w' => e = .returned (.bool true) ∧ w' = W) := fun W => by rw [← hc]; exact inLabel_any _ W
          have HK : Hid (labC t[k].toNat = true) := hc
          clear hc
          go_wp2_with (go_at_call 161; refine (HC.out _).mono ?_; rintro e w2 ⟨rfl, rfl⟩)
          go_roundw
          case rel => exact ⟨k + 1, by omega, rfl, all_succ HR.out hlt HK.out⟩
          case measure => simp; omega
        | false =>
          have HC : Hid (∀ W, Calls Tryd.prog 161 #[.int .i32 (t[k].toNat : Int)] W fun e w' => e = .returned (.bool false) ∧ w' = W) := fun W => by rw [← hc]; exact inLabel_any _ W
          have HK : Hid (labelB t = false) := labelB_at k hlt hc
          clear hc
          go_wp2_with (go_at_call 161; refine (HC.out _).mono ?_; rintro e w2 ⟨rfl, rfl⟩)
          go_ret
          exact ⟨ret_bool HK.out.symm, (Below.refl _ _).alloc (Nat.le_refl _) _⟩
      · have hnx : ∀ ty, (Instr.next (.pointer (some ⟨w.heap.size, 0, none⟩)) true ty).run Tryd.prog (w.iter t k) = _ := fun ty => run_next_any w t k ty hlt
        have hd := (decode_high t k hlt (by omega)).1
        have HK : Hid (labelB t = false) := labelB_at k hlt (labC_no (by omega))
        generalize Utf8.decode t k = d at *
        obtain ⟨r, n⟩ := d
        have hd2 : 128 ≤ r := hd
        have HC : Hid (∀ W, Calls Tryd.prog 161 #[.int .i32 (r : Int)] W fun e w' => e = .returned (.bool false) ∧ w' = W) := fun W => by
          have := inLabel_any r W
          rw [labC_no (by omega)] at this; exact this
        clear hd hd2
        go_wp2_with (go_at_call 161; refine (HC.out _).mono ?_; rintro e w2 ⟨rfl, rfl⟩)
        go_ret
        exact ⟨ret_bool HK.out.symm, (Below.refl _ _).alloc (Nat.le_refl _) _⟩
    · have hnx : ∀ ty, (Instr.next (.pointer (some ⟨w.heap.size, 0, none⟩)) true ty).run Tryd.prog (w.iter t k) = _ := fun ty => run_next_end w t k ty hlt
      go_wp2
      go_ret
      exact ⟨ret_bool (labelB_true (by omega) (by omega) (fun _ => H3.out) (fun _ => H4.out) (fun i h => HR.out i h (by omega))).symm, (Below.refl _ _).alloc (Nat.le_refl _) _⟩
end Go.Proofs.YtfoekelhcmlagaaDoor

/- The walk of the program's HostRight. -/
namespace Go.Proofs.YtfoekelhcmlagaaDoor
open Go.RowKit

theorem mem_le_sum : ∀ {l : List Nat} {x : Nat}, x ∈ l → x ≤ l.sum
  | [], _, h => by cases h
  | a :: l, x, h => by
    rw [List.sum_cons]
    cases h with
    | head => omega
    | tail _ h => have := mem_le_sum h; omega
theorem piece_le {s x : ByteArray} (hx : x ∈ splitB s 46) : x.size ≤ s.size := by
  have h1 : x.data.toList ∈ cutL 46 s.data.toList := by rw [← splitB_cut]; exact List.mem_map.2 ⟨x, hx, rfl⟩
  have h2 := cutL_sum 46 s.data.toList
  have h3 : (x.data.toList.length + 1) ≤ ((cutL 46 s.data.toList).map (fun p => p.length + 1)).sum := mem_le_sum (List.mem_map.2 ⟨_, h1, rfl⟩)
  rw [h2, ← Lib.size_eq, ← Lib.size_eq] at h3
  omega
set_option maxRecDepth 10000 in
set_option maxHeartbeats 400000 in
theorem hostRight_any (s : ByteArray) (w : World) (hG : MaxI w) (hs : s.size ≤ 1048576) :
    Calls Tryd.prog 71 #[.string s] w fun e w' => e = .returned (.bool (hostB s)) ∧ Below w.heap.size w w' := by
  have HC : Hid (∀ W, MaxI W → Calls Tryd.prog 78 #[.string s, .string ⟨#[46]⟩] W fun e w' => e = .returned (.slice (some ⟨W.heap.size, 0, none⟩) (splitB s 46).length (splitB s 46).length) ∧ w' = W.alloc (.cells (strCells (splitB s 46)).toArray 9)) := fun W h => split_call s W h (by omega)
  have HA : Hid ((∀ k (h : k < (splitB s 46).length), labelB ((splitB s 46)[k]) = false → hostB s = false) ∧ ((splitB s 46).length ≤ 6 → (∀ k (h : k < (splitB s 46).length), labelB ((splitB s 46)[k]) = true) → hostB s = true) ∧ (6 < (splitB s 46).length → hostB s = false)) :=
    ⟨fun k h hl => hostB_at k h hl, fun h1 h2 => hostB_six h1 h2, fun h => hostB_many h⟩
  have hn := splitB_len s 46
  have HZ : Hid (∀ x ∈ splitB s 46, x.size ≤ s.size) := fun x hx => piece_le hx
  generalize splitB s 46 = L at *
  have HG : Hid (MaxI w) := hG
  clear hG
  go_enter Tryd.func71, Tryd.ntmps71
  go_wp2_with fail
  refine (HC.out _ HG.out).mono ?_
  rintro e w1 ⟨rfl, rfl⟩
  by_cases h6 : 6 < L.length
  · go_wp2
    go_ret
    exact ⟨ret_bool (HA.out.2.2 h6).symm, (Below.refl _ _).alloc (Nat.le_refl _) _⟩
  have q6 : decide ((6 : Int) < (L.length : Int)) = false := by rw [decide_eq_false_iff_not]; omega
  have hcell : ∀ k (h : k < L.length), (w.alloc (.cells (strCells L).toArray 9)).cell? ⟨w.heap.size, k, none⟩ = some (.string L[k]) := by
    intro k hk
    simp [strCells, hk]
  have hb : Below w.heap.size w (w.alloc (.cells (strCells L).toArray 9)) := (Below.refl _ _).alloc (Nat.le_refl _) _
  have hz1 : w.heap.size < (w.alloc (.cells (strCells L).toArray 9)).heap.size := by simp
  generalize w.alloc (.cells (strCells L).toArray 9) = w1 at *
  go_wp2
  go_loopw [13] (fun i wr => ∃ k : Nat, k ≤ L.length ∧ i = .int .i64 k ∧ Below w1.heap.size w1 wr ∧ Hid (∀ j (h : j < L.length), j < k → labelB L[j] = true)) (fun i _ => L.length - (intOf i).toNat)
  case atStart => exact ⟨0, by omega, rfl, Below.refl _ _, fun j _ hj => absurd hj (by omega)⟩
  case round =>
    obtain ⟨k, hk, rfl, hb2, HR⟩ := hrel
    by_cases hlt : k < L.length
    · have hc1 := hcell k hlt
      have hck : wr.cell? ⟨w.heap.size, k, none⟩ = some (.string L[k]) := by rw [(bcell hb2).1 _ _ hz1]; exact hc1
      have HL : Hid (∀ W, Calls Tryd.prog 130 #[.string L[k]] W fun e w' => e = .returned (.bool (labelB L[k])) ∧ Below W.heap.size W w') := fun W => labelRight_any L[k] W (by have := HZ.out L[k] (List.getElem_mem hlt); omega)
      have HB2 : Hid (Below w1.heap.size w1 wr) := hb2
      have hz2 := hb2.size
      cases hlab : labelB L[k] with
      | true =>
        have HL2 : Hid (labelB L[k] = true) := hlab
        rw [hlab] at HL
        clear hlab hcell hc1 hb2
        generalize hx : L[k] = x at *
        have HX : Hid (L[k] = x) := hx
        clear hx
        go_wp2_with (go_at_call 130; refine (HL.out _).mono ?_; rintro e w2 ⟨rfl, hb3⟩)
        go_roundw
        case rel =>
          refine ⟨k + 1, by omega, by go_num, HB2.out.trans (hb3.mono hz2), ?_⟩
          intro j hj hjk
          by_cases e : j = k
          · subst e; rw [HX.out]; exact HL2.out
          · exact HR.out j hj (by omega)
        case measure => simp [intOf]; omega
      | false =>
        have HF : Hid (hostB s = false) := HA.out.1 k hlt hlab
        rw [hlab] at HL
        clear hlab hcell hc1 hb2
        generalize L[k] = x at *
        go_wp2_with (go_at_call 130; refine (HL.out _).mono ?_; rintro e w2 ⟨rfl, hb3⟩)
        go_ret
        exact ⟨ret_bool HF.out.symm, hb.trans ((HB2.out.trans (hb3.mono hz2)).mono hb.size)⟩
    · have HF : Hid (hostB s = true) := HA.out.2.1 (by omega) (fun j hj => HR.out j hj (by omega))
      clear hcell
      go_wp2
      go_ret
      exact ⟨ret_bool HF.out.symm, hb.trans (hb2.mono hb.size)⟩
end Go.Proofs.YtfoekelhcmlagaaDoor

/- Run equations at rows of bytes that a call makes itself: make, copy from a text, string of a row: each stated at whatever program; the world behind is a letter of which the row and Below are known. -/
namespace Go.Proofs.YtfoekelhcmlagaaDoor
open Go.RowKit

theorem infoU8 : (Tryd.prog.info? 5).map (fun i => (i.zero, i.size, i.bytes)) = some (some (.int .u8 0), 1, 1) := by kernel_rfl
theorem sizeU8 : (Tryd.prog.info? 5).map (·.size) = some 1 := by kernel_rfl

/-- the block g holds the cells L, none of them frozen -/
def RowAt (w : World) (g : Nat) (t : TypeId) (L : List Value) : Prop := w.heap[g]? = some (.cells L.toArray t (0, 0))

theorem make_row {P : Program} (w : World) (t e : TypeId) (z : Value) (h1 : P.underlying t = some (.slice e))
    (hi : (P.info? e).map (fun i => (i.zero, i.size, i.bytes)) = some (some z, 1, 1)) (L : Int) (n : Nat) (hL : L = (n : Int)) (b2 : n ≤ 281474976710656) :
    ∃ w' Z, Sem.run P (Instr.makeSlice t (.int .i64 L) (.int .i64 L)) w = .ok (.slice (some ⟨w.heap.size, 0, none⟩) n n) w' ∧
      RowAt w' w.heap.size e Z ∧ Z.length = n ∧ w'.heap.size = w.heap.size + 1 ∧ Below w.heap.size w w' := by
  obtain ⟨i, h2, h3, h4, h5⟩ := info_parts hi
  subst hL
  have hrun := run_make (P := P) w t e i z h1 h2 h3 .i64 .i64 n n (by omega) (Int.le_refl _) (by rw [h5]; omega) (by omega)
  simp only [Int.toNat_natCast, h4, Nat.mul_one] at hrun
  refine ⟨_, (madeCells z.cells n).toList, hrun, ?_, by simp [size_madeCells], by simp, (Below.refl _ _).alloc (Nat.le_refl _) _⟩
  unfold RowAt; rw [heap_alloc_new]

theorem copy_text {P : Program} (w : World) (dT sT ty elem : TypeId) (hu : P.underlying dT = some (.slice elem)) (hsz : (P.info? elem).map (·.size) = some 1)
    (dp : Option Addr) (dLen dCap : Nat) (x : ByteArray) (hle : x.size ≤ dLen)
    (g off : Nat) (cur : List Value) (t : TypeId) (hg : RowAt w g t cur) (hpos : 0 < x.size → dp = some ⟨g, off, none⟩)
    (hfit : off + x.size ≤ cur.length) :
    ∃ w', Sem.run P (Builtin.copy_ #[dT, sT] ty #[.slice dp dLen dCap, .string x]) w = .ok (goInt x.size) w' ∧
      RowAt w' g t (splice cur off (Lib.byteCells x.data.toList)) ∧ w'.heap.size = w.heap.size ∧ (∀ B w0, Below B w0 w → B ≤ g → Below B w0 w') := by
  by_cases h0 : x.size = 0
  · have hrun := Lib.run_copy_empty_string (P := P) w dT sT ty elem dp dLen dCap x hu (by rw [Option.isSome_iff_exists]; exact ⟨1, hsz⟩) h0
    have hnil : x.data.toList = [] := List.eq_nil_of_length_eq_zero (by rw [← Lib.size_eq]; exact h0)
    exact ⟨w, by rw [hrun, h0]; rfl, by rw [hnil]; simpa [splice, Lib.byteCells] using hg, rfl, fun _ _ h _ => h⟩
  · obtain rfl := hpos (by omega)
    have hrun := Lib.run_copy_row_string (P := P) w dT sT ty elem g off dLen dCap x cur.toArray t hu hsz hg hle (by simpa using hfit)
    refine ⟨_, hrun, ?_, by simp [World.setRow], fun B w0 hb hBg => below_setRow hb hBg _⟩
    have := setRow_heap w g _ (List.take off cur ++ (Lib.byteCells x.data.toList ++ List.drop (off + x.size) cur)).toArray t _ hg
    have hl : (Lib.byteCells x.data.toList).length = x.size := by rw [Lib.byteCells_length, ← Lib.size_eq]
    unfold RowAt splice
    rw [hl]
    simpa using this

theorem row_cell {w : World} {g : Nat} {t : TypeId} {L : List Value} (hg : RowAt w g t L) (j : Nat) : w.cell? ⟨g, j, none⟩ = L[j]? := by
  simp [World.cell?, RowAt] at *
  rw [hg]; simp

/-- string(b), b the first n cells of a row whose first cells are the bytes l -/
theorem text_of_row {P : Program} (w : World) (src dst e : TypeId) (hs : P.underlying src = some (.slice e)) (he : P.underlying e = some (.int .u8)) (hd : P.underlying dst = some .string)
    (g n cap : Nat) (t : TypeId) (l : List UInt8) (more : List Value) (hg : RowAt w g t (Lib.byteCells l ++ more)) (hn : l.length = n) :
    Sem.run P (convert src dst (.slice (some ⟨g, 0, none⟩) n cap)) w = .ok (.string ⟨l.toArray⟩) w := by
  subst hn
  refine run_convert_bytes_back (P := P) w src dst e ⟨g, 0, none⟩ cap l hs he hd ?_
  intro j hj
  have ha : (⟨g, 0, none⟩ : Addr).add j = ⟨g, j, none⟩ := by
    unfold Addr.add; split
    · rename_i h; subst h; rfl
    · simp
  rw [ha, row_cell hg, List.getElem?_append_left (by rw [Lib.byteCells_length]; exact hj)]
  simp [Lib.byteCells, hj]

theorem splice_two {α : Type} (Z X Y : List α) (h : Z.length = X.length + Y.length) : splice (splice Z 0 X) X.length Y = X ++ Y := by
  unfold splice
  simp
  omega
theorem byteCells_append (a b : List UInt8) : Lib.byteCells (a ++ b) = Lib.byteCells a ++ Lib.byteCells b := by simp [Lib.byteCells]
theorem text_append (x y : ByteArray) : (⟨(x.data.toList ++ y.data.toList).toArray⟩ : ByteArray) = x ++ y := by
  apply ByteArray.ext; simp
theorem size_list (l : List UInt8) : (⟨l.toArray⟩ : ByteArray).size = l.length := rfl
theorem len_cells (x : ByteArray) : (Lib.byteCells x.data.toList).length = x.size := by rw [Lib.byteCells_length, ← Lib.size_eq]
end Go.Proofs.YtfoekelhcmlagaaDoor

/- A number's digits, as a plain function. -/
namespace Go.Proofs.YtfoekelhcmlagaaDoor
open Go.RowKit
/-- the digits of m, none of 0; f: more than enough rounds -/
def decF : Nat → Nat → List UInt8
  | 0, _ => []
  | f + 1, m => if m = 0 then [] else decF f (m / 10) ++ [UInt8.ofNat (48 + m % 10)]
def decA (m : Nat) : List UInt8 := decF m m
theorem decF_enough (f : Nat) : ∀ g m, m ≤ f → m ≤ g → decF f m = decF g m := by
  induction f with
  | zero =>
    intro g m hf _
    obtain rfl : m = 0 := by omega
    cases g with
    | zero => rfl
    | succ g => rw [decF, decF, if_pos rfl]
  | succ f ih =>
    intro g m hf hg
    cases g with
    | zero =>
      obtain rfl : m = 0 := by omega
      rw [decF, decF, if_pos rfl]
    | succ g =>
      rw [decF, decF]
      split
      · rfl
      · rw [ih g (m / 10) (by omega) (by omega)]
theorem decA_zero : decA 0 = [] := rfl
theorem decA_pos {m : Nat} (h : 0 < m) : decA m = decA (m / 10) ++ [UInt8.ofNat (48 + m % 10)] := by
  unfold decA
  cases m with
  | zero => omega
  | succ m => rw [decF, if_neg (by omega), decF_enough m ((m + 1) / 10) ((m + 1) / 10) (by omega) (by omega)]
theorem decA_len (k : Nat) : ∀ m, m < 10 ^ k → (decA m).length ≤ k := by
  induction k with
  | zero => intro m h; obtain rfl : m = 0 := by simpa using h
            exact Nat.le_refl _
  | succ k ih =>
    intro m h
    by_cases h0 : m = 0
    · subst h0; rw [decA_zero]; simp
    · rw [decA_pos (by omega)]
      have := ih (m / 10) (by rw [Nat.div_lt_iff_lt_mul (by omega)]; rw [Nat.pow_succ] at h; omega)
      simp; omega
theorem decA_twenty {m : Nat} (h : m ≤ 9223372036854775808) : (decA m).length ≤ 20 := decA_len 20 m (Nat.lt_of_le_of_lt h (by decide))
/-- the digits of a number, a sign ahead of one below 0 -/
def decB (n : Int) : ByteArray := if n = 0 then ⟨#[48]⟩ else if n < 0 then ⟨#[45]⟩ ++ ⟨(decA n.natAbs).toArray⟩ else ⟨(decA n.natAbs).toArray⟩
theorem dec_step {m m0 : Nat} {o : List UInt8} (h : decA m ++ o = decA m0) (hm : 0 < m) : decA (m / 10) ++ (UInt8.ofNat (48 + m % 10) :: o) = decA m0 := by
  rw [← h, decA_pos hm]; simp
theorem one_row (k : Nat) (w : World) (t : TypeId) (hk : k < 256) : RowAt (w.alloc (.cells #[.int .u8 (k : Int)] t)) w.heap.size t (Lib.byteCells [UInt8.ofNat k] ++ []) := by
  unfold RowAt; rw [heap_alloc_new]
  simp [Lib.byteCells]
  omega
theorem cons_text (b : UInt8) (o : List UInt8) : (⟨[b].toArray⟩ : ByteArray) ++ ⟨o.toArray⟩ = ⟨(b :: o).toArray⟩ := by
  apply ByteArray.ext; simp
end Go.Proofs.YtfoekelhcmlagaaDoor

/- The walk of the specification's l01Dec: a number's digits. -/
namespace Go.Proofs.YtfoekelhcmlagaaDoor
open Go.RowKit

set_option maxRecDepth 10000 in
set_option maxHeartbeats 400000 in
theorem specDec_zero (w : World) :
    Calls Tryd.prog 77 #[.int .i64 0] w fun e w' => e = .returned (.string (decB 0)) ∧ Below w.heap.size w w' := by
  go_enter Tryd.func77, Tryd.ntmps77
  go_wp2
  go_ret
  exact ⟨rfl, Below.refl _ _⟩

set_option maxRecDepth 10000 in
set_option maxHeartbeats 400000 in
theorem specDec_pos (n : Nat) (w : World) (hn : 0 < n) (hm : n ≤ 9223372036854775807) :
    Calls Tryd.prog 77 #[.int .i64 ((n : Int))] w fun e w' => e = .returned (.string (decB ((n : Int)))) ∧ Below w.heap.size w w' := by
  have q1 : (((n : Int)) == 0) = false := by rw [beq_eq_false_iff_ne]; omega
  have q2 : decide ((n : Int) < 0) = false := by rw [decide_eq_false_iff_not]; omega
  have HD : Hid (decB n = ⟨(decA n).toArray⟩) := by
    show _ = _
    rw [decB, if_neg (by omega), if_neg (by omega)]; rfl
  have hl := decA_twenty (m := n) (by omega)
  go_enter Tryd.func77, Tryd.ntmps77
  go_wp2
  go_loopw [0, 4, 5] (fun x o _ wr => ∃ (m : Nat) (z : Int) (l : List UInt8), m ≤ n ∧ x = .int .i64 z ∧ z = (m : Int) ∧ o = .string ⟨l.toArray⟩ ∧ Hid (decA m ++ l = decA n) ∧ Below w.heap.size w wr) (fun x _ _ _ => (intOf x).natAbs)
  case atStart => exact ⟨n, _, [], Nat.le_refl _, rfl, rfl, rfl, List.append_nil _, Below.refl _ _⟩
  case round =>
    obtain ⟨m, z, l, hmn, rfl, rfl, rfl, HL, hb⟩ := hrel
    have hll : l.length ≤ 20 := by
      have := congrArg List.length HL.out
      rw [List.length_append] at this; omega
    have hbs := hb.size
    by_cases h0 : 0 < m
    · have q3 : (((m : Int)) != 0) = true := by rw [bne_iff_ne]; omega
      have hsz : (⟨l.toArray⟩ : ByteArray).size ≤ 20 := hll
      have hr : RowAt (wr.alloc (.cells #[.int .u8 (48 + (m : Int) % 10)] 5)) wr.heap.size 5 (Lib.byteCells [UInt8.ofNat (48 + m % 10)] ++ []) := by
        rw [show (48 + (m : Int) % 10) = ((48 + m % 10 : Nat) : Int) by omega]; exact one_row _ wr _ (by omega)
      have HS : Hid (decA (m / 10) ++ (UInt8.ofNat (48 + m % 10) :: l) = decA n) := dec_step HL.out h0
      have HT : Hid ((⟨[UInt8.ofNat (48 + m % 10)].toArray⟩ : ByteArray) ++ ⟨l.toArray⟩ = ⟨(UInt8.ofNat (48 + m % 10) :: l).toArray⟩) := cons_text _ _
      have hone : (⟨[UInt8.ofNat (48 + m % 10)].toArray⟩ : ByteArray).size ≤ 1 := Nat.le_refl _
      have q4 : decide ((m : Int) % 10 < 0) = false := by rw [decide_eq_false_iff_not]; omega
      go_wp2_with fail
      rw [text_of_row (P := Tryd.prog) _ 22 9 5 Tryd.underlying22 Tryd.underlying5 Tryd.underlying9 wr.heap.size 1 1 5 _ _ hr rfl]
      clear hr
      generalize (⟨[UInt8.ofNat (48 + m % 10)].toArray⟩ : ByteArray) = b1 at *
      generalize (⟨l.toArray⟩ : ByteArray) = o1 at *
      have hb2 : Below w.heap.size w (wr.alloc (.cells #[.int .u8 (48 + (m : Int) % 10)] 5)) := hb.alloc hbs _
      go_wp2
      go_roundw
      case rel => exact ⟨m / 10, _, UInt8.ofNat (48 + m % 10) :: l, by omega, rfl, by omega, by rw [HT.out], HS, hb2⟩
      case measure => simp [intOf]; omega
    · obtain rfl : m = 0 := by omega
      have HE : Hid (l = decA n) := by
        show _ = _
        rw [← HL.out, decA_zero]; rfl
      go_wp2
      go_ret
      exact ⟨ret_text (by rw [HD.out, HE.out]), hb⟩

set_option maxRecDepth 10000 in
set_option maxHeartbeats 400000 in
theorem specDec_neg (n : Nat) (w : World) (hn : 0 < n) (hm : n ≤ 9223372036854775808) :
    Calls Tryd.prog 77 #[.int .i64 (-(n : Int))] w fun e w' => e = .returned (.string (decB (-(n : Int)))) ∧ Below w.heap.size w w' := by
  have q1 : ((-(n : Int)) == 0) = false := by rw [beq_eq_false_iff_ne]; omega
  have q2 : -(n : Int) < 0 := by omega
  have HD : Hid (decB (-(n : Int)) = ⟨#[45]⟩ ++ ⟨(decA n).toArray⟩) := by
    show _ = _
    rw [decB, if_neg (by omega), if_pos (by omega), show (-(n : Int)).natAbs = n by omega]
  have hl := decA_twenty (m := n) (by omega)
  go_enter Tryd.func77, Tryd.ntmps77
  go_wp2
  go_loopw [0, 4, 5] (fun x o _ wr => ∃ (m : Nat) (z : Int) (l : List UInt8), m ≤ n ∧ x = .int .i64 z ∧ z = -(m : Int) ∧ o = .string ⟨l.toArray⟩ ∧ Hid (decA m ++ l = decA n) ∧ Below w.heap.size w wr) (fun x _ _ _ => (intOf x).natAbs)
  case atStart => exact ⟨n, _, [], Nat.le_refl _, rfl, rfl, rfl, List.append_nil _, Below.refl _ _⟩
  case round =>
    obtain ⟨m, z, l, hmn, rfl, rfl, rfl, HL, hb⟩ := hrel
    have hll : l.length ≤ 20 := by
      have := congrArg List.length HL.out
      rw [List.length_append] at this; omega
    have hbs := hb.size
    by_cases h0 : 0 < m
    · have q3 : ((-(m : Int)) != 0) = true := by rw [bne_iff_ne]; omega
      have hsz : (⟨l.toArray⟩ : ByteArray).size ≤ 20 := hll
      by_cases h10 : 0 < m % 10
      · have q5 : (0 : Int) < (m : Int) % 10 := by omega
        have hr : RowAt (wr.alloc (.cells #[.int .u8 (48 + (m : Int) % 10)] 5)) wr.heap.size 5 (Lib.byteCells [UInt8.ofNat (48 + m % 10)] ++ []) := by
          rw [show (48 + (m : Int) % 10 : Int) = ((48 + m % 10 : Nat) : Int) by omega]; exact one_row _ wr _ (by omega)
        have hb2 : Below w.heap.size w (wr.alloc (.cells #[.int .u8 (48 + (m : Int) % 10)] 5)) := hb.alloc hbs _
        have HS : Hid (decA (m / 10) ++ (UInt8.ofNat (48 + m % 10) :: l) = decA n) := dec_step HL.out h0
        have HT : Hid ((⟨[UInt8.ofNat (48 + m % 10)].toArray⟩ : ByteArray) ++ ⟨l.toArray⟩ = ⟨(UInt8.ofNat (48 + m % 10) :: l).toArray⟩) := cons_text _ _
        have hone : (⟨[UInt8.ofNat (48 + m % 10)].toArray⟩ : ByteArray).size ≤ 1 := Nat.le_refl _
        go_wp2_with fail
        rw [text_of_row (P := Tryd.prog) _ 22 9 5 Tryd.underlying22 Tryd.underlying5 Tryd.underlying9 wr.heap.size 1 1 5 _ _ hr rfl]
        clear hr
        generalize (⟨[UInt8.ofNat (48 + m % 10)].toArray⟩ : ByteArray) = b1 at *
        generalize (⟨l.toArray⟩ : ByteArray) = o1 at *
        go_wp2
        go_roundw
        case rel => exact ⟨m / 10, _, UInt8.ofNat (48 + m % 10) :: l, by omega, rfl, by omega, by rw [HT.out], HS, hb2⟩
        case measure => simp [intOf]; omega
      · have e10 : (m : Int) % 10 = 0 := by omega
        have q5 : decide ((0 : Int) < (m : Int) % 10) = false := by rw [decide_eq_false_iff_not]; omega
        have hr : RowAt (wr.alloc (.cells #[.int .u8 (48)] 5)) wr.heap.size 5 (Lib.byteCells [UInt8.ofNat (48 + m % 10)] ++ []) := by
          rw [show (48 : Int) = ((48 + m % 10 : Nat) : Int) by omega]; exact one_row _ wr _ (by omega)
        have hb2 : Below w.heap.size w (wr.alloc (.cells #[.int .u8 (48)] 5)) := hb.alloc hbs _
        have HS : Hid (decA (m / 10) ++ (UInt8.ofNat (48 + m % 10) :: l) = decA n) := dec_step HL.out h0
        have HT : Hid ((⟨[UInt8.ofNat (48 + m % 10)].toArray⟩ : ByteArray) ++ ⟨l.toArray⟩ = ⟨(UInt8.ofNat (48 + m % 10) :: l).toArray⟩) := cons_text _ _
        have hone : (⟨[UInt8.ofNat (48 + m % 10)].toArray⟩ : ByteArray).size ≤ 1 := Nat.le_refl _
        go_wp2_with fail
        rw [text_of_row (P := Tryd.prog) _ 22 9 5 Tryd.underlying22 Tryd.underlying5 Tryd.underlying9 wr.heap.size 1 1 5 _ _ hr rfl]
        clear hr
        generalize (⟨[UInt8.ofNat (48 + m % 10)].toArray⟩ : ByteArray) = b1 at *
        generalize (⟨l.toArray⟩ : ByteArray) = o1 at *
        go_wp2
        go_roundw
        case rel => exact ⟨m / 10, _, UInt8.ofNat (48 + m % 10) :: l, by omega, rfl, by omega, by rw [HT.out], HS, hb2⟩
        case measure => simp [intOf]; omega
    · obtain rfl : m = 0 := by omega
      have HE : Hid (l = decA n) := by
        show _ = _
        rw [← HL.out, decA_zero]; rfl
      have hsz : (⟨l.toArray⟩ : ByteArray).size ≤ 20 := hll
      have HD2 : Hid (decB (-(n : Int)) = ⟨#[45]⟩ ++ ⟨l.toArray⟩) := by
        show _ = _
        rw [HD.out, HE.out]
      clear hll
      generalize (⟨l.toArray⟩ : ByteArray) = o1 at *
      go_wp2
      go_ret
      exact ⟨ret_text HD2.out.symm, hb⟩

end Go.Proofs.YtfoekelhcmlagaaDoor

/- The walks of the specification's l02Place, UrlRight, l02Text and UrlText. -/
namespace Go.Proofs.YtfoekelhcmlagaaDoor
open Go.RowKit

def schemeB (t : ByteArray) : Bool := (t.toList == [104, 116, 116, 112]) || (t.toList == [104, 116, 116, 112, 115])
def placeB (sc ho : ByteArray) (po : Int) : Bool := schemeB sc && hostB ho && (decide (1 ≤ po) && decide (po ≤ 65535))
def urlB (sc ho pa : ByteArray) (po : Int) : Bool := placeB sc ho po && pathB pa

set_option maxRecDepth 10000 in
set_option maxHeartbeats 400000 in
theorem specScheme_any (t : ByteArray) (w : World) :
    Calls Tryd.prog 186 #[.string t] w fun e w' => e = .returned (.bool (schemeB t)) ∧ w' = w := by
  unfold schemeB
  cases h : (t.toList == [104, 116, 116, 112]) <;>
  · go_enter Tryd.func186, Tryd.ntmps186
    go_wp2
    go_ret
    exact ⟨rfl, rfl⟩

set_option maxRecDepth 10000 in
set_option maxHeartbeats 400000 in
theorem specIs_any (n lo hi : Int) (w : World) :
    Calls Tryd.prog 149 #[.int .i64 n, .int .i64 lo, .int .i64 hi] w fun e w' => e = .returned (.bool (decide (lo ≤ n) && decide (n ≤ hi))) ∧ w' = w := by
  by_cases h : lo ≤ n
  · go_enter Tryd.func149, Tryd.ntmps149
    go_wp2
    go_ret
    exact ⟨ret_bool (by simp [h]), rfl⟩
  · have q : decide (lo ≤ n) = false := by rw [decide_eq_false_iff_not]; exact h
    go_enter Tryd.func149, Tryd.ntmps149
    go_wp2
    go_ret
    exact ⟨ret_bool (by simp), rfl⟩

set_option maxRecDepth 10000 in
set_option maxHeartbeats 400000 in
theorem specPlace_any (sc ho : ByteArray) (po : Int) (w : World) :
    Calls Tryd.prog 152 #[.string sc, .string ho, .int .i64 po] w fun e w' => e = .returned (.bool (placeB sc ho po)) ∧ Below w.heap.size w w' := by
  have H1 := fun W => specScheme_any sc W
  have H2 := fun W => specHost_any ho W
  have H3 := fun W => specIs_any po 1 65535 W
  have HP : Hid (placeB sc ho po = (schemeB sc && hostB ho && (decide (1 ≤ po) && decide (po ≤ 65535)))) := rfl
  generalize schemeB sc = b1 at *
  generalize hostB ho = b2 at *
  generalize (decide (1 ≤ po) && decide (po ≤ 65535)) = b3 at *
  have G1 : Hid (∀ W, Calls Tryd.prog 186 #[.string sc] W fun e w' => e = .returned (.bool b1) ∧ w' = W) := H1
  have G2 : Hid (∀ W, Calls Tryd.prog 25 #[.string ho] W fun e w' => e = .returned (.bool b2) ∧ Below W.heap.size W w') := H2
  have G3 : Hid (∀ W, Calls Tryd.prog 149 #[.int .i64 po, .int .i64 1, .int .i64 65535] W fun e w' => e = .returned (.bool b3) ∧ w' = W) := H3
  clear H1 H2 H3
  cases b1 with
  | false =>
    go_enter Tryd.func152, Tryd.ntmps152
    go_wp2_with (go_at_call 186; refine (G1.out _).mono ?_; rintro e w1 ⟨rfl, rfl⟩)
    go_ret
    exact ⟨ret_bool (by rw [HP.out]; rfl), Below.refl _ _⟩
  | true =>
    cases b2 with
    | false =>
      go_enter Tryd.func152, Tryd.ntmps152
      go_wp2_with (first | (go_at_call 186; refine (G1.out _).mono ?_; rintro e w1 ⟨rfl, rfl⟩) | (go_at_call 25; refine (G2.out _).mono ?_; rintro e w2 ⟨rfl, hb⟩))
      go_ret
      exact ⟨ret_bool (by rw [HP.out]; rfl), hb⟩
    | true =>
      go_enter Tryd.func152, Tryd.ntmps152
      go_wp2_with (first | (go_at_call 186; refine (G1.out _).mono ?_; rintro e w1 ⟨rfl, rfl⟩) | (go_at_call 25; refine (G2.out _).mono ?_; rintro e w2 ⟨rfl, hb⟩) | (go_at_call 149; refine (G3.out _).mono ?_; rintro e w3 ⟨rfl, rfl⟩))
      go_ret
      exact ⟨ret_bool (by rw [HP.out]; rfl), hb⟩

/-- a Url, as a value -/
def urlV (sc ho pa : ByteArray) (po : Int) : Value := .agg #[.string sc, .string ho, .int .i64 po, .string pa]

set_option maxRecDepth 10000 in
set_option maxHeartbeats 400000 in
theorem specUrlRight_any (sc ho pa : ByteArray) (po : Int) (w : World) :
    Calls Tryd.prog 120 #[urlV sc ho pa po] w fun e w' => e = .returned (.bool (urlB sc ho pa po)) ∧ Below w.heap.size w w' := by
  have H1 := fun W => specPlace_any sc ho po W
  have H2 := fun W => specPath_any pa W
  have HP : Hid (urlB sc ho pa po = (placeB sc ho po && pathB pa)) := rfl
  generalize placeB sc ho po = b1 at *
  generalize pathB pa = b2 at *
  have G1 : Hid (∀ W, Calls Tryd.prog 152 #[.string sc, .string ho, .int .i64 po] W fun e w' => e = .returned (.bool b1) ∧ Below W.heap.size W w') := H1
  have G2 : Hid (∀ W, Calls Tryd.prog 105 #[.string pa] W fun e w' => e = .returned (.bool b2) ∧ w' = W) := H2
  clear H1 H2
  unfold urlV
  cases b1 with
  | false =>
    go_enter Tryd.func120, Tryd.ntmps120
    go_wp2_with fail
    refine (G1.out _).mono ?_
    rintro e w1 ⟨rfl, hb⟩
    go_wp2
    go_ret
    exact ⟨ret_bool (by rw [HP.out]; rfl), ((Below.refl _ _).alloc (Nat.le_refl _) _).trans (hb.mono (by simp))⟩
  | true =>
    go_enter Tryd.func120, Tryd.ntmps120
    go_wp2_with fail
    refine (G1.out _).mono ?_
    rintro e w1 ⟨rfl, hb⟩
    have hc3 : w1.cell? ⟨w.heap.size, 3, none⟩ = some (.string pa) := by rw [(bcell hb).1 _ _ (by simp)]; simp
    go_wp2_with (go_at_call 105; refine (G2.out _).mono ?_; rintro e w2 ⟨rfl, rfl⟩)
    go_ret
    exact ⟨ret_bool (by rw [HP.out]; rfl), ((Below.refl _ _).alloc (Nat.le_refl _) _).trans (hb.mono (by simp))⟩

def usualP (sc : ByteArray) : Int := if (sc.toList == [104, 116, 116, 112, 115]) = true then 443 else 80
/-- the text of a place -/
def placeT (sc ho : ByteArray) (po : Int) : ByteArray := if po = usualP sc then sc ++ ⟨#[58, 47, 47]⟩ ++ ho else sc ++ ⟨#[58, 47, 47]⟩ ++ ho ++ ⟨#[58]⟩ ++ decB po


theorem decB_size {n : Int} (h1 : -9223372036854775808 ≤ n) (h2 : n ≤ 9223372036854775807) : (decB n).size ≤ 21 := by
  unfold decB
  split
  · exact (by decide : 1 ≤ 21)
  · split
    · have := decA_twenty (m := n.natAbs) (by omega)
      rw [ByteArray.size_append]
      show 1 + (decA n.natAbs).length ≤ 21
      omega
    · have := decA_twenty (m := n.natAbs) (by omega)
      show (decA n.natAbs).length ≤ 21
      omega
theorem specDec_any (n : Int) (w : World) (h1 : -9223372036854775808 ≤ n) (h2 : n ≤ 9223372036854775807) :
    Calls Tryd.prog 77 #[.int .i64 n] w fun e w' => e = .returned (.string (decB n)) ∧ Below w.heap.size w w' := by
  by_cases h0 : n = 0
  · subst h0; exact specDec_zero w
  by_cases hn : n < 0
  · obtain ⟨m, hm⟩ : ∃ m : Nat, n = -(m : Int) := ⟨n.natAbs, by omega⟩
    subst hm
    exact specDec_neg m w (by omega) (by omega)
  · obtain ⟨m, rfl⟩ := Int.eq_ofNat_of_zero_le (show 0 ≤ n by omega)
    exact specDec_pos m w (by omega) (by omega)

end Go.Proofs.YtfoekelhcmlagaaDoor

/- The walk of the program's pathRight. -/
namespace Go.Proofs.YtfoekelhcmlagaaDoor
open Go.RowKit

set_option maxRecDepth 10000 in
set_option maxHeartbeats 400000 in
theorem pathRight_any (t : ByteArray) (w : World) :
    Calls Tryd.prog 110 #[.string t] w fun e w' => e = .returned (.bool (pathB t)) ∧ Below w.heap.size w w' := by
  by_cases h1 : t.size < 1
  · have q1 : ((t.size : Int) == 0) = true := by rw [beq_iff_eq]; omega
    go_enter Tryd.func110, Tryd.ntmps110
    go_wp2
    go_ret
    exact ⟨ret_bool (pathB_size (.inl h1)).symm, Below.refl _ _⟩
  have q1 : ((t.size : Int) == 0) = false := by rw [beq_eq_false_iff_ne]; omega
  by_cases h2 : 40 < t.size
  · go_enter Tryd.func110, Tryd.ntmps110
    go_wp2
    go_ret
    exact ⟨ret_bool (pathB_size (.inr h2)).symm, Below.refl _ _⟩
  have q2 : decide ((40 : Int) < (t.size : Int)) = false := by rw [decide_eq_false_iff_not]; omega
  have hp : 0 < t.size := by omega
  by_cases h3 : t[0].toNat = 47
  case neg =>
    have q3 : ((t[0].toNat : Int) != 47) = true := by rw [bne_iff_ne]; omega
    have H3 : Hid (¬ t[0].toNat = 47) := h3
    clear h3
    go_enter Tryd.func110, Tryd.ntmps110
    go_wp2
    go_ret
    exact ⟨ret_bool (pathB_first hp H3.out).symm, Below.refl _ _⟩
  have q3 : ((t[0].toNat : Int) != 47) = false := by rw [bne_eq_false_iff_eq]; omega
  have H3 : Hid (t[0].toNat = 47) := h3
  clear h3
  go_enter Tryd.func110, Tryd.ntmps110
  go_wp2
  go_loopw [4] (fun _ wr => ∃ k : Nat, k ≤ t.size ∧ wr = w.iter t k ∧ Hid (∀ i (h : i < t.size), i < k → pathC t[i].toNat = true)) (fun _ wr => t.size - wr.iterPos w.heap.size)
  case atStart => exact ⟨0, Nat.zero_le _, rfl, fun i _ hi => absurd hi (by omega)⟩
  case round =>
    obtain ⟨k, hk, rfl, HR⟩ := hrel
    by_cases hlt : k < t.size
    · by_cases ha : t[k].toNat < 128
      · have hnx : ∀ ty, (Instr.next (.pointer (some ⟨w.heap.size, 0, none⟩)) true ty).run Tryd.prog (w.iter t k) = _ := fun ty => run_next_ascii w t k ty hlt ha
        by_cases d1 : t[k].toNat < 33
        · go_wp2
          go_ret
          exact ⟨ret_bool (pathB_at k hlt (pathC_no (by omega))).symm, (Below.refl _ _).alloc (Nat.le_refl _) _⟩
        have b1 : decide ((t[k].toNat : Int) < 33) = false := by rw [decide_eq_false_iff_not]; omega
        by_cases d2 : 126 < t[k].toNat
        · go_wp2
          go_ret
          exact ⟨ret_bool (pathB_at k hlt (pathC_no (by omega))).symm, (Below.refl _ _).alloc (Nat.le_refl _) _⟩
        have b2 : decide ((126 : Int) < (t[k].toNat : Int)) = false := by rw [decide_eq_false_iff_not]; omega
        by_cases d3 : t[k].toNat = 63
        · have b3 : ((t[k].toNat : Int) == 63) = true := by rw [beq_iff_eq]; omega
          have D3 : Hid (t[k].toNat = 63) := d3
          clear d3
          go_wp2
          go_ret
          exact ⟨ret_bool (pathB_at k hlt (pathC_no (by have := D3.out; omega))).symm, (Below.refl _ _).alloc (Nat.le_refl _) _⟩
        have b3 : ((t[k].toNat : Int) == 63) = false := by rw [beq_eq_false_iff_ne]; omega
        by_cases d4 : t[k].toNat = 35
        · have b4 : ((t[k].toNat : Int) == 35) = true := by rw [beq_iff_eq]; omega
          have D4 : Hid (t[k].toNat = 35) := d4
          clear d4
          go_wp2
          go_ret
          exact ⟨ret_bool (pathB_at k hlt (pathC_no (by have := D4.out; omega))).symm, (Below.refl _ _).alloc (Nat.le_refl _) _⟩
        have b4 : ((t[k].toNat : Int) == 35) = false := by rw [beq_eq_false_iff_ne]; omega
        by_cases d5 : t[k].toNat = 59
        · have b5 : ((t[k].toNat : Int) == 59) = true := by rw [beq_iff_eq]; omega
          have D5 : Hid (t[k].toNat = 59) := d5
          clear d5
          go_wp2
          go_ret
          exact ⟨ret_bool (pathB_at k hlt (pathC_no (by have := D5.out; omega))).symm, (Below.refl _ _).alloc (Nat.le_refl _) _⟩
        have b5 : ((t[k].toNat : Int) == 59) = false := by rw [beq_eq_false_iff_ne]; omega
        have HC : Hid (pathC t[k].toNat = true) := pathC_yes (by omega)
        clear d3 d4 d5
        go_wp2
        go_roundw
        case rel => exact ⟨k + 1, by omega, rfl, all_succ HR.out hlt HC.out⟩
        case measure => simp; omega
      · have hnx : ∀ ty, (Instr.next (.pointer (some ⟨w.heap.size, 0, none⟩)) true ty).run Tryd.prog (w.iter t k) = _ := fun ty => run_next_any w t k ty hlt
        have hd := (decode_high t k hlt (by omega)).1
        have HK : Hid (pathB t = false) := pathB_at k hlt (pathC_no (by omega))
        generalize Utf8.decode t k = d at *
        obtain ⟨r, n⟩ := d
        have hd2 : 128 ≤ r := hd
        have b1 : decide ((r : Int) < 33) = false := by rw [decide_eq_false_iff_not]; omega
        have b2 : decide ((126 : Int) < (r : Int)) = true := by rw [decide_eq_true_iff]; omega
        clear hd
        go_wp2
        go_ret
        exact ⟨ret_bool HK.out.symm, (Below.refl _ _).alloc (Nat.le_refl _) _⟩
    · have hnx : ∀ ty, (Instr.next (.pointer (some ⟨w.heap.size, 0, none⟩)) true ty).run Tryd.prog (w.iter t k) = _ := fun ty => run_next_end w t k ty hlt
      go_wp2
      go_ret
      exact ⟨ret_bool (pathB_true (by omega) (by omega) (fun _ => H3.out) (fun i h => HR.out i h (by omega))).symm, (Below.refl _ _).alloc (Nat.le_refl _) _⟩
end Go.Proofs.YtfoekelhcmlagaaDoor

/- The walks of the program's pathRight, ownPort, placeRight and UrlRight. -/
namespace Go.Proofs.YtfoekelhcmlagaaDoor
open Go.RowKit


/-- the port of a scheme, 0 of no scheme -/
def ownP (t : ByteArray) : Int := if (t.toList == [104, 116, 116, 112]) = true then 80 else if (t.toList == [104, 116, 116, 112, 115]) = true then 443 else 0
theorem ownP_ne (t : ByteArray) : (ownP t != 0) = schemeB t := by
  unfold ownP schemeB
  cases t.toList == [104, 116, 116, 112] <;> cases t.toList == [104, 116, 116, 112, 115] <;> rfl
theorem ownP_usual {t : ByteArray} (h : schemeB t = true) : ownP t = usualP t := by
  unfold ownP usualP schemeB at *
  cases h1 : t.toList == [104, 116, 116, 112] <;> cases h2 : t.toList == [104, 116, 116, 112, 115] <;> rw [h1, h2] at h
  · cases h
  · rfl
  · rfl
  · rw [beq_iff_eq] at h1 h2; rw [h1] at h2; cases h2

set_option maxRecDepth 10000 in
set_option maxHeartbeats 400000 in
theorem ownPort_any (t : ByteArray) (w : World) :
    Calls Tryd.prog 188 #[.string t] w fun e w' => e = .returned (.int .i64 (ownP t)) ∧ w' = w := by
  unfold ownP
  cases h : (t.toList == [104, 116, 116, 112]) with
  | true =>
    go_enter Tryd.func188, Tryd.ntmps188
    go_wp2
    go_ret
    exact ⟨rfl, rfl⟩
  | false =>
    cases h2 : (t.toList == [104, 116, 116, 112, 115]) with
    | true =>
      go_enter Tryd.func188, Tryd.ntmps188
      go_wp2
      go_ret
      exact ⟨rfl, rfl⟩
    | false =>
      go_enter Tryd.func188, Tryd.ntmps188
      go_wp2
      go_ret
      exact ⟨rfl, rfl⟩

set_option maxRecDepth 10000 in
set_option maxHeartbeats 400000 in
theorem placeRight_any (sc ho : ByteArray) (po : Int) (w : World) (hG : MaxI w) (hh : ho.size ≤ 1048576) :
    Calls Tryd.prog 154 #[.string sc, .string ho, .int .i64 po] w fun e w' => e = .returned (.bool (placeB sc ho po)) ∧ Below w.heap.size w w' := by
  have H1 := fun W => ownPort_any sc W
  have H2 := hostRight_any ho w hG hh
  have HP : Hid (placeB sc ho po = (schemeB sc && hostB ho && (decide (1 ≤ po) && decide (po ≤ 65535)))) := rfl
  have q1 := ownP_ne sc
  generalize schemeB sc = b1 at *
  generalize hostB ho = b2 at *
  generalize ownP sc = op at *
  have G1 : Hid (∀ W, Calls Tryd.prog 188 #[.string sc] W fun e w' => e = .returned (.int .i64 op) ∧ w' = W) := H1
  have G2 : Hid (Calls Tryd.prog 71 #[.string ho] w fun e w' => e = .returned (.bool b2) ∧ Below w.heap.size w w') := H2
  clear H1 H2 hG
  cases b1 with
  | false =>
    go_enter Tryd.func154, Tryd.ntmps154
    go_wp2_with (go_at_call 188; refine (G1.out _).mono ?_; rintro e w1 ⟨rfl, rfl⟩)
    go_ret
    exact ⟨ret_bool (by rw [HP.out]; rfl), Below.refl _ _⟩
  | true =>
    cases b2 with
    | false =>
      go_enter Tryd.func154, Tryd.ntmps154
      go_wp2_with (first | (go_at_call 188; refine (G1.out _).mono ?_; rintro e w1 ⟨rfl, rfl⟩) | (go_at_call 71; refine G2.out.mono ?_; rintro e w2 ⟨rfl, hb⟩))
      go_ret
      exact ⟨ret_bool (by rw [HP.out]; rfl), hb⟩
    | true =>
      by_cases h : 1 ≤ po
      · have q2 : decide (1 ≤ po) = true := by rw [decide_eq_true_iff]; exact h
        go_enter Tryd.func154, Tryd.ntmps154
        go_wp2_with (first | (go_at_call 188; refine (G1.out _).mono ?_; rintro e w1 ⟨rfl, rfl⟩) | (go_at_call 71; refine G2.out.mono ?_; rintro e w2 ⟨rfl, hb⟩))
        go_ret
        exact ⟨ret_bool (by rw [HP.out]; simp [h]), hb⟩
      · have q2 : decide (1 ≤ po) = false := by rw [decide_eq_false_iff_not]; exact h
        go_enter Tryd.func154, Tryd.ntmps154
        go_wp2_with (first | (go_at_call 188; refine (G1.out _).mono ?_; rintro e w1 ⟨rfl, rfl⟩) | (go_at_call 71; refine G2.out.mono ?_; rintro e w2 ⟨rfl, hb⟩))
        go_ret
        exact ⟨ret_bool (by rw [HP.out, q2]; rfl), hb⟩
set_option maxRecDepth 10000 in
set_option maxHeartbeats 400000 in
theorem urlRight_any (sc ho pa : ByteArray) (po : Int) (w : World) (hG : MaxI w) (hh : ho.size ≤ 1048576) :
    Calls Tryd.prog 122 #[urlV sc ho pa po] w fun e w' => e = .returned (.bool (urlB sc ho pa po)) ∧ Below w.heap.size w w' := by
  have H1 := fun W (h : MaxI W) => placeRight_any sc ho po W h hh
  have H2 := fun W => pathRight_any pa W
  have HP : Hid (urlB sc ho pa po = (placeB sc ho po && pathB pa)) := rfl
  have HG : Hid (∀ o, MaxI (w.alloc o)) := fun o => hG.on ((Below.refl _ _).alloc (Nat.le_refl _) _)
  generalize placeB sc ho po = b1 at *
  generalize pathB pa = b2 at *
  have G1 : Hid (∀ W, MaxI W → Calls Tryd.prog 154 #[.string sc, .string ho, .int .i64 po] W fun e w' => e = .returned (.bool b1) ∧ Below W.heap.size W w') := H1
  have G2 : Hid (∀ W, Calls Tryd.prog 110 #[.string pa] W fun e w' => e = .returned (.bool b2) ∧ Below W.heap.size W w') := H2
  clear H1 H2 hG
  unfold urlV
  cases b1 with
  | false =>
    go_enter Tryd.func122, Tryd.ntmps122
    go_wp2_with fail
    refine (G1.out _ (HG.out _)).mono ?_
    rintro e w1 ⟨rfl, hb⟩
    go_wp2
    go_ret
    exact ⟨ret_bool (by rw [HP.out]; rfl), ((Below.refl _ _).alloc (Nat.le_refl _) _).trans (hb.mono (by simp))⟩
  | true =>
    go_enter Tryd.func122, Tryd.ntmps122
    go_wp2_with fail
    refine (G1.out _ (HG.out _)).mono ?_
    rintro e w1 ⟨rfl, hb⟩
    have hc3 : w1.cell? ⟨w.heap.size, 3, none⟩ = some (.string pa) := by rw [(bcell hb).1 _ _ (by simp)]; simp
    have hz1 : w.heap.size < w1.heap.size := by have := hb.size; simp at this; omega
    go_wp2_with (go_at_call 110; refine (G2.out _).mono ?_; rintro e w2 ⟨rfl, hb2⟩)
    go_ret
    exact ⟨ret_bool (by rw [HP.out]; rfl), (((Below.refl _ _).alloc (Nat.le_refl _) _).trans (hb.mono (by simp))).trans (hb2.mono (by omega))⟩
end Go.Proofs.YtfoekelhcmlagaaDoor

/- When a host fits a domain, and a path a prefix: plain facts. -/
namespace Go.Proofs.YtfoekelhcmlagaaDoor

/-- it is the domain, or ends with a point and the domain -/
def fitH (h d : ByteArray) : Bool := (h.toList == d.toList) || Lib.hasSuffix h.data.toList (46 :: d.data.toList)
theorem hasSuf_short {s p : List UInt8} (h : s.length < p.length) : Lib.hasSuffix s p = false := by
  rw [← Lib.hasSuffix_of_drop, decide_eq_false (by omega)]; rfl
theorem fitH_same {h d : ByteArray} (e : (h.toList == d.toList) = true) : fitH h d = true := by unfold fitH; rw [e]; rfl
theorem fitH_short {h d : ByteArray} (e : (h.toList == d.toList) = false) (l : h.size ≤ d.size) : fitH h d = false := by
  unfold fitH
  rw [e, hasSuf_short]; rfl
  rw [List.length_cons, ← Lib.size_eq, ← Lib.size_eq]; omega
theorem fitH_long {h d : ByteArray} {m : Nat} (e : (h.toList == d.toList) = false) (l : h.size = d.size + (m + 1)) (hm : m < h.size) : fitH h d = (((h.extract (m + 1) h.size).toList == d.toList) && ((h[m].toNat : Int) == 46)) := by
  have l1 : h.data.toList.length = d.data.toList.length + (m + 1) := by rw [← Lib.size_eq, ← Lib.size_eq]; exact l
  have hm1 : m < h.data.toList.length := by omega
  unfold fitH
  rw [e, Bool.false_or, ← Lib.hasSuffix_of_drop, List.length_cons, decide_eq_true (by omega), Bool.true_and]
  have e1 : h.data.toList.length - (d.data.toList.length + 1) = m := by omega
  have e2 : (h.extract (m + 1) h.size).toList = h.data.toList.drop (m + 1) := by
    rw [Lib.extract_toList, Lib.size_eq]
    exact List.take_of_length_le (by simp)
  rw [e1, e2, Lib.toList_data, List.drop_eq_getElem_cons hm1, Bool.and_comm]
  have e3 : h.data.toList[m] = h[m] := by rw [Array.getElem_toList]; rfl
  rw [e3]
  show ((h[m] == 46) && _) = _
  congr 1
  rw [Bool.eq_iff_iff, beq_iff_eq, beq_iff_eq]
  constructor
  · intro e; rw [e]; rfl
  · intro e
    apply UInt8.toNat.inj
    have : h[m].toNat = 46 := by omega
    rw [this]; rfl
/-- what the program asks of a host and a domain -/
theorem fitH_prog (h d : ByteArray) : fitH h d = ((h.toList == d.toList) || Lib.hasSuffix h.data.toList ((⟨#[46]⟩ : ByteArray) ++ d).data.toList) := by
  have e : ((⟨#[46]⟩ : ByteArray) ++ d).data.toList = 46 :: d.data.toList := by
    rw [ByteArray.data_append]; simp
  rw [e]; rfl

/-- the byte that stands at a place, or none -/
def byteI (t : ByteArray) (i : Nat) : Option Nat := if h : i < t.size then some t[i].toNat else none
/-- it is the prefix, or begins with it, and the prefix ends with a slash, or the next byte is one -/
def fitP (p q : ByteArray) : Bool := Lib.hasPrefix p.data.toList q.data.toList && (decide (p.size = q.size) || byteI q (q.size - 1) == some 47 || byteI p q.size == some 47)
theorem fitP_no {p q : ByteArray} (h : Lib.hasPrefix p.data.toList q.data.toList = false) : fitP p q = false := by unfold fitP; rw [h]; rfl
theorem fitP_yes {p q : ByteArray} (h : Lib.hasPrefix p.data.toList q.data.toList = true) : fitP p q = (decide (p.size = q.size) || byteI q (q.size - 1) == some 47 || byteI p q.size == some 47) := by unfold fitP; rw [h]; rfl
theorem pre_le {p q : ByteArray} (h : Lib.hasPrefix p.data.toList q.data.toList = true) : q.size ≤ p.size := by
  rw [← Lib.hasPrefix_raw, Bool.and_eq_true, decide_eq_true_eq] at h; exact h.1
theorem pre_cut {p q : ByteArray} (l : q.size ≤ p.size) : ((p.extract 0 q.size).toList == q.toList) = Lib.hasPrefix p.data.toList q.data.toList := by
  rw [← Lib.hasPrefix_raw, decide_eq_true l, Bool.true_and]
theorem pre_short {p q : ByteArray} (l : p.size < q.size) : Lib.hasPrefix p.data.toList q.data.toList = false := by
  rw [← Lib.hasPrefix_raw, decide_eq_false (by omega), Bool.false_and]
theorem byteI_at {t : ByteArray} {i : Nat} (h : i < t.size) : (byteI t i == some 47) = ((t[i].toNat : Int) == 47) := by
  unfold byteI
  rw [dif_pos h, Bool.eq_iff_iff, beq_iff_eq, beq_iff_eq]
  constructor
  · intro e; have := Option.some.inj e; omega
  · intro e; have : t[i].toNat = 47 := by omega
    rw [this]
theorem byteI_suffix {t : ByteArray} (h : 0 < t.size) : (byteI t (t.size - 1) == some 47) = Lib.hasSuffix t.data.toList [47] := by
  have hl : t.size - 1 < t.size := by omega
  have hl2 : t.data.toList.length - 1 < t.data.toList.length := by rw [← Lib.size_eq]; exact hl
  rw [byteI_at hl, ← Lib.hasSuffix_of_drop, List.length_singleton, decide_eq_true (by rw [← Lib.size_eq]; omega), Bool.true_and, List.drop_eq_getElem_cons hl2]
  have e0 : t.data.toList.drop (t.data.toList.length - 1 + 1) = [] := List.drop_eq_nil_of_le (by omega)
  have e3 : t.data.toList[t.data.toList.length - 1] = t[t.size - 1] := by rw [Array.getElem_toList]; rfl
  rw [e0, e3]
  show _ = ((t[t.size - 1] == 47) && (([] : List UInt8) == []))
  rw [Bool.eq_iff_iff]
  simp only [beq_iff_eq, Bool.and_eq_true, and_true, beq_self_eq_true]
  constructor
  · intro e
    apply UInt8.toNat.inj
    have : t[t.size - 1].toNat = 47 := by omega
    rw [this]; rfl
  · intro e; rw [e]; rfl
/-- what is left behind a prefix -/
theorem trim_rest {p q : ByteArray} (h : Lib.hasPrefix p.data.toList q.data.toList = true) : (⟨(Lib.trimPrefix p.data.toList q.data.toList).toArray⟩ : ByteArray) = p.extract q.size p.size := by
  have l := pre_le h
  exact Lib.trimPrefix_hit p q l (by rw [pre_cut l]; exact h)
theorem rest_empty {p q : ByteArray} (l : q.size ≤ p.size) : (p.extract q.size p.size).toList.isEmpty = decide (p.size = q.size) := by
  rw [Lib.extract_toList, Bool.eq_iff_iff, List.isEmpty_iff, decide_eq_true_eq, List.take_eq_nil_iff, List.drop_eq_nil_iff, ← Lib.size_eq]
  omega
theorem rest_slash {p q : ByteArray} (l : q.size ≤ p.size) : Lib.hasPrefix (p.extract q.size p.size).data.toList [47] = (byteI p q.size == some 47) := by
  rw [← Lib.toList_data, Lib.extract_toList, List.take_of_length_le (by simp)]
  unfold Lib.hasPrefix byteI
  by_cases h : q.size < p.size
  · have h2 : q.size < p.data.toList.length := by rw [← Lib.size_eq]; exact h
    have e3 : p.data.toList[q.size] = p[q.size] := by rw [Array.getElem_toList]; rfl
    rw [dif_pos h, List.drop_eq_getElem_cons h2, e3]
    show ((47 == p[q.size]) && true) = _
    rw [Bool.and_true, Bool.eq_iff_iff, beq_iff_eq, beq_iff_eq]
    constructor
    · intro e; rw [← e]; rfl
    · intro e
      apply UInt8.toNat.inj
      rw [Option.some.inj e]; rfl
  · rw [dif_neg h, List.drop_eq_nil_of_le (by rw [← Lib.size_eq]; omega)]; rfl
end Go.Proofs.YtfoekelhcmlagaaDoor

/- The walks of the specification's l06Host, HostFits, l06Path and PathFits. -/
namespace Go.Proofs.YtfoekelhcmlagaaDoor
open Go.RowKit

def hostF (h d : ByteArray) : Bool := hostB h && hostB d && fitH h d

set_option maxRecDepth 10000 in
set_option maxHeartbeats 1000000 in
theorem specL06Host_any (h d : ByteArray) (w : World) (hh : h.size ≤ 1048576) (hd : d.size ≤ 1048576) :
    Calls Tryd.prog 119 #[.string h, .string d] w fun e w' => e = .returned (.bool (fitH h d)) ∧ w' = w := by
  cases he : (h.toList == d.toList) with
  | true =>
    have HQ : Hid (fitH h d = true) := fitH_same he
    go_enter Tryd.func119, Tryd.ntmps119
    go_wp2
    go_ret
    exact ⟨ret_bool HQ.out.symm, rfl⟩
  | false =>
    by_cases hl : h.size ≤ d.size
    · have HQ : Hid (fitH h d = false) := fitH_short he hl
      have q : decide ((0 : Int) < (h.size : Int) - (d.size : Int)) = false := by rw [decide_eq_false_iff_not]; omega
      go_enter Tryd.func119, Tryd.ntmps119
      go_wp2
      go_ret
      exact ⟨ret_bool HQ.out.symm, rfl⟩
    · obtain ⟨m, hm⟩ : ∃ m : Nat, h.size = d.size + (m + 1) := ⟨h.size - d.size - 1, by omega⟩
      have hm1 : m < h.size := by omega
      have HQ : Hid (fitH h d = (((h.extract (m + 1) h.size).toList == d.toList) && ((h[m].toNat : Int) == 46))) := fitH_long he hm hm1
      have hn : (h.size : Int) - (d.size : Int) = (m : Int) + 1 := by omega
      generalize fitH h d = R at *
      cases hx : ((h.extract (m + 1) h.size).toList == d.toList) with
      | false =>
        have HZ : Hid (R = false) := by show _ = _; rw [HQ.out, hx]; rfl
        clear HQ hm
        go_enter Tryd.func119, Tryd.ntmps119
        go_wp2
        go_ret
        exact ⟨ret_bool HZ.out.symm, rfl⟩
      | true =>
        have HZ : Hid (R = ((h[m].toNat : Int) == 46)) := by show _ = _; rw [HQ.out, hx]; rfl
        clear HQ hm
        go_enter Tryd.func119, Tryd.ntmps119
        go_wp2
        go_ret
        exact ⟨ret_bool HZ.out.symm, rfl⟩

set_option maxRecDepth 10000 in
set_option maxHeartbeats 1000000 in
theorem specHostFits_any (h d : ByteArray) (w : World) (hh : h.size ≤ 1048576) (hd : d.size ≤ 1048576) :
    Calls Tryd.prog 56 #[.string h, .string d] w fun e w' => e = .returned (.bool (hostF h d)) ∧ Below w.heap.size w w' := by
  have K1 : Hid (∀ W, Calls Tryd.prog 25 #[.string h] W fun e w' => e = .returned (.bool (hostB h)) ∧ Below W.heap.size W w') := fun W => specHost_any h W
  have K2 : Hid (∀ W, Calls Tryd.prog 25 #[.string d] W fun e w' => e = .returned (.bool (hostB d)) ∧ Below W.heap.size W w') := fun W => specHost_any d W
  have K3 : Hid (∀ W, Calls Tryd.prog 119 #[.string h, .string d] W fun e w' => e = .returned (.bool (fitH h d)) ∧ w' = W) := fun W => specL06Host_any h d W hh hd
  have HE : Hid (hostF h d = (hostB h && hostB d && fitH h d)) := rfl
  generalize hostF h d = R at *
  generalize hostB h = b1 at *
  generalize hostB d = b2 at *
  generalize fitH h d = b3 at *
  go_enter Tryd.func56, Tryd.ntmps56
  go_wp2_with fail
  refine (K1.out _).mono ?_
  rintro e w1 ⟨rfl, hb1⟩
  cases b1 with
  | false =>
    go_wp2
    go_ret
    exact ⟨ret_bool (by rw [HE.out]; rfl), hb1⟩
  | true =>
    go_wp2_with fail
    refine (K2.out _).mono ?_
    rintro e w2 ⟨rfl, hb2⟩
    have B2 : Hid (Below w.heap.size w w2) := hb1.trans (hb2.mono hb1.size)
    clear hb1 hb2
    cases b2 with
    | false =>
      go_wp2
      go_ret
      exact ⟨ret_bool (by rw [HE.out]; rfl), B2.out⟩
    | true =>
      go_wp2_with fail
      refine (K3.out _).mono ?_
      rintro e w3 ⟨rfl, rfl⟩
      go_wp2
      go_ret
      exact ⟨ret_bool (by rw [HE.out]; rfl), B2.out⟩

end Go.Proofs.YtfoekelhcmlagaaDoor

/- The walks of the program's HostFits and PathFits. -/
namespace Go.Proofs.YtfoekelhcmlagaaDoor
open Go.RowKit

/-- it ends with a point and the domain -/
def dotEnd (h d : ByteArray) : Bool := Lib.hasSuffix h.data.toList ((⟨#[46]⟩ : ByteArray) ++ d).data.toList
theorem suffix_call (s p : ByteArray) (W : World) (hs : s.size ≤ 9223372036854775807) : Calls Tryd.prog 90 #[.string s, .string p] W fun e w' => e = .returned (.bool (Lib.hasSuffix s.data.toList p.data.toList)) ∧ w' = W :=
  Any.strings_HasSuffix Tryd.lays100 s p W hs
theorem dotEnd_call (h d : ByteArray) (W : World) (hh : h.size ≤ 1048576) : Calls Tryd.prog 90 #[.string h, .string (⟨#[46]⟩ ++ d)] W fun e w' => e = .returned (.bool (dotEnd h d)) ∧ w' = W := by
  have h1 := suffix_call h (⟨#[46]⟩ ++ d) W (by omega)
  unfold dotEnd
  exact h1
theorem hostF_prog (h d : ByteArray) : hostF h d = (hostB h && hostB d && ((h.toList == d.toList) || dotEnd h d)) := by
  unfold dotEnd hostF
  rw [← fitH_prog]
set_option maxRecDepth 10000 in
set_option maxHeartbeats 1000000 in
theorem hostFits_any (h d : ByteArray) (w : World) (hG : MaxI w) (hh : h.size ≤ 1048576) (hd : d.size ≤ 1048576) :
    Calls Tryd.prog 27 #[.string h, .string d] w fun e w' => e = .returned (.bool (hostF h d)) ∧ Below w.heap.size w w' := by
  have K1 : Hid (∀ W, Below w.heap.size w W → Calls Tryd.prog 71 #[.string h] W fun e w' => e = .returned (.bool (hostB h)) ∧ Below W.heap.size W w') := fun W hb => hostRight_any h W (hG.on hb) hh
  have K2 : Hid (∀ W, Below w.heap.size w W → Calls Tryd.prog 71 #[.string d] W fun e w' => e = .returned (.bool (hostB d)) ∧ Below W.heap.size W w') := fun W hb => hostRight_any d W (hG.on hb) hd
  have K3 : Hid (∀ W, Calls Tryd.prog 90 #[.string h, .string (⟨#[46]⟩ ++ d)] W fun e w' => e = .returned (.bool (dotEnd h d)) ∧ w' = W) := fun W => dotEnd_call h d W hh
  have HE : Hid (hostF h d = (hostB h && hostB d && ((h.toList == d.toList) || dotEnd h d))) := hostF_prog h d
  clear hG
  generalize hostF h d = R at *
  generalize hostB h = b1 at *
  generalize hostB d = b2 at *
  generalize dotEnd h d = b3 at *
  go_enter Tryd.func27, Tryd.ntmps27
  go_wp2_with fail
  refine (K1.out _ (Below.refl _ _)).mono ?_
  rintro e w1 ⟨rfl, hb1⟩
  cases b1 with
  | false =>
    go_wp2
    go_ret
    exact ⟨ret_bool (by rw [HE.out]; rfl), hb1⟩
  | true =>
    go_wp2_with fail
    refine (K2.out _ hb1).mono ?_
    rintro e w2 ⟨rfl, hb2⟩
    have B2 : Hid (Below w.heap.size w w2) := hb1.trans (hb2.mono hb1.size)
    clear hb1 hb2
    cases b2 with
    | false =>
      go_wp2
      go_ret
      exact ⟨ret_bool (by rw [HE.out]; rfl), B2.out⟩
    | true =>
      cases he : (h.toList == d.toList) with
      | true =>
        have HZ : Hid (R = true) := by show _ = _; rw [HE.out, he]; rfl
        clear HE
        go_wp2
        go_ret
        exact ⟨ret_bool HZ.out.symm, B2.out⟩
      | false =>
        have HZ : Hid (R = b3) := by show _ = _; rw [HE.out, he]; rfl
        clear HE
        go_wp2_with fail
        refine (K3.out _).mono ?_
        rintro e w3 ⟨rfl, rfl⟩
        go_wp2
        go_ret
        exact ⟨ret_bool HZ.out.symm, B2.out⟩

end Go.Proofs.YtfoekelhcmlagaaDoor

/- The law FnExactHostFits, walked. -/
namespace Go.Proofs.YtfoekelhcmlagaaDoor
open Go.RowKit

set_option maxRecDepth 10000 in
set_option maxHeartbeats 1000000 in
theorem lawHostFits_any (h d : ByteArray) (w : World) (hG : MaxI w) :
    Calls Tryd.prog 10 #[.string h, .string d] w fun e w' => e = .returned (.bool true) ∧ Below w.heap.size w w' := by
  by_cases h1 : 1048576 < h.size
  · go_enter Tryd.func10, Tryd.ntmps10
    go_wp2
    go_ret
    exact ⟨rfl, Below.refl _ _⟩
  have q1 : decide ((1048576 : Int) < (h.size : Int)) = false := by rw [decide_eq_false_iff_not]; omega
  by_cases h2 : 1048576 < d.size
  · go_enter Tryd.func10, Tryd.ntmps10
    go_wp2
    go_ret
    exact ⟨rfl, Below.refl _ _⟩
  have q2 : decide ((1048576 : Int) < (d.size : Int)) = false := by rw [decide_eq_false_iff_not]; omega
  have H1 : Hid (∀ W, Calls Tryd.prog 56 #[.string h, .string d] W fun e w' => e = .returned (.bool (hostF h d)) ∧ Below W.heap.size W w') := fun W => specHostFits_any h d W (by omega) (by omega)
  have H2 : Hid (∀ W, Below w.heap.size w W → Calls Tryd.prog 27 #[.string h, .string d] W fun e w' => e = .returned (.bool (hostF h d)) ∧ Below W.heap.size W w') := fun W hb => hostFits_any h d W (hG.on hb) (by omega) (by omega)
  clear hG
  generalize hostF h d = b at *
  go_enter Tryd.func10, Tryd.ntmps10
  go_wp2_with fail
  refine (H1.out _).mono ?_
  rintro e w1 ⟨rfl, hb1⟩
  go_wp2_with fail
  refine (H2.out _ hb1).mono ?_
  rintro e w2 ⟨rfl, hb2⟩
  go_wp2
  go_ret
  exact ⟨rfl, hb1.trans (hb2.mono hb1.size)⟩
end Go.Proofs.YtfoekelhcmlagaaDoor

/- The lifting of a law's walk to a row that lists package-level variables, the world's shape kept; what the shape and the list give a walk. -/
namespace Go.Proofs.YtfoekelhcmlagaaDoor
open Go.RowKit

theorem Ld.own : ownKnob Tryd.prog.godebug = none := by kernel_rfl
theorem Ld.laidOut : laidOutB Tryd.prog = true := by kernel_rfl
set_option maxRecDepth 10000 in
theorem lift_laid {H : Type} {enc : TypeId × Value → H} {os : Os} {f : FuncId} {fn : Func} {s : ChangeSpec} {X : World → Prop} (hX : ∀ (w w' : World), w.heap = w'.heap → X w → X w')
    (started : os.Started) (noInit : Tryd.prog.inits.idxOf? f = none) (hfn : Tryd.prog.funcs[f]? = some fn)
    (start : ∃ (w : World) (tape : Tape) (i : Input), w.os = os ∧ (w.forCall tape i).Shaped Tryd.prog ∧ i.vars = [] ∧ Input.okWide Tryd.prog (w.forCall tape i) .any w.heap.size f i ∧
      ((s.pre enc Tryd.prog fn [] false (w.forCall tape i).memory i.args ∧ X (w.forCall tape i).memory) ∧ sizedMet enc Tryd.prog fn (OpenSpec.ofChange s) false (w.forCall tape i).memory i.args) ∧ Assume.holds {} Tryd.prog (lone (Frame.enter Tryd.prog f i.args .normal) [] (w.forCall tape i)))
    (walk : ∀ (W : World) (base : Nat) (args : Array Value) (ds gs : List (DataW H)) (before : List MemPlace),
      (∀ (j : Nat) t v, fn.params[j]? = some t → args[j]? = some v → Value.okWide Tryd.prog W .any base t v) →
      DataW.Whole enc Tryd.prog fn.params.toList s.vars false W args.toList ds gs before → X W → W.ShapedOpen Tryd.prog →
      Calls Tryd.prog f args W fun e W' => ∃ v, e = .returned v ∧ s.post enc Tryd.prog fn false true false false W args v W') :
    ReturnsInHanded {} Tryd.checked os f .any (fun w args => (s.pre enc Tryd.prog fn [] false w args ∧ X w) ∧ sizedMet enc Tryd.prog fn (OpenSpec.ofChange s) false w args) (s.post enc Tryd.prog fn false true false false) := by
  refine returnsInHanded_of_calls (C := Tryd.checked) Ld.own started noInit start ?_
  intro w tape i _ hsh _ hok hpre _
  obtain ⟨_, _, _, fn2, hfn2, _, _, _, _, hval⟩ := hok
  obtain rfl : fn2 = fn := Option.some.inj (hfn2.symm.trans hfn)
  obtain ⟨⟨⟨ds, gs, before, hw, _⟩, hx⟩, _⟩ := hpre
  have hw2 := DataW.Whole.of_heap (w' := w.forCall tape i) (by rfl) hw
  refine (walk (w.forCall tape i) w.heap.size i.args ds gs before hval hw2 (hX _ _ (by rfl) hx) hsh).mono fun e W' ⟨v, he, hp⟩ => ?_
  subst he
  exact ChangeSpec.post_blind hp
set_option maxRecDepth 10000 in
theorem maxI_of_shape {W : World} (h : W.ShapedOpen Tryd.prog) : MaxI W := Tryd.lays146.s1_3 W h
end Go.Proofs.YtfoekelhcmlagaaDoor
