/- 23 of this claim's texts, one behind the other. -/
import Derived.Test.YtimmoclemcnhnaaDoorPart1
import Derived.Lib.SplitLaws
import Derived.Test.YtimmoclemcnhnaaDoorShelf
import Derived.WalkKit
import Derived.WalkSpells
import Derived.WalkLawsBesides
import Derived.Laws.RangeAny
import Derived.Deep.QuietTactic
import Derived.BigQuiet
import Derived.Deep.RegionWith
import Derived.Lib.Strings
import Derived.Test.YtimmoclemcnhnaaDoorPart2
import Derived.Deep.DeepCutAuto
import Derived.Deep.RegionHeld3
import Derived.Laws.ResultCell
/- What the library's Split cuts a text into at a byte is splitB's list. -/
namespace Go.Proofs.YtimmoclemcnhnaaDoor
theorem first_split {c : UInt8} : ∀ {l : List UInt8}, c ∈ l → ∃ A B, l = A ++ c :: B ∧ ∀ x ∈ A, x ≠ c
  | [], h => by cases h
  | b :: l, h => by
    by_cases e : b = c
    · exact ⟨[], l, by rw [e]; rfl, fun x hx => by cases hx⟩
    · obtain ⟨A, B, rfl, hA⟩ := first_split (l := l) (by cases h with | head => exact absurd rfl e | tail _ h => exact h)
      refine ⟨b :: A, B, rfl, ?_⟩
      intro x hx
      cases hx with
      | head => exact e
      | tail _ hx => exact hA x hx
/-- a list of bytes cut at a byte -/
def cutL (c : UInt8) : List UInt8 → List (List UInt8)
  | [] => [[]]
  | b :: l => if b = c then [] :: cutL c l else match cutL c l with
    | [] => [[b]]
    | p :: r => (b :: p) :: r
theorem cutL_none (c : UInt8) : ∀ A : List UInt8, (∀ x ∈ A, x ≠ c) → cutL c A = [A]
  | [], _ => rfl
  | b :: A, h => by
    rw [cutL, if_neg (h b (by simp)), cutL_none c A (fun x hx => h x (by simp [hx]))]
theorem cutL_app (c : UInt8) (B : List UInt8) : ∀ A : List UInt8, (∀ x ∈ A, x ≠ c) → cutL c (A ++ c :: B) = A :: cutL c B
  | [], _ => by rw [List.nil_append, cutL, if_pos rfl]
  | b :: A, h => by
    rw [List.cons_append, cutL, if_neg (h b (by simp)), cutL_app c B A (fun x hx => h x (by simp [hx]))]
theorem index_one (c : UInt8) (A B : List UInt8) (h : ∀ x ∈ A, x ≠ c) : Lib.index (A ++ c :: B) [c] = A.length := by
  refine Lib.index_first (by simp) ?_ ?_
  · simp [Lib.occAt]
  · intro j hj
    rw [← Bool.not_eq_true]
    intro ho
    have e := Lib.occAt_head rfl ho
    rw [List.getElem?_append_left hj] at e
    exact h c (List.mem_of_getElem? e) rfl
theorem splitK_cutL (c : UInt8) : ∀ (k : Nat) (l : List UInt8), l.count c = k → Lib.splitK [c] 0 k l = cutL c l
  | 0, l, h => by
    rw [cutL_none c l (fun x hx e => by subst e; exact absurd (List.count_pos_iff.2 hx) (by omega))]
    rfl
  | k + 1, l, h => by
    obtain ⟨A, B, rfl, hA⟩ := first_split (List.count_pos_iff.1 (show 0 < l.count c by omega))
    have hi := index_one c A B hA
    have h0 : A.count c = 0 := List.count_eq_zero.2 (fun hx => hA c hx rfl)
    have hB : B.count c = k := by
      rw [List.count_append, List.count_cons_self, h0] at h; omega
    rw [Lib.splitK, if_neg (by rw [hi, beq_iff_eq]; omega), hi, cutL_app c B A hA]
    congr 1
    · simp
    · rw [← splitK_cutL c k B hB]
      congr 1
      rw [show ((A.length : Int)).toNat + [c].length = A.length + 1 by simp, ← List.drop_drop, List.drop_left]
      rfl
theorem extract_list (s : ByteArray) (a b : Nat) : (s.extract a b).data.toList = (s.data.toList.drop a).take (b - a) := by
  simp
theorem byte_list {s : ByteArray} {i : Nat} (h : i < s.size) : s.data.toList[i]'(by simpa using h) = s[i] := by simp; rfl
theorem splitTo_cut (s : ByteArray) (c : UInt8) : ∀ i, i ≤ s.size →
    cutL c s.data.toList = (splitTo s c.toNat i).1.map (·.data.toList) ++ cutL c (s.data.toList.drop (splitTo s c.toNat i).2) ∧
      ∀ j (h : j < s.size), (splitTo s c.toNat i).2 ≤ j → j < i → s[j] ≠ c
  | 0, _ => ⟨by simp [splitTo], fun j _ _ h => by omega⟩
  | i + 1, hi => by
    obtain ⟨e, hn⟩ := splitTo_cut s c i (by omega)
    have hlt : i < s.size := by omega
    have hle := (splitTo_le s c.toNat i).1
    by_cases hc : s[i].toNat = c.toNat
    · rw [splitTo_hit hlt hc]
      refine ⟨?_, fun j _ h1 h2 => by simp at h1; omega⟩
      rw [e]
      generalize (splitTo s c.toNat i).2 = f at *
      have hl : i < s.data.toList.length := by simpa using hlt
      have hd : s.data.toList.drop f = ((s.data.toList.drop f).take (i - f)) ++ c :: s.data.toList.drop (i + 1) := by
        have hci : s.data.toList[i] = c := by rw [byte_list hlt]; exact UInt8.toNat_inj.1 hc
        conv => lhs; rw [← List.take_append_drop (i - f) (s.data.toList.drop f)]
        congr 1
        rw [List.drop_drop, show f + (i - f) = i by omega, List.drop_eq_getElem_cons hl, hci]
      have hA : ∀ x ∈ (s.data.toList.drop f).take (i - f), x ≠ c := by
        intro x hx
        obtain ⟨k, hk, rfl⟩ := List.getElem_of_mem hx
        have hk2 : k < i - f := by rw [List.length_take] at hk; omega
        rw [List.getElem_take, List.getElem_drop]
        have := hn (f + k) (by omega) (by omega) (by omega)
        rw [← byte_list (by omega)] at this
        exact this
      conv => lhs; rw [hd, cutL_app c _ _ hA]
      simp
    · rw [splitTo_miss hlt hc]
      refine ⟨e, fun j h h1 h2 => ?_⟩
      by_cases hj : j = i
      · subst hj; exact fun e => hc (by rw [e])
      · exact hn j h h1 (by omega)
theorem splitB_cut (s : ByteArray) (c : UInt8) : (splitB s c.toNat).map (·.data.toList) = cutL c s.data.toList := by
  obtain ⟨e, hn⟩ := splitTo_cut s c s.size (Nat.le_refl _)
  have hle := (splitTo_le s c.toNat s.size).1
  unfold splitB
  rw [e]
  generalize (splitTo s c.toNat s.size).2 = f at *
  rw [cutL_none c (s.data.toList.drop f)]
  · rw [List.map_append]; congr 1
    simp only [List.map_cons, List.map_nil, extract_list]
    rw [List.take_of_length_le (by simp)]
  · intro x hx
    obtain ⟨k, hk, rfl⟩ := List.getElem_of_mem hx
    rw [List.getElem_drop]
    have hk2 : f + k < s.size := by rw [List.length_drop] at hk; simp at hk; omega
    have := hn (f + k) hk2 (by omega) hk2
    rw [← byte_list hk2] at this
    exact this
theorem datas_inj : ∀ {A B : List ByteArray}, A.map (·.data.toList) = B.map (·.data.toList) → A = B
  | [], [], _ => rfl
  | [], b :: B, h => by cases h
  | a :: A, [], h => by cases h
  | a :: A, b :: B, h => by
    simp only [List.map_cons, List.cons.injEq] at h
    obtain ⟨h1, h2⟩ := h
    rw [datas_inj h2]
    congr 1
    cases a; cases b
    congr 1
    exact Array.toList_inj.1 h1
theorem lib_split (s : ByteArray) (c : UInt8) : Lib.splitB ⟨#[c]⟩ 0 (Lib.countB s ⟨#[c]⟩) s = splitB s c.toNat := by
  apply datas_inj
  rw [Lib.splitB_data, splitB_cut]
  exact splitK_cutL c _ _ (Lib.count_one c s.data.toList).symm
theorem lib_count (s : ByteArray) (c : UInt8) : Lib.countB s ⟨#[c]⟩ + 1 = (splitB s c.toNat).length := by
  rw [← lib_split, Lib.splitB_all ⟨#[c]⟩ (Nat.le_refl 1) 0 _ s rfl]
end Go.Proofs.YtimmoclemcnhnaaDoor

/- The library's Split and the digits of a number, as the program calls them, over the contracts laid at this translation. -/
namespace Go.Proofs.YtimmoclemcnhnaaDoor
open Go.RowKit

/-- the library's variable MaxLen holds some number -/
def MaxI (w : World) : Prop := ∃ m : Int, w.cell? ⟨1, 0, none⟩ = some (.int .i64 m)
theorem MaxI.on {w w' : World} (h : MaxI w) (hb : Below w.heap.size w w') : MaxI w' := by
  obtain ⟨m, hm⟩ := h
  have hlt : 1 < w.heap.size := by
    by_cases h : 1 < w.heap.size
    · exact h
    · exfalso
      simp [World.cell?, Array.getElem?_eq_none (show w.heap.size ≤ 1 by omega)] at hm
  exact ⟨m, by rw [(bcell hb).1 _ _ hlt]; exact hm⟩

theorem split_call (s : ByteArray) (w : World) (hG : MaxI w) (hs : s.size < 4294967281) :
    Calls Tryd.prog 57 #[.string s, .string ⟨#[46]⟩] w fun e w' => e = .returned (.slice (some ⟨w.heap.size, 0, none⟩) (splitB s 46).length (splitB s 46).length) ∧ w' = w.alloc (.cells (strCells (splitB s 46)).toArray 9) := by
  obtain ⟨m, hm⟩ := hG
  have h := Any.strings_Split { Tryd.lays146 with } Tryd.lays146.i9 s ⟨#[46]⟩ m w hs hm (Nat.le_refl 1)
  rw [lib_split s 46, lib_count s 46] at h
  exact h
/-- all cuts and the bytes between them -/
theorem cutL_sum (c : UInt8) : ∀ l : List UInt8, ((cutL c l).map (fun p => p.length + 1)).sum = l.length + 1
  | [] => rfl
  | b :: l => by
    have ih := cutL_sum c l
    rw [cutL]
    split
    · simp only [List.map_cons, List.sum_cons, List.length_nil, List.length_cons, ih]; omega
    · split
      · rename_i h; rw [h] at ih; simp at ih
      · rename_i h
        rw [h] at ih
        simp only [List.map_cons, List.sum_cons, List.length_cons] at ih ⊢
        omega
theorem sum_le (L : List ByteArray) (h : ∀ x ∈ L, x.size ≤ 12) : (L.map (fun p => p.data.toList.length + 1)).sum ≤ 13 * L.length := by
  induction L with
  | nil => exact Nat.le_refl _
  | cons a L ih =>
    have h1 := h a (by simp)
    have h2 := ih (fun x hx => h x (by simp [hx]))
    have e : a.data.toList.length = a.size := (Lib.size_eq a).symm
    simp only [List.map_cons, List.sum_cons, List.length_cons, e]
    omega
theorem labelB_le {t : ByteArray} (h : labelB t = true) : t.size ≤ 12 := by
  by_cases hz : 12 < t.size
  · rw [labelB_size (.inr hz)] at h; cases h
  · omega
theorem host_size {s : ByteArray} (hn : (splitB s 46).length ≤ 6) (h : ∀ k (h : k < (splitB s 46).length), labelB ((splitB s 46)[k]) = true) : s.size ≤ 100 := by
  have e := splitB_cut s 46
  have e2 := cutL_sum 46 s.data.toList
  rw [← e, List.map_map] at e2
  have e3 := sum_le (splitB s 46) (fun x hx => by
    obtain ⟨k, hk, rfl⟩ := List.getElem_of_mem hx
    exact labelB_le (h k hk))
  have e4 : s.data.toList.length = s.size := (Lib.size_eq s).symm
  have e5 : ((splitB s 46).map (fun p => p.data.toList.length + 1)).sum = s.size + 1 := by rw [← e4]; exact e2
  omega
theorem hostB_six {s : ByteArray} (hn : (splitB s 46).length ≤ 6) (h : ∀ k (h : k < (splitB s 46).length), labelB ((splitB s 46)[k]) = true) : hostB s = true := by
  rw [hostB_all (host_size hn h) h]; simpa using hn
theorem hostB_many {s : ByteArray} (hn : 6 < (splitB s 46).length) : hostB s = false := by
  unfold hostB; rw [decide_eq_false (show ¬ (splitB s 46).length ≤ 6 by omega)]; simp
end Go.Proofs.YtimmoclemcnhnaaDoor

/- The walks of the program's inLabel, labelRight and pathRight. -/
namespace Go.Proofs.YtimmoclemcnhnaaDoor
open Go.RowKit

set_option maxRecDepth 10000 in
set_option maxHeartbeats 400000 in
theorem inLabel_any (n : Nat) (w : World) :
    Calls Tryd.prog 147 #[.int .i32 n] w fun e w' => e = .returned (.bool (labC n)) ∧ w' = w := by
  rcases (show (n < 45) ∨ (45 ≤ n ∧ n ≤ 45) ∨ (46 ≤ n ∧ n < 48) ∨ (48 ≤ n ∧ n ≤ 57) ∨ (58 ≤ n ∧ n < 97) ∨ (97 ≤ n ∧ n ≤ 122) ∨ (122 < n) by omega)
    with c1 | ⟨c1, c2⟩ | ⟨c1, c2⟩ | ⟨c1, c2⟩ | ⟨c1, c2⟩ | ⟨c1, c2⟩ | c1
  · have b1 : decide ((97 : Int) ≤ (n : Int)) = false := by rw [decide_eq_false_iff_not]; omega
    have b2 : decide ((48 : Int) ≤ (n : Int)) = false := by rw [decide_eq_false_iff_not]; omega
    have b3 : ((n : Int) == 45) = false := by rw [beq_eq_false_iff_ne]; omega
    go_enter Tryd.func147, Tryd.ntmps147
    go_wp2
    go_ret
    exact ⟨ret_bool (labC_no (by omega)).symm, rfl⟩
  · have b1 : decide ((97 : Int) ≤ (n : Int)) = false := by rw [decide_eq_false_iff_not]; omega
    have b2 : decide ((48 : Int) ≤ (n : Int)) = false := by rw [decide_eq_false_iff_not]; omega
    have b3 : ((n : Int) == 45) = true := by rw [beq_iff_eq]; omega
    go_enter Tryd.func147, Tryd.ntmps147
    go_wp2
    go_ret
    exact ⟨ret_bool (labC_yes (by omega)).symm, rfl⟩
  · have b1 : decide ((97 : Int) ≤ (n : Int)) = false := by rw [decide_eq_false_iff_not]; omega
    have b2 : decide ((48 : Int) ≤ (n : Int)) = false := by rw [decide_eq_false_iff_not]; omega
    have b3 : ((n : Int) == 45) = false := by rw [beq_eq_false_iff_ne]; omega
    go_enter Tryd.func147, Tryd.ntmps147
    go_wp2
    go_ret
    exact ⟨ret_bool (labC_no (by omega)).symm, rfl⟩
  · have b1 : decide ((97 : Int) ≤ (n : Int)) = false := by rw [decide_eq_false_iff_not]; omega
    go_enter Tryd.func147, Tryd.ntmps147
    go_wp2
    go_ret
    exact ⟨ret_bool (labC_yes (by omega)).symm, rfl⟩
  · have b1 : decide ((97 : Int) ≤ (n : Int)) = false := by rw [decide_eq_false_iff_not]; omega
    have b2 : decide ((n : Int) ≤ 57) = false := by rw [decide_eq_false_iff_not]; omega
    have b3 : ((n : Int) == 45) = false := by rw [beq_eq_false_iff_ne]; omega
    go_enter Tryd.func147, Tryd.ntmps147
    go_wp2
    go_ret
    exact ⟨ret_bool (labC_no (by omega)).symm, rfl⟩
  · go_enter Tryd.func147, Tryd.ntmps147
    go_wp2
    go_ret
    exact ⟨ret_bool (labC_yes (by omega)).symm, rfl⟩
  · have b1 : decide ((n : Int) ≤ 122) = false := by rw [decide_eq_false_iff_not]; omega
    have b2 : decide ((n : Int) ≤ 57) = false := by rw [decide_eq_false_iff_not]; omega
    have b3 : ((n : Int) == 45) = false := by rw [beq_eq_false_iff_ne]; omega
    go_enter Tryd.func147, Tryd.ntmps147
    go_wp2
    go_ret
    exact ⟨ret_bool (labC_no (by omega)).symm, rfl⟩

set_option maxRecDepth 10000 in
set_option maxHeartbeats 400000 in
theorem labelRight_any (t : ByteArray) (w : World) (ht : t.size ≤ 9223372036854775807) :
    Calls Tryd.prog 102 #[.string t] w fun e w' => e = .returned (.bool (labelB t)) ∧ Below w.heap.size w w' := by
  by_cases h1 : t.size < 1
  · have q1 : decide ((t.size : Int) - 1 < 0) = true := by rw [decide_eq_true_iff]; omega
    go_enter Tryd.func102, Tryd.ntmps102
    go_wp2
    go_ret
    exact ⟨ret_bool (labelB_size (.inl h1)).symm, Below.refl _ _⟩
  have q1 : decide ((t.size : Int) - 1 < 0) = false := by rw [decide_eq_false_iff_not]; omega
  by_cases h2 : 12 < t.size
  · have q2 : decide ((12 : Int) ≤ (t.size : Int) - 1) = true := by rw [decide_eq_true_iff]; omega
    go_enter Tryd.func102, Tryd.ntmps102
    go_wp2
    go_ret
    exact ⟨ret_bool (labelB_size (.inr h2)).symm, Below.refl _ _⟩
  have q2 : decide ((12 : Int) ≤ (t.size : Int) - 1) = false := by rw [decide_eq_false_iff_not]; omega
  have hp : 0 < t.size := by omega
  have hl : t.size - 1 < t.size := by omega
  by_cases h3 : t[0].toNat = 45
  · have q3 : ((t[0].toNat : Int) == 45) = true := by rw [beq_iff_eq]; omega
    have H3 : Hid (t[0].toNat = 45) := h3
    clear h3
    go_enter Tryd.func102, Tryd.ntmps102
    go_wp2
    go_ret
    exact ⟨ret_bool (labelB_first hp H3.out).symm, Below.refl _ _⟩
  have q3 : ((t[0].toNat : Int) == 45) = false := by rw [beq_eq_false_iff_ne]; omega
  have H3 : Hid (¬ t[0].toNat = 45) := h3
  clear h3
  by_cases h4 : t[t.size - 1].toNat = 45
  · have q4 : ((t[t.size - 1].toNat : Int) == 45) = true := by rw [beq_iff_eq]; omega
    have H4 : Hid (t[t.size - 1].toNat = 45) := h4
    clear h4
    go_enter Tryd.func102, Tryd.ntmps102
    go_wp2
    go_ret
    exact ⟨ret_bool (labelB_last hl H4.out).symm, Below.refl _ _⟩
  have q4 : ((t[t.size - 1].toNat : Int) == 45) = false := by rw [beq_eq_false_iff_ne]; omega
  have H4 : Hid (¬ t[t.size - 1].toNat = 45) := h4
  clear h4
  go_enter Tryd.func102, Tryd.ntmps102
  go_wp2
  go_loopw [5] (fun _ wr => ∃ k : Nat, k ≤ t.size ∧ wr = w.iter t k ∧ Hid (∀ i (h : i < t.size), i < k → labC t[i].toNat = true)) (fun _ wr => t.size - wr.iterPos w.heap.size)
  case atStart => exact ⟨0, Nat.zero_le _, rfl, fun i _ hi => absurd hi (by omega)⟩
  case round =>
    obtain ⟨k, hk, rfl, HR⟩ := hrel
    by_cases hlt : k < t.size
    · by_cases ha : t[k].toNat < 128
      · have hnx : ∀ ty, (Instr.next (.pointer (some ⟨w.heap.size, 0, none⟩)) true ty).run Tryd.prog (w.iter t k) = _ := fun ty => run_next_ascii w t k ty hlt ha
        cases hc : labC t[k].toNat with
        | true =>
          have HC : Hid (∀ W, Calls Tryd.prog 147 #[.int .i32 (t[k].toNat : Int)] W fun e w' => e = .returned (.bool true) ∧ w' = W) := fun W => by rw [← hc]; exact inLabel_any _ W
          have HK : Hid (labC t[k].toNat = true) := hc
          clear hc
          go_wp2_with (go_at_call 147; refine (HC.out _).mono ?_; rintro e w2 ⟨rfl, rfl⟩)
          go_roundw
          case rel => exact ⟨k + 1, by omega, rfl, all_succ HR.out hlt HK.out⟩
          case measure => simp; omega
        | false =>
          have HC : Hid (∀ W, Calls Tryd.prog 147 #[.int .i32 (t[k].toNat : Int)] W fun e w' => e = .returned (.bool false) ∧ w' = W) := fun W => by rw [← hc]; exact inLabel_any _ W
          have HK : Hid (labelB t = false) := labelB_at k hlt hc
          clear hc
          go_wp2_with (go_at_call 147; refine (HC.out _).mono ?_; rintro e w2 ⟨rfl, rfl⟩)
          go_ret
          exact ⟨ret_bool HK.out.symm, (Below.refl _ _).alloc (Nat.le_refl _) _⟩
      · have hnx : ∀ ty, (Instr.next (.pointer (some ⟨w.heap.size, 0, none⟩)) true ty).run Tryd.prog (w.iter t k) = _ := fun ty => run_next_any w t k ty hlt
        have hd := (decode_high t k hlt (by omega)).1
        have HK : Hid (labelB t = false) := labelB_at k hlt (labC_no (by omega))
        generalize Utf8.decode t k = d at *
        obtain ⟨r, n⟩ := d
        have hd2 : 128 ≤ r := hd
        have HC : Hid (∀ W, Calls Tryd.prog 147 #[.int .i32 (r : Int)] W fun e w' => e = .returned (.bool false) ∧ w' = W) := fun W => by
          have := inLabel_any r W
          rw [labC_no (by omega)] at this; exact this
        clear hd hd2
        go_wp2_with (go_at_call 147; refine (HC.out _).mono ?_; rintro e w2 ⟨rfl, rfl⟩)
        go_ret
        exact ⟨ret_bool HK.out.symm, (Below.refl _ _).alloc (Nat.le_refl _) _⟩
    · have hnx : ∀ ty, (Instr.next (.pointer (some ⟨w.heap.size, 0, none⟩)) true ty).run Tryd.prog (w.iter t k) = _ := fun ty => run_next_end w t k ty hlt
      go_wp2
      go_ret
      exact ⟨ret_bool (labelB_true (by omega) (by omega) (fun _ => H3.out) (fun _ => H4.out) (fun i h => HR.out i h (by omega))).symm, (Below.refl _ _).alloc (Nat.le_refl _) _⟩
end Go.Proofs.YtimmoclemcnhnaaDoor

/- The walk of the program's HostRight. -/
namespace Go.Proofs.YtimmoclemcnhnaaDoor
open Go.RowKit

theorem mem_le_sum : ∀ {l : List Nat} {x : Nat}, x ∈ l → x ≤ l.sum
  | [], _, h => by cases h
  | a :: l, x, h => by
    rw [List.sum_cons]
    cases h with
    | head => omega
    | tail _ h => have := mem_le_sum h; omega
theorem piece_le {s x : ByteArray} (hx : x ∈ splitB s 46) : x.size ≤ s.size := by
  have h1 : x.data.toList ∈ cutL 46 s.data.toList := by rw [← splitB_cut]; exact List.mem_map.2 ⟨x, hx, rfl⟩
  have h2 := cutL_sum 46 s.data.toList
  have h3 : (x.data.toList.length + 1) ≤ ((cutL 46 s.data.toList).map (fun p => p.length + 1)).sum := mem_le_sum (List.mem_map.2 ⟨_, h1, rfl⟩)
  rw [h2, ← Lib.size_eq, ← Lib.size_eq] at h3
  omega
set_option maxRecDepth 10000 in
set_option maxHeartbeats 400000 in
theorem hostRight_any (s : ByteArray) (w : World) (hG : MaxI w) (hs : s.size ≤ 1048576) :
    Calls Tryd.prog 50 #[.string s] w fun e w' => e = .returned (.bool (hostB s)) ∧ Below w.heap.size w w' := by
  have HC : Hid (∀ W, MaxI W → Calls Tryd.prog 57 #[.string s, .string ⟨#[46]⟩] W fun e w' => e = .returned (.slice (some ⟨W.heap.size, 0, none⟩) (splitB s 46).length (splitB s 46).length) ∧ w' = W.alloc (.cells (strCells (splitB s 46)).toArray 9)) := fun W h => split_call s W h (by omega)
  have HA : Hid ((∀ k (h : k < (splitB s 46).length), labelB ((splitB s 46)[k]) = false → hostB s = false) ∧ ((splitB s 46).length ≤ 6 → (∀ k (h : k < (splitB s 46).length), labelB ((splitB s 46)[k]) = true) → hostB s = true) ∧ (6 < (splitB s 46).length → hostB s = false)) :=
    ⟨fun k h hl => hostB_at k h hl, fun h1 h2 => hostB_six h1 h2, fun h => hostB_many h⟩
  have hn := splitB_len s 46
  have HZ : Hid (∀ x ∈ splitB s 46, x.size ≤ s.size) := fun x hx => piece_le hx
  generalize splitB s 46 = L at *
  have HG : Hid (MaxI w) := hG
  clear hG
  go_enter Tryd.func50, Tryd.ntmps50
  go_wp2_with fail
  refine (HC.out _ HG.out).mono ?_
  rintro e w1 ⟨rfl, rfl⟩
  by_cases h6 : 6 < L.length
  · go_wp2
    go_ret
    exact ⟨ret_bool (HA.out.2.2 h6).symm, (Below.refl _ _).alloc (Nat.le_refl _) _⟩
  have q6 : decide ((6 : Int) < (L.length : Int)) = false := by rw [decide_eq_false_iff_not]; omega
  have hcell : ∀ k (h : k < L.length), (w.alloc (.cells (strCells L).toArray 9)).cell? ⟨w.heap.size, k, none⟩ = some (.string L[k]) := by
    intro k hk
    simp [strCells, hk]
  have hb : Below w.heap.size w (w.alloc (.cells (strCells L).toArray 9)) := (Below.refl _ _).alloc (Nat.le_refl _) _
  have hz1 : w.heap.size < (w.alloc (.cells (strCells L).toArray 9)).heap.size := by simp
  generalize w.alloc (.cells (strCells L).toArray 9) = w1 at *
  go_wp2
  go_loopw [13] (fun i wr => ∃ k : Nat, k ≤ L.length ∧ i = .int .i64 k ∧ Below w1.heap.size w1 wr ∧ Hid (∀ j (h : j < L.length), j < k → labelB L[j] = true)) (fun i _ => L.length - (intOf i).toNat)
  case atStart => exact ⟨0, by omega, rfl, Below.refl _ _, fun j _ hj => absurd hj (by omega)⟩
  case round =>
    obtain ⟨k, hk, rfl, hb2, HR⟩ := hrel
    by_cases hlt : k < L.length
    · have hc1 := hcell k hlt
      have hck : wr.cell? ⟨w.heap.size, k, none⟩ = some (.string L[k]) := by rw [(bcell hb2).1 _ _ hz1]; exact hc1
      have HL : Hid (∀ W, Calls Tryd.prog 102 #[.string L[k]] W fun e w' => e = .returned (.bool (labelB L[k])) ∧ Below W.heap.size W w') := fun W => labelRight_any L[k] W (by have := HZ.out L[k] (List.getElem_mem hlt); omega)
      have HB2 : Hid (Below w1.heap.size w1 wr) := hb2
      have hz2 := hb2.size
      cases hlab : labelB L[k] with
      | true =>
        have HL2 : Hid (labelB L[k] = true) := hlab
        rw [hlab] at HL
        clear hlab hcell hc1 hb2
        generalize hx : L[k] = x at *
        have HX : Hid (L[k] = x) := hx
        clear hx
        go_wp2_with (go_at_call 102; refine (HL.out _).mono ?_; rintro e w2 ⟨rfl, hb3⟩)
        go_roundw
        case rel =>
          refine ⟨k + 1, by omega, by go_num, HB2.out.trans (hb3.mono hz2), ?_⟩
          intro j hj hjk
          by_cases e : j = k
          · subst e; rw [HX.out]; exact HL2.out
          · exact HR.out j hj (by omega)
        case measure => simp [intOf]; omega
      | false =>
        have HF : Hid (hostB s = false) := HA.out.1 k hlt hlab
        rw [hlab] at HL
        clear hlab hcell hc1 hb2
        generalize L[k] = x at *
        go_wp2_with (go_at_call 102; refine (HL.out _).mono ?_; rintro e w2 ⟨rfl, hb3⟩)
        go_ret
        exact ⟨ret_bool HF.out.symm, hb.trans ((HB2.out.trans (hb3.mono hz2)).mono hb.size)⟩
    · have HF : Hid (hostB s = true) := HA.out.2.1 (by omega) (fun j hj => HR.out j hj (by omega))
      clear hcell
      go_wp2
      go_ret
      exact ⟨ret_bool HF.out.symm, hb.trans (hb2.mono hb.size)⟩
end Go.Proofs.YtimmoclemcnhnaaDoor

/- The walk of the program's pathRight. -/
namespace Go.Proofs.YtimmoclemcnhnaaDoor
open Go.RowKit

set_option maxRecDepth 10000 in
set_option maxHeartbeats 400000 in
theorem pathRight_any (t : ByteArray) (w : World) :
    Calls Tryd.prog 128 #[.string t] w fun e w' => e = .returned (.bool (pathB t)) ∧ Below w.heap.size w w' := by
  by_cases h1 : t.size < 1
  · have q1 : ((t.size : Int) == 0) = true := by rw [beq_iff_eq]; omega
    go_enter Tryd.func128, Tryd.ntmps128
    go_wp2
    go_ret
    exact ⟨ret_bool (pathB_size (.inl h1)).symm, Below.refl _ _⟩
  have q1 : ((t.size : Int) == 0) = false := by rw [beq_eq_false_iff_ne]; omega
  by_cases h2 : 40 < t.size
  · go_enter Tryd.func128, Tryd.ntmps128
    go_wp2
    go_ret
    exact ⟨ret_bool (pathB_size (.inr h2)).symm, Below.refl _ _⟩
  have q2 : decide ((40 : Int) < (t.size : Int)) = false := by rw [decide_eq_false_iff_not]; omega
  have hp : 0 < t.size := by omega
  by_cases h3 : t[0].toNat = 47
  case neg =>
    have q3 : ((t[0].toNat : Int) != 47) = true := by rw [bne_iff_ne]; omega
    have H3 : Hid (¬ t[0].toNat = 47) := h3
    clear h3
    go_enter Tryd.func128, Tryd.ntmps128
    go_wp2
    go_ret
    exact ⟨ret_bool (pathB_first hp H3.out).symm, Below.refl _ _⟩
  have q3 : ((t[0].toNat : Int) != 47) = false := by rw [bne_eq_false_iff_eq]; omega
  have H3 : Hid (t[0].toNat = 47) := h3
  clear h3
  go_enter Tryd.func128, Tryd.ntmps128
  go_wp2
  go_loopw [4] (fun _ wr => ∃ k : Nat, k ≤ t.size ∧ wr = w.iter t k ∧ Hid (∀ i (h : i < t.size), i < k → pathC t[i].toNat = true)) (fun _ wr => t.size - wr.iterPos w.heap.size)
  case atStart => exact ⟨0, Nat.zero_le _, rfl, fun i _ hi => absurd hi (by omega)⟩
  case round =>
    obtain ⟨k, hk, rfl, HR⟩ := hrel
    by_cases hlt : k < t.size
    · by_cases ha : t[k].toNat < 128
      · have hnx : ∀ ty, (Instr.next (.pointer (some ⟨w.heap.size, 0, none⟩)) true ty).run Tryd.prog (w.iter t k) = _ := fun ty => run_next_ascii w t k ty hlt ha
        by_cases d1 : t[k].toNat < 33
        · go_wp2
          go_ret
          exact ⟨ret_bool (pathB_at k hlt (pathC_no (by omega))).symm, (Below.refl _ _).alloc (Nat.le_refl _) _⟩
        have b1 : decide ((t[k].toNat : Int) < 33) = false := by rw [decide_eq_false_iff_not]; omega
        by_cases d2 : 126 < t[k].toNat
        · go_wp2
          go_ret
          exact ⟨ret_bool (pathB_at k hlt (pathC_no (by omega))).symm, (Below.refl _ _).alloc (Nat.le_refl _) _⟩
        have b2 : decide ((126 : Int) < (t[k].toNat : Int)) = false := by rw [decide_eq_false_iff_not]; omega
        by_cases d3 : t[k].toNat = 63
        · have b3 : ((t[k].toNat : Int) == 63) = true := by rw [beq_iff_eq]; omega
          have D3 : Hid (t[k].toNat = 63) := d3
          clear d3
          go_wp2
          go_ret
          exact ⟨ret_bool (pathB_at k hlt (pathC_no (by have := D3.out; omega))).symm, (Below.refl _ _).alloc (Nat.le_refl _) _⟩
        have b3 : ((t[k].toNat : Int) == 63) = false := by rw [beq_eq_false_iff_ne]; omega
        by_cases d4 : t[k].toNat = 35
        · have b4 : ((t[k].toNat : Int) == 35) = true := by rw [beq_iff_eq]; omega
          have D4 : Hid (t[k].toNat = 35) := d4
          clear d4
          go_wp2
          go_ret
          exact ⟨ret_bool (pathB_at k hlt (pathC_no (by have := D4.out; omega))).symm, (Below.refl _ _).alloc (Nat.le_refl _) _⟩
        have b4 : ((t[k].toNat : Int) == 35) = false := by rw [beq_eq_false_iff_ne]; omega
        by_cases d5 : t[k].toNat = 59
        · have b5 : ((t[k].toNat : Int) == 59) = true := by rw [beq_iff_eq]; omega
          have D5 : Hid (t[k].toNat = 59) := d5
          clear d5
          go_wp2
          go_ret
          exact ⟨ret_bool (pathB_at k hlt (pathC_no (by have := D5.out; omega))).symm, (Below.refl _ _).alloc (Nat.le_refl _) _⟩
        have b5 : ((t[k].toNat : Int) == 59) = false := by rw [beq_eq_false_iff_ne]; omega
        have HC : Hid (pathC t[k].toNat = true) := pathC_yes (by omega)
        clear d3 d4 d5
        go_wp2
        go_roundw
        case rel => exact ⟨k + 1, by omega, rfl, all_succ HR.out hlt HC.out⟩
        case measure => simp; omega
      · have hnx : ∀ ty, (Instr.next (.pointer (some ⟨w.heap.size, 0, none⟩)) true ty).run Tryd.prog (w.iter t k) = _ := fun ty => run_next_any w t k ty hlt
        have hd := (decode_high t k hlt (by omega)).1
        have HK : Hid (pathB t = false) := pathB_at k hlt (pathC_no (by omega))
        generalize Utf8.decode t k = d at *
        obtain ⟨r, n⟩ := d
        have hd2 : 128 ≤ r := hd
        have b1 : decide ((r : Int) < 33) = false := by rw [decide_eq_false_iff_not]; omega
        have b2 : decide ((126 : Int) < (r : Int)) = true := by rw [decide_eq_true_iff]; omega
        clear hd
        go_wp2
        go_ret
        exact ⟨ret_bool HK.out.symm, (Below.refl _ _).alloc (Nat.le_refl _) _⟩
    · have hnx : ∀ ty, (Instr.next (.pointer (some ⟨w.heap.size, 0, none⟩)) true ty).run Tryd.prog (w.iter t k) = _ := fun ty => run_next_end w t k ty hlt
      go_wp2
      go_ret
      exact ⟨ret_bool (pathB_true (by omega) (by omega) (fun _ => H3.out) (fun i h => HR.out i h (by omega))).symm, (Below.refl _ _).alloc (Nat.le_refl _) _⟩
end Go.Proofs.YtimmoclemcnhnaaDoor

/- The walks of the program's pathRight, ownPort, placeRight and UrlRight. -/
namespace Go.Proofs.YtimmoclemcnhnaaDoor
open Go.RowKit


/-- the port of a scheme, 0 of no scheme -/
def ownP (t : ByteArray) : Int := if (t.toList == [104, 116, 116, 112]) = true then 80 else if (t.toList == [104, 116, 116, 112, 115]) = true then 443 else 0
theorem ownP_ne (t : ByteArray) : (ownP t != 0) = schemeB t := by
  unfold ownP schemeB
  cases t.toList == [104, 116, 116, 112] <;> cases t.toList == [104, 116, 116, 112, 115] <;> rfl
theorem ownP_usual {t : ByteArray} (h : schemeB t = true) : ownP t = usualP t := by
  unfold ownP usualP schemeB at *
  cases h1 : t.toList == [104, 116, 116, 112] <;> cases h2 : t.toList == [104, 116, 116, 112, 115] <;> rw [h1, h2] at h
  · cases h
  · rfl
  · rfl
  · rw [beq_iff_eq] at h1 h2; rw [h1] at h2; cases h2

set_option maxRecDepth 10000 in
set_option maxHeartbeats 400000 in
theorem ownPort_any (t : ByteArray) (w : World) :
    Calls Tryd.prog 176 #[.string t] w fun e w' => e = .returned (.int .i64 (ownP t)) ∧ w' = w := by
  unfold ownP
  cases h : (t.toList == [104, 116, 116, 112]) with
  | true =>
    go_enter Tryd.func176, Tryd.ntmps176
    go_wp2
    go_ret
    exact ⟨rfl, rfl⟩
  | false =>
    cases h2 : (t.toList == [104, 116, 116, 112, 115]) with
    | true =>
      go_enter Tryd.func176, Tryd.ntmps176
      go_wp2
      go_ret
      exact ⟨rfl, rfl⟩
    | false =>
      go_enter Tryd.func176, Tryd.ntmps176
      go_wp2
      go_ret
      exact ⟨rfl, rfl⟩

set_option maxRecDepth 10000 in
set_option maxHeartbeats 400000 in
theorem placeRight_any (sc ho : ByteArray) (po : Int) (w : World) (hG : MaxI w) (hh : ho.size ≤ 1048576) :
    Calls Tryd.prog 127 #[.string sc, .string ho, .int .i64 po] w fun e w' => e = .returned (.bool (placeB sc ho po)) ∧ Below w.heap.size w w' := by
  have H1 := fun W => ownPort_any sc W
  have H2 := hostRight_any ho w hG hh
  have HP : Hid (placeB sc ho po = (schemeB sc && hostB ho && (decide (1 ≤ po) && decide (po ≤ 65535)))) := rfl
  have q1 := ownP_ne sc
  generalize schemeB sc = b1 at *
  generalize hostB ho = b2 at *
  generalize ownP sc = op at *
  have G1 : Hid (∀ W, Calls Tryd.prog 176 #[.string sc] W fun e w' => e = .returned (.int .i64 op) ∧ w' = W) := H1
  have G2 : Hid (Calls Tryd.prog 50 #[.string ho] w fun e w' => e = .returned (.bool b2) ∧ Below w.heap.size w w') := H2
  clear H1 H2 hG
  cases b1 with
  | false =>
    go_enter Tryd.func127, Tryd.ntmps127
    go_wp2_with (go_at_call 176; refine (G1.out _).mono ?_; rintro e w1 ⟨rfl, rfl⟩)
    go_ret
    exact ⟨ret_bool (by rw [HP.out]; rfl), Below.refl _ _⟩
  | true =>
    cases b2 with
    | false =>
      go_enter Tryd.func127, Tryd.ntmps127
      go_wp2_with (first | (go_at_call 176; refine (G1.out _).mono ?_; rintro e w1 ⟨rfl, rfl⟩) | (go_at_call 50; refine G2.out.mono ?_; rintro e w2 ⟨rfl, hb⟩))
      go_ret
      exact ⟨ret_bool (by rw [HP.out]; rfl), hb⟩
    | true =>
      by_cases h : 1 ≤ po
      · have q2 : decide (1 ≤ po) = true := by rw [decide_eq_true_iff]; exact h
        go_enter Tryd.func127, Tryd.ntmps127
        go_wp2_with (first | (go_at_call 176; refine (G1.out _).mono ?_; rintro e w1 ⟨rfl, rfl⟩) | (go_at_call 50; refine G2.out.mono ?_; rintro e w2 ⟨rfl, hb⟩))
        go_ret
        exact ⟨ret_bool (by rw [HP.out]; simp [h]), hb⟩
      · have q2 : decide (1 ≤ po) = false := by rw [decide_eq_false_iff_not]; exact h
        go_enter Tryd.func127, Tryd.ntmps127
        go_wp2_with (first | (go_at_call 176; refine (G1.out _).mono ?_; rintro e w1 ⟨rfl, rfl⟩) | (go_at_call 50; refine G2.out.mono ?_; rintro e w2 ⟨rfl, hb⟩))
        go_ret
        exact ⟨ret_bool (by rw [HP.out, q2]; rfl), hb⟩
set_option maxRecDepth 10000 in
set_option maxHeartbeats 400000 in
theorem urlRight_any (sc ho pa : ByteArray) (po : Int) (w : World) (hG : MaxI w) (hh : ho.size ≤ 1048576) :
    Calls Tryd.prog 78 #[urlV sc ho pa po] w fun e w' => e = .returned (.bool (urlB sc ho pa po)) ∧ Below w.heap.size w w' := by
  have H1 := fun W (h : MaxI W) => placeRight_any sc ho po W h hh
  have H2 := fun W => pathRight_any pa W
  have HP : Hid (urlB sc ho pa po = (placeB sc ho po && pathB pa)) := rfl
  have HG : Hid (∀ o, MaxI (w.alloc o)) := fun o => hG.on ((Below.refl _ _).alloc (Nat.le_refl _) _)
  generalize placeB sc ho po = b1 at *
  generalize pathB pa = b2 at *
  have G1 : Hid (∀ W, MaxI W → Calls Tryd.prog 127 #[.string sc, .string ho, .int .i64 po] W fun e w' => e = .returned (.bool b1) ∧ Below W.heap.size W w') := H1
  have G2 : Hid (∀ W, Calls Tryd.prog 128 #[.string pa] W fun e w' => e = .returned (.bool b2) ∧ Below W.heap.size W w') := H2
  clear H1 H2 hG
  unfold urlV
  cases b1 with
  | false =>
    go_enter Tryd.func78, Tryd.ntmps78
    go_wp2_with fail
    refine (G1.out _ (HG.out _)).mono ?_
    rintro e w1 ⟨rfl, hb⟩
    go_wp2
    go_ret
    exact ⟨ret_bool (by rw [HP.out]; rfl), ((Below.refl _ _).alloc (Nat.le_refl _) _).trans (hb.mono (by simp))⟩
  | true =>
    go_enter Tryd.func78, Tryd.ntmps78
    go_wp2_with fail
    refine (G1.out _ (HG.out _)).mono ?_
    rintro e w1 ⟨rfl, hb⟩
    have hc3 : w1.cell? ⟨w.heap.size, 3, none⟩ = some (.string pa) := by rw [(bcell hb).1 _ _ (by simp)]; simp
    have hz1 : w.heap.size < w1.heap.size := by have := hb.size; simp at this; omega
    go_wp2_with (go_at_call 128; refine (G2.out _).mono ?_; rintro e w2 ⟨rfl, hb2⟩)
    go_ret
    exact ⟨ret_bool (by rw [HP.out]; rfl), (((Below.refl _ _).alloc (Nat.le_refl _) _).trans (hb.mono (by simp))).trans (hb2.mono (by omega))⟩
end Go.Proofs.YtimmoclemcnhnaaDoor

/- When a host fits a domain, and a path a prefix: plain facts. -/
namespace Go.Proofs.YtimmoclemcnhnaaDoor

/-- it is the domain, or ends with a point and the domain -/
def fitH (h d : ByteArray) : Bool := (h.toList == d.toList) || Lib.hasSuffix h.data.toList (46 :: d.data.toList)
theorem hasSuf_short {s p : List UInt8} (h : s.length < p.length) : Lib.hasSuffix s p = false := by
  rw [← Lib.hasSuffix_of_drop, decide_eq_false (by omega)]; rfl
theorem fitH_same {h d : ByteArray} (e : (h.toList == d.toList) = true) : fitH h d = true := by unfold fitH; rw [e]; rfl
theorem fitH_short {h d : ByteArray} (e : (h.toList == d.toList) = false) (l : h.size ≤ d.size) : fitH h d = false := by
  unfold fitH
  rw [e, hasSuf_short]; rfl
  rw [List.length_cons, ← Lib.size_eq, ← Lib.size_eq]; omega
theorem fitH_long {h d : ByteArray} {m : Nat} (e : (h.toList == d.toList) = false) (l : h.size = d.size + (m + 1)) (hm : m < h.size) : fitH h d = (((h.extract (m + 1) h.size).toList == d.toList) && ((h[m].toNat : Int) == 46)) := by
  have l1 : h.data.toList.length = d.data.toList.length + (m + 1) := by rw [← Lib.size_eq, ← Lib.size_eq]; exact l
  have hm1 : m < h.data.toList.length := by omega
  unfold fitH
  rw [e, Bool.false_or, ← Lib.hasSuffix_of_drop, List.length_cons, decide_eq_true (by omega), Bool.true_and]
  have e1 : h.data.toList.length - (d.data.toList.length + 1) = m := by omega
  have e2 : (h.extract (m + 1) h.size).toList = h.data.toList.drop (m + 1) := by
    rw [Lib.extract_toList, Lib.size_eq]
    exact List.take_of_length_le (by simp)
  rw [e1, e2, Lib.toList_data, List.drop_eq_getElem_cons hm1, Bool.and_comm]
  have e3 : h.data.toList[m] = h[m] := by rw [Array.getElem_toList]; rfl
  rw [e3]
  show ((h[m] == 46) && _) = _
  congr 1
  rw [Bool.eq_iff_iff, beq_iff_eq, beq_iff_eq]
  constructor
  · intro e; rw [e]; rfl
  · intro e
    apply UInt8.toNat.inj
    have : h[m].toNat = 46 := by omega
    rw [this]; rfl
/-- what the program asks of a host and a domain -/
theorem fitH_prog (h d : ByteArray) : fitH h d = ((h.toList == d.toList) || Lib.hasSuffix h.data.toList ((⟨#[46]⟩ : ByteArray) ++ d).data.toList) := by
  have e : ((⟨#[46]⟩ : ByteArray) ++ d).data.toList = 46 :: d.data.toList := by
    rw [ByteArray.data_append]; simp
  rw [e]; rfl

/-- the byte that stands at a place, or none -/
def byteI (t : ByteArray) (i : Nat) : Option Nat := if h : i < t.size then some t[i].toNat else none
/-- it is the prefix, or begins with it, and the prefix ends with a slash, or the next byte is one -/
def fitP (p q : ByteArray) : Bool := Lib.hasPrefix p.data.toList q.data.toList && (decide (p.size = q.size) || byteI q (q.size - 1) == some 47 || byteI p q.size == some 47)
theorem fitP_no {p q : ByteArray} (h : Lib.hasPrefix p.data.toList q.data.toList = false) : fitP p q = false := by unfold fitP; rw [h]; rfl
theorem fitP_yes {p q : ByteArray} (h : Lib.hasPrefix p.data.toList q.data.toList = true) : fitP p q = (decide (p.size = q.size) || byteI q (q.size - 1) == some 47 || byteI p q.size == some 47) := by unfold fitP; rw [h]; rfl
theorem pre_le {p q : ByteArray} (h : Lib.hasPrefix p.data.toList q.data.toList = true) : q.size ≤ p.size := by
  rw [← Lib.hasPrefix_raw, Bool.and_eq_true, decide_eq_true_eq] at h; exact h.1
theorem pre_cut {p q : ByteArray} (l : q.size ≤ p.size) : ((p.extract 0 q.size).toList == q.toList) = Lib.hasPrefix p.data.toList q.data.toList := by
  rw [← Lib.hasPrefix_raw, decide_eq_true l, Bool.true_and]
theorem pre_short {p q : ByteArray} (l : p.size < q.size) : Lib.hasPrefix p.data.toList q.data.toList = false := by
  rw [← Lib.hasPrefix_raw, decide_eq_false (by omega), Bool.false_and]
theorem byteI_at {t : ByteArray} {i : Nat} (h : i < t.size) : (byteI t i == some 47) = ((t[i].toNat : Int) == 47) := by
  unfold byteI
  rw [dif_pos h, Bool.eq_iff_iff, beq_iff_eq, beq_iff_eq]
  constructor
  · intro e; have := Option.some.inj e; omega
  · intro e; have : t[i].toNat = 47 := by omega
    rw [this]
theorem byteI_suffix {t : ByteArray} (h : 0 < t.size) : (byteI t (t.size - 1) == some 47) = Lib.hasSuffix t.data.toList [47] := by
  have hl : t.size - 1 < t.size := by omega
  have hl2 : t.data.toList.length - 1 < t.data.toList.length := by rw [← Lib.size_eq]; exact hl
  rw [byteI_at hl, ← Lib.hasSuffix_of_drop, List.length_singleton, decide_eq_true (by rw [← Lib.size_eq]; omega), Bool.true_and, List.drop_eq_getElem_cons hl2]
  have e0 : t.data.toList.drop (t.data.toList.length - 1 + 1) = [] := List.drop_eq_nil_of_le (by omega)
  have e3 : t.data.toList[t.data.toList.length - 1] = t[t.size - 1] := by rw [Array.getElem_toList]; rfl
  rw [e0, e3]
  show _ = ((t[t.size - 1] == 47) && (([] : List UInt8) == []))
  rw [Bool.eq_iff_iff]
  simp only [beq_iff_eq, Bool.and_eq_true, and_true, beq_self_eq_true]
  constructor
  · intro e
    apply UInt8.toNat.inj
    have : t[t.size - 1].toNat = 47 := by omega
    rw [this]; rfl
  · intro e; rw [e]; rfl
/-- what is left behind a prefix -/
theorem trim_rest {p q : ByteArray} (h : Lib.hasPrefix p.data.toList q.data.toList = true) : (⟨(Lib.trimPrefix p.data.toList q.data.toList).toArray⟩ : ByteArray) = p.extract q.size p.size := by
  have l := pre_le h
  exact Lib.trimPrefix_hit p q l (by rw [pre_cut l]; exact h)
theorem rest_empty {p q : ByteArray} (l : q.size ≤ p.size) : (p.extract q.size p.size).toList.isEmpty = decide (p.size = q.size) := by
  rw [Lib.extract_toList, Bool.eq_iff_iff, List.isEmpty_iff, decide_eq_true_eq, List.take_eq_nil_iff, List.drop_eq_nil_iff, ← Lib.size_eq]
  omega
theorem rest_slash {p q : ByteArray} (l : q.size ≤ p.size) : Lib.hasPrefix (p.extract q.size p.size).data.toList [47] = (byteI p q.size == some 47) := by
  rw [← Lib.toList_data, Lib.extract_toList, List.take_of_length_le (by simp)]
  unfold Lib.hasPrefix byteI
  by_cases h : q.size < p.size
  · have h2 : q.size < p.data.toList.length := by rw [← Lib.size_eq]; exact h
    have e3 : p.data.toList[q.size] = p[q.size] := by rw [Array.getElem_toList]; rfl
    rw [dif_pos h, List.drop_eq_getElem_cons h2, e3]
    show ((47 == p[q.size]) && true) = _
    rw [Bool.and_true, Bool.eq_iff_iff, beq_iff_eq, beq_iff_eq]
    constructor
    · intro e; rw [← e]; rfl
    · intro e
      apply UInt8.toNat.inj
      rw [Option.some.inj e]; rfl
  · rw [dif_neg h, List.drop_eq_nil_of_le (by rw [← Lib.size_eq]; omega)]; rfl
end Go.Proofs.YtimmoclemcnhnaaDoor

/- The walks of the specification's l06Host, HostFits, l06Path and PathFits. -/
namespace Go.Proofs.YtimmoclemcnhnaaDoor
open Go.RowKit

def hostF (h d : ByteArray) : Bool := hostB h && hostB d && fitH h d

set_option maxRecDepth 10000 in
set_option maxHeartbeats 1000000 in
theorem specL06Host_any (h d : ByteArray) (w : World) (hh : h.size ≤ 1048576) (hd : d.size ≤ 1048576) :
    Calls Tryd.prog 171 #[.string h, .string d] w fun e w' => e = .returned (.bool (fitH h d)) ∧ w' = w := by
  cases he : (h.toList == d.toList) with
  | true =>
    have HQ : Hid (fitH h d = true) := fitH_same he
    go_enter Tryd.func171, Tryd.ntmps171
    go_wp2
    go_ret
    exact ⟨ret_bool HQ.out.symm, rfl⟩
  | false =>
    by_cases hl : h.size ≤ d.size
    · have HQ : Hid (fitH h d = false) := fitH_short he hl
      have q : decide ((0 : Int) < (h.size : Int) - (d.size : Int)) = false := by rw [decide_eq_false_iff_not]; omega
      go_enter Tryd.func171, Tryd.ntmps171
      go_wp2
      go_ret
      exact ⟨ret_bool HQ.out.symm, rfl⟩
    · obtain ⟨m, hm⟩ : ∃ m : Nat, h.size = d.size + (m + 1) := ⟨h.size - d.size - 1, by omega⟩
      have hm1 : m < h.size := by omega
      have HQ : Hid (fitH h d = (((h.extract (m + 1) h.size).toList == d.toList) && ((h[m].toNat : Int) == 46))) := fitH_long he hm hm1
      have hn : (h.size : Int) - (d.size : Int) = (m : Int) + 1 := by omega
      generalize fitH h d = R at *
      cases hx : ((h.extract (m + 1) h.size).toList == d.toList) with
      | false =>
        have HZ : Hid (R = false) := by show _ = _; rw [HQ.out, hx]; rfl
        clear HQ hm
        go_enter Tryd.func171, Tryd.ntmps171
        go_wp2
        go_ret
        exact ⟨ret_bool HZ.out.symm, rfl⟩
      | true =>
        have HZ : Hid (R = ((h[m].toNat : Int) == 46)) := by show _ = _; rw [HQ.out, hx]; rfl
        clear HQ hm
        go_enter Tryd.func171, Tryd.ntmps171
        go_wp2
        go_ret
        exact ⟨ret_bool HZ.out.symm, rfl⟩


end Go.Proofs.YtimmoclemcnhnaaDoor

/- The walks of the program's HostFits and PathFits. -/
namespace Go.Proofs.YtimmoclemcnhnaaDoor
open Go.RowKit

/-- it ends with a point and the domain -/
def dotEnd (h d : ByteArray) : Bool := Lib.hasSuffix h.data.toList ((⟨#[46]⟩ : ByteArray) ++ d).data.toList
theorem suffix_call (s p : ByteArray) (W : World) (hs : s.size ≤ 9223372036854775807) : Calls Tryd.prog 69 #[.string s, .string p] W fun e w' => e = .returned (.bool (Lib.hasSuffix s.data.toList p.data.toList)) ∧ w' = W :=
  Any.strings_HasSuffix Tryd.lays100 s p W hs
theorem dotEnd_call (h d : ByteArray) (W : World) (hh : h.size ≤ 1048576) : Calls Tryd.prog 69 #[.string h, .string (⟨#[46]⟩ ++ d)] W fun e w' => e = .returned (.bool (dotEnd h d)) ∧ w' = W := by
  have h1 := suffix_call h (⟨#[46]⟩ ++ d) W (by omega)
  unfold dotEnd
  exact h1
theorem hostF_prog (h d : ByteArray) : hostF h d = (hostB h && hostB d && ((h.toList == d.toList) || dotEnd h d)) := by
  unfold dotEnd hostF
  rw [← fitH_prog]
set_option maxRecDepth 10000 in
set_option maxHeartbeats 1000000 in
theorem hostFits_any (h d : ByteArray) (w : World) (hG : MaxI w) (hh : h.size ≤ 1048576) (hd : d.size ≤ 1048576) :
    Calls Tryd.prog 22 #[.string h, .string d] w fun e w' => e = .returned (.bool (hostF h d)) ∧ Below w.heap.size w w' := by
  have K1 : Hid (∀ W, Below w.heap.size w W → Calls Tryd.prog 50 #[.string h] W fun e w' => e = .returned (.bool (hostB h)) ∧ Below W.heap.size W w') := fun W hb => hostRight_any h W (hG.on hb) hh
  have K2 : Hid (∀ W, Below w.heap.size w W → Calls Tryd.prog 50 #[.string d] W fun e w' => e = .returned (.bool (hostB d)) ∧ Below W.heap.size W w') := fun W hb => hostRight_any d W (hG.on hb) hd
  have K3 : Hid (∀ W, Calls Tryd.prog 69 #[.string h, .string (⟨#[46]⟩ ++ d)] W fun e w' => e = .returned (.bool (dotEnd h d)) ∧ w' = W) := fun W => dotEnd_call h d W hh
  have HE : Hid (hostF h d = (hostB h && hostB d && ((h.toList == d.toList) || dotEnd h d))) := hostF_prog h d
  clear hG
  generalize hostF h d = R at *
  generalize hostB h = b1 at *
  generalize hostB d = b2 at *
  generalize dotEnd h d = b3 at *
  go_enter Tryd.func22, Tryd.ntmps22
  go_wp2_with fail
  refine (K1.out _ (Below.refl _ _)).mono ?_
  rintro e w1 ⟨rfl, hb1⟩
  cases b1 with
  | false =>
    go_wp2
    go_ret
    exact ⟨ret_bool (by rw [HE.out]; rfl), hb1⟩
  | true =>
    go_wp2_with fail
    refine (K2.out _ hb1).mono ?_
    rintro e w2 ⟨rfl, hb2⟩
    have B2 : Hid (Below w.heap.size w w2) := hb1.trans (hb2.mono hb1.size)
    clear hb1 hb2
    cases b2 with
    | false =>
      go_wp2
      go_ret
      exact ⟨ret_bool (by rw [HE.out]; rfl), B2.out⟩
    | true =>
      cases he : (h.toList == d.toList) with
      | true =>
        have HZ : Hid (R = true) := by show _ = _; rw [HE.out, he]; rfl
        clear HE
        go_wp2
        go_ret
        exact ⟨ret_bool HZ.out.symm, B2.out⟩
      | false =>
        have HZ : Hid (R = b3) := by show _ = _; rw [HE.out, he]; rfl
        clear HE
        go_wp2_with fail
        refine (K3.out _).mono ?_
        rintro e w3 ⟨rfl, rfl⟩
        go_wp2
        go_ret
        exact ⟨ret_bool HZ.out.symm, B2.out⟩

end Go.Proofs.YtimmoclemcnhnaaDoor

/- The walks of the specification's l06Path and PathFits. -/
namespace Go.Proofs.YtimmoclemcnhnaaDoor
open Go.RowKit

def pathF (p q : ByteArray) : Bool := pathB p && pathB q && fitP p q
set_option maxRecDepth 10000 in
set_option maxHeartbeats 1000000 in
theorem specL06Path_any (p q : ByteArray) (w : World) (hq : 0 < q.size) (hq2 : q.size ≤ 1048576) :
    Calls Tryd.prog 172 #[.string p, .string q] w fun e w' => e = .returned (.bool (fitP p q)) ∧ w' = w := by
  by_cases hl : p.size < q.size
  · have HQ : Hid (fitP p q = false) := fitP_no (pre_short hl)
    go_enter Tryd.func172, Tryd.ntmps172
    go_wp2
    go_ret
    exact ⟨ret_bool HQ.out.symm, rfl⟩
  have q0 : decide ((p.size : Int) < (q.size : Int)) = false := by rw [decide_eq_false_iff_not]; omega
  have hcut := pre_cut (p := p) (q := q) (by omega)
  cases hx : Lib.hasPrefix p.data.toList q.data.toList with
  | false =>
    have HQ : Hid (fitP p q = false) := fitP_no hx
    have q1 : ((p.extract 0 q.size).toList == q.toList) = false := by rw [hcut, hx]
    clear hx hcut
    go_enter Tryd.func172, Tryd.ntmps172
    go_wp2
    go_ret
    exact ⟨ret_bool HQ.out.symm, rfl⟩
  | true =>
    have HQ0 := fitP_yes hx
    have q1 : ((p.extract 0 q.size).toList == q.toList) = true := by rw [hcut, hx]
    clear hx hcut
    obtain ⟨m, hm⟩ : ∃ m : Nat, q.size = m + 1 := ⟨q.size - 1, by omega⟩
    have hm1 : m < q.size := by omega
    have e1 : q.size - 1 = m := by omega
    have hn : (q.size : Int) - 1 = (m : Int) := by omega
    rw [e1, byteI_at hm1] at HQ0
    clear hm e1
    by_cases hs : p.size = q.size
    · have HQ : Hid (fitP p q = true) := by show _ = _; rw [HQ0, decide_eq_true hs]; rfl
      have q2 : ((p.size : Int) == (q.size : Int)) = true := by rw [beq_iff_eq]; omega
      clear HQ0 hs
      go_enter Tryd.func172, Tryd.ntmps172
      go_wp2
      go_ret
      exact ⟨ret_bool HQ.out.symm, rfl⟩
    · have hlt : q.size < p.size := by omega
      have q2 : ((p.size : Int) == (q.size : Int)) = false := by rw [beq_eq_false_iff_ne]; omega
      rw [decide_eq_false hs, Bool.false_or, byteI_at hlt] at HQ0
      have HQ : Hid (fitP p q = (((q[m].toNat : Int) == 47) || ((p[q.size].toNat : Int) == 47))) := HQ0
      clear HQ0 hs
      generalize fitP p q = R at *
      cases h47 : ((q[m].toNat : Int) == 47) with
      | true =>
        have HZ : Hid (R = true) := by show _ = _; rw [HQ.out, h47]; rfl
        clear HQ
        go_enter Tryd.func172, Tryd.ntmps172
        go_wp2
        go_ret
        exact ⟨ret_bool HZ.out.symm, rfl⟩
      | false =>
        have HZ : Hid (R = ((p[q.size].toNat : Int) == 47)) := by show _ = _; rw [HQ.out, h47]; rfl
        clear HQ
        go_enter Tryd.func172, Tryd.ntmps172
        go_wp2
        go_ret
        exact ⟨ret_bool HZ.out.symm, rfl⟩

theorem pathB_pos {t : ByteArray} (h : pathB t = true) : 0 < t.size ∧ t.size ≤ 40 := by
  unfold pathB at h; rw [decide_eq_true_eq] at h; omega

end Go.Proofs.YtimmoclemcnhnaaDoor

/- The walk of the program's PathFits. -/
namespace Go.Proofs.YtimmoclemcnhnaaDoor
open Go.RowKit

theorem fitP_prog {p q : ByteArray} (hq : 0 < q.size) (h : Lib.hasPrefix p.data.toList q.data.toList = true) :
    fitP p q = ((p.extract q.size p.size).toList.isEmpty || Lib.hasSuffix q.data.toList [47] || Lib.hasPrefix (p.extract q.size p.size).data.toList [47]) := by
  have l := pre_le h
  rw [fitP_yes h, rest_empty l, rest_slash l, ← byteI_suffix hq]

set_option maxRecDepth 10000 in
set_option maxHeartbeats 1000000 in
theorem pathFits_any (p q : ByteArray) (w : World) :
    Calls Tryd.prog 177 #[.string p, .string q] w fun e w' => e = .returned (.bool (pathF p q)) ∧ Below w.heap.size w w' := by
  have K1 : Hid (∀ W, Calls Tryd.prog 128 #[.string p] W fun e w' => e = .returned (.bool (pathB p)) ∧ Below W.heap.size W w') := fun W => pathRight_any p W
  have K2 : Hid (∀ W, Calls Tryd.prog 128 #[.string q] W fun e w' => e = .returned (.bool (pathB q)) ∧ Below W.heap.size W w') := fun W => pathRight_any q W
  have K3 : Hid (∀ W, Calls Tryd.prog 64 #[.string p, .string q] W fun e w' => e = .returned (.tuple #[.string ⟨(Lib.trimPrefix p.data.toList q.data.toList).toArray⟩, .bool (Lib.hasPrefix p.data.toList q.data.toList)]) ∧ w' = W) := fun W => Any.strings_CutPrefix Tryd.lays103 p q W
  have K4 : Hid (pathB q = true → ∀ W, Calls Tryd.prog 69 #[.string q, .string ⟨#[47]⟩] W fun e w' => e = .returned (.bool (Lib.hasSuffix q.data.toList [47])) ∧ w' = W) := fun a W => Any.strings_HasSuffix Tryd.lays100 q ⟨#[47]⟩ W (by have := pathB_pos a; omega)
  have K5 : Hid (∀ s W, Calls Tryd.prog 208 #[.string s, .string ⟨#[47]⟩] W fun e w' => e = .returned (.bool (Lib.hasPrefix s.data.toList [47])) ∧ w' = W) := fun s W => Any.strings_HasPrefix Tryd.lays99 s ⟨#[47]⟩ W
  have HE : Hid (pathF p q = (pathB p && pathB q && fitP p q)) := rfl
  have HP : Hid (pathB q = true → 0 < q.size) := fun a => (pathB_pos a).1
  have HF : Hid (0 < q.size → Lib.hasPrefix p.data.toList q.data.toList = true → fitP p q = ((p.extract q.size p.size).toList.isEmpty || Lib.hasSuffix q.data.toList [47] || Lib.hasPrefix (p.extract q.size p.size).data.toList [47])) := fun a b => fitP_prog a b
  have HN : Hid (Lib.hasPrefix p.data.toList q.data.toList = false → fitP p q = false) := fun a => fitP_no a
  have HT : Hid (Lib.hasPrefix p.data.toList q.data.toList = true → (⟨(Lib.trimPrefix p.data.toList q.data.toList).toArray⟩ : ByteArray) = p.extract q.size p.size) := fun a => trim_rest a
  generalize pathF p q = R at *
  generalize pathB p = b1 at *
  generalize pathB q = b2 at *
  generalize fitP p q = b3 at *
  generalize (⟨(Lib.trimPrefix p.data.toList q.data.toList).toArray⟩ : ByteArray) = t at *
  generalize Lib.hasSuffix q.data.toList [47] = b5 at *
  generalize Lib.hasPrefix p.data.toList q.data.toList = b4 at *
  go_enter Tryd.func177, Tryd.ntmps177
  go_wp2_with fail
  refine (K1.out _).mono ?_
  rintro e w1 ⟨rfl, hb1⟩
  cases b1 with
  | false =>
    go_wp2
    go_ret
    exact ⟨ret_bool (by rw [HE.out]; rfl), hb1⟩
  | true =>
    go_wp2_with fail
    refine (K2.out _).mono ?_
    rintro e w2 ⟨rfl, hb2⟩
    have B2 : Hid (Below w.heap.size w w2) := hb1.trans (hb2.mono hb1.size)
    clear hb1 hb2
    cases b2 with
    | false =>
      go_wp2
      go_ret
      exact ⟨ret_bool (by rw [HE.out]; rfl), B2.out⟩
    | true =>
      have hq0 := HP.out rfl
      have K4b : Hid (∀ W, Calls Tryd.prog 69 #[.string q, .string ⟨#[47]⟩] W fun e w' => e = .returned (.bool b5) ∧ w' = W) := K4.out rfl
      clear K4
      go_wp2_with fail
      refine (K3.out _).mono ?_
      rintro e w3 ⟨rfl, rfl⟩
      cases b4 with
      | false =>
        have HZ : Hid (R = false) := by show _ = _; rw [HE.out, HN.out rfl]; rfl
        go_wp2
        go_ret
        exact ⟨ret_bool HZ.out.symm, B2.out⟩
      | true =>
        have HF2 := HF.out hq0 rfl
        rw [← HT.out rfl] at HF2
        have HZ : Hid (R = (t.toList.isEmpty || b5 || Lib.hasPrefix t.data.toList [47])) := by show _ = _; rw [HE.out, HF2]; rfl
        have K6 : Hid (∀ W, Calls Tryd.prog 208 #[.string t, .string ⟨#[47]⟩] W fun e w' => e = .returned (.bool (Lib.hasPrefix t.data.toList [47])) ∧ w' = W) := K5.out t
        clear HE HF HN HT HF2 K1 K2 K3 K5 HP
        generalize Lib.hasPrefix t.data.toList [47] = b6 at *
        cases he : t.toList.isEmpty with
        | true =>
          go_wp2
          go_ret
          exact ⟨ret_bool (by rw [HZ.out, he]; rfl), B2.out⟩
        | false =>
          go_wp2_with fail
          refine (K4b.out _).mono ?_
          rintro e w4 ⟨rfl, rfl⟩
          cases b5 with
          | true =>
            go_wp2
            go_ret
            exact ⟨ret_bool (by rw [HZ.out, he]; rfl), B2.out⟩
          | false =>
            go_wp2_with fail
            refine (K6.out _).mono ?_
            rintro e w5 ⟨rfl, rfl⟩
            go_wp2
            go_ret
            exact ⟨ret_bool (by rw [HZ.out, he]; rfl), B2.out⟩
end Go.Proofs.YtimmoclemcnhnaaDoor

/- The walk of the program's request.isFor. -/
namespace Go.Proofs.YtimmoclemcnhnaaDoor
open Go.RowKit

def httpsW : ByteArray := ⟨#[104, 116, 116, 112, 115]⟩
/-- not for another host, and by https where it must -/
def mayB (c : Ck) (sc uh : ByteArray) : Bool := !((c.al && !(c.ho.toList == uh.toList)) || (c.se && !(sc.toList == [104, 116, 116, 112, 115])))
/-- it goes where the cookie is for -/
def forB (c : Ck) (sc uh up : ByteArray) : Bool := mayB c sc uh && (hostF uh c.ho && pathF up c.pa)
set_option maxRecDepth 10000 in
set_option maxHeartbeats 4000000 in
theorem isFor_any (sc uh : ByteArray) (po : Int) (up part : ByteArray) (wide near : Bool) (now : Int) (c : Ck) (w : World) (hG : MaxI w) (h1 : uh.size ≤ 1048576) (h2 : c.ho.size ≤ 1048576) :
    Calls Tryd.prog 129 #[rqV sc uh po up part wide near now, ckV c] w fun e w' => e = .returned (.bool (forB c sc uh up)) ∧ Below w.heap.size w w' := by
  have KH : Hid (∀ W, Below w.heap.size w W → Calls Tryd.prog 22 #[.string uh, .string c.ho] W fun e w' => e = .returned (.bool (hostF uh c.ho)) ∧ Below W.heap.size W w') := fun W hb => hostFits_any uh c.ho W (hG.on hb) h1 h2
  have KP : Hid (∀ W, Calls Tryd.prog 177 #[.string up, .string c.pa] W fun e w' => e = .returned (.bool (pathF up c.pa)) ∧ Below W.heap.size W w') := fun W => pathFits_any up c.pa W
  have HN : Hid (forB c sc uh up = (mayB c sc uh && (hostF uh c.ho && pathF up c.pa))) := rfl
  have HM : Hid (mayB c sc uh = !((c.al && !(c.ho.toList == uh.toList)) || (c.se && !(sc.toList == [104, 116, 116, 112, 115])))) := rfl
  have HB : Hid (∀ x y : Obj, Below w.heap.size w ((w.alloc x).alloc y)) := fun x y => ((Below.refl _ _).alloc (Nat.le_refl _) _).alloc (by simp) _
  clear hG h1 h2
  generalize forB c sc uh up = R at *
  generalize mayB c sc uh = mb at *
  obtain ⟨na, va, ho, al, pa, se, mo, pt, un, ma⟩ := c
  unfold ckV rqV
  dsimp only at HN HM KH KP ⊢
  generalize hostF uh ho = bh at *
  generalize pathF up pa = bp at *
  cases e1 : (ho.toList == uh.toList) <;> cases e2 : (sc.toList == [104, 116, 116, 112, 115]) <;> cases al <;> cases se
  all_goals
    rw [e1, e2] at HM
    first
    | (have hm : mb = false := HM.out
       have HR : Hid (R = false) := by show _ = _; rw [HN.out, hm]; rfl
       clear HN HM hm
       go_enter Tryd.func129, Tryd.ntmps129
       go_wp2
       go_ret
       exact ⟨ret_bool HR.out.symm, HB.out _ _⟩)
    | (have hm : mb = true := HM.out
       have HR : Hid (R = (bh && bp)) := by show _ = _; rw [HN.out, hm]; rfl
       clear HN HM hm
       go_enter Tryd.func129, Tryd.ntmps129
       go_wp2_with fail
       refine (KH.out _ (HB.out _ _)).mono ?_
       rintro e w1 ⟨rfl, hb1⟩
       have B1 : Hid (Below w.heap.size w w1) := (HB.out _ _).trans (hb1.mono (HB.out _ _).size)
       have c3 : w1.cell? ⟨w.heap.size, 3, none⟩ = some (.string up) := ((bcell hb1).1 _ _ (by simp; omega)).trans (by simp)
       have c4 : w1.cell? ⟨w.heap.size + 1, 4, none⟩ = some (.string pa) := ((bcell hb1).1 _ _ (by simp)).trans ((World.cell?_alloc_at _ _ _ _ (by simp)).trans rfl)
       clear hb1
       cases bh with
       | false =>
         have HR1 : Hid (R = false) := HR.out
         go_wp2
         go_ret
         exact ⟨ret_bool HR1.out.symm, B1.out⟩
       | true =>
         have HR1 : Hid (R = bp) := HR.out
         go_wp2_with fail
         refine (KP.out _).mono ?_
         rintro e w2 ⟨rfl, hb2⟩
         go_wp2
         go_ret
         exact ⟨ret_bool HR1.out.symm, B1.out.trans (hb2.mono B1.out.size)⟩)
end Go.Proofs.YtimmoclemcnhnaaDoor

/- The walks of the program's moment.ends (as ImplEnds has it) and request.takes. -/
namespace Go.Proofs.YtimmoclemcnhnaaDoor
open Go.RowKit

set_option maxRecDepth 10000 in
set_option maxHeartbeats 1000000 in
theorem ends_now (now : Int) (c : Ck) (w : World) :
    Calls Tryd.prog 131 #[.int .i64 now, ckV c] w fun e w' => e = .returned (.bool (!(liveB now c))) ∧ Below w.heap.size w w' := by
  have HE : Hid (liveB now c = ((c.un == 0) || decide (now < c.un))) := rfl
  generalize liveB now c = R at *
  obtain ⟨na, va, ho, al, pa, se, mo, pt, un, ma⟩ := c
  unfold ckV
  dsimp only at HE ⊢
  by_cases hu : un = 0
  · have qu : (un == 0) = true := by rw [hu]; rfl
    have qn : (un != 0) = false := by rw [hu]; rfl
    have HR : Hid (R = true) := by show _ = _; rw [HE.out, qu]; rfl
    clear hu
    go_enter Tryd.func131, Tryd.ntmps131
    go_wp2
    go_ret
    exact ⟨ret_bool (by rw [HR.out]; rfl), (Below.refl _ _).alloc (Nat.le_refl _) _⟩
  · have qu : (un == 0) = false := by rw [beq_eq_false_iff_ne]; exact hu
    have qn : (un != 0) = true := by rw [bne_iff_ne]; exact hu
    have HR : Hid (R = decide (now < un)) := by show _ = _; rw [HE.out, qu]; rfl
    have HX : Hid ((!decide (now < un)) = decide (un ≤ now)) := by
      show _ = _
      by_cases h : now < un
      · rw [decide_eq_true h, decide_eq_false (by omega)]; rfl
      · rw [decide_eq_false h, decide_eq_true (by omega)]; rfl
    clear hu
    go_enter Tryd.func131, Tryd.ntmps131
    go_wp2
    go_ret
    exact ⟨ret_bool (by rw [HR.out, HX.out]), (Below.refl _ _).alloc (Nat.le_refl _) _⟩
/-- it goes along -/
def goB (c : Ck) (sc uh up part : ByteArray) (wide near : Bool) (now : Int) : Bool := forB c sc uh up && reachB c part wide near && liveB now c
set_option maxRecDepth 10000 in
set_option maxHeartbeats 4000000 in
theorem takes_any (sc uh : ByteArray) (po : Int) (up part : ByteArray) (wide near : Bool) (now : Int) (c : Ck) (w : World) (hG : MaxI w) (h1 : uh.size ≤ 1048576) (h2 : c.ho.size ≤ 1048576) :
    Calls Tryd.prog 81 #[rqV sc uh po up part wide near now, ckV c] w fun e w' => e = .returned (.bool (goB c sc uh up part wide near now)) ∧ Below w.heap.size w w' := by
  have K1 : Hid (∀ W, Below w.heap.size w W → Calls Tryd.prog 129 #[rqV sc uh po up part wide near now, ckV c] W fun e w' => e = .returned (.bool (forB c sc uh up)) ∧ Below W.heap.size W w') := fun W hb => isFor_any sc uh po up part wide near now c W (hG.on hb) h1 h2
  have K2 : Hid (∀ W, Calls Tryd.prog 130 #[rqV sc uh po up part wide near now, ckV c] W fun e w' => e = .returned (.bool (reachB c part wide near)) ∧ Below W.heap.size W w') := fun W => reaches_any sc uh po up part wide near now c W
  have K3 : Hid (∀ W, Calls Tryd.prog 131 #[.int .i64 now, ckV c] W fun e w' => e = .returned (.bool (!(liveB now c))) ∧ Below W.heap.size W w') := fun W => ends_now now c W
  have HN : Hid (goB c sc uh up part wide near now = (forB c sc uh up && reachB c part wide near && liveB now c)) := rfl
  clear hG h1 h2
  generalize goB c sc uh up part wide near now = R at *
  generalize forB c sc uh up = b1 at *
  generalize reachB c part wide near = b2 at *
  generalize liveB now c = b3 at *
  obtain ⟨na, va, ho, al, pa, se, mo, pt, un, ma⟩ := c
  unfold ckV rqV at *
  dsimp only at K1 K2 K3 ⊢
  obtain ⟨W0, hW⟩ : ∃ W0, W0 = (w.alloc (.cells #[.string sc, .string uh, .int .i64 po, .string up, .string part, .bool wide, .bool near, .int .i64 now] 94)).alloc (.cells #[.string na, .string va, .string ho, .bool al, .string pa, .bool se, .int .i64 mo, .string pt, .int .i64 un, .int .i64 ma] 90) := ⟨_, rfl⟩
  have hW0 : Hid (W0 = (w.alloc (.cells #[.string sc, .string uh, .int .i64 po, .string up, .string part, .bool wide, .bool near, .int .i64 now] 94)).alloc (.cells #[.string na, .string va, .string ho, .bool al, .string pa, .bool se, .int .i64 mo, .string pt, .int .i64 un, .int .i64 ma] 90)) := hW
  have B0 : Hid (Below w.heap.size w W0) := by
    show Below _ _ _
    rw [hW]; exact ((Below.refl _ _).alloc (Nat.le_refl _) _).alloc (by simp) _
  have r0 : W0.cell? ⟨w.heap.size, 0, none⟩ = some (.string sc) := by rw [hW]; simp
  have r1 : W0.cell? ⟨w.heap.size, 1, none⟩ = some (.string uh) := by rw [hW]; simp
  have r2 : W0.cell? ⟨w.heap.size, 2, none⟩ = some (.int .i64 po) := by rw [hW]; simp
  have r3 : W0.cell? ⟨w.heap.size, 3, none⟩ = some (.string up) := by rw [hW]; simp
  have r4 : W0.cell? ⟨w.heap.size, 4, none⟩ = some (.string part) := by rw [hW]; simp
  have r5 : W0.cell? ⟨w.heap.size, 5, none⟩ = some (.bool wide) := by rw [hW]; simp
  have r6 : W0.cell? ⟨w.heap.size, 6, none⟩ = some (.bool near) := by rw [hW]; simp
  have r7 : W0.cell? ⟨w.heap.size, 7, none⟩ = some (.int .i64 now) := by rw [hW]; simp
  have c0 : W0.cell? ⟨w.heap.size + 1, 0, none⟩ = some (.string na) := by rw [hW]; exact (World.cell?_alloc_at _ _ _ _ (by simp)).trans rfl
  have c1 : W0.cell? ⟨w.heap.size + 1, 1, none⟩ = some (.string va) := by rw [hW]; exact (World.cell?_alloc_at _ _ _ _ (by simp)).trans rfl
  have c2 : W0.cell? ⟨w.heap.size + 1, 2, none⟩ = some (.string ho) := by rw [hW]; exact (World.cell?_alloc_at _ _ _ _ (by simp)).trans rfl
  have c3 : W0.cell? ⟨w.heap.size + 1, 3, none⟩ = some (.bool al) := by rw [hW]; exact (World.cell?_alloc_at _ _ _ _ (by simp)).trans rfl
  have c4 : W0.cell? ⟨w.heap.size + 1, 4, none⟩ = some (.string pa) := by rw [hW]; exact (World.cell?_alloc_at _ _ _ _ (by simp)).trans rfl
  have c5 : W0.cell? ⟨w.heap.size + 1, 5, none⟩ = some (.bool se) := by rw [hW]; exact (World.cell?_alloc_at _ _ _ _ (by simp)).trans rfl
  have c6 : W0.cell? ⟨w.heap.size + 1, 6, none⟩ = some (.int .i64 mo) := by rw [hW]; exact (World.cell?_alloc_at _ _ _ _ (by simp)).trans rfl
  have c7 : W0.cell? ⟨w.heap.size + 1, 7, none⟩ = some (.string pt) := by rw [hW]; exact (World.cell?_alloc_at _ _ _ _ (by simp)).trans rfl
  have c8 : W0.cell? ⟨w.heap.size + 1, 8, none⟩ = some (.int .i64 un) := by rw [hW]; exact (World.cell?_alloc_at _ _ _ _ (by simp)).trans rfl
  have c9 : W0.cell? ⟨w.heap.size + 1, 9, none⟩ = some (.int .i64 ma) := by rw [hW]; exact (World.cell?_alloc_at _ _ _ _ (by simp)).trans rfl
  have z0 : w.heap.size < W0.heap.size := by rw [hW]; simp; omega
  have z1 : w.heap.size + 1 < W0.heap.size := by rw [hW]; simp
  clear hW
  go_enter Tryd.func81, Tryd.ntmps81
  go_upto_region 1 with fail
  rw [← hW0.out]
  clear hW0
  go_wp2_with fail
  refine (K1.out _ B0.out).mono ?_
  rintro e w1 ⟨rfl, hb1⟩
  have B1 : Hid (Below w.heap.size w w1) := B0.out.trans (hb1.mono B0.out.size)
  cases b1 with
  | false =>
    have HR : Hid (R = false) := by show _ = _; rw [HN.out]; rfl
    clear hb1
    go_wp2
    go_ret
    exact ⟨ret_bool HR.out.symm, B1.out⟩
  | true =>
  have dr0 := ((bcell hb1).1 _ _ z0).trans r0
  have dr1 := ((bcell hb1).1 _ _ z0).trans r1
  have dr2 := ((bcell hb1).1 _ _ z0).trans r2
  have dr3 := ((bcell hb1).1 _ _ z0).trans r3
  have dr4 := ((bcell hb1).1 _ _ z0).trans r4
  have dr5 := ((bcell hb1).1 _ _ z0).trans r5
  have dr6 := ((bcell hb1).1 _ _ z0).trans r6
  have dr7 := ((bcell hb1).1 _ _ z0).trans r7
  have dc0 := ((bcell hb1).1 _ _ z1).trans c0
  have dc1 := ((bcell hb1).1 _ _ z1).trans c1
  have dc2 := ((bcell hb1).1 _ _ z1).trans c2
  have dc3 := ((bcell hb1).1 _ _ z1).trans c3
  have dc4 := ((bcell hb1).1 _ _ z1).trans c4
  have dc5 := ((bcell hb1).1 _ _ z1).trans c5
  have dc6 := ((bcell hb1).1 _ _ z1).trans c6
  have dc7 := ((bcell hb1).1 _ _ z1).trans c7
  have dc8 := ((bcell hb1).1 _ _ z1).trans c8
  have dc9 := ((bcell hb1).1 _ _ z1).trans c9
  have y0 : w.heap.size < w1.heap.size := Nat.lt_of_lt_of_le z0 hb1.size
  have y1 : w.heap.size + 1 < w1.heap.size := Nat.lt_of_lt_of_le z1 hb1.size
  clear hb1 B0 K1 r0 r1 r2 r3 r4 r5 r6 r7 c0 c1 c2 c3 c4 c5 c6 c7 c8 c9
  go_wp2_with fail
  refine (K2.out _).mono ?_
  rintro e w2 ⟨rfl, hb2⟩
  have B2 : Hid (Below w.heap.size w w2) := B1.out.trans (hb2.mono B1.out.size)
  cases b2 with
  | false =>
    have HR : Hid (R = false) := by show _ = _; rw [HN.out]; rfl
    clear hb2
    go_wp2
    go_ret
    exact ⟨ret_bool HR.out.symm, B2.out⟩
  | true =>
  have er0 := ((bcell hb2).1 _ _ y0).trans dr0
  have er1 := ((bcell hb2).1 _ _ y0).trans dr1
  have er2 := ((bcell hb2).1 _ _ y0).trans dr2
  have er3 := ((bcell hb2).1 _ _ y0).trans dr3
  have er4 := ((bcell hb2).1 _ _ y0).trans dr4
  have er5 := ((bcell hb2).1 _ _ y0).trans dr5
  have er6 := ((bcell hb2).1 _ _ y0).trans dr6
  have er7 := ((bcell hb2).1 _ _ y0).trans dr7
  have ec0 := ((bcell hb2).1 _ _ y1).trans dc0
  have ec1 := ((bcell hb2).1 _ _ y1).trans dc1
  have ec2 := ((bcell hb2).1 _ _ y1).trans dc2
  have ec3 := ((bcell hb2).1 _ _ y1).trans dc3
  have ec4 := ((bcell hb2).1 _ _ y1).trans dc4
  have ec5 := ((bcell hb2).1 _ _ y1).trans dc5
  have ec6 := ((bcell hb2).1 _ _ y1).trans dc6
  have ec7 := ((bcell hb2).1 _ _ y1).trans dc7
  have ec8 := ((bcell hb2).1 _ _ y1).trans dc8
  have ec9 := ((bcell hb2).1 _ _ y1).trans dc9
  clear hb2 K2 B1 dr0 dr1 dr2 dr3 dr4 dr5 dr6 dr7 dc0 dc1 dc2 dc3 dc4 dc5 dc6 dc7 dc8 dc9
  have HR : Hid (R = b3) := by show _ = _; rw [HN.out]; rfl
  go_wp2_with fail
  refine (K3.out _).mono ?_
  rintro e w3 ⟨rfl, hb3⟩
  have B3 : Hid (Below w.heap.size w w3) := B2.out.trans (hb3.mono B2.out.size)
  clear hb3
  have HNN : Hid ((!(!b3)) = R) := by show _ = _; rw [HR.out, Bool.not_not]
  cases b3
  all_goals
    go_wp2
    go_ret
    exact ⟨ret_bool HR.out.symm, B3.out⟩
end Go.Proofs.YtimmoclemcnhnaaDoor

/- The walks of the program's cookiePlaceOf and cookiePlace.has, and of the library's IndexFunc and ContainsFunc over it. Written by implplace.py. -/
namespace Go.Proofs.YtimmoclemcnhnaaDoor
open Go.RowKit

/-- a cookie's place, as a value -/
def placeV (c : Ck) : Value := .agg #[.string c.ho, .bool c.al, .string c.pa, .string c.pt, .string c.na]
theorem beq_turn {α : Type} [BEq α] [LawfulBEq α] (a b : α) : (a == b) = (b == a) := by
  rw [Bool.eq_iff_iff, beq_iff_eq, beq_iff_eq]; exact eq_comm
theorem sameK_comm (a b : Ck) : sameK a b = sameK b a := by
  unfold sameK
  rw [beq_turn a.ho.toList, beq_turn a.al, beq_turn a.pa.toList, beq_turn a.pt.toList, beq_turn a.na.toList]
set_option maxRecDepth 10000 in
set_option maxHeartbeats 1000000 in
theorem placeOf_any (c : Ck) (w : World) :
    Calls Tryd.prog 125 #[ckV c] w fun e w' => e = .returned (placeV c) ∧ Below w.heap.size w w' := by
  obtain ⟨na, va, ho, al, pa, se, mo, pt, un, ma⟩ := c
  unfold ckV placeV
  dsimp only
  go_enter Tryd.func125, Tryd.ntmps125
  go_wp2
  exact bodyPost_ret (v := .agg #[.string ho, .bool al, .string pa, .string pt, .string na]) (by simp [results, Tryd.results125, go_sem]) rfl ⟨rfl, ((Below.refl _ _).alloc (Nat.le_refl _) _).alloc (by simp) _⟩
set_option maxRecDepth 10000 in
set_option maxHeartbeats 4000000 in
theorem has_any (a c : Ck) (w : World) :
    Calls Tryd.prog 126 #[placeV a, ckV c] w fun e w' => e = .returned (.bool (sameK a c)) ∧ Below w.heap.size w w' := by
  have KP0 : ∀ W, Calls Tryd.prog 125 #[ckV c] W fun e w' => e = .returned (placeV c) ∧ Below W.heap.size W w' := fun W => placeOf_any c W
  have HE : Hid (sameK a c = ((a.ho.toList == c.ho.toList) && (a.al == c.al) && (a.pa.toList == c.pa.toList) && (a.pt.toList == c.pt.toList) && (a.na.toList == c.na.toList))) := rfl
  generalize sameK a c = R at *
  obtain ⟨na2, va2, ho2, al2, pa2, se2, mo2, pt2, un2, ma2⟩ := a
  obtain ⟨na, va, ho, al, pa, se, mo, pt, un, ma⟩ := c
  unfold ckV placeV at *
  dsimp only at *
  have KP : Hid (∀ W, Calls Tryd.prog 125 #[.agg #[.string na, .string va, .string ho, .bool al, .string pa, .bool se, .int .i64 mo, .string pt, .int .i64 un, .int .i64 ma]] W fun e w' => e = .returned (.agg #[.string ho, .bool al, .string pa, .string pt, .string na]) ∧ Below W.heap.size W w') := KP0
  clear KP0
  obtain ⟨W0, hW⟩ : ∃ W0, W0 = ((w.alloc (.cells #[.string ho2, .bool al2, .string pa2, .string pt2, .string na2] 146)).alloc (.cells #[.string na, .string va, .string ho, .bool al, .string pa, .bool se, .int .i64 mo, .string pt, .int .i64 un, .int .i64 ma] 90)) := ⟨_, rfl⟩
  have hW0 : Hid (W0 = ((w.alloc (.cells #[.string ho2, .bool al2, .string pa2, .string pt2, .string na2] 146)).alloc (.cells #[.string na, .string va, .string ho, .bool al, .string pa, .bool se, .int .i64 mo, .string pt, .int .i64 un, .int .i64 ma] 90))) := hW
  have HB : Hid (Below w.heap.size w W0) := by show Below _ _ _; rw [hW]; exact ((Below.refl _ _).alloc (Nat.le_refl _) _).alloc (by simp) _
  have z0 : w.heap.size < W0.heap.size := by rw [hW]; simp; omega
  have z1 : w.heap.size + 1 < W0.heap.size := by rw [hW]; simp
  have p0 : W0.cell? ⟨w.heap.size, 0, none⟩ = some (.string ho2) := by rw [hW]; simp
  have p1 : W0.cell? ⟨w.heap.size, 1, none⟩ = some (.bool al2) := by rw [hW]; simp
  have p2 : W0.cell? ⟨w.heap.size, 2, none⟩ = some (.string pa2) := by rw [hW]; simp
  have p3 : W0.cell? ⟨w.heap.size, 3, none⟩ = some (.string pt2) := by rw [hW]; simp
  have p4 : W0.cell? ⟨w.heap.size, 4, none⟩ = some (.string na2) := by rw [hW]; simp
  have q0 : W0.cell? ⟨w.heap.size + 1, 0, none⟩ = some (.string na) := by rw [hW]; exact (World.cell?_alloc_at _ _ _ _ (by simp)).trans rfl
  have q1 : W0.cell? ⟨w.heap.size + 1, 1, none⟩ = some (.string va) := by rw [hW]; exact (World.cell?_alloc_at _ _ _ _ (by simp)).trans rfl
  have q2 : W0.cell? ⟨w.heap.size + 1, 2, none⟩ = some (.string ho) := by rw [hW]; exact (World.cell?_alloc_at _ _ _ _ (by simp)).trans rfl
  have q3 : W0.cell? ⟨w.heap.size + 1, 3, none⟩ = some (.bool al) := by rw [hW]; exact (World.cell?_alloc_at _ _ _ _ (by simp)).trans rfl
  have q4 : W0.cell? ⟨w.heap.size + 1, 4, none⟩ = some (.string pa) := by rw [hW]; exact (World.cell?_alloc_at _ _ _ _ (by simp)).trans rfl
  have q5 : W0.cell? ⟨w.heap.size + 1, 5, none⟩ = some (.bool se) := by rw [hW]; exact (World.cell?_alloc_at _ _ _ _ (by simp)).trans rfl
  have q6 : W0.cell? ⟨w.heap.size + 1, 6, none⟩ = some (.int .i64 mo) := by rw [hW]; exact (World.cell?_alloc_at _ _ _ _ (by simp)).trans rfl
  have q7 : W0.cell? ⟨w.heap.size + 1, 7, none⟩ = some (.string pt) := by rw [hW]; exact (World.cell?_alloc_at _ _ _ _ (by simp)).trans rfl
  have q8 : W0.cell? ⟨w.heap.size + 1, 8, none⟩ = some (.int .i64 un) := by rw [hW]; exact (World.cell?_alloc_at _ _ _ _ (by simp)).trans rfl
  have q9 : W0.cell? ⟨w.heap.size + 1, 9, none⟩ = some (.int .i64 ma) := by rw [hW]; exact (World.cell?_alloc_at _ _ _ _ (by simp)).trans rfl
  clear hW
  cases h0 : (ho2.toList == ho.toList) with
  | false =>
    have HQ : Hid (R = false) := by show _ = _; rw [HE.out]; simp only [*]; try rfl
    go_enter Tryd.func126, Tryd.ntmps126
    go_wp2_with fail
    rw [← hW0.out]
    go_region_held3 (fun w' => w'.cell? ⟨w.heap.size, 0, none⟩ = some (.string ho2) ∧ w'.cell? ⟨w.heap.size, 1, none⟩ = some (.bool al2) ∧ w'.cell? ⟨w.heap.size, 2, none⟩ = some (.string pa2) ∧ w'.cell? ⟨w.heap.size, 3, none⟩ = some (.string pt2) ∧ w'.cell? ⟨w.heap.size, 4, none⟩ = some (.string na2) ∧ w'.cell? ⟨w.heap.size + 1, 0, none⟩ = some (.string na) ∧ w'.cell? ⟨w.heap.size + 1, 1, none⟩ = some (.string va) ∧ w'.cell? ⟨w.heap.size + 1, 2, none⟩ = some (.string ho) ∧ w'.cell? ⟨w.heap.size + 1, 3, none⟩ = some (.bool al) ∧ w'.cell? ⟨w.heap.size + 1, 4, none⟩ = some (.string pa) ∧ w'.cell? ⟨w.heap.size + 1, 5, none⟩ = some (.bool se) ∧ w'.cell? ⟨w.heap.size + 1, 6, none⟩ = some (.int .i64 mo) ∧ w'.cell? ⟨w.heap.size + 1, 7, none⟩ = some (.string pt) ∧ w'.cell? ⟨w.heap.size + 1, 8, none⟩ = some (.int .i64 un) ∧ w'.cell? ⟨w.heap.size + 1, 9, none⟩ = some (.int .i64 ma)) (go_keep)
      (first | (go_at_call 125; refine (KP.out _).mono ?_; rintro e w2 ⟨rfl, hb2⟩; have A2 : Below W0.heap.size W0 w2 := (Below.drew (Below.refl _ _)).trans hb2; have l0 : w2.cell? ⟨w.heap.size, 0, none⟩ = some (.string ho2) := ((bcell A2).1 _ _ z0).trans p0; have l1 : w2.cell? ⟨w.heap.size, 1, none⟩ = some (.bool al2) := ((bcell A2).1 _ _ z0).trans p1; have l2 : w2.cell? ⟨w.heap.size, 2, none⟩ = some (.string pa2) := ((bcell A2).1 _ _ z0).trans p2; have l3 : w2.cell? ⟨w.heap.size, 3, none⟩ = some (.string pt2) := ((bcell A2).1 _ _ z0).trans p3; have l4 : w2.cell? ⟨w.heap.size, 4, none⟩ = some (.string na2) := ((bcell A2).1 _ _ z0).trans p4; have m0 : w2.cell? ⟨w.heap.size + 1, 0, none⟩ = some (.string na) := ((bcell A2).1 _ _ z1).trans q0; have m1 : w2.cell? ⟨w.heap.size + 1, 1, none⟩ = some (.string va) := ((bcell A2).1 _ _ z1).trans q1; have m2 : w2.cell? ⟨w.heap.size + 1, 2, none⟩ = some (.string ho) := ((bcell A2).1 _ _ z1).trans q2; have m3 : w2.cell? ⟨w.heap.size + 1, 3, none⟩ = some (.bool al) := ((bcell A2).1 _ _ z1).trans q3; have m4 : w2.cell? ⟨w.heap.size + 1, 4, none⟩ = some (.string pa) := ((bcell A2).1 _ _ z1).trans q4; have m5 : w2.cell? ⟨w.heap.size + 1, 5, none⟩ = some (.bool se) := ((bcell A2).1 _ _ z1).trans q5; have m6 : w2.cell? ⟨w.heap.size + 1, 6, none⟩ = some (.int .i64 mo) := ((bcell A2).1 _ _ z1).trans q6; have m7 : w2.cell? ⟨w.heap.size + 1, 7, none⟩ = some (.string pt) := ((bcell A2).1 _ _ z1).trans q7; have m8 : w2.cell? ⟨w.heap.size + 1, 8, none⟩ = some (.int .i64 un) := ((bcell A2).1 _ _ z1).trans q8; have m9 : w2.cell? ⟨w.heap.size + 1, 9, none⟩ = some (.int .i64 ma) := ((bcell A2).1 _ _ z1).trans q9))
    have B2 : Hid (Below w.heap.size w w2) := HB.out.trans (A2.mono HB.out.size)
    all_goals go_wp2
    all_goals go_ret
    all_goals exact ⟨ret_bool HQ.out.symm, B2.out⟩
  | true =>
    cases h1 : (al2 == al) with
    | false =>
      have HQ : Hid (R = false) := by show _ = _; rw [HE.out]; simp only [*]; try rfl
      go_enter Tryd.func126, Tryd.ntmps126
      go_wp2_with fail
      rw [← hW0.out]
      go_region_held3 (fun w' => w'.cell? ⟨w.heap.size, 0, none⟩ = some (.string ho2) ∧ w'.cell? ⟨w.heap.size, 1, none⟩ = some (.bool al2) ∧ w'.cell? ⟨w.heap.size, 2, none⟩ = some (.string pa2) ∧ w'.cell? ⟨w.heap.size, 3, none⟩ = some (.string pt2) ∧ w'.cell? ⟨w.heap.size, 4, none⟩ = some (.string na2) ∧ w'.cell? ⟨w.heap.size + 1, 0, none⟩ = some (.string na) ∧ w'.cell? ⟨w.heap.size + 1, 1, none⟩ = some (.string va) ∧ w'.cell? ⟨w.heap.size + 1, 2, none⟩ = some (.string ho) ∧ w'.cell? ⟨w.heap.size + 1, 3, none⟩ = some (.bool al) ∧ w'.cell? ⟨w.heap.size + 1, 4, none⟩ = some (.string pa) ∧ w'.cell? ⟨w.heap.size + 1, 5, none⟩ = some (.bool se) ∧ w'.cell? ⟨w.heap.size + 1, 6, none⟩ = some (.int .i64 mo) ∧ w'.cell? ⟨w.heap.size + 1, 7, none⟩ = some (.string pt) ∧ w'.cell? ⟨w.heap.size + 1, 8, none⟩ = some (.int .i64 un) ∧ w'.cell? ⟨w.heap.size + 1, 9, none⟩ = some (.int .i64 ma)) (go_keep)
        (first | (go_at_call 125; refine (KP.out _).mono ?_; rintro e w2 ⟨rfl, hb2⟩; have A2 : Below W0.heap.size W0 w2 := (Below.drew (Below.refl _ _)).trans hb2; have l0 : w2.cell? ⟨w.heap.size, 0, none⟩ = some (.string ho2) := ((bcell A2).1 _ _ z0).trans p0; have l1 : w2.cell? ⟨w.heap.size, 1, none⟩ = some (.bool al2) := ((bcell A2).1 _ _ z0).trans p1; have l2 : w2.cell? ⟨w.heap.size, 2, none⟩ = some (.string pa2) := ((bcell A2).1 _ _ z0).trans p2; have l3 : w2.cell? ⟨w.heap.size, 3, none⟩ = some (.string pt2) := ((bcell A2).1 _ _ z0).trans p3; have l4 : w2.cell? ⟨w.heap.size, 4, none⟩ = some (.string na2) := ((bcell A2).1 _ _ z0).trans p4; have m0 : w2.cell? ⟨w.heap.size + 1, 0, none⟩ = some (.string na) := ((bcell A2).1 _ _ z1).trans q0; have m1 : w2.cell? ⟨w.heap.size + 1, 1, none⟩ = some (.string va) := ((bcell A2).1 _ _ z1).trans q1; have m2 : w2.cell? ⟨w.heap.size + 1, 2, none⟩ = some (.string ho) := ((bcell A2).1 _ _ z1).trans q2; have m3 : w2.cell? ⟨w.heap.size + 1, 3, none⟩ = some (.bool al) := ((bcell A2).1 _ _ z1).trans q3; have m4 : w2.cell? ⟨w.heap.size + 1, 4, none⟩ = some (.string pa) := ((bcell A2).1 _ _ z1).trans q4; have m5 : w2.cell? ⟨w.heap.size + 1, 5, none⟩ = some (.bool se) := ((bcell A2).1 _ _ z1).trans q5; have m6 : w2.cell? ⟨w.heap.size + 1, 6, none⟩ = some (.int .i64 mo) := ((bcell A2).1 _ _ z1).trans q6; have m7 : w2.cell? ⟨w.heap.size + 1, 7, none⟩ = some (.string pt) := ((bcell A2).1 _ _ z1).trans q7; have m8 : w2.cell? ⟨w.heap.size + 1, 8, none⟩ = some (.int .i64 un) := ((bcell A2).1 _ _ z1).trans q8; have m9 : w2.cell? ⟨w.heap.size + 1, 9, none⟩ = some (.int .i64 ma) := ((bcell A2).1 _ _ z1).trans q9))
      have B2 : Hid (Below w.heap.size w w2) := HB.out.trans (A2.mono HB.out.size)
      all_goals go_wp2
      all_goals go_ret
      all_goals exact ⟨ret_bool HQ.out.symm, B2.out⟩
    | true =>
      cases h2 : (pa2.toList == pa.toList) with
      | false =>
        have HQ : Hid (R = false) := by show _ = _; rw [HE.out]; simp only [*]; try rfl
        go_enter Tryd.func126, Tryd.ntmps126
        go_wp2_with fail
        rw [← hW0.out]
        go_region_held3 (fun w' => w'.cell? ⟨w.heap.size, 0, none⟩ = some (.string ho2) ∧ w'.cell? ⟨w.heap.size, 1, none⟩ = some (.bool al2) ∧ w'.cell? ⟨w.heap.size, 2, none⟩ = some (.string pa2) ∧ w'.cell? ⟨w.heap.size, 3, none⟩ = some (.string pt2) ∧ w'.cell? ⟨w.heap.size, 4, none⟩ = some (.string na2) ∧ w'.cell? ⟨w.heap.size + 1, 0, none⟩ = some (.string na) ∧ w'.cell? ⟨w.heap.size + 1, 1, none⟩ = some (.string va) ∧ w'.cell? ⟨w.heap.size + 1, 2, none⟩ = some (.string ho) ∧ w'.cell? ⟨w.heap.size + 1, 3, none⟩ = some (.bool al) ∧ w'.cell? ⟨w.heap.size + 1, 4, none⟩ = some (.string pa) ∧ w'.cell? ⟨w.heap.size + 1, 5, none⟩ = some (.bool se) ∧ w'.cell? ⟨w.heap.size + 1, 6, none⟩ = some (.int .i64 mo) ∧ w'.cell? ⟨w.heap.size + 1, 7, none⟩ = some (.string pt) ∧ w'.cell? ⟨w.heap.size + 1, 8, none⟩ = some (.int .i64 un) ∧ w'.cell? ⟨w.heap.size + 1, 9, none⟩ = some (.int .i64 ma)) (go_keep)
          (first | (go_at_call 125; refine (KP.out _).mono ?_; rintro e w2 ⟨rfl, hb2⟩; have A2 : Below W0.heap.size W0 w2 := (Below.drew (Below.refl _ _)).trans hb2; have l0 : w2.cell? ⟨w.heap.size, 0, none⟩ = some (.string ho2) := ((bcell A2).1 _ _ z0).trans p0; have l1 : w2.cell? ⟨w.heap.size, 1, none⟩ = some (.bool al2) := ((bcell A2).1 _ _ z0).trans p1; have l2 : w2.cell? ⟨w.heap.size, 2, none⟩ = some (.string pa2) := ((bcell A2).1 _ _ z0).trans p2; have l3 : w2.cell? ⟨w.heap.size, 3, none⟩ = some (.string pt2) := ((bcell A2).1 _ _ z0).trans p3; have l4 : w2.cell? ⟨w.heap.size, 4, none⟩ = some (.string na2) := ((bcell A2).1 _ _ z0).trans p4; have m0 : w2.cell? ⟨w.heap.size + 1, 0, none⟩ = some (.string na) := ((bcell A2).1 _ _ z1).trans q0; have m1 : w2.cell? ⟨w.heap.size + 1, 1, none⟩ = some (.string va) := ((bcell A2).1 _ _ z1).trans q1; have m2 : w2.cell? ⟨w.heap.size + 1, 2, none⟩ = some (.string ho) := ((bcell A2).1 _ _ z1).trans q2; have m3 : w2.cell? ⟨w.heap.size + 1, 3, none⟩ = some (.bool al) := ((bcell A2).1 _ _ z1).trans q3; have m4 : w2.cell? ⟨w.heap.size + 1, 4, none⟩ = some (.string pa) := ((bcell A2).1 _ _ z1).trans q4; have m5 : w2.cell? ⟨w.heap.size + 1, 5, none⟩ = some (.bool se) := ((bcell A2).1 _ _ z1).trans q5; have m6 : w2.cell? ⟨w.heap.size + 1, 6, none⟩ = some (.int .i64 mo) := ((bcell A2).1 _ _ z1).trans q6; have m7 : w2.cell? ⟨w.heap.size + 1, 7, none⟩ = some (.string pt) := ((bcell A2).1 _ _ z1).trans q7; have m8 : w2.cell? ⟨w.heap.size + 1, 8, none⟩ = some (.int .i64 un) := ((bcell A2).1 _ _ z1).trans q8; have m9 : w2.cell? ⟨w.heap.size + 1, 9, none⟩ = some (.int .i64 ma) := ((bcell A2).1 _ _ z1).trans q9))
        have B2 : Hid (Below w.heap.size w w2) := HB.out.trans (A2.mono HB.out.size)
        all_goals go_wp2
        all_goals go_ret
        all_goals exact ⟨ret_bool HQ.out.symm, B2.out⟩
      | true =>
        cases h3 : (pt2.toList == pt.toList) with
        | false =>
          have HQ : Hid (R = false) := by show _ = _; rw [HE.out]; simp only [*]; try rfl
          go_enter Tryd.func126, Tryd.ntmps126
          go_wp2_with fail
          rw [← hW0.out]
          go_region_held3 (fun w' => w'.cell? ⟨w.heap.size, 0, none⟩ = some (.string ho2) ∧ w'.cell? ⟨w.heap.size, 1, none⟩ = some (.bool al2) ∧ w'.cell? ⟨w.heap.size, 2, none⟩ = some (.string pa2) ∧ w'.cell? ⟨w.heap.size, 3, none⟩ = some (.string pt2) ∧ w'.cell? ⟨w.heap.size, 4, none⟩ = some (.string na2) ∧ w'.cell? ⟨w.heap.size + 1, 0, none⟩ = some (.string na) ∧ w'.cell? ⟨w.heap.size + 1, 1, none⟩ = some (.string va) ∧ w'.cell? ⟨w.heap.size + 1, 2, none⟩ = some (.string ho) ∧ w'.cell? ⟨w.heap.size + 1, 3, none⟩ = some (.bool al) ∧ w'.cell? ⟨w.heap.size + 1, 4, none⟩ = some (.string pa) ∧ w'.cell? ⟨w.heap.size + 1, 5, none⟩ = some (.bool se) ∧ w'.cell? ⟨w.heap.size + 1, 6, none⟩ = some (.int .i64 mo) ∧ w'.cell? ⟨w.heap.size + 1, 7, none⟩ = some (.string pt) ∧ w'.cell? ⟨w.heap.size + 1, 8, none⟩ = some (.int .i64 un) ∧ w'.cell? ⟨w.heap.size + 1, 9, none⟩ = some (.int .i64 ma)) (go_keep)
            (first | (go_at_call 125; refine (KP.out _).mono ?_; rintro e w2 ⟨rfl, hb2⟩; have A2 : Below W0.heap.size W0 w2 := (Below.drew (Below.refl _ _)).trans hb2; have l0 : w2.cell? ⟨w.heap.size, 0, none⟩ = some (.string ho2) := ((bcell A2).1 _ _ z0).trans p0; have l1 : w2.cell? ⟨w.heap.size, 1, none⟩ = some (.bool al2) := ((bcell A2).1 _ _ z0).trans p1; have l2 : w2.cell? ⟨w.heap.size, 2, none⟩ = some (.string pa2) := ((bcell A2).1 _ _ z0).trans p2; have l3 : w2.cell? ⟨w.heap.size, 3, none⟩ = some (.string pt2) := ((bcell A2).1 _ _ z0).trans p3; have l4 : w2.cell? ⟨w.heap.size, 4, none⟩ = some (.string na2) := ((bcell A2).1 _ _ z0).trans p4; have m0 : w2.cell? ⟨w.heap.size + 1, 0, none⟩ = some (.string na) := ((bcell A2).1 _ _ z1).trans q0; have m1 : w2.cell? ⟨w.heap.size + 1, 1, none⟩ = some (.string va) := ((bcell A2).1 _ _ z1).trans q1; have m2 : w2.cell? ⟨w.heap.size + 1, 2, none⟩ = some (.string ho) := ((bcell A2).1 _ _ z1).trans q2; have m3 : w2.cell? ⟨w.heap.size + 1, 3, none⟩ = some (.bool al) := ((bcell A2).1 _ _ z1).trans q3; have m4 : w2.cell? ⟨w.heap.size + 1, 4, none⟩ = some (.string pa) := ((bcell A2).1 _ _ z1).trans q4; have m5 : w2.cell? ⟨w.heap.size + 1, 5, none⟩ = some (.bool se) := ((bcell A2).1 _ _ z1).trans q5; have m6 : w2.cell? ⟨w.heap.size + 1, 6, none⟩ = some (.int .i64 mo) := ((bcell A2).1 _ _ z1).trans q6; have m7 : w2.cell? ⟨w.heap.size + 1, 7, none⟩ = some (.string pt) := ((bcell A2).1 _ _ z1).trans q7; have m8 : w2.cell? ⟨w.heap.size + 1, 8, none⟩ = some (.int .i64 un) := ((bcell A2).1 _ _ z1).trans q8; have m9 : w2.cell? ⟨w.heap.size + 1, 9, none⟩ = some (.int .i64 ma) := ((bcell A2).1 _ _ z1).trans q9))
          have B2 : Hid (Below w.heap.size w w2) := HB.out.trans (A2.mono HB.out.size)
          all_goals go_wp2
          all_goals go_ret
          all_goals exact ⟨ret_bool HQ.out.symm, B2.out⟩
        | true =>
          cases h4 : (na2.toList == na.toList) with
          | false =>
            have HQ : Hid (R = false) := by show _ = _; rw [HE.out]; simp only [*]; try rfl
            go_enter Tryd.func126, Tryd.ntmps126
            go_wp2_with fail
            rw [← hW0.out]
            go_region_held3 (fun w' => w'.cell? ⟨w.heap.size, 0, none⟩ = some (.string ho2) ∧ w'.cell? ⟨w.heap.size, 1, none⟩ = some (.bool al2) ∧ w'.cell? ⟨w.heap.size, 2, none⟩ = some (.string pa2) ∧ w'.cell? ⟨w.heap.size, 3, none⟩ = some (.string pt2) ∧ w'.cell? ⟨w.heap.size, 4, none⟩ = some (.string na2) ∧ w'.cell? ⟨w.heap.size + 1, 0, none⟩ = some (.string na) ∧ w'.cell? ⟨w.heap.size + 1, 1, none⟩ = some (.string va) ∧ w'.cell? ⟨w.heap.size + 1, 2, none⟩ = some (.string ho) ∧ w'.cell? ⟨w.heap.size + 1, 3, none⟩ = some (.bool al) ∧ w'.cell? ⟨w.heap.size + 1, 4, none⟩ = some (.string pa) ∧ w'.cell? ⟨w.heap.size + 1, 5, none⟩ = some (.bool se) ∧ w'.cell? ⟨w.heap.size + 1, 6, none⟩ = some (.int .i64 mo) ∧ w'.cell? ⟨w.heap.size + 1, 7, none⟩ = some (.string pt) ∧ w'.cell? ⟨w.heap.size + 1, 8, none⟩ = some (.int .i64 un) ∧ w'.cell? ⟨w.heap.size + 1, 9, none⟩ = some (.int .i64 ma)) (go_keep)
              (first | (go_at_call 125; refine (KP.out _).mono ?_; rintro e w2 ⟨rfl, hb2⟩; have A2 : Below W0.heap.size W0 w2 := (Below.drew (Below.refl _ _)).trans hb2; have l0 : w2.cell? ⟨w.heap.size, 0, none⟩ = some (.string ho2) := ((bcell A2).1 _ _ z0).trans p0; have l1 : w2.cell? ⟨w.heap.size, 1, none⟩ = some (.bool al2) := ((bcell A2).1 _ _ z0).trans p1; have l2 : w2.cell? ⟨w.heap.size, 2, none⟩ = some (.string pa2) := ((bcell A2).1 _ _ z0).trans p2; have l3 : w2.cell? ⟨w.heap.size, 3, none⟩ = some (.string pt2) := ((bcell A2).1 _ _ z0).trans p3; have l4 : w2.cell? ⟨w.heap.size, 4, none⟩ = some (.string na2) := ((bcell A2).1 _ _ z0).trans p4; have m0 : w2.cell? ⟨w.heap.size + 1, 0, none⟩ = some (.string na) := ((bcell A2).1 _ _ z1).trans q0; have m1 : w2.cell? ⟨w.heap.size + 1, 1, none⟩ = some (.string va) := ((bcell A2).1 _ _ z1).trans q1; have m2 : w2.cell? ⟨w.heap.size + 1, 2, none⟩ = some (.string ho) := ((bcell A2).1 _ _ z1).trans q2; have m3 : w2.cell? ⟨w.heap.size + 1, 3, none⟩ = some (.bool al) := ((bcell A2).1 _ _ z1).trans q3; have m4 : w2.cell? ⟨w.heap.size + 1, 4, none⟩ = some (.string pa) := ((bcell A2).1 _ _ z1).trans q4; have m5 : w2.cell? ⟨w.heap.size + 1, 5, none⟩ = some (.bool se) := ((bcell A2).1 _ _ z1).trans q5; have m6 : w2.cell? ⟨w.heap.size + 1, 6, none⟩ = some (.int .i64 mo) := ((bcell A2).1 _ _ z1).trans q6; have m7 : w2.cell? ⟨w.heap.size + 1, 7, none⟩ = some (.string pt) := ((bcell A2).1 _ _ z1).trans q7; have m8 : w2.cell? ⟨w.heap.size + 1, 8, none⟩ = some (.int .i64 un) := ((bcell A2).1 _ _ z1).trans q8; have m9 : w2.cell? ⟨w.heap.size + 1, 9, none⟩ = some (.int .i64 ma) := ((bcell A2).1 _ _ z1).trans q9))
            have B2 : Hid (Below w.heap.size w w2) := HB.out.trans (A2.mono HB.out.size)
            all_goals go_wp2
            all_goals go_ret
            all_goals exact ⟨ret_bool HQ.out.symm, B2.out⟩
          | true =>
            have HQ : Hid (R = true) := by show _ = _; rw [HE.out]; simp only [*]; try rfl
            go_enter Tryd.func126, Tryd.ntmps126
            go_wp2_with fail
            rw [← hW0.out]
            go_region_held3 (fun w' => w'.cell? ⟨w.heap.size, 0, none⟩ = some (.string ho2) ∧ w'.cell? ⟨w.heap.size, 1, none⟩ = some (.bool al2) ∧ w'.cell? ⟨w.heap.size, 2, none⟩ = some (.string pa2) ∧ w'.cell? ⟨w.heap.size, 3, none⟩ = some (.string pt2) ∧ w'.cell? ⟨w.heap.size, 4, none⟩ = some (.string na2) ∧ w'.cell? ⟨w.heap.size + 1, 0, none⟩ = some (.string na) ∧ w'.cell? ⟨w.heap.size + 1, 1, none⟩ = some (.string va) ∧ w'.cell? ⟨w.heap.size + 1, 2, none⟩ = some (.string ho) ∧ w'.cell? ⟨w.heap.size + 1, 3, none⟩ = some (.bool al) ∧ w'.cell? ⟨w.heap.size + 1, 4, none⟩ = some (.string pa) ∧ w'.cell? ⟨w.heap.size + 1, 5, none⟩ = some (.bool se) ∧ w'.cell? ⟨w.heap.size + 1, 6, none⟩ = some (.int .i64 mo) ∧ w'.cell? ⟨w.heap.size + 1, 7, none⟩ = some (.string pt) ∧ w'.cell? ⟨w.heap.size + 1, 8, none⟩ = some (.int .i64 un) ∧ w'.cell? ⟨w.heap.size + 1, 9, none⟩ = some (.int .i64 ma)) (go_keep)
              (first | (go_at_call 125; refine (KP.out _).mono ?_; rintro e w2 ⟨rfl, hb2⟩; have A2 : Below W0.heap.size W0 w2 := (Below.drew (Below.refl _ _)).trans hb2; have l0 : w2.cell? ⟨w.heap.size, 0, none⟩ = some (.string ho2) := ((bcell A2).1 _ _ z0).trans p0; have l1 : w2.cell? ⟨w.heap.size, 1, none⟩ = some (.bool al2) := ((bcell A2).1 _ _ z0).trans p1; have l2 : w2.cell? ⟨w.heap.size, 2, none⟩ = some (.string pa2) := ((bcell A2).1 _ _ z0).trans p2; have l3 : w2.cell? ⟨w.heap.size, 3, none⟩ = some (.string pt2) := ((bcell A2).1 _ _ z0).trans p3; have l4 : w2.cell? ⟨w.heap.size, 4, none⟩ = some (.string na2) := ((bcell A2).1 _ _ z0).trans p4; have m0 : w2.cell? ⟨w.heap.size + 1, 0, none⟩ = some (.string na) := ((bcell A2).1 _ _ z1).trans q0; have m1 : w2.cell? ⟨w.heap.size + 1, 1, none⟩ = some (.string va) := ((bcell A2).1 _ _ z1).trans q1; have m2 : w2.cell? ⟨w.heap.size + 1, 2, none⟩ = some (.string ho) := ((bcell A2).1 _ _ z1).trans q2; have m3 : w2.cell? ⟨w.heap.size + 1, 3, none⟩ = some (.bool al) := ((bcell A2).1 _ _ z1).trans q3; have m4 : w2.cell? ⟨w.heap.size + 1, 4, none⟩ = some (.string pa) := ((bcell A2).1 _ _ z1).trans q4; have m5 : w2.cell? ⟨w.heap.size + 1, 5, none⟩ = some (.bool se) := ((bcell A2).1 _ _ z1).trans q5; have m6 : w2.cell? ⟨w.heap.size + 1, 6, none⟩ = some (.int .i64 mo) := ((bcell A2).1 _ _ z1).trans q6; have m7 : w2.cell? ⟨w.heap.size + 1, 7, none⟩ = some (.string pt) := ((bcell A2).1 _ _ z1).trans q7; have m8 : w2.cell? ⟨w.heap.size + 1, 8, none⟩ = some (.int .i64 un) := ((bcell A2).1 _ _ z1).trans q8; have m9 : w2.cell? ⟨w.heap.size + 1, 9, none⟩ = some (.int .i64 ma) := ((bcell A2).1 _ _ z1).trans q9))
            have B2 : Hid (Below w.heap.size w w2) := HB.out.trans (A2.mono HB.out.size)
            all_goals go_wp2
            all_goals go_ret
            all_goals exact ⟨ret_bool HQ.out.symm, B2.out⟩

/-- one of the first k is of this place -/
def hasK (L : List Ck) (k : Nat) (a : Ck) : Bool := !decide (∀ j, j < k → sameK (atC L j) a = false)
theorem hasK_yes {L : List Ck} {k : Nat} {a : Ck} (j : Nat) (hj : j < k) (h : sameK a (atC L j) = true) : hasK L k a = true := by
  unfold hasK
  rw [decide_eq_false (fun h' => by rw [sameK_comm, h' j hj] at h; cases h)]; rfl
theorem hasK_no {L : List Ck} {k : Nat} {a : Ck} (h : ∀ j, j < k → sameK a (atC L j) = false) : hasK L k a = false := by
  unfold hasK
  rw [decide_eq_true (fun j hj => by rw [sameK_comm]; exact h j hj)]; rfl
set_option maxRecDepth 10000 in
set_option maxHeartbeats 4000000 in
theorem containsHas_any (g k : Nat) (L : List Ck) (a : Ck) (w : World) (hg : g < w.heap.size) (hk : k ≤ L.length) (hn : L.length ≤ 1048576) (hc : ∀ j, j < k → ∀ o, o < 10 → w.cell? ⟨g, j * 10 + o, none⟩ = some (ckC (atC L j) o)) :
    Calls Tryd.prog 124 #[.slice (some ⟨g, 0, none⟩) k k, .func (.func 126) #[placeV a] #[]] w fun e w' => e = .returned (.bool (hasK L k a)) ∧ Below w.heap.size w w' := by
  have KI : Hid (Calls Tryd.prog 175 #[.slice (some ⟨g, 0, none⟩) k k, .func (.func 126) #[placeV a] #[]] w fun e w' => (∃ r : Int, e = .returned (.int .i64 r) ∧ decide (0 ≤ r) = hasK L k a) ∧ Below w.heap.size w w') := by
    show Calls _ _ _ _ _
    have KH : Hid (∀ j W, Calls Tryd.prog 126 #[placeV a, ckV (atC L j)] W fun e w' => e = .returned (.bool (sameK a (atC L j))) ∧ Below W.heap.size W w') := fun j W => has_any a (atC L j) W
    have HY : Hid (∀ j, j < k → sameK a (atC L j) = true → hasK L k a = true) := fun j a b => hasK_yes j a b
    have HN : Hid ((∀ j, j < k → sameK a (atC L j) = false) → hasK L k a = false) := fun h => hasK_no h
    have HC : Hid (∀ j, j < k → ∀ o, o < 10 → w.cell? ⟨g, j * 10 + o, none⟩ = some (ckC (atC L j) o)) := hc
    clear hc
    generalize hasK L k a = R at *
    go_enter Tryd.func175, Tryd.ntmps175
    go_wp2
    go_loopw [8] (fun i wr => ∃ j : Nat, j ≤ k ∧ i = .int .i64 j ∧ Hid (Below w.heap.size w wr) ∧ Hid (∀ i', i' < j → sameK a (atC L i') = false)) (fun i _ => k - (intOf i).toNat)
    case atStart => exact ⟨0, Nat.zero_le _, rfl, Below.refl _ _, fun j hj => absurd hj (by omega)⟩
    case round =>
      obtain ⟨j, hj, rfl, HB, HR⟩ := hrel
      by_cases hlt : j < k
      · have KH0 := KH.out j
        have j0 : (0 : Int) ≤ j := by omega
        have j1 : (j : Int) < k := by omega
        have HY1 : Hid (sameK a (atC L j) = true → R = true) := HY.out j hlt
        have HN1 : Hid (sameK a (atC L j) = false → ∀ i', i' < j + 1 → sameK a (atC L i') = false) := fun e i' hi' => by
          by_cases e2 : i' = j
          · subst e2; exact e
          · exact HR.out i' (by omega)
        have c0 : wr.cell? ⟨g, j * 10, none⟩ = some (.string (atC L j).na) := by rw [(bcell HB.out).1 _ _ hg]; exact HC.out j hlt 0 (by omega)
        have c1 : wr.cell? ⟨g, j * 10 + 1, none⟩ = some (.string (atC L j).va) := by rw [(bcell HB.out).1 _ _ hg]; exact HC.out j hlt 1 (by omega)
        have c2 : wr.cell? ⟨g, j * 10 + 2, none⟩ = some (.string (atC L j).ho) := by rw [(bcell HB.out).1 _ _ hg]; exact HC.out j hlt 2 (by omega)
        have c3 : wr.cell? ⟨g, j * 10 + 3, none⟩ = some (.bool (atC L j).al) := by rw [(bcell HB.out).1 _ _ hg]; exact HC.out j hlt 3 (by omega)
        have c4 : wr.cell? ⟨g, j * 10 + 4, none⟩ = some (.string (atC L j).pa) := by rw [(bcell HB.out).1 _ _ hg]; exact HC.out j hlt 4 (by omega)
        have c5 : wr.cell? ⟨g, j * 10 + 5, none⟩ = some (.bool (atC L j).se) := by rw [(bcell HB.out).1 _ _ hg]; exact HC.out j hlt 5 (by omega)
        have c6 : wr.cell? ⟨g, j * 10 + 6, none⟩ = some (.int .i64 (atC L j).mo) := by rw [(bcell HB.out).1 _ _ hg]; exact HC.out j hlt 6 (by omega)
        have c7 : wr.cell? ⟨g, j * 10 + 7, none⟩ = some (.string (atC L j).pt) := by rw [(bcell HB.out).1 _ _ hg]; exact HC.out j hlt 7 (by omega)
        have c8 : wr.cell? ⟨g, j * 10 + 8, none⟩ = some (.int .i64 (atC L j).un) := by rw [(bcell HB.out).1 _ _ hg]; exact HC.out j hlt 8 (by omega)
        have c9 : wr.cell? ⟨g, j * 10 + 9, none⟩ = some (.int .i64 (atC L j).ma) := by rw [(bcell HB.out).1 _ _ hg]; exact HC.out j hlt 9 (by omega)
        generalize hsm : sameK a (atC L j) = sm at *
        clear hsm
        generalize atC L j = y at *
        obtain ⟨na, va, ho, al, pa, se, mo, pt, un, ma⟩ := y
        unfold ckV at KH0
        dsimp only at *
        have KC : Hid (∀ W, Calls Tryd.prog 126 #[placeV a, .agg #[.string na, .string va, .string ho, .bool al, .string pa, .bool se, .int .i64 mo, .string pt, .int .i64 un, .int .i64 ma]] W fun e w' => e = .returned (.bool sm) ∧ Below W.heap.size W w') := KH0
        clear KH0
        generalize placeV a = pv at *
        go_wp2_with fail
        refine (KC.out _).mono ?_
        rintro e w2 ⟨rfl, hb2⟩
        have B2 : Hid (Below w.heap.size w w2) := HB.out.trans (hb2.mono HB.out.size)
        clear hb2
        cases sm with
        | true =>
          have HQ : Hid (R = true) := HY1.out rfl
          go_wp2
          go_ret
          exact ⟨⟨_, rfl, by rw [HQ.out, decide_eq_true_iff]; omega⟩, B2.out⟩
        | false =>
          have HN2 : Hid (∀ i', i' < j + 1 → sameK a (atC L i') = false) := HN1.out rfl
          go_wp2
          go_roundw
          case rel => exact ⟨j + 1, by omega, by go_num, B2, HN2⟩
          case measure => simp [intOf]; omega
      · have HQ : Hid (R = false) := HN.out (fun i hi => HR.out i (by omega))
        go_wp2
        go_ret
        exact ⟨⟨_, rfl, by rw [HQ.out]; decide⟩, HB.out⟩
  generalize hasK L k a = R at *
  generalize placeV a = pv at *
  go_enter Tryd.func124, Tryd.ntmps124
  go_wp2_with fail
  refine KI.out.mono ?_
  rintro e w2 ⟨⟨r, rfl, hr⟩, hb2⟩
  have HQ : Hid (decide (0 ≤ r) = R) := hr
  clear hr
  go_wp2
  go_ret
  exact ⟨ret_bool HQ.out, hb2⟩
end Go.Proofs.YtimmoclemcnhnaaDoor

/- The walks of the program's isSmall, isDigit, inWord and WordRight. Written by implword.py. -/
namespace Go.Proofs.YtimmoclemcnhnaaDoor
open Go.RowKit

def betw (n lo hi : Nat) : Bool := decide (lo ≤ n ∧ n ≤ hi)
theorem betw_yes {n lo hi : Nat} (h1 : lo ≤ n) (h2 : n ≤ hi) : betw n lo hi = true := by unfold betw; rw [decide_eq_true_iff]; exact ⟨h1, h2⟩
theorem betw_no {n lo hi : Nat} (h : ¬ (lo ≤ n ∧ n ≤ hi)) : betw n lo hi = false := by unfold betw; rw [decide_eq_false_iff_not]; exact h
set_option maxRecDepth 10000 in
theorem isSmallW_any (n : Nat) (w : World) : Calls Tryd.prog 181 #[.int .u8 (n : Int)] w fun e w' => e = .returned (.bool (betw n 97 122)) ∧ w' = w := by
  rcases (show (n < 97) ∨ (97 ≤ n ∧ n ≤ 122) ∨ (122 < n) by omega) with c1 | ⟨c1, c2⟩ | c1
  · have b1 : decide ((97 : Int) ≤ (n : Int)) = false := by rw [decide_eq_false_iff_not]; omega
    go_enter Tryd.func181, Tryd.ntmps181
    go_wp2
    go_ret
    exact ⟨ret_bool (betw_no (by omega)).symm, rfl⟩
  · go_enter Tryd.func181, Tryd.ntmps181
    go_wp2
    go_ret
    exact ⟨ret_bool (by rw [betw_yes c1 c2, decide_eq_true_iff]; omega), rfl⟩
  · have b1 : decide ((n : Int) ≤ 122) = false := by rw [decide_eq_false_iff_not]; omega
    go_enter Tryd.func181, Tryd.ntmps181
    go_wp2
    go_ret
    exact ⟨ret_bool (betw_no (by omega)).symm, rfl⟩
set_option maxRecDepth 10000 in
theorem isDigitW_any (n : Nat) (w : World) : Calls Tryd.prog 182 #[.int .u8 (n : Int)] w fun e w' => e = .returned (.bool (betw n 48 57)) ∧ w' = w := by
  rcases (show (n < 48) ∨ (48 ≤ n ∧ n ≤ 57) ∨ (57 < n) by omega) with c1 | ⟨c1, c2⟩ | c1
  · have b1 : decide ((48 : Int) ≤ (n : Int)) = false := by rw [decide_eq_false_iff_not]; omega
    go_enter Tryd.func182, Tryd.ntmps182
    go_wp2
    go_ret
    exact ⟨ret_bool (betw_no (by omega)).symm, rfl⟩
  · go_enter Tryd.func182, Tryd.ntmps182
    go_wp2
    go_ret
    exact ⟨ret_bool (by rw [betw_yes c1 c2, decide_eq_true_iff]; omega), rfl⟩
  · have b1 : decide ((n : Int) ≤ 57) = false := by rw [decide_eq_false_iff_not]; omega
    go_enter Tryd.func182, Tryd.ntmps182
    go_wp2
    go_ret
    exact ⟨ret_bool (betw_no (by omega)).symm, rfl⟩
set_option maxRecDepth 10000 in
set_option maxHeartbeats 2000000 in
theorem inWord_any (n : Nat) (w : World) : Calls Tryd.prog 225 #[.int .u8 (n : Int)] w fun e w' => e = .returned (.bool (wordC n)) ∧ w' = w := by
  have K1 : Hid (∀ W, Calls Tryd.prog 181 #[.int .u8 (n : Int)] W fun e w' => e = .returned (.bool (betw n 97 122)) ∧ w' = W) := fun W => isSmallW_any n W
  have K2 : Hid (∀ W, Calls Tryd.prog 182 #[.int .u8 (n : Int)] W fun e w' => e = .returned (.bool (betw n 48 57)) ∧ w' = W) := fun W => isDigitW_any n W
  rcases (show (n ≤ 44) ∨ (45 ≤ n ∧ n ≤ 45) ∨ (46 ≤ n ∧ n ≤ 46) ∨ (47 ≤ n ∧ n ≤ 47) ∨ (48 ≤ n ∧ n ≤ 57) ∨ (58 ≤ n ∧ n ≤ 64) ∨ (65 ≤ n ∧ n ≤ 90) ∨ (91 ≤ n ∧ n ≤ 94) ∨ (95 ≤ n ∧ n ≤ 95) ∨ (96 ≤ n ∧ n ≤ 96) ∨ (97 ≤ n ∧ n ≤ 122) ∨ (123 ≤ n) by omega)
    with c1 | ⟨c1, c2⟩ | ⟨c1, c2⟩ | ⟨c1, c2⟩ | ⟨c1, c2⟩ | ⟨c1, c2⟩ | ⟨c1, c2⟩ | ⟨c1, c2⟩ | ⟨c1, c2⟩ | ⟨c1, c2⟩ | ⟨c1, c2⟩ | c1
  · have HW : Hid (wordC n = false) := wordC_no (by omega)
    rw [betw_no (by omega)] at K1
    rw [betw_no (by omega)] at K2
    have b1 : decide ((65 : Int) ≤ (n : Int)) = false := by rw [decide_eq_false_iff_not]; omega
    have b2 : decide ((n : Int) ≤ 90) = true := by rw [decide_eq_true_iff]; omega
    have b3 : ((n : Int) == 95) = false := by rw [beq_eq_false_iff_ne]; omega
    have b4 : ((n : Int) == 45) = false := by rw [beq_eq_false_iff_ne]; omega
    have b5 : ((n : Int) == 46) = false := by rw [beq_eq_false_iff_ne]; omega
    go_enter Tryd.func225, Tryd.ntmps225
    go_wp2_with (first | (go_at_call 181; refine (K1.out _).mono ?_; rintro e w1 ⟨rfl, rfl⟩) | (go_at_call 182; refine (K2.out _).mono ?_; rintro e w2 ⟨rfl, rfl⟩))
    go_ret
    exact ⟨ret_bool HW.out.symm, rfl⟩
  · have HW : Hid (wordC n = true) := wordC_yes (by omega)
    rw [betw_no (by omega)] at K1
    rw [betw_no (by omega)] at K2
    have b1 : decide ((65 : Int) ≤ (n : Int)) = false := by rw [decide_eq_false_iff_not]; omega
    have b2 : decide ((n : Int) ≤ 90) = true := by rw [decide_eq_true_iff]; omega
    have b3 : ((n : Int) == 95) = false := by rw [beq_eq_false_iff_ne]; omega
    have b4 : ((n : Int) == 45) = true := by rw [beq_iff_eq]; omega
    have b5 : ((n : Int) == 46) = false := by rw [beq_eq_false_iff_ne]; omega
    go_enter Tryd.func225, Tryd.ntmps225
    go_wp2_with (first | (go_at_call 181; refine (K1.out _).mono ?_; rintro e w1 ⟨rfl, rfl⟩) | (go_at_call 182; refine (K2.out _).mono ?_; rintro e w2 ⟨rfl, rfl⟩))
    go_ret
    exact ⟨ret_bool HW.out.symm, rfl⟩
  · have HW : Hid (wordC n = true) := wordC_yes (by omega)
    rw [betw_no (by omega)] at K1
    rw [betw_no (by omega)] at K2
    have b1 : decide ((65 : Int) ≤ (n : Int)) = false := by rw [decide_eq_false_iff_not]; omega
    have b2 : decide ((n : Int) ≤ 90) = true := by rw [decide_eq_true_iff]; omega
    have b3 : ((n : Int) == 95) = false := by rw [beq_eq_false_iff_ne]; omega
    have b4 : ((n : Int) == 45) = false := by rw [beq_eq_false_iff_ne]; omega
    have b5 : ((n : Int) == 46) = true := by rw [beq_iff_eq]; omega
    go_enter Tryd.func225, Tryd.ntmps225
    go_wp2_with (first | (go_at_call 181; refine (K1.out _).mono ?_; rintro e w1 ⟨rfl, rfl⟩) | (go_at_call 182; refine (K2.out _).mono ?_; rintro e w2 ⟨rfl, rfl⟩))
    go_ret
    exact ⟨ret_bool HW.out.symm, rfl⟩
  · have HW : Hid (wordC n = false) := wordC_no (by omega)
    rw [betw_no (by omega)] at K1
    rw [betw_no (by omega)] at K2
    have b1 : decide ((65 : Int) ≤ (n : Int)) = false := by rw [decide_eq_false_iff_not]; omega
    have b2 : decide ((n : Int) ≤ 90) = true := by rw [decide_eq_true_iff]; omega
    have b3 : ((n : Int) == 95) = false := by rw [beq_eq_false_iff_ne]; omega
    have b4 : ((n : Int) == 45) = false := by rw [beq_eq_false_iff_ne]; omega
    have b5 : ((n : Int) == 46) = false := by rw [beq_eq_false_iff_ne]; omega
    go_enter Tryd.func225, Tryd.ntmps225
    go_wp2_with (first | (go_at_call 181; refine (K1.out _).mono ?_; rintro e w1 ⟨rfl, rfl⟩) | (go_at_call 182; refine (K2.out _).mono ?_; rintro e w2 ⟨rfl, rfl⟩))
    go_ret
    exact ⟨ret_bool HW.out.symm, rfl⟩
  · have HW : Hid (wordC n = true) := wordC_yes (by omega)
    rw [betw_no (by omega)] at K1
    rw [betw_yes (by omega) (by omega)] at K2
    have b1 : decide ((65 : Int) ≤ (n : Int)) = false := by rw [decide_eq_false_iff_not]; omega
    have b2 : decide ((n : Int) ≤ 90) = true := by rw [decide_eq_true_iff]; omega
    have b3 : ((n : Int) == 95) = false := by rw [beq_eq_false_iff_ne]; omega
    have b4 : ((n : Int) == 45) = false := by rw [beq_eq_false_iff_ne]; omega
    have b5 : ((n : Int) == 46) = false := by rw [beq_eq_false_iff_ne]; omega
    go_enter Tryd.func225, Tryd.ntmps225
    go_wp2_with (first | (go_at_call 181; refine (K1.out _).mono ?_; rintro e w1 ⟨rfl, rfl⟩) | (go_at_call 182; refine (K2.out _).mono ?_; rintro e w2 ⟨rfl, rfl⟩))
    go_ret
    exact ⟨ret_bool HW.out.symm, rfl⟩
  · have HW : Hid (wordC n = false) := wordC_no (by omega)
    rw [betw_no (by omega)] at K1
    rw [betw_no (by omega)] at K2
    have b1 : decide ((65 : Int) ≤ (n : Int)) = false := by rw [decide_eq_false_iff_not]; omega
    have b2 : decide ((n : Int) ≤ 90) = true := by rw [decide_eq_true_iff]; omega
    have b3 : ((n : Int) == 95) = false := by rw [beq_eq_false_iff_ne]; omega
    have b4 : ((n : Int) == 45) = false := by rw [beq_eq_false_iff_ne]; omega
    have b5 : ((n : Int) == 46) = false := by rw [beq_eq_false_iff_ne]; omega
    go_enter Tryd.func225, Tryd.ntmps225
    go_wp2_with (first | (go_at_call 181; refine (K1.out _).mono ?_; rintro e w1 ⟨rfl, rfl⟩) | (go_at_call 182; refine (K2.out _).mono ?_; rintro e w2 ⟨rfl, rfl⟩))
    go_ret
    exact ⟨ret_bool HW.out.symm, rfl⟩
  · have HW : Hid (wordC n = true) := wordC_yes (by omega)
    rw [betw_no (by omega)] at K1
    rw [betw_no (by omega)] at K2
    have b1 : decide ((65 : Int) ≤ (n : Int)) = true := by rw [decide_eq_true_iff]; omega
    have b2 : decide ((n : Int) ≤ 90) = true := by rw [decide_eq_true_iff]; omega
    have b3 : ((n : Int) == 95) = false := by rw [beq_eq_false_iff_ne]; omega
    have b4 : ((n : Int) == 45) = false := by rw [beq_eq_false_iff_ne]; omega
    have b5 : ((n : Int) == 46) = false := by rw [beq_eq_false_iff_ne]; omega
    go_enter Tryd.func225, Tryd.ntmps225
    go_wp2_with (first | (go_at_call 181; refine (K1.out _).mono ?_; rintro e w1 ⟨rfl, rfl⟩) | (go_at_call 182; refine (K2.out _).mono ?_; rintro e w2 ⟨rfl, rfl⟩))
    go_ret
    exact ⟨ret_bool HW.out.symm, rfl⟩
  · have HW : Hid (wordC n = false) := wordC_no (by omega)
    rw [betw_no (by omega)] at K1
    rw [betw_no (by omega)] at K2
    have b1 : decide ((65 : Int) ≤ (n : Int)) = true := by rw [decide_eq_true_iff]; omega
    have b2 : decide ((n : Int) ≤ 90) = false := by rw [decide_eq_false_iff_not]; omega
    have b3 : ((n : Int) == 95) = false := by rw [beq_eq_false_iff_ne]; omega
    have b4 : ((n : Int) == 45) = false := by rw [beq_eq_false_iff_ne]; omega
    have b5 : ((n : Int) == 46) = false := by rw [beq_eq_false_iff_ne]; omega
    go_enter Tryd.func225, Tryd.ntmps225
    go_wp2_with (first | (go_at_call 181; refine (K1.out _).mono ?_; rintro e w1 ⟨rfl, rfl⟩) | (go_at_call 182; refine (K2.out _).mono ?_; rintro e w2 ⟨rfl, rfl⟩))
    go_ret
    exact ⟨ret_bool HW.out.symm, rfl⟩
  · have HW : Hid (wordC n = true) := wordC_yes (by omega)
    rw [betw_no (by omega)] at K1
    rw [betw_no (by omega)] at K2
    have b1 : decide ((65 : Int) ≤ (n : Int)) = true := by rw [decide_eq_true_iff]; omega
    have b2 : decide ((n : Int) ≤ 90) = false := by rw [decide_eq_false_iff_not]; omega
    have b3 : ((n : Int) == 95) = true := by rw [beq_iff_eq]; omega
    have b4 : ((n : Int) == 45) = false := by rw [beq_eq_false_iff_ne]; omega
    have b5 : ((n : Int) == 46) = false := by rw [beq_eq_false_iff_ne]; omega
    go_enter Tryd.func225, Tryd.ntmps225
    go_wp2_with (first | (go_at_call 181; refine (K1.out _).mono ?_; rintro e w1 ⟨rfl, rfl⟩) | (go_at_call 182; refine (K2.out _).mono ?_; rintro e w2 ⟨rfl, rfl⟩))
    go_ret
    exact ⟨ret_bool HW.out.symm, rfl⟩
  · have HW : Hid (wordC n = false) := wordC_no (by omega)
    rw [betw_no (by omega)] at K1
    rw [betw_no (by omega)] at K2
    have b1 : decide ((65 : Int) ≤ (n : Int)) = true := by rw [decide_eq_true_iff]; omega
    have b2 : decide ((n : Int) ≤ 90) = false := by rw [decide_eq_false_iff_not]; omega
    have b3 : ((n : Int) == 95) = false := by rw [beq_eq_false_iff_ne]; omega
    have b4 : ((n : Int) == 45) = false := by rw [beq_eq_false_iff_ne]; omega
    have b5 : ((n : Int) == 46) = false := by rw [beq_eq_false_iff_ne]; omega
    go_enter Tryd.func225, Tryd.ntmps225
    go_wp2_with (first | (go_at_call 181; refine (K1.out _).mono ?_; rintro e w1 ⟨rfl, rfl⟩) | (go_at_call 182; refine (K2.out _).mono ?_; rintro e w2 ⟨rfl, rfl⟩))
    go_ret
    exact ⟨ret_bool HW.out.symm, rfl⟩
  · have HW : Hid (wordC n = true) := wordC_yes (by omega)
    rw [betw_yes (by omega) (by omega)] at K1
    rw [betw_no (by omega)] at K2
    have b1 : decide ((65 : Int) ≤ (n : Int)) = true := by rw [decide_eq_true_iff]; omega
    have b2 : decide ((n : Int) ≤ 90) = false := by rw [decide_eq_false_iff_not]; omega
    have b3 : ((n : Int) == 95) = false := by rw [beq_eq_false_iff_ne]; omega
    have b4 : ((n : Int) == 45) = false := by rw [beq_eq_false_iff_ne]; omega
    have b5 : ((n : Int) == 46) = false := by rw [beq_eq_false_iff_ne]; omega
    go_enter Tryd.func225, Tryd.ntmps225
    go_wp2_with (first | (go_at_call 181; refine (K1.out _).mono ?_; rintro e w1 ⟨rfl, rfl⟩) | (go_at_call 182; refine (K2.out _).mono ?_; rintro e w2 ⟨rfl, rfl⟩))
    go_ret
    exact ⟨ret_bool HW.out.symm, rfl⟩
  · have HW : Hid (wordC n = false) := wordC_no (by omega)
    rw [betw_no (by omega)] at K1
    rw [betw_no (by omega)] at K2
    have b1 : decide ((65 : Int) ≤ (n : Int)) = true := by rw [decide_eq_true_iff]; omega
    have b2 : decide ((n : Int) ≤ 90) = false := by rw [decide_eq_false_iff_not]; omega
    have b3 : ((n : Int) == 95) = false := by rw [beq_eq_false_iff_ne]; omega
    have b4 : ((n : Int) == 45) = false := by rw [beq_eq_false_iff_ne]; omega
    have b5 : ((n : Int) == 46) = false := by rw [beq_eq_false_iff_ne]; omega
    go_enter Tryd.func225, Tryd.ntmps225
    go_wp2_with (first | (go_at_call 181; refine (K1.out _).mono ?_; rintro e w1 ⟨rfl, rfl⟩) | (go_at_call 182; refine (K2.out _).mono ?_; rintro e w2 ⟨rfl, rfl⟩))
    go_ret
    exact ⟨ret_bool HW.out.symm, rfl⟩

theorem wordB_long {t : ByteArray} (h : 20 < t.size) : wordB t = false := by unfold wordB; rw [decide_eq_false (show ¬ t.size ≤ 20 by omega), Bool.and_false]
set_option maxRecDepth 10000 in
set_option maxHeartbeats 2000000 in
theorem wordRight_any (t : ByteArray) (w : World) :
    Calls Tryd.prog 207 #[.string t] w fun e w' => e = .returned (.bool (wordB t)) ∧ w' = w := by
  by_cases h20 : 20 < t.size
  · have HR : Hid (wordB t = false) := wordB_long h20
    go_enter Tryd.func207, Tryd.ntmps207
    go_wp2
    go_ret
    exact ⟨ret_bool HR.out.symm, rfl⟩
  have HA : Hid ((∀ k (h : k < t.size), wordC t[k].toNat = false → wordB t = false) ∧ ((∀ i (h : i < t.size), wordC t[i].toNat = true) → wordB t = true)) := ⟨fun k h hk => wordB_at k h hk, fun h => by rw [wordB_all h, decide_eq_true_iff]; omega⟩
  generalize wordB t = R at *
  have q20 : decide ((20 : Int) < (t.size : Int)) = false := by rw [decide_eq_false_iff_not]; omega
  go_enter Tryd.func207, Tryd.ntmps207
  go_wp2
  go_loop [9] (fun i => ∃ k : Nat, k ≤ t.size ∧ i = .int .i64 k ∧ Hid (∀ i (h : i < t.size), i < k → wordC t[i].toNat = true)) (fun i => t.size - (intOf i).toNat)
  case atStart => exact ⟨0, Nat.zero_le _, rfl, fun i _ hi => absurd hi (by omega)⟩
  case round =>
    obtain ⟨k, hk, rfl, HR⟩ := hrel
    by_cases hlt : k < t.size
    · have k0 : (0 : Int) ≤ k := by omega
      have k1 : (k : Int) < t.size := by omega
      have KW : Hid (∀ W, Calls Tryd.prog 225 #[.int .u8 (t[k].toNat : Int)] W fun e w' => e = .returned (.bool (wordC t[k].toNat)) ∧ w' = W) := fun W => inWord_any _ W
      cases hc : wordC t[k].toNat with
      | true =>
        rw [hc] at KW
        have HN : Hid (∀ i (h : i < t.size), i < k + 1 → wordC t[i].toNat = true) := fun i h hi => by
          by_cases e : i = k
          · subst e; exact hc
          · exact HR.out i h (by omega)
        clear hc
        go_wp2_with (go_at_call 225; refine (KW.out _).mono ?_; rintro e w1 ⟨rfl, rfl⟩)
        go_round
        case rel => exact ⟨k + 1, by omega, by go_num, HN⟩
        case measure => simp [intOf]; omega
      | false =>
        rw [hc] at KW
        have HQ : Hid (R = false) := HA.out.1 k hlt hc
        clear hc
        go_wp2_with (go_at_call 225; refine (KW.out _).mono ?_; rintro e w1 ⟨rfl, rfl⟩)
        go_ret
        exact ⟨ret_bool HQ.out.symm, rfl⟩
    · go_wp2
      go_ret
      exact ⟨ret_bool (HA.out.2 (fun i h => HR.out i h (by omega))).symm, rfl⟩
end Go.Proofs.YtimmoclemcnhnaaDoor

/- The walk of the specification's l04PairRight. -/
namespace Go.Proofs.YtimmoclemcnhnaaDoor
open Go.RowKit

def pairV (na va : ByteArray) : Value := .agg #[.string na, .string va]
def pairB (na va : ByteArray) : Bool := !na.toList.isEmpty && wordB na && wordB va
end Go.Proofs.YtimmoclemcnhnaaDoor

/- The first place of a text in another one, and the number that digits tell, as plain functions. -/
namespace Go.Proofs.YtimmoclemcnhnaaDoor
/-- does x stand in t at place i? -/
def isAt (t x : ByteArray) (i : Nat) : Bool := (t.extract i (i + x.size)).toList == x.toList
/-- the first place of x in t among the first i ones -/
def findTo (t x : ByteArray) : Nat → Option Nat
  | 0 => none
  | i + 1 => match findTo t x i with
    | some k => some k
    | none => if i + x.size ≤ t.size ∧ isAt t x i = true then some i else none
def findN (t x : ByteArray) : Option Nat := findTo t x (t.size + 1)
/-- as the specification tells it: -1 of none -/
def findI (t x : ByteArray) : Int := match findN t x with | some k => (k : Int) | none => -1
theorem findTo_hit {t x : ByteArray} {i : Nat} (h : findTo t x i = none) (h1 : i + x.size ≤ t.size) (h2 : isAt t x i = true) : findTo t x (i + 1) = some i := by
  rw [findTo, h]; simp [h1, h2]
theorem findTo_miss {t x : ByteArray} {i : Nat} (h : findTo t x i = none) (h2 : ¬ (i + x.size ≤ t.size ∧ isAt t x i = true)) : findTo t x (i + 1) = none := by
  rw [findTo, h]; simp only; rw [if_neg h2]
theorem findTo_keep {t x : ByteArray} {i k : Nat} (h : findTo t x i = some k) (j : Nat) : findTo t x (i + j) = some k := by
  induction j with
  | zero => exact h
  | succ j ih => rw [← Nat.add_assoc, findTo, ih]
theorem findTo_after {t x : ByteArray} {i : Nat} (h : findTo t x i = none) (hi : t.size < i + x.size) (j : Nat) : findTo t x (i + j) = none := by
  induction j with
  | zero => exact h
  | succ j ih => rw [← Nat.add_assoc]; exact findTo_miss ih (by omega)
theorem findTo_lt {t x : ByteArray} {i k : Nat} (h : findTo t x i = some k) : k < i ∧ k + x.size ≤ t.size ∧ isAt t x k = true := by
  induction i with
  | zero => cases h
  | succ i ih =>
    rw [findTo] at h
    cases hf : findTo t x i with
    | some m =>
      rw [hf] at h
      obtain rfl : m = k := by simpa using h
      have := ih hf
      exact ⟨by omega, this.2⟩
    | none =>
      rw [hf] at h
      simp only at h
      split at h
      · rename_i hc
        obtain rfl : i = k := by simpa using h
        exact ⟨by omega, hc⟩
      · cases h
theorem findI_hit {t x : ByteArray} {i : Nat} (h : findTo t x i = none) (h1 : i + x.size ≤ t.size) (h2 : isAt t x i = true) : findI t x = i := by
  have h3 := findTo_keep (findTo_hit h h1 h2) (t.size - i)
  unfold findI findN
  rw [show t.size + 1 = i + 1 + (t.size - i) by omega, h3]
theorem findI_none {t x : ByteArray} {i : Nat} (h : findTo t x i = none) (hi : t.size < i + x.size) (hle : i ≤ t.size + 1) : findI t x = -1 := by
  have h3 := findTo_after h hi (t.size + 1 - i)
  unfold findI findN
  rw [show t.size + 1 = i + (t.size + 1 - i) by omega, h3]
/-- the number of the first i bytes as digits -/
def numTo (t : ByteArray) : Nat → Nat
  | 0 => 0
  | i + 1 => if h : i < t.size then 10 * numTo t i + (t[i].toNat - 48) else numTo t i
theorem numTo_succ {t : ByteArray} {i : Nat} (h : i < t.size) : numTo t (i + 1) = 10 * numTo t i + (t[i].toNat - 48) := by rw [numTo, dif_pos h]
theorem numTo_lt (t : ByteArray) (hd : ∀ i (h : i < t.size), 48 ≤ t[i].toNat ∧ t[i].toNat ≤ 57) (i : Nat) : numTo t i < 10 ^ i := by
  induction i with
  | zero => exact (by decide : 0 < 10 ^ 0)
  | succ i ih =>
    rw [numTo, Nat.pow_succ]
    split
    · rename_i h
      have := hd i h
      omega
    · omega
def digC (c : Nat) : Bool := decide (48 ≤ c ∧ c ≤ 57)
/-- digits that are no number of at most nine of them: -1 -/
def numI (t : ByteArray) : Int := if 1 ≤ t.size ∧ t.size ≤ 9 ∧ (1 < t.size → ∀ h : 0 < t.size, ¬ t[0].toNat = 48) ∧ ∀ i (h : i < t.size), digC t[i].toNat = true then (numTo t t.size : Int) else -1
theorem numI_size {t : ByteArray} (h : t.size < 1 ∨ 9 < t.size) : numI t = -1 := by
  unfold numI; rw [if_neg]; rintro ⟨a, b, _⟩; omega
theorem numI_first {t : ByteArray} (h : 1 < t.size) (hc : t[0].toNat = 48) : numI t = -1 := by
  unfold numI; rw [if_neg]; rintro ⟨_, _, a, _⟩; exact a h (by omega) hc
theorem numI_at {t : ByteArray} (k : Nat) (h : k < t.size) (hk : digC t[k].toNat = false) : numI t = -1 := by
  unfold numI; rw [if_neg]; rintro ⟨_, _, _, c⟩; rw [c k h] at hk; cases hk
theorem numI_yes {t : ByteArray} (h1 : 1 ≤ t.size) (h2 : t.size ≤ 9) (h3 : 1 < t.size → ∀ h : 0 < t.size, ¬ t[0].toNat = 48) (h : ∀ i (h : i < t.size), digC t[i].toNat = true) : numI t = numTo t t.size := by
  unfold numI; rw [if_pos ⟨h1, h2, h3, h⟩]
theorem digC_yes {c : Nat} (h : 48 ≤ c ∧ c ≤ 57) : digC c = true := by unfold digC; rw [decide_eq_true_iff]; exact h
theorem digC_no {c : Nat} (h : ¬ (48 ≤ c ∧ c ≤ 57)) : digC c = false := by unfold digC; rw [decide_eq_false_iff_not]; exact h
theorem digC_of {c : Nat} (h : digC c = true) : 48 ≤ c ∧ c ≤ 57 := by unfold digC at h; rwa [decide_eq_true_iff] at h
end Go.Proofs.YtimmoclemcnhnaaDoor

/- The walks of the specification's l02Find (from place 0 on) and l02Num. -/
namespace Go.Proofs.YtimmoclemcnhnaaDoor
open Go.RowKit

set_option maxRecDepth 10000 in
set_option maxHeartbeats 400000 in
theorem specFind_any (t x : ByteArray) (w : World) (ht : t.size ≤ 1048576) (hx : x.size ≤ 1048576) :
    Calls Tryd.prog 67 #[.string t, .int .i64 0, .string x] w fun e w' => e = .returned (.int .i64 (findI t x)) ∧ w' = w := by
  go_enter Tryd.func67, Tryd.ntmps67
  go_wp2
  go_loop [7] (fun i => ∃ k : Nat, k ≤ t.size + 1 ∧ i = .int .i64 k ∧ Hid (findTo t x k = none)) (fun i => t.size + 1 - (intOf i).toNat)
  case atStart => exact ⟨0, by omega, rfl, rfl⟩
  case round =>
    obtain ⟨k, hk, rfl, HN⟩ := hrel
    by_cases hle : k + x.size ≤ t.size
    · cases hat : isAt t x k with
      | true =>
        have HF : Hid (findI t x = k) := findI_hit HN.out hle hat
        have q : ((t.extract k (k + x.size)).toList == x.toList) = true := hat
        clear hat
        go_wp2
        go_ret
        exact ⟨ret_int HF.out.symm, rfl⟩
      | false =>
        have HF : Hid (findTo t x (k + 1) = none) := findTo_miss HN.out (by rw [hat]; simp)
        have q : ((t.extract k (k + x.size)).toList == x.toList) = false := hat
        clear hat
        go_wp2
        go_round
        case rel => exact ⟨k + 1, by omega, by go_num, HF⟩
        case measure => simp [intOf]; omega
    · have HF : Hid (findI t x = -1) := findI_none HN.out (by omega) hk
      go_wp2
      go_ret
      exact ⟨ret_int HF.out.symm, rfl⟩
end Go.Proofs.YtimmoclemcnhnaaDoor

/- A text's pieces between '; ', a piece cut at its first '='; the walks of the specification's l04Pieces and l04Pair. -/
namespace Go.Proofs.YtimmoclemcnhnaaDoor
open Go.RowKit

theorem find_in {t x : ByteArray} (h : 0 ≤ findI t x) : (findI t x).toNat + x.size ≤ t.size ∧ findI t x = ((findI t x).toNat : Int) := by
  refine ⟨?_, by omega⟩
  unfold findI findN at *
  cases hf : findTo t x (t.size + 1) with
  | some k =>
    have := (findTo_lt hf).2.1
    simpa using this
  | none => rw [hf] at h; simp at h
theorem findI_neg {t x : ByteArray} (h : ¬ 0 ≤ findI t x) : findI t x = -1 := by
  unfold findI findN at *
  cases hf : findTo t x (t.size + 1) with
  | some k => rw [hf] at h; simp at h
  | none => rfl
/-- '; ' -/
def semi : ByteArray := ⟨#[59, 32]⟩
/-- the pieces of a text between '; ' -/
def piecesL (t : ByteArray) : List ByteArray :=
  if h : 0 ≤ findI t semi then t.extract 0 (findI t semi).toNat :: piecesL (t.extract ((findI t semi).toNat + 2) t.size) else [t]
termination_by t.size
decreasing_by
  have := (find_in h).1
  have e : semi.size = 2 := rfl
  rw [e] at this
  rw [ByteArray.size_extract]; omega
theorem piecesL_more {t : ByteArray} {k : Nat} (h : findI t semi = k) : piecesL t = t.extract 0 k :: piecesL (t.extract (k + 2) t.size) := by
  rw [piecesL, dif_pos (by omega)]
  have e : (findI t semi).toNat = k := by omega
  rw [e]
theorem piecesL_last {t : ByteArray} (h : ¬ 0 ≤ findI t semi) : piecesL t = [t] := by rw [piecesL, dif_neg h]
theorem piecesL_len (t : ByteArray) : (piecesL t).length ≤ t.size + 1 := by
  generalize hn : t.size = n
  induction n using Nat.strongRecOn generalizing t with
  | _ n ih =>
    by_cases h : 0 ≤ findI t semi
    · obtain ⟨h1, h2⟩ := find_in h
      have e : semi.size = 2 := rfl
      rw [e] at h1
      have hz : (t.extract ((findI t semi).toNat + 2) t.size).size = t.size - ((findI t semi).toNat + 2) := by rw [ByteArray.size_extract]; omega
      rw [piecesL_more h2, List.length_cons]
      have := ih _ (by omega) (t.extract ((findI t semi).toNat + 2) t.size) hz
      omega
    · rw [piecesL_last h]; simp
theorem piecesL_small (t : ByteArray) : ∀ x ∈ piecesL t, x.size ≤ t.size := by
  generalize hn : t.size = n
  induction n using Nat.strongRecOn generalizing t with
  | _ n ih =>
    intro x hx
    by_cases h : 0 ≤ findI t semi
    · obtain ⟨h1, h2⟩ := find_in h
      have e : semi.size = 2 := rfl
      rw [e] at h1
      have hz : (t.extract ((findI t semi).toNat + 2) t.size).size = t.size - ((findI t semi).toNat + 2) := by rw [ByteArray.size_extract]; omega
      rw [piecesL_more h2, List.mem_cons] at hx
      rcases hx with hx | hx
      · rw [hx, ByteArray.size_extract]; omega
      · have := ih _ (by omega) (t.extract ((findI t semi).toNat + 2) t.size) hz x hx
        omega
    · rw [piecesL_last h, List.mem_singleton] at hx
      rw [hx]; omega
def szV : Value → Nat
  | .string s => s.size
  | _ => 0

end Go.Proofs.YtimmoclemcnhnaaDoor

/- A piece cut at its first '='; the walk of the specification's l04Pair. -/
namespace Go.Proofs.YtimmoclemcnhnaaDoor
open Go.RowKit

/-- '=' -/
def equ : ByteArray := ⟨#[61]⟩
/-- a piece's name and value -/
def pairP (t : ByteArray) : ByteArray × ByteArray := if 0 ≤ findI t equ then (t.extract 0 (findI t equ).toNat, t.extract ((findI t equ).toNat + 1) t.size) else (t, ⟨#[]⟩)
theorem pairP_yes {t : ByteArray} {k : Nat} (h : findI t equ = k) : pairP t = (t.extract 0 k, t.extract (k + 1) t.size) := by
  have e : (findI t equ).toNat = k := by omega
  rw [pairP, if_pos (by omega), e]
theorem pairP_no {t : ByteArray} (h : ¬ 0 ≤ findI t equ) : pairP t = (t, ⟨#[]⟩) := by rw [pairP, if_neg h]
theorem pairP_size (t : ByteArray) : (pairP t).1.size ≤ t.size ∧ (pairP t).2.size ≤ t.size := by
  unfold pairP
  split
  · exact ⟨by rw [ByteArray.size_extract]; omega, by rw [ByteArray.size_extract]; omega⟩
  · exact ⟨Nat.le_refl _, Nat.zero_le _⟩

end Go.Proofs.YtimmoclemcnhnaaDoor

/- The walks of the program's pairRight and pairText. Written by implset.py. -/
namespace Go.Proofs.YtimmoclemcnhnaaDoor
open Go.RowKit

set_option maxRecDepth 10000 in
set_option maxHeartbeats 2000000 in
theorem pairRight_any (na va : ByteArray) (w : World) :
    Calls Tryd.prog 173 #[pairV na va] w fun e w' => e = .returned (.bool (pairB na va)) ∧ Below w.heap.size w w' := by
  have K1 : Hid (∀ W, Calls Tryd.prog 207 #[.string na] W fun e w' => e = .returned (.bool (wordB na)) ∧ w' = W) := fun W => wordRight_any na W
  have K2 : Hid (∀ W, Calls Tryd.prog 207 #[.string va] W fun e w' => e = .returned (.bool (wordB va)) ∧ w' = W) := fun W => wordRight_any va W
  have HP : Hid (pairB na va = (!na.toList.isEmpty && wordB na && wordB va)) := rfl
  generalize pairB na va = R at *
  generalize wordB na = b1 at *
  generalize wordB va = b2 at *
  unfold pairV
  cases he : na.toList.isEmpty with
  | true =>
    have HR : Hid (R = false) := by show _ = _; rw [HP.out, he]; rfl
    go_enter Tryd.func173, Tryd.ntmps173
    go_wp2
    go_ret
    exact ⟨ret_bool HR.out.symm, (Below.refl _ _).alloc (Nat.le_refl _) _⟩
  | false =>
    cases b1 with
    | false =>
      have HR : Hid (R = false) := by show _ = _; rw [HP.out, he]; rfl
      go_enter Tryd.func173, Tryd.ntmps173
      go_wp2_with fail
      refine (K1.out _).mono ?_
      rintro e w1 ⟨rfl, rfl⟩
      go_wp2
      go_ret
      exact ⟨ret_bool HR.out.symm, (Below.refl _ _).alloc (Nat.le_refl _) _⟩
    | true =>
      have HR : Hid (R = b2) := by show _ = _; rw [HP.out, he]; cases b2 <;> rfl
      go_enter Tryd.func173, Tryd.ntmps173
      go_wp2_with fail
      refine (K1.out _).mono ?_
      rintro e w1 ⟨rfl, rfl⟩
      go_wp2_with fail
      refine (K2.out _).mono ?_
      rintro e w2 ⟨rfl, rfl⟩
      go_wp2
      go_ret
      exact ⟨ret_bool HR.out.symm, (Below.refl _ _).alloc (Nat.le_refl _) _⟩
end Go.Proofs.YtimmoclemcnhnaaDoor

/- The walks of the program's pairRight, modeRight and SetRight. Written by implset.py. -/
namespace Go.Proofs.YtimmoclemcnhnaaDoor
open Go.RowKit

set_option maxRecDepth 10000 in
set_option maxHeartbeats 1000000 in
theorem modeRight_any (mo : Int) (w : World) :
    Calls Tryd.prog 174 #[.int .i64 mo] w fun e w' => e = .returned (.bool (modeB mo)) ∧ w' = w := by
  have HM : Hid (modeB mo = (decide (0 ≤ mo) && decide (mo ≤ 2))) := rfl
  generalize modeB mo = R at *
  by_cases h0 : 0 ≤ mo
  · have q0 : decide ((0 : Int) ≤ mo) = true := by rw [decide_eq_true_iff]; exact h0
    go_enter Tryd.func174, Tryd.ntmps174
    go_wp2
    go_ret
    exact ⟨ret_bool (by rw [HM.out, q0]; rfl), rfl⟩
  · have q0 : decide ((0 : Int) ≤ mo) = false := by rw [decide_eq_false_iff_not]; exact h0
    go_enter Tryd.func174, Tryd.ntmps174
    go_wp2
    go_ret
    exact ⟨ret_bool (by rw [HM.out, q0]; rfl), rfl⟩
end Go.Proofs.YtimmoclemcnhnaaDoor

/- The walk of the program's CookieRight. Written by cookie6.py. -/
namespace Go.Proofs.YtimmoclemcnhnaaDoor
open Go.RowKit

set_option maxRecDepth 10000 in
theorem isTime_any (n : Int) (w : World) :
    Calls Tryd.prog 80 #[.int .i64 n] w fun e w' => e = .returned (.bool (timeB n)) ∧ w' = w := by
  have HM : Hid (timeB n = (decide (0 ≤ n) && decide (n ≤ 1000000))) := rfl
  generalize timeB n = R at *
  by_cases h0 : 0 ≤ n
  · have q0 : decide ((0 : Int) ≤ n) = true := by rw [decide_eq_true_iff]; exact h0
    go_enter Tryd.func80, Tryd.ntmps80
    go_wp2
    go_ret
    exact ⟨ret_bool (by rw [HM.out, q0]; rfl), rfl⟩
  · have q0 : decide ((0 : Int) ≤ n) = false := by rw [decide_eq_false_iff_not]; exact h0
    go_enter Tryd.func80, Tryd.ntmps80
    go_wp2
    go_ret
    exact ⟨ret_bool (by rw [HM.out, q0]; rfl), rfl⟩
set_option maxRecDepth 10000 in
theorem partRight_any (t : ByteArray) (w : World) :
    Calls Tryd.prog 79 #[.string t] w fun e w' => e = .returned (.bool (partB t)) ∧ w' = w := by
  have HE : Hid (partB t = decide ((t.size : Int) ≤ 120)) := by show _ = _; unfold partB; rw [decide_eq_decide]; omega
  go_enter Tryd.func79, Tryd.ntmps79
  go_wp2
  go_ret
  exact ⟨ret_bool HE.out.symm, rfl⟩
set_option maxRecDepth 10000 in
set_option maxHeartbeats 4000000 in
theorem cookieRight_any (c : Ck) (w : World) (hG : MaxI w) (hho : c.ho.size ≤ 1048576) :
    Calls Tryd.prog 123 #[ckV c] w fun e w' => e = .returned (.bool (ckB c)) ∧ Below w.heap.size w w' := by
  obtain ⟨na, va, ho, al, pa, se, mo, pt, un, ma⟩ := c
  dsimp only at hho
  have K1 : Hid (∀ W, Calls Tryd.prog 173 #[.agg #[.string na, .string va]] W fun e w' => e = .returned (.bool (pairB na va)) ∧ Below W.heap.size W w') := fun W => pairRight_any na va W
  have K3 : Hid (∀ W, Below w.heap.size w W → Calls Tryd.prog 50 #[.string ho] W fun e w' => e = .returned (.bool (hostB ho)) ∧ Below W.heap.size W w') := fun W hb => hostRight_any ho W (hG.on hb) hho
  have K4 : Hid (∀ W, Calls Tryd.prog 128 #[.string pa] W fun e w' => e = .returned (.bool (pathB pa)) ∧ Below W.heap.size W w') := fun W => pathRight_any pa W
  have K5 : Hid (∀ W, Calls Tryd.prog 174 #[.int .i64 mo] W fun e w' => e = .returned (.bool (modeB mo)) ∧ w' = W) := fun W => modeRight_any mo W
  have K6 : Hid (∀ W, Calls Tryd.prog 79 #[.string pt] W fun e w' => e = .returned (.bool (partB pt)) ∧ w' = W) := fun W => partRight_any pt W
  have K7 : Hid (∀ W, Calls Tryd.prog 80 #[.int .i64 un] W fun e w' => e = .returned (.bool (timeB un)) ∧ w' = W) := fun W => isTime_any un W
  have K8 : Hid (∀ W, Calls Tryd.prog 80 #[.int .i64 ma] W fun e w' => e = .returned (.bool (timeB ma)) ∧ w' = W) := fun W => isTime_any ma W
  have HE : Hid (ckB ⟨na, va, ho, al, pa, se, mo, pt, un, ma⟩ = (pairB na va && hostB ho && pathB pa && modeB mo && partB pt && timeB un && timeB ma && safeB se mo pt)) := rfl
  clear hG hho
  unfold ckV
  dsimp only
  generalize ckB ⟨na, va, ho, al, pa, se, mo, pt, un, ma⟩ = R at *
  generalize pairB na va = b1 at *
  generalize hostB ho = b3 at *
  generalize pathB pa = b4 at *
  generalize modeB mo = b5 at *
  generalize partB pt = b6 at *
  generalize timeB un = b7 at *
  generalize timeB ma = b8 at *
  go_enter Tryd.func123, Tryd.ntmps123
  go_wp2_with fail
  refine (K1.out _).mono ?_
  rintro e w1 ⟨rfl, hb1⟩
  have hz_w1 : w.heap.size < w1.heap.size := by have := hb1.size; simp at this; omega
  have g2_w1 : w1.cell? ⟨w.heap.size, 2, none⟩ = some (.string ho) := by rw [(bcell hb1).1 _ _ (by simp)]; simp
  have g4_w1 : w1.cell? ⟨w.heap.size, 4, none⟩ = some (.string pa) := by rw [(bcell hb1).1 _ _ (by simp)]; simp
  have g5_w1 : w1.cell? ⟨w.heap.size, 5, none⟩ = some (.bool se) := by rw [(bcell hb1).1 _ _ (by simp)]; simp
  have g6_w1 : w1.cell? ⟨w.heap.size, 6, none⟩ = some (.int .i64 mo) := by rw [(bcell hb1).1 _ _ (by simp)]; simp
  have g7_w1 : w1.cell? ⟨w.heap.size, 7, none⟩ = some (.string pt) := by rw [(bcell hb1).1 _ _ (by simp)]; simp
  have g8_w1 : w1.cell? ⟨w.heap.size, 8, none⟩ = some (.int .i64 un) := by rw [(bcell hb1).1 _ _ (by simp)]; simp
  have g9_w1 : w1.cell? ⟨w.heap.size, 9, none⟩ = some (.int .i64 ma) := by rw [(bcell hb1).1 _ _ (by simp)]; simp
  have B_w1 : Hid (Below w.heap.size w w1) := ((Below.refl _ _).alloc (Nat.le_refl _) _).trans (hb1.mono (by simp))
  clear hb1
  cases b1 with
  | false =>
    go_wp2
    go_ret
    exact ⟨ret_bool (by rw [HE.out]; first | rfl | simp [*]), B_w1.out⟩
  | true =>
    go_wp2_with fail
    refine (K3.out _ B_w1.out).mono ?_
    rintro e w3 ⟨rfl, hb3⟩
    have g4_w3 : w3.cell? ⟨w.heap.size, 4, none⟩ = some (.string pa) := by rw [(bcell hb3).1 _ _ hz_w1]; exact g4_w1
    have g5_w3 : w3.cell? ⟨w.heap.size, 5, none⟩ = some (.bool se) := by rw [(bcell hb3).1 _ _ hz_w1]; exact g5_w1
    have g6_w3 : w3.cell? ⟨w.heap.size, 6, none⟩ = some (.int .i64 mo) := by rw [(bcell hb3).1 _ _ hz_w1]; exact g6_w1
    have g7_w3 : w3.cell? ⟨w.heap.size, 7, none⟩ = some (.string pt) := by rw [(bcell hb3).1 _ _ hz_w1]; exact g7_w1
    have g8_w3 : w3.cell? ⟨w.heap.size, 8, none⟩ = some (.int .i64 un) := by rw [(bcell hb3).1 _ _ hz_w1]; exact g8_w1
    have g9_w3 : w3.cell? ⟨w.heap.size, 9, none⟩ = some (.int .i64 ma) := by rw [(bcell hb3).1 _ _ hz_w1]; exact g9_w1
    have hz_w3 : w.heap.size < w3.heap.size := Nat.lt_of_lt_of_le hz_w1 hb3.size
    have B_w3 : Hid (Below w.heap.size w w3) := B_w1.out.trans (hb3.mono B_w1.out.size)
    clear hb3 g2_w1 g4_w1 g5_w1 g6_w1 g7_w1 g8_w1 g9_w1
    cases b3 with
    | false =>
      go_wp2
      go_ret
      exact ⟨ret_bool (by rw [HE.out]; first | rfl | simp [*]), B_w3.out⟩
    | true =>
      go_wp2_with fail
      refine (K4.out _).mono ?_
      rintro e w4 ⟨rfl, hb4⟩
      have g5_w4 : w4.cell? ⟨w.heap.size, 5, none⟩ = some (.bool se) := by rw [(bcell hb4).1 _ _ hz_w3]; exact g5_w3
      have g6_w4 : w4.cell? ⟨w.heap.size, 6, none⟩ = some (.int .i64 mo) := by rw [(bcell hb4).1 _ _ hz_w3]; exact g6_w3
      have g7_w4 : w4.cell? ⟨w.heap.size, 7, none⟩ = some (.string pt) := by rw [(bcell hb4).1 _ _ hz_w3]; exact g7_w3
      have g8_w4 : w4.cell? ⟨w.heap.size, 8, none⟩ = some (.int .i64 un) := by rw [(bcell hb4).1 _ _ hz_w3]; exact g8_w3
      have g9_w4 : w4.cell? ⟨w.heap.size, 9, none⟩ = some (.int .i64 ma) := by rw [(bcell hb4).1 _ _ hz_w3]; exact g9_w3
      have hz_w4 : w.heap.size < w4.heap.size := Nat.lt_of_lt_of_le hz_w3 hb4.size
      have B_w4 : Hid (Below w.heap.size w w4) := B_w3.out.trans (hb4.mono B_w3.out.size)
      clear hb4 g4_w3 g5_w3 g6_w3 g7_w3 g8_w3 g9_w3
      cases b4 with
      | false =>
        go_wp2
        go_ret
        exact ⟨ret_bool (by rw [HE.out]; first | rfl | simp [*]), B_w4.out⟩
      | true =>
        go_wp2_with fail
        refine (K5.out _).mono ?_
        rintro e _ ⟨rfl, rfl⟩
        cases b5 with
        | false =>
          go_wp2
          go_ret
          exact ⟨ret_bool (by rw [HE.out]; first | rfl | simp [*]), B_w4.out⟩
        | true =>
          go_wp2_with fail
          refine (K6.out _).mono ?_
          rintro e _ ⟨rfl, rfl⟩
          cases b6 with
          | false =>
            go_wp2
            go_ret
            exact ⟨ret_bool (by rw [HE.out]; first | rfl | simp [*]), B_w4.out⟩
          | true =>
            go_wp2_with fail
            refine (K7.out _).mono ?_
            rintro e _ ⟨rfl, rfl⟩
            cases b7 with
            | false =>
              go_wp2
              go_ret
              exact ⟨ret_bool (by rw [HE.out]; first | rfl | simp [*]), B_w4.out⟩
            | true =>
              go_wp2_with fail
              refine (K8.out _).mono ?_
              rintro e _ ⟨rfl, rfl⟩
              cases b8 with
              | false =>
                go_wp2
                go_ret
                exact ⟨ret_bool (by rw [HE.out]; first | rfl | simp [*]), B_w4.out⟩
              | true =>
                cases se with
                | true =>
                  go_wp2
                  go_ret
                  exact ⟨ret_bool (by rw [HE.out]; first | rfl | simp [*]), B_w4.out⟩
                | false =>
                  by_cases hm2 : mo = 2
                  · have qm : (mo != 2) = false := by rw [hm2]; rfl
                    have HS : Hid (safeB false mo pt = false) := by show _ = _; unfold safeB; rw [qm]; rfl
                    clear hm2
                    go_wp2
                    go_ret
                    exact ⟨ret_bool (by rw [HE.out]; first | rfl | (rw [HS.out]; rfl) | simp [*]), B_w4.out⟩
                  · have qm : (mo != 2) = true := by rw [bne_iff_ne]; exact hm2
                    have HS : Hid (safeB false mo pt = pt.toList.isEmpty) := by show _ = _; unfold safeB; rw [qm]; rfl
                    clear hm2
                    go_wp2
                    go_ret
                    exact ⟨ret_bool (by rw [HE.out]; first | rfl | (rw [HS.out]; rfl) | simp [*]), B_w4.out⟩
end Go.Proofs.YtimmoclemcnhnaaDoor
