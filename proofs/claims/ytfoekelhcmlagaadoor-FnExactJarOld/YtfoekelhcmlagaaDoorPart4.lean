/- 10 of this claim's texts, one behind the other. -/
import Derived.Test.YtfoekelhcmlagaaDoorPart1
import Derived.Lib.SplitLaws
import Derived.Test.YtfoekelhcmlagaaDoorShelf
import Derived.WalkKit
import Derived.WalkSpells
import Derived.WalkLawsBesides
import Derived.Laws.RangeAny
import Derived.Deep.QuietTactic
import Derived.BigQuiet
import Derived.Deep.RegionWith
import Derived.Test.YtfoekelhcmlagaaDoorPart3
/- What the library's Split cuts a text into at a byte is splitB's list. -/
namespace Go.Proofs.YtfoekelhcmlagaaDoor
theorem first_split {c : UInt8} : ∀ {l : List UInt8}, c ∈ l → ∃ A B, l = A ++ c :: B ∧ ∀ x ∈ A, x ≠ c
  | [], h => by cases h
  | b :: l, h => by
    by_cases e : b = c
    · exact ⟨[], l, by rw [e]; rfl, fun x hx => by cases hx⟩
    · obtain ⟨A, B, rfl, hA⟩ := first_split (l := l) (by cases h with | head => exact absurd rfl e | tail _ h => exact h)
      refine ⟨b :: A, B, rfl, ?_⟩
      intro x hx
      cases hx with
      | head => exact e
      | tail _ hx => exact hA x hx
/-- a list of bytes cut at a byte -/
def cutL (c : UInt8) : List UInt8 → List (List UInt8)
  | [] => [[]]
  | b :: l => if b = c then [] :: cutL c l else match cutL c l with
    | [] => [[b]]
    | p :: r => (b :: p) :: r
theorem cutL_none (c : UInt8) : ∀ A : List UInt8, (∀ x ∈ A, x ≠ c) → cutL c A = [A]
  | [], _ => rfl
  | b :: A, h => by
    rw [cutL, if_neg (h b (by simp)), cutL_none c A (fun x hx => h x (by simp [hx]))]
theorem cutL_app (c : UInt8) (B : List UInt8) : ∀ A : List UInt8, (∀ x ∈ A, x ≠ c) → cutL c (A ++ c :: B) = A :: cutL c B
  | [], _ => by rw [List.nil_append, cutL, if_pos rfl]
  | b :: A, h => by
    rw [List.cons_append, cutL, if_neg (h b (by simp)), cutL_app c B A (fun x hx => h x (by simp [hx]))]
theorem index_one (c : UInt8) (A B : List UInt8) (h : ∀ x ∈ A, x ≠ c) : Lib.index (A ++ c :: B) [c] = A.length := by
  refine Lib.index_first (by simp) ?_ ?_
  · simp [Lib.occAt]
  · intro j hj
    rw [← Bool.not_eq_true]
    intro ho
    have e := Lib.occAt_head rfl ho
    rw [List.getElem?_append_left hj] at e
    exact h c (List.mem_of_getElem? e) rfl
theorem splitK_cutL (c : UInt8) : ∀ (k : Nat) (l : List UInt8), l.count c = k → Lib.splitK [c] 0 k l = cutL c l
  | 0, l, h => by
    rw [cutL_none c l (fun x hx e => by subst e; exact absurd (List.count_pos_iff.2 hx) (by omega))]
    rfl
  | k + 1, l, h => by
    obtain ⟨A, B, rfl, hA⟩ := first_split (List.count_pos_iff.1 (show 0 < l.count c by omega))
    have hi := index_one c A B hA
    have h0 : A.count c = 0 := List.count_eq_zero.2 (fun hx => hA c hx rfl)
    have hB : B.count c = k := by
      rw [List.count_append, List.count_cons_self, h0] at h; omega
    rw [Lib.splitK, if_neg (by rw [hi, beq_iff_eq]; omega), hi, cutL_app c B A hA]
    congr 1
    · simp
    · rw [← splitK_cutL c k B hB]
      congr 1
      rw [show ((A.length : Int)).toNat + [c].length = A.length + 1 by simp, ← List.drop_drop, List.drop_left]
      rfl
theorem extract_list (s : ByteArray) (a b : Nat) : (s.extract a b).data.toList = (s.data.toList.drop a).take (b - a) := by
  simp
theorem byte_list {s : ByteArray} {i : Nat} (h : i < s.size) : s.data.toList[i]'(by simpa using h) = s[i] := by simp; rfl
theorem splitTo_cut (s : ByteArray) (c : UInt8) : ∀ i, i ≤ s.size →
    cutL c s.data.toList = (splitTo s c.toNat i).1.map (·.data.toList) ++ cutL c (s.data.toList.drop (splitTo s c.toNat i).2) ∧
      ∀ j (h : j < s.size), (splitTo s c.toNat i).2 ≤ j → j < i → s[j] ≠ c
  | 0, _ => ⟨by simp [splitTo], fun j _ _ h => by omega⟩
  | i + 1, hi => by
    obtain ⟨e, hn⟩ := splitTo_cut s c i (by omega)
    have hlt : i < s.size := by omega
    have hle := (splitTo_le s c.toNat i).1
    by_cases hc : s[i].toNat = c.toNat
    · rw [splitTo_hit hlt hc]
      refine ⟨?_, fun j _ h1 h2 => by simp at h1; omega⟩
      rw [e]
      generalize (splitTo s c.toNat i).2 = f at *
      have hl : i < s.data.toList.length := by simpa using hlt
      have hd : s.data.toList.drop f = ((s.data.toList.drop f).take (i - f)) ++ c :: s.data.toList.drop (i + 1) := by
        have hci : s.data.toList[i] = c := by rw [byte_list hlt]; exact UInt8.toNat_inj.1 hc
        conv => lhs; rw [← List.take_append_drop (i - f) (s.data.toList.drop f)]
        congr 1
        rw [List.drop_drop, show f + (i - f) = i by omega, List.drop_eq_getElem_cons hl, hci]
      have hA : ∀ x ∈ (s.data.toList.drop f).take (i - f), x ≠ c := by
        intro x hx
        obtain ⟨k, hk, rfl⟩ := List.getElem_of_mem hx
        have hk2 : k < i - f := by rw [List.length_take] at hk; omega
        rw [List.getElem_take, List.getElem_drop]
        have := hn (f + k) (by omega) (by omega) (by omega)
        rw [← byte_list (by omega)] at this
        exact this
      conv => lhs; rw [hd, cutL_app c _ _ hA]
      simp
    · rw [splitTo_miss hlt hc]
      refine ⟨e, fun j h h1 h2 => ?_⟩
      by_cases hj : j = i
      · subst hj; exact fun e => hc (by rw [e])
      · exact hn j h h1 (by omega)
theorem splitB_cut (s : ByteArray) (c : UInt8) : (splitB s c.toNat).map (·.data.toList) = cutL c s.data.toList := by
  obtain ⟨e, hn⟩ := splitTo_cut s c s.size (Nat.le_refl _)
  have hle := (splitTo_le s c.toNat s.size).1
  unfold splitB
  rw [e]
  generalize (splitTo s c.toNat s.size).2 = f at *
  rw [cutL_none c (s.data.toList.drop f)]
  · rw [List.map_append]; congr 1
    simp only [List.map_cons, List.map_nil, extract_list]
    rw [List.take_of_length_le (by simp)]
  · intro x hx
    obtain ⟨k, hk, rfl⟩ := List.getElem_of_mem hx
    rw [List.getElem_drop]
    have hk2 : f + k < s.size := by rw [List.length_drop] at hk; simp at hk; omega
    have := hn (f + k) hk2 (by omega) hk2
    rw [← byte_list hk2] at this
    exact this
theorem datas_inj : ∀ {A B : List ByteArray}, A.map (·.data.toList) = B.map (·.data.toList) → A = B
  | [], [], _ => rfl
  | [], b :: B, h => by cases h
  | a :: A, [], h => by cases h
  | a :: A, b :: B, h => by
    simp only [List.map_cons, List.cons.injEq] at h
    obtain ⟨h1, h2⟩ := h
    rw [datas_inj h2]
    congr 1
    cases a; cases b
    congr 1
    exact Array.toList_inj.1 h1
theorem lib_split (s : ByteArray) (c : UInt8) : Lib.splitB ⟨#[c]⟩ 0 (Lib.countB s ⟨#[c]⟩) s = splitB s c.toNat := by
  apply datas_inj
  rw [Lib.splitB_data, splitB_cut]
  exact splitK_cutL c _ _ (Lib.count_one c s.data.toList).symm
theorem lib_count (s : ByteArray) (c : UInt8) : Lib.countB s ⟨#[c]⟩ + 1 = (splitB s c.toNat).length := by
  rw [← lib_split, Lib.splitB_all ⟨#[c]⟩ (Nat.le_refl 1) 0 _ s rfl]
end Go.Proofs.YtfoekelhcmlagaaDoor

/- The library's Split and the digits of a number, as the program calls them, over the contracts laid at this translation. -/
namespace Go.Proofs.YtfoekelhcmlagaaDoor
open Go.RowKit

/-- the library's variable MaxLen holds some number -/
def MaxI (w : World) : Prop := ∃ m : Int, w.cell? ⟨4, 0, none⟩ = some (.int .i64 m)
theorem MaxI.on {w w' : World} (h : MaxI w) (hb : Below w.heap.size w w') : MaxI w' := by
  obtain ⟨m, hm⟩ := h
  have hlt : 4 < w.heap.size := by
    by_cases h : 4 < w.heap.size
    · exact h
    · exfalso
      simp [World.cell?, Array.getElem?_eq_none (show w.heap.size ≤ 4 by omega)] at hm
  exact ⟨m, by rw [(bcell hb).1 _ _ hlt]; exact hm⟩

theorem split_call (s : ByteArray) (w : World) (hG : MaxI w) (hs : s.size < 4294967281) :
    Calls Tryd.prog 78 #[.string s, .string ⟨#[46]⟩] w fun e w' => e = .returned (.slice (some ⟨w.heap.size, 0, none⟩) (splitB s 46).length (splitB s 46).length) ∧ w' = w.alloc (.cells (strCells (splitB s 46)).toArray 9) := by
  obtain ⟨m, hm⟩ := hG
  have h := Any.strings_Split { Tryd.lays146 with } Tryd.lays146.i9 s ⟨#[46]⟩ m w hs hm (Nat.le_refl 1)
  rw [lib_split s 46, lib_count s 46] at h
  exact h
/-- all cuts and the bytes between them -/
theorem cutL_sum (c : UInt8) : ∀ l : List UInt8, ((cutL c l).map (fun p => p.length + 1)).sum = l.length + 1
  | [] => rfl
  | b :: l => by
    have ih := cutL_sum c l
    rw [cutL]
    split
    · simp only [List.map_cons, List.sum_cons, List.length_nil, List.length_cons, ih]; omega
    · split
      · rename_i h; rw [h] at ih; simp at ih
      · rename_i h
        rw [h] at ih
        simp only [List.map_cons, List.sum_cons, List.length_cons] at ih ⊢
        omega
theorem sum_le (L : List ByteArray) (h : ∀ x ∈ L, x.size ≤ 12) : (L.map (fun p => p.data.toList.length + 1)).sum ≤ 13 * L.length := by
  induction L with
  | nil => exact Nat.le_refl _
  | cons a L ih =>
    have h1 := h a (by simp)
    have h2 := ih (fun x hx => h x (by simp [hx]))
    have e : a.data.toList.length = a.size := (Lib.size_eq a).symm
    simp only [List.map_cons, List.sum_cons, List.length_cons, e]
    omega
theorem labelB_le {t : ByteArray} (h : labelB t = true) : t.size ≤ 12 := by
  by_cases hz : 12 < t.size
  · rw [labelB_size (.inr hz)] at h; cases h
  · omega
theorem host_size {s : ByteArray} (hn : (splitB s 46).length ≤ 6) (h : ∀ k (h : k < (splitB s 46).length), labelB ((splitB s 46)[k]) = true) : s.size ≤ 100 := by
  have e := splitB_cut s 46
  have e2 := cutL_sum 46 s.data.toList
  rw [← e, List.map_map] at e2
  have e3 := sum_le (splitB s 46) (fun x hx => by
    obtain ⟨k, hk, rfl⟩ := List.getElem_of_mem hx
    exact labelB_le (h k hk))
  have e4 : s.data.toList.length = s.size := (Lib.size_eq s).symm
  have e5 : ((splitB s 46).map (fun p => p.data.toList.length + 1)).sum = s.size + 1 := by rw [← e4]; exact e2
  omega
theorem hostB_six {s : ByteArray} (hn : (splitB s 46).length ≤ 6) (h : ∀ k (h : k < (splitB s 46).length), labelB ((splitB s 46)[k]) = true) : hostB s = true := by
  rw [hostB_all (host_size hn h) h]; simpa using hn
theorem hostB_many {s : ByteArray} (hn : 6 < (splitB s 46).length) : hostB s = false := by
  unfold hostB; rw [decide_eq_false (show ¬ (splitB s 46).length ≤ 6 by omega)]; simp
end Go.Proofs.YtfoekelhcmlagaaDoor

/- The walks of the program's inLabel, labelRight and pathRight. -/
namespace Go.Proofs.YtfoekelhcmlagaaDoor
open Go.RowKit

set_option maxRecDepth 10000 in
set_option maxHeartbeats 400000 in
theorem inLabel_any (n : Nat) (w : World) :
    Calls Tryd.prog 161 #[.int .i32 n] w fun e w' => e = .returned (.bool (labC n)) ∧ w' = w := by
  rcases (show (n < 45) ∨ (45 ≤ n ∧ n ≤ 45) ∨ (46 ≤ n ∧ n < 48) ∨ (48 ≤ n ∧ n ≤ 57) ∨ (58 ≤ n ∧ n < 97) ∨ (97 ≤ n ∧ n ≤ 122) ∨ (122 < n) by omega)
    with c1 | ⟨c1, c2⟩ | ⟨c1, c2⟩ | ⟨c1, c2⟩ | ⟨c1, c2⟩ | ⟨c1, c2⟩ | c1
  · have b1 : decide ((97 : Int) ≤ (n : Int)) = false := by rw [decide_eq_false_iff_not]; omega
    have b2 : decide ((48 : Int) ≤ (n : Int)) = false := by rw [decide_eq_false_iff_not]; omega
    have b3 : ((n : Int) == 45) = false := by rw [beq_eq_false_iff_ne]; omega
    go_enter Tryd.func161, Tryd.ntmps161
    go_wp2
    go_ret
    exact ⟨ret_bool (labC_no (by omega)).symm, rfl⟩
  · have b1 : decide ((97 : Int) ≤ (n : Int)) = false := by rw [decide_eq_false_iff_not]; omega
    have b2 : decide ((48 : Int) ≤ (n : Int)) = false := by rw [decide_eq_false_iff_not]; omega
    have b3 : ((n : Int) == 45) = true := by rw [beq_iff_eq]; omega
    go_enter Tryd.func161, Tryd.ntmps161
    go_wp2
    go_ret
    exact ⟨ret_bool (labC_yes (by omega)).symm, rfl⟩
  · have b1 : decide ((97 : Int) ≤ (n : Int)) = false := by rw [decide_eq_false_iff_not]; omega
    have b2 : decide ((48 : Int) ≤ (n : Int)) = false := by rw [decide_eq_false_iff_not]; omega
    have b3 : ((n : Int) == 45) = false := by rw [beq_eq_false_iff_ne]; omega
    go_enter Tryd.func161, Tryd.ntmps161
    go_wp2
    go_ret
    exact ⟨ret_bool (labC_no (by omega)).symm, rfl⟩
  · have b1 : decide ((97 : Int) ≤ (n : Int)) = false := by rw [decide_eq_false_iff_not]; omega
    go_enter Tryd.func161, Tryd.ntmps161
    go_wp2
    go_ret
    exact ⟨ret_bool (labC_yes (by omega)).symm, rfl⟩
  · have b1 : decide ((97 : Int) ≤ (n : Int)) = false := by rw [decide_eq_false_iff_not]; omega
    have b2 : decide ((n : Int) ≤ 57) = false := by rw [decide_eq_false_iff_not]; omega
    have b3 : ((n : Int) == 45) = false := by rw [beq_eq_false_iff_ne]; omega
    go_enter Tryd.func161, Tryd.ntmps161
    go_wp2
    go_ret
    exact ⟨ret_bool (labC_no (by omega)).symm, rfl⟩
  · go_enter Tryd.func161, Tryd.ntmps161
    go_wp2
    go_ret
    exact ⟨ret_bool (labC_yes (by omega)).symm, rfl⟩
  · have b1 : decide ((n : Int) ≤ 122) = false := by rw [decide_eq_false_iff_not]; omega
    have b2 : decide ((n : Int) ≤ 57) = false := by rw [decide_eq_false_iff_not]; omega
    have b3 : ((n : Int) == 45) = false := by rw [beq_eq_false_iff_ne]; omega
    go_enter Tryd.func161, Tryd.ntmps161
    go_wp2
    go_ret
    exact ⟨ret_bool (labC_no (by omega)).symm, rfl⟩

set_option maxRecDepth 10000 in
set_option maxHeartbeats 400000 in
theorem labelRight_any (t : ByteArray) (w : World) (ht : t.size ≤ 9223372036854775807) :
    Calls Tryd.prog 130 #[.string t] w fun e w' => e = .returned (.bool (labelB t)) ∧ Below w.heap.size w w' := by
  by_cases h1 : t.size < 1
  · have q1 : decide ((t.size : Int) - 1 < 0) = true := by rw [decide_eq_true_iff]; omega
    go_enter Tryd.func130, Tryd.ntmps130
    go_wp2
    go_ret
    exact ⟨ret_bool (labelB_size (.inl h1)).symm, Below.refl _ _⟩
  have q1 : decide ((t.size : Int) - 1 < 0) = false := by rw [decide_eq_false_iff_not]; omega
  by_cases h2 : 12 < t.size
  · have q2 : decide ((12 : Int) ≤ (t.size : Int) - 1) = true := by rw [decide_eq_true_iff]; omega
    go_enter Tryd.func130, Tryd.ntmps130
    go_wp2
    go_ret
    exact ⟨ret_bool (labelB_size (.inr h2)).symm, Below.refl _ _⟩
  have q2 : decide ((12 : Int) ≤ (t.size : Int) - 1) = false := by rw [decide_eq_false_iff_not]; omega
  have hp : 0 < t.size := by omega
  have hl : t.size - 1 < t.size := by omega
  by_cases h3 : t[0].toNat = 45
  · have q3 : ((t[0].toNat : Int) == 45) = true := by rw [beq_iff_eq]; omega
    have H3 : Hid (t[0].toNat = 45) := h3
    clear h3
    go_enter Tryd.func130, Tryd.ntmps130
    go_wp2
    go_ret
    exact ⟨ret_bool (labelB_first hp H3.out).symm, Below.refl _ _⟩
  have q3 : ((t[0].toNat : Int) == 45) = false := by rw [beq_eq_false_iff_ne]; omega
  have H3 : Hid (¬ t[0].toNat = 45) := h3
  clear h3
  by_cases h4 : t[t.size - 1].toNat = 45
  · have q4 : ((t[t.size - 1].toNat : Int) == 45) = true := by rw [beq_iff_eq]; omega
    have H4 : Hid (t[t.size - 1].toNat = 45) := h4
    clear h4
    go_enter Tryd.func130, Tryd.ntmps130
    go_wp2
    go_ret
    exact ⟨ret_bool (labelB_last hl H4.out).symm, Below.refl _ _⟩
  have q4 : ((t[t.size - 1].toNat : Int) == 45) = false := by rw [beq_eq_false_iff_ne]; omega
  have H4 : Hid (¬ t[t.size - 1].toNat = 45) := h4
  clear h4
  go_enter Tryd.func130, Tryd.ntmps130
  go_wp2
  go_loopw [5] (fun _ wr => ∃ k : Nat, k ≤ t.size ∧ wr = w.iter t k ∧ Hid (∀ i (h : i < t.size), i < k → labC t[i].toNat = true)) (fun _ wr => t.size - wr.iterPos w.heap.size)
  case atStart => exact ⟨0, Nat.zero_le _, rfl, fun i _ hi => absurd hi (by omega)⟩
  case round =>
    obtain ⟨k, hk, rfl, HR⟩ := hrel
    by_cases hlt : k < t.size
    · by_cases ha : t[k].toNat < 128
      · have hnx : ∀ ty, (Instr.next (.pointer (some ⟨w.heap.size, 0, none⟩)) true ty).run Tryd.prog (w.iter t k) = _ := fun ty => run_next_ascii w t k ty hlt ha
        cases hc : labC t[k].toNat with
        | true =>
          have HC : Hid (∀ W, Calls Tryd.prog 161 #[.int .i32 (t[k].toNat : Int)] W fun e w' => e = .returned (.bool true) ∧ w' = W) := fun W => by rw [← hc]; exact inLabel_any _ W
          have HK : Hid (labC t[k].toNat = true) := hc
          clear hc
          go_wp2_with (go_at_call 161; refine (HC.out _).mono ?_; rintro e w2 ⟨rfl, rfl⟩)
          go_roundw
          case rel => exact ⟨k + 1, by omega, rfl, all_succ HR.out hlt HK.out⟩
          case measure => simp; omega
        | false =>
          have HC : Hid (∀ W, Calls Tryd.prog 161 #[.int .i32 (t[k].toNat : Int)] W fun e w' => e = .returned (.bool false) ∧ w' = W) := fun W => by rw [← hc]; exact inLabel_any _ W
          have HK : Hid (labelB t = false) := labelB_at k hlt hc
          clear hc
          go_wp2_with (go_at_call 161; refine (HC.out _).mono ?_; rintro e w2 ⟨rfl, rfl⟩)
          go_ret
          exact ⟨ret_bool HK.out.symm, (Below.refl _ _).alloc (Nat.le_refl _) _⟩
      · have hnx : ∀ ty, (Instr.next (.pointer (some ⟨w.heap.size, 0, none⟩)) true ty).run Tryd.prog (w.iter t k) = _ := fun ty => run_next_any w t k ty hlt
        have hd := (decode_high t k hlt (by omega)).1
        have HK : Hid (labelB t = false) := labelB_at k hlt (labC_no (by omega))
        generalize Utf8.decode t k = d at *
        obtain ⟨r, n⟩ := d
        have hd2 : 128 ≤ r := hd
        have HC : Hid (∀ W, Calls Tryd.prog 161 #[.int .i32 (r : Int)] W fun e w' => e = .returned (.bool false) ∧ w' = W) := fun W => by
          have := inLabel_any r W
          rw [labC_no (by omega)] at this; exact this
        clear hd hd2
        go_wp2_with (go_at_call 161; refine (HC.out _).mono ?_; rintro e w2 ⟨rfl, rfl⟩)
        go_ret
        exact ⟨ret_bool HK.out.symm, (Below.refl _ _).alloc (Nat.le_refl _) _⟩
    · have hnx : ∀ ty, (Instr.next (.pointer (some ⟨w.heap.size, 0, none⟩)) true ty).run Tryd.prog (w.iter t k) = _ := fun ty => run_next_end w t k ty hlt
      go_wp2
      go_ret
      exact ⟨ret_bool (labelB_true (by omega) (by omega) (fun _ => H3.out) (fun _ => H4.out) (fun i h => HR.out i h (by omega))).symm, (Below.refl _ _).alloc (Nat.le_refl _) _⟩
end Go.Proofs.YtfoekelhcmlagaaDoor

/- The walk of the program's HostRight. -/
namespace Go.Proofs.YtfoekelhcmlagaaDoor
open Go.RowKit

theorem mem_le_sum : ∀ {l : List Nat} {x : Nat}, x ∈ l → x ≤ l.sum
  | [], _, h => by cases h
  | a :: l, x, h => by
    rw [List.sum_cons]
    cases h with
    | head => omega
    | tail _ h => have := mem_le_sum h; omega
theorem piece_le {s x : ByteArray} (hx : x ∈ splitB s 46) : x.size ≤ s.size := by
  have h1 : x.data.toList ∈ cutL 46 s.data.toList := by rw [← splitB_cut]; exact List.mem_map.2 ⟨x, hx, rfl⟩
  have h2 := cutL_sum 46 s.data.toList
  have h3 : (x.data.toList.length + 1) ≤ ((cutL 46 s.data.toList).map (fun p => p.length + 1)).sum := mem_le_sum (List.mem_map.2 ⟨_, h1, rfl⟩)
  rw [h2, ← Lib.size_eq, ← Lib.size_eq] at h3
  omega
set_option maxRecDepth 10000 in
set_option maxHeartbeats 400000 in
theorem hostRight_any (s : ByteArray) (w : World) (hG : MaxI w) (hs : s.size ≤ 1048576) :
    Calls Tryd.prog 71 #[.string s] w fun e w' => e = .returned (.bool (hostB s)) ∧ Below w.heap.size w w' := by
  have HC : Hid (∀ W, MaxI W → Calls Tryd.prog 78 #[.string s, .string ⟨#[46]⟩] W fun e w' => e = .returned (.slice (some ⟨W.heap.size, 0, none⟩) (splitB s 46).length (splitB s 46).length) ∧ w' = W.alloc (.cells (strCells (splitB s 46)).toArray 9)) := fun W h => split_call s W h (by omega)
  have HA : Hid ((∀ k (h : k < (splitB s 46).length), labelB ((splitB s 46)[k]) = false → hostB s = false) ∧ ((splitB s 46).length ≤ 6 → (∀ k (h : k < (splitB s 46).length), labelB ((splitB s 46)[k]) = true) → hostB s = true) ∧ (6 < (splitB s 46).length → hostB s = false)) :=
    ⟨fun k h hl => hostB_at k h hl, fun h1 h2 => hostB_six h1 h2, fun h => hostB_many h⟩
  have hn := splitB_len s 46
  have HZ : Hid (∀ x ∈ splitB s 46, x.size ≤ s.size) := fun x hx => piece_le hx
  generalize splitB s 46 = L at *
  have HG : Hid (MaxI w) := hG
  clear hG
  go_enter Tryd.func71, Tryd.ntmps71
  go_wp2_with fail
  refine (HC.out _ HG.out).mono ?_
  rintro e w1 ⟨rfl, rfl⟩
  by_cases h6 : 6 < L.length
  · go_wp2
    go_ret
    exact ⟨ret_bool (HA.out.2.2 h6).symm, (Below.refl _ _).alloc (Nat.le_refl _) _⟩
  have q6 : decide ((6 : Int) < (L.length : Int)) = false := by rw [decide_eq_false_iff_not]; omega
  have hcell : ∀ k (h : k < L.length), (w.alloc (.cells (strCells L).toArray 9)).cell? ⟨w.heap.size, k, none⟩ = some (.string L[k]) := by
    intro k hk
    simp [strCells, hk]
  have hb : Below w.heap.size w (w.alloc (.cells (strCells L).toArray 9)) := (Below.refl _ _).alloc (Nat.le_refl _) _
  have hz1 : w.heap.size < (w.alloc (.cells (strCells L).toArray 9)).heap.size := by simp
  generalize w.alloc (.cells (strCells L).toArray 9) = w1 at *
  go_wp2
  go_loopw [13] (fun i wr => ∃ k : Nat, k ≤ L.length ∧ i = .int .i64 k ∧ Below w1.heap.size w1 wr ∧ Hid (∀ j (h : j < L.length), j < k → labelB L[j] = true)) (fun i _ => L.length - (intOf i).toNat)
  case atStart => exact ⟨0, by omega, rfl, Below.refl _ _, fun j _ hj => absurd hj (by omega)⟩
  case round =>
    obtain ⟨k, hk, rfl, hb2, HR⟩ := hrel
    by_cases hlt : k < L.length
    · have hc1 := hcell k hlt
      have hck : wr.cell? ⟨w.heap.size, k, none⟩ = some (.string L[k]) := by rw [(bcell hb2).1 _ _ hz1]; exact hc1
      have HL : Hid (∀ W, Calls Tryd.prog 130 #[.string L[k]] W fun e w' => e = .returned (.bool (labelB L[k])) ∧ Below W.heap.size W w') := fun W => labelRight_any L[k] W (by have := HZ.out L[k] (List.getElem_mem hlt); omega)
      have HB2 : Hid (Below w1.heap.size w1 wr) := hb2
      have hz2 := hb2.size
      cases hlab : labelB L[k] with
      | true =>
        have HL2 : Hid (labelB L[k] = true) := hlab
        rw [hlab] at HL
        clear hlab hcell hc1 hb2
        generalize hx : L[k] = x at *
        have HX : Hid (L[k] = x) := hx
        clear hx
        go_wp2_with (go_at_call 130; refine (HL.out _).mono ?_; rintro e w2 ⟨rfl, hb3⟩)
        go_roundw
        case rel =>
          refine ⟨k + 1, by omega, by go_num, HB2.out.trans (hb3.mono hz2), ?_⟩
          intro j hj hjk
          by_cases e : j = k
          · subst e; rw [HX.out]; exact HL2.out
          · exact HR.out j hj (by omega)
        case measure => simp [intOf]; omega
      | false =>
        have HF : Hid (hostB s = false) := HA.out.1 k hlt hlab
        rw [hlab] at HL
        clear hlab hcell hc1 hb2
        generalize L[k] = x at *
        go_wp2_with (go_at_call 130; refine (HL.out _).mono ?_; rintro e w2 ⟨rfl, hb3⟩)
        go_ret
        exact ⟨ret_bool HF.out.symm, hb.trans ((HB2.out.trans (hb3.mono hz2)).mono hb.size)⟩
    · have HF : Hid (hostB s = true) := HA.out.2.1 (by omega) (fun j hj => HR.out j hj (by omega))
      clear hcell
      go_wp2
      go_ret
      exact ⟨ret_bool HF.out.symm, hb.trans (hb2.mono hb.size)⟩
end Go.Proofs.YtfoekelhcmlagaaDoor

/- The walk of the program's pathRight. -/
namespace Go.Proofs.YtfoekelhcmlagaaDoor
open Go.RowKit

set_option maxRecDepth 10000 in
set_option maxHeartbeats 400000 in
theorem pathRight_any (t : ByteArray) (w : World) :
    Calls Tryd.prog 110 #[.string t] w fun e w' => e = .returned (.bool (pathB t)) ∧ Below w.heap.size w w' := by
  by_cases h1 : t.size < 1
  · have q1 : ((t.size : Int) == 0) = true := by rw [beq_iff_eq]; omega
    go_enter Tryd.func110, Tryd.ntmps110
    go_wp2
    go_ret
    exact ⟨ret_bool (pathB_size (.inl h1)).symm, Below.refl _ _⟩
  have q1 : ((t.size : Int) == 0) = false := by rw [beq_eq_false_iff_ne]; omega
  by_cases h2 : 40 < t.size
  · go_enter Tryd.func110, Tryd.ntmps110
    go_wp2
    go_ret
    exact ⟨ret_bool (pathB_size (.inr h2)).symm, Below.refl _ _⟩
  have q2 : decide ((40 : Int) < (t.size : Int)) = false := by rw [decide_eq_false_iff_not]; omega
  have hp : 0 < t.size := by omega
  by_cases h3 : t[0].toNat = 47
  case neg =>
    have q3 : ((t[0].toNat : Int) != 47) = true := by rw [bne_iff_ne]; omega
    have H3 : Hid (¬ t[0].toNat = 47) := h3
    clear h3
    go_enter Tryd.func110, Tryd.ntmps110
    go_wp2
    go_ret
    exact ⟨ret_bool (pathB_first hp H3.out).symm, Below.refl _ _⟩
  have q3 : ((t[0].toNat : Int) != 47) = false := by rw [bne_eq_false_iff_eq]; omega
  have H3 : Hid (t[0].toNat = 47) := h3
  clear h3
  go_enter Tryd.func110, Tryd.ntmps110
  go_wp2
  go_loopw [4] (fun _ wr => ∃ k : Nat, k ≤ t.size ∧ wr = w.iter t k ∧ Hid (∀ i (h : i < t.size), i < k → pathC t[i].toNat = true)) (fun _ wr => t.size - wr.iterPos w.heap.size)
  case atStart => exact ⟨0, Nat.zero_le _, rfl, fun i _ hi => absurd hi (by omega)⟩
  case round =>
    obtain ⟨k, hk, rfl, HR⟩ := hrel
    by_cases hlt : k < t.size
    · by_cases ha : t[k].toNat < 128
      · have hnx : ∀ ty, (Instr.next (.pointer (some ⟨w.heap.size, 0, none⟩)) true ty).run Tryd.prog (w.iter t k) = _ := fun ty => run_next_ascii w t k ty hlt ha
        by_cases d1 : t[k].toNat < 33
        · go_wp2
          go_ret
          exact ⟨ret_bool (pathB_at k hlt (pathC_no (by omega))).symm, (Below.refl _ _).alloc (Nat.le_refl _) _⟩
        have b1 : decide ((t[k].toNat : Int) < 33) = false := by rw [decide_eq_false_iff_not]; omega
        by_cases d2 : 126 < t[k].toNat
        · go_wp2
          go_ret
          exact ⟨ret_bool (pathB_at k hlt (pathC_no (by omega))).symm, (Below.refl _ _).alloc (Nat.le_refl _) _⟩
        have b2 : decide ((126 : Int) < (t[k].toNat : Int)) = false := by rw [decide_eq_false_iff_not]; omega
        by_cases d3 : t[k].toNat = 63
        · have b3 : ((t[k].toNat : Int) == 63) = true := by rw [beq_iff_eq]; omega
          have D3 : Hid (t[k].toNat = 63) := d3
          clear d3
          go_wp2
          go_ret
          exact ⟨ret_bool (pathB_at k hlt (pathC_no (by have := D3.out; omega))).symm, (Below.refl _ _).alloc (Nat.le_refl _) _⟩
        have b3 : ((t[k].toNat : Int) == 63) = false := by rw [beq_eq_false_iff_ne]; omega
        by_cases d4 : t[k].toNat = 35
        · have b4 : ((t[k].toNat : Int) == 35) = true := by rw [beq_iff_eq]; omega
          have D4 : Hid (t[k].toNat = 35) := d4
          clear d4
          go_wp2
          go_ret
          exact ⟨ret_bool (pathB_at k hlt (pathC_no (by have := D4.out; omega))).symm, (Below.refl _ _).alloc (Nat.le_refl _) _⟩
        have b4 : ((t[k].toNat : Int) == 35) = false := by rw [beq_eq_false_iff_ne]; omega
        by_cases d5 : t[k].toNat = 59
        · have b5 : ((t[k].toNat : Int) == 59) = true := by rw [beq_iff_eq]; omega
          have D5 : Hid (t[k].toNat = 59) := d5
          clear d5
          go_wp2
          go_ret
          exact ⟨ret_bool (pathB_at k hlt (pathC_no (by have := D5.out; omega))).symm, (Below.refl _ _).alloc (Nat.le_refl _) _⟩
        have b5 : ((t[k].toNat : Int) == 59) = false := by rw [beq_eq_false_iff_ne]; omega
        have HC : Hid (pathC t[k].toNat = true) := pathC_yes (by omega)
        clear d3 d4 d5
        go_wp2
        go_roundw
        case rel => exact ⟨k + 1, by omega, rfl, all_succ HR.out hlt HC.out⟩
        case measure => simp; omega
      · have hnx : ∀ ty, (Instr.next (.pointer (some ⟨w.heap.size, 0, none⟩)) true ty).run Tryd.prog (w.iter t k) = _ := fun ty => run_next_any w t k ty hlt
        have hd := (decode_high t k hlt (by omega)).1
        have HK : Hid (pathB t = false) := pathB_at k hlt (pathC_no (by omega))
        generalize Utf8.decode t k = d at *
        obtain ⟨r, n⟩ := d
        have hd2 : 128 ≤ r := hd
        have b1 : decide ((r : Int) < 33) = false := by rw [decide_eq_false_iff_not]; omega
        have b2 : decide ((126 : Int) < (r : Int)) = true := by rw [decide_eq_true_iff]; omega
        clear hd
        go_wp2
        go_ret
        exact ⟨ret_bool HK.out.symm, (Below.refl _ _).alloc (Nat.le_refl _) _⟩
    · have hnx : ∀ ty, (Instr.next (.pointer (some ⟨w.heap.size, 0, none⟩)) true ty).run Tryd.prog (w.iter t k) = _ := fun ty => run_next_end w t k ty hlt
      go_wp2
      go_ret
      exact ⟨ret_bool (pathB_true (by omega) (by omega) (fun _ => H3.out) (fun i h => HR.out i h (by omega))).symm, (Below.refl _ _).alloc (Nat.le_refl _) _⟩
end Go.Proofs.YtfoekelhcmlagaaDoor

/- The walks of the program's pathRight, ownPort, placeRight and UrlRight. -/
namespace Go.Proofs.YtfoekelhcmlagaaDoor
open Go.RowKit


/-- the port of a scheme, 0 of no scheme -/
def ownP (t : ByteArray) : Int := if (t.toList == [104, 116, 116, 112]) = true then 80 else if (t.toList == [104, 116, 116, 112, 115]) = true then 443 else 0
theorem ownP_ne (t : ByteArray) : (ownP t != 0) = schemeB t := by
  unfold ownP schemeB
  cases t.toList == [104, 116, 116, 112] <;> cases t.toList == [104, 116, 116, 112, 115] <;> rfl
theorem ownP_usual {t : ByteArray} (h : schemeB t = true) : ownP t = usualP t := by
  unfold ownP usualP schemeB at *
  cases h1 : t.toList == [104, 116, 116, 112] <;> cases h2 : t.toList == [104, 116, 116, 112, 115] <;> rw [h1, h2] at h
  · cases h
  · rfl
  · rfl
  · rw [beq_iff_eq] at h1 h2; rw [h1] at h2; cases h2

set_option maxRecDepth 10000 in
set_option maxHeartbeats 400000 in
theorem ownPort_any (t : ByteArray) (w : World) :
    Calls Tryd.prog 188 #[.string t] w fun e w' => e = .returned (.int .i64 (ownP t)) ∧ w' = w := by
  unfold ownP
  cases h : (t.toList == [104, 116, 116, 112]) with
  | true =>
    go_enter Tryd.func188, Tryd.ntmps188
    go_wp2
    go_ret
    exact ⟨rfl, rfl⟩
  | false =>
    cases h2 : (t.toList == [104, 116, 116, 112, 115]) with
    | true =>
      go_enter Tryd.func188, Tryd.ntmps188
      go_wp2
      go_ret
      exact ⟨rfl, rfl⟩
    | false =>
      go_enter Tryd.func188, Tryd.ntmps188
      go_wp2
      go_ret
      exact ⟨rfl, rfl⟩

set_option maxRecDepth 10000 in
set_option maxHeartbeats 400000 in
theorem placeRight_any (sc ho : ByteArray) (po : Int) (w : World) (hG : MaxI w) (hh : ho.size ≤ 1048576) :
    Calls Tryd.prog 154 #[.string sc, .string ho, .int .i64 po] w fun e w' => e = .returned (.bool (placeB sc ho po)) ∧ Below w.heap.size w w' := by
  have H1 := fun W => ownPort_any sc W
  have H2 := hostRight_any ho w hG hh
  have HP : Hid (placeB sc ho po = (schemeB sc && hostB ho && (decide (1 ≤ po) && decide (po ≤ 65535)))) := rfl
  have q1 := ownP_ne sc
  generalize schemeB sc = b1 at *
  generalize hostB ho = b2 at *
  generalize ownP sc = op at *
  have G1 : Hid (∀ W, Calls Tryd.prog 188 #[.string sc] W fun e w' => e = .returned (.int .i64 op) ∧ w' = W) := H1
  have G2 : Hid (Calls Tryd.prog 71 #[.string ho] w fun e w' => e = .returned (.bool b2) ∧ Below w.heap.size w w') := H2
  clear H1 H2 hG
  cases b1 with
  | false =>
    go_enter Tryd.func154, Tryd.ntmps154
    go_wp2_with (go_at_call 188; refine (G1.out _).mono ?_; rintro e w1 ⟨rfl, rfl⟩)
    go_ret
    exact ⟨ret_bool (by rw [HP.out]; rfl), Below.refl _ _⟩
  | true =>
    cases b2 with
    | false =>
      go_enter Tryd.func154, Tryd.ntmps154
      go_wp2_with (first | (go_at_call 188; refine (G1.out _).mono ?_; rintro e w1 ⟨rfl, rfl⟩) | (go_at_call 71; refine G2.out.mono ?_; rintro e w2 ⟨rfl, hb⟩))
      go_ret
      exact ⟨ret_bool (by rw [HP.out]; rfl), hb⟩
    | true =>
      by_cases h : 1 ≤ po
      · have q2 : decide (1 ≤ po) = true := by rw [decide_eq_true_iff]; exact h
        go_enter Tryd.func154, Tryd.ntmps154
        go_wp2_with (first | (go_at_call 188; refine (G1.out _).mono ?_; rintro e w1 ⟨rfl, rfl⟩) | (go_at_call 71; refine G2.out.mono ?_; rintro e w2 ⟨rfl, hb⟩))
        go_ret
        exact ⟨ret_bool (by rw [HP.out]; simp [h]), hb⟩
      · have q2 : decide (1 ≤ po) = false := by rw [decide_eq_false_iff_not]; exact h
        go_enter Tryd.func154, Tryd.ntmps154
        go_wp2_with (first | (go_at_call 188; refine (G1.out _).mono ?_; rintro e w1 ⟨rfl, rfl⟩) | (go_at_call 71; refine G2.out.mono ?_; rintro e w2 ⟨rfl, hb⟩))
        go_ret
        exact ⟨ret_bool (by rw [HP.out, q2]; rfl), hb⟩
set_option maxRecDepth 10000 in
set_option maxHeartbeats 400000 in
theorem urlRight_any (sc ho pa : ByteArray) (po : Int) (w : World) (hG : MaxI w) (hh : ho.size ≤ 1048576) :
    Calls Tryd.prog 122 #[urlV sc ho pa po] w fun e w' => e = .returned (.bool (urlB sc ho pa po)) ∧ Below w.heap.size w w' := by
  have H1 := fun W (h : MaxI W) => placeRight_any sc ho po W h hh
  have H2 := fun W => pathRight_any pa W
  have HP : Hid (urlB sc ho pa po = (placeB sc ho po && pathB pa)) := rfl
  have HG : Hid (∀ o, MaxI (w.alloc o)) := fun o => hG.on ((Below.refl _ _).alloc (Nat.le_refl _) _)
  generalize placeB sc ho po = b1 at *
  generalize pathB pa = b2 at *
  have G1 : Hid (∀ W, MaxI W → Calls Tryd.prog 154 #[.string sc, .string ho, .int .i64 po] W fun e w' => e = .returned (.bool b1) ∧ Below W.heap.size W w') := H1
  have G2 : Hid (∀ W, Calls Tryd.prog 110 #[.string pa] W fun e w' => e = .returned (.bool b2) ∧ Below W.heap.size W w') := H2
  clear H1 H2 hG
  unfold urlV
  cases b1 with
  | false =>
    go_enter Tryd.func122, Tryd.ntmps122
    go_wp2_with fail
    refine (G1.out _ (HG.out _)).mono ?_
    rintro e w1 ⟨rfl, hb⟩
    go_wp2
    go_ret
    exact ⟨ret_bool (by rw [HP.out]; rfl), ((Below.refl _ _).alloc (Nat.le_refl _) _).trans (hb.mono (by simp))⟩
  | true =>
    go_enter Tryd.func122, Tryd.ntmps122
    go_wp2_with fail
    refine (G1.out _ (HG.out _)).mono ?_
    rintro e w1 ⟨rfl, hb⟩
    have hc3 : w1.cell? ⟨w.heap.size, 3, none⟩ = some (.string pa) := by rw [(bcell hb).1 _ _ (by simp)]; simp
    have hz1 : w.heap.size < w1.heap.size := by have := hb.size; simp at this; omega
    go_wp2_with (go_at_call 110; refine (G2.out _).mono ?_; rintro e w2 ⟨rfl, hb2⟩)
    go_ret
    exact ⟨ret_bool (by rw [HP.out]; rfl), (((Below.refl _ _).alloc (Nat.le_refl _) _).trans (hb.mono (by simp))).trans (hb2.mono (by omega))⟩
end Go.Proofs.YtfoekelhcmlagaaDoor

/- The walks of the program's pairRight, modeRight and SetRight. Written by implset.py. -/
namespace Go.Proofs.YtfoekelhcmlagaaDoor
open Go.RowKit

set_option maxRecDepth 10000 in
set_option maxHeartbeats 1000000 in
theorem modeRight_any (mo : Int) (w : World) :
    Calls Tryd.prog 111 #[.int .i64 mo] w fun e w' => e = .returned (.bool (modeB mo)) ∧ w' = w := by
  have HM : Hid (modeB mo = (decide (0 ≤ mo) && decide (mo ≤ 2))) := rfl
  generalize modeB mo = R at *
  by_cases h0 : 0 ≤ mo
  · have q0 : decide ((0 : Int) ≤ mo) = true := by rw [decide_eq_true_iff]; exact h0
    go_enter Tryd.func111, Tryd.ntmps111
    go_wp2
    go_ret
    exact ⟨ret_bool (by rw [HM.out, q0]; rfl), rfl⟩
  · have q0 : decide ((0 : Int) ≤ mo) = false := by rw [decide_eq_false_iff_not]; exact h0
    go_enter Tryd.func111, Tryd.ntmps111
    go_wp2
    go_ret
    exact ⟨ret_bool (by rw [HM.out, q0]; rfl), rfl⟩
end Go.Proofs.YtfoekelhcmlagaaDoor

/- The walk of the program's CookieRight. Written by cookie6.py. -/
namespace Go.Proofs.YtfoekelhcmlagaaDoor
open Go.RowKit

set_option maxRecDepth 10000 in
theorem isTime_any (n : Int) (w : World) :
    Calls Tryd.prog 113 #[.int .i64 n] w fun e w' => e = .returned (.bool (timeB n)) ∧ w' = w := by
  have HM : Hid (timeB n = (decide (0 ≤ n) && decide (n ≤ 1000000))) := rfl
  generalize timeB n = R at *
  by_cases h0 : 0 ≤ n
  · have q0 : decide ((0 : Int) ≤ n) = true := by rw [decide_eq_true_iff]; exact h0
    go_enter Tryd.func113, Tryd.ntmps113
    go_wp2
    go_ret
    exact ⟨ret_bool (by rw [HM.out, q0]; rfl), rfl⟩
  · have q0 : decide ((0 : Int) ≤ n) = false := by rw [decide_eq_false_iff_not]; exact h0
    go_enter Tryd.func113, Tryd.ntmps113
    go_wp2
    go_ret
    exact ⟨ret_bool (by rw [HM.out, q0]; rfl), rfl⟩
set_option maxRecDepth 10000 in
theorem partRight_any (t : ByteArray) (w : World) :
    Calls Tryd.prog 112 #[.string t] w fun e w' => e = .returned (.bool (partB t)) ∧ w' = w := by
  have HE : Hid (partB t = decide ((t.size : Int) ≤ 120)) := by show _ = _; unfold partB; rw [decide_eq_decide]; omega
  go_enter Tryd.func112, Tryd.ntmps112
  go_wp2
  go_ret
  exact ⟨ret_bool HE.out.symm, rfl⟩
set_option maxRecDepth 10000 in
set_option maxHeartbeats 4000000 in
theorem cookieRight_any (c : Ck) (w : World) (hG : MaxI w) (hho : c.ho.size ≤ 1048576) :
    Calls Tryd.prog 50 #[ckV c] w fun e w' => e = .returned (.bool (ckB c)) ∧ Below w.heap.size w w' := by
  obtain ⟨na, va, ho, al, pa, se, mo, pt, un, ma⟩ := c
  dsimp only at hho
  have K1 : Hid (∀ W, Calls Tryd.prog 109 #[.agg #[.string na, .string va]] W fun e w' => e = .returned (.bool (pairB na va)) ∧ Below W.heap.size W w') := fun W => pairRight_any na va W
  have K3 : Hid (∀ W, Below w.heap.size w W → Calls Tryd.prog 71 #[.string ho] W fun e w' => e = .returned (.bool (hostB ho)) ∧ Below W.heap.size W w') := fun W hb => hostRight_any ho W (hG.on hb) hho
  have K4 : Hid (∀ W, Calls Tryd.prog 110 #[.string pa] W fun e w' => e = .returned (.bool (pathB pa)) ∧ Below W.heap.size W w') := fun W => pathRight_any pa W
  have K5 : Hid (∀ W, Calls Tryd.prog 111 #[.int .i64 mo] W fun e w' => e = .returned (.bool (modeB mo)) ∧ w' = W) := fun W => modeRight_any mo W
  have K6 : Hid (∀ W, Calls Tryd.prog 112 #[.string pt] W fun e w' => e = .returned (.bool (partB pt)) ∧ w' = W) := fun W => partRight_any pt W
  have K7 : Hid (∀ W, Calls Tryd.prog 113 #[.int .i64 un] W fun e w' => e = .returned (.bool (timeB un)) ∧ w' = W) := fun W => isTime_any un W
  have K8 : Hid (∀ W, Calls Tryd.prog 113 #[.int .i64 ma] W fun e w' => e = .returned (.bool (timeB ma)) ∧ w' = W) := fun W => isTime_any ma W
  have HE : Hid (ckB ⟨na, va, ho, al, pa, se, mo, pt, un, ma⟩ = (pairB na va && hostB ho && pathB pa && modeB mo && partB pt && timeB un && timeB ma && safeB se mo pt)) := rfl
  clear hG hho
  unfold ckV
  dsimp only
  generalize ckB ⟨na, va, ho, al, pa, se, mo, pt, un, ma⟩ = R at *
  generalize pairB na va = b1 at *
  generalize hostB ho = b3 at *
  generalize pathB pa = b4 at *
  generalize modeB mo = b5 at *
  generalize partB pt = b6 at *
  generalize timeB un = b7 at *
  generalize timeB ma = b8 at *
  go_enter Tryd.func50, Tryd.ntmps50
  go_wp2_with fail
  refine (K1.out _).mono ?_
  rintro e w1 ⟨rfl, hb1⟩
  have hz_w1 : w.heap.size < w1.heap.size := by have := hb1.size; simp at this; omega
  have g2_w1 : w1.cell? ⟨w.heap.size, 2, none⟩ = some (.string ho) := by rw [(bcell hb1).1 _ _ (by simp)]; simp
  have g4_w1 : w1.cell? ⟨w.heap.size, 4, none⟩ = some (.string pa) := by rw [(bcell hb1).1 _ _ (by simp)]; simp
  have g5_w1 : w1.cell? ⟨w.heap.size, 5, none⟩ = some (.bool se) := by rw [(bcell hb1).1 _ _ (by simp)]; simp
  have g6_w1 : w1.cell? ⟨w.heap.size, 6, none⟩ = some (.int .i64 mo) := by rw [(bcell hb1).1 _ _ (by simp)]; simp
  have g7_w1 : w1.cell? ⟨w.heap.size, 7, none⟩ = some (.string pt) := by rw [(bcell hb1).1 _ _ (by simp)]; simp
  have g8_w1 : w1.cell? ⟨w.heap.size, 8, none⟩ = some (.int .i64 un) := by rw [(bcell hb1).1 _ _ (by simp)]; simp
  have g9_w1 : w1.cell? ⟨w.heap.size, 9, none⟩ = some (.int .i64 ma) := by rw [(bcell hb1).1 _ _ (by simp)]; simp
  have B_w1 : Hid (Below w.heap.size w w1) := ((Below.refl _ _).alloc (Nat.le_refl _) _).trans (hb1.mono (by simp))
  clear hb1
  cases b1 with
  | false =>
    go_wp2
    go_ret
    exact ⟨ret_bool (by rw [HE.out]; first | rfl | simp [*]), B_w1.out⟩
  | true =>
    go_wp2_with fail
    refine (K3.out _ B_w1.out).mono ?_
    rintro e w3 ⟨rfl, hb3⟩
    have g4_w3 : w3.cell? ⟨w.heap.size, 4, none⟩ = some (.string pa) := by rw [(bcell hb3).1 _ _ hz_w1]; exact g4_w1
    have g5_w3 : w3.cell? ⟨w.heap.size, 5, none⟩ = some (.bool se) := by rw [(bcell hb3).1 _ _ hz_w1]; exact g5_w1
    have g6_w3 : w3.cell? ⟨w.heap.size, 6, none⟩ = some (.int .i64 mo) := by rw [(bcell hb3).1 _ _ hz_w1]; exact g6_w1
    have g7_w3 : w3.cell? ⟨w.heap.size, 7, none⟩ = some (.string pt) := by rw [(bcell hb3).1 _ _ hz_w1]; exact g7_w1
    have g8_w3 : w3.cell? ⟨w.heap.size, 8, none⟩ = some (.int .i64 un) := by rw [(bcell hb3).1 _ _ hz_w1]; exact g8_w1
    have g9_w3 : w3.cell? ⟨w.heap.size, 9, none⟩ = some (.int .i64 ma) := by rw [(bcell hb3).1 _ _ hz_w1]; exact g9_w1
    have hz_w3 : w.heap.size < w3.heap.size := Nat.lt_of_lt_of_le hz_w1 hb3.size
    have B_w3 : Hid (Below w.heap.size w w3) := B_w1.out.trans (hb3.mono B_w1.out.size)
    clear hb3 g2_w1 g4_w1 g5_w1 g6_w1 g7_w1 g8_w1 g9_w1
    cases b3 with
    | false =>
      go_wp2
      go_ret
      exact ⟨ret_bool (by rw [HE.out]; first | rfl | simp [*]), B_w3.out⟩
    | true =>
      go_wp2_with fail
      refine (K4.out _).mono ?_
      rintro e w4 ⟨rfl, hb4⟩
      have g5_w4 : w4.cell? ⟨w.heap.size, 5, none⟩ = some (.bool se) := by rw [(bcell hb4).1 _ _ hz_w3]; exact g5_w3
      have g6_w4 : w4.cell? ⟨w.heap.size, 6, none⟩ = some (.int .i64 mo) := by rw [(bcell hb4).1 _ _ hz_w3]; exact g6_w3
      have g7_w4 : w4.cell? ⟨w.heap.size, 7, none⟩ = some (.string pt) := by rw [(bcell hb4).1 _ _ hz_w3]; exact g7_w3
      have g8_w4 : w4.cell? ⟨w.heap.size, 8, none⟩ = some (.int .i64 un) := by rw [(bcell hb4).1 _ _ hz_w3]; exact g8_w3
      have g9_w4 : w4.cell? ⟨w.heap.size, 9, none⟩ = some (.int .i64 ma) := by rw [(bcell hb4).1 _ _ hz_w3]; exact g9_w3
      have hz_w4 : w.heap.size < w4.heap.size := Nat.lt_of_lt_of_le hz_w3 hb4.size
      have B_w4 : Hid (Below w.heap.size w w4) := B_w3.out.trans (hb4.mono B_w3.out.size)
      clear hb4 g4_w3 g5_w3 g6_w3 g7_w3 g8_w3 g9_w3
      cases b4 with
      | false =>
        go_wp2
        go_ret
        exact ⟨ret_bool (by rw [HE.out]; first | rfl | simp [*]), B_w4.out⟩
      | true =>
        go_wp2_with fail
        refine (K5.out _).mono ?_
        rintro e _ ⟨rfl, rfl⟩
        cases b5 with
        | false =>
          go_wp2
          go_ret
          exact ⟨ret_bool (by rw [HE.out]; first | rfl | simp [*]), B_w4.out⟩
        | true =>
          go_wp2_with fail
          refine (K6.out _).mono ?_
          rintro e _ ⟨rfl, rfl⟩
          cases b6 with
          | false =>
            go_wp2
            go_ret
            exact ⟨ret_bool (by rw [HE.out]; first | rfl | simp [*]), B_w4.out⟩
          | true =>
            go_wp2_with fail
            refine (K7.out _).mono ?_
            rintro e _ ⟨rfl, rfl⟩
            cases b7 with
            | false =>
              go_wp2
              go_ret
              exact ⟨ret_bool (by rw [HE.out]; first | rfl | simp [*]), B_w4.out⟩
            | true =>
              go_wp2_with fail
              refine (K8.out _).mono ?_
              rintro e _ ⟨rfl, rfl⟩
              cases b8 with
              | false =>
                go_wp2
                go_ret
                exact ⟨ret_bool (by rw [HE.out]; first | rfl | simp [*]), B_w4.out⟩
              | true =>
                cases se with
                | true =>
                  go_wp2
                  go_ret
                  exact ⟨ret_bool (by rw [HE.out]; first | rfl | simp [*]), B_w4.out⟩
                | false =>
                  by_cases hm2 : mo = 2
                  · have qm : (mo != 2) = false := by rw [hm2]; rfl
                    have HS : Hid (safeB false mo pt = false) := by show _ = _; unfold safeB; rw [qm]; rfl
                    clear hm2
                    go_wp2
                    go_ret
                    exact ⟨ret_bool (by rw [HE.out]; first | rfl | (rw [HS.out]; rfl) | simp [*]), B_w4.out⟩
                  · have qm : (mo != 2) = true := by rw [bne_iff_ne]; exact hm2
                    have HS : Hid (safeB false mo pt = pt.toList.isEmpty) := by show _ = _; unfold safeB; rw [qm]; rfl
                    clear hm2
                    go_wp2
                    go_ret
                    exact ⟨ret_bool (by rw [HE.out]; first | rfl | (rw [HS.out]; rfl) | simp [*]), B_w4.out⟩
end Go.Proofs.YtfoekelhcmlagaaDoor

/- The walk of the program's JarRight. Written by impljar.py. -/
namespace Go.Proofs.YtfoekelhcmlagaaDoor
open Go.RowKit

theorem hasK_all {L : List Ck} {k : Nat} {a : Ck} (h : hasK L k a = false) : ∀ j, j < k → sameK (atC L j) a = false := by
  unfold hasK at h
  rw [Bool.not_eq_false', decide_eq_true_eq] at h
  exact h
theorem hasK_some {L : List Ck} {k : Nat} (h : hasK L k (atC L k) = true) : okJ L k = false := by
  cases e : okJ L k with
  | false => rfl
  | true =>
    have h2 := okJ_apart e
    unfold hasK at h
    rw [decide_eq_true h2] at h; cases h
set_option maxRecDepth 10000 in
set_option maxHeartbeats 8000000 in
theorem jarRight_any (v : Value) (L : List Ck) (B : Nat) (w : World) (hG : MaxI w) (hs : SliceC w B v L) (hn : L.length ≤ 1048576) (hz : ∀ i, i < L.length → (atC L i).ho.size ≤ 1048576) :
    Calls Tryd.prog 54 #[v] w fun e w' => e = .returned (.bool (jarB L)) ∧ Below w.heap.size w w' := by
  obtain ⟨⟨q, cap, rfl, hg⟩, p', cap', e', hcap⟩ := hs
  obtain rfl : cap = cap' := by injection e'
  by_cases h12 : 12 < L.length
  · have HQ : Hid (jarB L = false) := jarB_long h12
    have q0 : decide ((12 : Int) < (L.length : Int)) = true := by rw [decide_eq_true_iff]; omega
    go_enter Tryd.func54, Tryd.ntmps54
    go_wp2
    go_ret
    exact ⟨ret_bool HQ.out.symm, Below.refl _ _⟩
  have q0 : decide ((12 : Int) < (L.length : Int)) = false := by rw [decide_eq_false_iff_not]; omega
  have KX : Hid (∀ j, j < L.length → ∀ W, Below w.heap.size w W → Calls Tryd.prog 50 #[ckV (atC L j)] W fun e w' => e = .returned (.bool (ckB (atC L j))) ∧ Below W.heap.size W w') := fun j hj W hb => cookieRight_any _ W (hG.on hb) (hz j hj)
  have HN : Hid (∀ k, k < L.length → okJ L k = false → jarB L = false) := fun k a b => jarB_at k a b
  have HY : Hid ((∀ i, i < L.length → okJ L i = true) → jarB L = true) := fun h => by rw [jarB_all h, decide_eq_true (by omega)]
  have HG : Hid (0 < L.length → ∃ g, q = some ⟨g, 0, none⟩ ∧ g < w.heap.size ∧ ∀ j, j < L.length → ∀ o, o < 10 → w.cell? ⟨g, j * 10 + o, none⟩ = some (ckC (atC L j) o)) := fun h0 => by
    obtain ⟨g, e, -, hgw, hc⟩ := hg h0
    exact ⟨g, e, hgw, fun j hj o ho => (hc j hj o ho).1⟩
  have hmf : ∀ (fn : Fn) (first cap : Array Value) (w : World), (Instr.makeFunc fn first cap).run Tryd.prog w = .ok (.func fn first cap) w := fun _ _ _ _ => rfl
  clear hg hz hG e'
  generalize jarB L = R at *
  go_enter Tryd.func54, Tryd.ntmps54
  go_wp2
  go_loopw [10] (fun i wr => ∃ k : Nat, k ≤ L.length ∧ i = .int .i64 k ∧ Hid (Below w.heap.size w wr) ∧ Hid (∀ j, j < k → okJ L j = true)) (fun i _ => L.length - (intOf i).toNat)
  case atStart => exact ⟨0, Nat.zero_le _, rfl, Below.refl _ _, fun j hj => absurd hj (by omega)⟩
  case round =>
    obtain ⟨k, hk, rfl, HB, HR⟩ := hrel
    by_cases hlt : k < L.length
    · obtain ⟨g, rfl, hgw, hc⟩ := HG.out (by omega)
      have HC : Hid (∀ j, j < L.length → ∀ o, o < 10 → w.cell? ⟨g, j * 10 + o, none⟩ = some (ckC (atC L j) o)) := hc
      have hgr : g < wr.heap.size := Nat.lt_of_lt_of_le hgw HB.out.size
      have KC0 : ∀ W, Below wr.heap.size wr W → Calls Tryd.prog 50 #[ckV (atC L k)] W fun e w' => e = .returned (.bool (ckB (atC L k))) ∧ Below W.heap.size W w' := fun W hb => KX.out k hlt W (HB.out.trans (hb.mono HB.out.size))
      have k0 : (0 : Int) ≤ k := by omega
      have k1 : (k : Int) < L.length := by omega
      have kc : (k : Int) ≤ cap := by omega
      have HKN : Hid (ckB (atC L k) = false → R = false) := fun e => HN.out k hlt (okJ_no e)
      have HKY0 : Hid (ckB (atC L k) = true → (k = 0 ∨ (atC L (k - 1)).ma < (atC L k).ma) → hasK L k (atC L k) = false → okJ L k = true) := fun a b c => okJ_yes a b (hasK_all c)
      have HSN : Hid (hasK L k (atC L k) = true → R = false) := fun e => HN.out k hlt (hasK_some e)
      clear hc
      generalize hcb : ckB (atC L k) = cb at *
      clear hcb
      have d0 : wr.cell? ⟨g, k * 10, none⟩ = some (.string (atC L k).na) := by rw [(bcell HB.out).1 _ _ hgw]; exact HC.out k hlt 0 (by omega)
      have d1 : wr.cell? ⟨g, k * 10 + 1, none⟩ = some (.string (atC L k).va) := by rw [(bcell HB.out).1 _ _ hgw]; exact HC.out k hlt 1 (by omega)
      have d2 : wr.cell? ⟨g, k * 10 + 2, none⟩ = some (.string (atC L k).ho) := by rw [(bcell HB.out).1 _ _ hgw]; exact HC.out k hlt 2 (by omega)
      have d3 : wr.cell? ⟨g, k * 10 + 3, none⟩ = some (.bool (atC L k).al) := by rw [(bcell HB.out).1 _ _ hgw]; exact HC.out k hlt 3 (by omega)
      have d4 : wr.cell? ⟨g, k * 10 + 4, none⟩ = some (.string (atC L k).pa) := by rw [(bcell HB.out).1 _ _ hgw]; exact HC.out k hlt 4 (by omega)
      have d5 : wr.cell? ⟨g, k * 10 + 5, none⟩ = some (.bool (atC L k).se) := by rw [(bcell HB.out).1 _ _ hgw]; exact HC.out k hlt 5 (by omega)
      have d6 : wr.cell? ⟨g, k * 10 + 6, none⟩ = some (.int .i64 (atC L k).mo) := by rw [(bcell HB.out).1 _ _ hgw]; exact HC.out k hlt 6 (by omega)
      have d7 : wr.cell? ⟨g, k * 10 + 7, none⟩ = some (.string (atC L k).pt) := by rw [(bcell HB.out).1 _ _ hgw]; exact HC.out k hlt 7 (by omega)
      have d8 : wr.cell? ⟨g, k * 10 + 8, none⟩ = some (.int .i64 (atC L k).un) := by rw [(bcell HB.out).1 _ _ hgw]; exact HC.out k hlt 8 (by omega)
      have d9 : wr.cell? ⟨g, k * 10 + 9, none⟩ = some (.int .i64 (atC L k).ma) := by rw [(bcell HB.out).1 _ _ hgw]; exact HC.out k hlt 9 (by omega)
      cases cb with
      | false =>
        have HQ : Hid (R = false) := HKN.out rfl
        clear HKN HKY0 HSN
        generalize atC L k = y at *
        obtain ⟨na, va, ho, al, pa, se, mo, pt, un, ma⟩ := y
        unfold ckV at KC0
        dsimp only at *
        obtain ⟨W0, hW⟩ : ∃ W0, W0 = wr.alloc (.cells #[.string na, .string va, .string ho, .bool al, .string pa, .bool se, .int .i64 mo, .string pt, .int .i64 un, .int .i64 ma] 59) := ⟨_, rfl⟩
        have hW0 : Hid (W0 = wr.alloc (.cells #[.string na, .string va, .string ho, .bool al, .string pa, .bool se, .int .i64 mo, .string pt, .int .i64 un, .int .i64 ma] 59)) := hW
        have HBW : Hid (Below w.heap.size w W0) := by show Below _ _ _; rw [hW]; exact HB.out.alloc HB.out.size _
        have HBr : Hid (Below wr.heap.size wr W0) := by show Below _ _ _; rw [hW]; exact (Below.refl _ _).alloc (Nat.le_refl _) _
        have c0 : W0.cell? ⟨wr.heap.size, 0, none⟩ = some (.string na) := by rw [hW]; simp
        have c1 : W0.cell? ⟨wr.heap.size, 1, none⟩ = some (.string va) := by rw [hW]; simp
        have c2 : W0.cell? ⟨wr.heap.size, 2, none⟩ = some (.string ho) := by rw [hW]; simp
        have c3 : W0.cell? ⟨wr.heap.size, 3, none⟩ = some (.bool al) := by rw [hW]; simp
        have c4 : W0.cell? ⟨wr.heap.size, 4, none⟩ = some (.string pa) := by rw [hW]; simp
        have c5 : W0.cell? ⟨wr.heap.size, 5, none⟩ = some (.bool se) := by rw [hW]; simp
        have c6 : W0.cell? ⟨wr.heap.size, 6, none⟩ = some (.int .i64 mo) := by rw [hW]; simp
        have c7 : W0.cell? ⟨wr.heap.size, 7, none⟩ = some (.string pt) := by rw [hW]; simp
        have c8 : W0.cell? ⟨wr.heap.size, 8, none⟩ = some (.int .i64 un) := by rw [hW]; simp
        have c9 : W0.cell? ⟨wr.heap.size, 9, none⟩ = some (.int .i64 ma) := by rw [hW]; simp
        have hbW : wr.heap.size < W0.heap.size := by rw [hW]; simp
        have hgW : g < W0.heap.size := Nat.lt_trans hgr hbW
        clear hW
        have KC : Hid (∀ W, Below W0.heap.size W0 W → Calls Tryd.prog 50 #[.agg #[.string na, .string va, .string ho, .bool al, .string pa, .bool se, .int .i64 mo, .string pt, .int .i64 un, .int .i64 ma]] W fun e w' => e = .returned (.bool false) ∧ Below W.heap.size W w') := fun W hb => KC0 W (HBr.out.trans (hb.mono HBr.out.size))
        clear KC0
        go_wp2_with fail
        rw [← hW0.out]
        clear hW0
        generalize hbb : wr.heap.size = b at *
        clear hbb HBr HB d0 d1 d2 d3 d4 d5 d6 d7 d8 d9
        refine wp_region_held_drew (S := (fun w' => w'.cell? ⟨b, 0, none⟩ = some (.string na) ∧ w'.cell? ⟨b, 1, none⟩ = some (.string va) ∧ w'.cell? ⟨b, 2, none⟩ = some (.string ho) ∧ w'.cell? ⟨b, 3, none⟩ = some (.bool al) ∧ w'.cell? ⟨b, 4, none⟩ = some (.string pa) ∧ w'.cell? ⟨b, 5, none⟩ = some (.bool se) ∧ w'.cell? ⟨b, 6, none⟩ = some (.int .i64 mo) ∧ w'.cell? ⟨b, 7, none⟩ = some (.string pt) ∧ w'.cell? ⟨b, 8, none⟩ = some (.int .i64 un) ∧ w'.cell? ⟨b, 9, none⟩ = some (.int .i64 ma))) (by kernel_rfl) ?_ (fun hH0 => ?_)
        · (try dsimp only)
          go_keep
        refine wpAnyH_take (i := 0) (oi := { dst := some 15, op := Op.load 59 (Operand.tmp 4), type := 59, pos := "l06_jar.go:86", after := #[], guard := none }) (v := ?va0) rfl (by kernel_rfl) (by kernel_rfl) (by kernel_rfl) (fun _ _ _ h => h) (Or.inl ⟨by rfl, ?hya0⟩) (by assumption) ?resta0
        case hya0 =>
          intro w hSw
          (try dsimp only at hSw)
          go_simp
          try with_reducible rfl
        try simp only [Act.put, List.setIfInBounds_toArray, List.set_cons_zero, List.set_cons_succ]
        refine wpAnyH_ready (rs := [1]) (by kernel_rfl) (by simp) ?_
        refine AllReadyH.cons (o := { dst := some 16, op := Op.call { callee := Callee.value (Operand.func 50), args := #[Operand.tmp 15], argTypes := #[59] }, type := 4, pos := "l06_jar.go:86", after := #[{ on := 0, ground := Ground.data }], guard := none }) rfl (fun K hK => ?_) AllReadyH.nil
        go_simp
        (go_at_call 50; refine (KC.out _ (Below.drew (Below.refl _ _))).mono ?_; rintro e w2 ⟨rfl, hb2⟩; have x0 : w2.cell? ⟨b, 0, none⟩ = some (.string na) := ((bcell hb2).1 _ _ hbW).trans c0; have x1 : w2.cell? ⟨b, 1, none⟩ = some (.string va) := ((bcell hb2).1 _ _ hbW).trans c1; have x2 : w2.cell? ⟨b, 2, none⟩ = some (.string ho) := ((bcell hb2).1 _ _ hbW).trans c2; have x3 : w2.cell? ⟨b, 3, none⟩ = some (.bool al) := ((bcell hb2).1 _ _ hbW).trans c3; have x4 : w2.cell? ⟨b, 4, none⟩ = some (.string pa) := ((bcell hb2).1 _ _ hbW).trans c4; have x5 : w2.cell? ⟨b, 5, none⟩ = some (.bool se) := ((bcell hb2).1 _ _ hbW).trans c5; have x6 : w2.cell? ⟨b, 6, none⟩ = some (.int .i64 mo) := ((bcell hb2).1 _ _ hbW).trans c6; have x7 : w2.cell? ⟨b, 7, none⟩ = some (.string pt) := ((bcell hb2).1 _ _ hbW).trans c7; have x8 : w2.cell? ⟨b, 8, none⟩ = some (.int .i64 un) := ((bcell hb2).1 _ _ hbW).trans c8; have x9 : w2.cell? ⟨b, 9, none⟩ = some (.int .i64 ma) := ((bcell hb2).1 _ _ hbW).trans c9)
        try (go_wp2_with fail)
        refine hK.out _ _ ?_ (fun hH1 => ?_)
        · (try dsimp only)
          go_keep
        clear hK K hH0
        try simp only [Act.put, List.setIfInBounds_toArray, List.set_cons_zero, List.set_cons_succ]
        refine wpAnyH_take (i := 2) (oi := { dst := some 17, op := Op.unOp UnOp.not 4 (Operand.tmp 16), type := 4, pos := "l06_jar.go:86", after := #[{ on := 1, ground := Ground.data }], guard := none }) (v := ?va2) rfl (by kernel_rfl) (by kernel_rfl) (by kernel_rfl) (fun _ _ _ h => h) (Or.inl ⟨by rfl, ?hya2⟩) (by assumption) ?resta2
        case hya2 =>
          intro w hSw
          (try dsimp only at hSw)
          go_simp
          try with_reducible rfl
        try simp only [Act.put, List.setIfInBounds_toArray, List.set_cons_zero, List.set_cons_succ]
        refine wpAnyH_take (i := 3) (oi := { dst := some 18, op := Op.move (Operand.tmp 17), type := 4, pos := "l06_jar.go:86", after := #[{ on := 2, ground := Ground.data }, { on := 1, ground := Ground.chain }], guard := none }) (v := ?va3) rfl (by kernel_rfl) (by kernel_rfl) (by kernel_rfl) (fun _ _ _ h => h) (Or.inl ⟨by rfl, ?hya3⟩) (by assumption) ?resta3
        case hya3 =>
          intro w hSw
          (try dsimp only at hSw)
          go_simp
          try with_reducible rfl
        try simp only [Act.put, List.setIfInBounds_toArray, List.set_cons_zero, List.set_cons_succ]
        refine wpAnyH_take (i := 4) (oi := { dst := some 19, op := Op.move (Operand.tmp 3), type := 3, pos := "l06_jar.go:86", after := #[{ on := 3, ground := Ground.guard }], guard := some (3, false) }) (v := undef) rfl (by kernel_rfl) (by kernel_rfl) (by kernel_rfl) (fun _ _ _ h => h) (Or.inr ⟨by rfl, rfl⟩) (by assumption) ?_
        try simp only [Act.put, List.setIfInBounds_toArray, List.set_cons_zero, List.set_cons_succ]
        refine wpAnyH_take (i := 5) (oi := { dst := some 20, op := Op.binOp BinOp.gtr 3 (Operand.tmp 19) (Operand.const (Value.int IntKind.i64 0)) 3, type := 4, pos := "l06_jar.go:86", after := #[{ on := 4, ground := Ground.data }, { on := 3, ground := Ground.guard }], guard := some (3, false) }) (v := undef) rfl (by kernel_rfl) (by kernel_rfl) (by kernel_rfl) (fun _ _ _ h => h) (Or.inr ⟨by rfl, rfl⟩) (by assumption) ?_
        try simp only [Act.put, List.setIfInBounds_toArray, List.set_cons_zero, List.set_cons_succ]
        refine wpAnyH_take (i := 6) (oi := { dst := some 21, op := Op.move (Operand.tmp 20), type := 4, pos := "l06_jar.go:86", after := #[{ on := 5, ground := Ground.data }, { on := 3, ground := Ground.chain }, { on := 3, ground := Ground.guard }], guard := some (3, false) }) (v := undef) rfl (by kernel_rfl) (by kernel_rfl) (by kernel_rfl) (fun _ _ _ h => h) (Or.inr ⟨by rfl, rfl⟩) (by assumption) ?_
        try simp only [Act.put, List.setIfInBounds_toArray, List.set_cons_zero, List.set_cons_succ]
        refine wpAnyH_take (i := 7) (oi := { dst := some 22, op := Op.move (Operand.tmp 0), type := 65, pos := "l06_jar.go:86", after := #[{ on := 6, ground := Ground.guard }], guard := some (6, true) }) (v := undef) rfl (by kernel_rfl) (by kernel_rfl) (by kernel_rfl) (fun _ _ _ h => h) (Or.inr ⟨by rfl, rfl⟩) (by assumption) ?_
        try simp only [Act.put, List.setIfInBounds_toArray, List.set_cons_zero, List.set_cons_succ]
        refine wpAnyH_take (i := 8) (oi := { dst := some 23, op := Op.move (Operand.tmp 3), type := 3, pos := "l06_jar.go:86", after := #[{ on := 6, ground := Ground.guard }], guard := some (6, true) }) (v := undef) rfl (by kernel_rfl) (by kernel_rfl) (by kernel_rfl) (fun _ _ _ h => h) (Or.inr ⟨by rfl, rfl⟩) (by assumption) ?_
        try simp only [Act.put, List.setIfInBounds_toArray, List.set_cons_zero, List.set_cons_succ]
        refine wpAnyH_take (i := 9) (oi := { dst := some 24, op := Op.binOp BinOp.sub 3 (Operand.tmp 23) (Operand.const (Value.int IntKind.i64 1)) 3, type := 3, pos := "l06_jar.go:86", after := #[{ on := 8, ground := Ground.data }, { on := 6, ground := Ground.guard }], guard := some (6, true) }) (v := undef) rfl (by kernel_rfl) (by kernel_rfl) (by kernel_rfl) (fun _ _ _ h => h) (Or.inr ⟨by rfl, rfl⟩) (by assumption) ?_
        try simp only [Act.put, List.setIfInBounds_toArray, List.set_cons_zero, List.set_cons_succ]
        refine wpAnyH_take (i := 10) (oi := { dst := some 25, op := Op.indexAddr 65 (Operand.tmp 22) (Operand.tmp 24), type := 0, pos := "l06_jar.go:86", after := #[{ on := 7, ground := Ground.data }, { on := 9, ground := Ground.data }, { on := 6, ground := Ground.guard }], guard := some (6, true) }) (v := undef) rfl (by kernel_rfl) (by kernel_rfl) (by kernel_rfl) (fun _ _ _ h => h) (Or.inr ⟨by rfl, rfl⟩) (by assumption) ?_
        try simp only [Act.put, List.setIfInBounds_toArray, List.set_cons_zero, List.set_cons_succ]
        refine wpAnyH_take (i := 11) (oi := { dst := some 26, op := Op.fieldAddr 59 (Operand.tmp 25) 9, type := 0, pos := "l06_jar.go:86", after := #[{ on := 10, ground := Ground.data }, { on := 6, ground := Ground.guard }], guard := some (6, true) }) (v := undef) rfl (by kernel_rfl) (by kernel_rfl) (by kernel_rfl) (fun _ _ _ h => h) (Or.inr ⟨by rfl, rfl⟩) (by assumption) ?_
        try simp only [Act.put, List.setIfInBounds_toArray, List.set_cons_zero, List.set_cons_succ]
        refine wpAnyH_take (i := 12) (oi := { dst := some 27, op := Op.load 2 (Operand.tmp 26), type := 2, pos := "l06_jar.go:86", after := #[{ on := 11, ground := Ground.data }, { on := 6, ground := Ground.guard }], guard := some (6, true) }) (v := undef) rfl (by kernel_rfl) (by kernel_rfl) (by kernel_rfl) (fun _ _ _ h => h) (Or.inr ⟨by rfl, rfl⟩) (by assumption) ?_
        try simp only [Act.put, List.setIfInBounds_toArray, List.set_cons_zero, List.set_cons_succ]
        refine wpAnyH_take (i := 13) (oi := { dst := some 28, op := Op.fieldAddr 59 (Operand.tmp 4) 9, type := 0, pos := "l06_jar.go:86", after := #[{ on := 6, ground := Ground.guard }], guard := some (6, true) }) (v := undef) rfl (by kernel_rfl) (by kernel_rfl) (by kernel_rfl) (fun _ _ _ h => h) (Or.inr ⟨by rfl, rfl⟩) (by assumption) ?_
        try simp only [Act.put, List.setIfInBounds_toArray, List.set_cons_zero, List.set_cons_succ]
        refine wpAnyH_take (i := 14) (oi := { dst := some 29, op := Op.load 2 (Operand.tmp 28), type := 2, pos := "l06_jar.go:86", after := #[{ on := 13, ground := Ground.data }, { on := 6, ground := Ground.guard }], guard := some (6, true) }) (v := undef) rfl (by kernel_rfl) (by kernel_rfl) (by kernel_rfl) (fun _ _ _ h => h) (Or.inr ⟨by rfl, rfl⟩) (by assumption) ?_
        try simp only [Act.put, List.setIfInBounds_toArray, List.set_cons_zero, List.set_cons_succ]
        refine wpAnyH_take (i := 15) (oi := { dst := some 30, op := Op.binOp BinOp.geq 2 (Operand.tmp 27) (Operand.tmp 29) 2, type := 4, pos := "l06_jar.go:86", after := #[{ on := 12, ground := Ground.data }, { on := 14, ground := Ground.data }, { on := 6, ground := Ground.guard }], guard := some (6, true) }) (v := undef) rfl (by kernel_rfl) (by kernel_rfl) (by kernel_rfl) (fun _ _ _ h => h) (Or.inr ⟨by rfl, rfl⟩) (by assumption) ?_
        try simp only [Act.put, List.setIfInBounds_toArray, List.set_cons_zero, List.set_cons_succ]
        refine wpAnyH_take (i := 16) (oi := { dst := some 31, op := Op.pick (Operand.tmp 21) (Operand.tmp 30) (Operand.const (Value.bool false)), type := 4, pos := "l06_jar.go:86", after := #[{ on := 6, ground := Ground.data }, { on := 15, ground := Ground.data }, { on := 3, ground := Ground.guard }], guard := some (3, false) }) (v := undef) rfl (by kernel_rfl) (by kernel_rfl) (by kernel_rfl) (fun _ _ _ h => h) (Or.inr ⟨by rfl, rfl⟩) (by assumption) ?_
        try simp only [Act.put, List.setIfInBounds_toArray, List.set_cons_zero, List.set_cons_succ]
        refine wpAnyH_take (i := 17) (oi := { dst := some 32, op := Op.pick (Operand.tmp 18) (Operand.const (Value.bool true)) (Operand.tmp 31), type := 4, pos := "l06_jar.go:86", after := #[{ on := 3, ground := Ground.data }, { on := 16, ground := Ground.data }], guard := none }) (v := ?va17) rfl (by kernel_rfl) (by kernel_rfl) (by kernel_rfl) (fun _ _ _ h => h) (Or.inl ⟨by rfl, ?hya17⟩) (by assumption) ?resta17
        case hya17 =>
          intro w hSw
          (try dsimp only at hSw)
          go_simp
          try with_reducible rfl
        try simp only [Act.put, List.setIfInBounds_toArray, List.set_cons_zero, List.set_cons_succ]
        refine wpAnyH_done (by kernel_rfl) ?_ _
        go_wp2
        go_ret
        exact ⟨ret_bool HQ.out.symm, (HBW.out.trans (Below.drew (Below.refl _ _))).trans (hb2.mono HBW.out.size)⟩
      | true =>
        have HKY1 := HKY0.out rfl
        clear HKN HKY0
        cases k with
        | zero =>
          have HKY : Hid (hasK L 0 (atC L 0) = false → okJ L 0 = true) := HKY1 (.inl rfl)
          clear HKY1
          rw [Nat.zero_mul] at d0 d1 d2 d3 d4 d5 d6 d7 d8 d9
          rw [Nat.zero_add] at d1
          rw [Nat.zero_add] at d2
          rw [Nat.zero_add] at d3
          rw [Nat.zero_add] at d4
          rw [Nat.zero_add] at d5
          rw [Nat.zero_add] at d6
          rw [Nat.zero_add] at d7
          rw [Nat.zero_add] at d8
          rw [Nat.zero_add] at d9
          generalize atC L 0 = y at *
          obtain ⟨na, va, ho, al, pa, se, mo, pt, un, ma⟩ := y
          unfold ckV at KC0
          dsimp only at *
          obtain ⟨W0, hW⟩ : ∃ W0, W0 = wr.alloc (.cells #[.string na, .string va, .string ho, .bool al, .string pa, .bool se, .int .i64 mo, .string pt, .int .i64 un, .int .i64 ma] 59) := ⟨_, rfl⟩
          have hW0 : Hid (W0 = wr.alloc (.cells #[.string na, .string va, .string ho, .bool al, .string pa, .bool se, .int .i64 mo, .string pt, .int .i64 un, .int .i64 ma] 59)) := hW
          have HBW : Hid (Below w.heap.size w W0) := by show Below _ _ _; rw [hW]; exact HB.out.alloc HB.out.size _
          have HBr : Hid (Below wr.heap.size wr W0) := by show Below _ _ _; rw [hW]; exact (Below.refl _ _).alloc (Nat.le_refl _) _
          have c0 : W0.cell? ⟨wr.heap.size, 0, none⟩ = some (.string na) := by rw [hW]; simp
          have c1 : W0.cell? ⟨wr.heap.size, 1, none⟩ = some (.string va) := by rw [hW]; simp
          have c2 : W0.cell? ⟨wr.heap.size, 2, none⟩ = some (.string ho) := by rw [hW]; simp
          have c3 : W0.cell? ⟨wr.heap.size, 3, none⟩ = some (.bool al) := by rw [hW]; simp
          have c4 : W0.cell? ⟨wr.heap.size, 4, none⟩ = some (.string pa) := by rw [hW]; simp
          have c5 : W0.cell? ⟨wr.heap.size, 5, none⟩ = some (.bool se) := by rw [hW]; simp
          have c6 : W0.cell? ⟨wr.heap.size, 6, none⟩ = some (.int .i64 mo) := by rw [hW]; simp
          have c7 : W0.cell? ⟨wr.heap.size, 7, none⟩ = some (.string pt) := by rw [hW]; simp
          have c8 : W0.cell? ⟨wr.heap.size, 8, none⟩ = some (.int .i64 un) := by rw [hW]; simp
          have c9 : W0.cell? ⟨wr.heap.size, 9, none⟩ = some (.int .i64 ma) := by rw [hW]; simp
          have hbW : wr.heap.size < W0.heap.size := by rw [hW]; simp
          have hgW : g < W0.heap.size := Nat.lt_trans hgr hbW
          clear hW
          have KC : Hid (∀ W, Below W0.heap.size W0 W → Calls Tryd.prog 50 #[.agg #[.string na, .string va, .string ho, .bool al, .string pa, .bool se, .int .i64 mo, .string pt, .int .i64 un, .int .i64 ma]] W fun e w' => e = .returned (.bool true) ∧ Below W.heap.size W w') := fun W hb => KC0 W (HBr.out.trans (hb.mono HBr.out.size))
          clear KC0
          have q2 : decide ((0 : Int) < ((0 : Nat) : Int)) = false := by decide
          go_wp2_with fail
          rw [← hW0.out]
          clear hW0
          generalize hbb : wr.heap.size = b at *
          clear hbb HBr HB d0 d1 d2 d3 d4 d5 d6 d7 d8 d9
          refine wp_region_held_drew (S := (fun w' => w'.cell? ⟨b, 0, none⟩ = some (.string na) ∧ w'.cell? ⟨b, 1, none⟩ = some (.string va) ∧ w'.cell? ⟨b, 2, none⟩ = some (.string ho) ∧ w'.cell? ⟨b, 3, none⟩ = some (.bool al) ∧ w'.cell? ⟨b, 4, none⟩ = some (.string pa) ∧ w'.cell? ⟨b, 5, none⟩ = some (.bool se) ∧ w'.cell? ⟨b, 6, none⟩ = some (.int .i64 mo) ∧ w'.cell? ⟨b, 7, none⟩ = some (.string pt) ∧ w'.cell? ⟨b, 8, none⟩ = some (.int .i64 un) ∧ w'.cell? ⟨b, 9, none⟩ = some (.int .i64 ma))) (by kernel_rfl) ?_ (fun hH0 => ?_)
          · (try dsimp only)
            go_keep
          refine wpAnyH_take (i := 0) (oi := { dst := some 15, op := Op.load 59 (Operand.tmp 4), type := 59, pos := "l06_jar.go:86", after := #[], guard := none }) (v := ?vb0) rfl (by kernel_rfl) (by kernel_rfl) (by kernel_rfl) (fun _ _ _ h => h) (Or.inl ⟨by rfl, ?hyb0⟩) (by assumption) ?restb0
          case hyb0 =>
            intro w hSw
            (try dsimp only at hSw)
            go_simp
            try with_reducible rfl
          try simp only [Act.put, List.setIfInBounds_toArray, List.set_cons_zero, List.set_cons_succ]
          refine wpAnyH_ready (rs := [1]) (by kernel_rfl) (by simp) ?_
          refine AllReadyH.cons (o := { dst := some 16, op := Op.call { callee := Callee.value (Operand.func 50), args := #[Operand.tmp 15], argTypes := #[59] }, type := 4, pos := "l06_jar.go:86", after := #[{ on := 0, ground := Ground.data }], guard := none }) rfl (fun K hK => ?_) AllReadyH.nil
          go_simp
          (go_at_call 50; refine (KC.out _ (Below.drew (Below.refl _ _))).mono ?_; rintro e w2 ⟨rfl, hb2⟩; have x0 : w2.cell? ⟨b, 0, none⟩ = some (.string na) := ((bcell hb2).1 _ _ hbW).trans c0; have x1 : w2.cell? ⟨b, 1, none⟩ = some (.string va) := ((bcell hb2).1 _ _ hbW).trans c1; have x2 : w2.cell? ⟨b, 2, none⟩ = some (.string ho) := ((bcell hb2).1 _ _ hbW).trans c2; have x3 : w2.cell? ⟨b, 3, none⟩ = some (.bool al) := ((bcell hb2).1 _ _ hbW).trans c3; have x4 : w2.cell? ⟨b, 4, none⟩ = some (.string pa) := ((bcell hb2).1 _ _ hbW).trans c4; have x5 : w2.cell? ⟨b, 5, none⟩ = some (.bool se) := ((bcell hb2).1 _ _ hbW).trans c5; have x6 : w2.cell? ⟨b, 6, none⟩ = some (.int .i64 mo) := ((bcell hb2).1 _ _ hbW).trans c6; have x7 : w2.cell? ⟨b, 7, none⟩ = some (.string pt) := ((bcell hb2).1 _ _ hbW).trans c7; have x8 : w2.cell? ⟨b, 8, none⟩ = some (.int .i64 un) := ((bcell hb2).1 _ _ hbW).trans c8; have x9 : w2.cell? ⟨b, 9, none⟩ = some (.int .i64 ma) := ((bcell hb2).1 _ _ hbW).trans c9)
          try (go_wp2_with fail)
          refine hK.out _ _ ?_ (fun hH1 => ?_)
          · (try dsimp only)
            go_keep
          clear hK K hH0
          try simp only [Act.put, List.setIfInBounds_toArray, List.set_cons_zero, List.set_cons_succ]
          refine wpAnyH_take (i := 2) (oi := { dst := some 17, op := Op.unOp UnOp.not 4 (Operand.tmp 16), type := 4, pos := "l06_jar.go:86", after := #[{ on := 1, ground := Ground.data }], guard := none }) (v := ?vb2) rfl (by kernel_rfl) (by kernel_rfl) (by kernel_rfl) (fun _ _ _ h => h) (Or.inl ⟨by rfl, ?hyb2⟩) (by assumption) ?restb2
          case hyb2 =>
            intro w hSw
            (try dsimp only at hSw)
            go_simp
            try with_reducible rfl
          try simp only [Act.put, List.setIfInBounds_toArray, List.set_cons_zero, List.set_cons_succ]
          refine wpAnyH_take (i := 3) (oi := { dst := some 18, op := Op.move (Operand.tmp 17), type := 4, pos := "l06_jar.go:86", after := #[{ on := 2, ground := Ground.data }, { on := 1, ground := Ground.chain }], guard := none }) (v := ?vb3) rfl (by kernel_rfl) (by kernel_rfl) (by kernel_rfl) (fun _ _ _ h => h) (Or.inl ⟨by rfl, ?hyb3⟩) (by assumption) ?restb3
          case hyb3 =>
            intro w hSw
            (try dsimp only at hSw)
            go_simp
            try with_reducible rfl
          try simp only [Act.put, List.setIfInBounds_toArray, List.set_cons_zero, List.set_cons_succ]
          refine wpAnyH_take (i := 4) (oi := { dst := some 19, op := Op.move (Operand.tmp 3), type := 3, pos := "l06_jar.go:86", after := #[{ on := 3, ground := Ground.guard }], guard := some (3, false) }) (v := ?vb4) rfl (by kernel_rfl) (by kernel_rfl) (by kernel_rfl) (fun _ _ _ h => h) (Or.inl ⟨by rfl, ?hyb4⟩) (by assumption) ?restb4
          case hyb4 =>
            intro w hSw
            (try dsimp only at hSw)
            go_simp
            try with_reducible rfl
          try simp only [Act.put, List.setIfInBounds_toArray, List.set_cons_zero, List.set_cons_succ]
          refine wpAnyH_take (i := 5) (oi := { dst := some 20, op := Op.binOp BinOp.gtr 3 (Operand.tmp 19) (Operand.const (Value.int IntKind.i64 0)) 3, type := 4, pos := "l06_jar.go:86", after := #[{ on := 4, ground := Ground.data }, { on := 3, ground := Ground.guard }], guard := some (3, false) }) (v := ?vb5) rfl (by kernel_rfl) (by kernel_rfl) (by kernel_rfl) (fun _ _ _ h => h) (Or.inl ⟨by rfl, ?hyb5⟩) (by assumption) ?restb5
          case hyb5 =>
            intro w hSw
            (try dsimp only at hSw)
            go_simp
            try with_reducible rfl
          try simp only [Act.put, List.setIfInBounds_toArray, List.set_cons_zero, List.set_cons_succ]
          refine wpAnyH_take (i := 6) (oi := { dst := some 21, op := Op.move (Operand.tmp 20), type := 4, pos := "l06_jar.go:86", after := #[{ on := 5, ground := Ground.data }, { on := 3, ground := Ground.chain }, { on := 3, ground := Ground.guard }], guard := some (3, false) }) (v := ?vb6) rfl (by kernel_rfl) (by kernel_rfl) (by kernel_rfl) (fun _ _ _ h => h) (Or.inl ⟨by rfl, ?hyb6⟩) (by assumption) ?restb6
          case hyb6 =>
            intro w hSw
            (try dsimp only at hSw)
            go_simp
            try with_reducible rfl
          try simp only [Act.put, List.setIfInBounds_toArray, List.set_cons_zero, List.set_cons_succ]
          refine wpAnyH_take (i := 7) (oi := { dst := some 22, op := Op.move (Operand.tmp 0), type := 65, pos := "l06_jar.go:86", after := #[{ on := 6, ground := Ground.guard }], guard := some (6, true) }) (v := undef) rfl (by kernel_rfl) (by kernel_rfl) (by kernel_rfl) (fun _ _ _ h => h) (Or.inr ⟨by rfl, rfl⟩) (by assumption) ?_
          try simp only [Act.put, List.setIfInBounds_toArray, List.set_cons_zero, List.set_cons_succ]
          refine wpAnyH_take (i := 8) (oi := { dst := some 23, op := Op.move (Operand.tmp 3), type := 3, pos := "l06_jar.go:86", after := #[{ on := 6, ground := Ground.guard }], guard := some (6, true) }) (v := undef) rfl (by kernel_rfl) (by kernel_rfl) (by kernel_rfl) (fun _ _ _ h => h) (Or.inr ⟨by rfl, rfl⟩) (by assumption) ?_
          try simp only [Act.put, List.setIfInBounds_toArray, List.set_cons_zero, List.set_cons_succ]
          refine wpAnyH_take (i := 9) (oi := { dst := some 24, op := Op.binOp BinOp.sub 3 (Operand.tmp 23) (Operand.const (Value.int IntKind.i64 1)) 3, type := 3, pos := "l06_jar.go:86", after := #[{ on := 8, ground := Ground.data }, { on := 6, ground := Ground.guard }], guard := some (6, true) }) (v := undef) rfl (by kernel_rfl) (by kernel_rfl) (by kernel_rfl) (fun _ _ _ h => h) (Or.inr ⟨by rfl, rfl⟩) (by assumption) ?_
          try simp only [Act.put, List.setIfInBounds_toArray, List.set_cons_zero, List.set_cons_succ]
          refine wpAnyH_take (i := 10) (oi := { dst := some 25, op := Op.indexAddr 65 (Operand.tmp 22) (Operand.tmp 24), type := 0, pos := "l06_jar.go:86", after := #[{ on := 7, ground := Ground.data }, { on := 9, ground := Ground.data }, { on := 6, ground := Ground.guard }], guard := some (6, true) }) (v := undef) rfl (by kernel_rfl) (by kernel_rfl) (by kernel_rfl) (fun _ _ _ h => h) (Or.inr ⟨by rfl, rfl⟩) (by assumption) ?_
          try simp only [Act.put, List.setIfInBounds_toArray, List.set_cons_zero, List.set_cons_succ]
          refine wpAnyH_take (i := 11) (oi := { dst := some 26, op := Op.fieldAddr 59 (Operand.tmp 25) 9, type := 0, pos := "l06_jar.go:86", after := #[{ on := 10, ground := Ground.data }, { on := 6, ground := Ground.guard }], guard := some (6, true) }) (v := undef) rfl (by kernel_rfl) (by kernel_rfl) (by kernel_rfl) (fun _ _ _ h => h) (Or.inr ⟨by rfl, rfl⟩) (by assumption) ?_
          try simp only [Act.put, List.setIfInBounds_toArray, List.set_cons_zero, List.set_cons_succ]
          refine wpAnyH_take (i := 12) (oi := { dst := some 27, op := Op.load 2 (Operand.tmp 26), type := 2, pos := "l06_jar.go:86", after := #[{ on := 11, ground := Ground.data }, { on := 6, ground := Ground.guard }], guard := some (6, true) }) (v := undef) rfl (by kernel_rfl) (by kernel_rfl) (by kernel_rfl) (fun _ _ _ h => h) (Or.inr ⟨by rfl, rfl⟩) (by assumption) ?_
          try simp only [Act.put, List.setIfInBounds_toArray, List.set_cons_zero, List.set_cons_succ]
          refine wpAnyH_take (i := 13) (oi := { dst := some 28, op := Op.fieldAddr 59 (Operand.tmp 4) 9, type := 0, pos := "l06_jar.go:86", after := #[{ on := 6, ground := Ground.guard }], guard := some (6, true) }) (v := undef) rfl (by kernel_rfl) (by kernel_rfl) (by kernel_rfl) (fun _ _ _ h => h) (Or.inr ⟨by rfl, rfl⟩) (by assumption) ?_
          try simp only [Act.put, List.setIfInBounds_toArray, List.set_cons_zero, List.set_cons_succ]
          refine wpAnyH_take (i := 14) (oi := { dst := some 29, op := Op.load 2 (Operand.tmp 28), type := 2, pos := "l06_jar.go:86", after := #[{ on := 13, ground := Ground.data }, { on := 6, ground := Ground.guard }], guard := some (6, true) }) (v := undef) rfl (by kernel_rfl) (by kernel_rfl) (by kernel_rfl) (fun _ _ _ h => h) (Or.inr ⟨by rfl, rfl⟩) (by assumption) ?_
          try simp only [Act.put, List.setIfInBounds_toArray, List.set_cons_zero, List.set_cons_succ]
          refine wpAnyH_take (i := 15) (oi := { dst := some 30, op := Op.binOp BinOp.geq 2 (Operand.tmp 27) (Operand.tmp 29) 2, type := 4, pos := "l06_jar.go:86", after := #[{ on := 12, ground := Ground.data }, { on := 14, ground := Ground.data }, { on := 6, ground := Ground.guard }], guard := some (6, true) }) (v := undef) rfl (by kernel_rfl) (by kernel_rfl) (by kernel_rfl) (fun _ _ _ h => h) (Or.inr ⟨by rfl, rfl⟩) (by assumption) ?_
          try simp only [Act.put, List.setIfInBounds_toArray, List.set_cons_zero, List.set_cons_succ]
          refine wpAnyH_take (i := 16) (oi := { dst := some 31, op := Op.pick (Operand.tmp 21) (Operand.tmp 30) (Operand.const (Value.bool false)), type := 4, pos := "l06_jar.go:86", after := #[{ on := 6, ground := Ground.data }, { on := 15, ground := Ground.data }, { on := 3, ground := Ground.guard }], guard := some (3, false) }) (v := ?vb16) rfl (by kernel_rfl) (by kernel_rfl) (by kernel_rfl) (fun _ _ _ h => h) (Or.inl ⟨by rfl, ?hyb16⟩) (by assumption) ?restb16
          case hyb16 =>
            intro w hSw
            (try dsimp only at hSw)
            go_simp
            try with_reducible rfl
          try simp only [Act.put, List.setIfInBounds_toArray, List.set_cons_zero, List.set_cons_succ]
          refine wpAnyH_take (i := 17) (oi := { dst := some 32, op := Op.pick (Operand.tmp 18) (Operand.const (Value.bool true)) (Operand.tmp 31), type := 4, pos := "l06_jar.go:86", after := #[{ on := 3, ground := Ground.data }, { on := 16, ground := Ground.data }], guard := none }) (v := ?vb17) rfl (by kernel_rfl) (by kernel_rfl) (by kernel_rfl) (fun _ _ _ h => h) (Or.inl ⟨by rfl, ?hyb17⟩) (by assumption) ?restb17
          case hyb17 =>
            intro w hSw
            (try dsimp only at hSw)
            go_simp
            try with_reducible rfl
          try simp only [Act.put, List.setIfInBounds_toArray, List.set_cons_zero, List.set_cons_succ]
          refine wpAnyH_done (by kernel_rfl) ?_ _
          have B2 : Hid (Below w.heap.size w w2) := (HBW.out.trans (Below.drew (Below.refl _ _))).trans (hb2.mono HBW.out.size)
          have hg2 : g < w2.heap.size := Nat.lt_of_lt_of_le hgW (Nat.le_trans (Below.drew (Below.refl W0.heap.size W0)).size hb2.size)
          have hb22 : b < w2.heap.size := Nat.lt_of_lt_of_le hbW (Nat.le_trans (Below.drew (Below.refl W0.heap.size W0)).size hb2.size)
          clear hb2
          have KF : Hid (∀ W, Below w2.heap.size w2 W → Calls Tryd.prog 115 #[.slice (some ⟨g, 0, none⟩) 0 0, .func (.func 117) #[.agg #[.string ho, .bool al, .string pa, .string pt, .string na]] #[]] W fun e w' => e = .returned (.bool (hasK L 0 ⟨na, va, ho, al, pa, se, mo, pt, un, ma⟩)) ∧ Below W.heap.size W w') := fun W hb => containsHas_any g 0 L ⟨na, va, ho, al, pa, se, mo, pt, un, ma⟩ W (Nat.lt_of_lt_of_le hg2 hb.size) (by omega) hn (fun j hj o ho => by rw [(bcell (B2.out.trans (hb.mono B2.out.size))).1 _ _ hgw]; exact HC.out j (by omega) o ho)
          have KP : Hid (∀ W, Calls Tryd.prog 116 #[.agg #[.string na, .string va, .string ho, .bool al, .string pa, .bool se, .int .i64 mo, .string pt, .int .i64 un, .int .i64 ma]] W fun e w' => e = .returned (.agg #[.string ho, .bool al, .string pa, .string pt, .string na]) ∧ Below W.heap.size W w') := fun W => placeOf_any ⟨na, va, ho, al, pa, se, mo, pt, un, ma⟩ W
          have HS1 : Hid (hasK L 0 ⟨na, va, ho, al, pa, se, mo, pt, un, ma⟩ = true → R = false) := HSN.out
          have HS2 : Hid (hasK L 0 ⟨na, va, ho, al, pa, se, mo, pt, un, ma⟩ = false → okJ L 0 = true) := HKY.out
          clear HSN HKY
          generalize hasK L 0 ⟨na, va, ho, al, pa, se, mo, pt, un, ma⟩ = hs at *
          go_wp2_with fail
          go_region_held3 (fun w' => w'.cell? ⟨b, 0, none⟩ = some (.string na) ∧ w'.cell? ⟨b, 1, none⟩ = some (.string va) ∧ w'.cell? ⟨b, 2, none⟩ = some (.string ho) ∧ w'.cell? ⟨b, 3, none⟩ = some (.bool al) ∧ w'.cell? ⟨b, 4, none⟩ = some (.string pa) ∧ w'.cell? ⟨b, 5, none⟩ = some (.bool se) ∧ w'.cell? ⟨b, 6, none⟩ = some (.int .i64 mo) ∧ w'.cell? ⟨b, 7, none⟩ = some (.string pt) ∧ w'.cell? ⟨b, 8, none⟩ = some (.int .i64 un) ∧ w'.cell? ⟨b, 9, none⟩ = some (.int .i64 ma)) (go_keep)
            (first | (go_at_call 116; refine (KP.out _).mono ?_; rintro e w3 ⟨rfl, hb3⟩; have A3 : Below w2.heap.size w2 w3 := (Below.drew (Below.refl _ _)).trans hb3; have y0 : w3.cell? ⟨b, 0, none⟩ = some (.string na) := ((bcell A3).1 _ _ hb22).trans x0; have y1 : w3.cell? ⟨b, 1, none⟩ = some (.string va) := ((bcell A3).1 _ _ hb22).trans x1; have y2 : w3.cell? ⟨b, 2, none⟩ = some (.string ho) := ((bcell A3).1 _ _ hb22).trans x2; have y3 : w3.cell? ⟨b, 3, none⟩ = some (.bool al) := ((bcell A3).1 _ _ hb22).trans x3; have y4 : w3.cell? ⟨b, 4, none⟩ = some (.string pa) := ((bcell A3).1 _ _ hb22).trans x4; have y5 : w3.cell? ⟨b, 5, none⟩ = some (.bool se) := ((bcell A3).1 _ _ hb22).trans x5; have y6 : w3.cell? ⟨b, 6, none⟩ = some (.int .i64 mo) := ((bcell A3).1 _ _ hb22).trans x6; have y7 : w3.cell? ⟨b, 7, none⟩ = some (.string pt) := ((bcell A3).1 _ _ hb22).trans x7; have y8 : w3.cell? ⟨b, 8, none⟩ = some (.int .i64 un) := ((bcell A3).1 _ _ hb22).trans x8; have y9 : w3.cell? ⟨b, 9, none⟩ = some (.int .i64 ma) := ((bcell A3).1 _ _ hb22).trans x9) | (go_at_call 115; refine (KF.out _ (by first | exact A3 | exact A3.trans (Below.drew (Below.refl _ _)))).mono ?_; rintro e w4 ⟨rfl, hb4⟩; have A4 : Below w2.heap.size w2 w4 := A3.trans (hb4.mono A3.size); have z0 : w4.cell? ⟨b, 0, none⟩ = some (.string na) := ((bcell A4).1 _ _ hb22).trans x0; have z1 : w4.cell? ⟨b, 1, none⟩ = some (.string va) := ((bcell A4).1 _ _ hb22).trans x1; have z2 : w4.cell? ⟨b, 2, none⟩ = some (.string ho) := ((bcell A4).1 _ _ hb22).trans x2; have z3 : w4.cell? ⟨b, 3, none⟩ = some (.bool al) := ((bcell A4).1 _ _ hb22).trans x3; have z4 : w4.cell? ⟨b, 4, none⟩ = some (.string pa) := ((bcell A4).1 _ _ hb22).trans x4; have z5 : w4.cell? ⟨b, 5, none⟩ = some (.bool se) := ((bcell A4).1 _ _ hb22).trans x5; have z6 : w4.cell? ⟨b, 6, none⟩ = some (.int .i64 mo) := ((bcell A4).1 _ _ hb22).trans x6; have z7 : w4.cell? ⟨b, 7, none⟩ = some (.string pt) := ((bcell A4).1 _ _ hb22).trans x7; have z8 : w4.cell? ⟨b, 8, none⟩ = some (.int .i64 un) := ((bcell A4).1 _ _ hb22).trans x8; have z9 : w4.cell? ⟨b, 9, none⟩ = some (.int .i64 ma) := ((bcell A4).1 _ _ hb22).trans x9))
          have B4 : Hid (Below w.heap.size w w4) := B2.out.trans (A4.mono B2.out.size)
          clear A3 A4 hb3 hb4
          cases hs with
          | true =>
            have HQ : Hid (R = false) := HS1.out rfl
            go_wp2
            go_ret
            exact ⟨ret_bool HQ.out.symm, B4.out⟩
          | false =>
            have HK2 : Hid (okJ L 0 = true) := HS2.out rfl
            go_wp2
            go_roundw
            case rel => exact ⟨1, by omega, by go_num, B4, okJ_succ (k := 0) (fun i hi => absurd hi (by omega)) HK2.out⟩
            case measure => simp [intOf]; omega
        | succ m =>
          have cm0 : wr.cell? ⟨g, m * 10 + 9, none⟩ = some (.int .i64 (atC L m).ma) := by rw [(bcell HB.out).1 _ _ hgw]; exact HC.out m (by omega) 9 (by omega)
          have HMN : Hid (¬ (atC L m).ma < (atC L (m + 1)).ma → R = false) := fun e => HN.out (m + 1) hlt (okJ_made e)
          have HKY2 : Hid ((atC L m).ma < (atC L (m + 1)).ma → hasK L (m + 1) (atC L (m + 1)) = false → okJ L (m + 1) = true) := fun a => HKY1 (.inr a)
          clear HKY1
          generalize hpm : (atC L m).ma = pm at *
          clear hpm
          have q2 : decide ((0 : Int) < ((m : Int) + 1)) = true := by rw [decide_eq_true_iff]; omega
          have hw1 : IntKind.i64.wrap ((m : Int) + 1 - 1) = m := by
            rw [IntKind.wrap_i64]; omega
          have hw2 : IntKind.i64.wrap (m : Int) = m := by rw [IntKind.wrap_i64]; omega
          have p0 : (0 : Int) ≤ (m : Int) + 1 := by omega
          have p1 : (m : Int) + 1 < L.length := by omega
          have pc : (m : Int) + 1 ≤ cap := by omega
          have m0 : (0 : Int) ≤ m := by omega
          have m1 : (m : Int) < L.length := by omega
          generalize atC L (m + 1) = y at *
          obtain ⟨na, va, ho, al, pa, se, mo, pt, un, ma⟩ := y
          unfold ckV at KC0
          dsimp only at *
          obtain ⟨W0, hW⟩ : ∃ W0, W0 = wr.alloc (.cells #[.string na, .string va, .string ho, .bool al, .string pa, .bool se, .int .i64 mo, .string pt, .int .i64 un, .int .i64 ma] 59) := ⟨_, rfl⟩
          have hW0 : Hid (W0 = wr.alloc (.cells #[.string na, .string va, .string ho, .bool al, .string pa, .bool se, .int .i64 mo, .string pt, .int .i64 un, .int .i64 ma] 59)) := hW
          have HBW : Hid (Below w.heap.size w W0) := by show Below _ _ _; rw [hW]; exact HB.out.alloc HB.out.size _
          have HBr : Hid (Below wr.heap.size wr W0) := by show Below _ _ _; rw [hW]; exact (Below.refl _ _).alloc (Nat.le_refl _) _
          have c0 : W0.cell? ⟨wr.heap.size, 0, none⟩ = some (.string na) := by rw [hW]; simp
          have c1 : W0.cell? ⟨wr.heap.size, 1, none⟩ = some (.string va) := by rw [hW]; simp
          have c2 : W0.cell? ⟨wr.heap.size, 2, none⟩ = some (.string ho) := by rw [hW]; simp
          have c3 : W0.cell? ⟨wr.heap.size, 3, none⟩ = some (.bool al) := by rw [hW]; simp
          have c4 : W0.cell? ⟨wr.heap.size, 4, none⟩ = some (.string pa) := by rw [hW]; simp
          have c5 : W0.cell? ⟨wr.heap.size, 5, none⟩ = some (.bool se) := by rw [hW]; simp
          have c6 : W0.cell? ⟨wr.heap.size, 6, none⟩ = some (.int .i64 mo) := by rw [hW]; simp
          have c7 : W0.cell? ⟨wr.heap.size, 7, none⟩ = some (.string pt) := by rw [hW]; simp
          have c8 : W0.cell? ⟨wr.heap.size, 8, none⟩ = some (.int .i64 un) := by rw [hW]; simp
          have c9 : W0.cell? ⟨wr.heap.size, 9, none⟩ = some (.int .i64 ma) := by rw [hW]; simp
          have hbW : wr.heap.size < W0.heap.size := by rw [hW]; simp
          have hgW : g < W0.heap.size := Nat.lt_trans hgr hbW
          clear hW
          have KC : Hid (∀ W, Below W0.heap.size W0 W → Calls Tryd.prog 50 #[.agg #[.string na, .string va, .string ho, .bool al, .string pa, .bool se, .int .i64 mo, .string pt, .int .i64 un, .int .i64 ma]] W fun e w' => e = .returned (.bool true) ∧ Below W.heap.size W w') := fun W hb => KC0 W (HBr.out.trans (hb.mono HBr.out.size))
          have cm : W0.cell? ⟨g, m * 10 + 9, none⟩ = some (.int .i64 pm) := ((bcell HBr.out).1 _ _ hgr).trans cm0
          clear KC0 cm0
          by_cases hlm : pm < ma
          · have qg : decide (ma ≤ pm) = false := by rw [decide_eq_false_iff_not]; omega
            have HKY : Hid (hasK L (m + 1) ⟨na, va, ho, al, pa, se, mo, pt, un, ma⟩ = false → okJ L (m + 1) = true) := HKY2.out hlm
            clear HKY2 HMN
            go_wp2_with fail
            rw [← hW0.out]
            clear hW0
            generalize hbb : wr.heap.size = b at *
            clear hbb HBr HB d0 d1 d2 d3 d4 d5 d6 d7 d8 d9
            refine wp_region_held_drew (S := (fun w' => w'.cell? ⟨b, 0, none⟩ = some (.string na) ∧ w'.cell? ⟨b, 1, none⟩ = some (.string va) ∧ w'.cell? ⟨b, 2, none⟩ = some (.string ho) ∧ w'.cell? ⟨b, 3, none⟩ = some (.bool al) ∧ w'.cell? ⟨b, 4, none⟩ = some (.string pa) ∧ w'.cell? ⟨b, 5, none⟩ = some (.bool se) ∧ w'.cell? ⟨b, 6, none⟩ = some (.int .i64 mo) ∧ w'.cell? ⟨b, 7, none⟩ = some (.string pt) ∧ w'.cell? ⟨b, 8, none⟩ = some (.int .i64 un) ∧ w'.cell? ⟨b, 9, none⟩ = some (.int .i64 ma) ∧ w'.cell? ⟨g, m * 10 + 9, none⟩ = some (.int .i64 pm))) (by kernel_rfl) ?_ (fun hH0 => ?_)
            · (try dsimp only)
              go_keep
            refine wpAnyH_take (i := 0) (oi := { dst := some 15, op := Op.load 59 (Operand.tmp 4), type := 59, pos := "l06_jar.go:86", after := #[], guard := none }) (v := ?vc0) rfl (by kernel_rfl) (by kernel_rfl) (by kernel_rfl) (fun _ _ _ h => h) (Or.inl ⟨by rfl, ?hyc0⟩) (by assumption) ?restc0
            case hyc0 =>
              intro w hSw
              (try dsimp only at hSw)
              go_simp
              try with_reducible rfl
            try simp only [Act.put, List.setIfInBounds_toArray, List.set_cons_zero, List.set_cons_succ]
            refine wpAnyH_ready (rs := [1]) (by kernel_rfl) (by simp) ?_
            refine AllReadyH.cons (o := { dst := some 16, op := Op.call { callee := Callee.value (Operand.func 50), args := #[Operand.tmp 15], argTypes := #[59] }, type := 4, pos := "l06_jar.go:86", after := #[{ on := 0, ground := Ground.data }], guard := none }) rfl (fun K hK => ?_) AllReadyH.nil
            go_simp
            (go_at_call 50; refine (KC.out _ (Below.drew (Below.refl _ _))).mono ?_; rintro e w2 ⟨rfl, hb2⟩; have x0 : w2.cell? ⟨b, 0, none⟩ = some (.string na) := ((bcell hb2).1 _ _ hbW).trans c0; have x1 : w2.cell? ⟨b, 1, none⟩ = some (.string va) := ((bcell hb2).1 _ _ hbW).trans c1; have x2 : w2.cell? ⟨b, 2, none⟩ = some (.string ho) := ((bcell hb2).1 _ _ hbW).trans c2; have x3 : w2.cell? ⟨b, 3, none⟩ = some (.bool al) := ((bcell hb2).1 _ _ hbW).trans c3; have x4 : w2.cell? ⟨b, 4, none⟩ = some (.string pa) := ((bcell hb2).1 _ _ hbW).trans c4; have x5 : w2.cell? ⟨b, 5, none⟩ = some (.bool se) := ((bcell hb2).1 _ _ hbW).trans c5; have x6 : w2.cell? ⟨b, 6, none⟩ = some (.int .i64 mo) := ((bcell hb2).1 _ _ hbW).trans c6; have x7 : w2.cell? ⟨b, 7, none⟩ = some (.string pt) := ((bcell hb2).1 _ _ hbW).trans c7; have x8 : w2.cell? ⟨b, 8, none⟩ = some (.int .i64 un) := ((bcell hb2).1 _ _ hbW).trans c8; have x9 : w2.cell? ⟨b, 9, none⟩ = some (.int .i64 ma) := ((bcell hb2).1 _ _ hbW).trans c9; have xm : w2.cell? ⟨g, m * 10 + 9, none⟩ = some (.int .i64 pm) := ((bcell hb2).1 _ _ hgW).trans cm)
            try (go_wp2_with fail)
            refine hK.out _ _ ?_ (fun hH1 => ?_)
            · (try dsimp only)
              go_keep
            clear hK K hH0
            try simp only [Act.put, List.setIfInBounds_toArray, List.set_cons_zero, List.set_cons_succ]
            refine wpAnyH_take (i := 2) (oi := { dst := some 17, op := Op.unOp UnOp.not 4 (Operand.tmp 16), type := 4, pos := "l06_jar.go:86", after := #[{ on := 1, ground := Ground.data }], guard := none }) (v := ?vc2) rfl (by kernel_rfl) (by kernel_rfl) (by kernel_rfl) (fun _ _ _ h => h) (Or.inl ⟨by rfl, ?hyc2⟩) (by assumption) ?restc2
            case hyc2 =>
              intro w hSw
              (try dsimp only at hSw)
              go_simp
              try with_reducible rfl
            try simp only [Act.put, List.setIfInBounds_toArray, List.set_cons_zero, List.set_cons_succ]
            refine wpAnyH_take (i := 3) (oi := { dst := some 18, op := Op.move (Operand.tmp 17), type := 4, pos := "l06_jar.go:86", after := #[{ on := 2, ground := Ground.data }, { on := 1, ground := Ground.chain }], guard := none }) (v := ?vc3) rfl (by kernel_rfl) (by kernel_rfl) (by kernel_rfl) (fun _ _ _ h => h) (Or.inl ⟨by rfl, ?hyc3⟩) (by assumption) ?restc3
            case hyc3 =>
              intro w hSw
              (try dsimp only at hSw)
              go_simp
              try with_reducible rfl
            try simp only [Act.put, List.setIfInBounds_toArray, List.set_cons_zero, List.set_cons_succ]
            refine wpAnyH_take (i := 4) (oi := { dst := some 19, op := Op.move (Operand.tmp 3), type := 3, pos := "l06_jar.go:86", after := #[{ on := 3, ground := Ground.guard }], guard := some (3, false) }) (v := ?vc4) rfl (by kernel_rfl) (by kernel_rfl) (by kernel_rfl) (fun _ _ _ h => h) (Or.inl ⟨by rfl, ?hyc4⟩) (by assumption) ?restc4
            case hyc4 =>
              intro w hSw
              (try dsimp only at hSw)
              go_simp
              try with_reducible rfl
            try simp only [Act.put, List.setIfInBounds_toArray, List.set_cons_zero, List.set_cons_succ]
            refine wpAnyH_take (i := 5) (oi := { dst := some 20, op := Op.binOp BinOp.gtr 3 (Operand.tmp 19) (Operand.const (Value.int IntKind.i64 0)) 3, type := 4, pos := "l06_jar.go:86", after := #[{ on := 4, ground := Ground.data }, { on := 3, ground := Ground.guard }], guard := some (3, false) }) (v := ?vc5) rfl (by kernel_rfl) (by kernel_rfl) (by kernel_rfl) (fun _ _ _ h => h) (Or.inl ⟨by rfl, ?hyc5⟩) (by assumption) ?restc5
            case hyc5 =>
              intro w hSw
              (try dsimp only at hSw)
              go_simp
              try with_reducible rfl
            try simp only [Act.put, List.setIfInBounds_toArray, List.set_cons_zero, List.set_cons_succ]
            refine wpAnyH_take (i := 6) (oi := { dst := some 21, op := Op.move (Operand.tmp 20), type := 4, pos := "l06_jar.go:86", after := #[{ on := 5, ground := Ground.data }, { on := 3, ground := Ground.chain }, { on := 3, ground := Ground.guard }], guard := some (3, false) }) (v := ?vc6) rfl (by kernel_rfl) (by kernel_rfl) (by kernel_rfl) (fun _ _ _ h => h) (Or.inl ⟨by rfl, ?hyc6⟩) (by assumption) ?restc6
            case hyc6 =>
              intro w hSw
              (try dsimp only at hSw)
              go_simp
              try with_reducible rfl
            try simp only [Act.put, List.setIfInBounds_toArray, List.set_cons_zero, List.set_cons_succ]
            refine wpAnyH_take (i := 7) (oi := { dst := some 22, op := Op.move (Operand.tmp 0), type := 65, pos := "l06_jar.go:86", after := #[{ on := 6, ground := Ground.guard }], guard := some (6, true) }) (v := ?vc7) rfl (by kernel_rfl) (by kernel_rfl) (by kernel_rfl) (fun _ _ _ h => h) (Or.inl ⟨by rfl, ?hyc7⟩) (by assumption) ?restc7
            case hyc7 =>
              intro w hSw
              (try dsimp only at hSw)
              go_simp
              try with_reducible rfl
            try simp only [Act.put, List.setIfInBounds_toArray, List.set_cons_zero, List.set_cons_succ]
            refine wpAnyH_take (i := 8) (oi := { dst := some 23, op := Op.move (Operand.tmp 3), type := 3, pos := "l06_jar.go:86", after := #[{ on := 6, ground := Ground.guard }], guard := some (6, true) }) (v := ?vc8) rfl (by kernel_rfl) (by kernel_rfl) (by kernel_rfl) (fun _ _ _ h => h) (Or.inl ⟨by rfl, ?hyc8⟩) (by assumption) ?restc8
            case hyc8 =>
              intro w hSw
              (try dsimp only at hSw)
              go_simp
              try with_reducible rfl
            try simp only [Act.put, List.setIfInBounds_toArray, List.set_cons_zero, List.set_cons_succ]
            refine wpAnyH_take (i := 9) (oi := { dst := some 24, op := Op.binOp BinOp.sub 3 (Operand.tmp 23) (Operand.const (Value.int IntKind.i64 1)) 3, type := 3, pos := "l06_jar.go:86", after := #[{ on := 8, ground := Ground.data }, { on := 6, ground := Ground.guard }], guard := some (6, true) }) (v := ?vc9) rfl (by kernel_rfl) (by kernel_rfl) (by kernel_rfl) (fun _ _ _ h => h) (Or.inl ⟨by rfl, ?hyc9⟩) (by assumption) ?restc9
            case hyc9 =>
              intro w hSw
              (try dsimp only at hSw)
              go_simp
              try with_reducible rfl
            try simp only [Act.put, List.setIfInBounds_toArray, List.set_cons_zero, List.set_cons_succ]
            refine wpAnyH_take (i := 10) (oi := { dst := some 25, op := Op.indexAddr 65 (Operand.tmp 22) (Operand.tmp 24), type := 0, pos := "l06_jar.go:86", after := #[{ on := 7, ground := Ground.data }, { on := 9, ground := Ground.data }, { on := 6, ground := Ground.guard }], guard := some (6, true) }) (v := ?vc10) rfl (by kernel_rfl) (by kernel_rfl) (by kernel_rfl) (fun _ _ _ h => h) (Or.inl ⟨by rfl, ?hyc10⟩) (by assumption) ?restc10
            case hyc10 =>
              intro w hSw
              (try dsimp only at hSw)
              go_simp
              try with_reducible rfl
            try simp only [Act.put, List.setIfInBounds_toArray, List.set_cons_zero, List.set_cons_succ]
            refine wpAnyH_take (i := 11) (oi := { dst := some 26, op := Op.fieldAddr 59 (Operand.tmp 25) 9, type := 0, pos := "l06_jar.go:86", after := #[{ on := 10, ground := Ground.data }, { on := 6, ground := Ground.guard }], guard := some (6, true) }) (v := ?vc11) rfl (by kernel_rfl) (by kernel_rfl) (by kernel_rfl) (fun _ _ _ h => h) (Or.inl ⟨by rfl, ?hyc11⟩) (by assumption) ?restc11
            case hyc11 =>
              intro w hSw
              (try dsimp only at hSw)
              go_simp
              try with_reducible rfl
            try simp only [Act.put, List.setIfInBounds_toArray, List.set_cons_zero, List.set_cons_succ]
            refine wpAnyH_take (i := 12) (oi := { dst := some 27, op := Op.load 2 (Operand.tmp 26), type := 2, pos := "l06_jar.go:86", after := #[{ on := 11, ground := Ground.data }, { on := 6, ground := Ground.guard }], guard := some (6, true) }) (v := ?vc12) rfl (by kernel_rfl) (by kernel_rfl) (by kernel_rfl) (fun _ _ _ h => h) (Or.inl ⟨by rfl, ?hyc12⟩) (by assumption) ?restc12
            case hyc12 =>
              intro w hSw
              (try dsimp only at hSw)
              go_simp
              try with_reducible rfl
            try simp only [Act.put, List.setIfInBounds_toArray, List.set_cons_zero, List.set_cons_succ]
            refine wpAnyH_take (i := 13) (oi := { dst := some 28, op := Op.fieldAddr 59 (Operand.tmp 4) 9, type := 0, pos := "l06_jar.go:86", after := #[{ on := 6, ground := Ground.guard }], guard := some (6, true) }) (v := ?vc13) rfl (by kernel_rfl) (by kernel_rfl) (by kernel_rfl) (fun _ _ _ h => h) (Or.inl ⟨by rfl, ?hyc13⟩) (by assumption) ?restc13
            case hyc13 =>
              intro w hSw
              (try dsimp only at hSw)
              go_simp
              try with_reducible rfl
            try simp only [Act.put, List.setIfInBounds_toArray, List.set_cons_zero, List.set_cons_succ]
            refine wpAnyH_take (i := 14) (oi := { dst := some 29, op := Op.load 2 (Operand.tmp 28), type := 2, pos := "l06_jar.go:86", after := #[{ on := 13, ground := Ground.data }, { on := 6, ground := Ground.guard }], guard := some (6, true) }) (v := ?vc14) rfl (by kernel_rfl) (by kernel_rfl) (by kernel_rfl) (fun _ _ _ h => h) (Or.inl ⟨by rfl, ?hyc14⟩) (by assumption) ?restc14
            case hyc14 =>
              intro w hSw
              (try dsimp only at hSw)
              go_simp
              try with_reducible rfl
            try simp only [Act.put, List.setIfInBounds_toArray, List.set_cons_zero, List.set_cons_succ]
            refine wpAnyH_take (i := 15) (oi := { dst := some 30, op := Op.binOp BinOp.geq 2 (Operand.tmp 27) (Operand.tmp 29) 2, type := 4, pos := "l06_jar.go:86", after := #[{ on := 12, ground := Ground.data }, { on := 14, ground := Ground.data }, { on := 6, ground := Ground.guard }], guard := some (6, true) }) (v := ?vc15) rfl (by kernel_rfl) (by kernel_rfl) (by kernel_rfl) (fun _ _ _ h => h) (Or.inl ⟨by rfl, ?hyc15⟩) (by assumption) ?restc15
            case hyc15 =>
              intro w hSw
              (try dsimp only at hSw)
              go_simp
              try with_reducible rfl
            try simp only [Act.put, List.setIfInBounds_toArray, List.set_cons_zero, List.set_cons_succ]
            refine wpAnyH_take (i := 16) (oi := { dst := some 31, op := Op.pick (Operand.tmp 21) (Operand.tmp 30) (Operand.const (Value.bool false)), type := 4, pos := "l06_jar.go:86", after := #[{ on := 6, ground := Ground.data }, { on := 15, ground := Ground.data }, { on := 3, ground := Ground.guard }], guard := some (3, false) }) (v := ?vc16) rfl (by kernel_rfl) (by kernel_rfl) (by kernel_rfl) (fun _ _ _ h => h) (Or.inl ⟨by rfl, ?hyc16⟩) (by assumption) ?restc16
            case hyc16 =>
              intro w hSw
              (try dsimp only at hSw)
              go_simp
              try with_reducible rfl
            try simp only [Act.put, List.setIfInBounds_toArray, List.set_cons_zero, List.set_cons_succ]
            refine wpAnyH_take (i := 17) (oi := { dst := some 32, op := Op.pick (Operand.tmp 18) (Operand.const (Value.bool true)) (Operand.tmp 31), type := 4, pos := "l06_jar.go:86", after := #[{ on := 3, ground := Ground.data }, { on := 16, ground := Ground.data }], guard := none }) (v := ?vc17) rfl (by kernel_rfl) (by kernel_rfl) (by kernel_rfl) (fun _ _ _ h => h) (Or.inl ⟨by rfl, ?hyc17⟩) (by assumption) ?restc17
            case hyc17 =>
              intro w hSw
              (try dsimp only at hSw)
              go_simp
              try with_reducible rfl
            try simp only [Act.put, List.setIfInBounds_toArray, List.set_cons_zero, List.set_cons_succ]
            refine wpAnyH_done (by kernel_rfl) ?_ _
            have B2 : Hid (Below w.heap.size w w2) := (HBW.out.trans (Below.drew (Below.refl _ _))).trans (hb2.mono HBW.out.size)
            have hg2 : g < w2.heap.size := Nat.lt_of_lt_of_le hgW (Nat.le_trans (Below.drew (Below.refl W0.heap.size W0)).size hb2.size)
            have hb22 : b < w2.heap.size := Nat.lt_of_lt_of_le hbW (Nat.le_trans (Below.drew (Below.refl W0.heap.size W0)).size hb2.size)
            clear hb2
            have KF : Hid (∀ W, Below w2.heap.size w2 W → Calls Tryd.prog 115 #[.slice (some ⟨g, 0, none⟩) (m + 1) (m + 1), .func (.func 117) #[.agg #[.string ho, .bool al, .string pa, .string pt, .string na]] #[]] W fun e w' => e = .returned (.bool (hasK L (m + 1) ⟨na, va, ho, al, pa, se, mo, pt, un, ma⟩)) ∧ Below W.heap.size W w') := fun W hb => containsHas_any g (m + 1) L ⟨na, va, ho, al, pa, se, mo, pt, un, ma⟩ W (Nat.lt_of_lt_of_le hg2 hb.size) (by omega) hn (fun j hj o ho => by rw [(bcell (B2.out.trans (hb.mono B2.out.size))).1 _ _ hgw]; exact HC.out j (by omega) o ho)
            have KP : Hid (∀ W, Calls Tryd.prog 116 #[.agg #[.string na, .string va, .string ho, .bool al, .string pa, .bool se, .int .i64 mo, .string pt, .int .i64 un, .int .i64 ma]] W fun e w' => e = .returned (.agg #[.string ho, .bool al, .string pa, .string pt, .string na]) ∧ Below W.heap.size W w') := fun W => placeOf_any ⟨na, va, ho, al, pa, se, mo, pt, un, ma⟩ W
            have HS1 : Hid (hasK L (m + 1) ⟨na, va, ho, al, pa, se, mo, pt, un, ma⟩ = true → R = false) := HSN.out
            have HS2 : Hid (hasK L (m + 1) ⟨na, va, ho, al, pa, se, mo, pt, un, ma⟩ = false → okJ L (m + 1) = true) := HKY.out
            clear HSN HKY
            generalize hasK L (m + 1) ⟨na, va, ho, al, pa, se, mo, pt, un, ma⟩ = hs at *
            go_wp2_with fail
            go_region_held3 (fun w' => w'.cell? ⟨b, 0, none⟩ = some (.string na) ∧ w'.cell? ⟨b, 1, none⟩ = some (.string va) ∧ w'.cell? ⟨b, 2, none⟩ = some (.string ho) ∧ w'.cell? ⟨b, 3, none⟩ = some (.bool al) ∧ w'.cell? ⟨b, 4, none⟩ = some (.string pa) ∧ w'.cell? ⟨b, 5, none⟩ = some (.bool se) ∧ w'.cell? ⟨b, 6, none⟩ = some (.int .i64 mo) ∧ w'.cell? ⟨b, 7, none⟩ = some (.string pt) ∧ w'.cell? ⟨b, 8, none⟩ = some (.int .i64 un) ∧ w'.cell? ⟨b, 9, none⟩ = some (.int .i64 ma)) (go_keep)
              (first | (go_at_call 116; refine (KP.out _).mono ?_; rintro e w3 ⟨rfl, hb3⟩; have A3 : Below w2.heap.size w2 w3 := (Below.drew (Below.refl _ _)).trans hb3; have y0 : w3.cell? ⟨b, 0, none⟩ = some (.string na) := ((bcell A3).1 _ _ hb22).trans x0; have y1 : w3.cell? ⟨b, 1, none⟩ = some (.string va) := ((bcell A3).1 _ _ hb22).trans x1; have y2 : w3.cell? ⟨b, 2, none⟩ = some (.string ho) := ((bcell A3).1 _ _ hb22).trans x2; have y3 : w3.cell? ⟨b, 3, none⟩ = some (.bool al) := ((bcell A3).1 _ _ hb22).trans x3; have y4 : w3.cell? ⟨b, 4, none⟩ = some (.string pa) := ((bcell A3).1 _ _ hb22).trans x4; have y5 : w3.cell? ⟨b, 5, none⟩ = some (.bool se) := ((bcell A3).1 _ _ hb22).trans x5; have y6 : w3.cell? ⟨b, 6, none⟩ = some (.int .i64 mo) := ((bcell A3).1 _ _ hb22).trans x6; have y7 : w3.cell? ⟨b, 7, none⟩ = some (.string pt) := ((bcell A3).1 _ _ hb22).trans x7; have y8 : w3.cell? ⟨b, 8, none⟩ = some (.int .i64 un) := ((bcell A3).1 _ _ hb22).trans x8; have y9 : w3.cell? ⟨b, 9, none⟩ = some (.int .i64 ma) := ((bcell A3).1 _ _ hb22).trans x9) | (go_at_call 115; refine (KF.out _ (by first | exact A3 | exact A3.trans (Below.drew (Below.refl _ _)))).mono ?_; rintro e w4 ⟨rfl, hb4⟩; have A4 : Below w2.heap.size w2 w4 := A3.trans (hb4.mono A3.size); have z0 : w4.cell? ⟨b, 0, none⟩ = some (.string na) := ((bcell A4).1 _ _ hb22).trans x0; have z1 : w4.cell? ⟨b, 1, none⟩ = some (.string va) := ((bcell A4).1 _ _ hb22).trans x1; have z2 : w4.cell? ⟨b, 2, none⟩ = some (.string ho) := ((bcell A4).1 _ _ hb22).trans x2; have z3 : w4.cell? ⟨b, 3, none⟩ = some (.bool al) := ((bcell A4).1 _ _ hb22).trans x3; have z4 : w4.cell? ⟨b, 4, none⟩ = some (.string pa) := ((bcell A4).1 _ _ hb22).trans x4; have z5 : w4.cell? ⟨b, 5, none⟩ = some (.bool se) := ((bcell A4).1 _ _ hb22).trans x5; have z6 : w4.cell? ⟨b, 6, none⟩ = some (.int .i64 mo) := ((bcell A4).1 _ _ hb22).trans x6; have z7 : w4.cell? ⟨b, 7, none⟩ = some (.string pt) := ((bcell A4).1 _ _ hb22).trans x7; have z8 : w4.cell? ⟨b, 8, none⟩ = some (.int .i64 un) := ((bcell A4).1 _ _ hb22).trans x8; have z9 : w4.cell? ⟨b, 9, none⟩ = some (.int .i64 ma) := ((bcell A4).1 _ _ hb22).trans x9))
            have B4 : Hid (Below w.heap.size w w4) := B2.out.trans (A4.mono B2.out.size)
            clear A3 A4 hb3 hb4
            cases hs with
            | true =>
              have HQ : Hid (R = false) := HS1.out rfl
              go_wp2
              go_ret
              exact ⟨ret_bool HQ.out.symm, B4.out⟩
            | false =>
              have HK2 : Hid (okJ L (m + 1) = true) := HS2.out rfl
              go_wp2
              go_roundw
              case rel => exact ⟨m + 2, by omega, by go_num, B4, okJ_succ HR.out HK2.out⟩
              case measure => simp [intOf]; omega
          · have qg : decide (ma ≤ pm) = true := by rw [decide_eq_true_iff]; omega
            have HQ : Hid (R = false) := HMN.out hlm
            clear HKY2 HMN HSN
            go_wp2_with fail
            rw [← hW0.out]
            clear hW0
            generalize hbb : wr.heap.size = b at *
            clear hbb HBr HB d0 d1 d2 d3 d4 d5 d6 d7 d8 d9
            refine wp_region_held_drew (S := (fun w' => w'.cell? ⟨b, 0, none⟩ = some (.string na) ∧ w'.cell? ⟨b, 1, none⟩ = some (.string va) ∧ w'.cell? ⟨b, 2, none⟩ = some (.string ho) ∧ w'.cell? ⟨b, 3, none⟩ = some (.bool al) ∧ w'.cell? ⟨b, 4, none⟩ = some (.string pa) ∧ w'.cell? ⟨b, 5, none⟩ = some (.bool se) ∧ w'.cell? ⟨b, 6, none⟩ = some (.int .i64 mo) ∧ w'.cell? ⟨b, 7, none⟩ = some (.string pt) ∧ w'.cell? ⟨b, 8, none⟩ = some (.int .i64 un) ∧ w'.cell? ⟨b, 9, none⟩ = some (.int .i64 ma) ∧ w'.cell? ⟨g, m * 10 + 9, none⟩ = some (.int .i64 pm))) (by kernel_rfl) ?_ (fun hH0 => ?_)
            · (try dsimp only)
              go_keep
            refine wpAnyH_take (i := 0) (oi := { dst := some 15, op := Op.load 59 (Operand.tmp 4), type := 59, pos := "l06_jar.go:86", after := #[], guard := none }) (v := ?vd0) rfl (by kernel_rfl) (by kernel_rfl) (by kernel_rfl) (fun _ _ _ h => h) (Or.inl ⟨by rfl, ?hyd0⟩) (by assumption) ?restd0
            case hyd0 =>
              intro w hSw
              (try dsimp only at hSw)
              go_simp
              try with_reducible rfl
            try simp only [Act.put, List.setIfInBounds_toArray, List.set_cons_zero, List.set_cons_succ]
            refine wpAnyH_ready (rs := [1]) (by kernel_rfl) (by simp) ?_
            refine AllReadyH.cons (o := { dst := some 16, op := Op.call { callee := Callee.value (Operand.func 50), args := #[Operand.tmp 15], argTypes := #[59] }, type := 4, pos := "l06_jar.go:86", after := #[{ on := 0, ground := Ground.data }], guard := none }) rfl (fun K hK => ?_) AllReadyH.nil
            go_simp
            (go_at_call 50; refine (KC.out _ (Below.drew (Below.refl _ _))).mono ?_; rintro e w2 ⟨rfl, hb2⟩; have x0 : w2.cell? ⟨b, 0, none⟩ = some (.string na) := ((bcell hb2).1 _ _ hbW).trans c0; have x1 : w2.cell? ⟨b, 1, none⟩ = some (.string va) := ((bcell hb2).1 _ _ hbW).trans c1; have x2 : w2.cell? ⟨b, 2, none⟩ = some (.string ho) := ((bcell hb2).1 _ _ hbW).trans c2; have x3 : w2.cell? ⟨b, 3, none⟩ = some (.bool al) := ((bcell hb2).1 _ _ hbW).trans c3; have x4 : w2.cell? ⟨b, 4, none⟩ = some (.string pa) := ((bcell hb2).1 _ _ hbW).trans c4; have x5 : w2.cell? ⟨b, 5, none⟩ = some (.bool se) := ((bcell hb2).1 _ _ hbW).trans c5; have x6 : w2.cell? ⟨b, 6, none⟩ = some (.int .i64 mo) := ((bcell hb2).1 _ _ hbW).trans c6; have x7 : w2.cell? ⟨b, 7, none⟩ = some (.string pt) := ((bcell hb2).1 _ _ hbW).trans c7; have x8 : w2.cell? ⟨b, 8, none⟩ = some (.int .i64 un) := ((bcell hb2).1 _ _ hbW).trans c8; have x9 : w2.cell? ⟨b, 9, none⟩ = some (.int .i64 ma) := ((bcell hb2).1 _ _ hbW).trans c9; have xm : w2.cell? ⟨g, m * 10 + 9, none⟩ = some (.int .i64 pm) := ((bcell hb2).1 _ _ hgW).trans cm)
            try (go_wp2_with fail)
            refine hK.out _ _ ?_ (fun hH1 => ?_)
            · (try dsimp only)
              go_keep
            clear hK K hH0
            try simp only [Act.put, List.setIfInBounds_toArray, List.set_cons_zero, List.set_cons_succ]
            refine wpAnyH_take (i := 2) (oi := { dst := some 17, op := Op.unOp UnOp.not 4 (Operand.tmp 16), type := 4, pos := "l06_jar.go:86", after := #[{ on := 1, ground := Ground.data }], guard := none }) (v := ?vd2) rfl (by kernel_rfl) (by kernel_rfl) (by kernel_rfl) (fun _ _ _ h => h) (Or.inl ⟨by rfl, ?hyd2⟩) (by assumption) ?restd2
            case hyd2 =>
              intro w hSw
              (try dsimp only at hSw)
              go_simp
              try with_reducible rfl
            try simp only [Act.put, List.setIfInBounds_toArray, List.set_cons_zero, List.set_cons_succ]
            refine wpAnyH_take (i := 3) (oi := { dst := some 18, op := Op.move (Operand.tmp 17), type := 4, pos := "l06_jar.go:86", after := #[{ on := 2, ground := Ground.data }, { on := 1, ground := Ground.chain }], guard := none }) (v := ?vd3) rfl (by kernel_rfl) (by kernel_rfl) (by kernel_rfl) (fun _ _ _ h => h) (Or.inl ⟨by rfl, ?hyd3⟩) (by assumption) ?restd3
            case hyd3 =>
              intro w hSw
              (try dsimp only at hSw)
              go_simp
              try with_reducible rfl
            try simp only [Act.put, List.setIfInBounds_toArray, List.set_cons_zero, List.set_cons_succ]
            refine wpAnyH_take (i := 4) (oi := { dst := some 19, op := Op.move (Operand.tmp 3), type := 3, pos := "l06_jar.go:86", after := #[{ on := 3, ground := Ground.guard }], guard := some (3, false) }) (v := ?vd4) rfl (by kernel_rfl) (by kernel_rfl) (by kernel_rfl) (fun _ _ _ h => h) (Or.inl ⟨by rfl, ?hyd4⟩) (by assumption) ?restd4
            case hyd4 =>
              intro w hSw
              (try dsimp only at hSw)
              go_simp
              try with_reducible rfl
            try simp only [Act.put, List.setIfInBounds_toArray, List.set_cons_zero, List.set_cons_succ]
            refine wpAnyH_take (i := 5) (oi := { dst := some 20, op := Op.binOp BinOp.gtr 3 (Operand.tmp 19) (Operand.const (Value.int IntKind.i64 0)) 3, type := 4, pos := "l06_jar.go:86", after := #[{ on := 4, ground := Ground.data }, { on := 3, ground := Ground.guard }], guard := some (3, false) }) (v := ?vd5) rfl (by kernel_rfl) (by kernel_rfl) (by kernel_rfl) (fun _ _ _ h => h) (Or.inl ⟨by rfl, ?hyd5⟩) (by assumption) ?restd5
            case hyd5 =>
              intro w hSw
              (try dsimp only at hSw)
              go_simp
              try with_reducible rfl
            try simp only [Act.put, List.setIfInBounds_toArray, List.set_cons_zero, List.set_cons_succ]
            refine wpAnyH_take (i := 6) (oi := { dst := some 21, op := Op.move (Operand.tmp 20), type := 4, pos := "l06_jar.go:86", after := #[{ on := 5, ground := Ground.data }, { on := 3, ground := Ground.chain }, { on := 3, ground := Ground.guard }], guard := some (3, false) }) (v := ?vd6) rfl (by kernel_rfl) (by kernel_rfl) (by kernel_rfl) (fun _ _ _ h => h) (Or.inl ⟨by rfl, ?hyd6⟩) (by assumption) ?restd6
            case hyd6 =>
              intro w hSw
              (try dsimp only at hSw)
              go_simp
              try with_reducible rfl
            try simp only [Act.put, List.setIfInBounds_toArray, List.set_cons_zero, List.set_cons_succ]
            refine wpAnyH_take (i := 7) (oi := { dst := some 22, op := Op.move (Operand.tmp 0), type := 65, pos := "l06_jar.go:86", after := #[{ on := 6, ground := Ground.guard }], guard := some (6, true) }) (v := ?vd7) rfl (by kernel_rfl) (by kernel_rfl) (by kernel_rfl) (fun _ _ _ h => h) (Or.inl ⟨by rfl, ?hyd7⟩) (by assumption) ?restd7
            case hyd7 =>
              intro w hSw
              (try dsimp only at hSw)
              go_simp
              try with_reducible rfl
            try simp only [Act.put, List.setIfInBounds_toArray, List.set_cons_zero, List.set_cons_succ]
            refine wpAnyH_take (i := 8) (oi := { dst := some 23, op := Op.move (Operand.tmp 3), type := 3, pos := "l06_jar.go:86", after := #[{ on := 6, ground := Ground.guard }], guard := some (6, true) }) (v := ?vd8) rfl (by kernel_rfl) (by kernel_rfl) (by kernel_rfl) (fun _ _ _ h => h) (Or.inl ⟨by rfl, ?hyd8⟩) (by assumption) ?restd8
            case hyd8 =>
              intro w hSw
              (try dsimp only at hSw)
              go_simp
              try with_reducible rfl
            try simp only [Act.put, List.setIfInBounds_toArray, List.set_cons_zero, List.set_cons_succ]
            refine wpAnyH_take (i := 9) (oi := { dst := some 24, op := Op.binOp BinOp.sub 3 (Operand.tmp 23) (Operand.const (Value.int IntKind.i64 1)) 3, type := 3, pos := "l06_jar.go:86", after := #[{ on := 8, ground := Ground.data }, { on := 6, ground := Ground.guard }], guard := some (6, true) }) (v := ?vd9) rfl (by kernel_rfl) (by kernel_rfl) (by kernel_rfl) (fun _ _ _ h => h) (Or.inl ⟨by rfl, ?hyd9⟩) (by assumption) ?restd9
            case hyd9 =>
              intro w hSw
              (try dsimp only at hSw)
              go_simp
              try with_reducible rfl
            try simp only [Act.put, List.setIfInBounds_toArray, List.set_cons_zero, List.set_cons_succ]
            refine wpAnyH_take (i := 10) (oi := { dst := some 25, op := Op.indexAddr 65 (Operand.tmp 22) (Operand.tmp 24), type := 0, pos := "l06_jar.go:86", after := #[{ on := 7, ground := Ground.data }, { on := 9, ground := Ground.data }, { on := 6, ground := Ground.guard }], guard := some (6, true) }) (v := ?vd10) rfl (by kernel_rfl) (by kernel_rfl) (by kernel_rfl) (fun _ _ _ h => h) (Or.inl ⟨by rfl, ?hyd10⟩) (by assumption) ?restd10
            case hyd10 =>
              intro w hSw
              (try dsimp only at hSw)
              go_simp
              try with_reducible rfl
            try simp only [Act.put, List.setIfInBounds_toArray, List.set_cons_zero, List.set_cons_succ]
            refine wpAnyH_take (i := 11) (oi := { dst := some 26, op := Op.fieldAddr 59 (Operand.tmp 25) 9, type := 0, pos := "l06_jar.go:86", after := #[{ on := 10, ground := Ground.data }, { on := 6, ground := Ground.guard }], guard := some (6, true) }) (v := ?vd11) rfl (by kernel_rfl) (by kernel_rfl) (by kernel_rfl) (fun _ _ _ h => h) (Or.inl ⟨by rfl, ?hyd11⟩) (by assumption) ?restd11
            case hyd11 =>
              intro w hSw
              (try dsimp only at hSw)
              go_simp
              try with_reducible rfl
            try simp only [Act.put, List.setIfInBounds_toArray, List.set_cons_zero, List.set_cons_succ]
            refine wpAnyH_take (i := 12) (oi := { dst := some 27, op := Op.load 2 (Operand.tmp 26), type := 2, pos := "l06_jar.go:86", after := #[{ on := 11, ground := Ground.data }, { on := 6, ground := Ground.guard }], guard := some (6, true) }) (v := ?vd12) rfl (by kernel_rfl) (by kernel_rfl) (by kernel_rfl) (fun _ _ _ h => h) (Or.inl ⟨by rfl, ?hyd12⟩) (by assumption) ?restd12
            case hyd12 =>
              intro w hSw
              (try dsimp only at hSw)
              go_simp
              try with_reducible rfl
            try simp only [Act.put, List.setIfInBounds_toArray, List.set_cons_zero, List.set_cons_succ]
            refine wpAnyH_take (i := 13) (oi := { dst := some 28, op := Op.fieldAddr 59 (Operand.tmp 4) 9, type := 0, pos := "l06_jar.go:86", after := #[{ on := 6, ground := Ground.guard }], guard := some (6, true) }) (v := ?vd13) rfl (by kernel_rfl) (by kernel_rfl) (by kernel_rfl) (fun _ _ _ h => h) (Or.inl ⟨by rfl, ?hyd13⟩) (by assumption) ?restd13
            case hyd13 =>
              intro w hSw
              (try dsimp only at hSw)
              go_simp
              try with_reducible rfl
            try simp only [Act.put, List.setIfInBounds_toArray, List.set_cons_zero, List.set_cons_succ]
            refine wpAnyH_take (i := 14) (oi := { dst := some 29, op := Op.load 2 (Operand.tmp 28), type := 2, pos := "l06_jar.go:86", after := #[{ on := 13, ground := Ground.data }, { on := 6, ground := Ground.guard }], guard := some (6, true) }) (v := ?vd14) rfl (by kernel_rfl) (by kernel_rfl) (by kernel_rfl) (fun _ _ _ h => h) (Or.inl ⟨by rfl, ?hyd14⟩) (by assumption) ?restd14
            case hyd14 =>
              intro w hSw
              (try dsimp only at hSw)
              go_simp
              try with_reducible rfl
            try simp only [Act.put, List.setIfInBounds_toArray, List.set_cons_zero, List.set_cons_succ]
            refine wpAnyH_take (i := 15) (oi := { dst := some 30, op := Op.binOp BinOp.geq 2 (Operand.tmp 27) (Operand.tmp 29) 2, type := 4, pos := "l06_jar.go:86", after := #[{ on := 12, ground := Ground.data }, { on := 14, ground := Ground.data }, { on := 6, ground := Ground.guard }], guard := some (6, true) }) (v := ?vd15) rfl (by kernel_rfl) (by kernel_rfl) (by kernel_rfl) (fun _ _ _ h => h) (Or.inl ⟨by rfl, ?hyd15⟩) (by assumption) ?restd15
            case hyd15 =>
              intro w hSw
              (try dsimp only at hSw)
              go_simp
              try with_reducible rfl
            try simp only [Act.put, List.setIfInBounds_toArray, List.set_cons_zero, List.set_cons_succ]
            refine wpAnyH_take (i := 16) (oi := { dst := some 31, op := Op.pick (Operand.tmp 21) (Operand.tmp 30) (Operand.const (Value.bool false)), type := 4, pos := "l06_jar.go:86", after := #[{ on := 6, ground := Ground.data }, { on := 15, ground := Ground.data }, { on := 3, ground := Ground.guard }], guard := some (3, false) }) (v := ?vd16) rfl (by kernel_rfl) (by kernel_rfl) (by kernel_rfl) (fun _ _ _ h => h) (Or.inl ⟨by rfl, ?hyd16⟩) (by assumption) ?restd16
            case hyd16 =>
              intro w hSw
              (try dsimp only at hSw)
              go_simp
              try with_reducible rfl
            try simp only [Act.put, List.setIfInBounds_toArray, List.set_cons_zero, List.set_cons_succ]
            refine wpAnyH_take (i := 17) (oi := { dst := some 32, op := Op.pick (Operand.tmp 18) (Operand.const (Value.bool true)) (Operand.tmp 31), type := 4, pos := "l06_jar.go:86", after := #[{ on := 3, ground := Ground.data }, { on := 16, ground := Ground.data }], guard := none }) (v := ?vd17) rfl (by kernel_rfl) (by kernel_rfl) (by kernel_rfl) (fun _ _ _ h => h) (Or.inl ⟨by rfl, ?hyd17⟩) (by assumption) ?restd17
            case hyd17 =>
              intro w hSw
              (try dsimp only at hSw)
              go_simp
              try with_reducible rfl
            try simp only [Act.put, List.setIfInBounds_toArray, List.set_cons_zero, List.set_cons_succ]
            refine wpAnyH_done (by kernel_rfl) ?_ _
            go_wp2
            go_ret
            exact ⟨ret_bool HQ.out.symm, (HBW.out.trans (Below.drew (Below.refl _ _))).trans (hb2.mono HBW.out.size)⟩
    · have HQ : Hid (R = true) := HY.out (fun i hi => HR.out i (by omega))
      go_wp2
      go_ret
      exact ⟨ret_bool HQ.out.symm, HB.out⟩
end Go.Proofs.YtfoekelhcmlagaaDoor

/- The walk of the program's JarOld. Written by jarwithout.py. -/
namespace Go.Proofs.YtfoekelhcmlagaaDoor
open Go.RowKit

theorem pathB_size40 {t : ByteArray} (h : pathB t = true) : t.size ≤ 40 := by
  unfold pathB at h; rw [decide_eq_true_eq] at h; omega
theorem ckB_size {c : Ck} (h : ckB c = true) : c.na.size + c.va.size + c.ho.size + c.pa.size + c.pt.size ≤ 1000 := by
  obtain ⟨h1, h2, h3, h4, -, h6, -⟩ := ckB_parts h
  have a := wordB_size h1
  have b := wordB_size h2
  have d : c.ho.size ≤ 100 := by
    by_cases hz : 100 < c.ho.size
    · rw [hostB_size hz] at h3; cases h3
    · omega
  have e := pathB_size40 h4
  have f : c.pt.size ≤ 120 := by unfold partB at h6; exact of_decide_eq_true h6
  omega
theorem jarB_size {L : List Ck} (h : jarB L = true) : ∀ i, i < L.length → (atC L i).na.size + (atC L i).va.size + (atC L i).ho.size + (atC L i).pa.size + (atC L i).pt.size ≤ 1000 := fun i hi => ckB_size (okJ_right ((jarB_parts h).2 i hi))
theorem sliceC_none (w : World) (B : Nat) : SliceC w B (.slice none 0 0) [] := ⟨sliceR_none _ _ _ _ _ _, none, 0, rfl, Nat.le_refl _⟩
set_option maxRecDepth 10000 in
set_option maxHeartbeats 4000000 in
theorem jarOld_any (v : Value) (L : List Ck) (now : Int) (B : Nat) (w : World) (hG : MaxI w) (hs : SliceC w B v L) (hn : L.length ≤ 1048576) (hz : ∀ i, i < L.length → (atC L i).ho.size ≤ 1048576) :
    Calls Tryd.prog 66 #[v, .int .i64 now] w fun e w' => ∃ v', e = .returned v' ∧ SliceC w' w.heap.size v' (oldL L now) ∧ Below w.heap.size w w' := by
  have KJ : Hid (Calls Tryd.prog 54 #[v] w fun e w' => e = .returned (.bool (jarB L)) ∧ Below w.heap.size w w') := jarRight_any v L B w hG hs hn hz
  have KT : Hid (∀ W, Calls Tryd.prog 113 #[.int .i64 now] W fun e w' => e = .returned (.bool (timeB now)) ∧ w' = W) := fun W => isTime_any now W
  have KW : Hid (jarB L = true → ∀ W, Below w.heap.size w W → Calls Tryd.prog 127 #[v, .func (.func 128) #[.int .i64 now] #[]] W fun e w' => ∃ v', e = .returned v' ∧ SliceC w' W.heap.size v' (L.filter (liveB now)) ∧ Below W.heap.size W w') := fun a W hb => withoutEnds_any v L now B W (hs.below hb) hn (fun i hi => by have := jarB_size a i hi; omega)
  have HNo : Hid ((jarB L && timeB now) = false → oldL L now = []) := fun h => oldL_no h
  have HYes : Hid ((jarB L && timeB now) = true → oldL L now = L.filter (liveB now)) := fun h => by rw [oldL_yes h, stayTo_all]
  have hmf : ∀ (fn : Fn) (first cap : Array Value) (w : World), (Instr.makeFunc fn first cap).run Tryd.prog w = .ok (.func fn first cap) w := fun _ _ _ _ => rfl
  clear hG hs hz
  generalize oldL L now = Z at *
  generalize L.filter (liveB now) = Y at *
  generalize jarB L = bj at *
  generalize timeB now = bt at *
  go_enter Tryd.func66, Tryd.ntmps66
  go_wp2_with fail
  refine KJ.out.mono ?_
  rintro e w1 ⟨rfl, hb1⟩
  cases bj with
  | false =>
    have HZ : Hid (Z = []) := HNo.out rfl
    go_wp2
    go_ret
    exact ⟨_, rfl, by rw [HZ.out]; exact sliceC_none _ _, hb1⟩
  | true =>
    have KW1 := KW.out rfl
    have KW2 : Hid (∀ W, Below w.heap.size w W → Calls Tryd.prog 127 #[v, .func (.func 128) #[.int .i64 now] #[]] W fun e w' => ∃ v', e = .returned v' ∧ SliceC w' W.heap.size v' Y ∧ Below W.heap.size W w') := KW1
    clear KW KW1
    go_wp2_with fail
    refine (KT.out _).mono ?_
    rintro e w2 ⟨rfl, rfl⟩
    cases bt with
    | false =>
      have HZ : Hid (Z = []) := HNo.out rfl
      go_wp2
      go_ret
      exact ⟨_, rfl, by rw [HZ.out]; exact sliceC_none _ _, hb1⟩
    | true =>
      have HZ : Hid (Z = Y) := HYes.out rfl
      go_wp2_with fail
      refine (KW2.out _ hb1).mono ?_
      rintro e w3 ⟨v', rfl, hs3, hb3⟩
      have S3 : Hid (SliceC w3 w.heap.size v' Z) := by show SliceC _ _ _ _; rw [HZ.out]; exact hs3.mono hb1.size
      have B3 : Hid (Below w.heap.size w w3) := hb1.trans (hb3.mono hb1.size)
      clear hs3 hb3 hb1
      go_wp2
      go_ret
      exact ⟨_, rfl, S3.out, B3.out⟩
end Go.Proofs.YtfoekelhcmlagaaDoor
