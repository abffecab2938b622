/- 18 of this claim's texts, one behind the other. -/
import Derived.Test.YthcpmbolnmlohaaDoorPart1
import Derived.Lib.SplitLaws
import Derived.Lib.ItoaMem
import Derived.Test.YthcpmbolnmlohaaDoorShelf
import Derived.Lib.AppendIntMem
import Derived.Shelf.Strconv.Itoa4
import Derived.WalkKit
import Derived.WalkSpells
import Derived.WalkLawsBesides
import Derived.Laws.RangeAny
import Derived.Shelf.Strings.OnBuilder
import Derived.Laws.ResultCell
/- What the library's Split cuts a text into at a byte is splitB's list. -/
namespace Go.Proofs.YthcpmbolnmlohaaDoor
theorem first_split {c : UInt8} : ∀ {l : List UInt8}, c ∈ l → ∃ A B, l = A ++ c :: B ∧ ∀ x ∈ A, x ≠ c
  | [], h => by cases h
  | b :: l, h => by
    by_cases e : b = c
    · exact ⟨[], l, by rw [e]; rfl, fun x hx => by cases hx⟩
    · obtain ⟨A, B, rfl, hA⟩ := first_split (l := l) (by cases h with | head => exact absurd rfl e | tail _ h => exact h)
      refine ⟨b :: A, B, rfl, ?_⟩
      intro x hx
      cases hx with
      | head => exact e
      | tail _ hx => exact hA x hx
/-- a list of bytes cut at a byte -/
def cutL (c : UInt8) : List UInt8 → List (List UInt8)
  | [] => [[]]
  | b :: l => if b = c then [] :: cutL c l else match cutL c l with
    | [] => [[b]]
    | p :: r => (b :: p) :: r
theorem cutL_none (c : UInt8) : ∀ A : List UInt8, (∀ x ∈ A, x ≠ c) → cutL c A = [A]
  | [], _ => rfl
  | b :: A, h => by
    rw [cutL, if_neg (h b (by simp)), cutL_none c A (fun x hx => h x (by simp [hx]))]
theorem cutL_app (c : UInt8) (B : List UInt8) : ∀ A : List UInt8, (∀ x ∈ A, x ≠ c) → cutL c (A ++ c :: B) = A :: cutL c B
  | [], _ => by rw [List.nil_append, cutL, if_pos rfl]
  | b :: A, h => by
    rw [List.cons_append, cutL, if_neg (h b (by simp)), cutL_app c B A (fun x hx => h x (by simp [hx]))]
theorem index_one (c : UInt8) (A B : List UInt8) (h : ∀ x ∈ A, x ≠ c) : Lib.index (A ++ c :: B) [c] = A.length := by
  refine Lib.index_first (by simp) ?_ ?_
  · simp [Lib.occAt]
  · intro j hj
    rw [← Bool.not_eq_true]
    intro ho
    have e := Lib.occAt_head rfl ho
    rw [List.getElem?_append_left hj] at e
    exact h c (List.mem_of_getElem? e) rfl
theorem splitK_cutL (c : UInt8) : ∀ (k : Nat) (l : List UInt8), l.count c = k → Lib.splitK [c] 0 k l = cutL c l
  | 0, l, h => by
    rw [cutL_none c l (fun x hx e => by subst e; exact absurd (List.count_pos_iff.2 hx) (by omega))]
    rfl
  | k + 1, l, h => by
    obtain ⟨A, B, rfl, hA⟩ := first_split (List.count_pos_iff.1 (show 0 < l.count c by omega))
    have hi := index_one c A B hA
    have h0 : A.count c = 0 := List.count_eq_zero.2 (fun hx => hA c hx rfl)
    have hB : B.count c = k := by
      rw [List.count_append, List.count_cons_self, h0] at h; omega
    rw [Lib.splitK, if_neg (by rw [hi, beq_iff_eq]; omega), hi, cutL_app c B A hA]
    congr 1
    · simp
    · rw [← splitK_cutL c k B hB]
      congr 1
      rw [show ((A.length : Int)).toNat + [c].length = A.length + 1 by simp, ← List.drop_drop, List.drop_left]
      rfl
theorem extract_list (s : ByteArray) (a b : Nat) : (s.extract a b).data.toList = (s.data.toList.drop a).take (b - a) := by
  simp
theorem byte_list {s : ByteArray} {i : Nat} (h : i < s.size) : s.data.toList[i]'(by simpa using h) = s[i] := by simp; rfl
theorem splitTo_cut (s : ByteArray) (c : UInt8) : ∀ i, i ≤ s.size →
    cutL c s.data.toList = (splitTo s c.toNat i).1.map (·.data.toList) ++ cutL c (s.data.toList.drop (splitTo s c.toNat i).2) ∧
      ∀ j (h : j < s.size), (splitTo s c.toNat i).2 ≤ j → j < i → s[j] ≠ c
  | 0, _ => ⟨by simp [splitTo], fun j _ _ h => by omega⟩
  | i + 1, hi => by
    obtain ⟨e, hn⟩ := splitTo_cut s c i (by omega)
    have hlt : i < s.size := by omega
    have hle := (splitTo_le s c.toNat i).1
    by_cases hc : s[i].toNat = c.toNat
    · rw [splitTo_hit hlt hc]
      refine ⟨?_, fun j _ h1 h2 => by simp at h1; omega⟩
      rw [e]
      generalize (splitTo s c.toNat i).2 = f at *
      have hl : i < s.data.toList.length := by simpa using hlt
      have hd : s.data.toList.drop f = ((s.data.toList.drop f).take (i - f)) ++ c :: s.data.toList.drop (i + 1) := by
        have hci : s.data.toList[i] = c := by rw [byte_list hlt]; exact UInt8.toNat_inj.1 hc
        conv => lhs; rw [← List.take_append_drop (i - f) (s.data.toList.drop f)]
        congr 1
        rw [List.drop_drop, show f + (i - f) = i by omega, List.drop_eq_getElem_cons hl, hci]
      have hA : ∀ x ∈ (s.data.toList.drop f).take (i - f), x ≠ c := by
        intro x hx
        obtain ⟨k, hk, rfl⟩ := List.getElem_of_mem hx
        have hk2 : k < i - f := by rw [List.length_take] at hk; omega
        rw [List.getElem_take, List.getElem_drop]
        have := hn (f + k) (by omega) (by omega) (by omega)
        rw [← byte_list (by omega)] at this
        exact this
      conv => lhs; rw [hd, cutL_app c _ _ hA]
      simp
    · rw [splitTo_miss hlt hc]
      refine ⟨e, fun j h h1 h2 => ?_⟩
      by_cases hj : j = i
      · subst hj; exact fun e => hc (by rw [e])
      · exact hn j h h1 (by omega)
theorem splitB_cut (s : ByteArray) (c : UInt8) : (splitB s c.toNat).map (·.data.toList) = cutL c s.data.toList := by
  obtain ⟨e, hn⟩ := splitTo_cut s c s.size (Nat.le_refl _)
  have hle := (splitTo_le s c.toNat s.size).1
  unfold splitB
  rw [e]
  generalize (splitTo s c.toNat s.size).2 = f at *
  rw [cutL_none c (s.data.toList.drop f)]
  · rw [List.map_append]; congr 1
    simp only [List.map_cons, List.map_nil, extract_list]
    rw [List.take_of_length_le (by simp)]
  · intro x hx
    obtain ⟨k, hk, rfl⟩ := List.getElem_of_mem hx
    rw [List.getElem_drop]
    have hk2 : f + k < s.size := by rw [List.length_drop] at hk; simp at hk; omega
    have := hn (f + k) hk2 (by omega) hk2
    rw [← byte_list hk2] at this
    exact this
theorem datas_inj : ∀ {A B : List ByteArray}, A.map (·.data.toList) = B.map (·.data.toList) → A = B
  | [], [], _ => rfl
  | [], b :: B, h => by cases h
  | a :: A, [], h => by cases h
  | a :: A, b :: B, h => by
    simp only [List.map_cons, List.cons.injEq] at h
    obtain ⟨h1, h2⟩ := h
    rw [datas_inj h2]
    congr 1
    cases a; cases b
    congr 1
    exact Array.toList_inj.1 h1
theorem lib_split (s : ByteArray) (c : UInt8) : Lib.splitB ⟨#[c]⟩ 0 (Lib.countB s ⟨#[c]⟩) s = splitB s c.toNat := by
  apply datas_inj
  rw [Lib.splitB_data, splitB_cut]
  exact splitK_cutL c _ _ (Lib.count_one c s.data.toList).symm
theorem lib_count (s : ByteArray) (c : UInt8) : Lib.countB s ⟨#[c]⟩ + 1 = (splitB s c.toNat).length := by
  rw [← lib_split, Lib.splitB_all ⟨#[c]⟩ (Nat.le_refl 1) 0 _ s rfl]
end Go.Proofs.YthcpmbolnmlohaaDoor

/- The library's digits of a number are decB's. -/
namespace Go.Proofs.YthcpmbolnmlohaaDoor
theorem decA_lib (m : Nat) (h : 0 < m) : Lib.decDigits m = decA m := by
  induction m using Nat.strongRecOn with
  | _ m ih =>
    rw [Lib.decDigits, decA_pos h]
    split
    · rename_i h10
      rw [show m / 10 = 0 by omega, decA_zero, Nat.mod_eq_of_lt h10]; rfl
    · rw [ih (m / 10) (by omega) (by omega)]
theorem dec_lib (n : Nat) : (⟨(Lib.itoa (n : Int)).toArray⟩ : ByteArray) = decB (n : Int) := by
  rw [Lib.itoa_nonneg]
  unfold decB
  by_cases h : n = 0
  · subst h
    rw [if_pos (by omega), Lib.decDigits_one (by decide)]; rfl
  · rw [if_neg (by omega), if_neg (by omega), decA_lib n (by omega)]; rfl
end Go.Proofs.YthcpmbolnmlohaaDoor

/- The library's Split and the digits of a number, as the program calls them, over the contracts laid at this translation. -/
namespace Go.Proofs.YthcpmbolnmlohaaDoor
open Go.RowKit

/-- the library's variable MaxLen holds some number -/
def MaxI (w : World) : Prop := ∃ m : Int, w.cell? ⟨2, 0, none⟩ = some (.int .i64 m)
theorem MaxI.on {w w' : World} (h : MaxI w) (hb : Below w.heap.size w w') : MaxI w' := by
  obtain ⟨m, hm⟩ := h
  have hlt : 2 < w.heap.size := by
    by_cases h : 2 < w.heap.size
    · exact h
    · exfalso
      simp [World.cell?, Array.getElem?_eq_none (show w.heap.size ≤ 2 by omega)] at hm
  exact ⟨m, by rw [(bcell hb).1 _ _ hlt]; exact hm⟩

theorem split_call (s : ByteArray) (w : World) (hG : MaxI w) (hs : s.size < 4294967281) :
    Calls Tryd.prog 36 #[.string s, .string ⟨#[46]⟩] w fun e w' => e = .returned (.slice (some ⟨w.heap.size, 0, none⟩) (splitB s 46).length (splitB s 46).length) ∧ w' = w.alloc (.cells (strCells (splitB s 46)).toArray 9) := by
  obtain ⟨m, hm⟩ := hG
  have h := Any.strings_Split { Tryd.lays146 with } Tryd.lays146.i9 s ⟨#[46]⟩ m w hs hm (Nat.le_refl 1)
  rw [lib_split s 46, lib_count s 46] at h
  exact h
/-- all cuts and the bytes between them -/
theorem cutL_sum (c : UInt8) : ∀ l : List UInt8, ((cutL c l).map (fun p => p.length + 1)).sum = l.length + 1
  | [] => rfl
  | b :: l => by
    have ih := cutL_sum c l
    rw [cutL]
    split
    · simp only [List.map_cons, List.sum_cons, List.length_nil, List.length_cons, ih]; omega
    · split
      · rename_i h; rw [h] at ih; simp at ih
      · rename_i h
        rw [h] at ih
        simp only [List.map_cons, List.sum_cons, List.length_cons] at ih ⊢
        omega
theorem sum_le (L : List ByteArray) (h : ∀ x ∈ L, x.size ≤ 12) : (L.map (fun p => p.data.toList.length + 1)).sum ≤ 13 * L.length := by
  induction L with
  | nil => exact Nat.le_refl _
  | cons a L ih =>
    have h1 := h a (by simp)
    have h2 := ih (fun x hx => h x (by simp [hx]))
    have e : a.data.toList.length = a.size := (Lib.size_eq a).symm
    simp only [List.map_cons, List.sum_cons, List.length_cons, e]
    omega
theorem labelB_le {t : ByteArray} (h : labelB t = true) : t.size ≤ 12 := by
  by_cases hz : 12 < t.size
  · rw [labelB_size (.inr hz)] at h; cases h
  · omega
theorem host_size {s : ByteArray} (hn : (splitB s 46).length ≤ 6) (h : ∀ k (h : k < (splitB s 46).length), labelB ((splitB s 46)[k]) = true) : s.size ≤ 100 := by
  have e := splitB_cut s 46
  have e2 := cutL_sum 46 s.data.toList
  rw [← e, List.map_map] at e2
  have e3 := sum_le (splitB s 46) (fun x hx => by
    obtain ⟨k, hk, rfl⟩ := List.getElem_of_mem hx
    exact labelB_le (h k hk))
  have e4 : s.data.toList.length = s.size := (Lib.size_eq s).symm
  have e5 : ((splitB s 46).map (fun p => p.data.toList.length + 1)).sum = s.size + 1 := by rw [← e4]; exact e2
  omega
theorem hostB_six {s : ByteArray} (hn : (splitB s 46).length ≤ 6) (h : ∀ k (h : k < (splitB s 46).length), labelB ((splitB s 46)[k]) = true) : hostB s = true := by
  rw [hostB_all (host_size hn h) h]; simpa using hn
theorem hostB_many {s : ByteArray} (hn : 6 < (splitB s 46).length) : hostB s = false := by
  unfold hostB; rw [decide_eq_false (show ¬ (splitB s 46).length ≤ 6 by omega)]; simp
end Go.Proofs.YthcpmbolnmlohaaDoor

/- The walks of the program's inLabel, labelRight and pathRight. -/
namespace Go.Proofs.YthcpmbolnmlohaaDoor
open Go.RowKit

set_option maxRecDepth 10000 in
set_option maxHeartbeats 400000 in
theorem inLabel_any (n : Nat) (w : World) :
    Calls Tryd.prog 99 #[.int .i32 n] w fun e w' => e = .returned (.bool (labC n)) ∧ w' = w := by
  rcases (show (n < 45) ∨ (45 ≤ n ∧ n ≤ 45) ∨ (46 ≤ n ∧ n < 48) ∨ (48 ≤ n ∧ n ≤ 57) ∨ (58 ≤ n ∧ n < 97) ∨ (97 ≤ n ∧ n ≤ 122) ∨ (122 < n) by omega)
    with c1 | ⟨c1, c2⟩ | ⟨c1, c2⟩ | ⟨c1, c2⟩ | ⟨c1, c2⟩ | ⟨c1, c2⟩ | c1
  · have b1 : decide ((97 : Int) ≤ (n : Int)) = false := by rw [decide_eq_false_iff_not]; omega
    have b2 : decide ((48 : Int) ≤ (n : Int)) = false := by rw [decide_eq_false_iff_not]; omega
    have b3 : ((n : Int) == 45) = false := by rw [beq_eq_false_iff_ne]; omega
    go_enter Tryd.func99, Tryd.ntmps99
    go_wp2
    go_ret
    exact ⟨ret_bool (labC_no (by omega)).symm, rfl⟩
  · have b1 : decide ((97 : Int) ≤ (n : Int)) = false := by rw [decide_eq_false_iff_not]; omega
    have b2 : decide ((48 : Int) ≤ (n : Int)) = false := by rw [decide_eq_false_iff_not]; omega
    have b3 : ((n : Int) == 45) = true := by rw [beq_iff_eq]; omega
    go_enter Tryd.func99, Tryd.ntmps99
    go_wp2
    go_ret
    exact ⟨ret_bool (labC_yes (by omega)).symm, rfl⟩
  · have b1 : decide ((97 : Int) ≤ (n : Int)) = false := by rw [decide_eq_false_iff_not]; omega
    have b2 : decide ((48 : Int) ≤ (n : Int)) = false := by rw [decide_eq_false_iff_not]; omega
    have b3 : ((n : Int) == 45) = false := by rw [beq_eq_false_iff_ne]; omega
    go_enter Tryd.func99, Tryd.ntmps99
    go_wp2
    go_ret
    exact ⟨ret_bool (labC_no (by omega)).symm, rfl⟩
  · have b1 : decide ((97 : Int) ≤ (n : Int)) = false := by rw [decide_eq_false_iff_not]; omega
    go_enter Tryd.func99, Tryd.ntmps99
    go_wp2
    go_ret
    exact ⟨ret_bool (labC_yes (by omega)).symm, rfl⟩
  · have b1 : decide ((97 : Int) ≤ (n : Int)) = false := by rw [decide_eq_false_iff_not]; omega
    have b2 : decide ((n : Int) ≤ 57) = false := by rw [decide_eq_false_iff_not]; omega
    have b3 : ((n : Int) == 45) = false := by rw [beq_eq_false_iff_ne]; omega
    go_enter Tryd.func99, Tryd.ntmps99
    go_wp2
    go_ret
    exact ⟨ret_bool (labC_no (by omega)).symm, rfl⟩
  · go_enter Tryd.func99, Tryd.ntmps99
    go_wp2
    go_ret
    exact ⟨ret_bool (labC_yes (by omega)).symm, rfl⟩
  · have b1 : decide ((n : Int) ≤ 122) = false := by rw [decide_eq_false_iff_not]; omega
    have b2 : decide ((n : Int) ≤ 57) = false := by rw [decide_eq_false_iff_not]; omega
    have b3 : ((n : Int) == 45) = false := by rw [beq_eq_false_iff_ne]; omega
    go_enter Tryd.func99, Tryd.ntmps99
    go_wp2
    go_ret
    exact ⟨ret_bool (labC_no (by omega)).symm, rfl⟩

set_option maxRecDepth 10000 in
set_option maxHeartbeats 400000 in
theorem labelRight_any (t : ByteArray) (w : World) (ht : t.size ≤ 9223372036854775807) :
    Calls Tryd.prog 77 #[.string t] w fun e w' => e = .returned (.bool (labelB t)) ∧ Below w.heap.size w w' := by
  by_cases h1 : t.size < 1
  · have q1 : decide ((t.size : Int) - 1 < 0) = true := by rw [decide_eq_true_iff]; omega
    go_enter Tryd.func77, Tryd.ntmps77
    go_wp2
    go_ret
    exact ⟨ret_bool (labelB_size (.inl h1)).symm, Below.refl _ _⟩
  have q1 : decide ((t.size : Int) - 1 < 0) = false := by rw [decide_eq_false_iff_not]; omega
  by_cases h2 : 12 < t.size
  · have q2 : decide ((12 : Int) ≤ (t.size : Int) - 1) = true := by rw [decide_eq_true_iff]; omega
    go_enter Tryd.func77, Tryd.ntmps77
    go_wp2
    go_ret
    exact ⟨ret_bool (labelB_size (.inr h2)).symm, Below.refl _ _⟩
  have q2 : decide ((12 : Int) ≤ (t.size : Int) - 1) = false := by rw [decide_eq_false_iff_not]; omega
  have hp : 0 < t.size := by omega
  have hl : t.size - 1 < t.size := by omega
  by_cases h3 : t[0].toNat = 45
  · have q3 : ((t[0].toNat : Int) == 45) = true := by rw [beq_iff_eq]; omega
    have H3 : Hid (t[0].toNat = 45) := h3
    clear h3
    go_enter Tryd.func77, Tryd.ntmps77
    go_wp2
    go_ret
    exact ⟨ret_bool (labelB_first hp H3.out).symm, Below.refl _ _⟩
  have q3 : ((t[0].toNat : Int) == 45) = false := by rw [beq_eq_false_iff_ne]; omega
  have H3 : Hid (¬ t[0].toNat = 45) := h3
  clear h3
  by_cases h4 : t[t.size - 1].toNat = 45
  · have q4 : ((t[t.size - 1].toNat : Int) == 45) = true := by rw [beq_iff_eq]; omega
    have H4 : Hid (t[t.size - 1].toNat = 45) := h4
    clear h4
    go_enter Tryd.func77, Tryd.ntmps77
    go_wp2
    go_ret
    exact ⟨ret_bool (labelB_last hl H4.out).symm, Below.refl _ _⟩
  have q4 : ((t[t.size - 1].toNat : Int) == 45) = false := by rw [beq_eq_false_iff_ne]; omega
  have H4 : Hid (¬ t[t.size - 1].toNat = 45) := h4
  clear h4
  go_enter Tryd.func77, Tryd.ntmps77
  go_wp2
  go_loopw [5] (fun _ wr => ∃ k : Nat, k ≤ t.size ∧ wr = w.iter t k ∧ Hid (∀ i (h : i < t.size), i < k → labC t[i].toNat = true)) (fun _ wr => t.size - wr.iterPos w.heap.size)
  case atStart => exact ⟨0, Nat.zero_le _, rfl, fun i _ hi => absurd hi (by omega)⟩
  case round =>
    obtain ⟨k, hk, rfl, HR⟩ := hrel
    by_cases hlt : k < t.size
    · by_cases ha : t[k].toNat < 128
      · have hnx : ∀ ty, (Instr.next (.pointer (some ⟨w.heap.size, 0, none⟩)) true ty).run Tryd.prog (w.iter t k) = _ := fun ty => run_next_ascii w t k ty hlt ha
        cases hc : labC t[k].toNat with
        | true =>
          have HC : Hid (∀ W, Calls Tryd.prog 99 #[.int .i32 (t[k].toNat : Int)] W fun e w' => e = .returned (.bool true) ∧ w' = W) := fun W => by rw [← hc]; exact inLabel_any _ W
          have HK : Hid (labC t[k].toNat = true) := hc
          clear hc
          go_wp2_with (go_at_call 99; refine (HC.out _).mono ?_; rintro e w2 ⟨rfl, rfl⟩)
          go_roundw
          case rel => exact ⟨k + 1, by omega, rfl, all_succ HR.out hlt HK.out⟩
          case measure => simp; omega
        | false =>
          have HC : Hid (∀ W, Calls Tryd.prog 99 #[.int .i32 (t[k].toNat : Int)] W fun e w' => e = .returned (.bool false) ∧ w' = W) := fun W => by rw [← hc]; exact inLabel_any _ W
          have HK : Hid (labelB t = false) := labelB_at k hlt hc
          clear hc
          go_wp2_with (go_at_call 99; refine (HC.out _).mono ?_; rintro e w2 ⟨rfl, rfl⟩)
          go_ret
          exact ⟨ret_bool HK.out.symm, (Below.refl _ _).alloc (Nat.le_refl _) _⟩
      · have hnx : ∀ ty, (Instr.next (.pointer (some ⟨w.heap.size, 0, none⟩)) true ty).run Tryd.prog (w.iter t k) = _ := fun ty => run_next_any w t k ty hlt
        have hd := (decode_high t k hlt (by omega)).1
        have HK : Hid (labelB t = false) := labelB_at k hlt (labC_no (by omega))
        generalize Utf8.decode t k = d at *
        obtain ⟨r, n⟩ := d
        have hd2 : 128 ≤ r := hd
        have HC : Hid (∀ W, Calls Tryd.prog 99 #[.int .i32 (r : Int)] W fun e w' => e = .returned (.bool false) ∧ w' = W) := fun W => by
          have := inLabel_any r W
          rw [labC_no (by omega)] at this; exact this
        clear hd hd2
        go_wp2_with (go_at_call 99; refine (HC.out _).mono ?_; rintro e w2 ⟨rfl, rfl⟩)
        go_ret
        exact ⟨ret_bool HK.out.symm, (Below.refl _ _).alloc (Nat.le_refl _) _⟩
    · have hnx : ∀ ty, (Instr.next (.pointer (some ⟨w.heap.size, 0, none⟩)) true ty).run Tryd.prog (w.iter t k) = _ := fun ty => run_next_end w t k ty hlt
      go_wp2
      go_ret
      exact ⟨ret_bool (labelB_true (by omega) (by omega) (fun _ => H3.out) (fun _ => H4.out) (fun i h => HR.out i h (by omega))).symm, (Below.refl _ _).alloc (Nat.le_refl _) _⟩
end Go.Proofs.YthcpmbolnmlohaaDoor

/- The walk of the program's HostRight. -/
namespace Go.Proofs.YthcpmbolnmlohaaDoor
open Go.RowKit

theorem mem_le_sum : ∀ {l : List Nat} {x : Nat}, x ∈ l → x ≤ l.sum
  | [], _, h => by cases h
  | a :: l, x, h => by
    rw [List.sum_cons]
    cases h with
    | head => omega
    | tail _ h => have := mem_le_sum h; omega
theorem piece_le {s x : ByteArray} (hx : x ∈ splitB s 46) : x.size ≤ s.size := by
  have h1 : x.data.toList ∈ cutL 46 s.data.toList := by rw [← splitB_cut]; exact List.mem_map.2 ⟨x, hx, rfl⟩
  have h2 := cutL_sum 46 s.data.toList
  have h3 : (x.data.toList.length + 1) ≤ ((cutL 46 s.data.toList).map (fun p => p.length + 1)).sum := mem_le_sum (List.mem_map.2 ⟨_, h1, rfl⟩)
  rw [h2, ← Lib.size_eq, ← Lib.size_eq] at h3
  omega
set_option maxRecDepth 10000 in
set_option maxHeartbeats 400000 in
theorem hostRight_any (s : ByteArray) (w : World) (hG : MaxI w) (hs : s.size ≤ 1048576) :
    Calls Tryd.prog 47 #[.string s] w fun e w' => e = .returned (.bool (hostB s)) ∧ Below w.heap.size w w' := by
  have HC : Hid (∀ W, MaxI W → Calls Tryd.prog 36 #[.string s, .string ⟨#[46]⟩] W fun e w' => e = .returned (.slice (some ⟨W.heap.size, 0, none⟩) (splitB s 46).length (splitB s 46).length) ∧ w' = W.alloc (.cells (strCells (splitB s 46)).toArray 9)) := fun W h => split_call s W h (by omega)
  have HA : Hid ((∀ k (h : k < (splitB s 46).length), labelB ((splitB s 46)[k]) = false → hostB s = false) ∧ ((splitB s 46).length ≤ 6 → (∀ k (h : k < (splitB s 46).length), labelB ((splitB s 46)[k]) = true) → hostB s = true) ∧ (6 < (splitB s 46).length → hostB s = false)) :=
    ⟨fun k h hl => hostB_at k h hl, fun h1 h2 => hostB_six h1 h2, fun h => hostB_many h⟩
  have hn := splitB_len s 46
  have HZ : Hid (∀ x ∈ splitB s 46, x.size ≤ s.size) := fun x hx => piece_le hx
  generalize splitB s 46 = L at *
  have HG : Hid (MaxI w) := hG
  clear hG
  go_enter Tryd.func47, Tryd.ntmps47
  go_wp2_with fail
  refine (HC.out _ HG.out).mono ?_
  rintro e w1 ⟨rfl, rfl⟩
  by_cases h6 : 6 < L.length
  · go_wp2
    go_ret
    exact ⟨ret_bool (HA.out.2.2 h6).symm, (Below.refl _ _).alloc (Nat.le_refl _) _⟩
  have q6 : decide ((6 : Int) < (L.length : Int)) = false := by rw [decide_eq_false_iff_not]; omega
  have hcell : ∀ k (h : k < L.length), (w.alloc (.cells (strCells L).toArray 9)).cell? ⟨w.heap.size, k, none⟩ = some (.string L[k]) := by
    intro k hk
    simp [strCells, hk]
  have hb : Below w.heap.size w (w.alloc (.cells (strCells L).toArray 9)) := (Below.refl _ _).alloc (Nat.le_refl _) _
  have hz1 : w.heap.size < (w.alloc (.cells (strCells L).toArray 9)).heap.size := by simp
  generalize w.alloc (.cells (strCells L).toArray 9) = w1 at *
  go_wp2
  go_loopw [13] (fun i wr => ∃ k : Nat, k ≤ L.length ∧ i = .int .i64 k ∧ Below w1.heap.size w1 wr ∧ Hid (∀ j (h : j < L.length), j < k → labelB L[j] = true)) (fun i _ => L.length - (intOf i).toNat)
  case atStart => exact ⟨0, by omega, rfl, Below.refl _ _, fun j _ hj => absurd hj (by omega)⟩
  case round =>
    obtain ⟨k, hk, rfl, hb2, HR⟩ := hrel
    by_cases hlt : k < L.length
    · have hc1 := hcell k hlt
      have hck : wr.cell? ⟨w.heap.size, k, none⟩ = some (.string L[k]) := by rw [(bcell hb2).1 _ _ hz1]; exact hc1
      have HL : Hid (∀ W, Calls Tryd.prog 77 #[.string L[k]] W fun e w' => e = .returned (.bool (labelB L[k])) ∧ Below W.heap.size W w') := fun W => labelRight_any L[k] W (by have := HZ.out L[k] (List.getElem_mem hlt); omega)
      have HB2 : Hid (Below w1.heap.size w1 wr) := hb2
      have hz2 := hb2.size
      cases hlab : labelB L[k] with
      | true =>
        have HL2 : Hid (labelB L[k] = true) := hlab
        rw [hlab] at HL
        clear hlab hcell hc1 hb2
        generalize hx : L[k] = x at *
        have HX : Hid (L[k] = x) := hx
        clear hx
        go_wp2_with (go_at_call 77; refine (HL.out _).mono ?_; rintro e w2 ⟨rfl, hb3⟩)
        go_roundw
        case rel =>
          refine ⟨k + 1, by omega, by go_num, HB2.out.trans (hb3.mono hz2), ?_⟩
          intro j hj hjk
          by_cases e : j = k
          · subst e; rw [HX.out]; exact HL2.out
          · exact HR.out j hj (by omega)
        case measure => simp [intOf]; omega
      | false =>
        have HF : Hid (hostB s = false) := HA.out.1 k hlt hlab
        rw [hlab] at HL
        clear hlab hcell hc1 hb2
        generalize L[k] = x at *
        go_wp2_with (go_at_call 77; refine (HL.out _).mono ?_; rintro e w2 ⟨rfl, hb3⟩)
        go_ret
        exact ⟨ret_bool HF.out.symm, hb.trans ((HB2.out.trans (hb3.mono hz2)).mono hb.size)⟩
    · have HF : Hid (hostB s = true) := HA.out.2.1 (by omega) (fun j hj => HR.out j hj (by omega))
      clear hcell
      go_wp2
      go_ret
      exact ⟨ret_bool HF.out.symm, hb.trans (hb2.mono hb.size)⟩
end Go.Proofs.YthcpmbolnmlohaaDoor

/- The walks of the program's pathRight, ownPort, placeRight and UrlRight. -/
namespace Go.Proofs.YthcpmbolnmlohaaDoor
open Go.RowKit

set_option maxRecDepth 10000 in
set_option maxHeartbeats 400000 in
theorem pathRight_any (t : ByteArray) (w : World) :
    Calls Tryd.prog 48 #[.string t] w fun e w' => e = .returned (.bool (pathB t)) ∧ Below w.heap.size w w' := by
  by_cases h1 : t.size < 1
  · have q1 : ((t.size : Int) == 0) = true := by rw [beq_iff_eq]; omega
    go_enter Tryd.func48, Tryd.ntmps48
    go_wp2
    go_ret
    exact ⟨ret_bool (pathB_size (.inl h1)).symm, Below.refl _ _⟩
  have q1 : ((t.size : Int) == 0) = false := by rw [beq_eq_false_iff_ne]; omega
  by_cases h2 : 40 < t.size
  · go_enter Tryd.func48, Tryd.ntmps48
    go_wp2
    go_ret
    exact ⟨ret_bool (pathB_size (.inr h2)).symm, Below.refl _ _⟩
  have q2 : decide ((40 : Int) < (t.size : Int)) = false := by rw [decide_eq_false_iff_not]; omega
  have hp : 0 < t.size := by omega
  by_cases h3 : t[0].toNat = 47
  case neg =>
    have q3 : ((t[0].toNat : Int) != 47) = true := by rw [bne_iff_ne]; omega
    have H3 : Hid (¬ t[0].toNat = 47) := h3
    clear h3
    go_enter Tryd.func48, Tryd.ntmps48
    go_wp2
    go_ret
    exact ⟨ret_bool (pathB_first hp H3.out).symm, Below.refl _ _⟩
  have q3 : ((t[0].toNat : Int) != 47) = false := by rw [bne_eq_false_iff_eq]; omega
  have H3 : Hid (t[0].toNat = 47) := h3
  clear h3
  go_enter Tryd.func48, Tryd.ntmps48
  go_wp2
  go_loopw [4] (fun _ wr => ∃ k : Nat, k ≤ t.size ∧ wr = w.iter t k ∧ Hid (∀ i (h : i < t.size), i < k → pathC t[i].toNat = true)) (fun _ wr => t.size - wr.iterPos w.heap.size)
  case atStart => exact ⟨0, Nat.zero_le _, rfl, fun i _ hi => absurd hi (by omega)⟩
  case round =>
    obtain ⟨k, hk, rfl, HR⟩ := hrel
    by_cases hlt : k < t.size
    · by_cases ha : t[k].toNat < 128
      · have hnx : ∀ ty, (Instr.next (.pointer (some ⟨w.heap.size, 0, none⟩)) true ty).run Tryd.prog (w.iter t k) = _ := fun ty => run_next_ascii w t k ty hlt ha
        by_cases d1 : t[k].toNat < 33
        · go_wp2
          go_ret
          exact ⟨ret_bool (pathB_at k hlt (pathC_no (by omega))).symm, (Below.refl _ _).alloc (Nat.le_refl _) _⟩
        have b1 : decide ((t[k].toNat : Int) < 33) = false := by rw [decide_eq_false_iff_not]; omega
        by_cases d2 : 126 < t[k].toNat
        · go_wp2
          go_ret
          exact ⟨ret_bool (pathB_at k hlt (pathC_no (by omega))).symm, (Below.refl _ _).alloc (Nat.le_refl _) _⟩
        have b2 : decide ((126 : Int) < (t[k].toNat : Int)) = false := by rw [decide_eq_false_iff_not]; omega
        by_cases d3 : t[k].toNat = 63
        · have b3 : ((t[k].toNat : Int) == 63) = true := by rw [beq_iff_eq]; omega
          have D3 : Hid (t[k].toNat = 63) := d3
          clear d3
          go_wp2
          go_ret
          exact ⟨ret_bool (pathB_at k hlt (pathC_no (by have := D3.out; omega))).symm, (Below.refl _ _).alloc (Nat.le_refl _) _⟩
        have b3 : ((t[k].toNat : Int) == 63) = false := by rw [beq_eq_false_iff_ne]; omega
        by_cases d4 : t[k].toNat = 35
        · have b4 : ((t[k].toNat : Int) == 35) = true := by rw [beq_iff_eq]; omega
          have D4 : Hid (t[k].toNat = 35) := d4
          clear d4
          go_wp2
          go_ret
          exact ⟨ret_bool (pathB_at k hlt (pathC_no (by have := D4.out; omega))).symm, (Below.refl _ _).alloc (Nat.le_refl _) _⟩
        have b4 : ((t[k].toNat : Int) == 35) = false := by rw [beq_eq_false_iff_ne]; omega
        by_cases d5 : t[k].toNat = 59
        · have b5 : ((t[k].toNat : Int) == 59) = true := by rw [beq_iff_eq]; omega
          have D5 : Hid (t[k].toNat = 59) := d5
          clear d5
          go_wp2
          go_ret
          exact ⟨ret_bool (pathB_at k hlt (pathC_no (by have := D5.out; omega))).symm, (Below.refl _ _).alloc (Nat.le_refl _) _⟩
        have b5 : ((t[k].toNat : Int) == 59) = false := by rw [beq_eq_false_iff_ne]; omega
        have HC : Hid (pathC t[k].toNat = true) := pathC_yes (by omega)
        clear d3 d4 d5
        go_wp2
        go_roundw
        case rel => exact ⟨k + 1, by omega, rfl, all_succ HR.out hlt HC.out⟩
        case measure => simp; omega
      · have hnx : ∀ ty, (Instr.next (.pointer (some ⟨w.heap.size, 0, none⟩)) true ty).run Tryd.prog (w.iter t k) = _ := fun ty => run_next_any w t k ty hlt
        have hd := (decode_high t k hlt (by omega)).1
        have HK : Hid (pathB t = false) := pathB_at k hlt (pathC_no (by omega))
        generalize Utf8.decode t k = d at *
        obtain ⟨r, n⟩ := d
        have hd2 : 128 ≤ r := hd
        have b1 : decide ((r : Int) < 33) = false := by rw [decide_eq_false_iff_not]; omega
        have b2 : decide ((126 : Int) < (r : Int)) = true := by rw [decide_eq_true_iff]; omega
        clear hd
        go_wp2
        go_ret
        exact ⟨ret_bool HK.out.symm, (Below.refl _ _).alloc (Nat.le_refl _) _⟩
    · have hnx : ∀ ty, (Instr.next (.pointer (some ⟨w.heap.size, 0, none⟩)) true ty).run Tryd.prog (w.iter t k) = _ := fun ty => run_next_end w t k ty hlt
      go_wp2
      go_ret
      exact ⟨ret_bool (pathB_true (by omega) (by omega) (fun _ => H3.out) (fun i h => HR.out i h (by omega))).symm, (Below.refl _ _).alloc (Nat.le_refl _) _⟩
end Go.Proofs.YthcpmbolnmlohaaDoor

/- The walks of the program's pairRight, modeRight and SetRight. Written by implset.py. -/
namespace Go.Proofs.YthcpmbolnmlohaaDoor
open Go.RowKit

set_option maxRecDepth 10000 in
set_option maxHeartbeats 2000000 in
theorem pairRight_any (na va : ByteArray) (w : World) :
    Calls Tryd.prog 46 #[pairV na va] w fun e w' => e = .returned (.bool (pairB na va)) ∧ Below w.heap.size w w' := by
  have K1 : Hid (∀ W, Calls Tryd.prog 76 #[.string na] W fun e w' => e = .returned (.bool (wordB na)) ∧ w' = W) := fun W => wordRight_any na W
  have K2 : Hid (∀ W, Calls Tryd.prog 76 #[.string va] W fun e w' => e = .returned (.bool (wordB va)) ∧ w' = W) := fun W => wordRight_any va W
  have HP : Hid (pairB na va = (!na.toList.isEmpty && wordB na && wordB va)) := rfl
  generalize pairB na va = R at *
  generalize wordB na = b1 at *
  generalize wordB va = b2 at *
  unfold pairV
  cases he : na.toList.isEmpty with
  | true =>
    have HR : Hid (R = false) := by show _ = _; rw [HP.out, he]; rfl
    go_enter Tryd.func46, Tryd.ntmps46
    go_wp2
    go_ret
    exact ⟨ret_bool HR.out.symm, (Below.refl _ _).alloc (Nat.le_refl _) _⟩
  | false =>
    cases b1 with
    | false =>
      have HR : Hid (R = false) := by show _ = _; rw [HP.out, he]; rfl
      go_enter Tryd.func46, Tryd.ntmps46
      go_wp2_with fail
      refine (K1.out _).mono ?_
      rintro e w1 ⟨rfl, rfl⟩
      go_wp2
      go_ret
      exact ⟨ret_bool HR.out.symm, (Below.refl _ _).alloc (Nat.le_refl _) _⟩
    | true =>
      have HR : Hid (R = b2) := by show _ = _; rw [HP.out, he]; cases b2 <;> rfl
      go_enter Tryd.func46, Tryd.ntmps46
      go_wp2_with fail
      refine (K1.out _).mono ?_
      rintro e w1 ⟨rfl, rfl⟩
      go_wp2_with fail
      refine (K2.out _).mono ?_
      rintro e w2 ⟨rfl, rfl⟩
      go_wp2
      go_ret
      exact ⟨ret_bool HR.out.symm, (Below.refl _ _).alloc (Nat.le_refl _) _⟩
set_option maxRecDepth 10000 in
set_option maxHeartbeats 1000000 in
theorem modeRight_any (mo : Int) (w : World) :
    Calls Tryd.prog 49 #[.int .i64 mo] w fun e w' => e = .returned (.bool (modeB mo)) ∧ w' = w := by
  have HM : Hid (modeB mo = (decide (0 ≤ mo) && decide (mo ≤ 2))) := rfl
  generalize modeB mo = R at *
  by_cases h0 : 0 ≤ mo
  · have q0 : decide ((0 : Int) ≤ mo) = true := by rw [decide_eq_true_iff]; exact h0
    go_enter Tryd.func49, Tryd.ntmps49
    go_wp2
    go_ret
    exact ⟨ret_bool (by rw [HM.out, q0]; rfl), rfl⟩
  · have q0 : decide ((0 : Int) ≤ mo) = false := by rw [decide_eq_false_iff_not]; exact h0
    go_enter Tryd.func49, Tryd.ntmps49
    go_wp2
    go_ret
    exact ⟨ret_bool (by rw [HM.out, q0]; rfl), rfl⟩
set_option maxRecDepth 10000 in
set_option maxHeartbeats 8000000 in
theorem setRight_any (na va dm pa : ByteArray) (ag : Int) (se : Bool) (mo : Int) (pt : Bool) (w : World) (hG : MaxI w) (hdm : dm.size ≤ 1048576) :
    Calls Tryd.prog 19 #[setV na va dm pa ag se mo pt] w fun e w' => e = .returned (.bool (setB na va dm pa ag mo)) ∧ Below w.heap.size w w' := by
  have K1 : Hid (∀ W, Calls Tryd.prog 46 #[.agg #[.string na, .string va]] W fun e w' => e = .returned (.bool (pairB na va)) ∧ Below W.heap.size W w') := fun W => pairRight_any na va W
  have K3 : Hid (∀ W, Below w.heap.size w W → Calls Tryd.prog 47 #[.string dm] W fun e w' => e = .returned (.bool (hostB dm)) ∧ Below W.heap.size W w') := fun W hb => hostRight_any dm W (hG.on hb) hdm
  have K4 : Hid (∀ W, Calls Tryd.prog 48 #[.string pa] W fun e w' => e = .returned (.bool (pathB pa)) ∧ Below W.heap.size W w') := fun W => pathRight_any pa W
  have K6 : Hid (∀ W, Calls Tryd.prog 49 #[.int .i64 mo] W fun e w' => e = .returned (.bool (modeB mo)) ∧ w' = W) := fun W => modeRight_any mo W
  have HE : Hid (setB na va dm pa ag mo = (pairB na va && (dm.toList.isEmpty || hostB dm) && (pa.toList.isEmpty || pathB pa) && (decide (-1 ≤ ag) && decide (ag ≤ 1000000)) && modeB mo)) := rfl
  clear hG hdm
  unfold setV
  generalize setB na va dm pa ag mo = R at *
  generalize pairB na va = b1 at *
  generalize hostB dm = b3 at *
  generalize pathB pa = b4 at *
  generalize modeB mo = b6 at *
  go_enter Tryd.func19, Tryd.ntmps19
  go_wp2_with fail
  refine (K1.out _).mono ?_
  rintro e w1 ⟨rfl, hb1⟩
  have hz1 : w.heap.size < w1.heap.size := by have := hb1.size; simp at this; omega
  have g2 : w1.cell? ⟨w.heap.size, 2, none⟩ = some (.string dm) := by rw [(bcell hb1).1 _ _ (by simp)]; simp
  have g3 : w1.cell? ⟨w.heap.size, 3, none⟩ = some (.string pa) := by rw [(bcell hb1).1 _ _ (by simp)]; simp
  have g4 : w1.cell? ⟨w.heap.size, 4, none⟩ = some (.int .i64 ag) := by rw [(bcell hb1).1 _ _ (by simp)]; simp
  have g6 : w1.cell? ⟨w.heap.size, 6, none⟩ = some (.int .i64 mo) := by rw [(bcell hb1).1 _ _ (by simp)]; simp
  have B1 : Hid (Below w.heap.size w w1) := ((Below.refl _ _).alloc (Nat.le_refl _) _).trans (hb1.mono (by simp))
  clear hb1
  cases b1 with
  | false =>
    go_wp2
    go_ret
    exact ⟨ret_bool (by rw [HE.out]; first | rfl | simp [*]), B1.out⟩
  | true =>
    cases hdm : dm.toList.isEmpty with
    | true =>
      cases hpa : pa.toList.isEmpty with
      | true =>
        by_cases ha : -1 ≤ ag
        · have q1 : decide ((-1 : Int) ≤ ag) = true := by rw [decide_eq_true_iff]; exact ha
          by_cases hc : ag ≤ 1000000
          · have q2 : decide (ag ≤ (1000000 : Int)) = true := by rw [decide_eq_true_iff]; exact hc
            go_wp2_with (go_at_call 49; refine (K6.out _).mono ?_; rintro e w6 ⟨rfl, rfl⟩)
            go_ret
            exact ⟨ret_bool (by rw [HE.out]; first | rfl | (cases b6 <;> simp [*])), B1.out⟩
          · have q2 : decide (ag ≤ (1000000 : Int)) = false := by rw [decide_eq_false_iff_not]; exact hc
            go_wp2
            go_ret
            exact ⟨ret_bool (by rw [HE.out]; first | rfl | simp [*]), B1.out⟩
        · have q1 : decide ((-1 : Int) ≤ ag) = false := by rw [decide_eq_false_iff_not]; exact ha
          go_wp2
          go_ret
          exact ⟨ret_bool (by rw [HE.out]; first | rfl | simp [*]), B1.out⟩
      | false =>
        go_wp2_with fail
        refine (K4.out _).mono ?_
        rintro e w4 ⟨rfl, hb4⟩
        have l4 : w4.cell? ⟨w.heap.size, 4, none⟩ = some (.int .i64 ag) := by rw [(bcell hb4).1 _ _ hz1]; exact g4
        have l6 : w4.cell? ⟨w.heap.size, 6, none⟩ = some (.int .i64 mo) := by rw [(bcell hb4).1 _ _ hz1]; exact g6
        have B4 : Hid (Below w.heap.size w w4) := B1.out.trans (hb4.mono B1.out.size)
        clear hb4 g4 g6
        cases b4 with
        | false =>
          go_wp2
          go_ret
          exact ⟨ret_bool (by rw [HE.out]; first | rfl | simp [*]), B4.out⟩
        | true =>
          by_cases ha : -1 ≤ ag
          · have q1 : decide ((-1 : Int) ≤ ag) = true := by rw [decide_eq_true_iff]; exact ha
            by_cases hc : ag ≤ 1000000
            · have q2 : decide (ag ≤ (1000000 : Int)) = true := by rw [decide_eq_true_iff]; exact hc
              go_wp2_with (go_at_call 49; refine (K6.out _).mono ?_; rintro e w6 ⟨rfl, rfl⟩)
              go_ret
              exact ⟨ret_bool (by rw [HE.out]; first | rfl | (cases b6 <;> simp [*])), B4.out⟩
            · have q2 : decide (ag ≤ (1000000 : Int)) = false := by rw [decide_eq_false_iff_not]; exact hc
              go_wp2
              go_ret
              exact ⟨ret_bool (by rw [HE.out]; first | rfl | simp [*]), B4.out⟩
          · have q1 : decide ((-1 : Int) ≤ ag) = false := by rw [decide_eq_false_iff_not]; exact ha
            go_wp2
            go_ret
            exact ⟨ret_bool (by rw [HE.out]; first | rfl | simp [*]), B4.out⟩
    | false =>
      go_wp2_with fail
      refine (K3.out _ B1.out).mono ?_
      rintro e w3 ⟨rfl, hb3⟩
      have k3 : w3.cell? ⟨w.heap.size, 3, none⟩ = some (.string pa) := by rw [(bcell hb3).1 _ _ hz1]; exact g3
      have k4 : w3.cell? ⟨w.heap.size, 4, none⟩ = some (.int .i64 ag) := by rw [(bcell hb3).1 _ _ hz1]; exact g4
      have k6 : w3.cell? ⟨w.heap.size, 6, none⟩ = some (.int .i64 mo) := by rw [(bcell hb3).1 _ _ hz1]; exact g6
      have B3 : Hid (Below w.heap.size w w3) := B1.out.trans (hb3.mono B1.out.size)
      have hz3 : w.heap.size < w3.heap.size := Nat.lt_of_lt_of_le hz1 hb3.size
      clear hb3 g2 g3 g4 g6
      cases b3 with
      | false =>
        go_wp2
        go_ret
        exact ⟨ret_bool (by rw [HE.out]; first | rfl | simp [*]), B3.out⟩
      | true =>
        cases hpa : pa.toList.isEmpty with
        | true =>
          by_cases ha : -1 ≤ ag
          · have q1 : decide ((-1 : Int) ≤ ag) = true := by rw [decide_eq_true_iff]; exact ha
            by_cases hc : ag ≤ 1000000
            · have q2 : decide (ag ≤ (1000000 : Int)) = true := by rw [decide_eq_true_iff]; exact hc
              go_wp2_with (go_at_call 49; refine (K6.out _).mono ?_; rintro e w6 ⟨rfl, rfl⟩)
              go_ret
              exact ⟨ret_bool (by rw [HE.out]; first | rfl | (cases b6 <;> simp [*])), B3.out⟩
            · have q2 : decide (ag ≤ (1000000 : Int)) = false := by rw [decide_eq_false_iff_not]; exact hc
              go_wp2
              go_ret
              exact ⟨ret_bool (by rw [HE.out]; first | rfl | simp [*]), B3.out⟩
          · have q1 : decide ((-1 : Int) ≤ ag) = false := by rw [decide_eq_false_iff_not]; exact ha
            go_wp2
            go_ret
            exact ⟨ret_bool (by rw [HE.out]; first | rfl | simp [*]), B3.out⟩
        | false =>
          go_wp2_with fail
          refine (K4.out _).mono ?_
          rintro e w4 ⟨rfl, hb4⟩
          have l4 : w4.cell? ⟨w.heap.size, 4, none⟩ = some (.int .i64 ag) := by rw [(bcell hb4).1 _ _ hz3]; exact k4
          have l6 : w4.cell? ⟨w.heap.size, 6, none⟩ = some (.int .i64 mo) := by rw [(bcell hb4).1 _ _ hz3]; exact k6
          have B4 : Hid (Below w.heap.size w w4) := B3.out.trans (hb4.mono B3.out.size)
          clear hb4 k4 k6
          cases b4 with
          | false =>
            go_wp2
            go_ret
            exact ⟨ret_bool (by rw [HE.out]; first | rfl | simp [*]), B4.out⟩
          | true =>
            by_cases ha : -1 ≤ ag
            · have q1 : decide ((-1 : Int) ≤ ag) = true := by rw [decide_eq_true_iff]; exact ha
              by_cases hc : ag ≤ 1000000
              · have q2 : decide (ag ≤ (1000000 : Int)) = true := by rw [decide_eq_true_iff]; exact hc
                go_wp2_with (go_at_call 49; refine (K6.out _).mono ?_; rintro e w6 ⟨rfl, rfl⟩)
                go_ret
                exact ⟨ret_bool (by rw [HE.out]; first | rfl | (cases b6 <;> simp [*])), B4.out⟩
              · have q2 : decide (ag ≤ (1000000 : Int)) = false := by rw [decide_eq_false_iff_not]; exact hc
                go_wp2
                go_ret
                exact ⟨ret_bool (by rw [HE.out]; first | rfl | simp [*]), B4.out⟩
            · have q1 : decide ((-1 : Int) ≤ ag) = false := by rw [decide_eq_false_iff_not]; exact ha
              go_wp2
              go_ret
              exact ⟨ret_bool (by rw [HE.out]; first | rfl | simp [*]), B4.out⟩
end Go.Proofs.YthcpmbolnmlohaaDoor

/- The digits of a number, as the library tells them. -/
namespace Go.Proofs.YthcpmbolnmlohaaDoor
open Go.RowKit

/-- the library's powers of ten -/
def PowI (w : World) : Prop := Lib.TabIs Tryd.prog w "internal/strconv.uint64pow10" .u64 Lib.pow10Tab
theorem PowI.on {w w' : World} (h : PowI w) (hb : Below w.heap.size w w') : PowI w' := Lib.tabBelow_of_tabIs h w' hb

theorem below_grow (w : World) (k : Nat) (os : Array Obj) : Below w.heap.size w (Sort.grow (w.drewN k) os) :=
  ⟨rfl, rfl, rfl, by simp [Sort.grow], fun i hi => by
    show ((w.drewN k).heap ++ os)[i]? = _
    rw [Array.getElem?_append_left (show i < (w.drewN k).heap.size from hi)]
    rfl⟩
theorem dec_call (n : Int) (w : World) (hT : PowI w) (h0 : 0 ≤ n) (h : n ≤ 9223372036854775807) :
    Calls Tryd.prog 52 #[.int .i64 n, .int .i64 10] w fun e w' => e = .returned (.string (decB n)) ∧ Below w.heap.size w w' := by
  obtain ⟨m, rfl⟩ := Int.eq_ofNat_of_zero_le h0
  refine (Any.strconv_FormatInt_10 Tryd.lays173 (m : Int) (by omega) h w hT).mono ?_
  rintro e w' ⟨rfl, k, os, rfl⟩
  exact ⟨ret_text (dec_lib m), below_grow w k os⟩

end Go.Proofs.YthcpmbolnmlohaaDoor

/- A row of texts that a call owns, as a slice of texts. -/
namespace Go.Proofs.YthcpmbolnmlohaaDoor
open Go.RowKit

def atL (L : List ByteArray) (j : Nat) : ByteArray := L.getD j ⟨#[]⟩
theorem slice_of_own {w : World} {B : Nat} {t : TypeId} {v : Value} {L : List ByteArray} (h : w.ownsRow B t 1 v L.length (strCells L)) : SliceS w B v L.length (atL L) := by
  obtain ⟨h1, ⟨rfl, h0⟩ | ⟨g, cap, cur, rfl, hg, h3, h4, h5, h6, h7⟩⟩ := h
  · exact ⟨none, 0, by rw [h0], fun h => absurd h (by omega)⟩
  · refine ⟨_, cap, rfl, fun hn => ⟨g, rfl, hg, ?_, fun j hj => ?_⟩⟩
    · exact (Array.getElem?_eq_some_iff.mp h3).1
    · have e : cur[j]? = some (.string (atL L j)) := by
        have e1 : (cur.toList.take (L.length * 1))[j]? = (strCells L)[j]? := by rw [h7]
        rw [List.getElem?_take_of_lt (by omega)] at e1
        rw [← Array.getElem?_toList, e1]
        simp [strCells, atL, hj]
      refine ⟨?_, ?_⟩
      · simp [World.cell?, h3, e]
      · simp [World.frozen?, h3]
theorem own_below {w w' : World} {B n : Nat} {e : TypeId} {v : Value} {xs : List Value} (h : w.ownsRow B e 1 v n xs) (hb : Below w.heap.size w w') : w'.ownsRow B e 1 v n xs := by
  obtain ⟨hl, h0 | ⟨g, cap, cur, rfl, hbg, hh, r⟩⟩ := h
  · exact ⟨hl, .inl h0⟩
  · have hg : g < w.heap.size := (Array.getElem?_eq_some_iff.mp hh).1
    exact ⟨hl, .inr ⟨g, cap, cur, rfl, hbg, by rw [hb.block g hg]; exact hh, r⟩⟩
end Go.Proofs.YthcpmbolnmlohaaDoor

/- A row of texts that is owned, joined by the library. -/
namespace Go.Proofs.YthcpmbolnmlohaaDoor
open Go.RowKit

theorem builderX : Builder.Extra Tryd.prog Tryd.lays156_ren where
  sizeBuilder := by kernel_rfl
  liesBuilder := by kernel_rfl
  t5 := Tryd.underlying5
  a5 := Tryd.isAgg5
  z5 := Tryd.sizeOf5
  v5 := Tryd.zeroValue5
  infoByte := by kernel_rfl
  cellsByte := by kernel_rfl
  sizeByte := by kernel_rfl
  neB5 := by decide
/-- texts with sep between -/
def joinB (L : List ByteArray) (sep : ByteArray) : ByteArray := ⟨(Lib.join (L.map (·.data.toList)) sep.data.toList).toArray⟩
theorem join_own (L : List ByteArray) (v : Value) (B : Nat) (t : TypeId) (sep : ByteArray) (w : World) (h : w.ownsRow B t 1 v L.length (strCells L)) (hN : L.length ≤ 140737488355328) (hz : (joinB L sep).size ≤ 140737488355328) :
    Calls Tryd.prog 34 #[v, .string sep] w fun e w' => e = .returned (.string (joinB L sep)) ∧ Below w.heap.size w w' := by
  obtain ⟨p, c, rfl, hs⟩ := slice_of_own h
  by_cases h0 : L.length = 0
  · have hL : L = [] := List.length_eq_zero_iff.1 h0
    subst hL
    exact (Any.strings_Join_none Tryd.lays156 builderX p c sep w).mono fun _ _ ⟨h1, h2⟩ => ⟨h1, h2 ▸ Below.refl _ _⟩
  · obtain ⟨g, rfl, -, hg, hc⟩ := hs (by omega)
    have hcap : L.length ≤ c := by
      obtain ⟨_, ⟨e, h0'⟩ | ⟨g', cap, cur, e, _, _, hle, _⟩⟩ := h
      · omega
      · injection e with _ _ e3
        omega
    refine Any.strings_Join Tryd.lays156 builderX g 0 c L sep w (fun j x hj => ?_) hg hN hcap hz
    obtain ⟨hj1, rfl⟩ := List.getElem?_eq_some_iff.1 hj
    have e : atL L j = L[j] := by simp [atL, hj1]
    rw [Nat.zero_add, ← e]
    exact (hc j hj1).1
/-- a row of one text, built -/
theorem own_one (w : World) (t : TypeId) (x : ByteArray) : (w.alloc (.cells #[.string x] t)).ownsRow w.heap.size t 1 (.slice (some ⟨w.heap.size, 0, none⟩) 1 1) [x].length (strCells [x]) :=
  ⟨rfl, .inr ⟨w.heap.size, 1, #[.string x], rfl, Nat.le_refl _, heap_alloc_new w _, Nat.le_refl _, by decide, rfl, rfl⟩⟩
end Go.Proofs.YthcpmbolnmlohaaDoor

/- The first place of a text in another one, and the number that digits tell, as plain functions. -/
namespace Go.Proofs.YthcpmbolnmlohaaDoor
/-- does x stand in t at place i? -/
def isAt (t x : ByteArray) (i : Nat) : Bool := (t.extract i (i + x.size)).toList == x.toList
/-- the first place of x in t among the first i ones -/
def findTo (t x : ByteArray) : Nat → Option Nat
  | 0 => none
  | i + 1 => match findTo t x i with
    | some k => some k
    | none => if i + x.size ≤ t.size ∧ isAt t x i = true then some i else none
def findN (t x : ByteArray) : Option Nat := findTo t x (t.size + 1)
/-- as the specification tells it: -1 of none -/
def findI (t x : ByteArray) : Int := match findN t x with | some k => (k : Int) | none => -1
theorem findTo_hit {t x : ByteArray} {i : Nat} (h : findTo t x i = none) (h1 : i + x.size ≤ t.size) (h2 : isAt t x i = true) : findTo t x (i + 1) = some i := by
  rw [findTo, h]; simp [h1, h2]
theorem findTo_miss {t x : ByteArray} {i : Nat} (h : findTo t x i = none) (h2 : ¬ (i + x.size ≤ t.size ∧ isAt t x i = true)) : findTo t x (i + 1) = none := by
  rw [findTo, h]; simp only; rw [if_neg h2]
theorem findTo_keep {t x : ByteArray} {i k : Nat} (h : findTo t x i = some k) (j : Nat) : findTo t x (i + j) = some k := by
  induction j with
  | zero => exact h
  | succ j ih => rw [← Nat.add_assoc, findTo, ih]
theorem findTo_after {t x : ByteArray} {i : Nat} (h : findTo t x i = none) (hi : t.size < i + x.size) (j : Nat) : findTo t x (i + j) = none := by
  induction j with
  | zero => exact h
  | succ j ih => rw [← Nat.add_assoc]; exact findTo_miss ih (by omega)
theorem findTo_lt {t x : ByteArray} {i k : Nat} (h : findTo t x i = some k) : k < i ∧ k + x.size ≤ t.size ∧ isAt t x k = true := by
  induction i with
  | zero => cases h
  | succ i ih =>
    rw [findTo] at h
    cases hf : findTo t x i with
    | some m =>
      rw [hf] at h
      obtain rfl : m = k := by simpa using h
      have := ih hf
      exact ⟨by omega, this.2⟩
    | none =>
      rw [hf] at h
      simp only at h
      split at h
      · rename_i hc
        obtain rfl : i = k := by simpa using h
        exact ⟨by omega, hc⟩
      · cases h
theorem findI_hit {t x : ByteArray} {i : Nat} (h : findTo t x i = none) (h1 : i + x.size ≤ t.size) (h2 : isAt t x i = true) : findI t x = i := by
  have h3 := findTo_keep (findTo_hit h h1 h2) (t.size - i)
  unfold findI findN
  rw [show t.size + 1 = i + 1 + (t.size - i) by omega, h3]
theorem findI_none {t x : ByteArray} {i : Nat} (h : findTo t x i = none) (hi : t.size < i + x.size) (hle : i ≤ t.size + 1) : findI t x = -1 := by
  have h3 := findTo_after h hi (t.size + 1 - i)
  unfold findI findN
  rw [show t.size + 1 = i + (t.size + 1 - i) by omega, h3]
/-- the number of the first i bytes as digits -/
def numTo (t : ByteArray) : Nat → Nat
  | 0 => 0
  | i + 1 => if h : i < t.size then 10 * numTo t i + (t[i].toNat - 48) else numTo t i
theorem numTo_succ {t : ByteArray} {i : Nat} (h : i < t.size) : numTo t (i + 1) = 10 * numTo t i + (t[i].toNat - 48) := by rw [numTo, dif_pos h]
theorem numTo_lt (t : ByteArray) (hd : ∀ i (h : i < t.size), 48 ≤ t[i].toNat ∧ t[i].toNat ≤ 57) (i : Nat) : numTo t i < 10 ^ i := by
  induction i with
  | zero => exact (by decide : 0 < 10 ^ 0)
  | succ i ih =>
    rw [numTo, Nat.pow_succ]
    split
    · rename_i h
      have := hd i h
      omega
    · omega
def digC (c : Nat) : Bool := decide (48 ≤ c ∧ c ≤ 57)
/-- digits that are no number of at most nine of them: -1 -/
def numI (t : ByteArray) : Int := if 1 ≤ t.size ∧ t.size ≤ 9 ∧ (1 < t.size → ∀ h : 0 < t.size, ¬ t[0].toNat = 48) ∧ ∀ i (h : i < t.size), digC t[i].toNat = true then (numTo t t.size : Int) else -1
theorem numI_size {t : ByteArray} (h : t.size < 1 ∨ 9 < t.size) : numI t = -1 := by
  unfold numI; rw [if_neg]; rintro ⟨a, b, _⟩; omega
theorem numI_first {t : ByteArray} (h : 1 < t.size) (hc : t[0].toNat = 48) : numI t = -1 := by
  unfold numI; rw [if_neg]; rintro ⟨_, _, a, _⟩; exact a h (by omega) hc
theorem numI_at {t : ByteArray} (k : Nat) (h : k < t.size) (hk : digC t[k].toNat = false) : numI t = -1 := by
  unfold numI; rw [if_neg]; rintro ⟨_, _, _, c⟩; rw [c k h] at hk; cases hk
theorem numI_yes {t : ByteArray} (h1 : 1 ≤ t.size) (h2 : t.size ≤ 9) (h3 : 1 < t.size → ∀ h : 0 < t.size, ¬ t[0].toNat = 48) (h : ∀ i (h : i < t.size), digC t[i].toNat = true) : numI t = numTo t t.size := by
  unfold numI; rw [if_pos ⟨h1, h2, h3, h⟩]
theorem digC_yes {c : Nat} (h : 48 ≤ c ∧ c ≤ 57) : digC c = true := by unfold digC; rw [decide_eq_true_iff]; exact h
theorem digC_no {c : Nat} (h : ¬ (48 ≤ c ∧ c ≤ 57)) : digC c = false := by unfold digC; rw [decide_eq_false_iff_not]; exact h
theorem digC_of {c : Nat} (h : digC c = true) : 48 ≤ c ∧ c ≤ 57 := by unfold digC at h; rwa [decide_eq_true_iff] at h
end Go.Proofs.YthcpmbolnmlohaaDoor

/- The walks of the specification's l02Find (from place 0 on) and l02Num. -/
namespace Go.Proofs.YthcpmbolnmlohaaDoor
open Go.RowKit

set_option maxRecDepth 10000 in
set_option maxHeartbeats 400000 in
theorem specFind_any (t x : ByteArray) (w : World) (ht : t.size ≤ 1048576) (hx : x.size ≤ 1048576) :
    Calls Tryd.prog 82 #[.string t, .int .i64 0, .string x] w fun e w' => e = .returned (.int .i64 (findI t x)) ∧ w' = w := by
  go_enter Tryd.func82, Tryd.ntmps82
  go_wp2
  go_loop [7] (fun i => ∃ k : Nat, k ≤ t.size + 1 ∧ i = .int .i64 k ∧ Hid (findTo t x k = none)) (fun i => t.size + 1 - (intOf i).toNat)
  case atStart => exact ⟨0, by omega, rfl, rfl⟩
  case round =>
    obtain ⟨k, hk, rfl, HN⟩ := hrel
    by_cases hle : k + x.size ≤ t.size
    · cases hat : isAt t x k with
      | true =>
        have HF : Hid (findI t x = k) := findI_hit HN.out hle hat
        have q : ((t.extract k (k + x.size)).toList == x.toList) = true := hat
        clear hat
        go_wp2
        go_ret
        exact ⟨ret_int HF.out.symm, rfl⟩
      | false =>
        have HF : Hid (findTo t x (k + 1) = none) := findTo_miss HN.out (by rw [hat]; simp)
        have q : ((t.extract k (k + x.size)).toList == x.toList) = false := hat
        clear hat
        go_wp2
        go_round
        case rel => exact ⟨k + 1, by omega, by go_num, HF⟩
        case measure => simp [intOf]; omega
    · have HF : Hid (findI t x = -1) := findI_none HN.out (by omega) hk
      go_wp2
      go_ret
      exact ⟨ret_int HF.out.symm, rfl⟩

set_option maxRecDepth 10000 in
set_option maxHeartbeats 400000 in
theorem specNum_any (t : ByteArray) (w : World) :
    Calls Tryd.prog 80 #[.string t] w fun e w' => e = .returned (.int .i64 (numI t)) ∧ w' = w := by
  by_cases h1 : t.size < 1
  · go_enter Tryd.func80, Tryd.ntmps80
    go_wp2
    go_ret
    exact ⟨ret_int (numI_size (.inl h1)).symm, rfl⟩
  have q1 : decide ((t.size : Int) < 1) = false := by rw [decide_eq_false_iff_not]; omega
  by_cases h2 : 9 < t.size
  · go_enter Tryd.func80, Tryd.ntmps80
    go_wp2
    go_ret
    exact ⟨ret_int (numI_size (.inr h2)).symm, rfl⟩
  have q2 : decide ((9 : Int) < (t.size : Int)) = false := by rw [decide_eq_false_iff_not]; omega
  have hp : 0 < t.size := by omega
  by_cases h3 : 1 < t.size ∧ t[0].toNat = 48
  · obtain ⟨h4, h5⟩ := h3
    have q3 : ((t[0].toNat : Int) == 48) = true := by rw [beq_iff_eq]; omega
    have H5 : Hid (t[0].toNat = 48) := h5
    clear h5
    go_enter Tryd.func80, Tryd.ntmps80
    go_wp2
    go_ret
    exact ⟨ret_int (numI_first h4 H5.out).symm, rfl⟩
  have H3 : Hid (1 < t.size → ∀ h : 0 < t.size, ¬ t[0].toNat = 48) := fun h _ hc => h3 ⟨h, hc⟩
  have HB : Hid (∀ k ≤ 9, 10 ^ k ≤ 1000000000) := fun k hk => Nat.le_trans (Nat.pow_le_pow_right (by omega) hk) (by decide)
  by_cases h4 : 1 < t.size
  all_goals
    first
      | (have q3 : ((t[0].toNat : Int) == 48) = false := by rw [beq_eq_false_iff_ne]; intro hc; exact h3 ⟨h4, by omega⟩)
      | (have q3 : decide ((1 : Int) < (t.size : Int)) = false := by rw [decide_eq_false_iff_not]; omega)
    clear h3
    go_enter Tryd.func80, Tryd.ntmps80
    go_wp2
    go_loop [3, 4] (fun n i => ∃ k : Nat, k ≤ t.size ∧ i = .int .i64 k ∧ n = .int .i64 (numTo t k : Nat) ∧ Hid (∀ i (h : i < t.size), i < k → digC t[i].toNat = true) ∧ Hid (numTo t k < 10 ^ k)) (fun _ i => t.size - (intOf i).toNat)
    case atStart => exact ⟨0, Nat.zero_le _, rfl, rfl, fun i _ hi => absurd hi (by omega), (by decide : 0 < 10 ^ 0)⟩
    case round =>
      obtain ⟨k, hk, rfl, rfl, HR, HL⟩ := hrel
      by_cases hlt : k < t.size
      · by_cases d1 : t[k].toNat < 48
        · go_wp2
          go_ret
          exact ⟨ret_int (numI_at k hlt (digC_no (by omega))).symm, rfl⟩
        have b1 : decide ((t[k].toNat : Int) < 48) = false := by rw [decide_eq_false_iff_not]; omega
        by_cases d2 : 57 < t[k].toNat
        · go_wp2
          go_ret
          exact ⟨ret_int (numI_at k hlt (digC_no (by omega))).symm, rfl⟩
        have b2 : decide ((57 : Int) < (t[k].toNat : Int)) = false := by rw [decide_eq_false_iff_not]; omega
        have hn : numTo t k ≤ 1000000000 := Nat.le_trans (Nat.le_of_lt HL.out) (HB.out k (by omega))
        have HS : Hid (numTo t (k + 1) = 10 * numTo t k + (t[k].toNat - 48)) := numTo_succ hlt
        have HL2 : Hid (numTo t (k + 1) < 10 ^ (k + 1)) := by
          show _ < _
          have := HL.out
          rw [HS.out, Nat.pow_succ]; omega
        generalize numTo t k = v at *
        go_wp2
        go_round
        case rel => exact ⟨k + 1, by omega, by go_num, val_int (by rw [HS.out]; omega), all_succ HR.out hlt (digC_yes (by omega)), HL2⟩
        case measure => simp [intOf]; omega
      · obtain rfl : k = t.size := by omega
        have HF : Hid (numI t = numTo t t.size) := numI_yes (by omega) (by omega) H3.out (fun i h => HR.out i h h)
        go_wp2
        go_ret
        exact ⟨ret_int HF.out.symm, rfl⟩
end Go.Proofs.YthcpmbolnmlohaaDoor

/- A text's pieces between '; ', a piece cut at its first '='; the walks of the specification's l04Pieces and l04Pair. -/
namespace Go.Proofs.YthcpmbolnmlohaaDoor
open Go.RowKit

theorem find_in {t x : ByteArray} (h : 0 ≤ findI t x) : (findI t x).toNat + x.size ≤ t.size ∧ findI t x = ((findI t x).toNat : Int) := by
  refine ⟨?_, by omega⟩
  unfold findI findN at *
  cases hf : findTo t x (t.size + 1) with
  | some k =>
    have := (findTo_lt hf).2.1
    simpa using this
  | none => rw [hf] at h; simp at h
theorem findI_neg {t x : ByteArray} (h : ¬ 0 ≤ findI t x) : findI t x = -1 := by
  unfold findI findN at *
  cases hf : findTo t x (t.size + 1) with
  | some k => rw [hf] at h; simp at h
  | none => rfl
/-- '; ' -/
def semi : ByteArray := ⟨#[59, 32]⟩
/-- the pieces of a text between '; ' -/
def piecesL (t : ByteArray) : List ByteArray :=
  if h : 0 ≤ findI t semi then t.extract 0 (findI t semi).toNat :: piecesL (t.extract ((findI t semi).toNat + 2) t.size) else [t]
termination_by t.size
decreasing_by
  have := (find_in h).1
  have e : semi.size = 2 := rfl
  rw [e] at this
  rw [ByteArray.size_extract]; omega
theorem piecesL_more {t : ByteArray} {k : Nat} (h : findI t semi = k) : piecesL t = t.extract 0 k :: piecesL (t.extract (k + 2) t.size) := by
  rw [piecesL, dif_pos (by omega)]
  have e : (findI t semi).toNat = k := by omega
  rw [e]
theorem piecesL_last {t : ByteArray} (h : ¬ 0 ≤ findI t semi) : piecesL t = [t] := by rw [piecesL, dif_neg h]
theorem piecesL_len (t : ByteArray) : (piecesL t).length ≤ t.size + 1 := by
  generalize hn : t.size = n
  induction n using Nat.strongRecOn generalizing t with
  | _ n ih =>
    by_cases h : 0 ≤ findI t semi
    · obtain ⟨h1, h2⟩ := find_in h
      have e : semi.size = 2 := rfl
      rw [e] at h1
      have hz : (t.extract ((findI t semi).toNat + 2) t.size).size = t.size - ((findI t semi).toNat + 2) := by rw [ByteArray.size_extract]; omega
      rw [piecesL_more h2, List.length_cons]
      have := ih _ (by omega) (t.extract ((findI t semi).toNat + 2) t.size) hz
      omega
    · rw [piecesL_last h]; simp
theorem piecesL_small (t : ByteArray) : ∀ x ∈ piecesL t, x.size ≤ t.size := by
  generalize hn : t.size = n
  induction n using Nat.strongRecOn generalizing t with
  | _ n ih =>
    intro x hx
    by_cases h : 0 ≤ findI t semi
    · obtain ⟨h1, h2⟩ := find_in h
      have e : semi.size = 2 := rfl
      rw [e] at h1
      have hz : (t.extract ((findI t semi).toNat + 2) t.size).size = t.size - ((findI t semi).toNat + 2) := by rw [ByteArray.size_extract]; omega
      rw [piecesL_more h2, List.mem_cons] at hx
      rcases hx with hx | hx
      · rw [hx, ByteArray.size_extract]; omega
      · have := ih _ (by omega) (t.extract ((findI t semi).toNat + 2) t.size) hz x hx
        omega
    · rw [piecesL_last h, List.mem_singleton] at hx
      rw [hx]; omega
def szV : Value → Nat
  | .string s => s.size
  | _ => 0

set_option maxRecDepth 10000 in
set_option maxHeartbeats 2000000 in
theorem specPieces_any (t : ByteArray) (w : World) (ht : t.size ≤ 1048576) :
    Calls Tryd.prog 56 #[.string t] w fun e w' => ∃ v, e = .returned v ∧ w'.ownsRow w.heap.size 9 1 v (piecesL t).length (strCells (piecesL t)) ∧ Below w.heap.size w w' := by
  obtain ⟨i0, hi, hz0, hz1, hz2⟩ := info_parts infoStr
  have HL := piecesL_len t
  generalize hP : piecesL t = P at *
  go_enter Tryd.func56, Tryd.ntmps56
  go_wp2
  go_loopw [0, 3, 4] (fun x v _ wr => ∃ (u : ByteArray) (D : List ByteArray), x = .string u ∧ u.size ≤ t.size ∧ D.length + u.size ≤ t.size ∧ Hid (D ++ piecesL u = P) ∧ Hid (wr.ownsRow w.heap.size 9 1 v D.length (strCells D)) ∧ Hid (Below w.heap.size w wr)) (fun x _ _ _ => szV x)
  case atStart => exact ⟨t, [], rfl, Nat.le_refl _, by simp, by show _ = _; rw [← hP]; rfl, World.ownsRow_made (e := 9) (size := 1) w #[] 0 (Nat.le_refl _) (Nat.zero_le _) rfl, (Below.refl _ _).alloc (Nat.le_refl _) _⟩
  case round =>
    obtain ⟨u, D, rfl, hu, hDu, HP, HO, HB⟩ := hrel
    have KF : Hid (∀ W, Calls Tryd.prog 82 #[.string u, .int .i64 0, .string ⟨#[59, 32]⟩] W fun e w' => e = .returned (.int .i64 (findI u semi)) ∧ w' = W) := fun W => specFind_any u semi W (by omega) (by decide)
    have hbs := HB.out.size
    by_cases h : 0 ≤ findI u semi
    · obtain ⟨h1, h2⟩ := find_in h
      have e : semi.size = 2 := rfl
      rw [e] at h1
      obtain ⟨k, hk⟩ : ∃ k : Nat, findI u semi = k := ⟨_, h2⟩
      rw [hk] at KF h1
      have hkn : k + 2 ≤ u.size := by simpa using h1
      have HM : Hid (D ++ [u.extract 0 k] ++ piecesL (u.extract (k + 2) u.size) = P) := by show _ = _; rw [← HP.out, piecesL_more hk]; simp
      have hz : (u.extract (k + 2) u.size).size = u.size - (k + 2) := by rw [ByteArray.size_extract]; omega
      have q : decide ((k : Int) < 0) = false := by rw [decide_eq_false_iff_not]; omega
      have k0 : (0 : Int) ≤ k := by omega
      have k1 : (k : Int) ≤ u.size := by omega
      have k2 : (k : Int) + 2 ≤ u.size := by omega
      clear h h1 h2 hk
      go_wp2_with (first | (go_at_call 82; refine (KF.out _).mono ?_; rintro e w1 ⟨rfl, rfl⟩) | (at_builtin; go_must (refine wpList_append_own _ rfl _ _ 52 rfl w.heap.size 9 i0 (.string ⟨#[]⟩) 1 16 Tryd.underlying52 hi hz0 hz1 hz2 rfl (by decide) _ _ _ rfl (HO.out.alloc _) ⟨w1.heap.size, 0, none⟩ 1 1 [.string (u.extract 0 k)] rfl rfl (cell_one_new _ _ _) (by intro u hu; simp at hu; subst hu; rfl) (by unfold maxLen; omega) (by omega) (by simp; omega) ?_)))
      intro v2 w2 ho2 hg2 _
      rw [strCells_snoc] at ho2
      have O2 : Hid (w2.ownsRow w.heap.size 9 1 v2 (D ++ [u.extract 0 k]).length (strCells (D ++ [u.extract 0 k]))) := by show World.ownsRow _ _ _ _ _ _ _; simpa using ho2
      have B2 : Hid (Below w.heap.size w w2) := (HB.out.alloc hbs _).grown hg2 (by simp; omega) (fun j hj => (HO.out.lt j hj).1)
      clear ho2 hg2
      go_wp2
      go_roundw
      case rel => exact ⟨u.extract (k + 2) u.size, D ++ [u.extract 0 k], by first | rfl | go_num, by omega, by simp; omega, HM, O2, B2⟩
      case measure => first | (simp [szV]; omega) | (show (u.extract (k + 2) u.size).size < u.size; omega)
    · have HM : Hid (D ++ [u] = P) := by show _ = _; rw [← HP.out, piecesL_last h]
      rw [findI_neg h] at KF
      go_wp2_with (first | (go_at_call 82; refine (KF.out _).mono ?_; rintro e w1 ⟨rfl, rfl⟩) | (at_builtin; go_must (refine wpList_append_own _ rfl _ _ 52 rfl w.heap.size 9 i0 (.string ⟨#[]⟩) 1 16 Tryd.underlying52 hi hz0 hz1 hz2 rfl (by decide) _ _ _ rfl (HO.out.alloc _) ⟨w1.heap.size, 0, none⟩ 1 1 [.string u] rfl rfl (cell_one_new _ _ _) (by intro u hu; simp at hu; subst hu; rfl) (by unfold maxLen; omega) (by omega) (by simp; omega) ?_)))
      intro v2 w2 ho2 hg2 _
      rw [strCells_snoc] at ho2
      have O2 : Hid (w2.ownsRow w.heap.size 9 1 v2 P.length (strCells P)) := by show World.ownsRow _ _ _ _ _ _ _; rw [← HM.out]; simpa using ho2
      have B2 : Hid (Below w.heap.size w w2) := (HB.out.alloc hbs _).grown hg2 (by simp; omega) (fun j hj => (HO.out.lt j hj).1)
      clear ho2 hg2
      go_wp2
      go_ret
      exact ⟨_, rfl, O2.out, B2.out⟩
end Go.Proofs.YthcpmbolnmlohaaDoor

/- A piece cut at its first '='; the walk of the specification's l04Pair. -/
namespace Go.Proofs.YthcpmbolnmlohaaDoor
open Go.RowKit

/-- '=' -/
def equ : ByteArray := ⟨#[61]⟩
/-- a piece's name and value -/
def pairP (t : ByteArray) : ByteArray × ByteArray := if 0 ≤ findI t equ then (t.extract 0 (findI t equ).toNat, t.extract ((findI t equ).toNat + 1) t.size) else (t, ⟨#[]⟩)
theorem pairP_yes {t : ByteArray} {k : Nat} (h : findI t equ = k) : pairP t = (t.extract 0 k, t.extract (k + 1) t.size) := by
  have e : (findI t equ).toNat = k := by omega
  rw [pairP, if_pos (by omega), e]
theorem pairP_no {t : ByteArray} (h : ¬ 0 ≤ findI t equ) : pairP t = (t, ⟨#[]⟩) := by rw [pairP, if_neg h]
theorem pairP_size (t : ByteArray) : (pairP t).1.size ≤ t.size ∧ (pairP t).2.size ≤ t.size := by
  unfold pairP
  split
  · exact ⟨by rw [ByteArray.size_extract]; omega, by rw [ByteArray.size_extract]; omega⟩
  · exact ⟨Nat.le_refl _, Nat.zero_le _⟩

set_option maxRecDepth 10000 in
set_option maxHeartbeats 2000000 in
theorem specPair_any (t : ByteArray) (w : World) (ht : t.size ≤ 1048576) :
    Calls Tryd.prog 57 #[.string t] w fun e w' => e = .returned (.agg #[.string (pairP t).1, .string (pairP t).2]) ∧ Below w.heap.size w w' := by
  have KF : Hid (∀ W, Calls Tryd.prog 82 #[.string t, .int .i64 0, .string ⟨#[61]⟩] W fun e w' => e = .returned (.int .i64 (findI t equ)) ∧ w' = W) := fun W => specFind_any t equ W ht (by decide)
  have B0 : Hid (∀ o, Below w.heap.size w (w.alloc o)) := fun o => (Below.refl _ _).alloc (Nat.le_refl _) _
  have c0 : ∀ ty, (w.alloc (.cells #[.string ⟨#[]⟩, .string ⟨#[]⟩] ty)).cell? ⟨w.heap.size, 0, none⟩ = some (.string ⟨#[]⟩) := fun ty => by simp
  have c1 : ∀ ty, (w.alloc (.cells #[.string ⟨#[]⟩, .string ⟨#[]⟩] ty)).cell? ⟨w.heap.size, 1, none⟩ = some (.string ⟨#[]⟩) := fun ty => by simp
  by_cases h : 0 ≤ findI t equ
  · obtain ⟨h1, h2⟩ := find_in h
    have e : equ.size = 1 := rfl
    rw [e] at h1
    obtain ⟨k, hk⟩ : ∃ k : Nat, findI t equ = k := ⟨_, h2⟩
    have HP : Hid (pairP t = (t.extract 0 k, t.extract (k + 1) t.size)) := pairP_yes hk
    rw [hk] at KF h1
    have hkn : k + 1 ≤ t.size := by simpa using h1
    generalize pairP t = pp at *
    have q : decide ((k : Int) < 0) = false := by rw [decide_eq_false_iff_not]; omega
    have k0 : (0 : Int) ≤ k := by omega
    have k1 : (k : Int) ≤ t.size := by omega
    have k2 : (k : Int) + 1 ≤ t.size := by omega
    have k3 : (0 : Int) ≤ (k : Int) + 1 := by omega
    have hw : IntKind.i64.wrap ((k : Int) + 1) = (k : Int) + 1 := by rw [IntKind.wrap_i64]; omega
    clear h h1 h2 hk
    go_enter Tryd.func57, Tryd.ntmps57
    go_wp2_with (go_at_call 82; refine (KF.out _).mono ?_; rintro e w1 ⟨rfl, rfl⟩)
    go_region
    go_wp2
    exact bodyPost_ret (v := .agg #[.string (t.extract 0 k), .string (t.extract (k + 1) t.size)]) (by simp [results, Tryd.results57, go_sem]) rfl ⟨by rw [HP.out], (B0.out _).drew⟩
  · have HP : Hid (pairP t = (t, ⟨#[]⟩)) := pairP_no h
    rw [findI_neg h] at KF
    generalize pairP t = pp at *
    go_enter Tryd.func57, Tryd.ntmps57
    go_wp2_with (go_at_call 82; refine (KF.out _).mono ?_; rintro e w1 ⟨rfl, rfl⟩)
    exact bodyPost_ret (v := .agg #[.string t, .string ⟨#[]⟩]) (by simp [results, Tryd.results57, go_sem]) rfl ⟨by rw [HP.out], B0.out _⟩
end Go.Proofs.YthcpmbolnmlohaaDoor

/- The walk of the specification's l04Read. -/
namespace Go.Proofs.YthcpmbolnmlohaaDoor
open Go.RowKit

/-- a SetCookie's eight fields -/
structure SC where
  na : ByteArray
  va : ByteArray
  dm : ByteArray
  pa : ByteArray
  ag : Int
  se : Bool
  mo : Int
  pt : Bool
def tDomain : List UInt8 := [68, 111, 109, 97, 105, 110]
def tPath : List UInt8 := [80, 97, 116, 104]
def tAge : List UInt8 := [77, 97, 120, 45, 65, 103, 101]
def tSecure : List UInt8 := [83, 101, 99, 117, 114, 101]
def tParted : List UInt8 := [80, 97, 114, 116, 105, 116, 105, 111, 110, 101, 100]
def tSame : List UInt8 := [83, 97, 109, 101, 83, 105, 116, 101]
def tStrict : List UInt8 := [83, 116, 114, 105, 99, 116]
/-- what a piece turns -/
def scPut (c : SC) (x : ByteArray) : SC :=
  if ((pairP x).1.toList == tDomain) = true then { c with dm := (pairP x).2 }
  else if ((pairP x).1.toList == tPath) = true then { c with pa := (pairP x).2 }
  else if ((pairP x).1.toList == tAge) = true then { c with ag := numI (pairP x).2 }
  else if ((pairP x).1.toList == tSecure) = true then { c with se := true }
  else if ((pairP x).1.toList == tParted) = true then { c with pt := true }
  else if ((pairP x).1.toList == tSame) = true then { c with mo := if ((pairP x).2.toList == tStrict) = true then 1 else 2 }
  else c
/-- the pieces from the second one to the i-th turn one after another -/
def scTo (L : List ByteArray) : Nat → SC
  | 0 => ⟨(pairP (atL L 0)).1, (pairP (atL L 0)).2, ⟨#[]⟩, ⟨#[]⟩, -1, false, 0, false⟩
  | i + 1 => scPut (scTo L i) (atL L (i + 1))
def scRead (t : ByteArray) : SC := scTo (piecesL t) ((piecesL t).length - 1)
def scV (c : SC) : Value := setV c.na c.va c.dm c.pa c.ag c.se c.mo c.pt
/-- eight cells in block b, none of them frozen -/
def U8 (w : World) (b : Nat) (v0 v1 v2 v3 v4 v5 v6 v7 : Value) : Prop := b < w.heap.size ∧ (w.cell? ⟨b, 0, none⟩ = some v0 ∧ w.cell? ⟨b, 1, none⟩ = some v1 ∧ w.cell? ⟨b, 2, none⟩ = some v2 ∧ w.cell? ⟨b, 3, none⟩ = some v3 ∧ w.cell? ⟨b, 4, none⟩ = some v4 ∧ w.cell? ⟨b, 5, none⟩ = some v5 ∧ w.cell? ⟨b, 6, none⟩ = some v6 ∧ w.cell? ⟨b, 7, none⟩ = some v7) ∧ ∀ o, w.frozen? ⟨b, o, none⟩ = false
theorem U8.below {w w' : World} {b : Nat} {v0 v1 v2 v3 v4 v5 v6 v7 : Value} (h : U8 w b v0 v1 v2 v3 v4 v5 v6 v7) (hb : Below w.heap.size w w') : U8 w' b v0 v1 v2 v3 v4 v5 v6 v7 := by
  obtain ⟨hz, ⟨c0, c1, c2, c3, c4, c5, c6, c7⟩, hf⟩ := h
  exact ⟨Nat.lt_of_lt_of_le hz hb.size, ⟨by rw [(bcell hb).1 _ _ hz]; exact c0, by rw [(bcell hb).1 _ _ hz]; exact c1, by rw [(bcell hb).1 _ _ hz]; exact c2, by rw [(bcell hb).1 _ _ hz]; exact c3, by rw [(bcell hb).1 _ _ hz]; exact c4, by rw [(bcell hb).1 _ _ hz]; exact c5, by rw [(bcell hb).1 _ _ hz]; exact c6, by rw [(bcell hb).1 _ _ hz]; exact c7⟩, fun o => by rw [(bcell hb).2 _ _ hz]; exact hf o⟩
theorem U8.made (w : World) (v0 v1 v2 v3 v4 v5 v6 v7 : Value) (t : TypeId) : U8 (w.alloc (.cells #[v0, v1, v2, v3, v4, v5, v6, v7] t)) w.heap.size v0 v1 v2 v3 v4 v5 v6 v7 :=
  ⟨by simp, ⟨by simp, by simp, by simp, by simp, by simp, by simp, by simp, by simp⟩, by simp⟩
theorem U8.far {w : World} {b : Nat} {v0 v1 v2 v3 v4 v5 v6 v7 : Value} {p : Addr} (h : U8 w b v0 v1 v2 v3 v4 v5 v6 v7) (hp : p.block ≠ b) (v : Value) : U8 (w.setCell p v) b v0 v1 v2 v3 v4 v5 v6 v7 := by
  obtain ⟨hb, ⟨c0, c1, c2, c3, c4, c5, c6, c7⟩, hf⟩ := h
  refine ⟨by simpa [World.setCell] using hb, ⟨?_, ?_, ?_, ?_, ?_, ?_, ?_, ?_⟩, ?_⟩
  · rw [World.cell?_setCell_far _ _ _ _ hp]; exact c0
  · rw [World.cell?_setCell_far _ _ _ _ hp]; exact c1
  · rw [World.cell?_setCell_far _ _ _ _ hp]; exact c2
  · rw [World.cell?_setCell_far _ _ _ _ hp]; exact c3
  · rw [World.cell?_setCell_far _ _ _ _ hp]; exact c4
  · rw [World.cell?_setCell_far _ _ _ _ hp]; exact c5
  · rw [World.cell?_setCell_far _ _ _ _ hp]; exact c6
  · rw [World.cell?_setCell_far _ _ _ _ hp]; exact c7
  · intro o; rw [World.frozen?_setCell]; exact hf o
theorem U8.set0 {w : World} {b : Nat} {v0 v1 v2 v3 v4 v5 v6 v7 : Value} (h : U8 w b v0 v1 v2 v3 v4 v5 v6 v7) (v : Value) : U8 (w.setCell ⟨b, 0, none⟩ v) b v v1 v2 v3 v4 v5 v6 v7 := by
  obtain ⟨hb, ⟨c0, c1, c2, c3, c4, c5, c6, c7⟩, hf⟩ := h
  refine ⟨by simpa [World.setCell] using hb, ⟨?_, ?_, ?_, ?_, ?_, ?_, ?_, ?_⟩, ?_⟩
  · exact World.cell?_setCell_same _ _ _ c0
  · exact (World.cell?_setCell_other _ _ _ _ (by simp)).trans c1
  · exact (World.cell?_setCell_other _ _ _ _ (by simp)).trans c2
  · exact (World.cell?_setCell_other _ _ _ _ (by simp)).trans c3
  · exact (World.cell?_setCell_other _ _ _ _ (by simp)).trans c4
  · exact (World.cell?_setCell_other _ _ _ _ (by simp)).trans c5
  · exact (World.cell?_setCell_other _ _ _ _ (by simp)).trans c6
  · exact (World.cell?_setCell_other _ _ _ _ (by simp)).trans c7
  · intro o; rw [World.frozen?_setCell]; exact hf o
theorem U8.set1 {w : World} {b : Nat} {v0 v1 v2 v3 v4 v5 v6 v7 : Value} (h : U8 w b v0 v1 v2 v3 v4 v5 v6 v7) (v : Value) : U8 (w.setCell ⟨b, 1, none⟩ v) b v0 v v2 v3 v4 v5 v6 v7 := by
  obtain ⟨hb, ⟨c0, c1, c2, c3, c4, c5, c6, c7⟩, hf⟩ := h
  refine ⟨by simpa [World.setCell] using hb, ⟨?_, ?_, ?_, ?_, ?_, ?_, ?_, ?_⟩, ?_⟩
  · exact (World.cell?_setCell_other _ _ _ _ (by simp)).trans c0
  · exact World.cell?_setCell_same _ _ _ c1
  · exact (World.cell?_setCell_other _ _ _ _ (by simp)).trans c2
  · exact (World.cell?_setCell_other _ _ _ _ (by simp)).trans c3
  · exact (World.cell?_setCell_other _ _ _ _ (by simp)).trans c4
  · exact (World.cell?_setCell_other _ _ _ _ (by simp)).trans c5
  · exact (World.cell?_setCell_other _ _ _ _ (by simp)).trans c6
  · exact (World.cell?_setCell_other _ _ _ _ (by simp)).trans c7
  · intro o; rw [World.frozen?_setCell]; exact hf o
theorem U8.set2 {w : World} {b : Nat} {v0 v1 v2 v3 v4 v5 v6 v7 : Value} (h : U8 w b v0 v1 v2 v3 v4 v5 v6 v7) (v : Value) : U8 (w.setCell ⟨b, 2, none⟩ v) b v0 v1 v v3 v4 v5 v6 v7 := by
  obtain ⟨hb, ⟨c0, c1, c2, c3, c4, c5, c6, c7⟩, hf⟩ := h
  refine ⟨by simpa [World.setCell] using hb, ⟨?_, ?_, ?_, ?_, ?_, ?_, ?_, ?_⟩, ?_⟩
  · exact (World.cell?_setCell_other _ _ _ _ (by simp)).trans c0
  · exact (World.cell?_setCell_other _ _ _ _ (by simp)).trans c1
  · exact World.cell?_setCell_same _ _ _ c2
  · exact (World.cell?_setCell_other _ _ _ _ (by simp)).trans c3
  · exact (World.cell?_setCell_other _ _ _ _ (by simp)).trans c4
  · exact (World.cell?_setCell_other _ _ _ _ (by simp)).trans c5
  · exact (World.cell?_setCell_other _ _ _ _ (by simp)).trans c6
  · exact (World.cell?_setCell_other _ _ _ _ (by simp)).trans c7
  · intro o; rw [World.frozen?_setCell]; exact hf o
theorem U8.set3 {w : World} {b : Nat} {v0 v1 v2 v3 v4 v5 v6 v7 : Value} (h : U8 w b v0 v1 v2 v3 v4 v5 v6 v7) (v : Value) : U8 (w.setCell ⟨b, 3, none⟩ v) b v0 v1 v2 v v4 v5 v6 v7 := by
  obtain ⟨hb, ⟨c0, c1, c2, c3, c4, c5, c6, c7⟩, hf⟩ := h
  refine ⟨by simpa [World.setCell] using hb, ⟨?_, ?_, ?_, ?_, ?_, ?_, ?_, ?_⟩, ?_⟩
  · exact (World.cell?_setCell_other _ _ _ _ (by simp)).trans c0
  · exact (World.cell?_setCell_other _ _ _ _ (by simp)).trans c1
  · exact (World.cell?_setCell_other _ _ _ _ (by simp)).trans c2
  · exact World.cell?_setCell_same _ _ _ c3
  · exact (World.cell?_setCell_other _ _ _ _ (by simp)).trans c4
  · exact (World.cell?_setCell_other _ _ _ _ (by simp)).trans c5
  · exact (World.cell?_setCell_other _ _ _ _ (by simp)).trans c6
  · exact (World.cell?_setCell_other _ _ _ _ (by simp)).trans c7
  · intro o; rw [World.frozen?_setCell]; exact hf o
theorem U8.set4 {w : World} {b : Nat} {v0 v1 v2 v3 v4 v5 v6 v7 : Value} (h : U8 w b v0 v1 v2 v3 v4 v5 v6 v7) (v : Value) : U8 (w.setCell ⟨b, 4, none⟩ v) b v0 v1 v2 v3 v v5 v6 v7 := by
  obtain ⟨hb, ⟨c0, c1, c2, c3, c4, c5, c6, c7⟩, hf⟩ := h
  refine ⟨by simpa [World.setCell] using hb, ⟨?_, ?_, ?_, ?_, ?_, ?_, ?_, ?_⟩, ?_⟩
  · exact (World.cell?_setCell_other _ _ _ _ (by simp)).trans c0
  · exact (World.cell?_setCell_other _ _ _ _ (by simp)).trans c1
  · exact (World.cell?_setCell_other _ _ _ _ (by simp)).trans c2
  · exact (World.cell?_setCell_other _ _ _ _ (by simp)).trans c3
  · exact World.cell?_setCell_same _ _ _ c4
  · exact (World.cell?_setCell_other _ _ _ _ (by simp)).trans c5
  · exact (World.cell?_setCell_other _ _ _ _ (by simp)).trans c6
  · exact (World.cell?_setCell_other _ _ _ _ (by simp)).trans c7
  · intro o; rw [World.frozen?_setCell]; exact hf o
theorem U8.set5 {w : World} {b : Nat} {v0 v1 v2 v3 v4 v5 v6 v7 : Value} (h : U8 w b v0 v1 v2 v3 v4 v5 v6 v7) (v : Value) : U8 (w.setCell ⟨b, 5, none⟩ v) b v0 v1 v2 v3 v4 v v6 v7 := by
  obtain ⟨hb, ⟨c0, c1, c2, c3, c4, c5, c6, c7⟩, hf⟩ := h
  refine ⟨by simpa [World.setCell] using hb, ⟨?_, ?_, ?_, ?_, ?_, ?_, ?_, ?_⟩, ?_⟩
  · exact (World.cell?_setCell_other _ _ _ _ (by simp)).trans c0
  · exact (World.cell?_setCell_other _ _ _ _ (by simp)).trans c1
  · exact (World.cell?_setCell_other _ _ _ _ (by simp)).trans c2
  · exact (World.cell?_setCell_other _ _ _ _ (by simp)).trans c3
  · exact (World.cell?_setCell_other _ _ _ _ (by simp)).trans c4
  · exact World.cell?_setCell_same _ _ _ c5
  · exact (World.cell?_setCell_other _ _ _ _ (by simp)).trans c6
  · exact (World.cell?_setCell_other _ _ _ _ (by simp)).trans c7
  · intro o; rw [World.frozen?_setCell]; exact hf o
theorem U8.set6 {w : World} {b : Nat} {v0 v1 v2 v3 v4 v5 v6 v7 : Value} (h : U8 w b v0 v1 v2 v3 v4 v5 v6 v7) (v : Value) : U8 (w.setCell ⟨b, 6, none⟩ v) b v0 v1 v2 v3 v4 v5 v v7 := by
  obtain ⟨hb, ⟨c0, c1, c2, c3, c4, c5, c6, c7⟩, hf⟩ := h
  refine ⟨by simpa [World.setCell] using hb, ⟨?_, ?_, ?_, ?_, ?_, ?_, ?_, ?_⟩, ?_⟩
  · exact (World.cell?_setCell_other _ _ _ _ (by simp)).trans c0
  · exact (World.cell?_setCell_other _ _ _ _ (by simp)).trans c1
  · exact (World.cell?_setCell_other _ _ _ _ (by simp)).trans c2
  · exact (World.cell?_setCell_other _ _ _ _ (by simp)).trans c3
  · exact (World.cell?_setCell_other _ _ _ _ (by simp)).trans c4
  · exact (World.cell?_setCell_other _ _ _ _ (by simp)).trans c5
  · exact World.cell?_setCell_same _ _ _ c6
  · exact (World.cell?_setCell_other _ _ _ _ (by simp)).trans c7
  · intro o; rw [World.frozen?_setCell]; exact hf o
theorem U8.set7 {w : World} {b : Nat} {v0 v1 v2 v3 v4 v5 v6 v7 : Value} (h : U8 w b v0 v1 v2 v3 v4 v5 v6 v7) (v : Value) : U8 (w.setCell ⟨b, 7, none⟩ v) b v0 v1 v2 v3 v4 v5 v6 v := by
  obtain ⟨hb, ⟨c0, c1, c2, c3, c4, c5, c6, c7⟩, hf⟩ := h
  refine ⟨by simpa [World.setCell] using hb, ⟨?_, ?_, ?_, ?_, ?_, ?_, ?_, ?_⟩, ?_⟩
  · exact (World.cell?_setCell_other _ _ _ _ (by simp)).trans c0
  · exact (World.cell?_setCell_other _ _ _ _ (by simp)).trans c1
  · exact (World.cell?_setCell_other _ _ _ _ (by simp)).trans c2
  · exact (World.cell?_setCell_other _ _ _ _ (by simp)).trans c3
  · exact (World.cell?_setCell_other _ _ _ _ (by simp)).trans c4
  · exact (World.cell?_setCell_other _ _ _ _ (by simp)).trans c5
  · exact (World.cell?_setCell_other _ _ _ _ (by simp)).trans c6
  · exact World.cell?_setCell_same _ _ _ c7
  · intro o; rw [World.frozen?_setCell]; exact hf o
def UC (w : World) (b : Nat) (c : SC) : Prop := U8 w b (.string c.na) (.string c.va) (.string c.dm) (.string c.pa) (.int .i64 c.ag) (.bool c.se) (.int .i64 c.mo) (.bool c.pt)
theorem UC.below {w w' : World} {b : Nat} {c : SC} (h : UC w b c) (hb : Below w.heap.size w w') : UC w' b c := U8.below h hb
set_option maxRecDepth 10000 in
set_option maxHeartbeats 8000000 in
theorem specSetRd_any (t : ByteArray) (w : World) (ht : t.size ≤ 8000) :
    Calls Tryd.prog 53 #[.string t] w fun e w' => e = .returned (scV (scRead t)) ∧ Below w.heap.size w w' := by
  have KP : Hid (∀ W, Calls Tryd.prog 56 #[.string t] W fun e w' => ∃ v, e = .returned v ∧ w'.ownsRow W.heap.size 9 1 v (piecesL t).length (strCells (piecesL t)) ∧ Below W.heap.size W w') := fun W => specPieces_any t W (by omega)
  have hlen := piecesL_len t
  have hsm := piecesL_small t
  have hpos : 0 < (piecesL t).length := by
    by_cases h : 0 ≤ findI t semi
    · rw [piecesL_more (find_in h).2]; simp
    · rw [piecesL_last h]; simp
  have HSM : Hid (∀ i, i < (piecesL t).length → (atL (piecesL t) i).size ≤ 8000) := fun i hi => by
    have e : atL (piecesL t) i = (piecesL t)[i] := by simp [atL, hi]
    rw [e]; have := hsm _ (List.getElem_mem hi); omega
  have HE : Hid (scRead t = scTo (piecesL t) ((piecesL t).length - 1)) := rfl
  clear hsm
  generalize scRead t = RR at *
  generalize piecesL t = L at *
  have hL : L.length ≤ 8001 := by omega
  clear hlen
  go_enter Tryd.func53, Tryd.ntmps53
  go_wp2_with fail
  refine (KP.out _).mono ?_
  rintro e w1 ⟨vL, rfl, ho, hb1⟩
  have RZ1 : Hid (U8 w1 w.heap.size (.string ⟨#[]⟩) (.string ⟨#[]⟩) (.string ⟨#[]⟩) (.string ⟨#[]⟩) (.int .i64 0) (.bool false) (.int .i64 0) (.bool false)) := (U8.made w (.string ⟨#[]⟩) (.string ⟨#[]⟩) (.string ⟨#[]⟩) (.string ⟨#[]⟩) (.int .i64 0) (.bool false) (.int .i64 0) (.bool false) 32).below hb1
  have B1 : Hid (Below w.heap.size w w1) := ((Below.refl _ _).alloc (Nat.le_refl _) _).trans (hb1.mono (by simp))
  have SL1 : Hid (SliceS w1 0 vL L.length (atL L)) := by
    obtain ⟨p, cap, e, h⟩ := slice_of_own ho
    exact (⟨p, cap, e, fun hn => by obtain ⟨g, e, _, r⟩ := h hn; exact ⟨g, e, Nat.zero_le _, r⟩⟩ : SliceS w1 0 vL L.length (atL L))
  clear ho hb1 KP
  obtain ⟨pL, cL, rfl, hg⟩ := SL1.out
  obtain ⟨g, rfl, -, hgw, hc⟩ := hg hpos
  have hc0 := (hc 0 hpos).1
  have HC : Hid (∀ j, j < L.length → w1.cell? ⟨g, j, none⟩ = some (.string (atL L j))) := fun j hj => (hc j hj).1
  have lp : (0 : Int) < (L.length : Int) := by omega
  have KQ : Hid (∀ (j : Nat) (W : World), j < L.length → Calls Tryd.prog 57 #[.string (atL L j)] W fun e w' => e = .returned (.agg #[.string (pairP (atL L j)).1, .string (pairP (atL L j)).2]) ∧ Below W.heap.size W w') := fun j W hj => specPair_any (atL L j) W (by have := HSM.out j hj; omega)
  clear hg hc SL1
  have HT0 : Hid (scTo L 0 = ⟨(pairP (atL L 0)).1, (pairP (atL L 0)).2, ⟨#[]⟩, ⟨#[]⟩, -1, false, 0, false⟩) := rfl
  go_wp2_with fail
  refine (KQ.out 0 _ hpos).mono ?_
  rintro e w2 ⟨rfl, hb2⟩
  have RZ2 : Hid (U8 w2 w.heap.size (.string ⟨#[]⟩) (.string ⟨#[]⟩) (.string ⟨#[]⟩) (.string ⟨#[]⟩) (.int .i64 0) (.bool false) (.int .i64 0) (.bool false)) := RZ1.out.below hb2
  have B2 : Hid (Below w.heap.size w w2) := B1.out.trans (hb2.mono B1.out.size)
  have HC2 : Hid (∀ j, j < L.length → w2.cell? ⟨g, j, none⟩ = some (.string (atL L j))) := fun j hj => by rw [(bcell hb2).1 _ _ hgw]; exact HC.out j hj
  have hgw2 : g < w2.heap.size := Nat.lt_of_lt_of_le hgw hb2.size
  clear hb2 HC RZ1 B1 hc0
  generalize (pairP (atL L 0)).1 = n0 at *
  generalize (pairP (atL L 0)).2 = v0 at *
  have z0 : w.heap.size < w2.heap.size := RZ2.out.1
  go_wp2
  have UC0 : Hid (UC ((w2.alloc (.cells #[.string n0, .string v0] 64)).alloc (.cells #[.string n0, .string v0, .string ⟨#[]⟩, .string ⟨#[]⟩, .int .i64 (-1), .bool false, .int .i64 0, .bool false] 32)) (w2.heap.size + 1) (scTo L 0)) := by
    show UC _ _ _
    rw [HT0.out]
    have h := U8.made (w2.alloc (.cells #[.string n0, .string v0] 64)) (.string n0) (.string v0) (.string ⟨#[]⟩) (.string ⟨#[]⟩) (.int .i64 (-1)) (.bool false) (.int .i64 0) (.bool false) 32
    have e : (w2.alloc (.cells #[.string n0, .string v0] 64)).heap.size = w2.heap.size + 1 := by simp
    rw [e] at h
    exact h
  have BB : Hid (∀ o o', Below w2.heap.size w2 ((w2.alloc o).alloc o')) := fun o o' => ((Below.refl _ _).alloc (Nat.le_refl _) _).alloc (by simp) _
  have RZ3 : Hid (U8 ((w2.alloc (.cells #[.string n0, .string v0] 64)).alloc (.cells #[.string n0, .string v0, .string ⟨#[]⟩, .string ⟨#[]⟩, .int .i64 (-1), .bool false, .int .i64 0, .bool false] 32)) w.heap.size (.string ⟨#[]⟩) (.string ⟨#[]⟩) (.string ⟨#[]⟩) (.string ⟨#[]⟩) (.int .i64 0) (.bool false) (.int .i64 0) (.bool false)) := RZ2.out.below (BB.out _ _)
  have HC3 : Hid (∀ j, j < L.length → ((w2.alloc (.cells #[.string n0, .string v0] 64)).alloc (.cells #[.string n0, .string v0, .string ⟨#[]⟩, .string ⟨#[]⟩, .int .i64 (-1), .bool false, .int .i64 0, .bool false] 32)).cell? ⟨g, j, none⟩ = some (.string (atL L j))) := fun j hj => by rw [(bcell (BB.out _ _)).1 _ _ hgw2]; exact HC2.out j hj
  have B3 : Hid (Below w.heap.size w ((w2.alloc (.cells #[.string n0, .string v0] 64)).alloc (.cells #[.string n0, .string v0, .string ⟨#[]⟩, .string ⟨#[]⟩, .int .i64 (-1), .bool false, .int .i64 0, .bool false] 32))) := B2.out.trans ((BB.out _ _).mono B2.out.size)
  have z3 : w2.heap.size + 2 ≤ ((w2.alloc (.cells #[.string n0, .string v0] 64)).alloc (.cells #[.string n0, .string v0, .string ⟨#[]⟩, .string ⟨#[]⟩, .int .i64 (-1), .bool false, .int .i64 0, .bool false] 32)).heap.size := by simp
  clear RZ2 HC2 B2 BB HT0
  generalize ((w2.alloc (.cells #[.string n0, .string v0] 64)).alloc (.cells #[.string n0, .string v0, .string ⟨#[]⟩, .string ⟨#[]⟩, .int .i64 (-1), .bool false, .int .i64 0, .bool false] 32)) = ws at *
  go_loopw [6, 7] (fun i _ wr => ∃ k : Nat, k + 1 ≤ L.length ∧ i = .int .i64 ((k : Int) + 1) ∧ w2.heap.size + 2 ≤ wr.heap.size ∧ Hid (UC wr (w2.heap.size + 1) (scTo L k)) ∧ Hid (∀ j, j < L.length → wr.cell? ⟨g, j, none⟩ = some (.string (atL L j))) ∧ Hid (U8 wr w.heap.size (.string ⟨#[]⟩) (.string ⟨#[]⟩) (.string ⟨#[]⟩) (.string ⟨#[]⟩) (.int .i64 0) (.bool false) (.int .i64 0) (.bool false)) ∧ Hid (Below w.heap.size w wr)) (fun i _ _ => L.length - (intOf i).toNat)
  case atStart => exact ⟨0, by omega, rfl, z3, UC0, HC3, RZ3, B3⟩
  case round =>
    obtain ⟨k, hk, rfl, hz, HU, HCr, HZ, HB⟩ := hrel
    by_cases hlt : k + 1 < L.length
    · have hck := HCr.out (k + 1) hlt
      have k0 : (0 : Int) ≤ (k : Int) + 1 := by omega
      have k1 : (k : Int) + 1 < L.length := by omega
      have KQ1 : Hid (Calls Tryd.prog 57 #[.string (atL L (k + 1))] wr fun e w' => e = .returned (.agg #[.string (pairP (atL L (k + 1))).1, .string (pairP (atL L (k + 1))).2]) ∧ Below wr.heap.size wr w') := KQ.out (k + 1) wr hlt
      have KN : Hid (∀ W, Calls Tryd.prog 80 #[.string (pairP (atL L (k + 1))).2] W fun e w' => e = .returned (.int .i64 (numI (pairP (atL L (k + 1))).2)) ∧ w' = W) := fun W => specNum_any _ W
      have HN : Hid (scTo L (k + 1) = scPut (scTo L k) (atL L (k + 1))) := rfl
      unfold scPut at HN
      generalize pairP (atL L (k + 1)) = pp at *
      obtain ⟨n1, v1⟩ := pp
      have HN1 : Hid (scTo L (k + 1) = if (n1.toList == tDomain) = true then { scTo L k with dm := v1 } else if (n1.toList == tPath) = true then { scTo L k with pa := v1 } else if (n1.toList == tAge) = true then { scTo L k with ag := numI v1 } else if (n1.toList == tSecure) = true then { scTo L k with se := true } else if (n1.toList == tParted) = true then { scTo L k with pt := true } else if (n1.toList == tSame) = true then { scTo L k with mo := if (v1.toList == tStrict) = true then 1 else 2 } else scTo L k) := HN.out
      have KN1 : Hid (∀ W, Calls Tryd.prog 80 #[.string v1] W fun e w' => e = .returned (.int .i64 (numI v1)) ∧ w' = W) := KN.out
      have KQ2 : Hid (Calls Tryd.prog 57 #[.string (atL L (k + 1))] wr fun e w' => e = .returned (.agg #[.string n1, .string v1]) ∧ Below wr.heap.size wr w') := KQ1.out
      clear HN KN KQ1
      generalize scTo L k = c at *
      generalize numI v1 = nv at *
      generalize atL L (k + 1) = x at *
      go_wp2_with fail
      refine KQ2.out.mono ?_
      rintro e w3 ⟨rfl, hb3⟩
      have hg3 : g < wr.heap.size := by omega
      have BA : Hid (∀ o, Below wr.heap.size wr (w3.alloc o)) := fun o => hb3.alloc hb3.size _
      have z3' : wr.heap.size ≤ w3.heap.size := hb3.size
      have U3 : Hid (UC w3 (w2.heap.size + 1) c) := HU.out.below hb3
      have Z3 : Hid (U8 w3 w.heap.size (.string ⟨#[]⟩) (.string ⟨#[]⟩) (.string ⟨#[]⟩) (.string ⟨#[]⟩) (.int .i64 0) (.bool false) (.int .i64 0) (.bool false)) := HZ.out.below hb3
      have C3 : Hid (∀ j, j < L.length → w3.cell? ⟨g, j, none⟩ = some (.string (atL L j))) := fun j hj => by rw [(bcell hb3).1 _ _ hg3]; exact HCr.out j hj
      have B4 : Hid (Below w.heap.size w w3) := HB.out.trans (hb3.mono HB.out.size)
      have hg4 : g < w3.heap.size := by omega
      have NW : Hid (∀ (W : World) o, Below W.heap.size W (W.alloc o)) := fun W o => (Below.refl _ _).alloc (Nat.le_refl _) _
      obtain ⟨-, ⟨d0, d1, d2, d3, d4, d5, d6, d7⟩, df⟩ := HU.out.below hb3
      have zb : w2.heap.size + 1 < w3.heap.size := by omega
      clear hb3 hck
      cases e0 : (n1.toList == tDomain) with
      | true =>
        have f0 : (n1.toList == [68, 111, 109, 97, 105, 110]) = true := e0
        have HX : Hid (scTo L (k + 1) = { c with dm := v1 }) := by show _ = _; rw [HN1.out, if_pos e0]
        go_wp2_with fail
        go_roundw
        case rel =>
          refine ⟨k + 1, by omega, by go_num, by simp [World.setCell]; omega, ?_, ?_, ?_, ?_⟩
          · show UC _ _ _
            rw [HX.out]
            exact U8.below (U8.set2 U3.out (.string v1)) (NW.out _ _)
          · intro j hj
            rw [(bcell (NW.out _ _)).1 _ _ (by simpa [World.setCell] using hg4)]
            exact (World.cell?_setCell_far _ _ _ _ (by show ¬ w2.heap.size + 1 = g; omega)).trans (C3.out j hj)
          · exact U8.below (U8.far Z3.out (p := ⟨w2.heap.size + 1, 2, none⟩) (by show ¬ w2.heap.size + 1 = w.heap.size; omega) (.string v1)) (NW.out _ _)
          · exact Below.trans (Below.setCell B4.out (p := ⟨w2.heap.size + 1, 2, none⟩) (by show w.heap.size ≤ w2.heap.size + 1; omega) (.string v1)) ((NW.out _ _).mono (by have := B4.out.size; simp [World.setCell]; omega))
        case measure => simp [intOf]; omega
      | false =>
        have f0 : (n1.toList == [68, 111, 109, 97, 105, 110]) = false := e0
        cases e1 : (n1.toList == tPath) with
        | true =>
          have f1 : (n1.toList == [80, 97, 116, 104]) = true := e1
          have f0 : (n1.toList == [68, 111, 109, 97, 105, 110]) = false := e0
          have HX : Hid (scTo L (k + 1) = { c with pa := v1 }) := by show _ = _; rw [HN1.out, if_neg (by rw [e0]; decide), if_pos e1]
          go_wp2_with fail
          go_roundw
          case rel =>
            refine ⟨k + 1, by omega, by go_num, by simp [World.setCell]; omega, ?_, ?_, ?_, ?_⟩
            · show UC _ _ _
              rw [HX.out]
              exact U8.below (U8.set3 U3.out (.string v1)) (NW.out _ _)
            · intro j hj
              rw [(bcell (NW.out _ _)).1 _ _ (by simpa [World.setCell] using hg4)]
              exact (World.cell?_setCell_far _ _ _ _ (by show ¬ w2.heap.size + 1 = g; omega)).trans (C3.out j hj)
            · exact U8.below (U8.far Z3.out (p := ⟨w2.heap.size + 1, 3, none⟩) (by show ¬ w2.heap.size + 1 = w.heap.size; omega) (.string v1)) (NW.out _ _)
            · exact Below.trans (Below.setCell B4.out (p := ⟨w2.heap.size + 1, 3, none⟩) (by show w.heap.size ≤ w2.heap.size + 1; omega) (.string v1)) ((NW.out _ _).mono (by have := B4.out.size; simp [World.setCell]; omega))
          case measure => simp [intOf]; omega
        | false =>
          have f1 : (n1.toList == [80, 97, 116, 104]) = false := e1
          cases e2 : (n1.toList == tAge) with
          | true =>
            have f2 : (n1.toList == [77, 97, 120, 45, 65, 103, 101]) = true := e2
            have f0 : (n1.toList == [68, 111, 109, 97, 105, 110]) = false := e0
            have f1 : (n1.toList == [80, 97, 116, 104]) = false := e1
            have HX : Hid (scTo L (k + 1) = { c with ag := nv }) := by show _ = _; rw [HN1.out, if_neg (by rw [e0]; decide), if_neg (by rw [e1]; decide), if_pos e2]
            go_wp2_with (go_at_call 80; refine (KN1.out _).mono ?_; rintro e w4 ⟨rfl, rfl⟩)
            go_roundw
            case rel =>
              refine ⟨k + 1, by omega, by go_num, by simp [World.setCell]; omega, ?_, ?_, ?_, ?_⟩
              · show UC _ _ _
                rw [HX.out]
                exact U8.below (U8.set4 U3.out (.int .i64 nv)) (NW.out _ _)
              · intro j hj
                rw [(bcell (NW.out _ _)).1 _ _ (by simpa [World.setCell] using hg4)]
                exact (World.cell?_setCell_far _ _ _ _ (by show ¬ w2.heap.size + 1 = g; omega)).trans (C3.out j hj)
              · exact U8.below (U8.far Z3.out (p := ⟨w2.heap.size + 1, 4, none⟩) (by show ¬ w2.heap.size + 1 = w.heap.size; omega) (.int .i64 nv)) (NW.out _ _)
              · exact Below.trans (Below.setCell B4.out (p := ⟨w2.heap.size + 1, 4, none⟩) (by show w.heap.size ≤ w2.heap.size + 1; omega) (.int .i64 nv)) ((NW.out _ _).mono (by have := B4.out.size; simp [World.setCell]; omega))
            case measure => simp [intOf]; omega
          | false =>
            have f2 : (n1.toList == [77, 97, 120, 45, 65, 103, 101]) = false := e2
            cases e3 : (n1.toList == tSecure) with
            | true =>
              have f3 : (n1.toList == [83, 101, 99, 117, 114, 101]) = true := e3
              have f0 : (n1.toList == [68, 111, 109, 97, 105, 110]) = false := e0
              have f1 : (n1.toList == [80, 97, 116, 104]) = false := e1
              have f2 : (n1.toList == [77, 97, 120, 45, 65, 103, 101]) = false := e2
              have HX : Hid (scTo L (k + 1) = { c with se := true }) := by show _ = _; rw [HN1.out, if_neg (by rw [e0]; decide), if_neg (by rw [e1]; decide), if_neg (by rw [e2]; decide), if_pos e3]
              go_wp2_with fail
              go_roundw
              case rel =>
                refine ⟨k + 1, by omega, by go_num, by simp [World.setCell]; omega, ?_, ?_, ?_, ?_⟩
                · show UC _ _ _
                  rw [HX.out]
                  exact U8.below (U8.set5 U3.out (.bool true)) (NW.out _ _)
                · intro j hj
                  rw [(bcell (NW.out _ _)).1 _ _ (by simpa [World.setCell] using hg4)]
                  exact (World.cell?_setCell_far _ _ _ _ (by show ¬ w2.heap.size + 1 = g; omega)).trans (C3.out j hj)
                · exact U8.below (U8.far Z3.out (p := ⟨w2.heap.size + 1, 5, none⟩) (by show ¬ w2.heap.size + 1 = w.heap.size; omega) (.bool true)) (NW.out _ _)
                · exact Below.trans (Below.setCell B4.out (p := ⟨w2.heap.size + 1, 5, none⟩) (by show w.heap.size ≤ w2.heap.size + 1; omega) (.bool true)) ((NW.out _ _).mono (by have := B4.out.size; simp [World.setCell]; omega))
              case measure => simp [intOf]; omega
            | false =>
              have f3 : (n1.toList == [83, 101, 99, 117, 114, 101]) = false := e3
              cases e4 : (n1.toList == tParted) with
              | true =>
                have f4 : (n1.toList == [80, 97, 114, 116, 105, 116, 105, 111, 110, 101, 100]) = true := e4
                have f0 : (n1.toList == [68, 111, 109, 97, 105, 110]) = false := e0
                have f1 : (n1.toList == [80, 97, 116, 104]) = false := e1
                have f2 : (n1.toList == [77, 97, 120, 45, 65, 103, 101]) = false := e2
                have f3 : (n1.toList == [83, 101, 99, 117, 114, 101]) = false := e3
                have HX : Hid (scTo L (k + 1) = { c with pt := true }) := by show _ = _; rw [HN1.out, if_neg (by rw [e0]; decide), if_neg (by rw [e1]; decide), if_neg (by rw [e2]; decide), if_neg (by rw [e3]; decide), if_pos e4]
                go_wp2_with fail
                go_roundw
                case rel =>
                  refine ⟨k + 1, by omega, by go_num, by simp [World.setCell]; omega, ?_, ?_, ?_, ?_⟩
                  · show UC _ _ _
                    rw [HX.out]
                    exact U8.below (U8.set7 U3.out (.bool true)) (NW.out _ _)
                  · intro j hj
                    rw [(bcell (NW.out _ _)).1 _ _ (by simpa [World.setCell] using hg4)]
                    exact (World.cell?_setCell_far _ _ _ _ (by show ¬ w2.heap.size + 1 = g; omega)).trans (C3.out j hj)
                  · exact U8.below (U8.far Z3.out (p := ⟨w2.heap.size + 1, 7, none⟩) (by show ¬ w2.heap.size + 1 = w.heap.size; omega) (.bool true)) (NW.out _ _)
                  · exact Below.trans (Below.setCell B4.out (p := ⟨w2.heap.size + 1, 7, none⟩) (by show w.heap.size ≤ w2.heap.size + 1; omega) (.bool true)) ((NW.out _ _).mono (by have := B4.out.size; simp [World.setCell]; omega))
                case measure => simp [intOf]; omega
              | false =>
                have f4 : (n1.toList == [80, 97, 114, 116, 105, 116, 105, 111, 110, 101, 100]) = false := e4
                cases e5 : (n1.toList == tSame) with
                | true =>
                  have f5 : (n1.toList == [83, 97, 109, 101, 83, 105, 116, 101]) = true := e5
                  have f0 : (n1.toList == [68, 111, 109, 97, 105, 110]) = false := e0
                  have f1 : (n1.toList == [80, 97, 116, 104]) = false := e1
                  have f2 : (n1.toList == [77, 97, 120, 45, 65, 103, 101]) = false := e2
                  have f3 : (n1.toList == [83, 101, 99, 117, 114, 101]) = false := e3
                  have f4 : (n1.toList == [80, 97, 114, 116, 105, 116, 105, 111, 110, 101, 100]) = false := e4
                  cases eS : (v1.toList == tStrict) with
                  | true =>
                    have fS : (v1.toList == [83, 116, 114, 105, 99, 116]) = true := eS
                    have HX : Hid (scTo L (k + 1) = { c with mo := 1 }) := by show _ = _; rw [HN1.out, if_neg (by rw [e0]; decide), if_neg (by rw [e1]; decide), if_neg (by rw [e2]; decide), if_neg (by rw [e3]; decide), if_neg (by rw [e4]; decide), if_pos e5, if_pos eS]
                    go_wp2_with fail
                    go_roundw
                    case rel =>
                      refine ⟨k + 1, by omega, by go_num, by simp [World.setCell]; omega, ?_, ?_, ?_, ?_⟩
                      · show UC _ _ _
                        rw [HX.out]
                        exact U8.below (U8.set6 (U8.set6 U3.out (.int .i64 2)) (.int .i64 1)) (NW.out _ _)
                      · intro j hj
                        rw [(bcell (NW.out _ _)).1 _ _ (by simpa [World.setCell] using hg4)]
                        exact (World.cell?_setCell_far _ _ _ _ (by show ¬ w2.heap.size + 1 = g; omega)).trans ((World.cell?_setCell_far _ _ _ _ (by show ¬ w2.heap.size + 1 = g; omega)).trans (C3.out j hj))
                      · exact U8.below (U8.far (U8.far Z3.out (p := ⟨w2.heap.size + 1, 6, none⟩) (by show ¬ w2.heap.size + 1 = w.heap.size; omega) (.int .i64 2)) (p := ⟨w2.heap.size + 1, 6, none⟩) (by show ¬ w2.heap.size + 1 = w.heap.size; omega) (.int .i64 1)) (NW.out _ _)
                      · exact Below.trans (Below.setCell (Below.setCell B4.out (p := ⟨w2.heap.size + 1, 6, none⟩) (by show w.heap.size ≤ w2.heap.size + 1; omega) (.int .i64 2)) (p := ⟨w2.heap.size + 1, 6, none⟩) (by show w.heap.size ≤ w2.heap.size + 1; omega) (.int .i64 1)) ((NW.out _ _).mono (by have := B4.out.size; simp [World.setCell]; omega))
                    case measure => simp [intOf]; omega
                  | false =>
                    have fS : (v1.toList == [83, 116, 114, 105, 99, 116]) = false := eS
                    have HX : Hid (scTo L (k + 1) = { c with mo := 2 }) := by show _ = _; rw [HN1.out, if_neg (by rw [e0]; decide), if_neg (by rw [e1]; decide), if_neg (by rw [e2]; decide), if_neg (by rw [e3]; decide), if_neg (by rw [e4]; decide), if_pos e5, if_neg (by rw [eS]; decide)]
                    go_wp2_with fail
                    go_roundw
                    case rel =>
                      refine ⟨k + 1, by omega, by go_num, by simp [World.setCell]; omega, ?_, ?_, ?_, ?_⟩
                      · show UC _ _ _
                        rw [HX.out]
                        exact U8.below (U8.set6 U3.out (.int .i64 2)) (NW.out _ _)
                      · intro j hj
                        rw [(bcell (NW.out _ _)).1 _ _ (by simpa [World.setCell] using hg4)]
                        exact (World.cell?_setCell_far _ _ _ _ (by show ¬ w2.heap.size + 1 = g; omega)).trans (C3.out j hj)
                      · exact U8.below (U8.far Z3.out (p := ⟨w2.heap.size + 1, 6, none⟩) (by show ¬ w2.heap.size + 1 = w.heap.size; omega) (.int .i64 2)) (NW.out _ _)
                      · exact Below.trans (Below.setCell B4.out (p := ⟨w2.heap.size + 1, 6, none⟩) (by show w.heap.size ≤ w2.heap.size + 1; omega) (.int .i64 2)) ((NW.out _ _).mono (by have := B4.out.size; simp [World.setCell]; omega))
                    case measure => simp [intOf]; omega
                | false =>
                  have f5 : (n1.toList == [83, 97, 109, 101, 83, 105, 116, 101]) = false := e5
                  have HX : Hid (scTo L (k + 1) = c) := by show _ = _; rw [HN1.out, if_neg (by rw [e0]; decide), if_neg (by rw [e1]; decide), if_neg (by rw [e2]; decide), if_neg (by rw [e3]; decide), if_neg (by rw [e4]; decide), if_neg (by rw [e5]; decide)]
                  go_wp2_with fail
                  go_roundw
                  case rel =>
                    refine ⟨k + 1, by omega, by go_num, by simp; omega, ?_, ?_, ?_, ?_⟩
                    · show UC _ _ _
                      rw [HX.out]
                      exact U8.below U3.out (NW.out _ _)
                    · intro j hj
                      rw [(bcell (NW.out _ _)).1 _ _ (by simpa [World.setCell] using hg4)]
                      exact C3.out j hj
                    · exact U8.below Z3.out (NW.out _ _)
                    · exact Below.trans B4.out ((NW.out _ _).mono (by have := B4.out.size; simp; omega))
                  case measure => simp [intOf]; omega
    · have HX : Hid (RR = scTo L k) := by show _ = _; rw [HE.out, show L.length - 1 = k by omega]
      have q9 : ¬ (k : Int) + 1 < L.length := by omega
      obtain ⟨hu, ⟨d0, d1, d2, d3, d4, d5, d6, d7⟩, df⟩ := HU.out
      obtain ⟨hzz, ⟨g0, g1, g2, g3, g4, g5, g6, g7⟩, gf⟩ := HZ.out
      generalize scTo L k = c at *
      go_wp2
      have FR := (U8.set7 (U8.set6 (U8.set5 (U8.set4 (U8.set3 (U8.set2 (U8.set1 (U8.set0 HZ.out (.string c.na)) (.string c.va)) (.string c.dm)) (.string c.pa)) (.int .i64 c.ag)) (.bool c.se)) (.int .i64 c.mo)) (.bool c.pt))
      have FB := (Below.setCell (Below.setCell (Below.setCell (Below.setCell (Below.setCell (Below.setCell (Below.setCell (Below.setCell HB.out (p := ⟨w.heap.size, 0, none⟩) (Nat.le_refl _) (.string c.na)) (p := ⟨w.heap.size, 1, none⟩) (Nat.le_refl _) (.string c.va)) (p := ⟨w.heap.size, 2, none⟩) (Nat.le_refl _) (.string c.dm)) (p := ⟨w.heap.size, 3, none⟩) (Nat.le_refl _) (.string c.pa)) (p := ⟨w.heap.size, 4, none⟩) (Nat.le_refl _) (.int .i64 c.ag)) (p := ⟨w.heap.size, 5, none⟩) (Nat.le_refl _) (.bool c.se)) (p := ⟨w.heap.size, 6, none⟩) (Nat.le_refl _) (.int .i64 c.mo)) (p := ⟨w.heap.size, 7, none⟩) (Nat.le_refl _) (.bool c.pt))
      generalize ((((((((wr.setCell ⟨w.heap.size, 0, none⟩ (.string c.na)).setCell ⟨w.heap.size, 1, none⟩ (.string c.va)).setCell ⟨w.heap.size, 2, none⟩ (.string c.dm)).setCell ⟨w.heap.size, 3, none⟩ (.string c.pa)).setCell ⟨w.heap.size, 4, none⟩ (.int .i64 c.ag)).setCell ⟨w.heap.size, 5, none⟩ (.bool c.se)).setCell ⟨w.heap.size, 6, none⟩ (.int .i64 c.mo)).setCell ⟨w.heap.size, 7, none⟩ (.bool c.pt)) = W at *
      obtain ⟨hy, ⟨f0, f1, f2, f3, f4, f5, f6, f7⟩, _⟩ := FR
      exact bodyPost_ret (v := scV c) (by simp [scV, setV, results, Tryd.results53, go_sem, f0, f1, f2, f3, f4, f5, f6, f7]) rfl ⟨by rw [HX.out], FB⟩
end Go.Proofs.YthcpmbolnmlohaaDoor

/- The walk of the specification's SetRead. -/
namespace Go.Proofs.YthcpmbolnmlohaaDoor
open Go.RowKit

def scZ : SC := ⟨⟨#[]⟩, ⟨#[]⟩, ⟨#[]⟩, ⟨#[]⟩, 0, false, 0, false⟩
/-- a SetOut, as a value -/
def scOutV (c : SC) (code : Int) : Value := .agg #[.string c.na, .string c.va, .string c.dm, .string c.pa, .int .i64 c.ag, .bool c.se, .int .i64 c.mo, .bool c.pt, .int .i64 code]
def scTx (c : SC) : ByteArray := setTx c.na c.va c.dm c.pa c.ag c.se c.mo c.pt
/-- is it the text of what is read of it? -/
def scOk (t : ByteArray) : Bool := !t.toList.isEmpty && ((scTx (scRead t)).toList == t.toList)
/-- what SetRead tells -/
def scGot (t : ByteArray) : SC × Int := if 8000 < t.size then (scZ, 2) else if scOk t = true then (scRead t, 0) else (scZ, 3)
theorem scTo_na (L : List ByteArray) : ∀ i, (scTo L i).na = (pairP (atL L 0)).1 ∧ (scTo L i).va = (pairP (atL L 0)).2
  | 0 => ⟨rfl, rfl⟩
  | i + 1 => by
    have ih := scTo_na L i
    rw [scTo]
    unfold scPut
    split
    · exact ih
    · split
      · exact ih
      · split
        · exact ih
        · split
          · exact ih
          · split
            · exact ih
            · split
              · exact ih
              · exact ih
theorem scRead_small {t : ByteArray} : (scRead t).na.size ≤ t.size ∧ (scRead t).va.size ≤ t.size := by
  have h := scTo_na (piecesL t) ((piecesL t).length - 1)
  unfold scRead
  rw [h.1, h.2]
  have hp := pairP_size (atL (piecesL t) 0)
  have hl : (atL (piecesL t) 0).size ≤ t.size := by
    by_cases h0 : 0 < (piecesL t).length
    · have e : atL (piecesL t) 0 = (piecesL t)[0] := by simp [atL, h0]
      rw [e]; exact piecesL_small t _ (List.getElem_mem h0)
    · have e : atL (piecesL t) 0 = ⟨#[]⟩ := by simp [atL, h0]
      rw [e]; exact Nat.zero_le _
  omega
/-- nine cells in block b, none of them frozen -/
def U9 (w : World) (b : Nat) (v0 v1 v2 v3 v4 v5 v6 v7 v8 : Value) : Prop := b < w.heap.size ∧ (w.cell? ⟨b, 0, none⟩ = some v0 ∧ w.cell? ⟨b, 1, none⟩ = some v1 ∧ w.cell? ⟨b, 2, none⟩ = some v2 ∧ w.cell? ⟨b, 3, none⟩ = some v3 ∧ w.cell? ⟨b, 4, none⟩ = some v4 ∧ w.cell? ⟨b, 5, none⟩ = some v5 ∧ w.cell? ⟨b, 6, none⟩ = some v6 ∧ w.cell? ⟨b, 7, none⟩ = some v7 ∧ w.cell? ⟨b, 8, none⟩ = some v8) ∧ ∀ o, w.frozen? ⟨b, o, none⟩ = false
theorem U9.below {w w' : World} {b : Nat} {v0 v1 v2 v3 v4 v5 v6 v7 v8 : Value} (h : U9 w b v0 v1 v2 v3 v4 v5 v6 v7 v8) (hb : Below w.heap.size w w') : U9 w' b v0 v1 v2 v3 v4 v5 v6 v7 v8 := by
  obtain ⟨hz, ⟨c0, c1, c2, c3, c4, c5, c6, c7, c8⟩, hf⟩ := h
  exact ⟨Nat.lt_of_lt_of_le hz hb.size, ⟨by rw [(bcell hb).1 _ _ hz]; exact c0, by rw [(bcell hb).1 _ _ hz]; exact c1, by rw [(bcell hb).1 _ _ hz]; exact c2, by rw [(bcell hb).1 _ _ hz]; exact c3, by rw [(bcell hb).1 _ _ hz]; exact c4, by rw [(bcell hb).1 _ _ hz]; exact c5, by rw [(bcell hb).1 _ _ hz]; exact c6, by rw [(bcell hb).1 _ _ hz]; exact c7, by rw [(bcell hb).1 _ _ hz]; exact c8⟩, fun o => by rw [(bcell hb).2 _ _ hz]; exact hf o⟩
theorem U9.made (w : World) (v0 v1 v2 v3 v4 v5 v6 v7 v8 : Value) (t : TypeId) : U9 (w.alloc (.cells #[v0, v1, v2, v3, v4, v5, v6, v7, v8] t)) w.heap.size v0 v1 v2 v3 v4 v5 v6 v7 v8 :=
  ⟨by simp, ⟨by simp, by simp, by simp, by simp, by simp, by simp, by simp, by simp, by simp⟩, by simp⟩
theorem U9.set0 {w : World} {b : Nat} {v0 v1 v2 v3 v4 v5 v6 v7 v8 : Value} (h : U9 w b v0 v1 v2 v3 v4 v5 v6 v7 v8) (v : Value) : U9 (w.setCell ⟨b, 0, none⟩ v) b v v1 v2 v3 v4 v5 v6 v7 v8 := by
  obtain ⟨hb, ⟨c0, c1, c2, c3, c4, c5, c6, c7, c8⟩, hf⟩ := h
  refine ⟨by simpa [World.setCell] using hb, ⟨?_, ?_, ?_, ?_, ?_, ?_, ?_, ?_, ?_⟩, ?_⟩
  · exact World.cell?_setCell_same _ _ _ c0
  · exact (World.cell?_setCell_other _ _ _ _ (by simp)).trans c1
  · exact (World.cell?_setCell_other _ _ _ _ (by simp)).trans c2
  · exact (World.cell?_setCell_other _ _ _ _ (by simp)).trans c3
  · exact (World.cell?_setCell_other _ _ _ _ (by simp)).trans c4
  · exact (World.cell?_setCell_other _ _ _ _ (by simp)).trans c5
  · exact (World.cell?_setCell_other _ _ _ _ (by simp)).trans c6
  · exact (World.cell?_setCell_other _ _ _ _ (by simp)).trans c7
  · exact (World.cell?_setCell_other _ _ _ _ (by simp)).trans c8
  · intro o; rw [World.frozen?_setCell]; exact hf o
theorem U9.set1 {w : World} {b : Nat} {v0 v1 v2 v3 v4 v5 v6 v7 v8 : Value} (h : U9 w b v0 v1 v2 v3 v4 v5 v6 v7 v8) (v : Value) : U9 (w.setCell ⟨b, 1, none⟩ v) b v0 v v2 v3 v4 v5 v6 v7 v8 := by
  obtain ⟨hb, ⟨c0, c1, c2, c3, c4, c5, c6, c7, c8⟩, hf⟩ := h
  refine ⟨by simpa [World.setCell] using hb, ⟨?_, ?_, ?_, ?_, ?_, ?_, ?_, ?_, ?_⟩, ?_⟩
  · exact (World.cell?_setCell_other _ _ _ _ (by simp)).trans c0
  · exact World.cell?_setCell_same _ _ _ c1
  · exact (World.cell?_setCell_other _ _ _ _ (by simp)).trans c2
  · exact (World.cell?_setCell_other _ _ _ _ (by simp)).trans c3
  · exact (World.cell?_setCell_other _ _ _ _ (by simp)).trans c4
  · exact (World.cell?_setCell_other _ _ _ _ (by simp)).trans c5
  · exact (World.cell?_setCell_other _ _ _ _ (by simp)).trans c6
  · exact (World.cell?_setCell_other _ _ _ _ (by simp)).trans c7
  · exact (World.cell?_setCell_other _ _ _ _ (by simp)).trans c8
  · intro o; rw [World.frozen?_setCell]; exact hf o
theorem U9.set2 {w : World} {b : Nat} {v0 v1 v2 v3 v4 v5 v6 v7 v8 : Value} (h : U9 w b v0 v1 v2 v3 v4 v5 v6 v7 v8) (v : Value) : U9 (w.setCell ⟨b, 2, none⟩ v) b v0 v1 v v3 v4 v5 v6 v7 v8 := by
  obtain ⟨hb, ⟨c0, c1, c2, c3, c4, c5, c6, c7, c8⟩, hf⟩ := h
  refine ⟨by simpa [World.setCell] using hb, ⟨?_, ?_, ?_, ?_, ?_, ?_, ?_, ?_, ?_⟩, ?_⟩
  · exact (World.cell?_setCell_other _ _ _ _ (by simp)).trans c0
  · exact (World.cell?_setCell_other _ _ _ _ (by simp)).trans c1
  · exact World.cell?_setCell_same _ _ _ c2
  · exact (World.cell?_setCell_other _ _ _ _ (by simp)).trans c3
  · exact (World.cell?_setCell_other _ _ _ _ (by simp)).trans c4
  · exact (World.cell?_setCell_other _ _ _ _ (by simp)).trans c5
  · exact (World.cell?_setCell_other _ _ _ _ (by simp)).trans c6
  · exact (World.cell?_setCell_other _ _ _ _ (by simp)).trans c7
  · exact (World.cell?_setCell_other _ _ _ _ (by simp)).trans c8
  · intro o; rw [World.frozen?_setCell]; exact hf o
theorem U9.set3 {w : World} {b : Nat} {v0 v1 v2 v3 v4 v5 v6 v7 v8 : Value} (h : U9 w b v0 v1 v2 v3 v4 v5 v6 v7 v8) (v : Value) : U9 (w.setCell ⟨b, 3, none⟩ v) b v0 v1 v2 v v4 v5 v6 v7 v8 := by
  obtain ⟨hb, ⟨c0, c1, c2, c3, c4, c5, c6, c7, c8⟩, hf⟩ := h
  refine ⟨by simpa [World.setCell] using hb, ⟨?_, ?_, ?_, ?_, ?_, ?_, ?_, ?_, ?_⟩, ?_⟩
  · exact (World.cell?_setCell_other _ _ _ _ (by simp)).trans c0
  · exact (World.cell?_setCell_other _ _ _ _ (by simp)).trans c1
  · exact (World.cell?_setCell_other _ _ _ _ (by simp)).trans c2
  · exact World.cell?_setCell_same _ _ _ c3
  · exact (World.cell?_setCell_other _ _ _ _ (by simp)).trans c4
  · exact (World.cell?_setCell_other _ _ _ _ (by simp)).trans c5
  · exact (World.cell?_setCell_other _ _ _ _ (by simp)).trans c6
  · exact (World.cell?_setCell_other _ _ _ _ (by simp)).trans c7
  · exact (World.cell?_setCell_other _ _ _ _ (by simp)).trans c8
  · intro o; rw [World.frozen?_setCell]; exact hf o
theorem U9.set4 {w : World} {b : Nat} {v0 v1 v2 v3 v4 v5 v6 v7 v8 : Value} (h : U9 w b v0 v1 v2 v3 v4 v5 v6 v7 v8) (v : Value) : U9 (w.setCell ⟨b, 4, none⟩ v) b v0 v1 v2 v3 v v5 v6 v7 v8 := by
  obtain ⟨hb, ⟨c0, c1, c2, c3, c4, c5, c6, c7, c8⟩, hf⟩ := h
  refine ⟨by simpa [World.setCell] using hb, ⟨?_, ?_, ?_, ?_, ?_, ?_, ?_, ?_, ?_⟩, ?_⟩
  · exact (World.cell?_setCell_other _ _ _ _ (by simp)).trans c0
  · exact (World.cell?_setCell_other _ _ _ _ (by simp)).trans c1
  · exact (World.cell?_setCell_other _ _ _ _ (by simp)).trans c2
  · exact (World.cell?_setCell_other _ _ _ _ (by simp)).trans c3
  · exact World.cell?_setCell_same _ _ _ c4
  · exact (World.cell?_setCell_other _ _ _ _ (by simp)).trans c5
  · exact (World.cell?_setCell_other _ _ _ _ (by simp)).trans c6
  · exact (World.cell?_setCell_other _ _ _ _ (by simp)).trans c7
  · exact (World.cell?_setCell_other _ _ _ _ (by simp)).trans c8
  · intro o; rw [World.frozen?_setCell]; exact hf o
theorem U9.set5 {w : World} {b : Nat} {v0 v1 v2 v3 v4 v5 v6 v7 v8 : Value} (h : U9 w b v0 v1 v2 v3 v4 v5 v6 v7 v8) (v : Value) : U9 (w.setCell ⟨b, 5, none⟩ v) b v0 v1 v2 v3 v4 v v6 v7 v8 := by
  obtain ⟨hb, ⟨c0, c1, c2, c3, c4, c5, c6, c7, c8⟩, hf⟩ := h
  refine ⟨by simpa [World.setCell] using hb, ⟨?_, ?_, ?_, ?_, ?_, ?_, ?_, ?_, ?_⟩, ?_⟩
  · exact (World.cell?_setCell_other _ _ _ _ (by simp)).trans c0
  · exact (World.cell?_setCell_other _ _ _ _ (by simp)).trans c1
  · exact (World.cell?_setCell_other _ _ _ _ (by simp)).trans c2
  · exact (World.cell?_setCell_other _ _ _ _ (by simp)).trans c3
  · exact (World.cell?_setCell_other _ _ _ _ (by simp)).trans c4
  · exact World.cell?_setCell_same _ _ _ c5
  · exact (World.cell?_setCell_other _ _ _ _ (by simp)).trans c6
  · exact (World.cell?_setCell_other _ _ _ _ (by simp)).trans c7
  · exact (World.cell?_setCell_other _ _ _ _ (by simp)).trans c8
  · intro o; rw [World.frozen?_setCell]; exact hf o
theorem U9.set6 {w : World} {b : Nat} {v0 v1 v2 v3 v4 v5 v6 v7 v8 : Value} (h : U9 w b v0 v1 v2 v3 v4 v5 v6 v7 v8) (v : Value) : U9 (w.setCell ⟨b, 6, none⟩ v) b v0 v1 v2 v3 v4 v5 v v7 v8 := by
  obtain ⟨hb, ⟨c0, c1, c2, c3, c4, c5, c6, c7, c8⟩, hf⟩ := h
  refine ⟨by simpa [World.setCell] using hb, ⟨?_, ?_, ?_, ?_, ?_, ?_, ?_, ?_, ?_⟩, ?_⟩
  · exact (World.cell?_setCell_other _ _ _ _ (by simp)).trans c0
  · exact (World.cell?_setCell_other _ _ _ _ (by simp)).trans c1
  · exact (World.cell?_setCell_other _ _ _ _ (by simp)).trans c2
  · exact (World.cell?_setCell_other _ _ _ _ (by simp)).trans c3
  · exact (World.cell?_setCell_other _ _ _ _ (by simp)).trans c4
  · exact (World.cell?_setCell_other _ _ _ _ (by simp)).trans c5
  · exact World.cell?_setCell_same _ _ _ c6
  · exact (World.cell?_setCell_other _ _ _ _ (by simp)).trans c7
  · exact (World.cell?_setCell_other _ _ _ _ (by simp)).trans c8
  · intro o; rw [World.frozen?_setCell]; exact hf o
theorem U9.set7 {w : World} {b : Nat} {v0 v1 v2 v3 v4 v5 v6 v7 v8 : Value} (h : U9 w b v0 v1 v2 v3 v4 v5 v6 v7 v8) (v : Value) : U9 (w.setCell ⟨b, 7, none⟩ v) b v0 v1 v2 v3 v4 v5 v6 v v8 := by
  obtain ⟨hb, ⟨c0, c1, c2, c3, c4, c5, c6, c7, c8⟩, hf⟩ := h
  refine ⟨by simpa [World.setCell] using hb, ⟨?_, ?_, ?_, ?_, ?_, ?_, ?_, ?_, ?_⟩, ?_⟩
  · exact (World.cell?_setCell_other _ _ _ _ (by simp)).trans c0
  · exact (World.cell?_setCell_other _ _ _ _ (by simp)).trans c1
  · exact (World.cell?_setCell_other _ _ _ _ (by simp)).trans c2
  · exact (World.cell?_setCell_other _ _ _ _ (by simp)).trans c3
  · exact (World.cell?_setCell_other _ _ _ _ (by simp)).trans c4
  · exact (World.cell?_setCell_other _ _ _ _ (by simp)).trans c5
  · exact (World.cell?_setCell_other _ _ _ _ (by simp)).trans c6
  · exact World.cell?_setCell_same _ _ _ c7
  · exact (World.cell?_setCell_other _ _ _ _ (by simp)).trans c8
  · intro o; rw [World.frozen?_setCell]; exact hf o
theorem U9.set8 {w : World} {b : Nat} {v0 v1 v2 v3 v4 v5 v6 v7 v8 : Value} (h : U9 w b v0 v1 v2 v3 v4 v5 v6 v7 v8) (v : Value) : U9 (w.setCell ⟨b, 8, none⟩ v) b v0 v1 v2 v3 v4 v5 v6 v7 v := by
  obtain ⟨hb, ⟨c0, c1, c2, c3, c4, c5, c6, c7, c8⟩, hf⟩ := h
  refine ⟨by simpa [World.setCell] using hb, ⟨?_, ?_, ?_, ?_, ?_, ?_, ?_, ?_, ?_⟩, ?_⟩
  · exact (World.cell?_setCell_other _ _ _ _ (by simp)).trans c0
  · exact (World.cell?_setCell_other _ _ _ _ (by simp)).trans c1
  · exact (World.cell?_setCell_other _ _ _ _ (by simp)).trans c2
  · exact (World.cell?_setCell_other _ _ _ _ (by simp)).trans c3
  · exact (World.cell?_setCell_other _ _ _ _ (by simp)).trans c4
  · exact (World.cell?_setCell_other _ _ _ _ (by simp)).trans c5
  · exact (World.cell?_setCell_other _ _ _ _ (by simp)).trans c6
  · exact (World.cell?_setCell_other _ _ _ _ (by simp)).trans c7
  · exact World.cell?_setCell_same _ _ _ c8
  · intro o; rw [World.frozen?_setCell]; exact hf o
set_option maxRecDepth 10000 in
set_option maxHeartbeats 4000000 in
theorem specSetRead_any (t : ByteArray) (w : World) :
    Calls Tryd.prog 22 #[.string t] w fun e w' => e = .returned (scOutV (scGot t).1 (scGot t).2) ∧ Below w.heap.size w w' := by
  have B0 : Hid (∀ ty, Below w.heap.size w (w.alloc (.cells #[.string ⟨#[]⟩, .string ⟨#[]⟩, .string ⟨#[]⟩, .string ⟨#[]⟩, .int .i64 0, .bool false, .int .i64 0, .bool false, .int .i64 0] ty))) := fun ty => (Below.refl _ _).alloc (Nat.le_refl _) _
  have UZ : Hid (∀ ty, U9 (w.alloc (.cells #[.string ⟨#[]⟩, .string ⟨#[]⟩, .string ⟨#[]⟩, .string ⟨#[]⟩, .int .i64 0, .bool false, .int .i64 0, .bool false, .int .i64 0] ty)) w.heap.size (.string ⟨#[]⟩) (.string ⟨#[]⟩) (.string ⟨#[]⟩) (.string ⟨#[]⟩) (.int .i64 0) (.bool false) (.int .i64 0) (.bool false) (.int .i64 0)) := fun ty => U9.made w (.string ⟨#[]⟩) (.string ⟨#[]⟩) (.string ⟨#[]⟩) (.string ⟨#[]⟩) (.int .i64 0) (.bool false) (.int .i64 0) (.bool false) (.int .i64 0) ty
  by_cases h8 : 8000 < t.size
  · have HX : Hid (scGot t = (scZ, 2)) := by show _ = _; rw [scGot, if_pos h8]
    generalize scGot t = G at *
    go_enter Tryd.func22, Tryd.ntmps22
    go_wp2
    exact bodyPost_ret (v := scOutV scZ 2) (by simp [scOutV, scZ, results, Tryd.results22, go_sem]) rfl ⟨by rw [HX.out], (Below.refl _ _).alloc (Nat.le_refl _) _⟩
  have q8 : decide ((8000 : Int) < (t.size : Int)) = false := by rw [decide_eq_false_iff_not]; omega
  have KR : Hid (∀ W, Calls Tryd.prog 53 #[.string t] W fun e w' => e = .returned (.agg #[.string (scRead t).na, .string (scRead t).va, .string (scRead t).dm, .string (scRead t).pa, .int .i64 (scRead t).ag, .bool (scRead t).se, .int .i64 (scRead t).mo, .bool (scRead t).pt]) ∧ Below W.heap.size W w') := fun W => specSetRd_any t W (by omega)
  have hsm := scRead_small (t := t)
  have KT : Hid (∀ W, Calls Tryd.prog 20 #[.agg #[.string (scRead t).na, .string (scRead t).va, .string (scRead t).dm, .string (scRead t).pa, .int .i64 (scRead t).ag, .bool (scRead t).se, .int .i64 (scRead t).mo, .bool (scRead t).pt]] W fun e w' => e = .returned (.string (scTx (scRead t))) ∧ Below W.heap.size W w') := fun W => specSetText_any _ _ _ _ _ _ _ _ W (by omega) (by omega)
  have HY : Hid (scOk t = true → scGot t = (scRead t, 0)) := fun h => by rw [scGot, if_neg h8, if_pos h]
  have HN : Hid (scOk t = false → scGot t = (scZ, 3)) := fun h => by rw [scGot, if_neg h8, if_neg (by rw [h]; decide)]
  have HO : Hid (scOk t = (!t.toList.isEmpty && ((scTx (scRead t)).toList == t.toList))) := rfl
  generalize scGot t = G at *
  generalize scOk t = ok at *
  generalize scTx (scRead t) = TX at *
  generalize scRead t = c at *
  clear hsm
  go_enter Tryd.func22, Tryd.ntmps22
  go_wp2_with fail
  refine (KR.out _).mono ?_
  rintro e w1 ⟨rfl, hb1⟩
  have U1 : Hid (U9 w1 w.heap.size (.string ⟨#[]⟩) (.string ⟨#[]⟩) (.string ⟨#[]⟩) (.string ⟨#[]⟩) (.int .i64 0) (.bool false) (.int .i64 0) (.bool false) (.int .i64 0)) := (UZ.out _).below hb1
  have B1 : Hid (Below w.heap.size w w1) := (B0.out _).trans (hb1.mono (by simp))
  clear hb1
  cases hemp : t.toList.isEmpty with
  | true =>
    have HX : Hid (G = (scZ, 3)) := HN.out (by rw [HO.out, hemp]; rfl)
    obtain ⟨hz1, ⟨g0, g1, g2, g3, g4, g5, g6, g7, g8⟩, gf⟩ := U1.out
    go_wp2
    have FR := (U9.set8 (U9.set7 (U9.set6 (U9.set5 (U9.set4 (U9.set3 (U9.set2 (U9.set1 (U9.set0 U1.out (.string ⟨#[]⟩)) (.string ⟨#[]⟩)) (.string ⟨#[]⟩)) (.string ⟨#[]⟩)) (.int .i64 0)) (.bool false)) (.int .i64 0)) (.bool false)) (.int .i64 3)).below ((Below.refl _ _).alloc (Nat.le_refl _) (.cells #[.string c.na, .string c.va, .string c.dm, .string c.pa, .int .i64 c.ag, .bool c.se, .int .i64 c.mo, .bool c.pt] 32))
    have FB := (Below.setCell (Below.setCell (Below.setCell (Below.setCell (Below.setCell (Below.setCell (Below.setCell (Below.setCell (Below.setCell B1.out (p := ⟨w.heap.size, 0, none⟩) (Nat.le_refl _) (.string ⟨#[]⟩)) (p := ⟨w.heap.size, 1, none⟩) (Nat.le_refl _) (.string ⟨#[]⟩)) (p := ⟨w.heap.size, 2, none⟩) (Nat.le_refl _) (.string ⟨#[]⟩)) (p := ⟨w.heap.size, 3, none⟩) (Nat.le_refl _) (.string ⟨#[]⟩)) (p := ⟨w.heap.size, 4, none⟩) (Nat.le_refl _) (.int .i64 0)) (p := ⟨w.heap.size, 5, none⟩) (Nat.le_refl _) (.bool false)) (p := ⟨w.heap.size, 6, none⟩) (Nat.le_refl _) (.int .i64 0)) (p := ⟨w.heap.size, 7, none⟩) (Nat.le_refl _) (.bool false)) (p := ⟨w.heap.size, 8, none⟩) (Nat.le_refl _) (.int .i64 3)).alloc (by have := B1.out.size; simp [World.setCell]; omega) (.cells #[.string c.na, .string c.va, .string c.dm, .string c.pa, .int .i64 c.ag, .bool c.se, .int .i64 c.mo, .bool c.pt] 32)
    generalize ((((((((((w1.setCell ⟨w.heap.size, 0, none⟩ (.string ⟨#[]⟩)).setCell ⟨w.heap.size, 1, none⟩ (.string ⟨#[]⟩)).setCell ⟨w.heap.size, 2, none⟩ (.string ⟨#[]⟩)).setCell ⟨w.heap.size, 3, none⟩ (.string ⟨#[]⟩)).setCell ⟨w.heap.size, 4, none⟩ (.int .i64 0)).setCell ⟨w.heap.size, 5, none⟩ (.bool false)).setCell ⟨w.heap.size, 6, none⟩ (.int .i64 0)).setCell ⟨w.heap.size, 7, none⟩ (.bool false)).setCell ⟨w.heap.size, 8, none⟩ (.int .i64 3)).alloc (.cells #[.string c.na, .string c.va, .string c.dm, .string c.pa, .int .i64 c.ag, .bool c.se, .int .i64 c.mo, .bool c.pt] 32)) = W at *
    obtain ⟨hy, ⟨f0, f1, f2, f3, f4, f5, f6, f7, f8⟩, _⟩ := FR
    exact bodyPost_ret (v := scOutV scZ 3) (by simp [scOutV, scZ, results, Tryd.results22, go_sem, f0, f1, f2, f3, f4, f5, f6, f7, f8]) rfl ⟨by rw [HX.out], FB⟩
  | false =>
    have NW : Hid (∀ (W : World) o, Below W.heap.size W (W.alloc o)) := fun W o => (Below.refl _ _).alloc (Nat.le_refl _) _
    go_wp2_with fail
    refine (KT.out _).mono ?_
    rintro e w2 ⟨rfl, hb2⟩
    have U2' : Hid (U9 w2 w.heap.size (.string ⟨#[]⟩) (.string ⟨#[]⟩) (.string ⟨#[]⟩) (.string ⟨#[]⟩) (.int .i64 0) (.bool false) (.int .i64 0) (.bool false) (.int .i64 0)) := (U1.out.below (NW.out _ _)).below hb2
    have C2 : Hid (U8 w2 w1.heap.size (.string c.na) (.string c.va) (.string c.dm) (.string c.pa) (.int .i64 c.ag) (.bool c.se) (.int .i64 c.mo) (.bool c.pt)) := (U8.made w1 (.string c.na) (.string c.va) (.string c.dm) (.string c.pa) (.int .i64 c.ag) (.bool c.se) (.int .i64 c.mo) (.bool c.pt) 32).below hb2
    have B2 : Hid (Below w.heap.size w w2) := (B1.out.trans ((NW.out _ _).mono B1.out.size)).trans (hb2.mono (by have := B1.out.size; simp; omega))
    clear hb2 U1 NW
    obtain ⟨hz2, ⟨g0, g1, g2, g3, g4, g5, g6, g7, g8⟩, gf⟩ := U2'.out
    obtain ⟨hzc, ⟨r0, r1, r2, r3, r4, r5, r6, r7⟩, rf⟩ := C2.out
    cases heq : (TX.toList == t.toList) with
    | false =>
      have HX : Hid (G = (scZ, 3)) := HN.out (by rw [HO.out, hemp, heq]; rfl)
      go_wp2
      have FR := (U9.set8 (U9.set7 (U9.set6 (U9.set5 (U9.set4 (U9.set3 (U9.set2 (U9.set1 (U9.set0 U2'.out (.string ⟨#[]⟩)) (.string ⟨#[]⟩)) (.string ⟨#[]⟩)) (.string ⟨#[]⟩)) (.int .i64 0)) (.bool false)) (.int .i64 0)) (.bool false)) (.int .i64 3))
      have FB := (Below.setCell (Below.setCell (Below.setCell (Below.setCell (Below.setCell (Below.setCell (Below.setCell (Below.setCell (Below.setCell B2.out (p := ⟨w.heap.size, 0, none⟩) (Nat.le_refl _) (.string ⟨#[]⟩)) (p := ⟨w.heap.size, 1, none⟩) (Nat.le_refl _) (.string ⟨#[]⟩)) (p := ⟨w.heap.size, 2, none⟩) (Nat.le_refl _) (.string ⟨#[]⟩)) (p := ⟨w.heap.size, 3, none⟩) (Nat.le_refl _) (.string ⟨#[]⟩)) (p := ⟨w.heap.size, 4, none⟩) (Nat.le_refl _) (.int .i64 0)) (p := ⟨w.heap.size, 5, none⟩) (Nat.le_refl _) (.bool false)) (p := ⟨w.heap.size, 6, none⟩) (Nat.le_refl _) (.int .i64 0)) (p := ⟨w.heap.size, 7, none⟩) (Nat.le_refl _) (.bool false)) (p := ⟨w.heap.size, 8, none⟩) (Nat.le_refl _) (.int .i64 3))
      generalize (((((((((w2.setCell ⟨w.heap.size, 0, none⟩ (.string ⟨#[]⟩)).setCell ⟨w.heap.size, 1, none⟩ (.string ⟨#[]⟩)).setCell ⟨w.heap.size, 2, none⟩ (.string ⟨#[]⟩)).setCell ⟨w.heap.size, 3, none⟩ (.string ⟨#[]⟩)).setCell ⟨w.heap.size, 4, none⟩ (.int .i64 0)).setCell ⟨w.heap.size, 5, none⟩ (.bool false)).setCell ⟨w.heap.size, 6, none⟩ (.int .i64 0)).setCell ⟨w.heap.size, 7, none⟩ (.bool false)).setCell ⟨w.heap.size, 8, none⟩ (.int .i64 3)) = W at *
      obtain ⟨hy, ⟨f0, f1, f2, f3, f4, f5, f6, f7, f8⟩, _⟩ := FR
      exact bodyPost_ret (v := scOutV scZ 3) (by simp [scOutV, scZ, results, Tryd.results22, go_sem, f0, f1, f2, f3, f4, f5, f6, f7, f8]) rfl ⟨by rw [HX.out], FB⟩
    | true =>
      have HX : Hid (G = (c, 0)) := HY.out (by rw [HO.out, hemp, heq]; rfl)
      go_wp2
      have FR := (U9.set8 (U9.set7 (U9.set6 (U9.set5 (U9.set4 (U9.set3 (U9.set2 (U9.set1 (U9.set0 U2'.out (.string c.na)) (.string c.va)) (.string c.dm)) (.string c.pa)) (.int .i64 c.ag)) (.bool c.se)) (.int .i64 c.mo)) (.bool c.pt)) (.int .i64 0))
      have FB := (Below.setCell (Below.setCell (Below.setCell (Below.setCell (Below.setCell (Below.setCell (Below.setCell (Below.setCell (Below.setCell B2.out (p := ⟨w.heap.size, 0, none⟩) (Nat.le_refl _) (.string c.na)) (p := ⟨w.heap.size, 1, none⟩) (Nat.le_refl _) (.string c.va)) (p := ⟨w.heap.size, 2, none⟩) (Nat.le_refl _) (.string c.dm)) (p := ⟨w.heap.size, 3, none⟩) (Nat.le_refl _) (.string c.pa)) (p := ⟨w.heap.size, 4, none⟩) (Nat.le_refl _) (.int .i64 c.ag)) (p := ⟨w.heap.size, 5, none⟩) (Nat.le_refl _) (.bool c.se)) (p := ⟨w.heap.size, 6, none⟩) (Nat.le_refl _) (.int .i64 c.mo)) (p := ⟨w.heap.size, 7, none⟩) (Nat.le_refl _) (.bool c.pt)) (p := ⟨w.heap.size, 8, none⟩) (Nat.le_refl _) (.int .i64 0))
      generalize (((((((((w2.setCell ⟨w.heap.size, 0, none⟩ (.string c.na)).setCell ⟨w.heap.size, 1, none⟩ (.string c.va)).setCell ⟨w.heap.size, 2, none⟩ (.string c.dm)).setCell ⟨w.heap.size, 3, none⟩ (.string c.pa)).setCell ⟨w.heap.size, 4, none⟩ (.int .i64 c.ag)).setCell ⟨w.heap.size, 5, none⟩ (.bool c.se)).setCell ⟨w.heap.size, 6, none⟩ (.int .i64 c.mo)).setCell ⟨w.heap.size, 7, none⟩ (.bool c.pt)).setCell ⟨w.heap.size, 8, none⟩ (.int .i64 0)) = W at *
      obtain ⟨hy, ⟨f0, f1, f2, f3, f4, f5, f6, f7, f8⟩, _⟩ := FR
      exact bodyPost_ret (v := scOutV c 0) (by simp [scOutV, results, Tryd.results22, go_sem, f0, f1, f2, f3, f4, f5, f6, f7, f8]) rfl ⟨by rw [HX.out], FB⟩
end Go.Proofs.YthcpmbolnmlohaaDoor

/- Plain facts of texts: finding, digits, the bytes of a host. -/
namespace Go.Proofs.YthcpmbolnmlohaaDoor

theorem isAt_head {t x : ByteArray} {i : Nat} (hx : 0 < x.size) (hi : i + x.size ≤ t.size) (h : isAt t x i = true) : t[i] = x[0] := by
  unfold isAt at h
  rw [beq_iff_eq] at h
  have e : t.extract i (i + x.size) = x := by
    apply ByteArray.ext
    rw [ByteArray.toList_eq, ByteArray.toList_eq] at h
    exact Array.toList_inj.mp h
  have e0 : (t.extract i (i + x.size))[0]'(by rw [e]; exact hx) = x[0] := by simp only [e]
  rw [ByteArray.getElem_extract] at e0
  simpa using e0
theorem findTo_no {t x : ByteArray} (hx : 0 < x.size) (k : Nat) (hno : ∀ i (h : i < t.size), i < k → t[i] ≠ x[0]) : findTo t x k = none := by
  induction k with
  | zero => rfl
  | succ k ih =>
    refine findTo_miss (ih (fun i h hi => hno i h (by omega))) ?_
    rintro ⟨h1, h2⟩
    exact hno k (by omega) (by omega) (isAt_head hx h1 h2)
theorem findN_first {t x : ByteArray} (k : Nat) (hx : 0 < x.size) (hk : k + x.size ≤ t.size) (hat : isAt t x k = true) (hno : ∀ i (h : i < t.size), i < k → t[i] ≠ x[0]) : findN t x = some k := by
  have h := findTo_keep (findTo_hit (findTo_no hx k hno) hk hat) (t.size - k)
  unfold findN
  rw [show t.size + 1 = k + 1 + (t.size - k) by omega, h]
theorem findN_nowhere {t x : ByteArray} (hx : 0 < x.size) (hno : ∀ i (h : i < t.size), t[i] ≠ x[0]) : findN t x = none :=
  findTo_no hx _ (fun i h _ => hno i h)
theorem isAt_mid (a x b : ByteArray) : isAt (a ++ x ++ b) x a.size = true := by
  unfold isAt
  rw [beq_iff_eq]
  congr 1
  have h := ByteArray.extract_append_size_add (a := a) (b := x ++ b) (i := 0) (j := x.size)
  rw [Nat.add_zero] at h
  rw [ByteArray.append_assoc, h]
  exact ByteArray.extract_append_eq_left rfl
theorem findN_mid (a x b : ByteArray) (hx : 0 < x.size) (hno : ∀ i (h : i < a.size), a[i] ≠ x[0]) : findN (a ++ x ++ b) x = some a.size := by
  refine findN_first a.size hx (by rw [ByteArray.size_append, ByteArray.size_append]; omega) (isAt_mid a x b) ?_
  intro i h hi
  rw [ByteArray.getElem_append_left (by rw [ByteArray.size_append]; omega), ByteArray.getElem_append_left hi]
  exact hno i hi

theorem tail_of (a b : ByteArray) (n : Nat) (h : n = a.size) : (a ++ b).extract n (a ++ b).size = b := ByteArray.extract_append_eq_right h ByteArray.size_append
theorem head_of (a b : ByteArray) (n : Nat) (h : n = a.size) : (a ++ b).extract 0 n = a := ByteArray.extract_append_eq_left h

/-- the number that digits tell -/
def numL (l : List UInt8) : Nat := l.foldl (fun n c => 10 * n + (c.toNat - 48)) 0
theorem numL_snoc (l : List UInt8) (d : UInt8) : numL (l ++ [d]) = 10 * numL l + (d.toNat - 48) := by
  unfold numL; rw [List.foldl_append]; rfl
theorem numTo_take (t : ByteArray) (i : Nat) (h : i ≤ t.size) : numTo t i = numL (t.data.toList.take i) := by
  induction i with
  | zero => rfl
  | succ i ih =>
    have hl : i < t.data.toList.length := by simp; omega
    rw [numTo_succ (by omega), ih (by omega), List.take_succ_eq_append_getElem hl, numL_snoc]
    rfl
theorem digit_nat (m : Nat) : (UInt8.ofNat (48 + m % 10)).toNat = 48 + m % 10 := by
  rw [UInt8.toNat_ofNat']
  have : m % 10 < 10 := Nat.mod_lt _ (by decide)
  omega
theorem decA_num (m : Nat) : numL (decA m) = m := by
  induction m using Nat.strongRecOn with
  | _ m ih =>
    by_cases h : m = 0
    · subst h; rfl
    · rw [decA_pos (by omega), numL_snoc, ih (m / 10) (by omega), digit_nat]; omega
theorem decA_dig (m : Nat) : ∀ c ∈ decA m, 48 ≤ c.toNat ∧ c.toNat ≤ 57 := by
  induction m using Nat.strongRecOn with
  | _ m ih =>
    by_cases h : m = 0
    · subst h; intro c hc; cases hc
    · rw [decA_pos (by omega)]
      intro c hc
      rw [List.mem_append] at hc
      rcases hc with hc | hc
      · exact ih (m / 10) (by omega) c hc
      · rw [List.mem_singleton] at hc
        subst hc
        rw [digit_nat]; omega
theorem decA_lead (m : Nat) (h : 0 < m) : ∃ c l, decA m = c :: l ∧ ¬ c.toNat = 48 := by
  induction m using Nat.strongRecOn with
  | _ m ih =>
    by_cases h10 : m < 10
    · rw [decA_pos h, show m / 10 = 0 by omega, decA_zero]
      exact ⟨_, _, rfl, by rw [digit_nat]; omega⟩
    · obtain ⟨c, l, hc, hn⟩ := ih (m / 10) (by omega) (by omega)
      rw [decA_pos h, hc]
      exact ⟨c, _, rfl, hn⟩
theorem decB_back (n : Int) (h1 : 1 ≤ n) (h2 : n ≤ 65535) : numI (decB n) = n := by
  have hd : decB n = ⟨(decA n.natAbs).toArray⟩ := by rw [decB, if_neg (by omega), if_neg (by omega)]
  have hz : (decB n).size = (decA n.natAbs).length := by rw [hd]; rfl
  have hl := decA_len 5 n.natAbs (by omega)
  obtain ⟨c, l, hc, hn⟩ := decA_lead n.natAbs (by omega)
  have hp : 0 < (decA n.natAbs).length := by rw [hc]; simp
  rw [numI_yes (by omega) (by omega)]
  · rw [numTo_take _ _ (Nat.le_refl _), hd]
    show ((numL ((decA n.natAbs).take (decA n.natAbs).length) : Nat) : Int) = n
    rw [List.take_length, decA_num]; omega
  · intro _ h0
    have e : (decB n)[0] = c := by
      simp only [hd]
      show (decA n.natAbs)[0] = c
      simp only [hc]; rfl
    rw [e]; exact hn
  · intro i h
    have e : (decB n)[i] = (decA n.natAbs)[i]'(by omega) := by
      simp only [hd]; rfl
    rw [e]
    exact digC_yes (decA_dig n.natAbs _ (List.getElem_mem _))
theorem decB_dig (n : Int) (h1 : 1 ≤ n) : ∀ i (h : i < (decB n).size), 48 ≤ (decB n)[i].toNat ∧ (decB n)[i].toNat ≤ 57 := by
  have hd : decB n = ⟨(decA n.natAbs).toArray⟩ := by rw [decB, if_neg (by omega), if_neg (by omega)]
  intro i h
  have hz : (decB n).size = (decA n.natAbs).length := by rw [hd]; rfl
  have e : (decB n)[i] = (decA n.natAbs)[i]'(by omega) := by
    simp only [hd]; rfl
  rw [e]
  exact decA_dig n.natAbs _ (List.getElem_mem _)

/-- each byte of a text is the one that it is cut at, or one of a piece's -/
theorem splitTo_bytes (s : ByteArray) (c k : Nat) : ∀ i (h : i < s.size), i < k → s[i].toNat = c ∨ (∃ x ∈ (splitTo s c k).1, ∃ j, ∃ hj : j < x.size, x[j] = s[i]) ∨ (splitTo s c k).2 ≤ i := by
  induction k with
  | zero => intro i _ h; omega
  | succ k ih =>
    intro i h hi
    by_cases hk : k < s.size
    · by_cases hc : s[k].toNat = c
      · rw [splitTo_hit hk hc]
        by_cases e : i = k
        · subst e; exact .inl hc
        · rcases ih i h (by omega) with h1 | ⟨x, hx, hj⟩ | h1
          · exact .inl h1
          · exact .inr (.inl ⟨x, List.mem_append_left _ hx, hj⟩)
          · refine .inr (.inl ⟨_, List.mem_append_right _ (List.mem_singleton.mpr rfl), i - (splitTo s c k).2, ?_, ?_⟩)
            · rw [ByteArray.size_extract]; omega
            · rw [ByteArray.getElem_extract]
              congr 1; omega
      · rw [splitTo_miss hk hc]
        by_cases e : i = k
        · subst e; exact .inr (.inr (splitTo_le s c i).1)
        · exact ih i h (by omega)
    · have e : splitTo s c (k + 1) = splitTo s c k := by rw [splitTo, dif_neg hk]
      rw [e]
      exact ih i h (by omega)
theorem splitB_bytes (s : ByteArray) (c : Nat) : ∀ i (h : i < s.size), s[i].toNat = c ∨ ∃ x ∈ splitB s c, ∃ j, ∃ hj : j < x.size, x[j] = s[i] := by
  intro i h
  rcases splitTo_bytes s c s.size i h h with h1 | ⟨x, hx, hj⟩ | h1
  · exact .inl h1
  · exact .inr ⟨x, List.mem_append_left _ hx, hj⟩
  · refine .inr ⟨_, List.mem_append_right _ (List.mem_singleton.mpr rfl), i - (splitTo s c s.size).2, ?_, ?_⟩
    · rw [ByteArray.size_extract]; omega
    · rw [ByteArray.getElem_extract]
      congr 1; omega
theorem hostB_bytes {s : ByteArray} (h : hostB s = true) : ∀ i (h : i < s.size), ((97 ≤ s[i].toNat ∧ s[i].toNat ≤ 122) ∨ (48 ≤ s[i].toNat ∧ s[i].toNat ≤ 57) ∨ s[i].toNat = 45) ∨ s[i].toNat = 46 := by
  intro i hi
  unfold hostB at h
  simp only [Bool.and_eq_true] at h
  rcases splitB_bytes s 46 i hi with h1 | ⟨x, hx, j, hj, e⟩
  · exact .inr h1
  · refine .inl ?_
    have hl := List.all_eq_true.mp h.1.2 x hx
    unfold labelB at hl
    rw [decide_eq_true_iff] at hl
    have := hl.2.2.2.2 j hj
    rw [e] at this
    unfold labC at this
    rwa [decide_eq_true_iff] at this
theorem ne_of_nat {a b : UInt8} (h : a.toNat ≠ b.toNat) : a ≠ b := fun e => h (by rw [e])
end Go.Proofs.YthcpmbolnmlohaaDoor

/- A right SetCookie comes back from its text: plain facts, no walk. -/
namespace Go.Proofs.YthcpmbolnmlohaaDoor

theorem findI_mid (a x b : ByteArray) (hx : 0 < x.size) (hno : ∀ i (h : i < a.size), a[i] ≠ x[0]) : findI (a ++ x ++ b) x = a.size := by
  unfold findI; rw [findN_mid a x b hx hno]
theorem findI_nowhere {t x : ByteArray} (hx : 0 < x.size) (hno : ∀ i (h : i < t.size), t[i] ≠ x[0]) : findI t x = -1 := by
  unfold findI; rw [findN_nowhere hx hno]
/-- a text without a byte -/
def Lacks (t : ByteArray) (c : UInt8) : Prop := ∀ i (h : i < t.size), t[i] ≠ c
theorem Lacks.app {a b : ByteArray} {c : UInt8} (h1 : Lacks a c) (h2 : Lacks b c) : Lacks (a ++ b) c := by
  intro i h
  by_cases hi : i < a.size
  · rw [ByteArray.getElem_append_left hi]; exact h1 i hi
  · rw [ByteArray.getElem_append_right (by omega)]; exact h2 _ _
theorem pieces_one {a : ByteArray} (h : Lacks a 59) : piecesL a = [a] := by
  rw [piecesL, dif_neg]
  rw [findI_nowhere (t := a) (x := semi) (by decide) h]; decide
theorem pieces_cons {a : ByteArray} (b : ByteArray) (h : Lacks a 59) : piecesL (a ++ semi ++ b) = a :: piecesL b := by
  have e := findI_mid a semi b (by decide) h
  have s2 : (a ++ semi).size = a.size + 2 := by rw [ByteArray.size_append]; rfl
  rw [piecesL, dif_pos (by rw [e]; omega), e]
  have e0 : ((a.size : Int)).toNat = a.size := by omega
  rw [e0, tail_of (a ++ semi) b _ s2.symm, ByteArray.append_assoc, head_of a _ _ rfl]
theorem pair_mid {a : ByteArray} (b : ByteArray) (h : Lacks a 61) : pairP (a ++ equ ++ b) = (a, b) := by
  have e := findI_mid a equ b (by decide) h
  have s2 : (a ++ equ).size = a.size + 1 := by rw [ByteArray.size_append]; rfl
  rw [pairP_yes e, tail_of (a ++ equ) b _ s2.symm, ByteArray.append_assoc, head_of a _ _ rfl]
theorem pair_nowhere {a : ByteArray} (h : Lacks a 61) : pairP a = (a, ⟨#[]⟩) := by
  refine pairP_no ?_
  rw [findI_nowhere (t := a) (x := equ) (by decide) h]; decide

/-- pieces, each with '; ' ahead -/
def flat : List ByteArray → ByteArray
  | [] => ⟨#[]⟩
  | p :: r => semi ++ p ++ flat r
theorem app_nil (x : ByteArray) : x ++ (⟨#[]⟩ : ByteArray) = x := by apply ByteArray.ext; simp
theorem nil_app (x : ByteArray) : (⟨#[]⟩ : ByteArray) ++ x = x := by apply ByteArray.ext; simp
theorem flat_app (r s : List ByteArray) : flat (r ++ s) = flat r ++ flat s := by
  induction r with
  | nil => exact (nil_app _).symm
  | cons p r ih => show semi ++ p ++ flat (r ++ s) = semi ++ p ++ flat r ++ flat s; rw [ih, ByteArray.append_assoc (a := semi ++ p)]
theorem pieces_flat (p : ByteArray) (r : List ByteArray) (hp : Lacks p 59) (h : ∀ q ∈ r, Lacks q 59) : piecesL (p ++ flat r) = p :: r := by
  induction r generalizing p with
  | nil => rw [flat, app_nil]; exact pieces_one hp
  | cons q r ih =>
    have e : p ++ flat (q :: r) = p ++ semi ++ (q ++ flat r) := by
      show p ++ (semi ++ q ++ flat r) = _
      simp only [ByteArray.append_assoc]
    rw [e, pieces_cons _ hp, ih q (h q (by simp)) (fun x hx => h x (by simp [hx]))]
theorem scTo_foldl (p : ByteArray) (r : List ByteArray) (i : Nat) (h : i ≤ r.length) : scTo (p :: r) i = (r.take i).foldl scPut ⟨(pairP p).1, (pairP p).2, ⟨#[]⟩, ⟨#[]⟩, -1, false, 0, false⟩ := by
  induction i with
  | zero => rfl
  | succ i ih =>
    have hl : i < r.length := by omega
    have e : atL (p :: r) (i + 1) = r[i] := by simp [atL, hl]
    rw [scTo, ih (by omega), e, List.take_succ_eq_append_getElem hl, List.foldl_append]
    rfl

def nDomain : ByteArray := ⟨#[68, 111, 109, 97, 105, 110]⟩
def nPath : ByteArray := ⟨#[80, 97, 116, 104]⟩
def nAge : ByteArray := ⟨#[77, 97, 120, 45, 65, 103, 101]⟩
def nSecure : ByteArray := ⟨#[83, 101, 99, 117, 114, 101]⟩
def nParted : ByteArray := ⟨#[80, 97, 114, 116, 105, 116, 105, 111, 110, 101, 100]⟩
def nSame : ByteArray := ⟨#[83, 97, 109, 101, 83, 105, 116, 101]⟩
def vStrict : ByteArray := ⟨#[83, 116, 114, 105, 99, 116]⟩
def vNone : ByteArray := ⟨#[78, 111, 110, 101]⟩
def o1 (dm : ByteArray) : List ByteArray := if dm.toList.isEmpty = true then [] else [nDomain ++ equ ++ dm]
def o2 (pa : ByteArray) : List ByteArray := if pa.toList.isEmpty = true then [] else [nPath ++ equ ++ pa]
def o3 (ag : Int) : List ByteArray := if 0 ≤ ag then [nAge ++ equ ++ decB ag] else []
def o4 (se : Bool) : List ByteArray := if se = true then [nSecure] else []
def o5 (mo : Int) : List ByteArray := if mo = 1 then [nSame ++ equ ++ vStrict] else if mo = 2 then [nSame ++ equ ++ vNone] else []
def o6 (pt : Bool) : List ByteArray := if pt = true then [nParted] else []
theorem flat_one (p : ByteArray) : flat [p] = semi ++ p := by show semi ++ p ++ ⟨#[]⟩ = _; rw [app_nil]
theorem t1_flat (x dm : ByteArray) : setT1 x dm = x ++ flat (o1 dm) := by
  unfold setT1 o1; split
  · exact (app_nil x).symm
  · rw [flat_one, show kDomain = semi ++ (nDomain ++ equ) from by rfl]; simp only [ByteArray.append_assoc]
theorem t2_flat (x pa : ByteArray) : setT2 x pa = x ++ flat (o2 pa) := by
  unfold setT2 o2; split
  · exact (app_nil x).symm
  · rw [flat_one, show kPath = semi ++ (nPath ++ equ) from by rfl]; simp only [ByteArray.append_assoc]
theorem t3_flat (x : ByteArray) (ag : Int) : setT3 x ag = x ++ flat (o3 ag) := by
  unfold setT3 o3; split
  · rw [flat_one, show kAge = semi ++ (nAge ++ equ) from by rfl]; simp only [ByteArray.append_assoc]
  · exact (app_nil x).symm
theorem t4_flat (x : ByteArray) (se : Bool) : setT4 x se = x ++ flat (o4 se) := by
  unfold setT4 o4; split
  · rw [flat_one]; rfl
  · exact (app_nil x).symm
theorem t5_flat (x : ByteArray) (mo : Int) : setT5 x mo = x ++ flat (o5 mo) := by
  unfold setT5 o5; split
  · rw [flat_one]; rfl
  · split
    · rw [flat_one]; rfl
    · exact (app_nil x).symm
theorem t6_flat (x : ByteArray) (pt : Bool) : setT6 x pt = x ++ flat (o6 pt) := by
  unfold setT6 o6; split
  · rw [flat_one]; rfl
  · exact (app_nil x).symm
theorem setT_flat (na va dm pa : ByteArray) (ag : Int) (se : Bool) (mo : Int) (pt : Bool) : setT na va dm pa ag se mo pt = (na ++ equ ++ va) ++ flat (o1 dm ++ o2 pa ++ o3 ag ++ o4 se ++ o5 mo ++ o6 pt) := by
  unfold setT
  rw [t6_flat, t5_flat, t4_flat, t3_flat, t2_flat, t1_flat, show setT0 na va = na ++ equ ++ va from rfl]
  simp only [flat_app, ByteArray.append_assoc]

instance (t : ByteArray) (c : UInt8) : Decidable (Lacks t c) := by unfold Lacks; infer_instance
theorem wordB_bytes {t : ByteArray} (h : wordB t = true) : Lacks t 59 ∧ Lacks t 61 := by
  unfold wordB at h
  rw [Bool.and_eq_true, decide_eq_true_eq] at h
  constructor <;> intro i hi e <;> have := h.1 i hi <;> rw [e] at this <;> revert this <;> decide
theorem host_bytes {t : ByteArray} (h : hostB t = true) : Lacks t 59 := by
  intro i hi e
  have := hostB_bytes h i hi
  rw [e] at this
  revert this; decide
theorem path_bytes {t : ByteArray} (h : pathB t = true) : Lacks t 59 := by
  unfold pathB at h
  rw [decide_eq_true_eq] at h
  intro i hi e
  have := h.2.2.2 i hi
  rw [e] at this
  revert this; decide
theorem nil_of {t : ByteArray} (h : t.toList.isEmpty = true) : t = ⟨#[]⟩ := by
  rw [Lib.toList_data, List.isEmpty_iff] at h
  apply ByteArray.ext
  exact Array.toList_inj.mp h
theorem orB_bytes {t : ByteArray} {b : Bool} (h : orB t b = true) (hb : b = true → Lacks t 59) : Lacks t 59 := by
  unfold orB at h
  rw [Bool.or_eq_true] at h
  rcases h with h | h
  · rw [nil_of h]; intro i hi; exact absurd hi (by show ¬ i < 0; omega)
  · exact hb h
theorem dec_bytes (ag : Int) (h : 0 ≤ ag) : Lacks (decB ag) 59 := by
  by_cases h0 : ag = 0
  · subst h0; decide
  · intro i hi e
    have := decB_dig ag (by omega) i hi
    rw [e] at this
    revert this; decide
/-- a number up to MaxTime comes back -/
theorem age_back (n : Int) (h1 : 0 ≤ n) (h2 : n ≤ 1000000) : numI (decB n) = n := by
  by_cases h0 : n = 0
  · subst h0; decide
  have hd : decB n = ⟨(decA n.natAbs).toArray⟩ := by rw [decB, if_neg (by omega), if_neg (by omega)]
  have hz : (decB n).size = (decA n.natAbs).length := by rw [hd]; rfl
  have hl := decA_len 7 n.natAbs (by omega)
  obtain ⟨c, l, hc, hn⟩ := decA_lead n.natAbs (by omega)
  have hp : 0 < (decA n.natAbs).length := by rw [hc]; simp
  rw [numI_yes (by omega) (by omega)]
  · rw [numTo_take _ _ (Nat.le_refl _), hd]
    show ((numL ((decA n.natAbs).take (decA n.natAbs).length) : Nat) : Int) = n
    rw [List.take_length, decA_num]; omega
  · intro _ h0
    have e : (decB n)[0] = c := by
      simp only [hd]
      show (decA n.natAbs)[0] = c
      simp only [hc]; rfl
    rw [e]; exact hn
  · intro i h
    have e : (decB n)[i] = (decA n.natAbs)[i]'(by omega) := by
      simp only [hd]; rfl
    rw [e]
    exact digC_yes (decA_dig n.natAbs _ (List.getElem_mem _))

theorem put1 (c : SC) (dm : ByteArray) (h : c.dm = ⟨#[]⟩) : (o1 dm).foldl scPut c = { c with dm := dm } := by
  unfold o1; split
  · rename_i e; rw [nil_of e, ← h]; rfl
  · show scPut c (nDomain ++ equ ++ dm) = _
    unfold scPut
    rw [pair_mid dm (a := nDomain) (by decide), if_pos (by rw [Lib.toList_data]; dsimp only; decide)]
theorem put2 (c : SC) (pa : ByteArray) (h : c.pa = ⟨#[]⟩) : (o2 pa).foldl scPut c = { c with pa := pa } := by
  unfold o2; split
  · rename_i e; rw [nil_of e, ← h]; rfl
  · show scPut c (nPath ++ equ ++ pa) = _
    unfold scPut
    rw [pair_mid pa (a := nPath) (by decide), if_neg (by rw [Lib.toList_data]; dsimp only; decide), if_pos (by rw [Lib.toList_data]; dsimp only; decide)]
theorem put3 (c : SC) (ag : Int) (h : c.ag = -1) (h1 : -1 ≤ ag) (h2 : ag ≤ 1000000) : (o3 ag).foldl scPut c = { c with ag := ag } := by
  unfold o3; split
  · show scPut c (nAge ++ equ ++ decB ag) = _
    unfold scPut
    rw [pair_mid (decB ag) (a := nAge) (by decide), if_neg (by rw [Lib.toList_data]; dsimp only; decide), if_neg (by rw [Lib.toList_data]; dsimp only; decide), if_pos (by rw [Lib.toList_data]; dsimp only; decide), age_back ag (by omega) h2]
  · have e : ag = -1 := by omega
    rw [e, ← h]; rfl
theorem put4 (c : SC) (se : Bool) (h : c.se = false) : (o4 se).foldl scPut c = { c with se := se } := by
  unfold o4; split
  · rename_i e
    show scPut c nSecure = _
    unfold scPut
    rw [pair_nowhere (a := nSecure) (by decide), if_neg (by rw [Lib.toList_data]; dsimp only; decide), if_neg (by rw [Lib.toList_data]; dsimp only; decide), if_neg (by rw [Lib.toList_data]; dsimp only; decide), if_pos (by rw [Lib.toList_data]; dsimp only; decide), e]
  · rename_i e
    rw [Bool.eq_false_iff.mpr e, ← h]; rfl
theorem put5 (c : SC) (mo : Int) (h : c.mo = 0) (hm : modeB mo = true) : (o5 mo).foldl scPut c = { c with mo := mo } := by
  unfold o5; split
  · rename_i e
    show scPut c (nSame ++ equ ++ vStrict) = _
    unfold scPut
    rw [pair_mid vStrict (a := nSame) (by decide), if_neg (by rw [Lib.toList_data]; dsimp only; decide), if_neg (by rw [Lib.toList_data]; dsimp only; decide), if_neg (by rw [Lib.toList_data]; dsimp only; decide), if_neg (by rw [Lib.toList_data]; dsimp only; decide), if_neg (by rw [Lib.toList_data]; dsimp only; decide), if_pos (by rw [Lib.toList_data]; dsimp only; decide), if_pos (by rw [Lib.toList_data]; dsimp only; decide), e]
  · split
    · rename_i e
      show scPut c (nSame ++ equ ++ vNone) = _
      unfold scPut
      rw [pair_mid vNone (a := nSame) (by decide), if_neg (by rw [Lib.toList_data]; dsimp only; decide), if_neg (by rw [Lib.toList_data]; dsimp only; decide), if_neg (by rw [Lib.toList_data]; dsimp only; decide), if_neg (by rw [Lib.toList_data]; dsimp only; decide), if_neg (by rw [Lib.toList_data]; dsimp only; decide), if_pos (by rw [Lib.toList_data]; dsimp only; decide), if_neg (by rw [Lib.toList_data]; dsimp only; decide), e]
    · unfold modeB at hm
      rw [Bool.and_eq_true, decide_eq_true_eq, decide_eq_true_eq] at hm
      have e : mo = 0 := by omega
      rw [e, ← h]; rfl
theorem put6 (c : SC) (pt : Bool) (h : c.pt = false) : (o6 pt).foldl scPut c = { c with pt := pt } := by
  unfold o6; split
  · rename_i e
    show scPut c nParted = _
    unfold scPut
    rw [pair_nowhere (a := nParted) (by decide), if_neg (by rw [Lib.toList_data]; dsimp only; decide), if_neg (by rw [Lib.toList_data]; dsimp only; decide), if_neg (by rw [Lib.toList_data]; dsimp only; decide), if_neg (by rw [Lib.toList_data]; dsimp only; decide), if_pos (by rw [Lib.toList_data]; dsimp only; decide), e]
  · rename_i e
    rw [Bool.eq_false_iff.mpr e, ← h]; rfl
/-- the pieces of a right one's text -/
theorem set_pieces (na va dm pa : ByteArray) (ag : Int) (se : Bool) (mo : Int) (pt : Bool) (h : setB na va dm pa ag mo = true) : piecesL (setT na va dm pa ag se mo pt) = (na ++ equ ++ va) :: (o1 dm ++ o2 pa ++ o3 ag ++ o4 se ++ o5 mo ++ o6 pt) ∧ Lacks na 61 ∧ -1 ≤ ag ∧ ag ≤ 1000000 ∧ modeB mo = true := by
  have h' := h
  unfold setB ageB at h'
  simp only [Bool.and_eq_true, decide_eq_true_eq] at h'
  obtain ⟨⟨⟨⟨⟨⟨_, w1⟩, w2⟩, w3⟩, w4⟩, w5, w6⟩, w7⟩ := h'
  have L1 := wordB_bytes w1
  have L2 := wordB_bytes w2
  have L3 := orB_bytes w3 host_bytes
  have L4 := orB_bytes w4 path_bytes
  refine ⟨?_, L1.2, w5, w6, w7⟩
  rw [setT_flat]
  refine pieces_flat _ _ ((L1.1.app (by decide)).app L2.1) ?_
  intro q hq
  simp only [List.mem_append] at hq
  rcases hq with ((((hq | hq) | hq) | hq) | hq) | hq
  · unfold o1 at hq; split at hq
    · cases hq
    · rw [List.mem_singleton] at hq; subst hq; exact Lacks.app (by decide) L3
  · unfold o2 at hq; split at hq
    · cases hq
    · rw [List.mem_singleton] at hq; subst hq; exact Lacks.app (by decide) L4
  · unfold o3 at hq; split at hq
    · rw [List.mem_singleton] at hq; subst hq; exact Lacks.app (by decide) (dec_bytes ag (by omega))
    · cases hq
  · unfold o4 at hq; split at hq
    · rw [List.mem_singleton] at hq; subst hq; decide
    · cases hq
  · unfold o5 at hq; split at hq
    · rw [List.mem_singleton] at hq; subst hq; decide
    · split at hq
      · rw [List.mem_singleton] at hq; subst hq; decide
      · cases hq
  · unfold o6 at hq; split at hq
    · rw [List.mem_singleton] at hq; subst hq; decide
    · cases hq
/-- a right one is read back from its text -/
theorem set_back (na va dm pa : ByteArray) (ag : Int) (se : Bool) (mo : Int) (pt : Bool) (h : setB na va dm pa ag mo = true) : scRead (setT na va dm pa ag se mo pt) = ⟨na, va, dm, pa, ag, se, mo, pt⟩ := by
  obtain ⟨hp, L1, w5, w6, w7⟩ := set_pieces na va dm pa ag se mo pt h
  unfold scRead
  rw [hp, List.length_cons, Nat.add_sub_cancel, scTo_foldl _ _ _ (Nat.le_refl _), List.take_length, pair_mid va L1]
  simp only [List.foldl_append]
  rw [put1 _ dm rfl, put2 _ pa rfl, put3 _ ag rfl w5 w6, put4 _ se rfl, put5 _ mo rfl w7, put6 _ pt rfl]
theorem set_got (na va dm pa : ByteArray) (ag : Int) (se : Bool) (mo : Int) (pt : Bool) (h : setB na va dm pa ag mo = true) (hz : (setT na va dm pa ag se mo pt).size ≤ 8000) : scGot (setTx na va dm pa ag se mo pt) = (⟨na, va, dm, pa, ag, se, mo, pt⟩, 0) := by
  have e : setTx na va dm pa ag se mo pt = setT na va dm pa ag se mo pt := by unfold setTx; rw [if_pos h]
  have b := set_back na va dm pa ag se mo pt h
  have hne : (setT na va dm pa ag se mo pt).toList.isEmpty = false := by
    rw [setT_flat, Lib.toList_data]
    show ((na ++ equ ++ va ++ flat _).data.toList).isEmpty = false
    rw [← Bool.not_eq_true, List.isEmpty_iff]
    intro hh
    have := congrArg List.length hh
    simp [equ] at this
  unfold scGot
  rw [e, if_neg (by omega), if_pos, b]
  unfold scOk scTx
  rw [b, hne]
  simp only [e]
  simp
end Go.Proofs.YthcpmbolnmlohaaDoor
