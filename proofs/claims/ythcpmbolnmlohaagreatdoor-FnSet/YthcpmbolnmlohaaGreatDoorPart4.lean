/- 13 of this claim's texts, one behind the other. -/
import Derived.Test.YthcpmbolnmlohaaGreatDoorPart1
import Derived.Test.YthcpmbolnmlohaaGreatDoorPart3
import Derived.Lib.IndexMore
import Derived.Lib.CutLaws
import Derived.Lib.CountLaws
import Derived.Lib.ItoaMem
import Derived.Test.YthcpmbolnmlohaaGreatDoorShelf
import Derived.Lib.AppendIntMem
import Derived.Shelf.Strconv.Itoa4
import Derived.WalkKit
import Derived.WalkSpells
import Derived.WalkLawsBesides
import Derived.Laws.RangeAny
import Derived.Test.YthcpmbolnmlohaaGreatDoorPart2
import Derived.Deep.DeepCutAuto
/- What the library finds, cuts, splits and trims is what the plain functions tell. -/
namespace Go.Proofs.YthcpmbolnmlohaaGreatDoor

theorem isAt_occ (t x : ByteArray) (i : Nat) (h : i + x.size ≤ t.size) : Lib.occAt t.data.toList x.data.toList i = isAt t x i := by
  have e1 : x.data.toList.length = x.size := (Lib.size_eq x).symm
  have e2 : t.data.toList.length = t.size := (Lib.size_eq t).symm
  rw [Lib.occAt_iff_take _ _ _ (by omega)]
  unfold isAt
  rw [Lib.toList_data, Lib.toList_data, extract_list, e1, Nat.add_sub_cancel_left]
theorem findTo_noL {t x : ByteArray} : ∀ {i : Nat}, findTo t x i = none → ∀ j, j < i → ¬ (j + x.size ≤ t.size ∧ isAt t x j = true)
  | 0, _, j, hj => by omega
  | i + 1, h, j, hj => by
    cases hf : findTo t x i with
    | some k => rw [findTo, hf] at h; cases h
    | none =>
      by_cases e : j = i
      · subst e
        intro hc
        rw [findTo_hit hf hc.1 hc.2] at h; cases h
      · exact findTo_noL hf j (by omega)
theorem findTo_firstL {t x : ByteArray} : ∀ {i k : Nat}, findTo t x i = some k → ∀ j, j < k → ¬ (j + x.size ≤ t.size ∧ isAt t x j = true)
  | 0, _, h => by cases h
  | i + 1, k, h => by
    intro j hj
    cases hf : findTo t x i with
    | some m =>
      rw [findTo, hf] at h
      obtain rfl : m = k := by simpa using h
      exact findTo_firstL hf j hj
    | none =>
      have hk := (findTo_lt h).1
      exact findTo_noL hf j (by omega)
/-- the library's first place is the specification's -/
theorem index_find (t x : ByteArray) (hx : 0 < x.size) : Lib.indexB t x = findI t x := by
  have e1 : x.data.toList.length = x.size := (Lib.size_eq x).symm
  have e2 : t.data.toList.length = t.size := (Lib.size_eq t).symm
  have hne : x.data.toList ≠ [] := fun e => by rw [e] at e1; simp at e1; omega
  show Lib.index t.data.toList x.data.toList = _
  unfold findI findN
  cases hf : findTo t x (t.size + 1) with
  | some k =>
    obtain ⟨h1, h2, h3⟩ := findTo_lt hf
    refine Lib.index_first (by omega) (by rw [isAt_occ t x k h2]; exact h3) (fun j hj => ?_)
    have := findTo_firstL hf j hj
    cases ho : Lib.occAt t.data.toList x.data.toList j with
    | false => rfl
    | true =>
      exfalso
      apply this
      have hr : j + x.size ≤ t.size := (Lib.occAt_room ho).elim (fun h => by omega) (fun h => absurd h hne)
      exact ⟨hr, by rw [← isAt_occ t x j hr]; exact ho⟩
  | none =>
    rcases Lib.index_spec t.data.toList x.data.toList with ⟨h, _⟩ | ⟨i, h1, h2, h3, _⟩
    · exact h
    · exfalso
      have hr : i + x.size ≤ t.size := (Lib.occAt_room h3).elim (fun h => by omega) (fun h => absurd h hne)
      exact findTo_noL hf i (by omega) ⟨hr, by rw [← isAt_occ t x i hr]; exact h3⟩
theorem pieces_lib (t : ByteArray) : Lib.splitB semi 0 (Lib.countB t semi) t = piecesL t := by
  generalize hn : t.size = n
  induction n using Nat.strongRecOn generalizing t with
  | _ n ih =>
    have ei := index_find t semi (by decide)
    by_cases h : 0 ≤ findI t semi
    · obtain ⟨h1, h2⟩ := find_in h
      have e : semi.size = 2 := rfl
      rw [e] at h1
      obtain ⟨k, hk⟩ : ∃ k : Nat, findI t semi = k := ⟨_, h2⟩
      rw [hk] at ei h1
      have hkn : k + 2 ≤ t.size := by simpa using h1
      have hz : (t.extract (k + 2) t.size).size = t.size - (k + 2) := by rw [ByteArray.size_extract]; omega
      rw [piecesL_more hk, Lib.countB_hit t semi k (by decide) ei, Nat.add_comm 1, Lib.splitB_hit semi 0 _ t k ei, e, ih _ (by omega) _ hz]
      rfl
    · rw [piecesL_last h, Lib.splitB_miss semi 0 _ t (by rw [ei, findI_neg h])]
theorem pieces_count (t : ByteArray) : Lib.countB t semi + 1 = (piecesL t).length := by
  rw [← pieces_lib, Lib.splitB_all semi (by decide) 0 _ t rfl]
theorem pair_lib (t : ByteArray) : (⟨(Lib.cut t.data.toList equ.data.toList).1.toArray⟩ : ByteArray) = (pairP t).1 ∧ (⟨(Lib.cut t.data.toList equ.data.toList).2.1.toArray⟩ : ByteArray) = (pairP t).2 := by
  have ei := index_find t equ (by decide)
  by_cases h : 0 ≤ findI t equ
  · obtain ⟨k, hk⟩ : ∃ k : Nat, findI t equ = k := ⟨_, (find_in h).2⟩
    rw [hk] at ei
    obtain ⟨a, b, -⟩ := Lib.cutB_hit t equ k ei
    rw [pairP_yes hk]
    exact ⟨a, b⟩
  · rw [findI_neg h] at ei
    obtain ⟨a, b, -⟩ := Lib.cutB_miss t equ ei
    rw [pairP_no h]
    exact ⟨a, b⟩
end Go.Proofs.YthcpmbolnmlohaaGreatDoor

/- The library's digits of a number are decB's. -/
namespace Go.Proofs.YthcpmbolnmlohaaGreatDoor
theorem decA_lib (m : Nat) (h : 0 < m) : Lib.decDigits m = decA m := by
  induction m using Nat.strongRecOn with
  | _ m ih =>
    rw [Lib.decDigits, decA_pos h]
    split
    · rename_i h10
      rw [show m / 10 = 0 by omega, decA_zero, Nat.mod_eq_of_lt h10]; rfl
    · rw [ih (m / 10) (by omega) (by omega)]
theorem dec_lib (n : Nat) : (⟨(Lib.itoa (n : Int)).toArray⟩ : ByteArray) = decB (n : Int) := by
  rw [Lib.itoa_nonneg]
  unfold decB
  by_cases h : n = 0
  · subst h
    rw [if_pos (by omega), Lib.decDigits_one (by decide)]; rfl
  · rw [if_neg (by omega), if_neg (by omega), decA_lib n (by omega)]; rfl
end Go.Proofs.YthcpmbolnmlohaaGreatDoor

/- The library's Split and the digits of a number, as the program calls them, over the contracts laid at this translation. -/
namespace Go.Proofs.YthcpmbolnmlohaaGreatDoor
open Go.RowKit

/-- the library's variable MaxLen holds some number -/
def MaxI (w : World) : Prop := ∃ m : Int, w.cell? ⟨1, 0, none⟩ = some (.int .i64 m)
theorem MaxI.on {w w' : World} (h : MaxI w) (hb : Below w.heap.size w w') : MaxI w' := by
  obtain ⟨m, hm⟩ := h
  have hlt : 1 < w.heap.size := by
    by_cases h : 1 < w.heap.size
    · exact h
    · exfalso
      simp [World.cell?, Array.getElem?_eq_none (show w.heap.size ≤ 1 by omega)] at hm
  exact ⟨m, by rw [(bcell hb).1 _ _ hlt]; exact hm⟩

theorem split_call (s : ByteArray) (w : World) (hG : MaxI w) (hs : s.size < 4294967281) :
    Calls Tryz.prog 44 #[.string s, .string ⟨#[46]⟩] w fun e w' => e = .returned (.slice (some ⟨w.heap.size, 0, none⟩) (splitB s 46).length (splitB s 46).length) ∧ w' = w.alloc (.cells (strCells (splitB s 46)).toArray 9) := by
  obtain ⟨m, hm⟩ := hG
  have h := Any.strings_Split { Tryz.lays146 with } Tryz.lays146.i9 s ⟨#[46]⟩ m w hs hm (Nat.le_refl 1)
  rw [lib_split s 46, lib_count s 46] at h
  exact h
/-- all cuts and the bytes between them -/
theorem cutL_sum (c : UInt8) : ∀ l : List UInt8, ((cutL c l).map (fun p => p.length + 1)).sum = l.length + 1
  | [] => rfl
  | b :: l => by
    have ih := cutL_sum c l
    rw [cutL]
    split
    · simp only [List.map_cons, List.sum_cons, List.length_nil, List.length_cons, ih]; omega
    · split
      · rename_i h; rw [h] at ih; simp at ih
      · rename_i h
        rw [h] at ih
        simp only [List.map_cons, List.sum_cons, List.length_cons] at ih ⊢
        omega
theorem sum_le (L : List ByteArray) (h : ∀ x ∈ L, x.size ≤ 12) : (L.map (fun p => p.data.toList.length + 1)).sum ≤ 13 * L.length := by
  induction L with
  | nil => exact Nat.le_refl _
  | cons a L ih =>
    have h1 := h a (by simp)
    have h2 := ih (fun x hx => h x (by simp [hx]))
    have e : a.data.toList.length = a.size := (Lib.size_eq a).symm
    simp only [List.map_cons, List.sum_cons, List.length_cons, e]
    omega
theorem labelB_le {t : ByteArray} (h : labelB t = true) : t.size ≤ 12 := by
  by_cases hz : 12 < t.size
  · rw [labelB_size (.inr hz)] at h; cases h
  · omega
theorem host_size {s : ByteArray} (hn : (splitB s 46).length ≤ 6) (h : ∀ k (h : k < (splitB s 46).length), labelB ((splitB s 46)[k]) = true) : s.size ≤ 100 := by
  have e := splitB_cut s 46
  have e2 := cutL_sum 46 s.data.toList
  rw [← e, List.map_map] at e2
  have e3 := sum_le (splitB s 46) (fun x hx => by
    obtain ⟨k, hk, rfl⟩ := List.getElem_of_mem hx
    exact labelB_le (h k hk))
  have e4 : s.data.toList.length = s.size := (Lib.size_eq s).symm
  have e5 : ((splitB s 46).map (fun p => p.data.toList.length + 1)).sum = s.size + 1 := by rw [← e4]; exact e2
  omega
theorem hostB_six {s : ByteArray} (hn : (splitB s 46).length ≤ 6) (h : ∀ k (h : k < (splitB s 46).length), labelB ((splitB s 46)[k]) = true) : hostB s = true := by
  rw [hostB_all (host_size hn h) h]; simpa using hn
theorem hostB_many {s : ByteArray} (hn : 6 < (splitB s 46).length) : hostB s = false := by
  unfold hostB; rw [decide_eq_false (show ¬ (splitB s 46).length ≤ 6 by omega)]; simp
end Go.Proofs.YthcpmbolnmlohaaGreatDoor

/- The walks of the program's inLabel, labelRight and pathRight. -/
namespace Go.Proofs.YthcpmbolnmlohaaGreatDoor
open Go.RowKit

set_option maxRecDepth 10000 in
set_option maxHeartbeats 400000 in
theorem inLabel_any (n : Nat) (w : World) :
    Calls Tryz.prog 75 #[.int .i32 n] w fun e w' => e = .returned (.bool (labC n)) ∧ w' = w := by
  rcases (show (n < 45) ∨ (45 ≤ n ∧ n ≤ 45) ∨ (46 ≤ n ∧ n < 48) ∨ (48 ≤ n ∧ n ≤ 57) ∨ (58 ≤ n ∧ n < 97) ∨ (97 ≤ n ∧ n ≤ 122) ∨ (122 < n) by omega)
    with c1 | ⟨c1, c2⟩ | ⟨c1, c2⟩ | ⟨c1, c2⟩ | ⟨c1, c2⟩ | ⟨c1, c2⟩ | c1
  · have b1 : decide ((97 : Int) ≤ (n : Int)) = false := by rw [decide_eq_false_iff_not]; omega
    have b2 : decide ((48 : Int) ≤ (n : Int)) = false := by rw [decide_eq_false_iff_not]; omega
    have b3 : ((n : Int) == 45) = false := by rw [beq_eq_false_iff_ne]; omega
    go_enter Tryz.func75, Tryz.ntmps75
    go_wp2
    go_ret
    exact ⟨ret_bool (labC_no (by omega)).symm, rfl⟩
  · have b1 : decide ((97 : Int) ≤ (n : Int)) = false := by rw [decide_eq_false_iff_not]; omega
    have b2 : decide ((48 : Int) ≤ (n : Int)) = false := by rw [decide_eq_false_iff_not]; omega
    have b3 : ((n : Int) == 45) = true := by rw [beq_iff_eq]; omega
    go_enter Tryz.func75, Tryz.ntmps75
    go_wp2
    go_ret
    exact ⟨ret_bool (labC_yes (by omega)).symm, rfl⟩
  · have b1 : decide ((97 : Int) ≤ (n : Int)) = false := by rw [decide_eq_false_iff_not]; omega
    have b2 : decide ((48 : Int) ≤ (n : Int)) = false := by rw [decide_eq_false_iff_not]; omega
    have b3 : ((n : Int) == 45) = false := by rw [beq_eq_false_iff_ne]; omega
    go_enter Tryz.func75, Tryz.ntmps75
    go_wp2
    go_ret
    exact ⟨ret_bool (labC_no (by omega)).symm, rfl⟩
  · have b1 : decide ((97 : Int) ≤ (n : Int)) = false := by rw [decide_eq_false_iff_not]; omega
    go_enter Tryz.func75, Tryz.ntmps75
    go_wp2
    go_ret
    exact ⟨ret_bool (labC_yes (by omega)).symm, rfl⟩
  · have b1 : decide ((97 : Int) ≤ (n : Int)) = false := by rw [decide_eq_false_iff_not]; omega
    have b2 : decide ((n : Int) ≤ 57) = false := by rw [decide_eq_false_iff_not]; omega
    have b3 : ((n : Int) == 45) = false := by rw [beq_eq_false_iff_ne]; omega
    go_enter Tryz.func75, Tryz.ntmps75
    go_wp2
    go_ret
    exact ⟨ret_bool (labC_no (by omega)).symm, rfl⟩
  · go_enter Tryz.func75, Tryz.ntmps75
    go_wp2
    go_ret
    exact ⟨ret_bool (labC_yes (by omega)).symm, rfl⟩
  · have b1 : decide ((n : Int) ≤ 122) = false := by rw [decide_eq_false_iff_not]; omega
    have b2 : decide ((n : Int) ≤ 57) = false := by rw [decide_eq_false_iff_not]; omega
    have b3 : ((n : Int) == 45) = false := by rw [beq_eq_false_iff_ne]; omega
    go_enter Tryz.func75, Tryz.ntmps75
    go_wp2
    go_ret
    exact ⟨ret_bool (labC_no (by omega)).symm, rfl⟩

set_option maxRecDepth 10000 in
set_option maxHeartbeats 400000 in
theorem labelRight_any (t : ByteArray) (w : World) (ht : t.size ≤ 9223372036854775807) :
    Calls Tryz.prog 58 #[.string t] w fun e w' => e = .returned (.bool (labelB t)) ∧ Below w.heap.size w w' := by
  by_cases h1 : t.size < 1
  · have q1 : decide ((t.size : Int) - 1 < 0) = true := by rw [decide_eq_true_iff]; omega
    go_enter Tryz.func58, Tryz.ntmps58
    go_wp2
    go_ret
    exact ⟨ret_bool (labelB_size (.inl h1)).symm, Below.refl _ _⟩
  have q1 : decide ((t.size : Int) - 1 < 0) = false := by rw [decide_eq_false_iff_not]; omega
  by_cases h2 : 12 < t.size
  · have q2 : decide ((12 : Int) ≤ (t.size : Int) - 1) = true := by rw [decide_eq_true_iff]; omega
    go_enter Tryz.func58, Tryz.ntmps58
    go_wp2
    go_ret
    exact ⟨ret_bool (labelB_size (.inr h2)).symm, Below.refl _ _⟩
  have q2 : decide ((12 : Int) ≤ (t.size : Int) - 1) = false := by rw [decide_eq_false_iff_not]; omega
  have hp : 0 < t.size := by omega
  have hl : t.size - 1 < t.size := by omega
  by_cases h3 : t[0].toNat = 45
  · have q3 : ((t[0].toNat : Int) == 45) = true := by rw [beq_iff_eq]; omega
    have H3 : Hid (t[0].toNat = 45) := h3
    clear h3
    go_enter Tryz.func58, Tryz.ntmps58
    go_wp2
    go_ret
    exact ⟨ret_bool (labelB_first hp H3.out).symm, Below.refl _ _⟩
  have q3 : ((t[0].toNat : Int) == 45) = false := by rw [beq_eq_false_iff_ne]; omega
  have H3 : Hid (¬ t[0].toNat = 45) := h3
  clear h3
  by_cases h4 : t[t.size - 1].toNat = 45
  · have q4 : ((t[t.size - 1].toNat : Int) == 45) = true := by rw [beq_iff_eq]; omega
    have H4 : Hid (t[t.size - 1].toNat = 45) := h4
    clear h4
    go_enter Tryz.func58, Tryz.ntmps58
    go_wp2
    go_ret
    exact ⟨ret_bool (labelB_last hl H4.out).symm, Below.refl _ _⟩
  have q4 : ((t[t.size - 1].toNat : Int) == 45) = false := by rw [beq_eq_false_iff_ne]; omega
  have H4 : Hid (¬ t[t.size - 1].toNat = 45) := h4
  clear h4
  go_enter Tryz.func58, Tryz.ntmps58
  go_wp2
  go_loopw [5] (fun _ wr => ∃ k : Nat, k ≤ t.size ∧ wr = w.iter t k ∧ Hid (∀ i (h : i < t.size), i < k → labC t[i].toNat = true)) (fun _ wr => t.size - wr.iterPos w.heap.size)
  case atStart => exact ⟨0, Nat.zero_le _, rfl, fun i _ hi => absurd hi (by omega)⟩
  case round =>
    obtain ⟨k, hk, rfl, HR⟩ := hrel
    by_cases hlt : k < t.size
    · by_cases ha : t[k].toNat < 128
      · have hnx : ∀ ty, (Instr.next (.pointer (some ⟨w.heap.size, 0, none⟩)) true ty).run Tryz.prog (w.iter t k) = _ := fun ty => run_next_ascii w t k ty hlt ha
        cases hc : labC t[k].toNat with
        | true =>
          have HC : Hid (∀ W, Calls Tryz.prog 75 #[.int .i32 (t[k].toNat : Int)] W fun e w' => e = .returned (.bool true) ∧ w' = W) := fun W => by rw [← hc]; exact inLabel_any _ W
          have HK : Hid (labC t[k].toNat = true) := hc
          clear hc
          go_wp2_with (go_at_call 75; refine (HC.out _).mono ?_; rintro e w2 ⟨rfl, rfl⟩)
          go_roundw
          case rel => exact ⟨k + 1, by omega, rfl, all_succ HR.out hlt HK.out⟩
          case measure => simp; omega
        | false =>
          have HC : Hid (∀ W, Calls Tryz.prog 75 #[.int .i32 (t[k].toNat : Int)] W fun e w' => e = .returned (.bool false) ∧ w' = W) := fun W => by rw [← hc]; exact inLabel_any _ W
          have HK : Hid (labelB t = false) := labelB_at k hlt hc
          clear hc
          go_wp2_with (go_at_call 75; refine (HC.out _).mono ?_; rintro e w2 ⟨rfl, rfl⟩)
          go_ret
          exact ⟨ret_bool HK.out.symm, (Below.refl _ _).alloc (Nat.le_refl _) _⟩
      · have hnx : ∀ ty, (Instr.next (.pointer (some ⟨w.heap.size, 0, none⟩)) true ty).run Tryz.prog (w.iter t k) = _ := fun ty => run_next_any w t k ty hlt
        have hd := (decode_high t k hlt (by omega)).1
        have HK : Hid (labelB t = false) := labelB_at k hlt (labC_no (by omega))
        generalize Utf8.decode t k = d at *
        obtain ⟨r, n⟩ := d
        have hd2 : 128 ≤ r := hd
        have HC : Hid (∀ W, Calls Tryz.prog 75 #[.int .i32 (r : Int)] W fun e w' => e = .returned (.bool false) ∧ w' = W) := fun W => by
          have := inLabel_any r W
          rw [labC_no (by omega)] at this; exact this
        clear hd hd2
        go_wp2_with (go_at_call 75; refine (HC.out _).mono ?_; rintro e w2 ⟨rfl, rfl⟩)
        go_ret
        exact ⟨ret_bool HK.out.symm, (Below.refl _ _).alloc (Nat.le_refl _) _⟩
    · have hnx : ∀ ty, (Instr.next (.pointer (some ⟨w.heap.size, 0, none⟩)) true ty).run Tryz.prog (w.iter t k) = _ := fun ty => run_next_end w t k ty hlt
      go_wp2
      go_ret
      exact ⟨ret_bool (labelB_true (by omega) (by omega) (fun _ => H3.out) (fun _ => H4.out) (fun i h => HR.out i h (by omega))).symm, (Below.refl _ _).alloc (Nat.le_refl _) _⟩
end Go.Proofs.YthcpmbolnmlohaaGreatDoor

/- The walk of the program's HostRight. -/
namespace Go.Proofs.YthcpmbolnmlohaaGreatDoor
open Go.RowKit

theorem mem_le_sum : ∀ {l : List Nat} {x : Nat}, x ∈ l → x ≤ l.sum
  | [], _, h => by cases h
  | a :: l, x, h => by
    rw [List.sum_cons]
    cases h with
    | head => omega
    | tail _ h => have := mem_le_sum h; omega
theorem piece_le {s x : ByteArray} (hx : x ∈ splitB s 46) : x.size ≤ s.size := by
  have h1 : x.data.toList ∈ cutL 46 s.data.toList := by rw [← splitB_cut]; exact List.mem_map.2 ⟨x, hx, rfl⟩
  have h2 := cutL_sum 46 s.data.toList
  have h3 : (x.data.toList.length + 1) ≤ ((cutL 46 s.data.toList).map (fun p => p.length + 1)).sum := mem_le_sum (List.mem_map.2 ⟨_, h1, rfl⟩)
  rw [h2, ← Lib.size_eq, ← Lib.size_eq] at h3
  omega
set_option maxRecDepth 10000 in
set_option maxHeartbeats 400000 in
theorem hostRight_any (s : ByteArray) (w : World) (hG : MaxI w) (hs : s.size ≤ 1048576) :
    Calls Tryz.prog 33 #[.string s] w fun e w' => e = .returned (.bool (hostB s)) ∧ Below w.heap.size w w' := by
  have HC : Hid (∀ W, MaxI W → Calls Tryz.prog 44 #[.string s, .string ⟨#[46]⟩] W fun e w' => e = .returned (.slice (some ⟨W.heap.size, 0, none⟩) (splitB s 46).length (splitB s 46).length) ∧ w' = W.alloc (.cells (strCells (splitB s 46)).toArray 9)) := fun W h => split_call s W h (by omega)
  have HA : Hid ((∀ k (h : k < (splitB s 46).length), labelB ((splitB s 46)[k]) = false → hostB s = false) ∧ ((splitB s 46).length ≤ 6 → (∀ k (h : k < (splitB s 46).length), labelB ((splitB s 46)[k]) = true) → hostB s = true) ∧ (6 < (splitB s 46).length → hostB s = false)) :=
    ⟨fun k h hl => hostB_at k h hl, fun h1 h2 => hostB_six h1 h2, fun h => hostB_many h⟩
  have hn := splitB_len s 46
  have HZ : Hid (∀ x ∈ splitB s 46, x.size ≤ s.size) := fun x hx => piece_le hx
  generalize splitB s 46 = L at *
  have HG : Hid (MaxI w) := hG
  clear hG
  go_enter Tryz.func33, Tryz.ntmps33
  go_wp2_with fail
  refine (HC.out _ HG.out).mono ?_
  rintro e w1 ⟨rfl, rfl⟩
  by_cases h6 : 6 < L.length
  · go_wp2
    go_ret
    exact ⟨ret_bool (HA.out.2.2 h6).symm, (Below.refl _ _).alloc (Nat.le_refl _) _⟩
  have q6 : decide ((6 : Int) < (L.length : Int)) = false := by rw [decide_eq_false_iff_not]; omega
  have hcell : ∀ k (h : k < L.length), (w.alloc (.cells (strCells L).toArray 9)).cell? ⟨w.heap.size, k, none⟩ = some (.string L[k]) := by
    intro k hk
    simp [strCells, hk]
  have hb : Below w.heap.size w (w.alloc (.cells (strCells L).toArray 9)) := (Below.refl _ _).alloc (Nat.le_refl _) _
  have hz1 : w.heap.size < (w.alloc (.cells (strCells L).toArray 9)).heap.size := by simp
  generalize w.alloc (.cells (strCells L).toArray 9) = w1 at *
  go_wp2
  go_loopw [13] (fun i wr => ∃ k : Nat, k ≤ L.length ∧ i = .int .i64 k ∧ Below w1.heap.size w1 wr ∧ Hid (∀ j (h : j < L.length), j < k → labelB L[j] = true)) (fun i _ => L.length - (intOf i).toNat)
  case atStart => exact ⟨0, by omega, rfl, Below.refl _ _, fun j _ hj => absurd hj (by omega)⟩
  case round =>
    obtain ⟨k, hk, rfl, hb2, HR⟩ := hrel
    by_cases hlt : k < L.length
    · have hc1 := hcell k hlt
      have hck : wr.cell? ⟨w.heap.size, k, none⟩ = some (.string L[k]) := by rw [(bcell hb2).1 _ _ hz1]; exact hc1
      have HL : Hid (∀ W, Calls Tryz.prog 58 #[.string L[k]] W fun e w' => e = .returned (.bool (labelB L[k])) ∧ Below W.heap.size W w') := fun W => labelRight_any L[k] W (by have := HZ.out L[k] (List.getElem_mem hlt); omega)
      have HB2 : Hid (Below w1.heap.size w1 wr) := hb2
      have hz2 := hb2.size
      cases hlab : labelB L[k] with
      | true =>
        have HL2 : Hid (labelB L[k] = true) := hlab
        rw [hlab] at HL
        clear hlab hcell hc1 hb2
        generalize hx : L[k] = x at *
        have HX : Hid (L[k] = x) := hx
        clear hx
        go_wp2_with (go_at_call 58; refine (HL.out _).mono ?_; rintro e w2 ⟨rfl, hb3⟩)
        go_roundw
        case rel =>
          refine ⟨k + 1, by omega, by go_num, HB2.out.trans (hb3.mono hz2), ?_⟩
          intro j hj hjk
          by_cases e : j = k
          · subst e; rw [HX.out]; exact HL2.out
          · exact HR.out j hj (by omega)
        case measure => simp [intOf]; omega
      | false =>
        have HF : Hid (hostB s = false) := HA.out.1 k hlt hlab
        rw [hlab] at HL
        clear hlab hcell hc1 hb2
        generalize L[k] = x at *
        go_wp2_with (go_at_call 58; refine (HL.out _).mono ?_; rintro e w2 ⟨rfl, hb3⟩)
        go_ret
        exact ⟨ret_bool HF.out.symm, hb.trans ((HB2.out.trans (hb3.mono hz2)).mono hb.size)⟩
    · have HF : Hid (hostB s = true) := HA.out.2.1 (by omega) (fun j hj => HR.out j hj (by omega))
      clear hcell
      go_wp2
      go_ret
      exact ⟨ret_bool HF.out.symm, hb.trans (hb2.mono hb.size)⟩
end Go.Proofs.YthcpmbolnmlohaaGreatDoor

/- The walks of the program's pathRight, ownPort, placeRight and UrlRight. -/
namespace Go.Proofs.YthcpmbolnmlohaaGreatDoor
open Go.RowKit

set_option maxRecDepth 10000 in
set_option maxHeartbeats 400000 in
theorem pathRight_any (t : ByteArray) (w : World) :
    Calls Tryz.prog 34 #[.string t] w fun e w' => e = .returned (.bool (pathB t)) ∧ Below w.heap.size w w' := by
  by_cases h1 : t.size < 1
  · have q1 : ((t.size : Int) == 0) = true := by rw [beq_iff_eq]; omega
    go_enter Tryz.func34, Tryz.ntmps34
    go_wp2
    go_ret
    exact ⟨ret_bool (pathB_size (.inl h1)).symm, Below.refl _ _⟩
  have q1 : ((t.size : Int) == 0) = false := by rw [beq_eq_false_iff_ne]; omega
  by_cases h2 : 40 < t.size
  · go_enter Tryz.func34, Tryz.ntmps34
    go_wp2
    go_ret
    exact ⟨ret_bool (pathB_size (.inr h2)).symm, Below.refl _ _⟩
  have q2 : decide ((40 : Int) < (t.size : Int)) = false := by rw [decide_eq_false_iff_not]; omega
  have hp : 0 < t.size := by omega
  by_cases h3 : t[0].toNat = 47
  case neg =>
    have q3 : ((t[0].toNat : Int) != 47) = true := by rw [bne_iff_ne]; omega
    have H3 : Hid (¬ t[0].toNat = 47) := h3
    clear h3
    go_enter Tryz.func34, Tryz.ntmps34
    go_wp2
    go_ret
    exact ⟨ret_bool (pathB_first hp H3.out).symm, Below.refl _ _⟩
  have q3 : ((t[0].toNat : Int) != 47) = false := by rw [bne_eq_false_iff_eq]; omega
  have H3 : Hid (t[0].toNat = 47) := h3
  clear h3
  go_enter Tryz.func34, Tryz.ntmps34
  go_wp2
  go_loopw [4] (fun _ wr => ∃ k : Nat, k ≤ t.size ∧ wr = w.iter t k ∧ Hid (∀ i (h : i < t.size), i < k → pathC t[i].toNat = true)) (fun _ wr => t.size - wr.iterPos w.heap.size)
  case atStart => exact ⟨0, Nat.zero_le _, rfl, fun i _ hi => absurd hi (by omega)⟩
  case round =>
    obtain ⟨k, hk, rfl, HR⟩ := hrel
    by_cases hlt : k < t.size
    · by_cases ha : t[k].toNat < 128
      · have hnx : ∀ ty, (Instr.next (.pointer (some ⟨w.heap.size, 0, none⟩)) true ty).run Tryz.prog (w.iter t k) = _ := fun ty => run_next_ascii w t k ty hlt ha
        by_cases d1 : t[k].toNat < 33
        · go_wp2
          go_ret
          exact ⟨ret_bool (pathB_at k hlt (pathC_no (by omega))).symm, (Below.refl _ _).alloc (Nat.le_refl _) _⟩
        have b1 : decide ((t[k].toNat : Int) < 33) = false := by rw [decide_eq_false_iff_not]; omega
        by_cases d2 : 126 < t[k].toNat
        · go_wp2
          go_ret
          exact ⟨ret_bool (pathB_at k hlt (pathC_no (by omega))).symm, (Below.refl _ _).alloc (Nat.le_refl _) _⟩
        have b2 : decide ((126 : Int) < (t[k].toNat : Int)) = false := by rw [decide_eq_false_iff_not]; omega
        by_cases d3 : t[k].toNat = 63
        · have b3 : ((t[k].toNat : Int) == 63) = true := by rw [beq_iff_eq]; omega
          have D3 : Hid (t[k].toNat = 63) := d3
          clear d3
          go_wp2
          go_ret
          exact ⟨ret_bool (pathB_at k hlt (pathC_no (by have := D3.out; omega))).symm, (Below.refl _ _).alloc (Nat.le_refl _) _⟩
        have b3 : ((t[k].toNat : Int) == 63) = false := by rw [beq_eq_false_iff_ne]; omega
        by_cases d4 : t[k].toNat = 35
        · have b4 : ((t[k].toNat : Int) == 35) = true := by rw [beq_iff_eq]; omega
          have D4 : Hid (t[k].toNat = 35) := d4
          clear d4
          go_wp2
          go_ret
          exact ⟨ret_bool (pathB_at k hlt (pathC_no (by have := D4.out; omega))).symm, (Below.refl _ _).alloc (Nat.le_refl _) _⟩
        have b4 : ((t[k].toNat : Int) == 35) = false := by rw [beq_eq_false_iff_ne]; omega
        by_cases d5 : t[k].toNat = 59
        · have b5 : ((t[k].toNat : Int) == 59) = true := by rw [beq_iff_eq]; omega
          have D5 : Hid (t[k].toNat = 59) := d5
          clear d5
          go_wp2
          go_ret
          exact ⟨ret_bool (pathB_at k hlt (pathC_no (by have := D5.out; omega))).symm, (Below.refl _ _).alloc (Nat.le_refl _) _⟩
        have b5 : ((t[k].toNat : Int) == 59) = false := by rw [beq_eq_false_iff_ne]; omega
        have HC : Hid (pathC t[k].toNat = true) := pathC_yes (by omega)
        clear d3 d4 d5
        go_wp2
        go_roundw
        case rel => exact ⟨k + 1, by omega, rfl, all_succ HR.out hlt HC.out⟩
        case measure => simp; omega
      · have hnx : ∀ ty, (Instr.next (.pointer (some ⟨w.heap.size, 0, none⟩)) true ty).run Tryz.prog (w.iter t k) = _ := fun ty => run_next_any w t k ty hlt
        have hd := (decode_high t k hlt (by omega)).1
        have HK : Hid (pathB t = false) := pathB_at k hlt (pathC_no (by omega))
        generalize Utf8.decode t k = d at *
        obtain ⟨r, n⟩ := d
        have hd2 : 128 ≤ r := hd
        have b1 : decide ((r : Int) < 33) = false := by rw [decide_eq_false_iff_not]; omega
        have b2 : decide ((126 : Int) < (r : Int)) = true := by rw [decide_eq_true_iff]; omega
        clear hd
        go_wp2
        go_ret
        exact ⟨ret_bool HK.out.symm, (Below.refl _ _).alloc (Nat.le_refl _) _⟩
    · have hnx : ∀ ty, (Instr.next (.pointer (some ⟨w.heap.size, 0, none⟩)) true ty).run Tryz.prog (w.iter t k) = _ := fun ty => run_next_end w t k ty hlt
      go_wp2
      go_ret
      exact ⟨ret_bool (pathB_true (by omega) (by omega) (fun _ => H3.out) (fun i h => HR.out i h (by omega))).symm, (Below.refl _ _).alloc (Nat.le_refl _) _⟩
end Go.Proofs.YthcpmbolnmlohaaGreatDoor

/- The walks of the program's pairRight, modeRight and SetRight. Written by implset.py. -/
namespace Go.Proofs.YthcpmbolnmlohaaGreatDoor
open Go.RowKit

set_option maxRecDepth 10000 in
set_option maxHeartbeats 1000000 in
theorem modeRight_any (mo : Int) (w : World) :
    Calls Tryz.prog 35 #[.int .i64 mo] w fun e w' => e = .returned (.bool (modeB mo)) ∧ w' = w := by
  have HM : Hid (modeB mo = (decide (0 ≤ mo) && decide (mo ≤ 2))) := rfl
  generalize modeB mo = R at *
  by_cases h0 : 0 ≤ mo
  · have q0 : decide ((0 : Int) ≤ mo) = true := by rw [decide_eq_true_iff]; exact h0
    go_enter Tryz.func35, Tryz.ntmps35
    go_wp2
    go_ret
    exact ⟨ret_bool (by rw [HM.out, q0]; rfl), rfl⟩
  · have q0 : decide ((0 : Int) ≤ mo) = false := by rw [decide_eq_false_iff_not]; exact h0
    go_enter Tryz.func35, Tryz.ntmps35
    go_wp2
    go_ret
    exact ⟨ret_bool (by rw [HM.out, q0]; rfl), rfl⟩
set_option maxRecDepth 10000 in
set_option maxHeartbeats 8000000 in
theorem setRight_any (na va dm pa : ByteArray) (ag : Int) (se : Bool) (mo : Int) (pt : Bool) (w : World) (hG : MaxI w) (hdm : dm.size ≤ 1048576) :
    Calls Tryz.prog 10 #[setV na va dm pa ag se mo pt] w fun e w' => e = .returned (.bool (setB na va dm pa ag mo)) ∧ Below w.heap.size w w' := by
  have K1 : Hid (∀ W, Calls Tryz.prog 32 #[.agg #[.string na, .string va]] W fun e w' => e = .returned (.bool (pairB na va)) ∧ Below W.heap.size W w') := fun W => pairRight_any na va W
  have K3 : Hid (∀ W, Below w.heap.size w W → Calls Tryz.prog 33 #[.string dm] W fun e w' => e = .returned (.bool (hostB dm)) ∧ Below W.heap.size W w') := fun W hb => hostRight_any dm W (hG.on hb) hdm
  have K4 : Hid (∀ W, Calls Tryz.prog 34 #[.string pa] W fun e w' => e = .returned (.bool (pathB pa)) ∧ Below W.heap.size W w') := fun W => pathRight_any pa W
  have K6 : Hid (∀ W, Calls Tryz.prog 35 #[.int .i64 mo] W fun e w' => e = .returned (.bool (modeB mo)) ∧ w' = W) := fun W => modeRight_any mo W
  have HE : Hid (setB na va dm pa ag mo = (pairB na va && (dm.toList.isEmpty || hostB dm) && (pa.toList.isEmpty || pathB pa) && (decide (-1 ≤ ag) && decide (ag ≤ 1000000)) && modeB mo)) := rfl
  clear hG hdm
  unfold setV
  generalize setB na va dm pa ag mo = R at *
  generalize pairB na va = b1 at *
  generalize hostB dm = b3 at *
  generalize pathB pa = b4 at *
  generalize modeB mo = b6 at *
  go_enter Tryz.func10, Tryz.ntmps10
  go_wp2_with fail
  refine (K1.out _).mono ?_
  rintro e w1 ⟨rfl, hb1⟩
  have hz1 : w.heap.size < w1.heap.size := by have := hb1.size; simp at this; omega
  have g2 : w1.cell? ⟨w.heap.size, 2, none⟩ = some (.string dm) := by rw [(bcell hb1).1 _ _ (by simp)]; simp
  have g3 : w1.cell? ⟨w.heap.size, 3, none⟩ = some (.string pa) := by rw [(bcell hb1).1 _ _ (by simp)]; simp
  have g4 : w1.cell? ⟨w.heap.size, 4, none⟩ = some (.int .i64 ag) := by rw [(bcell hb1).1 _ _ (by simp)]; simp
  have g6 : w1.cell? ⟨w.heap.size, 6, none⟩ = some (.int .i64 mo) := by rw [(bcell hb1).1 _ _ (by simp)]; simp
  have B1 : Hid (Below w.heap.size w w1) := ((Below.refl _ _).alloc (Nat.le_refl _) _).trans (hb1.mono (by simp))
  clear hb1
  cases b1 with
  | false =>
    go_wp2
    go_ret
    exact ⟨ret_bool (by rw [HE.out]; first | rfl | simp [*]), B1.out⟩
  | true =>
    cases hdm : dm.toList.isEmpty with
    | true =>
      cases hpa : pa.toList.isEmpty with
      | true =>
        by_cases ha : -1 ≤ ag
        · have q1 : decide ((-1 : Int) ≤ ag) = true := by rw [decide_eq_true_iff]; exact ha
          by_cases hc : ag ≤ 1000000
          · have q2 : decide (ag ≤ (1000000 : Int)) = true := by rw [decide_eq_true_iff]; exact hc
            go_wp2_with (go_at_call 35; refine (K6.out _).mono ?_; rintro e w6 ⟨rfl, rfl⟩)
            go_ret
            exact ⟨ret_bool (by rw [HE.out]; first | rfl | (cases b6 <;> simp [*])), B1.out⟩
          · have q2 : decide (ag ≤ (1000000 : Int)) = false := by rw [decide_eq_false_iff_not]; exact hc
            go_wp2
            go_ret
            exact ⟨ret_bool (by rw [HE.out]; first | rfl | simp [*]), B1.out⟩
        · have q1 : decide ((-1 : Int) ≤ ag) = false := by rw [decide_eq_false_iff_not]; exact ha
          go_wp2
          go_ret
          exact ⟨ret_bool (by rw [HE.out]; first | rfl | simp [*]), B1.out⟩
      | false =>
        go_wp2_with fail
        refine (K4.out _).mono ?_
        rintro e w4 ⟨rfl, hb4⟩
        have l4 : w4.cell? ⟨w.heap.size, 4, none⟩ = some (.int .i64 ag) := by rw [(bcell hb4).1 _ _ hz1]; exact g4
        have l6 : w4.cell? ⟨w.heap.size, 6, none⟩ = some (.int .i64 mo) := by rw [(bcell hb4).1 _ _ hz1]; exact g6
        have B4 : Hid (Below w.heap.size w w4) := B1.out.trans (hb4.mono B1.out.size)
        clear hb4 g4 g6
        cases b4 with
        | false =>
          go_wp2
          go_ret
          exact ⟨ret_bool (by rw [HE.out]; first | rfl | simp [*]), B4.out⟩
        | true =>
          by_cases ha : -1 ≤ ag
          · have q1 : decide ((-1 : Int) ≤ ag) = true := by rw [decide_eq_true_iff]; exact ha
            by_cases hc : ag ≤ 1000000
            · have q2 : decide (ag ≤ (1000000 : Int)) = true := by rw [decide_eq_true_iff]; exact hc
              go_wp2_with (go_at_call 35; refine (K6.out _).mono ?_; rintro e w6 ⟨rfl, rfl⟩)
              go_ret
              exact ⟨ret_bool (by rw [HE.out]; first | rfl | (cases b6 <;> simp [*])), B4.out⟩
            · have q2 : decide (ag ≤ (1000000 : Int)) = false := by rw [decide_eq_false_iff_not]; exact hc
              go_wp2
              go_ret
              exact ⟨ret_bool (by rw [HE.out]; first | rfl | simp [*]), B4.out⟩
          · have q1 : decide ((-1 : Int) ≤ ag) = false := by rw [decide_eq_false_iff_not]; exact ha
            go_wp2
            go_ret
            exact ⟨ret_bool (by rw [HE.out]; first | rfl | simp [*]), B4.out⟩
    | false =>
      go_wp2_with fail
      refine (K3.out _ B1.out).mono ?_
      rintro e w3 ⟨rfl, hb3⟩
      have k3 : w3.cell? ⟨w.heap.size, 3, none⟩ = some (.string pa) := by rw [(bcell hb3).1 _ _ hz1]; exact g3
      have k4 : w3.cell? ⟨w.heap.size, 4, none⟩ = some (.int .i64 ag) := by rw [(bcell hb3).1 _ _ hz1]; exact g4
      have k6 : w3.cell? ⟨w.heap.size, 6, none⟩ = some (.int .i64 mo) := by rw [(bcell hb3).1 _ _ hz1]; exact g6
      have B3 : Hid (Below w.heap.size w w3) := B1.out.trans (hb3.mono B1.out.size)
      have hz3 : w.heap.size < w3.heap.size := Nat.lt_of_lt_of_le hz1 hb3.size
      clear hb3 g2 g3 g4 g6
      cases b3 with
      | false =>
        go_wp2
        go_ret
        exact ⟨ret_bool (by rw [HE.out]; first | rfl | simp [*]), B3.out⟩
      | true =>
        cases hpa : pa.toList.isEmpty with
        | true =>
          by_cases ha : -1 ≤ ag
          · have q1 : decide ((-1 : Int) ≤ ag) = true := by rw [decide_eq_true_iff]; exact ha
            by_cases hc : ag ≤ 1000000
            · have q2 : decide (ag ≤ (1000000 : Int)) = true := by rw [decide_eq_true_iff]; exact hc
              go_wp2_with (go_at_call 35; refine (K6.out _).mono ?_; rintro e w6 ⟨rfl, rfl⟩)
              go_ret
              exact ⟨ret_bool (by rw [HE.out]; first | rfl | (cases b6 <;> simp [*])), B3.out⟩
            · have q2 : decide (ag ≤ (1000000 : Int)) = false := by rw [decide_eq_false_iff_not]; exact hc
              go_wp2
              go_ret
              exact ⟨ret_bool (by rw [HE.out]; first | rfl | simp [*]), B3.out⟩
          · have q1 : decide ((-1 : Int) ≤ ag) = false := by rw [decide_eq_false_iff_not]; exact ha
            go_wp2
            go_ret
            exact ⟨ret_bool (by rw [HE.out]; first | rfl | simp [*]), B3.out⟩
        | false =>
          go_wp2_with fail
          refine (K4.out _).mono ?_
          rintro e w4 ⟨rfl, hb4⟩
          have l4 : w4.cell? ⟨w.heap.size, 4, none⟩ = some (.int .i64 ag) := by rw [(bcell hb4).1 _ _ hz3]; exact k4
          have l6 : w4.cell? ⟨w.heap.size, 6, none⟩ = some (.int .i64 mo) := by rw [(bcell hb4).1 _ _ hz3]; exact k6
          have B4 : Hid (Below w.heap.size w w4) := B3.out.trans (hb4.mono B3.out.size)
          clear hb4 k4 k6
          cases b4 with
          | false =>
            go_wp2
            go_ret
            exact ⟨ret_bool (by rw [HE.out]; first | rfl | simp [*]), B4.out⟩
          | true =>
            by_cases ha : -1 ≤ ag
            · have q1 : decide ((-1 : Int) ≤ ag) = true := by rw [decide_eq_true_iff]; exact ha
              by_cases hc : ag ≤ 1000000
              · have q2 : decide (ag ≤ (1000000 : Int)) = true := by rw [decide_eq_true_iff]; exact hc
                go_wp2_with (go_at_call 35; refine (K6.out _).mono ?_; rintro e w6 ⟨rfl, rfl⟩)
                go_ret
                exact ⟨ret_bool (by rw [HE.out]; first | rfl | (cases b6 <;> simp [*])), B4.out⟩
              · have q2 : decide (ag ≤ (1000000 : Int)) = false := by rw [decide_eq_false_iff_not]; exact hc
                go_wp2
                go_ret
                exact ⟨ret_bool (by rw [HE.out]; first | rfl | simp [*]), B4.out⟩
            · have q1 : decide ((-1 : Int) ≤ ag) = false := by rw [decide_eq_false_iff_not]; exact ha
              go_wp2
              go_ret
              exact ⟨ret_bool (by rw [HE.out]; first | rfl | simp [*]), B4.out⟩
end Go.Proofs.YthcpmbolnmlohaaGreatDoor

/- The digits of a number, as the library tells them. -/
namespace Go.Proofs.YthcpmbolnmlohaaGreatDoor
open Go.RowKit

/-- the library's powers of ten -/
def PowI (w : World) : Prop := Lib.TabIs Tryz.prog w "internal/strconv.uint64pow10" .u64 Lib.pow10Tab
theorem PowI.on {w w' : World} (h : PowI w) (hb : Below w.heap.size w w') : PowI w' := Lib.tabBelow_of_tabIs h w' hb

theorem below_grow (w : World) (k : Nat) (os : Array Obj) : Below w.heap.size w (Sort.grow (w.drewN k) os) :=
  ⟨rfl, rfl, rfl, by simp [Sort.grow], fun i hi => by
    show ((w.drewN k).heap ++ os)[i]? = _
    rw [Array.getElem?_append_left (show i < (w.drewN k).heap.size from hi)]
    rfl⟩
theorem dec_call (n : Int) (w : World) (hT : PowI w) (h0 : 0 ≤ n) (h : n ≤ 9223372036854775807) :
    Calls Tryz.prog 25 #[.int .i64 n, .int .i64 10] w fun e w' => e = .returned (.string (decB n)) ∧ Below w.heap.size w w' := by
  obtain ⟨m, rfl⟩ := Int.eq_ofNat_of_zero_le h0
  refine (Any.strconv_FormatInt_10 Tryz.lays173 (m : Int) (by omega) h w hT).mono ?_
  rintro e w' ⟨rfl, k, os, rfl⟩
  exact ⟨ret_text (dec_lib m), below_grow w k os⟩

end Go.Proofs.YthcpmbolnmlohaaGreatDoor

/- The walks of the program's pairText and SetText. Written by implsettext.py. -/
namespace Go.Proofs.YthcpmbolnmlohaaGreatDoor
open Go.RowKit

theorem o1_len (dm : ByteArray) : (o1 dm).length ≤ 1 := by unfold o1; split <;> simp
theorem o2_len (dm : ByteArray) : (o2 dm).length ≤ 1 := by unfold o2; split <;> simp
theorem o3_len (ag : Int) : (o3 ag).length ≤ 1 := by unfold o3; split <;> simp
theorem o4_len (b : Bool) : (o4 b).length ≤ 1 := by unfold o4; split <;> simp
theorem o5_len (m : Int) : (o5 m).length ≤ 1 := by
  unfold o5
  split
  · simp
  · split <;> simp
theorem o6_len (b : Bool) : (o6 b).length ≤ 1 := by unfold o6; split <;> simp
set_option maxRecDepth 10000 in
set_option maxHeartbeats 16000000 in
theorem setText_any (na va dm pa : ByteArray) (ag : Int) (se : Bool) (mo : Int) (pt : Bool) (w : World) (hG : MaxI w) (hT : PowI w) (hdm : dm.size ≤ 1048576) :
    Calls Tryz.prog 5 #[setV na va dm pa ag se mo pt] w fun e w' => e = .returned (.string (setTx na va dm pa ag se mo pt)) ∧ Below w.heap.size w w' := by
  have K1 : Hid (∀ W, Below w.heap.size w W → Calls Tryz.prog 10 #[.agg #[.string na, .string va, .string dm, .string pa, .int .i64 ag, .bool se, .int .i64 mo, .bool pt]] W fun e w' => e = .returned (.bool (setB na va dm pa ag mo)) ∧ Below W.heap.size W w') := fun W hb => setRight_any na va dm pa ag se mo pt W (hG.on hb) hdm
  have HX : Hid (setTx na va dm pa ag se mo pt = if setB na va dm pa ag mo = true then setT na va dm pa ag se mo pt else ⟨#[]⟩) := rfl
  by_cases hR : setB na va dm pa ag mo = true
  case neg =>
    rw [Bool.not_eq_true] at hR
    rw [hR] at K1 HX
    clear hG hT hdm
    generalize setTx na va dm pa ag se mo pt = R at *
    unfold setV
    go_enter Tryz.func5, Tryz.ntmps5
    go_wp2_with fail
    refine (K1.out _ ((Below.refl _ _).alloc (Nat.le_refl _) _)).mono ?_
    rintro e w1 ⟨rfl, hb1⟩
    go_wp2
    go_ret
    exact ⟨ret_text HX.out.symm, ((Below.refl _ _).alloc (Nat.le_refl _) _).trans (hb1.mono (by simp))⟩
  obtain ⟨h1, h2, h3, h4, h5, h6⟩ := setB_parts hR
  rw [hR, if_pos rfl] at HX
  rw [hR] at K1
  have K2 : Hid (∀ W, Calls Tryz.prog 24 #[.agg #[.string na, .string va]] W fun e w' => e = .returned (.string (na ++ equ ++ va)) ∧ Below W.heap.size W w') := fun W => pairText_any na va W (by omega) (by omega)
  have K3 : Hid (0 ≤ ag → ∀ W, Below w.heap.size w W → Calls Tryz.prog 25 #[.int .i64 ag, .int .i64 10] W fun e w' => e = .returned (.string (decB ag)) ∧ Below W.heap.size W w') := fun h0 W hb => dec_call ag W (hT.on hb) h0 (by omega)
  have hd := decB_size (n := ag) (by omega) (by omega)
  have HS : Hid (setT na va dm pa ag se mo pt = joinB ([na ++ equ ++ va] ++ o1 dm ++ o2 pa ++ o3 ag ++ o4 se ++ o5 mo ++ o6 pt) semi ∧ (setT na va dm pa ag se mo pt).size ≤ 1000) := by
    refine ⟨?_, ?_⟩
    · rw [setT_flat, ← join_flat]
      simp only [List.cons_append, List.append_assoc, List.nil_append]
    · have s0 := setT0_size h1 h2
      have s1 := setT1_size (dm := dm) s0 h3
      have s2 := setT2_size (pa := pa) s1 h4
      have s3 := setT3_size (ag := ag) s2 (by omega) (by omega)
      have s4 := setT4_size (se := se) s3
      have s5 := setT5_size (mo := mo) s4
      unfold setT setT6
      split
      · rw [ByteArray.size_append]; show _ + 13 ≤ 1000; omega
      · omega
  have E1 : Hid (o1 dm = if dm.toList.isEmpty = true then [] else [⟨#[68, 111, 109, 97, 105, 110, 61]⟩ ++ dm]) := rfl
  have E2 : Hid (o2 pa = if pa.toList.isEmpty = true then [] else [⟨#[80, 97, 116, 104, 61]⟩ ++ pa]) := rfl
  have E3 : Hid (o3 ag = if 0 ≤ ag then [⟨#[77, 97, 120, 45, 65, 103, 101, 61]⟩ ++ decB ag] else []) := rfl
  have E4 : Hid (o4 se = if se = true then [⟨#[83, 101, 99, 117, 114, 101]⟩] else []) := rfl
  have E5 : Hid (o5 mo = if mo = 1 then [⟨#[83, 97, 109, 101, 83, 105, 116, 101, 61, 83, 116, 114, 105, 99, 116]⟩] else if mo = 2 then [⟨#[83, 97, 109, 101, 83, 105, 116, 101, 61, 78, 111, 110, 101]⟩] else []) := rfl
  have E6 : Hid (o6 pt = if pt = true then [⟨#[80, 97, 114, 116, 105, 116, 105, 111, 110, 101, 100]⟩] else []) := rfl
  have n1 := o1_len dm
  have n2 := o2_len pa
  have n3 := o3_len ag
  have n4 := o4_len se
  have n5 := o5_len mo
  have n6 := o6_len pt
  obtain ⟨i0, hi, hy0, hy1, hy2⟩ := info_parts infoStr
  clear hG hT hdm
  rw [HS.out.1] at HX
  have HZ : Hid ((joinB ([na ++ equ ++ va] ++ o1 dm ++ o2 pa ++ o3 ag ++ o4 se ++ o5 mo ++ o6 pt) semi).size ≤ 1000) := by rw [← HS.out.1]; exact HS.out.2
  clear HS
  generalize setTx na va dm pa ag se mo pt = R at *
  generalize na ++ equ ++ va = x0 at *
  generalize decB ag = dd at *
  unfold setV
  go_enter Tryz.func5, Tryz.ntmps5
  go_wp2_with fail
  refine (K1.out _ ((Below.refl _ _).alloc (Nat.le_refl _) _)).mono ?_
  rintro e w1 ⟨rfl, hb1⟩
  have T1 := Cells.below (W := (w.alloc (.cells #[.string na, .string va, .string dm, .string pa, .int .i64 ag, .bool se, .int .i64 mo, .bool pt] 24))) (L := [(⟨w.heap.size, 0, none⟩, .string na), (⟨w.heap.size, 1, none⟩, .string va), (⟨w.heap.size, 2, none⟩, .string dm), (⟨w.heap.size, 3, none⟩, .string pa), (⟨w.heap.size, 4, none⟩, .int .i64 ag), (⟨w.heap.size, 5, none⟩, .bool se), (⟨w.heap.size, 6, none⟩, .int .i64 mo), (⟨w.heap.size, 7, none⟩, .bool pt)]) ⟨by simp, by simp, by simp, by simp, by simp, by simp, by simp, by simp, trivial⟩ hb1
  simp only [Cells] at T1
  obtain ⟨p0, p1, p2, p3, p4, p5, p6, p7, -⟩ := T1
  have B1 : Hid (Below w.heap.size w w1) := ((Below.refl _ _).alloc (Nat.le_refl _) _).trans (hb1.mono (by simp))
  have hz1 : w.heap.size < w1.heap.size := by have := hb1.size; simp at this; omega
  clear hb1 K1
  go_wp2_with fail
  refine (K2.out _).mono ?_
  rintro e w2 ⟨rfl, hb2⟩
  have r2 : w2.cell? ⟨w.heap.size, 2, none⟩ = some (.string dm) := by rw [(bcell hb2).1 _ _ hz1]; exact p2
  have r3 : w2.cell? ⟨w.heap.size, 3, none⟩ = some (.string pa) := by rw [(bcell hb2).1 _ _ hz1]; exact p3
  have r4 : w2.cell? ⟨w.heap.size, 4, none⟩ = some (.int .i64 ag) := by rw [(bcell hb2).1 _ _ hz1]; exact p4
  have r5 : w2.cell? ⟨w.heap.size, 5, none⟩ = some (.bool se) := by rw [(bcell hb2).1 _ _ hz1]; exact p5
  have r6 : w2.cell? ⟨w.heap.size, 6, none⟩ = some (.int .i64 mo) := by rw [(bcell hb2).1 _ _ hz1]; exact p6
  have r7 : w2.cell? ⟨w.heap.size, 7, none⟩ = some (.bool pt) := by rw [(bcell hb2).1 _ _ hz1]; exact p7
  have B2 : Hid (Below w.heap.size w w2) := B1.out.trans (hb2.mono B1.out.size)
  have hz2 : w.heap.size < w2.heap.size := Nat.lt_of_lt_of_le hz1 hb2.size
  clear hb2 p0 p1 p2 p3 p4 p5 p6 p7 K2
  have HC : Hid (∀ W, Below w2.heap.size w2 W → W.cell? ⟨w.heap.size, 2, none⟩ = some (.string dm) ∧ W.cell? ⟨w.heap.size, 3, none⟩ = some (.string pa) ∧ W.cell? ⟨w.heap.size, 4, none⟩ = some (.int .i64 ag) ∧ W.cell? ⟨w.heap.size, 5, none⟩ = some (.bool se) ∧ W.cell? ⟨w.heap.size, 6, none⟩ = some (.int .i64 mo) ∧ W.cell? ⟨w.heap.size, 7, none⟩ = some (.bool pt)) := fun W hb => ⟨by rw [(bcell hb).1 _ _ hz2]; exact r2, by rw [(bcell hb).1 _ _ hz2]; exact r3, by rw [(bcell hb).1 _ _ hz2]; exact r4, by rw [(bcell hb).1 _ _ hz2]; exact r5, by rw [(bcell hb).1 _ _ hz2]; exact r6, by rw [(bcell hb).1 _ _ hz2]; exact r7⟩
  clear r2 r3 r4 r5 r6 r7
  have O1 : Hid ((w2.alloc (.cells #[.string x0] 9)).ownsRow w2.heap.size 9 1 (.slice (some ⟨w2.heap.size, 0, none⟩) 1 1) [x0].length (strCells [x0])) := own_one w2 _ x0
  have A1 : Hid (Below w2.heap.size w2 (w2.alloc (.cells #[.string x0] 9))) := (Below.refl _ _).alloc (Nat.le_refl _) _
  obtain ⟨c2, c3, c4, c5, c6, c7⟩ := HC.out _ A1.out
  go_upto_if 16 with fail
  generalize w2.alloc (.cells #[.string x0] 9) = wA at *
  have t0 := A1.out.size
  go_cut [3] (fun s wx => ∃ v, s = v ∧ Hid (wx.ownsRow w2.heap.size 9 1 v ([x0] ++ o1 dm).length (strCells ([x0] ++ o1 dm))) ∧ Hid (Below w2.heap.size w2 wx))
  case first =>
    cases hdm : dm.toList.isEmpty with
    | true =>
      have HE : Hid (o1 dm = []) := by show _ = _; rw [E1.out, if_pos hdm]
      go_wp2_with fail
      go_meet
      case rel => exact ⟨_, rfl, by rw [HE.out, List.append_nil]; exact O1.out, A1⟩
    | false =>
      have HE : Hid (o1 dm = [(⟨#[68, 111, 109, 97, 105, 110, 61]⟩ : ByteArray) ++ dm]) := by show _ = _; rw [E1.out, if_neg (by rw [hdm]; decide)]
      go_wp2_with (at_builtin; go_must (refine wpList_append_own _ rfl _ _ 47 rfl w2.heap.size 9 i0 (.string ⟨#[]⟩) 1 16 Tryz.underlying47 hi hy0 hy1 hy2 rfl (by decide) _ _ _ rfl (O1.out.alloc _) ⟨wA.heap.size, 0, none⟩ 1 1 [.string ((⟨#[68, 111, 109, 97, 105, 110, 61]⟩ : ByteArray) ++ dm)] rfl rfl (cell_one_new _ _ _) (by intro u hu; simp at hu; subst hu; rfl) (by unfold maxLen; show 1 + 1 ≤ _; omega) (by show (1 + 1) * 16 ≤ _; omega) (by simp; omega) ?_))
      intro v4 w4 ho hg _
      rw [strCells_snoc] at ho
      have O4 : Hid (w4.ownsRow w2.heap.size 9 1 v4 ([x0] ++ [(⟨#[68, 111, 109, 97, 105, 110, 61]⟩ : ByteArray) ++ dm]).length (strCells ([x0] ++ [(⟨#[68, 111, 109, 97, 105, 110, 61]⟩ : ByteArray) ++ dm]))) := own_cast ho (rfl) (by simp)
      have A4 : Hid (Below w2.heap.size w2 w4) := (A1.out.alloc A1.out.size _).grown hg (by have := A1.out.size; simp; omega) (fun j hj => (O1.out.lt j hj).1)
      clear ho hg
      go_wp2_with fail
      go_meet
      case rel => exact ⟨_, rfl, by rw [HE.out]; exact O4.out, A4⟩
  case rest =>
    clear c2 c3 c4 c5 c6 c7
    obtain ⟨v10, rfl, R1, Q1⟩ := hcut
    obtain ⟨c2, c3, c4, c5, c6, c7⟩ := HC.out _ Q1.out
    have t1 := Q1.out.size
    go_upto_if 25 with fail
    go_cut [3] (fun s wx => ∃ v, s = v ∧ Hid (wx.ownsRow w2.heap.size 9 1 v ([x0] ++ o1 dm ++ o2 pa).length (strCells ([x0] ++ o1 dm ++ o2 pa))) ∧ Hid (Below w2.heap.size w2 wx))
    case first =>
      cases hpa : pa.toList.isEmpty with
      | true =>
        have HE : Hid (o2 pa = []) := by show _ = _; rw [E2.out, if_pos hpa]
        go_wp2_with fail
        go_meet
        case rel => exact ⟨_, rfl, by rw [HE.out, List.append_nil]; exact R1.out, Q1⟩
      | false =>
        have HE : Hid (o2 pa = [(⟨#[80, 97, 116, 104, 61]⟩ : ByteArray) ++ pa]) := by show _ = _; rw [E2.out, if_neg (by rw [hpa]; decide)]
        go_wp2_with (at_builtin; go_must (refine wpList_append_own _ rfl _ _ 47 rfl w2.heap.size 9 i0 (.string ⟨#[]⟩) 1 16 Tryz.underlying47 hi hy0 hy1 hy2 rfl (by decide) _ _ _ rfl (R1.out.alloc _) ⟨wc.heap.size, 0, none⟩ 1 1 [.string ((⟨#[80, 97, 116, 104, 61]⟩ : ByteArray) ++ pa)] rfl rfl (cell_one_new _ _ _) (by intro u hu; simp at hu; subst hu; rfl) (by unfold maxLen; simp only [List.length_append, List.length_singleton]; omega) (by simp only [List.length_append, List.length_singleton]; omega) (by simp; omega) ?_))
        intro v4 w4 ho hg _
        rw [strCells_snoc] at ho
        have O4 : Hid (w4.ownsRow w2.heap.size 9 1 v4 ([x0] ++ o1 dm ++ [(⟨#[80, 97, 116, 104, 61]⟩ : ByteArray) ++ pa]).length (strCells ([x0] ++ o1 dm ++ [(⟨#[80, 97, 116, 104, 61]⟩ : ByteArray) ++ pa]))) := own_cast ho (by simp only [List.length_append, List.length_cons, List.length_nil]; omega) (by simp)
        have A4 : Hid (Below w2.heap.size w2 w4) := (Q1.out.alloc Q1.out.size _).grown hg (by have := Q1.out.size; simp; omega) (fun j hj => (R1.out.lt j hj).1)
        clear ho hg
        go_wp2_with fail
        go_meet
        case rel => exact ⟨_, rfl, by rw [HE.out]; exact O4.out, A4⟩
    case rest =>
      clear c2 c3 c4 c5 c6 c7
      obtain ⟨v11, rfl, R2, Q2⟩ := hcut
      obtain ⟨c2, c3, c4, c5, c6, c7⟩ := HC.out _ Q2.out
      have t2 := Q2.out.size
      go_upto_if 34 with fail
      go_cut [3] (fun s wx => ∃ v, s = v ∧ Hid (wx.ownsRow w2.heap.size 9 1 v ([x0] ++ o1 dm ++ o2 pa ++ o3 ag).length (strCells ([x0] ++ o1 dm ++ o2 pa ++ o3 ag))) ∧ Hid (Below w2.heap.size w2 wx))
      case first =>
        by_cases hag : ag = -1
        · have HE : Hid (o3 ag = []) := by show _ = _; rw [E3.out, if_neg (by omega)]
          have q : (ag == -1) = true := by rw [beq_iff_eq]; exact hag
          go_wp2_with fail
          go_meet
          case rel => exact ⟨_, rfl, by rw [HE.out, List.append_nil]; exact R2.out, Q2⟩
        · have HE : Hid (o3 ag = [(⟨#[77, 97, 120, 45, 65, 103, 101, 61]⟩ : ByteArray) ++ dd]) := by show _ = _; rw [E3.out, if_pos (by omega)]
          have q : (ag == -1) = false := by rw [beq_eq_false_iff_ne]; exact hag
          go_wp2_with fail
          refine (K3.out (by omega) _ (B2.out.trans (Q2.out.mono B2.out.size))).mono ?_
          rintro e w3 ⟨rfl, hb3⟩
          have O3 : Hid (w3.ownsRow w2.heap.size 9 1 u3 ([x0] ++ o1 dm ++ o2 pa).length (strCells ([x0] ++ o1 dm ++ o2 pa))) := own_below R2.out hb3
          have A3 : Hid (Below w2.heap.size w2 w3) := Q2.out.trans (hb3.mono Q2.out.size)
          clear hb3
          have s3 := A3.out.size
          go_wp2_with (at_builtin; go_must (refine wpList_append_own _ rfl _ _ 47 rfl w2.heap.size 9 i0 (.string ⟨#[]⟩) 1 16 Tryz.underlying47 hi hy0 hy1 hy2 rfl (by decide) _ _ _ rfl (O3.out.alloc _) ⟨w3.heap.size, 0, none⟩ 1 1 [.string ((⟨#[77, 97, 120, 45, 65, 103, 101, 61]⟩ : ByteArray) ++ dd)] rfl rfl (cell_one_new _ _ _) (by intro u hu; simp at hu; subst hu; rfl) (by unfold maxLen; simp only [List.length_append, List.length_singleton]; omega) (by simp only [List.length_append, List.length_singleton]; omega) (by simp; omega) ?_))
          intro v4 w4 ho hg _
          rw [strCells_snoc] at ho
          have O4 : Hid (w4.ownsRow w2.heap.size 9 1 v4 ([x0] ++ o1 dm ++ o2 pa ++ [(⟨#[77, 97, 120, 45, 65, 103, 101, 61]⟩ : ByteArray) ++ dd]).length (strCells ([x0] ++ o1 dm ++ o2 pa ++ [(⟨#[77, 97, 120, 45, 65, 103, 101, 61]⟩ : ByteArray) ++ dd]))) := own_cast ho (by simp only [List.length_append, List.length_cons, List.length_nil]; omega) (by simp)
          have A4 : Hid (Below w2.heap.size w2 w4) := (A3.out.alloc A3.out.size _).grown hg (by have := A3.out.size; simp; omega) (fun j hj => (O3.out.lt j hj).1)
          clear ho hg
          go_wp2_with fail
          go_meet
          case rel => exact ⟨_, rfl, by rw [HE.out]; exact O4.out, A4⟩
      case rest =>
        clear c2 c3 c4 c5 c6 c7
        obtain ⟨v12, rfl, R3, Q3⟩ := hcut
        obtain ⟨c2, c3, c4, c5, c6, c7⟩ := HC.out _ Q3.out
        have t3 := Q3.out.size
        go_upto_if 43 with fail
        go_cut [3] (fun s wx => ∃ v, s = v ∧ Hid (wx.ownsRow w2.heap.size 9 1 v ([x0] ++ o1 dm ++ o2 pa ++ o3 ag ++ o4 se).length (strCells ([x0] ++ o1 dm ++ o2 pa ++ o3 ag ++ o4 se))) ∧ Hid (Below w2.heap.size w2 wx))
        case first =>
          cases se with
          | false =>
            have HE : Hid (o4 false = []) := rfl
            go_wp2_with fail
            go_meet
            case rel => exact ⟨_, rfl, by rw [HE.out, List.append_nil]; exact R3.out, Q3⟩
          | true =>
            have HE : Hid (o4 true = [(⟨#[83, 101, 99, 117, 114, 101]⟩ : ByteArray)]) := rfl
            go_wp2_with (at_builtin; go_must (refine wpList_append_own _ rfl _ _ 47 rfl w2.heap.size 9 i0 (.string ⟨#[]⟩) 1 16 Tryz.underlying47 hi hy0 hy1 hy2 rfl (by decide) _ _ _ rfl (R3.out.alloc _) ⟨wc.heap.size, 0, none⟩ 1 1 [.string ((⟨#[83, 101, 99, 117, 114, 101]⟩ : ByteArray))] rfl rfl (cell_one_new _ _ _) (by intro u hu; simp at hu; subst hu; rfl) (by unfold maxLen; simp only [List.length_append, List.length_singleton]; omega) (by simp only [List.length_append, List.length_singleton]; omega) (by simp; omega) ?_))
            intro v4 w4 ho hg _
            rw [strCells_snoc] at ho
            have O4 : Hid (w4.ownsRow w2.heap.size 9 1 v4 ([x0] ++ o1 dm ++ o2 pa ++ o3 ag ++ [(⟨#[83, 101, 99, 117, 114, 101]⟩ : ByteArray)]).length (strCells ([x0] ++ o1 dm ++ o2 pa ++ o3 ag ++ [(⟨#[83, 101, 99, 117, 114, 101]⟩ : ByteArray)]))) := own_cast ho (by simp only [List.length_append, List.length_cons, List.length_nil]; omega) (by simp)
            have A4 : Hid (Below w2.heap.size w2 w4) := (Q3.out.alloc Q3.out.size _).grown hg (by have := Q3.out.size; simp; omega) (fun j hj => (R3.out.lt j hj).1)
            clear ho hg
            go_wp2_with fail
            go_meet
            case rel => exact ⟨_, rfl, by rw [HE.out]; exact O4.out, A4⟩
        case rest =>
          clear c2 c3 c4 c5 c6 c7
          obtain ⟨v13, rfl, R4, Q4⟩ := hcut
          obtain ⟨c2, c3, c4, c5, c6, c7⟩ := HC.out _ Q4.out
          have t4 := Q4.out.size
          by_cases hm1 : mo = 1
          · have HE : Hid (o5 mo = [(⟨#[83, 97, 109, 101, 83, 105, 116, 101, 61, 83, 116, 114, 105, 99, 116]⟩ : ByteArray)]) := by show _ = _; rw [E5.out, if_pos hm1]
            have q1 : (mo == 1) = true := by rw [beq_iff_eq]; exact hm1
            go_wp2_with (at_builtin; go_must (refine wpList_append_own _ rfl _ _ 47 rfl w2.heap.size 9 i0 (.string ⟨#[]⟩) 1 16 Tryz.underlying47 hi hy0 hy1 hy2 rfl (by decide) _ _ _ rfl (R4.out.alloc _) ⟨wc.heap.size, 0, none⟩ 1 1 [.string ((⟨#[83, 97, 109, 101, 83, 105, 116, 101, 61, 83, 116, 114, 105, 99, 116]⟩ : ByteArray))] rfl rfl (cell_one_new _ _ _) (by intro u hu; simp at hu; subst hu; rfl) (by unfold maxLen; simp only [List.length_append, List.length_singleton]; omega) (by simp only [List.length_append, List.length_singleton]; omega) (by simp; omega) ?_))
            intro v6 w6 ho hg _
            rw [strCells_snoc] at ho
            have O6 : Hid (w6.ownsRow w2.heap.size 9 1 v6 ([x0] ++ o1 dm ++ o2 pa ++ o3 ag ++ o4 se ++ [(⟨#[83, 97, 109, 101, 83, 105, 116, 101, 61, 83, 116, 114, 105, 99, 116]⟩ : ByteArray)]).length (strCells ([x0] ++ o1 dm ++ o2 pa ++ o3 ag ++ o4 se ++ [(⟨#[83, 97, 109, 101, 83, 105, 116, 101, 61, 83, 116, 114, 105, 99, 116]⟩ : ByteArray)]))) := own_cast ho (by simp only [List.length_append, List.length_cons, List.length_nil]; omega) (by simp)
            have A6 : Hid (Below w2.heap.size w2 w6) := (Q4.out.alloc Q4.out.size _).grown hg (by have := Q4.out.size; simp; omega) (fun j hj => (R4.out.lt j hj).1)
            clear ho hg
            have t6 := A6.out.size
            obtain ⟨d2, d3, d4, d5, d6, d7⟩ := HC.out _ A6.out
            cases pt with
            | false =>
              have HD : Hid (joinB ([x0] ++ o1 dm ++ o2 pa ++ o3 ag ++ o4 se ++ [(⟨#[83, 97, 109, 101, 83, 105, 116, 101, 61, 83, 116, 114, 105, 99, 116]⟩ : ByteArray)]) semi = joinB ([x0] ++ o1 dm ++ o2 pa ++ o3 ag ++ o4 se ++ o5 mo ++ o6 false) semi) := by show _ = _; rw [show o6 false = [] from rfl, HE.out, List.append_nil]
              have HJ : Hid (Calls Tryz.prog 26 #[v6, .string ⟨#[59, 32]⟩] w6 fun e w' => e = .returned (.string R) ∧ Below w6.heap.size w6 w') := by
                have h := join_own ([x0] ++ o1 dm ++ o2 pa ++ o3 ag ++ o4 se ++ [(⟨#[83, 97, 109, 101, 83, 105, 116, 101, 61, 83, 116, 114, 105, 99, 116]⟩ : ByteArray)]) _ _ _ semi _ O6.out (by simp only [List.length_append, List.length_singleton]; omega) (by rw [HD.out]; exact Nat.le_trans HZ.out (by decide))
                rw [HD.out, ← HX.out] at h
                exact h
              go_wp2_with (go_at_call 26; refine HJ.out.mono ?_; rintro e w9 ⟨rfl, hb9⟩)
              go_ret
              exact ⟨rfl, B2.out.trans ((A6.out.mono B2.out.size).trans (hb9.mono (Nat.le_trans B2.out.size A6.out.size)))⟩
            | true =>
              go_wp2_with (at_builtin; go_must (refine wpList_append_own _ rfl _ _ 47 rfl w2.heap.size 9 i0 (.string ⟨#[]⟩) 1 16 Tryz.underlying47 hi hy0 hy1 hy2 rfl (by decide) _ _ _ rfl (O6.out.alloc _) ⟨w6.heap.size, 0, none⟩ 1 1 [.string ((⟨#[80, 97, 114, 116, 105, 116, 105, 111, 110, 101, 100]⟩ : ByteArray))] rfl rfl (cell_one_new _ _ _) (by intro u hu; simp at hu; subst hu; rfl) (by unfold maxLen; simp only [List.length_append, List.length_singleton]; omega) (by simp only [List.length_append, List.length_singleton]; omega) (by simp; omega) ?_))
              intro v8 w8 ho hg _
              rw [strCells_snoc] at ho
              have O8 : Hid (w8.ownsRow w2.heap.size 9 1 v8 ([x0] ++ o1 dm ++ o2 pa ++ o3 ag ++ o4 se ++ [(⟨#[83, 97, 109, 101, 83, 105, 116, 101, 61, 83, 116, 114, 105, 99, 116]⟩ : ByteArray)] ++ [(⟨#[80, 97, 114, 116, 105, 116, 105, 111, 110, 101, 100]⟩ : ByteArray)]).length (strCells ([x0] ++ o1 dm ++ o2 pa ++ o3 ag ++ o4 se ++ [(⟨#[83, 97, 109, 101, 83, 105, 116, 101, 61, 83, 116, 114, 105, 99, 116]⟩ : ByteArray)] ++ [(⟨#[80, 97, 114, 116, 105, 116, 105, 111, 110, 101, 100]⟩ : ByteArray)]))) := own_cast ho (by simp only [List.length_append, List.length_cons, List.length_nil]; omega) (by simp)
              have A8 : Hid (Below w2.heap.size w2 w8) := (A6.out.alloc A6.out.size _).grown hg (by have := A6.out.size; simp; omega) (fun j hj => (O6.out.lt j hj).1)
              clear ho hg
              have HD : Hid (joinB ([x0] ++ o1 dm ++ o2 pa ++ o3 ag ++ o4 se ++ [(⟨#[83, 97, 109, 101, 83, 105, 116, 101, 61, 83, 116, 114, 105, 99, 116]⟩ : ByteArray)] ++ [(⟨#[80, 97, 114, 116, 105, 116, 105, 111, 110, 101, 100]⟩ : ByteArray)]) semi = joinB ([x0] ++ o1 dm ++ o2 pa ++ o3 ag ++ o4 se ++ o5 mo ++ o6 true) semi) := by show _ = _; rw [show o6 true = [(⟨#[80, 97, 114, 116, 105, 116, 105, 111, 110, 101, 100]⟩ : ByteArray)] from rfl, HE.out]
              have HJ : Hid (Calls Tryz.prog 26 #[v8, .string ⟨#[59, 32]⟩] w8 fun e w' => e = .returned (.string R) ∧ Below w8.heap.size w8 w') := by
                have h := join_own ([x0] ++ o1 dm ++ o2 pa ++ o3 ag ++ o4 se ++ [(⟨#[83, 97, 109, 101, 83, 105, 116, 101, 61, 83, 116, 114, 105, 99, 116]⟩ : ByteArray)] ++ [(⟨#[80, 97, 114, 116, 105, 116, 105, 111, 110, 101, 100]⟩ : ByteArray)]) _ _ _ semi _ O8.out (by simp only [List.length_append, List.length_singleton]; omega) (by rw [HD.out]; exact Nat.le_trans HZ.out (by decide))
                rw [HD.out, ← HX.out] at h
                exact h
              go_wp2_with (go_at_call 26; refine HJ.out.mono ?_; rintro e w9 ⟨rfl, hb9⟩)
              go_ret
              exact ⟨rfl, B2.out.trans ((A8.out.mono B2.out.size).trans (hb9.mono (Nat.le_trans B2.out.size A8.out.size)))⟩
          have q1 : (mo == 1) = false := by rw [beq_eq_false_iff_ne]; exact hm1
          by_cases hm2 : mo = 2
          · have HE : Hid (o5 mo = [(⟨#[83, 97, 109, 101, 83, 105, 116, 101, 61, 78, 111, 110, 101]⟩ : ByteArray)]) := by show _ = _; rw [E5.out, if_neg hm1, if_pos hm2]
            have q2 : (mo == 2) = true := by rw [beq_iff_eq]; exact hm2
            go_wp2_with (at_builtin; go_must (refine wpList_append_own _ rfl _ _ 47 rfl w2.heap.size 9 i0 (.string ⟨#[]⟩) 1 16 Tryz.underlying47 hi hy0 hy1 hy2 rfl (by decide) _ _ _ rfl (R4.out.alloc _) ⟨wc.heap.size, 0, none⟩ 1 1 [.string ((⟨#[83, 97, 109, 101, 83, 105, 116, 101, 61, 78, 111, 110, 101]⟩ : ByteArray))] rfl rfl (cell_one_new _ _ _) (by intro u hu; simp at hu; subst hu; rfl) (by unfold maxLen; simp only [List.length_append, List.length_singleton]; omega) (by simp only [List.length_append, List.length_singleton]; omega) (by simp; omega) ?_))
            intro v6 w6 ho hg _
            rw [strCells_snoc] at ho
            have O6 : Hid (w6.ownsRow w2.heap.size 9 1 v6 ([x0] ++ o1 dm ++ o2 pa ++ o3 ag ++ o4 se ++ [(⟨#[83, 97, 109, 101, 83, 105, 116, 101, 61, 78, 111, 110, 101]⟩ : ByteArray)]).length (strCells ([x0] ++ o1 dm ++ o2 pa ++ o3 ag ++ o4 se ++ [(⟨#[83, 97, 109, 101, 83, 105, 116, 101, 61, 78, 111, 110, 101]⟩ : ByteArray)]))) := own_cast ho (by simp only [List.length_append, List.length_cons, List.length_nil]; omega) (by simp)
            have A6 : Hid (Below w2.heap.size w2 w6) := (Q4.out.alloc Q4.out.size _).grown hg (by have := Q4.out.size; simp; omega) (fun j hj => (R4.out.lt j hj).1)
            clear ho hg
            have t6 := A6.out.size
            obtain ⟨d2, d3, d4, d5, d6, d7⟩ := HC.out _ A6.out
            cases pt with
            | false =>
              have HD : Hid (joinB ([x0] ++ o1 dm ++ o2 pa ++ o3 ag ++ o4 se ++ [(⟨#[83, 97, 109, 101, 83, 105, 116, 101, 61, 78, 111, 110, 101]⟩ : ByteArray)]) semi = joinB ([x0] ++ o1 dm ++ o2 pa ++ o3 ag ++ o4 se ++ o5 mo ++ o6 false) semi) := by show _ = _; rw [show o6 false = [] from rfl, HE.out, List.append_nil]
              have HJ : Hid (Calls Tryz.prog 26 #[v6, .string ⟨#[59, 32]⟩] w6 fun e w' => e = .returned (.string R) ∧ Below w6.heap.size w6 w') := by
                have h := join_own ([x0] ++ o1 dm ++ o2 pa ++ o3 ag ++ o4 se ++ [(⟨#[83, 97, 109, 101, 83, 105, 116, 101, 61, 78, 111, 110, 101]⟩ : ByteArray)]) _ _ _ semi _ O6.out (by simp only [List.length_append, List.length_singleton]; omega) (by rw [HD.out]; exact Nat.le_trans HZ.out (by decide))
                rw [HD.out, ← HX.out] at h
                exact h
              go_wp2_with (go_at_call 26; refine HJ.out.mono ?_; rintro e w9 ⟨rfl, hb9⟩)
              go_ret
              exact ⟨rfl, B2.out.trans ((A6.out.mono B2.out.size).trans (hb9.mono (Nat.le_trans B2.out.size A6.out.size)))⟩
            | true =>
              go_wp2_with (at_builtin; go_must (refine wpList_append_own _ rfl _ _ 47 rfl w2.heap.size 9 i0 (.string ⟨#[]⟩) 1 16 Tryz.underlying47 hi hy0 hy1 hy2 rfl (by decide) _ _ _ rfl (O6.out.alloc _) ⟨w6.heap.size, 0, none⟩ 1 1 [.string ((⟨#[80, 97, 114, 116, 105, 116, 105, 111, 110, 101, 100]⟩ : ByteArray))] rfl rfl (cell_one_new _ _ _) (by intro u hu; simp at hu; subst hu; rfl) (by unfold maxLen; simp only [List.length_append, List.length_singleton]; omega) (by simp only [List.length_append, List.length_singleton]; omega) (by simp; omega) ?_))
              intro v8 w8 ho hg _
              rw [strCells_snoc] at ho
              have O8 : Hid (w8.ownsRow w2.heap.size 9 1 v8 ([x0] ++ o1 dm ++ o2 pa ++ o3 ag ++ o4 se ++ [(⟨#[83, 97, 109, 101, 83, 105, 116, 101, 61, 78, 111, 110, 101]⟩ : ByteArray)] ++ [(⟨#[80, 97, 114, 116, 105, 116, 105, 111, 110, 101, 100]⟩ : ByteArray)]).length (strCells ([x0] ++ o1 dm ++ o2 pa ++ o3 ag ++ o4 se ++ [(⟨#[83, 97, 109, 101, 83, 105, 116, 101, 61, 78, 111, 110, 101]⟩ : ByteArray)] ++ [(⟨#[80, 97, 114, 116, 105, 116, 105, 111, 110, 101, 100]⟩ : ByteArray)]))) := own_cast ho (by simp only [List.length_append, List.length_cons, List.length_nil]; omega) (by simp)
              have A8 : Hid (Below w2.heap.size w2 w8) := (A6.out.alloc A6.out.size _).grown hg (by have := A6.out.size; simp; omega) (fun j hj => (O6.out.lt j hj).1)
              clear ho hg
              have HD : Hid (joinB ([x0] ++ o1 dm ++ o2 pa ++ o3 ag ++ o4 se ++ [(⟨#[83, 97, 109, 101, 83, 105, 116, 101, 61, 78, 111, 110, 101]⟩ : ByteArray)] ++ [(⟨#[80, 97, 114, 116, 105, 116, 105, 111, 110, 101, 100]⟩ : ByteArray)]) semi = joinB ([x0] ++ o1 dm ++ o2 pa ++ o3 ag ++ o4 se ++ o5 mo ++ o6 true) semi) := by show _ = _; rw [show o6 true = [(⟨#[80, 97, 114, 116, 105, 116, 105, 111, 110, 101, 100]⟩ : ByteArray)] from rfl, HE.out]
              have HJ : Hid (Calls Tryz.prog 26 #[v8, .string ⟨#[59, 32]⟩] w8 fun e w' => e = .returned (.string R) ∧ Below w8.heap.size w8 w') := by
                have h := join_own ([x0] ++ o1 dm ++ o2 pa ++ o3 ag ++ o4 se ++ [(⟨#[83, 97, 109, 101, 83, 105, 116, 101, 61, 78, 111, 110, 101]⟩ : ByteArray)] ++ [(⟨#[80, 97, 114, 116, 105, 116, 105, 111, 110, 101, 100]⟩ : ByteArray)]) _ _ _ semi _ O8.out (by simp only [List.length_append, List.length_singleton]; omega) (by rw [HD.out]; exact Nat.le_trans HZ.out (by decide))
                rw [HD.out, ← HX.out] at h
                exact h
              go_wp2_with (go_at_call 26; refine HJ.out.mono ?_; rintro e w9 ⟨rfl, hb9⟩)
              go_ret
              exact ⟨rfl, B2.out.trans ((A8.out.mono B2.out.size).trans (hb9.mono (Nat.le_trans B2.out.size A8.out.size)))⟩
          have q2 : (mo == 2) = false := by rw [beq_eq_false_iff_ne]; exact hm2
          have HE : Hid (o5 mo = []) := by show _ = _; rw [E5.out, if_neg hm1, if_neg hm2]
          cases pt with
          | false =>
            have HD : Hid (joinB ([x0] ++ o1 dm ++ o2 pa ++ o3 ag ++ o4 se) semi = joinB ([x0] ++ o1 dm ++ o2 pa ++ o3 ag ++ o4 se ++ o5 mo ++ o6 false) semi) := by show _ = _; rw [show o6 false = [] from rfl, HE.out, List.append_nil, List.append_nil]
            have HJ : Hid (Calls Tryz.prog 26 #[u3, .string ⟨#[59, 32]⟩] wc fun e w' => e = .returned (.string R) ∧ Below wc.heap.size wc w') := by
              have h := join_own ([x0] ++ o1 dm ++ o2 pa ++ o3 ag ++ o4 se) _ _ _ semi _ R4.out (by simp only [List.length_append, List.length_singleton]; omega) (by rw [HD.out]; exact Nat.le_trans HZ.out (by decide))
              rw [HD.out, ← HX.out] at h
              exact h
            go_wp2_with (go_at_call 26; refine HJ.out.mono ?_; rintro e w9 ⟨rfl, hb9⟩)
            go_ret
            exact ⟨rfl, B2.out.trans ((Q4.out.mono B2.out.size).trans (hb9.mono (Nat.le_trans B2.out.size Q4.out.size)))⟩
          | true =>
            go_wp2_with (at_builtin; go_must (refine wpList_append_own _ rfl _ _ 47 rfl w2.heap.size 9 i0 (.string ⟨#[]⟩) 1 16 Tryz.underlying47 hi hy0 hy1 hy2 rfl (by decide) _ _ _ rfl (R4.out.alloc _) ⟨wc.heap.size, 0, none⟩ 1 1 [.string ((⟨#[80, 97, 114, 116, 105, 116, 105, 111, 110, 101, 100]⟩ : ByteArray))] rfl rfl (cell_one_new _ _ _) (by intro u hu; simp at hu; subst hu; rfl) (by unfold maxLen; simp only [List.length_append, List.length_singleton]; omega) (by simp only [List.length_append, List.length_singleton]; omega) (by simp; omega) ?_))
            intro v8 w8 ho hg _
            rw [strCells_snoc] at ho
            have O8 : Hid (w8.ownsRow w2.heap.size 9 1 v8 ([x0] ++ o1 dm ++ o2 pa ++ o3 ag ++ o4 se ++ [(⟨#[80, 97, 114, 116, 105, 116, 105, 111, 110, 101, 100]⟩ : ByteArray)]).length (strCells ([x0] ++ o1 dm ++ o2 pa ++ o3 ag ++ o4 se ++ [(⟨#[80, 97, 114, 116, 105, 116, 105, 111, 110, 101, 100]⟩ : ByteArray)]))) := own_cast ho (by simp only [List.length_append, List.length_cons, List.length_nil]; omega) (by simp)
            have A8 : Hid (Below w2.heap.size w2 w8) := (Q4.out.alloc Q4.out.size _).grown hg (by have := Q4.out.size; simp; omega) (fun j hj => (R4.out.lt j hj).1)
            clear ho hg
            have HD : Hid (joinB ([x0] ++ o1 dm ++ o2 pa ++ o3 ag ++ o4 se ++ [(⟨#[80, 97, 114, 116, 105, 116, 105, 111, 110, 101, 100]⟩ : ByteArray)]) semi = joinB ([x0] ++ o1 dm ++ o2 pa ++ o3 ag ++ o4 se ++ o5 mo ++ o6 true) semi) := by show _ = _; rw [show o6 true = [(⟨#[80, 97, 114, 116, 105, 116, 105, 111, 110, 101, 100]⟩ : ByteArray)] from rfl, HE.out, List.append_nil]
            have HJ : Hid (Calls Tryz.prog 26 #[v8, .string ⟨#[59, 32]⟩] w8 fun e w' => e = .returned (.string R) ∧ Below w8.heap.size w8 w') := by
              have h := join_own ([x0] ++ o1 dm ++ o2 pa ++ o3 ag ++ o4 se ++ [(⟨#[80, 97, 114, 116, 105, 116, 105, 111, 110, 101, 100]⟩ : ByteArray)]) _ _ _ semi _ O8.out (by simp only [List.length_append, List.length_singleton]; omega) (by rw [HD.out]; exact Nat.le_trans HZ.out (by decide))
              rw [HD.out, ← HX.out] at h
              exact h
            go_wp2_with (go_at_call 26; refine HJ.out.mono ?_; rintro e w9 ⟨rfl, hb9⟩)
            go_ret
            exact ⟨rfl, B2.out.trans ((A8.out.mono B2.out.size).trans (hb9.mono (Nat.le_trans B2.out.size A8.out.size)))⟩
end Go.Proofs.YthcpmbolnmlohaaGreatDoor

/- The walk of together: two texts put together in new memory. -/
namespace Go.Proofs.YthcpmbolnmlohaaGreatDoor
open Go.RowKit


set_option maxRecDepth 10000 in
set_option maxHeartbeats 400000 in
theorem together_full (x y : ByteArray) (w : World) (hz : x.size + y.size ≤ 1000000) (hy : ¬ y = ByteArray.empty) :
    Calls Tryz.prog 66 #[.string x, .string y] w fun e w' => e = .returned (.string (x ++ y)) ∧ Below w.heap.size w w' := by
  obtain ⟨w1, Z, hmk, HG1, hZ, hs1, hb1⟩ := make_row (P := Tryz.prog) w 22 5 _ Tryz.underlying22 infoU8 ((x.size : Int) + (y.size : Int)) (x.size + y.size) (by omega) (by omega)
  go_enter Tryz.func66, Tryz.ntmps66
  go_wp2_with fail
  obtain ⟨w2, hc2, HG2, hs2, hB2⟩ := copy_text (P := Tryz.prog) w1 22 9 3 5 Tryz.underlying22 sizeU8 (some ⟨w.heap.size, 0, none⟩) (x.size + y.size) (x.size + y.size) x (by omega) w.heap.size 0 Z _ HG1 (fun _ => rfl) (by omega)
  have hb2 := hB2 _ _ hb1 (Nat.le_refl _)
  rw [hc2]
  clear hc2 hmk hB2 HG1 hb1
  go_wp2_with fail
  have hl2 : (splice Z 0 (Lib.byteCells x.data.toList)).length = x.size + y.size := by rw [length_splice _ _ _ (by rw [len_cells]; omega), hZ]
  obtain ⟨w3, hc3, HG3, hs3, hB3⟩ := copy_text (P := Tryz.prog) w2 22 9 3 5 Tryz.underlying22 sizeU8 (some ⟨w.heap.size, x.size, none⟩) y.size y.size y (by omega) w.heap.size x.size _ _ HG2 (fun _ => rfl) (by omega)
  have hb3 := hB3 _ _ hb2 (Nat.le_refl _)
  have HG4 : RowAt w3 w.heap.size 5 (Lib.byteCells (x.data.toList ++ y.data.toList) ++ []) := by
    have e := splice_two Z (Lib.byteCells x.data.toList) (Lib.byteCells y.data.toList) (by rw [len_cells, len_cells]; exact hZ)
    rw [len_cells] at e
    rw [e, ← byteCells_append, ← List.append_nil (Lib.byteCells _)] at HG3
    exact HG3
  rw [hc3]
  clear hc3 hB3 HG2 HG3 hb2 hl2
  go_wp2_with fail
  rw [text_of_row (P := Tryz.prog) w3 22 9 5 Tryz.underlying22 Tryz.underlying5 Tryz.underlying9 w.heap.size (x.size + y.size) (x.size + y.size) 5 _ _ HG4 (by rw [List.length_append, ← Lib.size_eq, ← Lib.size_eq])]
  go_wp2
  go_ret
  exact ⟨ret_text (text_append x y), hb3⟩

set_option maxRecDepth 10000 in
set_option maxHeartbeats 400000 in
theorem together_empty (x : ByteArray) (w : World) (hz : x.size ≤ 1000000) :
    Calls Tryz.prog 66 #[.string x, .string ByteArray.empty] w fun e w' => e = .returned (.string x) ∧ Below w.heap.size w w' := by
  obtain ⟨w1, Z, hmk, HG1, hZ, hs1, hb1⟩ := make_row (P := Tryz.prog) w 22 5 _ Tryz.underlying22 infoU8 (x.size : Int) x.size (by omega) (by omega)
  go_enter Tryz.func66, Tryz.ntmps66
  go_wp2_with fail
  obtain ⟨w2, hc2, HG2, hs2, hB2⟩ := copy_text (P := Tryz.prog) w1 22 9 3 5 Tryz.underlying22 sizeU8 (some ⟨w.heap.size, 0, none⟩) x.size x.size x (by omega) w.heap.size 0 Z _ HG1 (fun _ => rfl) (by omega)
  have hb2 := hB2 _ _ hb1 (Nat.le_refl _)
  rw [hc2]
  clear hc2 hmk hB2 HG1 hb1
  go_wp2_with fail
  have HG4 : RowAt w2 w.heap.size 5 (Lib.byteCells x.data.toList ++ []) := by
    have e : splice Z 0 (Lib.byteCells x.data.toList) = Lib.byteCells x.data.toList ++ [] := by
      unfold splice
      rw [List.drop_eq_nil_of_le (by rw [len_cells]; omega)]
      simp
    rw [e] at HG2
    exact HG2
  rw [Lib.run_copy_empty_string (P := Tryz.prog) w2 22 9 3 5 (some ⟨w.heap.size, 0, none⟩) 0 0 ByteArray.empty Tryz.underlying22 (by rw [Option.isSome_iff_exists]; exact ⟨1, sizeU8⟩) rfl]
  go_wp2_with fail
  rw [text_of_row (P := Tryz.prog) w2 22 9 5 Tryz.underlying22 Tryz.underlying5 Tryz.underlying9 w.heap.size x.size x.size 5 _ _ HG4 (by rw [← Lib.size_eq])]
  go_wp2
  go_ret
  exact ⟨rfl, hb2⟩
theorem together_any (x y : ByteArray) (w : World) (hz : x.size + y.size ≤ 1000000) :
    Calls Tryz.prog 66 #[.string x, .string y] w fun e w' => e = .returned (.string (x ++ y)) ∧ Below w.heap.size w w' := by
  by_cases hy : y = ByteArray.empty
  · subst hy
    rw [ByteArray.append_empty]
    exact together_empty x w (by omega)
  · exact together_full x y w hz hy

end Go.Proofs.YthcpmbolnmlohaaGreatDoor

/- The walks of the program's pairParts, withValue, withAttribute. -/
namespace Go.Proofs.YthcpmbolnmlohaaGreatDoor
open Go.RowKit

theorem below_drew {w w' : World} (h : ∃ n, w' = w.drewN n) : Below w.heap.size w w' := by
  obtain ⟨n, rfl⟩ := h
  exact ⟨rfl, rfl, rfl, Nat.le_refl _, fun _ _ => rfl⟩
theorem cut_call (s : ByteArray) (w : World) (hG : MaxI w) (hs : s.size < 4294967281) :
    Calls Tryz.prog 65 #[.string s, .string ⟨#[61]⟩] w fun e w' => (∃ b, e = .returned (.tuple #[.string (pairP s).1, .string (pairP s).2, .bool b])) ∧ Below w.heap.size w w' := by
  obtain ⟨m, hm⟩ := hG
  have h := Any.strings_Cut Tryz.lays145 s equ m w hs hm
  rw [(pair_lib s).1, (pair_lib s).2] at h
  exact h.mono fun e w' ⟨h1, h2⟩ => ⟨⟨_, h1⟩, below_drew h2⟩
set_option maxRecDepth 10000 in
set_option maxHeartbeats 4000000 in
theorem pairParts_any (t : ByteArray) (w : World) (hG : MaxI w) (ht : t.size ≤ 8000) :
    Calls Tryz.prog 45 #[.string t] w fun e w' => e = .returned (pairV (pairP t).1 (pairP t).2) ∧ Below w.heap.size w w' := by
  have hz := pairP_size t
  have KC : Hid (∀ W, Below w.heap.size w W → Calls Tryz.prog 65 #[.string t, .string ⟨#[61]⟩] W fun e w' => (∃ b, e = .returned (.tuple #[.string (pairP t).1, .string (pairP t).2, .bool b])) ∧ Below W.heap.size W w') := fun W hb => cut_call t W (hG.on hb) (by omega)
  have K1 : Hid (∀ W, Calls Tryz.prog 66 #[.string (pairP t).1, .string ⟨#[]⟩] W fun e w' => e = .returned (.string (pairP t).1) ∧ Below W.heap.size W w') := fun W => together_empty _ W (by omega)
  have K2 : Hid (∀ W, Calls Tryz.prog 66 #[.string (pairP t).2, .string ⟨#[]⟩] W fun e w' => e = .returned (.string (pairP t).2) ∧ Below W.heap.size W w') := fun W => together_empty _ W (by omega)
  clear hz hG
  generalize pairP t = pp at *
  obtain ⟨n1, v1⟩ := pp
  have KC' : Hid (∀ W, Below w.heap.size w W → Calls Tryz.prog 65 #[.string t, .string ⟨#[61]⟩] W fun e w' => (∃ b, e = .returned (.tuple #[.string n1, .string v1, .bool b])) ∧ Below W.heap.size W w') := KC
  have K1' : Hid (∀ W, Calls Tryz.prog 66 #[.string n1, .string ⟨#[]⟩] W fun e w' => e = .returned (.string n1) ∧ Below W.heap.size W w') := K1
  have K2' : Hid (∀ W, Calls Tryz.prog 66 #[.string v1, .string ⟨#[]⟩] W fun e w' => e = .returned (.string v1) ∧ Below W.heap.size W w') := K2
  clear KC K1 K2
  show Calls _ _ _ _ fun e w' => e = .returned (.agg #[.string n1, .string v1]) ∧ _
  go_enter Tryz.func45, Tryz.ntmps45
  go_wp2_with fail
  refine (KC'.out _ ((Below.refl _ _).alloc (Nat.le_refl _) _)).mono ?_
  rintro e w1 ⟨⟨b, rfl⟩, hb1⟩
  go_wp2_with fail
  refine (K1'.out _).mono ?_
  rintro e w2 ⟨rfl, hb2⟩
  go_wp2_with fail
  refine (K2'.out _).mono ?_
  rintro e w3 ⟨rfl, hb3⟩
  have hz1 : w.heap.size < w1.heap.size := by have := hb1.size; simp at this; omega
  have B3 : Below (w.heap.size + 1) (w.alloc (.cells #[.string ⟨#[]⟩, .string ⟨#[]⟩] 46)) w3 := by
    have e : (w.alloc (.cells #[.string ⟨#[]⟩, .string ⟨#[]⟩] 46)).heap.size = w.heap.size + 1 := by simp
    rw [e] at hb1
    exact hb1.trans ((hb2.mono hz1).trans (hb3.mono (Nat.le_trans hz1 hb2.size)))
  have g0 : w3.cell? ⟨w.heap.size, 0, none⟩ = some (.string ⟨#[]⟩) := by rw [B3.cell (p := ⟨w.heap.size, 0, none⟩) (Nat.lt_succ_self _)]; simp
  have g1 : w3.cell? ⟨w.heap.size, 1, none⟩ = some (.string ⟨#[]⟩) := by rw [B3.cell (p := ⟨w.heap.size, 1, none⟩) (Nat.lt_succ_self _)]; simp
  have f0 : ∀ o, w3.frozen? ⟨w.heap.size, o, none⟩ = false := fun o => by rw [B3.frozen (p := ⟨w.heap.size, o, none⟩) (Nat.lt_succ_self _)]; simp
  have HB : Hid (Below w.heap.size w w3) := ((Below.refl _ _).alloc (Nat.le_refl _) _).trans (B3.mono (Nat.le_succ _))
  clear hb1 hb2 hb3 B3
  go_wp2
  exact bodyPost_ret (v := .agg #[.string n1, .string v1]) (by simp [results, Tryz.results45, go_sem, g0, g1]) rfl ⟨rfl, (HB.out.setCell (Nat.le_refl _) _).setCell (Nat.le_refl _) _⟩
/-- the library's two errors hold some value -/
def ErrI (w : World) : Prop := (∃ u v, w.cell? ⟨6, 0, none⟩ = some (.iface u v)) ∧ (∃ u v, w.cell? ⟨7, 0, none⟩ = some (.iface u v))
theorem ErrI.on {w w' : World} (h : ErrI w) (hb : Below w.heap.size w w') : ErrI w' := by
  obtain ⟨⟨u, v, h0⟩, ⟨u', v', h1⟩⟩ := h
  exact ⟨⟨u, v, by rw [(bcell hb).1 _ _ (World.block_lt_of_cell? w ⟨6, 0, none⟩ h0)]; exact h0⟩, ⟨u', v', by rw [(bcell hb).1 _ _ (World.block_lt_of_cell? w ⟨7, 0, none⟩ h1)]; exact h1⟩⟩
theorem parse_call (s : ByteArray) (w : World) (hE : ErrI w) (hs : s.size ≤ 1048576) :
    Calls Tryz.prog 87 #[.string s, .int .i64 10, .int .i64 64] w fun e w' => (∃ v, e = .returned (.tuple #[.int .i64 (parseI s), v])) ∧ Below w.heap.size w w' := by
  obtain ⟨⟨u, v, h0⟩, ⟨u', v', h1⟩⟩ := hE
  cases hp : Lib.parseIntB 64 s.data.toList with
  | ok n =>
    have e : parseI s = n := by unfold parseI; rw [hp]
    rw [e]
    refine (Any.strconv_ParseInt_10_at64_ok Tryz.lays174 s (by omega) n hp w).mono ?_
    rintro e w' ⟨rfl, rfl | ⟨t, rfl⟩⟩
    · exact ⟨⟨_, rfl⟩, Below.refl _ _⟩
    · exact ⟨⟨_, rfl⟩, Lib.bytesWorld_below _ _ _⟩
  | «syntax» =>
    have e : parseI s = 0 := by unfold parseI; rw [hp]
    rw [e]
    refine (Any.strconv_ParseInt_10_at64_syntax Tryz.lays174 s (by omega) hp _ w h0 (.inr ⟨_, _, rfl⟩)).mono ?_
    rintro e w' ⟨N, rfl, _, _, hb⟩
    exact ⟨⟨_, rfl⟩, hb⟩
  | range =>
    have e : parseI s = Lib.intSat 64 s.data.toList := by unfold parseI; rw [hp]
    rw [e]
    refine (Any.strconv_ParseInt_10_at64_range Tryz.lays174 s (by omega) hp _ w h1 (.inr ⟨_, _, rfl⟩)).mono ?_
    rintro e w' ⟨N, rfl, _, _, hb⟩
    exact ⟨⟨_, rfl⟩, hb⟩
set_option maxRecDepth 10000 in
set_option maxHeartbeats 16000000 in
theorem withValue_any (c : SC) (x : ByteArray) (w : World) (hG : MaxI w) (hE : ErrI w) (hx : x.size ≤ 8000) :
    Calls Tryz.prog 74 #[scV c, .string x] w fun e w' => e = .returned (scV (iVal c x)) ∧ Below w.heap.size w w' := by
  have hz := pairP_size x
  have HI : Hid (iVal c x = if ((pairP x).1.toList == tDomain) = true then { c with dm := (pairP x).2 } else if ((pairP x).1.toList == tPath) = true then { c with pa := (pairP x).2 } else if ((pairP x).1.toList == tAge) = true then { c with ag := parseI (pairP x).2 } else c) := rfl
  have KC : Hid (∀ W, Below w.heap.size w W → Calls Tryz.prog 65 #[.string x, .string ⟨#[61]⟩] W fun e w' => (∃ b, e = .returned (.tuple #[.string (pairP x).1, .string (pairP x).2, .bool b])) ∧ Below W.heap.size W w') := fun W hb => cut_call x W (hG.on hb) (by omega)
  have K2 : Hid (∀ W, Calls Tryz.prog 66 #[.string (pairP x).2, .string ⟨#[]⟩] W fun e w' => e = .returned (.string (pairP x).2) ∧ Below W.heap.size W w') := fun W => together_empty _ W (by omega)
  have K3 : Hid (∀ W, Below w.heap.size w W → Calls Tryz.prog 87 #[.string (pairP x).2, .int .i64 10, .int .i64 64] W fun e w' => (∃ v, e = .returned (.tuple #[.int .i64 (parseI (pairP x).2), v])) ∧ Below W.heap.size W w') := fun W hb => parse_call _ W (hE.on hb) (by omega)
  clear hz hG hE hx
  generalize iVal c x = R at *
  generalize pairP x = pp at *
  obtain ⟨n1, v1⟩ := pp
  generalize hpi : parseI (n1, v1).2 = nv at *
  clear hpi
  obtain ⟨na, va, dm, pa, ag, se, mo, pt⟩ := c
  have HR : Hid (R = if (n1.toList == tDomain) = true then ⟨na, va, v1, pa, ag, se, mo, pt⟩ else if (n1.toList == tPath) = true then ⟨na, va, dm, v1, ag, se, mo, pt⟩ else if (n1.toList == tAge) = true then ⟨na, va, dm, pa, nv, se, mo, pt⟩ else ⟨na, va, dm, pa, ag, se, mo, pt⟩) := HI
  have KC' : Hid (∀ W, Below w.heap.size w W → Calls Tryz.prog 65 #[.string x, .string ⟨#[61]⟩] W fun e w' => (∃ b, e = .returned (.tuple #[.string n1, .string v1, .bool b])) ∧ Below W.heap.size W w') := KC
  have K2' : Hid (∀ W, Calls Tryz.prog 66 #[.string v1, .string ⟨#[]⟩] W fun e w' => e = .returned (.string v1) ∧ Below W.heap.size W w') := K2
  have K3' : Hid (∀ W, Below w.heap.size w W → Calls Tryz.prog 87 #[.string v1, .int .i64 10, .int .i64 64] W fun e w' => (∃ v, e = .returned (.tuple #[.int .i64 nv, v])) ∧ Below W.heap.size W w') := K3
  clear KC K2 K3 HI
  show Calls _ _ #[.agg #[.string na, .string va, .string dm, .string pa, .int .i64 ag, .bool se, .int .i64 mo, .bool pt], _] _ _
  have M0 : Hid (U8 ((w.alloc (.cells #[.string na, .string va, .string dm, .string pa, .int .i64 ag, .bool se, .int .i64 mo, .bool pt] 24)).alloc (.cells #[.string ⟨#[]⟩, .string ⟨#[]⟩, .string ⟨#[]⟩, .string ⟨#[]⟩, .int .i64 0, .bool false, .int .i64 0, .bool false] 24)) w.heap.size (.string na) (.string va) (.string dm) (.string pa) (.int .i64 ag) (.bool se) (.int .i64 mo) (.bool pt) ∧ U8 ((w.alloc (.cells #[.string na, .string va, .string dm, .string pa, .int .i64 ag, .bool se, .int .i64 mo, .bool pt] 24)).alloc (.cells #[.string ⟨#[]⟩, .string ⟨#[]⟩, .string ⟨#[]⟩, .string ⟨#[]⟩, .int .i64 0, .bool false, .int .i64 0, .bool false] 24)) (w.heap.size + 1) (.string ⟨#[]⟩) (.string ⟨#[]⟩) (.string ⟨#[]⟩) (.string ⟨#[]⟩) (.int .i64 0) (.bool false) (.int .i64 0) (.bool false) ∧ Below w.heap.size w ((w.alloc (.cells #[.string na, .string va, .string dm, .string pa, .int .i64 ag, .bool se, .int .i64 mo, .bool pt] 24)).alloc (.cells #[.string ⟨#[]⟩, .string ⟨#[]⟩, .string ⟨#[]⟩, .string ⟨#[]⟩, .int .i64 0, .bool false, .int .i64 0, .bool false] 24)) ∧ ((w.alloc (.cells #[.string na, .string va, .string dm, .string pa, .int .i64 ag, .bool se, .int .i64 mo, .bool pt] 24)).alloc (.cells #[.string ⟨#[]⟩, .string ⟨#[]⟩, .string ⟨#[]⟩, .string ⟨#[]⟩, .int .i64 0, .bool false, .int .i64 0, .bool false] 24)).heap.size = w.heap.size + 2) := by
    have a := U8.made w (.string na) (.string va) (.string dm) (.string pa) (.int .i64 ag) (.bool se) (.int .i64 mo) (.bool pt) 24
    have b := U8.made (w.alloc (.cells #[.string na, .string va, .string dm, .string pa, .int .i64 ag, .bool se, .int .i64 mo, .bool pt] 24)) (.string ⟨#[]⟩) (.string ⟨#[]⟩) (.string ⟨#[]⟩) (.string ⟨#[]⟩) (.int .i64 0) (.bool false) (.int .i64 0) (.bool false) 24
    have e : (w.alloc (.cells #[.string na, .string va, .string dm, .string pa, .int .i64 ag, .bool se, .int .i64 mo, .bool pt] 24)).heap.size = w.heap.size + 1 := by simp
    rw [e] at b
    exact ⟨a.below ((Below.refl _ _).alloc (Nat.le_refl _) _), b, ((Below.refl _ _).alloc (Nat.le_refl _) _).alloc (by simp) _, by simp⟩
  go_enter Tryz.func74, Tryz.ntmps74
  go_wp2_with fail
  refine (KC'.out _ M0.out.2.2.1).mono ?_
  rintro e w1 ⟨⟨b, rfl⟩, hb1⟩
  have M1 : Hid (U8 w1 w.heap.size (.string na) (.string va) (.string dm) (.string pa) (.int .i64 ag) (.bool se) (.int .i64 mo) (.bool pt) ∧ U8 w1 (w.heap.size + 1) (.string ⟨#[]⟩) (.string ⟨#[]⟩) (.string ⟨#[]⟩) (.string ⟨#[]⟩) (.int .i64 0) (.bool false) (.int .i64 0) (.bool false) ∧ Below w.heap.size w w1) := ⟨M0.out.1.below hb1, M0.out.2.1.below hb1, M0.out.2.2.1.trans (hb1.mono M0.out.2.2.1.size)⟩
  clear hb1 M0 KC'
  cases e0 : (n1.toList == tDomain) with
  | true =>
    have HX : Hid (R = ⟨na, va, v1, pa, ag, se, mo, pt⟩) := by show _ = _; rw [HR.out, if_pos e0]
    unfold tDomain at e0
    go_wp2_with fail
    refine (K2'.out _).mono ?_
    rintro e w2 ⟨rfl, hb2⟩
    have M2 : Hid (U8 w2 w.heap.size (.string na) (.string va) (.string dm) (.string pa) (.int .i64 ag) (.bool se) (.int .i64 mo) (.bool pt) ∧ U8 w2 (w.heap.size + 1) (.string ⟨#[]⟩) (.string ⟨#[]⟩) (.string ⟨#[]⟩) (.string ⟨#[]⟩) (.int .i64 0) (.bool false) (.int .i64 0) (.bool false) ∧ Below w.heap.size w w2) := ⟨M1.out.1.below hb2, M1.out.2.1.below hb2, M1.out.2.2.trans (hb2.mono M1.out.2.2.size)⟩
    clear hb2 M1
    have B2 : Hid (Below w.heap.size w w2) := M2.out.2.2
    obtain ⟨-, ⟨p0, p1, p2, p3, p4, p5, p6, p7⟩, fp⟩ := M2.out.1
    obtain ⟨-, ⟨r0, r1, r2, r3, r4, r5, r6, r7⟩, fr⟩ := M2.out.2.1
    clear M2
    go_wp2
    exact bodyPost_ret (v := .agg #[.string na, .string va, .string v1, .string pa, .int .i64 ag, .bool se, .int .i64 mo, .bool pt]) (by simp [results, Tryz.results74, go_sem, r0, r1, r2, r3, r4, r5, r6, r7]) rfl ⟨by rw [HX.out]; rfl, (Below.setCell (Below.setCell (Below.setCell (Below.setCell (Below.setCell (Below.setCell (Below.setCell (Below.setCell (Below.setCell B2.out (p := ⟨w.heap.size, 2, none⟩) (Nat.le_refl _) _) (p := ⟨w.heap.size + 1, 0, none⟩) (Nat.le_succ _) _) (p := ⟨w.heap.size + 1, 1, none⟩) (Nat.le_succ _) _) (p := ⟨w.heap.size + 1, 2, none⟩) (Nat.le_succ _) _) (p := ⟨w.heap.size + 1, 3, none⟩) (Nat.le_succ _) _) (p := ⟨w.heap.size + 1, 4, none⟩) (Nat.le_succ _) _) (p := ⟨w.heap.size + 1, 5, none⟩) (Nat.le_succ _) _) (p := ⟨w.heap.size + 1, 6, none⟩) (Nat.le_succ _) _) (p := ⟨w.heap.size + 1, 7, none⟩) (Nat.le_succ _) _)⟩
  | false =>
    cases e1 : (n1.toList == tPath) with
    | true =>
      have HX : Hid (R = ⟨na, va, dm, v1, ag, se, mo, pt⟩) := by show _ = _; rw [HR.out, if_neg (by rw [e0]; decide), if_pos e1]
      unfold tDomain at e0
      unfold tPath at e1
      go_wp2_with fail
      refine (K2'.out _).mono ?_
      rintro e w2 ⟨rfl, hb2⟩
      have M2 : Hid (U8 w2 w.heap.size (.string na) (.string va) (.string dm) (.string pa) (.int .i64 ag) (.bool se) (.int .i64 mo) (.bool pt) ∧ U8 w2 (w.heap.size + 1) (.string ⟨#[]⟩) (.string ⟨#[]⟩) (.string ⟨#[]⟩) (.string ⟨#[]⟩) (.int .i64 0) (.bool false) (.int .i64 0) (.bool false) ∧ Below w.heap.size w w2) := ⟨M1.out.1.below hb2, M1.out.2.1.below hb2, M1.out.2.2.trans (hb2.mono M1.out.2.2.size)⟩
      clear hb2 M1
      have B2 : Hid (Below w.heap.size w w2) := M2.out.2.2
      obtain ⟨-, ⟨p0, p1, p2, p3, p4, p5, p6, p7⟩, fp⟩ := M2.out.1
      obtain ⟨-, ⟨r0, r1, r2, r3, r4, r5, r6, r7⟩, fr⟩ := M2.out.2.1
      clear M2
      go_wp2
      exact bodyPost_ret (v := .agg #[.string na, .string va, .string dm, .string v1, .int .i64 ag, .bool se, .int .i64 mo, .bool pt]) (by simp [results, Tryz.results74, go_sem, r0, r1, r2, r3, r4, r5, r6, r7]) rfl ⟨by rw [HX.out]; rfl, (Below.setCell (Below.setCell (Below.setCell (Below.setCell (Below.setCell (Below.setCell (Below.setCell (Below.setCell (Below.setCell B2.out (p := ⟨w.heap.size, 3, none⟩) (Nat.le_refl _) _) (p := ⟨w.heap.size + 1, 0, none⟩) (Nat.le_succ _) _) (p := ⟨w.heap.size + 1, 1, none⟩) (Nat.le_succ _) _) (p := ⟨w.heap.size + 1, 2, none⟩) (Nat.le_succ _) _) (p := ⟨w.heap.size + 1, 3, none⟩) (Nat.le_succ _) _) (p := ⟨w.heap.size + 1, 4, none⟩) (Nat.le_succ _) _) (p := ⟨w.heap.size + 1, 5, none⟩) (Nat.le_succ _) _) (p := ⟨w.heap.size + 1, 6, none⟩) (Nat.le_succ _) _) (p := ⟨w.heap.size + 1, 7, none⟩) (Nat.le_succ _) _)⟩
    | false =>
      cases e2 : (n1.toList == tAge) with
      | true =>
        have HX : Hid (R = ⟨na, va, dm, pa, nv, se, mo, pt⟩) := by show _ = _; rw [HR.out, if_neg (by rw [e0]; decide), if_neg (by rw [e1]; decide), if_pos e2]
        unfold tDomain at e0
        unfold tPath at e1
        unfold tAge at e2
        go_wp2_with fail
        refine (K3'.out _ M1.out.2.2).mono ?_
        rintro e w2 ⟨⟨er, rfl⟩, hb2⟩
        have M2 : Hid (U8 w2 w.heap.size (.string na) (.string va) (.string dm) (.string pa) (.int .i64 ag) (.bool se) (.int .i64 mo) (.bool pt) ∧ U8 w2 (w.heap.size + 1) (.string ⟨#[]⟩) (.string ⟨#[]⟩) (.string ⟨#[]⟩) (.string ⟨#[]⟩) (.int .i64 0) (.bool false) (.int .i64 0) (.bool false) ∧ Below w.heap.size w w2) := ⟨M1.out.1.below hb2, M1.out.2.1.below hb2, M1.out.2.2.trans (hb2.mono M1.out.2.2.size)⟩
        clear hb2 M1
        have B2 : Hid (Below w.heap.size w w2) := M2.out.2.2
        obtain ⟨-, ⟨p0, p1, p2, p3, p4, p5, p6, p7⟩, fp⟩ := M2.out.1
        obtain ⟨-, ⟨r0, r1, r2, r3, r4, r5, r6, r7⟩, fr⟩ := M2.out.2.1
        clear M2
        go_wp2
        exact bodyPost_ret (v := .agg #[.string na, .string va, .string dm, .string pa, .int .i64 nv, .bool se, .int .i64 mo, .bool pt]) (by simp [results, Tryz.results74, go_sem, r0, r1, r2, r3, r4, r5, r6, r7]) rfl ⟨by rw [HX.out]; rfl, (Below.setCell (Below.setCell (Below.setCell (Below.setCell (Below.setCell (Below.setCell (Below.setCell (Below.setCell (Below.setCell B2.out (p := ⟨w.heap.size, 4, none⟩) (Nat.le_refl _) _) (p := ⟨w.heap.size + 1, 0, none⟩) (Nat.le_succ _) _) (p := ⟨w.heap.size + 1, 1, none⟩) (Nat.le_succ _) _) (p := ⟨w.heap.size + 1, 2, none⟩) (Nat.le_succ _) _) (p := ⟨w.heap.size + 1, 3, none⟩) (Nat.le_succ _) _) (p := ⟨w.heap.size + 1, 4, none⟩) (Nat.le_succ _) _) (p := ⟨w.heap.size + 1, 5, none⟩) (Nat.le_succ _) _) (p := ⟨w.heap.size + 1, 6, none⟩) (Nat.le_succ _) _) (p := ⟨w.heap.size + 1, 7, none⟩) (Nat.le_succ _) _)⟩
      | false =>
        have HX : Hid (R = ⟨na, va, dm, pa, ag, se, mo, pt⟩) := by show _ = _; rw [HR.out, if_neg (by rw [e0]; decide), if_neg (by rw [e1]; decide), if_neg (by rw [e2]; decide)]
        unfold tDomain at e0
        unfold tPath at e1
        unfold tAge at e2
        have B2 : Hid (Below w.heap.size w w1) := M1.out.2.2
        obtain ⟨-, ⟨p0, p1, p2, p3, p4, p5, p6, p7⟩, fp⟩ := M1.out.1
        obtain ⟨-, ⟨r0, r1, r2, r3, r4, r5, r6, r7⟩, fr⟩ := M1.out.2.1
        clear M1
        go_wp2
        exact bodyPost_ret (v := .agg #[.string na, .string va, .string dm, .string pa, .int .i64 ag, .bool se, .int .i64 mo, .bool pt]) (by simp [results, Tryz.results74, go_sem, r0, r1, r2, r3, r4, r5, r6, r7]) rfl ⟨by rw [HX.out]; rfl, (Below.setCell (Below.setCell (Below.setCell (Below.setCell (Below.setCell (Below.setCell (Below.setCell (Below.setCell B2.out (p := ⟨w.heap.size + 1, 0, none⟩) (Nat.le_succ _) _) (p := ⟨w.heap.size + 1, 1, none⟩) (Nat.le_succ _) _) (p := ⟨w.heap.size + 1, 2, none⟩) (Nat.le_succ _) _) (p := ⟨w.heap.size + 1, 3, none⟩) (Nat.le_succ _) _) (p := ⟨w.heap.size + 1, 4, none⟩) (Nat.le_succ _) _) (p := ⟨w.heap.size + 1, 5, none⟩) (Nat.le_succ _) _) (p := ⟨w.heap.size + 1, 6, none⟩) (Nat.le_succ _) _) (p := ⟨w.heap.size + 1, 7, none⟩) (Nat.le_succ _) _)⟩
set_option maxRecDepth 10000 in
set_option maxHeartbeats 16000000 in
theorem withAttribute_any (c : SC) (x : ByteArray) (w : World) (hG : MaxI w) (hE : ErrI w) (hx : x.size ≤ 8000) (hm0 : 0 ≤ c.mo) (hm1 : c.mo ≤ 1000000) :
    Calls Tryz.prog 56 #[scV c, .string x] w fun e w' => e = .returned (scV (iPut c x)) ∧ Below w.heap.size w w' := by
  have HI : Hid (iPut c x = if (x.toList == tNoneW) = true then { c with mo := c.mo + 1 + 1 } else if (x.toList == tStrictW) = true then { c with mo := c.mo + 1 } else if (x.toList == tSecure) = true then { c with se := true } else if (x.toList == tParted) = true then { c with pt := true } else iVal c x) := rfl
  have KV : Hid (∀ W, Below w.heap.size w W → Calls Tryz.prog 74 #[scV c, .string x] W fun e w' => e = .returned (scV (iVal c x)) ∧ Below W.heap.size W w') := fun W hb => withValue_any c x W (hG.on hb) (hE.on hb) hx
  clear hG hE hx
  generalize iPut c x = R at *
  generalize iVal c x = V at *
  obtain ⟨na, va, dm, pa, ag, se, mo, pt⟩ := c
  obtain ⟨na', va', dm', pa', ag', se', mo', pt'⟩ := V
  have HR : Hid (R = if (x.toList == tNoneW) = true then ⟨na, va, dm, pa, ag, se, mo + 1 + 1, pt⟩ else if (x.toList == tStrictW) = true then ⟨na, va, dm, pa, ag, se, mo + 1, pt⟩ else if (x.toList == tSecure) = true then ⟨na, va, dm, pa, ag, true, mo, pt⟩ else if (x.toList == tParted) = true then ⟨na, va, dm, pa, ag, se, mo, true⟩ else ⟨na', va', dm', pa', ag', se', mo', pt'⟩) := HI
  have KV' : Hid (∀ W, Below w.heap.size w W → Calls Tryz.prog 74 #[.agg #[.string na, .string va, .string dm, .string pa, .int .i64 ag, .bool se, .int .i64 mo, .bool pt], .string x] W fun e w' => e = .returned (.agg #[.string na', .string va', .string dm', .string pa', .int .i64 ag', .bool se', .int .i64 mo', .bool pt']) ∧ Below W.heap.size W w') := KV
  clear KV HI
  have hm0 : 0 ≤ mo := hm0
  have hm1 : mo ≤ 1000000 := hm1
  show Calls _ _ #[.agg #[.string na, .string va, .string dm, .string pa, .int .i64 ag, .bool se, .int .i64 mo, .bool pt], _] _ _
  have M0 : Hid (U8 ((w.alloc (.cells #[.string na, .string va, .string dm, .string pa, .int .i64 ag, .bool se, .int .i64 mo, .bool pt] 24)).alloc (.cells #[.string ⟨#[]⟩, .string ⟨#[]⟩, .string ⟨#[]⟩, .string ⟨#[]⟩, .int .i64 0, .bool false, .int .i64 0, .bool false] 24)) w.heap.size (.string na) (.string va) (.string dm) (.string pa) (.int .i64 ag) (.bool se) (.int .i64 mo) (.bool pt) ∧ U8 ((w.alloc (.cells #[.string na, .string va, .string dm, .string pa, .int .i64 ag, .bool se, .int .i64 mo, .bool pt] 24)).alloc (.cells #[.string ⟨#[]⟩, .string ⟨#[]⟩, .string ⟨#[]⟩, .string ⟨#[]⟩, .int .i64 0, .bool false, .int .i64 0, .bool false] 24)) (w.heap.size + 1) (.string ⟨#[]⟩) (.string ⟨#[]⟩) (.string ⟨#[]⟩) (.string ⟨#[]⟩) (.int .i64 0) (.bool false) (.int .i64 0) (.bool false) ∧ Below w.heap.size w ((w.alloc (.cells #[.string na, .string va, .string dm, .string pa, .int .i64 ag, .bool se, .int .i64 mo, .bool pt] 24)).alloc (.cells #[.string ⟨#[]⟩, .string ⟨#[]⟩, .string ⟨#[]⟩, .string ⟨#[]⟩, .int .i64 0, .bool false, .int .i64 0, .bool false] 24)) ∧ ((w.alloc (.cells #[.string na, .string va, .string dm, .string pa, .int .i64 ag, .bool se, .int .i64 mo, .bool pt] 24)).alloc (.cells #[.string ⟨#[]⟩, .string ⟨#[]⟩, .string ⟨#[]⟩, .string ⟨#[]⟩, .int .i64 0, .bool false, .int .i64 0, .bool false] 24)).heap.size = w.heap.size + 2) := by
    have a := U8.made w (.string na) (.string va) (.string dm) (.string pa) (.int .i64 ag) (.bool se) (.int .i64 mo) (.bool pt) 24
    have b := U8.made (w.alloc (.cells #[.string na, .string va, .string dm, .string pa, .int .i64 ag, .bool se, .int .i64 mo, .bool pt] 24)) (.string ⟨#[]⟩) (.string ⟨#[]⟩) (.string ⟨#[]⟩) (.string ⟨#[]⟩) (.int .i64 0) (.bool false) (.int .i64 0) (.bool false) 24
    have e : (w.alloc (.cells #[.string na, .string va, .string dm, .string pa, .int .i64 ag, .bool se, .int .i64 mo, .bool pt] 24)).heap.size = w.heap.size + 1 := by simp
    rw [e] at b
    exact ⟨a.below ((Below.refl _ _).alloc (Nat.le_refl _) _), b, ((Below.refl _ _).alloc (Nat.le_refl _) _).alloc (by simp) _, by simp⟩
  go_enter Tryz.func56, Tryz.ntmps56
  go_upto_region 1 with fail
  generalize ((w.alloc (.cells #[.string na, .string va, .string dm, .string pa, .int .i64 ag, .bool se, .int .i64 mo, .bool pt] 24)).alloc (.cells #[.string ⟨#[]⟩, .string ⟨#[]⟩, .string ⟨#[]⟩, .string ⟨#[]⟩, .int .i64 0, .bool false, .int .i64 0, .bool false] 24)) = w1 at *
  cases e0 : (x.toList == tNoneW) with
  | true =>
    have HX : Hid (R = ⟨na, va, dm, pa, ag, se, mo + 1 + 1, pt⟩) := by show _ = _; rw [HR.out, if_pos e0]
    unfold tNoneW at e0
    have B2 : Hid (Below w.heap.size w w1) := M0.out.2.2.1
    obtain ⟨-, ⟨p0, p1, p2, p3, p4, p5, p6, p7⟩, fp⟩ := M0.out.1
    obtain ⟨-, ⟨r0, r1, r2, r3, r4, r5, r6, r7⟩, fr⟩ := M0.out.2.1
    clear M0
    go_wp2
    exact bodyPost_ret (v := .agg #[.string na, .string va, .string dm, .string pa, .int .i64 ag, .bool se, .int .i64 (mo + 1 + 1), .bool pt]) (by simp [results, Tryz.results56, go_sem, r0, r1, r2, r3, r4, r5, r6, r7]) rfl ⟨by rw [HX.out]; rfl, (Below.setCell (Below.setCell (Below.setCell (Below.setCell (Below.setCell (Below.setCell (Below.setCell (Below.setCell (Below.setCell (Below.setCell B2.out (p := ⟨w.heap.size, 6, none⟩) (Nat.le_refl _) _) (p := ⟨w.heap.size, 6, none⟩) (Nat.le_refl _) _) (p := ⟨w.heap.size + 1, 0, none⟩) (Nat.le_succ _) _) (p := ⟨w.heap.size + 1, 1, none⟩) (Nat.le_succ _) _) (p := ⟨w.heap.size + 1, 2, none⟩) (Nat.le_succ _) _) (p := ⟨w.heap.size + 1, 3, none⟩) (Nat.le_succ _) _) (p := ⟨w.heap.size + 1, 4, none⟩) (Nat.le_succ _) _) (p := ⟨w.heap.size + 1, 5, none⟩) (Nat.le_succ _) _) (p := ⟨w.heap.size + 1, 6, none⟩) (Nat.le_succ _) _) (p := ⟨w.heap.size + 1, 7, none⟩) (Nat.le_succ _) _)⟩
  | false =>
    cases e1 : (x.toList == tStrictW) with
    | true =>
      have HX : Hid (R = ⟨na, va, dm, pa, ag, se, mo + 1, pt⟩) := by show _ = _; rw [HR.out, if_neg (by rw [e0]; decide), if_pos e1]
      unfold tNoneW at e0
      unfold tStrictW at e1
      have B2 : Hid (Below w.heap.size w w1) := M0.out.2.2.1
      obtain ⟨-, ⟨p0, p1, p2, p3, p4, p5, p6, p7⟩, fp⟩ := M0.out.1
      obtain ⟨-, ⟨r0, r1, r2, r3, r4, r5, r6, r7⟩, fr⟩ := M0.out.2.1
      clear M0
      go_wp2
      exact bodyPost_ret (v := .agg #[.string na, .string va, .string dm, .string pa, .int .i64 ag, .bool se, .int .i64 (mo + 1), .bool pt]) (by simp [results, Tryz.results56, go_sem, r0, r1, r2, r3, r4, r5, r6, r7]) rfl ⟨by rw [HX.out]; rfl, (Below.setCell (Below.setCell (Below.setCell (Below.setCell (Below.setCell (Below.setCell (Below.setCell (Below.setCell (Below.setCell B2.out (p := ⟨w.heap.size, 6, none⟩) (Nat.le_refl _) _) (p := ⟨w.heap.size + 1, 0, none⟩) (Nat.le_succ _) _) (p := ⟨w.heap.size + 1, 1, none⟩) (Nat.le_succ _) _) (p := ⟨w.heap.size + 1, 2, none⟩) (Nat.le_succ _) _) (p := ⟨w.heap.size + 1, 3, none⟩) (Nat.le_succ _) _) (p := ⟨w.heap.size + 1, 4, none⟩) (Nat.le_succ _) _) (p := ⟨w.heap.size + 1, 5, none⟩) (Nat.le_succ _) _) (p := ⟨w.heap.size + 1, 6, none⟩) (Nat.le_succ _) _) (p := ⟨w.heap.size + 1, 7, none⟩) (Nat.le_succ _) _)⟩
    | false =>
      cases e2 : (x.toList == tSecure) with
      | true =>
        have HX : Hid (R = ⟨na, va, dm, pa, ag, true, mo, pt⟩) := by show _ = _; rw [HR.out, if_neg (by rw [e0]; decide), if_neg (by rw [e1]; decide), if_pos e2]
        unfold tNoneW at e0
        unfold tStrictW at e1
        unfold tSecure at e2
        have B2 : Hid (Below w.heap.size w w1) := M0.out.2.2.1
        obtain ⟨-, ⟨p0, p1, p2, p3, p4, p5, p6, p7⟩, fp⟩ := M0.out.1
        obtain ⟨-, ⟨r0, r1, r2, r3, r4, r5, r6, r7⟩, fr⟩ := M0.out.2.1
        clear M0
        go_wp2
        exact bodyPost_ret (v := .agg #[.string na, .string va, .string dm, .string pa, .int .i64 ag, .bool true, .int .i64 mo, .bool pt]) (by simp [results, Tryz.results56, go_sem, r0, r1, r2, r3, r4, r5, r6, r7]) rfl ⟨by rw [HX.out]; rfl, (Below.setCell (Below.setCell (Below.setCell (Below.setCell (Below.setCell (Below.setCell (Below.setCell (Below.setCell (Below.setCell B2.out (p := ⟨w.heap.size, 5, none⟩) (Nat.le_refl _) _) (p := ⟨w.heap.size + 1, 0, none⟩) (Nat.le_succ _) _) (p := ⟨w.heap.size + 1, 1, none⟩) (Nat.le_succ _) _) (p := ⟨w.heap.size + 1, 2, none⟩) (Nat.le_succ _) _) (p := ⟨w.heap.size + 1, 3, none⟩) (Nat.le_succ _) _) (p := ⟨w.heap.size + 1, 4, none⟩) (Nat.le_succ _) _) (p := ⟨w.heap.size + 1, 5, none⟩) (Nat.le_succ _) _) (p := ⟨w.heap.size + 1, 6, none⟩) (Nat.le_succ _) _) (p := ⟨w.heap.size + 1, 7, none⟩) (Nat.le_succ _) _)⟩
      | false =>
        cases e3 : (x.toList == tParted) with
        | true =>
          have HX : Hid (R = ⟨na, va, dm, pa, ag, se, mo, true⟩) := by show _ = _; rw [HR.out, if_neg (by rw [e0]; decide), if_neg (by rw [e1]; decide), if_neg (by rw [e2]; decide), if_pos e3]
          unfold tNoneW at e0
          unfold tStrictW at e1
          unfold tSecure at e2
          unfold tParted at e3
          have B2 : Hid (Below w.heap.size w w1) := M0.out.2.2.1
          obtain ⟨-, ⟨p0, p1, p2, p3, p4, p5, p6, p7⟩, fp⟩ := M0.out.1
          obtain ⟨-, ⟨r0, r1, r2, r3, r4, r5, r6, r7⟩, fr⟩ := M0.out.2.1
          clear M0
          go_wp2
          exact bodyPost_ret (v := .agg #[.string na, .string va, .string dm, .string pa, .int .i64 ag, .bool se, .int .i64 mo, .bool true]) (by simp [results, Tryz.results56, go_sem, r0, r1, r2, r3, r4, r5, r6, r7]) rfl ⟨by rw [HX.out]; rfl, (Below.setCell (Below.setCell (Below.setCell (Below.setCell (Below.setCell (Below.setCell (Below.setCell (Below.setCell (Below.setCell B2.out (p := ⟨w.heap.size, 7, none⟩) (Nat.le_refl _) _) (p := ⟨w.heap.size + 1, 0, none⟩) (Nat.le_succ _) _) (p := ⟨w.heap.size + 1, 1, none⟩) (Nat.le_succ _) _) (p := ⟨w.heap.size + 1, 2, none⟩) (Nat.le_succ _) _) (p := ⟨w.heap.size + 1, 3, none⟩) (Nat.le_succ _) _) (p := ⟨w.heap.size + 1, 4, none⟩) (Nat.le_succ _) _) (p := ⟨w.heap.size + 1, 5, none⟩) (Nat.le_succ _) _) (p := ⟨w.heap.size + 1, 6, none⟩) (Nat.le_succ _) _) (p := ⟨w.heap.size + 1, 7, none⟩) (Nat.le_succ _) _)⟩
        | false =>
          have HX : Hid (R = ⟨na', va', dm', pa', ag', se', mo', pt'⟩) := by show _ = _; rw [HR.out, if_neg (by rw [e0]; decide), if_neg (by rw [e1]; decide), if_neg (by rw [e2]; decide), if_neg (by rw [e3]; decide)]
          unfold tNoneW at e0
          unfold tStrictW at e1
          unfold tSecure at e2
          unfold tParted at e3
          obtain ⟨-, ⟨q0, q1, q2, q3, q4, q5, q6, q7⟩, fq⟩ := M0.out.1
          go_wp2_with fail
          refine (KV'.out _ M0.out.2.2.1).mono ?_
          rintro e w2 ⟨rfl, hb2⟩
          clear q0 q1 q2 q3 q4 q5 q6 q7 fq
          have M2 : Hid (U8 w2 w.heap.size (.string na) (.string va) (.string dm) (.string pa) (.int .i64 ag) (.bool se) (.int .i64 mo) (.bool pt) ∧ U8 w2 (w.heap.size + 1) (.string ⟨#[]⟩) (.string ⟨#[]⟩) (.string ⟨#[]⟩) (.string ⟨#[]⟩) (.int .i64 0) (.bool false) (.int .i64 0) (.bool false) ∧ Below w.heap.size w w2) := ⟨M0.out.1.below hb2, M0.out.2.1.below hb2, M0.out.2.2.1.trans (hb2.mono M0.out.2.2.1.size)⟩
          clear hb2 M0
          have B2 : Hid (Below w.heap.size w w2) := M2.out.2.2
          obtain ⟨-, ⟨p0, p1, p2, p3, p4, p5, p6, p7⟩, fp⟩ := M2.out.1
          obtain ⟨-, ⟨r0, r1, r2, r3, r4, r5, r6, r7⟩, fr⟩ := M2.out.2.1
          clear M2
          go_wp2
          exact bodyPost_ret (v := .agg #[.string na', .string va', .string dm', .string pa', .int .i64 ag', .bool se', .int .i64 mo', .bool pt']) (by simp [results, Tryz.results56, go_sem, r0, r1, r2, r3, r4, r5, r6, r7]) rfl ⟨by rw [HX.out]; rfl, (Below.setCell (Below.setCell (Below.setCell (Below.setCell (Below.setCell (Below.setCell (Below.setCell (Below.setCell (Below.setCell (Below.setCell (Below.setCell (Below.setCell (Below.setCell (Below.setCell (Below.setCell (Below.setCell B2.out (p := ⟨w.heap.size, 0, none⟩) (Nat.le_refl _) _) (p := ⟨w.heap.size, 1, none⟩) (Nat.le_refl _) _) (p := ⟨w.heap.size, 2, none⟩) (Nat.le_refl _) _) (p := ⟨w.heap.size, 3, none⟩) (Nat.le_refl _) _) (p := ⟨w.heap.size, 4, none⟩) (Nat.le_refl _) _) (p := ⟨w.heap.size, 5, none⟩) (Nat.le_refl _) _) (p := ⟨w.heap.size, 6, none⟩) (Nat.le_refl _) _) (p := ⟨w.heap.size, 7, none⟩) (Nat.le_refl _) _) (p := ⟨w.heap.size + 1, 0, none⟩) (Nat.le_succ _) _) (p := ⟨w.heap.size + 1, 1, none⟩) (Nat.le_succ _) _) (p := ⟨w.heap.size + 1, 2, none⟩) (Nat.le_succ _) _) (p := ⟨w.heap.size + 1, 3, none⟩) (Nat.le_succ _) _) (p := ⟨w.heap.size + 1, 4, none⟩) (Nat.le_succ _) _) (p := ⟨w.heap.size + 1, 5, none⟩) (Nat.le_succ _) _) (p := ⟨w.heap.size + 1, 6, none⟩) (Nat.le_succ _) _) (p := ⟨w.heap.size + 1, 7, none⟩) (Nat.le_succ _) _)⟩
end Go.Proofs.YthcpmbolnmlohaaGreatDoor

/- The walks of the program's setParts and SetRead. Written by implsetread.py. -/
namespace Go.Proofs.YthcpmbolnmlohaaGreatDoor
open Go.RowKit

theorem split_semi (s : ByteArray) (w : World) (hG : MaxI w) (hs : s.size < 4294967281) :
    Calls Tryz.prog 44 #[.string s, .string ⟨#[59, 32]⟩] w fun e w' => e = .returned (.slice (some ⟨w.heap.size, 0, none⟩) (piecesL s).length (piecesL s).length) ∧ w' = w.alloc (.cells (strCells (piecesL s)).toArray 9) := by
  obtain ⟨m, hm⟩ := hG
  have h := Any.strings_Split { Tryz.lays146 with } Tryz.lays146.i9 s semi m w hs hm (by decide)
  rw [pieces_lib, pieces_count] at h
  exact h
theorem pieces_pos (t : ByteArray) : 0 < (piecesL t).length := by
  by_cases h : 0 ≤ findI t semi
  · rw [piecesL_more (find_in h).2]; simp
  · rw [piecesL_last h]; simp
theorem pieces_at_small (t : ByteArray) (i : Nat) (hi : i < (piecesL t).length) : (atL (piecesL t) i).size ≤ t.size := by
  have e : atL (piecesL t) i = (piecesL t)[i] := by simp [atL, hi]
  rw [e]; exact piecesL_small t _ (List.getElem_mem hi)
theorem iVal_mo (c : SC) (x : ByteArray) : (iVal c x).mo = c.mo := by
  unfold iVal; split
  · rfl
  · split
    · rfl
    · split <;> rfl
theorem iTo_mo (L : List ByteArray) : ∀ k : Nat, 0 ≤ (iTo L k).mo ∧ (iTo L k).mo ≤ 2 * (k : Int)
  | 0 => ⟨Int.le_refl _, Int.le_refl _⟩
  | k + 1 => by
    have ih := iTo_mo L k
    rw [iTo]
    unfold iPut
    split
    · show 0 ≤ (iTo L k).mo + 1 + 1 ∧ (iTo L k).mo + 1 + 1 ≤ _; omega
    · split
      · show 0 ≤ (iTo L k).mo + 1 ∧ (iTo L k).mo + 1 ≤ _; omega
      · split
        · show 0 ≤ (iTo L k).mo ∧ (iTo L k).mo ≤ _; omega
        · split
          · show 0 ≤ (iTo L k).mo ∧ (iTo L k).mo ≤ _; omega
          · rw [iVal_mo]; omega
set_option maxRecDepth 10000 in
set_option maxHeartbeats 16000000 in
theorem setParts_any (t : ByteArray) (w : World) (hG : MaxI w) (hE : ErrI w) (ht : t.size ≤ 8000) :
    Calls Tryz.prog 30 #[.string t] w fun e w' => e = .returned (scV (iRead t)) ∧ Below w.heap.size w w' := by
  have KP : Hid (∀ W, Below w.heap.size w W → Calls Tryz.prog 44 #[.string t, .string ⟨#[59, 32]⟩] W fun e w' => e = .returned (.slice (some ⟨W.heap.size, 0, none⟩) (piecesL t).length (piecesL t).length) ∧ w' = W.alloc (.cells (strCells (piecesL t)).toArray 9)) := fun W hb => split_semi t W (hG.on hb) (by omega)
  have hlen := piecesL_len t
  have hpos := pieces_pos t
  have HSM : Hid (∀ i, i < (piecesL t).length → (atL (piecesL t) i).size ≤ 8000) := fun i hi => Nat.le_trans (pieces_at_small t i hi) ht
  have HE : Hid (iRead t = iTo (piecesL t) ((piecesL t).length - 1)) := rfl
  have HMO : Hid (∀ k : Nat, 0 ≤ (iTo (piecesL t) k).mo ∧ (iTo (piecesL t) k).mo ≤ 2 * (k : Int)) := iTo_mo _
  have HCE : Hid (∀ (W : World) j, j < (piecesL t).length → (W.alloc (.cells (strCells (piecesL t)).toArray 9)).cell? ⟨W.heap.size, j, none⟩ = some (.string (atL (piecesL t) j))) := fun W j hj => by
    have e : atL (piecesL t) j = (piecesL t)[j] := by simp [atL, hj]
    rw [e]; simp [strCells, hj]
  have HG : Hid (MaxI w) := hG
  have HEr : Hid (ErrI w) := hE
  clear hG hE
  generalize iRead t = RR at *
  generalize piecesL t = L at *
  have hL : L.length ≤ 8001 := by omega
  clear hlen
  have KQ : Hid (∀ (W : World), Below w.heap.size w W → Calls Tryz.prog 45 #[.string (atL L 0)] W fun e w' => e = .returned (.agg #[.string (pairP (atL L 0)).1, .string (pairP (atL L 0)).2]) ∧ Below W.heap.size W w') := fun W hb => pairParts_any _ W (HG.out.on hb) (HSM.out 0 hpos)
  have HT0 : Hid (iTo L 0 = ⟨(pairP (atL L 0)).1, (pairP (atL L 0)).2, ⟨#[]⟩, ⟨#[]⟩, -1, false, 0, false⟩) := rfl
  have KA : Hid (∀ (k : Nat) (W : World), k + 1 < L.length → Below w.heap.size w W → Calls Tryz.prog 56 #[scV (iTo L k), .string (atL L (k + 1))] W fun e w' => e = .returned (scV (iTo L (k + 1))) ∧ Below W.heap.size W w') := fun k W hk hb => withAttribute_any (iTo L k) (atL L (k + 1)) W (HG.out.on hb) (HEr.out.on hb) (HSM.out _ hk) (HMO.out k).1 (by have := (HMO.out k).2; omega)
  clear HSM HMO HG HEr
  generalize (pairP (atL L 0)).1 = n0 at *
  generalize (pairP (atL L 0)).2 = v0 at *
  generalize hF : iTo L = F at *
  have W0 : Hid (∀ o, Below w.heap.size w (w.alloc o)) := fun o => (Below.refl _ _).alloc (Nat.le_refl _) _
  clear hF
  go_enter Tryz.func30, Tryz.ntmps30
  go_wp2_with fail
  refine (KP.out _ (W0.out _)).mono ?_
  rintro e w1 ⟨rfl, rfl⟩
  have HC1 : Hid (∀ j, j < L.length → ((w.alloc (.cells #[.string ⟨#[]⟩, .string ⟨#[]⟩, .string ⟨#[]⟩, .string ⟨#[]⟩, .int .i64 0, .bool false, .int .i64 0, .bool false] 24)).alloc (.cells (strCells L).toArray 9)).cell? ⟨w.heap.size + 1, j, none⟩ = some (.string (atL L j))) := fun j hj => by
    have h := HCE.out (w.alloc (.cells #[.string ⟨#[]⟩, .string ⟨#[]⟩, .string ⟨#[]⟩, .string ⟨#[]⟩, .int .i64 0, .bool false, .int .i64 0, .bool false] 24)) j hj
    have e : (w.alloc (.cells #[.string ⟨#[]⟩, .string ⟨#[]⟩, .string ⟨#[]⟩, .string ⟨#[]⟩, .int .i64 0, .bool false, .int .i64 0, .bool false] 24)).heap.size = w.heap.size + 1 := by simp
    rw [e] at h; exact h
  have B1 : Hid (Below w.heap.size w ((w.alloc (.cells #[.string ⟨#[]⟩, .string ⟨#[]⟩, .string ⟨#[]⟩, .string ⟨#[]⟩, .int .i64 0, .bool false, .int .i64 0, .bool false] 24)).alloc (.cells (strCells L).toArray 9))) := (W0.out _).alloc (by simp) _
  have RZ1 : Hid (U8 ((w.alloc (.cells #[.string ⟨#[]⟩, .string ⟨#[]⟩, .string ⟨#[]⟩, .string ⟨#[]⟩, .int .i64 0, .bool false, .int .i64 0, .bool false] 24)).alloc (.cells (strCells L).toArray 9)) w.heap.size (.string ⟨#[]⟩) (.string ⟨#[]⟩) (.string ⟨#[]⟩) (.string ⟨#[]⟩) (.int .i64 0) (.bool false) (.int .i64 0) (.bool false)) := (U8.made w (.string ⟨#[]⟩) (.string ⟨#[]⟩) (.string ⟨#[]⟩) (.string ⟨#[]⟩) (.int .i64 0) (.bool false) (.int .i64 0) (.bool false) 24).below ((Below.refl _ _).alloc (Nat.le_refl _) _)
  have z1 : w.heap.size + 2 ≤ ((w.alloc (.cells #[.string ⟨#[]⟩, .string ⟨#[]⟩, .string ⟨#[]⟩, .string ⟨#[]⟩, .int .i64 0, .bool false, .int .i64 0, .bool false] 24)).alloc (.cells (strCells L).toArray 9)).heap.size := by simp
  have hc0 := HC1.out 0 hpos
  have lp : (0 : Int) < (L.length : Int) := by omega
  clear HCE KP W0
  go_upto_region 2 with fail
  generalize (w.alloc (.cells #[.string ⟨#[]⟩, .string ⟨#[]⟩, .string ⟨#[]⟩, .string ⟨#[]⟩, .int .i64 0, .bool false, .int .i64 0, .bool false] 24)).alloc (.cells (strCells L).toArray 9) = w1 at *
  go_wp2_with fail
  refine (KQ.out _ B1.out).mono ?_
  rintro e w2 ⟨rfl, hb2⟩
  have RZ2 : Hid (U8 w2 w.heap.size (.string ⟨#[]⟩) (.string ⟨#[]⟩) (.string ⟨#[]⟩) (.string ⟨#[]⟩) (.int .i64 0) (.bool false) (.int .i64 0) (.bool false)) := RZ1.out.below hb2
  have B2 : Hid (Below w.heap.size w w2) := B1.out.trans (hb2.mono B1.out.size)
  have HC2 : Hid (∀ j, j < L.length → w2.cell? ⟨w.heap.size + 1, j, none⟩ = some (.string (atL L j))) := fun j hj => by rw [(bcell hb2).1 _ _ z1]; exact HC1.out j hj
  have z2 : w.heap.size + 2 ≤ w2.heap.size := Nat.le_trans z1 hb2.size
  clear hb2 HC1 RZ1 B1 hc0 z1 KQ
  have UC0 : Hid (UC ((w2.alloc (.cells #[.string n0, .string v0] 46)).alloc (.cells #[.string n0, .string v0, .string ⟨#[]⟩, .string ⟨#[]⟩, .int .i64 (-1), .bool false, .int .i64 0, .bool false] 24)) (w2.heap.size + 1) (F 0)) := by
    show UC _ _ _
    rw [HT0.out]
    have h := U8.made (w2.alloc (.cells #[.string n0, .string v0] 46)) (.string n0) (.string v0) (.string ⟨#[]⟩) (.string ⟨#[]⟩) (.int .i64 (-1)) (.bool false) (.int .i64 0) (.bool false) 24
    have e : (w2.alloc (.cells #[.string n0, .string v0] 46)).heap.size = w2.heap.size + 1 := by simp
    rw [e] at h
    exact h
  have BB : Hid (Below w2.heap.size w2 ((w2.alloc (.cells #[.string n0, .string v0] 46)).alloc (.cells #[.string n0, .string v0, .string ⟨#[]⟩, .string ⟨#[]⟩, .int .i64 (-1), .bool false, .int .i64 0, .bool false] 24))) := ((Below.refl _ _).alloc (Nat.le_refl _) _).alloc (by simp) _
  have RZ3 : Hid (U8 ((w2.alloc (.cells #[.string n0, .string v0] 46)).alloc (.cells #[.string n0, .string v0, .string ⟨#[]⟩, .string ⟨#[]⟩, .int .i64 (-1), .bool false, .int .i64 0, .bool false] 24)) w.heap.size (.string ⟨#[]⟩) (.string ⟨#[]⟩) (.string ⟨#[]⟩) (.string ⟨#[]⟩) (.int .i64 0) (.bool false) (.int .i64 0) (.bool false)) := RZ2.out.below BB.out
  have HC3 : Hid (∀ j, j < L.length → ((w2.alloc (.cells #[.string n0, .string v0] 46)).alloc (.cells #[.string n0, .string v0, .string ⟨#[]⟩, .string ⟨#[]⟩, .int .i64 (-1), .bool false, .int .i64 0, .bool false] 24)).cell? ⟨w.heap.size + 1, j, none⟩ = some (.string (atL L j))) := fun j hj => by rw [(bcell BB.out).1 _ _ z2]; exact HC2.out j hj
  have B3 : Hid (Below w.heap.size w ((w2.alloc (.cells #[.string n0, .string v0] 46)).alloc (.cells #[.string n0, .string v0, .string ⟨#[]⟩, .string ⟨#[]⟩, .int .i64 (-1), .bool false, .int .i64 0, .bool false] 24))) := B2.out.trans (BB.out.mono B2.out.size)
  have z3 : w2.heap.size + 2 ≤ ((w2.alloc (.cells #[.string n0, .string v0] 46)).alloc (.cells #[.string n0, .string v0, .string ⟨#[]⟩, .string ⟨#[]⟩, .int .i64 (-1), .bool false, .int .i64 0, .bool false] 24)).heap.size := by simp
  have lp1 : (1 : Int) ≤ (L.length : Int) := by omega
  clear RZ2 HC2 B2 BB HT0
  by_cases h1 : L.length = 1
  · have HX : Hid (RR = F 0) := by show _ = _; rw [HE.out, h1]
    have hl0 : (L.length : Int) - 1 = 0 := by omega
    go_upto_region 5 with fail
    generalize ((w2.alloc (.cells #[.string n0, .string v0] 46)).alloc (.cells #[.string n0, .string v0, .string ⟨#[]⟩, .string ⟨#[]⟩, .int .i64 (-1), .bool false, .int .i64 0, .bool false] 24)) = ws at *
    obtain ⟨-, ⟨d0, d1, d2, d3, d4, d5, d6, d7⟩, df⟩ := UC0.out
    obtain ⟨-, ⟨r0, r1, r2, r3, r4, r5, r6, r7⟩, fr⟩ := RZ3.out
    have hne : ¬ w2.heap.size + 1 = w.heap.size := by omega
    go_loop [22] (fun i => i = .int .i64 0) (fun _ => 0)
    case atStart => rfl
    case round =>
      subst hrel
      generalize F 0 = c at *
      go_wp2
      exact bodyPost_ret (v := scV c) (by simp [scV, setV, results, Tryz.results30, go_sem, r0, r1, r2, r3, r4, r5, r6, r7]) rfl ⟨by rw [HX.out], (Below.setCell (Below.setCell (Below.setCell (Below.setCell (Below.setCell (Below.setCell (Below.setCell (Below.setCell B3.out (p := ⟨w.heap.size, 0, none⟩) (Nat.le_refl _) _) (p := ⟨w.heap.size, 1, none⟩) (Nat.le_refl _) _) (p := ⟨w.heap.size, 2, none⟩) (Nat.le_refl _) _) (p := ⟨w.heap.size, 3, none⟩) (Nat.le_refl _) _) (p := ⟨w.heap.size, 4, none⟩) (Nat.le_refl _) _) (p := ⟨w.heap.size, 5, none⟩) (Nat.le_refl _) _) (p := ⟨w.heap.size, 6, none⟩) (Nat.le_refl _) _) (p := ⟨w.heap.size, 7, none⟩) (Nat.le_refl _) _)⟩
  · have hcap : ¬ L.length = 1 := h1
    go_upto_region 5 with fail
    generalize ((w2.alloc (.cells #[.string n0, .string v0] 46)).alloc (.cells #[.string n0, .string v0, .string ⟨#[]⟩, .string ⟨#[]⟩, .int .i64 (-1), .bool false, .int .i64 0, .bool false] 24)) = ws at *
    go_loopw [22] (fun i wr => ∃ k : Nat, k + 1 ≤ L.length ∧ i = .int .i64 (k : Int) ∧ w2.heap.size + 2 ≤ wr.heap.size ∧ Hid (UC wr (w2.heap.size + 1) (F k)) ∧ Hid (∀ j, j < L.length → wr.cell? ⟨w.heap.size + 1, j, none⟩ = some (.string (atL L j))) ∧ Hid (U8 wr w.heap.size (.string ⟨#[]⟩) (.string ⟨#[]⟩) (.string ⟨#[]⟩) (.string ⟨#[]⟩) (.int .i64 0) (.bool false) (.int .i64 0) (.bool false)) ∧ Hid (Below w.heap.size w wr)) (fun i _ => L.length - (intOf i).toNat)
    case atStart => exact ⟨0, by omega, rfl, z3, UC0, HC3, RZ3, B3⟩
    case round =>
      obtain ⟨k, hk, rfl, hz, HU, HCr, HZ, HB⟩ := hrel
      obtain ⟨-, ⟨d0, d1, d2, d3, d4, d5, d6, d7⟩, df⟩ := HU.out
      have hne : ¬ w2.heap.size + 1 = w.heap.size := by omega
      by_cases hlt : k + 1 < L.length
      · have hck := HCr.out (k + 1) hlt
        have k0 : (0 : Int) ≤ (k : Int) := by omega
        have k1 : (k : Int) < (L.length : Int) - 1 := by omega
        have hkk : 1 + k = k + 1 := by omega
        have KB : Hid (Calls Tryz.prog 56 #[.agg #[.string (F k).na, .string (F k).va, .string (F k).dm, .string (F k).pa, .int .i64 (F k).ag, .bool (F k).se, .int .i64 (F k).mo, .bool (F k).pt], .string (atL L (k + 1))] wr fun e w' => e = .returned (.agg #[.string (F (k + 1)).na, .string (F (k + 1)).va, .string (F (k + 1)).dm, .string (F (k + 1)).pa, .int .i64 (F (k + 1)).ag, .bool (F (k + 1)).se, .int .i64 (F (k + 1)).mo, .bool (F (k + 1)).pt]) ∧ Below wr.heap.size wr w') := KA.out k wr hlt HB.out
        go_wp2_with fail
        refine KB.out.mono ?_
        rintro e w3 ⟨rfl, hb3⟩
        have U3 : Hid (UC w3 (w2.heap.size + 1) (F k)) := HU.out.below hb3
        have Z3 : Hid (U8 w3 w.heap.size (.string ⟨#[]⟩) (.string ⟨#[]⟩) (.string ⟨#[]⟩) (.string ⟨#[]⟩) (.int .i64 0) (.bool false) (.int .i64 0) (.bool false)) := HZ.out.below hb3
        have C3 : Hid (∀ j, j < L.length → w3.cell? ⟨w.heap.size + 1, j, none⟩ = some (.string (atL L j))) := fun j hj => by rw [(bcell hb3).1 _ _ (by omega)]; exact HCr.out j hj
        have B4 : Hid (Below w.heap.size w w3) := HB.out.trans (hb3.mono HB.out.size)
        have zb : w2.heap.size + 2 ≤ w3.heap.size := Nat.le_trans hz hb3.size
        clear hb3 hck HU HZ HCr HB d0 d1 d2 d3 d4 d5 d6 d7 df KB
        obtain ⟨-, ⟨d0, d1, d2, d3, d4, d5, d6, d7⟩, df⟩ := U3.out
        go_wp2
        go_roundw
        case rel =>
          refine ⟨k + 1, by omega, by go_num, by simp [World.setCell]; omega, ?_, ?_, ?_, ?_⟩
          · exact (U8.set7 (U8.set6 (U8.set5 (U8.set4 (U8.set3 (U8.set2 (U8.set1 (U8.set0 U3.out _) _) _) _) _) _) _) _)
          · intro j hj
            exact (World.cell?_setCell_far _ _ _ _ (by show ¬ w2.heap.size + 1 = w.heap.size + 1; omega)).trans ((World.cell?_setCell_far _ _ _ _ (by show ¬ w2.heap.size + 1 = w.heap.size + 1; omega)).trans ((World.cell?_setCell_far _ _ _ _ (by show ¬ w2.heap.size + 1 = w.heap.size + 1; omega)).trans ((World.cell?_setCell_far _ _ _ _ (by show ¬ w2.heap.size + 1 = w.heap.size + 1; omega)).trans ((World.cell?_setCell_far _ _ _ _ (by show ¬ w2.heap.size + 1 = w.heap.size + 1; omega)).trans ((World.cell?_setCell_far _ _ _ _ (by show ¬ w2.heap.size + 1 = w.heap.size + 1; omega)).trans ((World.cell?_setCell_far _ _ _ _ (by show ¬ w2.heap.size + 1 = w.heap.size + 1; omega)).trans ((World.cell?_setCell_far _ _ _ _ (by show ¬ w2.heap.size + 1 = w.heap.size + 1; omega)).trans (C3.out j hj))))))))
          · exact (U8.far (U8.far (U8.far (U8.far (U8.far (U8.far (U8.far (U8.far Z3.out (p := ⟨w2.heap.size + 1, 0, none⟩) hne _) (p := ⟨w2.heap.size + 1, 1, none⟩) hne _) (p := ⟨w2.heap.size + 1, 2, none⟩) hne _) (p := ⟨w2.heap.size + 1, 3, none⟩) hne _) (p := ⟨w2.heap.size + 1, 4, none⟩) hne _) (p := ⟨w2.heap.size + 1, 5, none⟩) hne _) (p := ⟨w2.heap.size + 1, 6, none⟩) hne _) (p := ⟨w2.heap.size + 1, 7, none⟩) hne _)
          · exact (Below.setCell (Below.setCell (Below.setCell (Below.setCell (Below.setCell (Below.setCell (Below.setCell (Below.setCell B4.out (p := ⟨w2.heap.size + 1, 0, none⟩) (by show w.heap.size ≤ w2.heap.size + 1; omega) _) (p := ⟨w2.heap.size + 1, 1, none⟩) (by show w.heap.size ≤ w2.heap.size + 1; omega) _) (p := ⟨w2.heap.size + 1, 2, none⟩) (by show w.heap.size ≤ w2.heap.size + 1; omega) _) (p := ⟨w2.heap.size + 1, 3, none⟩) (by show w.heap.size ≤ w2.heap.size + 1; omega) _) (p := ⟨w2.heap.size + 1, 4, none⟩) (by show w.heap.size ≤ w2.heap.size + 1; omega) _) (p := ⟨w2.heap.size + 1, 5, none⟩) (by show w.heap.size ≤ w2.heap.size + 1; omega) _) (p := ⟨w2.heap.size + 1, 6, none⟩) (by show w.heap.size ≤ w2.heap.size + 1; omega) _) (p := ⟨w2.heap.size + 1, 7, none⟩) (by show w.heap.size ≤ w2.heap.size + 1; omega) _)
        case measure => simp [intOf]; omega
      · obtain rfl : k = L.length - 1 := by omega
        have B3' : Hid (Below w.heap.size w wr) := HB.out
        obtain ⟨-, ⟨r0, r1, r2, r3, r4, r5, r6, r7⟩, fr⟩ := HZ.out
        have HX : Hid (RR = F (L.length - 1)) := HE.out
        generalize F (L.length - 1) = c at *
        go_wp2
        exact bodyPost_ret (v := scV c) (by simp [scV, setV, results, Tryz.results30, go_sem, r0, r1, r2, r3, r4, r5, r6, r7]) rfl ⟨by rw [HX.out], (Below.setCell (Below.setCell (Below.setCell (Below.setCell (Below.setCell (Below.setCell (Below.setCell (Below.setCell B3'.out (p := ⟨w.heap.size, 0, none⟩) (Nat.le_refl _) _) (p := ⟨w.heap.size, 1, none⟩) (Nat.le_refl _) _) (p := ⟨w.heap.size, 2, none⟩) (Nat.le_refl _) _) (p := ⟨w.heap.size, 3, none⟩) (Nat.le_refl _) _) (p := ⟨w.heap.size, 4, none⟩) (Nat.le_refl _) _) (p := ⟨w.heap.size, 5, none⟩) (Nat.le_refl _) _) (p := ⟨w.heap.size, 6, none⟩) (Nat.le_refl _) _) (p := ⟨w.heap.size, 7, none⟩) (Nat.le_refl _) _)⟩
theorem iRead_dm (t : ByteArray) : (iRead t).dm.size ≤ t.size := by
  have h : ∀ k, k + 1 ≤ (piecesL t).length → (iTo (piecesL t) k).dm.size ≤ t.size := by
    intro k
    induction k with
    | zero => intro _; exact Nat.zero_le _
    | succ k ih =>
      intro hk
      have h1 := ih (by omega)
      have h2 := pieces_at_small t (k + 1) (by omega)
      have h3 := (pairP_size (atL (piecesL t) (k + 1))).2
      rw [iTo]
      unfold iPut
      split
      · exact h1
      · split
        · exact h1
        · split
          · exact h1
          · split
            · exact h1
            · unfold iVal
              split
              · exact Nat.le_trans h3 h2
              · split
                · exact h1
                · split <;> exact h1
  unfold iRead
  have := pieces_pos t
  exact h _ (by omega)
set_option maxRecDepth 10000 in
set_option maxHeartbeats 16000000 in
theorem setRead_any (t : ByteArray) (w : World) (hG : MaxI w) (hT : PowI w) (hE : ErrI w) :
    Calls Tryz.prog 7 #[.string t] w fun e w' => e = .returned (scOutV (scGot t).1 (scGot t).2) ∧ Below w.heap.size w w' := by
  by_cases h8 : 8000 < t.size
  · have HX : Hid (scGot t = (scZ, 2)) := by show _ = _; unfold scGot; rw [if_pos h8]
    go_enter Tryz.func7, Tryz.ntmps7
    go_wp2
    exact bodyPost_ret (v := scOutV scZ 2) (by simp [scOutV, scZ, results, Tryz.results7, go_sem]) rfl ⟨by rw [HX.out], (Below.refl _ _).alloc (Nat.le_refl _) _⟩
  have q8 : decide ((8000 : Int) < (t.size : Int)) = false := by rw [decide_eq_false_iff_not]; omega
  have hsame := readers_same t
  have HG : Hid (scGot t = if iOk t = true then (iRead t, 0) else (scZ, 3)) := by
    show _ = _
    unfold scGot
    rw [if_neg h8, hsame.1]
    by_cases ho : scOk t = true
    · rw [if_pos ho, if_pos ho, hsame.2 ho]
    · rw [if_neg ho, if_neg ho]
  have HO : Hid (iOk t = (setB (iRead t).na (iRead t).va (iRead t).dm (iRead t).pa (iRead t).ag (iRead t).mo && ((scTx (iRead t)).toList == t.toList))) := rfl
  have KP : Hid (∀ W, Below w.heap.size w W → Calls Tryz.prog 30 #[.string t] W fun e w' => e = .returned (.agg #[.string (iRead t).na, .string (iRead t).va, .string (iRead t).dm, .string (iRead t).pa, .int .i64 (iRead t).ag, .bool (iRead t).se, .int .i64 (iRead t).mo, .bool (iRead t).pt]) ∧ Below W.heap.size W w') := fun W hb => setParts_any t W (hG.on hb) (hE.on hb) (by omega)
  have hdm := iRead_dm t
  have KR : Hid (∀ W, Below w.heap.size w W → Calls Tryz.prog 10 #[.agg #[.string (iRead t).na, .string (iRead t).va, .string (iRead t).dm, .string (iRead t).pa, .int .i64 (iRead t).ag, .bool (iRead t).se, .int .i64 (iRead t).mo, .bool (iRead t).pt]] W fun e w' => e = .returned (.bool (setB (iRead t).na (iRead t).va (iRead t).dm (iRead t).pa (iRead t).ag (iRead t).mo)) ∧ Below W.heap.size W w') := fun W hb => setRight_any _ _ _ _ _ _ _ _ W (hG.on hb) (by omega)
  have KT : Hid (∀ W, Below w.heap.size w W → Calls Tryz.prog 5 #[.agg #[.string (iRead t).na, .string (iRead t).va, .string (iRead t).dm, .string (iRead t).pa, .int .i64 (iRead t).ag, .bool (iRead t).se, .int .i64 (iRead t).mo, .bool (iRead t).pt]] W fun e w' => e = .returned (.string (scTx (iRead t))) ∧ Below W.heap.size W w') := fun W hb => setText_any _ _ _ _ _ _ _ _ W (hG.on hb) (hT.on hb) (by omega)
  clear hsame hdm hG hT hE
  generalize iOk t = ok at *
  generalize scGot t = R at *
  generalize scTx (iRead t) = tx at *
  generalize setB (iRead t).na (iRead t).va (iRead t).dm (iRead t).pa (iRead t).ag (iRead t).mo = sb at *
  generalize iRead t = c at *
  have hne : ¬ w.heap.size + 1 = w.heap.size := by omega
  have B0 : Hid (Below w.heap.size w (w.alloc (.cells #[.string ⟨#[]⟩, .string ⟨#[]⟩, .string ⟨#[]⟩, .string ⟨#[]⟩, .int .i64 0, .bool false, .int .i64 0, .bool false, .int .i64 0] 29))) := (Below.refl _ _).alloc (Nat.le_refl _) _
  have R0 : Hid (U9 (w.alloc (.cells #[.string ⟨#[]⟩, .string ⟨#[]⟩, .string ⟨#[]⟩, .string ⟨#[]⟩, .int .i64 0, .bool false, .int .i64 0, .bool false, .int .i64 0] 29)) w.heap.size (.string ⟨#[]⟩) (.string ⟨#[]⟩) (.string ⟨#[]⟩) (.string ⟨#[]⟩) (.int .i64 0) (.bool false) (.int .i64 0) (.bool false) (.int .i64 0)) := U9.made w (.string ⟨#[]⟩) (.string ⟨#[]⟩) (.string ⟨#[]⟩) (.string ⟨#[]⟩) (.int .i64 0) (.bool false) (.int .i64 0) (.bool false) (.int .i64 0) 29
  go_enter Tryz.func7, Tryz.ntmps7
  go_wp2_with fail
  refine (KP.out _ B0.out).mono ?_
  rintro e w1 ⟨rfl, hb1⟩
  have R1 : Hid (U9 w1 w.heap.size (.string ⟨#[]⟩) (.string ⟨#[]⟩) (.string ⟨#[]⟩) (.string ⟨#[]⟩) (.int .i64 0) (.bool false) (.int .i64 0) (.bool false) (.int .i64 0)) := R0.out.below hb1
  have B1 : Hid (Below w.heap.size w w1) := B0.out.trans (hb1.mono B0.out.size)
  clear hb1 R0 B0 KP
  have A1 : Hid (∀ o, Below w1.heap.size w1 (w1.alloc o)) := fun o => (Below.refl _ _).alloc (Nat.le_refl _) _
  have B2 : Hid (∀ o, Below w.heap.size w (w1.alloc o)) := fun o => B1.out.trans ((A1.out o).mono B1.out.size)
  have U2 : Hid (U8 (w1.alloc (.cells #[.string c.na, .string c.va, .string c.dm, .string c.pa, .int .i64 c.ag, .bool c.se, .int .i64 c.mo, .bool c.pt] 24)) w1.heap.size (.string c.na) (.string c.va) (.string c.dm) (.string c.pa) (.int .i64 c.ag) (.bool c.se) (.int .i64 c.mo) (.bool c.pt)) := U8.made w1 (.string c.na) (.string c.va) (.string c.dm) (.string c.pa) (.int .i64 c.ag) (.bool c.se) (.int .i64 c.mo) (.bool c.pt) 24
  have R2 : Hid (U9 (w1.alloc (.cells #[.string c.na, .string c.va, .string c.dm, .string c.pa, .int .i64 c.ag, .bool c.se, .int .i64 c.mo, .bool c.pt] 24)) w.heap.size (.string ⟨#[]⟩) (.string ⟨#[]⟩) (.string ⟨#[]⟩) (.string ⟨#[]⟩) (.int .i64 0) (.bool false) (.int .i64 0) (.bool false) (.int .i64 0)) := R1.out.below (A1.out _)
  go_upto_region 4 with fail
  have B2' : Hid (Below w.heap.size w (w1.alloc (.cells #[.string c.na, .string c.va, .string c.dm, .string c.pa, .int .i64 c.ag, .bool c.se, .int .i64 c.mo, .bool c.pt] 24))) := B2.out _
  generalize w1.alloc (.cells #[.string c.na, .string c.va, .string c.dm, .string c.pa, .int .i64 c.ag, .bool c.se, .int .i64 c.mo, .bool c.pt] 24) = w2 at *
  clear A1 B2 R1 B1
  obtain ⟨-, ⟨d0, d1, d2, d3, d4, d5, d6, d7⟩, df⟩ := U2.out
  go_wp2_with fail
  refine (KR.out _ B2'.out).mono ?_
  rintro e w3 ⟨rfl, hb3⟩
  have U3 : Hid (U8 w3 w1.heap.size (.string c.na) (.string c.va) (.string c.dm) (.string c.pa) (.int .i64 c.ag) (.bool c.se) (.int .i64 c.mo) (.bool c.pt)) := U2.out.below hb3
  have R3 : Hid (U9 w3 w.heap.size (.string ⟨#[]⟩) (.string ⟨#[]⟩) (.string ⟨#[]⟩) (.string ⟨#[]⟩) (.int .i64 0) (.bool false) (.int .i64 0) (.bool false) (.int .i64 0)) := R2.out.below hb3
  have B3 : Hid (Below w.heap.size w w3) := B2'.out.trans (hb3.mono B2'.out.size)
  clear hb3 U2 R2 B2' KR d0 d1 d2 d3 d4 d5 d6 d7 df
  obtain ⟨-, ⟨d0, d1, d2, d3, d4, d5, d6, d7⟩, df⟩ := U3.out
  cases sb with
  | false =>
    have HX : Hid (R = (scZ, 3)) := by show _ = _; rw [HG.out, HO.out]; rfl
    obtain ⟨-, ⟨r0, r1, r2, r3, r4, r5, r6, r7, r8⟩, fr⟩ := R3.out
    go_wp2
    exact bodyPost_ret (v := scOutV scZ 3) (by simp [scOutV, scZ, results, Tryz.results7, go_sem, r0, r1, r2, r3, r4, r5, r6, r7, r8]) rfl ⟨by rw [HX.out], (Below.setCell (Below.setCell (Below.setCell (Below.setCell (Below.setCell (Below.setCell (Below.setCell (Below.setCell (Below.setCell B3.out (p := ⟨w.heap.size, 0, none⟩) (Nat.le_refl _) _) (p := ⟨w.heap.size, 1, none⟩) (Nat.le_refl _) _) (p := ⟨w.heap.size, 2, none⟩) (Nat.le_refl _) _) (p := ⟨w.heap.size, 3, none⟩) (Nat.le_refl _) _) (p := ⟨w.heap.size, 4, none⟩) (Nat.le_refl _) _) (p := ⟨w.heap.size, 5, none⟩) (Nat.le_refl _) _) (p := ⟨w.heap.size, 6, none⟩) (Nat.le_refl _) _) (p := ⟨w.heap.size, 7, none⟩) (Nat.le_refl _) _) (p := ⟨w.heap.size, 8, none⟩) (Nat.le_refl _) _)⟩
  | true =>
    go_wp2_with fail
    refine (KT.out _ B3.out).mono ?_
    rintro e w4 ⟨rfl, hb4⟩
    have U4 : Hid (U8 w4 w1.heap.size (.string c.na) (.string c.va) (.string c.dm) (.string c.pa) (.int .i64 c.ag) (.bool c.se) (.int .i64 c.mo) (.bool c.pt)) := U3.out.below hb4
    have R4 : Hid (U9 w4 w.heap.size (.string ⟨#[]⟩) (.string ⟨#[]⟩) (.string ⟨#[]⟩) (.string ⟨#[]⟩) (.int .i64 0) (.bool false) (.int .i64 0) (.bool false) (.int .i64 0)) := R3.out.below hb4
    have B4 : Hid (Below w.heap.size w w4) := B3.out.trans (hb4.mono B3.out.size)
    clear hb4 U3 R3 B3 KT d0 d1 d2 d3 d4 d5 d6 d7 df
    obtain ⟨-, ⟨d0, d1, d2, d3, d4, d5, d6, d7⟩, df⟩ := U4.out
    obtain ⟨-, ⟨r0, r1, r2, r3, r4, r5, r6, r7, r8⟩, fr⟩ := R4.out
    cases hq : (tx.toList == t.toList) with
    | false =>
      have HX : Hid (R = (scZ, 3)) := by show _ = _; rw [HG.out, HO.out, hq]; rfl
      go_wp2
      exact bodyPost_ret (v := scOutV scZ 3) (by simp [scOutV, scZ, results, Tryz.results7, go_sem, r0, r1, r2, r3, r4, r5, r6, r7, r8]) rfl ⟨by rw [HX.out], (Below.setCell (Below.setCell (Below.setCell (Below.setCell (Below.setCell (Below.setCell (Below.setCell (Below.setCell (Below.setCell B4.out (p := ⟨w.heap.size, 0, none⟩) (Nat.le_refl _) _) (p := ⟨w.heap.size, 1, none⟩) (Nat.le_refl _) _) (p := ⟨w.heap.size, 2, none⟩) (Nat.le_refl _) _) (p := ⟨w.heap.size, 3, none⟩) (Nat.le_refl _) _) (p := ⟨w.heap.size, 4, none⟩) (Nat.le_refl _) _) (p := ⟨w.heap.size, 5, none⟩) (Nat.le_refl _) _) (p := ⟨w.heap.size, 6, none⟩) (Nat.le_refl _) _) (p := ⟨w.heap.size, 7, none⟩) (Nat.le_refl _) _) (p := ⟨w.heap.size, 8, none⟩) (Nat.le_refl _) _)⟩
    | true =>
      have HX : Hid (R = (c, 0)) := by show _ = _; rw [HG.out, HO.out, hq]; rfl
      go_wp2
      exact bodyPost_ret (v := scOutV c 0) (by simp [scOutV, results, Tryz.results7, go_sem, r0, r1, r2, r3, r4, r5, r6, r7, r8]) rfl ⟨by rw [HX.out], (Below.setCell (Below.setCell (Below.setCell (Below.setCell (Below.setCell (Below.setCell (Below.setCell (Below.setCell (Below.setCell B4.out (p := ⟨w.heap.size, 0, none⟩) (Nat.le_refl _) _) (p := ⟨w.heap.size, 1, none⟩) (Nat.le_refl _) _) (p := ⟨w.heap.size, 2, none⟩) (Nat.le_refl _) _) (p := ⟨w.heap.size, 3, none⟩) (Nat.le_refl _) _) (p := ⟨w.heap.size, 4, none⟩) (Nat.le_refl _) _) (p := ⟨w.heap.size, 5, none⟩) (Nat.le_refl _) _) (p := ⟨w.heap.size, 6, none⟩) (Nat.le_refl _) _) (p := ⟨w.heap.size, 7, none⟩) (Nat.le_refl _) _) (p := ⟨w.heap.size, 8, none⟩) (Nat.le_refl _) _)⟩
end Go.Proofs.YthcpmbolnmlohaaGreatDoor

/- The walk of the program's PairsRead. -/
namespace Go.Proofs.YthcpmbolnmlohaaGreatDoor
open Go.RowKit

theorem infoPair : (Tryz.prog.info? 46).map (fun i => (i.zero, i.size, i.bytes)) = some (some (.agg #[.string ⟨#[]⟩, .string ⟨#[]⟩]), 2, 32) := by kernel_rfl
theorem cell_two_new (w : World) (a b : Value) (t : TypeId) : ∀ j u, [a, b][j]? = some u → (w.alloc (.cells #[a, b] t)).cell? ((⟨w.heap.size, 0, none⟩ : Addr).add j) = some u := by
  intro j u h
  have e : (⟨w.heap.size, 0, none⟩ : Addr).add j = ⟨w.heap.size, j, none⟩ := by unfold Addr.add; split <;> simp_all
  rw [e]
  match j, h with
  | 0, h => simpa using h
  | 1, h => simpa using h
  | j + 2, h => simp at h
/-- the pairs of the first k pieces -/
def readP (L : List ByteArray) (k : Nat) : List (ByteArray × ByteArray) := (L.take k).map pairP
theorem readP_succ {L : List ByteArray} {k : Nat} (h : k < L.length) : readP L (k + 1) = readP L k ++ [((pairP (atL L k)).1, (pairP (atL L k)).2)] := by
  have e : atL L k = L[k] := by simp [atL, h]
  unfold readP
  rw [List.take_succ_eq_append_getElem h, List.map_append, e]; rfl
theorem readP_len (L : List ByteArray) (k : Nat) : (readP L k).length ≤ k := by unfold readP; simp; omega
theorem readP_small {t : ByteArray} (i : Nat) (h : i < (readP (piecesL t) (piecesL t).length).length) : (atP (readP (piecesL t) (piecesL t).length) i).1.size ≤ t.size ∧ (atP (readP (piecesL t) (piecesL t).length) i).2.size ≤ t.size := by
  have hm := List.getElem_mem h
  rw [← atP_eq h] at hm
  unfold readP at hm ⊢
  obtain ⟨x, hx, e⟩ := List.mem_map.1 hm
  rw [← e]
  have h1 := pairP_size x
  have h2 := piecesL_small t x (List.mem_of_mem_take hx)
  omega
set_option maxRecDepth 10000 in
set_option maxHeartbeats 8000000 in
theorem pairsRead_any (t : ByteArray) (w : World) (hG : MaxI w) :
    Calls Tryz.prog 18 #[.string t] w fun e w' => ∃ v, e = .returned (.agg #[v, .int .i64 (pairsGot t).2]) ∧ SliceP w' w.heap.size v (pairsGot t).1 ∧ Below w.heap.size w w' := by
  have HN : Hid (∀ (W : World) (B : Nat) (p : Option Addr) (c : Nat), SliceP W B (.slice p 0 c) []) := fun W B p c => sliceR_none W B 2 p c _
  by_cases h8 : 8000 < t.size
  · have HR : Hid (pairsGot t = ([], 2)) := by show _ = _; unfold pairsGot; rw [if_pos h8]
    generalize pairsGot t = R at *
    go_enter Tryz.func18, Tryz.ntmps18
    go_wp2
    exact bodyPost_ret (v := .agg #[.slice none 0 0, .int .i64 2]) (by simp [results, Tryz.results18, go_sem]) rfl ⟨.slice none 0 0, by rw [HR.out], by rw [HR.out]; exact HN.out _ _ _ _, (Below.refl _ _).alloc (Nat.le_refl _) _⟩
  have q8 : decide ((8000 : Int) < (t.size : Int)) = false := by rw [decide_eq_false_iff_not]; omega
  cases ht : t.toList.isEmpty with
  | true =>
    have HR : Hid (pairsGot t = ([], 0)) := by show _ = _; unfold pairsGot; rw [if_neg h8, if_pos ht]
    generalize pairsGot t = R at *
    go_enter Tryz.func18, Tryz.ntmps18
    go_wp2
    exact bodyPost_ret (v := .agg #[.slice none 0 0, .int .i64 0]) (by simp [results, Tryz.results18, go_sem]) rfl ⟨.slice none 0 0, by rw [HR.out], by rw [HR.out]; exact HN.out _ _ _ _, (Below.refl _ _).alloc (Nat.le_refl _) _⟩
  | false =>
    have HR0 : Hid (pairsGot t = if ((pairsT (readP (piecesL t) (piecesL t).length)).toList == t.toList) = true then (readP (piecesL t) (piecesL t).length, 0) else ([], 3)) := by
      show _ = _
      unfold pairsGot readP
      rw [if_neg h8, if_neg (by rw [ht]; decide), List.take_length]
    have KS : Hid (∀ W, Below w.heap.size w W → Calls Tryz.prog 44 #[.string t, .string ⟨#[59, 32]⟩] W fun e w' => e = .returned (.slice (some ⟨W.heap.size, 0, none⟩) (piecesL t).length (piecesL t).length) ∧ w' = W.alloc (.cells (strCells (piecesL t)).toArray 9)) := fun W hb => split_semi t W (hG.on hb) (by omega)
    have hlen := piecesL_len t
    have HSM : Hid (∀ i, i < (piecesL t).length → (atL (piecesL t) i).size ≤ 8000) := fun i hi => Nat.le_trans (pieces_at_small t i hi) (by omega)
    have HRS : Hid (∀ i, i < (readP (piecesL t) (piecesL t).length).length → (atP (readP (piecesL t) (piecesL t).length) i).1.size ≤ 1048576 ∧ (atP (readP (piecesL t) (piecesL t).length) i).2.size ≤ 1048576) := fun i hi => by
      have := readP_small i hi; omega
    have HCE : Hid (∀ (W : World) j, j < (piecesL t).length → (W.alloc (.cells (strCells (piecesL t)).toArray 9)).cell? ⟨W.heap.size, j, none⟩ = some (.string (atL (piecesL t) j))) := fun W j hj => by
      have e : atL (piecesL t) j = (piecesL t)[j] := by simp [atL, hj]
      rw [e]; simp [strCells, hj]
    have HG : Hid (MaxI w) := hG
    clear hG
    obtain ⟨i0, hi, hy0, hy1, hy2⟩ := info_parts infoPair
    generalize pairsGot t = R at *
    generalize piecesL t = L at *
    have hL : L.length ≤ 8001 := by omega
    clear hlen
    have W0 : Hid (∀ o, Below w.heap.size w (w.alloc o)) := fun o => (Below.refl _ _).alloc (Nat.le_refl _) _
    go_enter Tryz.func18, Tryz.ntmps18
    go_wp2_with fail
    refine (KS.out _ (W0.out _)).mono ?_
    rintro e w1 ⟨rfl, rfl⟩
    have HC1 : Hid (∀ j, j < L.length → ((w.alloc (.cells #[.slice none 0 0, .int .i64 0] 37)).alloc (.cells (strCells L).toArray 9)).cell? ⟨w.heap.size + 1, j, none⟩ = some (.string (atL L j))) := fun j hj => by
      have h := HCE.out (w.alloc (.cells #[.slice none 0 0, .int .i64 0] 37)) j hj
      have e : (w.alloc (.cells #[.slice none 0 0, .int .i64 0] 37)).heap.size = w.heap.size + 1 := by simp
      rw [e] at h; exact h
    have B1 : Hid (Below w.heap.size w ((w.alloc (.cells #[.slice none 0 0, .int .i64 0] 37)).alloc (.cells (strCells L).toArray 9))) := (W0.out _).alloc (by simp) _
    have Z1 : Hid (w.heap.size + 2 = ((w.alloc (.cells #[.slice none 0 0, .int .i64 0] 37)).alloc (.cells (strCells L).toArray 9)).heap.size) := by show _ = _; simp
    have g0 : ((w.alloc (.cells #[.slice none 0 0, .int .i64 0] 37)).alloc (.cells (strCells L).toArray 9)).cell? ⟨w.heap.size, 0, none⟩ = some (.slice none 0 0) := by rw [World.cell?_alloc_lt _ _ _ (by simp)]; simp
    have g1 : ((w.alloc (.cells #[.slice none 0 0, .int .i64 0] 37)).alloc (.cells (strCells L).toArray 9)).cell? ⟨w.heap.size, 1, none⟩ = some (.int .i64 0) := by rw [World.cell?_alloc_lt _ _ _ (by simp)]; simp
    have gf : ∀ o, ((w.alloc (.cells #[.slice none 0 0, .int .i64 0] 37)).alloc (.cells (strCells L).toArray 9)).frozen? ⟨w.heap.size, o, none⟩ = false := by intro o; simp
    have HGf : Hid (∀ (W : World), Below (w.heap.size + 2) ((w.alloc (.cells #[.slice none 0 0, .int .i64 0] 37)).alloc (.cells (strCells L).toArray 9)) W → W.cell? ⟨w.heap.size, 0, none⟩ = some (.slice none 0 0) ∧ W.cell? ⟨w.heap.size, 1, none⟩ = some (.int .i64 0) ∧ ∀ o, W.frozen? ⟨w.heap.size, o, none⟩ = false) := fun W hb => ⟨by rw [hb.cell (p := ⟨w.heap.size, 0, none⟩) (by show w.heap.size < w.heap.size + 2; omega)]; exact g0, by rw [hb.cell (p := ⟨w.heap.size, 1, none⟩) (by show w.heap.size < w.heap.size + 2; omega)]; exact g1, fun o => by rw [hb.frozen (p := ⟨w.heap.size, o, none⟩) (by show w.heap.size < w.heap.size + 2; omega)]; exact gf o⟩
    clear g0 g1 gf
    go_upto_region 7 with fail
    generalize (w.alloc (.cells #[.slice none 0 0, .int .i64 0] 37)).alloc (.cells (strCells L).toArray 9) = w1 at *
    clear HCE KS W0
    go_loopw [3, 16] (fun v i wr => ∃ k : Nat, k ≤ L.length ∧ i = .int .i64 k ∧ Hid (wr.ownsRow (w.heap.size + 2) 46 2 v (readP L k).length (pairCells (readP L k))) ∧ Hid (Below (w.heap.size + 2) w1 wr)) (fun _ i _ => L.length - (intOf i).toNat)
    case atStart => exact ⟨0, Nat.zero_le _, rfl, World.ownsRow_nil _ _ _ _, Below.refl _ _⟩
    case round =>
      obtain ⟨k, hk, rfl, HO, HB⟩ := hrel
      have hpl := readP_len L k
      have hbs : w.heap.size + 2 ≤ wr.heap.size := by have := Z1.out; have := HB.out.size; omega
      have BW : Hid (Below w.heap.size w wr) := B1.out.trans (HB.out.mono (by omega))
      by_cases hlt : k < L.length
      · have ck : wr.cell? ⟨w.heap.size + 1, k, none⟩ = some (.string (atL L k)) := by rw [HB.out.cell (p := ⟨w.heap.size + 1, k, none⟩) (by show w.heap.size + 1 < w.heap.size + 2; omega)]; exact HC1.out k hlt
        have k0 : (0 : Int) ≤ k := by omega
        have k1 : (k : Int) < L.length := by omega
        have KP : Hid (∀ W, Below w.heap.size w W → Calls Tryz.prog 45 #[.string (atL L k)] W fun e w' => e = .returned (.agg #[.string (pairP (atL L k)).1, .string (pairP (atL L k)).2]) ∧ Below W.heap.size W w') := fun W hb => pairParts_any _ W (HG.out.on hb) (HSM.out k hlt)
        have HP : Hid (readP L (k + 1) = readP L k ++ [((pairP (atL L k)).1, (pairP (atL L k)).2)]) := readP_succ hlt
        generalize (pairP (atL L k)).1 = n1 at *
        generalize (pairP (atL L k)).2 = v1 at *
        go_wp2_with fail
        refine (KP.out _ BW.out).mono ?_
        rintro e w3 ⟨rfl, hb3⟩
        have O3 : Hid (w3.ownsRow (w.heap.size + 2) 46 2 u3 (readP L k).length (pairCells (readP L k))) := ownR_below HO.out hb3
        have B3 : Hid (Below (w.heap.size + 2) w1 w3) := HB.out.trans (hb3.mono (by omega))
        have hz3 : w.heap.size + 2 ≤ w3.heap.size := by have := hb3.size; omega
        clear hb3 KP
        go_wp2_with (at_builtin; go_must (refine wpList_append_own _ rfl _ _ 33 rfl (w.heap.size + 2) 46 i0 (.agg #[.string ⟨#[]⟩, .string ⟨#[]⟩]) 2 32 Tryz.underlying33 hi hy0 hy1 hy2 rfl (by decide) _ _ _ rfl (O3.out.alloc _) ⟨w3.heap.size, 0, none⟩ 1 1 [.string n1, .string v1] rfl rfl (cell_two_new _ _ _ _) (by intro u hu; simp at hu; rcases hu with rfl | rfl <;> rfl) (by unfold maxLen; omega) (by omega) (by simp; omega) ?_))
        intro v4 w4 ho4 hg4 _
        have ho5 : w4.ownsRow (w.heap.size + 2) 46 2 v4 ((readP L k).length + 1) (pairCells (readP L k ++ [(n1, v1)])) := by rw [← pairCells_snoc]; exact ho4
        have G1 : Hid (w4.ownsRow (w.heap.size + 2) 46 2 v4 (readP L k ++ [(n1, v1)]).length (pairCells (readP L k ++ [(n1, v1)]))) := by show World.ownsRow _ _ _ _ _ _ _; rw [List.length_append]; exact ho5
        have G2 : Hid (Below (w.heap.size + 2) w1 w4) := (B3.out.alloc hz3 _).grown hg4 (by simp; omega) (fun j hj => (O3.out.lt j hj).1)
        clear ho4 hg4 ho5
        go_wp2
        go_roundw
        case rel => exact ⟨k + 1, by omega, by go_num, by rw [HP.out]; exact G1, G2⟩
        case measure => simp [intOf]; omega
      · obtain rfl : k = L.length := by omega
        have SP : Hid (SliceP wr (w.heap.size + 2) u3 (readP L L.length)) := sliceP_of_own HO.out
        have KT : Hid (Calls Tryz.prog 16 #[u3] wr fun e w' => e = .returned (.string (pairsT (readP L L.length))) ∧ Below wr.heap.size wr w') := pairsText_any u3 _ _ wr SP.out (by omega) HRS.out
        generalize readP L L.length = P at *
        generalize pairsT P = tx at *
        go_wp2_with fail
        refine KT.out.mono ?_
        rintro e w5 ⟨rfl, hb5⟩
        have S5 : Hid (SliceP w5 (w.heap.size + 2) u3 P) := SliceR.below SP.out hb5
        have B5 : Hid (Below (w.heap.size + 2) w1 w5) := HB.out.trans (hb5.mono (by omega))
        have BW5 : Hid (Below w.heap.size w w5) := BW.out.trans (hb5.mono BW.out.size)
        clear hb5 KT SP
        obtain ⟨g0, g1, gf⟩ := HGf.out w5 B5.out
        have FB : Hid (∀ a b, Below w.heap.size w ((w5.setCell ⟨w.heap.size, 0, none⟩ a).setCell ⟨w.heap.size, 1, none⟩ b)) := fun a b => (BW5.out.setCell (Nat.le_refl _) _).setCell (Nat.le_refl _) _
        have FS : Hid (∀ a b, SliceP ((w5.setCell ⟨w.heap.size, 0, none⟩ a).setCell ⟨w.heap.size, 1, none⟩ b) w.heap.size u3 P) := fun a b => by
          have h := SliceR.mono S5.out (show w.heap.size + 1 ≤ w.heap.size + 2 by omega)
          obtain ⟨p, cap, rfl, hh⟩ := S5.out
          refine ⟨p, cap, rfl, fun hn => ?_⟩
          obtain ⟨g, rfl, hB, hg, hc⟩ := hh hn
          refine ⟨g, rfl, by omega, by simpa [World.setCell] using hg, fun j hj o ho => ⟨?_, ?_⟩⟩
          · rw [World.cell?_setCell_far _ _ _ _ (by show ¬ w.heap.size = g; omega), World.cell?_setCell_far _ _ _ _ (by show ¬ w.heap.size = g; omega)]
            exact (hc j hj o ho).1
          · rw [World.frozen?_setCell, World.frozen?_setCell]; exact (hc j hj o ho).2
        obtain ⟨pP, cP, rfl, -⟩ := S5.out
        cases hq : (tx.toList == t.toList) with
        | true =>
          have HR : Hid (R = (P, 0)) := by show _ = _; rw [HR0.out, hq]; rfl
          go_wp2
          exact bodyPost_ret (v := .agg #[.slice pP P.length cP, .int .i64 0]) (by simp [results, Tryz.results18, go_sem, g0, g1]) rfl ⟨.slice pP P.length cP, by rw [HR.out], by rw [HR.out]; exact FS.out _ _, FB.out _ _⟩
        | false =>
          have HR : Hid (R = ([], 3)) := by show _ = _; rw [HR0.out, hq]; rfl
          go_wp2
          exact bodyPost_ret (v := .agg #[.slice none 0 0, .int .i64 3]) (by simp [results, Tryz.results18, go_sem, g0, g1]) rfl ⟨.slice none 0 0, by rw [HR.out], by rw [HR.out]; exact HN.out _ _ _ _, FB.out _ _⟩
end Go.Proofs.YthcpmbolnmlohaaGreatDoor
