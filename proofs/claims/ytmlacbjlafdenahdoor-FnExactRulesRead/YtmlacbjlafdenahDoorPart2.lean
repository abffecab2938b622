/- 12 of this claim's texts, one behind the other. -/
import Derived.Test.YtmlacbjlafdenahDoorShelf
import Derived.Test.YtmlacbjlafdenahDoorPart1
import Derived.WalkKit
import Derived.WalkSpells
import Derived.WalkLawsBesides
import Derived.Laws.RangeAny
import Derived.Handed
import Derived.Lay
import Derived.MakeChecks
import Derived.Lib.LaidTab
import Derived.Stop.LaidErr
/- The library's Split and the digits of a number, as the program calls them, over the contracts laid at this translation. -/
namespace Go.Proofs.YtmlacbjlafdenahDoor
open Go.RowKit

/-- the library's variable MaxLen holds some number -/
def MaxI (w : World) : Prop := ∃ m : Int, w.cell? ⟨0, 0, none⟩ = some (.int .i64 m)
theorem MaxI.on {w w' : World} (h : MaxI w) (hb : Below w.heap.size w w') : MaxI w' := by
  obtain ⟨m, hm⟩ := h
  have hlt : 0 < w.heap.size := by
    by_cases h : 0 < w.heap.size
    · exact h
    · exfalso
      simp [World.cell?, Array.getElem?_eq_none (show w.heap.size ≤ 0 by omega)] at hm
  exact ⟨m, by rw [(bcell hb).1 _ _ hlt]; exact hm⟩

theorem split_call (s : ByteArray) (w : World) (hG : MaxI w) (hs : s.size < 4294967281) :
    Calls Tryd.prog 30 #[.string s, .string ⟨#[46]⟩] w fun e w' => e = .returned (.slice (some ⟨w.heap.size, 0, none⟩) (splitB s 46).length (splitB s 46).length) ∧ w' = w.alloc (.cells (strCells (splitB s 46)).toArray 9) := by
  obtain ⟨m, hm⟩ := hG
  have h := Any.strings_Split { Tryd.lays146 with } Tryd.lays146.i9 s ⟨#[46]⟩ m w hs hm (Nat.le_refl 1)
  rw [lib_split s 46, lib_count s 46] at h
  exact h
/-- all cuts and the bytes between them -/
theorem cutL_sum (c : UInt8) : ∀ l : List UInt8, ((cutL c l).map (fun p => p.length + 1)).sum = l.length + 1
  | [] => rfl
  | b :: l => by
    have ih := cutL_sum c l
    rw [cutL]
    split
    · simp only [List.map_cons, List.sum_cons, List.length_nil, List.length_cons, ih]; omega
    · split
      · rename_i h; rw [h] at ih; simp at ih
      · rename_i h
        rw [h] at ih
        simp only [List.map_cons, List.sum_cons, List.length_cons] at ih ⊢
        omega
theorem sum_le (L : List ByteArray) (h : ∀ x ∈ L, x.size ≤ 12) : (L.map (fun p => p.data.toList.length + 1)).sum ≤ 13 * L.length := by
  induction L with
  | nil => exact Nat.le_refl _
  | cons a L ih =>
    have h1 := h a (by simp)
    have h2 := ih (fun x hx => h x (by simp [hx]))
    have e : a.data.toList.length = a.size := (Lib.size_eq a).symm
    simp only [List.map_cons, List.sum_cons, List.length_cons, e]
    omega
theorem labelB_le {t : ByteArray} (h : labelB t = true) : t.size ≤ 12 := by
  by_cases hz : 12 < t.size
  · rw [labelB_size (.inr hz)] at h; cases h
  · omega
theorem host_size {s : ByteArray} (hn : (splitB s 46).length ≤ 6) (h : ∀ k (h : k < (splitB s 46).length), labelB ((splitB s 46)[k]) = true) : s.size ≤ 100 := by
  have e := splitB_cut s 46
  have e2 := cutL_sum 46 s.data.toList
  rw [← e, List.map_map] at e2
  have e3 := sum_le (splitB s 46) (fun x hx => by
    obtain ⟨k, hk, rfl⟩ := List.getElem_of_mem hx
    exact labelB_le (h k hk))
  have e4 : s.data.toList.length = s.size := (Lib.size_eq s).symm
  have e5 : ((splitB s 46).map (fun p => p.data.toList.length + 1)).sum = s.size + 1 := by rw [← e4]; exact e2
  omega
theorem hostB_six {s : ByteArray} (hn : (splitB s 46).length ≤ 6) (h : ∀ k (h : k < (splitB s 46).length), labelB ((splitB s 46)[k]) = true) : hostB s = true := by
  rw [hostB_all (host_size hn h) h]; simpa using hn
theorem hostB_many {s : ByteArray} (hn : 6 < (splitB s 46).length) : hostB s = false := by
  unfold hostB; rw [decide_eq_false (show ¬ (splitB s 46).length ≤ 6 by omega)]; simp
end Go.Proofs.YtmlacbjlafdenahDoor

/- The walks of the program's inLabel, labelRight and pathRight. -/
namespace Go.Proofs.YtmlacbjlafdenahDoor
open Go.RowKit

set_option maxRecDepth 10000 in
set_option maxHeartbeats 400000 in
theorem inLabel_any (n : Nat) (w : World) :
    Calls Tryd.prog 82 #[.int .i32 n] w fun e w' => e = .returned (.bool (labC n)) ∧ w' = w := by
  rcases (show (n < 45) ∨ (45 ≤ n ∧ n ≤ 45) ∨ (46 ≤ n ∧ n < 48) ∨ (48 ≤ n ∧ n ≤ 57) ∨ (58 ≤ n ∧ n < 97) ∨ (97 ≤ n ∧ n ≤ 122) ∨ (122 < n) by omega)
    with c1 | ⟨c1, c2⟩ | ⟨c1, c2⟩ | ⟨c1, c2⟩ | ⟨c1, c2⟩ | ⟨c1, c2⟩ | c1
  · have b1 : decide ((97 : Int) ≤ (n : Int)) = false := by rw [decide_eq_false_iff_not]; omega
    have b2 : decide ((48 : Int) ≤ (n : Int)) = false := by rw [decide_eq_false_iff_not]; omega
    have b3 : ((n : Int) == 45) = false := by rw [beq_eq_false_iff_ne]; omega
    go_enter Tryd.func82, Tryd.ntmps82
    go_wp2
    go_ret
    exact ⟨ret_bool (labC_no (by omega)).symm, rfl⟩
  · have b1 : decide ((97 : Int) ≤ (n : Int)) = false := by rw [decide_eq_false_iff_not]; omega
    have b2 : decide ((48 : Int) ≤ (n : Int)) = false := by rw [decide_eq_false_iff_not]; omega
    have b3 : ((n : Int) == 45) = true := by rw [beq_iff_eq]; omega
    go_enter Tryd.func82, Tryd.ntmps82
    go_wp2
    go_ret
    exact ⟨ret_bool (labC_yes (by omega)).symm, rfl⟩
  · have b1 : decide ((97 : Int) ≤ (n : Int)) = false := by rw [decide_eq_false_iff_not]; omega
    have b2 : decide ((48 : Int) ≤ (n : Int)) = false := by rw [decide_eq_false_iff_not]; omega
    have b3 : ((n : Int) == 45) = false := by rw [beq_eq_false_iff_ne]; omega
    go_enter Tryd.func82, Tryd.ntmps82
    go_wp2
    go_ret
    exact ⟨ret_bool (labC_no (by omega)).symm, rfl⟩
  · have b1 : decide ((97 : Int) ≤ (n : Int)) = false := by rw [decide_eq_false_iff_not]; omega
    go_enter Tryd.func82, Tryd.ntmps82
    go_wp2
    go_ret
    exact ⟨ret_bool (labC_yes (by omega)).symm, rfl⟩
  · have b1 : decide ((97 : Int) ≤ (n : Int)) = false := by rw [decide_eq_false_iff_not]; omega
    have b2 : decide ((n : Int) ≤ 57) = false := by rw [decide_eq_false_iff_not]; omega
    have b3 : ((n : Int) == 45) = false := by rw [beq_eq_false_iff_ne]; omega
    go_enter Tryd.func82, Tryd.ntmps82
    go_wp2
    go_ret
    exact ⟨ret_bool (labC_no (by omega)).symm, rfl⟩
  · go_enter Tryd.func82, Tryd.ntmps82
    go_wp2
    go_ret
    exact ⟨ret_bool (labC_yes (by omega)).symm, rfl⟩
  · have b1 : decide ((n : Int) ≤ 122) = false := by rw [decide_eq_false_iff_not]; omega
    have b2 : decide ((n : Int) ≤ 57) = false := by rw [decide_eq_false_iff_not]; omega
    have b3 : ((n : Int) == 45) = false := by rw [beq_eq_false_iff_ne]; omega
    go_enter Tryd.func82, Tryd.ntmps82
    go_wp2
    go_ret
    exact ⟨ret_bool (labC_no (by omega)).symm, rfl⟩

set_option maxRecDepth 10000 in
set_option maxHeartbeats 400000 in
theorem labelRight_any (t : ByteArray) (w : World) (ht : t.size ≤ 9223372036854775807) :
    Calls Tryd.prog 54 #[.string t] w fun e w' => e = .returned (.bool (labelB t)) ∧ Below w.heap.size w w' := by
  by_cases h1 : t.size < 1
  · have q1 : decide ((t.size : Int) - 1 < 0) = true := by rw [decide_eq_true_iff]; omega
    go_enter Tryd.func54, Tryd.ntmps54
    go_wp2
    go_ret
    exact ⟨ret_bool (labelB_size (.inl h1)).symm, Below.refl _ _⟩
  have q1 : decide ((t.size : Int) - 1 < 0) = false := by rw [decide_eq_false_iff_not]; omega
  by_cases h2 : 12 < t.size
  · have q2 : decide ((12 : Int) ≤ (t.size : Int) - 1) = true := by rw [decide_eq_true_iff]; omega
    go_enter Tryd.func54, Tryd.ntmps54
    go_wp2
    go_ret
    exact ⟨ret_bool (labelB_size (.inr h2)).symm, Below.refl _ _⟩
  have q2 : decide ((12 : Int) ≤ (t.size : Int) - 1) = false := by rw [decide_eq_false_iff_not]; omega
  have hp : 0 < t.size := by omega
  have hl : t.size - 1 < t.size := by omega
  by_cases h3 : t[0].toNat = 45
  · have q3 : ((t[0].toNat : Int) == 45) = true := by rw [beq_iff_eq]; omega
    have H3 : Hid (t[0].toNat = 45) := h3
    clear h3
    go_enter Tryd.func54, Tryd.ntmps54
    go_wp2
    go_ret
    exact ⟨ret_bool (labelB_first hp H3.out).symm, Below.refl _ _⟩
  have q3 : ((t[0].toNat : Int) == 45) = false := by rw [beq_eq_false_iff_ne]; omega
  have H3 : Hid (¬ t[0].toNat = 45) := h3
  clear h3
  by_cases h4 : t[t.size - 1].toNat = 45
  · have q4 : ((t[t.size - 1].toNat : Int) == 45) = true := by rw [beq_iff_eq]; omega
    have H4 : Hid (t[t.size - 1].toNat = 45) := h4
    clear h4
    go_enter Tryd.func54, Tryd.ntmps54
    go_wp2
    go_ret
    exact ⟨ret_bool (labelB_last hl H4.out).symm, Below.refl _ _⟩
  have q4 : ((t[t.size - 1].toNat : Int) == 45) = false := by rw [beq_eq_false_iff_ne]; omega
  have H4 : Hid (¬ t[t.size - 1].toNat = 45) := h4
  clear h4
  go_enter Tryd.func54, Tryd.ntmps54
  go_wp2
  go_loopw [5] (fun _ wr => ∃ k : Nat, k ≤ t.size ∧ wr = w.iter t k ∧ Hid (∀ i (h : i < t.size), i < k → labC t[i].toNat = true)) (fun _ wr => t.size - wr.iterPos w.heap.size)
  case atStart => exact ⟨0, Nat.zero_le _, rfl, fun i _ hi => absurd hi (by omega)⟩
  case round =>
    obtain ⟨k, hk, rfl, HR⟩ := hrel
    by_cases hlt : k < t.size
    · by_cases ha : t[k].toNat < 128
      · have hnx : ∀ ty, (Instr.next (.pointer (some ⟨w.heap.size, 0, none⟩)) true ty).run Tryd.prog (w.iter t k) = _ := fun ty => run_next_ascii w t k ty hlt ha
        cases hc : labC t[k].toNat with
        | true =>
          have HC : Hid (∀ W, Calls Tryd.prog 82 #[.int .i32 (t[k].toNat : Int)] W fun e w' => e = .returned (.bool true) ∧ w' = W) := fun W => by rw [← hc]; exact inLabel_any _ W
          have HK : Hid (labC t[k].toNat = true) := hc
          clear hc
          go_wp2_with (go_at_call 82; refine (HC.out _).mono ?_; rintro e w2 ⟨rfl, rfl⟩)
          go_roundw
          case rel => exact ⟨k + 1, by omega, rfl, all_succ HR.out hlt HK.out⟩
          case measure => simp; omega
        | false =>
          have HC : Hid (∀ W, Calls Tryd.prog 82 #[.int .i32 (t[k].toNat : Int)] W fun e w' => e = .returned (.bool false) ∧ w' = W) := fun W => by rw [← hc]; exact inLabel_any _ W
          have HK : Hid (labelB t = false) := labelB_at k hlt hc
          clear hc
          go_wp2_with (go_at_call 82; refine (HC.out _).mono ?_; rintro e w2 ⟨rfl, rfl⟩)
          go_ret
          exact ⟨ret_bool HK.out.symm, (Below.refl _ _).alloc (Nat.le_refl _) _⟩
      · have hnx : ∀ ty, (Instr.next (.pointer (some ⟨w.heap.size, 0, none⟩)) true ty).run Tryd.prog (w.iter t k) = _ := fun ty => run_next_any w t k ty hlt
        have hd := (decode_high t k hlt (by omega)).1
        have HK : Hid (labelB t = false) := labelB_at k hlt (labC_no (by omega))
        generalize Utf8.decode t k = d at *
        obtain ⟨r, n⟩ := d
        have hd2 : 128 ≤ r := hd
        have HC : Hid (∀ W, Calls Tryd.prog 82 #[.int .i32 (r : Int)] W fun e w' => e = .returned (.bool false) ∧ w' = W) := fun W => by
          have := inLabel_any r W
          rw [labC_no (by omega)] at this; exact this
        clear hd hd2
        go_wp2_with (go_at_call 82; refine (HC.out _).mono ?_; rintro e w2 ⟨rfl, rfl⟩)
        go_ret
        exact ⟨ret_bool HK.out.symm, (Below.refl _ _).alloc (Nat.le_refl _) _⟩
    · have hnx : ∀ ty, (Instr.next (.pointer (some ⟨w.heap.size, 0, none⟩)) true ty).run Tryd.prog (w.iter t k) = _ := fun ty => run_next_end w t k ty hlt
      go_wp2
      go_ret
      exact ⟨ret_bool (labelB_true (by omega) (by omega) (fun _ => H3.out) (fun _ => H4.out) (fun i h => HR.out i h (by omega))).symm, (Below.refl _ _).alloc (Nat.le_refl _) _⟩
end Go.Proofs.YtmlacbjlafdenahDoor

/- The walk of the program's HostRight. -/
namespace Go.Proofs.YtmlacbjlafdenahDoor
open Go.RowKit

theorem mem_le_sum : ∀ {l : List Nat} {x : Nat}, x ∈ l → x ≤ l.sum
  | [], _, h => by cases h
  | a :: l, x, h => by
    rw [List.sum_cons]
    cases h with
    | head => omega
    | tail _ h => have := mem_le_sum h; omega
theorem piece_le {s x : ByteArray} (hx : x ∈ splitB s 46) : x.size ≤ s.size := by
  have h1 : x.data.toList ∈ cutL 46 s.data.toList := by rw [← splitB_cut]; exact List.mem_map.2 ⟨x, hx, rfl⟩
  have h2 := cutL_sum 46 s.data.toList
  have h3 : (x.data.toList.length + 1) ≤ ((cutL 46 s.data.toList).map (fun p => p.length + 1)).sum := mem_le_sum (List.mem_map.2 ⟨_, h1, rfl⟩)
  rw [h2, ← Lib.size_eq, ← Lib.size_eq] at h3
  omega
set_option maxRecDepth 10000 in
set_option maxHeartbeats 400000 in
theorem hostRight_any (s : ByteArray) (w : World) (hG : MaxI w) (hs : s.size ≤ 1048576) :
    Calls Tryd.prog 37 #[.string s] w fun e w' => e = .returned (.bool (hostB s)) ∧ Below w.heap.size w w' := by
  have HC : Hid (∀ W, MaxI W → Calls Tryd.prog 30 #[.string s, .string ⟨#[46]⟩] W fun e w' => e = .returned (.slice (some ⟨W.heap.size, 0, none⟩) (splitB s 46).length (splitB s 46).length) ∧ w' = W.alloc (.cells (strCells (splitB s 46)).toArray 9)) := fun W h => split_call s W h (by omega)
  have HA : Hid ((∀ k (h : k < (splitB s 46).length), labelB ((splitB s 46)[k]) = false → hostB s = false) ∧ ((splitB s 46).length ≤ 6 → (∀ k (h : k < (splitB s 46).length), labelB ((splitB s 46)[k]) = true) → hostB s = true) ∧ (6 < (splitB s 46).length → hostB s = false)) :=
    ⟨fun k h hl => hostB_at k h hl, fun h1 h2 => hostB_six h1 h2, fun h => hostB_many h⟩
  have hn := splitB_len s 46
  have HZ : Hid (∀ x ∈ splitB s 46, x.size ≤ s.size) := fun x hx => piece_le hx
  generalize splitB s 46 = L at *
  have HG : Hid (MaxI w) := hG
  clear hG
  go_enter Tryd.func37, Tryd.ntmps37
  go_wp2_with fail
  refine (HC.out _ HG.out).mono ?_
  rintro e w1 ⟨rfl, rfl⟩
  by_cases h6 : 6 < L.length
  · go_wp2
    go_ret
    exact ⟨ret_bool (HA.out.2.2 h6).symm, (Below.refl _ _).alloc (Nat.le_refl _) _⟩
  have q6 : decide ((6 : Int) < (L.length : Int)) = false := by rw [decide_eq_false_iff_not]; omega
  have hcell : ∀ k (h : k < L.length), (w.alloc (.cells (strCells L).toArray 9)).cell? ⟨w.heap.size, k, none⟩ = some (.string L[k]) := by
    intro k hk
    simp [strCells, hk]
  have hb : Below w.heap.size w (w.alloc (.cells (strCells L).toArray 9)) := (Below.refl _ _).alloc (Nat.le_refl _) _
  have hz1 : w.heap.size < (w.alloc (.cells (strCells L).toArray 9)).heap.size := by simp
  generalize w.alloc (.cells (strCells L).toArray 9) = w1 at *
  go_wp2
  go_loopw [13] (fun i wr => ∃ k : Nat, k ≤ L.length ∧ i = .int .i64 k ∧ Below w1.heap.size w1 wr ∧ Hid (∀ j (h : j < L.length), j < k → labelB L[j] = true)) (fun i _ => L.length - (intOf i).toNat)
  case atStart => exact ⟨0, by omega, rfl, Below.refl _ _, fun j _ hj => absurd hj (by omega)⟩
  case round =>
    obtain ⟨k, hk, rfl, hb2, HR⟩ := hrel
    by_cases hlt : k < L.length
    · have hc1 := hcell k hlt
      have hck : wr.cell? ⟨w.heap.size, k, none⟩ = some (.string L[k]) := by rw [(bcell hb2).1 _ _ hz1]; exact hc1
      have HL : Hid (∀ W, Calls Tryd.prog 54 #[.string L[k]] W fun e w' => e = .returned (.bool (labelB L[k])) ∧ Below W.heap.size W w') := fun W => labelRight_any L[k] W (by have := HZ.out L[k] (List.getElem_mem hlt); omega)
      have HB2 : Hid (Below w1.heap.size w1 wr) := hb2
      have hz2 := hb2.size
      cases hlab : labelB L[k] with
      | true =>
        have HL2 : Hid (labelB L[k] = true) := hlab
        rw [hlab] at HL
        clear hlab hcell hc1 hb2
        generalize hx : L[k] = x at *
        have HX : Hid (L[k] = x) := hx
        clear hx
        go_wp2_with (go_at_call 54; refine (HL.out _).mono ?_; rintro e w2 ⟨rfl, hb3⟩)
        go_roundw
        case rel =>
          refine ⟨k + 1, by omega, by go_num, HB2.out.trans (hb3.mono hz2), ?_⟩
          intro j hj hjk
          by_cases e : j = k
          · subst e; rw [HX.out]; exact HL2.out
          · exact HR.out j hj (by omega)
        case measure => simp [intOf]; omega
      | false =>
        have HF : Hid (hostB s = false) := HA.out.1 k hlt hlab
        rw [hlab] at HL
        clear hlab hcell hc1 hb2
        generalize L[k] = x at *
        go_wp2_with (go_at_call 54; refine (HL.out _).mono ?_; rintro e w2 ⟨rfl, hb3⟩)
        go_ret
        exact ⟨ret_bool HF.out.symm, hb.trans ((HB2.out.trans (hb3.mono hz2)).mono hb.size)⟩
    · have HF : Hid (hostB s = true) := HA.out.2.1 (by omega) (fun j hj => HR.out j hj (by omega))
      clear hcell
      go_wp2
      go_ret
      exact ⟨ret_bool HF.out.symm, hb.trans (hb2.mono hb.size)⟩
end Go.Proofs.YtmlacbjlafdenahDoor

/- The walk of the program's RuleRight. -/
namespace Go.Proofs.YtmlacbjlafdenahDoor
open Go.RowKit

theorem cutBang_call (s : ByteArray) (w : World) :
    Calls Tryd.prog 45 #[.string s, .string ⟨#[33]⟩] w fun e w' => e = .returned (.tuple #[.string (unbang s), .bool (bangB s)]) ∧ w' = w := by
  have h := Any.strings_CutPrefix Tryd.lays103 s ⟨#[33]⟩ w
  rw [bangB_lib]
  exact h
theorem trimStar_call (s : ByteArray) (w : World) :
    Calls Tryd.prog 47 #[.string s, .string ⟨#[42, 46]⟩] w fun e w' => e = .returned (.string (unstar s)) ∧ w' = w :=
  Any.strings_TrimPrefix Tryd.lays101 s ⟨#[42, 46]⟩ w
theorem hasPoint_call (s : ByteArray) (w : World) :
    Calls Tryd.prog 46 #[.string s, .string ⟨#[46]⟩] w fun e w' => e = .returned (.bool (decide (0 ≤ Lib.indexByte s.data.toList 46))) ∧ w' = w :=
  Any.strings_Contains_one Tryd.lays144 s 46 w

set_option maxRecDepth 10000 in
set_option maxHeartbeats 400000 in
theorem ruleRight_any (s : ByteArray) (w : World) (hG : MaxI w) (hs : s.size ≤ 1048576) :
    Calls Tryd.prog 27 #[.string s] w fun e w' => e = .returned (.bool (ruleB s)) ∧ Below w.heap.size w w' := by
  have HC : Hid (∀ W, Calls Tryd.prog 45 #[.string s, .string ⟨#[33]⟩] W fun e w' => e = .returned (.tuple #[.string (unbang s), .bool (bangB s)]) ∧ w' = W) := fun W => cutBang_call s W
  cases hb : bangB s with
  | true =>
    have HR : Hid (ruleB s = (hostB (unbang s) && decide (0 ≤ Lib.indexByte (unbang s).data.toList 46))) := ruleB_yes hb
    rw [hb] at HC
    have hz := unbang_le s
    have HH : Hid (Calls Tryd.prog 37 #[.string (unbang s)] w fun e w' => e = .returned (.bool (hostB (unbang s))) ∧ Below w.heap.size w w') := hostRight_any (unbang s) w hG (by omega)
    have HP : Hid (∀ W, Calls Tryd.prog 46 #[.string (unbang s), .string ⟨#[46]⟩] W fun e w' => e = .returned (.bool (decide (0 ≤ Lib.indexByte (unbang s).data.toList 46))) ∧ w' = W) := fun W => hasPoint_call (unbang s) W
    clear hb hG hz
    generalize decide (0 ≤ Lib.indexByte (unbang s).data.toList 46) = p at *
    generalize hostB (unbang s) = b at *
    generalize unbang s = u at *
    cases b with
    | false =>
      go_enter Tryd.func27, Tryd.ntmps27
      go_wp2_with (first | (go_at_call 45; refine (HC.out _).mono ?_; rintro e w1 ⟨rfl, rfl⟩) | (go_at_call 37; refine HH.out.mono ?_; rintro e w2 ⟨rfl, hb2⟩))
      go_ret
      exact ⟨ret_bool (by rw [HR.out]; rfl), hb2⟩
    | true =>
      go_enter Tryd.func27, Tryd.ntmps27
      go_wp2_with (first | (go_at_call 45; refine (HC.out _).mono ?_; rintro e w1 ⟨rfl, rfl⟩) | (go_at_call 37; refine HH.out.mono ?_; rintro e w2 ⟨rfl, hb2⟩) | (go_at_call 46; refine (HP.out _).mono ?_; rintro e w3 ⟨rfl, rfl⟩))
      go_ret
      exact ⟨ret_bool (by rw [HR.out]; rfl), hb2⟩
  | false =>
    have HR : Hid (ruleB s = hostB (unstar s)) := ruleB_no hb
    rw [hb] at HC
    have hz := unstar_le s
    have HH : Hid (Calls Tryd.prog 37 #[.string (unstar s)] w fun e w' => e = .returned (.bool (hostB (unstar s))) ∧ Below w.heap.size w w') := hostRight_any (unstar s) w hG (by omega)
    have HP : Hid (∀ W, Calls Tryd.prog 47 #[.string s, .string ⟨#[42, 46]⟩] W fun e w' => e = .returned (.string (unstar s)) ∧ w' = W) := fun W => trimStar_call s W
    clear hb hG hz
    generalize hostB (unstar s) = b at *
    generalize unstar s = u at *
    go_enter Tryd.func27, Tryd.ntmps27
    go_wp2_with (first | (go_at_call 45; refine (HC.out _).mono ?_; rintro e w1 ⟨rfl, rfl⟩) | (go_at_call 37; refine HH.out.mono ?_; rintro e w2 ⟨rfl, hb2⟩) | (go_at_call 47; refine (HP.out _).mono ?_; rintro e w3 ⟨rfl, rfl⟩))
    go_ret
    exact ⟨ret_bool (by rw [HR.out]), hb2⟩
end Go.Proofs.YtmlacbjlafdenahDoor

/- The walk of together: two texts put together in new memory. -/
namespace Go.Proofs.YtmlacbjlafdenahDoor
open Go.RowKit


set_option maxRecDepth 10000 in
set_option maxHeartbeats 400000 in
theorem together_full (x y : ByteArray) (w : World) (hz : x.size + y.size ≤ 1000000) (hy : ¬ y = ByteArray.empty) :
    Calls Tryd.prog 31 #[.string x, .string y] w fun e w' => e = .returned (.string (x ++ y)) ∧ Below w.heap.size w w' := by
  obtain ⟨w1, Z, hmk, HG1, hZ, hs1, hb1⟩ := make_row (P := Tryd.prog) w 57 5 _ Tryd.underlying57 infoU8 ((x.size : Int) + (y.size : Int)) (x.size + y.size) (by omega) (by omega)
  go_enter Tryd.func31, Tryd.ntmps31
  go_wp2_with fail
  obtain ⟨w2, hc2, HG2, hs2, hB2⟩ := copy_text (P := Tryd.prog) w1 57 9 3 5 Tryd.underlying57 sizeU8 (some ⟨w.heap.size, 0, none⟩) (x.size + y.size) (x.size + y.size) x (by omega) w.heap.size 0 Z _ HG1 (fun _ => rfl) (by omega)
  have hb2 := hB2 _ _ hb1 (Nat.le_refl _)
  rw [hc2]
  clear hc2 hmk hB2 HG1 hb1
  go_wp2_with fail
  have hl2 : (splice Z 0 (Lib.byteCells x.data.toList)).length = x.size + y.size := by rw [length_splice _ _ _ (by rw [len_cells]; omega), hZ]
  obtain ⟨w3, hc3, HG3, hs3, hB3⟩ := copy_text (P := Tryd.prog) w2 57 9 3 5 Tryd.underlying57 sizeU8 (some ⟨w.heap.size, x.size, none⟩) y.size y.size y (by omega) w.heap.size x.size _ _ HG2 (fun _ => rfl) (by omega)
  have hb3 := hB3 _ _ hb2 (Nat.le_refl _)
  have HG4 : RowAt w3 w.heap.size 5 (Lib.byteCells (x.data.toList ++ y.data.toList) ++ []) := by
    have e := splice_two Z (Lib.byteCells x.data.toList) (Lib.byteCells y.data.toList) (by rw [len_cells, len_cells]; exact hZ)
    rw [len_cells] at e
    rw [e, ← byteCells_append, ← List.append_nil (Lib.byteCells _)] at HG3
    exact HG3
  rw [hc3]
  clear hc3 hB3 HG2 HG3 hb2 hl2
  go_wp2_with fail
  rw [text_of_row (P := Tryd.prog) w3 57 9 5 Tryd.underlying57 Tryd.underlying5 Tryd.underlying9 w.heap.size (x.size + y.size) (x.size + y.size) 5 _ _ HG4 (by rw [List.length_append, ← Lib.size_eq, ← Lib.size_eq])]
  go_wp2
  go_ret
  exact ⟨ret_text (text_append x y), hb3⟩

set_option maxRecDepth 10000 in
set_option maxHeartbeats 400000 in
theorem together_empty (x : ByteArray) (w : World) (hz : x.size ≤ 1000000) :
    Calls Tryd.prog 31 #[.string x, .string ByteArray.empty] w fun e w' => e = .returned (.string x) ∧ Below w.heap.size w w' := by
  obtain ⟨w1, Z, hmk, HG1, hZ, hs1, hb1⟩ := make_row (P := Tryd.prog) w 57 5 _ Tryd.underlying57 infoU8 (x.size : Int) x.size (by omega) (by omega)
  go_enter Tryd.func31, Tryd.ntmps31
  go_wp2_with fail
  obtain ⟨w2, hc2, HG2, hs2, hB2⟩ := copy_text (P := Tryd.prog) w1 57 9 3 5 Tryd.underlying57 sizeU8 (some ⟨w.heap.size, 0, none⟩) x.size x.size x (by omega) w.heap.size 0 Z _ HG1 (fun _ => rfl) (by omega)
  have hb2 := hB2 _ _ hb1 (Nat.le_refl _)
  rw [hc2]
  clear hc2 hmk hB2 HG1 hb1
  go_wp2_with fail
  have HG4 : RowAt w2 w.heap.size 5 (Lib.byteCells x.data.toList ++ []) := by
    have e : splice Z 0 (Lib.byteCells x.data.toList) = Lib.byteCells x.data.toList ++ [] := by
      unfold splice
      rw [List.drop_eq_nil_of_le (by rw [len_cells]; omega)]
      simp
    rw [e] at HG2
    exact HG2
  rw [Lib.run_copy_empty_string (P := Tryd.prog) w2 57 9 3 5 (some ⟨w.heap.size, 0, none⟩) 0 0 ByteArray.empty Tryd.underlying57 (by rw [Option.isSome_iff_exists]; exact ⟨1, sizeU8⟩) rfl]
  go_wp2_with fail
  rw [text_of_row (P := Tryd.prog) w2 57 9 5 Tryd.underlying57 Tryd.underlying5 Tryd.underlying9 w.heap.size x.size x.size 5 _ _ HG4 (by rw [← Lib.size_eq])]
  go_wp2
  go_ret
  exact ⟨rfl, hb2⟩
theorem together_any (x y : ByteArray) (w : World) (hz : x.size + y.size ≤ 1000000) :
    Calls Tryd.prog 31 #[.string x, .string y] w fun e w' => e = .returned (.string (x ++ y)) ∧ Below w.heap.size w w' := by
  by_cases hy : y = ByteArray.empty
  · subst hy
    rw [ByteArray.append_empty]
    exact together_empty x w (by omega)
  · exact together_full x y w hz hy

end Go.Proofs.YtmlacbjlafdenahDoor

/- The walk of the program's RulesRead. -/
namespace Go.Proofs.YtmlacbjlafdenahDoor
open Go.RowKit

theorem split_lines (s : ByteArray) (w : World) (hG : MaxI w) (hs : s.size < 4294967281) :
    Calls Tryd.prog 30 #[.string s, .string ⟨#[10]⟩] w fun e w' => e = .returned (.slice (some ⟨w.heap.size, 0, none⟩) (splitB s 10).length (splitB s 10).length) ∧ w' = w.alloc (.cells (strCells (splitB s 10)).toArray 9) := by
  obtain ⟨m, hm⟩ := hG
  have h := Any.strings_Split { Tryd.lays146 with } Tryd.lays146.i9 s ⟨#[10]⟩ m w hs hm (Nat.le_refl 1)
  rw [lib_split s 10, lib_count s 10] at h
  exact h
set_option maxRecDepth 10000 in
set_option maxHeartbeats 4000000 in
theorem readR_any (s : ByteArray) (w : World) (hG : MaxI w) :
    Calls Tryd.prog 14 #[.string s] w fun e w' => ∃ v, e = .returned v ∧ SliceS w' w.heap.size v (readR s).length (atL (readR s)) ∧ Below w.heap.size w w' := by
  obtain ⟨i0, hi, hz0, hz1, hz2⟩ := info_parts infoStr
  by_cases h8 : 8000 < s.size
  · have HR : Hid (readR s = []) := readR_no h8
    go_enter Tryd.func14, Tryd.ntmps14
    go_wp2
    go_ret
    exact ⟨_, rfl, by rw [HR.out]; exact ⟨_, _, rfl, fun h => absurd h (by simp)⟩, Below.refl _ _⟩
  have q8 : decide ((8000 : Int) < (s.size : Int)) = false := by rw [decide_eq_false_iff_not]; omega
  have HE : Hid (readR s = (putsTo (splitB s 10) (splitB s 10).length).take 20) := readR_yes h8
  have HC : Hid (∀ W, MaxI W → Calls Tryd.prog 30 #[.string s, .string ⟨#[10]⟩] W fun e w' => e = .returned (.slice (some ⟨W.heap.size, 0, none⟩) (splitB s 10).length (splitB s 10).length) ∧ w' = W.alloc (.cells (strCells (splitB s 10)).toArray 9)) := fun W h => split_lines s W h (by omega)
  have HZ : Hid (∀ i, i < (splitB s 10).length → (atL (splitB s 10) i).size ≤ 8000) := fun i hi => by
    have e : atL (splitB s 10) i = (splitB s 10)[i] := by simp [atL, hi]
    rw [e]
    have := splitB_small s 10 _ (List.getElem_mem hi)
    omega
  have HG : Hid (MaxI w) := hG
  have hlen := splitB_len s 10
  have hL8 : (splitB s 10).length ≤ 8001 := by omega
  clear hlen hG
  have HPO : Hid (onceL (sortL (keptTo (splitB s 10) (splitB s 10).length)) = putsTo (splitB s 10) (splitB s 10).length) := puts_once _ _
  have HCE : Hid (∀ (W : World) j, j < (splitB s 10).length → (W.alloc (.cells (strCells (splitB s 10)).toArray 9)).cell? ⟨W.heap.size, j, none⟩ = some (.string (atL (splitB s 10) j))) := fun W j hj => by
    have e : atL (splitB s 10) j = (splitB s 10)[j] := by simp [atL, hj]
    rw [e]; simp [strCells, hj]
  generalize readR s = RR at *
  generalize splitB s 10 = L at *
  go_enter Tryd.func14, Tryd.ntmps14
  go_wp2_with fail
  refine (HC.out _ HG.out).mono ?_
  rintro e w1 ⟨rfl, rfl⟩
  have HB1 : Hid (Below w.heap.size w (w.alloc (.cells (strCells L).toArray 9))) := (Below.refl _ _).alloc (Nat.le_refl _) _
  have HC1 : Hid (∀ j, j < L.length → (w.alloc (.cells (strCells L).toArray 9)).cell? ⟨w.heap.size, j, none⟩ = some (.string (atL L j))) := HCE.out w
  have hz1' : w.heap.size < (w.alloc (.cells (strCells L).toArray 9)).heap.size := by simp
  generalize w.alloc (.cells (strCells L).toArray 9) = w1 at *
  clear HC HCE
  go_wp2
  go_loopw [3, 12] (fun v i wr => ∃ k : Nat, k ≤ L.length ∧ i = .int .i64 k ∧ Hid (wr.ownsRow w1.heap.size 9 1 v (keptTo L k).length (strCells (keptTo L k))) ∧ Hid (Below w1.heap.size w1 wr)) (fun _ i _ => L.length - (intOf i).toNat)
  case atStart => exact ⟨0, Nat.zero_le _, rfl, World.ownsRow_nil _ _ _ _, Below.refl _ _⟩
  case round =>
    obtain ⟨k, hk, rfl, HO, HB⟩ := hrel
    have hpl := keptTo_len L k
    have hbs := HB.out.size
    by_cases hlt : k < L.length
    · have hck : wr.cell? ⟨w.heap.size, k, none⟩ = some (.string (atL L k)) := by rw [(bcell HB.out).1 _ _ hz1']; exact HC1.out k hlt
      have k0 : (0 : Int) ≤ k := by omega
      have k1 : (k : Int) < L.length := by omega
      have KR0 := ruleRight_any (atL L k) wr (HG.out.on (HB1.out.trans (HB.out.mono HB1.out.size))) (by have := HZ.out k hlt; omega)
      cases hr : ruleB (atL L k) with
      | false =>
        have HP : Hid (keptTo L (k + 1) = keptTo L k) := by show _ = _; rw [keptTo, if_neg (by rw [hr]; decide)]
        rw [hr] at KR0
        have KR : Hid (Calls Tryd.prog 27 #[.string (atL L k)] wr fun e w' => e = .returned (.bool false) ∧ Below wr.heap.size wr w') := KR0
        clear KR0 hr
        generalize atL L k = t at *
        go_wp2_with (go_at_call 27; refine KR.out.mono ?_; rintro e w2 ⟨rfl, hb2⟩)
        go_roundw
        case rel => exact ⟨k + 1, by omega, by go_num, by rw [HP.out]; exact own_below HO.out hb2, HB.out.trans (hb2.mono HB.out.size)⟩
        case measure => simp [intOf]; omega
      | true =>
        have HP : Hid (keptTo L (k + 1) = keptTo L k ++ [atL L k]) := by show _ = _; rw [keptTo, if_pos hr]
        rw [hr] at KR0
        have KR : Hid (Calls Tryd.prog 27 #[.string (atL L k)] wr fun e w' => e = .returned (.bool true) ∧ Below wr.heap.size wr w') := KR0
        have KT : Hid (∀ W, Calls Tryd.prog 31 #[.string (atL L k), .string ⟨#[]⟩] W fun e w' => e = .returned (.string (atL L k)) ∧ Below W.heap.size W w') := fun W => together_empty (atL L k) W (by have := HZ.out k hlt; omega)
        clear KR0 hr
        generalize hx : atL L k = t at *
        have HX : Hid (atL L k = t) := hx
        clear hx
        go_wp2_with (go_at_call 27; refine KR.out.mono ?_; rintro e w2 ⟨rfl, hb2⟩)
        refine (KT.out _).mono ?_
        rintro e w3 ⟨rfl, hb3⟩
        have O3 : Hid (w3.ownsRow w1.heap.size 9 1 u3 (keptTo L k).length (strCells (keptTo L k))) := own_below (own_below HO.out hb2) hb3
        have B3 : Hid (Below w1.heap.size w1 w3) := (HB.out.trans (hb2.mono HB.out.size)).trans (hb3.mono (Nat.le_trans HB.out.size hb2.size))
        have hz3 := B3.out.size
        clear hb2 hb3
        go_wp2_with (at_builtin; go_must (refine wpList_append_own _ rfl _ _ 22 rfl w1.heap.size 9 i0 (.string ⟨#[]⟩) 1 16 Tryd.underlying22 hi hz0 hz1 hz2 rfl (by decide) _ _ _ rfl (O3.out.alloc _) ⟨w3.heap.size, 0, none⟩ 1 1 [.string t] rfl rfl (cell_one_new _ _ _) (by intro u hu; simp at hu; subst hu; rfl) (by unfold maxLen; omega) (by omega) (by simp; omega) ?_))
        intro v4 w4 ho4 hg4 _
        rw [strCells_snoc] at ho4
        have G1 : Hid (w4.ownsRow w1.heap.size 9 1 v4 (keptTo L k ++ [t]).length (strCells (keptTo L k ++ [t]))) := by show World.ownsRow _ _ _ _ _ _ _; simpa using ho4
        have G2 : Hid (Below w1.heap.size w1 w4) := (B3.out.alloc hz3 _).grown hg4 (by simp; omega) (fun j hj => (O3.out.lt j hj).1)
        clear ho4 hg4
        go_wp2
        go_roundw
        case rel => exact ⟨k + 1, by omega, by go_num, by rw [HP.out]; exact G1, G2⟩
        case measure => simp [intOf]; omega
    · obtain rfl : k = L.length := by omega
      have B0 : Hid (Below w.heap.size w wr) := HB1.out.trans (HB.out.mono HB1.out.size)
      generalize keptTo L L.length = K at *
      have HE2 : Hid (RR = (onceL (sortL K)).take 20) := by show _ = _; rw [HPO.out]; exact HE.out
      have hol := onceL_len (sortL K)
      rw [sortL_len] at hol
      obtain ⟨hl0, ⟨rfl, h0⟩ | ⟨g, cap, cur, rfl, hbg, hh, hcap, hcm, hcs, htk⟩⟩ := HO.out
      · have hK : K = [] := List.length_eq_zero_iff.1 h0
        have HRR : Hid (RR = []) := by
          show _ = _
          rw [HE2.out]
          have : (onceL (sortL K)).length = 0 := by omega
          rw [List.length_eq_zero_iff.1 this]; rfl
        have KS : Hid (∀ W, Calls Tryd.prog 32 #[.slice none 0 0] W fun e w' => e = .returned (.tuple #[]) ∧ w' = W) := fun W => Any.slices_Sort_string_none Tryd.lays190 none 0 W
        have KC : Hid (∀ W, Calls Tryd.prog 33 #[.slice none 0 0] W fun e w' => e = .returned (.slice none 0 0) ∧ w' = W) := fun W => Any.slices_Compact_string_empty Tryd.lays194 none 0 W
        clear hl0 h0 hK hol HE2 HE HPO
        go_wp2_with (first | (go_at_call 32; refine (KS.out _).mono ?_; rintro e w2 ⟨rfl, rfl⟩) | (go_at_call 33; refine (KC.out _).mono ?_; rintro e w3 ⟨rfl, rfl⟩))
        go_ret
        exact ⟨_, rfl, by rw [HRR.out]; exact ⟨_, _, rfl, fun h => absurd h (by simp)⟩, B0.out⟩
      · have KS : Hid (Calls Tryd.prog 32 #[.slice (some ⟨g, 0, none⟩) K.length cap] wr fun e w' => e = .returned (.tuple #[]) ∧ w'.ownsRow w1.heap.size 9 1 (.slice (some ⟨g, 0, none⟩) K.length cap) K.length (strCells (sortL K)) ∧ wr.grownBy w' (some g)) := sort_call _ g cap K wr HO.out (by omega)
        have KC : Hid (∀ W, W.ownsRow w1.heap.size 9 1 (.slice (some ⟨g, 0, none⟩) K.length cap) K.length (strCells (sortL K)) → Calls Tryd.prog 33 #[.slice (some ⟨g, 0, none⟩) K.length cap] W fun e w' => e = .returned (.slice (some ⟨g, 0, none⟩) (onceL (sortL K)).length cap) ∧ w'.ownsRow w1.heap.size 9 1 (.slice (some ⟨g, 0, none⟩) (onceL (sortL K)).length cap) (onceL (sortL K)).length (strCells (onceL (sortL K))) ∧ (∀ B0 w0, Below B0 w0 W → B0 ≤ g → Below B0 w0 w')) := fun W ho => by
          have h := once_call w1.heap.size g cap (sortL K) W (by rw [sortL_len]; exact ho) (by rw [sortL_len]; omega)
          rw [sortL_len] at h; exact h
        have hwg : w.heap.size ≤ g := by omega
        clear hl0 hh hcs htk HE HPO hcm
        generalize sortL K = K2 at *
        generalize onceL K2 = K3 at *
        go_wp2_with fail
        refine KS.out.mono ?_
        rintro e w2 ⟨rfl, ho2, hg2⟩
        have B2 : Hid (Below w.heap.size w w2) := B0.out.grown hg2 B0.out.size (fun j hj => by obtain rfl := Option.some.inj hj; exact hwg)
        clear hg2
        go_wp2_with fail
        refine (KC.out _ ho2).mono ?_
        rintro e w3 ⟨rfl, ho3, hb3⟩
        have B3 : Hid (Below w.heap.size w w3) := hb3 _ _ B2.out hwg
        have S3 : Hid (SliceS w3 w.heap.size (.slice (some ⟨g, 0, none⟩) K3.length cap) K3.length (atL K3)) := slice_base (slice_of_own ho3) (by omega)
        clear hb3 ho2 ho3
        have G : Hid (SliceS w3 w.heap.size (.slice (some ⟨g, 0, none⟩) (min (K3.length : Int) 20).toNat cap) RR.length (atL RR)) := by
          show SliceS _ _ _ _ _
          have e1 : RR = K3.take 20 := HE2.out
          have e2 : RR.length = min 20 K3.length := by rw [e1, List.length_take]
          have e3 : (min (K3.length : Int) 20).toNat = RR.length := by omega
          rw [e3]
          refine ⟨_, _, rfl, fun hn => ?_⟩
          obtain ⟨p', c', e', hg'⟩ := S3.out
          obtain ⟨g', rfl, hB', hlt', hc⟩ := hg' (by omega)
          obtain rfl : g = g' := by injection e' with a; injection a with a; injection a
          refine ⟨g, rfl, hB', hlt', fun j hj => ?_⟩
          have e4 : atL RR j = atL K3 j := by rw [e1]; simp [atL, show j < 20 by omega]
          rw [e4]; exact hc j (by omega)
        go_wp2
        go_ret
        exact ⟨_, rfl, G.out, B3.out⟩
end Go.Proofs.YtmlacbjlafdenahDoor

/- The walk of the specification's RulesRead. -/
namespace Go.Proofs.YtmlacbjlafdenahDoor
open Go.RowKit

set_option maxRecDepth 10000 in
set_option maxHeartbeats 4000000 in
theorem specReadR_any (s : ByteArray) (w : World) :
    Calls Tryd.prog 13 #[.string s] w fun e w' => ∃ v, e = .returned v ∧ SliceS w' w.heap.size v (readR s).length (atL (readR s)) ∧ Below w.heap.size w w' := by
  obtain ⟨i0, hi, hz0, hz1, hz2⟩ := info_parts infoStr
  by_cases h8 : 8000 < s.size
  · have HR : Hid (readR s = []) := readR_no h8
    go_enter Tryd.func13, Tryd.ntmps13
    go_wp2
    go_ret
    exact ⟨_, rfl, by rw [HR.out]; exact ⟨_, _, rfl, fun h => absurd h (by simp)⟩, (Below.refl _ _).alloc (Nat.le_refl _) _⟩
  have q8 : decide ((8000 : Int) < (s.size : Int)) = false := by rw [decide_eq_false_iff_not]; omega
  have HE : Hid (readR s = (putsTo (splitB s 10) (splitB s 10).length).take 20) := readR_yes h8
  have HC : Hid (∀ W, Calls Tryd.prog 28 #[.string s, .int .u8 10] W fun e w' => ∃ v, e = .returned v ∧ w'.ownsRow W.heap.size 9 1 v (splitB s 10).length (strCells (splitB s 10)) ∧ Below W.heap.size W w') := fun W => split_any s 10 W (by omega)
  have HZ : Hid (∀ i, i < (splitB s 10).length → (atL (splitB s 10) i).size ≤ 1048576) := fun i hi => by
    have e : atL (splitB s 10) i = (splitB s 10)[i] := by simp [atL, hi]
    rw [e]
    have := splitB_small s 10 _ (List.getElem_mem hi)
    omega
  have hlen := splitB_len s 10
  generalize readR s = RR at *
  generalize splitB s 10 = L at *
  go_enter Tryd.func13, Tryd.ntmps13
  go_wp2_with fail
  refine (HC.out _).mono ?_
  rintro e w1 ⟨vL, rfl, ho, hb1⟩
  have B1 : Hid (Below w.heap.size w w1) := ((Below.refl _ _).alloc (Nat.le_refl _) _).trans (hb1.mono (by simp))
  have O1 : Hid (w1.ownsRow w.heap.size 9 1 (.slice (some ⟨w.heap.size, 0, none⟩) 0 0) 0 (strCells [])) := by
    have h := World.ownsRow_made (e := 9) (size := 1) w #[] 0 (Nat.le_refl _) (Nat.zero_le _) rfl
    exact own_below h hb1
  have S1 : Hid (SliceS w1 w.heap.size vL L.length (atL L)) := slice_base (slice_of_own ho) (by simp)
  clear ho hb1 HC
  obtain ⟨pL, cL, rfl, -⟩ := S1.out
  go_wp2
  go_loopw [3, 5] (fun v i wr => ∃ k : Nat, k ≤ L.length ∧ i = .int .i64 k ∧ Hid (wr.ownsRow w.heap.size 9 1 v (putsTo L k).length (strCells (putsTo L k))) ∧ Hid (¬ v = .slice none 0 0) ∧ Hid (SliceS wr w.heap.size (.slice pL L.length cL) L.length (atL L)) ∧ Hid (Below w.heap.size w wr)) (fun _ i _ => L.length - (intOf i).toNat)
  case atStart => exact ⟨0, Nat.zero_le _, rfl, O1, (by simp : ¬ _), S1, B1⟩
  case round =>
    obtain ⟨k, hk, rfl, HO, HN, HS, HB⟩ := hrel
    have hpl := putsTo_len L k
    by_cases hlt : k < L.length
    · obtain ⟨p', c', e', hg'⟩ := HS.out
      obtain ⟨g, rfl, -, hgw, hc⟩ := hg' (by omega)
      obtain ⟨rfl, rfl⟩ : pL = some ⟨g, 0, none⟩ ∧ cL = c' := by injection e' with a b c; exact ⟨a, c⟩
      have hck := (hc k hlt).1
      have HCK : Hid (∀ W, Below wr.heap.size wr W → W.cell? ⟨g, k, none⟩ = some (.string (atL L k))) := fun W hb => by rw [(bcell hb).1 _ _ hgw]; exact (hc k hlt).1
      have k0 : (0 : Int) ≤ k := by omega
      have k1 : (k : Int) < L.length := by omega
      have KR0 := specRule_any (atL L k) wr (HZ.out k hlt)
      clear e' hg' hc
      cases hr : ruleB (atL L k) with
      | false =>
        have HP : Hid (putsTo L (k + 1) = putsTo L k) := by show _ = _; rw [putsTo, if_neg (by rw [hr]; decide)]
        rw [hr] at KR0
        have KR : Hid (Calls Tryd.prog 26 #[.string (atL L k)] wr fun e w' => e = .returned (.bool false) ∧ Below wr.heap.size wr w') := KR0
        clear KR0 hr
        generalize atL L k = t at *
        go_wp2_with (go_at_call 26; refine KR.out.mono ?_; rintro e w2 ⟨rfl, hb2⟩)
        go_roundw
        case rel => exact ⟨k + 1, by omega, by go_num, by rw [HP.out]; exact own_below HO.out hb2, HN, HS.out.below hb2, HB.out.trans (hb2.mono HB.out.size)⟩
        case measure => simp [intOf]; omega
      | true =>
        have HP : Hid (putsTo L (k + 1) = putL (putsTo L k) (atL L k)) := by show _ = _; rw [putsTo, if_pos hr]
        rw [hr] at KR0
        have KR : Hid (Calls Tryd.prog 26 #[.string (atL L k)] wr fun e w' => e = .returned (.bool true) ∧ Below wr.heap.size wr w') := KR0
        have KP : Hid (∀ W, Below wr.heap.size wr W → Calls Tryd.prog 29 #[u3, .string (atL L k)] W fun e w' => ∃ v', e = .returned v' ∧ w'.ownsRow w.heap.size 9 1 v' (putL (putsTo L k) (atL L k)).length (strCells (putL (putsTo L k) (atL L k))) ∧ (¬ v' = .slice none 0 0) ∧ Below W.heap.size W w') :=
          fun W hb => specPut_any u3 w.heap.size (putsTo L k) (atL L k) W (Nat.le_trans HB.out.size hb.size) (own_below HO.out hb) HN.out (by omega)
        clear KR0 hr
        generalize hx : atL L k = t at *
        have HX : Hid (atL L k = t) := hx
        clear hx
        go_wp2_with (first | (go_at_call 26; refine KR.out.mono ?_; rintro e w2 ⟨rfl, hb2⟩; have hck2 := HCK.out w2 hb2) | (go_at_call 29; refine (KP.out _ hb2).mono ?_; rintro e w3 ⟨v3, rfl, ho3, hn3, hb3⟩))
        go_roundw
        case rel =>
          refine ⟨k + 1, by omega, by go_num, by rw [HP.out]; exact ho3, hn3, (HS.out.below hb2).below hb3, ?_⟩
          exact (HB.out.trans (hb2.mono HB.out.size)).trans (hb3.mono (Nat.le_trans HB.out.size hb2.size))
        case measure => simp [intOf]; omega
    · obtain rfl : k = L.length := by omega
      generalize putsTo L L.length = P at *
      have hPs := slice_of_own HO.out
      obtain ⟨hl0, ⟨rfl, h0⟩ | ⟨g, cap, cur, rfl, hbg, hh, hcap, -, -, -⟩⟩ := HO.out
      · exact absurd rfl HN.out
      have hgw : g < wr.heap.size := (Array.getElem?_eq_some_iff.mp hh).1
      obtain ⟨p', c', e', hg'⟩ := hPs
      have HG : Hid (∀ j, j < P.length → wr.cell? ⟨g, j, none⟩ = some (.string (atL P j)) ∧ wr.frozen? ⟨g, j, none⟩ = false) := fun j hj => by
        obtain ⟨g', rfl, -, -, hc⟩ := hg' (by omega)
        obtain rfl : g = g' := by injection e' with a; injection a with a; injection a
        exact hc j hj
      clear hl0 hh e' hg'
      by_cases h20 : 20 < P.length
      · have hb0 : Below wr.heap.size wr (wr.alloc (.cells #[] 9)) := (Below.refl _ _).alloc (Nat.le_refl _) _
        have c20 : (20 : Int) ≤ cap := by omega
        have q20 : decide ((20 : Int) < (P.length : Int)) = true := by rw [decide_eq_true_iff]; omega
        have hlP : P.length ≤ 8001 := by omega
        go_wp2_with (at_builtin; go_must (refine wpList_append_own _ rfl _ _ 22 rfl wr.heap.size 9 i0 (.string ⟨#[]⟩) 1 16 Tryd.underlying22 hi hz0 hz1 hz2 rfl (by decide) _ _ _ rfl (World.ownsRow_made wr #[] 0 (Nat.le_refl _) (Nat.zero_le _) rfl) ⟨g, 0, none⟩ 20 _ (strCells (P.take 20)) rfl (by simp [strCells]; omega) (news_to hb0 hgw HG.out) strCells_one (by unfold maxLen; omega) (by omega) (by simp) ?_))
        intro v1 w1 ho1 hg1 hn1
        have hb1 : Below wr.heap.size wr w1 := hb0.grown hg1 (by simp) (fun j hj => by simp [Value.ownBlock] at hj; omega)
        have G1 : Hid (SliceS w1 w.heap.size v1 RR.length (atL RR)) := by
          show SliceS _ _ _ _ _
          have e1 : RR = P.take 20 := HE.out
          have e2 : RR.length = 20 := by rw [e1]; simp; omega
          have h : w1.ownsRow wr.heap.size 9 1 v1 20 (strCells (P.take 20)) := by simpa using ho1
          rw [← e1] at h
          rw [← e2] at h
          exact slice_base (slice_of_own h) HB.out.size
        have G2 : Hid (Below w.heap.size w w1) := HB.out.trans (hb1.mono HB.out.size)
        clear ho1 hg1 hn1 hb1
        go_wp2
        go_ret
        exact ⟨_, rfl, G1.out, G2.out⟩
      · have q20 : decide ((20 : Int) < (P.length : Int)) = false := by rw [decide_eq_false_iff_not]; omega
        have G1 : Hid (SliceS wr w.heap.size (.slice (some ⟨g, 0, none⟩) P.length cap) RR.length (atL RR)) := by
          show SliceS _ _ _ _ _
          have e1 : RR = P := by rw [HE.out, List.take_of_length_le (by omega)]
          rw [e1]
          exact ⟨_, _, rfl, fun _ => ⟨g, rfl, hbg, hgw, HG.out⟩⟩
        go_wp2
        go_ret
        exact ⟨_, rfl, G1.out, HB.out⟩
end Go.Proofs.YtmlacbjlafdenahDoor

/- The walk of the specification's LabelsOf. -/
namespace Go.Proofs.YtmlacbjlafdenahDoor
open Go.RowKit

end Go.Proofs.YtmlacbjlafdenahDoor

/- The law FnExactLabelsOf, walked, over what the program's LabelsOf answers. -/
namespace Go.Proofs.YtmlacbjlafdenahDoor
open Go.RowKit

/-- a right host's labels, else none -/
def labelsL (s : ByteArray) : List ByteArray := if hostB s = true then splitB s 46 else []
theorem labelsL_len (s : ByteArray) : (labelsL s).length ≤ 101 := by
  unfold labelsL
  split
  · rename_i h
    have hsz : s.size ≤ 100 := by
      by_cases hz : 100 < s.size
      · rw [hostB_size hz] at h; cases h
      · omega
    have := splitB_len s 46
    omega
  · simp

theorem SliceS.far {w w' : World} {B n : Nat} {v : Value} {f : Nat → ByteArray} {K : Nat} (h : SliceS w B v n f) (hK : w.heap.size ≤ K) {u : World} (hs : SliceS u B v n f) (hb : Below K u w') : SliceS w' B v n f := by
  cases n with
  | zero =>
    obtain ⟨p, cap, rfl, h⟩ := hs
    exact ⟨p, cap, rfl, fun h => absurd h (by omega)⟩
  | succ n => exact hs.kept hb (fun g cap m e => Nat.lt_of_lt_of_le (h.lt g cap m e) hK)

end Go.Proofs.YtmlacbjlafdenahDoor

/- The law FnExactRulesRead, walked, over what the program's RulesRead answers. -/
namespace Go.Proofs.YtmlacbjlafdenahDoor
open Go.RowKit

set_option maxRecDepth 10000 in
set_option maxHeartbeats 1000000 in
theorem lawReadR_of (w : World) (hI : ∀ (s : ByteArray) (W : World), Below w.heap.size w W → Calls Tryd.prog 14 #[.string s] W fun e w' => ∃ v, e = .returned v ∧ SliceS w' W.heap.size v (readR s).length (atL (readR s)) ∧ Below W.heap.size W w')
    (s : ByteArray) :
    Calls Tryd.prog 4 #[.string s] w fun e w' => e = .returned (.bool true) ∧ Below w.heap.size w w' := by
  by_cases h1 : 1048576 < s.size
  · go_enter Tryd.func4, Tryd.ntmps4
    go_wp2
    go_ret
    exact ⟨rfl, Below.refl _ _⟩
  · have H1 : Hid (∀ W, Calls Tryd.prog 13 #[.string s] W fun e w' => ∃ v, e = .returned v ∧ SliceS w' W.heap.size v (readR s).length (atL (readR s)) ∧ Below W.heap.size W w') := fun W => specReadR_any s W
    have H2 : Hid (∀ W, Below w.heap.size w W → Calls Tryd.prog 14 #[.string s] W fun e w' => ∃ v, e = .returned v ∧ SliceS w' W.heap.size v (readR s).length (atL (readR s)) ∧ Below W.heap.size W w') := fun W hb => hI s W hb
    have hn := readR_len s
    clear hI
    generalize (readR s).length = n at *
    generalize atL (readR s) = f at *
    go_enter Tryd.func4, Tryd.ntmps4
    go_wp2_with fail
    refine (H1.out _).mono ?_
    rintro e w1 ⟨v1, rfl, hs1, hb1⟩
    go_wp2_with fail
    refine (H2.out _ hb1).mono ?_
    rintro e w2 ⟨v2, rfl, hs2, hb2⟩
    have HS2 : Hid (SliceS w2 w1.heap.size v2 n f) := hs2
    have hs12 := hs1.below hb2
    have z1 := hb1.size
    have z2 := hb2.size
    go_wp2_with fail
    refine (eqStringS_any v2 v1 n _ _ f _ hs2 hs12 (by omega)).mono ?_
    rintro e w3 ⟨rfl, hb3⟩
    have hs23 := hs2.below hb3
    have hs13 := hs12.below hb3
    have z3 := hb3.size
    go_wp2_with fail
    refine (markStringS_any v2 n _ 1 f _ hs23 (by omega) (by omega) (by omega)).mono ?_
    rintro e w4 ⟨rfl, hs24, hbm⟩
    have hb4 := hbm w1.heap.size (Nat.le_refl _) (by omega)
    have hs14 : SliceS w4 w.heap.size v1 n f := hs1.far (Nat.le_refl _) hs13 hb4
    have z4 := hb4.size
    go_wp2_with fail
    refine (heldStringS_any v2 n _ 1 _ hs24 (by omega) (by omega) (by omega)).mono ?_
    rintro e w5 ⟨rfl, hb5⟩
    have hs25 := hs24.below hb5
    have hs15 := hs14.below hb5
    have z5 := hb5.size
    have HB5 : Hid (Below w.heap.size w w5) := hb1.trans ((hb2.mono z1).trans ((hb3.mono (by omega)).trans ((hb4.mono z1).trans (hb5.mono (by omega)))))
    clear hb1 hb2 hb3 hb4 hb5 hbm hs1 hs2 hs12 hs23 hs13 hs14 hs24
    go_wp2_with fail
    refine (H2.out _ HB5.out).mono ?_
    rintro e w6 ⟨v3, rfl, hs6, hb6⟩
    have hs16 := hs15.below hb6
    have hs26 := hs25.below hb6
    have z6 := hb6.size
    go_wp2_with fail
    refine (eqStringS_any v3 v1 n _ _ f _ hs6 hs16 (by omega)).mono ?_
    rintro e w7 ⟨rfl, hb7⟩
    have hs27 := hs26.below hb7
    have z7 := hb7.size
    go_wp2_with fail
    refine (heldStringS_any v2 n _ 1 _ hs27 (by omega) (by omega) (by omega)).mono ?_
    rintro e w8 ⟨rfl, hb8⟩
    go_wp2
    go_ret
    exact ⟨rfl, HB5.out.trans ((hb6.mono (by omega)).trans ((hb7.mono (by omega)).trans (hb8.mono (by omega))))⟩
end Go.Proofs.YtmlacbjlafdenahDoor

/- The law FnExactRulesRead, walked. -/
namespace Go.Proofs.YtmlacbjlafdenahDoor
open Go.RowKit
theorem lawRulesRead_any (s : ByteArray) (w : World) (hG : MaxI w) :
    Calls Tryd.prog 4 #[.string s] w fun e w' => e = .returned (.bool true) ∧ Below w.heap.size w w' :=
  lawReadR_of w (fun s W hb => readR_any s W (hG.on hb)) s
end Go.Proofs.YtmlacbjlafdenahDoor

/- The lifting of a law's walk to a row that lists package-level variables, the world's shape kept; what the shape and the list give a walk. -/
namespace Go.Proofs.YtmlacbjlafdenahDoor
open Go.RowKit

theorem Ld.own : ownKnob Tryd.prog.godebug = none := by kernel_rfl
theorem Ld.laidOut : laidOutB Tryd.prog = true := by kernel_rfl
set_option maxRecDepth 10000 in
theorem lift_laid {H : Type} {enc : TypeId × Value → H} {os : Os} {f : FuncId} {fn : Func} {s : ChangeSpec} {X : World → Prop} (hX : ∀ (w w' : World), w.heap = w'.heap → X w → X w')
    (started : os.Started) (noInit : Tryd.prog.inits.idxOf? f = none) (hfn : Tryd.prog.funcs[f]? = some fn)
    (start : ∃ (w : World) (tape : Tape) (i : Input), w.os = os ∧ (w.forCall tape i).Shaped Tryd.prog ∧ i.vars = [] ∧ Input.okWide Tryd.prog (w.forCall tape i) .any w.heap.size f i ∧
      ((s.pre enc Tryd.prog fn [] false (w.forCall tape i).memory i.args ∧ X (w.forCall tape i).memory) ∧ sizedMet enc Tryd.prog fn (OpenSpec.ofChange s) false (w.forCall tape i).memory i.args) ∧ Assume.holds {} Tryd.prog (lone (Frame.enter Tryd.prog f i.args .normal) [] (w.forCall tape i)))
    (walk : ∀ (W : World) (base : Nat) (args : Array Value) (ds gs : List (DataW H)) (before : List MemPlace),
      (∀ (j : Nat) t v, fn.params[j]? = some t → args[j]? = some v → Value.okWide Tryd.prog W .any base t v) →
      DataW.Whole enc Tryd.prog fn.params.toList s.vars false W args.toList ds gs before → X W → W.ShapedOpen Tryd.prog →
      Calls Tryd.prog f args W fun e W' => ∃ v, e = .returned v ∧ s.post enc Tryd.prog fn false true false false W args v W') :
    ReturnsInHanded {} Tryd.checked os f .any (fun w args => (s.pre enc Tryd.prog fn [] false w args ∧ X w) ∧ sizedMet enc Tryd.prog fn (OpenSpec.ofChange s) false w args) (s.post enc Tryd.prog fn false true false false) := by
  refine returnsInHanded_of_calls (C := Tryd.checked) Ld.own started noInit start ?_
  intro w tape i _ hsh _ hok hpre _
  obtain ⟨_, _, _, fn2, hfn2, _, _, _, _, hval⟩ := hok
  obtain rfl : fn2 = fn := Option.some.inj (hfn2.symm.trans hfn)
  obtain ⟨⟨⟨ds, gs, before, hw, _⟩, hx⟩, _⟩ := hpre
  have hw2 := DataW.Whole.of_heap (w' := w.forCall tape i) (by rfl) hw
  refine (walk (w.forCall tape i) w.heap.size i.args ds gs before hval hw2 (hX _ _ (by rfl) hx) hsh).mono fun e W' ⟨v, he, hp⟩ => ?_
  subst he
  exact ChangeSpec.post_blind hp
set_option maxRecDepth 10000 in
theorem maxI_of_shape {W : World} (h : W.ShapedOpen Tryd.prog) : MaxI W := Tryd.lays146.s1_3 W h
end Go.Proofs.YtmlacbjlafdenahDoor
