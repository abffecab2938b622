/- The walks of Unseal. -/
import Derived.Test.YtcnimhkabeapkafSealWalk
import Derived.Deep.RegionWith
import Derived.Laws.ResultCell
namespace Go.Proofs.Ytcnimhkabeapkaf
open Go.RowKit

/-- what a TextOut holds -/
def textOut (t : ByteArray) (at_ code : Int) : Value := .agg #[.string t, .int .i64 at_, .int .i64 code]

set_option maxHeartbeats 400000 in
theorem implUnseal_size (s : ByteArray) (w : World) (hs : 8000 < s.size) :
    Calls Try.prog 10 #[.string s] w fun e w' => e = .returned (textOut ⟨#[]⟩ 0 2) ∧ Below w.heap.size w w' := by
  go_enter Try.func10, Try.ntmps10
  go_wp2
  exact bodyPost_ret (v := textOut ⟨#[]⟩ 0 2) (by simp [textOut, results, Try.results10, go_sem]) rfl ⟨rfl, (Below.refl _ _).alloc (Nat.le_refl _) _⟩

set_option maxHeartbeats 400000 in
theorem implUnseal_short (s : ByteArray) (w : World) (hs : s.size < 4) :
    Calls Try.prog 10 #[.string s] w fun e w' => e = .returned (textOut ⟨#[]⟩ 0 4) ∧ Below w.heap.size w w' := by
  go_enter Try.func10, Try.ntmps10
  go_wp2
  exact bodyPost_ret (v := textOut ⟨#[]⟩ 0 4) (by simp [textOut, results, Try.results10, go_sem]) rfl ⟨rfl, (Below.refl _ _).alloc (Nat.le_refl _) _⟩

theorem seal_parts (s t f u : ByteArray) (ht : s.extract 0 (s.size - 4) = t) (hu : s.extract (s.size - 4) s.size = u) :
    ((t ++ f).toList == s.toList) = (f.toList == u.toList) := by
  have h1 : s.data.toList = t.data.toList ++ u.data.toList := by
    rw [← ht, ← hu, Lib.extract_data, Lib.extract_data]
    rw [show s.size - (s.size - 4) = (s.data.toList.drop (s.size - 4)).length by rw [List.length_drop, ← Lib.size_eq], List.take_length]
    simp
  rw [Lib.toList_data, Lib.toList_data, Lib.toList_data, Lib.toList_data, h1, ByteArray.data_append]
  rw [Bool.eq_iff_iff, beq_iff_eq, beq_iff_eq]
  simp
set_option maxHeartbeats 400000 in
theorem implUnseal_no (s t : ByteArray) (w : World) (hs : s.size ≤ 8000) (hs4 : 4 ≤ s.size) (HT : Hid (s.extract 0 (s.size - 4) = t)) (hq : ((sealB t).toList == s.toList) = false) :
    Calls Try.prog 10 #[.string s] w fun e w' => e = .returned (textOut ⟨#[]⟩ 0 5) ∧ Below w.heap.size w w' := by
  have hsz : (s.extract 0 (s.size - 4)).size ≤ 7996 := by simp; omega
  go_enter Try.func10, Try.ntmps10
  go_wp2_with fail
  rw [HT.out] at *
  refine (implSeal_yes _ _ hsz).mono ?_
  rintro e w1 ⟨rfl, hb1⟩
  obtain ⟨hc, hf⟩ := bcell hb1
  go_wp2
  refine bodyPost_ret (v := textOut ⟨#[]⟩ 0 5) (by simp [textOut, results, Try.results10, go_sem, hc]) rfl ⟨rfl, ?_⟩
  exact Below.setCell (Below.setCell (Below.setCell (((Below.refl _ _).alloc (Nat.le_refl _) _).trans (hb1.mono (by simp))) (Nat.le_refl _) _) (Nat.le_refl _) _) (Nat.le_refl _) _

set_option maxHeartbeats 400000 in
theorem implUnseal_yes (s t : ByteArray) (w : World) (hs : s.size ≤ 8000) (hs4 : 4 ≤ s.size) (HT : Hid (s.extract 0 (s.size - 4) = t)) (hq : ((sealB t).toList == s.toList) = true) :
    Calls Try.prog 10 #[.string s] w fun e w' => e = .returned (textOut t 0 0) ∧ Below w.heap.size w w' := by
  have hsz : (s.extract 0 (s.size - 4)).size ≤ 7996 := by simp; omega
  go_enter Try.func10, Try.ntmps10
  go_wp2_with fail
  rw [HT.out] at *
  refine (implSeal_yes _ _ hsz).mono ?_
  rintro e w1 ⟨rfl, hb1⟩
  obtain ⟨hc, hf⟩ := bcell hb1
  go_wp2_with fail
  refine (together_empty t _ (by omega)).mono ?_
  rintro e w2 ⟨rfl, hb2⟩
  obtain ⟨hc2, hf2⟩ := bcell hb2
  have hz1 : w.heap.size < w1.heap.size := by have := hb1.size; simp at this; omega
  go_wp2
  refine bodyPost_ret (v := textOut t 0 0) (by simp [textOut, results, Try.results10, go_sem, hc, hc2, hz1]) rfl ⟨rfl, ?_⟩
  exact Below.setCell (Below.setCell (Below.setCell ((((Below.refl _ _).alloc (Nat.le_refl _) _).trans (hb1.mono (by simp))).trans (hb2.mono (Nat.le_of_lt hz1))) (Nat.le_refl _) _) (Nat.le_refl _) _) (Nat.le_refl _) _

set_option maxHeartbeats 400000 in
theorem specUnseal_no (s t f u : ByteArray) (c : Nat) (w : World) (hs : s.size ≤ 8000) (hs4 : 4 ≤ s.size) (HT : Hid (s.extract 0 (s.size - 4) = t)) (HU : Hid (s.extract (s.size - 4) s.size = u))
    (H1 : Hid (∀ W, Calls Try.prog 19 #[.int .i64 (0 : Nat), .string t] W fun e w' => e = .returned (.int .i64 c) ∧ w' = W))
    (H2 : Hid (∀ W, Calls Try.prog 18 #[.int .i64 c] W fun e w' => e = .returned (.string f) ∧ Below W.heap.size W w')) (hq : (f.toList == u.toList) = false) :
    Calls Try.prog 9 #[.string s] w fun e w' => e = .returned (textOut ⟨#[]⟩ 0 5) ∧ Below w.heap.size w w' := by
  have i1 : (4 : Int) ≤ (s.size : Int) := by omega
  have hsl : ∀ w, Sem.run Try.prog (Instr.slice 9 (.string s) (some (.int .i64 ((s.size : Int) - 4))) none none) w = .ok (.string u) w := by
    intro w
    rw [run_slice_string_from_if (P := Try.prog) w 9 s .i64 _ Try.underlying9, if_pos (by omega), show ((s.size : Int) - 4).toNat = s.size - 4 by omega, HU.out]
  have hw4 : IntKind.i64.wrap ((s.size : Int) - 4) = (s.size : Int) - 4 := by rw [IntKind.wrap_i64]; omega
  go_enter Try.func9, Try.ntmps9
  go_wp2_with fail
  rw [HT.out]
  go_region_with (first | (go_at_call 19; refine (H1.out _).mono ?_; rintro e w1 ⟨rfl, rfl⟩) | (go_at_call 18; refine (H2.out _).mono ?_; rintro e w2 ⟨rfl, hb2⟩; obtain ⟨hc, hf⟩ := bcell hb2))
  all_goals go_wp2
  all_goals
    refine bodyPost_ret (v := textOut ⟨#[]⟩ 0 5) (by simp [textOut, results, Try.results9, go_sem, hc]) rfl ⟨rfl, ?_⟩
    exact Below.setCell (Below.setCell (Below.setCell (((Below.refl _ _).alloc (Nat.le_refl _) _).trans (((Below.refl _ _).drew).trans (hb2.mono (by simp)))) (Nat.le_refl _) _) (Nat.le_refl _) _) (Nat.le_refl _) _

set_option maxHeartbeats 400000 in
theorem specUnseal_yes (s t f u : ByteArray) (c : Nat) (w : World) (hs : s.size ≤ 8000) (hs4 : 4 ≤ s.size) (HT : Hid (s.extract 0 (s.size - 4) = t)) (HU : Hid (s.extract (s.size - 4) s.size = u))
    (H1 : Hid (∀ W, Calls Try.prog 19 #[.int .i64 (0 : Nat), .string t] W fun e w' => e = .returned (.int .i64 c) ∧ w' = W))
    (H2 : Hid (∀ W, Calls Try.prog 18 #[.int .i64 c] W fun e w' => e = .returned (.string f) ∧ Below W.heap.size W w')) (hq : (f.toList == u.toList) = true) :
    Calls Try.prog 9 #[.string s] w fun e w' => e = .returned (textOut t 0 0) ∧ Below w.heap.size w w' := by
  have i1 : (4 : Int) ≤ (s.size : Int) := by omega
  have hsl : ∀ w, Sem.run Try.prog (Instr.slice 9 (.string s) (some (.int .i64 ((s.size : Int) - 4))) none none) w = .ok (.string u) w := by
    intro w
    rw [run_slice_string_from_if (P := Try.prog) w 9 s .i64 _ Try.underlying9, if_pos (by omega), show ((s.size : Int) - 4).toNat = s.size - 4 by omega, HU.out]
  have hw4 : IntKind.i64.wrap ((s.size : Int) - 4) = (s.size : Int) - 4 := by rw [IntKind.wrap_i64]; omega
  go_enter Try.func9, Try.ntmps9
  go_wp2_with fail
  rw [HT.out]
  go_region_with (first | (go_at_call 19; refine (H1.out _).mono ?_; rintro e w1 ⟨rfl, rfl⟩) | (go_at_call 18; refine (H2.out _).mono ?_; rintro e w2 ⟨rfl, hb2⟩; obtain ⟨hc, hf⟩ := bcell hb2))
  all_goals go_wp2
  all_goals
    refine bodyPost_ret (v := textOut t 0 0) (by simp [textOut, results, Try.results9, go_sem, hc]) rfl ⟨rfl, ?_⟩
    exact Below.setCell (Below.setCell (Below.setCell (((Below.refl _ _).alloc (Nat.le_refl _) _).trans (((Below.refl _ _).drew).trans (hb2.mono (by simp)))) (Nat.le_refl _) _) (Nat.le_refl _) _) (Nat.le_refl _) _

set_option maxHeartbeats 400000 in
theorem specUnseal_size (s : ByteArray) (w : World) (hs : 8000 < s.size) :
    Calls Try.prog 9 #[.string s] w fun e w' => e = .returned (textOut ⟨#[]⟩ 0 2) ∧ Below w.heap.size w w' := by
  go_enter Try.func9, Try.ntmps9
  go_wp2
  exact bodyPost_ret (v := textOut ⟨#[]⟩ 0 2) (by simp [textOut, results, Try.results9, go_sem]) rfl ⟨rfl, (Below.refl _ _).alloc (Nat.le_refl _) _⟩

set_option maxHeartbeats 400000 in
theorem specUnseal_short (s : ByteArray) (w : World) (hs : s.size < 4) :
    Calls Try.prog 9 #[.string s] w fun e w' => e = .returned (textOut ⟨#[]⟩ 0 4) ∧ Below w.heap.size w w' := by
  go_enter Try.func9, Try.ntmps9
  go_wp2
  exact bodyPost_ret (v := textOut ⟨#[]⟩ 0 4) (by simp [textOut, results, Try.results9, go_sem]) rfl ⟨rfl, (Below.refl _ _).alloc (Nat.le_refl _) _⟩

/-- Both answer the same, at every text. -/
theorem unseal_same (s : ByteArray) : ∃ (t : ByteArray) (a c : Int),
    (∀ w, Calls Try.prog 9 #[.string s] w fun e w' => e = .returned (textOut t a c) ∧ Below w.heap.size w w') ∧
    (∀ w, Calls Try.prog 10 #[.string s] w fun e w' => e = .returned (textOut t a c) ∧ Below w.heap.size w w') := by
  by_cases h1 : 8000 < s.size
  · exact ⟨_, _, _, fun w => specUnseal_size s w h1, fun w => implUnseal_size s w h1⟩
  by_cases h2 : s.size < 4
  · exact ⟨_, _, _, fun w => specUnseal_short s w h2, fun w => implUnseal_short s w h2⟩
  have hsz : (s.extract 0 (s.size - 4)).size ≤ 7996 := by simp; omega
  have hc := crcOf_lt (s.extract 0 (s.size - 4))
  have hp := seal_parts s (s.extract 0 (s.size - 4)) ⟨(four (crcOf 0 (s.extract 0 (s.size - 4)))).toArray⟩ _ rfl rfl
  by_cases hq : ((⟨(four (crcOf 0 (s.extract 0 (s.size - 4)))).toArray⟩ : ByteArray).toList == (s.extract (s.size - 4) s.size).toList) = true
  · exact ⟨_, _, _, fun w => specUnseal_yes s _ _ _ _ w (by omega) (by omega) rfl rfl (fun W => specCrc_any 0 _ W (by omega) (by unfold maxLen; omega)) (fun W => specFour_any _ W hc) hq,
      fun w => implUnseal_yes s _ w (by omega) (by omega) rfl (by rw [sealB, hp]; exact hq)⟩
  · have hq' : ((⟨(four (crcOf 0 (s.extract 0 (s.size - 4)))).toArray⟩ : ByteArray).toList == (s.extract (s.size - 4) s.size).toList) = false := by simpa using hq
    exact ⟨_, _, _, fun w => specUnseal_no s _ _ _ _ w (by omega) (by omega) rfl rfl (fun W => specCrc_any 0 _ W (by omega) (by unfold maxLen; omega)) (fun W => specFour_any _ W hc) hq',
      fun w => implUnseal_no s _ w (by omega) (by omega) rfl (by rw [sealB, hp]; exact hq')⟩

end Go.Proofs.Ytcnimhkabeapkaf
