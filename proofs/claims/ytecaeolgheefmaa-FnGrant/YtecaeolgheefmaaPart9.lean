/- 8 of this claim's texts, one behind the other. -/
import Derived.Test.YtecaeolgheefmaaPart1
import Derived.Test.YtecaeolgheefmaaPart6
import Derived.Test.YtecaeolgheefmaaPart5
import Derived.Deep.RegionHeld3
import Derived.Deep.DeepCutAuto
import Derived.Laws.ResultCell
import Derived.Test.YtecaeolgheefmaaPart8
import Derived.WalkKit
import Derived.WalkSpells
import Derived.WalkLawsBesides
import Derived.Laws.AppendOwnNone
/- What answers about grants are: what is put is right, and live for its while; others stay what they were; what is dropped is not live; what is asked for and granted was fit for it. -/
namespace Go.Proofs.Ytecaeolgheefmaa
open Go.RowKit

theorem right_of {L : List Gr} (h1 : L.length ≤ 8) (h2 : ∀ g, g ∈ L → grB g = true) (h3 : RiseG L) : grantsB L = true := by
  rw [grantsB_all, decide_eq_true h1]
  intro i hi
  unfold okG riseG
  rw [show grB (atG L i) = true by rw [atG_get hi]; exact h2 _ (List.getElem_mem hi), Bool.true_and]
  by_cases h0 : i = 0
  · rw [decide_eq_true h0]; rfl
  · rw [decide_eq_false h0, Bool.false_or]
    exact riseG_at h3 (by omega) hi
theorem right_mem {L : List Gr} (h : grantsB L = true) {g : Gr} (hg : g ∈ L) : grB g = true := by
  obtain ⟨j, hj, rfl⟩ := List.mem_iff_getElem.1 hg
  have := okG_right ((grantsB_parts h).2 j hj)
  rwa [atG_get hj] at this
theorem ins_rise {L : List Gr} {x : Gr} (h : RiseG L) : RiseG (insG L x) := by
  unfold insG RiseG
  rw [List.pairwise_append]
  refine ⟨rise_filterG h _, List.pairwise_cons.2 ⟨fun y hy => ?_, rise_filterG h _⟩, ?_⟩
  · have := (List.mem_filter.1 hy).2; exact this
  · intro a ha b hb
    have ha' : grLess a x = true := by have := (List.mem_filter.1 ha).2; exact this
    rcases List.mem_cons.1 hb with rfl | hb
    · exact ha'
    · have hb' : grLess x b = true := by have := (List.mem_filter.1 hb).2; exact this
      exact grLess_trans ha' hb'
theorem ins_mem {L : List Gr} {x y : Gr} (h : y ∈ insG L x) : y = x ∨ y ∈ L := by
  unfold insG at h
  rcases List.mem_append.1 h with h | h
  · exact .inr (List.mem_filter.1 h).1
  · rcases List.mem_cons.1 h with h | h
    · exact .inl h
    · exact .inr (List.mem_filter.1 h).1
theorem ins_has (L : List Gr) (x : Gr) : x ∈ insG L x := by
  unfold insG
  exact List.mem_append.2 (.inr (List.mem_cons.2 (.inl rfl)))
theorem ins_keeps {L : List Gr} {x y : Gr} (h : y ∈ L) (ha : grLess y x = true ∨ grLess x y = true) : y ∈ insG L x := by
  unfold insG
  rcases ha with ha | ha
  · exact List.mem_append.2 (.inl (List.mem_filter.2 ⟨h, ha⟩))
  · exact List.mem_append.2 (.inr (List.mem_cons.2 (.inr (List.mem_filter.2 ⟨h, ha⟩))))
theorem timeG_parts {n : Int} (h : timeG n = true) : 0 ≤ n ∧ n ≤ 1000000 := by
  unfold timeG at h
  simp only [Bool.and_eq_true, decide_eq_true_eq] at h; exact h
theorem until_time {now : Int} (h : timeG now = true) : timeG (untilG now) = true := by
  obtain ⟨h1, h2⟩ := timeG_parts h
  unfold timeG untilG
  split
  · rw [decide_eq_true (by omega), decide_eq_true (by omega)]; rfl
  · rw [decide_eq_true (by omega), decide_eq_true (by omega)]; rfl
theorem putR_ok {L : List Gr} {tp si : ByteArray} {now : Int} (h : (putR L tp si now).co = 0) : (restG L tp si now).length < 8 ∧ (putR L tp si now).ar = insG (restG L tp si now) (newG tp si now) := by
  unfold putR at h ⊢
  split at h
  · rename_i h8
    rw [if_pos h8]; exact ⟨h8, rfl⟩
  · cases h
theorem rest_mem {L : List Gr} {tp si : ByteArray} {now : Int} {y : Gr} (h : y ∈ restG L tp si now) : y ∈ L ∧ liveG now y = true ∧ isG tp si y = false := by
  have h1 := List.mem_filter.1 h
  have h2 := List.mem_filter.1 h1.1
  exact ⟨h2.1, h2.2, by have := h1.2; cases hq : isG tp si y with | false => rfl | true => rw [hq] at this; cases this⟩
theorem putR_right {L : List Gr} {tp si : ByteArray} {now : Int} (hm : mayG L tp si now = true) (h : (putR L tp si now).co = 0) : grantsB (putR L tp si now).ar = true := by
  obtain ⟨h8, e⟩ := putR_ok h
  obtain ⟨m1, m2, m3, m4⟩ := mayG_parts hm
  rw [e]
  refine right_of (by have := insG_len (restG L tp si now) (newG tp si now); omega) (fun g hg => ?_) (ins_rise (rise_filterG (rise_filterG (grants_rise m1) _) _))
  rcases ins_mem hg with rfl | hg
  · unfold grB newG
    rw [m2, m3, until_time m4]; rfl
  · exact right_mem m1 (rest_mem hg).1
theorem here_iff {L : List Gr} {tp si : ByteArray} {now : Int} : hereG L tp si now = true ↔ ∃ g, g ∈ L ∧ isG tp si g = true ∧ liveG now g = true := by
  unfold hereG
  rw [List.any_eq_true]
  constructor
  · rintro ⟨g, h1, h2⟩
    rw [Bool.and_eq_true] at h2
    exact ⟨g, h1, h2⟩
  · rintro ⟨g, h1, h2, h3⟩
    exact ⟨g, h1, by rw [h2, h3]; rfl⟩
theorem bool_iff {a b : Bool} (h : a = true ↔ b = true) : a = b := by cases a <;> cases b <;> simp_all
theorem isG_new (tp si : ByteArray) (now : Int) : isG tp si (newG tp si now) = true := (isG_iff _ _ _).2 rfl
theorem put_here {L : List Gr} {tp si : ByteArray} {now : Int} (h : (putR L tp si now).co = 0) (n : Int) : hereG (putR L tp si now).ar tp si n = decide (n < untilG now) := by
  obtain ⟨-, e⟩ := putR_ok h
  rw [e]
  refine bool_iff ⟨fun hh => ?_, fun hh => ?_⟩
  · obtain ⟨g, h1, h2, h3⟩ := here_iff.1 hh
    rcases ins_mem h1 with rfl | h1
    · exact h3
    · rw [(rest_mem h1).2.2] at h2; cases h2
  · exact here_iff.2 ⟨_, ins_has _ _, isG_new _ _ _, hh⟩
theorem put_others {L : List Gr} {tp si : ByteArray} {now : Int} (h : (putR L tp si now).co = 0) {a b : ByteArray} (hne : (a.data.toList, b.data.toList) ≠ (tp.data.toList, si.data.toList)) : hereG (putR L tp si now).ar a b now = hereG L a b now := by
  obtain ⟨-, e⟩ := putR_ok h
  rw [e]
  refine bool_iff ⟨fun hh => ?_, fun hh => ?_⟩
  · obtain ⟨g, h1, h2, h3⟩ := here_iff.1 hh
    rcases ins_mem h1 with rfl | h1
    · exact absurd ((isG_iff _ _ _).1 h2).symm hne
    · exact here_iff.2 ⟨g, (rest_mem h1).1, h2, h3⟩
  · obtain ⟨g, h1, h2, h3⟩ := here_iff.1 hh
    have hn : isG tp si g = false := by
      cases hq : isG tp si g with
      | false => rfl
      | true => exact absurd (((isG_iff _ _ _).1 h2).symm.trans ((isG_iff _ _ _).1 hq)) hne
    have hr : g ∈ restG L tp si now := List.mem_filter.2 ⟨List.mem_filter.2 ⟨h1, h3⟩, by rw [hn]; rfl⟩
    exact here_iff.2 ⟨g, ins_keeps hr (rest_apart g hr), h2, h3⟩
theorem may_of {L : List Gr} {tp si : ByteArray} {now : Int} (h1 : grantsB L = true) (h2 : siteG tp = true) (h3 : siteG si = true) (h4 : timeG now = true) : mayG L tp si now = true := by
  unfold mayG; rw [h1, h2, h3, h4]; rfl
/-- the answer of a put that is right -/
theorem putG_ok {L : List Gr} {tp si : ByteArray} {now : Int} (h : (putG L tp si now).co = 0) : mayG L tp si now = true ∧ putG L tp si now = putR L tp si now ∧ (putR L tp si now).co = 0 := by
  by_cases hb : beginG L tp si now = 0
  · have e : putG L tp si now = putR L tp si now := by unfold putG; rw [if_pos hb]
    exact ⟨beginG_ok hb, e, by rw [← e]; exact h⟩
  · have e : putG L tp si now = noG (beginG L tp si now) := by unfold putG; rw [if_neg hb]
    rw [e] at h
    exact absurd h hb
theorem putG_right {L : List Gr} {tp si : ByteArray} {now : Int} (h : (putG L tp si now).co = 0) : grantsB (putG L tp si now).ar = true := by
  obtain ⟨h1, e, h2⟩ := putG_ok h
  rw [e]; exact putR_right h1 h2
theorem putG_live {L : List Gr} {tp si : ByteArray} {now : Int} (h : (putG L tp si now).co = 0) (hn : now < 999970) : liveB8 (putG L tp si now).ar tp si (now + 29) = true ∧ liveB8 (putG L tp si now).ar tp si (now + 30) = false := by
  obtain ⟨h1, e, h2⟩ := putG_ok h
  obtain ⟨-, m2, m3, m4⟩ := mayG_parts h1
  obtain ⟨t1, t2⟩ := timeG_parts m4
  have hu : untilG now = now + 30 := by unfold untilG; rw [if_pos (by omega)]
  have ht : timeG (now + 29) = true := by unfold timeG; rw [decide_eq_true (by omega), decide_eq_true (by omega)]; rfl
  rw [e]
  unfold liveB8
  rw [put_here h2, put_here h2, hu, may_of (putR_right h1 h2) m2 m3 ht]
  exact ⟨by rw [decide_eq_true (by omega)]; rfl, by rw [decide_eq_false (by omega), Bool.and_false]⟩
theorem putG_others {L : List Gr} {tp si : ByteArray} {now : Int} (h : (putG L tp si now).co = 0) {x : Gr} (hx : x ∈ L) (hne : (x.tp.data.toList, x.si.data.toList) ≠ (tp.data.toList, si.data.toList)) : liveB8 L x.tp x.si now = liveB8 (putG L tp si now).ar x.tp x.si now := by
  obtain ⟨h1, e, h2⟩ := putG_ok h
  obtain ⟨m1, -, -, m4⟩ := mayG_parts h1
  obtain ⟨g1, g2, -⟩ := grB_parts (right_mem m1 hx)
  rw [e]
  unfold liveB8
  rw [put_others h2 hne, may_of m1 g1 g2 m4, may_of (putR_right h1 h2) g1 g2 m4]
theorem drop_here (L : List Gr) (tp si : ByteArray) (now : Int) : liveB8 (dropL L tp si) tp si now = false := by
  unfold liveB8
  have e : hereG (dropL L tp si) tp si now = false := by
    cases hq : hereG (dropL L tp si) tp si now with
    | false => rfl
    | true =>
      obtain ⟨g, h1, h2, -⟩ := here_iff.1 hq
      unfold dropL at h1
      split at h1
      · have := (List.mem_filter.1 h1).2
        rw [h2] at this; cases this
      · cases h1
  rw [e, Bool.and_false]
theorem askG_ok {L : List Gr} {a : Aq} {now : Int} (h : (askG L a now).co = 0) : mayG L a.tp a.si now = true ∧ askG L a now = askR L a now := by
  unfold askG at h ⊢
  split at h
  · rename_i h4
    rw [if_pos h4]
    split at h
    · rename_i hm
      rw [if_pos hm]; exact ⟨hm, rfl⟩
    · cases h
  · cases h
theorem askR_ok {L : List Gr} {a : Aq} {now : Int} (h : (askR L a now).co = 0) : (freeG L a now = true ∧ askR L a now = ⟨L, false, 0⟩) ∨ (freeG L a now = false ∧ a.sa = false ∧ httpsB a.si = true ∧ a.tc = true ∧ (a.re || a.ye) = true ∧ (putR L a.tp a.si now).co = 0 ∧ askR L a now = ⟨(putR L a.tp a.si now).ar, true, (putR L a.tp a.si now).co⟩) := by
  obtain ⟨tp, si, tc, sa, re, ye⟩ := a
  unfold askR at h ⊢
  dsimp only at *
  cases hf : freeG L ⟨tp, si, tc, sa, re, ye⟩ now with
  | true => rw [hf, if_pos rfl] at h; rw [if_pos rfl]; exact .inl ⟨rfl, rfl⟩
  | false =>
    rw [hf, if_neg (by decide)] at h
    rw [if_neg (by decide)]
    cases hs : httpsB si <;> cases sa <;> cases tc <;> cases re <;> cases ye <;> simp [hs, noG] at h ⊢ <;> exact h
theorem askG_right {L : List Gr} {a : Aq} {now : Int} (h : (askG L a now).co = 0) : grantsB (askG L a now).ar = true := by
  obtain ⟨hm, e⟩ := askG_ok h
  rw [e] at h ⊢
  rcases askR_ok h with ⟨-, e2⟩ | ⟨-, -, -, -, -, h2, e2⟩
  · rw [e2]; exact (mayG_parts hm).1
  · rw [e2]; exact putR_right hm h2
theorem askG_fresh {L : List Gr} {a : Aq} {now : Int} (h : (askG L a now).co = 0) (hl : liveB8 L a.tp a.si now = false) (hne : (a.tp.toList == a.si.toList) = false) :
    (askG L a now).us = true ∧ a.tc = true ∧ a.sa = false ∧ (a.re || a.ye) = true ∧ httpsB a.si = true ∧ now ≤ 1000000 ∧ (now < 1000000 → liveB8 (askG L a now).ar a.tp a.si now = true) := by
  obtain ⟨hm, e⟩ := askG_ok h
  rw [e] at h ⊢
  obtain ⟨m1, m2, m3, m4⟩ := mayG_parts hm
  have hh : hereG L a.tp a.si now = false := by unfold liveB8 at hl; rw [hm, Bool.true_and] at hl; exact hl
  rcases askR_ok h with ⟨hf, -⟩ | ⟨-, h1, h2, h3, h4, h5, e2⟩
  · unfold freeG at hf; rw [hne, hh] at hf; cases hf
  · refine ⟨by rw [e2], h3, h1, h4, h2, (timeG_parts m4).2, fun hn => ?_⟩
    rw [e2]
    unfold liveB8
    show (mayG (putR L a.tp a.si now).ar _ _ _ && hereG (putR L a.tp a.si now).ar _ _ _) = true
    rw [put_here h5, may_of (putR_right hm h5) m2 m3 m4, decide_eq_true (by unfold untilG; split <;> omega)]; rfl
end Go.Proofs.Ytecaeolgheefmaa

/- The walk of together: two texts put together in new memory. -/
namespace Go.Proofs.Ytecaeolgheefmaa
open Go.RowKit


set_option maxRecDepth 10000 in
set_option maxHeartbeats 400000 in
theorem together_full (x y : ByteArray) (w : World) (hz : x.size + y.size ≤ 1000000) (hy : ¬ y = ByteArray.empty) :
    Calls Try.prog 75 #[.string x, .string y] w fun e w' => e = .returned (.string (x ++ y)) ∧ Below w.heap.size w w' := by
  obtain ⟨w1, Z, hmk, HG1, hZ, hs1, hb1⟩ := make_row (P := Try.prog) w 22 5 _ Try.underlying22 infoU8 ((x.size : Int) + (y.size : Int)) (x.size + y.size) (by omega) (by omega)
  go_enter Try.func75, Try.ntmps75
  go_wp2_with fail
  obtain ⟨w2, hc2, HG2, hs2, hB2⟩ := copy_text (P := Try.prog) w1 22 9 3 5 Try.underlying22 sizeU8 (some ⟨w.heap.size, 0, none⟩) (x.size + y.size) (x.size + y.size) x (by omega) w.heap.size 0 Z _ HG1 (fun _ => rfl) (by omega)
  have hb2 := hB2 _ _ hb1 (Nat.le_refl _)
  rw [hc2]
  clear hc2 hmk hB2 HG1 hb1
  go_wp2_with fail
  have hl2 : (splice Z 0 (Lib.byteCells x.data.toList)).length = x.size + y.size := by rw [length_splice _ _ _ (by rw [len_cells]; omega), hZ]
  obtain ⟨w3, hc3, HG3, hs3, hB3⟩ := copy_text (P := Try.prog) w2 22 9 3 5 Try.underlying22 sizeU8 (some ⟨w.heap.size, x.size, none⟩) y.size y.size y (by omega) w.heap.size x.size _ _ HG2 (fun _ => rfl) (by omega)
  have hb3 := hB3 _ _ hb2 (Nat.le_refl _)
  have HG4 : RowAt w3 w.heap.size 5 (Lib.byteCells (x.data.toList ++ y.data.toList) ++ []) := by
    have e := splice_two Z (Lib.byteCells x.data.toList) (Lib.byteCells y.data.toList) (by rw [len_cells, len_cells]; exact hZ)
    rw [len_cells] at e
    rw [e, ← byteCells_append, ← List.append_nil (Lib.byteCells _)] at HG3
    exact HG3
  rw [hc3]
  clear hc3 hB3 HG2 HG3 hb2 hl2
  go_wp2_with fail
  rw [text_of_row (P := Try.prog) w3 22 9 5 Try.underlying22 Try.underlying5 Try.underlying9 w.heap.size (x.size + y.size) (x.size + y.size) 5 _ _ HG4 (by rw [List.length_append, ← Lib.size_eq, ← Lib.size_eq])]
  go_wp2
  go_ret
  exact ⟨ret_text (text_append x y), hb3⟩

set_option maxRecDepth 10000 in
set_option maxHeartbeats 400000 in
theorem together_empty (x : ByteArray) (w : World) (hz : x.size ≤ 1000000) :
    Calls Try.prog 75 #[.string x, .string ByteArray.empty] w fun e w' => e = .returned (.string x) ∧ Below w.heap.size w w' := by
  obtain ⟨w1, Z, hmk, HG1, hZ, hs1, hb1⟩ := make_row (P := Try.prog) w 22 5 _ Try.underlying22 infoU8 (x.size : Int) x.size (by omega) (by omega)
  go_enter Try.func75, Try.ntmps75
  go_wp2_with fail
  obtain ⟨w2, hc2, HG2, hs2, hB2⟩ := copy_text (P := Try.prog) w1 22 9 3 5 Try.underlying22 sizeU8 (some ⟨w.heap.size, 0, none⟩) x.size x.size x (by omega) w.heap.size 0 Z _ HG1 (fun _ => rfl) (by omega)
  have hb2 := hB2 _ _ hb1 (Nat.le_refl _)
  rw [hc2]
  clear hc2 hmk hB2 HG1 hb1
  go_wp2_with fail
  have HG4 : RowAt w2 w.heap.size 5 (Lib.byteCells x.data.toList ++ []) := by
    have e : splice Z 0 (Lib.byteCells x.data.toList) = Lib.byteCells x.data.toList ++ [] := by
      unfold splice
      rw [List.drop_eq_nil_of_le (by rw [len_cells]; omega)]
      simp
    rw [e] at HG2
    exact HG2
  rw [Lib.run_copy_empty_string (P := Try.prog) w2 22 9 3 5 (some ⟨w.heap.size, 0, none⟩) 0 0 ByteArray.empty Try.underlying22 (by rw [Option.isSome_iff_exists]; exact ⟨1, sizeU8⟩) rfl]
  go_wp2_with fail
  rw [text_of_row (P := Try.prog) w2 22 9 5 Try.underlying22 Try.underlying5 Try.underlying9 w.heap.size x.size x.size 5 _ _ HG4 (by rw [← Lib.size_eq])]
  go_wp2
  go_ret
  exact ⟨rfl, hb2⟩
theorem together_any (x y : ByteArray) (w : World) (hz : x.size + y.size ≤ 1000000) :
    Calls Try.prog 75 #[.string x, .string y] w fun e w' => e = .returned (.string (x ++ y)) ∧ Below w.heap.size w w' := by
  by_cases hy : y = ByteArray.empty
  · subst hy
    rw [ByteArray.append_empty]
    exact together_empty x w (by omega)
  · exact together_full x y w hz hy

end Go.Proofs.Ytecaeolgheefmaa

/- The walks of the program's grantCopy and grantCopies. Written by implleave2.py. -/
namespace Go.Proofs.Ytecaeolgheefmaa
open Go.RowKit

set_option maxRecDepth 10000 in
set_option maxHeartbeats 8000000 in
theorem grantCopy_any (c : Gr) (w : World) (h0 : c.tp.size ≤ 1000000) (h1 : c.si.size ≤ 1000000) :
    Calls Try.prog 46 #[grV c] w fun e w' => e = .returned (grV c) ∧ Below w.heap.size w w' := by
  obtain ⟨ke, na, va⟩ := c
  unfold grV
  dsimp only at h0 h1 ⊢
  have K0 : Hid (∀ W, Calls Try.prog 75 #[.string ke, .string ⟨#[]⟩] W fun e w' => e = .returned (.string ke) ∧ Below W.heap.size W w') := fun W => together_empty ke W (by omega)
  have K1 : Hid (∀ W, Calls Try.prog 75 #[.string na, .string ⟨#[]⟩] W fun e w' => e = .returned (.string na) ∧ Below W.heap.size W w') := fun W => together_empty na W (by omega)
  obtain ⟨W0, hW⟩ : ∃ W0, W0 = ((w.alloc (.cells #[.string ke, .string na, .int .i64 va] 64)).alloc (.cells #[.string ⟨#[]⟩, .string ⟨#[]⟩, .int .i64 0] 64)) := ⟨_, rfl⟩
  have hW0 : Hid (W0 = ((w.alloc (.cells #[.string ke, .string na, .int .i64 va] 64)).alloc (.cells #[.string ⟨#[]⟩, .string ⟨#[]⟩, .int .i64 0] 64))) := hW
  have HB : Hid (Below w.heap.size w W0) := by show Below _ _ _; rw [hW]; exact ((Below.refl _ _).alloc (Nat.le_refl _) _).alloc (by simp) _
  have z1 : w.heap.size + 1 < W0.heap.size := by rw [hW]; simp
  have c0 : W0.cell? ⟨w.heap.size, 0, none⟩ = some (.string ke) := by rw [hW]; simp
  have c1 : W0.cell? ⟨w.heap.size, 1, none⟩ = some (.string na) := by rw [hW]; simp
  have c2 : W0.cell? ⟨w.heap.size, 2, none⟩ = some (.int .i64 va) := by rw [hW]; simp
  have d0 : W0.cell? ⟨w.heap.size + 1, 0, none⟩ = some (.string ⟨#[]⟩) := by rw [hW]; exact (World.cell?_alloc_at _ _ _ _ (by simp)).trans rfl
  have d1 : W0.cell? ⟨w.heap.size + 1, 1, none⟩ = some (.string ⟨#[]⟩) := by rw [hW]; exact (World.cell?_alloc_at _ _ _ _ (by simp)).trans rfl
  have d2 : W0.cell? ⟨w.heap.size + 1, 2, none⟩ = some (.int .i64 0) := by rw [hW]; exact (World.cell?_alloc_at _ _ _ _ (by simp)).trans rfl
  have fz : ∀ o, W0.frozen? ⟨w.heap.size + 1, o, none⟩ = false := by rw [hW]; exact fun o => World.frozen?_alloc_at _ _ _ _ (by simp)
  have f0 := fz 0
  have f1 := fz 1
  have f2 := fz 2
  clear hW h0 h1 fz
  go_enter Try.func46, Try.ntmps46
  go_upto_region 1 with fail
  rw [← hW0.out]
  clear hW0
  generalize hbb : w.heap.size = b at *
  have hb1 : b < W0.heap.size := by omega
  refine wp_region_held_drew (S := (fun w' => w'.cell? ⟨b, 0, none⟩ = some (.string ke) ∧ w'.cell? ⟨b, 1, none⟩ = some (.string na) ∧ w'.cell? ⟨b, 2, none⟩ = some (.int .i64 va))) (by kernel_rfl) ?_ (fun hH0 => ?_)
  · (try dsimp only)
    go_keep
  refine wpAnyH_take (i := 0) (oi := { dst := some 3, op := Op.fieldAddr 64 (Operand.tmp 1) 0, type := 0, pos := "l08_grant.go:65", after := #[], guard := none }) (v := ?va0) rfl (by kernel_rfl) (by kernel_rfl) (by kernel_rfl) (fun _ _ _ h => h) (Or.inl ⟨by rfl, ?hya0⟩) (by assumption) ?resta0
  case hya0 =>
    intro w hSw
    (try dsimp only at hSw)
    go_simp
    try with_reducible rfl
  try simp only [Act.put, List.setIfInBounds_toArray, List.set_cons_zero, List.set_cons_succ]
  refine wpAnyH_take (i := 1) (oi := { dst := some 4, op := Op.load 9 (Operand.tmp 3), type := 9, pos := "l08_grant.go:65", after := #[{ on := 0, ground := Ground.data }], guard := none }) (v := ?va1) rfl (by kernel_rfl) (by kernel_rfl) (by kernel_rfl) (fun _ _ _ h => h) (Or.inl ⟨by rfl, ?hya1⟩) (by assumption) ?resta1
  case hya1 =>
    intro w hSw
    (try dsimp only at hSw)
    go_simp
    try with_reducible rfl
  try simp only [Act.put, List.setIfInBounds_toArray, List.set_cons_zero, List.set_cons_succ]
  refine wpAnyH_take (i := 3) (oi := { dst := some 6, op := Op.fieldAddr 64 (Operand.tmp 1) 1, type := 0, pos := "l08_grant.go:65", after := #[], guard := none }) (v := ?va3) rfl (by kernel_rfl) (by kernel_rfl) (by kernel_rfl) (fun _ _ _ h => h) (Or.inl ⟨by rfl, ?hya3⟩) (by assumption) ?resta3
  case hya3 =>
    intro w hSw
    (try dsimp only at hSw)
    go_simp
    try with_reducible rfl
  try simp only [Act.put, List.setIfInBounds_toArray, List.set_cons_zero, List.set_cons_succ]
  refine wpAnyH_take (i := 4) (oi := { dst := some 7, op := Op.load 9 (Operand.tmp 6), type := 9, pos := "l08_grant.go:65", after := #[{ on := 3, ground := Ground.data }], guard := none }) (v := ?va4) rfl (by kernel_rfl) (by kernel_rfl) (by kernel_rfl) (fun _ _ _ h => h) (Or.inl ⟨by rfl, ?hya4⟩) (by assumption) ?resta4
  case hya4 =>
    intro w hSw
    (try dsimp only at hSw)
    go_simp
    try with_reducible rfl
  try simp only [Act.put, List.setIfInBounds_toArray, List.set_cons_zero, List.set_cons_succ]
  refine wpAnyH_take (i := 6) (oi := { dst := some 9, op := Op.fieldAddr 64 (Operand.tmp 1) 2, type := 0, pos := "l08_grant.go:65", after := #[], guard := none }) (v := ?va6) rfl (by kernel_rfl) (by kernel_rfl) (by kernel_rfl) (fun _ _ _ h => h) (Or.inl ⟨by rfl, ?hya6⟩) (by assumption) ?resta6
  case hya6 =>
    intro w hSw
    (try dsimp only at hSw)
    go_simp
    try with_reducible rfl
  try simp only [Act.put, List.setIfInBounds_toArray, List.set_cons_zero, List.set_cons_succ]
  refine wpAnyH_take (i := 7) (oi := { dst := some 10, op := Op.load 2 (Operand.tmp 9), type := 2, pos := "l08_grant.go:65", after := #[{ on := 6, ground := Ground.data }], guard := none }) (v := ?va7) rfl (by kernel_rfl) (by kernel_rfl) (by kernel_rfl) (fun _ _ _ h => h) (Or.inl ⟨by rfl, ?hya7⟩) (by assumption) ?resta7
  case hya7 =>
    intro w hSw
    (try dsimp only at hSw)
    go_simp
    try with_reducible rfl
  try simp only [Act.put, List.setIfInBounds_toArray, List.set_cons_zero, List.set_cons_succ]
  refine wpAnyH_ready (rs := [2]) (by kernel_rfl) (by simp) ?_
  refine AllReadyH.cons (o := { dst := some 5, op := Op.call { callee := Callee.value (Operand.func 75), args := #[Operand.tmp 4, Operand.const (Value.string { data := #[] })], argTypes := #[9, 9] }, type := 9, pos := "l08_grant.go:65", after := #[{ on := 1, ground := Ground.data }], guard := none }) rfl (fun K hK => ?_) AllReadyH.nil
  go_simp
  (go_at_call 75; refine (K0.out _).mono ?_; rintro e w1 ⟨rfl, hq1⟩; have A1 : Below W0.heap.size W0 w1 := (Below.drew (Below.refl _ _)).trans hq1; have x0 : w1.cell? ⟨b, 0, none⟩ = some (.string ke) := ((bcell A1).1 _ _ hb1).trans c0; have x1 : w1.cell? ⟨b, 1, none⟩ = some (.string na) := ((bcell A1).1 _ _ hb1).trans c1; have x2 : w1.cell? ⟨b, 2, none⟩ = some (.int .i64 va) := ((bcell A1).1 _ _ hb1).trans c2)
  try (go_wp2_with fail)
  refine hK.out _ _ ?_ (fun hH1 => ?_)
  · (try dsimp only)
    go_keep
  clear hK K hH0
  try simp only [Act.put, List.setIfInBounds_toArray, List.set_cons_zero, List.set_cons_succ]
  refine wpAnyH_ready (rs := [5]) (by kernel_rfl) (by simp) ?_
  refine AllReadyH.cons (o := { dst := some 8, op := Op.call { callee := Callee.value (Operand.func 75), args := #[Operand.tmp 7, Operand.const (Value.string { data := #[] })], argTypes := #[9, 9] }, type := 9, pos := "l08_grant.go:65", after := #[{ on := 4, ground := Ground.data }, { on := 2, ground := Ground.chain }], guard := none }) rfl (fun K hK => ?_) AllReadyH.nil
  go_simp
  (go_at_call 75; refine (K1.out _).mono ?_; rintro e w2 ⟨rfl, hq2⟩; have A2 : Below W0.heap.size W0 w2 := A1.trans (hq2.mono A1.size); have y0 : w2.cell? ⟨b, 0, none⟩ = some (.string ke) := ((bcell A2).1 _ _ hb1).trans c0; have y1 : w2.cell? ⟨b, 1, none⟩ = some (.string na) := ((bcell A2).1 _ _ hb1).trans c1; have y2 : w2.cell? ⟨b, 2, none⟩ = some (.int .i64 va) := ((bcell A2).1 _ _ hb1).trans c2; have r0 : w2.cell? ⟨b + 1, 0, none⟩ = some (.string ⟨#[]⟩) := ((bcell A2).1 _ _ z1).trans d0; have s0 : w2.frozen? ⟨b + 1, 0, none⟩ = false := ((bcell A2).2 _ _ z1).trans f0; have r1 : w2.cell? ⟨b + 1, 1, none⟩ = some (.string ⟨#[]⟩) := ((bcell A2).1 _ _ z1).trans d1; have s1 : w2.frozen? ⟨b + 1, 1, none⟩ = false := ((bcell A2).2 _ _ z1).trans f1; have r2 : w2.cell? ⟨b + 1, 2, none⟩ = some (.int .i64 0) := ((bcell A2).1 _ _ z1).trans d2; have s2 : w2.frozen? ⟨b + 1, 2, none⟩ = false := ((bcell A2).2 _ _ z1).trans f2)
  try (go_wp2_with fail)
  refine hK.out _ _ ?_ (fun hH2 => ?_)
  · (try dsimp only)
    go_keep
  clear hK K hH1
  try simp only [Act.put, List.setIfInBounds_toArray, List.set_cons_zero, List.set_cons_succ]
  refine wpAnyH_take (i := 8) (oi := { dst := some 11, op := Op.build 64 #[(0, Operand.tmp 5), (1, Operand.tmp 8), (2, Operand.tmp 10)], type := 64, pos := "l08_grant.go:65", after := #[{ on := 2, ground := Ground.data }, { on := 5, ground := Ground.data }, { on := 7, ground := Ground.data }], guard := none }) (v := ?va8) rfl (by kernel_rfl) (by kernel_rfl) (by kernel_rfl) (fun _ _ _ h => h) (Or.inl ⟨by rfl, ?hya8⟩) (by assumption) ?resta8
  case hya8 =>
    intro w hSw
    (try dsimp only at hSw)
    go_simp
    try with_reducible rfl
  try simp only [Act.put, List.setIfInBounds_toArray, List.set_cons_zero, List.set_cons_succ]
  refine wpAnyH_ready (rs := [9]) (by kernel_rfl) (by simp) ?_
  refine AllReadyH.cons (o := { dst := none, op := Op.store 64 (Operand.tmp 2) (Operand.tmp 11), type := 0, pos := "l08_grant.go:65", after := #[{ on := 8, ground := Ground.data }, { on := 5, ground := Ground.chain }, { on := 0, ground := Ground.phase }, { on := 1, ground := Ground.phase }, { on := 2, ground := Ground.phase }, { on := 3, ground := Ground.phase }, { on := 4, ground := Ground.phase }, { on := 5, ground := Ground.phase }, { on := 6, ground := Ground.phase }, { on := 7, ground := Ground.phase }, { on := 8, ground := Ground.phase }], guard := none }) rfl (fun K hK => ?_) AllReadyH.nil
  go_simp
  (skip)
  try (go_wp2_with fail)
  refine hK.out _ _ ?_ (fun hH3 => ?_)
  · (try dsimp only)
    go_keep
  clear hK K hH2
  try simp only [Act.put, List.setIfInBounds_toArray, List.set_cons_zero, List.set_cons_succ]
  refine wpAnyH_done (by kernel_rfl) ?_ _
  all_goals go_wp2
  all_goals
    refine bodyPost_ret (v := .agg #[.string ke, .string na, .int .i64 va]) (by simp [results, Try.results46, go_sem, r0, r1, r2]) rfl ⟨rfl, ?_⟩
    have hB2 : Below b w w2 := HB.out.trans (A2.mono (by omega))
    rw [hbb]
    refine Below.setCell (Below.setCell (Below.setCell hB2 ?_ _) ?_ _) ?_ _ <;> exact Nat.le_add_right b 1
set_option maxRecDepth 10000 in
set_option maxHeartbeats 8000000 in
theorem grantCopiesP_any (v : Value) (L : List Gr) (B : Nat) (w : World) (hs : SliceG w B v L) (hn : L.length ≤ 1048576) (hz : ∀ i, i < L.length → (atG L i).tp.size ≤ 1000000 ∧ (atG L i).si.size ≤ 1000000) :
    Calls Try.prog 42 #[v] w fun e w' => ∃ v', e = .returned v' ∧ (SliceG w' w.heap.size v' L ∧ PlacedG v') ∧ Below w.heap.size w w' := by
  have KC : Hid (∀ j, j < L.length → ∀ W, Calls Try.prog 46 #[grV (atG L j)] W fun e w' => e = .returned (grV (atG L j)) ∧ Below W.heap.size W w') := fun j hj W => grantCopy_any (atG L j) W (hz j hj).1 (hz j hj).2
  have HSY : Hid (∀ k, k < L.length → ∀ (v : Value) (w' : World), w'.ownsRow w.heap.size 64 3 v (k + 1) (grCells (L.take k) ++ grVals (atG L k)) → w'.ownsRow w.heap.size 64 3 v (k + 1) (grCells (L.take (k + 1)))) := fun k hlt v w' h => by
    rw [List.take_succ_eq_append_getElem hlt, ← atG_get hlt, ← grCells_snoc]; exact h
  have HFin : Hid (∀ (v : Value) (w' : World), w'.ownsRow w.heap.size 64 3 v L.length (grCells (L.take L.length)) → (L.length = 0 → v = .slice none 0 0) → SliceG w' w.heap.size v L ∧ PlacedG v) := fun v w' h h0 => by
    rw [List.take_length] at h
    refine ⟨sliceG_of_own h, ?_⟩
    by_cases hz : L.length = 0
    · exact .inl (h0 hz)
    · obtain ⟨⟨p, c, e, hg⟩, p2, c2, e2, hc, -⟩ := sliceG_of_own h
      obtain ⟨g, rfl, -⟩ := hg (by omega)
      rw [e] at e2
      injection e2 with _ _ e3
      exact .inr ⟨g, L.length, c, e, by omega⟩
  obtain ⟨i0, hi, hy0, hy1, hy2⟩ := info_parts infoGrant
  obtain ⟨⟨q, cap, rfl, hg⟩, -⟩ := hs
  have HG : Hid (0 < L.length → ∃ g, q = some ⟨g, 0, none⟩ ∧ g < w.heap.size ∧ ∀ j, j < L.length → ∀ o, o < 3 → w.cell? ⟨g, j * 3 + o, none⟩ = some (grC (atG L j) o)) := fun h0 => by
    obtain ⟨g, e, -, hgw, hc⟩ := hg h0
    exact ⟨g, e, hgw, fun j hj o ho => (hc j hj o ho).1⟩
  clear hg hz
  go_enter Try.func42, Try.ntmps42
  go_wp2
  go_loopw [3, 8] (fun v i wr => ∃ k : Nat, k ≤ L.length ∧ i = .int .i64 k ∧ Hid (wr.ownsRow w.heap.size 64 3 v k (grCells (L.take k))) ∧ Hid (Below w.heap.size w wr) ∧ Hid (k = 0 → v = .slice none 0 0)) (fun _ i _ => L.length - (intOf i).toNat)
  case atStart => exact ⟨0, Nat.zero_le _, rfl, World.ownsRow_nil _ _ _ _, Below.refl _ _, fun _ => rfl⟩
  case round =>
    obtain ⟨k, hk, rfl, HO, HB, HN⟩ := hrel
    have hws : w.heap.size ≤ wr.heap.size := HB.out.size
    by_cases hlt : k < L.length
    · obtain ⟨g, rfl, hgw, hc⟩ := HG.out (by omega)
      have HC : Hid (∀ j, j < L.length → ∀ o, o < 3 → w.cell? ⟨g, j * 3 + o, none⟩ = some (grC (atG L j) o)) := hc
      have k0 : (0 : Int) ≤ k := by omega
      have k1 : (k : Int) < L.length := by omega
      have HKY := HSY.out k hlt
      have KC0 := KC.out k hlt
      clear hc
      have c0 : wr.cell? ⟨g, k * 3, none⟩ = some (.string (atG L k).tp) := by rw [(bcell HB.out).1 _ _ hgw]; exact HC.out k hlt 0 (by omega)
      have c1 : wr.cell? ⟨g, k * 3 + 1, none⟩ = some (.string (atG L k).si) := by rw [(bcell HB.out).1 _ _ hgw]; exact HC.out k hlt 1 (by omega)
      have c2 : wr.cell? ⟨g, k * 3 + 2, none⟩ = some (.int .i64 (atG L k).un) := by rw [(bcell HB.out).1 _ _ hgw]; exact HC.out k hlt 2 (by omega)
      generalize atG L k = y at *
      obtain ⟨ke, na, va⟩ := y
      unfold grV at KC0
      dsimp only at *
      generalize L.take k = Y at *
      obtain ⟨W0, hW⟩ : ∃ W0, W0 = wr.alloc (.cells #[.string ke, .string na, .int .i64 va] 64) := ⟨_, rfl⟩
      have hW0 : Hid (W0 = wr.alloc (.cells #[.string ke, .string na, .int .i64 va] 64)) := hW
      have HBr : Hid (Below wr.heap.size wr W0) := by show Below _ _ _; rw [hW]; exact (Below.refl _ _).alloc (Nat.le_refl _) _
      have n0 : W0.cell? ⟨wr.heap.size, 0, none⟩ = some (.string ke) := by rw [hW]; simp
      have n1 : W0.cell? ⟨wr.heap.size, 1, none⟩ = some (.string na) := by rw [hW]; simp
      have n2 : W0.cell? ⟨wr.heap.size, 2, none⟩ = some (.int .i64 va) := by rw [hW]; simp
      have hbW : wr.heap.size < W0.heap.size := by rw [hW]; simp
      have KC1 : Hid (∀ W, Calls Try.prog 46 #[.agg #[.string ke, .string na, .int .i64 va]] W fun e w' => e = .returned (.agg #[.string ke, .string na, .int .i64 va]) ∧ Below W.heap.size W w') := KC0
      have HKY1 : Hid (∀ (v : Value) (w' : World), w'.ownsRow w.heap.size 64 3 v (k + 1) (grCells Y ++ grVals ⟨ke, na, va⟩) → w'.ownsRow w.heap.size 64 3 v (k + 1) (grCells (L.take (k + 1)))) := HKY
      clear hW KC0 HKY
      go_upto_region 5 with fail
      rw [← hW0.out]
      clear hW0 c0 c1 c2
      generalize hbb : wr.heap.size = b at *
      go_wp2_with fail
      refine (KC1.out _).mono ?_
      rintro e w3 ⟨rfl, hb3⟩
      have A3 : Below b wr w3 := HBr.out.trans (hb3.mono (Nat.le_of_lt hbW))
      have O3 : Hid (∀ v : Value, wr.ownsRow w.heap.size 64 3 v k (grCells Y) → w3.ownsRow w.heap.size 64 3 v k (grCells Y)) := fun v h => ownR_below h (by rw [hbb]; exact A3)
      have B3 : Hid (Below w.heap.size w w3) := HB.out.trans (by rw [← hbb] at A3; exact A3.mono HB.out.size)
      have O4 : Hid (w3.ownsRow w.heap.size 64 3 _ k (grCells Y)) := O3.out _ HO.out
      have hw3 : w.heap.size ≤ w3.heap.size := B3.out.size
      clear hb3 A3 HO O3 HB HBr n0 n1 n2
      go_wp2_with (at_builtin; go_must (refine wpList_append_own _ rfl _ _ 23 rfl w.heap.size 64 i0 (.agg #[.string ⟨#[]⟩, .string ⟨#[]⟩, .int .i64 0]) 3 40 Try.underlying23 hi hy0 hy1 hy2 rfl (by decide) _ _ _ rfl (O4.out.alloc _) ⟨w3.heap.size, 0, none⟩ 1 1 (grVals ⟨ke, na, va⟩) rfl rfl (cell_Gr _ ⟨ke, na, va⟩ _) (one_Gr ⟨ke, na, va⟩) (by unfold maxLen; omega) (by omega) (by simp; omega) ?_))
      intro v1 w4 ho1 hg1 hn1
      have hb4 : Below w.heap.size w w4 := (B3.out.alloc B3.out.size _).grown hg1 (Nat.le_trans B3.out.size (by simp)) (fun j hj => own_base O4.out j hj)
      have O5 : Hid (w4.ownsRow w.heap.size 64 3 v1 (k + 1) (grCells (L.take (k + 1)))) := HKY1.out _ _ ho1
      have B4 : Hid (Below w.heap.size w w4) := hb4
      clear ho1 hg1 hn1 hb4
      go_wp2
      go_roundw
      case rel => exact ⟨k + 1, by omega, by go_num, O5, B4, fun h => absurd h (by omega)⟩
      case measure => simp [intOf]; omega
    · obtain rfl : k = L.length := by omega
      go_wp2
      go_ret
      exact ⟨_, rfl, HFin.out _ _ HO.out HN.out, HB.out⟩
theorem grantCopies_any (v : Value) (L : List Gr) (B : Nat) (w : World) (hs : SliceG w B v L) (hn : L.length ≤ 1048576) (hz : ∀ i, i < L.length → (atG L i).tp.size ≤ 1000000 ∧ (atG L i).si.size ≤ 1000000) :
    Calls Try.prog 42 #[v] w fun e w' => ∃ v', e = .returned v' ∧ SliceG w' w.heap.size v' L ∧ Below w.heap.size w w' := by
  refine (grantCopiesP_any v L B w hs hn hz).mono ?_
  rintro e w' ⟨v', h1, ⟨h2, -⟩, h3⟩
  exact ⟨v', h1, h2, h3⟩
end Go.Proofs.Ytecaeolgheefmaa

/- The walks of the program's GrantOld and GrantDrop. Written by specgrant2.py. -/
namespace Go.Proofs.Ytecaeolgheefmaa
open Go.RowKit

theorem grants_small {L : List Gr} (h : grantsB L = true) : ∀ i, i < L.length → (atG L i).tp.size ≤ 1000000 ∧ (atG L i).si.size ≤ 1000000 := fun i hi => by
  obtain ⟨h1, h2, -⟩ := grB_parts (okG_right ((grantsB_parts h).2 i hi))
  have a := (siteG_size h1).2
  have b := (siteG_size h2).2
  exact ⟨by omega, by omega⟩
set_option maxRecDepth 10000 in
set_option maxHeartbeats 4000000 in
theorem grantOld_any (v : Value) (L : List Gr) (now : Int) (B : Nat) (w : World) (hs : SliceG w B v L) (hn : L.length ≤ 1048576) :
    Calls Try.prog 22 #[v, .int .i64 now] w fun e w' => ∃ v', e = .returned v' ∧ SliceG w' w.heap.size v' (oldG L now) ∧ Below w.heap.size w w' := by
  have KG : Hid (Calls Try.prog 26 #[v] w fun e w' => e = .returned (.bool (grantsB L)) ∧ Below w.heap.size w w') := grantsRight_any v L B w hs hn
  have KT : Hid (∀ W, Calls Try.prog 63 #[.int .i64 now] W fun e w' => e = .returned (.bool (timeG now)) ∧ w' = W) := fun W => isTimeG_any now W
  have KC : Hid (grantsB L = true → ∀ W, Below w.heap.size w W → Calls Try.prog 42 #[v] W fun e w' => ∃ v', e = .returned v' ∧ SliceG w' W.heap.size v' L ∧ Below W.heap.size W w') := fun h W hb => grantCopies_any v L B W (hs.below hb) hn (grants_small h)
  have KD : Hid (grantsB L = true → ∀ (u : Value) (B : Nat) (W : World), SliceG W B u L → B ≤ W.heap.size → Calls Try.prog 41 #[u, .func (.func 45) #[.int .i64 now] #[]] W fun e w' => ∃ v', e = .returned v' ∧ SliceG w' B v' (L.filter (fun g => !!(liveG now g))) ∧ Below B W w') := fun h u B W h1 h2 => deleteOld_any now u B L W h1 h2 (by have := (grantsB_parts h).1; omega) (fun c W _ => outlives_any now c W)
  have HNo : Hid ((grantsB L && timeG now) = false → oldG L now = []) := fun h => by unfold oldG; rw [if_neg (by rw [h]; decide)]
  have HY : Hid ((grantsB L && timeG now) = true → oldG L now = L.filter (fun g => !!(liveG now g))) := fun h => by
    unfold oldG; rw [if_pos h]
    congr 1
    funext g
    rw [Bool.not_not]
  have hmf : ∀ (fn : Fn) (first cap : Array Value) (w : World), (Instr.makeFunc fn first cap).run Try.prog w = .ok (.func fn first cap) w := fun _ _ _ _ => rfl
  clear hs
  generalize oldG L now = Z at *
  generalize L.filter (fun g => !!(liveG now g)) = Y at *
  generalize grantsB L = r1 at *
  generalize timeG now = r2 at *
  go_enter Try.func22, Try.ntmps22
  go_wp2_with fail
  refine KG.out.mono ?_
  rintro e w1 ⟨rfl, hb1⟩
  have B1 : Hid (Below w.heap.size w w1) := hb1
  have hws : w.heap.size ≤ w1.heap.size := hb1.size
  clear hb1 KG
  cases r1 with
  | false =>
    have HZ : Hid (Z = []) := HNo.out rfl
    go_wp2
    go_ret
    exact ⟨_, rfl, by rw [HZ.out]; exact sliceG_none _ _, B1.out⟩
  | true =>
  have KC2 := KC.out rfl
  have KD2 := KD.out rfl
  have KC3 : Hid (∀ W, Below w.heap.size w W → Calls Try.prog 42 #[v] W fun e w' => ∃ v', e = .returned v' ∧ SliceG w' W.heap.size v' L ∧ Below W.heap.size W w') := KC2
  have KD3 : Hid (∀ (u : Value) (B : Nat) (W : World), SliceG W B u L → B ≤ W.heap.size → Calls Try.prog 41 #[u, .func (.func 45) #[.int .i64 now] #[]] W fun e w' => ∃ v', e = .returned v' ∧ SliceG w' B v' Y ∧ Below B W w') := KD2
  clear KC KD KC2 KD2
  go_wp2_with fail
  refine (KT.out _).mono ?_
  rintro e w2 ⟨rfl, rfl⟩
  cases r2 with
  | false =>
    have HZ : Hid (Z = []) := HNo.out rfl
    go_wp2
    go_ret
    exact ⟨_, rfl, by rw [HZ.out]; exact sliceG_none _ _, B1.out⟩
  | true =>
    have HZ : Hid (Z = Y) := HY.out rfl
    go_wp2_with fail
    refine (KC3.out _ B1.out).mono ?_
    rintro e w3 ⟨u3, rfl, hs3, hb3⟩
    have S3 : Hid (SliceG w3 w2.heap.size u3 L) := hs3
    have z3 : w2.heap.size ≤ w3.heap.size := hb3.size
    have B3 : Hid (Below w.heap.size w w3) := B1.out.trans (hb3.mono hws)
    clear hs3 hb3
    go_wp2_with fail
    refine (KD3.out _ _ _ S3.out z3).mono ?_
    rintro e w4 ⟨u4, rfl, hs4, hb4⟩
    have S4 : Hid (SliceG w4 w.heap.size u4 Z) := by show SliceG _ _ _ _; rw [HZ.out]; exact hs4.mono hws
    have B4 : Hid (Below w.heap.size w w4) := B3.out.trans (hb4.mono hws)
    clear hs4 hb4
    go_wp2
    go_ret
    exact ⟨_, rfl, S4.out, B4.out⟩
set_option maxRecDepth 10000 in
set_option maxHeartbeats 4000000 in
theorem grantDrop_any (v : Value) (L : List Gr) (tp si : ByteArray) (B : Nat) (w : World) (hs : SliceG w B v L) (hn : L.length ≤ 1048576) :
    Calls Try.prog 15 #[v, .string tp, .string si] w fun e w' => ∃ v', e = .returned v' ∧ SliceG w' w.heap.size v' (dropL L tp si) ∧ Below w.heap.size w w' := by
  have KG : Hid (∀ W, Below w.heap.size w W → Calls Try.prog 26 #[v] W fun e w' => e = .returned (.bool (grantsB L)) ∧ Below W.heap.size W w') := fun W hb => grantsRight_any v L B W (hs.below hb) hn
  have KR0 : ∀ W, Calls Try.prog 56 #[leaveV tp si] W fun e w' => e = .returned (.bool (siteG tp && siteG si)) ∧ Below W.heap.size W w' := fun W => leaveRight_any tp si W
  have KC : Hid (grantsB L = true → ∀ W, Below w.heap.size w W → Calls Try.prog 42 #[v] W fun e w' => ∃ v', e = .returned v' ∧ SliceG w' W.heap.size v' L ∧ Below W.heap.size W w') := fun h W hb => grantCopies_any v L B W (hs.below hb) hn (grants_small h)
  have KD0 : grantsB L = true → ∀ (u : Value) (B : Nat) (W : World), SliceG W B u L → B ≤ W.heap.size → Calls Try.prog 41 #[u, .func (.func 44) #[leaveV tp si] #[]] W fun e w' => ∃ v', e = .returned v' ∧ SliceG w' B v' (L.filter (fun g => !(isG tp si g))) ∧ Below B W w' := fun h u B W h1 h2 => deleteHas_any tp si u B L W h1 h2 (by have := (grantsB_parts h).1; omega) (fun c W _ => hasG_any tp si c W)
  have HNo : Hid ((grantsB L && (siteG tp && siteG si)) = false → dropL L tp si = []) := fun h => by rw [← Bool.and_assoc] at h; unfold dropL; rw [if_neg (by rw [h]; decide)]
  have HY : Hid ((grantsB L && (siteG tp && siteG si)) = true → dropL L tp si = L.filter (fun g => !(isG tp si g))) := fun h => by rw [← Bool.and_assoc] at h; unfold dropL; rw [if_pos h]
  have hmf : ∀ (fn : Fn) (first cap : Array Value) (w : World), (Instr.makeFunc fn first cap).run Try.prog w = .ok (.func fn first cap) w := fun _ _ _ _ => rfl
  clear hs
  generalize dropL L tp si = Z at *
  generalize L.filter (fun g => !(isG tp si g)) = Y at *
  generalize grantsB L = r1 at *
  generalize (siteG tp && siteG si) = r2 at *
  unfold leaveV at *
  have KR : Hid (∀ W, Calls Try.prog 56 #[.agg #[.string tp, .string si]] W fun e w' => e = .returned (.bool r2) ∧ Below W.heap.size W w') := KR0
  have KD : Hid (r1 = true → ∀ (u : Value) (B : Nat) (W : World), SliceG W B u L → B ≤ W.heap.size → Calls Try.prog 41 #[u, .func (.func 44) #[.agg #[.string tp, .string si]] #[]] W fun e w' => ∃ v', e = .returned v' ∧ SliceG w' B v' Y ∧ Below B W w') := KD0
  clear KR0 KD0
  obtain ⟨W0, hW⟩ : ∃ W0, W0 = w.alloc (.cells #[.string tp, .string si] 60) := ⟨_, rfl⟩
  have hW0 : Hid (W0 = w.alloc (.cells #[.string tp, .string si] 60)) := hW
  have B0 : Hid (Below w.heap.size w W0) := by show Below _ _ _; rw [hW]; exact (Below.refl _ _).alloc (Nat.le_refl _) _
  have g0 : W0.cell? ⟨w.heap.size, 0, none⟩ = some (.string tp) := by rw [hW]; simp
  have g1 : W0.cell? ⟨w.heap.size, 1, none⟩ = some (.string si) := by rw [hW]; simp
  have zw : w.heap.size < W0.heap.size := by rw [hW]; simp
  clear hW
  go_enter Try.func15, Try.ntmps15
  go_upto_region 2 with fail
  rw [← hW0.out]
  clear hW0
  generalize hbb : w.heap.size = b at *
  go_wp2_with fail
  refine (KG.out _ B0.out).mono ?_
  rintro e w1 ⟨rfl, hb1⟩
  have x0 : w1.cell? ⟨b, 0, none⟩ = some (.string tp) := ((bcell hb1).1 _ _ zw).trans g0
  have x1 : w1.cell? ⟨b, 1, none⟩ = some (.string si) := ((bcell hb1).1 _ _ zw).trans g1
  have B1 : Hid (Below b w w1) := B0.out.trans (hb1.mono (Nat.le_of_lt zw))
  have zw1 : b < w1.heap.size := Nat.lt_of_lt_of_le zw hb1.size
  clear hb1 g0 g1 KG B0
  cases r1 with
  | false =>
    have HZ : Hid (Z = []) := HNo.out rfl
    go_wp2
    go_ret
    exact ⟨_, rfl, by rw [HZ.out]; exact sliceG_none _ _, by rw [hbb]; exact B1.out⟩
  | true =>
  have KC2 := KC.out rfl
  have KD2 := KD.out rfl
  have KC3 : Hid (∀ W, Below b w W → Calls Try.prog 42 #[v] W fun e w' => ∃ v', e = .returned v' ∧ SliceG w' W.heap.size v' L ∧ Below W.heap.size W w') := KC2
  have KD3 : Hid (∀ (u : Value) (B : Nat) (W : World), SliceG W B u L → B ≤ W.heap.size → Calls Try.prog 41 #[u, .func (.func 44) #[.agg #[.string tp, .string si]] #[]] W fun e w' => ∃ v', e = .returned v' ∧ SliceG w' B v' Y ∧ Below B W w') := KD2
  clear KC KD KC2 KD2
  go_wp2_with fail
  refine (KR.out _).mono ?_
  rintro e w2 ⟨rfl, hb2⟩
  have y0 : w2.cell? ⟨b, 0, none⟩ = some (.string tp) := ((bcell hb2).1 _ _ zw1).trans x0
  have y1 : w2.cell? ⟨b, 1, none⟩ = some (.string si) := ((bcell hb2).1 _ _ zw1).trans x1
  have B2 : Hid (Below b w w2) := B1.out.trans (hb2.mono (Nat.le_of_lt zw1))
  have zw2 : b < w2.heap.size := Nat.lt_of_lt_of_le zw1 hb2.size
  clear hb2 x0 x1
  cases r2 with
  | false =>
    have HZ : Hid (Z = []) := HNo.out rfl
    go_wp2
    go_ret
    exact ⟨_, rfl, by rw [HZ.out]; exact sliceG_none _ _, by rw [hbb]; exact B2.out⟩
  | true =>
    have HZ : Hid (Z = Y) := HY.out rfl
    go_wp2_with fail
    go_region_held3 (fun w' => w'.cell? ⟨b, 0, none⟩ = some (.string tp) ∧ w'.cell? ⟨b, 1, none⟩ = some (.string si)) (go_keep)
      (first
        | (go_at_call 42; refine (KC3.out _ (B2.out.trans (Below.drew (Below.refl _ _)))).mono ?_; rintro e w3 ⟨u3, rfl, hs3, hb3⟩; have A3 : Below w2.heap.size w2 w3 := (Below.drew (Below.refl _ _)).trans hb3; have m0 : w3.cell? ⟨b, 0, none⟩ = some (.string tp) := ((bcell A3).1 _ _ zw2).trans y0; have m1 : w3.cell? ⟨b, 1, none⟩ = some (.string si) := ((bcell A3).1 _ _ zw2).trans y1)
        | (go_at_call 41; refine (KD3.out _ _ _ hs3 hb3.size).mono ?_; rintro e w4 ⟨u4, rfl, hs4, hb4⟩; have A4 : Below w2.heap.size w2 w4 := A3.trans hb4; have n0 : w4.cell? ⟨b, 0, none⟩ = some (.string tp) := ((bcell A4).1 _ _ zw2).trans y0; have n1 : w4.cell? ⟨b, 1, none⟩ = some (.string si) := ((bcell A4).1 _ _ zw2).trans y1))
    all_goals
      have S4 : Hid (SliceG w4 b u4 Z) := by show SliceG _ _ _ _; rw [HZ.out]; exact hs4.mono (Nat.le_of_lt zw2)
      have B4 : Hid (Below b w w4) := B2.out.trans (A4.mono (Nat.le_of_lt zw2))
    all_goals go_wp2
    all_goals go_ret
    all_goals exact ⟨_, rfl, by rw [hbb]; exact S4.out, by rw [hbb]; exact B4.out⟩
end Go.Proofs.Ytecaeolgheefmaa

/- The walk of the program's GrantPut. -/
namespace Go.Proofs.Ytecaeolgheefmaa
open Go.RowKit

theorem restG_eq (L : List Gr) (tp si : ByteArray) (now : Int) : L.filter (fun g => !(isG tp si g || !(liveG now g))) = restG L tp si now := by
  unfold restG
  rw [List.filter_filter]
  congr 1
  funext g
  cases isG tp si g <;> cases liveG now g <;> rfl
theorem insG_split {L : List Gr} {x : Gr} (hr : RiseG L) (ha : ∀ y, y ∈ L → grLess y x = true ∨ grLess x y = true) : L = L.filter (fun e => grLess e x) ++ L.filter (fun e => grLess x e) := by
  induction L with
  | nil => rfl
  | cons a L ih =>
    obtain ⟨h1, h2⟩ := List.pairwise_cons.1 hr
    have ih2 := ih h2 (fun y hy => ha y (List.mem_cons_of_mem _ hy))
    rcases ha a (by simp) with h | h
    · rw [List.filter_cons_of_pos (p := fun e => grLess e x) h, List.filter_cons_of_neg (p := fun e => grLess x e) (by rw [grLess_asymm h]; decide), List.cons_append, ← ih2]
    · have hall : ∀ y, y ∈ L → grLess x y = true := fun y hy => grLess_trans h (h1 y hy)
      rw [List.filter_cons_of_neg (p := fun e => grLess e x) (by rw [grLess_asymm h]; decide), List.filter_cons_of_pos (p := fun e => grLess x e) h, List.filter_eq_nil_iff.2 (fun y hy => by rw [grLess_asymm (hall y hy)]; decide), List.filter_eq_self.2 hall, List.nil_append]
/-- putting one into its place -/
theorem orderIns_any (L : List Gr) (x : Gr) (v : Value) (B : Nat) (w : World) (hv : PlacedG v) (hs : SliceG w B v L) (hn : L.length ≤ 100) (hr : RiseG L) (ha : ∀ y, y ∈ L → grLess y x = true ∨ grLess x y = true) :
    Calls Try.prog 47 #[v, grV x, .func (.func 48) #[] #[]] w fun e w' => ∃ v', e = .returned v' ∧ SliceG w' w.heap.size v' (insG L x) ∧ Below w.heap.size w w' := by
  have e := insG_split hr ha
  have hs2 : SliceG w B v (L.filter (fun e => grLess e x) ++ L.filter (fun e => grLess x e)) := by rw [← e]; exact hs
  refine orderG_any _ _ x v B w hv hs2 (by rw [← e]; exact hn) (fun d hd => ?_) (fun d hd => ?_)
  · have h := (List.mem_filter.1 hd).2
    have := ordG_pos d x
    rw [grLess_asymm h, decide_eq_false_iff_not] at this
    omega
  · have h := (List.mem_filter.1 hd).2
    have := ordG_pos d x
    rw [h, decide_eq_true_eq] at this
    exact this
set_option maxRecDepth 10000 in
set_option maxHeartbeats 8000000 in
theorem grantPut_any (v : Value) (L : List Gr) (tp si : ByteArray) (now : Int) (B : Nat) (w : World) (hs : SliceG w B v L) (hn : L.length ≤ 1048576) (h1 : tp.size ≤ 1048576) (h2 : si.size ≤ 1048576) :
    Calls Try.prog 11 #[v, .string tp, .string si, .int .i64 now] w fun e w' => ∃ v', e = .returned v' ∧ AnsG w' w.heap.size v' (putG L tp si now) ∧ Below w.heap.size w w' := by
  have KM0 : ∀ W, Below w.heap.size w W → Calls Try.prog 40 #[v, leaveV tp si, .int .i64 now] W fun e w' => e = .returned (.bool (mayG L tp si now)) ∧ Below W.heap.size W w' := fun W hb => mayAsk_any v L tp si now B W (hs.below hb) hn
  have KC : Hid (mayG L tp si now = true → ∀ W, Below w.heap.size w W → Calls Try.prog 42 #[v] W fun e w' => ∃ v', e = .returned v' ∧ (SliceG w' W.heap.size v' L ∧ PlacedG v') ∧ Below W.heap.size W w') := fun h W hb => grantCopiesP_any v L B W (hs.below hb) hn (grants_small (mayG_parts h).1)
  have KD : Hid (mayG L tp si now = true → ∀ (b1 b2 : Nat) (u : Value) (B : Nat) (W : World), SliceG W B u L → B ≤ W.heap.size → b1 < B → b2 < B → W.cell? ⟨b1, 0, none⟩ = some (.string tp) → W.cell? ⟨b1, 1, none⟩ = some (.string si) → W.cell? ⟨b2, 0, none⟩ = some (.int .i64 now) → Calls Try.prog 41 #[u, .func (.func 43) #[] #[.pointer (some ⟨b1, 0, none⟩), .pointer (some ⟨b2, 0, none⟩)]] W fun e w' => ∃ v', e = .returned v' ∧ (SliceG w' B v' (restG L tp si now) ∧ (PlacedG u → PlacedG v')) ∧ Below B W w') := fun h b1 b2 u B W s1 s2 z1 z2 c0 c1 c2 => by
    have := deletePut_any b1 b2 (fun c => isG tp si c || !(liveG now c)) u B L W s1 s2 (by have := (grantsB_parts (mayG_parts h).1).1; omega) (fun c W' hb => put1_any b1 b2 tp si now c W' (by have := hb.size; omega) (by have := hb.size; omega) ((hb.cell (p := ⟨b1, 0, none⟩) z1).trans c0) ((hb.cell (p := ⟨b1, 1, none⟩) z1).trans c1) ((hb.cell (p := ⟨b2, 0, none⟩) z2).trans c2))
    rw [restG_eq] at this
    exact this
  have KX0 : mayG L tp si now = true → ∀ W, Calls Try.prog 46 #[grV (newG tp si now)] W fun e w' => e = .returned (grV (newG tp si now)) ∧ Below W.heap.size W w' := fun h W => grantCopy_any (newG tp si now) W (by have := (siteG_size (mayG_parts h).2.1).2; show tp.size ≤ _; omega) (by have := (siteG_size (mayG_parts h).2.2.1).2; show si.size ≤ _; omega)
  have KI0 : mayG L tp si now = true → ∀ (u : Value) (B : Nat) (W : World), PlacedG u → SliceG W B u (restG L tp si now) → Calls Try.prog 47 #[u, grV (newG tp si now), .func (.func 48) #[] #[]] W fun e w' => ∃ v', e = .returned v' ∧ SliceG w' W.heap.size v' (insG (restG L tp si now) (newG tp si now)) ∧ Below W.heap.size W w' := fun h u B W p s => orderIns_any _ _ u B W p s (by have a := (grantsB_parts (mayG_parts h).1).1; have b := restG_len L tp si now; omega) (rise_filterG (rise_filterG (grants_rise (mayG_parts h).1) _) _) rest_apart
  have HL8 : Hid (mayG L tp si now = true → (restG L tp si now).length ≤ 8 ∧ 0 ≤ now ∧ now ≤ 1000000) := fun h => by
    have a := (grantsB_parts (mayG_parts h).1).1
    have b := restG_len L tp si now
    have t := (mayG_parts h).2.2.2
    unfold timeG at t
    simp only [Bool.and_eq_true, decide_eq_true_eq] at t
    exact ⟨by omega, t.1, t.2⟩
  have HF : Hid (fitsG L tp si = (decide (L.length ≤ 400) && decide (tp.size ≤ 8000) && decide (si.size ≤ 8000))) := rfl
  have HNo : Hid (fitsG L tp si = false → putG L tp si now = noG 2) := fun h => by unfold putG; rw [show beginG L tp si now = 2 by unfold beginG; rw [if_neg (by rw [h]; decide)]]; rfl
  have HN1 : Hid (fitsG L tp si = true → mayG L tp si now = false → putG L tp si now = noG 1) := fun h h2 => by unfold putG; rw [show beginG L tp si now = 1 by unfold beginG; rw [if_pos h, if_neg (by rw [h2]; decide)]]; rfl
  have HN9 : Hid (mayG L tp si now = true → ¬ (restG L tp si now).length < 8 → putG L tp si now = noG 9) := fun h h2 => by unfold putG; rw [if_pos (begin_may h)]; unfold putR; rw [if_neg h2]
  have HY : Hid (mayG L tp si now = true → (restG L tp si now).length < 8 → putG L tp si now = ⟨insG (restG L tp si now) (newG tp si now), false, 0⟩) := fun h h2 => by unfold putG; rw [if_pos (begin_may h)]; unfold putR; rw [if_pos h2]
  have hmf : ∀ (fn : Fn) (first cap : Array Value) (w : World), (Instr.makeFunc fn first cap).run Try.prog w = .ok (.func fn first cap) w := fun _ _ _ _ => rfl
  have HU : Hid (untilG now = if now + 30 ≤ 1000000 then now + 30 else 1000000) := rfl
  unfold newG at KX0 KI0 HY
  obtain ⟨⟨q, cap, rfl, -⟩, -⟩ := hs
  generalize putG L tp si now = Z at *
  generalize insG (restG L tp si now) ⟨tp, si, untilG now⟩ = YI at *
  generalize restG L tp si now = Y at *
  generalize untilG now = un at *
  unfold grV leaveV at *
  dsimp only at *
  have KX : Hid (mayG L tp si now = true → ∀ W, Calls Try.prog 46 #[.agg #[.string tp, .string si, .int .i64 un]] W fun e w' => e = .returned (.agg #[.string tp, .string si, .int .i64 un]) ∧ Below W.heap.size W w') := KX0
  have KI : Hid (mayG L tp si now = true → ∀ (u : Value) (B : Nat) (W : World), PlacedG u → SliceG W B u Y → Calls Try.prog 47 #[u, .agg #[.string tp, .string si, .int .i64 un], .func (.func 48) #[] #[]] W fun e w' => ∃ v', e = .returned v' ∧ SliceG w' W.heap.size v' YI ∧ Below W.heap.size W w') := KI0
  have KM : Hid (∀ W, Below w.heap.size w W → Calls Try.prog 40 #[.slice q L.length cap, .agg #[.string tp, .string si], .int .i64 now] W fun e w' => e = .returned (.bool (mayG L tp si now)) ∧ Below W.heap.size W w') := KM0
  clear KX0 KI0 KM0
  generalize mayG L tp si now = my at *
  obtain ⟨W0, hW⟩ : ∃ W0, W0 = (w.alloc (.cells #[.int .i64 now] 2)).alloc (.cells #[.slice none 0 0, .bool false, .int .i64 0] 27) := ⟨_, rfl⟩
  have hW0 : Hid (W0 = (w.alloc (.cells #[.int .i64 now] 2)).alloc (.cells #[.slice none 0 0, .bool false, .int .i64 0] 27)) := hW
  have B0 : Hid (Below w.heap.size w W0) := by show Below _ _ _; rw [hW]; exact ((Below.refl _ _).alloc (Nat.le_refl _) _).alloc (by simp) _
  have n0 : W0.cell? ⟨w.heap.size, 0, none⟩ = some (.int .i64 now) := by rw [hW]; simp
  have X0 : Hid (BoxG W0 (w.heap.size + 1)) := by
    show BoxG _ _
    rw [hW]
    have := boxG_made (w.alloc (.cells #[.int .i64 now] 2)) 27
    simpa using this
  have z0 : w.heap.size + 1 < W0.heap.size := by rw [hW]; simp
  clear hW
  by_cases c1 : 400 < L.length
  case pos =>
    have HR : Hid (Z = noG 2) := HNo.out (by rw [HF.out, decide_eq_false (by omega)]; rfl)
    have q1 : decide ((400 : Int) < (L.length : Int)) = true := by rw [decide_eq_true_iff]; omega
    obtain ⟨x0, x1, x2, f0, f1, f2, hlt⟩ := X0.out
    go_enter Try.func11, Try.ntmps11
    go_upto_region 1 with fail
    rw [← hW0.out]
    clear hW0
    go_wp2
    refine bodyPost_ret (v := .agg #[.slice none 0 0, .bool false, .int .i64 2]) (by simp [results, Try.results11, go_sem, x0, x1, x2]) rfl ⟨_, rfl, ⟨_, by rw [HR.out]; rfl, by rw [HR.out]; exact sliceG_none _ _⟩, B0.out.trans ((store3G_below (Below.refl (w.heap.size + 1) W0)).mono (by omega))⟩
  have q1 : decide ((400 : Int) < (L.length : Int)) = false := by rw [decide_eq_false_iff_not]; omega
  by_cases c2 : 8000 < tp.size
  case pos =>
    have HR : Hid (Z = noG 2) := HNo.out (by rw [HF.out, decide_eq_false (p := tp.size ≤ 8000) (by omega), Bool.and_false]; rfl)
    have q2 : decide ((8000 : Int) < (tp.size : Int)) = true := by rw [decide_eq_true_iff]; omega
    obtain ⟨x0, x1, x2, f0, f1, f2, hlt⟩ := X0.out
    go_enter Try.func11, Try.ntmps11
    go_upto_region 1 with fail
    rw [← hW0.out]
    clear hW0
    go_wp2
    refine bodyPost_ret (v := .agg #[.slice none 0 0, .bool false, .int .i64 2]) (by simp [results, Try.results11, go_sem, x0, x1, x2]) rfl ⟨_, rfl, ⟨_, by rw [HR.out]; rfl, by rw [HR.out]; exact sliceG_none _ _⟩, B0.out.trans ((store3G_below (Below.refl (w.heap.size + 1) W0)).mono (by omega))⟩
  have q2 : decide ((8000 : Int) < (tp.size : Int)) = false := by rw [decide_eq_false_iff_not]; omega
  by_cases c3 : 8000 < si.size
  case pos =>
    have HR : Hid (Z = noG 2) := HNo.out (by rw [HF.out, decide_eq_false (p := si.size ≤ 8000) (by omega), Bool.and_false])
    have q3 : decide ((8000 : Int) < (si.size : Int)) = true := by rw [decide_eq_true_iff]; omega
    obtain ⟨x0, x1, x2, f0, f1, f2, hlt⟩ := X0.out
    go_enter Try.func11, Try.ntmps11
    go_upto_region 1 with fail
    rw [← hW0.out]
    clear hW0
    go_wp2
    refine bodyPost_ret (v := .agg #[.slice none 0 0, .bool false, .int .i64 2]) (by simp [results, Try.results11, go_sem, x0, x1, x2]) rfl ⟨_, rfl, ⟨_, by rw [HR.out]; rfl, by rw [HR.out]; exact sliceG_none _ _⟩, B0.out.trans ((store3G_below (Below.refl (w.heap.size + 1) W0)).mono (by omega))⟩
  have q3 : decide ((8000 : Int) < (si.size : Int)) = false := by rw [decide_eq_false_iff_not]; omega
  have HN1b : Hid (my = false → Z = noG 1) := HN1.out (by rw [HF.out, decide_eq_true (by omega), decide_eq_true (by omega), decide_eq_true (by omega)]; rfl)
  clear HF HNo HN1 c1 c2 c3
  obtain ⟨W1, hV⟩ : ∃ W1, W1 = W0.alloc (.cells #[.string tp, .string si] 60) := ⟨_, rfl⟩
  have hW1 : Hid (W1 = W0.alloc (.cells #[.string tp, .string si] 60)) := hV
  have A1 : Below W0.heap.size W0 W1 := by rw [hV]; exact (Below.refl _ _).alloc (Nat.le_refl _) _
  have B1 : Hid (Below w.heap.size w W1) := B0.out.trans (A1.mono B0.out.size)
  have l0 : W1.cell? ⟨W0.heap.size, 0, none⟩ = some (.string tp) := by rw [hV]; simp
  have l1 : W1.cell? ⟨W0.heap.size, 1, none⟩ = some (.string si) := by rw [hV]; simp
  have n1 : W1.cell? ⟨w.heap.size, 0, none⟩ = some (.int .i64 now) := ((bcell A1).1 _ _ (by omega)).trans n0
  have X1 : Hid (BoxG W1 (w.heap.size + 1)) := X0.out.below A1
  have zl : W0.heap.size < W1.heap.size := by rw [hV]; simp
  clear hV A1 X0 B0 n0
  go_enter Try.func11, Try.ntmps11
  go_upto_region 1 with fail
  rw [← hW0.out]
  clear hW0
  go_upto_region 4 with fail
  rw [← hW1.out]
  clear hW1
  generalize hbl : W0.heap.size = bl at *
  generalize hbb : w.heap.size = b at *
  go_wp2_with fail
  refine (KM.out _ B1.out).mono ?_
  rintro e w2 ⟨rfl, hb2⟩
  have B2 : Hid (Below b w w2) := B1.out.trans (hb2.mono (by omega))
  have X2 : Hid (BoxG w2 (b + 1)) := X1.out.below hb2
  have m0 : w2.cell? ⟨bl, 0, none⟩ = some (.string tp) := ((bcell hb2).1 _ _ zl).trans l0
  have m1 : w2.cell? ⟨bl, 1, none⟩ = some (.string si) := ((bcell hb2).1 _ _ zl).trans l1
  have m2 : w2.cell? ⟨b, 0, none⟩ = some (.int .i64 now) := ((bcell hb2).1 _ _ (by omega)).trans n1
  have z2 : bl < w2.heap.size := Nat.lt_of_lt_of_le zl hb2.size
  clear hb2 l0 l1 n1 X1 B1 KM
  cases my with
  | false =>
    have HR : Hid (Z = noG 1) := HN1b.out rfl
    obtain ⟨x0, x1, x2, f0, f1, f2, hlt⟩ := X2.out
    go_wp2
    refine bodyPost_ret (v := .agg #[.slice none 0 0, .bool false, .int .i64 1]) (by simp [results, Try.results11, go_sem, x0, x1, x2]) rfl ⟨_, rfl, ⟨_, by rw [HR.out]; rfl, by rw [HR.out]; exact sliceG_none _ _⟩, by rw [hbb]; exact B2.out.trans ((store3G_below (Below.refl (b + 1) w2)).mono (by omega))⟩
  | true =>
  obtain ⟨hY8, hno0, hno1⟩ := HL8.out rfl
  have KC2 := KC.out rfl
  have KD2 := KD.out rfl
  have KX2 := KX.out rfl
  have KI2 := KI.out rfl
  have HN92 := HN9.out rfl
  have HY2 := HY.out rfl
  have KC3 : Hid (∀ W, Below b w W → Calls Try.prog 42 #[.slice q L.length cap] W fun e w' => ∃ v', e = .returned v' ∧ (SliceG w' W.heap.size v' L ∧ PlacedG v') ∧ Below W.heap.size W w') := KC2
  have KD3 : Hid (∀ (b1 b2 : Nat) (u : Value) (B : Nat) (W : World), SliceG W B u L → B ≤ W.heap.size → b1 < B → b2 < B → W.cell? ⟨b1, 0, none⟩ = some (.string tp) → W.cell? ⟨b1, 1, none⟩ = some (.string si) → W.cell? ⟨b2, 0, none⟩ = some (.int .i64 now) → Calls Try.prog 41 #[u, .func (.func 43) #[] #[.pointer (some ⟨b1, 0, none⟩), .pointer (some ⟨b2, 0, none⟩)]] W fun e w' => ∃ v', e = .returned v' ∧ (SliceG w' B v' Y ∧ (PlacedG u → PlacedG v')) ∧ Below B W w') := KD2
  have KX3 : Hid (∀ W, Calls Try.prog 46 #[.agg #[.string tp, .string si, .int .i64 un]] W fun e w' => e = .returned (.agg #[.string tp, .string si, .int .i64 un]) ∧ Below W.heap.size W w') := KX2
  have KI3 : Hid (∀ (u : Value) (B : Nat) (W : World), PlacedG u → SliceG W B u Y → Calls Try.prog 47 #[u, .agg #[.string tp, .string si, .int .i64 un], .func (.func 48) #[] #[]] W fun e w' => ∃ v', e = .returned v' ∧ SliceG w' W.heap.size v' YI ∧ Below W.heap.size W w') := KI2
  have HN93 : Hid (¬ Y.length < 8 → Z = noG 9) := HN92
  have HY3 : Hid (Y.length < 8 → Z = ⟨YI, false, 0⟩) := HY2
  clear KC KD KX KI HN9 HY HL8 HN1b KC2 KD2 KX2 KI2 HN92 HY2
  go_wp2_with fail
  refine (KC3.out _ B2.out).mono ?_
  rintro e w3 ⟨u3, rfl, ⟨hs3, hp3⟩, hb3⟩
  have S3 : Hid (SliceG w3 w2.heap.size u3 L) := hs3
  have P3 : Hid (PlacedG u3) := hp3
  have X3 : Hid (BoxG w3 (b + 1)) := X2.out.below hb3
  have B3 : Hid (Below b w w3) := B2.out.trans (hb3.mono (by omega))
  have k0 : w3.cell? ⟨bl, 0, none⟩ = some (.string tp) := ((bcell hb3).1 _ _ z2).trans m0
  have k1 : w3.cell? ⟨bl, 1, none⟩ = some (.string si) := ((bcell hb3).1 _ _ z2).trans m1
  have k2 : w3.cell? ⟨b, 0, none⟩ = some (.int .i64 now) := ((bcell hb3).1 _ _ (by omega)).trans m2
  have z3 : w2.heap.size ≤ w3.heap.size := hb3.size
  clear hs3 hp3 hb3 m0 m1 m2 X2 B2
  go_wp2_with fail
  refine (KD3.out bl b _ _ _ S3.out z3 z2 (by omega) k0 k1 k2).mono ?_
  rintro e w4 ⟨u4, rfl, ⟨hs4, hp4⟩, hb4⟩
  have S4 : Hid (SliceG w4 w2.heap.size u4 Y) := hs4
  have P4 : Hid (PlacedG u4) := hp4 P3.out
  have X4 : Hid (BoxG w4 (b + 1)) := X3.out.of_block (hb4.block _ (by omega)) hb4.size
  have B4 : Hid (Below b w w4) := B3.out.trans (hb4.mono (by omega))
  have j2 : w4.cell? ⟨b, 0, none⟩ = some (.int .i64 now) := (hb4.cell (p := ⟨b, 0, none⟩) (show b < w2.heap.size by omega)).trans k2
  have z4 : w2.heap.size ≤ w4.heap.size := Nat.le_trans z3 hb4.size
  obtain ⟨pu, cu, hu4⟩ : ∃ pu cu, u4 = .slice pu Y.length cu := by obtain ⟨⟨p, c, e, -⟩, -⟩ := hs4; exact ⟨p, c, e⟩
  clear hs4 hp4 hb4 k0 k1 k2 X3 B3 S3 P3 KD3 KC3
  subst hu4
  by_cases h8 : Y.length < 8
  case neg =>
    have HR : Hid (Z = noG 9) := HN93.out h8
    have e8 : Y.length = 8 := by omega
    have q8 : ((Y.length : Int) == 8) = true := by rw [beq_iff_eq]; omega
    obtain ⟨x0, x1, x2, f0, f1, f2, hlt⟩ := X4.out
    clear h8
    rw [e8] at *
    go_wp2
    refine bodyPost_ret (v := .agg #[.slice none 0 0, .bool false, .int .i64 9]) (by simp [results, Try.results11, go_sem, x0, x1, x2]) rfl ⟨_, rfl, ⟨_, by rw [HR.out]; rfl, by rw [HR.out]; exact sliceG_none _ _⟩, by rw [hbb]; exact B4.out.trans ((store3G_below (Below.refl (b + 1) w4)).mono (by omega))⟩
  have HR : Hid (Z = ⟨YI, false, 0⟩) := HY3.out h8
  have q8 : ((Y.length : Int) == 8) = false := by rw [beq_eq_false_iff_ne]; omega
  have hwr : IntKind.i64.wrap (now + 30) = now + 30 := by rw [IntKind.wrap_i64]; omega
  have hmin : ∀ (ts : Array TypeId) (ty : TypeId) (W : World), (Builtin.min_ ts ty #[.int .i64 (now + 30), .int .i64 1000000]).run Try.prog W = .ok (.int .i64 un) W := fun ts ty W => by
    have e : un = if 1000000 < now + 30 then 1000000 else now + 30 := by
      rw [HU.out]
      by_cases hc : now + 30 ≤ 1000000
      · rw [if_pos hc, if_neg (by omega)]
      · rw [if_neg hc, if_pos (by omega)]
    rw [e]
    simp [Builtin.min_, Builtin.min2, List.foldlM]
  clear HN93 HY3 HU
  go_wp2_with fail
  refine (KX3.out _).mono ?_
  rintro e w5 ⟨rfl, hb5⟩
  obtain ⟨W6, hV6⟩ : ∃ W6, W6 = w5.alloc (.cells #[.string tp, .string si, .int .i64 un] 64) := ⟨_, rfl⟩
  have hW6 : Hid (W6 = w5.alloc (.cells #[.string tp, .string si, .int .i64 un] 64)) := hV6
  have A6 : Below w4.heap.size w4 W6 := hb5.trans (by rw [hV6]; exact ((Below.refl _ _).alloc (Nat.le_refl _) _).mono hb5.size)
  have S6 : Hid (SliceG W6 w2.heap.size (.slice pu Y.length cu) Y) := S4.out.below A6
  have X6 : Hid (BoxG W6 (b + 1)) := X4.out.below A6
  have B6 : Hid (Below b w W6) := B4.out.trans (A6.mono (by omega))
  have i0 : W6.cell? ⟨w5.heap.size, 0, none⟩ = some (.string tp) := by rw [hV6]; simp
  have i1 : W6.cell? ⟨w5.heap.size, 1, none⟩ = some (.string si) := by rw [hV6]; simp
  have i2 : W6.cell? ⟨w5.heap.size, 2, none⟩ = some (.int .i64 un) := by rw [hV6]; simp
  have z6 : w2.heap.size ≤ W6.heap.size := Nat.le_trans z4 A6.size
  clear hV6 A6 hb5 S4 X4 B4 j2
  go_upto_region 10 with fail
  rw [← hW6.out]
  clear hW6
  go_wp2_with fail
  refine (KI3.out _ _ _ P4.out S6.out).mono ?_
  rintro e w7 ⟨u7, rfl, hs7, hb7⟩
  have S7 : Hid (SliceG w7 W6.heap.size u7 YI) := hs7
  have B7 : Hid (Below b w w7) := B6.out.trans (hb7.mono (by omega))
  obtain ⟨x0, x1, x2, f0, f1, f2, hlt⟩ := X6.out.below hb7
  obtain ⟨pq, cq, hu7⟩ : ∃ pq cq, u7 = .slice pq YI.length cq := by obtain ⟨⟨p, c, e, -⟩, -⟩ := hs7; exact ⟨p, c, e⟩
  clear hs7 hb7 S6 X6 B6
  subst hu7
  go_wp2
  refine bodyPost_ret (v := .agg #[.slice pq YI.length cq, .bool false, .int .i64 0]) (by simp [results, Try.results11, go_sem, x0, x1, x2]) rfl ⟨_, rfl, ⟨_, by rw [HR.out], by rw [HR.out, hbb]; exact (S7.out.store3 (by omega)).mono (by omega)⟩, by rw [hbb]; exact B7.out.trans ((store3G_below (Below.refl (b + 1) w7)).mono (by omega))⟩
end Go.Proofs.Ytecaeolgheefmaa

/- The walks of the program's verdicts: code at each of the three, and toldOf. Written by impltold.py. -/
namespace Go.Proofs.Ytecaeolgheefmaa
open Go.RowKit

/-- what is told of an asking -/
inductive Verd where
  | no (c : Int)
  | same (p : Option Addr) (n c : Nat)
  | done (p : Option Addr) (n c : Nat) (us : Bool) (co : Int)
def verdV : Verd → Value
  | .no c => .iface 108 (.agg #[.int .i64 c])
  | .same p n c => .iface 104 (.agg #[.slice p n c])
  | .done p n c us co => .iface 106 (.agg #[.slice p n c, .bool us, .int .i64 co])
def toldV : Verd → Value
  | .no c => .agg #[.slice none 0 0, .bool false, .int .i64 c]
  | .same p n c => .agg #[.slice p n c, .bool false, .int .i64 0]
  | .done p n c _ co => .agg #[.slice p n c, .bool true, .int .i64 co]
set_option maxRecDepth 10000 in
set_option maxHeartbeats 1000000 in
theorem code_refused (c : Int) (w : World) : Calls Try.prog 109 #[.agg #[.int .i64 c]] w fun e w' => e = .returned (.int .i64 c) ∧ Below w.heap.size w w' := by
  go_enter Try.func109, Try.ntmps109
  go_wp2
  go_ret
  exact ⟨rfl, (Below.refl _ _).alloc (Nat.le_refl _) _⟩
set_option maxRecDepth 10000 in
set_option maxHeartbeats 1000000 in
theorem code_unchanged (p : Option Addr) (n c : Nat) (w : World) : Calls Try.prog 107 #[.agg #[.slice p n c]] w fun e w' => e = .returned (.int .i64 0) ∧ Below w.heap.size w w' := by
  go_enter Try.func107, Try.ntmps107
  go_wp2
  go_ret
  exact ⟨rfl, (Below.refl _ _).alloc (Nat.le_refl _) _⟩
set_option maxRecDepth 10000 in
set_option maxHeartbeats 1000000 in
theorem code_decided (p : Option Addr) (n c : Nat) (us : Bool) (co : Int) (w : World) : Calls Try.prog 108 #[.agg #[.slice p n c, .bool us, .int .i64 co]] w fun e w' => e = .returned (.int .i64 co) ∧ Below w.heap.size w w' := by
  go_enter Try.func108, Try.ntmps108
  go_wp2
  go_ret
  exact ⟨rfl, (Below.refl _ _).alloc (Nat.le_refl _) _⟩
set_option maxRecDepth 10000 in
set_option maxHeartbeats 4000000 in
theorem told_refused (c : Int) (w : World) : Calls Try.prog 54 #[verdV (.no c)] w fun e w' => e = .returned (toldV (.no c)) ∧ Below w.heap.size w w' := by
  show Calls _ _ #[.iface 108 (.agg #[.int .i64 c])] _ (fun e w' => e = .returned (.agg #[.slice none 0 0, .bool false, .int .i64 c]) ∧ _)
  have hm : ∀ w, (method 234 108 (.agg #[.int .i64 c]) "loop.example/g00551/impl.code").run Try.prog w = .ok (109, .agg #[.int .i64 c]) w := fun _ => by kernel_rfl
  have ha0 : ∀ W, (Instr.typeAssert (.iface 108 (.agg #[.int .i64 c])) 79 104 true).run Try.prog W = .ok (.tuple #[.agg #[.slice none 0 0], .bool false]) W := fun _ => by kernel_rfl
  have ha1 : ∀ W, (Instr.typeAssert (.iface 108 (.agg #[.int .i64 c])) 79 106 true).run Try.prog W = .ok (.tuple #[.agg #[.slice none 0 0, .bool false, .int .i64 0], .bool false]) W := fun _ => by kernel_rfl
  have KC : Hid (∀ W, Calls Try.prog 109 #[.agg #[.int .i64 c]] W fun e w' => e = .returned (.int .i64 c) ∧ Below W.heap.size W w') := fun W => code_refused c W
  obtain ⟨W0, hW⟩ : ∃ W0, W0 = w.alloc (.cells #[.slice none 0 0, .bool false, .int .i64 0] 27) := ⟨_, rfl⟩
  have hW0 : Hid (W0 = w.alloc (.cells #[.slice none 0 0, .bool false, .int .i64 0] 27)) := hW
  have B0 : Hid (Below w.heap.size w W0) := by show Below _ _ _; rw [hW]; exact (Below.refl _ _).alloc (Nat.le_refl _) _
  have X0 : Hid (BoxG W0 w.heap.size) := by show BoxG _ _; rw [hW]; exact boxG_made w _
  have z0 : w.heap.size < W0.heap.size := by rw [hW]; simp
  clear hW
  go_enter Try.func54, Try.ntmps54
  go_upto_region 1 with fail
  rw [← hW0.out]
  clear hW0
  generalize hbb : w.heap.size = b at *
  go_wp2_with fail
  refine (KC.out _).mono ?_
  rintro e w1 ⟨rfl, hb1⟩
  obtain ⟨W2, hV⟩ : ∃ W2, W2 = w1.alloc (.cells #[.slice none 0 0, .bool false, .int .i64 c] 27) := ⟨_, rfl⟩
  have hW2 : Hid (W2 = w1.alloc (.cells #[.slice none 0 0, .bool false, .int .i64 c] 27)) := hV
  have A2 : Below w1.heap.size w1 W2 := by rw [hV]; exact (Below.refl _ _).alloc (Nat.le_refl _) _
  have B2 : Hid (Below b w W2) := (B0.out.trans (hb1.mono (Nat.le_of_lt z0))).trans (A2.mono (Nat.le_of_lt (Nat.lt_of_lt_of_le z0 hb1.size)))
  have X2 : Hid (BoxG W2 b) := (X0.out.below hb1).below A2
  have t0 : W2.cell? ⟨w1.heap.size, 0, none⟩ = some (.slice none 0 0) := by rw [hV]; simp
  have t1 : W2.cell? ⟨w1.heap.size, 1, none⟩ = some (.bool false) := by rw [hV]; simp
  have t2 : W2.cell? ⟨w1.heap.size, 2, none⟩ = some (.int .i64 c) := by rw [hV]; simp
  have g0 : W2.frozen? ⟨w1.heap.size, 0, none⟩ = false := by rw [hV]; simp
  have g1 : W2.frozen? ⟨w1.heap.size, 1, none⟩ = false := by rw [hV]; simp
  have hbt : b < w1.heap.size := Nat.lt_of_lt_of_le z0 hb1.size
  have zt : w1.heap.size < W2.heap.size := by rw [hV]; simp
  clear hV A2 hb1 B0 X0 z0 KC
  go_upto_region 2 with fail
  rw [← hW2.out]
  clear hW2
  generalize w1.heap.size = bt at *
  have hne : ¬ b = bt := by omega
  have hne2 : ¬ bt = b := by omega
  obtain ⟨x0, x1, x2, f0, f1, f2, hlt⟩ := X2.out
  go_wp2
  refine bodyPost_ret (v := .agg #[.slice none 0 0, .bool false, .int .i64 c]) (by simp [results, Try.results54, go_sem, x0, x1, x2]) rfl ⟨rfl, by rw [hbb]; exact store3G_below B2.out⟩
set_option maxRecDepth 10000 in
set_option maxHeartbeats 4000000 in
theorem told_unchanged (p : Option Addr) (n c : Nat) (w : World) : Calls Try.prog 54 #[verdV (.same p n c)] w fun e w' => e = .returned (toldV (.same p n c)) ∧ Below w.heap.size w w' := by
  show Calls _ _ #[.iface 104 (.agg #[.slice p n c])] _ (fun e w' => e = .returned (.agg #[.slice p n c, .bool false, .int .i64 0]) ∧ _)
  have hm : ∀ w, (method 234 104 (.agg #[.slice p n c]) "loop.example/g00551/impl.code").run Try.prog w = .ok (107, .agg #[.slice p n c]) w := fun _ => by kernel_rfl
  have ha0 : ∀ W, (Instr.typeAssert (.iface 104 (.agg #[.slice p n c])) 79 104 true).run Try.prog W = .ok (.tuple #[.agg #[.slice p n c], .bool true]) W := fun _ => by kernel_rfl
  have KC : Hid (∀ W, Calls Try.prog 107 #[.agg #[.slice p n c]] W fun e w' => e = .returned (.int .i64 0) ∧ Below W.heap.size W w') := fun W => code_unchanged p n c W
  obtain ⟨W0, hW⟩ : ∃ W0, W0 = w.alloc (.cells #[.slice none 0 0, .bool false, .int .i64 0] 27) := ⟨_, rfl⟩
  have hW0 : Hid (W0 = w.alloc (.cells #[.slice none 0 0, .bool false, .int .i64 0] 27)) := hW
  have B0 : Hid (Below w.heap.size w W0) := by show Below _ _ _; rw [hW]; exact (Below.refl _ _).alloc (Nat.le_refl _) _
  have X0 : Hid (BoxG W0 w.heap.size) := by show BoxG _ _; rw [hW]; exact boxG_made w _
  have z0 : w.heap.size < W0.heap.size := by rw [hW]; simp
  clear hW
  go_enter Try.func54, Try.ntmps54
  go_upto_region 1 with fail
  rw [← hW0.out]
  clear hW0
  generalize hbb : w.heap.size = b at *
  go_wp2_with fail
  refine (KC.out _).mono ?_
  rintro e w1 ⟨rfl, hb1⟩
  obtain ⟨W2, hV⟩ : ∃ W2, W2 = w1.alloc (.cells #[.slice none 0 0, .bool false, .int .i64 0] 27) := ⟨_, rfl⟩
  have hW2 : Hid (W2 = w1.alloc (.cells #[.slice none 0 0, .bool false, .int .i64 0] 27)) := hV
  have A2 : Below w1.heap.size w1 W2 := by rw [hV]; exact (Below.refl _ _).alloc (Nat.le_refl _) _
  have B2 : Hid (Below b w W2) := (B0.out.trans (hb1.mono (Nat.le_of_lt z0))).trans (A2.mono (Nat.le_of_lt (Nat.lt_of_lt_of_le z0 hb1.size)))
  have X2 : Hid (BoxG W2 b) := (X0.out.below hb1).below A2
  have t0 : W2.cell? ⟨w1.heap.size, 0, none⟩ = some (.slice none 0 0) := by rw [hV]; simp
  have t1 : W2.cell? ⟨w1.heap.size, 1, none⟩ = some (.bool false) := by rw [hV]; simp
  have t2 : W2.cell? ⟨w1.heap.size, 2, none⟩ = some (.int .i64 0) := by rw [hV]; simp
  have g0 : W2.frozen? ⟨w1.heap.size, 0, none⟩ = false := by rw [hV]; simp
  have g1 : W2.frozen? ⟨w1.heap.size, 1, none⟩ = false := by rw [hV]; simp
  have hbt : b < w1.heap.size := Nat.lt_of_lt_of_le z0 hb1.size
  have zt : w1.heap.size < W2.heap.size := by rw [hV]; simp
  clear hV A2 hb1 B0 X0 z0 KC
  go_upto_region 2 with fail
  rw [← hW2.out]
  clear hW2
  generalize w1.heap.size = bt at *
  have hne : ¬ b = bt := by omega
  have hne2 : ¬ bt = b := by omega
  obtain ⟨W3, hU⟩ : ∃ W3, W3 = W2.alloc (.cells #[.slice p n c] 104) := ⟨_, rfl⟩
  have hW3 : Hid (W3 = W2.alloc (.cells #[.slice p n c] 104)) := hU
  have A3 : Below W2.heap.size W2 W3 := by rw [hU]; exact (Below.refl _ _).alloc (Nat.le_refl _) _
  have B3 : Hid (Below b w W3) := B2.out.trans (A3.mono (by omega))
  have X3 : Hid (BoxG W3 b) := X2.out.below A3
  have u0 : W3.cell? ⟨bt, 0, none⟩ = some (.slice none 0 0) := ((bcell A3).1 _ _ zt).trans t0
  have u1 : W3.cell? ⟨bt, 1, none⟩ = some (.bool false) := ((bcell A3).1 _ _ zt).trans t1
  have u2 : W3.cell? ⟨bt, 2, none⟩ = some (.int .i64 0) := ((bcell A3).1 _ _ zt).trans t2
  have v0 : W3.frozen? ⟨bt, 0, none⟩ = false := ((bcell A3).2 _ _ zt).trans g0
  have v1 : W3.frozen? ⟨bt, 1, none⟩ = false := ((bcell A3).2 _ _ zt).trans g1
  have s0 : W3.cell? ⟨W2.heap.size, 0, none⟩ = some (.slice p n c) := by rw [hU]; simp
  clear hU A3 B2 X2 t0 t1 t2 g0 g1
  go_upto_region 5 with fail
  rw [← hW3.out]
  clear hW3
  obtain ⟨x0, x1, x2, f0, f1, f2, hlt⟩ := X3.out
  generalize W2.heap.size = bs at *
  have HBF : Hid (Below b w (W3.setCell ⟨bt, 0, none⟩ (.slice p n c))) := B3.out.setCell (Nat.le_of_lt hbt) _
  go_wp2
  refine bodyPost_ret (v := .agg #[.slice p n c, .bool false, .int .i64 0]) (by simp [results, Try.results54, go_sem, x0, x1, x2]) rfl ⟨rfl, by rw [hbb]; exact store3G_below HBF.out⟩
set_option maxRecDepth 10000 in
set_option maxHeartbeats 4000000 in
theorem told_decided (p : Option Addr) (n c : Nat) (us : Bool) (co : Int) (w : World) : Calls Try.prog 54 #[verdV (.done p n c us co)] w fun e w' => e = .returned (toldV (.done p n c us co)) ∧ Below w.heap.size w w' := by
  show Calls _ _ #[.iface 106 (.agg #[.slice p n c, .bool us, .int .i64 co])] _ (fun e w' => e = .returned (.agg #[.slice p n c, .bool true, .int .i64 co]) ∧ _)
  have hm : ∀ w, (method 234 106 (.agg #[.slice p n c, .bool us, .int .i64 co]) "loop.example/g00551/impl.code").run Try.prog w = .ok (108, .agg #[.slice p n c, .bool us, .int .i64 co]) w := fun _ => by kernel_rfl
  have ha0 : ∀ W, (Instr.typeAssert (.iface 106 (.agg #[.slice p n c, .bool us, .int .i64 co])) 79 104 true).run Try.prog W = .ok (.tuple #[.agg #[.slice none 0 0], .bool false]) W := fun _ => by kernel_rfl
  have ha1 : ∀ W, (Instr.typeAssert (.iface 106 (.agg #[.slice p n c, .bool us, .int .i64 co])) 79 106 true).run Try.prog W = .ok (.tuple #[.agg #[.slice p n c, .bool us, .int .i64 co], .bool true]) W := fun _ => by kernel_rfl
  have KC : Hid (∀ W, Calls Try.prog 108 #[.agg #[.slice p n c, .bool us, .int .i64 co]] W fun e w' => e = .returned (.int .i64 co) ∧ Below W.heap.size W w') := fun W => code_decided p n c us co W
  obtain ⟨W0, hW⟩ : ∃ W0, W0 = w.alloc (.cells #[.slice none 0 0, .bool false, .int .i64 0] 27) := ⟨_, rfl⟩
  have hW0 : Hid (W0 = w.alloc (.cells #[.slice none 0 0, .bool false, .int .i64 0] 27)) := hW
  have B0 : Hid (Below w.heap.size w W0) := by show Below _ _ _; rw [hW]; exact (Below.refl _ _).alloc (Nat.le_refl _) _
  have X0 : Hid (BoxG W0 w.heap.size) := by show BoxG _ _; rw [hW]; exact boxG_made w _
  have z0 : w.heap.size < W0.heap.size := by rw [hW]; simp
  clear hW
  go_enter Try.func54, Try.ntmps54
  go_upto_region 1 with fail
  rw [← hW0.out]
  clear hW0
  generalize hbb : w.heap.size = b at *
  go_wp2_with fail
  refine (KC.out _).mono ?_
  rintro e w1 ⟨rfl, hb1⟩
  obtain ⟨W2, hV⟩ : ∃ W2, W2 = w1.alloc (.cells #[.slice none 0 0, .bool false, .int .i64 co] 27) := ⟨_, rfl⟩
  have hW2 : Hid (W2 = w1.alloc (.cells #[.slice none 0 0, .bool false, .int .i64 co] 27)) := hV
  have A2 : Below w1.heap.size w1 W2 := by rw [hV]; exact (Below.refl _ _).alloc (Nat.le_refl _) _
  have B2 : Hid (Below b w W2) := (B0.out.trans (hb1.mono (Nat.le_of_lt z0))).trans (A2.mono (Nat.le_of_lt (Nat.lt_of_lt_of_le z0 hb1.size)))
  have X2 : Hid (BoxG W2 b) := (X0.out.below hb1).below A2
  have t0 : W2.cell? ⟨w1.heap.size, 0, none⟩ = some (.slice none 0 0) := by rw [hV]; simp
  have t1 : W2.cell? ⟨w1.heap.size, 1, none⟩ = some (.bool false) := by rw [hV]; simp
  have t2 : W2.cell? ⟨w1.heap.size, 2, none⟩ = some (.int .i64 co) := by rw [hV]; simp
  have g0 : W2.frozen? ⟨w1.heap.size, 0, none⟩ = false := by rw [hV]; simp
  have g1 : W2.frozen? ⟨w1.heap.size, 1, none⟩ = false := by rw [hV]; simp
  have hbt : b < w1.heap.size := Nat.lt_of_lt_of_le z0 hb1.size
  have zt : w1.heap.size < W2.heap.size := by rw [hV]; simp
  clear hV A2 hb1 B0 X0 z0 KC
  go_upto_region 2 with fail
  rw [← hW2.out]
  clear hW2
  generalize w1.heap.size = bt at *
  have hne : ¬ b = bt := by omega
  have hne2 : ¬ bt = b := by omega
  obtain ⟨W3, hU⟩ : ∃ W3, W3 = W2.alloc (.cells #[.slice p n c, .bool us, .int .i64 co] 106) := ⟨_, rfl⟩
  have hW3 : Hid (W3 = W2.alloc (.cells #[.slice p n c, .bool us, .int .i64 co] 106)) := hU
  have A3 : Below W2.heap.size W2 W3 := by rw [hU]; exact (Below.refl _ _).alloc (Nat.le_refl _) _
  have B3 : Hid (Below b w W3) := B2.out.trans (A3.mono (by omega))
  have X3 : Hid (BoxG W3 b) := X2.out.below A3
  have u0 : W3.cell? ⟨bt, 0, none⟩ = some (.slice none 0 0) := ((bcell A3).1 _ _ zt).trans t0
  have u1 : W3.cell? ⟨bt, 1, none⟩ = some (.bool false) := ((bcell A3).1 _ _ zt).trans t1
  have u2 : W3.cell? ⟨bt, 2, none⟩ = some (.int .i64 co) := ((bcell A3).1 _ _ zt).trans t2
  have v0 : W3.frozen? ⟨bt, 0, none⟩ = false := ((bcell A3).2 _ _ zt).trans g0
  have v1 : W3.frozen? ⟨bt, 1, none⟩ = false := ((bcell A3).2 _ _ zt).trans g1
  have s0 : W3.cell? ⟨W2.heap.size, 0, none⟩ = some (.slice p n c) := by rw [hU]; simp
  have s1 : W3.cell? ⟨W2.heap.size, 1, none⟩ = some (.bool us) := by rw [hU]; simp
  have s2 : W3.cell? ⟨W2.heap.size, 2, none⟩ = some (.int .i64 co) := by rw [hU]; simp
  clear hU A3 B2 X2 t0 t1 t2 g0 g1
  go_upto_region 8 with fail
  rw [← hW3.out]
  clear hW3
  obtain ⟨x0, x1, x2, f0, f1, f2, hlt⟩ := X3.out
  generalize W2.heap.size = bs at *
  have HBF : Hid (Below b w ((W3.setCell ⟨bt, 0, none⟩ (.slice p n c)).setCell ⟨bt, 1, none⟩ (.bool true))) := (B3.out.setCell (Nat.le_of_lt hbt) _).setCell (Nat.le_of_lt hbt) _
  go_wp2
  refine bodyPost_ret (v := .agg #[.slice p n c, .bool true, .int .i64 co]) (by simp [results, Try.results54, go_sem, x0, x1, x2]) rfl ⟨rfl, by rw [hbb]; exact store3G_below HBF.out⟩
theorem told_any (v : Verd) (w : World) : Calls Try.prog 54 #[verdV v] w fun e w' => e = .returned (toldV v) ∧ Below w.heap.size w w' := by
  cases v with
  | no c => exact told_refused c w
  | same p n c => exact told_unchanged p n c w
  | done p n c us co => exact told_decided p n c us co w
end Go.Proofs.Ytecaeolgheefmaa

/- The walks of the program's judge and GrantAsk. -/
namespace Go.Proofs.Ytecaeolgheefmaa
open Go.RowKit

theorem https_call (s : ByteArray) (w : World) : Calls Try.prog 82 #[.string s, .string ⟨#[104, 116, 116, 112, 115, 58, 47, 47]⟩] w fun e w' => e = .returned (.bool (httpsB s)) ∧ w' = w :=
  Any.strings_HasPrefix Try.lays99 s ⟨#[104, 116, 116, 112, 115, 58, 47, 47]⟩ w
/-- what is told is the answer -/
def TellG (w : World) (B : Nat) (v : Verd) (x : GO) : Prop := AnsG w B (toldV v) x
theorem tell_no (w : World) (B : Nat) (c : Int) : TellG w B (.no c) (noG c) := ⟨_, rfl, sliceG_none _ _⟩
set_option maxRecDepth 10000 in
set_option maxHeartbeats 8000000 in
theorem judge_any (v : Value) (L : List Gr) (a : Aq) (now : Int) (B : Nat) (w : World) (hs : SliceG w B v L) (hn : L.length ≤ 1048576) (h1 : a.tp.size ≤ 1048576) (h2 : a.si.size ≤ 1048576) :
    Calls Try.prog 55 #[v, aqV a, .int .i64 now] w fun e w' => ∃ vd, e = .returned (verdV vd) ∧ TellG w' w.heap.size vd (askG L a now) ∧ Below w.heap.size w w' := by
  have KM0 : ∀ W, Below w.heap.size w W → Calls Try.prog 40 #[v, leaveV a.tp a.si, .int .i64 now] W fun e w' => e = .returned (.bool (mayG L a.tp a.si now)) ∧ Below W.heap.size W w' := fun W hb => mayAsk_any v L a.tp a.si now B W (hs.below hb) hn
  have KI0 : ∀ W, Below w.heap.size w W → Calls Try.prog 65 #[leaveV a.tp a.si, v, .int .i64 now] W fun e w' => e = .returned (.bool (hereG L a.tp a.si now)) ∧ Below W.heap.size W w' := fun W hb => liveIn_any v L a.tp a.si now B W (hs.below hb) hn
  have KC : Hid (mayG L a.tp a.si now = true → ∀ W, Below w.heap.size w W → Calls Try.prog 42 #[v] W fun e w' => ∃ v', e = .returned v' ∧ SliceG w' W.heap.size v' L ∧ Below W.heap.size W w') := fun h W hb => grantCopies_any v L B W (hs.below hb) hn (grants_small (mayG_parts h).1)
  have KP0 : mayG L a.tp a.si now = true → ∀ W, Below w.heap.size w W → Calls Try.prog 11 #[v, .string a.tp, .string a.si, .int .i64 now] W fun e w' => ∃ v', e = .returned v' ∧ AnsG w' W.heap.size v' (putR L a.tp a.si now) ∧ Below W.heap.size W w' := fun h W hb => by
    have := grantPut_any v L a.tp a.si now B W (hs.below hb) hn h1 h2
    rw [put_may h] at this
    exact this
  have KH0 : ∀ W, Calls Try.prog 82 #[.string a.si, .string ⟨#[104, 116, 116, 112, 115, 58, 47, 47]⟩] W fun e w' => e = .returned (.bool (httpsB a.si)) ∧ w' = W := fun W => https_call _ W
  have HN2 : Hid (¬ L.length ≤ 400 → askG L a now = noG 2) := fun h => by unfold askG; rw [if_neg h]
  have HN1 : Hid (L.length ≤ 400 → mayG L a.tp a.si now = false → askG L a now = noG 1) := fun h h2 => by unfold askG; rw [if_pos h, if_neg (by rw [h2]; decide)]
  have HY : Hid (L.length ≤ 400 → mayG L a.tp a.si now = true → askG L a now =
      if ((a.tp.toList == a.si.toList) || hereG L a.tp a.si now) = true then ⟨L, false, 0⟩
      else if (a.sa || !(httpsB a.si)) = true then noG 11
      else if a.tc = false then noG 10
      else if (!a.re && !a.ye) = true then ⟨L, true, 11⟩
      else ⟨(putR L a.tp a.si now).ar, true, (putR L a.tp a.si now).co⟩) := fun h h2 => by unfold askG; rw [if_pos h, if_pos h2]; rfl
  obtain ⟨⟨q, cap, rfl, -⟩, -⟩ := hs
  generalize askG L a now = Z at *
  generalize putR L a.tp a.si now = Y at *
  generalize hereG L a.tp a.si now = rl at *
  obtain ⟨tp, si, tc, sa, re, ye⟩ := a
  unfold aqV leaveV at *
  dsimp only at *
  have KM : Hid (∀ W, Below w.heap.size w W → Calls Try.prog 40 #[.slice q L.length cap, .agg #[.string tp, .string si], .int .i64 now] W fun e w' => e = .returned (.bool (mayG L tp si now)) ∧ Below W.heap.size W w') := KM0
  have KI : Hid (∀ W, Below w.heap.size w W → Calls Try.prog 65 #[.agg #[.string tp, .string si], .slice q L.length cap, .int .i64 now] W fun e w' => e = .returned (.bool rl) ∧ Below W.heap.size W w') := KI0
  have KP : Hid (mayG L tp si now = true → ∀ W, Below w.heap.size w W → Calls Try.prog 11 #[.slice q L.length cap, .string tp, .string si, .int .i64 now] W fun e w' => ∃ v', e = .returned v' ∧ AnsG w' W.heap.size v' Y ∧ Below W.heap.size W w') := KP0
  have KH : Hid (∀ W, Calls Try.prog 82 #[.string si, .string ⟨#[104, 116, 116, 112, 115, 58, 47, 47]⟩] W fun e w' => e = .returned (.bool (httpsB si)) ∧ w' = W) := KH0
  clear KM0 KI0 KP0 KH0
  generalize mayG L tp si now = my at *
  generalize httpsB si = hp at *
  obtain ⟨W0, hW⟩ : ∃ W0, W0 = w.alloc (.cells #[.string tp, .string si, .bool tc, .bool sa, .bool re, .bool ye] 30) := ⟨_, rfl⟩
  have hW0 : Hid (W0 = w.alloc (.cells #[.string tp, .string si, .bool tc, .bool sa, .bool re, .bool ye] 30)) := hW
  have B0 : Hid (Below w.heap.size w W0) := by show Below _ _ _; rw [hW]; exact (Below.refl _ _).alloc (Nat.le_refl _) _
  have a0 : W0.cell? ⟨w.heap.size, 0, none⟩ = some (.string tp) := by rw [hW]; simp
  have a1 : W0.cell? ⟨w.heap.size, 1, none⟩ = some (.string si) := by rw [hW]; simp
  have a2 : W0.cell? ⟨w.heap.size, 2, none⟩ = some (.bool tc) := by rw [hW]; simp
  have a3 : W0.cell? ⟨w.heap.size, 3, none⟩ = some (.bool sa) := by rw [hW]; simp
  have a4 : W0.cell? ⟨w.heap.size, 4, none⟩ = some (.bool re) := by rw [hW]; simp
  have a5 : W0.cell? ⟨w.heap.size, 5, none⟩ = some (.bool ye) := by rw [hW]; simp
  have z0 : w.heap.size < W0.heap.size := by rw [hW]; simp
  clear hW
  by_cases c1 : 400 < L.length
  case pos =>
    have HR : Hid (Z = noG 2) := HN2.out (by omega)
    have q1 : decide ((400 : Int) < (L.length : Int)) = true := by rw [decide_eq_true_iff]; omega
    go_enter Try.func55, Try.ntmps55
    go_upto_region 1 with fail
    rw [← hW0.out]
    clear hW0
    go_wp2
    go_ret
    exact ⟨.no 2, rfl, by rw [HR.out]; exact tell_no _ _ _, B0.out⟩
  have q1 : decide ((400 : Int) < (L.length : Int)) = false := by rw [decide_eq_false_iff_not]; omega
  have HN1b : Hid (my = false → Z = noG 1) := HN1.out (by omega)
  have HYb := HY.out (by omega)
  have HYc : Hid (my = true → Z =
      if ((tp.toList == si.toList) || rl) = true then ⟨L, false, 0⟩
      else if (sa || !hp) = true then noG 11
      else if tc = false then noG 10
      else if (!re && !ye) = true then ⟨L, true, 11⟩
      else ⟨Y.ar, true, Y.co⟩) := HYb
  clear HN2 HN1 HY HYb c1
  obtain ⟨W1, hV⟩ : ∃ W1, W1 = W0.alloc (.cells #[.string tp, .string si] 60) := ⟨_, rfl⟩
  have hW1 : Hid (W1 = W0.alloc (.cells #[.string tp, .string si] 60)) := hV
  have A1 : Below W0.heap.size W0 W1 := by rw [hV]; exact (Below.refl _ _).alloc (Nat.le_refl _) _
  have B1 : Hid (Below w.heap.size w W1) := B0.out.trans (A1.mono B0.out.size)
  have l0 : W1.cell? ⟨W0.heap.size, 0, none⟩ = some (.string tp) := by rw [hV]; simp
  have l1 : W1.cell? ⟨W0.heap.size, 1, none⟩ = some (.string si) := by rw [hV]; simp
  have b0 := ((bcell A1).1 _ _ z0).trans a0
  have b1 := ((bcell A1).1 _ _ z0).trans a1
  have b2 := ((bcell A1).1 _ _ z0).trans a2
  have b3 := ((bcell A1).1 _ _ z0).trans a3
  have b4 := ((bcell A1).1 _ _ z0).trans a4
  have b5 := ((bcell A1).1 _ _ z0).trans a5
  have zl : W0.heap.size < W1.heap.size := by rw [hV]; simp
  clear hV A1 B0
  go_enter Try.func55, Try.ntmps55
  go_upto_region 1 with fail
  rw [← hW0.out]
  clear hW0
  go_upto_region 4 with fail
  rw [← hW1.out]
  clear hW1 a0 a1 a2 a3 a4 a5
  generalize hbl : W0.heap.size = bl at *
  generalize hbb : w.heap.size = b at *
  go_wp2_with fail
  refine (KM.out _ B1.out).mono ?_
  rintro e w2 ⟨rfl, hb2⟩
  have B2 : Hid (Below b w w2) := B1.out.trans (hb2.mono (by omega))
  have m0 : w2.cell? ⟨bl, 0, none⟩ = some (.string tp) := ((bcell hb2).1 _ _ zl).trans l0
  have m1 : w2.cell? ⟨bl, 1, none⟩ = some (.string si) := ((bcell hb2).1 _ _ zl).trans l1
  have zb1 : b < W1.heap.size := by omega
  have c0 := ((bcell hb2).1 _ _ zb1).trans b0
  have c1 := ((bcell hb2).1 _ _ zb1).trans b1
  have c2 := ((bcell hb2).1 _ _ zb1).trans b2
  have c3 := ((bcell hb2).1 _ _ zb1).trans b3
  have c4 := ((bcell hb2).1 _ _ zb1).trans b4
  have c5 := ((bcell hb2).1 _ _ zb1).trans b5
  have z2 : bl < w2.heap.size := Nat.lt_of_lt_of_le zl hb2.size
  clear hb2 l0 l1 b0 b1 b2 b3 b4 b5 B1 KM zb1
  cases my with
  | false =>
    have HR : Hid (Z = noG 1) := HN1b.out rfl
    go_wp2
    go_ret
    exact ⟨.no 1, rfl, by rw [HR.out]; exact tell_no _ _ _, by rw [hbb]; exact B2.out⟩
  | true =>
  have HYd := HYc.out rfl
  have HR : Hid (Z =
      if ((tp.toList == si.toList) || rl) = true then ⟨L, false, 0⟩
      else if (sa || !hp) = true then noG 11
      else if tc = false then noG 10
      else if (!re && !ye) = true then ⟨L, true, 11⟩
      else ⟨Y.ar, true, Y.co⟩) := HYd
  have KC2 := KC.out rfl
  have KP2 := KP.out rfl
  have KC3 : Hid (∀ W, Below b w W → Calls Try.prog 42 #[.slice q L.length cap] W fun e w' => ∃ v', e = .returned v' ∧ SliceG w' W.heap.size v' L ∧ Below W.heap.size W w') := KC2
  have KP3 : Hid (∀ W, Below b w W → Calls Try.prog 11 #[.slice q L.length cap, .string tp, .string si, .int .i64 now] W fun e w' => ∃ v', e = .returned v' ∧ AnsG w' W.heap.size v' Y ∧ Below W.heap.size W w') := KP2
  clear KC KP KC2 KP2 HYc HYd HN1b
  cases heq : (tp.toList == si.toList) with
  | true =>
    have HR2 : Hid (Z = ⟨L, false, 0⟩) := by show _ = _; rw [HR.out, heq]; rfl
    clear HR
    go_wp2_with fail
    refine (KC3.out _ B2.out).mono ?_
    rintro e w3 ⟨u3, rfl, hs3, hb3⟩
    have S3 : Hid (SliceG w3 w2.heap.size u3 L) := hs3
    have B3 : Hid (Below b w w3) := B2.out.trans (hb3.mono (by omega))
    obtain ⟨pu, cu, hu3⟩ : ∃ pu cu, u3 = .slice pu L.length cu := by obtain ⟨⟨p, c, e, -⟩, -⟩ := hs3; exact ⟨p, c, e⟩
    clear hs3 hb3
    subst hu3
    go_wp2
    go_ret
    exact ⟨.same pu L.length cu, rfl, by rw [HR2.out, hbb]; exact ⟨_, rfl, S3.out.mono (by omega)⟩, by rw [hbb]; exact B3.out⟩
  | false =>
  go_wp2_with fail
  refine (KI.out _ B2.out).mono ?_
  rintro e w3 ⟨rfl, hb3⟩
  have B3 : Hid (Below b w w3) := B2.out.trans (hb3.mono (by omega))
  have z3 : bl < w3.heap.size := Nat.lt_of_lt_of_le z2 hb3.size
  have zb2 : b < w2.heap.size := by omega
  have d0 := ((bcell hb3).1 _ _ zb2).trans c0
  have d1 := ((bcell hb3).1 _ _ zb2).trans c1
  have d2 := ((bcell hb3).1 _ _ zb2).trans c2
  have d3 := ((bcell hb3).1 _ _ zb2).trans c3
  have d4 := ((bcell hb3).1 _ _ zb2).trans c4
  have d5 := ((bcell hb3).1 _ _ zb2).trans c5
  clear hb3 B2 c0 c1 c2 c3 c4 c5 m0 m1 KI zb2
  cases rl with
  | true =>
    have HR2 : Hid (Z = ⟨L, false, 0⟩) := by show _ = _; rw [HR.out, heq]; rfl
    clear HR
    go_wp2_with fail
    refine (KC3.out _ B3.out).mono ?_
    rintro e w4 ⟨u4, rfl, hs4, hb4⟩
    have S4 : Hid (SliceG w4 w3.heap.size u4 L) := hs4
    have B4 : Hid (Below b w w4) := B3.out.trans (hb4.mono (by omega))
    obtain ⟨pu, cu, hu4⟩ : ∃ pu cu, u4 = .slice pu L.length cu := by obtain ⟨⟨p, c, e, -⟩, -⟩ := hs4; exact ⟨p, c, e⟩
    clear hs4 hb4
    subst hu4
    go_wp2
    go_ret
    exact ⟨.same pu L.length cu, rfl, by rw [HR2.out, hbb]; exact ⟨_, rfl, S4.out.mono (by omega)⟩, by rw [hbb]; exact B4.out⟩
  | false =>
  have HR1 : Hid (Z = if (sa || !hp) = true then noG 11 else if tc = false then noG 10 else if (!re && !ye) = true then ⟨L, true, 11⟩ else ⟨Y.ar, true, Y.co⟩) := by show _ = _; rw [HR.out, heq]; rfl
  clear HR
  cases sa with
  | true =>
    have HR2 : Hid (Z = noG 11) := HR1.out
    go_wp2
    go_ret
    exact ⟨.no 11, rfl, by rw [HR2.out]; exact tell_no _ _ _, by rw [hbb]; exact B3.out⟩
  | false =>
  go_wp2_with fail
  refine (KH.out _).mono ?_
  rintro e w4 ⟨rfl, rfl⟩
  cases hp with
  | false =>
    have HR2 : Hid (Z = noG 11) := HR1.out
    go_wp2
    go_ret
    exact ⟨.no 11, rfl, by rw [HR2.out]; exact tell_no _ _ _, by rw [hbb]; exact B3.out⟩
  | true =>
  cases tc with
  | false =>
    have HR2 : Hid (Z = noG 10) := HR1.out
    go_wp2
    go_ret
    exact ⟨.no 10, rfl, by rw [HR2.out]; exact tell_no _ _ _, by rw [hbb]; exact B3.out⟩
  | true =>
  have HR2 : Hid (Z = if (!re && !ye) = true then ⟨L, true, 11⟩ else ⟨Y.ar, true, Y.co⟩) := HR1.out
  clear HR1
  cases re with
  | false =>
    cases ye with
    | false =>
      have HR3 : Hid (Z = ⟨L, true, 11⟩) := HR2.out
      go_wp2_with fail
      refine (KC3.out _ B3.out).mono ?_
      rintro e w5 ⟨u5, rfl, hs5, hb5⟩
      have S5 : Hid (SliceG w5 w4.heap.size u5 L) := hs5
      have B5 : Hid (Below b w w5) := B3.out.trans (hb5.mono (by omega))
      obtain ⟨pu, cu, hu5⟩ : ∃ pu cu, u5 = .slice pu L.length cu := by obtain ⟨⟨p, c, e, -⟩, -⟩ := hs5; exact ⟨p, c, e⟩
      clear hs5 hb5
      subst hu5
      go_wp2
      go_ret
      exact ⟨.done pu L.length cu false 11, rfl, by rw [HR3.out, hbb]; exact ⟨_, rfl, S5.out.mono (by omega)⟩, by rw [hbb]; exact B5.out⟩
    | true =>
      have HR3 : Hid (Z = ⟨Y.ar, true, Y.co⟩) := HR2.out
      go_wp2_with fail
      refine (KP3.out _ B3.out).mono ?_
      rintro e w5 ⟨v5, rfl, ⟨u5, rfl, hs5⟩, hb5⟩
      have S5 : Hid (SliceG w5 w4.heap.size u5 Y.ar) := hs5
      have B5 : Hid (Below b w w5) := B3.out.trans (hb5.mono (by omega))
      obtain ⟨pu, cu, hu5⟩ : ∃ pu cu, u5 = .slice pu Y.ar.length cu := by obtain ⟨⟨p, c, e, -⟩, -⟩ := hs5; exact ⟨p, c, e⟩
      clear hs5 hb5
      subst hu5
      go_wp2
      go_ret
      exact ⟨.done pu Y.ar.length cu Y.us Y.co, rfl, by rw [HR3.out, hbb]; exact ⟨_, rfl, S5.out.mono (by omega)⟩, by rw [hbb]; exact B5.out⟩
  | true =>
    have HR3 : Hid (Z = ⟨Y.ar, true, Y.co⟩) := by show _ = _; rw [HR2.out]; rfl
    go_wp2_with fail
    refine (KP3.out _ B3.out).mono ?_
    rintro e w5 ⟨v5, rfl, ⟨u5, rfl, hs5⟩, hb5⟩
    have S5 : Hid (SliceG w5 w4.heap.size u5 Y.ar) := hs5
    have B5 : Hid (Below b w w5) := B3.out.trans (hb5.mono (by omega))
    obtain ⟨pu, cu, hu5⟩ : ∃ pu cu, u5 = .slice pu Y.ar.length cu := by obtain ⟨⟨p, c, e, -⟩, -⟩ := hs5; exact ⟨p, c, e⟩
    clear hs5 hb5
    subst hu5
    go_wp2
    go_ret
    exact ⟨.done pu Y.ar.length cu Y.us Y.co, rfl, by rw [HR3.out, hbb]; exact ⟨_, rfl, S5.out.mono (by omega)⟩, by rw [hbb]; exact B5.out⟩
set_option maxRecDepth 10000 in
set_option maxHeartbeats 4000000 in
theorem grantAsk_any (v : Value) (L : List Gr) (a : Aq) (now : Int) (B : Nat) (w : World) (hs : SliceG w B v L) (hn : L.length ≤ 1048576) (h1 : a.tp.size ≤ 1048576) (h2 : a.si.size ≤ 1048576) :
    Calls Try.prog 13 #[v, aqV a, .int .i64 now] w fun e w' => ∃ v', e = .returned v' ∧ AnsG w' w.heap.size v' (askG L a now) ∧ Below w.heap.size w w' := by
  have KJ0 : ∀ W, Below w.heap.size w W → Calls Try.prog 55 #[v, aqV a, .int .i64 now] W fun e w' => ∃ vd, e = .returned (verdV vd) ∧ TellG w' W.heap.size vd (askG L a now) ∧ Below W.heap.size W w' := fun W hb => judge_any v L a now B W (hs.below hb) hn h1 h2
  clear hs h1 h2
  generalize askG L a now = Z at *
  obtain ⟨tp, si, tc, sa, re, ye⟩ := a
  unfold aqV at *
  dsimp only at *
  have KJ : Hid (∀ W, Below w.heap.size w W → Calls Try.prog 55 #[v, .agg #[.string tp, .string si, .bool tc, .bool sa, .bool re, .bool ye], .int .i64 now] W fun e w' => ∃ vd, e = .returned (verdV vd) ∧ TellG w' W.heap.size vd Z ∧ Below W.heap.size W w') := KJ0
  clear KJ0
  obtain ⟨W0, hW⟩ : ∃ W0, W0 = (w.alloc (.cells #[.string tp, .string si, .bool tc, .bool sa, .bool re, .bool ye] 30)).alloc (.cells #[.slice none 0 0, .bool false, .int .i64 0] 27) := ⟨_, rfl⟩
  have hW0 : Hid (W0 = (w.alloc (.cells #[.string tp, .string si, .bool tc, .bool sa, .bool re, .bool ye] 30)).alloc (.cells #[.slice none 0 0, .bool false, .int .i64 0] 27)) := hW
  have B0 : Hid (Below w.heap.size w W0) := by show Below _ _ _; rw [hW]; exact ((Below.refl _ _).alloc (Nat.le_refl _) _).alloc (by simp) _
  have X0 : Hid (BoxG W0 (w.heap.size + 1)) := by
    show BoxG _ _
    rw [hW]
    have := boxG_made (w.alloc (.cells #[.string tp, .string si, .bool tc, .bool sa, .bool re, .bool ye] 30)) 27
    simpa using this
  have a0 : W0.cell? ⟨w.heap.size, 0, none⟩ = some (.string tp) := by rw [hW]; simp
  have a1 : W0.cell? ⟨w.heap.size, 1, none⟩ = some (.string si) := by rw [hW]; simp
  have a2 : W0.cell? ⟨w.heap.size, 2, none⟩ = some (.bool tc) := by rw [hW]; simp
  have a3 : W0.cell? ⟨w.heap.size, 3, none⟩ = some (.bool sa) := by rw [hW]; simp
  have a4 : W0.cell? ⟨w.heap.size, 4, none⟩ = some (.bool re) := by rw [hW]; simp
  have a5 : W0.cell? ⟨w.heap.size, 5, none⟩ = some (.bool ye) := by rw [hW]; simp
  have z0 : w.heap.size + 1 < W0.heap.size := by rw [hW]; simp
  clear hW
  go_enter Try.func13, Try.ntmps13
  go_upto_region 1 with fail
  rw [← hW0.out]
  clear hW0
  generalize hbb : w.heap.size = b at *
  go_wp2_with fail
  refine (KJ.out _ B0.out).mono ?_
  rintro e w1 ⟨vd, rfl, ht1, hb1⟩
  have T1 : Hid (TellG w1 W0.heap.size vd Z) := ht1
  have X1 : Hid (BoxG w1 (b + 1)) := X0.out.below hb1
  have B1 : Hid (Below b w w1) := B0.out.trans (hb1.mono (by omega))
  have z1 : b + 1 < w1.heap.size := Nat.lt_of_lt_of_le z0 hb1.size
  have KT : Hid (∀ W, Calls Try.prog 54 #[verdV vd] W fun e w' => e = .returned (toldV vd) ∧ Below W.heap.size W w') := fun W => told_any vd W
  clear ht1 hb1 X0 B0 a0 a1 a2 a3 a4 a5 KJ
  unfold TellG at T1
  generalize toldV vd = tv at *
  generalize verdV vd = vv at *
  go_wp2_with fail
  refine (KT.out _).mono ?_
  rintro e w2 ⟨rfl, hb2⟩
  have T2 : Hid (AnsG w2 W0.heap.size tv Z) := AnsG.below T1.out hb2
  obtain ⟨x0, x1, x2, f0, f1, f2, hlt⟩ := X1.out.below hb2
  have B2 : Hid (Below b w w2) := B1.out.trans (hb2.mono (by omega))
  clear hb2 T1 X1 B1 KT
  obtain ⟨s2, hv2, hs2⟩ := T2.out
  have S2 : Hid (SliceG w2 W0.heap.size s2 Z.ar) := hs2
  obtain ⟨pq, cq, hu2⟩ : ∃ pq cq, s2 = .slice pq Z.ar.length cq := by obtain ⟨⟨p, c, e, -⟩, -⟩ := hs2; exact ⟨p, c, e⟩
  clear hs2 T2
  subst hu2 hv2
  obtain ⟨za, zu, zc⟩ := Z
  dsimp only at *
  generalize hm : za.length = m at *
  go_wp2
  refine bodyPost_ret (v := .agg #[.slice pq m cq, .bool zu, .int .i64 zc]) (by simp [results, Try.results13, go_sem, x0, x1, x2]) rfl ⟨_, rfl, ⟨_, rfl, by rw [hbb]; exact (S2.out.store3 z0).mono (by omega)⟩, by rw [hbb]; exact B2.out.trans ((store3G_below (Below.refl (b + 1) w2)).mono (by omega))⟩
end Go.Proofs.Ytecaeolgheefmaa

/- The walks of the specification's l08Ask and GrantAsk. Written by specaskg.py. -/
namespace Go.Proofs.Ytecaeolgheefmaa
open Go.RowKit

/-- 'append' of nil, where the walk is to stop behind it -/
theorem append_none_stopG {P : Program} {w : World} {ops : Array Oper} {rest : List Oper} {o : Oper} {a : Act} {Q : Exit → Act → World → Prop} (hgd : o.guard = none) (s x : Operand) (t : TypeId) (ho : o.op = .call { callee := .builtin .append, args := #[s, x], argTypes := #[t, t] }) (base : Nat) (e : TypeId) (i : TypeInfo) (size : Nat) (ht : P.underlying t = some (.slice e)) (hi : P.info? e = some i) (v : Value) (n : Nat) (xs : List Value) (hs : a.eval s = v) (hown : w.ownsRow base e size v n xs) (hx : a.eval x = .slice none 0 0)
    (h : ∀ v' : Value, Hid (v' = v) → wpList P ops Q rest (a.put o.dst v') w) : wpList P ops Q (o :: rest) a w := wpList_append_own_none hgd s x t ho base e i size ht hi v n xs hs hown hx (h v rfl)
/-- a slice stays while one cell of another block is written -/
theorem keep_cell {W : World} {B bo o : Nat} {v x : Value} {L : List Gr} (h : SliceG W B v L) (hne : 0 < L.length → ∃ g, v.ownBlock = some g ∧ g ≠ bo) : SliceG (W.setCell ⟨bo, o, none⟩ x) B v L := by
  obtain ⟨⟨p, cap, rfl, hg⟩, h2⟩ := h
  refine ⟨⟨p, cap, rfl, fun hn => ?_⟩, h2⟩
  obtain ⟨g, rfl, hB, hgw, hc⟩ := hg hn
  obtain ⟨g', e, hn'⟩ := hne hn
  obtain rfl : g = g' := Option.some.inj e
  have hk : (W.setCell ⟨bo, o, none⟩ x).heap[g]? = W.heap[g]? := by
    simp only [World.setCell, Array.getElem?_modify]
    rw [if_neg (Ne.symm hn')]
  refine ⟨g, rfl, hB, by simpa using hgw, fun j hj o' ho => ⟨?_, ?_⟩⟩
  · rw [World.cell?_of_block (a := ⟨g, j * 3 + o', none⟩) hk]; exact (hc j hj o' ho).1
  · rw [World.frozen?_of_block (a := ⟨g, j * 3 + o', none⟩) hk]; exact (hc j hj o' ho).2
set_option maxRecDepth 10000 in
set_option maxHeartbeats 16000000 in
theorem specAskR_any (v : Value) (L : List Gr) (a : Aq) (now : Int) (B : Nat) (w : World) (hs : SliceG w B v L) (hm : mayG L a.tp a.si now = true) :
    Calls Try.prog 61 #[v, aqV a, .int .i64 now] w fun e w' => ∃ v', e = .returned v' ∧ AnsG w' w.heap.size v' (askR L a now) ∧ Below w.heap.size w w' := by
  obtain ⟨hg8, -, -, ht⟩ := mayG_parts hm
  have hL8 := (grantsB_parts hg8).1
  unfold timeG at ht
  simp only [Bool.and_eq_true, decide_eq_true_eq] at ht
  have KI0 : ∀ W, Below w.heap.size w W → Calls Try.prog 66 #[v, .string a.tp, .string a.si, .int .i64 now] W fun e w' => e = .returned (.bool (hereG L a.tp a.si now)) ∧ Below W.heap.size W w' := fun W hb => specLive8_any v L a.tp a.si now B W (hs.below hb) (by omega) (grants_rise hg8)
  have KP0 : ∀ W, Below w.heap.size w W → Calls Try.prog 58 #[v, .string a.tp, .string a.si, .int .i64 now] W fun e w' => ∃ v', e = .returned v' ∧ AnsG w' W.heap.size v' (putR L a.tp a.si now) ∧ Below W.heap.size W w' := fun W hb => specPutR_any v L a.tp a.si now B W (hs.below hb) hg8 ht
  have HR0 : askR L a now =
      if ((a.tp.toList == a.si.toList) || hereG L a.tp a.si now) = true then ⟨L, false, 0⟩
      else if (a.sa || !(httpsB a.si)) = true then noG 11
      else if a.tc = false then noG 10
      else if (!a.re && !a.ye) = true then ⟨L, true, 11⟩
      else ⟨(putR L a.tp a.si now).ar, true, (putR L a.tp a.si now).co⟩ := rfl
  have HSh0 : a.si.size < 8 → httpsB a.si = false := https_short
  have HCu0 : ((a.si.extract 0 8).toList == [104, 116, 116, 112, 115, 58, 47, 47]) = httpsB a.si := https_cut a.si
  clear hm hg8 ht
  generalize askR L a now = Z at *
  generalize putR L a.tp a.si now = Y at *
  generalize hereG L a.tp a.si now = rl at *
  obtain ⟨tp, si, tc, sa, re, ye⟩ := a
  unfold aqV at *
  dsimp only at *
  generalize httpsB si = hp at *
  have HR : Hid (Z =
      if ((tp.toList == si.toList) || rl) = true then ⟨L, false, 0⟩
      else if (sa || !hp) = true then noG 11
      else if tc = false then noG 10
      else if (!re && !ye) = true then ⟨L, true, 11⟩
      else ⟨Y.ar, true, Y.co⟩) := HR0
  have HSh : Hid (si.size < 8 → hp = false) := HSh0
  have HCu : Hid (((si.extract 0 8).toList == [104, 116, 116, 112, 115, 58, 47, 47]) = hp) := HCu0
  have KI : Hid (∀ W, Below w.heap.size w W → Calls Try.prog 66 #[v, .string tp, .string si, .int .i64 now] W fun e w' => e = .returned (.bool rl) ∧ Below W.heap.size W w') := KI0
  have KP : Hid (∀ W, Below w.heap.size w W → Calls Try.prog 58 #[v, .string tp, .string si, .int .i64 now] W fun e w' => ∃ v', e = .returned v' ∧ AnsG w' W.heap.size v' Y ∧ Below W.heap.size W w') := KP0
  clear HR0 HSh0 HCu0 KI0 KP0
  obtain ⟨i0, hi, hy0, hy1, hy2⟩ := info_parts infoGrant
  obtain ⟨W0, hW⟩ : ∃ W0, W0 = (w.alloc (.cells #[.string tp, .string si, .bool tc, .bool sa, .bool re, .bool ye] 30)).alloc (.cells #[.slice none 0 0, .bool false, .int .i64 0] 27) := ⟨_, rfl⟩
  have hW0 : Hid (W0 = (w.alloc (.cells #[.string tp, .string si, .bool tc, .bool sa, .bool re, .bool ye] 30)).alloc (.cells #[.slice none 0 0, .bool false, .int .i64 0] 27)) := hW
  have B0 : Below w.heap.size w W0 := by rw [hW]; exact ((Below.refl _ _).alloc (Nat.le_refl _) _).alloc (by simp) _
  have X0 : BoxG W0 (w.heap.size + 1) := by
    rw [hW]
    have := boxG_made (w.alloc (.cells #[.string tp, .string si, .bool tc, .bool sa, .bool re, .bool ye] 30)) 27
    simpa using this
  have a0 : W0.cell? ⟨w.heap.size, 0, none⟩ = some (.string tp) := by rw [hW]; simp
  have a1 : W0.cell? ⟨w.heap.size, 1, none⟩ = some (.string si) := by rw [hW]; simp
  have a2 : W0.cell? ⟨w.heap.size, 2, none⟩ = some (.bool tc) := by rw [hW]; simp
  have a3 : W0.cell? ⟨w.heap.size, 3, none⟩ = some (.bool sa) := by rw [hW]; simp
  have a4 : W0.cell? ⟨w.heap.size, 4, none⟩ = some (.bool re) := by rw [hW]; simp
  have a5 : W0.cell? ⟨w.heap.size, 5, none⟩ = some (.bool ye) := by rw [hW]; simp
  have z0 : W0.heap.size = w.heap.size + 2 := by rw [hW]; simp
  clear hW
  have O0 : Hid ((W0.alloc (.cells #[] 64)).ownsRow W0.heap.size 64 3 (.slice (some ⟨W0.heap.size, 0, none⟩) 0 0) 0 (grCells [])) := World.ownsRow_made W0 #[] 0 (Nat.le_refl _) (Nat.zero_le _) rfl
  have AA : Below W0.heap.size W0 (W0.alloc (.cells #[] 64)) := (Below.refl _ _).alloc (Nat.le_refl _) _
  -- behind the copy
  have HFin : Hid (∀ (v1 : Value) (w3 : World), w3.ownsRow W0.heap.size 64 3 v1 L.length (grCells L) → Below W0.heap.size W0 w3 → (∃ pq cq, v1 = .slice pq L.length cq) ∧ SliceG w3 (w.heap.size + 2) v1 L ∧ Below w.heap.size w w3 ∧ BoxG w3 (w.heap.size + 1) ∧ w.heap.size + 1 < w3.heap.size ∧ w3.cell? ⟨w.heap.size, 0, none⟩ = some (.string tp) ∧ w3.cell? ⟨w.heap.size, 1, none⟩ = some (.string si) ∧ w3.cell? ⟨w.heap.size, 2, none⟩ = some (.bool tc) ∧ w3.cell? ⟨w.heap.size, 3, none⟩ = some (.bool sa) ∧ w3.cell? ⟨w.heap.size, 4, none⟩ = some (.bool re) ∧ w3.cell? ⟨w.heap.size, 5, none⟩ = some (.bool ye)) := fun v1 w3 ho hb => by
    have hsl := sliceG_of_own ho
    refine ⟨?_, by rw [← z0]; exact hsl, B0.trans (hb.mono (by omega)), X0.below hb, by have := hb.size; omega, ((bcell hb).1 _ _ (by omega)).trans a0, ((bcell hb).1 _ _ (by omega)).trans a1, ((bcell hb).1 _ _ (by omega)).trans a2, ((bcell hb).1 _ _ (by omega)).trans a3, ((bcell hb).1 _ _ (by omega)).trans a4, ((bcell hb).1 _ _ (by omega)).trans a5⟩
    obtain ⟨⟨p, c, e, -⟩, -⟩ := hsl
    exact ⟨p, c, e⟩
  have BW0 : Hid (Below w.heap.size w W0) := B0
  have HAA : Hid (Below W0.heap.size W0 (W0.alloc (.cells #[] 64))) := AA
  obtain ⟨⟨q, cap, rfl, hg⟩, q2, cap2, e2, hcap, hnc⟩ := hs
  injection e2 with e3 _ e4
  subst e3 e4
  clear a0 a1 a2 a3 a4 a5 AA X0
  cases q with
  | none =>
    obtain rfl : cap = 0 := hnc rfl
    have hz : L.length = 0 := by omega
    have HLn : Hid (L = []) := List.length_eq_zero_iff.1 hz
    simp only [hz] at KI KP ⊢
    clear hg hnc hcap hz z0
    go_enter Try.func61, Try.ntmps61
    go_upto_region 1 with fail
    rw [← hW0.out]
    clear hW0
    go_wp2_with (at_builtin; go_must (refine append_none_stopG rfl _ _ 23 rfl W0.heap.size 64 i0 3 Try.underlying23 hi _ _ _ rfl O0.out rfl ?_))
    intro v1 hv1
    obtain ⟨⟨pq, cq, hvs⟩, hs3, hb3, hx3, z3, d0, d1, d2, d3, d4, d5⟩ := HFin.out v1 _ (by rw [HLn.out, hv1.out]; exact O0.out) HAA.out
    generalize hbb : w.heap.size = b at *
    have S3 : Hid (SliceG (W0.alloc (.cells #[] 64)) (b + 2) v1 L) := hs3
    have B3 : Hid (Below b w (W0.alloc (.cells #[] 64))) := hb3
    have X3 : Hid (BoxG (W0.alloc (.cells #[] 64)) (b + 1)) := hx3
    clear hs3 hb3 hx3 O0 HFin HAA hv1 B0 BW0 HLn
    generalize W0.alloc (.cells #[] 64) = w3 at *
    subst hvs
    cases heq : (tp.toList == si.toList) with
    | true =>
      have HRn : Hid (Z = ⟨L, false, 0⟩) := by show _ = _; rw [HR.out, heq]; rfl
      obtain ⟨x0, x1, x2, f0, f1, f2, hlt⟩ := X3.out
      go_wp2
      refine bodyPost_ret (v := .agg #[.slice pq L.length cq, .bool false, .int .i64 0]) (by simp [results, Try.results61, go_sem, x0, x1, x2]) rfl ⟨_, rfl, ⟨_, by rw [HRn.out], by rw [HRn.out, hbb]; exact (S3.out.store3 (by omega)).mono (by omega)⟩, by rw [hbb]; exact B3.out.trans ((store3G_below (Below.refl (b + 1) w3)).mono (by omega))⟩
    | false =>
    go_wp2_with fail
    refine (KI.out _ B3.out).mono ?_
    rintro e w4 ⟨rfl, hb4⟩
    have B4 : Hid (Below b w w4) := B3.out.trans (hb4.mono (by omega))
    have X4 : Hid (BoxG w4 (b + 1)) := X3.out.below hb4
    have S4 : Hid (SliceG w4 (b + 2) (.slice pq L.length cq) L) := S3.out.below hb4
    have z4 : b + 1 < w4.heap.size := Nat.lt_of_lt_of_le z3 hb4.size
    have e0 := ((bcell hb4).1 _ _ (show b < w3.heap.size by omega)).trans d0
    have e1 := ((bcell hb4).1 _ _ (show b < w3.heap.size by omega)).trans d1
    have e2 := ((bcell hb4).1 _ _ (show b < w3.heap.size by omega)).trans d2
    have e3 := ((bcell hb4).1 _ _ (show b < w3.heap.size by omega)).trans d3
    have e4 := ((bcell hb4).1 _ _ (show b < w3.heap.size by omega)).trans d4
    have e5 := ((bcell hb4).1 _ _ (show b < w3.heap.size by omega)).trans d5
    clear hb4 B3 X3 S3 KI d0 d1 d2 d3 d4 d5
    cases rl with
    | true =>
      have HRn : Hid (Z = ⟨L, false, 0⟩) := by show _ = _; rw [HR.out, heq]; rfl
      obtain ⟨x0, x1, x2, f0, f1, f2, hlt⟩ := X4.out
      go_wp2
      refine bodyPost_ret (v := .agg #[.slice pq L.length cq, .bool false, .int .i64 0]) (by simp [results, Try.results61, go_sem, x0, x1, x2]) rfl ⟨_, rfl, ⟨_, by rw [HRn.out], by rw [HRn.out, hbb]; exact (S4.out.store3 (by omega)).mono (by omega)⟩, by rw [hbb]; exact B4.out.trans ((store3G_below (Below.refl (b + 1) w4)).mono (by omega))⟩
    | false =>
    have HR1 : Hid (Z = if (sa || !hp) = true then noG 11 else if tc = false then noG 10 else if (!re && !ye) = true then ⟨L, true, 11⟩ else ⟨Y.ar, true, Y.co⟩) := by show _ = _; rw [HR.out, heq]; rfl
    clear HR
    cases sa with
    | true =>
      have HRn : Hid (Z = noG 11) := HR1.out
      obtain ⟨x0, x1, x2, f0, f1, f2, hlt⟩ := X4.out
      go_wp2
      refine bodyPost_ret (v := .agg #[.slice none 0 0, .bool false, .int .i64 11]) (by simp [results, Try.results61, go_sem, x0, x1, x2]) rfl ⟨_, rfl, ⟨_, by rw [HRn.out]; rfl, by rw [HRn.out, hbb]; exact sliceG_none _ _⟩, by rw [hbb]; exact B4.out.trans ((store3G_below (Below.refl (b + 1) w4)).mono (by omega))⟩
    | false =>
    by_cases h8 : si.size < 8
    case pos =>
      have q8 : decide ((si.size : Int) < 8) = true := by rw [decide_eq_true_iff]; omega
      have hp0 : hp = false := HSh.out h8
      subst hp0
      have HRn : Hid (Z = noG 11) := HR1.out
      obtain ⟨x0, x1, x2, f0, f1, f2, hlt⟩ := X4.out
      go_wp2
      refine bodyPost_ret (v := .agg #[.slice none 0 0, .bool false, .int .i64 11]) (by simp [results, Try.results61, go_sem, x0, x1, x2]) rfl ⟨_, rfl, ⟨_, by rw [HRn.out]; rfl, by rw [HRn.out, hbb]; exact sliceG_none _ _⟩, by rw [hbb]; exact B4.out.trans ((store3G_below (Below.refl (b + 1) w4)).mono (by omega))⟩
    have q8 : decide ((si.size : Int) < 8) = false := by rw [decide_eq_false_iff_not]; omega
    have q9 : (8 : Int) ≤ (si.size : Int) := by omega
    have hcut := HCu.out
    cases hp with
    | false =>
      have hcut2 : ((si.extract 0 8).toList != [104, 116, 116, 112, 115, 58, 47, 47]) = true := by show (!_) = true; rw [hcut]; rfl
      have HRn : Hid (Z = noG 11) := HR1.out
      obtain ⟨x0, x1, x2, f0, f1, f2, hlt⟩ := X4.out
      go_wp2
      refine bodyPost_ret (v := .agg #[.slice none 0 0, .bool false, .int .i64 11]) (by simp [results, Try.results61, go_sem, x0, x1, x2]) rfl ⟨_, rfl, ⟨_, by rw [HRn.out]; rfl, by rw [HRn.out, hbb]; exact sliceG_none _ _⟩, by rw [hbb]; exact B4.out.trans ((store3G_below (Below.refl (b + 1) w4)).mono (by omega))⟩
    | true =>
    have hcut2 : ((si.extract 0 8).toList != [104, 116, 116, 112, 115, 58, 47, 47]) = false := by show (!_) = false; rw [hcut]; rfl
    clear HSh HCu
    cases tc with
    | false =>
      have HRn : Hid (Z = noG 10) := HR1.out
      obtain ⟨x0, x1, x2, f0, f1, f2, hlt⟩ := X4.out
      go_wp2
      refine bodyPost_ret (v := .agg #[.slice none 0 0, .bool false, .int .i64 10]) (by simp [results, Try.results61, go_sem, x0, x1, x2]) rfl ⟨_, rfl, ⟨_, by rw [HRn.out]; rfl, by rw [HRn.out, hbb]; exact sliceG_none _ _⟩, by rw [hbb]; exact B4.out.trans ((store3G_below (Below.refl (b + 1) w4)).mono (by omega))⟩
    | true =>
    have HR2 : Hid (Z = if (!re && !ye) = true then ⟨L, true, 11⟩ else ⟨Y.ar, true, Y.co⟩) := HR1.out
    clear HR1
    cases re with
    | false =>
      cases ye with
      | false =>
        have HRn : Hid (Z = ⟨L, true, 11⟩) := HR2.out
        obtain ⟨x0, x1, x2, f0, f1, f2, hlt⟩ := X4.out
        go_wp2
        refine bodyPost_ret (v := .agg #[.slice pq L.length cq, .bool true, .int .i64 11]) (by simp [results, Try.results61, go_sem, x0, x1, x2]) rfl ⟨_, rfl, ⟨_, by rw [HRn.out], by rw [HRn.out, hbb]; exact (S4.out.store3 (by omega)).mono (by omega)⟩, by rw [hbb]; exact B4.out.trans ((store3G_below (Below.refl (b + 1) w4)).mono (by omega))⟩
      | true =>
        have HR3 : Hid (Z = ⟨Y.ar, true, Y.co⟩) := by show _ = _; rw [HR2.out]; rfl
        go_wp2_with fail
        refine (KP.out _ B4.out).mono ?_
        rintro e w5 ⟨v5, rfl, ⟨u5, rfl, hs5⟩, hb5⟩
        obtain ⟨pu, cu, hu5⟩ : ∃ pu cu, u5 = .slice pu Y.ar.length cu := by obtain ⟨⟨p, c, e, -⟩, -⟩ := hs5; exact ⟨p, c, e⟩
        subst hu5
        obtain ⟨W6, hU⟩ : ∃ W6, W6 = w5.alloc (.cells #[.slice pu Y.ar.length cu, .bool Y.us, .int .i64 Y.co] 27) := ⟨_, rfl⟩
        have hW6 : Hid (W6 = w5.alloc (.cells #[.slice pu Y.ar.length cu, .bool Y.us, .int .i64 Y.co] 27)) := hU
        have A6 : Below w5.heap.size w5 W6 := by rw [hU]; exact (Below.refl _ _).alloc (Nat.le_refl _) _
        have S6 : Hid (SliceG W6 w4.heap.size (.slice pu Y.ar.length cu) Y.ar) := hs5.below A6
        have X6 : Hid (BoxG W6 (b + 1)) := (X4.out.below hb5).below A6
        have z5 : b + 1 < w5.heap.size := Nat.lt_of_lt_of_le z4 hb5.size
        have B6 : Hid (Below b w W6) := (B4.out.trans (hb5.mono (by omega))).trans (A6.mono (by omega))
        have o0 : W6.cell? ⟨w5.heap.size, 0, none⟩ = some (.slice pu Y.ar.length cu) := by rw [hU]; simp
        have o1 : W6.cell? ⟨w5.heap.size, 1, none⟩ = some (.bool Y.us) := by rw [hU]; simp
        have o2 : W6.cell? ⟨w5.heap.size, 2, none⟩ = some (.int .i64 Y.co) := by rw [hU]; simp
        have o3 : W6.frozen? ⟨w5.heap.size, 1, none⟩ = false := by rw [hU]; simp
        have z45 : w4.heap.size ≤ w5.heap.size := hb5.size
        have HPl : Hid (0 < Y.ar.length → ∃ g, (Value.slice pu Y.ar.length cu).ownBlock = some g ∧ g ≠ w5.heap.size) := fun h => by
          obtain ⟨g, e, -, h2⟩ := hs5.1.place h
          exact ⟨g, e, by omega⟩
        clear hU A6 hs5 hb5 X4 B4 S4 HR2 KP e0 e1 e2 e3 e4 e5
        go_upto_region 11 with fail
        rw [← hW6.out]
        clear hW6
        generalize hbo : w5.heap.size = bo at *
        have hne : ¬ b + 1 = bo := by omega
        have hne2 : ¬ bo = b + 1 := by omega
        have HBF : Hid (Below b w (W6.setCell ⟨bo, 1, none⟩ (.bool true))) := B6.out.setCell (show b ≤ bo by omega) _
        have HSF : Hid (SliceG (W6.setCell ⟨bo, 1, none⟩ (.bool true)) w4.heap.size (.slice pu Y.ar.length cu) Y.ar) := keep_cell S6.out HPl.out
        have HXF : Hid (BoxG (W6.setCell ⟨bo, 1, none⟩ (.bool true)) (b + 1)) := X6.out.of_block (by simp only [World.setCell, Array.getElem?_modify]; rw [if_neg hne2]) (by simp)
        clear S6 X6 B6
        obtain ⟨x0, x1, x2, f0, f1, f2, hlt⟩ := HXF.out
        go_wp2
        refine bodyPost_ret (v := .agg #[.slice pu Y.ar.length cu, .bool true, .int .i64 Y.co]) (by simp [results, Try.results61, go_sem, x0, x1, x2]) rfl ⟨_, rfl, ⟨_, by rw [HR3.out], by rw [HR3.out, hbb]; exact (HSF.out.store3 (by omega)).mono (by omega)⟩, by rw [hbb]; exact HBF.out.trans ((store3G_below (Below.refl (b + 1) _)).mono (by omega))⟩
    | true =>
      have HR3 : Hid (Z = ⟨Y.ar, true, Y.co⟩) := by show _ = _; rw [HR2.out]; rfl
      go_wp2_with fail
      refine (KP.out _ B4.out).mono ?_
      rintro e w5 ⟨v5, rfl, ⟨u5, rfl, hs5⟩, hb5⟩
      obtain ⟨pu, cu, hu5⟩ : ∃ pu cu, u5 = .slice pu Y.ar.length cu := by obtain ⟨⟨p, c, e, -⟩, -⟩ := hs5; exact ⟨p, c, e⟩
      subst hu5
      obtain ⟨W6, hU⟩ : ∃ W6, W6 = w5.alloc (.cells #[.slice pu Y.ar.length cu, .bool Y.us, .int .i64 Y.co] 27) := ⟨_, rfl⟩
      have hW6 : Hid (W6 = w5.alloc (.cells #[.slice pu Y.ar.length cu, .bool Y.us, .int .i64 Y.co] 27)) := hU
      have A6 : Below w5.heap.size w5 W6 := by rw [hU]; exact (Below.refl _ _).alloc (Nat.le_refl _) _
      have S6 : Hid (SliceG W6 w4.heap.size (.slice pu Y.ar.length cu) Y.ar) := hs5.below A6
      have X6 : Hid (BoxG W6 (b + 1)) := (X4.out.below hb5).below A6
      have z5 : b + 1 < w5.heap.size := Nat.lt_of_lt_of_le z4 hb5.size
      have B6 : Hid (Below b w W6) := (B4.out.trans (hb5.mono (by omega))).trans (A6.mono (by omega))
      have o0 : W6.cell? ⟨w5.heap.size, 0, none⟩ = some (.slice pu Y.ar.length cu) := by rw [hU]; simp
      have o1 : W6.cell? ⟨w5.heap.size, 1, none⟩ = some (.bool Y.us) := by rw [hU]; simp
      have o2 : W6.cell? ⟨w5.heap.size, 2, none⟩ = some (.int .i64 Y.co) := by rw [hU]; simp
      have o3 : W6.frozen? ⟨w5.heap.size, 1, none⟩ = false := by rw [hU]; simp
      have z45 : w4.heap.size ≤ w5.heap.size := hb5.size
      have HPl : Hid (0 < Y.ar.length → ∃ g, (Value.slice pu Y.ar.length cu).ownBlock = some g ∧ g ≠ w5.heap.size) := fun h => by
        obtain ⟨g, e, -, h2⟩ := hs5.1.place h
        exact ⟨g, e, by omega⟩
      clear hU A6 hs5 hb5 X4 B4 S4 HR2 KP e0 e1 e2 e3 e4 e5
      go_upto_region 11 with fail
      rw [← hW6.out]
      clear hW6
      generalize hbo : w5.heap.size = bo at *
      have hne : ¬ b + 1 = bo := by omega
      have hne2 : ¬ bo = b + 1 := by omega
      have HBF : Hid (Below b w (W6.setCell ⟨bo, 1, none⟩ (.bool true))) := B6.out.setCell (show b ≤ bo by omega) _
      have HSF : Hid (SliceG (W6.setCell ⟨bo, 1, none⟩ (.bool true)) w4.heap.size (.slice pu Y.ar.length cu) Y.ar) := keep_cell S6.out HPl.out
      have HXF : Hid (BoxG (W6.setCell ⟨bo, 1, none⟩ (.bool true)) (b + 1)) := X6.out.of_block (by simp only [World.setCell, Array.getElem?_modify]; rw [if_neg hne2]) (by simp)
      clear S6 X6 B6
      obtain ⟨x0, x1, x2, f0, f1, f2, hlt⟩ := HXF.out
      go_wp2
      refine bodyPost_ret (v := .agg #[.slice pu Y.ar.length cu, .bool true, .int .i64 Y.co]) (by simp [results, Try.results61, go_sem, x0, x1, x2]) rfl ⟨_, rfl, ⟨_, by rw [HR3.out], by rw [HR3.out, hbb]; exact (HSF.out.store3 (by omega)).mono (by omega)⟩, by rw [hbb]; exact HBF.out.trans ((store3G_below (Below.refl (b + 1) _)).mono (by omega))⟩
  | some x =>
    have HN : Hid (∀ W, Below w.heap.size w W → ∀ j u, (grCells L)[j]? = some u → W.cell? (x.add j) = some u) := fun W hb => by
      by_cases h0 : 0 < L.length
      · obtain ⟨g, e, -, hgw, hc⟩ := hg h0
        injection e with e
        subst e
        have := grCells_part (fun j hj o ho => ((bcell hb).1 _ _ hgw).trans (hc j hj o ho).1) 0 L (fun j hj => ⟨by rw [Nat.zero_add], by omega⟩)
        simpa using this
      · have hLn : L = [] := List.length_eq_zero_iff.1 (by omega)
        subst hLn
        intro j u h
        cases h
    have hl1 : (grCells L).length = L.length * 3 := grCells_len L
    have o1 : ∀ v ∈ grCells L, v.oneCell' = true := one_grCells L
    have BA : Hid (Below w.heap.size w (W0.alloc (.cells #[] 64))) := B0.trans (HAA.out.mono (by omega))
    have HOw : Hid (∀ (v1 : Value) (w3 : World), w3.ownsRow W0.heap.size 64 3 v1 (0 + L.length) (grCells [] ++ grCells L) → w3.ownsRow W0.heap.size 64 3 v1 L.length (grCells L)) := fun v1 w3 h => by simpa [grCells] using h
    clear hg hnc B0
    generalize hC : grCells L = C at *
    clear hC z0
    go_enter Try.func61, Try.ntmps61
    go_upto_region 1 with fail
    rw [← hW0.out]
    clear hW0
    go_wp2_with (at_builtin; go_must (refine wpList_append_own _ rfl _ _ 23 rfl W0.heap.size 64 i0 (.agg #[.string ⟨#[]⟩, .string ⟨#[]⟩, .int .i64 0]) 3 40 Try.underlying23 hi hy0 hy1 hy2 rfl (by decide) _ _ _ rfl O0.out x L.length cap C rfl hl1 (HN.out _ BA.out) o1 (by unfold maxLen; omega) (by omega) (by simp) ?_))
    intro v1 w3 ho1 hg1 hn1
    have A3 : Below W0.heap.size W0 w3 := HAA.out.grown hg1 (by simp) (fun j hj => own_base O0.out j hj)
    obtain ⟨⟨pq, cq, hvs⟩, hs3, hb3, hx3, z3, d0, d1, d2, d3, d4, d5⟩ := HFin.out v1 w3 (HOw.out _ _ (by first | exact ho1 | (rw [Nat.zero_add]; exact ho1))) A3
    generalize hbb : w.heap.size = b at *
    have S3 : Hid (SliceG w3 (b + 2) v1 L) := hs3
    have B3 : Hid (Below b w w3) := hb3
    have X3 : Hid (BoxG w3 (b + 1)) := hx3
    clear hs3 hb3 hx3 ho1 hg1 hn1 A3 O0 HFin HAA HOw HN hl1 o1 BA BW0
    subst hvs
    cases heq : (tp.toList == si.toList) with
    | true =>
      have HRn : Hid (Z = ⟨L, false, 0⟩) := by show _ = _; rw [HR.out, heq]; rfl
      obtain ⟨x0, x1, x2, f0, f1, f2, hlt⟩ := X3.out
      go_wp2
      refine bodyPost_ret (v := .agg #[.slice pq L.length cq, .bool false, .int .i64 0]) (by simp [results, Try.results61, go_sem, x0, x1, x2]) rfl ⟨_, rfl, ⟨_, by rw [HRn.out], by rw [HRn.out, hbb]; exact (S3.out.store3 (by omega)).mono (by omega)⟩, by rw [hbb]; exact B3.out.trans ((store3G_below (Below.refl (b + 1) w3)).mono (by omega))⟩
    | false =>
    go_wp2_with fail
    refine (KI.out _ B3.out).mono ?_
    rintro e w4 ⟨rfl, hb4⟩
    have B4 : Hid (Below b w w4) := B3.out.trans (hb4.mono (by omega))
    have X4 : Hid (BoxG w4 (b + 1)) := X3.out.below hb4
    have S4 : Hid (SliceG w4 (b + 2) (.slice pq L.length cq) L) := S3.out.below hb4
    have z4 : b + 1 < w4.heap.size := Nat.lt_of_lt_of_le z3 hb4.size
    have e0 := ((bcell hb4).1 _ _ (show b < w3.heap.size by omega)).trans d0
    have e1 := ((bcell hb4).1 _ _ (show b < w3.heap.size by omega)).trans d1
    have e2 := ((bcell hb4).1 _ _ (show b < w3.heap.size by omega)).trans d2
    have e3 := ((bcell hb4).1 _ _ (show b < w3.heap.size by omega)).trans d3
    have e4 := ((bcell hb4).1 _ _ (show b < w3.heap.size by omega)).trans d4
    have e5 := ((bcell hb4).1 _ _ (show b < w3.heap.size by omega)).trans d5
    clear hb4 B3 X3 S3 KI d0 d1 d2 d3 d4 d5
    cases rl with
    | true =>
      have HRn : Hid (Z = ⟨L, false, 0⟩) := by show _ = _; rw [HR.out, heq]; rfl
      obtain ⟨x0, x1, x2, f0, f1, f2, hlt⟩ := X4.out
      go_wp2
      refine bodyPost_ret (v := .agg #[.slice pq L.length cq, .bool false, .int .i64 0]) (by simp [results, Try.results61, go_sem, x0, x1, x2]) rfl ⟨_, rfl, ⟨_, by rw [HRn.out], by rw [HRn.out, hbb]; exact (S4.out.store3 (by omega)).mono (by omega)⟩, by rw [hbb]; exact B4.out.trans ((store3G_below (Below.refl (b + 1) w4)).mono (by omega))⟩
    | false =>
    have HR1 : Hid (Z = if (sa || !hp) = true then noG 11 else if tc = false then noG 10 else if (!re && !ye) = true then ⟨L, true, 11⟩ else ⟨Y.ar, true, Y.co⟩) := by show _ = _; rw [HR.out, heq]; rfl
    clear HR
    cases sa with
    | true =>
      have HRn : Hid (Z = noG 11) := HR1.out
      obtain ⟨x0, x1, x2, f0, f1, f2, hlt⟩ := X4.out
      go_wp2
      refine bodyPost_ret (v := .agg #[.slice none 0 0, .bool false, .int .i64 11]) (by simp [results, Try.results61, go_sem, x0, x1, x2]) rfl ⟨_, rfl, ⟨_, by rw [HRn.out]; rfl, by rw [HRn.out, hbb]; exact sliceG_none _ _⟩, by rw [hbb]; exact B4.out.trans ((store3G_below (Below.refl (b + 1) w4)).mono (by omega))⟩
    | false =>
    by_cases h8 : si.size < 8
    case pos =>
      have q8 : decide ((si.size : Int) < 8) = true := by rw [decide_eq_true_iff]; omega
      have hp0 : hp = false := HSh.out h8
      subst hp0
      have HRn : Hid (Z = noG 11) := HR1.out
      obtain ⟨x0, x1, x2, f0, f1, f2, hlt⟩ := X4.out
      go_wp2
      refine bodyPost_ret (v := .agg #[.slice none 0 0, .bool false, .int .i64 11]) (by simp [results, Try.results61, go_sem, x0, x1, x2]) rfl ⟨_, rfl, ⟨_, by rw [HRn.out]; rfl, by rw [HRn.out, hbb]; exact sliceG_none _ _⟩, by rw [hbb]; exact B4.out.trans ((store3G_below (Below.refl (b + 1) w4)).mono (by omega))⟩
    have q8 : decide ((si.size : Int) < 8) = false := by rw [decide_eq_false_iff_not]; omega
    have q9 : (8 : Int) ≤ (si.size : Int) := by omega
    have hcut := HCu.out
    cases hp with
    | false =>
      have hcut2 : ((si.extract 0 8).toList != [104, 116, 116, 112, 115, 58, 47, 47]) = true := by show (!_) = true; rw [hcut]; rfl
      have HRn : Hid (Z = noG 11) := HR1.out
      obtain ⟨x0, x1, x2, f0, f1, f2, hlt⟩ := X4.out
      go_wp2
      refine bodyPost_ret (v := .agg #[.slice none 0 0, .bool false, .int .i64 11]) (by simp [results, Try.results61, go_sem, x0, x1, x2]) rfl ⟨_, rfl, ⟨_, by rw [HRn.out]; rfl, by rw [HRn.out, hbb]; exact sliceG_none _ _⟩, by rw [hbb]; exact B4.out.trans ((store3G_below (Below.refl (b + 1) w4)).mono (by omega))⟩
    | true =>
    have hcut2 : ((si.extract 0 8).toList != [104, 116, 116, 112, 115, 58, 47, 47]) = false := by show (!_) = false; rw [hcut]; rfl
    clear HSh HCu
    cases tc with
    | false =>
      have HRn : Hid (Z = noG 10) := HR1.out
      obtain ⟨x0, x1, x2, f0, f1, f2, hlt⟩ := X4.out
      go_wp2
      refine bodyPost_ret (v := .agg #[.slice none 0 0, .bool false, .int .i64 10]) (by simp [results, Try.results61, go_sem, x0, x1, x2]) rfl ⟨_, rfl, ⟨_, by rw [HRn.out]; rfl, by rw [HRn.out, hbb]; exact sliceG_none _ _⟩, by rw [hbb]; exact B4.out.trans ((store3G_below (Below.refl (b + 1) w4)).mono (by omega))⟩
    | true =>
    have HR2 : Hid (Z = if (!re && !ye) = true then ⟨L, true, 11⟩ else ⟨Y.ar, true, Y.co⟩) := HR1.out
    clear HR1
    cases re with
    | false =>
      cases ye with
      | false =>
        have HRn : Hid (Z = ⟨L, true, 11⟩) := HR2.out
        obtain ⟨x0, x1, x2, f0, f1, f2, hlt⟩ := X4.out
        go_wp2
        refine bodyPost_ret (v := .agg #[.slice pq L.length cq, .bool true, .int .i64 11]) (by simp [results, Try.results61, go_sem, x0, x1, x2]) rfl ⟨_, rfl, ⟨_, by rw [HRn.out], by rw [HRn.out, hbb]; exact (S4.out.store3 (by omega)).mono (by omega)⟩, by rw [hbb]; exact B4.out.trans ((store3G_below (Below.refl (b + 1) w4)).mono (by omega))⟩
      | true =>
        have HR3 : Hid (Z = ⟨Y.ar, true, Y.co⟩) := by show _ = _; rw [HR2.out]; rfl
        go_wp2_with fail
        refine (KP.out _ B4.out).mono ?_
        rintro e w5 ⟨v5, rfl, ⟨u5, rfl, hs5⟩, hb5⟩
        obtain ⟨pu, cu, hu5⟩ : ∃ pu cu, u5 = .slice pu Y.ar.length cu := by obtain ⟨⟨p, c, e, -⟩, -⟩ := hs5; exact ⟨p, c, e⟩
        subst hu5
        obtain ⟨W6, hU⟩ : ∃ W6, W6 = w5.alloc (.cells #[.slice pu Y.ar.length cu, .bool Y.us, .int .i64 Y.co] 27) := ⟨_, rfl⟩
        have hW6 : Hid (W6 = w5.alloc (.cells #[.slice pu Y.ar.length cu, .bool Y.us, .int .i64 Y.co] 27)) := hU
        have A6 : Below w5.heap.size w5 W6 := by rw [hU]; exact (Below.refl _ _).alloc (Nat.le_refl _) _
        have S6 : Hid (SliceG W6 w4.heap.size (.slice pu Y.ar.length cu) Y.ar) := hs5.below A6
        have X6 : Hid (BoxG W6 (b + 1)) := (X4.out.below hb5).below A6
        have z5 : b + 1 < w5.heap.size := Nat.lt_of_lt_of_le z4 hb5.size
        have B6 : Hid (Below b w W6) := (B4.out.trans (hb5.mono (by omega))).trans (A6.mono (by omega))
        have o0 : W6.cell? ⟨w5.heap.size, 0, none⟩ = some (.slice pu Y.ar.length cu) := by rw [hU]; simp
        have o1 : W6.cell? ⟨w5.heap.size, 1, none⟩ = some (.bool Y.us) := by rw [hU]; simp
        have o2 : W6.cell? ⟨w5.heap.size, 2, none⟩ = some (.int .i64 Y.co) := by rw [hU]; simp
        have o3 : W6.frozen? ⟨w5.heap.size, 1, none⟩ = false := by rw [hU]; simp
        have z45 : w4.heap.size ≤ w5.heap.size := hb5.size
        have HPl : Hid (0 < Y.ar.length → ∃ g, (Value.slice pu Y.ar.length cu).ownBlock = some g ∧ g ≠ w5.heap.size) := fun h => by
          obtain ⟨g, e, -, h2⟩ := hs5.1.place h
          exact ⟨g, e, by omega⟩
        clear hU A6 hs5 hb5 X4 B4 S4 HR2 KP e0 e1 e2 e3 e4 e5
        go_upto_region 11 with fail
        rw [← hW6.out]
        clear hW6
        generalize hbo : w5.heap.size = bo at *
        have hne : ¬ b + 1 = bo := by omega
        have hne2 : ¬ bo = b + 1 := by omega
        have HBF : Hid (Below b w (W6.setCell ⟨bo, 1, none⟩ (.bool true))) := B6.out.setCell (show b ≤ bo by omega) _
        have HSF : Hid (SliceG (W6.setCell ⟨bo, 1, none⟩ (.bool true)) w4.heap.size (.slice pu Y.ar.length cu) Y.ar) := keep_cell S6.out HPl.out
        have HXF : Hid (BoxG (W6.setCell ⟨bo, 1, none⟩ (.bool true)) (b + 1)) := X6.out.of_block (by simp only [World.setCell, Array.getElem?_modify]; rw [if_neg hne2]) (by simp)
        clear S6 X6 B6
        obtain ⟨x0, x1, x2, f0, f1, f2, hlt⟩ := HXF.out
        go_wp2
        refine bodyPost_ret (v := .agg #[.slice pu Y.ar.length cu, .bool true, .int .i64 Y.co]) (by simp [results, Try.results61, go_sem, x0, x1, x2]) rfl ⟨_, rfl, ⟨_, by rw [HR3.out], by rw [HR3.out, hbb]; exact (HSF.out.store3 (by omega)).mono (by omega)⟩, by rw [hbb]; exact HBF.out.trans ((store3G_below (Below.refl (b + 1) _)).mono (by omega))⟩
    | true =>
      have HR3 : Hid (Z = ⟨Y.ar, true, Y.co⟩) := by show _ = _; rw [HR2.out]; rfl
      go_wp2_with fail
      refine (KP.out _ B4.out).mono ?_
      rintro e w5 ⟨v5, rfl, ⟨u5, rfl, hs5⟩, hb5⟩
      obtain ⟨pu, cu, hu5⟩ : ∃ pu cu, u5 = .slice pu Y.ar.length cu := by obtain ⟨⟨p, c, e, -⟩, -⟩ := hs5; exact ⟨p, c, e⟩
      subst hu5
      obtain ⟨W6, hU⟩ : ∃ W6, W6 = w5.alloc (.cells #[.slice pu Y.ar.length cu, .bool Y.us, .int .i64 Y.co] 27) := ⟨_, rfl⟩
      have hW6 : Hid (W6 = w5.alloc (.cells #[.slice pu Y.ar.length cu, .bool Y.us, .int .i64 Y.co] 27)) := hU
      have A6 : Below w5.heap.size w5 W6 := by rw [hU]; exact (Below.refl _ _).alloc (Nat.le_refl _) _
      have S6 : Hid (SliceG W6 w4.heap.size (.slice pu Y.ar.length cu) Y.ar) := hs5.below A6
      have X6 : Hid (BoxG W6 (b + 1)) := (X4.out.below hb5).below A6
      have z5 : b + 1 < w5.heap.size := Nat.lt_of_lt_of_le z4 hb5.size
      have B6 : Hid (Below b w W6) := (B4.out.trans (hb5.mono (by omega))).trans (A6.mono (by omega))
      have o0 : W6.cell? ⟨w5.heap.size, 0, none⟩ = some (.slice pu Y.ar.length cu) := by rw [hU]; simp
      have o1 : W6.cell? ⟨w5.heap.size, 1, none⟩ = some (.bool Y.us) := by rw [hU]; simp
      have o2 : W6.cell? ⟨w5.heap.size, 2, none⟩ = some (.int .i64 Y.co) := by rw [hU]; simp
      have o3 : W6.frozen? ⟨w5.heap.size, 1, none⟩ = false := by rw [hU]; simp
      have z45 : w4.heap.size ≤ w5.heap.size := hb5.size
      have HPl : Hid (0 < Y.ar.length → ∃ g, (Value.slice pu Y.ar.length cu).ownBlock = some g ∧ g ≠ w5.heap.size) := fun h => by
        obtain ⟨g, e, -, h2⟩ := hs5.1.place h
        exact ⟨g, e, by omega⟩
      clear hU A6 hs5 hb5 X4 B4 S4 HR2 KP e0 e1 e2 e3 e4 e5
      go_upto_region 11 with fail
      rw [← hW6.out]
      clear hW6
      generalize hbo : w5.heap.size = bo at *
      have hne : ¬ b + 1 = bo := by omega
      have hne2 : ¬ bo = b + 1 := by omega
      have HBF : Hid (Below b w (W6.setCell ⟨bo, 1, none⟩ (.bool true))) := B6.out.setCell (show b ≤ bo by omega) _
      have HSF : Hid (SliceG (W6.setCell ⟨bo, 1, none⟩ (.bool true)) w4.heap.size (.slice pu Y.ar.length cu) Y.ar) := keep_cell S6.out HPl.out
      have HXF : Hid (BoxG (W6.setCell ⟨bo, 1, none⟩ (.bool true)) (b + 1)) := X6.out.of_block (by simp only [World.setCell, Array.getElem?_modify]; rw [if_neg hne2]) (by simp)
      clear S6 X6 B6
      obtain ⟨x0, x1, x2, f0, f1, f2, hlt⟩ := HXF.out
      go_wp2
      refine bodyPost_ret (v := .agg #[.slice pu Y.ar.length cu, .bool true, .int .i64 Y.co]) (by simp [results, Try.results61, go_sem, x0, x1, x2]) rfl ⟨_, rfl, ⟨_, by rw [HR3.out], by rw [HR3.out, hbb]; exact (HSF.out.store3 (by omega)).mono (by omega)⟩, by rw [hbb]; exact HBF.out.trans ((store3G_below (Below.refl (b + 1) _)).mono (by omega))⟩
set_option maxRecDepth 10000 in
set_option maxHeartbeats 8000000 in
theorem specGrantAsk_any (v : Value) (L : List Gr) (a : Aq) (now : Int) (B : Nat) (w : World) (hs : SliceG w B v L) (hn : L.length ≤ 1048576) :
    Calls Try.prog 19 #[v, aqV a, .int .i64 now] w fun e w' => ∃ v', e = .returned v' ∧ AnsG w' w.heap.size v' (askG L a now) ∧ Below w.heap.size w w' := by
  have KG : Hid (∀ W, Below w.heap.size w W → Calls Try.prog 27 #[v] W fun e w' => e = .returned (.bool (grantsB L)) ∧ Below W.heap.size W w') := fun W hb => specGrants_any v L B W (hs.below hb) hn
  have KT0 : ∀ W, Calls Try.prog 59 #[.string a.tp] W fun e w' => e = .returned (.bool (siteG a.tp)) ∧ w' = W := fun W => specSite8_any _ W
  have KS0 : ∀ W, Calls Try.prog 59 #[.string a.si] W fun e w' => e = .returned (.bool (siteG a.si)) ∧ w' = W := fun W => specSite8_any _ W
  have KU : Hid (∀ W, Calls Try.prog 60 #[.int .i64 now] W fun e w' => e = .returned (.bool (timeG now)) ∧ w' = W) := fun W => specTime8_any now W
  have KA0 : mayG L a.tp a.si now = true → ∀ W, Below w.heap.size w W → Calls Try.prog 61 #[v, aqV a, .int .i64 now] W fun e w' => ∃ v', e = .returned v' ∧ AnsG w' W.heap.size v' (askR L a now) ∧ Below W.heap.size W w' := fun h W hb => specAskR_any v L a now B W (hs.below hb) h
  have HN2 : Hid (¬ L.length ≤ 400 → askG L a now = noG 2) := fun h => by unfold askG; rw [if_neg h]
  have HN1 : Hid (L.length ≤ 400 → mayG L a.tp a.si now = false → askG L a now = noG 1) := fun h h2 => by unfold askG; rw [if_pos h, if_neg (by rw [h2]; decide)]
  have HY : Hid (L.length ≤ 400 → mayG L a.tp a.si now = true → askG L a now = askR L a now) := fun h h2 => by unfold askG; rw [if_pos h, if_pos h2]
  have HM0 : mayG L a.tp a.si now = (grantsB L && siteG a.tp && siteG a.si && timeG now) := rfl
  obtain ⟨⟨q, cap, rfl, -⟩, -⟩ := hs
  generalize askG L a now = Z at *
  generalize askR L a now = Y at *
  obtain ⟨tp, si, tc, sa, re, ye⟩ := a
  unfold aqV at *
  dsimp only at *
  have KT : Hid (∀ W, Calls Try.prog 59 #[.string tp] W fun e w' => e = .returned (.bool (siteG tp)) ∧ w' = W) := KT0
  have KS : Hid (∀ W, Calls Try.prog 59 #[.string si] W fun e w' => e = .returned (.bool (siteG si)) ∧ w' = W) := KS0
  have KA : Hid (mayG L tp si now = true → ∀ W, Below w.heap.size w W → Calls Try.prog 61 #[.slice q L.length cap, .agg #[.string tp, .string si, .bool tc, .bool sa, .bool re, .bool ye], .int .i64 now] W fun e w' => ∃ v', e = .returned v' ∧ AnsG w' W.heap.size v' Y ∧ Below W.heap.size W w') := KA0
  have HM : Hid (mayG L tp si now = (grantsB L && siteG tp && siteG si && timeG now)) := HM0
  clear KT0 KS0 KA0 HM0
  generalize mayG L tp si now = my at *
  generalize grantsB L = r1 at *
  generalize siteG tp = r2 at *
  generalize siteG si = r3 at *
  generalize timeG now = r4 at *
  obtain ⟨W0, hW⟩ : ∃ W0, W0 = (w.alloc (.cells #[.string tp, .string si, .bool tc, .bool sa, .bool re, .bool ye] 30)).alloc (.cells #[.slice none 0 0, .bool false, .int .i64 0] 27) := ⟨_, rfl⟩
  have hW0 : Hid (W0 = (w.alloc (.cells #[.string tp, .string si, .bool tc, .bool sa, .bool re, .bool ye] 30)).alloc (.cells #[.slice none 0 0, .bool false, .int .i64 0] 27)) := hW
  have B0 : Hid (Below w.heap.size w W0) := by show Below _ _ _; rw [hW]; exact ((Below.refl _ _).alloc (Nat.le_refl _) _).alloc (by simp) _
  have X0 : Hid (BoxG W0 (w.heap.size + 1)) := by
    show BoxG _ _
    rw [hW]
    have := boxG_made (w.alloc (.cells #[.string tp, .string si, .bool tc, .bool sa, .bool re, .bool ye] 30)) 27
    simpa using this
  have a0 : W0.cell? ⟨w.heap.size, 0, none⟩ = some (.string tp) := by rw [hW]; simp
  have a1 : W0.cell? ⟨w.heap.size, 1, none⟩ = some (.string si) := by rw [hW]; simp
  have a2 : W0.cell? ⟨w.heap.size, 2, none⟩ = some (.bool tc) := by rw [hW]; simp
  have a3 : W0.cell? ⟨w.heap.size, 3, none⟩ = some (.bool sa) := by rw [hW]; simp
  have a4 : W0.cell? ⟨w.heap.size, 4, none⟩ = some (.bool re) := by rw [hW]; simp
  have a5 : W0.cell? ⟨w.heap.size, 5, none⟩ = some (.bool ye) := by rw [hW]; simp
  have z0 : w.heap.size + 1 < W0.heap.size := by rw [hW]; simp
  clear hW
  by_cases c1 : 400 < L.length
  case pos =>
    have HR : Hid (Z = noG 2) := HN2.out (by omega)
    have q1 : decide ((400 : Int) < (L.length : Int)) = true := by rw [decide_eq_true_iff]; omega
    obtain ⟨x0, x1, x2, f0, f1, f2, hlt⟩ := X0.out
    go_enter Try.func19, Try.ntmps19
    go_upto_region 1 with fail
    rw [← hW0.out]
    clear hW0
    generalize hbb : w.heap.size = b at *
    go_wp2
    refine bodyPost_ret (v := .agg #[.slice none 0 0, .bool false, .int .i64 2]) (by simp [results, Try.results19, go_sem, x0, x1, x2]) rfl ⟨_, rfl, ⟨_, by rw [HR.out]; rfl, by rw [HR.out, hbb]; exact sliceG_none _ _⟩, by rw [hbb]; exact B0.out.trans ((store3G_below (Below.refl (b + 1) W0)).mono (by omega))⟩
  have q1 : decide ((400 : Int) < (L.length : Int)) = false := by rw [decide_eq_false_iff_not]; omega
  have HN1b := HN1.out (by omega)
  have HN1c : Hid (my = false → Z = noG 1) := HN1b
  have HYb := HY.out (by omega)
  have HYc : Hid (my = true → Z = Y) := HYb
  clear HN2 HN1 HY HN1b HYb c1
  go_enter Try.func19, Try.ntmps19
  go_upto_region 1 with fail
  rw [← hW0.out]
  clear hW0
  generalize hbb : w.heap.size = b at *
  go_wp2_with fail
  refine (KG.out _ B0.out).mono ?_
  rintro e w1 ⟨rfl, hb1⟩
  have B1 : Hid (Below b w w1) := B0.out.trans (hb1.mono (by omega))
  have X1 : Hid (BoxG w1 (b + 1)) := X0.out.below hb1
  have z1 : b + 1 < w1.heap.size := Nat.lt_of_lt_of_le z0 hb1.size
  have c0 := ((bcell hb1).1 _ _ (show b < W0.heap.size by omega)).trans a0
  have c1 := ((bcell hb1).1 _ _ (show b < W0.heap.size by omega)).trans a1
  have c2 := ((bcell hb1).1 _ _ (show b < W0.heap.size by omega)).trans a2
  have c3 := ((bcell hb1).1 _ _ (show b < W0.heap.size by omega)).trans a3
  have c4 := ((bcell hb1).1 _ _ (show b < W0.heap.size by omega)).trans a4
  have c5 := ((bcell hb1).1 _ _ (show b < W0.heap.size by omega)).trans a5
  clear hb1 B0 X0 KG a0 a1 a2 a3 a4 a5
  cases r1 with
  | false =>
    have HR : Hid (Z = noG 1) := HN1c.out (by rw [HM.out]; rfl)
    obtain ⟨x0, x1, x2, f0, f1, f2, hlt⟩ := X1.out
    go_wp2
    refine bodyPost_ret (v := .agg #[.slice none 0 0, .bool false, .int .i64 1]) (by simp [results, Try.results19, go_sem, x0, x1, x2]) rfl ⟨_, rfl, ⟨_, by rw [HR.out]; rfl, by rw [HR.out, hbb]; exact sliceG_none _ _⟩, by rw [hbb]; exact B1.out.trans ((store3G_below (Below.refl (b + 1) w1)).mono (by omega))⟩
  | true =>
  go_wp2_with fail
  refine (KT.out _).mono ?_
  rintro e w2 ⟨rfl, rfl⟩
  cases r2 with
  | false =>
    have HR : Hid (Z = noG 1) := HN1c.out (by rw [HM.out]; rfl)
    obtain ⟨x0, x1, x2, f0, f1, f2, hlt⟩ := X1.out
    go_wp2
    refine bodyPost_ret (v := .agg #[.slice none 0 0, .bool false, .int .i64 1]) (by simp [results, Try.results19, go_sem, x0, x1, x2]) rfl ⟨_, rfl, ⟨_, by rw [HR.out]; rfl, by rw [HR.out, hbb]; exact sliceG_none _ _⟩, by rw [hbb]; exact B1.out.trans ((store3G_below (Below.refl (b + 1) w2)).mono (by omega))⟩
  | true =>
  go_wp2_with fail
  refine (KS.out _).mono ?_
  rintro e w2 ⟨rfl, rfl⟩
  cases r3 with
  | false =>
    have HR : Hid (Z = noG 1) := HN1c.out (by rw [HM.out]; rfl)
    obtain ⟨x0, x1, x2, f0, f1, f2, hlt⟩ := X1.out
    go_wp2
    refine bodyPost_ret (v := .agg #[.slice none 0 0, .bool false, .int .i64 1]) (by simp [results, Try.results19, go_sem, x0, x1, x2]) rfl ⟨_, rfl, ⟨_, by rw [HR.out]; rfl, by rw [HR.out, hbb]; exact sliceG_none _ _⟩, by rw [hbb]; exact B1.out.trans ((store3G_below (Below.refl (b + 1) w2)).mono (by omega))⟩
  | true =>
  go_wp2_with fail
  refine (KU.out _).mono ?_
  rintro e w2 ⟨rfl, rfl⟩
  cases r4 with
  | false =>
    have HR : Hid (Z = noG 1) := HN1c.out (by rw [HM.out]; rfl)
    obtain ⟨x0, x1, x2, f0, f1, f2, hlt⟩ := X1.out
    go_wp2
    refine bodyPost_ret (v := .agg #[.slice none 0 0, .bool false, .int .i64 1]) (by simp [results, Try.results19, go_sem, x0, x1, x2]) rfl ⟨_, rfl, ⟨_, by rw [HR.out]; rfl, by rw [HR.out, hbb]; exact sliceG_none _ _⟩, by rw [hbb]; exact B1.out.trans ((store3G_below (Below.refl (b + 1) w2)).mono (by omega))⟩
  | true =>
  have hmy : my = true := by rw [HM.out]; rfl
  subst hmy
  have HR : Hid (Z = Y) := HYc.out rfl
  have KA2 := KA.out rfl
  have KA3 : Hid (∀ W, Below b w W → Calls Try.prog 61 #[.slice q L.length cap, .agg #[.string tp, .string si, .bool tc, .bool sa, .bool re, .bool ye], .int .i64 now] W fun e w' => ∃ v', e = .returned v' ∧ AnsG w' W.heap.size v' Y ∧ Below W.heap.size W w') := KA2
  clear KA KA2 HYc HN1c HM KT KS KU
  go_wp2_with fail
  refine (KA3.out _ B1.out).mono ?_
  rintro e w3 ⟨v3, rfl, ⟨s3, rfl, hs3⟩, hb3⟩
  have S3 : Hid (SliceG w3 w2.heap.size s3 Y.ar) := hs3
  have B3 : Hid (Below b w w3) := B1.out.trans (hb3.mono (by omega))
  obtain ⟨x0, x1, x2, f0, f1, f2, hlt⟩ := X1.out.below hb3
  obtain ⟨pq, cq, hv3⟩ : ∃ pq cq, s3 = .slice pq Y.ar.length cq := by obtain ⟨⟨p, c, e, -⟩, -⟩ := hs3; exact ⟨p, c, e⟩
  clear hs3 hb3 X1 B1
  obtain ⟨ya, yu, yc⟩ := Y
  dsimp only at *
  generalize hm : ya.length = m at *
  subst hv3
  go_wp2
  refine bodyPost_ret (v := .agg #[.slice pq m cq, .bool yu, .int .i64 yc]) (by simp [results, Try.results19, go_sem, x0, x1, x2]) rfl ⟨_, rfl, ⟨_, by rw [HR.out], by rw [HR.out, hbb]; exact (S3.out.store3 (by omega)).mono (by omega)⟩, by rw [hbb]; exact B3.out.trans ((store3G_below (Below.refl (b + 1) w3)).mono (by omega))⟩
end Go.Proofs.Ytecaeolgheefmaa
