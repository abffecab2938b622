/- 2 of this claim's texts, one behind the other. -/
import Derived.Test.YtimmoclemcnhnaaDoorPart1
import Derived.Laws.ResultCell
import Derived.WalkKit
import Derived.WalkSpells
import Derived.WalkLawsBesides
import Derived.Deep.RegionHeld3
import Derived.Deep.DeepCutAuto
import Derived.Test.YtimmoclemcnhnaaDoorShelf
import Derived.Sort.Grow
import Derived.Deep.Draws
/- The walk of cmp.Or at int. -/
namespace Go.Proofs.YtimmoclemcnhnaaDoor
open Go.RowKit

set_option maxRecDepth 10000 in
set_option maxHeartbeats 1000000 in
theorem orInt_any (a b : Int) (g : Nat) (w : World) (h0 : w.cell? ⟨g, 0, none⟩ = some (.int .i64 a)) (h1 : w.cell? ⟨g, 1, none⟩ = some (.int .i64 b)) : Calls Tryd.prog 132 #[.slice (some ⟨g, 0, none⟩) 2 2] w fun e w' => e = .returned (.int .i64 (if a = 0 then b else a)) ∧ w' = w := by
  have HO : Hid ((if a = 0 then b else a) = if a = 0 then b else a) := rfl
  generalize hR : (if a = 0 then b else a) = R at *
  have HR : Hid ((if a = 0 then b else a) = R) := hR
  clear hR HO
  go_enter Tryd.func132, Tryd.ntmps132
  go_wp2
  go_loopw [8] (fun i wr => ∃ k : Nat, k ≤ 2 ∧ i = .int .i64 k ∧ wr = w ∧ (0 < k → a = 0) ∧ (1 < k → b = 0)) (fun i _ => 2 - (intOf i).toNat)
  case atStart => exact ⟨0, by omega, rfl, rfl, fun h => absurd h (by omega), fun h => absurd h (by omega)⟩
  case round =>
    obtain ⟨k, hk, rfl, rfl, ha, hb⟩ := hrel
    match k, hk with
    | 0, _ =>
      clear ha hb
      by_cases e : a = 0
      · subst e
        go_wp2
        go_roundw
        case rel => exact ⟨1, by omega, by first | rfl | go_num, (by first | rfl | trivial), (fun _ => by first | rfl | trivial), fun h => absurd h (by omega)⟩
        case measure => simp [intOf]
      · have q : (a != 0) = true := by rw [bne_iff_ne]; exact e
        have HR1 : Hid (R = a) := by show _ = _; rw [← HR.out, if_neg e]
        go_wp2
        go_ret
        exact ⟨by rw [HR1.out]; rfl, rfl⟩
    | 1, _ =>
      obtain rfl := ha (by omega)
      have HR1 : Hid (R = b) := by show _ = _; rw [← HR.out, if_pos rfl]
      clear ha hb
      by_cases e : b = 0
      · subst e
        go_wp2
        go_roundw
        case rel => exact ⟨2, by omega, by first | rfl | go_num, (by first | rfl | trivial), (fun _ => by first | rfl | trivial), (fun _ => by first | rfl | trivial)⟩
        case measure => simp [intOf]
      · have q : (b != 0) = true := by rw [bne_iff_ne]; exact e
        go_wp2
        go_ret
        exact ⟨by rw [HR1.out]; rfl, rfl⟩
    | 2, _ =>
      obtain rfl := ha (by omega)
      obtain rfl := hb (by omega)
      have HR1 : Hid (R = 0) := by show _ = _; rw [← HR.out, if_pos rfl]
      clear ha hb
      go_wp2
      go_ret
      exact ⟨by rw [HR1.out]; rfl, rfl⟩
end Go.Proofs.YtimmoclemcnhnaaDoor

/- The walks of the program's small functions of entries: what is right, how many bytes, which comes first. -/
namespace Go.Proofs.YtimmoclemcnhnaaDoor
open Go.RowKit

theorem empty_key (t : ByteArray) (h : 1 ≤ t.size) : (t.toList == []) = false := by
  rw [beq_eq_false_iff_ne, Lib.toList_data]
  intro e
  have : t.data.toList.length = 0 := by rw [e]; rfl
  have e2 : t.size = t.data.toList.length := by rw [Array.length_toList]; rfl
  omega
theorem empty_key0 (t : ByteArray) (h : ¬ 1 ≤ t.size) : (t.toList == []) = true := by
  rw [beq_iff_eq, Lib.toList_data]
  have e2 : t.size = t.data.toList.length := by rw [Array.length_toList]; rfl
  exact List.length_eq_zero_iff.1 (by omega)
set_option maxRecDepth 10000 in
set_option maxHeartbeats 1000000 in
theorem roomKey_any (t : ByteArray) (w : World) : Calls Tryd.prog 183 #[.string t] w fun e w' => e = .returned (.bool (keyB t)) ∧ w' = w := by
  have HK : Hid (keyB t = (decide (1 ≤ t.size) && decide (t.size ≤ 200))) := rfl
  generalize keyB t = R at *
  by_cases h1 : 1 ≤ t.size
  · have q1 := empty_key t h1
    by_cases h2 : t.size ≤ 200
    · have q2 : decide ((t.size : Int) ≤ (200 : Int)) = true := by rw [decide_eq_true_iff]; omega
      have HR : Hid (R = true) := by show _ = _; rw [HK.out, decide_eq_true h1, decide_eq_true h2]; rfl
      go_enter Tryd.func183, Tryd.ntmps183
      go_wp2
      go_ret
      exact ⟨ret_bool HR.out.symm, rfl⟩
    · have q2 : decide ((t.size : Int) ≤ (200 : Int)) = false := by rw [decide_eq_false_iff_not]; omega
      have HR : Hid (R = false) := by show _ = _; rw [HK.out, decide_eq_false h2, Bool.and_false]
      go_enter Tryd.func183, Tryd.ntmps183
      go_wp2
      go_ret
      exact ⟨ret_bool HR.out.symm, rfl⟩
  · have q1 := empty_key0 t h1
    have HR : Hid (R = false) := by show _ = _; rw [HK.out, decide_eq_false h1]; rfl
    go_enter Tryd.func183, Tryd.ntmps183
    go_wp2
    go_ret
    exact ⟨ret_bool HR.out.symm, rfl⟩
set_option maxRecDepth 10000 in
set_option maxHeartbeats 1000000 in
theorem roomValue_any (t : ByteArray) (w : World) : Calls Tryd.prog 140 #[.string t] w fun e w' => e = .returned (.bool (valB t)) ∧ w' = w := by
  have HK : Hid (valB t = decide (t.size ≤ 40)) := rfl
  generalize valB t = R at *
  by_cases h2 : t.size ≤ 40
  · have q2 : decide ((t.size : Int) ≤ (40 : Int)) = true := by rw [decide_eq_true_iff]; omega
    have HR : Hid (R = true) := by show _ = _; rw [HK.out, decide_eq_true h2]
    go_enter Tryd.func140, Tryd.ntmps140
    go_wp2
    go_ret
    exact ⟨ret_bool HR.out.symm, rfl⟩
  · have q2 : decide ((t.size : Int) ≤ (40 : Int)) = false := by rw [decide_eq_false_iff_not]; omega
    have HR : Hid (R = false) := by show _ = _; rw [HK.out, decide_eq_false h2]
    go_enter Tryd.func140, Tryd.ntmps140
    go_wp2
    go_ret
    exact ⟨ret_bool HR.out.symm, rfl⟩
set_option maxRecDepth 10000 in
set_option maxHeartbeats 1000000 in
theorem entryRight_any (e : En) (w : World) (hs : e.na.size ≤ 1048576) : Calls Tryd.prog 188 #[enV e] w fun r w' => r = .returned (.bool (enB e)) ∧ Below w.heap.size w w' := by
  obtain ⟨ke, na, va⟩ := e
  unfold enV
  dsimp only at *
  have HE : Hid (enB ⟨ke, na, va⟩ = (keyB ke && nameB na && valB va)) := rfl
  generalize enB ⟨ke, na, va⟩ = R at *
  have K1 : Hid (∀ W, Calls Tryd.prog 183 #[.string ke] W fun e w' => e = .returned (.bool (keyB ke)) ∧ w' = W) := fun W => roomKey_any ke W
  have K2 : Hid (∀ W, Calls Tryd.prog 139 #[.string na] W fun e w' => e = .returned (.bool (nameB na)) ∧ w' = W) := fun W => implName_any na W (by unfold maxLen; omega)
  have K3 : Hid (∀ W, Calls Tryd.prog 140 #[.string va] W fun e w' => e = .returned (.bool (valB va)) ∧ w' = W) := fun W => roomValue_any va W
  have HB : Hid (Below w.heap.size w (w.alloc (.cells #[.string ke, .string na, .string va] 108))) := (Below.refl _ _).alloc (Nat.le_refl _) _
  clear hs
  generalize keyB ke = b1 at *
  generalize nameB na = b2 at *
  generalize valB va = b3 at *
  go_enter Tryd.func188, Tryd.ntmps188
  go_wp2_with fail
  refine (K1.out _).mono ?_
  rintro e w1 ⟨rfl, rfl⟩
  cases b1 with
  | false =>
    have HR : Hid (R = false) := by show _ = _; rw [HE.out]; rfl
    go_wp2
    go_ret
    exact ⟨ret_bool HR.out.symm, HB.out⟩
  | true =>
  go_wp2_with fail
  refine (K2.out _).mono ?_
  rintro e w1 ⟨rfl, rfl⟩
  cases b2 with
  | false =>
    have HR : Hid (R = false) := by show _ = _; rw [HE.out]; rfl
    go_wp2
    go_ret
    exact ⟨ret_bool HR.out.symm, HB.out⟩
  | true =>
  go_wp2_with fail
  refine (K3.out _).mono ?_
  rintro e w1 ⟨rfl, rfl⟩
  have HR : Hid (R = b3) := by show _ = _; rw [HE.out]; rfl
  go_wp2
  go_ret
  exact ⟨ret_bool HR.out.symm, HB.out⟩
set_option maxRecDepth 10000 in
set_option maxHeartbeats 1000000 in
theorem entryBytes_any (e : En) (w : World) (hs : e.na.size ≤ 1048576 ∧ e.va.size ≤ 1048576) : Calls Tryd.prog 189 #[enV e] w fun r w' => r = .returned (.int .i64 (enN e : Int)) ∧ Below w.heap.size w w' := by
  obtain ⟨ke, na, va⟩ := e
  unfold enV enN
  dsimp only at *
  obtain ⟨h1, h2⟩ := hs
  go_enter Tryd.func189, Tryd.ntmps189
  go_wp2
  go_ret
  exact ⟨by first | rfl | go_num, (Below.refl _ _).alloc (Nat.le_refl _) _⟩
theorem grow_one (w : World) (o : Obj) : w.alloc o = Go.Sort.grow w #[o] := by unfold Go.Sort.grow World.alloc; rw [Array.append_singleton]
theorem cmpStr_any (a b : ByteArray) (w : World) : Calls Tryd.prog 191 #[.string a, .string b] w fun e w' => e = .returned (.int .i64 (Lib.compareBytes a.data.toList b.data.toList)) ∧ w' = w :=
  Any.strings_Compare { Tryd.lays106 with } a b w
open Go.Sort in
set_option maxRecDepth 10000 in
set_option maxHeartbeats 1000000 in
theorem entryOrder_any (a b : En) (w : World) : Calls Tryd.prog 146 #[enV a, enV b] w fun e w' => e = .returned (.int .i64 (ordE a b)) ∧ ∃ q os, w' = grow (w.drewN q) os := by
  have HN : Hid (ordE a b = if Lib.compareBytes a.ke.data.toList b.ke.data.toList = 0 then Lib.compareBytes a.na.data.toList b.na.data.toList else Lib.compareBytes a.ke.data.toList b.ke.data.toList) := rfl
  generalize ordE a b = R at *
  obtain ⟨ke, na, va⟩ := a
  obtain ⟨ke', na', va'⟩ := b
  unfold enV
  dsimp only at HN ⊢
  have K1 : Hid (∀ W, Calls Tryd.prog 191 #[.string ke, .string ke'] W fun e w' => e = .returned (.int .i64 (Lib.compareBytes ke.data.toList ke'.data.toList)) ∧ w' = W) := fun W => cmpStr_any _ _ W
  have K2 : Hid (∀ W, Calls Tryd.prog 191 #[.string na, .string na'] W fun e w' => e = .returned (.int .i64 (Lib.compareBytes na.data.toList na'.data.toList)) ∧ w' = W) := fun W => cmpStr_any _ _ W
  generalize Lib.compareBytes ke.data.toList ke'.data.toList = o1 at *
  generalize Lib.compareBytes na.data.toList na'.data.toList = o2 at *
  have K3 : Hid (∀ (g : Nat) (W : World), W.cell? ⟨g, 0, none⟩ = some (.int .i64 o1) → W.cell? ⟨g, 1, none⟩ = some (.int .i64 o2) → Calls Tryd.prog 132 #[.slice (some ⟨g, 0, none⟩) 2 2] W fun e w' => e = .returned (.int .i64 R) ∧ w' = W) := fun g W a b => by rw [HN.out]; exact orInt_any o1 o2 g W a b
  clear HN
  obtain ⟨W0, hW⟩ : ∃ W0, W0 = (w.alloc (.cells #[.string ke, .string na, .string va] 108)).alloc (.cells #[.string ke', .string na', .string va'] 108) := ⟨_, rfl⟩
  have hW0 : Hid (W0 = (w.alloc (.cells #[.string ke, .string na, .string va] 108)).alloc (.cells #[.string ke', .string na', .string va'] 108)) := hW
  have HB : Hid (∃ os, W0 = grow w os) := ⟨#[.cells #[.string ke, .string na, .string va] 108, .cells #[.string ke', .string na', .string va'] 108], by rw [hW, grow_one, grow_one, grow_grow]; rfl⟩
  have c4 : W0.cell? ⟨w.heap.size, 0, none⟩ = some (.string ke) := by rw [hW]; simp
  have c9 : W0.cell? ⟨w.heap.size, 1, none⟩ = some (.string na) := by rw [hW]; simp
  have d4 : W0.cell? ⟨w.heap.size + 1, 0, none⟩ = some (.string ke') := by rw [hW]; exact (World.cell?_alloc_at _ _ _ _ (by simp)).trans rfl
  have d9 : W0.cell? ⟨w.heap.size + 1, 1, none⟩ = some (.string na') := by rw [hW]; exact (World.cell?_alloc_at _ _ _ _ (by simp)).trans rfl
  have z0 : w.heap.size + 1 < W0.heap.size := by rw [hW]; simp
  clear hW
  go_enter Tryd.func146, Tryd.ntmps146
  go_upto_region 1 with fail
  rw [← hW0.out]
  clear hW0
  generalize w.heap.size = b at *
  go_region_held3 (fun w' => w'.cell? ⟨b, 0, none⟩ = some (.string ke) ∧ w'.cell? ⟨b, 1, none⟩ = some (.string na) ∧ w'.cell? ⟨b + 1, 0, none⟩ = some (.string ke') ∧ w'.cell? ⟨b + 1, 1, none⟩ = some (.string na')) (go_keep)
    (first | (go_at_call 191; refine (K1.out _).mono ?_; rintro e w1 ⟨rfl, rfl⟩) | (go_at_call 191; refine (K2.out _).mono ?_; rintro e w2 ⟨rfl, rfl⟩) | (go_at_call 132; refine (K3.out _ _ (by simp) (by simp)).mono ?_; rintro e w3 ⟨rfl, rfl⟩))
  all_goals go_wp2
  all_goals go_ret
  all_goals
    refine ⟨rfl, 1, ?_⟩
    obtain ⟨os, e⟩ := HB.out
    exact ⟨os ++ #[_], by rw [e, grow_one, grow_grow]; rfl⟩
theorem entryOrder_below (a b : En) (w : World) : Calls Tryd.prog 146 #[enV a, enV b] w fun e w' => e = .returned (.int .i64 (ordE a b)) ∧ Below w.heap.size w w' := by
  refine (entryOrder_any a b w).mono ?_
  rintro e w' ⟨rfl, q, os, rfl⟩
  refine ⟨rfl, rfl, rfl, rfl, ?_, ?_⟩
  · simp [Go.Sort.grow, World.drewN]
  · intro k hk
    simp only [Go.Sort.grow, World.drewN]
    rw [Array.getElem?_append_left hk]
end Go.Proofs.YtimmoclemcnhnaaDoor
