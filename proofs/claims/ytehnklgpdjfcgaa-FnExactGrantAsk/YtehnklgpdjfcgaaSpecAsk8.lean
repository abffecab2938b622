/- The walks of the specification's l08Begin, GrantLive, GrantOld, GrantDrop. Written by specgrant2.py. -/
import Derived.Test.YtehnklgpdjfcgaaSpecGrants
import Derived.Test.YtehnklgpdjfcgaaSpecLoops8
namespace Go.Proofs.Ytehnklgpdjfcgaa
open Go.RowKit

set_option maxRecDepth 10000 in
set_option maxHeartbeats 4000000 in
theorem specBegin8_any (v : Value) (L : List Gr) (tp si : ByteArray) (now : Int) (B : Nat) (w : World) (hs : SliceG w B v L) (hn : L.length ≤ 1048576) (h1 : tp.size ≤ 1048576) (h2 : si.size ≤ 1048576) :
    Calls Try.prog 48 #[v, .string tp, .string si, .int .i64 now] w fun e w' => e = .returned (.int .i64 (beginG L tp si now)) ∧ Below w.heap.size w w' := by
  have KG : Hid (∀ W, Below w.heap.size w W → Calls Try.prog 35 #[v] W fun e w' => e = .returned (.bool (grantsB L)) ∧ Below W.heap.size W w') := fun W hb => specGrants_any v L B W (hs.below hb) hn
  have KT : Hid (∀ W, Calls Try.prog 57 #[.string tp] W fun e w' => e = .returned (.bool (siteG tp)) ∧ w' = W) := fun W => specSite8_any tp W
  have KS : Hid (∀ W, Calls Try.prog 57 #[.string si] W fun e w' => e = .returned (.bool (siteG si)) ∧ w' = W) := fun W => specSite8_any si W
  have KU : Hid (∀ W, Calls Try.prog 38 #[.int .i64 now] W fun e w' => e = .returned (.bool (timeG now)) ∧ w' = W) := fun W => specTime8_any now W
  have HF : Hid (fitsG L tp si = (decide (L.length ≤ 400) && decide (tp.size ≤ 8000) && decide (si.size ≤ 8000))) := rfl
  have HNo : Hid (fitsG L tp si = false → beginG L tp si now = 2) := fun h => by unfold beginG; rw [if_neg (by rw [h]; decide)]
  have HY : Hid (fitsG L tp si = true → beginG L tp si now = if (grantsB L && siteG tp && siteG si && timeG now) = true then 0 else 1) := fun h => by unfold beginG; rw [if_pos h]; rfl
  obtain ⟨⟨q, cap, rfl, -⟩, -⟩ := hs
  generalize beginG L tp si now = R at *
  by_cases c1 : 400 < L.length
  case pos =>
    have HR : Hid (R = 2) := HNo.out (by rw [HF.out, decide_eq_false (by omega)]; rfl)
    have q1 : decide ((400 : Int) < (L.length : Int)) = true := by rw [decide_eq_true_iff]; omega
    go_enter Try.func48, Try.ntmps48
    go_wp2
    go_ret
    exact ⟨ret_int HR.out.symm, Below.refl _ _⟩
  have q1 : decide ((400 : Int) < (L.length : Int)) = false := by rw [decide_eq_false_iff_not]; omega
  by_cases c2 : 8000 < tp.size
  case pos =>
    have HR : Hid (R = 2) := HNo.out (by rw [HF.out, decide_eq_false (p := tp.size ≤ 8000) (by omega), Bool.and_false]; rfl)
    have q2 : decide ((8000 : Int) < (tp.size : Int)) = true := by rw [decide_eq_true_iff]; omega
    go_enter Try.func48, Try.ntmps48
    go_wp2
    go_ret
    exact ⟨ret_int HR.out.symm, Below.refl _ _⟩
  have q2 : decide ((8000 : Int) < (tp.size : Int)) = false := by rw [decide_eq_false_iff_not]; omega
  by_cases c3 : 8000 < si.size
  case pos =>
    have HR : Hid (R = 2) := HNo.out (by rw [HF.out, decide_eq_false (p := si.size ≤ 8000) (by omega), Bool.and_false])
    have q3 : decide ((8000 : Int) < (si.size : Int)) = true := by rw [decide_eq_true_iff]; omega
    go_enter Try.func48, Try.ntmps48
    go_wp2
    go_ret
    exact ⟨ret_int HR.out.symm, Below.refl _ _⟩
  have q3 : decide ((8000 : Int) < (si.size : Int)) = false := by rw [decide_eq_false_iff_not]; omega
  have HR : Hid (R = if (grantsB L && siteG tp && siteG si && timeG now) = true then 0 else 1) := HY.out (by rw [HF.out, decide_eq_true (by omega), decide_eq_true (by omega), decide_eq_true (by omega)]; rfl)
  clear HF HNo HY c1 c2 c3
  generalize grantsB L = r1 at *
  generalize siteG tp = r2 at *
  generalize siteG si = r3 at *
  generalize timeG now = r4 at *
  go_enter Try.func48, Try.ntmps48
  go_wp2_with fail
  refine (KG.out _ (Below.refl _ _)).mono ?_
  rintro e w1 ⟨rfl, hb1⟩
  have B1 : Hid (Below w.heap.size w w1) := hb1
  clear hb1 KG
  cases r1 with
  | false =>
    go_wp2
    go_ret
    exact ⟨by rw [HR.out]; rfl, B1.out⟩
  | true =>
  go_wp2_with fail
  refine (KT.out _).mono ?_
  rintro e w2 ⟨rfl, rfl⟩
  cases r2 with
  | false =>
    go_wp2
    go_ret
    exact ⟨by rw [HR.out]; rfl, B1.out⟩
  | true =>
  go_wp2_with fail
  refine (KS.out _).mono ?_
  rintro e w2 ⟨rfl, rfl⟩
  cases r3 with
  | false =>
    go_wp2
    go_ret
    exact ⟨by rw [HR.out]; rfl, B1.out⟩
  | true =>
  go_wp2_with fail
  refine (KU.out _).mono ?_
  rintro e w2 ⟨rfl, rfl⟩
  cases r4 with
  | false =>
    go_wp2
    go_ret
    exact ⟨by rw [HR.out]; rfl, B1.out⟩
  | true =>
    go_wp2
    go_ret
    exact ⟨by rw [HR.out]; rfl, B1.out⟩
theorem begin_zero {L : List Gr} {tp si : ByteArray} {now : Int} : (beginG L tp si now = 0 ∧ mayG L tp si now = true) ∨ ((beginG L tp si now = 1 ∨ beginG L tp si now = 2) ∧ mayG L tp si now = false) := by
  cases h : mayG L tp si now with
  | true => exact .inl ⟨begin_may h, rfl⟩
  | false =>
    refine .inr ⟨?_, rfl⟩
    unfold beginG
    rw [h]
    split
    · exact .inl rfl
    · exact .inr rfl
set_option maxRecDepth 10000 in
set_option maxHeartbeats 2000000 in
theorem specGrantLive_any (v : Value) (L : List Gr) (tp si : ByteArray) (now : Int) (B : Nat) (w : World) (hs : SliceG w B v L) (hn : L.length ≤ 1048576) (h1 : tp.size ≤ 1048576) (h2 : si.size ≤ 1048576) :
    Calls Try.prog 33 #[v, .string tp, .string si, .int .i64 now] w fun e w' => e = .returned (.bool (liveB8 L tp si now)) ∧ Below w.heap.size w w' := by
  have KB : Hid (Calls Try.prog 48 #[v, .string tp, .string si, .int .i64 now] w fun e w' => e = .returned (.int .i64 (beginG L tp si now)) ∧ Below w.heap.size w w') := specBegin8_any v L tp si now B w hs hn h1 h2
  have KL : Hid (mayG L tp si now = true → ∀ W, Below w.heap.size w W → Calls Try.prog 68 #[v, .string tp, .string si, .int .i64 now] W fun e w' => e = .returned (.bool (hereG L tp si now)) ∧ Below W.heap.size W w') := fun h W hb => specLive8_any v L tp si now B W (hs.below hb) hn (grants_rise (mayG_parts h).1)
  have HM : Hid (liveB8 L tp si now = (mayG L tp si now && hereG L tp si now)) := rfl
  have HZ := begin_zero (L := L) (tp := tp) (si := si) (now := now)
  clear hs
  generalize liveB8 L tp si now = R at *
  generalize mayG L tp si now = r1 at *
  generalize hereG L tp si now = r2 at *
  generalize beginG L tp si now = c at *
  rcases HZ with ⟨rfl, rfl⟩ | ⟨hc, rfl⟩
  · have KL2 := KL.out rfl
    have KL3 : Hid (∀ W, Below w.heap.size w W → Calls Try.prog 68 #[v, .string tp, .string si, .int .i64 now] W fun e w' => e = .returned (.bool r2) ∧ Below W.heap.size W w') := KL2
    clear KL KL2
    go_enter Try.func33, Try.ntmps33
    go_wp2_with fail
    refine KB.out.mono ?_
    rintro e w1 ⟨rfl, hb1⟩
    have B1 : Hid (Below w.heap.size w w1) := hb1
    clear hb1
    go_wp2_with fail
    refine (KL3.out _ B1.out).mono ?_
    rintro e w2 ⟨rfl, hb2⟩
    have B2 : Hid (Below w.heap.size w w2) := B1.out.trans (hb2.mono B1.out.size)
    clear hb2
    go_wp2
    go_ret
    exact ⟨ret_bool HM.out.symm, B2.out⟩
  · have q : (c == 0) = false := by rw [beq_eq_false_iff_ne]; omega
    clear hc KL
    go_enter Try.func33, Try.ntmps33
    go_wp2_with fail
    refine KB.out.mono ?_
    rintro e w1 ⟨rfl, hb1⟩
    go_wp2
    go_ret
    exact ⟨ret_bool HM.out.symm, hb1⟩
set_option maxRecDepth 10000 in
set_option maxHeartbeats 2000000 in
theorem specGrantOld_any (v : Value) (L : List Gr) (now : Int) (B : Nat) (w : World) (hs : SliceG w B v L) (hn : L.length ≤ 1048576) :
    Calls Try.prog 9 #[v, .int .i64 now] w fun e w' => ∃ v', e = .returned v' ∧ SliceG w' w.heap.size v' (oldG L now) ∧ Below w.heap.size w w' := by
  have KG : Hid (Calls Try.prog 35 #[v] w fun e w' => e = .returned (.bool (grantsB L)) ∧ Below w.heap.size w w') := specGrants_any v L B w hs hn
  have KU : Hid (∀ W, Calls Try.prog 38 #[.int .i64 now] W fun e w' => e = .returned (.bool (timeG now)) ∧ w' = W) := fun W => specTime8_any now W
  have KO : Hid (∀ W, Below w.heap.size w W → Calls Try.prog 39 #[v, .int .i64 now] W fun e w' => ∃ v', e = .returned v' ∧ SliceG w' W.heap.size v' (L.filter (liveG now)) ∧ Below W.heap.size W w') := fun W hb => specOld8_any v L now B W (hs.below hb) hn
  have HNo : Hid ((grantsB L && timeG now) = false → oldG L now = []) := fun h => by unfold oldG; rw [if_neg (by rw [h]; decide)]
  have HY : Hid ((grantsB L && timeG now) = true → oldG L now = L.filter (liveG now)) := fun h => by unfold oldG; rw [if_pos h]
  have HJ : Hid (grantsB L = true → L.length ≤ 8) := fun h => (grantsB_parts h).1
  have HE : Hid (∀ W : World, SliceG (W.alloc (.cells #[] 62)) W.heap.size (.slice (some ⟨W.heap.size, 0, none⟩) 0 0) []) := fun W => sliceG_of_own (World.ownsRow_made W #[] 0 (Nat.le_refl _) (Nat.zero_le _) rfl)
  obtain ⟨⟨q, cap, rfl, -⟩, -⟩ := hs
  generalize oldG L now = Z at *
  generalize L.filter (liveG now) = Y at *
  by_cases c1 : 400 < L.length
  case pos =>
    have HZ : Hid (Z = []) := HNo.out (by
      cases h : grantsB L with
      | false => rfl
      | true => have := HJ.out h; omega)
    have q1 : decide ((400 : Int) < (L.length : Int)) = true := by rw [decide_eq_true_iff]; omega
    go_enter Try.func9, Try.ntmps9
    go_wp2
    go_ret
    exact ⟨_, rfl, by rw [HZ.out]; exact HE.out w, (Below.refl _ _).alloc (Nat.le_refl _) _⟩
  have q1 : decide ((400 : Int) < (L.length : Int)) = false := by rw [decide_eq_false_iff_not]; omega
  clear HJ c1
  generalize grantsB L = r1 at *
  generalize timeG now = r2 at *
  go_enter Try.func9, Try.ntmps9
  go_wp2_with fail
  refine KG.out.mono ?_
  rintro e w1 ⟨rfl, hb1⟩
  have B1 : Hid (Below w.heap.size w w1) := hb1
  have hws : w.heap.size ≤ w1.heap.size := hb1.size
  clear hb1 KG
  cases r1 with
  | false =>
    have HZ : Hid (Z = []) := HNo.out rfl
    go_wp2
    go_ret
    exact ⟨_, rfl, by rw [HZ.out]; exact (HE.out w1).mono hws, B1.out.alloc hws _⟩
  | true =>
  go_wp2_with fail
  refine (KU.out _).mono ?_
  rintro e w2 ⟨rfl, rfl⟩
  cases r2 with
  | false =>
    have HZ : Hid (Z = []) := HNo.out rfl
    go_wp2
    go_ret
    exact ⟨_, rfl, by rw [HZ.out]; exact (HE.out w2).mono hws, B1.out.alloc hws _⟩
  | true =>
    have HZ : Hid (Z = Y) := HY.out rfl
    go_wp2_with fail
    refine (KO.out _ B1.out).mono ?_
    rintro e w3 ⟨v', rfl, hs3, hb3⟩
    have S3 : Hid (SliceG w3 w.heap.size v' Z) := by show SliceG _ _ _ _; rw [HZ.out]; exact hs3.mono hws
    have B3 : Hid (Below w.heap.size w w3) := B1.out.trans (hb3.mono hws)
    clear hs3 hb3
    go_wp2
    go_ret
    exact ⟨_, rfl, S3.out, B3.out⟩
theorem begin_drop (L : List Gr) (tp si : ByteArray) : mayG L tp si 0 = (grantsB L && siteG tp && siteG si) := by
  unfold mayG
  rw [show timeG 0 = true from rfl, Bool.and_true]
set_option maxRecDepth 10000 in
set_option maxHeartbeats 2000000 in
theorem specGrantDrop_any (v : Value) (L : List Gr) (tp si : ByteArray) (B : Nat) (w : World) (hs : SliceG w B v L) (hn : L.length ≤ 1048576) (h1 : tp.size ≤ 1048576) (h2 : si.size ≤ 1048576) :
    Calls Try.prog 15 #[v, .string tp, .string si] w fun e w' => ∃ v', e = .returned v' ∧ SliceG w' w.heap.size v' (dropL L tp si) ∧ Below w.heap.size w w' := by
  have KB : Hid (Calls Try.prog 48 #[v, .string tp, .string si, .int .i64 0] w fun e w' => e = .returned (.int .i64 (beginG L tp si 0)) ∧ Below w.heap.size w w') := specBegin8_any v L tp si 0 B w hs hn h1 h2
  have KD : Hid (∀ W, Below w.heap.size w W → Calls Try.prog 49 #[v, .string tp, .string si] W fun e w' => ∃ v', e = .returned v' ∧ SliceG w' W.heap.size v' (L.filter (fun g => !(isG tp si g))) ∧ Below W.heap.size W w') := fun W hb => specDrop8_any v L tp si B W (hs.below hb) hn
  have HNo : Hid (mayG L tp si 0 = false → dropL L tp si = []) := fun h => by rw [begin_drop] at h; unfold dropL; rw [if_neg (by rw [h]; decide)]
  have HY : Hid (mayG L tp si 0 = true → dropL L tp si = L.filter (fun g => !(isG tp si g))) := fun h => by rw [begin_drop] at h; unfold dropL; rw [if_pos h]
  have HE : Hid (∀ W : World, SliceG (W.alloc (.cells #[] 62)) W.heap.size (.slice (some ⟨W.heap.size, 0, none⟩) 0 0) []) := fun W => sliceG_of_own (World.ownsRow_made W #[] 0 (Nat.le_refl _) (Nat.zero_le _) rfl)
  have HZ0 := begin_zero (L := L) (tp := tp) (si := si) (now := 0)
  clear hs
  generalize dropL L tp si = Z at *
  generalize L.filter (fun g => !(isG tp si g)) = Y at *
  generalize mayG L tp si 0 = r1 at *
  generalize beginG L tp si 0 = c at *
  rcases HZ0 with ⟨rfl, rfl⟩ | ⟨hc, rfl⟩
  · have HZ : Hid (Z = Y) := HY.out rfl
    go_enter Try.func15, Try.ntmps15
    go_wp2_with fail
    refine KB.out.mono ?_
    rintro e w1 ⟨rfl, hb1⟩
    have B1 : Hid (Below w.heap.size w w1) := hb1
    have hws : w.heap.size ≤ w1.heap.size := hb1.size
    clear hb1
    go_wp2_with fail
    refine (KD.out _ B1.out).mono ?_
    rintro e w3 ⟨v', rfl, hs3, hb3⟩
    have S3 : Hid (SliceG w3 w.heap.size v' Z) := by show SliceG _ _ _ _; rw [HZ.out]; exact hs3.mono hws
    have B3 : Hid (Below w.heap.size w w3) := B1.out.trans (hb3.mono hws)
    clear hs3 hb3
    go_wp2
    go_ret
    exact ⟨_, rfl, S3.out, B3.out⟩
  · have q : (c != 0) = true := by rw [bne_iff_ne]; omega
    have HZ : Hid (Z = []) := HNo.out rfl
    clear hc KD
    go_enter Try.func15, Try.ntmps15
    go_wp2_with fail
    refine KB.out.mono ?_
    rintro e w1 ⟨rfl, hb1⟩
    go_wp2
    go_ret
    exact ⟨_, rfl, by rw [HZ.out]; exact (HE.out w1).mono hb1.size, hb1.alloc hb1.size _⟩
end Go.Proofs.Ytehnklgpdjfcgaa
