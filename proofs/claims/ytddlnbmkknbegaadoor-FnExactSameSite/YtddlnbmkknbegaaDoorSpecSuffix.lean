/- The walk of the specification's SuffixOf. -/
import Derived.Test.YtddlnbmkknbegaaDoorSpecOf
import Derived.Test.YtddlnbmkknbegaaDoorSpecRules
namespace Go.Proofs.YtddlnbmkknbegaaDoor
open Go.RowKit

theorem hostB_pos {s : ByteArray} (h : hostB s = true) : 0 < s.size ∧ s.size ≤ 100 := by
  refine ⟨?_, ?_⟩
  · by_cases hz : 0 < s.size
    · exact hz
    · exfalso
      have e : splitB s 46 = [s.extract 0 s.size] := by
        unfold splitB
        rw [show s.size = 0 by omega]; rfl
      have hl : labelB (s.extract 0 s.size) = false := labelB_size (.inl (by rw [ByteArray.size_extract]; omega))
      have : hostB s = false := hostB_at 0 (by rw [e]; exact Nat.zero_lt_one) (by simp only [e]; exact hl)
      rw [this] at h; cases h
  · by_cases hz : 100 < s.size
    · rw [hostB_size hz] at h; cases h
    · omega
theorem ruleB_sizes {s : ByteArray} (h : ruleB s = true) : 0 < s.size ∧ s.size ≤ 1000 := by
  unfold ruleB at h
  split at h
  · rw [Bool.and_eq_true] at h
    have := hostB_pos h.1
    rw [ByteArray.size_extract] at this
    omega
  · split at h
    · have := hostB_pos h
      rw [ByteArray.size_extract] at this
      omega
    · have := hostB_pos h
      omega
theorem okR_rule {f : Nat → ByteArray} {i : Nat} (h : okR f i = true) : ruleB (f i) = true := by
  cases i with
  | zero => exact h
  | succ m => rw [okR, Bool.and_eq_true] at h; exact h.1
theorem rulesB_parts {n : Nat} {f : Nat → ByteArray} (h : rulesB n f = true) : n ≤ 20 ∧ ∀ i, i < n → 0 < (f i).size ∧ (f i).size ≤ 1000 := by
  unfold rulesB at h
  rw [Bool.and_eq_true, decide_eq_true_eq, decide_eq_true_eq] at h
  exact ⟨h.2, fun i hi => ruleB_sizes (okR_rule (h.1 i hi))⟩
/-- what SuffixOf tells -/
def sufOf (n : Nat) (f : Nat → ByteArray) (s : ByteArray) : ByteArray × ByteArray := if rulesB n f = true ∧ hostB s = true then (sufS n f s, sufD n f s) else (⟨#[]⟩, ⟨#[]⟩)

set_option maxRecDepth 10000 in
set_option maxHeartbeats 2000000 in
theorem specSuffix_any (v : Value) (n B : Nat) (f : Nat → ByteArray) (s : ByteArray) (w : World) (hs : SliceS w B v n f) (l1 : n ≤ 1048576) (hf : ∀ i, i < n → (f i).size ≤ 1048576) :
    Calls Tryd.prog 18 #[v, .string s] w fun e w' => e = .returned (sufV (sufOf n f s).1 (sufOf n f s).2) ∧ Below w.heap.size w w' := by
  have HSl : Hid (SliceS w B v n f) := hs
  have KR : Hid (∀ W, SliceS W B v n f → Calls Tryd.prog 16 #[v] W fun e w' => e = .returned (.bool (rulesB n f)) ∧ Below W.heap.size W w') := fun W a => specRules_any v n B f W a l1 hf
  have KH : Hid (∀ W, Calls Tryd.prog 41 #[.string s] W fun e w' => e = .returned (.bool (hostB s)) ∧ Below W.heap.size W w') := fun W => specHost_any s W
  have KO : Hid (rulesB n f = true → hostB s = true → ∀ W, SliceS W B v n f → Calls Tryd.prog 42 #[v, .string s] W fun e w' => e = .returned (.agg #[.string (sufS n f s), .string (sufD n f s)]) ∧ Below W.heap.size W w') := fun a b W c => specOf_any v n B f s W c l1 (rulesB_parts a).2 (hostB_pos b).2
  have HN : Hid (¬ (rulesB n f = true ∧ hostB s = true) → sufOf n f s = (⟨#[]⟩, ⟨#[]⟩)) := fun h => by rw [sufOf, if_neg h]
  have HY : Hid (rulesB n f = true → hostB s = true → sufOf n f s = (sufS n f s, sufD n f s)) := fun a b => by rw [sufOf, if_pos ⟨a, b⟩]
  have HR20 : Hid (rulesB n f = true → n ≤ 20) := fun a => (rulesB_parts a).1
  have HH : Hid (hostB s = true → s.size ≤ 100) := fun a => (hostB_pos a).2
  clear hf
  obtain ⟨p, cap, rfl, -⟩ := hs
  have HU : Hid (∀ t : TypeId, U2 (w.alloc (.cells #[.string ⟨#[]⟩, .string ⟨#[]⟩] t)) w.heap.size) := fun t => ⟨by simp, by simp, by simp, fun o => by simp⟩
  by_cases h400 : 400 < n
  · have HZ : Hid (sufOf n f s = (⟨#[]⟩, ⟨#[]⟩)) := HN.out (fun a => by have := HR20.out a.1; omega)
    go_enter Tryd.func18, Tryd.ntmps18
    go_wp2
    exact bodyPost_ret (v := sufV ⟨#[]⟩ ⟨#[]⟩) (by simp [sufV, results, Tryd.results18, go_sem]) rfl ⟨by rw [HZ.out], (Below.refl _ _).alloc (Nat.le_refl _) _⟩
  have q1 : decide ((400 : Int) < (n : Int)) = false := by rw [decide_eq_false_iff_not]; omega
  by_cases h8 : 8000 < s.size
  · have HZ : Hid (sufOf n f s = (⟨#[]⟩, ⟨#[]⟩)) := HN.out (fun a => by have := HH.out a.2; omega)
    go_enter Tryd.func18, Tryd.ntmps18
    go_wp2
    exact bodyPost_ret (v := sufV ⟨#[]⟩ ⟨#[]⟩) (by simp [sufV, results, Tryd.results18, go_sem]) rfl ⟨by rw [HZ.out], (Below.refl _ _).alloc (Nat.le_refl _) _⟩
  have q2 : decide ((8000 : Int) < (s.size : Int)) = false := by rw [decide_eq_false_iff_not]; omega
  generalize sufOf n f s = SO at *
  generalize sufS n f s = sS at *
  generalize sufD n f s = sD at *
  generalize rulesB n f = rb at *
  generalize hostB s = hb at *
  cases rb with
  | false =>
    have HZ : Hid (SO = (⟨#[]⟩, ⟨#[]⟩)) := HN.out (fun a => by cases a.1)
    go_enter Tryd.func18, Tryd.ntmps18
    go_wp2_with fail
    refine (KR.out _ (HSl.out.below ((Below.refl _ _).alloc (Nat.le_refl _) _))).mono ?_
    rintro e w1 ⟨rfl, hb1⟩
    obtain ⟨hz1, x0, x1, xf⟩ := (HU.out _).below hb1
    have B1' : Hid (Below w.heap.size w w1) := ((Below.refl _ _).alloc (Nat.le_refl _) _).trans (hb1.mono (by simp))
    clear hb1
    go_wp2
    exact bodyPost_ret (v := sufV ⟨#[]⟩ ⟨#[]⟩) (by simp [sufV, results, Tryd.results18, go_sem, x0, x1]) rfl ⟨by rw [HZ.out], Below.setCell (Below.setCell B1'.out (Nat.le_refl _) _) (Nat.le_refl _) _⟩
  | true =>
    cases hb with
    | false =>
      have HZ : Hid (SO = (⟨#[]⟩, ⟨#[]⟩)) := HN.out (fun a => by cases a.2)
      go_enter Tryd.func18, Tryd.ntmps18
      go_wp2_with fail
      refine (KR.out _ (HSl.out.below ((Below.refl _ _).alloc (Nat.le_refl _) _))).mono ?_
      rintro e w1 ⟨rfl, hb1⟩
      have U1 := (HU.out _).below hb1
      have B1' : Hid (Below w.heap.size w w1) := ((Below.refl _ _).alloc (Nat.le_refl _) _).trans (hb1.mono (by simp))
      clear hb1
      go_wp2_with fail
      refine (KH.out _).mono ?_
      rintro e w2 ⟨rfl, hb2⟩
      obtain ⟨hz2, x0, x1, xf⟩ := U1.below hb2
      have B2' : Hid (Below w.heap.size w w2) := B1'.out.trans (hb2.mono B1'.out.size)
      clear hb2 U1
      go_wp2
      exact bodyPost_ret (v := sufV ⟨#[]⟩ ⟨#[]⟩) (by simp [sufV, results, Tryd.results18, go_sem, x0, x1]) rfl ⟨by rw [HZ.out], Below.setCell (Below.setCell B2'.out (Nat.le_refl _) _) (Nat.le_refl _) _⟩
    | true =>
      have HZ : Hid (SO = (sS, sD)) := HY.out rfl rfl
      have KO2 : Hid _ := KO.out rfl rfl
      clear KO HY HN HR20 HH
      go_enter Tryd.func18, Tryd.ntmps18
      go_wp2_with fail
      refine (KR.out _ (HSl.out.below ((Below.refl _ _).alloc (Nat.le_refl _) _))).mono ?_
      rintro e w1 ⟨rfl, hb1⟩
      have U1 := (HU.out _).below hb1
      have B1' : Hid (Below w.heap.size w w1) := ((Below.refl _ _).alloc (Nat.le_refl _) _).trans (hb1.mono (by simp))
      clear hb1
      go_wp2_with fail
      refine (KH.out _).mono ?_
      rintro e w2 ⟨rfl, hb2⟩
      have U2' := U1.below hb2
      have B2' : Hid (Below w.heap.size w w2) := B1'.out.trans (hb2.mono B1'.out.size)
      clear hb2 U1
      go_wp2_with fail
      refine (KO2.out _ (HSl.out.below B2'.out)).mono ?_
      rintro e w3 ⟨rfl, hb3⟩
      obtain ⟨hz3, x0, x1, xf⟩ := U2'.below hb3
      have B3' : Hid (Below w.heap.size w w3) := B2'.out.trans (hb3.mono B2'.out.size)
      clear hb3 U2'
      go_wp2
      exact bodyPost_ret (v := sufV sS sD) (by simp [sufV, results, Tryd.results18, go_sem, x0, x1]) rfl ⟨by rw [HZ.out], Below.setCell (Below.setCell B3'.out (Nat.le_refl _) _) (Nat.le_refl _) _⟩
end Go.Proofs.YtddlnbmkknbegaaDoor
