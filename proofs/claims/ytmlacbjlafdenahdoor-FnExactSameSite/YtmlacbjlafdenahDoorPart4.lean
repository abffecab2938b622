/- 4 of this claim's texts, one behind the other. -/
import Derived.Test.YtmlacbjlafdenahDoorPart3
import Derived.Test.YtmlacbjlafdenahDoorPart1
import Derived.ProofKit
import Derived.OpenShut
import Derived.Deep.Strs
import Derived.Handed
import Derived.Lay
import Derived.MakeChecks
import Derived.Lib.LaidTab
import Derived.Stop.LaidErr
/- The law FnExactSameSite, walked, over what the program's SameSite answers. -/
namespace Go.Proofs.YtmlacbjlafdenahDoor
open Go.RowKit

set_option maxRecDepth 10000 in
set_option maxHeartbeats 8000000 in
theorem lawSameSite_of (w : World) (hI : ∀ (v : Value) (n B : Nat) (f : Nat → ByteArray) (sc ho pa : ByteArray) (po : Int) (sc2 ho2 pa2 : ByteArray) (po2 : Int) (W : World), Below w.heap.size w W → SliceS W B v n f → n ≤ 1048576 → (∀ i, i < n → (f i).size ≤ 1048576) → ho.size ≤ 1048576 → ho2.size ≤ 1048576 → Calls Tryd.prog 25 #[v, urlV sc ho pa po, urlV sc2 ho2 pa2 po2] W fun e w' => e = .returned (.bool (sameS n f sc ho pa po sc2 ho2 pa2 po2)) ∧ Below W.heap.size W w')
    (a : Option Addr) (n cap : Nat) (f : Nat → ByteArray) (sc ho pa : ByteArray) (po : Int) (sc2 ho2 pa2 : ByteArray) (po2 : Int) (hr : StrRow w a n f) (hn : n ≤ maxLen) (m1 : sc.size ≤ maxLen) (m2 : ho.size ≤ maxLen) (m3 : pa.size ≤ maxLen) (k1 : sc2.size ≤ maxLen) (k2 : ho2.size ≤ maxLen) (k3 : pa2.size ≤ maxLen) :
    Calls Tryd.prog 7 #[.slice a n cap, urlV sc ho pa po, urlV sc2 ho2 pa2 po2] w fun e w' => e = .returned (.bool true) ∧ Below w.heap.size w w' := by
  have HR : Hid (StrRow w a n f) := hr
  have HI : Hid (∀ (v : Value) (n B : Nat) (f : Nat → ByteArray) (sc ho pa : ByteArray) (po : Int) (sc2 ho2 pa2 : ByteArray) (po2 : Int) (W : World), Below w.heap.size w W → SliceS W B v n f → n ≤ 1048576 → (∀ i, i < n → (f i).size ≤ 1048576) → ho.size ≤ 1048576 → ho2.size ≤ 1048576 → Calls Tryd.prog 25 #[v, urlV sc ho pa po, urlV sc2 ho2 pa2 po2] W fun e w' => e = .returned (.bool (sameS n f sc ho pa po sc2 ho2 pa2 po2)) ∧ Below W.heap.size W w') := hI
  have HB0 : Hid (∀ t t2 : TypeId, Below w.heap.size w ((w.alloc (.cells #[.string sc, .string ho, .int .i64 po, .string pa] t)).alloc (.cells #[.string sc2, .string ho2, .int .i64 po2, .string pa2] t2))) := fun t t2 => ((Below.refl _ _).alloc (Nat.le_refl _) _).alloc (by simp) _
  have KU : Hid (∀ W, Calls Tryd.prog 22 #[.agg #[.string sc, .string ho, .int .i64 po, .string pa]] W fun e w' => e = .returned (.agg #[.string sc, .string ho, .int .i64 po, .string pa]) ∧ Below W.heap.size W w') := fun W => toUrl_any sc ho pa po W
  have Z1 : Hid (∀ (l : Int) (W : World), 0 ≤ l → l ≤ 1048576 → Calls Tryd.prog 20 #[.agg #[.string sc, .string ho, .int .i64 po, .string pa], .int .i64 l] W fun e w' => (∃ r : Int, e = .returned (.int .i64 r) ∧ (r < 0 ∨ (0 ≤ r ∧ r ≤ 1048576 ∧ sc.size + ho.size + pa.size ≤ 1048576))) ∧ Below W.heap.size W w') := fun l W a b => szUrl_at sc ho pa po l W m1 m2 m3 a b
  have KV : Hid (∀ W, Calls Tryd.prog 22 #[.agg #[.string sc2, .string ho2, .int .i64 po2, .string pa2]] W fun e w' => e = .returned (.agg #[.string sc2, .string ho2, .int .i64 po2, .string pa2]) ∧ Below W.heap.size W w') := fun W => toUrl_any sc2 ho2 pa2 po2 W
  have Z2 : Hid (∀ (l : Int) (W : World), 0 ≤ l → l ≤ 1048576 → Calls Tryd.prog 20 #[.agg #[.string sc2, .string ho2, .int .i64 po2, .string pa2], .int .i64 l] W fun e w' => (∃ r : Int, e = .returned (.int .i64 r) ∧ (r < 0 ∨ (0 ≤ r ∧ r ≤ 1048576 ∧ sc2.size + ho2.size + pa2.size ≤ 1048576))) ∧ Below W.heap.size W w') := fun l W a b => szUrl_at sc2 ho2 pa2 po2 l W k1 k2 k3 a b
  clear hI hr
  unfold urlV
  go_enter Tryd.func7, Tryd.ntmps7
  go_wp2_with fail
  have B0 : Hid (Below w.heap.size w ((w.alloc (.cells #[.string sc, .string ho, .int .i64 po, .string pa] 35)).alloc (.cells #[.string sc2, .string ho2, .int .i64 po2, .string pa2] 35))) := HB0.out _ _
  have z0 : w.heap.size + 2 ≤ ((w.alloc (.cells #[.string sc, .string ho, .int .i64 po, .string pa] 35)).alloc (.cells #[.string sc2, .string ho2, .int .i64 po2, .string pa2] 35)).heap.size := by simp
  have p00 : ((w.alloc (.cells #[.string sc, .string ho, .int .i64 po, .string pa] 35)).alloc (.cells #[.string sc2, .string ho2, .int .i64 po2, .string pa2] 35)).cell? ⟨w.heap.size, 0, none⟩ = some (.string sc) := by simp
  have p01 : ((w.alloc (.cells #[.string sc, .string ho, .int .i64 po, .string pa] 35)).alloc (.cells #[.string sc2, .string ho2, .int .i64 po2, .string pa2] 35)).cell? ⟨w.heap.size, 1, none⟩ = some (.string ho) := by simp
  have p02 : ((w.alloc (.cells #[.string sc, .string ho, .int .i64 po, .string pa] 35)).alloc (.cells #[.string sc2, .string ho2, .int .i64 po2, .string pa2] 35)).cell? ⟨w.heap.size, 2, none⟩ = some (.int .i64 po) := by simp
  have p03 : ((w.alloc (.cells #[.string sc, .string ho, .int .i64 po, .string pa] 35)).alloc (.cells #[.string sc2, .string ho2, .int .i64 po2, .string pa2] 35)).cell? ⟨w.heap.size, 3, none⟩ = some (.string pa) := by simp
  have p04 : ((w.alloc (.cells #[.string sc, .string ho, .int .i64 po, .string pa] 35)).alloc (.cells #[.string sc2, .string ho2, .int .i64 po2, .string pa2] 35)).cell? ⟨w.heap.size + 1, 0, none⟩ = some (.string sc2) := by simp
  have p05 : ((w.alloc (.cells #[.string sc, .string ho, .int .i64 po, .string pa] 35)).alloc (.cells #[.string sc2, .string ho2, .int .i64 po2, .string pa2] 35)).cell? ⟨w.heap.size + 1, 1, none⟩ = some (.string ho2) := by simp
  have p06 : ((w.alloc (.cells #[.string sc, .string ho, .int .i64 po, .string pa] 35)).alloc (.cells #[.string sc2, .string ho2, .int .i64 po2, .string pa2] 35)).cell? ⟨w.heap.size + 1, 2, none⟩ = some (.int .i64 po2) := by simp
  have p07 : ((w.alloc (.cells #[.string sc, .string ho, .int .i64 po, .string pa] 35)).alloc (.cells #[.string sc2, .string ho2, .int .i64 po2, .string pa2] 35)).cell? ⟨w.heap.size + 1, 3, none⟩ = some (.string pa2) := by simp
  generalize ((w.alloc (.cells #[.string sc, .string ho, .int .i64 po, .string pa] 35)).alloc (.cells #[.string sc2, .string ho2, .int .i64 po2, .string pa2] 35)) = w0 at *
  refine (szStringS_any a n cap f 1048576 _ (HR.out.below B0.out) hn (by decide) (by decide)).mono ?_
  rintro e w0' ⟨⟨r, rfl, hr⟩, rfl⟩
  rcases hr with hr | ⟨r0, r1, hl, hf⟩
  · go_wp2
    go_ret
    exact ⟨rfl, B0.out⟩
  have q0 : decide (r < 0) = false := by rw [decide_eq_false_iff_not]; omega
  have hl2 : n ≤ 1048576 := by omega
  have HF : Hid (∀ i, i < n → (f i).size ≤ 1048576) := fun i hi => by have := hf i hi; omega
  clear hf hl
  go_wp2_with fail
  refine (Z1.out r _ r0 r1).mono ?_
  rintro e w1 ⟨⟨s, rfl, hs⟩, hb1⟩
  have T1 := Cells.below (L := [(⟨w.heap.size, 0, none⟩, .string sc), (⟨w.heap.size, 1, none⟩, .string ho), (⟨w.heap.size, 2, none⟩, .int .i64 po), (⟨w.heap.size, 3, none⟩, .string pa), (⟨w.heap.size + 1, 0, none⟩, .string sc2), (⟨w.heap.size + 1, 1, none⟩, .string ho2), (⟨w.heap.size + 1, 2, none⟩, .int .i64 po2), (⟨w.heap.size + 1, 3, none⟩, .string pa2)]) (by simp only [Cells]; go_keep) hb1
  simp only [Cells] at T1
  obtain ⟨p10, p11, p12, p13, p14, p15, p16, p17, -⟩ := T1
  have z1 : w.heap.size + 2 ≤ w1.heap.size := Nat.le_trans z0 hb1.size
  have B1 : Hid (Below w.heap.size w w1) := B0.out.trans (hb1.mono B0.out.size)
  clear hb1 z0 p00 p01 p02 p03 p04 p05 p06 p07
  rcases hs with hs | ⟨s0, s1, hs1⟩
  · go_wp2
    go_ret
    exact ⟨rfl, B1.out⟩
  have qs : decide (s < 0) = false := by rw [decide_eq_false_iff_not]; omega
  go_wp2_with fail
  refine (Z2.out s _ s0 s1).mono ?_
  rintro e w2 ⟨⟨t, rfl, ht⟩, hb2⟩
  have T2 := Cells.below (L := [(⟨w.heap.size, 0, none⟩, .string sc), (⟨w.heap.size, 1, none⟩, .string ho), (⟨w.heap.size, 2, none⟩, .int .i64 po), (⟨w.heap.size, 3, none⟩, .string pa), (⟨w.heap.size + 1, 0, none⟩, .string sc2), (⟨w.heap.size + 1, 1, none⟩, .string ho2), (⟨w.heap.size + 1, 2, none⟩, .int .i64 po2), (⟨w.heap.size + 1, 3, none⟩, .string pa2)]) (by simp only [Cells]; go_keep) hb2
  simp only [Cells] at T2
  obtain ⟨p20, p21, p22, p23, p24, p25, p26, p27, -⟩ := T2
  have z2 : w.heap.size + 2 ≤ w2.heap.size := Nat.le_trans z1 hb2.size
  have B2 : Hid (Below w.heap.size w w2) := B1.out.trans (hb2.mono B1.out.size)
  clear hb2 z1 p10 p11 p12 p13 p14 p15 p16 p17
  rcases ht with ht | ⟨t0, t1, hs2⟩
  · go_wp2
    go_ret
    exact ⟨rfl, B2.out⟩
  have qt : decide (t < 0) = false := by rw [decide_eq_false_iff_not]; omega
  have KZ : Hid (∀ W, Below w.heap.size w W → Calls Tryd.prog 10 #[.slice a n cap] W fun e w' => ∃ v, e = .returned v ∧ SliceS w' W.heap.size v n f ∧ Below W.heap.size W w') := fun W b => toStringS_any a n cap f W (HR.out.below b) hl2
  have KS : Hid (∀ (v : Value) (B : Nat) (W : World), SliceS W B v n f → Calls Tryd.prog 24 #[v, .agg #[.string sc, .string ho, .int .i64 po, .string pa], .agg #[.string sc2, .string ho2, .int .i64 po2, .string pa2]] W fun e w' => e = .returned (.bool (sameS n f sc ho pa po sc2 ho2 pa2 po2)) ∧ Below W.heap.size W w') := fun v B W c => specSame_any v n B f sc ho pa po sc2 ho2 pa2 po2 W c hl2 HF.out
  have KI : Hid (∀ (v : Value) (B : Nat) (W : World), Below w.heap.size w W → SliceS W B v n f → Calls Tryd.prog 25 #[v, .agg #[.string sc, .string ho, .int .i64 po, .string pa], .agg #[.string sc2, .string ho2, .int .i64 po2, .string pa2]] W fun e w' => e = .returned (.bool (sameS n f sc ho pa po sc2 ho2 pa2 po2)) ∧ Below W.heap.size W w') := fun v B W b c => HI.out v n B f sc ho pa po sc2 ho2 pa2 po2 W b c hl2 HF.out (by omega) (by omega)
  clear HI Z1 Z2
  generalize sameS n f sc ho pa po sc2 ho2 pa2 po2 = R at *
  go_wp2_with fail
  refine wp_region_held_drew (S := (fun w' => w.heap.size + 2 ≤ w'.heap.size ∧ w'.cell? ⟨w.heap.size, 0, none⟩ = some (.string sc) ∧ w'.cell? ⟨w.heap.size, 1, none⟩ = some (.string ho) ∧ w'.cell? ⟨w.heap.size, 2, none⟩ = some (.int .i64 po) ∧ w'.cell? ⟨w.heap.size, 3, none⟩ = some (.string pa) ∧ w'.cell? ⟨w.heap.size + 1, 0, none⟩ = some (.string sc2) ∧ w'.cell? ⟨w.heap.size + 1, 1, none⟩ = some (.string ho2) ∧ w'.cell? ⟨w.heap.size + 1, 2, none⟩ = some (.int .i64 po2) ∧ w'.cell? ⟨w.heap.size + 1, 3, none⟩ = some (.string pa2))) (by kernel_rfl) ?_ (fun hH0 => ?_)
  · (try dsimp only)
    go_keep
  refine wpAnyH_take (i := 0) (oi := { dst := some 26, op := Op.move (Operand.tmp 0), type := 22, pos := "exact.go:1893", after := #[], guard := none }) (v := ?vb0) rfl (by kernel_rfl) (by kernel_rfl) (by kernel_rfl) (fun _ _ _ h => h) (Or.inl ⟨by rfl, ?hyb0⟩) (by assumption) ?restb0
  case hyb0 =>
    intro w hSw
    (try dsimp only at hSw)
    go_simp
    try with_reducible rfl
  try simp only [Act.put, List.setIfInBounds_toArray, List.set_cons_zero, List.set_cons_succ]
  refine wpAnyH_take (i := 2) (oi := { dst := some 28, op := Op.load 35 (Operand.tmp 4), type := 35, pos := "exact.go:1893", after := #[], guard := none }) (v := ?vb2) rfl (by kernel_rfl) (by kernel_rfl) (by kernel_rfl) (fun _ _ _ h => h) (Or.inl ⟨by rfl, ?hyb2⟩) (by assumption) ?restb2
  case hyb2 =>
    intro w hSw
    (try dsimp only at hSw)
    go_simp
    try with_reducible rfl
  try simp only [Act.put, List.setIfInBounds_toArray, List.set_cons_zero, List.set_cons_succ]
  refine wpAnyH_take (i := 4) (oi := { dst := some 30, op := Op.load 35 (Operand.tmp 5), type := 35, pos := "exact.go:1893", after := #[], guard := none }) (v := ?vb4) rfl (by kernel_rfl) (by kernel_rfl) (by kernel_rfl) (fun _ _ _ h => h) (Or.inl ⟨by rfl, ?hyb4⟩) (by assumption) ?restb4
  case hyb4 =>
    intro w hSw
    (try dsimp only at hSw)
    go_simp
    try with_reducible rfl
  try simp only [Act.put, List.setIfInBounds_toArray, List.set_cons_zero, List.set_cons_succ]
  refine wpAnyH_ready (rs := [1]) (by kernel_rfl) (by simp) ?_
  refine AllReadyH.cons (o := { dst := some 27, op := Op.call { callee := Callee.value (Operand.func 10), args := #[Operand.tmp 26], argTypes := #[22] }, type := 22, pos := "exact.go:1893", after := #[{ on := 0, ground := Ground.data }], guard := none }) rfl (fun K hK => ?_) AllReadyH.nil
  go_simp
  (go_at_call 10; refine (KZ.out _ (B2.out.trans (Below.drew (Below.refl _ _)))).mono ?_; rintro e w3 ⟨v3, rfl, s3, hb3⟩; have T3 := Cells.below (L := [(⟨w.heap.size, 0, none⟩, .string sc), (⟨w.heap.size, 1, none⟩, .string ho), (⟨w.heap.size, 2, none⟩, .int .i64 po), (⟨w.heap.size, 3, none⟩, .string pa), (⟨w.heap.size + 1, 0, none⟩, .string sc2), (⟨w.heap.size + 1, 1, none⟩, .string ho2), (⟨w.heap.size + 1, 2, none⟩, .int .i64 po2), (⟨w.heap.size + 1, 3, none⟩, .string pa2)]) (by simp only [Cells]; go_keep) hb3; simp only [Cells] at T3; obtain ⟨p30, p31, p32, p33, p34, p35, p36, p37, -⟩ := T3; have z3 : w.heap.size + 2 ≤ w3.heap.size := Nat.le_trans z2 hb3.size; have B3 : Hid (Below w.heap.size w w3) := (B2.out.trans (Below.drew (Below.refl _ _))).trans (hb3.mono (by have := B2.out.size; simpa using this)); have S3 := strip s3; clear s3)
  try (go_wp2_with fail)
  refine hK.out _ _ ?_ (fun hH1 => ?_)
  · (try dsimp only)
    go_keep
  clear hK K hH0
  try simp only [Act.put, List.setIfInBounds_toArray, List.set_cons_zero, List.set_cons_succ]
  refine wpAnyH_ready (rs := [3]) (by kernel_rfl) (by simp) ?_
  refine AllReadyH.cons (o := { dst := some 29, op := Op.call { callee := Callee.value (Operand.func 22), args := #[Operand.tmp 28], argTypes := #[35] }, type := 38, pos := "exact.go:1893", after := #[{ on := 2, ground := Ground.data }, { on := 1, ground := Ground.chain }], guard := none }) rfl (fun K hK => ?_) AllReadyH.nil
  go_simp
  (go_at_call 22; refine (KU.out _).mono ?_; rintro e w4 ⟨rfl, hb4⟩; have T4 := Cells.below (L := [(⟨w.heap.size, 0, none⟩, .string sc), (⟨w.heap.size, 1, none⟩, .string ho), (⟨w.heap.size, 2, none⟩, .int .i64 po), (⟨w.heap.size, 3, none⟩, .string pa), (⟨w.heap.size + 1, 0, none⟩, .string sc2), (⟨w.heap.size + 1, 1, none⟩, .string ho2), (⟨w.heap.size + 1, 2, none⟩, .int .i64 po2), (⟨w.heap.size + 1, 3, none⟩, .string pa2)]) (by simp only [Cells]; go_keep) hb4; simp only [Cells] at T4; obtain ⟨p40, p41, p42, p43, p44, p45, p46, p47, -⟩ := T4; have z4 : w.heap.size + 2 ≤ w4.heap.size := Nat.le_trans z3 hb4.size; have B4 : Hid (Below w.heap.size w w4) := B3.out.trans (hb4.mono B3.out.size); have S4 := S3.below hb4; clear p30 p31 p32 p33 p34 p35 p36 p37 z3 hb3)
  try (go_wp2_with fail)
  refine hK.out _ _ ?_ (fun hH2 => ?_)
  · (try dsimp only)
    go_keep
  clear hK K hH1
  try simp only [Act.put, List.setIfInBounds_toArray, List.set_cons_zero, List.set_cons_succ]
  refine wpAnyH_ready (rs := [5]) (by kernel_rfl) (by simp) ?_
  refine AllReadyH.cons (o := { dst := some 31, op := Op.call { callee := Callee.value (Operand.func 22), args := #[Operand.tmp 30], argTypes := #[35] }, type := 38, pos := "exact.go:1893", after := #[{ on := 4, ground := Ground.data }, { on := 3, ground := Ground.chain }], guard := none }) rfl (fun K hK => ?_) AllReadyH.nil
  go_simp
  (go_at_call 22; refine (KV.out _).mono ?_; rintro e w5 ⟨rfl, hb5⟩; have T5 := Cells.below (L := [(⟨w.heap.size, 0, none⟩, .string sc), (⟨w.heap.size, 1, none⟩, .string ho), (⟨w.heap.size, 2, none⟩, .int .i64 po), (⟨w.heap.size, 3, none⟩, .string pa), (⟨w.heap.size + 1, 0, none⟩, .string sc2), (⟨w.heap.size + 1, 1, none⟩, .string ho2), (⟨w.heap.size + 1, 2, none⟩, .int .i64 po2), (⟨w.heap.size + 1, 3, none⟩, .string pa2)]) (by simp only [Cells]; go_keep) hb5; simp only [Cells] at T5; obtain ⟨p50, p51, p52, p53, p54, p55, p56, p57, -⟩ := T5; have z5 : w.heap.size + 2 ≤ w5.heap.size := Nat.le_trans z4 hb5.size; have B5 : Hid (Below w.heap.size w w5) := B4.out.trans (hb5.mono B4.out.size); have S5 := S4.below hb5; clear p40 p41 p42 p43 p44 p45 p46 p47 z4 hb4)
  try (go_wp2_with fail)
  refine hK.out _ _ ?_ (fun hH3 => ?_)
  · (try dsimp only)
    go_keep
  clear hK K hH2
  try simp only [Act.put, List.setIfInBounds_toArray, List.set_cons_zero, List.set_cons_succ]
  refine wpAnyH_ready (rs := [6]) (by kernel_rfl) (by simp) ?_
  refine AllReadyH.cons (o := { dst := some 32, op := Op.call { callee := Callee.value (Operand.func 24), args := #[Operand.tmp 27, Operand.tmp 29, Operand.tmp 31], argTypes := #[22, 38, 38] }, type := 4, pos := "exact.go:1893", after := #[{ on := 1, ground := Ground.data }, { on := 3, ground := Ground.data }, { on := 5, ground := Ground.data }, { on := 5, ground := Ground.chain }], guard := none }) rfl (fun K hK => ?_) AllReadyH.nil
  go_simp
  (go_at_call 24; refine (KS.out v3 0 _ S5.out).mono ?_; rintro e w6 ⟨rfl, hb6⟩; have T6 := Cells.below (L := [(⟨w.heap.size, 0, none⟩, .string sc), (⟨w.heap.size, 1, none⟩, .string ho), (⟨w.heap.size, 2, none⟩, .int .i64 po), (⟨w.heap.size, 3, none⟩, .string pa), (⟨w.heap.size + 1, 0, none⟩, .string sc2), (⟨w.heap.size + 1, 1, none⟩, .string ho2), (⟨w.heap.size + 1, 2, none⟩, .int .i64 po2), (⟨w.heap.size + 1, 3, none⟩, .string pa2)]) (by simp only [Cells]; go_keep) hb6; simp only [Cells] at T6; obtain ⟨p60, p61, p62, p63, p64, p65, p66, p67, -⟩ := T6; have z6 : w.heap.size + 2 ≤ w6.heap.size := Nat.le_trans z5 hb6.size; have B6 : Hid (Below w.heap.size w w6) := B5.out.trans (hb6.mono B5.out.size); clear p50 p51 p52 p53 p54 p55 p56 p57 z5 hb5)
  try (go_wp2_with fail)
  refine hK.out _ _ ?_ (fun hH4 => ?_)
  · (try dsimp only)
    go_keep
  clear hK K hH3
  try simp only [Act.put, List.setIfInBounds_toArray, List.set_cons_zero, List.set_cons_succ]
  refine wpAnyH_take (i := 7) (oi := { dst := some 8, op := Op.assign (Operand.tmp 32), type := 4, pos := "exact.go:1893", after := #[{ on := 6, ground := Ground.data }, { on := 6, ground := Ground.chain }, { on := 0, ground := Ground.phase }, { on := 1, ground := Ground.phase }, { on := 2, ground := Ground.phase }, { on := 3, ground := Ground.phase }, { on := 4, ground := Ground.phase }, { on := 5, ground := Ground.phase }, { on := 6, ground := Ground.phase }], guard := none }) (v := ?vb7) rfl (by kernel_rfl) (by kernel_rfl) (by kernel_rfl) (fun _ _ _ h => h) (Or.inl ⟨by rfl, ?hyb7⟩) (by assumption) ?restb7
  case hyb7 =>
    intro w hSw
    (try dsimp only at hSw)
    go_simp
    try with_reducible rfl
  try simp only [Act.put, List.setIfInBounds_toArray, List.set_cons_zero, List.set_cons_succ]
  refine wpAnyH_done (by kernel_rfl) ?_ _
  clear S3 S5 S4
  go_wp2_with fail
  refine (KZ.out _ B6.out).mono ?_
  rintro e w7 ⟨v7, rfl, s7, hb7⟩
  have S7 := strip s7
  have T7 := Cells.below (L := [(⟨w.heap.size, 0, none⟩, .string sc), (⟨w.heap.size, 1, none⟩, .string ho), (⟨w.heap.size, 2, none⟩, .int .i64 po), (⟨w.heap.size, 3, none⟩, .string pa), (⟨w.heap.size + 1, 0, none⟩, .string sc2), (⟨w.heap.size + 1, 1, none⟩, .string ho2), (⟨w.heap.size + 1, 2, none⟩, .int .i64 po2), (⟨w.heap.size + 1, 3, none⟩, .string pa2)]) (by simp only [Cells]; go_keep) hb7
  simp only [Cells] at T7
  obtain ⟨p70, p71, p72, p73, p74, p75, p76, p77, -⟩ := T7
  have z7 : w.heap.size + 2 ≤ w7.heap.size := Nat.le_trans z6 hb7.size
  have B7 : Hid (Below w.heap.size w w7) := B6.out.trans (hb7.mono B6.out.size)
  clear s7 hb7 z6 hb6 p60 p61 p62 p63 p64 p65 p66 p67
  go_wp2_with fail
  refine wp_region_held_drew (S := (fun w' => w.heap.size + 2 ≤ w'.heap.size ∧ w'.cell? ⟨w.heap.size, 0, none⟩ = some (.string sc) ∧ w'.cell? ⟨w.heap.size, 1, none⟩ = some (.string ho) ∧ w'.cell? ⟨w.heap.size, 2, none⟩ = some (.int .i64 po) ∧ w'.cell? ⟨w.heap.size, 3, none⟩ = some (.string pa) ∧ w'.cell? ⟨w.heap.size + 1, 0, none⟩ = some (.string sc2) ∧ w'.cell? ⟨w.heap.size + 1, 1, none⟩ = some (.string ho2) ∧ w'.cell? ⟨w.heap.size + 1, 2, none⟩ = some (.int .i64 po2) ∧ w'.cell? ⟨w.heap.size + 1, 3, none⟩ = some (.string pa2))) (by kernel_rfl) ?_ (fun hH0 => ?_)
  · (try dsimp only)
    go_keep
  refine wpAnyH_take (i := 0) (oi := { dst := some 35, op := Op.move (Operand.tmp 9), type := 22, pos := "exact.go:1895", after := #[], guard := none }) (v := ?vc0) rfl (by kernel_rfl) (by kernel_rfl) (by kernel_rfl) (fun _ _ _ h => h) (Or.inl ⟨by rfl, ?hyc0⟩) (by assumption) ?restc0
  case hyc0 =>
    intro w hSw
    (try dsimp only at hSw)
    go_simp
    try with_reducible rfl
  try simp only [Act.put, List.setIfInBounds_toArray, List.set_cons_zero, List.set_cons_succ]
  refine wpAnyH_take (i := 1) (oi := { dst := some 36, op := Op.load 35 (Operand.tmp 4), type := 35, pos := "exact.go:1895", after := #[], guard := none }) (v := ?vc1) rfl (by kernel_rfl) (by kernel_rfl) (by kernel_rfl) (fun _ _ _ h => h) (Or.inl ⟨by rfl, ?hyc1⟩) (by assumption) ?restc1
  case hyc1 =>
    intro w hSw
    (try dsimp only at hSw)
    go_simp
    try with_reducible rfl
  try simp only [Act.put, List.setIfInBounds_toArray, List.set_cons_zero, List.set_cons_succ]
  refine wpAnyH_take (i := 3) (oi := { dst := some 38, op := Op.load 35 (Operand.tmp 5), type := 35, pos := "exact.go:1895", after := #[], guard := none }) (v := ?vc3) rfl (by kernel_rfl) (by kernel_rfl) (by kernel_rfl) (fun _ _ _ h => h) (Or.inl ⟨by rfl, ?hyc3⟩) (by assumption) ?restc3
  case hyc3 =>
    intro w hSw
    (try dsimp only at hSw)
    go_simp
    try with_reducible rfl
  try simp only [Act.put, List.setIfInBounds_toArray, List.set_cons_zero, List.set_cons_succ]
  refine wpAnyH_ready (rs := [2]) (by kernel_rfl) (by simp) ?_
  refine AllReadyH.cons (o := { dst := some 37, op := Op.call { callee := Callee.value (Operand.func 22), args := #[Operand.tmp 36], argTypes := #[35] }, type := 38, pos := "exact.go:1895", after := #[{ on := 1, ground := Ground.data }], guard := none }) rfl (fun K hK => ?_) AllReadyH.nil
  go_simp
  (go_at_call 22; refine (KU.out _).mono ?_; rintro e w8 ⟨rfl, hb8⟩; have T8 := Cells.below (L := [(⟨w.heap.size, 0, none⟩, .string sc), (⟨w.heap.size, 1, none⟩, .string ho), (⟨w.heap.size, 2, none⟩, .int .i64 po), (⟨w.heap.size, 3, none⟩, .string pa), (⟨w.heap.size + 1, 0, none⟩, .string sc2), (⟨w.heap.size + 1, 1, none⟩, .string ho2), (⟨w.heap.size + 1, 2, none⟩, .int .i64 po2), (⟨w.heap.size + 1, 3, none⟩, .string pa2)]) (by simp only [Cells]; go_keep) hb8; simp only [Cells] at T8; obtain ⟨p80, p81, p82, p83, p84, p85, p86, p87, -⟩ := T8; have z8 : w.heap.size + 2 ≤ w8.heap.size := Nat.le_trans z7 hb8.size; have B8 : Hid (Below w.heap.size w w8) := (B7.out.trans (Below.drew (Below.refl _ _))).trans (hb8.mono (by have := B7.out.size; simpa using this)); have S8 := (S7.below (Below.drew (Below.refl _ _))).below hb8)
  try (go_wp2_with fail)
  refine hK.out _ _ ?_ (fun hH1 => ?_)
  · (try dsimp only)
    go_keep
  clear hK K hH0
  try simp only [Act.put, List.setIfInBounds_toArray, List.set_cons_zero, List.set_cons_succ]
  refine wpAnyH_ready (rs := [4]) (by kernel_rfl) (by simp) ?_
  refine AllReadyH.cons (o := { dst := some 39, op := Op.call { callee := Callee.value (Operand.func 22), args := #[Operand.tmp 38], argTypes := #[35] }, type := 38, pos := "exact.go:1895", after := #[{ on := 3, ground := Ground.data }, { on := 2, ground := Ground.chain }], guard := none }) rfl (fun K hK => ?_) AllReadyH.nil
  go_simp
  (go_at_call 22; refine (KV.out _).mono ?_; rintro e w9 ⟨rfl, hb9⟩; have T9 := Cells.below (L := [(⟨w.heap.size, 0, none⟩, .string sc), (⟨w.heap.size, 1, none⟩, .string ho), (⟨w.heap.size, 2, none⟩, .int .i64 po), (⟨w.heap.size, 3, none⟩, .string pa), (⟨w.heap.size + 1, 0, none⟩, .string sc2), (⟨w.heap.size + 1, 1, none⟩, .string ho2), (⟨w.heap.size + 1, 2, none⟩, .int .i64 po2), (⟨w.heap.size + 1, 3, none⟩, .string pa2)]) (by simp only [Cells]; go_keep) hb9; simp only [Cells] at T9; obtain ⟨p90, p91, p92, p93, p94, p95, p96, p97, -⟩ := T9; have z9 : w.heap.size + 2 ≤ w9.heap.size := Nat.le_trans z8 hb9.size; have B9 : Hid (Below w.heap.size w w9) := B8.out.trans (hb9.mono B8.out.size); have S9 := S8.below hb9; clear p80 p81 p82 p83 p84 p85 p86 p87 z8 hb8)
  try (go_wp2_with fail)
  refine hK.out _ _ ?_ (fun hH2 => ?_)
  · (try dsimp only)
    go_keep
  clear hK K hH1
  try simp only [Act.put, List.setIfInBounds_toArray, List.set_cons_zero, List.set_cons_succ]
  refine wpAnyH_ready (rs := [5]) (by kernel_rfl) (by simp) ?_
  refine AllReadyH.cons (o := { dst := some 40, op := Op.call { callee := Callee.value (Operand.func 25), args := #[Operand.tmp 35, Operand.tmp 37, Operand.tmp 39], argTypes := #[22, 38, 38] }, type := 4, pos := "exact.go:1895", after := #[{ on := 0, ground := Ground.data }, { on := 2, ground := Ground.data }, { on := 4, ground := Ground.data }, { on := 4, ground := Ground.chain }], guard := none }) rfl (fun K hK => ?_) AllReadyH.nil
  go_simp
  (go_at_call 25; refine (KI.out v7 0 _ B9.out S9.out).mono ?_; rintro e w10 ⟨rfl, hb10⟩; have T10 := Cells.below (L := [(⟨w.heap.size, 0, none⟩, .string sc), (⟨w.heap.size, 1, none⟩, .string ho), (⟨w.heap.size, 2, none⟩, .int .i64 po), (⟨w.heap.size, 3, none⟩, .string pa), (⟨w.heap.size + 1, 0, none⟩, .string sc2), (⟨w.heap.size + 1, 1, none⟩, .string ho2), (⟨w.heap.size + 1, 2, none⟩, .int .i64 po2), (⟨w.heap.size + 1, 3, none⟩, .string pa2)]) (by simp only [Cells]; go_keep) hb10; simp only [Cells] at T10; obtain ⟨p100, p101, p102, p103, p104, p105, p106, p107, -⟩ := T10; have z10 : w.heap.size + 2 ≤ w10.heap.size := Nat.le_trans z9 hb10.size; have B10 : Hid (Below w.heap.size w w10) := B9.out.trans (hb10.mono B9.out.size); have S10 := S9.below hb10; clear p90 p91 p92 p93 p94 p95 p96 p97 z9 hb9)
  try (go_wp2_with fail)
  refine hK.out _ _ ?_ (fun hH3 => ?_)
  · (try dsimp only)
    go_keep
  clear hK K hH2
  try simp only [Act.put, List.setIfInBounds_toArray, List.set_cons_zero, List.set_cons_succ]
  refine wpAnyH_take (i := 6) (oi := { dst := some 10, op := Op.assign (Operand.tmp 40), type := 4, pos := "exact.go:1895", after := #[{ on := 5, ground := Ground.data }, { on := 5, ground := Ground.chain }, { on := 0, ground := Ground.phase }, { on := 1, ground := Ground.phase }, { on := 2, ground := Ground.phase }, { on := 3, ground := Ground.phase }, { on := 4, ground := Ground.phase }, { on := 5, ground := Ground.phase }], guard := none }) (v := ?vc6) rfl (by kernel_rfl) (by kernel_rfl) (by kernel_rfl) (fun _ _ _ h => h) (Or.inl ⟨by rfl, ?hyc6⟩) (by assumption) ?restc6
  case hyc6 =>
    intro w hSw
    (try dsimp only at hSw)
    go_simp
    try with_reducible rfl
  try simp only [Act.put, List.setIfInBounds_toArray, List.set_cons_zero, List.set_cons_succ]
  refine wpAnyH_done (by kernel_rfl) ?_ _
  clear S7 S8 S9 hb10
  go_wp2_with fail
  refine (KZ.out _ B10.out).mono ?_
  rintro e w11 ⟨v11, rfl, s11, hb11⟩
  have S11 := S10.below hb11
  have B11 : Hid (Below w.heap.size w w11) := B10.out.trans (hb11.mono B10.out.size)
  clear hb11
  go_wp2_with fail
  refine (eqStringS_any v7 v11 n _ _ f _ S11.out s11 (by omega)).mono ?_
  rintro e w12 ⟨rfl, hb12⟩
  go_wp2
  go_ret
  exact ⟨rfl, B11.out.trans (hb12.mono B11.out.size)⟩
end Go.Proofs.YtmlacbjlafdenahDoor

/- A slice of texts that came in, as a law's frame opens it. -/
namespace Go.Proofs.YtmlacbjlafdenahDoor
open Go.ChangeShapes Go.WideShapes Go.ChangeAt Go.RowKit

theorem strRow_of {H : Type} {enc : TypeId × Value → H} {W : World} {a : Option Addr} {len cap : Nat} {d : DataW H} {p : List MemPlace}
    (h : ∃ fuel, DataW.trod enc Tryd.prog W 0 (fun _ => true) true fuel 22 (Value.slice a len cap).cells.toList = some (d, p)) : (∃ f, StrRow W a len f) ∧ len ≤ maxLen := by
  obtain ⟨fuel, hf⟩ := h
  rcases Go.Deep.open_strs Tryd.underlying22 Tryd.underlying9 (by kernel_rfl) hf with ⟨hcs, _⟩ | ⟨x, l, c, m, f, hcs, _, hl, hm, hmm, _, hcell⟩
  · simp [Value.cells] at hcs
    obtain ⟨rfl, rfl, rfl⟩ := hcs
    exact ⟨⟨fun _ => ⟨#[]⟩, fun i hi => absurd hi (by omega)⟩, Nat.zero_le _⟩
  · simp [Value.cells] at hcs
    obtain ⟨rfl, rfl, rfl⟩ := hcs
    refine ⟨⟨f, fun i hi => ?_⟩, by omega⟩
    have hmc : m = cap := by simpa using hmm
    obtain ⟨hc, hs⟩ := hcell i (by omega)
    refine ⟨x, rfl, ?_, hc, hs⟩
    have hb : (x.add i).block < W.heap.size := by
      by_cases h : (x.add i).block < W.heap.size
      · exact h
      · exfalso
        simp [World.cell?, Array.getElem?_eq_none (show W.heap.size ≤ (x.add i).block by omega)] at hc
    have e : (x.add i).block = x.block := by unfold Addr.add; split <;> rfl
    rw [e] at hb; exact hb
end Go.Proofs.YtmlacbjlafdenahDoor

/- The law FnExactSameSite, walked. -/
namespace Go.Proofs.YtmlacbjlafdenahDoor
open Go.RowKit
theorem lawSameSite_any (a : Option Addr) (n cap : Nat) (f : Nat → ByteArray) (sc ho pa : ByteArray) (po : Int) (sc2 ho2 pa2 : ByteArray) (po2 : Int) (w : World) (hG : MaxI w) (hr : StrRow w a n f) (hn : n ≤ maxLen) (m1 : sc.size ≤ maxLen) (m2 : ho.size ≤ maxLen) (m3 : pa.size ≤ maxLen) (k1 : sc2.size ≤ maxLen) (k2 : ho2.size ≤ maxLen) (k3 : pa2.size ≤ maxLen) :
    Calls Tryd.prog 7 #[.slice a n cap, urlV sc ho pa po, urlV sc2 ho2 pa2 po2] w fun e w' => e = .returned (.bool true) ∧ Below w.heap.size w w' :=
  lawSameSite_of w (fun v n B f sc ho pa po sc2 ho2 pa2 po2 W hb hs hn hf hh hh2 => sameSite_any v n B f sc ho pa po sc2 ho2 pa2 po2 W (hG.on hb) hs hn hf hh hh2) a n cap f sc ho pa po sc2 ho2 pa2 po2 hr hn m1 m2 m3 k1 k2 k3
end Go.Proofs.YtmlacbjlafdenahDoor

/- The lifting of a law's walk to a row that lists package-level variables, the world's shape kept; what the shape and the list give a walk. -/
namespace Go.Proofs.YtmlacbjlafdenahDoor
open Go.RowKit

theorem Ld.own : ownKnob Tryd.prog.godebug = none := by kernel_rfl
theorem Ld.laidOut : laidOutB Tryd.prog = true := by kernel_rfl
set_option maxRecDepth 10000 in
theorem lift_laid {H : Type} {enc : TypeId × Value → H} {os : Os} {f : FuncId} {fn : Func} {s : ChangeSpec} {X : World → Prop} (hX : ∀ (w w' : World), w.heap = w'.heap → X w → X w')
    (started : os.Started) (noInit : Tryd.prog.inits.idxOf? f = none) (hfn : Tryd.prog.funcs[f]? = some fn)
    (start : ∃ (w : World) (tape : Tape) (i : Input), w.os = os ∧ (w.forCall tape i).Shaped Tryd.prog ∧ i.vars = [] ∧ Input.okWide Tryd.prog (w.forCall tape i) .any w.heap.size f i ∧
      ((s.pre enc Tryd.prog fn [] false (w.forCall tape i).memory i.args ∧ X (w.forCall tape i).memory) ∧ sizedMet enc Tryd.prog fn (OpenSpec.ofChange s) false (w.forCall tape i).memory i.args) ∧ Assume.holds {} Tryd.prog (lone (Frame.enter Tryd.prog f i.args .normal) [] (w.forCall tape i)))
    (walk : ∀ (W : World) (base : Nat) (args : Array Value) (ds gs : List (DataW H)) (before : List MemPlace),
      (∀ (j : Nat) t v, fn.params[j]? = some t → args[j]? = some v → Value.okWide Tryd.prog W .any base t v) →
      DataW.Whole enc Tryd.prog fn.params.toList s.vars false W args.toList ds gs before → X W → W.ShapedOpen Tryd.prog →
      Calls Tryd.prog f args W fun e W' => ∃ v, e = .returned v ∧ s.post enc Tryd.prog fn false true false false W args v W') :
    ReturnsInHanded {} Tryd.checked os f .any (fun w args => (s.pre enc Tryd.prog fn [] false w args ∧ X w) ∧ sizedMet enc Tryd.prog fn (OpenSpec.ofChange s) false w args) (s.post enc Tryd.prog fn false true false false) := by
  refine returnsInHanded_of_calls (C := Tryd.checked) Ld.own started noInit start ?_
  intro w tape i _ hsh _ hok hpre _
  obtain ⟨_, _, _, fn2, hfn2, _, _, _, _, hval⟩ := hok
  obtain rfl : fn2 = fn := Option.some.inj (hfn2.symm.trans hfn)
  obtain ⟨⟨⟨ds, gs, before, hw, _⟩, hx⟩, _⟩ := hpre
  have hw2 := DataW.Whole.of_heap (w' := w.forCall tape i) (by rfl) hw
  refine (walk (w.forCall tape i) w.heap.size i.args ds gs before hval hw2 (hX _ _ (by rfl) hx) hsh).mono fun e W' ⟨v, he, hp⟩ => ?_
  subst he
  exact ChangeSpec.post_blind hp
set_option maxRecDepth 10000 in
theorem maxI_of_shape {W : World} (h : W.ShapedOpen Tryd.prog) : MaxI W := Tryd.lays146.s1_3 W h
end Go.Proofs.YtmlacbjlafdenahDoor
