/- The walks of the program's closures over grants, of mayAsk, liveIn, GrantLive. -/
import Derived.Test.YtehnklgpdjfcgaaImplGrants
import Derived.Test.YtehnklgpdjfcgaaImplHas
import Derived.Test.YtehnklgpdjfcgaaDelFunc
namespace Go.Proofs.Ytehnklgpdjfcgaa
open Go.RowKit

set_option maxRecDepth 10000 in
set_option maxHeartbeats 2000000 in
theorem liveIn1_any (b1 b2 : Nat) (tp si : ByteArray) (now : Int) (c : Gr) (w : World) (z1 : b1 < w.heap.size) (z2 : b2 < w.heap.size) (h0 : w.cell? ⟨b1, 0, none⟩ = some (.string tp)) (h1 : w.cell? ⟨b1, 1, none⟩ = some (.string si)) (h2 : w.cell? ⟨b2, 0, none⟩ = some (.int .i64 now)) :
    Calls Try.prog 85 #[grV c, .pointer (some ⟨b1, 0, none⟩), .pointer (some ⟨b2, 0, none⟩)] w fun e w' => e = .returned (.bool (isG tp si c && liveG now c)) ∧ Below w.heap.size w w' := by
  have KH0 : ∀ W, Calls Try.prog 51 #[leaveV tp si, grV c] W fun e w' => e = .returned (.bool (isG tp si c)) ∧ Below W.heap.size W w' := fun W => hasG_any tp si c W
  have KO0 : ∀ W, Calls Try.prog 45 #[.int .i64 now, grV c] W fun e w' => e = .returned (.bool (!(liveG now c))) ∧ Below W.heap.size W w' := fun W => outlives_any now c W
  generalize isG tp si c = bi at *
  generalize liveG now c = bl at *
  obtain ⟨ke, na, va⟩ := c
  unfold grV leaveV at *
  dsimp only at *
  have KH : Hid (∀ W, Calls Try.prog 51 #[.agg #[.string tp, .string si], .agg #[.string ke, .string na, .int .i64 va]] W fun e w' => e = .returned (.bool bi) ∧ Below W.heap.size W w') := KH0
  have KO : Hid (∀ W, Calls Try.prog 45 #[.int .i64 now, .agg #[.string ke, .string na, .int .i64 va]] W fun e w' => e = .returned (.bool (!bl)) ∧ Below W.heap.size W w') := KO0
  clear KH0 KO0
  obtain ⟨W0, hW⟩ : ∃ W0, W0 = w.alloc (.cells #[.string ke, .string na, .int .i64 va] 62) := ⟨_, rfl⟩
  have hW0 : Hid (W0 = w.alloc (.cells #[.string ke, .string na, .int .i64 va] 62)) := hW
  have A0 : Below w.heap.size w W0 := by rw [hW]; exact (Below.refl _ _).alloc (Nat.le_refl _) _
  have B0 : Hid (Below w.heap.size w W0) := A0
  have g0 : W0.cell? ⟨w.heap.size, 0, none⟩ = some (.string ke) := by rw [hW]; simp
  have g1 : W0.cell? ⟨w.heap.size, 1, none⟩ = some (.string na) := by rw [hW]; simp
  have g2 : W0.cell? ⟨w.heap.size, 2, none⟩ = some (.int .i64 va) := by rw [hW]; simp
  have zw : w.heap.size < W0.heap.size := by rw [hW]; simp
  have k0 : W0.cell? ⟨b1, 0, none⟩ = some (.string tp) := ((bcell A0).1 _ _ z1).trans h0
  have k1 : W0.cell? ⟨b1, 1, none⟩ = some (.string si) := ((bcell A0).1 _ _ z1).trans h1
  have k2 : W0.cell? ⟨b2, 0, none⟩ = some (.int .i64 now) := ((bcell A0).1 _ _ z2).trans h2
  have z22 : b2 < W0.heap.size := Nat.lt_trans z2 zw
  clear hW A0 h0 h1 h2
  go_enter Try.func85, Try.ntmps85
  go_upto_region 1 with fail
  rw [← hW0.out]
  clear hW0
  generalize hbb : w.heap.size = b at *
  go_wp2_with fail
  refine (KH.out _).mono ?_
  rintro e w1 ⟨rfl, hb1⟩
  have x0 : w1.cell? ⟨b, 0, none⟩ = some (.string ke) := ((bcell hb1).1 _ _ zw).trans g0
  have x1 : w1.cell? ⟨b, 1, none⟩ = some (.string na) := ((bcell hb1).1 _ _ zw).trans g1
  have x2 : w1.cell? ⟨b, 2, none⟩ = some (.int .i64 va) := ((bcell hb1).1 _ _ zw).trans g2
  have x3 : w1.cell? ⟨b2, 0, none⟩ = some (.int .i64 now) := ((bcell hb1).1 _ _ z22).trans k2
  have B1 : Hid (Below b w w1) := B0.out.trans (hb1.mono (Nat.le_of_lt zw))
  have zw1 : b < w1.heap.size := Nat.lt_of_lt_of_le zw hb1.size
  clear hb1 g0 g1 g2 k0 k1 k2 KH B0
  cases bi with
  | false =>
    go_wp2
    go_ret
    exact ⟨rfl, by rw [hbb]; exact B1.out⟩
  | true =>
    go_wp2_with fail
    refine (KO.out _).mono ?_
    rintro e w2 ⟨rfl, hb2⟩
    have B2 : Hid (Below b w w2) := B1.out.trans (hb2.mono (Nat.le_of_lt zw1))
    clear hb2
    go_wp2
    go_ret
    exact ⟨ret_bool (by cases bl <;> rfl), by rw [hbb]; exact B2.out⟩
set_option maxRecDepth 10000 in
set_option maxHeartbeats 2000000 in
theorem put1_any (b1 b2 : Nat) (tp si : ByteArray) (now : Int) (c : Gr) (w : World) (z1 : b1 < w.heap.size) (z2 : b2 < w.heap.size) (h0 : w.cell? ⟨b1, 0, none⟩ = some (.string tp)) (h1 : w.cell? ⟨b1, 1, none⟩ = some (.string si)) (h2 : w.cell? ⟨b2, 0, none⟩ = some (.int .i64 now)) :
    Calls Try.prog 54 #[grV c, .pointer (some ⟨b1, 0, none⟩), .pointer (some ⟨b2, 0, none⟩)] w fun e w' => e = .returned (.bool (isG tp si c || !(liveG now c))) ∧ Below w.heap.size w w' := by
  have KH0 : ∀ W, Calls Try.prog 51 #[leaveV tp si, grV c] W fun e w' => e = .returned (.bool (isG tp si c)) ∧ Below W.heap.size W w' := fun W => hasG_any tp si c W
  have KO0 : ∀ W, Calls Try.prog 45 #[.int .i64 now, grV c] W fun e w' => e = .returned (.bool (!(liveG now c))) ∧ Below W.heap.size W w' := fun W => outlives_any now c W
  generalize isG tp si c = bi at *
  generalize liveG now c = bl at *
  obtain ⟨ke, na, va⟩ := c
  unfold grV leaveV at *
  dsimp only at *
  have KH : Hid (∀ W, Calls Try.prog 51 #[.agg #[.string tp, .string si], .agg #[.string ke, .string na, .int .i64 va]] W fun e w' => e = .returned (.bool bi) ∧ Below W.heap.size W w') := KH0
  have KO : Hid (∀ W, Calls Try.prog 45 #[.int .i64 now, .agg #[.string ke, .string na, .int .i64 va]] W fun e w' => e = .returned (.bool (!bl)) ∧ Below W.heap.size W w') := KO0
  clear KH0 KO0
  obtain ⟨W0, hW⟩ : ∃ W0, W0 = w.alloc (.cells #[.string ke, .string na, .int .i64 va] 62) := ⟨_, rfl⟩
  have hW0 : Hid (W0 = w.alloc (.cells #[.string ke, .string na, .int .i64 va] 62)) := hW
  have A0 : Below w.heap.size w W0 := by rw [hW]; exact (Below.refl _ _).alloc (Nat.le_refl _) _
  have B0 : Hid (Below w.heap.size w W0) := A0
  have g0 : W0.cell? ⟨w.heap.size, 0, none⟩ = some (.string ke) := by rw [hW]; simp
  have g1 : W0.cell? ⟨w.heap.size, 1, none⟩ = some (.string na) := by rw [hW]; simp
  have g2 : W0.cell? ⟨w.heap.size, 2, none⟩ = some (.int .i64 va) := by rw [hW]; simp
  have zw : w.heap.size < W0.heap.size := by rw [hW]; simp
  have k0 : W0.cell? ⟨b1, 0, none⟩ = some (.string tp) := ((bcell A0).1 _ _ z1).trans h0
  have k1 : W0.cell? ⟨b1, 1, none⟩ = some (.string si) := ((bcell A0).1 _ _ z1).trans h1
  have k2 : W0.cell? ⟨b2, 0, none⟩ = some (.int .i64 now) := ((bcell A0).1 _ _ z2).trans h2
  have z22 : b2 < W0.heap.size := Nat.lt_trans z2 zw
  clear hW A0 h0 h1 h2
  go_enter Try.func54, Try.ntmps54
  go_upto_region 1 with fail
  rw [← hW0.out]
  clear hW0
  generalize hbb : w.heap.size = b at *
  go_wp2_with fail
  refine (KH.out _).mono ?_
  rintro e w1 ⟨rfl, hb1⟩
  have x0 : w1.cell? ⟨b, 0, none⟩ = some (.string ke) := ((bcell hb1).1 _ _ zw).trans g0
  have x1 : w1.cell? ⟨b, 1, none⟩ = some (.string na) := ((bcell hb1).1 _ _ zw).trans g1
  have x2 : w1.cell? ⟨b, 2, none⟩ = some (.int .i64 va) := ((bcell hb1).1 _ _ zw).trans g2
  have x3 : w1.cell? ⟨b2, 0, none⟩ = some (.int .i64 now) := ((bcell hb1).1 _ _ z22).trans k2
  have B1 : Hid (Below b w w1) := B0.out.trans (hb1.mono (Nat.le_of_lt zw))
  have zw1 : b < w1.heap.size := Nat.lt_of_lt_of_le zw hb1.size
  clear hb1 g0 g1 g2 k0 k1 k2 KH B0
  cases bi with
  | true =>
    go_wp2
    go_ret
    exact ⟨rfl, by rw [hbb]; exact B1.out⟩
  | false =>
    go_wp2_with fail
    refine (KO.out _).mono ?_
    rintro e w2 ⟨rfl, hb2⟩
    have B2 : Hid (Below b w w2) := B1.out.trans (hb2.mono (Nat.le_of_lt zw1))
    clear hb2
    go_wp2
    go_ret
    exact ⟨ret_bool (by cases bl <;> rfl), by rw [hbb]; exact B2.out⟩
set_option maxRecDepth 10000 in
set_option maxHeartbeats 2000000 in
theorem mayAsk_any (v : Value) (L : List Gr) (tp si : ByteArray) (now : Int) (B : Nat) (w : World) (hs : SliceG w B v L) (hn : L.length ≤ 1048576) :
    Calls Try.prog 53 #[v, leaveV tp si, .int .i64 now] w fun e w' => e = .returned (.bool (mayG L tp si now)) ∧ Below w.heap.size w w' := by
  have KG : Hid (∀ W, Below w.heap.size w W → Calls Try.prog 34 #[v] W fun e w' => e = .returned (.bool (grantsB L)) ∧ Below W.heap.size W w') := fun W hb => grantsRight_any v L B W (hs.below hb) hn
  have KR0 : ∀ W, Calls Try.prog 50 #[leaveV tp si] W fun e w' => e = .returned (.bool (siteG tp && siteG si)) ∧ Below W.heap.size W w' := fun W => leaveRight_any tp si W
  have KT : Hid (∀ W, Calls Try.prog 41 #[.int .i64 now] W fun e w' => e = .returned (.bool (timeG now)) ∧ w' = W) := fun W => isTimeG_any now W
  have HM : Hid (mayG L tp si now = (grantsB L && (siteG tp && siteG si) && timeG now)) := by show _ = _; unfold mayG; rw [Bool.and_assoc (grantsB L)]
  clear hs
  generalize mayG L tp si now = R at *
  generalize grantsB L = r1 at *
  generalize (siteG tp && siteG si) = r2 at *
  generalize timeG now = r3 at *
  unfold leaveV at *
  have KR : Hid (∀ W, Calls Try.prog 50 #[.agg #[.string tp, .string si]] W fun e w' => e = .returned (.bool r2) ∧ Below W.heap.size W w') := KR0
  clear KR0
  obtain ⟨W0, hW⟩ : ∃ W0, W0 = w.alloc (.cells #[.string tp, .string si] 73) := ⟨_, rfl⟩
  have hW0 : Hid (W0 = w.alloc (.cells #[.string tp, .string si] 73)) := hW
  have B0 : Hid (Below w.heap.size w W0) := by show Below _ _ _; rw [hW]; exact (Below.refl _ _).alloc (Nat.le_refl _) _
  have g0 : W0.cell? ⟨w.heap.size, 0, none⟩ = some (.string tp) := by rw [hW]; simp
  have g1 : W0.cell? ⟨w.heap.size, 1, none⟩ = some (.string si) := by rw [hW]; simp
  have zw : w.heap.size < W0.heap.size := by rw [hW]; simp
  clear hW
  go_enter Try.func53, Try.ntmps53
  go_upto_region 1 with fail
  rw [← hW0.out]
  clear hW0
  generalize hbb : w.heap.size = b at *
  go_wp2_with fail
  refine (KG.out _ B0.out).mono ?_
  rintro e w1 ⟨rfl, hb1⟩
  have x0 : w1.cell? ⟨b, 0, none⟩ = some (.string tp) := ((bcell hb1).1 _ _ zw).trans g0
  have x1 : w1.cell? ⟨b, 1, none⟩ = some (.string si) := ((bcell hb1).1 _ _ zw).trans g1
  have B1 : Hid (Below b w w1) := B0.out.trans (hb1.mono (Nat.le_of_lt zw))
  have zw1 : b < w1.heap.size := Nat.lt_of_lt_of_le zw hb1.size
  clear hb1 g0 g1 KG B0
  cases r1 with
  | false =>
    go_wp2
    go_ret
    exact ⟨ret_bool HM.out.symm, by rw [hbb]; exact B1.out⟩
  | true =>
    go_wp2_with fail
    refine (KR.out _).mono ?_
    rintro e w2 ⟨rfl, hb2⟩
    have B2 : Hid (Below b w w2) := B1.out.trans (hb2.mono (Nat.le_of_lt zw1))
    clear hb2
    cases r2 with
    | false =>
      go_wp2
      go_ret
      exact ⟨ret_bool HM.out.symm, by rw [hbb]; exact B2.out⟩
    | true =>
      go_wp2_with fail
      refine (KT.out _).mono ?_
      rintro e w3 ⟨rfl, rfl⟩
      go_wp2
      go_ret
      exact ⟨ret_bool HM.out.symm, by rw [hbb]; exact B2.out⟩
set_option maxRecDepth 10000 in
set_option maxHeartbeats 2000000 in
theorem liveIn_any (v : Value) (L : List Gr) (tp si : ByteArray) (now : Int) (B : Nat) (w : World) (hs : SliceG w B v L) (hn : L.length ≤ 1048576) :
    Calls Try.prog 67 #[leaveV tp si, v, .int .i64 now] w fun e w' => e = .returned (.bool (hereG L tp si now)) ∧ Below w.heap.size w w' := by
  have HH : Hid (hereG L tp si now = L.any (fun g => isG tp si g && liveG now g)) := rfl
  obtain ⟨W0, hW⟩ : ∃ W0, W0 = (w.alloc (.cells #[.string tp, .string si] 73)).alloc (.cells #[.int .i64 now] 68) := ⟨_, rfl⟩
  have hW0 : Hid (W0 = (w.alloc (.cells #[.string tp, .string si] 73)).alloc (.cells #[.int .i64 now] 68)) := hW
  have A0 : Below w.heap.size w W0 := by rw [hW]; exact ((Below.refl _ _).alloc (Nat.le_refl _) _).alloc (by simp) _
  have B0 : Hid (Below w.heap.size w W0) := A0
  have g0 : W0.cell? ⟨w.heap.size, 0, none⟩ = some (.string tp) := by rw [hW]; simp
  have g1 : W0.cell? ⟨w.heap.size, 1, none⟩ = some (.string si) := by rw [hW]; simp
  have g2 : W0.cell? ⟨w.heap.size + 1, 0, none⟩ = some (.int .i64 now) := by rw [hW]; exact (World.cell?_alloc_at _ _ _ _ (by simp)).trans rfl
  have z1 : w.heap.size < W0.heap.size := by rw [hW]; simp; omega
  have z2 : w.heap.size + 1 < W0.heap.size := by rw [hW]; simp
  obtain ⟨⟨q, cap, hv, hg⟩, hrest⟩ := id hs
  subst hv
  have KC : Hid (Calls Try.prog 84 #[.slice q L.length cap, .func (.func 85) #[] #[.pointer (some ⟨w.heap.size, 0, none⟩), .pointer (some ⟨w.heap.size + 1, 0, none⟩)]] W0 fun e w' => e = .returned (.bool (L.any (fun g => isG tp si g && liveG now g))) ∧ Below W0.heap.size W0 w') :=
    containsLive_any w.heap.size (w.heap.size + 1) (fun g => isG tp si g && liveG now g) q cap B L W0 (hs.below A0) hn (fun c W hb => liveIn1_any _ _ tp si now c W (Nat.lt_of_lt_of_le z1 hb.size) (Nat.lt_of_lt_of_le z2 hb.size) (((bcell hb).1 _ _ z1).trans g0) (((bcell hb).1 _ _ z1).trans g1) (((bcell hb).1 _ _ z2).trans g2))
  have hmf : ∀ (fn : Fn) (first cap : Array Value) (w : World), (Instr.makeFunc fn first cap).run Try.prog w = .ok (.func fn first cap) w := fun _ _ _ _ => rfl
  clear hW A0 hg hrest hs
  generalize hereG L tp si now = R at *
  generalize L.any (fun g => isG tp si g && liveG now g) = Y at *
  generalize L.length = n at *
  unfold leaveV
  go_enter Try.func67, Try.ntmps67
  go_upto_region 1 with fail
  rw [← hW0.out]
  clear hW0
  generalize hbb : w.heap.size = b at *
  go_wp2_with fail
  refine KC.out.mono ?_
  rintro e w2 ⟨rfl, hb2⟩
  have B2 : Hid (Below b w w2) := B0.out.trans (hb2.mono (Nat.le_of_lt z1))
  clear hb2
  go_wp2
  go_ret
  exact ⟨ret_bool HH.out.symm, by rw [hbb]; exact B2.out⟩
set_option maxRecDepth 10000 in
set_option maxHeartbeats 2000000 in
theorem grantLive_any (v : Value) (L : List Gr) (tp si : ByteArray) (now : Int) (B : Nat) (w : World) (hs : SliceG w B v L) (hn : L.length ≤ 1048576) :
    Calls Try.prog 32 #[v, .string tp, .string si, .int .i64 now] w fun e w' => e = .returned (.bool (liveB8 L tp si now)) ∧ Below w.heap.size w w' := by
  have KM0 : ∀ W, Below w.heap.size w W → Calls Try.prog 53 #[v, leaveV tp si, .int .i64 now] W fun e w' => e = .returned (.bool (mayG L tp si now)) ∧ Below W.heap.size W w' := fun W hb => mayAsk_any v L tp si now B W (hs.below hb) hn
  have KI0 : ∀ W, Below w.heap.size w W → Calls Try.prog 67 #[leaveV tp si, v, .int .i64 now] W fun e w' => e = .returned (.bool (hereG L tp si now)) ∧ Below W.heap.size W w' := fun W hb => liveIn_any v L tp si now B W (hs.below hb) hn
  have HM : Hid (liveB8 L tp si now = (mayG L tp si now && hereG L tp si now)) := rfl
  clear hs
  generalize liveB8 L tp si now = R at *
  generalize mayG L tp si now = r1 at *
  generalize hereG L tp si now = r2 at *
  unfold leaveV at *
  have KM : Hid (∀ W, Below w.heap.size w W → Calls Try.prog 53 #[v, .agg #[.string tp, .string si], .int .i64 now] W fun e w' => e = .returned (.bool r1) ∧ Below W.heap.size W w') := KM0
  have KI : Hid (∀ W, Below w.heap.size w W → Calls Try.prog 67 #[.agg #[.string tp, .string si], v, .int .i64 now] W fun e w' => e = .returned (.bool r2) ∧ Below W.heap.size W w') := KI0
  clear KM0 KI0
  obtain ⟨W0, hW⟩ : ∃ W0, W0 = w.alloc (.cells #[.string tp, .string si] 73) := ⟨_, rfl⟩
  have hW0 : Hid (W0 = w.alloc (.cells #[.string tp, .string si] 73)) := hW
  have B0 : Hid (Below w.heap.size w W0) := by show Below _ _ _; rw [hW]; exact (Below.refl _ _).alloc (Nat.le_refl _) _
  have g0 : W0.cell? ⟨w.heap.size, 0, none⟩ = some (.string tp) := by rw [hW]; simp
  have g1 : W0.cell? ⟨w.heap.size, 1, none⟩ = some (.string si) := by rw [hW]; simp
  have zw : w.heap.size < W0.heap.size := by rw [hW]; simp
  clear hW
  go_enter Try.func32, Try.ntmps32
  go_upto_region 2 with fail
  rw [← hW0.out]
  clear hW0
  generalize hbb : w.heap.size = b at *
  go_wp2_with fail
  refine (KM.out _ B0.out).mono ?_
  rintro e w1 ⟨rfl, hb1⟩
  have x0 : w1.cell? ⟨b, 0, none⟩ = some (.string tp) := ((bcell hb1).1 _ _ zw).trans g0
  have x1 : w1.cell? ⟨b, 1, none⟩ = some (.string si) := ((bcell hb1).1 _ _ zw).trans g1
  have B1 : Hid (Below b w w1) := B0.out.trans (hb1.mono (Nat.le_of_lt zw))
  have zw1 : b < w1.heap.size := Nat.lt_of_lt_of_le zw hb1.size
  clear hb1 g0 g1 KM B0
  cases r1 with
  | false =>
    go_wp2
    go_ret
    exact ⟨ret_bool HM.out.symm, by rw [hbb]; exact B1.out⟩
  | true =>
    go_wp2_with fail
    refine (KI.out _ B1.out).mono ?_
    rintro e w2 ⟨rfl, hb2⟩
    have B2 : Hid (Below b w w2) := B1.out.trans (hb2.mono (Nat.le_of_lt zw1))
    clear hb2
    go_wp2
    go_ret
    exact ⟨ret_bool HM.out.symm, by rw [hbb]; exact B2.out⟩
end Go.Proofs.Ytehnklgpdjfcgaa
