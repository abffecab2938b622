/- 11 of this claim's texts, one behind the other. -/
import Derived.Test.YtecaeolgheefmaaPart6
import Derived.Test.YtecaeolgheefmaaPart1
import Derived.Test.YtecaeolgheefmaaPart4
import Derived.Deep.RegionHeld3
import Derived.Deep.DeepCutAuto
import Derived.Laws.ResultCell
import Derived.Test.YtecaeolgheefmaaPart5
import Derived.WalkKit
import Derived.WalkSpells
import Derived.WalkLawsBesides
import Derived.Lib.SmallJoins
/- The walks of the program's closures over grants, of mayAsk, liveIn, GrantLive. -/
namespace Go.Proofs.Ytecaeolgheefmaa
open Go.RowKit

set_option maxRecDepth 10000 in
set_option maxHeartbeats 2000000 in
theorem liveIn1_any (b1 b2 : Nat) (tp si : ByteArray) (now : Int) (c : Gr) (w : World) (z1 : b1 < w.heap.size) (z2 : b2 < w.heap.size) (h0 : w.cell? ⟨b1, 0, none⟩ = some (.string tp)) (h1 : w.cell? ⟨b1, 1, none⟩ = some (.string si)) (h2 : w.cell? ⟨b2, 0, none⟩ = some (.int .i64 now)) :
    Calls Try.prog 87 #[grV c, .pointer (some ⟨b1, 0, none⟩), .pointer (some ⟨b2, 0, none⟩)] w fun e w' => e = .returned (.bool (isG tp si c && liveG now c)) ∧ Below w.heap.size w w' := by
  have KH0 : ∀ W, Calls Try.prog 44 #[leaveV tp si, grV c] W fun e w' => e = .returned (.bool (isG tp si c)) ∧ Below W.heap.size W w' := fun W => hasG_any tp si c W
  have KO0 : ∀ W, Calls Try.prog 45 #[.int .i64 now, grV c] W fun e w' => e = .returned (.bool (!(liveG now c))) ∧ Below W.heap.size W w' := fun W => outlives_any now c W
  generalize isG tp si c = bi at *
  generalize liveG now c = bl at *
  obtain ⟨ke, na, va⟩ := c
  unfold grV leaveV at *
  dsimp only at *
  have KH : Hid (∀ W, Calls Try.prog 44 #[.agg #[.string tp, .string si], .agg #[.string ke, .string na, .int .i64 va]] W fun e w' => e = .returned (.bool bi) ∧ Below W.heap.size W w') := KH0
  have KO : Hid (∀ W, Calls Try.prog 45 #[.int .i64 now, .agg #[.string ke, .string na, .int .i64 va]] W fun e w' => e = .returned (.bool (!bl)) ∧ Below W.heap.size W w') := KO0
  clear KH0 KO0
  obtain ⟨W0, hW⟩ : ∃ W0, W0 = w.alloc (.cells #[.string ke, .string na, .int .i64 va] 64) := ⟨_, rfl⟩
  have hW0 : Hid (W0 = w.alloc (.cells #[.string ke, .string na, .int .i64 va] 64)) := hW
  have A0 : Below w.heap.size w W0 := by rw [hW]; exact (Below.refl _ _).alloc (Nat.le_refl _) _
  have B0 : Hid (Below w.heap.size w W0) := A0
  have g0 : W0.cell? ⟨w.heap.size, 0, none⟩ = some (.string ke) := by rw [hW]; simp
  have g1 : W0.cell? ⟨w.heap.size, 1, none⟩ = some (.string na) := by rw [hW]; simp
  have g2 : W0.cell? ⟨w.heap.size, 2, none⟩ = some (.int .i64 va) := by rw [hW]; simp
  have zw : w.heap.size < W0.heap.size := by rw [hW]; simp
  have k0 : W0.cell? ⟨b1, 0, none⟩ = some (.string tp) := ((bcell A0).1 _ _ z1).trans h0
  have k1 : W0.cell? ⟨b1, 1, none⟩ = some (.string si) := ((bcell A0).1 _ _ z1).trans h1
  have k2 : W0.cell? ⟨b2, 0, none⟩ = some (.int .i64 now) := ((bcell A0).1 _ _ z2).trans h2
  have z22 : b2 < W0.heap.size := Nat.lt_trans z2 zw
  clear hW A0 h0 h1 h2
  go_enter Try.func87, Try.ntmps87
  go_upto_region 1 with fail
  rw [← hW0.out]
  clear hW0
  generalize hbb : w.heap.size = b at *
  go_wp2_with fail
  refine (KH.out _).mono ?_
  rintro e w1 ⟨rfl, hb1⟩
  have x0 : w1.cell? ⟨b, 0, none⟩ = some (.string ke) := ((bcell hb1).1 _ _ zw).trans g0
  have x1 : w1.cell? ⟨b, 1, none⟩ = some (.string na) := ((bcell hb1).1 _ _ zw).trans g1
  have x2 : w1.cell? ⟨b, 2, none⟩ = some (.int .i64 va) := ((bcell hb1).1 _ _ zw).trans g2
  have x3 : w1.cell? ⟨b2, 0, none⟩ = some (.int .i64 now) := ((bcell hb1).1 _ _ z22).trans k2
  have B1 : Hid (Below b w w1) := B0.out.trans (hb1.mono (Nat.le_of_lt zw))
  have zw1 : b < w1.heap.size := Nat.lt_of_lt_of_le zw hb1.size
  clear hb1 g0 g1 g2 k0 k1 k2 KH B0
  cases bi with
  | false =>
    go_wp2
    go_ret
    exact ⟨rfl, by rw [hbb]; exact B1.out⟩
  | true =>
    go_wp2_with fail
    refine (KO.out _).mono ?_
    rintro e w2 ⟨rfl, hb2⟩
    have B2 : Hid (Below b w w2) := B1.out.trans (hb2.mono (Nat.le_of_lt zw1))
    clear hb2
    go_wp2
    go_ret
    exact ⟨ret_bool (by cases bl <;> rfl), by rw [hbb]; exact B2.out⟩
set_option maxRecDepth 10000 in
set_option maxHeartbeats 2000000 in
theorem put1_any (b1 b2 : Nat) (tp si : ByteArray) (now : Int) (c : Gr) (w : World) (z1 : b1 < w.heap.size) (z2 : b2 < w.heap.size) (h0 : w.cell? ⟨b1, 0, none⟩ = some (.string tp)) (h1 : w.cell? ⟨b1, 1, none⟩ = some (.string si)) (h2 : w.cell? ⟨b2, 0, none⟩ = some (.int .i64 now)) :
    Calls Try.prog 43 #[grV c, .pointer (some ⟨b1, 0, none⟩), .pointer (some ⟨b2, 0, none⟩)] w fun e w' => e = .returned (.bool (isG tp si c || !(liveG now c))) ∧ Below w.heap.size w w' := by
  have KH0 : ∀ W, Calls Try.prog 44 #[leaveV tp si, grV c] W fun e w' => e = .returned (.bool (isG tp si c)) ∧ Below W.heap.size W w' := fun W => hasG_any tp si c W
  have KO0 : ∀ W, Calls Try.prog 45 #[.int .i64 now, grV c] W fun e w' => e = .returned (.bool (!(liveG now c))) ∧ Below W.heap.size W w' := fun W => outlives_any now c W
  generalize isG tp si c = bi at *
  generalize liveG now c = bl at *
  obtain ⟨ke, na, va⟩ := c
  unfold grV leaveV at *
  dsimp only at *
  have KH : Hid (∀ W, Calls Try.prog 44 #[.agg #[.string tp, .string si], .agg #[.string ke, .string na, .int .i64 va]] W fun e w' => e = .returned (.bool bi) ∧ Below W.heap.size W w') := KH0
  have KO : Hid (∀ W, Calls Try.prog 45 #[.int .i64 now, .agg #[.string ke, .string na, .int .i64 va]] W fun e w' => e = .returned (.bool (!bl)) ∧ Below W.heap.size W w') := KO0
  clear KH0 KO0
  obtain ⟨W0, hW⟩ : ∃ W0, W0 = w.alloc (.cells #[.string ke, .string na, .int .i64 va] 64) := ⟨_, rfl⟩
  have hW0 : Hid (W0 = w.alloc (.cells #[.string ke, .string na, .int .i64 va] 64)) := hW
  have A0 : Below w.heap.size w W0 := by rw [hW]; exact (Below.refl _ _).alloc (Nat.le_refl _) _
  have B0 : Hid (Below w.heap.size w W0) := A0
  have g0 : W0.cell? ⟨w.heap.size, 0, none⟩ = some (.string ke) := by rw [hW]; simp
  have g1 : W0.cell? ⟨w.heap.size, 1, none⟩ = some (.string na) := by rw [hW]; simp
  have g2 : W0.cell? ⟨w.heap.size, 2, none⟩ = some (.int .i64 va) := by rw [hW]; simp
  have zw : w.heap.size < W0.heap.size := by rw [hW]; simp
  have k0 : W0.cell? ⟨b1, 0, none⟩ = some (.string tp) := ((bcell A0).1 _ _ z1).trans h0
  have k1 : W0.cell? ⟨b1, 1, none⟩ = some (.string si) := ((bcell A0).1 _ _ z1).trans h1
  have k2 : W0.cell? ⟨b2, 0, none⟩ = some (.int .i64 now) := ((bcell A0).1 _ _ z2).trans h2
  have z22 : b2 < W0.heap.size := Nat.lt_trans z2 zw
  clear hW A0 h0 h1 h2
  go_enter Try.func43, Try.ntmps43
  go_upto_region 1 with fail
  rw [← hW0.out]
  clear hW0
  generalize hbb : w.heap.size = b at *
  go_wp2_with fail
  refine (KH.out _).mono ?_
  rintro e w1 ⟨rfl, hb1⟩
  have x0 : w1.cell? ⟨b, 0, none⟩ = some (.string ke) := ((bcell hb1).1 _ _ zw).trans g0
  have x1 : w1.cell? ⟨b, 1, none⟩ = some (.string na) := ((bcell hb1).1 _ _ zw).trans g1
  have x2 : w1.cell? ⟨b, 2, none⟩ = some (.int .i64 va) := ((bcell hb1).1 _ _ zw).trans g2
  have x3 : w1.cell? ⟨b2, 0, none⟩ = some (.int .i64 now) := ((bcell hb1).1 _ _ z22).trans k2
  have B1 : Hid (Below b w w1) := B0.out.trans (hb1.mono (Nat.le_of_lt zw))
  have zw1 : b < w1.heap.size := Nat.lt_of_lt_of_le zw hb1.size
  clear hb1 g0 g1 g2 k0 k1 k2 KH B0
  cases bi with
  | true =>
    go_wp2
    go_ret
    exact ⟨rfl, by rw [hbb]; exact B1.out⟩
  | false =>
    go_wp2_with fail
    refine (KO.out _).mono ?_
    rintro e w2 ⟨rfl, hb2⟩
    have B2 : Hid (Below b w w2) := B1.out.trans (hb2.mono (Nat.le_of_lt zw1))
    clear hb2
    go_wp2
    go_ret
    exact ⟨ret_bool (by cases bl <;> rfl), by rw [hbb]; exact B2.out⟩
set_option maxRecDepth 10000 in
set_option maxHeartbeats 2000000 in
theorem mayAsk_any (v : Value) (L : List Gr) (tp si : ByteArray) (now : Int) (B : Nat) (w : World) (hs : SliceG w B v L) (hn : L.length ≤ 1048576) :
    Calls Try.prog 40 #[v, leaveV tp si, .int .i64 now] w fun e w' => e = .returned (.bool (mayG L tp si now)) ∧ Below w.heap.size w w' := by
  have KG : Hid (∀ W, Below w.heap.size w W → Calls Try.prog 26 #[v] W fun e w' => e = .returned (.bool (grantsB L)) ∧ Below W.heap.size W w') := fun W hb => grantsRight_any v L B W (hs.below hb) hn
  have KR0 : ∀ W, Calls Try.prog 56 #[leaveV tp si] W fun e w' => e = .returned (.bool (siteG tp && siteG si)) ∧ Below W.heap.size W w' := fun W => leaveRight_any tp si W
  have KT : Hid (∀ W, Calls Try.prog 63 #[.int .i64 now] W fun e w' => e = .returned (.bool (timeG now)) ∧ w' = W) := fun W => isTimeG_any now W
  have HM : Hid (mayG L tp si now = (grantsB L && (siteG tp && siteG si) && timeG now)) := by show _ = _; unfold mayG; rw [Bool.and_assoc (grantsB L)]
  clear hs
  generalize mayG L tp si now = R at *
  generalize grantsB L = r1 at *
  generalize (siteG tp && siteG si) = r2 at *
  generalize timeG now = r3 at *
  unfold leaveV at *
  have KR : Hid (∀ W, Calls Try.prog 56 #[.agg #[.string tp, .string si]] W fun e w' => e = .returned (.bool r2) ∧ Below W.heap.size W w') := KR0
  clear KR0
  obtain ⟨W0, hW⟩ : ∃ W0, W0 = w.alloc (.cells #[.string tp, .string si] 60) := ⟨_, rfl⟩
  have hW0 : Hid (W0 = w.alloc (.cells #[.string tp, .string si] 60)) := hW
  have B0 : Hid (Below w.heap.size w W0) := by show Below _ _ _; rw [hW]; exact (Below.refl _ _).alloc (Nat.le_refl _) _
  have g0 : W0.cell? ⟨w.heap.size, 0, none⟩ = some (.string tp) := by rw [hW]; simp
  have g1 : W0.cell? ⟨w.heap.size, 1, none⟩ = some (.string si) := by rw [hW]; simp
  have zw : w.heap.size < W0.heap.size := by rw [hW]; simp
  clear hW
  go_enter Try.func40, Try.ntmps40
  go_upto_region 1 with fail
  rw [← hW0.out]
  clear hW0
  generalize hbb : w.heap.size = b at *
  go_wp2_with fail
  refine (KG.out _ B0.out).mono ?_
  rintro e w1 ⟨rfl, hb1⟩
  have x0 : w1.cell? ⟨b, 0, none⟩ = some (.string tp) := ((bcell hb1).1 _ _ zw).trans g0
  have x1 : w1.cell? ⟨b, 1, none⟩ = some (.string si) := ((bcell hb1).1 _ _ zw).trans g1
  have B1 : Hid (Below b w w1) := B0.out.trans (hb1.mono (Nat.le_of_lt zw))
  have zw1 : b < w1.heap.size := Nat.lt_of_lt_of_le zw hb1.size
  clear hb1 g0 g1 KG B0
  cases r1 with
  | false =>
    go_wp2
    go_ret
    exact ⟨ret_bool HM.out.symm, by rw [hbb]; exact B1.out⟩
  | true =>
    go_wp2_with fail
    refine (KR.out _).mono ?_
    rintro e w2 ⟨rfl, hb2⟩
    have B2 : Hid (Below b w w2) := B1.out.trans (hb2.mono (Nat.le_of_lt zw1))
    clear hb2
    cases r2 with
    | false =>
      go_wp2
      go_ret
      exact ⟨ret_bool HM.out.symm, by rw [hbb]; exact B2.out⟩
    | true =>
      go_wp2_with fail
      refine (KT.out _).mono ?_
      rintro e w3 ⟨rfl, rfl⟩
      go_wp2
      go_ret
      exact ⟨ret_bool HM.out.symm, by rw [hbb]; exact B2.out⟩
set_option maxRecDepth 10000 in
set_option maxHeartbeats 2000000 in
theorem liveIn_any (v : Value) (L : List Gr) (tp si : ByteArray) (now : Int) (B : Nat) (w : World) (hs : SliceG w B v L) (hn : L.length ≤ 1048576) :
    Calls Try.prog 65 #[leaveV tp si, v, .int .i64 now] w fun e w' => e = .returned (.bool (hereG L tp si now)) ∧ Below w.heap.size w w' := by
  have HH : Hid (hereG L tp si now = L.any (fun g => isG tp si g && liveG now g)) := rfl
  obtain ⟨W0, hW⟩ : ∃ W0, W0 = (w.alloc (.cells #[.string tp, .string si] 60)).alloc (.cells #[.int .i64 now] 67) := ⟨_, rfl⟩
  have hW0 : Hid (W0 = (w.alloc (.cells #[.string tp, .string si] 60)).alloc (.cells #[.int .i64 now] 67)) := hW
  have A0 : Below w.heap.size w W0 := by rw [hW]; exact ((Below.refl _ _).alloc (Nat.le_refl _) _).alloc (by simp) _
  have B0 : Hid (Below w.heap.size w W0) := A0
  have g0 : W0.cell? ⟨w.heap.size, 0, none⟩ = some (.string tp) := by rw [hW]; simp
  have g1 : W0.cell? ⟨w.heap.size, 1, none⟩ = some (.string si) := by rw [hW]; simp
  have g2 : W0.cell? ⟨w.heap.size + 1, 0, none⟩ = some (.int .i64 now) := by rw [hW]; exact (World.cell?_alloc_at _ _ _ _ (by simp)).trans rfl
  have z1 : w.heap.size < W0.heap.size := by rw [hW]; simp; omega
  have z2 : w.heap.size + 1 < W0.heap.size := by rw [hW]; simp
  obtain ⟨⟨q, cap, hv, hg⟩, hrest⟩ := id hs
  subst hv
  have KC : Hid (Calls Try.prog 86 #[.slice q L.length cap, .func (.func 87) #[] #[.pointer (some ⟨w.heap.size, 0, none⟩), .pointer (some ⟨w.heap.size + 1, 0, none⟩)]] W0 fun e w' => e = .returned (.bool (L.any (fun g => isG tp si g && liveG now g))) ∧ Below W0.heap.size W0 w') :=
    containsLive_any w.heap.size (w.heap.size + 1) (fun g => isG tp si g && liveG now g) q cap B L W0 (hs.below A0) hn (fun c W hb => liveIn1_any _ _ tp si now c W (Nat.lt_of_lt_of_le z1 hb.size) (Nat.lt_of_lt_of_le z2 hb.size) (((bcell hb).1 _ _ z1).trans g0) (((bcell hb).1 _ _ z1).trans g1) (((bcell hb).1 _ _ z2).trans g2))
  have hmf : ∀ (fn : Fn) (first cap : Array Value) (w : World), (Instr.makeFunc fn first cap).run Try.prog w = .ok (.func fn first cap) w := fun _ _ _ _ => rfl
  clear hW A0 hg hrest hs
  generalize hereG L tp si now = R at *
  generalize L.any (fun g => isG tp si g && liveG now g) = Y at *
  generalize L.length = n at *
  unfold leaveV
  go_enter Try.func65, Try.ntmps65
  go_upto_region 1 with fail
  rw [← hW0.out]
  clear hW0
  generalize hbb : w.heap.size = b at *
  go_wp2_with fail
  refine KC.out.mono ?_
  rintro e w2 ⟨rfl, hb2⟩
  have B2 : Hid (Below b w w2) := B0.out.trans (hb2.mono (Nat.le_of_lt z1))
  clear hb2
  go_wp2
  go_ret
  exact ⟨ret_bool HH.out.symm, by rw [hbb]; exact B2.out⟩
set_option maxRecDepth 10000 in
set_option maxHeartbeats 2000000 in
theorem grantLive_any (v : Value) (L : List Gr) (tp si : ByteArray) (now : Int) (B : Nat) (w : World) (hs : SliceG w B v L) (hn : L.length ≤ 1048576) :
    Calls Try.prog 24 #[v, .string tp, .string si, .int .i64 now] w fun e w' => e = .returned (.bool (liveB8 L tp si now)) ∧ Below w.heap.size w w' := by
  have KM0 : ∀ W, Below w.heap.size w W → Calls Try.prog 40 #[v, leaveV tp si, .int .i64 now] W fun e w' => e = .returned (.bool (mayG L tp si now)) ∧ Below W.heap.size W w' := fun W hb => mayAsk_any v L tp si now B W (hs.below hb) hn
  have KI0 : ∀ W, Below w.heap.size w W → Calls Try.prog 65 #[leaveV tp si, v, .int .i64 now] W fun e w' => e = .returned (.bool (hereG L tp si now)) ∧ Below W.heap.size W w' := fun W hb => liveIn_any v L tp si now B W (hs.below hb) hn
  have HM : Hid (liveB8 L tp si now = (mayG L tp si now && hereG L tp si now)) := rfl
  clear hs
  generalize liveB8 L tp si now = R at *
  generalize mayG L tp si now = r1 at *
  generalize hereG L tp si now = r2 at *
  unfold leaveV at *
  have KM : Hid (∀ W, Below w.heap.size w W → Calls Try.prog 40 #[v, .agg #[.string tp, .string si], .int .i64 now] W fun e w' => e = .returned (.bool r1) ∧ Below W.heap.size W w') := KM0
  have KI : Hid (∀ W, Below w.heap.size w W → Calls Try.prog 65 #[.agg #[.string tp, .string si], v, .int .i64 now] W fun e w' => e = .returned (.bool r2) ∧ Below W.heap.size W w') := KI0
  clear KM0 KI0
  obtain ⟨W0, hW⟩ : ∃ W0, W0 = w.alloc (.cells #[.string tp, .string si] 60) := ⟨_, rfl⟩
  have hW0 : Hid (W0 = w.alloc (.cells #[.string tp, .string si] 60)) := hW
  have B0 : Hid (Below w.heap.size w W0) := by show Below _ _ _; rw [hW]; exact (Below.refl _ _).alloc (Nat.le_refl _) _
  have g0 : W0.cell? ⟨w.heap.size, 0, none⟩ = some (.string tp) := by rw [hW]; simp
  have g1 : W0.cell? ⟨w.heap.size, 1, none⟩ = some (.string si) := by rw [hW]; simp
  have zw : w.heap.size < W0.heap.size := by rw [hW]; simp
  clear hW
  go_enter Try.func24, Try.ntmps24
  go_upto_region 2 with fail
  rw [← hW0.out]
  clear hW0
  generalize hbb : w.heap.size = b at *
  go_wp2_with fail
  refine (KM.out _ B0.out).mono ?_
  rintro e w1 ⟨rfl, hb1⟩
  have x0 : w1.cell? ⟨b, 0, none⟩ = some (.string tp) := ((bcell hb1).1 _ _ zw).trans g0
  have x1 : w1.cell? ⟨b, 1, none⟩ = some (.string si) := ((bcell hb1).1 _ _ zw).trans g1
  have B1 : Hid (Below b w w1) := B0.out.trans (hb1.mono (Nat.le_of_lt zw))
  have zw1 : b < w1.heap.size := Nat.lt_of_lt_of_le zw hb1.size
  clear hb1 g0 g1 KM B0
  cases r1 with
  | false =>
    go_wp2
    go_ret
    exact ⟨ret_bool HM.out.symm, by rw [hbb]; exact B1.out⟩
  | true =>
    go_wp2_with fail
    refine (KI.out _ B1.out).mono ?_
    rintro e w2 ⟨rfl, hb2⟩
    have B2 : Hid (Below b w w2) := B1.out.trans (hb2.mono (Nat.le_of_lt zw1))
    clear hb2
    go_wp2
    go_ret
    exact ⟨ret_bool HM.out.symm, by rw [hbb]; exact B2.out⟩
end Go.Proofs.Ytecaeolgheefmaa

/- The walk of together: two texts put together in new memory. -/
namespace Go.Proofs.Ytecaeolgheefmaa
open Go.RowKit


set_option maxRecDepth 10000 in
set_option maxHeartbeats 400000 in
theorem together_full (x y : ByteArray) (w : World) (hz : x.size + y.size ≤ 1000000) (hy : ¬ y = ByteArray.empty) :
    Calls Try.prog 75 #[.string x, .string y] w fun e w' => e = .returned (.string (x ++ y)) ∧ Below w.heap.size w w' := by
  obtain ⟨w1, Z, hmk, HG1, hZ, hs1, hb1⟩ := make_row (P := Try.prog) w 22 5 _ Try.underlying22 infoU8 ((x.size : Int) + (y.size : Int)) (x.size + y.size) (by omega) (by omega)
  go_enter Try.func75, Try.ntmps75
  go_wp2_with fail
  obtain ⟨w2, hc2, HG2, hs2, hB2⟩ := copy_text (P := Try.prog) w1 22 9 3 5 Try.underlying22 sizeU8 (some ⟨w.heap.size, 0, none⟩) (x.size + y.size) (x.size + y.size) x (by omega) w.heap.size 0 Z _ HG1 (fun _ => rfl) (by omega)
  have hb2 := hB2 _ _ hb1 (Nat.le_refl _)
  rw [hc2]
  clear hc2 hmk hB2 HG1 hb1
  go_wp2_with fail
  have hl2 : (splice Z 0 (Lib.byteCells x.data.toList)).length = x.size + y.size := by rw [length_splice _ _ _ (by rw [len_cells]; omega), hZ]
  obtain ⟨w3, hc3, HG3, hs3, hB3⟩ := copy_text (P := Try.prog) w2 22 9 3 5 Try.underlying22 sizeU8 (some ⟨w.heap.size, x.size, none⟩) y.size y.size y (by omega) w.heap.size x.size _ _ HG2 (fun _ => rfl) (by omega)
  have hb3 := hB3 _ _ hb2 (Nat.le_refl _)
  have HG4 : RowAt w3 w.heap.size 5 (Lib.byteCells (x.data.toList ++ y.data.toList) ++ []) := by
    have e := splice_two Z (Lib.byteCells x.data.toList) (Lib.byteCells y.data.toList) (by rw [len_cells, len_cells]; exact hZ)
    rw [len_cells] at e
    rw [e, ← byteCells_append, ← List.append_nil (Lib.byteCells _)] at HG3
    exact HG3
  rw [hc3]
  clear hc3 hB3 HG2 HG3 hb2 hl2
  go_wp2_with fail
  rw [text_of_row (P := Try.prog) w3 22 9 5 Try.underlying22 Try.underlying5 Try.underlying9 w.heap.size (x.size + y.size) (x.size + y.size) 5 _ _ HG4 (by rw [List.length_append, ← Lib.size_eq, ← Lib.size_eq])]
  go_wp2
  go_ret
  exact ⟨ret_text (text_append x y), hb3⟩

set_option maxRecDepth 10000 in
set_option maxHeartbeats 400000 in
theorem together_empty (x : ByteArray) (w : World) (hz : x.size ≤ 1000000) :
    Calls Try.prog 75 #[.string x, .string ByteArray.empty] w fun e w' => e = .returned (.string x) ∧ Below w.heap.size w w' := by
  obtain ⟨w1, Z, hmk, HG1, hZ, hs1, hb1⟩ := make_row (P := Try.prog) w 22 5 _ Try.underlying22 infoU8 (x.size : Int) x.size (by omega) (by omega)
  go_enter Try.func75, Try.ntmps75
  go_wp2_with fail
  obtain ⟨w2, hc2, HG2, hs2, hB2⟩ := copy_text (P := Try.prog) w1 22 9 3 5 Try.underlying22 sizeU8 (some ⟨w.heap.size, 0, none⟩) x.size x.size x (by omega) w.heap.size 0 Z _ HG1 (fun _ => rfl) (by omega)
  have hb2 := hB2 _ _ hb1 (Nat.le_refl _)
  rw [hc2]
  clear hc2 hmk hB2 HG1 hb1
  go_wp2_with fail
  have HG4 : RowAt w2 w.heap.size 5 (Lib.byteCells x.data.toList ++ []) := by
    have e : splice Z 0 (Lib.byteCells x.data.toList) = Lib.byteCells x.data.toList ++ [] := by
      unfold splice
      rw [List.drop_eq_nil_of_le (by rw [len_cells]; omega)]
      simp
    rw [e] at HG2
    exact HG2
  rw [Lib.run_copy_empty_string (P := Try.prog) w2 22 9 3 5 (some ⟨w.heap.size, 0, none⟩) 0 0 ByteArray.empty Try.underlying22 (by rw [Option.isSome_iff_exists]; exact ⟨1, sizeU8⟩) rfl]
  go_wp2_with fail
  rw [text_of_row (P := Try.prog) w2 22 9 5 Try.underlying22 Try.underlying5 Try.underlying9 w.heap.size x.size x.size 5 _ _ HG4 (by rw [← Lib.size_eq])]
  go_wp2
  go_ret
  exact ⟨rfl, hb2⟩
theorem together_any (x y : ByteArray) (w : World) (hz : x.size + y.size ≤ 1000000) :
    Calls Try.prog 75 #[.string x, .string y] w fun e w' => e = .returned (.string (x ++ y)) ∧ Below w.heap.size w w' := by
  by_cases hy : y = ByteArray.empty
  · subst hy
    rw [ByteArray.append_empty]
    exact together_empty x w (by omega)
  · exact together_full x y w hz hy

end Go.Proofs.Ytecaeolgheefmaa

/- The walks of the program's grantCopy and grantCopies. Written by implleave2.py. -/
namespace Go.Proofs.Ytecaeolgheefmaa
open Go.RowKit

set_option maxRecDepth 10000 in
set_option maxHeartbeats 8000000 in
theorem grantCopy_any (c : Gr) (w : World) (h0 : c.tp.size ≤ 1000000) (h1 : c.si.size ≤ 1000000) :
    Calls Try.prog 46 #[grV c] w fun e w' => e = .returned (grV c) ∧ Below w.heap.size w w' := by
  obtain ⟨ke, na, va⟩ := c
  unfold grV
  dsimp only at h0 h1 ⊢
  have K0 : Hid (∀ W, Calls Try.prog 75 #[.string ke, .string ⟨#[]⟩] W fun e w' => e = .returned (.string ke) ∧ Below W.heap.size W w') := fun W => together_empty ke W (by omega)
  have K1 : Hid (∀ W, Calls Try.prog 75 #[.string na, .string ⟨#[]⟩] W fun e w' => e = .returned (.string na) ∧ Below W.heap.size W w') := fun W => together_empty na W (by omega)
  obtain ⟨W0, hW⟩ : ∃ W0, W0 = ((w.alloc (.cells #[.string ke, .string na, .int .i64 va] 64)).alloc (.cells #[.string ⟨#[]⟩, .string ⟨#[]⟩, .int .i64 0] 64)) := ⟨_, rfl⟩
  have hW0 : Hid (W0 = ((w.alloc (.cells #[.string ke, .string na, .int .i64 va] 64)).alloc (.cells #[.string ⟨#[]⟩, .string ⟨#[]⟩, .int .i64 0] 64))) := hW
  have HB : Hid (Below w.heap.size w W0) := by show Below _ _ _; rw [hW]; exact ((Below.refl _ _).alloc (Nat.le_refl _) _).alloc (by simp) _
  have z1 : w.heap.size + 1 < W0.heap.size := by rw [hW]; simp
  have c0 : W0.cell? ⟨w.heap.size, 0, none⟩ = some (.string ke) := by rw [hW]; simp
  have c1 : W0.cell? ⟨w.heap.size, 1, none⟩ = some (.string na) := by rw [hW]; simp
  have c2 : W0.cell? ⟨w.heap.size, 2, none⟩ = some (.int .i64 va) := by rw [hW]; simp
  have d0 : W0.cell? ⟨w.heap.size + 1, 0, none⟩ = some (.string ⟨#[]⟩) := by rw [hW]; exact (World.cell?_alloc_at _ _ _ _ (by simp)).trans rfl
  have d1 : W0.cell? ⟨w.heap.size + 1, 1, none⟩ = some (.string ⟨#[]⟩) := by rw [hW]; exact (World.cell?_alloc_at _ _ _ _ (by simp)).trans rfl
  have d2 : W0.cell? ⟨w.heap.size + 1, 2, none⟩ = some (.int .i64 0) := by rw [hW]; exact (World.cell?_alloc_at _ _ _ _ (by simp)).trans rfl
  have fz : ∀ o, W0.frozen? ⟨w.heap.size + 1, o, none⟩ = false := by rw [hW]; exact fun o => World.frozen?_alloc_at _ _ _ _ (by simp)
  have f0 := fz 0
  have f1 := fz 1
  have f2 := fz 2
  clear hW h0 h1 fz
  go_enter Try.func46, Try.ntmps46
  go_upto_region 1 with fail
  rw [← hW0.out]
  clear hW0
  generalize hbb : w.heap.size = b at *
  have hb1 : b < W0.heap.size := by omega
  refine wp_region_held_drew (S := (fun w' => w'.cell? ⟨b, 0, none⟩ = some (.string ke) ∧ w'.cell? ⟨b, 1, none⟩ = some (.string na) ∧ w'.cell? ⟨b, 2, none⟩ = some (.int .i64 va))) (by kernel_rfl) ?_ (fun hH0 => ?_)
  · (try dsimp only)
    go_keep
  refine wpAnyH_take (i := 0) (oi := { dst := some 3, op := Op.fieldAddr 64 (Operand.tmp 1) 0, type := 0, pos := "l08_grant.go:65", after := #[], guard := none }) (v := ?va0) rfl (by kernel_rfl) (by kernel_rfl) (by kernel_rfl) (fun _ _ _ h => h) (Or.inl ⟨by rfl, ?hya0⟩) (by assumption) ?resta0
  case hya0 =>
    intro w hSw
    (try dsimp only at hSw)
    go_simp
    try with_reducible rfl
  try simp only [Act.put, List.setIfInBounds_toArray, List.set_cons_zero, List.set_cons_succ]
  refine wpAnyH_take (i := 1) (oi := { dst := some 4, op := Op.load 9 (Operand.tmp 3), type := 9, pos := "l08_grant.go:65", after := #[{ on := 0, ground := Ground.data }], guard := none }) (v := ?va1) rfl (by kernel_rfl) (by kernel_rfl) (by kernel_rfl) (fun _ _ _ h => h) (Or.inl ⟨by rfl, ?hya1⟩) (by assumption) ?resta1
  case hya1 =>
    intro w hSw
    (try dsimp only at hSw)
    go_simp
    try with_reducible rfl
  try simp only [Act.put, List.setIfInBounds_toArray, List.set_cons_zero, List.set_cons_succ]
  refine wpAnyH_take (i := 3) (oi := { dst := some 6, op := Op.fieldAddr 64 (Operand.tmp 1) 1, type := 0, pos := "l08_grant.go:65", after := #[], guard := none }) (v := ?va3) rfl (by kernel_rfl) (by kernel_rfl) (by kernel_rfl) (fun _ _ _ h => h) (Or.inl ⟨by rfl, ?hya3⟩) (by assumption) ?resta3
  case hya3 =>
    intro w hSw
    (try dsimp only at hSw)
    go_simp
    try with_reducible rfl
  try simp only [Act.put, List.setIfInBounds_toArray, List.set_cons_zero, List.set_cons_succ]
  refine wpAnyH_take (i := 4) (oi := { dst := some 7, op := Op.load 9 (Operand.tmp 6), type := 9, pos := "l08_grant.go:65", after := #[{ on := 3, ground := Ground.data }], guard := none }) (v := ?va4) rfl (by kernel_rfl) (by kernel_rfl) (by kernel_rfl) (fun _ _ _ h => h) (Or.inl ⟨by rfl, ?hya4⟩) (by assumption) ?resta4
  case hya4 =>
    intro w hSw
    (try dsimp only at hSw)
    go_simp
    try with_reducible rfl
  try simp only [Act.put, List.setIfInBounds_toArray, List.set_cons_zero, List.set_cons_succ]
  refine wpAnyH_take (i := 6) (oi := { dst := some 9, op := Op.fieldAddr 64 (Operand.tmp 1) 2, type := 0, pos := "l08_grant.go:65", after := #[], guard := none }) (v := ?va6) rfl (by kernel_rfl) (by kernel_rfl) (by kernel_rfl) (fun _ _ _ h => h) (Or.inl ⟨by rfl, ?hya6⟩) (by assumption) ?resta6
  case hya6 =>
    intro w hSw
    (try dsimp only at hSw)
    go_simp
    try with_reducible rfl
  try simp only [Act.put, List.setIfInBounds_toArray, List.set_cons_zero, List.set_cons_succ]
  refine wpAnyH_take (i := 7) (oi := { dst := some 10, op := Op.load 2 (Operand.tmp 9), type := 2, pos := "l08_grant.go:65", after := #[{ on := 6, ground := Ground.data }], guard := none }) (v := ?va7) rfl (by kernel_rfl) (by kernel_rfl) (by kernel_rfl) (fun _ _ _ h => h) (Or.inl ⟨by rfl, ?hya7⟩) (by assumption) ?resta7
  case hya7 =>
    intro w hSw
    (try dsimp only at hSw)
    go_simp
    try with_reducible rfl
  try simp only [Act.put, List.setIfInBounds_toArray, List.set_cons_zero, List.set_cons_succ]
  refine wpAnyH_ready (rs := [2]) (by kernel_rfl) (by simp) ?_
  refine AllReadyH.cons (o := { dst := some 5, op := Op.call { callee := Callee.value (Operand.func 75), args := #[Operand.tmp 4, Operand.const (Value.string { data := #[] })], argTypes := #[9, 9] }, type := 9, pos := "l08_grant.go:65", after := #[{ on := 1, ground := Ground.data }], guard := none }) rfl (fun K hK => ?_) AllReadyH.nil
  go_simp
  (go_at_call 75; refine (K0.out _).mono ?_; rintro e w1 ⟨rfl, hq1⟩; have A1 : Below W0.heap.size W0 w1 := (Below.drew (Below.refl _ _)).trans hq1; have x0 : w1.cell? ⟨b, 0, none⟩ = some (.string ke) := ((bcell A1).1 _ _ hb1).trans c0; have x1 : w1.cell? ⟨b, 1, none⟩ = some (.string na) := ((bcell A1).1 _ _ hb1).trans c1; have x2 : w1.cell? ⟨b, 2, none⟩ = some (.int .i64 va) := ((bcell A1).1 _ _ hb1).trans c2)
  try (go_wp2_with fail)
  refine hK.out _ _ ?_ (fun hH1 => ?_)
  · (try dsimp only)
    go_keep
  clear hK K hH0
  try simp only [Act.put, List.setIfInBounds_toArray, List.set_cons_zero, List.set_cons_succ]
  refine wpAnyH_ready (rs := [5]) (by kernel_rfl) (by simp) ?_
  refine AllReadyH.cons (o := { dst := some 8, op := Op.call { callee := Callee.value (Operand.func 75), args := #[Operand.tmp 7, Operand.const (Value.string { data := #[] })], argTypes := #[9, 9] }, type := 9, pos := "l08_grant.go:65", after := #[{ on := 4, ground := Ground.data }, { on := 2, ground := Ground.chain }], guard := none }) rfl (fun K hK => ?_) AllReadyH.nil
  go_simp
  (go_at_call 75; refine (K1.out _).mono ?_; rintro e w2 ⟨rfl, hq2⟩; have A2 : Below W0.heap.size W0 w2 := A1.trans (hq2.mono A1.size); have y0 : w2.cell? ⟨b, 0, none⟩ = some (.string ke) := ((bcell A2).1 _ _ hb1).trans c0; have y1 : w2.cell? ⟨b, 1, none⟩ = some (.string na) := ((bcell A2).1 _ _ hb1).trans c1; have y2 : w2.cell? ⟨b, 2, none⟩ = some (.int .i64 va) := ((bcell A2).1 _ _ hb1).trans c2; have r0 : w2.cell? ⟨b + 1, 0, none⟩ = some (.string ⟨#[]⟩) := ((bcell A2).1 _ _ z1).trans d0; have s0 : w2.frozen? ⟨b + 1, 0, none⟩ = false := ((bcell A2).2 _ _ z1).trans f0; have r1 : w2.cell? ⟨b + 1, 1, none⟩ = some (.string ⟨#[]⟩) := ((bcell A2).1 _ _ z1).trans d1; have s1 : w2.frozen? ⟨b + 1, 1, none⟩ = false := ((bcell A2).2 _ _ z1).trans f1; have r2 : w2.cell? ⟨b + 1, 2, none⟩ = some (.int .i64 0) := ((bcell A2).1 _ _ z1).trans d2; have s2 : w2.frozen? ⟨b + 1, 2, none⟩ = false := ((bcell A2).2 _ _ z1).trans f2)
  try (go_wp2_with fail)
  refine hK.out _ _ ?_ (fun hH2 => ?_)
  · (try dsimp only)
    go_keep
  clear hK K hH1
  try simp only [Act.put, List.setIfInBounds_toArray, List.set_cons_zero, List.set_cons_succ]
  refine wpAnyH_take (i := 8) (oi := { dst := some 11, op := Op.build 64 #[(0, Operand.tmp 5), (1, Operand.tmp 8), (2, Operand.tmp 10)], type := 64, pos := "l08_grant.go:65", after := #[{ on := 2, ground := Ground.data }, { on := 5, ground := Ground.data }, { on := 7, ground := Ground.data }], guard := none }) (v := ?va8) rfl (by kernel_rfl) (by kernel_rfl) (by kernel_rfl) (fun _ _ _ h => h) (Or.inl ⟨by rfl, ?hya8⟩) (by assumption) ?resta8
  case hya8 =>
    intro w hSw
    (try dsimp only at hSw)
    go_simp
    try with_reducible rfl
  try simp only [Act.put, List.setIfInBounds_toArray, List.set_cons_zero, List.set_cons_succ]
  refine wpAnyH_ready (rs := [9]) (by kernel_rfl) (by simp) ?_
  refine AllReadyH.cons (o := { dst := none, op := Op.store 64 (Operand.tmp 2) (Operand.tmp 11), type := 0, pos := "l08_grant.go:65", after := #[{ on := 8, ground := Ground.data }, { on := 5, ground := Ground.chain }, { on := 0, ground := Ground.phase }, { on := 1, ground := Ground.phase }, { on := 2, ground := Ground.phase }, { on := 3, ground := Ground.phase }, { on := 4, ground := Ground.phase }, { on := 5, ground := Ground.phase }, { on := 6, ground := Ground.phase }, { on := 7, ground := Ground.phase }, { on := 8, ground := Ground.phase }], guard := none }) rfl (fun K hK => ?_) AllReadyH.nil
  go_simp
  (skip)
  try (go_wp2_with fail)
  refine hK.out _ _ ?_ (fun hH3 => ?_)
  · (try dsimp only)
    go_keep
  clear hK K hH2
  try simp only [Act.put, List.setIfInBounds_toArray, List.set_cons_zero, List.set_cons_succ]
  refine wpAnyH_done (by kernel_rfl) ?_ _
  all_goals go_wp2
  all_goals
    refine bodyPost_ret (v := .agg #[.string ke, .string na, .int .i64 va]) (by simp [results, Try.results46, go_sem, r0, r1, r2]) rfl ⟨rfl, ?_⟩
    have hB2 : Below b w w2 := HB.out.trans (A2.mono (by omega))
    rw [hbb]
    refine Below.setCell (Below.setCell (Below.setCell hB2 ?_ _) ?_ _) ?_ _ <;> exact Nat.le_add_right b 1
set_option maxRecDepth 10000 in
set_option maxHeartbeats 8000000 in
theorem grantCopiesP_any (v : Value) (L : List Gr) (B : Nat) (w : World) (hs : SliceG w B v L) (hn : L.length ≤ 1048576) (hz : ∀ i, i < L.length → (atG L i).tp.size ≤ 1000000 ∧ (atG L i).si.size ≤ 1000000) :
    Calls Try.prog 42 #[v] w fun e w' => ∃ v', e = .returned v' ∧ (SliceG w' w.heap.size v' L ∧ PlacedG v') ∧ Below w.heap.size w w' := by
  have KC : Hid (∀ j, j < L.length → ∀ W, Calls Try.prog 46 #[grV (atG L j)] W fun e w' => e = .returned (grV (atG L j)) ∧ Below W.heap.size W w') := fun j hj W => grantCopy_any (atG L j) W (hz j hj).1 (hz j hj).2
  have HSY : Hid (∀ k, k < L.length → ∀ (v : Value) (w' : World), w'.ownsRow w.heap.size 64 3 v (k + 1) (grCells (L.take k) ++ grVals (atG L k)) → w'.ownsRow w.heap.size 64 3 v (k + 1) (grCells (L.take (k + 1)))) := fun k hlt v w' h => by
    rw [List.take_succ_eq_append_getElem hlt, ← atG_get hlt, ← grCells_snoc]; exact h
  have HFin : Hid (∀ (v : Value) (w' : World), w'.ownsRow w.heap.size 64 3 v L.length (grCells (L.take L.length)) → (L.length = 0 → v = .slice none 0 0) → SliceG w' w.heap.size v L ∧ PlacedG v) := fun v w' h h0 => by
    rw [List.take_length] at h
    refine ⟨sliceG_of_own h, ?_⟩
    by_cases hz : L.length = 0
    · exact .inl (h0 hz)
    · obtain ⟨⟨p, c, e, hg⟩, p2, c2, e2, hc, -⟩ := sliceG_of_own h
      obtain ⟨g, rfl, -⟩ := hg (by omega)
      rw [e] at e2
      injection e2 with _ _ e3
      exact .inr ⟨g, L.length, c, e, by omega⟩
  obtain ⟨i0, hi, hy0, hy1, hy2⟩ := info_parts infoGrant
  obtain ⟨⟨q, cap, rfl, hg⟩, -⟩ := hs
  have HG : Hid (0 < L.length → ∃ g, q = some ⟨g, 0, none⟩ ∧ g < w.heap.size ∧ ∀ j, j < L.length → ∀ o, o < 3 → w.cell? ⟨g, j * 3 + o, none⟩ = some (grC (atG L j) o)) := fun h0 => by
    obtain ⟨g, e, -, hgw, hc⟩ := hg h0
    exact ⟨g, e, hgw, fun j hj o ho => (hc j hj o ho).1⟩
  clear hg hz
  go_enter Try.func42, Try.ntmps42
  go_wp2
  go_loopw [3, 8] (fun v i wr => ∃ k : Nat, k ≤ L.length ∧ i = .int .i64 k ∧ Hid (wr.ownsRow w.heap.size 64 3 v k (grCells (L.take k))) ∧ Hid (Below w.heap.size w wr) ∧ Hid (k = 0 → v = .slice none 0 0)) (fun _ i _ => L.length - (intOf i).toNat)
  case atStart => exact ⟨0, Nat.zero_le _, rfl, World.ownsRow_nil _ _ _ _, Below.refl _ _, fun _ => rfl⟩
  case round =>
    obtain ⟨k, hk, rfl, HO, HB, HN⟩ := hrel
    have hws : w.heap.size ≤ wr.heap.size := HB.out.size
    by_cases hlt : k < L.length
    · obtain ⟨g, rfl, hgw, hc⟩ := HG.out (by omega)
      have HC : Hid (∀ j, j < L.length → ∀ o, o < 3 → w.cell? ⟨g, j * 3 + o, none⟩ = some (grC (atG L j) o)) := hc
      have k0 : (0 : Int) ≤ k := by omega
      have k1 : (k : Int) < L.length := by omega
      have HKY := HSY.out k hlt
      have KC0 := KC.out k hlt
      clear hc
      have c0 : wr.cell? ⟨g, k * 3, none⟩ = some (.string (atG L k).tp) := by rw [(bcell HB.out).1 _ _ hgw]; exact HC.out k hlt 0 (by omega)
      have c1 : wr.cell? ⟨g, k * 3 + 1, none⟩ = some (.string (atG L k).si) := by rw [(bcell HB.out).1 _ _ hgw]; exact HC.out k hlt 1 (by omega)
      have c2 : wr.cell? ⟨g, k * 3 + 2, none⟩ = some (.int .i64 (atG L k).un) := by rw [(bcell HB.out).1 _ _ hgw]; exact HC.out k hlt 2 (by omega)
      generalize atG L k = y at *
      obtain ⟨ke, na, va⟩ := y
      unfold grV at KC0
      dsimp only at *
      generalize L.take k = Y at *
      obtain ⟨W0, hW⟩ : ∃ W0, W0 = wr.alloc (.cells #[.string ke, .string na, .int .i64 va] 64) := ⟨_, rfl⟩
      have hW0 : Hid (W0 = wr.alloc (.cells #[.string ke, .string na, .int .i64 va] 64)) := hW
      have HBr : Hid (Below wr.heap.size wr W0) := by show Below _ _ _; rw [hW]; exact (Below.refl _ _).alloc (Nat.le_refl _) _
      have n0 : W0.cell? ⟨wr.heap.size, 0, none⟩ = some (.string ke) := by rw [hW]; simp
      have n1 : W0.cell? ⟨wr.heap.size, 1, none⟩ = some (.string na) := by rw [hW]; simp
      have n2 : W0.cell? ⟨wr.heap.size, 2, none⟩ = some (.int .i64 va) := by rw [hW]; simp
      have hbW : wr.heap.size < W0.heap.size := by rw [hW]; simp
      have KC1 : Hid (∀ W, Calls Try.prog 46 #[.agg #[.string ke, .string na, .int .i64 va]] W fun e w' => e = .returned (.agg #[.string ke, .string na, .int .i64 va]) ∧ Below W.heap.size W w') := KC0
      have HKY1 : Hid (∀ (v : Value) (w' : World), w'.ownsRow w.heap.size 64 3 v (k + 1) (grCells Y ++ grVals ⟨ke, na, va⟩) → w'.ownsRow w.heap.size 64 3 v (k + 1) (grCells (L.take (k + 1)))) := HKY
      clear hW KC0 HKY
      go_upto_region 5 with fail
      rw [← hW0.out]
      clear hW0 c0 c1 c2
      generalize hbb : wr.heap.size = b at *
      go_wp2_with fail
      refine (KC1.out _).mono ?_
      rintro e w3 ⟨rfl, hb3⟩
      have A3 : Below b wr w3 := HBr.out.trans (hb3.mono (Nat.le_of_lt hbW))
      have O3 : Hid (∀ v : Value, wr.ownsRow w.heap.size 64 3 v k (grCells Y) → w3.ownsRow w.heap.size 64 3 v k (grCells Y)) := fun v h => ownR_below h (by rw [hbb]; exact A3)
      have B3 : Hid (Below w.heap.size w w3) := HB.out.trans (by rw [← hbb] at A3; exact A3.mono HB.out.size)
      have O4 : Hid (w3.ownsRow w.heap.size 64 3 _ k (grCells Y)) := O3.out _ HO.out
      have hw3 : w.heap.size ≤ w3.heap.size := B3.out.size
      clear hb3 A3 HO O3 HB HBr n0 n1 n2
      go_wp2_with (at_builtin; go_must (refine wpList_append_own _ rfl _ _ 23 rfl w.heap.size 64 i0 (.agg #[.string ⟨#[]⟩, .string ⟨#[]⟩, .int .i64 0]) 3 40 Try.underlying23 hi hy0 hy1 hy2 rfl (by decide) _ _ _ rfl (O4.out.alloc _) ⟨w3.heap.size, 0, none⟩ 1 1 (grVals ⟨ke, na, va⟩) rfl rfl (cell_Gr _ ⟨ke, na, va⟩ _) (one_Gr ⟨ke, na, va⟩) (by unfold maxLen; omega) (by omega) (by simp; omega) ?_))
      intro v1 w4 ho1 hg1 hn1
      have hb4 : Below w.heap.size w w4 := (B3.out.alloc B3.out.size _).grown hg1 (Nat.le_trans B3.out.size (by simp)) (fun j hj => own_base O4.out j hj)
      have O5 : Hid (w4.ownsRow w.heap.size 64 3 v1 (k + 1) (grCells (L.take (k + 1)))) := HKY1.out _ _ ho1
      have B4 : Hid (Below w.heap.size w w4) := hb4
      clear ho1 hg1 hn1 hb4
      go_wp2
      go_roundw
      case rel => exact ⟨k + 1, by omega, by go_num, O5, B4, fun h => absurd h (by omega)⟩
      case measure => simp [intOf]; omega
    · obtain rfl : k = L.length := by omega
      go_wp2
      go_ret
      exact ⟨_, rfl, HFin.out _ _ HO.out HN.out, HB.out⟩
theorem grantCopies_any (v : Value) (L : List Gr) (B : Nat) (w : World) (hs : SliceG w B v L) (hn : L.length ≤ 1048576) (hz : ∀ i, i < L.length → (atG L i).tp.size ≤ 1000000 ∧ (atG L i).si.size ≤ 1000000) :
    Calls Try.prog 42 #[v] w fun e w' => ∃ v', e = .returned v' ∧ SliceG w' w.heap.size v' L ∧ Below w.heap.size w w' := by
  refine (grantCopiesP_any v L B w hs hn hz).mono ?_
  rintro e w' ⟨v', h1, ⟨h2, -⟩, h3⟩
  exact ⟨v', h1, h2, h3⟩
end Go.Proofs.Ytecaeolgheefmaa

/- The walks of the program's GrantOld and GrantDrop. Written by specgrant2.py. -/
namespace Go.Proofs.Ytecaeolgheefmaa
open Go.RowKit

theorem grants_small {L : List Gr} (h : grantsB L = true) : ∀ i, i < L.length → (atG L i).tp.size ≤ 1000000 ∧ (atG L i).si.size ≤ 1000000 := fun i hi => by
  obtain ⟨h1, h2, -⟩ := grB_parts (okG_right ((grantsB_parts h).2 i hi))
  have a := (siteG_size h1).2
  have b := (siteG_size h2).2
  exact ⟨by omega, by omega⟩
set_option maxRecDepth 10000 in
set_option maxHeartbeats 4000000 in
theorem grantOld_any (v : Value) (L : List Gr) (now : Int) (B : Nat) (w : World) (hs : SliceG w B v L) (hn : L.length ≤ 1048576) :
    Calls Try.prog 22 #[v, .int .i64 now] w fun e w' => ∃ v', e = .returned v' ∧ SliceG w' w.heap.size v' (oldG L now) ∧ Below w.heap.size w w' := by
  have KG : Hid (Calls Try.prog 26 #[v] w fun e w' => e = .returned (.bool (grantsB L)) ∧ Below w.heap.size w w') := grantsRight_any v L B w hs hn
  have KT : Hid (∀ W, Calls Try.prog 63 #[.int .i64 now] W fun e w' => e = .returned (.bool (timeG now)) ∧ w' = W) := fun W => isTimeG_any now W
  have KC : Hid (grantsB L = true → ∀ W, Below w.heap.size w W → Calls Try.prog 42 #[v] W fun e w' => ∃ v', e = .returned v' ∧ SliceG w' W.heap.size v' L ∧ Below W.heap.size W w') := fun h W hb => grantCopies_any v L B W (hs.below hb) hn (grants_small h)
  have KD : Hid (grantsB L = true → ∀ (u : Value) (B : Nat) (W : World), SliceG W B u L → B ≤ W.heap.size → Calls Try.prog 41 #[u, .func (.func 45) #[.int .i64 now] #[]] W fun e w' => ∃ v', e = .returned v' ∧ SliceG w' B v' (L.filter (fun g => !!(liveG now g))) ∧ Below B W w') := fun h u B W h1 h2 => deleteOld_any now u B L W h1 h2 (by have := (grantsB_parts h).1; omega) (fun c W _ => outlives_any now c W)
  have HNo : Hid ((grantsB L && timeG now) = false → oldG L now = []) := fun h => by unfold oldG; rw [if_neg (by rw [h]; decide)]
  have HY : Hid ((grantsB L && timeG now) = true → oldG L now = L.filter (fun g => !!(liveG now g))) := fun h => by
    unfold oldG; rw [if_pos h]
    congr 1
    funext g
    rw [Bool.not_not]
  have hmf : ∀ (fn : Fn) (first cap : Array Value) (w : World), (Instr.makeFunc fn first cap).run Try.prog w = .ok (.func fn first cap) w := fun _ _ _ _ => rfl
  clear hs
  generalize oldG L now = Z at *
  generalize L.filter (fun g => !!(liveG now g)) = Y at *
  generalize grantsB L = r1 at *
  generalize timeG now = r2 at *
  go_enter Try.func22, Try.ntmps22
  go_wp2_with fail
  refine KG.out.mono ?_
  rintro e w1 ⟨rfl, hb1⟩
  have B1 : Hid (Below w.heap.size w w1) := hb1
  have hws : w.heap.size ≤ w1.heap.size := hb1.size
  clear hb1 KG
  cases r1 with
  | false =>
    have HZ : Hid (Z = []) := HNo.out rfl
    go_wp2
    go_ret
    exact ⟨_, rfl, by rw [HZ.out]; exact sliceG_none _ _, B1.out⟩
  | true =>
  have KC2 := KC.out rfl
  have KD2 := KD.out rfl
  have KC3 : Hid (∀ W, Below w.heap.size w W → Calls Try.prog 42 #[v] W fun e w' => ∃ v', e = .returned v' ∧ SliceG w' W.heap.size v' L ∧ Below W.heap.size W w') := KC2
  have KD3 : Hid (∀ (u : Value) (B : Nat) (W : World), SliceG W B u L → B ≤ W.heap.size → Calls Try.prog 41 #[u, .func (.func 45) #[.int .i64 now] #[]] W fun e w' => ∃ v', e = .returned v' ∧ SliceG w' B v' Y ∧ Below B W w') := KD2
  clear KC KD KC2 KD2
  go_wp2_with fail
  refine (KT.out _).mono ?_
  rintro e w2 ⟨rfl, rfl⟩
  cases r2 with
  | false =>
    have HZ : Hid (Z = []) := HNo.out rfl
    go_wp2
    go_ret
    exact ⟨_, rfl, by rw [HZ.out]; exact sliceG_none _ _, B1.out⟩
  | true =>
    have HZ : Hid (Z = Y) := HY.out rfl
    go_wp2_with fail
    refine (KC3.out _ B1.out).mono ?_
    rintro e w3 ⟨u3, rfl, hs3, hb3⟩
    have S3 : Hid (SliceG w3 w2.heap.size u3 L) := hs3
    have z3 : w2.heap.size ≤ w3.heap.size := hb3.size
    have B3 : Hid (Below w.heap.size w w3) := B1.out.trans (hb3.mono hws)
    clear hs3 hb3
    go_wp2_with fail
    refine (KD3.out _ _ _ S3.out z3).mono ?_
    rintro e w4 ⟨u4, rfl, hs4, hb4⟩
    have S4 : Hid (SliceG w4 w.heap.size u4 Z) := by show SliceG _ _ _ _; rw [HZ.out]; exact hs4.mono hws
    have B4 : Hid (Below w.heap.size w w4) := B3.out.trans (hb4.mono hws)
    clear hs4 hb4
    go_wp2
    go_ret
    exact ⟨_, rfl, S4.out, B4.out⟩
set_option maxRecDepth 10000 in
set_option maxHeartbeats 4000000 in
theorem grantDrop_any (v : Value) (L : List Gr) (tp si : ByteArray) (B : Nat) (w : World) (hs : SliceG w B v L) (hn : L.length ≤ 1048576) :
    Calls Try.prog 15 #[v, .string tp, .string si] w fun e w' => ∃ v', e = .returned v' ∧ SliceG w' w.heap.size v' (dropL L tp si) ∧ Below w.heap.size w w' := by
  have KG : Hid (∀ W, Below w.heap.size w W → Calls Try.prog 26 #[v] W fun e w' => e = .returned (.bool (grantsB L)) ∧ Below W.heap.size W w') := fun W hb => grantsRight_any v L B W (hs.below hb) hn
  have KR0 : ∀ W, Calls Try.prog 56 #[leaveV tp si] W fun e w' => e = .returned (.bool (siteG tp && siteG si)) ∧ Below W.heap.size W w' := fun W => leaveRight_any tp si W
  have KC : Hid (grantsB L = true → ∀ W, Below w.heap.size w W → Calls Try.prog 42 #[v] W fun e w' => ∃ v', e = .returned v' ∧ SliceG w' W.heap.size v' L ∧ Below W.heap.size W w') := fun h W hb => grantCopies_any v L B W (hs.below hb) hn (grants_small h)
  have KD0 : grantsB L = true → ∀ (u : Value) (B : Nat) (W : World), SliceG W B u L → B ≤ W.heap.size → Calls Try.prog 41 #[u, .func (.func 44) #[leaveV tp si] #[]] W fun e w' => ∃ v', e = .returned v' ∧ SliceG w' B v' (L.filter (fun g => !(isG tp si g))) ∧ Below B W w' := fun h u B W h1 h2 => deleteHas_any tp si u B L W h1 h2 (by have := (grantsB_parts h).1; omega) (fun c W _ => hasG_any tp si c W)
  have HNo : Hid ((grantsB L && (siteG tp && siteG si)) = false → dropL L tp si = []) := fun h => by rw [← Bool.and_assoc] at h; unfold dropL; rw [if_neg (by rw [h]; decide)]
  have HY : Hid ((grantsB L && (siteG tp && siteG si)) = true → dropL L tp si = L.filter (fun g => !(isG tp si g))) := fun h => by rw [← Bool.and_assoc] at h; unfold dropL; rw [if_pos h]
  have hmf : ∀ (fn : Fn) (first cap : Array Value) (w : World), (Instr.makeFunc fn first cap).run Try.prog w = .ok (.func fn first cap) w := fun _ _ _ _ => rfl
  clear hs
  generalize dropL L tp si = Z at *
  generalize L.filter (fun g => !(isG tp si g)) = Y at *
  generalize grantsB L = r1 at *
  generalize (siteG tp && siteG si) = r2 at *
  unfold leaveV at *
  have KR : Hid (∀ W, Calls Try.prog 56 #[.agg #[.string tp, .string si]] W fun e w' => e = .returned (.bool r2) ∧ Below W.heap.size W w') := KR0
  have KD : Hid (r1 = true → ∀ (u : Value) (B : Nat) (W : World), SliceG W B u L → B ≤ W.heap.size → Calls Try.prog 41 #[u, .func (.func 44) #[.agg #[.string tp, .string si]] #[]] W fun e w' => ∃ v', e = .returned v' ∧ SliceG w' B v' Y ∧ Below B W w') := KD0
  clear KR0 KD0
  obtain ⟨W0, hW⟩ : ∃ W0, W0 = w.alloc (.cells #[.string tp, .string si] 60) := ⟨_, rfl⟩
  have hW0 : Hid (W0 = w.alloc (.cells #[.string tp, .string si] 60)) := hW
  have B0 : Hid (Below w.heap.size w W0) := by show Below _ _ _; rw [hW]; exact (Below.refl _ _).alloc (Nat.le_refl _) _
  have g0 : W0.cell? ⟨w.heap.size, 0, none⟩ = some (.string tp) := by rw [hW]; simp
  have g1 : W0.cell? ⟨w.heap.size, 1, none⟩ = some (.string si) := by rw [hW]; simp
  have zw : w.heap.size < W0.heap.size := by rw [hW]; simp
  clear hW
  go_enter Try.func15, Try.ntmps15
  go_upto_region 2 with fail
  rw [← hW0.out]
  clear hW0
  generalize hbb : w.heap.size = b at *
  go_wp2_with fail
  refine (KG.out _ B0.out).mono ?_
  rintro e w1 ⟨rfl, hb1⟩
  have x0 : w1.cell? ⟨b, 0, none⟩ = some (.string tp) := ((bcell hb1).1 _ _ zw).trans g0
  have x1 : w1.cell? ⟨b, 1, none⟩ = some (.string si) := ((bcell hb1).1 _ _ zw).trans g1
  have B1 : Hid (Below b w w1) := B0.out.trans (hb1.mono (Nat.le_of_lt zw))
  have zw1 : b < w1.heap.size := Nat.lt_of_lt_of_le zw hb1.size
  clear hb1 g0 g1 KG B0
  cases r1 with
  | false =>
    have HZ : Hid (Z = []) := HNo.out rfl
    go_wp2
    go_ret
    exact ⟨_, rfl, by rw [HZ.out]; exact sliceG_none _ _, by rw [hbb]; exact B1.out⟩
  | true =>
  have KC2 := KC.out rfl
  have KD2 := KD.out rfl
  have KC3 : Hid (∀ W, Below b w W → Calls Try.prog 42 #[v] W fun e w' => ∃ v', e = .returned v' ∧ SliceG w' W.heap.size v' L ∧ Below W.heap.size W w') := KC2
  have KD3 : Hid (∀ (u : Value) (B : Nat) (W : World), SliceG W B u L → B ≤ W.heap.size → Calls Try.prog 41 #[u, .func (.func 44) #[.agg #[.string tp, .string si]] #[]] W fun e w' => ∃ v', e = .returned v' ∧ SliceG w' B v' Y ∧ Below B W w') := KD2
  clear KC KD KC2 KD2
  go_wp2_with fail
  refine (KR.out _).mono ?_
  rintro e w2 ⟨rfl, hb2⟩
  have y0 : w2.cell? ⟨b, 0, none⟩ = some (.string tp) := ((bcell hb2).1 _ _ zw1).trans x0
  have y1 : w2.cell? ⟨b, 1, none⟩ = some (.string si) := ((bcell hb2).1 _ _ zw1).trans x1
  have B2 : Hid (Below b w w2) := B1.out.trans (hb2.mono (Nat.le_of_lt zw1))
  have zw2 : b < w2.heap.size := Nat.lt_of_lt_of_le zw1 hb2.size
  clear hb2 x0 x1
  cases r2 with
  | false =>
    have HZ : Hid (Z = []) := HNo.out rfl
    go_wp2
    go_ret
    exact ⟨_, rfl, by rw [HZ.out]; exact sliceG_none _ _, by rw [hbb]; exact B2.out⟩
  | true =>
    have HZ : Hid (Z = Y) := HY.out rfl
    go_wp2_with fail
    go_region_held3 (fun w' => w'.cell? ⟨b, 0, none⟩ = some (.string tp) ∧ w'.cell? ⟨b, 1, none⟩ = some (.string si)) (go_keep)
      (first
        | (go_at_call 42; refine (KC3.out _ (B2.out.trans (Below.drew (Below.refl _ _)))).mono ?_; rintro e w3 ⟨u3, rfl, hs3, hb3⟩; have A3 : Below w2.heap.size w2 w3 := (Below.drew (Below.refl _ _)).trans hb3; have m0 : w3.cell? ⟨b, 0, none⟩ = some (.string tp) := ((bcell A3).1 _ _ zw2).trans y0; have m1 : w3.cell? ⟨b, 1, none⟩ = some (.string si) := ((bcell A3).1 _ _ zw2).trans y1)
        | (go_at_call 41; refine (KD3.out _ _ _ hs3 hb3.size).mono ?_; rintro e w4 ⟨u4, rfl, hs4, hb4⟩; have A4 : Below w2.heap.size w2 w4 := A3.trans hb4; have n0 : w4.cell? ⟨b, 0, none⟩ = some (.string tp) := ((bcell A4).1 _ _ zw2).trans y0; have n1 : w4.cell? ⟨b, 1, none⟩ = some (.string si) := ((bcell A4).1 _ _ zw2).trans y1))
    all_goals
      have S4 : Hid (SliceG w4 b u4 Z) := by show SliceG _ _ _ _; rw [HZ.out]; exact hs4.mono (Nat.le_of_lt zw2)
      have B4 : Hid (Below b w w4) := B2.out.trans (A4.mono (Nat.le_of_lt zw2))
    all_goals go_wp2
    all_goals go_ret
    all_goals exact ⟨_, rfl, by rw [hbb]; exact S4.out, by rw [hbb]; exact B4.out⟩
end Go.Proofs.Ytecaeolgheefmaa

/- The walk of the program's GrantPut. -/
namespace Go.Proofs.Ytecaeolgheefmaa
open Go.RowKit

theorem restG_eq (L : List Gr) (tp si : ByteArray) (now : Int) : L.filter (fun g => !(isG tp si g || !(liveG now g))) = restG L tp si now := by
  unfold restG
  rw [List.filter_filter]
  congr 1
  funext g
  cases isG tp si g <;> cases liveG now g <;> rfl
theorem insG_split {L : List Gr} {x : Gr} (hr : RiseG L) (ha : ∀ y, y ∈ L → grLess y x = true ∨ grLess x y = true) : L = L.filter (fun e => grLess e x) ++ L.filter (fun e => grLess x e) := by
  induction L with
  | nil => rfl
  | cons a L ih =>
    obtain ⟨h1, h2⟩ := List.pairwise_cons.1 hr
    have ih2 := ih h2 (fun y hy => ha y (List.mem_cons_of_mem _ hy))
    rcases ha a (by simp) with h | h
    · rw [List.filter_cons_of_pos (p := fun e => grLess e x) h, List.filter_cons_of_neg (p := fun e => grLess x e) (by rw [grLess_asymm h]; decide), List.cons_append, ← ih2]
    · have hall : ∀ y, y ∈ L → grLess x y = true := fun y hy => grLess_trans h (h1 y hy)
      rw [List.filter_cons_of_neg (p := fun e => grLess e x) (by rw [grLess_asymm h]; decide), List.filter_cons_of_pos (p := fun e => grLess x e) h, List.filter_eq_nil_iff.2 (fun y hy => by rw [grLess_asymm (hall y hy)]; decide), List.filter_eq_self.2 hall, List.nil_append]
/-- putting one into its place -/
theorem orderIns_any (L : List Gr) (x : Gr) (v : Value) (B : Nat) (w : World) (hv : PlacedG v) (hs : SliceG w B v L) (hn : L.length ≤ 100) (hr : RiseG L) (ha : ∀ y, y ∈ L → grLess y x = true ∨ grLess x y = true) :
    Calls Try.prog 47 #[v, grV x, .func (.func 48) #[] #[]] w fun e w' => ∃ v', e = .returned v' ∧ SliceG w' w.heap.size v' (insG L x) ∧ Below w.heap.size w w' := by
  have e := insG_split hr ha
  have hs2 : SliceG w B v (L.filter (fun e => grLess e x) ++ L.filter (fun e => grLess x e)) := by rw [← e]; exact hs
  refine orderG_any _ _ x v B w hv hs2 (by rw [← e]; exact hn) (fun d hd => ?_) (fun d hd => ?_)
  · have h := (List.mem_filter.1 hd).2
    have := ordG_pos d x
    rw [grLess_asymm h, decide_eq_false_iff_not] at this
    omega
  · have h := (List.mem_filter.1 hd).2
    have := ordG_pos d x
    rw [h, decide_eq_true_eq] at this
    exact this
set_option maxRecDepth 10000 in
set_option maxHeartbeats 8000000 in
theorem grantPut_any (v : Value) (L : List Gr) (tp si : ByteArray) (now : Int) (B : Nat) (w : World) (hs : SliceG w B v L) (hn : L.length ≤ 1048576) (h1 : tp.size ≤ 1048576) (h2 : si.size ≤ 1048576) :
    Calls Try.prog 11 #[v, .string tp, .string si, .int .i64 now] w fun e w' => ∃ v', e = .returned v' ∧ AnsG w' w.heap.size v' (putG L tp si now) ∧ Below w.heap.size w w' := by
  have KM0 : ∀ W, Below w.heap.size w W → Calls Try.prog 40 #[v, leaveV tp si, .int .i64 now] W fun e w' => e = .returned (.bool (mayG L tp si now)) ∧ Below W.heap.size W w' := fun W hb => mayAsk_any v L tp si now B W (hs.below hb) hn
  have KC : Hid (mayG L tp si now = true → ∀ W, Below w.heap.size w W → Calls Try.prog 42 #[v] W fun e w' => ∃ v', e = .returned v' ∧ (SliceG w' W.heap.size v' L ∧ PlacedG v') ∧ Below W.heap.size W w') := fun h W hb => grantCopiesP_any v L B W (hs.below hb) hn (grants_small (mayG_parts h).1)
  have KD : Hid (mayG L tp si now = true → ∀ (b1 b2 : Nat) (u : Value) (B : Nat) (W : World), SliceG W B u L → B ≤ W.heap.size → b1 < B → b2 < B → W.cell? ⟨b1, 0, none⟩ = some (.string tp) → W.cell? ⟨b1, 1, none⟩ = some (.string si) → W.cell? ⟨b2, 0, none⟩ = some (.int .i64 now) → Calls Try.prog 41 #[u, .func (.func 43) #[] #[.pointer (some ⟨b1, 0, none⟩), .pointer (some ⟨b2, 0, none⟩)]] W fun e w' => ∃ v', e = .returned v' ∧ (SliceG w' B v' (restG L tp si now) ∧ (PlacedG u → PlacedG v')) ∧ Below B W w') := fun h b1 b2 u B W s1 s2 z1 z2 c0 c1 c2 => by
    have := deletePut_any b1 b2 (fun c => isG tp si c || !(liveG now c)) u B L W s1 s2 (by have := (grantsB_parts (mayG_parts h).1).1; omega) (fun c W' hb => put1_any b1 b2 tp si now c W' (by have := hb.size; omega) (by have := hb.size; omega) ((hb.cell (p := ⟨b1, 0, none⟩) z1).trans c0) ((hb.cell (p := ⟨b1, 1, none⟩) z1).trans c1) ((hb.cell (p := ⟨b2, 0, none⟩) z2).trans c2))
    rw [restG_eq] at this
    exact this
  have KX0 : mayG L tp si now = true → ∀ W, Calls Try.prog 46 #[grV (newG tp si now)] W fun e w' => e = .returned (grV (newG tp si now)) ∧ Below W.heap.size W w' := fun h W => grantCopy_any (newG tp si now) W (by have := (siteG_size (mayG_parts h).2.1).2; show tp.size ≤ _; omega) (by have := (siteG_size (mayG_parts h).2.2.1).2; show si.size ≤ _; omega)
  have KI0 : mayG L tp si now = true → ∀ (u : Value) (B : Nat) (W : World), PlacedG u → SliceG W B u (restG L tp si now) → Calls Try.prog 47 #[u, grV (newG tp si now), .func (.func 48) #[] #[]] W fun e w' => ∃ v', e = .returned v' ∧ SliceG w' W.heap.size v' (insG (restG L tp si now) (newG tp si now)) ∧ Below W.heap.size W w' := fun h u B W p s => orderIns_any _ _ u B W p s (by have a := (grantsB_parts (mayG_parts h).1).1; have b := restG_len L tp si now; omega) (rise_filterG (rise_filterG (grants_rise (mayG_parts h).1) _) _) rest_apart
  have HL8 : Hid (mayG L tp si now = true → (restG L tp si now).length ≤ 8 ∧ 0 ≤ now ∧ now ≤ 1000000) := fun h => by
    have a := (grantsB_parts (mayG_parts h).1).1
    have b := restG_len L tp si now
    have t := (mayG_parts h).2.2.2
    unfold timeG at t
    simp only [Bool.and_eq_true, decide_eq_true_eq] at t
    exact ⟨by omega, t.1, t.2⟩
  have HF : Hid (fitsG L tp si = (decide (L.length ≤ 400) && decide (tp.size ≤ 8000) && decide (si.size ≤ 8000))) := rfl
  have HNo : Hid (fitsG L tp si = false → putG L tp si now = noG 2) := fun h => by unfold putG; rw [show beginG L tp si now = 2 by unfold beginG; rw [if_neg (by rw [h]; decide)]]; rfl
  have HN1 : Hid (fitsG L tp si = true → mayG L tp si now = false → putG L tp si now = noG 1) := fun h h2 => by unfold putG; rw [show beginG L tp si now = 1 by unfold beginG; rw [if_pos h, if_neg (by rw [h2]; decide)]]; rfl
  have HN9 : Hid (mayG L tp si now = true → ¬ (restG L tp si now).length < 8 → putG L tp si now = noG 9) := fun h h2 => by unfold putG; rw [if_pos (begin_may h)]; unfold putR; rw [if_neg h2]
  have HY : Hid (mayG L tp si now = true → (restG L tp si now).length < 8 → putG L tp si now = ⟨insG (restG L tp si now) (newG tp si now), false, 0⟩) := fun h h2 => by unfold putG; rw [if_pos (begin_may h)]; unfold putR; rw [if_pos h2]
  have hmf : ∀ (fn : Fn) (first cap : Array Value) (w : World), (Instr.makeFunc fn first cap).run Try.prog w = .ok (.func fn first cap) w := fun _ _ _ _ => rfl
  have HU : Hid (untilG now = if now + 30 ≤ 1000000 then now + 30 else 1000000) := rfl
  unfold newG at KX0 KI0 HY
  obtain ⟨⟨q, cap, rfl, -⟩, -⟩ := hs
  generalize putG L tp si now = Z at *
  generalize insG (restG L tp si now) ⟨tp, si, untilG now⟩ = YI at *
  generalize restG L tp si now = Y at *
  generalize untilG now = un at *
  unfold grV leaveV at *
  dsimp only at *
  have KX : Hid (mayG L tp si now = true → ∀ W, Calls Try.prog 46 #[.agg #[.string tp, .string si, .int .i64 un]] W fun e w' => e = .returned (.agg #[.string tp, .string si, .int .i64 un]) ∧ Below W.heap.size W w') := KX0
  have KI : Hid (mayG L tp si now = true → ∀ (u : Value) (B : Nat) (W : World), PlacedG u → SliceG W B u Y → Calls Try.prog 47 #[u, .agg #[.string tp, .string si, .int .i64 un], .func (.func 48) #[] #[]] W fun e w' => ∃ v', e = .returned v' ∧ SliceG w' W.heap.size v' YI ∧ Below W.heap.size W w') := KI0
  have KM : Hid (∀ W, Below w.heap.size w W → Calls Try.prog 40 #[.slice q L.length cap, .agg #[.string tp, .string si], .int .i64 now] W fun e w' => e = .returned (.bool (mayG L tp si now)) ∧ Below W.heap.size W w') := KM0
  clear KX0 KI0 KM0
  generalize mayG L tp si now = my at *
  obtain ⟨W0, hW⟩ : ∃ W0, W0 = (w.alloc (.cells #[.int .i64 now] 2)).alloc (.cells #[.slice none 0 0, .bool false, .int .i64 0] 27) := ⟨_, rfl⟩
  have hW0 : Hid (W0 = (w.alloc (.cells #[.int .i64 now] 2)).alloc (.cells #[.slice none 0 0, .bool false, .int .i64 0] 27)) := hW
  have B0 : Hid (Below w.heap.size w W0) := by show Below _ _ _; rw [hW]; exact ((Below.refl _ _).alloc (Nat.le_refl _) _).alloc (by simp) _
  have n0 : W0.cell? ⟨w.heap.size, 0, none⟩ = some (.int .i64 now) := by rw [hW]; simp
  have X0 : Hid (BoxG W0 (w.heap.size + 1)) := by
    show BoxG _ _
    rw [hW]
    have := boxG_made (w.alloc (.cells #[.int .i64 now] 2)) 27
    simpa using this
  have z0 : w.heap.size + 1 < W0.heap.size := by rw [hW]; simp
  clear hW
  by_cases c1 : 400 < L.length
  case pos =>
    have HR : Hid (Z = noG 2) := HNo.out (by rw [HF.out, decide_eq_false (by omega)]; rfl)
    have q1 : decide ((400 : Int) < (L.length : Int)) = true := by rw [decide_eq_true_iff]; omega
    obtain ⟨x0, x1, x2, f0, f1, f2, hlt⟩ := X0.out
    go_enter Try.func11, Try.ntmps11
    go_upto_region 1 with fail
    rw [← hW0.out]
    clear hW0
    go_wp2
    refine bodyPost_ret (v := .agg #[.slice none 0 0, .bool false, .int .i64 2]) (by simp [results, Try.results11, go_sem, x0, x1, x2]) rfl ⟨_, rfl, ⟨_, by rw [HR.out]; rfl, by rw [HR.out]; exact sliceG_none _ _⟩, B0.out.trans ((store3G_below (Below.refl (w.heap.size + 1) W0)).mono (by omega))⟩
  have q1 : decide ((400 : Int) < (L.length : Int)) = false := by rw [decide_eq_false_iff_not]; omega
  by_cases c2 : 8000 < tp.size
  case pos =>
    have HR : Hid (Z = noG 2) := HNo.out (by rw [HF.out, decide_eq_false (p := tp.size ≤ 8000) (by omega), Bool.and_false]; rfl)
    have q2 : decide ((8000 : Int) < (tp.size : Int)) = true := by rw [decide_eq_true_iff]; omega
    obtain ⟨x0, x1, x2, f0, f1, f2, hlt⟩ := X0.out
    go_enter Try.func11, Try.ntmps11
    go_upto_region 1 with fail
    rw [← hW0.out]
    clear hW0
    go_wp2
    refine bodyPost_ret (v := .agg #[.slice none 0 0, .bool false, .int .i64 2]) (by simp [results, Try.results11, go_sem, x0, x1, x2]) rfl ⟨_, rfl, ⟨_, by rw [HR.out]; rfl, by rw [HR.out]; exact sliceG_none _ _⟩, B0.out.trans ((store3G_below (Below.refl (w.heap.size + 1) W0)).mono (by omega))⟩
  have q2 : decide ((8000 : Int) < (tp.size : Int)) = false := by rw [decide_eq_false_iff_not]; omega
  by_cases c3 : 8000 < si.size
  case pos =>
    have HR : Hid (Z = noG 2) := HNo.out (by rw [HF.out, decide_eq_false (p := si.size ≤ 8000) (by omega), Bool.and_false])
    have q3 : decide ((8000 : Int) < (si.size : Int)) = true := by rw [decide_eq_true_iff]; omega
    obtain ⟨x0, x1, x2, f0, f1, f2, hlt⟩ := X0.out
    go_enter Try.func11, Try.ntmps11
    go_upto_region 1 with fail
    rw [← hW0.out]
    clear hW0
    go_wp2
    refine bodyPost_ret (v := .agg #[.slice none 0 0, .bool false, .int .i64 2]) (by simp [results, Try.results11, go_sem, x0, x1, x2]) rfl ⟨_, rfl, ⟨_, by rw [HR.out]; rfl, by rw [HR.out]; exact sliceG_none _ _⟩, B0.out.trans ((store3G_below (Below.refl (w.heap.size + 1) W0)).mono (by omega))⟩
  have q3 : decide ((8000 : Int) < (si.size : Int)) = false := by rw [decide_eq_false_iff_not]; omega
  have HN1b : Hid (my = false → Z = noG 1) := HN1.out (by rw [HF.out, decide_eq_true (by omega), decide_eq_true (by omega), decide_eq_true (by omega)]; rfl)
  clear HF HNo HN1 c1 c2 c3
  obtain ⟨W1, hV⟩ : ∃ W1, W1 = W0.alloc (.cells #[.string tp, .string si] 60) := ⟨_, rfl⟩
  have hW1 : Hid (W1 = W0.alloc (.cells #[.string tp, .string si] 60)) := hV
  have A1 : Below W0.heap.size W0 W1 := by rw [hV]; exact (Below.refl _ _).alloc (Nat.le_refl _) _
  have B1 : Hid (Below w.heap.size w W1) := B0.out.trans (A1.mono B0.out.size)
  have l0 : W1.cell? ⟨W0.heap.size, 0, none⟩ = some (.string tp) := by rw [hV]; simp
  have l1 : W1.cell? ⟨W0.heap.size, 1, none⟩ = some (.string si) := by rw [hV]; simp
  have n1 : W1.cell? ⟨w.heap.size, 0, none⟩ = some (.int .i64 now) := ((bcell A1).1 _ _ (by omega)).trans n0
  have X1 : Hid (BoxG W1 (w.heap.size + 1)) := X0.out.below A1
  have zl : W0.heap.size < W1.heap.size := by rw [hV]; simp
  clear hV A1 X0 B0 n0
  go_enter Try.func11, Try.ntmps11
  go_upto_region 1 with fail
  rw [← hW0.out]
  clear hW0
  go_upto_region 4 with fail
  rw [← hW1.out]
  clear hW1
  generalize hbl : W0.heap.size = bl at *
  generalize hbb : w.heap.size = b at *
  go_wp2_with fail
  refine (KM.out _ B1.out).mono ?_
  rintro e w2 ⟨rfl, hb2⟩
  have B2 : Hid (Below b w w2) := B1.out.trans (hb2.mono (by omega))
  have X2 : Hid (BoxG w2 (b + 1)) := X1.out.below hb2
  have m0 : w2.cell? ⟨bl, 0, none⟩ = some (.string tp) := ((bcell hb2).1 _ _ zl).trans l0
  have m1 : w2.cell? ⟨bl, 1, none⟩ = some (.string si) := ((bcell hb2).1 _ _ zl).trans l1
  have m2 : w2.cell? ⟨b, 0, none⟩ = some (.int .i64 now) := ((bcell hb2).1 _ _ (by omega)).trans n1
  have z2 : bl < w2.heap.size := Nat.lt_of_lt_of_le zl hb2.size
  clear hb2 l0 l1 n1 X1 B1 KM
  cases my with
  | false =>
    have HR : Hid (Z = noG 1) := HN1b.out rfl
    obtain ⟨x0, x1, x2, f0, f1, f2, hlt⟩ := X2.out
    go_wp2
    refine bodyPost_ret (v := .agg #[.slice none 0 0, .bool false, .int .i64 1]) (by simp [results, Try.results11, go_sem, x0, x1, x2]) rfl ⟨_, rfl, ⟨_, by rw [HR.out]; rfl, by rw [HR.out]; exact sliceG_none _ _⟩, by rw [hbb]; exact B2.out.trans ((store3G_below (Below.refl (b + 1) w2)).mono (by omega))⟩
  | true =>
  obtain ⟨hY8, hno0, hno1⟩ := HL8.out rfl
  have KC2 := KC.out rfl
  have KD2 := KD.out rfl
  have KX2 := KX.out rfl
  have KI2 := KI.out rfl
  have HN92 := HN9.out rfl
  have HY2 := HY.out rfl
  have KC3 : Hid (∀ W, Below b w W → Calls Try.prog 42 #[.slice q L.length cap] W fun e w' => ∃ v', e = .returned v' ∧ (SliceG w' W.heap.size v' L ∧ PlacedG v') ∧ Below W.heap.size W w') := KC2
  have KD3 : Hid (∀ (b1 b2 : Nat) (u : Value) (B : Nat) (W : World), SliceG W B u L → B ≤ W.heap.size → b1 < B → b2 < B → W.cell? ⟨b1, 0, none⟩ = some (.string tp) → W.cell? ⟨b1, 1, none⟩ = some (.string si) → W.cell? ⟨b2, 0, none⟩ = some (.int .i64 now) → Calls Try.prog 41 #[u, .func (.func 43) #[] #[.pointer (some ⟨b1, 0, none⟩), .pointer (some ⟨b2, 0, none⟩)]] W fun e w' => ∃ v', e = .returned v' ∧ (SliceG w' B v' Y ∧ (PlacedG u → PlacedG v')) ∧ Below B W w') := KD2
  have KX3 : Hid (∀ W, Calls Try.prog 46 #[.agg #[.string tp, .string si, .int .i64 un]] W fun e w' => e = .returned (.agg #[.string tp, .string si, .int .i64 un]) ∧ Below W.heap.size W w') := KX2
  have KI3 : Hid (∀ (u : Value) (B : Nat) (W : World), PlacedG u → SliceG W B u Y → Calls Try.prog 47 #[u, .agg #[.string tp, .string si, .int .i64 un], .func (.func 48) #[] #[]] W fun e w' => ∃ v', e = .returned v' ∧ SliceG w' W.heap.size v' YI ∧ Below W.heap.size W w') := KI2
  have HN93 : Hid (¬ Y.length < 8 → Z = noG 9) := HN92
  have HY3 : Hid (Y.length < 8 → Z = ⟨YI, false, 0⟩) := HY2
  clear KC KD KX KI HN9 HY HL8 HN1b KC2 KD2 KX2 KI2 HN92 HY2
  go_wp2_with fail
  refine (KC3.out _ B2.out).mono ?_
  rintro e w3 ⟨u3, rfl, ⟨hs3, hp3⟩, hb3⟩
  have S3 : Hid (SliceG w3 w2.heap.size u3 L) := hs3
  have P3 : Hid (PlacedG u3) := hp3
  have X3 : Hid (BoxG w3 (b + 1)) := X2.out.below hb3
  have B3 : Hid (Below b w w3) := B2.out.trans (hb3.mono (by omega))
  have k0 : w3.cell? ⟨bl, 0, none⟩ = some (.string tp) := ((bcell hb3).1 _ _ z2).trans m0
  have k1 : w3.cell? ⟨bl, 1, none⟩ = some (.string si) := ((bcell hb3).1 _ _ z2).trans m1
  have k2 : w3.cell? ⟨b, 0, none⟩ = some (.int .i64 now) := ((bcell hb3).1 _ _ (by omega)).trans m2
  have z3 : w2.heap.size ≤ w3.heap.size := hb3.size
  clear hs3 hp3 hb3 m0 m1 m2 X2 B2
  go_wp2_with fail
  refine (KD3.out bl b _ _ _ S3.out z3 z2 (by omega) k0 k1 k2).mono ?_
  rintro e w4 ⟨u4, rfl, ⟨hs4, hp4⟩, hb4⟩
  have S4 : Hid (SliceG w4 w2.heap.size u4 Y) := hs4
  have P4 : Hid (PlacedG u4) := hp4 P3.out
  have X4 : Hid (BoxG w4 (b + 1)) := X3.out.of_block (hb4.block _ (by omega)) hb4.size
  have B4 : Hid (Below b w w4) := B3.out.trans (hb4.mono (by omega))
  have j2 : w4.cell? ⟨b, 0, none⟩ = some (.int .i64 now) := (hb4.cell (p := ⟨b, 0, none⟩) (show b < w2.heap.size by omega)).trans k2
  have z4 : w2.heap.size ≤ w4.heap.size := Nat.le_trans z3 hb4.size
  obtain ⟨pu, cu, hu4⟩ : ∃ pu cu, u4 = .slice pu Y.length cu := by obtain ⟨⟨p, c, e, -⟩, -⟩ := hs4; exact ⟨p, c, e⟩
  clear hs4 hp4 hb4 k0 k1 k2 X3 B3 S3 P3 KD3 KC3
  subst hu4
  by_cases h8 : Y.length < 8
  case neg =>
    have HR : Hid (Z = noG 9) := HN93.out h8
    have e8 : Y.length = 8 := by omega
    have q8 : ((Y.length : Int) == 8) = true := by rw [beq_iff_eq]; omega
    obtain ⟨x0, x1, x2, f0, f1, f2, hlt⟩ := X4.out
    clear h8
    rw [e8] at *
    go_wp2
    refine bodyPost_ret (v := .agg #[.slice none 0 0, .bool false, .int .i64 9]) (by simp [results, Try.results11, go_sem, x0, x1, x2]) rfl ⟨_, rfl, ⟨_, by rw [HR.out]; rfl, by rw [HR.out]; exact sliceG_none _ _⟩, by rw [hbb]; exact B4.out.trans ((store3G_below (Below.refl (b + 1) w4)).mono (by omega))⟩
  have HR : Hid (Z = ⟨YI, false, 0⟩) := HY3.out h8
  have q8 : ((Y.length : Int) == 8) = false := by rw [beq_eq_false_iff_ne]; omega
  have hwr : IntKind.i64.wrap (now + 30) = now + 30 := by rw [IntKind.wrap_i64]; omega
  have hmin : ∀ (ts : Array TypeId) (ty : TypeId) (W : World), (Builtin.min_ ts ty #[.int .i64 (now + 30), .int .i64 1000000]).run Try.prog W = .ok (.int .i64 un) W := fun ts ty W => by
    have e : un = if 1000000 < now + 30 then 1000000 else now + 30 := by
      rw [HU.out]
      by_cases hc : now + 30 ≤ 1000000
      · rw [if_pos hc, if_neg (by omega)]
      · rw [if_neg hc, if_pos (by omega)]
    rw [e]
    simp [Builtin.min_, Builtin.min2, List.foldlM]
  clear HN93 HY3 HU
  go_wp2_with fail
  refine (KX3.out _).mono ?_
  rintro e w5 ⟨rfl, hb5⟩
  obtain ⟨W6, hV6⟩ : ∃ W6, W6 = w5.alloc (.cells #[.string tp, .string si, .int .i64 un] 64) := ⟨_, rfl⟩
  have hW6 : Hid (W6 = w5.alloc (.cells #[.string tp, .string si, .int .i64 un] 64)) := hV6
  have A6 : Below w4.heap.size w4 W6 := hb5.trans (by rw [hV6]; exact ((Below.refl _ _).alloc (Nat.le_refl _) _).mono hb5.size)
  have S6 : Hid (SliceG W6 w2.heap.size (.slice pu Y.length cu) Y) := S4.out.below A6
  have X6 : Hid (BoxG W6 (b + 1)) := X4.out.below A6
  have B6 : Hid (Below b w W6) := B4.out.trans (A6.mono (by omega))
  have i0 : W6.cell? ⟨w5.heap.size, 0, none⟩ = some (.string tp) := by rw [hV6]; simp
  have i1 : W6.cell? ⟨w5.heap.size, 1, none⟩ = some (.string si) := by rw [hV6]; simp
  have i2 : W6.cell? ⟨w5.heap.size, 2, none⟩ = some (.int .i64 un) := by rw [hV6]; simp
  have z6 : w2.heap.size ≤ W6.heap.size := Nat.le_trans z4 A6.size
  clear hV6 A6 hb5 S4 X4 B4 j2
  go_upto_region 10 with fail
  rw [← hW6.out]
  clear hW6
  go_wp2_with fail
  refine (KI3.out _ _ _ P4.out S6.out).mono ?_
  rintro e w7 ⟨u7, rfl, hs7, hb7⟩
  have S7 : Hid (SliceG w7 W6.heap.size u7 YI) := hs7
  have B7 : Hid (Below b w w7) := B6.out.trans (hb7.mono (by omega))
  obtain ⟨x0, x1, x2, f0, f1, f2, hlt⟩ := X6.out.below hb7
  obtain ⟨pq, cq, hu7⟩ : ∃ pq cq, u7 = .slice pq YI.length cq := by obtain ⟨⟨p, c, e, -⟩, -⟩ := hs7; exact ⟨p, c, e⟩
  clear hs7 hb7 S6 X6 B6
  subst hu7
  go_wp2
  refine bodyPost_ret (v := .agg #[.slice pq YI.length cq, .bool false, .int .i64 0]) (by simp [results, Try.results11, go_sem, x0, x1, x2]) rfl ⟨_, rfl, ⟨_, by rw [HR.out], by rw [HR.out, hbb]; exact (S7.out.store3 (by omega)).mono (by omega)⟩, by rw [hbb]; exact B7.out.trans ((store3G_below (Below.refl (b + 1) w7)).mono (by omega))⟩
end Go.Proofs.Ytecaeolgheefmaa

/- The walks of the program's judge and GrantAsk. -/
namespace Go.Proofs.Ytecaeolgheefmaa
open Go.RowKit

theorem https_call (s : ByteArray) (w : World) : Calls Try.prog 82 #[.string s, .string ⟨#[104, 116, 116, 112, 115, 58, 47, 47]⟩] w fun e w' => e = .returned (.bool (httpsB s)) ∧ w' = w :=
  Any.strings_HasPrefix Try.lays99 s ⟨#[104, 116, 116, 112, 115, 58, 47, 47]⟩ w
/-- what is told is the answer -/
def TellG (w : World) (B : Nat) (v : Verd) (x : GO) : Prop := AnsG w B (toldV v) x
theorem tell_no (w : World) (B : Nat) (c : Int) : TellG w B (.no c) (noG c) := ⟨_, rfl, sliceG_none _ _⟩
set_option maxRecDepth 10000 in
set_option maxHeartbeats 8000000 in
theorem judge_any (v : Value) (L : List Gr) (a : Aq) (now : Int) (B : Nat) (w : World) (hs : SliceG w B v L) (hn : L.length ≤ 1048576) (h1 : a.tp.size ≤ 1048576) (h2 : a.si.size ≤ 1048576) :
    Calls Try.prog 55 #[v, aqV a, .int .i64 now] w fun e w' => ∃ vd, e = .returned (verdV vd) ∧ TellG w' w.heap.size vd (askG L a now) ∧ Below w.heap.size w w' := by
  have KM0 : ∀ W, Below w.heap.size w W → Calls Try.prog 40 #[v, leaveV a.tp a.si, .int .i64 now] W fun e w' => e = .returned (.bool (mayG L a.tp a.si now)) ∧ Below W.heap.size W w' := fun W hb => mayAsk_any v L a.tp a.si now B W (hs.below hb) hn
  have KI0 : ∀ W, Below w.heap.size w W → Calls Try.prog 65 #[leaveV a.tp a.si, v, .int .i64 now] W fun e w' => e = .returned (.bool (hereG L a.tp a.si now)) ∧ Below W.heap.size W w' := fun W hb => liveIn_any v L a.tp a.si now B W (hs.below hb) hn
  have KC : Hid (mayG L a.tp a.si now = true → ∀ W, Below w.heap.size w W → Calls Try.prog 42 #[v] W fun e w' => ∃ v', e = .returned v' ∧ SliceG w' W.heap.size v' L ∧ Below W.heap.size W w') := fun h W hb => grantCopies_any v L B W (hs.below hb) hn (grants_small (mayG_parts h).1)
  have KP0 : mayG L a.tp a.si now = true → ∀ W, Below w.heap.size w W → Calls Try.prog 11 #[v, .string a.tp, .string a.si, .int .i64 now] W fun e w' => ∃ v', e = .returned v' ∧ AnsG w' W.heap.size v' (putR L a.tp a.si now) ∧ Below W.heap.size W w' := fun h W hb => by
    have := grantPut_any v L a.tp a.si now B W (hs.below hb) hn h1 h2
    rw [put_may h] at this
    exact this
  have KH0 : ∀ W, Calls Try.prog 82 #[.string a.si, .string ⟨#[104, 116, 116, 112, 115, 58, 47, 47]⟩] W fun e w' => e = .returned (.bool (httpsB a.si)) ∧ w' = W := fun W => https_call _ W
  have HN2 : Hid (¬ L.length ≤ 400 → askG L a now = noG 2) := fun h => by unfold askG; rw [if_neg h]
  have HN1 : Hid (L.length ≤ 400 → mayG L a.tp a.si now = false → askG L a now = noG 1) := fun h h2 => by unfold askG; rw [if_pos h, if_neg (by rw [h2]; decide)]
  have HY : Hid (L.length ≤ 400 → mayG L a.tp a.si now = true → askG L a now =
      if ((a.tp.toList == a.si.toList) || hereG L a.tp a.si now) = true then ⟨L, false, 0⟩
      else if (a.sa || !(httpsB a.si)) = true then noG 11
      else if a.tc = false then noG 10
      else if (!a.re && !a.ye) = true then ⟨L, true, 11⟩
      else ⟨(putR L a.tp a.si now).ar, true, (putR L a.tp a.si now).co⟩) := fun h h2 => by unfold askG; rw [if_pos h, if_pos h2]; rfl
  obtain ⟨⟨q, cap, rfl, -⟩, -⟩ := hs
  generalize askG L a now = Z at *
  generalize putR L a.tp a.si now = Y at *
  generalize hereG L a.tp a.si now = rl at *
  obtain ⟨tp, si, tc, sa, re, ye⟩ := a
  unfold aqV leaveV at *
  dsimp only at *
  have KM : Hid (∀ W, Below w.heap.size w W → Calls Try.prog 40 #[.slice q L.length cap, .agg #[.string tp, .string si], .int .i64 now] W fun e w' => e = .returned (.bool (mayG L tp si now)) ∧ Below W.heap.size W w') := KM0
  have KI : Hid (∀ W, Below w.heap.size w W → Calls Try.prog 65 #[.agg #[.string tp, .string si], .slice q L.length cap, .int .i64 now] W fun e w' => e = .returned (.bool rl) ∧ Below W.heap.size W w') := KI0
  have KP : Hid (mayG L tp si now = true → ∀ W, Below w.heap.size w W → Calls Try.prog 11 #[.slice q L.length cap, .string tp, .string si, .int .i64 now] W fun e w' => ∃ v', e = .returned v' ∧ AnsG w' W.heap.size v' Y ∧ Below W.heap.size W w') := KP0
  have KH : Hid (∀ W, Calls Try.prog 82 #[.string si, .string ⟨#[104, 116, 116, 112, 115, 58, 47, 47]⟩] W fun e w' => e = .returned (.bool (httpsB si)) ∧ w' = W) := KH0
  clear KM0 KI0 KP0 KH0
  generalize mayG L tp si now = my at *
  generalize httpsB si = hp at *
  obtain ⟨W0, hW⟩ : ∃ W0, W0 = w.alloc (.cells #[.string tp, .string si, .bool tc, .bool sa, .bool re, .bool ye] 30) := ⟨_, rfl⟩
  have hW0 : Hid (W0 = w.alloc (.cells #[.string tp, .string si, .bool tc, .bool sa, .bool re, .bool ye] 30)) := hW
  have B0 : Hid (Below w.heap.size w W0) := by show Below _ _ _; rw [hW]; exact (Below.refl _ _).alloc (Nat.le_refl _) _
  have a0 : W0.cell? ⟨w.heap.size, 0, none⟩ = some (.string tp) := by rw [hW]; simp
  have a1 : W0.cell? ⟨w.heap.size, 1, none⟩ = some (.string si) := by rw [hW]; simp
  have a2 : W0.cell? ⟨w.heap.size, 2, none⟩ = some (.bool tc) := by rw [hW]; simp
  have a3 : W0.cell? ⟨w.heap.size, 3, none⟩ = some (.bool sa) := by rw [hW]; simp
  have a4 : W0.cell? ⟨w.heap.size, 4, none⟩ = some (.bool re) := by rw [hW]; simp
  have a5 : W0.cell? ⟨w.heap.size, 5, none⟩ = some (.bool ye) := by rw [hW]; simp
  have z0 : w.heap.size < W0.heap.size := by rw [hW]; simp
  clear hW
  by_cases c1 : 400 < L.length
  case pos =>
    have HR : Hid (Z = noG 2) := HN2.out (by omega)
    have q1 : decide ((400 : Int) < (L.length : Int)) = true := by rw [decide_eq_true_iff]; omega
    go_enter Try.func55, Try.ntmps55
    go_upto_region 1 with fail
    rw [← hW0.out]
    clear hW0
    go_wp2
    go_ret
    exact ⟨.no 2, rfl, by rw [HR.out]; exact tell_no _ _ _, B0.out⟩
  have q1 : decide ((400 : Int) < (L.length : Int)) = false := by rw [decide_eq_false_iff_not]; omega
  have HN1b : Hid (my = false → Z = noG 1) := HN1.out (by omega)
  have HYb := HY.out (by omega)
  have HYc : Hid (my = true → Z =
      if ((tp.toList == si.toList) || rl) = true then ⟨L, false, 0⟩
      else if (sa || !hp) = true then noG 11
      else if tc = false then noG 10
      else if (!re && !ye) = true then ⟨L, true, 11⟩
      else ⟨Y.ar, true, Y.co⟩) := HYb
  clear HN2 HN1 HY HYb c1
  obtain ⟨W1, hV⟩ : ∃ W1, W1 = W0.alloc (.cells #[.string tp, .string si] 60) := ⟨_, rfl⟩
  have hW1 : Hid (W1 = W0.alloc (.cells #[.string tp, .string si] 60)) := hV
  have A1 : Below W0.heap.size W0 W1 := by rw [hV]; exact (Below.refl _ _).alloc (Nat.le_refl _) _
  have B1 : Hid (Below w.heap.size w W1) := B0.out.trans (A1.mono B0.out.size)
  have l0 : W1.cell? ⟨W0.heap.size, 0, none⟩ = some (.string tp) := by rw [hV]; simp
  have l1 : W1.cell? ⟨W0.heap.size, 1, none⟩ = some (.string si) := by rw [hV]; simp
  have b0 := ((bcell A1).1 _ _ z0).trans a0
  have b1 := ((bcell A1).1 _ _ z0).trans a1
  have b2 := ((bcell A1).1 _ _ z0).trans a2
  have b3 := ((bcell A1).1 _ _ z0).trans a3
  have b4 := ((bcell A1).1 _ _ z0).trans a4
  have b5 := ((bcell A1).1 _ _ z0).trans a5
  have zl : W0.heap.size < W1.heap.size := by rw [hV]; simp
  clear hV A1 B0
  go_enter Try.func55, Try.ntmps55
  go_upto_region 1 with fail
  rw [← hW0.out]
  clear hW0
  go_upto_region 4 with fail
  rw [← hW1.out]
  clear hW1 a0 a1 a2 a3 a4 a5
  generalize hbl : W0.heap.size = bl at *
  generalize hbb : w.heap.size = b at *
  go_wp2_with fail
  refine (KM.out _ B1.out).mono ?_
  rintro e w2 ⟨rfl, hb2⟩
  have B2 : Hid (Below b w w2) := B1.out.trans (hb2.mono (by omega))
  have m0 : w2.cell? ⟨bl, 0, none⟩ = some (.string tp) := ((bcell hb2).1 _ _ zl).trans l0
  have m1 : w2.cell? ⟨bl, 1, none⟩ = some (.string si) := ((bcell hb2).1 _ _ zl).trans l1
  have zb1 : b < W1.heap.size := by omega
  have c0 := ((bcell hb2).1 _ _ zb1).trans b0
  have c1 := ((bcell hb2).1 _ _ zb1).trans b1
  have c2 := ((bcell hb2).1 _ _ zb1).trans b2
  have c3 := ((bcell hb2).1 _ _ zb1).trans b3
  have c4 := ((bcell hb2).1 _ _ zb1).trans b4
  have c5 := ((bcell hb2).1 _ _ zb1).trans b5
  have z2 : bl < w2.heap.size := Nat.lt_of_lt_of_le zl hb2.size
  clear hb2 l0 l1 b0 b1 b2 b3 b4 b5 B1 KM zb1
  cases my with
  | false =>
    have HR : Hid (Z = noG 1) := HN1b.out rfl
    go_wp2
    go_ret
    exact ⟨.no 1, rfl, by rw [HR.out]; exact tell_no _ _ _, by rw [hbb]; exact B2.out⟩
  | true =>
  have HYd := HYc.out rfl
  have HR : Hid (Z =
      if ((tp.toList == si.toList) || rl) = true then ⟨L, false, 0⟩
      else if (sa || !hp) = true then noG 11
      else if tc = false then noG 10
      else if (!re && !ye) = true then ⟨L, true, 11⟩
      else ⟨Y.ar, true, Y.co⟩) := HYd
  have KC2 := KC.out rfl
  have KP2 := KP.out rfl
  have KC3 : Hid (∀ W, Below b w W → Calls Try.prog 42 #[.slice q L.length cap] W fun e w' => ∃ v', e = .returned v' ∧ SliceG w' W.heap.size v' L ∧ Below W.heap.size W w') := KC2
  have KP3 : Hid (∀ W, Below b w W → Calls Try.prog 11 #[.slice q L.length cap, .string tp, .string si, .int .i64 now] W fun e w' => ∃ v', e = .returned v' ∧ AnsG w' W.heap.size v' Y ∧ Below W.heap.size W w') := KP2
  clear KC KP KC2 KP2 HYc HYd HN1b
  cases heq : (tp.toList == si.toList) with
  | true =>
    have HR2 : Hid (Z = ⟨L, false, 0⟩) := by show _ = _; rw [HR.out, heq]; rfl
    clear HR
    go_wp2_with fail
    refine (KC3.out _ B2.out).mono ?_
    rintro e w3 ⟨u3, rfl, hs3, hb3⟩
    have S3 : Hid (SliceG w3 w2.heap.size u3 L) := hs3
    have B3 : Hid (Below b w w3) := B2.out.trans (hb3.mono (by omega))
    obtain ⟨pu, cu, hu3⟩ : ∃ pu cu, u3 = .slice pu L.length cu := by obtain ⟨⟨p, c, e, -⟩, -⟩ := hs3; exact ⟨p, c, e⟩
    clear hs3 hb3
    subst hu3
    go_wp2
    go_ret
    exact ⟨.same pu L.length cu, rfl, by rw [HR2.out, hbb]; exact ⟨_, rfl, S3.out.mono (by omega)⟩, by rw [hbb]; exact B3.out⟩
  | false =>
  go_wp2_with fail
  refine (KI.out _ B2.out).mono ?_
  rintro e w3 ⟨rfl, hb3⟩
  have B3 : Hid (Below b w w3) := B2.out.trans (hb3.mono (by omega))
  have z3 : bl < w3.heap.size := Nat.lt_of_lt_of_le z2 hb3.size
  have zb2 : b < w2.heap.size := by omega
  have d0 := ((bcell hb3).1 _ _ zb2).trans c0
  have d1 := ((bcell hb3).1 _ _ zb2).trans c1
  have d2 := ((bcell hb3).1 _ _ zb2).trans c2
  have d3 := ((bcell hb3).1 _ _ zb2).trans c3
  have d4 := ((bcell hb3).1 _ _ zb2).trans c4
  have d5 := ((bcell hb3).1 _ _ zb2).trans c5
  clear hb3 B2 c0 c1 c2 c3 c4 c5 m0 m1 KI zb2
  cases rl with
  | true =>
    have HR2 : Hid (Z = ⟨L, false, 0⟩) := by show _ = _; rw [HR.out, heq]; rfl
    clear HR
    go_wp2_with fail
    refine (KC3.out _ B3.out).mono ?_
    rintro e w4 ⟨u4, rfl, hs4, hb4⟩
    have S4 : Hid (SliceG w4 w3.heap.size u4 L) := hs4
    have B4 : Hid (Below b w w4) := B3.out.trans (hb4.mono (by omega))
    obtain ⟨pu, cu, hu4⟩ : ∃ pu cu, u4 = .slice pu L.length cu := by obtain ⟨⟨p, c, e, -⟩, -⟩ := hs4; exact ⟨p, c, e⟩
    clear hs4 hb4
    subst hu4
    go_wp2
    go_ret
    exact ⟨.same pu L.length cu, rfl, by rw [HR2.out, hbb]; exact ⟨_, rfl, S4.out.mono (by omega)⟩, by rw [hbb]; exact B4.out⟩
  | false =>
  have HR1 : Hid (Z = if (sa || !hp) = true then noG 11 else if tc = false then noG 10 else if (!re && !ye) = true then ⟨L, true, 11⟩ else ⟨Y.ar, true, Y.co⟩) := by show _ = _; rw [HR.out, heq]; rfl
  clear HR
  cases sa with
  | true =>
    have HR2 : Hid (Z = noG 11) := HR1.out
    go_wp2
    go_ret
    exact ⟨.no 11, rfl, by rw [HR2.out]; exact tell_no _ _ _, by rw [hbb]; exact B3.out⟩
  | false =>
  go_wp2_with fail
  refine (KH.out _).mono ?_
  rintro e w4 ⟨rfl, rfl⟩
  cases hp with
  | false =>
    have HR2 : Hid (Z = noG 11) := HR1.out
    go_wp2
    go_ret
    exact ⟨.no 11, rfl, by rw [HR2.out]; exact tell_no _ _ _, by rw [hbb]; exact B3.out⟩
  | true =>
  cases tc with
  | false =>
    have HR2 : Hid (Z = noG 10) := HR1.out
    go_wp2
    go_ret
    exact ⟨.no 10, rfl, by rw [HR2.out]; exact tell_no _ _ _, by rw [hbb]; exact B3.out⟩
  | true =>
  have HR2 : Hid (Z = if (!re && !ye) = true then ⟨L, true, 11⟩ else ⟨Y.ar, true, Y.co⟩) := HR1.out
  clear HR1
  cases re with
  | false =>
    cases ye with
    | false =>
      have HR3 : Hid (Z = ⟨L, true, 11⟩) := HR2.out
      go_wp2_with fail
      refine (KC3.out _ B3.out).mono ?_
      rintro e w5 ⟨u5, rfl, hs5, hb5⟩
      have S5 : Hid (SliceG w5 w4.heap.size u5 L) := hs5
      have B5 : Hid (Below b w w5) := B3.out.trans (hb5.mono (by omega))
      obtain ⟨pu, cu, hu5⟩ : ∃ pu cu, u5 = .slice pu L.length cu := by obtain ⟨⟨p, c, e, -⟩, -⟩ := hs5; exact ⟨p, c, e⟩
      clear hs5 hb5
      subst hu5
      go_wp2
      go_ret
      exact ⟨.done pu L.length cu false 11, rfl, by rw [HR3.out, hbb]; exact ⟨_, rfl, S5.out.mono (by omega)⟩, by rw [hbb]; exact B5.out⟩
    | true =>
      have HR3 : Hid (Z = ⟨Y.ar, true, Y.co⟩) := HR2.out
      go_wp2_with fail
      refine (KP3.out _ B3.out).mono ?_
      rintro e w5 ⟨v5, rfl, ⟨u5, rfl, hs5⟩, hb5⟩
      have S5 : Hid (SliceG w5 w4.heap.size u5 Y.ar) := hs5
      have B5 : Hid (Below b w w5) := B3.out.trans (hb5.mono (by omega))
      obtain ⟨pu, cu, hu5⟩ : ∃ pu cu, u5 = .slice pu Y.ar.length cu := by obtain ⟨⟨p, c, e, -⟩, -⟩ := hs5; exact ⟨p, c, e⟩
      clear hs5 hb5
      subst hu5
      go_wp2
      go_ret
      exact ⟨.done pu Y.ar.length cu Y.us Y.co, rfl, by rw [HR3.out, hbb]; exact ⟨_, rfl, S5.out.mono (by omega)⟩, by rw [hbb]; exact B5.out⟩
  | true =>
    have HR3 : Hid (Z = ⟨Y.ar, true, Y.co⟩) := by show _ = _; rw [HR2.out]; rfl
    go_wp2_with fail
    refine (KP3.out _ B3.out).mono ?_
    rintro e w5 ⟨v5, rfl, ⟨u5, rfl, hs5⟩, hb5⟩
    have S5 : Hid (SliceG w5 w4.heap.size u5 Y.ar) := hs5
    have B5 : Hid (Below b w w5) := B3.out.trans (hb5.mono (by omega))
    obtain ⟨pu, cu, hu5⟩ : ∃ pu cu, u5 = .slice pu Y.ar.length cu := by obtain ⟨⟨p, c, e, -⟩, -⟩ := hs5; exact ⟨p, c, e⟩
    clear hs5 hb5
    subst hu5
    go_wp2
    go_ret
    exact ⟨.done pu Y.ar.length cu Y.us Y.co, rfl, by rw [HR3.out, hbb]; exact ⟨_, rfl, S5.out.mono (by omega)⟩, by rw [hbb]; exact B5.out⟩
set_option maxRecDepth 10000 in
set_option maxHeartbeats 4000000 in
theorem grantAsk_any (v : Value) (L : List Gr) (a : Aq) (now : Int) (B : Nat) (w : World) (hs : SliceG w B v L) (hn : L.length ≤ 1048576) (h1 : a.tp.size ≤ 1048576) (h2 : a.si.size ≤ 1048576) :
    Calls Try.prog 13 #[v, aqV a, .int .i64 now] w fun e w' => ∃ v', e = .returned v' ∧ AnsG w' w.heap.size v' (askG L a now) ∧ Below w.heap.size w w' := by
  have KJ0 : ∀ W, Below w.heap.size w W → Calls Try.prog 55 #[v, aqV a, .int .i64 now] W fun e w' => ∃ vd, e = .returned (verdV vd) ∧ TellG w' W.heap.size vd (askG L a now) ∧ Below W.heap.size W w' := fun W hb => judge_any v L a now B W (hs.below hb) hn h1 h2
  clear hs h1 h2
  generalize askG L a now = Z at *
  obtain ⟨tp, si, tc, sa, re, ye⟩ := a
  unfold aqV at *
  dsimp only at *
  have KJ : Hid (∀ W, Below w.heap.size w W → Calls Try.prog 55 #[v, .agg #[.string tp, .string si, .bool tc, .bool sa, .bool re, .bool ye], .int .i64 now] W fun e w' => ∃ vd, e = .returned (verdV vd) ∧ TellG w' W.heap.size vd Z ∧ Below W.heap.size W w') := KJ0
  clear KJ0
  obtain ⟨W0, hW⟩ : ∃ W0, W0 = (w.alloc (.cells #[.string tp, .string si, .bool tc, .bool sa, .bool re, .bool ye] 30)).alloc (.cells #[.slice none 0 0, .bool false, .int .i64 0] 27) := ⟨_, rfl⟩
  have hW0 : Hid (W0 = (w.alloc (.cells #[.string tp, .string si, .bool tc, .bool sa, .bool re, .bool ye] 30)).alloc (.cells #[.slice none 0 0, .bool false, .int .i64 0] 27)) := hW
  have B0 : Hid (Below w.heap.size w W0) := by show Below _ _ _; rw [hW]; exact ((Below.refl _ _).alloc (Nat.le_refl _) _).alloc (by simp) _
  have X0 : Hid (BoxG W0 (w.heap.size + 1)) := by
    show BoxG _ _
    rw [hW]
    have := boxG_made (w.alloc (.cells #[.string tp, .string si, .bool tc, .bool sa, .bool re, .bool ye] 30)) 27
    simpa using this
  have a0 : W0.cell? ⟨w.heap.size, 0, none⟩ = some (.string tp) := by rw [hW]; simp
  have a1 : W0.cell? ⟨w.heap.size, 1, none⟩ = some (.string si) := by rw [hW]; simp
  have a2 : W0.cell? ⟨w.heap.size, 2, none⟩ = some (.bool tc) := by rw [hW]; simp
  have a3 : W0.cell? ⟨w.heap.size, 3, none⟩ = some (.bool sa) := by rw [hW]; simp
  have a4 : W0.cell? ⟨w.heap.size, 4, none⟩ = some (.bool re) := by rw [hW]; simp
  have a5 : W0.cell? ⟨w.heap.size, 5, none⟩ = some (.bool ye) := by rw [hW]; simp
  have z0 : w.heap.size + 1 < W0.heap.size := by rw [hW]; simp
  clear hW
  go_enter Try.func13, Try.ntmps13
  go_upto_region 1 with fail
  rw [← hW0.out]
  clear hW0
  generalize hbb : w.heap.size = b at *
  go_wp2_with fail
  refine (KJ.out _ B0.out).mono ?_
  rintro e w1 ⟨vd, rfl, ht1, hb1⟩
  have T1 : Hid (TellG w1 W0.heap.size vd Z) := ht1
  have X1 : Hid (BoxG w1 (b + 1)) := X0.out.below hb1
  have B1 : Hid (Below b w w1) := B0.out.trans (hb1.mono (by omega))
  have z1 : b + 1 < w1.heap.size := Nat.lt_of_lt_of_le z0 hb1.size
  have KT : Hid (∀ W, Calls Try.prog 54 #[verdV vd] W fun e w' => e = .returned (toldV vd) ∧ Below W.heap.size W w') := fun W => told_any vd W
  clear ht1 hb1 X0 B0 a0 a1 a2 a3 a4 a5 KJ
  unfold TellG at T1
  generalize toldV vd = tv at *
  generalize verdV vd = vv at *
  go_wp2_with fail
  refine (KT.out _).mono ?_
  rintro e w2 ⟨rfl, hb2⟩
  have T2 : Hid (AnsG w2 W0.heap.size tv Z) := AnsG.below T1.out hb2
  obtain ⟨x0, x1, x2, f0, f1, f2, hlt⟩ := X1.out.below hb2
  have B2 : Hid (Below b w w2) := B1.out.trans (hb2.mono (by omega))
  clear hb2 T1 X1 B1 KT
  obtain ⟨s2, hv2, hs2⟩ := T2.out
  have S2 : Hid (SliceG w2 W0.heap.size s2 Z.ar) := hs2
  obtain ⟨pq, cq, hu2⟩ : ∃ pq cq, s2 = .slice pq Z.ar.length cq := by obtain ⟨⟨p, c, e, -⟩, -⟩ := hs2; exact ⟨p, c, e⟩
  clear hs2 T2
  subst hu2 hv2
  obtain ⟨za, zu, zc⟩ := Z
  dsimp only at *
  generalize hm : za.length = m at *
  go_wp2
  refine bodyPost_ret (v := .agg #[.slice pq m cq, .bool zu, .int .i64 zc]) (by simp [results, Try.results13, go_sem, x0, x1, x2]) rfl ⟨_, rfl, ⟨_, rfl, by rw [hbb]; exact (S2.out.store3 z0).mono (by omega)⟩, by rw [hbb]; exact B2.out.trans ((store3G_below (Below.refl (b + 1) w2)).mono (by omega))⟩
end Go.Proofs.Ytecaeolgheefmaa

/- What the laws do with a Ask besides their calls: its size is looked at, it is handed on field by field, two are held against each other. -/
namespace Go.Proofs.Ytecaeolgheefmaa
open Go.RowKit

set_option maxRecDepth 10000 in
set_option maxHeartbeats 1000000 in
theorem szAsk_at (x0 : ByteArray) (x1 : ByteArray) (x2 : Bool) (x3 : Bool) (x4 : Bool) (x5 : Bool) (l : Int) (w : World) (h0 : x0.size ≤ maxLen) (h1 : x1.size ≤ maxLen) (l0 : 0 ≤ l) (l1 : l ≤ 1048576) :
    Calls Try.prog 37 #[.agg #[.string x0, .string x1, .bool x2, .bool x3, .bool x4, .bool x5], .int .i64 l] w fun e w' => (∃ r : Int, e = .returned (.int .i64 r) ∧ (r < 0 ∨ (0 ≤ r ∧ r ≤ 1048576 ∧ x0.size + x1.size ≤ 1048576))) ∧ Below w.heap.size w w' := by
  unfold maxLen at h0 h1
  by_cases c0 : l < x0.size
  · have q0 : l - (x0.size : Int) < 0 := by omega
    go_enter Try.func37, Try.ntmps37
    go_wp2
    go_ret
    exact ⟨⟨-1, rfl, .inl (by omega)⟩, (Below.refl _ _).alloc (Nat.le_refl _) _⟩
  have q0 : decide (l - (x0.size : Int) < 0) = false := by rw [decide_eq_false_iff_not]; omega
  by_cases c1 : l < x0.size + x1.size
  · have q1 : l - (x0.size : Int) - (x1.size : Int) < 0 := by omega
    go_enter Try.func37, Try.ntmps37
    go_wp2
    go_ret
    exact ⟨⟨-1, rfl, .inl (by omega)⟩, (Below.refl _ _).alloc (Nat.le_refl _) _⟩
  have q1 : decide (l - (x0.size : Int) - (x1.size : Int) < 0) = false := by rw [decide_eq_false_iff_not]; omega
  go_enter Try.func37, Try.ntmps37
  go_wp2
  go_ret
  exact ⟨⟨l - (x0.size : Int) - (x1.size : Int), rfl, .inr ⟨by omega, by omega, by omega⟩⟩, (Below.refl _ _).alloc (Nat.le_refl _) _⟩
set_option maxRecDepth 10000 in
set_option maxHeartbeats 1000000 in
theorem toAsk_any (x0 : ByteArray) (x1 : ByteArray) (x2 : Bool) (x3 : Bool) (x4 : Bool) (x5 : Bool) (w : World) :
    Calls Try.prog 38 #[.agg #[.string x0, .string x1, .bool x2, .bool x3, .bool x4, .bool x5]] w fun e w' => e = .returned (.agg #[.string x0, .string x1, .bool x2, .bool x3, .bool x4, .bool x5]) ∧ Below w.heap.size w w' := by
  go_enter Try.func38, Try.ntmps38
  go_wp2
  exact bodyPost_ret (v := .agg #[.string x0, .string x1, .bool x2, .bool x3, .bool x4, .bool x5]) (by simp [results, Try.results38, go_sem]) rfl ⟨rfl, (((Below.refl _ _).alloc (Nat.le_refl _) _).alloc (by simp) _).alloc (by simp; omega) _⟩
end Go.Proofs.Ytecaeolgheefmaa

/- A struct of 6 one-cell fields, by value, opened. -/
namespace Go.Proofs.Ytecaeolgheefmaa
open Go.ChangeShapes Go.WideShapes Go.ChangeAt Go.RowKit Go.Joins Go.Deep

theorem array6 {α : Type} {cs : Array α} (h : cs.size = 6) : ∃ c0 c1 c2 c3 c4 c5, cs = #[c0, c1, c2, c3, c4, c5] := by
  obtain ⟨l⟩ := cs
  match l, h with
  | [c0, c1, c2, c3, c4, c5], _ => exact ⟨c0, c1, c2, c3, c4, c5, rfl⟩
theorem trod_struct6 {H : Type} {enc : TypeId × Value → H} {P : Program} {w : World} {base : Nat} {spare : Nat → Bool} {held : Bool} {t : TypeId} {f0 f1 f2 f3 f4 f5 : Field} {fuel : Nat} {cs : List Value} {x : DataW H × List MemPlace} (ht : P.underlying t = some (.struct #[f0, f1, f2, f3, f4, f5])) (h : DataW.trod enc P w base spare held fuel t cs = some x) :
    ∃ (y0 y1 y2 y3 y4 y5 : DataW H × List MemPlace) (n : Nat), DataW.trod enc P w base spare held n f0.type ((cs.drop f0.offset).take (P.cellsOf f0.type)) = some y0 ∧ DataW.trod enc P w base spare held n f1.type ((cs.drop f1.offset).take (P.cellsOf f1.type)) = some y1 ∧ DataW.trod enc P w base spare held n f2.type ((cs.drop f2.offset).take (P.cellsOf f2.type)) = some y2 ∧ DataW.trod enc P w base spare held n f3.type ((cs.drop f3.offset).take (P.cellsOf f3.type)) = some y3 ∧ DataW.trod enc P w base spare held n f4.type ((cs.drop f4.offset).take (P.cellsOf f4.type)) = some y4 ∧ DataW.trod enc P w base spare held n f5.type ((cs.drop f5.offset).take (P.cellsOf f5.type)) = some y5 := by
  obtain ⟨xs, n, _, rfl, hl, hlen, hf⟩ := DataW.trod_struct ht h
  match xs, hlen with
  | [y0, y1, y2, y3, y4, y5], _ => exact ⟨y0, y1, y2, y3, y4, y5, n, by simpa using hf 0 f0 rfl, by simpa using hf 1 f1 rfl, by simpa using hf 2 f2 rfl, by simpa using hf 3 f3 rfl, by simpa using hf 4 f4 rfl, by simpa using hf 5 f5 rfl⟩
theorem open_agg6 {H : Type} {enc : TypeId × Value → H} {P : Program} {w : World} {base : Nat} {spare : Nat → Bool} {held : Bool} {r : Reach} {b0 : Nat} {t : TypeId} {f0 f1 f2 f3 f4 f5 : Field} {v : Value} {d : DataW H} {p : List MemPlace} (hs : P.underlying t = some (.struct #[f0, f1, f2, f3, f4, f5])) (hone : oneCellFields P #[f0, f1, f2, f3, f4, f5] = true) (hC : P.cellsOf t = 6)
    (hv : Value.okWide P w r b0 t v) (h : DataW.Trod enc P w base spare held t v d p) :
    ∃ (c0 c1 c2 c3 c4 c5 : Value) (y0 y1 y2 y3 y4 y5 : DataW H × List MemPlace) (n : Nat), v = .agg #[c0, c1, c2, c3, c4, c5] ∧ DataW.trod enc P w base spare held n f0.type [c0] = some y0 ∧ DataW.trod enc P w base spare held n f1.type [c1] = some y1 ∧ DataW.trod enc P w base spare held n f2.type [c2] = some y2 ∧ DataW.trod enc P w base spare held n f3.type [c3] = some y3 ∧ DataW.trod enc P w base spare held n f4.type [c4] = some y4 ∧ DataW.trod enc P w base spare held n f5.type [c5] = some y5 := by
  obtain ⟨cs, rfl, hsz⟩ := okWide_struct hs hv
  obtain ⟨c0, c1, c2, c3, c4, c5, rfl⟩ := array6 (hsz.trans hC)
  obtain ⟨fuel, hf⟩ := h
  obtain ⟨y0, y1, y2, y3, y4, y5, n, h0, h1, h2, h3, h4, h5⟩ := trod_struct6 hs hf
  obtain ⟨o0, k0⟩ := hone_of hone 0 f0 rfl
  obtain ⟨o1, k1⟩ := hone_of hone 1 f1 rfl
  obtain ⟨o2, k2⟩ := hone_of hone 2 f2 rfl
  obtain ⟨o3, k3⟩ := hone_of hone 3 f3 rfl
  obtain ⟨o4, k4⟩ := hone_of hone 4 f4 rfl
  obtain ⟨o5, k5⟩ := hone_of hone 5 f5 rfl
  exact ⟨c0, c1, c2, c3, c4, c5, y0, y1, y2, y3, y4, y5, n, rfl, by simpa [Value.cells, o0, k0] using h0, by simpa [Value.cells, o1, k1] using h1, by simpa [Value.cells, o2, k2] using h2, by simpa [Value.cells, o3, k3] using h3, by simpa [Value.cells, o4, k4] using h4, by simpa [Value.cells, o5, k5] using h5⟩
end Go.Proofs.Ytecaeolgheefmaa

/- The laws' markGrantS and heldGrantS over slices of grants. Written by rowsmark.py. -/
namespace Go.Proofs.Ytecaeolgheefmaa
open Go.RowKit

/-- the mark of a cell, of one whose first number is z -/
def markGrZ (z o : Nat) : Value := if o = 0 then .string (markT (z + 0)) else if o = 1 then .string (markT (z + 1)) else .int .i64 ((z : Int) + 1 + 1)
def markGrC (q j o : Nat) : Value := markGrZ (q + j * 3) o
def markedG (f : Nat → Nat → Value) (q k j o : Nat) : Value := if j < k then markGrC q j o else f j o
theorem SliceR.atGr {w : World} {B n m g cap : Nat} {f : Nat → Nat → Value} (hs : SliceR w B 3 (.slice (some ⟨g, 0, none⟩) m cap) n f) (k : Nat) (hk : k < n) : ∀ o, o < 3 → w.cell? ⟨g, k * 3 + o, none⟩ = some (f k o) ∧ w.frozen? ⟨g, k * 3 + o, none⟩ = false := by
  obtain ⟨p', cap', e, hh⟩ := hs
  injection e with e1
  obtain ⟨g', e2, -, -, hc⟩ := hh (by omega)
  rw [e2] at e1
  injection e1 with e1
  injection e1 with e1
  subst e1
  exact hc k hk
set_option maxRecDepth 10000 in
set_option maxHeartbeats 8000000 in
theorem markGrantS_any (a : Value) (n B q : Nat) (f : Nat → Nat → Value) (w : World) (ha : SliceR w B 3 a n f) (hn : n ≤ 1048576) (hq : 0 < q) (hq2 : q ≤ 20971520) :
    Calls Try.prog 33 #[a, .int .i64 (q : Int)] w fun e w' => e = .returned (.int .i64 ((q + n * 3 : Nat) : Int)) ∧ SliceR w' B 3 a n (markGrC q) ∧ (∀ G, (0 < n → a.ownBlock = some G) → w.grownBy w' (some G)) := by
  have HA : Hid (SliceR w B 3 a n f) := ha
  obtain ⟨p, cap, rfl, h1⟩ := ha
  have HG : Hid (0 < n → ∃ g, p = some ⟨g, 0, none⟩ ∧ B ≤ g ∧ g < w.heap.size) := fun h => by
    obtain ⟨g, e, h2, h3, -⟩ := h1 h
    exact ⟨g, e, h2, h3⟩
  clear h1
  have HM : Hid (∀ (m : Nat) (W : World), 0 < m → m ≤ 9223372036854775807 → Calls Try.prog 72 #[.int .i64 (m : Int)] W fun e w' => e = .returned (.string (markT m)) ∧ Below W.heap.size W w') := fun m W h1 h2 => markText_any m W h1 h2
  go_enter Try.func33, Try.ntmps33
  go_wp2
  go_loopw [1, 5] (fun kk i wr => ∃ k : Nat, k ≤ n ∧ i = .int .i64 k ∧ kk = .int .i64 ((q + k * 3 : Nat) : Int) ∧ Hid (SliceR wr B 3 (.slice p n cap) n (markedG f q k)) ∧ Hid (∀ G, (0 < n → (Value.slice p n cap).ownBlock = some G) → w.grownBy wr (some G))) (fun _ i _ => n - (intOf i).toNat)
  case atStart => exact ⟨0, by omega, rfl, by go_num, HA, fun _ _ => ⟨rfl, rfl, rfl, Nat.le_refl _, fun _ _ _ => rfl⟩⟩
  case round =>
    obtain ⟨k, hk, rfl, rfl, HR, HB⟩ := hrel
    by_cases hlt : k < n
    · obtain ⟨g, rfl, hBg, hgw⟩ := HG.out (by omega)
      have k0 : (0 : Int) ≤ k := by omega
      have k1 : (k : Int) < n := by omega
      have B0 : Hid (w.grownBy wr (some g)) := HB.out g (fun _ => rfl)
      have hzb : q + k * 3 ≤ 50000000 := by omega
      have hz0 : 0 < q + k * 3 := by omega
      have HEnd : Hid (∀ w', SliceR w' B 3 (.slice (some ⟨g, 0, none⟩) n cap) n (fun j o => if j = k then markGrZ (q + k * 3) o else markedG f q k j o) → SliceR w' B 3 (.slice (some ⟨g, 0, none⟩) n cap) n (markedG f q (k + 1))) := fun w' h => SliceR.congr h (fun j hj o ho => by
        unfold markedG markGrC
        by_cases e : j = k
        · subst e; rw [if_pos rfl, if_pos (by omega)]
        · rw [if_neg e]
          by_cases h : j < k
          · rw [if_pos h, if_pos (by omega)]
          · rw [if_neg h, if_neg (by omega)])
      have hnx : ((q + k * 3 : Nat) : Int) + 3 = ((q + (k + 1) * 3 : Nat) : Int) := by omega
      have HNX : Hid (((q + k * 3 : Nat) : Int) + 3 = ((q + (k + 1) * 3 : Nat) : Int)) := hnx
      clear hnx
      generalize markedG f q k = fm at *
      generalize q + k * 3 = zn at *
      have HN0 : Hid (∀ W, Calls Try.prog 72 #[.int .i64 ((zn : Int))] W fun e w' => e = .returned (.string (markT (zn + 0))) ∧ Below W.heap.size W w') := fun W => by
        have h := HM.out (zn + 0) W (by omega) (by omega)
        have e : ((zn + 0 : Nat) : Int) = (zn : Int) := by omega
        rw [e] at h; exact h
      have HN1 : Hid (∀ W, Calls Try.prog 72 #[.int .i64 ((zn : Int) + 1)] W fun e w' => e = .returned (.string (markT (zn + 1))) ∧ Below W.heap.size W w') := fun W => by
        have h := HM.out (zn + 1) W (by omega) (by omega)
        have e : ((zn + 1 : Nat) : Int) = (zn : Int) + 1 := by omega
        rw [e] at h; exact h
      have X0 : Hid (SliceR wr B 3 (.slice (some ⟨g, 0, none⟩) n cap) n fm) := HR
      clear HM HR HB
      go_wp2_with fail
      refine (HN0.out _).mono ?_
      rintro e u1 ⟨rfl, hb1⟩
      have S1 : Hid (SliceR u1 B 3 (.slice (some ⟨g, 0, none⟩) n cap) n fm) := SliceR.below (X0.out) hb1
      have G1 : Hid (w.grownBy u1 (some g)) := grownG_below (B0.out) hb1
      clear hb1
      have hx0 := (SliceR.atGr S1.out k hlt 0 (by omega)).1
      have hf0 := (SliceR.atGr S1.out k hlt 0 (by omega)).2
      rw [Nat.add_zero] at hx0 hf0
      generalize fm k 0 = y0 at hx0
      go_wp2_with fail
      refine (HN1.out _).mono ?_
      rintro e u2 ⟨rfl, hb2⟩
      have S2 : Hid (SliceR u2 B 3 (.slice (some ⟨g, 0, none⟩) n cap) n (updR fm k 0 (.string (markT (zn + 0))))) := SliceR.below (SliceR.set (S1.out) k 0 hlt (by omega) (.string (markT (zn + 0)))) hb2
      have G2 : Hid (w.grownBy u2 (some g)) := grownG_below (grownG_set (G1.out) (k * 3 + 0) (.string (markT (zn + 0)))) hb2
      clear hb2 hx0 hf0
      have hx1 := (SliceR.atGr S2.out k hlt 1 (by omega)).1
      have hf1 := (SliceR.atGr S2.out k hlt 1 (by omega)).2
      generalize (updR fm k 0 (.string (markT (zn + 0)))) k 1 = y1 at hx1
      have hx2 := (SliceR.atGr S2.out k hlt 2 (by omega)).1
      have hf2 := (SliceR.atGr S2.out k hlt 2 (by omega)).2
      generalize (updR fm k 0 (.string (markT (zn + 0)))) k 2 = y2 at hx2
      go_wp2
      go_roundw
      case rel =>
        refine ⟨k + 1, by omega, by go_num, val_int (by have := HNX.out; omega), ?_, ?_⟩
        · refine HEnd.out _ (SliceR.congr (SliceR.set (SliceR.set (S2.out) k 1 hlt (by omega) (.string (markT (zn + 1)))) k 2 hlt (by omega) (.int .i64 ((zn : Int) + 1 + 1))) (fun j hj o ho => ?_))
          by_cases e : j = k
          · subst e
            rw [if_pos rfl]
            match o, ho with
            | 0, _ => simp [updR, markGrZ]
            | 1, _ => simp [updR, markGrZ]
            | 2, _ => simp [updR, markGrZ]
          · simp [updR, e]
        · intro G hG
          obtain rfl : g = G := Option.some.inj (hG (by omega))
          exact grownG_set (grownG_set (G2.out) (k * 3 + 1) (.string (markT (zn + 1)))) (k * 3 + 2) (.int .i64 ((zn : Int) + 1 + 1))
      case measure => simp [intOf]; omega
    · obtain rfl : k = n := by omega
      have HS : Hid (SliceR wr B 3 (.slice p k cap) k (markGrC q)) := SliceR.congr HR.out (fun j hj o ho => by unfold markedG; rw [if_pos hj])
      go_wp2
      go_ret
      exact ⟨rfl, HS.out, HB.out⟩
set_option maxRecDepth 10000 in
set_option maxHeartbeats 8000000 in
theorem heldGrantS_any (a : Value) (n B q : Nat) (w : World) (ha : SliceR w B 3 a n (markGrC q)) (hn : n ≤ 1048576) (hq : 0 < q) (hq2 : q ≤ 20971520) :
    Calls Try.prog 36 #[a, .int .i64 (q : Int)] w fun e w' => e = .returned (.int .i64 ((q + n * 3 : Nat) : Int)) ∧ Below w.heap.size w w' := by
  obtain ⟨p, cap, rfl, h1⟩ := ha
  have HG : Hid (0 < n → ∃ g, p = some ⟨g, 0, none⟩ ∧ B ≤ g ∧ g < w.heap.size ∧ ∀ j, j < n → ∀ o, o < 3 → w.cell? ⟨g, j * 3 + o, none⟩ = some (markGrC q j o) ∧ w.frozen? ⟨g, j * 3 + o, none⟩ = false) := h1
  clear h1
  have HM : Hid (∀ (m : Nat) (W : World), 0 < m → m ≤ 9223372036854775807 → Calls Try.prog 72 #[.int .i64 (m : Int)] W fun e w' => e = .returned (.string (markT m)) ∧ Below W.heap.size W w') := fun m W h1 h2 => markText_any m W h1 h2
  go_enter Try.func36, Try.ntmps36
  go_wp2
  go_loopw [1, 4, 5] (fun kk r i wr => ∃ k : Nat, k ≤ n ∧ i = .int .i64 k ∧ kk = .int .i64 ((q + k * 3 : Nat) : Int) ∧ Hid (Below w.heap.size w wr)) (fun _ _ i _ => n - (intOf i).toNat)
  case atStart => exact ⟨0, by omega, rfl, by go_num, Below.refl _ _⟩
  case round =>
    obtain ⟨k, hk, rfl, rfl, HB⟩ := hrel
    by_cases hlt : k < n
    · obtain ⟨g, rfl, -, hg, hc⟩ := HG.out (by omega)
      have k0 : (0 : Int) ≤ k := by omega
      have k1 : (k : Int) < n := by omega
      have hgr : g < wr.heap.size := Nat.lt_of_lt_of_le hg HB.out.size
      have hzb : q + k * 3 ≤ 50000000 := by omega
      have hz0 : 0 < q + k * 3 := by omega
      have hx : ∀ o, o < 3 → wr.cell? ⟨g, k * 3 + o, none⟩ = some (markGrZ (q + k * 3) o) := fun o ho => by rw [(bcell HB.out).1 _ _ hg]; exact (hc k hlt o ho).1
      have HNX : Hid (((q + k * 3 : Nat) : Int) + 3 = ((q + (k + 1) * 3 : Nat) : Int)) := by show _ = _; omega
      clear hc
      generalize q + k * 3 = zn at *
      have c0 : wr.cell? ⟨g, k * 3, none⟩ = some (.string (markT (zn + 0))) := hx 0 (by omega)
      have c1 : wr.cell? ⟨g, k * 3 + 1, none⟩ = some (.string (markT (zn + 1))) := hx 1 (by omega)
      have c2 : wr.cell? ⟨g, k * 3 + 2, none⟩ = some (.int .i64 ((zn : Int) + 1 + 1)) := hx 2 (by omega)
      have HN0 : Hid (∀ W, Calls Try.prog 72 #[.int .i64 ((zn : Int))] W fun e w' => e = .returned (.string (markT (zn + 0))) ∧ Below W.heap.size W w') := fun W => by
        have h := HM.out (zn + 0) W (by omega) (by omega)
        have e : ((zn + 0 : Nat) : Int) = (zn : Int) := by omega
        rw [e] at h; exact h
      have HN1 : Hid (∀ W, Calls Try.prog 72 #[.int .i64 ((zn : Int) + 1)] W fun e w' => e = .returned (.string (markT (zn + 1))) ∧ Below W.heap.size W w') := fun W => by
        have h := HM.out (zn + 1) W (by omega) (by omega)
        have e : ((zn + 1 : Nat) : Int) = (zn : Int) + 1 := by omega
        rw [e] at h; exact h
      generalize markT (zn + 0) = t0 at *
      generalize markT (zn + 1) = t1 at *
      clear hx HM
      go_wp2_with fail
      go_region_held3 (fun w' => w'.cell? ⟨g, k * 3, none⟩ = some (.string t0) ∧ w'.cell? ⟨g, k * 3 + 1, none⟩ = some (.string t1) ∧ w'.cell? ⟨g, k * 3 + 2, none⟩ = some (.int .i64 ((zn : Int) + 1 + 1))) (go_keep)
        (first | (go_at_call 72; refine (HN0.out _).mono ?_; rintro e u1 ⟨rfl, hb1⟩; have A1 : Below wr.heap.size wr u1 := (Below.drew (Below.refl _ _)).trans hb1; have g1 : g < u1.heap.size := Nat.lt_of_lt_of_le hgr A1.size; have E1 : Hid (Below w.heap.size w u1) := HB.out.trans (A1.mono HB.out.size); have d1_0 : u1.cell? ⟨g, k * 3, none⟩ = some (.string t0) := ((bcell A1).1 _ _ hgr).trans c0; have d1_1 : u1.cell? ⟨g, k * 3 + 1, none⟩ = some (.string t1) := ((bcell A1).1 _ _ hgr).trans c1; have d1_2 : u1.cell? ⟨g, k * 3 + 2, none⟩ = some (.int .i64 ((zn : Int) + 1 + 1)) := ((bcell A1).1 _ _ hgr).trans c2))
      clear hb1 A1 c0 c1 c2
      go_wp2_with fail
      go_region_held3 (fun w' => w'.cell? ⟨g, k * 3 + 1, none⟩ = some (.string t1) ∧ w'.cell? ⟨g, k * 3 + 2, none⟩ = some (.int .i64 ((zn : Int) + 1 + 1))) (go_keep)
        (first | (go_at_call 72; refine (HN1.out _).mono ?_; rintro e u2 ⟨rfl, hb2⟩; have A2 : Below u1.heap.size u1 u2 := (Below.drew (Below.refl _ _)).trans hb2; have g2 : g < u2.heap.size := Nat.lt_of_lt_of_le g1 A2.size; have E2 : Hid (Below w.heap.size w u2) := E1.out.trans (A2.mono E1.out.size); have d2_1 : u2.cell? ⟨g, k * 3 + 1, none⟩ = some (.string t1) := ((bcell A2).1 _ _ g1).trans d1_1; have d2_2 : u2.cell? ⟨g, k * 3 + 2, none⟩ = some (.int .i64 ((zn : Int) + 1 + 1)) := ((bcell A2).1 _ _ g1).trans d1_2))
      clear hb2 A2 d1_0 d1_1 d1_2
      go_wp2
      go_roundw
      case rel => exact ⟨k + 1, by omega, by go_num, val_int (by have := HNX.out; omega), E2⟩
      case measure => simp [intOf]; omega
    · obtain rfl : k = n := by omega
      go_wp2
      go_ret
      exact ⟨rfl, HB.out⟩
end Go.Proofs.Ytecaeolgheefmaa

/- Slices of grants while others are marked. -/
namespace Go.Proofs.Ytecaeolgheefmaa
open Go.RowKit

theorem SliceG.keepG {w w' : World} {B G : Nat} {v : Value} {L : List Gr} (h : SliceG w B v L) (hg : w.grownBy w' (some G)) (hne : 0 < L.length → ∃ g, v.ownBlock = some g ∧ g ≠ G) : SliceG w' B v L := ⟨h.1.keepG hg hne, h.2⟩
theorem markG_call (a : Value) (L : List Gr) (B : Nat) (w : World) (ha : SliceG w B a L) (hB : B ≤ w.heap.size) (hn : L.length ≤ 1048576) :
    Calls Try.prog 33 #[a, .int .i64 1] w fun e w' => e = .returned (.int .i64 ((1 + L.length * 3 : Nat) : Int)) ∧ SliceR w' B 3 a L.length (markGrC 1) ∧ ∃ G, B ≤ G ∧ (0 < L.length → a.ownBlock = some G) ∧ (¬ 0 < L.length → w.heap.size ≤ G) ∧ w.grownBy w' (some G) := by
  refine (markGrantS_any a L.length B 1 _ w ha.1 hn (by decide) (by decide)).mono ?_
  rintro e w' ⟨rfl, h2, h3⟩
  refine ⟨rfl, h2, ?_⟩
  by_cases h0 : 0 < L.length
  · obtain ⟨g, e, hBg, -⟩ := ha.1.place h0
    exact ⟨g, hBg, fun _ => e, fun h => absurd h0 h, h3 g (fun _ => e)⟩
  · exact ⟨w.heap.size, hB, fun h => absurd h h0, fun _ => Nat.le_refl _, h3 _ (fun h => absurd h h0)⟩
end Go.Proofs.Ytecaeolgheefmaa

/- The laws' eqGrantOut, markGrantOut, heldGrantOut; an answer in its box. -/
namespace Go.Proofs.Ytecaeolgheefmaa
open Go.RowKit

set_option maxRecDepth 10000 in
set_option maxHeartbeats 4000000 in
theorem eqGO_any (a b : Value) (Z : GO) (B B' : Nat) (w : World) (ha : SliceG w B a Z.ar) (hb : SliceG w B' b Z.ar) (hn : Z.ar.length ≤ 1048576) :
    Calls Try.prog 32 #[.agg #[a, .bool Z.us, .int .i64 Z.co], .agg #[b, .bool Z.us, .int .i64 Z.co]] w fun e w' => e = .returned (.bool true) ∧ Below w.heap.size w w' := by
  have KE : Hid (∀ W, Below w.heap.size w W → Calls Try.prog 31 #[a, b] W fun e w' => e = .returned (.bool true) ∧ Below W.heap.size W w') := fun W h => eqGrantS_any a b Z.ar B B' W (ha.below h) (hb.below h) hn
  obtain ⟨p, ca, hva⟩ : ∃ p ca, a = .slice p Z.ar.length ca := by obtain ⟨⟨p, cap, e, -⟩, -⟩ := ha; exact ⟨p, cap, e⟩
  obtain ⟨q, cb, hvb⟩ : ∃ q cb, b = .slice q Z.ar.length cb := by obtain ⟨⟨p, cap, e, -⟩, -⟩ := hb; exact ⟨p, cap, e⟩
  clear ha hb
  generalize Z.ar.length = m at *
  obtain ⟨za, zv, zc⟩ := Z
  dsimp only at *
  subst hva hvb
  obtain ⟨W0, hW⟩ : ∃ W0, W0 = (w.alloc (.cells #[.slice p m ca, .bool zv, .int .i64 zc] 27)).alloc (.cells #[.slice q m cb, .bool zv, .int .i64 zc] 27) := ⟨_, rfl⟩
  have hW0 : Hid (W0 = (w.alloc (.cells #[.slice p m ca, .bool zv, .int .i64 zc] 27)).alloc (.cells #[.slice q m cb, .bool zv, .int .i64 zc] 27)) := hW
  have B0 : Hid (Below w.heap.size w W0) := by
    show Below _ _ _
    rw [hW]; exact ((Below.refl _ _).alloc (Nat.le_refl _) _).alloc (by simp) _
  have c0 : W0.cell? ⟨w.heap.size, 0, none⟩ = some (.slice p m ca) := by rw [hW]; simp
  have c1 : W0.cell? ⟨w.heap.size, 1, none⟩ = some (.bool zv) := by rw [hW]; simp
  have c2 : W0.cell? ⟨w.heap.size, 2, none⟩ = some (.int .i64 zc) := by rw [hW]; simp
  have d0 : W0.cell? ⟨w.heap.size + 1, 0, none⟩ = some (.slice q m cb) := by rw [hW]; exact (World.cell?_alloc_at _ _ _ _ (by simp)).trans rfl
  have d1 : W0.cell? ⟨w.heap.size + 1, 1, none⟩ = some (.bool zv) := by rw [hW]; exact (World.cell?_alloc_at _ _ _ _ (by simp)).trans rfl
  have d2 : W0.cell? ⟨w.heap.size + 1, 2, none⟩ = some (.int .i64 zc) := by rw [hW]; exact (World.cell?_alloc_at _ _ _ _ (by simp)).trans rfl
  have z1 : w.heap.size + 1 < W0.heap.size := by rw [hW]; simp
  clear hW
  go_enter Try.func32, Try.ntmps32
  go_upto_region 1 with fail
  rw [← hW0.out]
  clear hW0
  generalize hbb : w.heap.size = b at *
  have z0 : b < W0.heap.size := by omega
  go_wp2_with fail
  refine (KE.out _ B0.out).mono ?_
  rintro e w1 ⟨rfl, hb1⟩
  have e1 : w1.cell? ⟨b, 1, none⟩ = some (.bool zv) := ((bcell hb1).1 _ _ z0).trans c1
  have e2 : w1.cell? ⟨b, 2, none⟩ = some (.int .i64 zc) := ((bcell hb1).1 _ _ z0).trans c2
  have f1 : w1.cell? ⟨b + 1, 1, none⟩ = some (.bool zv) := ((bcell hb1).1 _ _ z1).trans d1
  have f2 : w1.cell? ⟨b + 1, 2, none⟩ = some (.int .i64 zc) := ((bcell hb1).1 _ _ z1).trans d2
  have B1 : Hid (Below b w w1) := B0.out.trans (hb1.mono (by omega))
  clear hb1
  go_wp2
  go_ret
  exact ⟨rfl, by rw [hbb]; exact B1.out⟩
set_option maxRecDepth 10000 in
set_option maxHeartbeats 4000000 in
theorem markGO_call (a : Value) (zv : Bool) (zc : Int) (L : List Gr) (B : Nat) (w : World) (ha : SliceG w B a L) (hB : B ≤ w.heap.size) (hn : L.length ≤ 1048576) :
    Calls Try.prog 34 #[.agg #[a, .bool zv, .int .i64 zc], .int .i64 1] w fun e w' => e = .returned (.int .i64 ((1 + L.length * 3 : Nat) : Int)) ∧ SliceR w' B 3 a L.length (markGrC 1) ∧ ∃ G, B ≤ G ∧ (0 < L.length → a.ownBlock = some G) ∧ (¬ 0 < L.length → w.heap.size ≤ G) ∧ w.grownBy w' (some G) := by
  obtain ⟨p, ca, hva⟩ : ∃ p ca, a = .slice p L.length ca := by obtain ⟨⟨p, cap, e, -⟩, -⟩ := ha; exact ⟨p, cap, e⟩
  have KM : Hid (∀ W, Below w.heap.size w W → Calls Try.prog 33 #[a, .int .i64 1] W fun e w' => e = .returned (.int .i64 ((1 + L.length * 3 : Nat) : Int)) ∧ SliceR w' B 3 a L.length (markGrC 1) ∧ ∃ G, B ≤ G ∧ (0 < L.length → a.ownBlock = some G) ∧ (¬ 0 < L.length → W.heap.size ≤ G) ∧ W.grownBy w' (some G)) := fun W hb => markG_call a L B W (ha.below hb) (Nat.le_trans hB hb.size) hn
  clear ha
  have hq : Hid (((1 + L.length * 3 : Nat) : Int) = ((1 + L.length * 3 : Nat) : Int)) := rfl
  generalize hm : ((1 + L.length * 3 : Nat) : Int) = mq at *
  subst hva
  go_enter Try.func34, Try.ntmps34
  go_wp2_with fail
  refine (KM.out _ ((Below.refl _ _).alloc (Nat.le_refl _) _)).mono ?_
  rintro e w1 ⟨rfl, hr, G, h1, h2, h3, hg⟩
  have HF : Hid (SliceR w1 B 3 (.slice p L.length ca) L.length (markGrC 1) ∧ ∃ G, B ≤ G ∧ (0 < L.length → (Value.slice p L.length ca).ownBlock = some G) ∧ (¬ 0 < L.length → w.heap.size ≤ G) ∧ w.grownBy w1 (some G)) := ⟨hr, G, h1, h2, fun h => Nat.le_trans (by simp) (h3 h), (World.grownBy_alloc w _ (some G)).andThen hg (fun j hj => .inr hj)⟩
  clear hr h1 h2 h3 hg
  go_wp2
  go_ret
  exact ⟨rfl, HF.out⟩
set_option maxRecDepth 10000 in
set_option maxHeartbeats 4000000 in
theorem heldGO_any (a : Value) (zv : Bool) (zc : Int) (n B : Nat) (w : World) (ha : SliceR w B 3 a n (markGrC 1)) (hn : n ≤ 1048576) :
    Calls Try.prog 35 #[.agg #[a, .bool zv, .int .i64 zc], .int .i64 1] w fun e w' => e = .returned (.int .i64 ((1 + n * 3 : Nat) : Int)) ∧ Below w.heap.size w w' := by
  obtain ⟨p, ca, hva⟩ : ∃ p ca, a = .slice p n ca := by obtain ⟨p, cap, e, -⟩ := ha; exact ⟨p, cap, e⟩
  have KM : Hid (∀ W, Below w.heap.size w W → Calls Try.prog 36 #[a, .int .i64 1] W fun e w' => e = .returned (.int .i64 ((1 + n * 3 : Nat) : Int)) ∧ Below W.heap.size W w') := fun W hb => heldGrantS_any a n B 1 W (SliceR.below ha hb) hn (by decide) (by decide)
  clear ha
  have hm1 : decide ((((1 + n * 3 : Nat) : Int)) < 0) = false := by rw [decide_eq_false_iff_not]; omega
  generalize hm : ((1 + n * 3 : Nat) : Int) = mq at *
  subst hva
  go_enter Try.func35, Try.ntmps35
  go_wp2_with fail
  refine (KM.out _ ((Below.refl _ _).alloc (Nat.le_refl _) _)).mono ?_
  rintro e w1 ⟨rfl, hb⟩
  have HF : Hid (Below w.heap.size w w1) := ((Below.refl _ _).alloc (Nat.le_refl _) _).trans (hb.mono (by simp))
  clear hb
  go_wp2
  go_ret
  exact ⟨rfl, HF.out⟩
/-- an answer lies in its box -/
def InBoxG (W : World) (b : Nat) (s : Value) (Z : GO) : Prop := W.cell? ⟨b, 0, none⟩ = some s ∧ W.cell? ⟨b, 1, none⟩ = some (.bool Z.us) ∧ W.cell? ⟨b, 2, none⟩ = some (.int .i64 Z.co) ∧ b < W.heap.size
theorem InBoxG.below {W W' : World} {b : Nat} {s : Value} {Z : GO} (h : InBoxG W b s Z) (hb : Below W.heap.size W W') : InBoxG W' b s Z :=
  ⟨((bcell hb).1 _ _ h.2.2.2).trans h.1, ((bcell hb).1 _ _ h.2.2.2).trans h.2.1, ((bcell hb).1 _ _ h.2.2.2).trans h.2.2.1, Nat.lt_of_lt_of_le h.2.2.2 hb.size⟩
theorem InBoxG.grown {W W' : World} {b G : Nat} {s : Value} {Z : GO} (h : InBoxG W b s Z) (hg : W.grownBy W' (some G)) (hne : b ≠ G) : InBoxG W' b s Z := by
  have hb : W'.heap[b]? = W.heap[b]? := hg.block b h.2.2.2 (fun e => hne (Option.some.inj e))
  exact ⟨(World.cell?_of_block (a := ⟨b, 0, none⟩) hb).trans h.1, (World.cell?_of_block (a := ⟨b, 1, none⟩) hb).trans h.2.1, (World.cell?_of_block (a := ⟨b, 2, none⟩) hb).trans h.2.2.1, Nat.lt_of_lt_of_le h.2.2.2 hg.size⟩
theorem inBoxG_made (W : World) (s : Value) (Z : GO) (t : TypeId) : InBoxG (W.alloc (.cells #[s, .bool Z.us, .int .i64 Z.co] t)) W.heap.size s Z := ⟨by simp, by simp, by simp, by simp⟩
end Go.Proofs.Ytecaeolgheefmaa
