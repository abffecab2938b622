/- 1 of this claim's texts, one behind the other. -/
import Derived.Test.YtecaeolgheefmaaPart7
import Derived.Test.YtecaeolgheefmaaPart8
import Derived.Test.YtecaeolgheefmaaPart9
import Derived.Test.YtecaeolgheefmaaPart1
import Derived.Deep.RegionHeld3
import Derived.Deep.DeepCutAuto
/- The law FnGrant, walked. Written by fngrant.py. -/
namespace Go.Proofs.Ytecaeolgheefmaa
open Go.RowKit
set_option maxRecDepth 10000 in
set_option maxHeartbeats 16000000 in
theorem lawFnGrant_any (a0 : Option Addr) (len0 cap0 : Nat) (a1 : Option Addr) (len1 cap1 : Nat) (w : World) (c0 : CodeRow w a0 len0) (c1 : CodeRow w a1 len1) :
    Calls Try.prog 3 #[.slice a0 len0 cap0, .slice a1 len1 cap1] w fun e w' => e = .returned (.bool true) ∧ Below w.heap.size w w' := by
  by_cases h0 : 1048576 < len0
  · have q0 : decide ((1048576 : Int) < (len0 : Int)) = true := by rw [decide_eq_true_iff]; omega
    go_enter Try.func3, Try.ntmps3
    go_wp2
    go_ret
    exact ⟨rfl, Below.refl _ _⟩
  have q0 : decide ((1048576 : Int) < (len0 : Int)) = false := by rw [decide_eq_false_iff_not]; omega
  by_cases h1 : 1048576 < len1
  · have q1 : decide ((1048576 : Int) < (len1 : Int)) = true := by rw [decide_eq_true_iff]; omega
    go_enter Try.func3, Try.ntmps3
    go_wp2
    go_ret
    exact ⟨rfl, Below.refl _ _⟩
  have q1 : decide ((1048576 : Int) < (len1 : Int)) = false := by rw [decide_eq_false_iff_not]; omega
  have R0 : Hid (CodeRow w a0 len0) := c0
  have R1 : Hid (CodeRow w a1 len1) := c1
  have l0 : len0 ≤ 1048576 := by omega
  have l1 : len1 ≤ 1048576 := by omega
  clear c0 c1 h0 h1
  go_enter Try.func3, Try.ntmps3
  go_wp2_with fail
  refine (drawGrantPut_any a0 len0 cap0 _ R0.out l0).mono ?_
  rintro e w1 ⟨⟨v1, L1, tp, si, n1, rfl, o1, hL1, htp, hsi⟩, hb⟩
  have Bw1 : Hid (Below w.heap.size w w1) := hb
  have O1_w1 : Hid (SliceG w1 w.heap.size v1 L1) := o1
  clear o1 hb
  go_wp2_with fail
  refine (grantPut_any v1 L1 tp si n1 _ _ O1_w1.out (by omega) (by omega) (by omega)).mono ?_
  rintro e w2 ⟨vx, rfl, ⟨sx, rfl, ox⟩, hb⟩
  have hZp := putG_len L1 tp si n1
  obtain ⟨Zp, hZpe⟩ : ∃ Z, Z = putG L1 tp si n1 := ⟨_, rfl⟩
  have HZpe : Hid (Zp = putG L1 tp si n1) := hZpe
  rw [← hZpe] at ox hZp ⊢
  clear hZpe
  have Bw2 : Hid (Below w.heap.size w w2) := Bw1.out.trans (hb.mono Bw1.out.size)
  have O1_w2 : Hid (SliceG w2 w.heap.size v1 L1) := O1_w1.out.below hb
  have X_w2 : Hid (SliceG w2 w1.heap.size sx Zp.ar) := ox
  clear ox hb O1_w1 Bw1
  obtain ⟨px, cx, hsx⟩ : ∃ p c, sx = .slice p Zp.ar.length c := by obtain ⟨⟨p, cap, e, -⟩, -⟩ := X_w2.out; exact ⟨p, cap, e⟩
  subst hsx
  obtain ⟨W2, hW2⟩ : ∃ W, W = w2.alloc (.cells #[.slice px Zp.ar.length cx, .bool Zp.us, .int .i64 Zp.co] 27) := ⟨_, rfl⟩
  have HW2 : Hid (W2 = w2.alloc (.cells #[.slice px Zp.ar.length cx, .bool Zp.us, .int .i64 Zp.co] 27)) := hW2
  have AW2 : Below w2.heap.size w2 W2 := by rw [hW2]; exact (Below.refl _ _).alloc (Nat.le_refl _) _
  have BW2 : Hid (Below w.heap.size w W2) := Bw2.out.trans (AW2.mono Bw2.out.size)
  have O1_W2 : Hid (SliceG W2 w.heap.size v1 L1) := O1_w2.out.below AW2
  have X_W2 : Hid (SliceG W2 w1.heap.size (.slice px Zp.ar.length cx) Zp.ar) := X_w2.out.below AW2
  obtain ⟨bx, hbx⟩ : ∃ b, b = w2.heap.size := ⟨_, rfl⟩
  have Hbx : Hid (bx = w2.heap.size) := hbx
  have Zbx_W2 : Hid (bx < W2.heap.size) := by show bx < W2.heap.size; rw [hW2, hbx]; simp
  have Cbx0_W2 : Hid (World.cell? W2 ⟨bx, 0, none⟩ = some (.slice px Zp.ar.length cx)) := by show _ = _; rw [hW2, hbx]; simp
  have Cbx1_W2 : Hid (World.cell? W2 ⟨bx, 1, none⟩ = some (.bool Zp.us)) := by show _ = _; rw [hW2, hbx]; simp
  have Cbx2_W2 : Hid (World.cell? W2 ⟨bx, 2, none⟩ = some (.int .i64 Zp.co)) := by show _ = _; rw [hW2, hbx]; simp
  clear hW2 AW2 hbx O1_w2 X_w2 Bw2
  go_upto_region 5 with fail
  rw [← HW2.out, ← Hbx.out]
  clear HW2 Hbx
  go_wp2_with fail
  refine (drawGrantAsk_any a1 len1 cap1 _ (R1.out.below BW2.out) l1).mono ?_
  rintro e w3 ⟨⟨v3, L3, at', as', tc, sa, re, ye, n3, rfl, o3, hL3, hat, has⟩, hb⟩
  have Bw3 : Hid (Below w.heap.size w w3) := BW2.out.trans (hb.mono BW2.out.size)
  have O1_w3 : Hid (SliceG w3 w.heap.size v1 L1) := O1_W2.out.below hb
  have X_w3 : Hid (SliceG w3 w1.heap.size (.slice px Zp.ar.length cx) Zp.ar) := X_W2.out.below hb
  have Zbx_w3 : Hid (bx < w3.heap.size) := Nat.lt_of_lt_of_le Zbx_W2.out hb.size
  have Cbx0_w3 : Hid (World.cell? w3 ⟨bx, 0, none⟩ = some (.slice px Zp.ar.length cx)) := ((bcell hb).1 _ _ Zbx_W2.out).trans Cbx0_W2.out
  have Cbx1_w3 : Hid (World.cell? w3 ⟨bx, 1, none⟩ = some (.bool Zp.us)) := ((bcell hb).1 _ _ Zbx_W2.out).trans Cbx1_W2.out
  have Cbx2_w3 : Hid (World.cell? w3 ⟨bx, 2, none⟩ = some (.int .i64 Zp.co)) := ((bcell hb).1 _ _ Zbx_W2.out).trans Cbx2_W2.out
  have O3_w3 : Hid (SliceG w3 W2.heap.size v3 L3) := o3
  clear o3 hb O1_W2 X_W2 Zbx_W2 Cbx0_W2 Cbx1_W2 Cbx2_W2 BW2
  obtain ⟨W3, hW3⟩ : ∃ W, W = w3.alloc (.cells #[.string at', .string as', .bool tc, .bool sa, .bool re, .bool ye] 30) := ⟨_, rfl⟩
  have HW3 : Hid (W3 = w3.alloc (.cells #[.string at', .string as', .bool tc, .bool sa, .bool re, .bool ye] 30)) := hW3
  have AW3 : Below w3.heap.size w3 W3 := by rw [hW3]; exact (Below.refl _ _).alloc (Nat.le_refl _) _
  have BW3 : Hid (Below w.heap.size w W3) := Bw3.out.trans (AW3.mono Bw3.out.size)
  have O1_W3 : Hid (SliceG W3 w.heap.size v1 L1) := O1_w3.out.below AW3
  have X_W3 : Hid (SliceG W3 w1.heap.size (.slice px Zp.ar.length cx) Zp.ar) := X_w3.out.below AW3
  have O3_W3 : Hid (SliceG W3 W2.heap.size v3 L3) := O3_w3.out.below AW3
  have Zbx_W3 : Hid (bx < W3.heap.size) := Nat.lt_of_lt_of_le Zbx_w3.out AW3.size
  have Cbx0_W3 : Hid (World.cell? W3 ⟨bx, 0, none⟩ = some (.slice px Zp.ar.length cx)) := ((bcell AW3).1 _ _ Zbx_w3.out).trans Cbx0_w3.out
  have Cbx1_W3 : Hid (World.cell? W3 ⟨bx, 1, none⟩ = some (.bool Zp.us)) := ((bcell AW3).1 _ _ Zbx_w3.out).trans Cbx1_w3.out
  have Cbx2_W3 : Hid (World.cell? W3 ⟨bx, 2, none⟩ = some (.int .i64 Zp.co)) := ((bcell AW3).1 _ _ Zbx_w3.out).trans Cbx2_w3.out
  obtain ⟨ba, hba⟩ : ∃ b, b = w3.heap.size := ⟨_, rfl⟩
  have Hba : Hid (ba = w3.heap.size) := hba
  have Zba_W3 : Hid (ba < W3.heap.size) := by show ba < W3.heap.size; rw [hW3, hba]; simp
  have Cba0_W3 : Hid (World.cell? W3 ⟨ba, 0, none⟩ = some (.string at')) := by show _ = _; rw [hW3, hba]; simp
  have Cba1_W3 : Hid (World.cell? W3 ⟨ba, 1, none⟩ = some (.string as')) := by show _ = _; rw [hW3, hba]; simp
  have Cba2_W3 : Hid (World.cell? W3 ⟨ba, 2, none⟩ = some (.bool tc)) := by show _ = _; rw [hW3, hba]; simp
  have Cba3_W3 : Hid (World.cell? W3 ⟨ba, 3, none⟩ = some (.bool sa)) := by show _ = _; rw [hW3, hba]; simp
  have Cba4_W3 : Hid (World.cell? W3 ⟨ba, 4, none⟩ = some (.bool re)) := by show _ = _; rw [hW3, hba]; simp
  have Cba5_W3 : Hid (World.cell? W3 ⟨ba, 5, none⟩ = some (.bool ye)) := by show _ = _; rw [hW3, hba]; simp
  clear hW3 AW3 hba O1_w3 X_w3 O3_w3 Zbx_w3 Cbx0_w3 Cbx1_w3 Cbx2_w3 Bw3
  go_upto_region 6 with fail
  rw [← HW3.out, ← Hba.out]
  clear HW3 Hba
  have d0 := Cba0_W3.out
  have d1 := Cba1_W3.out
  have d2 := Cba2_W3.out
  have d3 := Cba3_W3.out
  have d4 := Cba4_W3.out
  have d5 := Cba5_W3.out
  go_wp2_with fail
  refine (grantAsk_any v3 L3 ⟨at', as', tc, sa, re, ye⟩ n3 _ _ O3_W3.out (by omega) (by show at'.size ≤ 1048576; omega) (by show as'.size ≤ 1048576; omega)).mono ?_
  rintro e w4 ⟨vy, rfl, ⟨sy, rfl, oy⟩, hb⟩
  clear d0 d1 d2 d3 d4 d5
  have hZa := askG_len L3 ⟨at', as', tc, sa, re, ye⟩ n3
  obtain ⟨Za, hZae⟩ : ∃ Z, Z = askG L3 ⟨at', as', tc, sa, re, ye⟩ n3 := ⟨_, rfl⟩
  have HZae : Hid (Za = askG L3 ⟨at', as', tc, sa, re, ye⟩ n3) := hZae
  rw [← hZae] at oy hZa ⊢
  clear hZae
  have Bw4 : Hid (Below w.heap.size w w4) := BW3.out.trans (hb.mono BW3.out.size)
  have O1_w4 : Hid (SliceG w4 w.heap.size v1 L1) := O1_W3.out.below hb
  have X_w4 : Hid (SliceG w4 w1.heap.size (.slice px Zp.ar.length cx) Zp.ar) := X_W3.out.below hb
  have O3_w4 : Hid (SliceG w4 W2.heap.size v3 L3) := O3_W3.out.below hb
  have Zbx_w4 : Hid (bx < w4.heap.size) := Nat.lt_of_lt_of_le Zbx_W3.out hb.size
  have Cbx0_w4 : Hid (World.cell? w4 ⟨bx, 0, none⟩ = some (.slice px Zp.ar.length cx)) := ((bcell hb).1 _ _ Zbx_W3.out).trans Cbx0_W3.out
  have Cbx1_w4 : Hid (World.cell? w4 ⟨bx, 1, none⟩ = some (.bool Zp.us)) := ((bcell hb).1 _ _ Zbx_W3.out).trans Cbx1_W3.out
  have Cbx2_w4 : Hid (World.cell? w4 ⟨bx, 2, none⟩ = some (.int .i64 Zp.co)) := ((bcell hb).1 _ _ Zbx_W3.out).trans Cbx2_W3.out
  have Zba_w4 : Hid (ba < w4.heap.size) := Nat.lt_of_lt_of_le Zba_W3.out hb.size
  have Cba0_w4 : Hid (World.cell? w4 ⟨ba, 0, none⟩ = some (.string at')) := ((bcell hb).1 _ _ Zba_W3.out).trans Cba0_W3.out
  have Cba1_w4 : Hid (World.cell? w4 ⟨ba, 1, none⟩ = some (.string as')) := ((bcell hb).1 _ _ Zba_W3.out).trans Cba1_W3.out
  have Cba2_w4 : Hid (World.cell? w4 ⟨ba, 2, none⟩ = some (.bool tc)) := ((bcell hb).1 _ _ Zba_W3.out).trans Cba2_W3.out
  have Cba3_w4 : Hid (World.cell? w4 ⟨ba, 3, none⟩ = some (.bool sa)) := ((bcell hb).1 _ _ Zba_W3.out).trans Cba3_W3.out
  have Cba4_w4 : Hid (World.cell? w4 ⟨ba, 4, none⟩ = some (.bool re)) := ((bcell hb).1 _ _ Zba_W3.out).trans Cba4_W3.out
  have Cba5_w4 : Hid (World.cell? w4 ⟨ba, 5, none⟩ = some (.bool ye)) := ((bcell hb).1 _ _ Zba_W3.out).trans Cba5_W3.out
  have Y_w4 : Hid (SliceG w4 W3.heap.size sy Za.ar) := oy
  clear oy hb O1_W3 X_W3 O3_W3 Zbx_W3 Cbx0_W3 Cbx1_W3 Cbx2_W3 Zba_W3 Cba0_W3 Cba1_W3 Cba2_W3 Cba3_W3 Cba4_W3 Cba5_W3 BW3
  obtain ⟨py, cy, hsy⟩ : ∃ p c, sy = .slice p Za.ar.length c := by obtain ⟨⟨p, cap, e, -⟩, -⟩ := Y_w4.out; exact ⟨p, cap, e⟩
  subst hsy
  obtain ⟨W4, hW4⟩ : ∃ W, W = w4.alloc (.cells #[.slice py Za.ar.length cy, .bool Za.us, .int .i64 Za.co] 27) := ⟨_, rfl⟩
  have HW4 : Hid (W4 = w4.alloc (.cells #[.slice py Za.ar.length cy, .bool Za.us, .int .i64 Za.co] 27)) := hW4
  have AW4 : Below w4.heap.size w4 W4 := by rw [hW4]; exact (Below.refl _ _).alloc (Nat.le_refl _) _
  have BW4 : Hid (Below w.heap.size w W4) := Bw4.out.trans (AW4.mono Bw4.out.size)
  have O1_W4 : Hid (SliceG W4 w.heap.size v1 L1) := O1_w4.out.below AW4
  have X_W4 : Hid (SliceG W4 w1.heap.size (.slice px Zp.ar.length cx) Zp.ar) := X_w4.out.below AW4
  have O3_W4 : Hid (SliceG W4 W2.heap.size v3 L3) := O3_w4.out.below AW4
  have Y_W4 : Hid (SliceG W4 W3.heap.size (.slice py Za.ar.length cy) Za.ar) := Y_w4.out.below AW4
  have Zbx_W4 : Hid (bx < W4.heap.size) := Nat.lt_of_lt_of_le Zbx_w4.out AW4.size
  have Cbx0_W4 : Hid (World.cell? W4 ⟨bx, 0, none⟩ = some (.slice px Zp.ar.length cx)) := ((bcell AW4).1 _ _ Zbx_w4.out).trans Cbx0_w4.out
  have Cbx1_W4 : Hid (World.cell? W4 ⟨bx, 1, none⟩ = some (.bool Zp.us)) := ((bcell AW4).1 _ _ Zbx_w4.out).trans Cbx1_w4.out
  have Cbx2_W4 : Hid (World.cell? W4 ⟨bx, 2, none⟩ = some (.int .i64 Zp.co)) := ((bcell AW4).1 _ _ Zbx_w4.out).trans Cbx2_w4.out
  have Zba_W4 : Hid (ba < W4.heap.size) := Nat.lt_of_lt_of_le Zba_w4.out AW4.size
  have Cba0_W4 : Hid (World.cell? W4 ⟨ba, 0, none⟩ = some (.string at')) := ((bcell AW4).1 _ _ Zba_w4.out).trans Cba0_w4.out
  have Cba1_W4 : Hid (World.cell? W4 ⟨ba, 1, none⟩ = some (.string as')) := ((bcell AW4).1 _ _ Zba_w4.out).trans Cba1_w4.out
  have Cba2_W4 : Hid (World.cell? W4 ⟨ba, 2, none⟩ = some (.bool tc)) := ((bcell AW4).1 _ _ Zba_w4.out).trans Cba2_w4.out
  have Cba3_W4 : Hid (World.cell? W4 ⟨ba, 3, none⟩ = some (.bool sa)) := ((bcell AW4).1 _ _ Zba_w4.out).trans Cba3_w4.out
  have Cba4_W4 : Hid (World.cell? W4 ⟨ba, 4, none⟩ = some (.bool re)) := ((bcell AW4).1 _ _ Zba_w4.out).trans Cba4_w4.out
  have Cba5_W4 : Hid (World.cell? W4 ⟨ba, 5, none⟩ = some (.bool ye)) := ((bcell AW4).1 _ _ Zba_w4.out).trans Cba5_w4.out
  obtain ⟨by', hby'⟩ : ∃ b, b = w4.heap.size := ⟨_, rfl⟩
  have Hby' : Hid (by' = w4.heap.size) := hby'
  have Zby'_W4 : Hid (by' < W4.heap.size) := by show by' < W4.heap.size; rw [hW4, hby']; simp
  have Cby'0_W4 : Hid (World.cell? W4 ⟨by', 0, none⟩ = some (.slice py Za.ar.length cy)) := by show _ = _; rw [hW4, hby']; simp
  have Cby'1_W4 : Hid (World.cell? W4 ⟨by', 1, none⟩ = some (.bool Za.us)) := by show _ = _; rw [hW4, hby']; simp
  have Cby'2_W4 : Hid (World.cell? W4 ⟨by', 2, none⟩ = some (.int .i64 Za.co)) := by show _ = _; rw [hW4, hby']; simp
  clear hW4 AW4 hby' O1_w4 X_w4 O3_w4 Y_w4 Zbx_w4 Cbx0_w4 Cbx1_w4 Cbx2_w4 Zba_w4 Cba0_w4 Cba1_w4 Cba2_w4 Cba3_w4 Cba4_w4 Cba5_w4 Bw4
  go_upto_region 7 with fail
  rw [← HW4.out, ← Hby'.out]
  clear HW4 Hby'
  go_wp2_with fail
  refine (drawGrantDrop_any a1 len1 cap1 _ (R1.out.below BW4.out) l1).mono ?_
  rintro e w5 ⟨⟨v5, L5, dt, ds, rfl, o5, hL5, hdt, hds⟩, hb⟩
  have Bw5 : Hid (Below w.heap.size w w5) := BW4.out.trans (hb.mono BW4.out.size)
  have O1_w5 : Hid (SliceG w5 w.heap.size v1 L1) := O1_W4.out.below hb
  have X_w5 : Hid (SliceG w5 w1.heap.size (.slice px Zp.ar.length cx) Zp.ar) := X_W4.out.below hb
  have O3_w5 : Hid (SliceG w5 W2.heap.size v3 L3) := O3_W4.out.below hb
  have Y_w5 : Hid (SliceG w5 W3.heap.size (.slice py Za.ar.length cy) Za.ar) := Y_W4.out.below hb
  have Zbx_w5 : Hid (bx < w5.heap.size) := Nat.lt_of_lt_of_le Zbx_W4.out hb.size
  have Cbx0_w5 : Hid (World.cell? w5 ⟨bx, 0, none⟩ = some (.slice px Zp.ar.length cx)) := ((bcell hb).1 _ _ Zbx_W4.out).trans Cbx0_W4.out
  have Cbx1_w5 : Hid (World.cell? w5 ⟨bx, 1, none⟩ = some (.bool Zp.us)) := ((bcell hb).1 _ _ Zbx_W4.out).trans Cbx1_W4.out
  have Cbx2_w5 : Hid (World.cell? w5 ⟨bx, 2, none⟩ = some (.int .i64 Zp.co)) := ((bcell hb).1 _ _ Zbx_W4.out).trans Cbx2_W4.out
  have Zba_w5 : Hid (ba < w5.heap.size) := Nat.lt_of_lt_of_le Zba_W4.out hb.size
  have Cba0_w5 : Hid (World.cell? w5 ⟨ba, 0, none⟩ = some (.string at')) := ((bcell hb).1 _ _ Zba_W4.out).trans Cba0_W4.out
  have Cba1_w5 : Hid (World.cell? w5 ⟨ba, 1, none⟩ = some (.string as')) := ((bcell hb).1 _ _ Zba_W4.out).trans Cba1_W4.out
  have Cba2_w5 : Hid (World.cell? w5 ⟨ba, 2, none⟩ = some (.bool tc)) := ((bcell hb).1 _ _ Zba_W4.out).trans Cba2_W4.out
  have Cba3_w5 : Hid (World.cell? w5 ⟨ba, 3, none⟩ = some (.bool sa)) := ((bcell hb).1 _ _ Zba_W4.out).trans Cba3_W4.out
  have Cba4_w5 : Hid (World.cell? w5 ⟨ba, 4, none⟩ = some (.bool re)) := ((bcell hb).1 _ _ Zba_W4.out).trans Cba4_W4.out
  have Cba5_w5 : Hid (World.cell? w5 ⟨ba, 5, none⟩ = some (.bool ye)) := ((bcell hb).1 _ _ Zba_W4.out).trans Cba5_W4.out
  have Zby'_w5 : Hid (by' < w5.heap.size) := Nat.lt_of_lt_of_le Zby'_W4.out hb.size
  have Cby'0_w5 : Hid (World.cell? w5 ⟨by', 0, none⟩ = some (.slice py Za.ar.length cy)) := ((bcell hb).1 _ _ Zby'_W4.out).trans Cby'0_W4.out
  have Cby'1_w5 : Hid (World.cell? w5 ⟨by', 1, none⟩ = some (.bool Za.us)) := ((bcell hb).1 _ _ Zby'_W4.out).trans Cby'1_W4.out
  have Cby'2_w5 : Hid (World.cell? w5 ⟨by', 2, none⟩ = some (.int .i64 Za.co)) := ((bcell hb).1 _ _ Zby'_W4.out).trans Cby'2_W4.out
  have O5_w5 : Hid (SliceG w5 W4.heap.size v5 L5) := o5
  clear o5 hb O1_W4 X_W4 O3_W4 Y_W4 Zbx_W4 Cbx0_W4 Cbx1_W4 Cbx2_W4 Zba_W4 Cba0_W4 Cba1_W4 Cba2_W4 Cba3_W4 Cba4_W4 Cba5_W4 Zby'_W4 Cby'0_W4 Cby'1_W4 Cby'2_W4 BW4
  go_wp2_with fail
  refine (grantDrop_any v5 L5 dt ds _ _ O5_w5.out (by omega)).mono ?_
  rintro e w6 ⟨v6, rfl, o6, hb⟩
  have Bw6 : Hid (Below w.heap.size w w6) := Bw5.out.trans (hb.mono Bw5.out.size)
  have O1_w6 : Hid (SliceG w6 w.heap.size v1 L1) := O1_w5.out.below hb
  have X_w6 : Hid (SliceG w6 w1.heap.size (.slice px Zp.ar.length cx) Zp.ar) := X_w5.out.below hb
  have O3_w6 : Hid (SliceG w6 W2.heap.size v3 L3) := O3_w5.out.below hb
  have Y_w6 : Hid (SliceG w6 W3.heap.size (.slice py Za.ar.length cy) Za.ar) := Y_w5.out.below hb
  have O5_w6 : Hid (SliceG w6 W4.heap.size v5 L5) := O5_w5.out.below hb
  have Zbx_w6 : Hid (bx < w6.heap.size) := Nat.lt_of_lt_of_le Zbx_w5.out hb.size
  have Cbx0_w6 : Hid (World.cell? w6 ⟨bx, 0, none⟩ = some (.slice px Zp.ar.length cx)) := ((bcell hb).1 _ _ Zbx_w5.out).trans Cbx0_w5.out
  have Cbx1_w6 : Hid (World.cell? w6 ⟨bx, 1, none⟩ = some (.bool Zp.us)) := ((bcell hb).1 _ _ Zbx_w5.out).trans Cbx1_w5.out
  have Cbx2_w6 : Hid (World.cell? w6 ⟨bx, 2, none⟩ = some (.int .i64 Zp.co)) := ((bcell hb).1 _ _ Zbx_w5.out).trans Cbx2_w5.out
  have Zba_w6 : Hid (ba < w6.heap.size) := Nat.lt_of_lt_of_le Zba_w5.out hb.size
  have Cba0_w6 : Hid (World.cell? w6 ⟨ba, 0, none⟩ = some (.string at')) := ((bcell hb).1 _ _ Zba_w5.out).trans Cba0_w5.out
  have Cba1_w6 : Hid (World.cell? w6 ⟨ba, 1, none⟩ = some (.string as')) := ((bcell hb).1 _ _ Zba_w5.out).trans Cba1_w5.out
  have Cba2_w6 : Hid (World.cell? w6 ⟨ba, 2, none⟩ = some (.bool tc)) := ((bcell hb).1 _ _ Zba_w5.out).trans Cba2_w5.out
  have Cba3_w6 : Hid (World.cell? w6 ⟨ba, 3, none⟩ = some (.bool sa)) := ((bcell hb).1 _ _ Zba_w5.out).trans Cba3_w5.out
  have Cba4_w6 : Hid (World.cell? w6 ⟨ba, 4, none⟩ = some (.bool re)) := ((bcell hb).1 _ _ Zba_w5.out).trans Cba4_w5.out
  have Cba5_w6 : Hid (World.cell? w6 ⟨ba, 5, none⟩ = some (.bool ye)) := ((bcell hb).1 _ _ Zba_w5.out).trans Cba5_w5.out
  have Zby'_w6 : Hid (by' < w6.heap.size) := Nat.lt_of_lt_of_le Zby'_w5.out hb.size
  have Cby'0_w6 : Hid (World.cell? w6 ⟨by', 0, none⟩ = some (.slice py Za.ar.length cy)) := ((bcell hb).1 _ _ Zby'_w5.out).trans Cby'0_w5.out
  have Cby'1_w6 : Hid (World.cell? w6 ⟨by', 1, none⟩ = some (.bool Za.us)) := ((bcell hb).1 _ _ Zby'_w5.out).trans Cby'1_w5.out
  have Cby'2_w6 : Hid (World.cell? w6 ⟨by', 2, none⟩ = some (.int .i64 Za.co)) := ((bcell hb).1 _ _ Zby'_w5.out).trans Cby'2_w5.out
  have D_w6 : Hid (SliceG w6 w5.heap.size v6 (dropL L5 dt ds)) := o6
  clear o6 hb O1_w5 X_w5 O3_w5 Y_w5 O5_w5 Zbx_w5 Cbx0_w5 Cbx1_w5 Cbx2_w5 Zba_w5 Cba0_w5 Cba1_w5 Cba2_w5 Cba3_w5 Cba4_w5 Cba5_w5 Zby'_w5 Cby'0_w5 Cby'1_w5 Cby'2_w5 Bw5
  go_wp2_with fail
  refine (drawGrantOld_any a0 len0 cap0 _ (R0.out.below Bw6.out) l0).mono ?_
  rintro e w7 ⟨⟨v7, L7, n7, rfl, o7, hL7⟩, hb⟩
  have Bw7 : Hid (Below w.heap.size w w7) := Bw6.out.trans (hb.mono Bw6.out.size)
  have O1_w7 : Hid (SliceG w7 w.heap.size v1 L1) := O1_w6.out.below hb
  have X_w7 : Hid (SliceG w7 w1.heap.size (.slice px Zp.ar.length cx) Zp.ar) := X_w6.out.below hb
  have O3_w7 : Hid (SliceG w7 W2.heap.size v3 L3) := O3_w6.out.below hb
  have Y_w7 : Hid (SliceG w7 W3.heap.size (.slice py Za.ar.length cy) Za.ar) := Y_w6.out.below hb
  have O5_w7 : Hid (SliceG w7 W4.heap.size v5 L5) := O5_w6.out.below hb
  have D_w7 : Hid (SliceG w7 w5.heap.size v6 (dropL L5 dt ds)) := D_w6.out.below hb
  have Zbx_w7 : Hid (bx < w7.heap.size) := Nat.lt_of_lt_of_le Zbx_w6.out hb.size
  have Cbx0_w7 : Hid (World.cell? w7 ⟨bx, 0, none⟩ = some (.slice px Zp.ar.length cx)) := ((bcell hb).1 _ _ Zbx_w6.out).trans Cbx0_w6.out
  have Cbx1_w7 : Hid (World.cell? w7 ⟨bx, 1, none⟩ = some (.bool Zp.us)) := ((bcell hb).1 _ _ Zbx_w6.out).trans Cbx1_w6.out
  have Cbx2_w7 : Hid (World.cell? w7 ⟨bx, 2, none⟩ = some (.int .i64 Zp.co)) := ((bcell hb).1 _ _ Zbx_w6.out).trans Cbx2_w6.out
  have Zba_w7 : Hid (ba < w7.heap.size) := Nat.lt_of_lt_of_le Zba_w6.out hb.size
  have Cba0_w7 : Hid (World.cell? w7 ⟨ba, 0, none⟩ = some (.string at')) := ((bcell hb).1 _ _ Zba_w6.out).trans Cba0_w6.out
  have Cba1_w7 : Hid (World.cell? w7 ⟨ba, 1, none⟩ = some (.string as')) := ((bcell hb).1 _ _ Zba_w6.out).trans Cba1_w6.out
  have Cba2_w7 : Hid (World.cell? w7 ⟨ba, 2, none⟩ = some (.bool tc)) := ((bcell hb).1 _ _ Zba_w6.out).trans Cba2_w6.out
  have Cba3_w7 : Hid (World.cell? w7 ⟨ba, 3, none⟩ = some (.bool sa)) := ((bcell hb).1 _ _ Zba_w6.out).trans Cba3_w6.out
  have Cba4_w7 : Hid (World.cell? w7 ⟨ba, 4, none⟩ = some (.bool re)) := ((bcell hb).1 _ _ Zba_w6.out).trans Cba4_w6.out
  have Cba5_w7 : Hid (World.cell? w7 ⟨ba, 5, none⟩ = some (.bool ye)) := ((bcell hb).1 _ _ Zba_w6.out).trans Cba5_w6.out
  have Zby'_w7 : Hid (by' < w7.heap.size) := Nat.lt_of_lt_of_le Zby'_w6.out hb.size
  have Cby'0_w7 : Hid (World.cell? w7 ⟨by', 0, none⟩ = some (.slice py Za.ar.length cy)) := ((bcell hb).1 _ _ Zby'_w6.out).trans Cby'0_w6.out
  have Cby'1_w7 : Hid (World.cell? w7 ⟨by', 1, none⟩ = some (.bool Za.us)) := ((bcell hb).1 _ _ Zby'_w6.out).trans Cby'1_w6.out
  have Cby'2_w7 : Hid (World.cell? w7 ⟨by', 2, none⟩ = some (.int .i64 Za.co)) := ((bcell hb).1 _ _ Zby'_w6.out).trans Cby'2_w6.out
  have O7_w7 : Hid (SliceG w7 w6.heap.size v7 L7) := o7
  clear o7 hb R0 R1 O1_w6 X_w6 O3_w6 Y_w6 O5_w6 D_w6 Zbx_w6 Cbx0_w6 Cbx1_w6 Cbx2_w6 Zba_w6 Cba0_w6 Cba1_w6 Cba2_w6 Cba3_w6 Cba4_w6 Cba5_w6 Zby'_w6 Cby'0_w6 Cby'1_w6 Cby'2_w6 Bw6
  have KP : Hid (∀ W, Below w7.heap.size w7 W → Calls Try.prog 18 #[v1, .string tp, .string si, .int .i64 n1] W fun e w' => ∃ v', e = .returned v' ∧ AnsG w' W.heap.size v' Zp ∧ Below W.heap.size W w') := fun W h => by rw [HZpe.out]; exact specGrantPut_any v1 L1 tp si n1 _ W (O1_w7.out.below h) (by omega) (by omega) (by omega)
  have KA : Hid (∀ W, Below w7.heap.size w7 W → Calls Try.prog 19 #[v3, .agg #[.string at', .string as', .bool tc, .bool sa, .bool re, .bool ye], .int .i64 n3] W fun e w' => ∃ v', e = .returned v' ∧ AnsG w' W.heap.size v' Za ∧ Below W.heap.size W w') := fun W h => by rw [HZae.out]; exact specGrantAsk_any v3 L3 ⟨at', as', tc, sa, re, ye⟩ n3 _ W (O3_w7.out.below h) (by omega)
  have KD : Hid (∀ W, Below w7.heap.size w7 W → Calls Try.prog 21 #[v5, .string dt, .string ds] W fun e w' => ∃ v', e = .returned v' ∧ SliceG w' W.heap.size v' (dropL L5 dt ds) ∧ Below W.heap.size W w') := fun W h => specGrantDrop_any v5 L5 dt ds _ W (O5_w7.out.below h) (by omega) (by omega) (by omega)
  have KO1 : Hid (∀ W, Below w7.heap.size w7 W → Calls Try.prog 22 #[v7, .int .i64 n7] W fun e w' => ∃ v', e = .returned v' ∧ SliceG w' W.heap.size v' (oldG L7 n7) ∧ Below W.heap.size W w') := fun W h => grantOld_any v7 L7 n7 _ W (O7_w7.out.below h) (by omega)
  have KO2 : Hid (∀ W, Below w7.heap.size w7 W → Calls Try.prog 23 #[v7, .int .i64 n7] W fun e w' => ∃ v', e = .returned v' ∧ SliceG w' W.heap.size v' (oldG L7 n7) ∧ Below W.heap.size W w') := fun W h => specGrantOld_any v7 L7 n7 _ W (O7_w7.out.below h) (by omega)
  have KV1 : Hid (∀ W, Below w7.heap.size w7 W → Calls Try.prog 24 #[v1, .string tp, .string si, .int .i64 n1] W fun e w' => e = .returned (.bool (liveB8 L1 tp si n1)) ∧ Below W.heap.size W w') := fun W h => grantLive_any v1 L1 tp si n1 _ W (O1_w7.out.below h) (by omega)
  have KV2 : Hid (∀ W, Below w7.heap.size w7 W → Calls Try.prog 25 #[v1, .string tp, .string si, .int .i64 n1] W fun e w' => e = .returned (.bool (liveB8 L1 tp si n1)) ∧ Below W.heap.size W w') := fun W h => specGrantLive_any v1 L1 tp si n1 _ W (O1_w7.out.below h) (by omega) (by omega) (by omega)
  have KR1 : Hid (∀ W, Below w7.heap.size w7 W → Calls Try.prog 26 #[v7] W fun e w' => e = .returned (.bool (grantsB L7)) ∧ Below W.heap.size W w') := fun W h => grantsRight_any v7 L7 _ W (O7_w7.out.below h) (by omega)
  have KR2 : Hid (∀ W, Below w7.heap.size w7 W → Calls Try.prog 27 #[v7] W fun e w' => e = .returned (.bool (grantsB L7)) ∧ Below W.heap.size W w') := fun W h => specGrants_any v7 L7 _ W (O7_w7.out.below h) (by omega)
  have hZd := dropL_len L5 dt ds
  have hZo := oldG_len L7 n7
  have KZ : Hid (∀ W, Below w7.heap.size w7 W → Calls Try.prog 24 #[v6, .string dt, .string ds, .int .i64 0] W fun e w' => e = .returned (.bool false) ∧ Below W.heap.size W w') := fun W h => by have k := grantLive_any v6 _ dt ds 0 _ W (D_w7.out.below h) (by omega); rw [drop_here] at k; exact k
  have KX1 : Hid (∀ s B W, Below w7.heap.size w7 W → SliceG W B s Zp.ar → Calls Try.prog 17 #[.agg #[.slice px Zp.ar.length cx, .bool Zp.us, .int .i64 Zp.co], .agg #[s, .bool Zp.us, .int .i64 Zp.co]] W fun e w' => e = .returned (.bool true) ∧ Below W.heap.size W w') := fun s B W h hs => lwGrant_any _ s Zp _ B W (X_w7.out.below h) hs (by omega) (fun hc => by rw [HZpe.out] at hc ⊢; exact putG_right hc)
  have KX2 : Hid (∀ s B W, Below w7.heap.size w7 W → SliceG W B s Za.ar → Calls Try.prog 17 #[.agg #[.slice py Za.ar.length cy, .bool Za.us, .int .i64 Za.co], .agg #[s, .bool Za.us, .int .i64 Za.co]] W fun e w' => e = .returned (.bool true) ∧ Below W.heap.size W w') := fun s B W h hs => lwGrant_any _ s Za _ B W (Y_w7.out.below h) hs (by omega) (fun hc => by rw [HZae.out] at hc ⊢; exact askG_right hc)
  have KXd : Hid (∀ s B W, Below w7.heap.size w7 W → SliceG W B s (dropL L5 dt ds) → Calls Try.prog 20 #[v6, s] W fun e w' => e = .returned (.bool true) ∧ Below W.heap.size W w') := fun s B W h hs => lwGrants_any v6 s _ _ B W (D_w7.out.below h) hs (by omega)
  have KXo : Hid (∀ s B s2 B2 W, SliceG W B s (oldG L7 n7) → SliceG W B2 s2 (oldG L7 n7) → Calls Try.prog 20 #[s, s2] W fun e w' => e = .returned (.bool true) ∧ Below W.heap.size W w') := fun s B s2 B2 W h1 h2 => lwGrants_any s s2 _ B B2 W h1 h2 (by omega)
  have H29 : Hid (Zp.co = 0 → n1 < 999970 → ∀ W, Below w7.heap.size w7 W → Calls Try.prog 24 #[.slice px Zp.ar.length cx, .string tp, .string si, .int .i64 (n1 + 29)] W fun e w' => e = .returned (.bool true) ∧ Below W.heap.size W w') := fun hc hn W h => by
      have k := grantLive_any _ Zp.ar tp si (n1 + 29) _ W (X_w7.out.below h) (by omega)
      rw [show liveB8 Zp.ar tp si (n1 + 29) = true by rw [HZpe.out] at hc ⊢; exact (putG_live hc hn).1] at k; exact k
  have H30 : Hid (Zp.co = 0 → n1 < 999970 → ∀ W, Below w7.heap.size w7 W → Calls Try.prog 24 #[.slice px Zp.ar.length cx, .string tp, .string si, .int .i64 (n1 + 30)] W fun e w' => e = .returned (.bool false) ∧ Below W.heap.size W w') := fun hc hn W h => by
      have k := grantLive_any _ Zp.ar tp si (n1 + 30) _ W (X_w7.out.below h) (by omega)
      rw [show liveB8 Zp.ar tp si (n1 + 30) = false by rw [HZpe.out] at hc ⊢; exact (putG_live hc hn).2] at k; exact k
  have HOt : Hid (Zp.co = 0 → ∀ W, Below w7.heap.size w7 W → Calls Try.prog 28 #[v1, .slice px Zp.ar.length cx, .string tp, .string si, .int .i64 n1] W fun e w' => e = .returned (.bool true) ∧ Below W.heap.size W w') := fun hc W h => lwOthers_any v1 _ L1 Zp.ar tp si n1 _ _ W (O1_w7.out.below h) (X_w7.out.below h) (by omega) (by omega) (fun x hx hne => by
      rw [HZpe.out] at hc ⊢
      refine putG_others hc hx (fun e => ?_)
      injection e with e1 e2
      rw [Lib.toList_data, Lib.toList_data, Lib.toList_data, Lib.toList_data, e1, e2] at hne
      simp at hne)
  have HT : Hid (Zp.co = 0 → 0 ≤ n1 ∧ n1 ≤ 1000000) := fun hc => by rw [HZpe.out] at hc; exact timeG_parts (mayG_parts (putG_ok hc).1).2.2.2
  have KG : Hid (∀ W, Below w7.heap.size w7 W → Calls Try.prog 25 #[v3, .string at', .string as', .int .i64 n3] W fun e w' => e = .returned (.bool (liveB8 L3 at' as' n3)) ∧ Below W.heap.size W w') := fun W h => specGrantLive_any v3 L3 at' as' n3 _ W (O3_w7.out.below h) (by omega) (by omega) (by omega)
  have HFr : Hid (Za.co = 0 → liveB8 L3 at' as' n3 = false → (at'.toList == as'.toList) = false → Za.us = true ∧ tc = true ∧ sa = false ∧ (re || ye) = true ∧ httpsB as' = true ∧ n3 ≤ 1000000 ∧ (n3 < 1000000 → ∀ W, Below w7.heap.size w7 W → Calls Try.prog 24 #[.slice py Za.ar.length cy, .string at', .string as', .int .i64 n3] W fun e w' => e = .returned (.bool true) ∧ Below W.heap.size W w')) := fun hc hl hne => by
    have hc' : (askG L3 ⟨at', as', tc, sa, re, ye⟩ n3).co = 0 := by rw [← HZae.out]; exact hc
    obtain ⟨f1, f2, f3, f4, f5, f6, f7⟩ := askG_fresh hc' hl hne
    rw [← HZae.out] at f1 f7
    refine ⟨f1, f2, f3, f4, f5, f6, fun hn W h => ?_⟩
    have k := grantLive_any _ Za.ar at' as' n3 _ W (Y_w7.out.below h) (by omega)
    rw [f7 hn] at k; exact k
  clear HZpe HZae O1_w7 X_w7 O3_w7 Y_w7 O5_w7 D_w7 O7_w7
  generalize liveB8 L1 tp si n1 = lv at *
  generalize liveB8 L3 at' as' n3 = lg at *
  generalize grantsB L7 = gr at *
  generalize dropL L5 dt ds = Zd at *
  generalize oldG L7 n7 = Zo at *
  go_upto_region 10 with fail
  have p70 := Cbx0_w7.out
  have p71 := Cbx1_w7.out
  have p72 := Cbx2_w7.out
  have p73 := Cba0_w7.out
  have p74 := Cba1_w7.out
  have p75 := Cba2_w7.out
  have p76 := Cba3_w7.out
  have p77 := Cba4_w7.out
  have p78 := Cba5_w7.out
  have p79 := Cby'0_w7.out
  have p710 := Cby'1_w7.out
  have p711 := Cby'2_w7.out
  have b7z : Hid (Below w7.heap.size w7 w7) := Below.refl _ _
  have B7 : Hid (Below w7.heap.size w7 w7) := Below.refl _ _
  have z7 : w7.heap.size ≤ w7.heap.size := Nat.le_refl _
  refine wp_region_held_drew (S := (fun w' => w7.heap.size ≤ w'.heap.size ∧ w'.cell? ⟨bx, 0, none⟩ = some (.slice px Zp.ar.length cx) ∧ w'.cell? ⟨bx, 1, none⟩ = some (.bool Zp.us) ∧ w'.cell? ⟨bx, 2, none⟩ = some (.int .i64 Zp.co) ∧ w'.cell? ⟨ba, 0, none⟩ = some (.string at') ∧ w'.cell? ⟨ba, 1, none⟩ = some (.string as') ∧ w'.cell? ⟨ba, 2, none⟩ = some (.bool tc) ∧ w'.cell? ⟨ba, 3, none⟩ = some (.bool sa) ∧ w'.cell? ⟨ba, 4, none⟩ = some (.bool re) ∧ w'.cell? ⟨ba, 5, none⟩ = some (.bool ye) ∧ w'.cell? ⟨by', 0, none⟩ = some (.slice py Za.ar.length cy) ∧ w'.cell? ⟨by', 1, none⟩ = some (.bool Za.us) ∧ w'.cell? ⟨by', 2, none⟩ = some (.int .i64 Za.co))) (by kernel_rfl) ?_ (fun hH0 => ?_)
  · (try dsimp only)
    go_keep
  refine wpAnyH_take (i := 0) (oi := { dst := some 67, op := Op.load 27 (Operand.tmp 9), type := 27, pos := "laws.go:409", after := #[], guard := none }) (v := ?va0) rfl (by kernel_rfl) (by kernel_rfl) (by kernel_rfl) (fun _ _ _ h => h) (Or.inl ⟨by rfl, ?hya0⟩) (by assumption) ?resta0
  case hya0 =>
    intro w hSw
    (try dsimp only at hSw)
    go_simp
    try with_reducible rfl
  try simp only [Act.put, List.setIfInBounds_toArray, List.set_cons_zero, List.set_cons_succ]
  refine wpAnyH_take (i := 1) (oi := { dst := some 68, op := Op.move (Operand.tmp 5), type := 23, pos := "laws.go:409", after := #[], guard := none }) (v := ?va1) rfl (by kernel_rfl) (by kernel_rfl) (by kernel_rfl) (fun _ _ _ h => h) (Or.inl ⟨by rfl, ?hya1⟩) (by assumption) ?resta1
  case hya1 =>
    intro w hSw
    (try dsimp only at hSw)
    go_simp
    try with_reducible rfl
  try simp only [Act.put, List.setIfInBounds_toArray, List.set_cons_zero, List.set_cons_succ]
  refine wpAnyH_take (i := 2) (oi := { dst := some 69, op := Op.move (Operand.tmp 6), type := 9, pos := "laws.go:409", after := #[], guard := none }) (v := ?va2) rfl (by kernel_rfl) (by kernel_rfl) (by kernel_rfl) (fun _ _ _ h => h) (Or.inl ⟨by rfl, ?hya2⟩) (by assumption) ?resta2
  case hya2 =>
    intro w hSw
    (try dsimp only at hSw)
    go_simp
    try with_reducible rfl
  try simp only [Act.put, List.setIfInBounds_toArray, List.set_cons_zero, List.set_cons_succ]
  refine wpAnyH_take (i := 3) (oi := { dst := some 70, op := Op.move (Operand.tmp 7), type := 9, pos := "laws.go:409", after := #[], guard := none }) (v := ?va3) rfl (by kernel_rfl) (by kernel_rfl) (by kernel_rfl) (fun _ _ _ h => h) (Or.inl ⟨by rfl, ?hya3⟩) (by assumption) ?resta3
  case hya3 =>
    intro w hSw
    (try dsimp only at hSw)
    go_simp
    try with_reducible rfl
  try simp only [Act.put, List.setIfInBounds_toArray, List.set_cons_zero, List.set_cons_succ]
  refine wpAnyH_take (i := 4) (oi := { dst := some 71, op := Op.move (Operand.tmp 8), type := 2, pos := "laws.go:409", after := #[], guard := none }) (v := ?va4) rfl (by kernel_rfl) (by kernel_rfl) (by kernel_rfl) (fun _ _ _ h => h) (Or.inl ⟨by rfl, ?hya4⟩) (by assumption) ?resta4
  case hya4 =>
    intro w hSw
    (try dsimp only at hSw)
    go_simp
    try with_reducible rfl
  try simp only [Act.put, List.setIfInBounds_toArray, List.set_cons_zero, List.set_cons_succ]
  refine wpAnyH_ready (rs := [5]) (by kernel_rfl) (by simp) ?_
  refine AllReadyH.cons (o := { dst := some 72, op := Op.call { callee := Callee.value (Operand.func 18), args := #[Operand.tmp 68, Operand.tmp 69, Operand.tmp 70, Operand.tmp 71], argTypes := #[23, 9, 9, 2] }, type := 27, pos := "laws.go:409", after := #[{ on := 1, ground := Ground.data }, { on := 2, ground := Ground.data }, { on := 3, ground := Ground.data }, { on := 4, ground := Ground.data }], guard := none }) rfl (fun K hK => ?_) AllReadyH.nil
  go_simp
  (go_at_call 18; refine (KP.out _ (B7.out.trans (Below.drew (Below.refl _ _)))).mono ?_; rintro e wa ⟨vqa, rfl, ⟨sqa, rfl, ssa⟩, hba⟩; have Ta := Cells.below (L := [(⟨bx, 0, none⟩, .slice px Zp.ar.length cx), (⟨bx, 1, none⟩, .bool Zp.us), (⟨bx, 2, none⟩, .int .i64 Zp.co), (⟨ba, 0, none⟩, .string at'), (⟨ba, 1, none⟩, .string as'), (⟨ba, 2, none⟩, .bool tc), (⟨ba, 3, none⟩, .bool sa), (⟨ba, 4, none⟩, .bool re), (⟨ba, 5, none⟩, .bool ye), (⟨by', 0, none⟩, .slice py Za.ar.length cy), (⟨by', 1, none⟩, .bool Za.us), (⟨by', 2, none⟩, .int .i64 Za.co)]) (by simp only [Cells]; go_keep) hba; simp only [Cells] at Ta; obtain ⟨pa0, pa1, pa2, pa3, pa4, pa5, pa6, pa7, pa8, pa9, pa10, pa11, -⟩ := Ta; have za : w7.heap.size ≤ wa.heap.size := Nat.le_trans z7 hba.size; have Ba : Hid (Below w7.heap.size w7 wa) := (B7.out.trans (Below.drew (Below.refl _ _))).trans (hba.mono (by simp)))
  try (go_wp2_with fail)
  refine hK.out _ _ ?_ (fun hH1 => ?_)
  · (try dsimp only)
    go_keep
  clear hK K hH0
  try simp only [Act.put, List.setIfInBounds_toArray, List.set_cons_zero, List.set_cons_succ]
  refine wpAnyH_ready (rs := [6]) (by kernel_rfl) (by simp) ?_
  refine AllReadyH.cons (o := { dst := some 73, op := Op.call { callee := Callee.value (Operand.func 17), args := #[Operand.tmp 67, Operand.tmp 72], argTypes := #[27, 27] }, type := 4, pos := "laws.go:409", after := #[{ on := 0, ground := Ground.data }, { on := 5, ground := Ground.data }, { on := 5, ground := Ground.chain }], guard := none }) rfl (fun K hK => ?_) AllReadyH.nil
  go_simp
  (go_at_call 17; refine (KX1.out _ _ _ Ba.out ssa).mono ?_; rintro e wb ⟨rfl, hbb⟩; have Tb := Cells.below (L := [(⟨bx, 0, none⟩, .slice px Zp.ar.length cx), (⟨bx, 1, none⟩, .bool Zp.us), (⟨bx, 2, none⟩, .int .i64 Zp.co), (⟨ba, 0, none⟩, .string at'), (⟨ba, 1, none⟩, .string as'), (⟨ba, 2, none⟩, .bool tc), (⟨ba, 3, none⟩, .bool sa), (⟨ba, 4, none⟩, .bool re), (⟨ba, 5, none⟩, .bool ye), (⟨by', 0, none⟩, .slice py Za.ar.length cy), (⟨by', 1, none⟩, .bool Za.us), (⟨by', 2, none⟩, .int .i64 Za.co)]) (by simp only [Cells]; go_keep) hbb; simp only [Cells] at Tb; obtain ⟨pb0, pb1, pb2, pb3, pb4, pb5, pb6, pb7, pb8, pb9, pb10, pb11, -⟩ := Tb; have zb : w7.heap.size ≤ wb.heap.size := Nat.le_trans za hbb.size; have Bb : Hid (Below w7.heap.size w7 wb) := Ba.out.trans (hbb.mono Ba.out.size); clear pa0 pa1 pa2 pa3 pa4 pa5 pa6 pa7 pa8 pa9 pa10 pa11 za hba)
  try (go_wp2_with fail)
  refine hK.out _ _ ?_ (fun hH2 => ?_)
  · (try dsimp only)
    go_keep
  clear hK K hH1
  try simp only [Act.put, List.setIfInBounds_toArray, List.set_cons_zero, List.set_cons_succ]
  refine wpAnyH_take (i := 7) (oi := { dst := some 74, op := Op.unOp UnOp.not 4 (Operand.tmp 73), type := 4, pos := "laws.go:409", after := #[{ on := 6, ground := Ground.data }], guard := none }) (v := ?va7) rfl (by kernel_rfl) (by kernel_rfl) (by kernel_rfl) (fun _ _ _ h => h) (Or.inl ⟨by rfl, ?hya7⟩) (by assumption) ?resta7
  case hya7 =>
    intro w hSw
    (try dsimp only at hSw)
    go_simp
    try with_reducible rfl
  try simp only [Act.put, List.setIfInBounds_toArray, List.set_cons_zero, List.set_cons_succ]
  refine wpAnyH_take (i := 8) (oi := { dst := some 75, op := Op.move (Operand.tmp 74), type := 4, pos := "laws.go:409", after := #[{ on := 7, ground := Ground.data }, { on := 6, ground := Ground.chain }], guard := none }) (v := ?va8) rfl (by kernel_rfl) (by kernel_rfl) (by kernel_rfl) (fun _ _ _ h => h) (Or.inl ⟨by rfl, ?hya8⟩) (by assumption) ?resta8
  case hya8 =>
    intro w hSw
    (try dsimp only at hSw)
    go_simp
    try with_reducible rfl
  try simp only [Act.put, List.setIfInBounds_toArray, List.set_cons_zero, List.set_cons_succ]
  refine wpAnyH_take (i := 9) (oi := { dst := some 76, op := Op.load 27 (Operand.tmp 13), type := 27, pos := "laws.go:409", after := #[{ on := 8, ground := Ground.guard }], guard := some (8, false) }) (v := ?va9) rfl (by kernel_rfl) (by kernel_rfl) (by kernel_rfl) (fun _ _ _ h => h) (Or.inl ⟨by rfl, ?hya9⟩) (by assumption) ?resta9
  case hya9 =>
    intro w hSw
    (try dsimp only at hSw)
    go_simp
    try with_reducible rfl
  try simp only [Act.put, List.setIfInBounds_toArray, List.set_cons_zero, List.set_cons_succ]
  refine wpAnyH_take (i := 10) (oi := { dst := some 77, op := Op.move (Operand.tmp 10), type := 23, pos := "laws.go:409", after := #[{ on := 8, ground := Ground.guard }], guard := some (8, false) }) (v := ?va10) rfl (by kernel_rfl) (by kernel_rfl) (by kernel_rfl) (fun _ _ _ h => h) (Or.inl ⟨by rfl, ?hya10⟩) (by assumption) ?resta10
  case hya10 =>
    intro w hSw
    (try dsimp only at hSw)
    go_simp
    try with_reducible rfl
  try simp only [Act.put, List.setIfInBounds_toArray, List.set_cons_zero, List.set_cons_succ]
  refine wpAnyH_take (i := 11) (oi := { dst := some 78, op := Op.load 30 (Operand.tmp 11), type := 30, pos := "laws.go:409", after := #[{ on := 8, ground := Ground.guard }], guard := some (8, false) }) (v := ?va11) rfl (by kernel_rfl) (by kernel_rfl) (by kernel_rfl) (fun _ _ _ h => h) (Or.inl ⟨by rfl, ?hya11⟩) (by assumption) ?resta11
  case hya11 =>
    intro w hSw
    (try dsimp only at hSw)
    go_simp
    try with_reducible rfl
  try simp only [Act.put, List.setIfInBounds_toArray, List.set_cons_zero, List.set_cons_succ]
  refine wpAnyH_take (i := 12) (oi := { dst := some 79, op := Op.move (Operand.tmp 12), type := 2, pos := "laws.go:409", after := #[{ on := 8, ground := Ground.guard }], guard := some (8, false) }) (v := ?va12) rfl (by kernel_rfl) (by kernel_rfl) (by kernel_rfl) (fun _ _ _ h => h) (Or.inl ⟨by rfl, ?hya12⟩) (by assumption) ?resta12
  case hya12 =>
    intro w hSw
    (try dsimp only at hSw)
    go_simp
    try with_reducible rfl
  try simp only [Act.put, List.setIfInBounds_toArray, List.set_cons_zero, List.set_cons_succ]
  refine wpAnyH_ready (rs := [13]) (by kernel_rfl) (by simp) ?_
  refine AllReadyH.cons (o := { dst := some 80, op := Op.call { callee := Callee.value (Operand.func 19), args := #[Operand.tmp 77, Operand.tmp 78, Operand.tmp 79], argTypes := #[23, 30, 2] }, type := 27, pos := "laws.go:409", after := #[{ on := 10, ground := Ground.data }, { on := 11, ground := Ground.data }, { on := 12, ground := Ground.data }, { on := 8, ground := Ground.chain }, { on := 8, ground := Ground.guard }], guard := some (8, false) }) rfl (fun K hK => ?_) AllReadyH.nil
  go_simp
  (go_at_call 19; refine (KA.out _ Bb.out).mono ?_; rintro e wc ⟨vqc, rfl, ⟨sqc, rfl, ssc⟩, hbc⟩; have Tc := Cells.below (L := [(⟨bx, 0, none⟩, .slice px Zp.ar.length cx), (⟨bx, 1, none⟩, .bool Zp.us), (⟨bx, 2, none⟩, .int .i64 Zp.co), (⟨ba, 0, none⟩, .string at'), (⟨ba, 1, none⟩, .string as'), (⟨ba, 2, none⟩, .bool tc), (⟨ba, 3, none⟩, .bool sa), (⟨ba, 4, none⟩, .bool re), (⟨ba, 5, none⟩, .bool ye), (⟨by', 0, none⟩, .slice py Za.ar.length cy), (⟨by', 1, none⟩, .bool Za.us), (⟨by', 2, none⟩, .int .i64 Za.co)]) (by simp only [Cells]; go_keep) hbc; simp only [Cells] at Tc; obtain ⟨pc0, pc1, pc2, pc3, pc4, pc5, pc6, pc7, pc8, pc9, pc10, pc11, -⟩ := Tc; have zc : w7.heap.size ≤ wc.heap.size := Nat.le_trans zb hbc.size; have Bc : Hid (Below w7.heap.size w7 wc) := Bb.out.trans (hbc.mono Bb.out.size); clear pb0 pb1 pb2 pb3 pb4 pb5 pb6 pb7 pb8 pb9 pb10 pb11 zb hbb)
  try (go_wp2_with fail)
  refine hK.out _ _ ?_ (fun hH3 => ?_)
  · (try dsimp only)
    go_keep
  clear hK K hH2
  try simp only [Act.put, List.setIfInBounds_toArray, List.set_cons_zero, List.set_cons_succ]
  refine wpAnyH_ready (rs := [14]) (by kernel_rfl) (by simp) ?_
  refine AllReadyH.cons (o := { dst := some 81, op := Op.call { callee := Callee.value (Operand.func 17), args := #[Operand.tmp 76, Operand.tmp 80], argTypes := #[27, 27] }, type := 4, pos := "laws.go:409", after := #[{ on := 9, ground := Ground.data }, { on := 13, ground := Ground.data }, { on := 13, ground := Ground.chain }, { on := 8, ground := Ground.guard }], guard := some (8, false) }) rfl (fun K hK => ?_) AllReadyH.nil
  go_simp
  (go_at_call 17; refine (KX2.out _ _ _ Bc.out ssc).mono ?_; rintro e wd ⟨rfl, hbd⟩; have Td := Cells.below (L := [(⟨bx, 0, none⟩, .slice px Zp.ar.length cx), (⟨bx, 1, none⟩, .bool Zp.us), (⟨bx, 2, none⟩, .int .i64 Zp.co), (⟨ba, 0, none⟩, .string at'), (⟨ba, 1, none⟩, .string as'), (⟨ba, 2, none⟩, .bool tc), (⟨ba, 3, none⟩, .bool sa), (⟨ba, 4, none⟩, .bool re), (⟨ba, 5, none⟩, .bool ye), (⟨by', 0, none⟩, .slice py Za.ar.length cy), (⟨by', 1, none⟩, .bool Za.us), (⟨by', 2, none⟩, .int .i64 Za.co)]) (by simp only [Cells]; go_keep) hbd; simp only [Cells] at Td; obtain ⟨pd0, pd1, pd2, pd3, pd4, pd5, pd6, pd7, pd8, pd9, pd10, pd11, -⟩ := Td; have zd : w7.heap.size ≤ wd.heap.size := Nat.le_trans zc hbd.size; have Bd : Hid (Below w7.heap.size w7 wd) := Bc.out.trans (hbd.mono Bc.out.size); clear pc0 pc1 pc2 pc3 pc4 pc5 pc6 pc7 pc8 pc9 pc10 pc11 zc hbc)
  try (go_wp2_with fail)
  refine hK.out _ _ ?_ (fun hH4 => ?_)
  · (try dsimp only)
    go_keep
  clear hK K hH3
  try simp only [Act.put, List.setIfInBounds_toArray, List.set_cons_zero, List.set_cons_succ]
  refine wpAnyH_take (i := 15) (oi := { dst := some 82, op := Op.unOp UnOp.not 4 (Operand.tmp 81), type := 4, pos := "laws.go:409", after := #[{ on := 14, ground := Ground.data }, { on := 8, ground := Ground.guard }], guard := some (8, false) }) (v := ?va15) rfl (by kernel_rfl) (by kernel_rfl) (by kernel_rfl) (fun _ _ _ h => h) (Or.inl ⟨by rfl, ?hya15⟩) (by assumption) ?resta15
  case hya15 =>
    intro w hSw
    (try dsimp only at hSw)
    go_simp
    try with_reducible rfl
  try simp only [Act.put, List.setIfInBounds_toArray, List.set_cons_zero, List.set_cons_succ]
  refine wpAnyH_take (i := 16) (oi := { dst := some 83, op := Op.pick (Operand.tmp 75) (Operand.const (Value.bool true)) (Operand.tmp 82), type := 4, pos := "laws.go:409", after := #[{ on := 8, ground := Ground.data }, { on := 15, ground := Ground.data }], guard := none }) (v := ?va16) rfl (by kernel_rfl) (by kernel_rfl) (by kernel_rfl) (fun _ _ _ h => h) (Or.inl ⟨by rfl, ?hya16⟩) (by assumption) ?resta16
  case hya16 =>
    intro w hSw
    (try dsimp only at hSw)
    go_simp
    try with_reducible rfl
  try simp only [Act.put, List.setIfInBounds_toArray, List.set_cons_zero, List.set_cons_succ]
  refine wpAnyH_take (i := 17) (oi := { dst := some 84, op := Op.move (Operand.tmp 83), type := 4, pos := "laws.go:409", after := #[{ on := 16, ground := Ground.data }, { on := 14, ground := Ground.chain }], guard := none }) (v := ?va17) rfl (by kernel_rfl) (by kernel_rfl) (by kernel_rfl) (fun _ _ _ h => h) (Or.inl ⟨by rfl, ?hya17⟩) (by assumption) ?resta17
  case hya17 =>
    intro w hSw
    (try dsimp only at hSw)
    go_simp
    try with_reducible rfl
  try simp only [Act.put, List.setIfInBounds_toArray, List.set_cons_zero, List.set_cons_succ]
  refine wpAnyH_take (i := 18) (oi := { dst := some 85, op := Op.move (Operand.tmp 17), type := 23, pos := "laws.go:409", after := #[{ on := 17, ground := Ground.guard }], guard := some (17, false) }) (v := ?va18) rfl (by kernel_rfl) (by kernel_rfl) (by kernel_rfl) (fun _ _ _ h => h) (Or.inl ⟨by rfl, ?hya18⟩) (by assumption) ?resta18
  case hya18 =>
    intro w hSw
    (try dsimp only at hSw)
    go_simp
    try with_reducible rfl
  try simp only [Act.put, List.setIfInBounds_toArray, List.set_cons_zero, List.set_cons_succ]
  refine wpAnyH_take (i := 19) (oi := { dst := some 86, op := Op.move (Operand.tmp 14), type := 23, pos := "laws.go:409", after := #[{ on := 17, ground := Ground.guard }], guard := some (17, false) }) (v := ?va19) rfl (by kernel_rfl) (by kernel_rfl) (by kernel_rfl) (fun _ _ _ h => h) (Or.inl ⟨by rfl, ?hya19⟩) (by assumption) ?resta19
  case hya19 =>
    intro w hSw
    (try dsimp only at hSw)
    go_simp
    try with_reducible rfl
  try simp only [Act.put, List.setIfInBounds_toArray, List.set_cons_zero, List.set_cons_succ]
  refine wpAnyH_take (i := 20) (oi := { dst := some 87, op := Op.move (Operand.tmp 15), type := 9, pos := "laws.go:409", after := #[{ on := 17, ground := Ground.guard }], guard := some (17, false) }) (v := ?va20) rfl (by kernel_rfl) (by kernel_rfl) (by kernel_rfl) (fun _ _ _ h => h) (Or.inl ⟨by rfl, ?hya20⟩) (by assumption) ?resta20
  case hya20 =>
    intro w hSw
    (try dsimp only at hSw)
    go_simp
    try with_reducible rfl
  try simp only [Act.put, List.setIfInBounds_toArray, List.set_cons_zero, List.set_cons_succ]
  refine wpAnyH_take (i := 21) (oi := { dst := some 88, op := Op.move (Operand.tmp 16), type := 9, pos := "laws.go:409", after := #[{ on := 17, ground := Ground.guard }], guard := some (17, false) }) (v := ?va21) rfl (by kernel_rfl) (by kernel_rfl) (by kernel_rfl) (fun _ _ _ h => h) (Or.inl ⟨by rfl, ?hya21⟩) (by assumption) ?resta21
  case hya21 =>
    intro w hSw
    (try dsimp only at hSw)
    go_simp
    try with_reducible rfl
  try simp only [Act.put, List.setIfInBounds_toArray, List.set_cons_zero, List.set_cons_succ]
  refine wpAnyH_ready (rs := [22]) (by kernel_rfl) (by simp) ?_
  refine AllReadyH.cons (o := { dst := some 89, op := Op.call { callee := Callee.value (Operand.func 21), args := #[Operand.tmp 86, Operand.tmp 87, Operand.tmp 88], argTypes := #[23, 9, 9] }, type := 23, pos := "laws.go:409", after := #[{ on := 19, ground := Ground.data }, { on := 20, ground := Ground.data }, { on := 21, ground := Ground.data }, { on := 17, ground := Ground.chain }, { on := 17, ground := Ground.guard }], guard := some (17, false) }) rfl (fun K hK => ?_) AllReadyH.nil
  go_simp
  (go_at_call 21; refine (KD.out _ Bd.out).mono ?_; rintro e we ⟨vqe, rfl, sse, hbe⟩; have Te := Cells.below (L := [(⟨bx, 0, none⟩, .slice px Zp.ar.length cx), (⟨bx, 1, none⟩, .bool Zp.us), (⟨bx, 2, none⟩, .int .i64 Zp.co), (⟨ba, 0, none⟩, .string at'), (⟨ba, 1, none⟩, .string as'), (⟨ba, 2, none⟩, .bool tc), (⟨ba, 3, none⟩, .bool sa), (⟨ba, 4, none⟩, .bool re), (⟨ba, 5, none⟩, .bool ye), (⟨by', 0, none⟩, .slice py Za.ar.length cy), (⟨by', 1, none⟩, .bool Za.us), (⟨by', 2, none⟩, .int .i64 Za.co)]) (by simp only [Cells]; go_keep) hbe; simp only [Cells] at Te; obtain ⟨pe0, pe1, pe2, pe3, pe4, pe5, pe6, pe7, pe8, pe9, pe10, pe11, -⟩ := Te; have ze : w7.heap.size ≤ we.heap.size := Nat.le_trans zd hbe.size; have Be : Hid (Below w7.heap.size w7 we) := Bd.out.trans (hbe.mono Bd.out.size); clear pd0 pd1 pd2 pd3 pd4 pd5 pd6 pd7 pd8 pd9 pd10 pd11 zd hbd)
  try (go_wp2_with fail)
  refine hK.out _ _ ?_ (fun hH5 => ?_)
  · (try dsimp only)
    go_keep
  clear hK K hH4
  try simp only [Act.put, List.setIfInBounds_toArray, List.set_cons_zero, List.set_cons_succ]
  refine wpAnyH_ready (rs := [23]) (by kernel_rfl) (by simp) ?_
  refine AllReadyH.cons (o := { dst := some 90, op := Op.call { callee := Callee.value (Operand.func 20), args := #[Operand.tmp 85, Operand.tmp 89], argTypes := #[23, 23] }, type := 4, pos := "laws.go:409", after := #[{ on := 18, ground := Ground.data }, { on := 22, ground := Ground.data }, { on := 22, ground := Ground.chain }, { on := 17, ground := Ground.guard }], guard := some (17, false) }) rfl (fun K hK => ?_) AllReadyH.nil
  go_simp
  (go_at_call 20; refine (KXd.out _ _ _ Be.out sse).mono ?_; rintro e wf ⟨rfl, hbf⟩; have Tf := Cells.below (L := [(⟨bx, 0, none⟩, .slice px Zp.ar.length cx), (⟨bx, 1, none⟩, .bool Zp.us), (⟨bx, 2, none⟩, .int .i64 Zp.co), (⟨ba, 0, none⟩, .string at'), (⟨ba, 1, none⟩, .string as'), (⟨ba, 2, none⟩, .bool tc), (⟨ba, 3, none⟩, .bool sa), (⟨ba, 4, none⟩, .bool re), (⟨ba, 5, none⟩, .bool ye), (⟨by', 0, none⟩, .slice py Za.ar.length cy), (⟨by', 1, none⟩, .bool Za.us), (⟨by', 2, none⟩, .int .i64 Za.co)]) (by simp only [Cells]; go_keep) hbf; simp only [Cells] at Tf; obtain ⟨pf0, pf1, pf2, pf3, pf4, pf5, pf6, pf7, pf8, pf9, pf10, pf11, -⟩ := Tf; have zf : w7.heap.size ≤ wf.heap.size := Nat.le_trans ze hbf.size; have Bf : Hid (Below w7.heap.size w7 wf) := Be.out.trans (hbf.mono Be.out.size); clear pe0 pe1 pe2 pe3 pe4 pe5 pe6 pe7 pe8 pe9 pe10 pe11 ze hbe)
  try (go_wp2_with fail)
  refine hK.out _ _ ?_ (fun hH6 => ?_)
  · (try dsimp only)
    go_keep
  clear hK K hH5
  try simp only [Act.put, List.setIfInBounds_toArray, List.set_cons_zero, List.set_cons_succ]
  refine wpAnyH_take (i := 24) (oi := { dst := some 91, op := Op.unOp UnOp.not 4 (Operand.tmp 90), type := 4, pos := "laws.go:409", after := #[{ on := 23, ground := Ground.data }, { on := 17, ground := Ground.guard }], guard := some (17, false) }) (v := ?va24) rfl (by kernel_rfl) (by kernel_rfl) (by kernel_rfl) (fun _ _ _ h => h) (Or.inl ⟨by rfl, ?hya24⟩) (by assumption) ?resta24
  case hya24 =>
    intro w hSw
    (try dsimp only at hSw)
    go_simp
    try with_reducible rfl
  try simp only [Act.put, List.setIfInBounds_toArray, List.set_cons_zero, List.set_cons_succ]
  refine wpAnyH_take (i := 25) (oi := { dst := some 92, op := Op.pick (Operand.tmp 84) (Operand.const (Value.bool true)) (Operand.tmp 91), type := 4, pos := "laws.go:409", after := #[{ on := 17, ground := Ground.data }, { on := 24, ground := Ground.data }], guard := none }) (v := ?va25) rfl (by kernel_rfl) (by kernel_rfl) (by kernel_rfl) (fun _ _ _ h => h) (Or.inl ⟨by rfl, ?hya25⟩) (by assumption) ?resta25
  case hya25 =>
    intro w hSw
    (try dsimp only at hSw)
    go_simp
    try with_reducible rfl
  try simp only [Act.put, List.setIfInBounds_toArray, List.set_cons_zero, List.set_cons_succ]
  refine wpAnyH_take (i := 26) (oi := { dst := some 93, op := Op.move (Operand.tmp 92), type := 4, pos := "laws.go:409", after := #[{ on := 25, ground := Ground.data }, { on := 23, ground := Ground.chain }], guard := none }) (v := ?va26) rfl (by kernel_rfl) (by kernel_rfl) (by kernel_rfl) (fun _ _ _ h => h) (Or.inl ⟨by rfl, ?hya26⟩) (by assumption) ?resta26
  case hya26 =>
    intro w hSw
    (try dsimp only at hSw)
    go_simp
    try with_reducible rfl
  try simp only [Act.put, List.setIfInBounds_toArray, List.set_cons_zero, List.set_cons_succ]
  refine wpAnyH_take (i := 27) (oi := { dst := some 94, op := Op.move (Operand.tmp 18), type := 23, pos := "laws.go:409", after := #[{ on := 26, ground := Ground.guard }], guard := some (26, false) }) (v := ?va27) rfl (by kernel_rfl) (by kernel_rfl) (by kernel_rfl) (fun _ _ _ h => h) (Or.inl ⟨by rfl, ?hya27⟩) (by assumption) ?resta27
  case hya27 =>
    intro w hSw
    (try dsimp only at hSw)
    go_simp
    try with_reducible rfl
  try simp only [Act.put, List.setIfInBounds_toArray, List.set_cons_zero, List.set_cons_succ]
  refine wpAnyH_take (i := 28) (oi := { dst := some 95, op := Op.move (Operand.tmp 19), type := 2, pos := "laws.go:409", after := #[{ on := 26, ground := Ground.guard }], guard := some (26, false) }) (v := ?va28) rfl (by kernel_rfl) (by kernel_rfl) (by kernel_rfl) (fun _ _ _ h => h) (Or.inl ⟨by rfl, ?hya28⟩) (by assumption) ?resta28
  case hya28 =>
    intro w hSw
    (try dsimp only at hSw)
    go_simp
    try with_reducible rfl
  try simp only [Act.put, List.setIfInBounds_toArray, List.set_cons_zero, List.set_cons_succ]
  refine wpAnyH_take (i := 30) (oi := { dst := some 97, op := Op.move (Operand.tmp 18), type := 23, pos := "laws.go:409", after := #[{ on := 26, ground := Ground.guard }], guard := some (26, false) }) (v := ?va30) rfl (by kernel_rfl) (by kernel_rfl) (by kernel_rfl) (fun _ _ _ h => h) (Or.inl ⟨by rfl, ?hya30⟩) (by assumption) ?resta30
  case hya30 =>
    intro w hSw
    (try dsimp only at hSw)
    go_simp
    try with_reducible rfl
  try simp only [Act.put, List.setIfInBounds_toArray, List.set_cons_zero, List.set_cons_succ]
  refine wpAnyH_take (i := 31) (oi := { dst := some 98, op := Op.move (Operand.tmp 19), type := 2, pos := "laws.go:409", after := #[{ on := 26, ground := Ground.guard }], guard := some (26, false) }) (v := ?va31) rfl (by kernel_rfl) (by kernel_rfl) (by kernel_rfl) (fun _ _ _ h => h) (Or.inl ⟨by rfl, ?hya31⟩) (by assumption) ?resta31
  case hya31 =>
    intro w hSw
    (try dsimp only at hSw)
    go_simp
    try with_reducible rfl
  try simp only [Act.put, List.setIfInBounds_toArray, List.set_cons_zero, List.set_cons_succ]
  refine wpAnyH_ready (rs := [29]) (by kernel_rfl) (by simp) ?_
  refine AllReadyH.cons (o := { dst := some 96, op := Op.call { callee := Callee.value (Operand.func 22), args := #[Operand.tmp 94, Operand.tmp 95], argTypes := #[23, 2] }, type := 23, pos := "laws.go:409", after := #[{ on := 27, ground := Ground.data }, { on := 28, ground := Ground.data }, { on := 26, ground := Ground.chain }, { on := 26, ground := Ground.guard }], guard := some (26, false) }) rfl (fun K hK => ?_) AllReadyH.nil
  go_simp
  (go_at_call 22; refine (KO1.out _ Bf.out).mono ?_; rintro e wg ⟨vqg, rfl, ssg, hbg⟩; have Tg := Cells.below (L := [(⟨bx, 0, none⟩, .slice px Zp.ar.length cx), (⟨bx, 1, none⟩, .bool Zp.us), (⟨bx, 2, none⟩, .int .i64 Zp.co), (⟨ba, 0, none⟩, .string at'), (⟨ba, 1, none⟩, .string as'), (⟨ba, 2, none⟩, .bool tc), (⟨ba, 3, none⟩, .bool sa), (⟨ba, 4, none⟩, .bool re), (⟨ba, 5, none⟩, .bool ye), (⟨by', 0, none⟩, .slice py Za.ar.length cy), (⟨by', 1, none⟩, .bool Za.us), (⟨by', 2, none⟩, .int .i64 Za.co)]) (by simp only [Cells]; go_keep) hbg; simp only [Cells] at Tg; obtain ⟨pg0, pg1, pg2, pg3, pg4, pg5, pg6, pg7, pg8, pg9, pg10, pg11, -⟩ := Tg; have zg : w7.heap.size ≤ wg.heap.size := Nat.le_trans zf hbg.size; have Bg : Hid (Below w7.heap.size w7 wg) := Bf.out.trans (hbg.mono Bf.out.size); clear pf0 pf1 pf2 pf3 pf4 pf5 pf6 pf7 pf8 pf9 pf10 pf11 zf hbf)
  try (go_wp2_with fail)
  refine hK.out _ _ ?_ (fun hH7 => ?_)
  · (try dsimp only)
    go_keep
  clear hK K hH6
  try simp only [Act.put, List.setIfInBounds_toArray, List.set_cons_zero, List.set_cons_succ]
  refine wpAnyH_ready (rs := [32]) (by kernel_rfl) (by simp) ?_
  refine AllReadyH.cons (o := { dst := some 99, op := Op.call { callee := Callee.value (Operand.func 23), args := #[Operand.tmp 97, Operand.tmp 98], argTypes := #[23, 2] }, type := 23, pos := "laws.go:409", after := #[{ on := 30, ground := Ground.data }, { on := 31, ground := Ground.data }, { on := 29, ground := Ground.chain }, { on := 26, ground := Ground.guard }], guard := some (26, false) }) rfl (fun K hK => ?_) AllReadyH.nil
  go_simp
  (go_at_call 23; refine (KO2.out _ Bg.out).mono ?_; rintro e wh ⟨vqh, rfl, ssh, hbh⟩; have Th := Cells.below (L := [(⟨bx, 0, none⟩, .slice px Zp.ar.length cx), (⟨bx, 1, none⟩, .bool Zp.us), (⟨bx, 2, none⟩, .int .i64 Zp.co), (⟨ba, 0, none⟩, .string at'), (⟨ba, 1, none⟩, .string as'), (⟨ba, 2, none⟩, .bool tc), (⟨ba, 3, none⟩, .bool sa), (⟨ba, 4, none⟩, .bool re), (⟨ba, 5, none⟩, .bool ye), (⟨by', 0, none⟩, .slice py Za.ar.length cy), (⟨by', 1, none⟩, .bool Za.us), (⟨by', 2, none⟩, .int .i64 Za.co)]) (by simp only [Cells]; go_keep) hbh; simp only [Cells] at Th; obtain ⟨ph0, ph1, ph2, ph3, ph4, ph5, ph6, ph7, ph8, ph9, ph10, ph11, -⟩ := Th; have zh : w7.heap.size ≤ wh.heap.size := Nat.le_trans zg hbh.size; have Bh : Hid (Below w7.heap.size w7 wh) := Bg.out.trans (hbh.mono Bg.out.size); have st := ssg.below hbh; clear pg0 pg1 pg2 pg3 pg4 pg5 pg6 pg7 pg8 pg9 pg10 pg11 zg hbg)
  try (go_wp2_with fail)
  refine hK.out _ _ ?_ (fun hH8 => ?_)
  · (try dsimp only)
    go_keep
  clear hK K hH7
  try simp only [Act.put, List.setIfInBounds_toArray, List.set_cons_zero, List.set_cons_succ]
  refine wpAnyH_ready (rs := [33]) (by kernel_rfl) (by simp) ?_
  refine AllReadyH.cons (o := { dst := some 100, op := Op.call { callee := Callee.value (Operand.func 20), args := #[Operand.tmp 96, Operand.tmp 99], argTypes := #[23, 23] }, type := 4, pos := "laws.go:409", after := #[{ on := 29, ground := Ground.data }, { on := 32, ground := Ground.data }, { on := 32, ground := Ground.chain }, { on := 26, ground := Ground.guard }], guard := some (26, false) }) rfl (fun K hK => ?_) AllReadyH.nil
  go_simp
  (go_at_call 20; refine (KXo.out _ _ _ _ _ st ssh).mono ?_; rintro e wi ⟨rfl, hbi⟩; have Ti := Cells.below (L := [(⟨bx, 0, none⟩, .slice px Zp.ar.length cx), (⟨bx, 1, none⟩, .bool Zp.us), (⟨bx, 2, none⟩, .int .i64 Zp.co), (⟨ba, 0, none⟩, .string at'), (⟨ba, 1, none⟩, .string as'), (⟨ba, 2, none⟩, .bool tc), (⟨ba, 3, none⟩, .bool sa), (⟨ba, 4, none⟩, .bool re), (⟨ba, 5, none⟩, .bool ye), (⟨by', 0, none⟩, .slice py Za.ar.length cy), (⟨by', 1, none⟩, .bool Za.us), (⟨by', 2, none⟩, .int .i64 Za.co)]) (by simp only [Cells]; go_keep) hbi; simp only [Cells] at Ti; obtain ⟨pi0, pi1, pi2, pi3, pi4, pi5, pi6, pi7, pi8, pi9, pi10, pi11, -⟩ := Ti; have zi : w7.heap.size ≤ wi.heap.size := Nat.le_trans zh hbi.size; have Bi : Hid (Below w7.heap.size w7 wi) := Bh.out.trans (hbi.mono Bh.out.size); clear ph0 ph1 ph2 ph3 ph4 ph5 ph6 ph7 ph8 ph9 ph10 ph11 zh hbh)
  try (go_wp2_with fail)
  refine hK.out _ _ ?_ (fun hH9 => ?_)
  · (try dsimp only)
    go_keep
  clear hK K hH8
  try simp only [Act.put, List.setIfInBounds_toArray, List.set_cons_zero, List.set_cons_succ]
  refine wpAnyH_take (i := 34) (oi := { dst := some 101, op := Op.unOp UnOp.not 4 (Operand.tmp 100), type := 4, pos := "laws.go:409", after := #[{ on := 33, ground := Ground.data }, { on := 26, ground := Ground.guard }], guard := some (26, false) }) (v := ?va34) rfl (by kernel_rfl) (by kernel_rfl) (by kernel_rfl) (fun _ _ _ h => h) (Or.inl ⟨by rfl, ?hya34⟩) (by assumption) ?resta34
  case hya34 =>
    intro w hSw
    (try dsimp only at hSw)
    go_simp
    try with_reducible rfl
  try simp only [Act.put, List.setIfInBounds_toArray, List.set_cons_zero, List.set_cons_succ]
  refine wpAnyH_take (i := 35) (oi := { dst := some 102, op := Op.pick (Operand.tmp 93) (Operand.const (Value.bool true)) (Operand.tmp 101), type := 4, pos := "laws.go:409", after := #[{ on := 26, ground := Ground.data }, { on := 34, ground := Ground.data }], guard := none }) (v := ?va35) rfl (by kernel_rfl) (by kernel_rfl) (by kernel_rfl) (fun _ _ _ h => h) (Or.inl ⟨by rfl, ?hya35⟩) (by assumption) ?resta35
  case hya35 =>
    intro w hSw
    (try dsimp only at hSw)
    go_simp
    try with_reducible rfl
  try simp only [Act.put, List.setIfInBounds_toArray, List.set_cons_zero, List.set_cons_succ]
  refine wpAnyH_take (i := 36) (oi := { dst := some 103, op := Op.move (Operand.tmp 102), type := 4, pos := "laws.go:409", after := #[{ on := 35, ground := Ground.data }, { on := 33, ground := Ground.chain }], guard := none }) (v := ?va36) rfl (by kernel_rfl) (by kernel_rfl) (by kernel_rfl) (fun _ _ _ h => h) (Or.inl ⟨by rfl, ?hya36⟩) (by assumption) ?resta36
  case hya36 =>
    intro w hSw
    (try dsimp only at hSw)
    go_simp
    try with_reducible rfl
  try simp only [Act.put, List.setIfInBounds_toArray, List.set_cons_zero, List.set_cons_succ]
  refine wpAnyH_take (i := 37) (oi := { dst := some 104, op := Op.move (Operand.tmp 5), type := 23, pos := "laws.go:409", after := #[{ on := 36, ground := Ground.guard }], guard := some (36, false) }) (v := ?va37) rfl (by kernel_rfl) (by kernel_rfl) (by kernel_rfl) (fun _ _ _ h => h) (Or.inl ⟨by rfl, ?hya37⟩) (by assumption) ?resta37
  case hya37 =>
    intro w hSw
    (try dsimp only at hSw)
    go_simp
    try with_reducible rfl
  try simp only [Act.put, List.setIfInBounds_toArray, List.set_cons_zero, List.set_cons_succ]
  refine wpAnyH_take (i := 38) (oi := { dst := some 105, op := Op.move (Operand.tmp 6), type := 9, pos := "laws.go:409", after := #[{ on := 36, ground := Ground.guard }], guard := some (36, false) }) (v := ?va38) rfl (by kernel_rfl) (by kernel_rfl) (by kernel_rfl) (fun _ _ _ h => h) (Or.inl ⟨by rfl, ?hya38⟩) (by assumption) ?resta38
  case hya38 =>
    intro w hSw
    (try dsimp only at hSw)
    go_simp
    try with_reducible rfl
  try simp only [Act.put, List.setIfInBounds_toArray, List.set_cons_zero, List.set_cons_succ]
  refine wpAnyH_take (i := 39) (oi := { dst := some 106, op := Op.move (Operand.tmp 7), type := 9, pos := "laws.go:409", after := #[{ on := 36, ground := Ground.guard }], guard := some (36, false) }) (v := ?va39) rfl (by kernel_rfl) (by kernel_rfl) (by kernel_rfl) (fun _ _ _ h => h) (Or.inl ⟨by rfl, ?hya39⟩) (by assumption) ?resta39
  case hya39 =>
    intro w hSw
    (try dsimp only at hSw)
    go_simp
    try with_reducible rfl
  try simp only [Act.put, List.setIfInBounds_toArray, List.set_cons_zero, List.set_cons_succ]
  refine wpAnyH_take (i := 40) (oi := { dst := some 107, op := Op.move (Operand.tmp 8), type := 2, pos := "laws.go:409", after := #[{ on := 36, ground := Ground.guard }], guard := some (36, false) }) (v := ?va40) rfl (by kernel_rfl) (by kernel_rfl) (by kernel_rfl) (fun _ _ _ h => h) (Or.inl ⟨by rfl, ?hya40⟩) (by assumption) ?resta40
  case hya40 =>
    intro w hSw
    (try dsimp only at hSw)
    go_simp
    try with_reducible rfl
  try simp only [Act.put, List.setIfInBounds_toArray, List.set_cons_zero, List.set_cons_succ]
  refine wpAnyH_take (i := 42) (oi := { dst := some 109, op := Op.move (Operand.tmp 5), type := 23, pos := "laws.go:409", after := #[{ on := 36, ground := Ground.guard }], guard := some (36, false) }) (v := ?va42) rfl (by kernel_rfl) (by kernel_rfl) (by kernel_rfl) (fun _ _ _ h => h) (Or.inl ⟨by rfl, ?hya42⟩) (by assumption) ?resta42
  case hya42 =>
    intro w hSw
    (try dsimp only at hSw)
    go_simp
    try with_reducible rfl
  try simp only [Act.put, List.setIfInBounds_toArray, List.set_cons_zero, List.set_cons_succ]
  refine wpAnyH_take (i := 43) (oi := { dst := some 110, op := Op.move (Operand.tmp 6), type := 9, pos := "laws.go:409", after := #[{ on := 36, ground := Ground.guard }], guard := some (36, false) }) (v := ?va43) rfl (by kernel_rfl) (by kernel_rfl) (by kernel_rfl) (fun _ _ _ h => h) (Or.inl ⟨by rfl, ?hya43⟩) (by assumption) ?resta43
  case hya43 =>
    intro w hSw
    (try dsimp only at hSw)
    go_simp
    try with_reducible rfl
  try simp only [Act.put, List.setIfInBounds_toArray, List.set_cons_zero, List.set_cons_succ]
  refine wpAnyH_take (i := 44) (oi := { dst := some 111, op := Op.move (Operand.tmp 7), type := 9, pos := "laws.go:409", after := #[{ on := 36, ground := Ground.guard }], guard := some (36, false) }) (v := ?va44) rfl (by kernel_rfl) (by kernel_rfl) (by kernel_rfl) (fun _ _ _ h => h) (Or.inl ⟨by rfl, ?hya44⟩) (by assumption) ?resta44
  case hya44 =>
    intro w hSw
    (try dsimp only at hSw)
    go_simp
    try with_reducible rfl
  try simp only [Act.put, List.setIfInBounds_toArray, List.set_cons_zero, List.set_cons_succ]
  refine wpAnyH_take (i := 45) (oi := { dst := some 112, op := Op.move (Operand.tmp 8), type := 2, pos := "laws.go:409", after := #[{ on := 36, ground := Ground.guard }], guard := some (36, false) }) (v := ?va45) rfl (by kernel_rfl) (by kernel_rfl) (by kernel_rfl) (fun _ _ _ h => h) (Or.inl ⟨by rfl, ?hya45⟩) (by assumption) ?resta45
  case hya45 =>
    intro w hSw
    (try dsimp only at hSw)
    go_simp
    try with_reducible rfl
  try simp only [Act.put, List.setIfInBounds_toArray, List.set_cons_zero, List.set_cons_succ]
  refine wpAnyH_ready (rs := [41]) (by kernel_rfl) (by simp) ?_
  refine AllReadyH.cons (o := { dst := some 108, op := Op.call { callee := Callee.value (Operand.func 24), args := #[Operand.tmp 104, Operand.tmp 105, Operand.tmp 106, Operand.tmp 107], argTypes := #[23, 9, 9, 2] }, type := 4, pos := "laws.go:409", after := #[{ on := 37, ground := Ground.data }, { on := 38, ground := Ground.data }, { on := 39, ground := Ground.data }, { on := 40, ground := Ground.data }, { on := 36, ground := Ground.chain }, { on := 36, ground := Ground.guard }], guard := some (36, false) }) rfl (fun K hK => ?_) AllReadyH.nil
  go_simp
  (go_at_call 24; refine (KV1.out _ Bi.out).mono ?_; rintro e wj ⟨rfl, hbj⟩; have Tj := Cells.below (L := [(⟨bx, 0, none⟩, .slice px Zp.ar.length cx), (⟨bx, 1, none⟩, .bool Zp.us), (⟨bx, 2, none⟩, .int .i64 Zp.co), (⟨ba, 0, none⟩, .string at'), (⟨ba, 1, none⟩, .string as'), (⟨ba, 2, none⟩, .bool tc), (⟨ba, 3, none⟩, .bool sa), (⟨ba, 4, none⟩, .bool re), (⟨ba, 5, none⟩, .bool ye), (⟨by', 0, none⟩, .slice py Za.ar.length cy), (⟨by', 1, none⟩, .bool Za.us), (⟨by', 2, none⟩, .int .i64 Za.co)]) (by simp only [Cells]; go_keep) hbj; simp only [Cells] at Tj; obtain ⟨pj0, pj1, pj2, pj3, pj4, pj5, pj6, pj7, pj8, pj9, pj10, pj11, -⟩ := Tj; have zj : w7.heap.size ≤ wj.heap.size := Nat.le_trans zi hbj.size; have Bj : Hid (Below w7.heap.size w7 wj) := Bi.out.trans (hbj.mono Bi.out.size); clear pi0 pi1 pi2 pi3 pi4 pi5 pi6 pi7 pi8 pi9 pi10 pi11 zi hbi)
  try (go_wp2_with fail)
  refine hK.out _ _ ?_ (fun hH10 => ?_)
  · (try dsimp only)
    go_keep
  clear hK K hH9
  try simp only [Act.put, List.setIfInBounds_toArray, List.set_cons_zero, List.set_cons_succ]
  refine wpAnyH_ready (rs := [46]) (by kernel_rfl) (by simp) ?_
  refine AllReadyH.cons (o := { dst := some 113, op := Op.call { callee := Callee.value (Operand.func 25), args := #[Operand.tmp 109, Operand.tmp 110, Operand.tmp 111, Operand.tmp 112], argTypes := #[23, 9, 9, 2] }, type := 4, pos := "laws.go:409", after := #[{ on := 42, ground := Ground.data }, { on := 43, ground := Ground.data }, { on := 44, ground := Ground.data }, { on := 45, ground := Ground.data }, { on := 41, ground := Ground.chain }, { on := 36, ground := Ground.guard }], guard := some (36, false) }) rfl (fun K hK => ?_) AllReadyH.nil
  go_simp
  (go_at_call 25; refine (KV2.out _ Bj.out).mono ?_; rintro e wk ⟨rfl, hbk⟩; have Tk := Cells.below (L := [(⟨bx, 0, none⟩, .slice px Zp.ar.length cx), (⟨bx, 1, none⟩, .bool Zp.us), (⟨bx, 2, none⟩, .int .i64 Zp.co), (⟨ba, 0, none⟩, .string at'), (⟨ba, 1, none⟩, .string as'), (⟨ba, 2, none⟩, .bool tc), (⟨ba, 3, none⟩, .bool sa), (⟨ba, 4, none⟩, .bool re), (⟨ba, 5, none⟩, .bool ye), (⟨by', 0, none⟩, .slice py Za.ar.length cy), (⟨by', 1, none⟩, .bool Za.us), (⟨by', 2, none⟩, .int .i64 Za.co)]) (by simp only [Cells]; go_keep) hbk; simp only [Cells] at Tk; obtain ⟨pk0, pk1, pk2, pk3, pk4, pk5, pk6, pk7, pk8, pk9, pk10, pk11, -⟩ := Tk; have zk : w7.heap.size ≤ wk.heap.size := Nat.le_trans zj hbk.size; have Bk : Hid (Below w7.heap.size w7 wk) := Bj.out.trans (hbk.mono Bj.out.size); clear pj0 pj1 pj2 pj3 pj4 pj5 pj6 pj7 pj8 pj9 pj10 pj11 zj hbj)
  try (go_wp2_with fail)
  refine hK.out _ _ ?_ (fun hH11 => ?_)
  · (try dsimp only)
    go_keep
  clear hK K hH10
  try simp only [Act.put, List.setIfInBounds_toArray, List.set_cons_zero, List.set_cons_succ]
  refine wpAnyH_take (i := 47) (oi := { dst := some 114, op := Op.binOp BinOp.neq 4 (Operand.tmp 108) (Operand.tmp 113) 4, type := 4, pos := "laws.go:409", after := #[{ on := 41, ground := Ground.data }, { on := 46, ground := Ground.data }, { on := 36, ground := Ground.guard }], guard := some (36, false) }) (v := ?va47) rfl (by kernel_rfl) (by kernel_rfl) (by kernel_rfl) (fun _ _ _ h => h) (Or.inl ⟨by rfl, ?hya47⟩) (by assumption) ?resta47
  case hya47 =>
    intro w hSw
    (try dsimp only at hSw)
    go_simp
    try with_reducible rfl
  try simp only [Act.put, List.setIfInBounds_toArray, List.set_cons_zero, List.set_cons_succ]
  refine wpAnyH_take (i := 48) (oi := { dst := some 115, op := Op.pick (Operand.tmp 103) (Operand.const (Value.bool true)) (Operand.tmp 114), type := 4, pos := "laws.go:409", after := #[{ on := 36, ground := Ground.data }, { on := 47, ground := Ground.data }], guard := none }) (v := ?va48) rfl (by kernel_rfl) (by kernel_rfl) (by kernel_rfl) (fun _ _ _ h => h) (Or.inl ⟨by rfl, ?hya48⟩) (by assumption) ?resta48
  case hya48 =>
    intro w hSw
    (try dsimp only at hSw)
    go_simp
    try with_reducible rfl
  try simp only [Act.put, List.setIfInBounds_toArray, List.set_cons_zero, List.set_cons_succ]
  refine wpAnyH_take (i := 49) (oi := { dst := some 116, op := Op.move (Operand.tmp 115), type := 4, pos := "laws.go:409", after := #[{ on := 48, ground := Ground.data }, { on := 46, ground := Ground.chain }], guard := none }) (v := ?va49) rfl (by kernel_rfl) (by kernel_rfl) (by kernel_rfl) (fun _ _ _ h => h) (Or.inl ⟨by rfl, ?hya49⟩) (by assumption) ?resta49
  case hya49 =>
    intro w hSw
    (try dsimp only at hSw)
    go_simp
    try with_reducible rfl
  try simp only [Act.put, List.setIfInBounds_toArray, List.set_cons_zero, List.set_cons_succ]
  refine wpAnyH_take (i := 50) (oi := { dst := some 117, op := Op.move (Operand.tmp 18), type := 23, pos := "laws.go:409", after := #[{ on := 49, ground := Ground.guard }], guard := some (49, false) }) (v := ?va50) rfl (by kernel_rfl) (by kernel_rfl) (by kernel_rfl) (fun _ _ _ h => h) (Or.inl ⟨by rfl, ?hya50⟩) (by assumption) ?resta50
  case hya50 =>
    intro w hSw
    (try dsimp only at hSw)
    go_simp
    try with_reducible rfl
  try simp only [Act.put, List.setIfInBounds_toArray, List.set_cons_zero, List.set_cons_succ]
  refine wpAnyH_take (i := 52) (oi := { dst := some 119, op := Op.move (Operand.tmp 18), type := 23, pos := "laws.go:409", after := #[{ on := 49, ground := Ground.guard }], guard := some (49, false) }) (v := ?va52) rfl (by kernel_rfl) (by kernel_rfl) (by kernel_rfl) (fun _ _ _ h => h) (Or.inl ⟨by rfl, ?hya52⟩) (by assumption) ?resta52
  case hya52 =>
    intro w hSw
    (try dsimp only at hSw)
    go_simp
    try with_reducible rfl
  try simp only [Act.put, List.setIfInBounds_toArray, List.set_cons_zero, List.set_cons_succ]
  refine wpAnyH_ready (rs := [51]) (by kernel_rfl) (by simp) ?_
  refine AllReadyH.cons (o := { dst := some 118, op := Op.call { callee := Callee.value (Operand.func 26), args := #[Operand.tmp 117], argTypes := #[23] }, type := 4, pos := "laws.go:409", after := #[{ on := 50, ground := Ground.data }, { on := 49, ground := Ground.chain }, { on := 49, ground := Ground.guard }], guard := some (49, false) }) rfl (fun K hK => ?_) AllReadyH.nil
  go_simp
  (go_at_call 26; refine (KR1.out _ Bk.out).mono ?_; rintro e wl ⟨rfl, hbl⟩; have Tl := Cells.below (L := [(⟨bx, 0, none⟩, .slice px Zp.ar.length cx), (⟨bx, 1, none⟩, .bool Zp.us), (⟨bx, 2, none⟩, .int .i64 Zp.co), (⟨ba, 0, none⟩, .string at'), (⟨ba, 1, none⟩, .string as'), (⟨ba, 2, none⟩, .bool tc), (⟨ba, 3, none⟩, .bool sa), (⟨ba, 4, none⟩, .bool re), (⟨ba, 5, none⟩, .bool ye), (⟨by', 0, none⟩, .slice py Za.ar.length cy), (⟨by', 1, none⟩, .bool Za.us), (⟨by', 2, none⟩, .int .i64 Za.co)]) (by simp only [Cells]; go_keep) hbl; simp only [Cells] at Tl; obtain ⟨pl0, pl1, pl2, pl3, pl4, pl5, pl6, pl7, pl8, pl9, pl10, pl11, -⟩ := Tl; have zl : w7.heap.size ≤ wl.heap.size := Nat.le_trans zk hbl.size; have Bl : Hid (Below w7.heap.size w7 wl) := Bk.out.trans (hbl.mono Bk.out.size); clear pk0 pk1 pk2 pk3 pk4 pk5 pk6 pk7 pk8 pk9 pk10 pk11 zk hbk)
  try (go_wp2_with fail)
  refine hK.out _ _ ?_ (fun hH12 => ?_)
  · (try dsimp only)
    go_keep
  clear hK K hH11
  try simp only [Act.put, List.setIfInBounds_toArray, List.set_cons_zero, List.set_cons_succ]
  refine wpAnyH_ready (rs := [53]) (by kernel_rfl) (by simp) ?_
  refine AllReadyH.cons (o := { dst := some 120, op := Op.call { callee := Callee.value (Operand.func 27), args := #[Operand.tmp 119], argTypes := #[23] }, type := 4, pos := "laws.go:409", after := #[{ on := 52, ground := Ground.data }, { on := 51, ground := Ground.chain }, { on := 49, ground := Ground.guard }], guard := some (49, false) }) rfl (fun K hK => ?_) AllReadyH.nil
  go_simp
  (go_at_call 27; refine (KR2.out _ Bl.out).mono ?_; rintro e wm ⟨rfl, hbm⟩; have Tm := Cells.below (L := [(⟨bx, 0, none⟩, .slice px Zp.ar.length cx), (⟨bx, 1, none⟩, .bool Zp.us), (⟨bx, 2, none⟩, .int .i64 Zp.co), (⟨ba, 0, none⟩, .string at'), (⟨ba, 1, none⟩, .string as'), (⟨ba, 2, none⟩, .bool tc), (⟨ba, 3, none⟩, .bool sa), (⟨ba, 4, none⟩, .bool re), (⟨ba, 5, none⟩, .bool ye), (⟨by', 0, none⟩, .slice py Za.ar.length cy), (⟨by', 1, none⟩, .bool Za.us), (⟨by', 2, none⟩, .int .i64 Za.co)]) (by simp only [Cells]; go_keep) hbm; simp only [Cells] at Tm; obtain ⟨pm0, pm1, pm2, pm3, pm4, pm5, pm6, pm7, pm8, pm9, pm10, pm11, -⟩ := Tm; have zm : w7.heap.size ≤ wm.heap.size := Nat.le_trans zl hbm.size; have Bm : Hid (Below w7.heap.size w7 wm) := Bl.out.trans (hbm.mono Bl.out.size); clear pl0 pl1 pl2 pl3 pl4 pl5 pl6 pl7 pl8 pl9 pl10 pl11 zl hbl)
  try (go_wp2_with fail)
  refine hK.out _ _ ?_ (fun hH13 => ?_)
  · (try dsimp only)
    go_keep
  clear hK K hH12
  try simp only [Act.put, List.setIfInBounds_toArray, List.set_cons_zero, List.set_cons_succ]
  refine wpAnyH_take (i := 54) (oi := { dst := some 121, op := Op.binOp BinOp.neq 4 (Operand.tmp 118) (Operand.tmp 120) 4, type := 4, pos := "laws.go:409", after := #[{ on := 51, ground := Ground.data }, { on := 53, ground := Ground.data }, { on := 49, ground := Ground.guard }], guard := some (49, false) }) (v := ?va54) rfl (by kernel_rfl) (by kernel_rfl) (by kernel_rfl) (fun _ _ _ h => h) (Or.inl ⟨by rfl, ?hya54⟩) (by assumption) ?resta54
  case hya54 =>
    intro w hSw
    (try dsimp only at hSw)
    go_simp
    try with_reducible rfl
  try simp only [Act.put, List.setIfInBounds_toArray, List.set_cons_zero, List.set_cons_succ]
  refine wpAnyH_take (i := 55) (oi := { dst := some 122, op := Op.pick (Operand.tmp 116) (Operand.const (Value.bool true)) (Operand.tmp 121), type := 4, pos := "laws.go:409", after := #[{ on := 49, ground := Ground.data }, { on := 54, ground := Ground.data }], guard := none }) (v := ?va55) rfl (by kernel_rfl) (by kernel_rfl) (by kernel_rfl) (fun _ _ _ h => h) (Or.inl ⟨by rfl, ?hya55⟩) (by assumption) ?resta55
  case hya55 =>
    intro w hSw
    (try dsimp only at hSw)
    go_simp
    try with_reducible rfl
  try simp only [Act.put, List.setIfInBounds_toArray, List.set_cons_zero, List.set_cons_succ]
  refine wpAnyH_take (i := 56) (oi := { dst := some 123, op := Op.move (Operand.tmp 122), type := 4, pos := "laws.go:409", after := #[{ on := 55, ground := Ground.data }, { on := 53, ground := Ground.chain }], guard := none }) (v := ?va56) rfl (by kernel_rfl) (by kernel_rfl) (by kernel_rfl) (fun _ _ _ h => h) (Or.inl ⟨by rfl, ?hya56⟩) (by assumption) ?resta56
  case hya56 =>
    intro w hSw
    (try dsimp only at hSw)
    go_simp
    try with_reducible rfl
  try simp only [Act.put, List.setIfInBounds_toArray, List.set_cons_zero, List.set_cons_succ]
  refine wpAnyH_take (i := 57) (oi := { dst := some 124, op := Op.move (Operand.tmp 17), type := 23, pos := "laws.go:409", after := #[{ on := 56, ground := Ground.guard }], guard := some (56, false) }) (v := ?va57) rfl (by kernel_rfl) (by kernel_rfl) (by kernel_rfl) (fun _ _ _ h => h) (Or.inl ⟨by rfl, ?hya57⟩) (by assumption) ?resta57
  case hya57 =>
    intro w hSw
    (try dsimp only at hSw)
    go_simp
    try with_reducible rfl
  try simp only [Act.put, List.setIfInBounds_toArray, List.set_cons_zero, List.set_cons_succ]
  refine wpAnyH_take (i := 58) (oi := { dst := some 125, op := Op.move (Operand.tmp 15), type := 9, pos := "laws.go:409", after := #[{ on := 56, ground := Ground.guard }], guard := some (56, false) }) (v := ?va58) rfl (by kernel_rfl) (by kernel_rfl) (by kernel_rfl) (fun _ _ _ h => h) (Or.inl ⟨by rfl, ?hya58⟩) (by assumption) ?resta58
  case hya58 =>
    intro w hSw
    (try dsimp only at hSw)
    go_simp
    try with_reducible rfl
  try simp only [Act.put, List.setIfInBounds_toArray, List.set_cons_zero, List.set_cons_succ]
  refine wpAnyH_take (i := 59) (oi := { dst := some 126, op := Op.move (Operand.tmp 16), type := 9, pos := "laws.go:409", after := #[{ on := 56, ground := Ground.guard }], guard := some (56, false) }) (v := ?va59) rfl (by kernel_rfl) (by kernel_rfl) (by kernel_rfl) (fun _ _ _ h => h) (Or.inl ⟨by rfl, ?hya59⟩) (by assumption) ?resta59
  case hya59 =>
    intro w hSw
    (try dsimp only at hSw)
    go_simp
    try with_reducible rfl
  try simp only [Act.put, List.setIfInBounds_toArray, List.set_cons_zero, List.set_cons_succ]
  refine wpAnyH_ready (rs := [60]) (by kernel_rfl) (by simp) ?_
  refine AllReadyH.cons (o := { dst := some 127, op := Op.call { callee := Callee.value (Operand.func 24), args := #[Operand.tmp 124, Operand.tmp 125, Operand.tmp 126, Operand.const (Value.int IntKind.i64 0)], argTypes := #[23, 9, 9, 2] }, type := 4, pos := "laws.go:409", after := #[{ on := 57, ground := Ground.data }, { on := 58, ground := Ground.data }, { on := 59, ground := Ground.data }, { on := 56, ground := Ground.chain }, { on := 56, ground := Ground.guard }], guard := some (56, false) }) rfl (fun K hK => ?_) AllReadyH.nil
  go_simp
  (go_at_call 24; refine (KZ.out _ Bm.out).mono ?_; rintro e wn ⟨rfl, hbn⟩; have Tn := Cells.below (L := [(⟨bx, 0, none⟩, .slice px Zp.ar.length cx), (⟨bx, 1, none⟩, .bool Zp.us), (⟨bx, 2, none⟩, .int .i64 Zp.co), (⟨ba, 0, none⟩, .string at'), (⟨ba, 1, none⟩, .string as'), (⟨ba, 2, none⟩, .bool tc), (⟨ba, 3, none⟩, .bool sa), (⟨ba, 4, none⟩, .bool re), (⟨ba, 5, none⟩, .bool ye), (⟨by', 0, none⟩, .slice py Za.ar.length cy), (⟨by', 1, none⟩, .bool Za.us), (⟨by', 2, none⟩, .int .i64 Za.co)]) (by simp only [Cells]; go_keep) hbn; simp only [Cells] at Tn; obtain ⟨pn0, pn1, pn2, pn3, pn4, pn5, pn6, pn7, pn8, pn9, pn10, pn11, -⟩ := Tn; have zn : w7.heap.size ≤ wn.heap.size := Nat.le_trans zm hbn.size; have Bn : Hid (Below w7.heap.size w7 wn) := Bm.out.trans (hbn.mono Bm.out.size); clear pm0 pm1 pm2 pm3 pm4 pm5 pm6 pm7 pm8 pm9 pm10 pm11 zm hbm)
  try (go_wp2_with fail)
  refine hK.out _ _ ?_ (fun hH14 => ?_)
  · (try dsimp only)
    go_keep
  clear hK K hH13
  try simp only [Act.put, List.setIfInBounds_toArray, List.set_cons_zero, List.set_cons_succ]
  refine wpAnyH_take (i := 61) (oi := { dst := some 128, op := Op.pick (Operand.tmp 123) (Operand.const (Value.bool true)) (Operand.tmp 127), type := 4, pos := "laws.go:409", after := #[{ on := 56, ground := Ground.data }, { on := 60, ground := Ground.data }], guard := none }) (v := ?va61) rfl (by kernel_rfl) (by kernel_rfl) (by kernel_rfl) (fun _ _ _ h => h) (Or.inl ⟨by rfl, ?hya61⟩) (by assumption) ?resta61
  case hya61 =>
    intro w hSw
    (try dsimp only at hSw)
    go_simp
    try with_reducible rfl
  try simp only [Act.put, List.setIfInBounds_toArray, List.set_cons_zero, List.set_cons_succ]
  refine wpAnyH_done (by kernel_rfl) ?_ _
  clear KP KA KD KO1 KO2 KV1 KV2 KR1 KR2 KZ KX1 KX2 KXd KXo
  by_cases hc : Zp.co = 0
  · have qc : decide (Zp.co = 0) = true := by rw [decide_eq_true_iff]; exact hc
    have G29 := H29.out hc
    have G30 := H30.out hc
    have GOt := HOt.out hc
    obtain ⟨tt0, tt1⟩ := HT.out hc
    clear H29 H30 HOt HT
    have w30 : IntKind.i64.wrap (n1 + 30) = n1 + 30 := by rw [IntKind.wrap_i64]; omega
    have w29 : IntKind.i64.wrap (n1 + 30 - 1) = n1 + 29 := by rw [IntKind.wrap_i64]; omega
    by_cases hn : n1 < 999970
    · have qn : decide (n1 < 999970) = true := by rw [decide_eq_true_iff]; exact hn
      have G29' := G29 hn
      have G30' := G30 hn
      clear G29 G30
      go_wp2_with fail
      refine (G29' _ Bn.out).mono ?_
      rintro e wt1 ⟨rfl, hbt1⟩
      have pt10 := ((bcell hbt1).1 _ _ (Nat.lt_of_lt_of_le Zbx_w7.out Bn.out.size)).trans pn0
      have pt11 := ((bcell hbt1).1 _ _ (Nat.lt_of_lt_of_le Zbx_w7.out Bn.out.size)).trans pn1
      have pt12 := ((bcell hbt1).1 _ _ (Nat.lt_of_lt_of_le Zbx_w7.out Bn.out.size)).trans pn2
      have pt13 := ((bcell hbt1).1 _ _ (Nat.lt_of_lt_of_le Zba_w7.out Bn.out.size)).trans pn3
      have pt14 := ((bcell hbt1).1 _ _ (Nat.lt_of_lt_of_le Zba_w7.out Bn.out.size)).trans pn4
      have pt15 := ((bcell hbt1).1 _ _ (Nat.lt_of_lt_of_le Zba_w7.out Bn.out.size)).trans pn5
      have pt16 := ((bcell hbt1).1 _ _ (Nat.lt_of_lt_of_le Zba_w7.out Bn.out.size)).trans pn6
      have pt17 := ((bcell hbt1).1 _ _ (Nat.lt_of_lt_of_le Zba_w7.out Bn.out.size)).trans pn7
      have pt18 := ((bcell hbt1).1 _ _ (Nat.lt_of_lt_of_le Zba_w7.out Bn.out.size)).trans pn8
      have pt19 := ((bcell hbt1).1 _ _ (Nat.lt_of_lt_of_le Zby'_w7.out Bn.out.size)).trans pn9
      have pt110 := ((bcell hbt1).1 _ _ (Nat.lt_of_lt_of_le Zby'_w7.out Bn.out.size)).trans pn10
      have pt111 := ((bcell hbt1).1 _ _ (Nat.lt_of_lt_of_le Zby'_w7.out Bn.out.size)).trans pn11
      have Bt1 : Hid (Below w7.heap.size w7 wt1) := Bn.out.trans (hbt1.mono Bn.out.size)
      clear hbt1 Bn pn0 pn1 pn2 pn3 pn4 pn5 pn6 pn7 pn8 pn9 pn10 pn11
      go_wp2_with fail
      refine (G30' _ Bt1.out).mono ?_
      rintro e wt2 ⟨rfl, hbt2⟩
      have pt20 := ((bcell hbt2).1 _ _ (Nat.lt_of_lt_of_le Zbx_w7.out Bt1.out.size)).trans pt10
      have pt21 := ((bcell hbt2).1 _ _ (Nat.lt_of_lt_of_le Zbx_w7.out Bt1.out.size)).trans pt11
      have pt22 := ((bcell hbt2).1 _ _ (Nat.lt_of_lt_of_le Zbx_w7.out Bt1.out.size)).trans pt12
      have pt23 := ((bcell hbt2).1 _ _ (Nat.lt_of_lt_of_le Zba_w7.out Bt1.out.size)).trans pt13
      have pt24 := ((bcell hbt2).1 _ _ (Nat.lt_of_lt_of_le Zba_w7.out Bt1.out.size)).trans pt14
      have pt25 := ((bcell hbt2).1 _ _ (Nat.lt_of_lt_of_le Zba_w7.out Bt1.out.size)).trans pt15
      have pt26 := ((bcell hbt2).1 _ _ (Nat.lt_of_lt_of_le Zba_w7.out Bt1.out.size)).trans pt16
      have pt27 := ((bcell hbt2).1 _ _ (Nat.lt_of_lt_of_le Zba_w7.out Bt1.out.size)).trans pt17
      have pt28 := ((bcell hbt2).1 _ _ (Nat.lt_of_lt_of_le Zba_w7.out Bt1.out.size)).trans pt18
      have pt29 := ((bcell hbt2).1 _ _ (Nat.lt_of_lt_of_le Zby'_w7.out Bt1.out.size)).trans pt19
      have pt210 := ((bcell hbt2).1 _ _ (Nat.lt_of_lt_of_le Zby'_w7.out Bt1.out.size)).trans pt110
      have pt211 := ((bcell hbt2).1 _ _ (Nat.lt_of_lt_of_le Zby'_w7.out Bt1.out.size)).trans pt111
      have Bt2 : Hid (Below w7.heap.size w7 wt2) := Bt1.out.trans (hbt2.mono Bt1.out.size)
      clear hbt2 Bt1 pt10 pt11 pt12 pt13 pt14 pt15 pt16 pt17 pt18 pt19 pt110 pt111
      go_wp2_with fail
      refine (GOt _ Bt2.out).mono ?_
      rintro e wt3 ⟨rfl, hbt3⟩
      have pt30 := ((bcell hbt3).1 _ _ (Nat.lt_of_lt_of_le Zbx_w7.out Bt2.out.size)).trans pt20
      have pt31 := ((bcell hbt3).1 _ _ (Nat.lt_of_lt_of_le Zbx_w7.out Bt2.out.size)).trans pt21
      have pt32 := ((bcell hbt3).1 _ _ (Nat.lt_of_lt_of_le Zbx_w7.out Bt2.out.size)).trans pt22
      have pt33 := ((bcell hbt3).1 _ _ (Nat.lt_of_lt_of_le Zba_w7.out Bt2.out.size)).trans pt23
      have pt34 := ((bcell hbt3).1 _ _ (Nat.lt_of_lt_of_le Zba_w7.out Bt2.out.size)).trans pt24
      have pt35 := ((bcell hbt3).1 _ _ (Nat.lt_of_lt_of_le Zba_w7.out Bt2.out.size)).trans pt25
      have pt36 := ((bcell hbt3).1 _ _ (Nat.lt_of_lt_of_le Zba_w7.out Bt2.out.size)).trans pt26
      have pt37 := ((bcell hbt3).1 _ _ (Nat.lt_of_lt_of_le Zba_w7.out Bt2.out.size)).trans pt27
      have pt38 := ((bcell hbt3).1 _ _ (Nat.lt_of_lt_of_le Zba_w7.out Bt2.out.size)).trans pt28
      have pt39 := ((bcell hbt3).1 _ _ (Nat.lt_of_lt_of_le Zby'_w7.out Bt2.out.size)).trans pt29
      have pt310 := ((bcell hbt3).1 _ _ (Nat.lt_of_lt_of_le Zby'_w7.out Bt2.out.size)).trans pt210
      have pt311 := ((bcell hbt3).1 _ _ (Nat.lt_of_lt_of_le Zby'_w7.out Bt2.out.size)).trans pt211
      have Bt3 : Hid (Below w7.heap.size w7 wt3) := Bt2.out.trans (hbt3.mono Bt2.out.size)
      clear hbt3 Bt2 pt20 pt21 pt22 pt23 pt24 pt25 pt26 pt27 pt28 pt29 pt210 pt211
      clear G29' G30' GOt w29 w30
      go_wp2_with fail
      refine (KG.out _ Bt3.out).mono ?_
      rintro e wt4 ⟨rfl, hbt4⟩
      have pt40 := ((bcell hbt4).1 _ _ (Nat.lt_of_lt_of_le Zbx_w7.out Bt3.out.size)).trans pt30
      have pt41 := ((bcell hbt4).1 _ _ (Nat.lt_of_lt_of_le Zbx_w7.out Bt3.out.size)).trans pt31
      have pt42 := ((bcell hbt4).1 _ _ (Nat.lt_of_lt_of_le Zbx_w7.out Bt3.out.size)).trans pt32
      have pt43 := ((bcell hbt4).1 _ _ (Nat.lt_of_lt_of_le Zba_w7.out Bt3.out.size)).trans pt33
      have pt44 := ((bcell hbt4).1 _ _ (Nat.lt_of_lt_of_le Zba_w7.out Bt3.out.size)).trans pt34
      have pt45 := ((bcell hbt4).1 _ _ (Nat.lt_of_lt_of_le Zba_w7.out Bt3.out.size)).trans pt35
      have pt46 := ((bcell hbt4).1 _ _ (Nat.lt_of_lt_of_le Zba_w7.out Bt3.out.size)).trans pt36
      have pt47 := ((bcell hbt4).1 _ _ (Nat.lt_of_lt_of_le Zba_w7.out Bt3.out.size)).trans pt37
      have pt48 := ((bcell hbt4).1 _ _ (Nat.lt_of_lt_of_le Zba_w7.out Bt3.out.size)).trans pt38
      have pt49 := ((bcell hbt4).1 _ _ (Nat.lt_of_lt_of_le Zby'_w7.out Bt3.out.size)).trans pt39
      have pt410 := ((bcell hbt4).1 _ _ (Nat.lt_of_lt_of_le Zby'_w7.out Bt3.out.size)).trans pt310
      have pt411 := ((bcell hbt4).1 _ _ (Nat.lt_of_lt_of_le Zby'_w7.out Bt3.out.size)).trans pt311
      have Bt4 : Hid (Below w7.heap.size w7 wt4) := Bt3.out.trans (hbt4.mono Bt3.out.size)
      clear hbt4 Bt3 pt30 pt31 pt32 pt33 pt34 pt35 pt36 pt37 pt38 pt39 pt310 pt311
      have HFr1 := HFr.out
      clear KG HFr
      cases lg with
      | true =>
        by_cases hca : Za.co = 0
        · have qca : decide (Za.co = 0) = true := by rw [decide_eq_true_iff]; exact hca
          go_wp2
          go_ret
          exact ⟨rfl, Bw7.out.trans (Bt4.out.mono Bw7.out.size)⟩
        · have qca : decide (Za.co = 0) = false := by rw [decide_eq_false_iff_not]; exact hca
          go_wp2
          go_ret
          exact ⟨rfl, Bw7.out.trans (Bt4.out.mono Bw7.out.size)⟩
      | false =>
        by_cases hca : Za.co = 0
        · have qca : decide (Za.co = 0) = true := by rw [decide_eq_true_iff]; exact hca
          cases hne : (at'.toList == as'.toList) with
          | true =>
            go_wp2
            go_ret
            exact ⟨rfl, Bw7.out.trans (Bt4.out.mono Bw7.out.size)⟩
          | false =>
            obtain ⟨f1, rfl, rfl, f4, f5, f6, f7⟩ := HFr1 hca rfl hne
            rw [f1] at pt410
            have h8 : 8 ≤ as'.size := by
              by_cases hs : as'.size < 8
              · rw [https_short hs] at f5; cases f5
              · omega
            have hx : ((as'.extract 0 8).toList == [104, 116, 116, 112, 115, 58, 47, 47]) = true := (https_cut as').trans f5
            clear HFr1 f5
            by_cases hm : n3 < 1000000
            · have qm : decide (n3 < 1000000) = true := by rw [decide_eq_true_iff]; exact hm
              have f8 := f7 hm
              clear f7
              go_wp2_with fail
              refine (f8 _ Bt4.out).mono ?_
              rintro e wt5 ⟨rfl, hbt5⟩
              have pt50 := ((bcell hbt5).1 _ _ (Nat.lt_of_lt_of_le Zbx_w7.out Bt4.out.size)).trans pt40
              have pt51 := ((bcell hbt5).1 _ _ (Nat.lt_of_lt_of_le Zbx_w7.out Bt4.out.size)).trans pt41
              have pt52 := ((bcell hbt5).1 _ _ (Nat.lt_of_lt_of_le Zbx_w7.out Bt4.out.size)).trans pt42
              have pt53 := ((bcell hbt5).1 _ _ (Nat.lt_of_lt_of_le Zba_w7.out Bt4.out.size)).trans pt43
              have pt54 := ((bcell hbt5).1 _ _ (Nat.lt_of_lt_of_le Zba_w7.out Bt4.out.size)).trans pt44
              have pt55 := ((bcell hbt5).1 _ _ (Nat.lt_of_lt_of_le Zba_w7.out Bt4.out.size)).trans pt45
              have pt56 := ((bcell hbt5).1 _ _ (Nat.lt_of_lt_of_le Zba_w7.out Bt4.out.size)).trans pt46
              have pt57 := ((bcell hbt5).1 _ _ (Nat.lt_of_lt_of_le Zba_w7.out Bt4.out.size)).trans pt47
              have pt58 := ((bcell hbt5).1 _ _ (Nat.lt_of_lt_of_le Zba_w7.out Bt4.out.size)).trans pt48
              have pt59 := ((bcell hbt5).1 _ _ (Nat.lt_of_lt_of_le Zby'_w7.out Bt4.out.size)).trans pt49
              have pt510 := ((bcell hbt5).1 _ _ (Nat.lt_of_lt_of_le Zby'_w7.out Bt4.out.size)).trans pt410
              have pt511 := ((bcell hbt5).1 _ _ (Nat.lt_of_lt_of_le Zby'_w7.out Bt4.out.size)).trans pt411
              have Bt5 : Hid (Below w7.heap.size w7 wt5) := Bt4.out.trans (hbt5.mono Bt4.out.size)
              clear hbt5 Bt4 pt40 pt41 pt42 pt43 pt44 pt45 pt46 pt47 pt48 pt49 pt410 pt411
              cases re with
              | true =>
                go_wp2
                go_ret
                exact ⟨rfl, Bw7.out.trans (Bt5.out.mono Bw7.out.size)⟩
              | false =>
                obtain rfl : ye = true := f4
                go_wp2
                go_ret
                exact ⟨rfl, Bw7.out.trans (Bt5.out.mono Bw7.out.size)⟩
            · obtain rfl : n3 = 1000000 := by omega
              clear f7 f4
              go_wp2
              go_ret
              exact ⟨rfl, Bw7.out.trans (Bt4.out.mono Bw7.out.size)⟩
        · have qca : decide (Za.co = 0) = false := by rw [decide_eq_false_iff_not]; exact hca
          go_wp2
          go_ret
          exact ⟨rfl, Bw7.out.trans (Bt4.out.mono Bw7.out.size)⟩
    · have qn : decide (n1 < 999970) = false := by rw [decide_eq_false_iff_not]; exact hn
      clear G29 G30
      go_wp2_with fail
      refine (GOt _ Bn.out).mono ?_
      rintro e wt6 ⟨rfl, hbt6⟩
      have pt60 := ((bcell hbt6).1 _ _ (Nat.lt_of_lt_of_le Zbx_w7.out Bn.out.size)).trans pn0
      have pt61 := ((bcell hbt6).1 _ _ (Nat.lt_of_lt_of_le Zbx_w7.out Bn.out.size)).trans pn1
      have pt62 := ((bcell hbt6).1 _ _ (Nat.lt_of_lt_of_le Zbx_w7.out Bn.out.size)).trans pn2
      have pt63 := ((bcell hbt6).1 _ _ (Nat.lt_of_lt_of_le Zba_w7.out Bn.out.size)).trans pn3
      have pt64 := ((bcell hbt6).1 _ _ (Nat.lt_of_lt_of_le Zba_w7.out Bn.out.size)).trans pn4
      have pt65 := ((bcell hbt6).1 _ _ (Nat.lt_of_lt_of_le Zba_w7.out Bn.out.size)).trans pn5
      have pt66 := ((bcell hbt6).1 _ _ (Nat.lt_of_lt_of_le Zba_w7.out Bn.out.size)).trans pn6
      have pt67 := ((bcell hbt6).1 _ _ (Nat.lt_of_lt_of_le Zba_w7.out Bn.out.size)).trans pn7
      have pt68 := ((bcell hbt6).1 _ _ (Nat.lt_of_lt_of_le Zba_w7.out Bn.out.size)).trans pn8
      have pt69 := ((bcell hbt6).1 _ _ (Nat.lt_of_lt_of_le Zby'_w7.out Bn.out.size)).trans pn9
      have pt610 := ((bcell hbt6).1 _ _ (Nat.lt_of_lt_of_le Zby'_w7.out Bn.out.size)).trans pn10
      have pt611 := ((bcell hbt6).1 _ _ (Nat.lt_of_lt_of_le Zby'_w7.out Bn.out.size)).trans pn11
      have Bt6 : Hid (Below w7.heap.size w7 wt6) := Bn.out.trans (hbt6.mono Bn.out.size)
      clear hbt6 Bn pn0 pn1 pn2 pn3 pn4 pn5 pn6 pn7 pn8 pn9 pn10 pn11
      clear GOt w29 w30
      go_wp2_with fail
      refine (KG.out _ Bt6.out).mono ?_
      rintro e wt7 ⟨rfl, hbt7⟩
      have pt70 := ((bcell hbt7).1 _ _ (Nat.lt_of_lt_of_le Zbx_w7.out Bt6.out.size)).trans pt60
      have pt71 := ((bcell hbt7).1 _ _ (Nat.lt_of_lt_of_le Zbx_w7.out Bt6.out.size)).trans pt61
      have pt72 := ((bcell hbt7).1 _ _ (Nat.lt_of_lt_of_le Zbx_w7.out Bt6.out.size)).trans pt62
      have pt73 := ((bcell hbt7).1 _ _ (Nat.lt_of_lt_of_le Zba_w7.out Bt6.out.size)).trans pt63
      have pt74 := ((bcell hbt7).1 _ _ (Nat.lt_of_lt_of_le Zba_w7.out Bt6.out.size)).trans pt64
      have pt75 := ((bcell hbt7).1 _ _ (Nat.lt_of_lt_of_le Zba_w7.out Bt6.out.size)).trans pt65
      have pt76 := ((bcell hbt7).1 _ _ (Nat.lt_of_lt_of_le Zba_w7.out Bt6.out.size)).trans pt66
      have pt77 := ((bcell hbt7).1 _ _ (Nat.lt_of_lt_of_le Zba_w7.out Bt6.out.size)).trans pt67
      have pt78 := ((bcell hbt7).1 _ _ (Nat.lt_of_lt_of_le Zba_w7.out Bt6.out.size)).trans pt68
      have pt79 := ((bcell hbt7).1 _ _ (Nat.lt_of_lt_of_le Zby'_w7.out Bt6.out.size)).trans pt69
      have pt710 := ((bcell hbt7).1 _ _ (Nat.lt_of_lt_of_le Zby'_w7.out Bt6.out.size)).trans pt610
      have pt711 := ((bcell hbt7).1 _ _ (Nat.lt_of_lt_of_le Zby'_w7.out Bt6.out.size)).trans pt611
      have Bt7 : Hid (Below w7.heap.size w7 wt7) := Bt6.out.trans (hbt7.mono Bt6.out.size)
      clear hbt7 Bt6 pt60 pt61 pt62 pt63 pt64 pt65 pt66 pt67 pt68 pt69 pt610 pt611
      have HFr1 := HFr.out
      clear KG HFr
      cases lg with
      | true =>
        by_cases hca : Za.co = 0
        · have qca : decide (Za.co = 0) = true := by rw [decide_eq_true_iff]; exact hca
          go_wp2
          go_ret
          exact ⟨rfl, Bw7.out.trans (Bt7.out.mono Bw7.out.size)⟩
        · have qca : decide (Za.co = 0) = false := by rw [decide_eq_false_iff_not]; exact hca
          go_wp2
          go_ret
          exact ⟨rfl, Bw7.out.trans (Bt7.out.mono Bw7.out.size)⟩
      | false =>
        by_cases hca : Za.co = 0
        · have qca : decide (Za.co = 0) = true := by rw [decide_eq_true_iff]; exact hca
          cases hne : (at'.toList == as'.toList) with
          | true =>
            go_wp2
            go_ret
            exact ⟨rfl, Bw7.out.trans (Bt7.out.mono Bw7.out.size)⟩
          | false =>
            obtain ⟨f1, rfl, rfl, f4, f5, f6, f7⟩ := HFr1 hca rfl hne
            rw [f1] at pt710
            have h8 : 8 ≤ as'.size := by
              by_cases hs : as'.size < 8
              · rw [https_short hs] at f5; cases f5
              · omega
            have hx : ((as'.extract 0 8).toList == [104, 116, 116, 112, 115, 58, 47, 47]) = true := (https_cut as').trans f5
            clear HFr1 f5
            by_cases hm : n3 < 1000000
            · have qm : decide (n3 < 1000000) = true := by rw [decide_eq_true_iff]; exact hm
              have f8 := f7 hm
              clear f7
              go_wp2_with fail
              refine (f8 _ Bt7.out).mono ?_
              rintro e wt8 ⟨rfl, hbt8⟩
              have pt80 := ((bcell hbt8).1 _ _ (Nat.lt_of_lt_of_le Zbx_w7.out Bt7.out.size)).trans pt70
              have pt81 := ((bcell hbt8).1 _ _ (Nat.lt_of_lt_of_le Zbx_w7.out Bt7.out.size)).trans pt71
              have pt82 := ((bcell hbt8).1 _ _ (Nat.lt_of_lt_of_le Zbx_w7.out Bt7.out.size)).trans pt72
              have pt83 := ((bcell hbt8).1 _ _ (Nat.lt_of_lt_of_le Zba_w7.out Bt7.out.size)).trans pt73
              have pt84 := ((bcell hbt8).1 _ _ (Nat.lt_of_lt_of_le Zba_w7.out Bt7.out.size)).trans pt74
              have pt85 := ((bcell hbt8).1 _ _ (Nat.lt_of_lt_of_le Zba_w7.out Bt7.out.size)).trans pt75
              have pt86 := ((bcell hbt8).1 _ _ (Nat.lt_of_lt_of_le Zba_w7.out Bt7.out.size)).trans pt76
              have pt87 := ((bcell hbt8).1 _ _ (Nat.lt_of_lt_of_le Zba_w7.out Bt7.out.size)).trans pt77
              have pt88 := ((bcell hbt8).1 _ _ (Nat.lt_of_lt_of_le Zba_w7.out Bt7.out.size)).trans pt78
              have pt89 := ((bcell hbt8).1 _ _ (Nat.lt_of_lt_of_le Zby'_w7.out Bt7.out.size)).trans pt79
              have pt810 := ((bcell hbt8).1 _ _ (Nat.lt_of_lt_of_le Zby'_w7.out Bt7.out.size)).trans pt710
              have pt811 := ((bcell hbt8).1 _ _ (Nat.lt_of_lt_of_le Zby'_w7.out Bt7.out.size)).trans pt711
              have Bt8 : Hid (Below w7.heap.size w7 wt8) := Bt7.out.trans (hbt8.mono Bt7.out.size)
              clear hbt8 Bt7 pt70 pt71 pt72 pt73 pt74 pt75 pt76 pt77 pt78 pt79 pt710 pt711
              cases re with
              | true =>
                go_wp2
                go_ret
                exact ⟨rfl, Bw7.out.trans (Bt8.out.mono Bw7.out.size)⟩
              | false =>
                obtain rfl : ye = true := f4
                go_wp2
                go_ret
                exact ⟨rfl, Bw7.out.trans (Bt8.out.mono Bw7.out.size)⟩
            · obtain rfl : n3 = 1000000 := by omega
              clear f7 f4
              go_wp2
              go_ret
              exact ⟨rfl, Bw7.out.trans (Bt7.out.mono Bw7.out.size)⟩
        · have qca : decide (Za.co = 0) = false := by rw [decide_eq_false_iff_not]; exact hca
          go_wp2
          go_ret
          exact ⟨rfl, Bw7.out.trans (Bt7.out.mono Bw7.out.size)⟩
  · have qc : decide (Zp.co = 0) = false := by rw [decide_eq_false_iff_not]; exact hc
    clear H29 H30 HOt HT
    go_wp2_with fail
    refine (KG.out _ Bn.out).mono ?_
    rintro e wt9 ⟨rfl, hbt9⟩
    have pt90 := ((bcell hbt9).1 _ _ (Nat.lt_of_lt_of_le Zbx_w7.out Bn.out.size)).trans pn0
    have pt91 := ((bcell hbt9).1 _ _ (Nat.lt_of_lt_of_le Zbx_w7.out Bn.out.size)).trans pn1
    have pt92 := ((bcell hbt9).1 _ _ (Nat.lt_of_lt_of_le Zbx_w7.out Bn.out.size)).trans pn2
    have pt93 := ((bcell hbt9).1 _ _ (Nat.lt_of_lt_of_le Zba_w7.out Bn.out.size)).trans pn3
    have pt94 := ((bcell hbt9).1 _ _ (Nat.lt_of_lt_of_le Zba_w7.out Bn.out.size)).trans pn4
    have pt95 := ((bcell hbt9).1 _ _ (Nat.lt_of_lt_of_le Zba_w7.out Bn.out.size)).trans pn5
    have pt96 := ((bcell hbt9).1 _ _ (Nat.lt_of_lt_of_le Zba_w7.out Bn.out.size)).trans pn6
    have pt97 := ((bcell hbt9).1 _ _ (Nat.lt_of_lt_of_le Zba_w7.out Bn.out.size)).trans pn7
    have pt98 := ((bcell hbt9).1 _ _ (Nat.lt_of_lt_of_le Zba_w7.out Bn.out.size)).trans pn8
    have pt99 := ((bcell hbt9).1 _ _ (Nat.lt_of_lt_of_le Zby'_w7.out Bn.out.size)).trans pn9
    have pt910 := ((bcell hbt9).1 _ _ (Nat.lt_of_lt_of_le Zby'_w7.out Bn.out.size)).trans pn10
    have pt911 := ((bcell hbt9).1 _ _ (Nat.lt_of_lt_of_le Zby'_w7.out Bn.out.size)).trans pn11
    have Bt9 : Hid (Below w7.heap.size w7 wt9) := Bn.out.trans (hbt9.mono Bn.out.size)
    clear hbt9 Bn pn0 pn1 pn2 pn3 pn4 pn5 pn6 pn7 pn8 pn9 pn10 pn11
    have HFr1 := HFr.out
    clear KG HFr
    cases lg with
    | true =>
      by_cases hca : Za.co = 0
      · have qca : decide (Za.co = 0) = true := by rw [decide_eq_true_iff]; exact hca
        go_wp2
        go_ret
        exact ⟨rfl, Bw7.out.trans (Bt9.out.mono Bw7.out.size)⟩
      · have qca : decide (Za.co = 0) = false := by rw [decide_eq_false_iff_not]; exact hca
        go_wp2
        go_ret
        exact ⟨rfl, Bw7.out.trans (Bt9.out.mono Bw7.out.size)⟩
    | false =>
      by_cases hca : Za.co = 0
      · have qca : decide (Za.co = 0) = true := by rw [decide_eq_true_iff]; exact hca
        cases hne : (at'.toList == as'.toList) with
        | true =>
          go_wp2
          go_ret
          exact ⟨rfl, Bw7.out.trans (Bt9.out.mono Bw7.out.size)⟩
        | false =>
          obtain ⟨f1, rfl, rfl, f4, f5, f6, f7⟩ := HFr1 hca rfl hne
          rw [f1] at pt910
          have h8 : 8 ≤ as'.size := by
            by_cases hs : as'.size < 8
            · rw [https_short hs] at f5; cases f5
            · omega
          have hx : ((as'.extract 0 8).toList == [104, 116, 116, 112, 115, 58, 47, 47]) = true := (https_cut as').trans f5
          clear HFr1 f5
          by_cases hm : n3 < 1000000
          · have qm : decide (n3 < 1000000) = true := by rw [decide_eq_true_iff]; exact hm
            have f8 := f7 hm
            clear f7
            go_wp2_with fail
            refine (f8 _ Bt9.out).mono ?_
            rintro e wt10 ⟨rfl, hbt10⟩
            have pt100 := ((bcell hbt10).1 _ _ (Nat.lt_of_lt_of_le Zbx_w7.out Bt9.out.size)).trans pt90
            have pt101 := ((bcell hbt10).1 _ _ (Nat.lt_of_lt_of_le Zbx_w7.out Bt9.out.size)).trans pt91
            have pt102 := ((bcell hbt10).1 _ _ (Nat.lt_of_lt_of_le Zbx_w7.out Bt9.out.size)).trans pt92
            have pt103 := ((bcell hbt10).1 _ _ (Nat.lt_of_lt_of_le Zba_w7.out Bt9.out.size)).trans pt93
            have pt104 := ((bcell hbt10).1 _ _ (Nat.lt_of_lt_of_le Zba_w7.out Bt9.out.size)).trans pt94
            have pt105 := ((bcell hbt10).1 _ _ (Nat.lt_of_lt_of_le Zba_w7.out Bt9.out.size)).trans pt95
            have pt106 := ((bcell hbt10).1 _ _ (Nat.lt_of_lt_of_le Zba_w7.out Bt9.out.size)).trans pt96
            have pt107 := ((bcell hbt10).1 _ _ (Nat.lt_of_lt_of_le Zba_w7.out Bt9.out.size)).trans pt97
            have pt108 := ((bcell hbt10).1 _ _ (Nat.lt_of_lt_of_le Zba_w7.out Bt9.out.size)).trans pt98
            have pt109 := ((bcell hbt10).1 _ _ (Nat.lt_of_lt_of_le Zby'_w7.out Bt9.out.size)).trans pt99
            have pt1010 := ((bcell hbt10).1 _ _ (Nat.lt_of_lt_of_le Zby'_w7.out Bt9.out.size)).trans pt910
            have pt1011 := ((bcell hbt10).1 _ _ (Nat.lt_of_lt_of_le Zby'_w7.out Bt9.out.size)).trans pt911
            have Bt10 : Hid (Below w7.heap.size w7 wt10) := Bt9.out.trans (hbt10.mono Bt9.out.size)
            clear hbt10 Bt9 pt90 pt91 pt92 pt93 pt94 pt95 pt96 pt97 pt98 pt99 pt910 pt911
            cases re with
            | true =>
              go_wp2
              go_ret
              exact ⟨rfl, Bw7.out.trans (Bt10.out.mono Bw7.out.size)⟩
            | false =>
              obtain rfl : ye = true := f4
              go_wp2
              go_ret
              exact ⟨rfl, Bw7.out.trans (Bt10.out.mono Bw7.out.size)⟩
          · obtain rfl : n3 = 1000000 := by omega
            clear f7 f4
            go_wp2
            go_ret
            exact ⟨rfl, Bw7.out.trans (Bt9.out.mono Bw7.out.size)⟩
      · have qca : decide (Za.co = 0) = false := by rw [decide_eq_false_iff_not]; exact hca
        go_wp2
        go_ret
        exact ⟨rfl, Bw7.out.trans (Bt9.out.mono Bw7.out.size)⟩
end Go.Proofs.Ytecaeolgheefmaa
