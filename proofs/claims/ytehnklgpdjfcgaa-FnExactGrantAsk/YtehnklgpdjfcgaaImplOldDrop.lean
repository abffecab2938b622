/- The walks of the program's GrantOld and GrantDrop. Written by specgrant2.py. -/
import Derived.Test.YtehnklgpdjfcgaaImplMay
import Derived.Test.YtehnklgpdjfcgaaImplGCopy
import Derived.Deep.RegionHeld3
namespace Go.Proofs.Ytehnklgpdjfcgaa
open Go.RowKit

theorem grants_small {L : List Gr} (h : grantsB L = true) : ∀ i, i < L.length → (atG L i).tp.size ≤ 1000000 ∧ (atG L i).si.size ≤ 1000000 := fun i hi => by
  obtain ⟨h1, h2, -⟩ := grB_parts (okG_right ((grantsB_parts h).2 i hi))
  have a := (siteG_size h1).2
  have b := (siteG_size h2).2
  exact ⟨by omega, by omega⟩
set_option maxRecDepth 10000 in
set_option maxHeartbeats 4000000 in
theorem grantOld_any (v : Value) (L : List Gr) (now : Int) (B : Nat) (w : World) (hs : SliceG w B v L) (hn : L.length ≤ 1048576) :
    Calls Try.prog 11 #[v, .int .i64 now] w fun e w' => ∃ v', e = .returned v' ∧ SliceG w' w.heap.size v' (oldG L now) ∧ Below w.heap.size w w' := by
  have KG : Hid (Calls Try.prog 34 #[v] w fun e w' => e = .returned (.bool (grantsB L)) ∧ Below w.heap.size w w') := grantsRight_any v L B w hs hn
  have KT : Hid (∀ W, Calls Try.prog 41 #[.int .i64 now] W fun e w' => e = .returned (.bool (timeG now)) ∧ w' = W) := fun W => isTimeG_any now W
  have KC : Hid (grantsB L = true → ∀ W, Below w.heap.size w W → Calls Try.prog 43 #[v, .func (.func 44) #[] #[]] W fun e w' => ∃ v', e = .returned v' ∧ SliceG w' W.heap.size v' L ∧ Below W.heap.size W w') := fun h W hb => grantCopies_any v L B W (hs.below hb) hn (grants_small h)
  have KD : Hid (grantsB L = true → ∀ (u : Value) (B : Nat) (W : World), SliceG W B u L → B ≤ W.heap.size → Calls Try.prog 42 #[u, .func (.func 45) #[.int .i64 now] #[]] W fun e w' => ∃ v', e = .returned v' ∧ SliceG w' B v' (L.filter (fun g => !!(liveG now g))) ∧ Below B W w') := fun h u B W h1 h2 => deleteOld_any now u B L W h1 h2 (by have := (grantsB_parts h).1; omega) (fun c W _ => outlives_any now c W)
  have HNo : Hid ((grantsB L && timeG now) = false → oldG L now = []) := fun h => by unfold oldG; rw [if_neg (by rw [h]; decide)]
  have HY : Hid ((grantsB L && timeG now) = true → oldG L now = L.filter (fun g => !!(liveG now g))) := fun h => by
    unfold oldG; rw [if_pos h]
    congr 1
    funext g
    rw [Bool.not_not]
  have hmf : ∀ (fn : Fn) (first cap : Array Value) (w : World), (Instr.makeFunc fn first cap).run Try.prog w = .ok (.func fn first cap) w := fun _ _ _ _ => rfl
  clear hs
  generalize oldG L now = Z at *
  generalize L.filter (fun g => !!(liveG now g)) = Y at *
  generalize grantsB L = r1 at *
  generalize timeG now = r2 at *
  go_enter Try.func11, Try.ntmps11
  go_wp2_with fail
  refine KG.out.mono ?_
  rintro e w1 ⟨rfl, hb1⟩
  have B1 : Hid (Below w.heap.size w w1) := hb1
  have hws : w.heap.size ≤ w1.heap.size := hb1.size
  clear hb1 KG
  cases r1 with
  | false =>
    have HZ : Hid (Z = []) := HNo.out rfl
    go_wp2
    go_ret
    exact ⟨_, rfl, by rw [HZ.out]; exact sliceG_none _ _, B1.out⟩
  | true =>
  have KC2 := KC.out rfl
  have KD2 := KD.out rfl
  have KC3 : Hid (∀ W, Below w.heap.size w W → Calls Try.prog 43 #[v, .func (.func 44) #[] #[]] W fun e w' => ∃ v', e = .returned v' ∧ SliceG w' W.heap.size v' L ∧ Below W.heap.size W w') := KC2
  have KD3 : Hid (∀ (u : Value) (B : Nat) (W : World), SliceG W B u L → B ≤ W.heap.size → Calls Try.prog 42 #[u, .func (.func 45) #[.int .i64 now] #[]] W fun e w' => ∃ v', e = .returned v' ∧ SliceG w' B v' Y ∧ Below B W w') := KD2
  clear KC KD KC2 KD2
  go_wp2_with fail
  refine (KT.out _).mono ?_
  rintro e w2 ⟨rfl, rfl⟩
  cases r2 with
  | false =>
    have HZ : Hid (Z = []) := HNo.out rfl
    go_wp2
    go_ret
    exact ⟨_, rfl, by rw [HZ.out]; exact sliceG_none _ _, B1.out⟩
  | true =>
    have HZ : Hid (Z = Y) := HY.out rfl
    go_wp2_with fail
    refine (KC3.out _ B1.out).mono ?_
    rintro e w3 ⟨u3, rfl, hs3, hb3⟩
    have S3 : Hid (SliceG w3 w2.heap.size u3 L) := hs3
    have z3 : w2.heap.size ≤ w3.heap.size := hb3.size
    have B3 : Hid (Below w.heap.size w w3) := B1.out.trans (hb3.mono hws)
    clear hs3 hb3
    go_wp2_with fail
    refine (KD3.out _ _ _ S3.out z3).mono ?_
    rintro e w4 ⟨u4, rfl, hs4, hb4⟩
    have S4 : Hid (SliceG w4 w.heap.size u4 Z) := by show SliceG _ _ _ _; rw [HZ.out]; exact hs4.mono hws
    have B4 : Hid (Below w.heap.size w w4) := B3.out.trans (hb4.mono hws)
    clear hs4 hb4
    go_wp2
    go_ret
    exact ⟨_, rfl, S4.out, B4.out⟩
set_option maxRecDepth 10000 in
set_option maxHeartbeats 4000000 in
theorem grantDrop_any (v : Value) (L : List Gr) (tp si : ByteArray) (B : Nat) (w : World) (hs : SliceG w B v L) (hn : L.length ≤ 1048576) :
    Calls Try.prog 16 #[v, .string tp, .string si] w fun e w' => ∃ v', e = .returned v' ∧ SliceG w' w.heap.size v' (dropL L tp si) ∧ Below w.heap.size w w' := by
  have KG : Hid (∀ W, Below w.heap.size w W → Calls Try.prog 34 #[v] W fun e w' => e = .returned (.bool (grantsB L)) ∧ Below W.heap.size W w') := fun W hb => grantsRight_any v L B W (hs.below hb) hn
  have KR0 : ∀ W, Calls Try.prog 50 #[leaveV tp si] W fun e w' => e = .returned (.bool (siteG tp && siteG si)) ∧ Below W.heap.size W w' := fun W => leaveRight_any tp si W
  have KC : Hid (grantsB L = true → ∀ W, Below w.heap.size w W → Calls Try.prog 43 #[v, .func (.func 44) #[] #[]] W fun e w' => ∃ v', e = .returned v' ∧ SliceG w' W.heap.size v' L ∧ Below W.heap.size W w') := fun h W hb => grantCopies_any v L B W (hs.below hb) hn (grants_small h)
  have KD0 : grantsB L = true → ∀ (u : Value) (B : Nat) (W : World), SliceG W B u L → B ≤ W.heap.size → Calls Try.prog 42 #[u, .func (.func 51) #[leaveV tp si] #[]] W fun e w' => ∃ v', e = .returned v' ∧ SliceG w' B v' (L.filter (fun g => !(isG tp si g))) ∧ Below B W w' := fun h u B W h1 h2 => deleteHas_any tp si u B L W h1 h2 (by have := (grantsB_parts h).1; omega) (fun c W _ => hasG_any tp si c W)
  have HNo : Hid ((grantsB L && (siteG tp && siteG si)) = false → dropL L tp si = []) := fun h => by rw [← Bool.and_assoc] at h; unfold dropL; rw [if_neg (by rw [h]; decide)]
  have HY : Hid ((grantsB L && (siteG tp && siteG si)) = true → dropL L tp si = L.filter (fun g => !(isG tp si g))) := fun h => by rw [← Bool.and_assoc] at h; unfold dropL; rw [if_pos h]
  have hmf : ∀ (fn : Fn) (first cap : Array Value) (w : World), (Instr.makeFunc fn first cap).run Try.prog w = .ok (.func fn first cap) w := fun _ _ _ _ => rfl
  clear hs
  generalize dropL L tp si = Z at *
  generalize L.filter (fun g => !(isG tp si g)) = Y at *
  generalize grantsB L = r1 at *
  generalize (siteG tp && siteG si) = r2 at *
  unfold leaveV at *
  have KR : Hid (∀ W, Calls Try.prog 50 #[.agg #[.string tp, .string si]] W fun e w' => e = .returned (.bool r2) ∧ Below W.heap.size W w') := KR0
  have KD : Hid (r1 = true → ∀ (u : Value) (B : Nat) (W : World), SliceG W B u L → B ≤ W.heap.size → Calls Try.prog 42 #[u, .func (.func 51) #[.agg #[.string tp, .string si]] #[]] W fun e w' => ∃ v', e = .returned v' ∧ SliceG w' B v' Y ∧ Below B W w') := KD0
  clear KR0 KD0
  obtain ⟨W0, hW⟩ : ∃ W0, W0 = w.alloc (.cells #[.string tp, .string si] 73) := ⟨_, rfl⟩
  have hW0 : Hid (W0 = w.alloc (.cells #[.string tp, .string si] 73)) := hW
  have B0 : Hid (Below w.heap.size w W0) := by show Below _ _ _; rw [hW]; exact (Below.refl _ _).alloc (Nat.le_refl _) _
  have g0 : W0.cell? ⟨w.heap.size, 0, none⟩ = some (.string tp) := by rw [hW]; simp
  have g1 : W0.cell? ⟨w.heap.size, 1, none⟩ = some (.string si) := by rw [hW]; simp
  have zw : w.heap.size < W0.heap.size := by rw [hW]; simp
  clear hW
  go_enter Try.func16, Try.ntmps16
  go_upto_region 2 with fail
  rw [← hW0.out]
  clear hW0
  generalize hbb : w.heap.size = b at *
  go_wp2_with fail
  refine (KG.out _ B0.out).mono ?_
  rintro e w1 ⟨rfl, hb1⟩
  have x0 : w1.cell? ⟨b, 0, none⟩ = some (.string tp) := ((bcell hb1).1 _ _ zw).trans g0
  have x1 : w1.cell? ⟨b, 1, none⟩ = some (.string si) := ((bcell hb1).1 _ _ zw).trans g1
  have B1 : Hid (Below b w w1) := B0.out.trans (hb1.mono (Nat.le_of_lt zw))
  have zw1 : b < w1.heap.size := Nat.lt_of_lt_of_le zw hb1.size
  clear hb1 g0 g1 KG B0
  cases r1 with
  | false =>
    have HZ : Hid (Z = []) := HNo.out rfl
    go_wp2
    go_ret
    exact ⟨_, rfl, by rw [HZ.out]; exact sliceG_none _ _, by rw [hbb]; exact B1.out⟩
  | true =>
  have KC2 := KC.out rfl
  have KD2 := KD.out rfl
  have KC3 : Hid (∀ W, Below b w W → Calls Try.prog 43 #[v, .func (.func 44) #[] #[]] W fun e w' => ∃ v', e = .returned v' ∧ SliceG w' W.heap.size v' L ∧ Below W.heap.size W w') := KC2
  have KD3 : Hid (∀ (u : Value) (B : Nat) (W : World), SliceG W B u L → B ≤ W.heap.size → Calls Try.prog 42 #[u, .func (.func 51) #[.agg #[.string tp, .string si]] #[]] W fun e w' => ∃ v', e = .returned v' ∧ SliceG w' B v' Y ∧ Below B W w') := KD2
  clear KC KD KC2 KD2
  go_wp2_with fail
  refine (KR.out _).mono ?_
  rintro e w2 ⟨rfl, hb2⟩
  have y0 : w2.cell? ⟨b, 0, none⟩ = some (.string tp) := ((bcell hb2).1 _ _ zw1).trans x0
  have y1 : w2.cell? ⟨b, 1, none⟩ = some (.string si) := ((bcell hb2).1 _ _ zw1).trans x1
  have B2 : Hid (Below b w w2) := B1.out.trans (hb2.mono (Nat.le_of_lt zw1))
  have zw2 : b < w2.heap.size := Nat.lt_of_lt_of_le zw1 hb2.size
  clear hb2 x0 x1
  cases r2 with
  | false =>
    have HZ : Hid (Z = []) := HNo.out rfl
    go_wp2
    go_ret
    exact ⟨_, rfl, by rw [HZ.out]; exact sliceG_none _ _, by rw [hbb]; exact B2.out⟩
  | true =>
    have HZ : Hid (Z = Y) := HY.out rfl
    go_wp2_with fail
    go_region_held3 (fun w' => w'.cell? ⟨b, 0, none⟩ = some (.string tp) ∧ w'.cell? ⟨b, 1, none⟩ = some (.string si)) (go_keep)
      (first
        | (go_at_call 43; refine (KC3.out _ (B2.out.trans (Below.drew (Below.refl _ _)))).mono ?_; rintro e w3 ⟨u3, rfl, hs3, hb3⟩; have A3 : Below w2.heap.size w2 w3 := (Below.drew (Below.refl _ _)).trans hb3; have m0 : w3.cell? ⟨b, 0, none⟩ = some (.string tp) := ((bcell A3).1 _ _ zw2).trans y0; have m1 : w3.cell? ⟨b, 1, none⟩ = some (.string si) := ((bcell A3).1 _ _ zw2).trans y1)
        | (go_at_call 42; refine (KD3.out _ _ _ hs3 hb3.size).mono ?_; rintro e w4 ⟨u4, rfl, hs4, hb4⟩; have A4 : Below w2.heap.size w2 w4 := A3.trans hb4; have n0 : w4.cell? ⟨b, 0, none⟩ = some (.string tp) := ((bcell A4).1 _ _ zw2).trans y0; have n1 : w4.cell? ⟨b, 1, none⟩ = some (.string si) := ((bcell A4).1 _ _ zw2).trans y1))
    all_goals
      have S4 : Hid (SliceG w4 b u4 Z) := by show SliceG _ _ _ _; rw [HZ.out]; exact hs4.mono (Nat.le_of_lt zw2)
      have B4 : Hid (Below b w w4) := B2.out.trans (A4.mono (Nat.le_of_lt zw2))
    all_goals go_wp2
    all_goals go_ret
    all_goals exact ⟨_, rfl, by rw [hbb]; exact S4.out, by rw [hbb]; exact B4.out⟩
end Go.Proofs.Ytehnklgpdjfcgaa
