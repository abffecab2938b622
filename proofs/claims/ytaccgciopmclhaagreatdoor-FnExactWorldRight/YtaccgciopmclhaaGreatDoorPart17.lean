/- 6 of this claim's texts, one behind the other. -/
import Derived.Test.YtaccgciopmclhaaGreatDoorPart16
import Derived.Deep.RegionHeld3
import Derived.Test.YtaccgciopmclhaaGreatDoorPart4
import Derived.Test.YtaccgciopmclhaaGreatDoorPart14
import Derived.Test.YtaccgciopmclhaaGreatDoorPart7
import Derived.Test.YtaccgciopmclhaaGreatDoorPart15
import Derived.Test.YtaccgciopmclhaaGreatDoorPart13
import Derived.Deep.DeepCutAuto
import Derived.Handed
import Derived.Lay
import Derived.MakeChecks
import Derived.Lib.LaidTab
import Derived.Stop.LaidErr
import Derived.Laws.IdiomArrays
import Derived.LaidLaws
import Derived.WalkSmall
import Derived.Carry
import Derived.ChangeVars
import Derived.OpenShut
/- The walk of the program's GrantsRight. Written by implgrants.py. -/
namespace Go.Proofs.YtaccgciopmclhaaGreatDoor
open Go.RowKit

set_option maxRecDepth 10000 in
set_option maxHeartbeats 8000000 in
theorem grantsRight_any (v : Value) (L : List Gr) (B : Nat) (w : World) (hs : SliceG w B v L) (hn : L.length ≤ 1048576) :
    Calls Tryz.prog 42 #[v] w fun e w' => e = .returned (.bool (grantsB L)) ∧ Below w.heap.size w w' := by
  have HLong : Hid (8 < L.length → grantsB L = false) := grantsB_long
  have HAll : Hid ((∀ i, i < L.length → okG L i = true) → grantsB L = decide (L.length ≤ 8)) := fun h => grantsB_all h
  have HBad : Hid (∀ i, i < L.length → okG L i = false → grantsB L = false) := fun i h hi => grantsB_at i h hi
  obtain ⟨⟨p, cap, rfl, hg⟩, -⟩ := hs
  have HG : Hid (0 < L.length → ∃ g, p = some ⟨g, 0, none⟩ ∧ g < w.heap.size ∧ ∀ j, j < L.length → ∀ o, o < 3 → w.cell? ⟨g, j * 3 + o, none⟩ = some (grC (atG L j) o)) := fun h0 => by
    obtain ⟨g, e, -, hgw, hc⟩ := hg h0
    exact ⟨g, e, hgw, fun j hj o ho => (hc j hj o ho).1⟩
  clear hg
  generalize grantsB L = R at *
  by_cases h16 : 8 < L.length
  · have HQ : Hid (R = false) := HLong.out h16
    have q0 : decide ((8 : Int) < (L.length : Int)) = true := by rw [decide_eq_true_iff]; omega
    go_enter Tryz.func42, Tryz.ntmps42
    go_wp2
    go_ret
    exact ⟨ret_bool HQ.out.symm, Below.refl _ _⟩
  have q0 : decide ((8 : Int) < (L.length : Int)) = false := by rw [decide_eq_false_iff_not]; omega
  have HAll2 : Hid ((∀ i, i < L.length → okG L i = true) → R = true) := fun h => by rw [HAll.out h, decide_eq_true (by omega)]
  clear HAll HLong
  go_enter Tryz.func42, Tryz.ntmps42
  go_wp2
  go_loopw [10] (fun i wr => ∃ k : Nat, k ≤ L.length ∧ i = .int .i64 k ∧ Hid (∀ j, j < k → okG L j = true) ∧ Hid (Below w.heap.size w wr)) (fun i _ => L.length - (intOf i).toNat)
  case atStart => exact ⟨0, Nat.zero_le _, rfl, fun j hj => absurd hj (by omega), Below.refl _ _⟩
  case round =>
    obtain ⟨k, hk, rfl, HR, HB⟩ := hrel
    by_cases hlt : k < L.length
    · obtain ⟨g, rfl, hgw, hc⟩ := HG.out (by omega)
      have HC : Hid (∀ j, j < L.length → ∀ o, o < 3 → wr.cell? ⟨g, j * 3 + o, none⟩ = some (grC (atG L j) o)) := fun j hj o ho => by rw [(bcell HB.out).1 _ _ hgw]; exact hc j hj o ho
      have hgr : g < wr.heap.size := Nat.lt_of_lt_of_le hgw HB.out.size
      have k0 : (0 : Int) ≤ k := by omega
      have k1 : (k : Int) < L.length := by omega
      have HBk : Hid (okG L k = false → R = false) := HBad.out k hlt
      have e0 : wr.cell? ⟨g, k * 3, none⟩ = some (.string (atG L k).tp) := HC.out k hlt 0 (by omega)
      have e1 : wr.cell? ⟨g, k * 3 + 1, none⟩ = some (.string (atG L k).si) := HC.out k hlt 1 (by omega)
      have e2 : wr.cell? ⟨g, k * 3 + 2, none⟩ = some (.int .i64 (atG L k).un) := HC.out k hlt 2 (by omega)
      have KE0 : Hid (∀ W, Calls Tryz.prog 101 #[grV (atG L k)] W fun r w' => r = .returned (.bool (grB (atG L k))) ∧ Below W.heap.size W w') := fun W => grantRight_any _ W
      clear hc HG HBad
      cases hkb : grB (atG L k) with
      | false =>
        have HQ : Hid (R = false) := HBk.out (okG_no hkb)
        rw [hkb] at KE0
        clear hkb HBk HC HR
        generalize atG L k = y at *
        obtain ⟨ke, na, va⟩ := y
        unfold grV at KE0
        dsimp only at *
        have KE : Hid (∀ W, Calls Tryz.prog 101 #[.agg #[.string ke, .string na, .int .i64 va]] W fun r w' => r = .returned (.bool false) ∧ Below W.heap.size W w') := KE0
        clear KE0
        obtain ⟨W0, hW⟩ : ∃ W0, W0 = wr.alloc (.cells #[.string ke, .string na, .int .i64 va] 130) := ⟨_, rfl⟩
        have hW0 : Hid (W0 = wr.alloc (.cells #[.string ke, .string na, .int .i64 va] 130)) := hW
        have HBW : Hid (Below w.heap.size w W0) := by show Below _ _ _; rw [hW]; exact HB.out.alloc HB.out.size _
        have HBr : Hid (Below wr.heap.size wr W0) := by show Below _ _ _; rw [hW]; exact (Below.refl _ _).alloc (Nat.le_refl _) _
        have c0 : W0.cell? ⟨wr.heap.size, 0, none⟩ = some (.string ke) := by rw [hW]; simp
        have c1 : W0.cell? ⟨wr.heap.size, 1, none⟩ = some (.string na) := by rw [hW]; simp
        have c2 : W0.cell? ⟨wr.heap.size, 2, none⟩ = some (.int .i64 va) := by rw [hW]; simp
        have hbW : wr.heap.size < W0.heap.size := by rw [hW]; simp
        have hgW : g < W0.heap.size := Nat.lt_trans hgr hbW
        clear hW
        go_wp2_with fail
        rw [← hW0.out]
        clear hW0
        generalize hbb : wr.heap.size = b at *
        clear hbb HBr HB e0 e1 e2 
        refine wp_region_held_drew (S := (fun w' => w'.cell? ⟨b, 0, none⟩ = some (.string ke) ∧ w'.cell? ⟨b, 1, none⟩ = some (.string na) ∧ w'.cell? ⟨b, 2, none⟩ = some (.int .i64 va))) (by kernel_rfl) ?_ (fun hH0 => ?_)
        · (try dsimp only)
          go_keep
        refine wpAnyH_take (i := 0) (oi := { dst := some 15, op := Op.load 130 (Operand.tmp 4), type := 130, pos := "l08_grant.go:48", after := #[], guard := none }) (v := ?va0) rfl (by kernel_rfl) (by kernel_rfl) (by kernel_rfl) (fun _ _ _ h => h) (Or.inl ⟨by rfl, ?hya0⟩) (by assumption) ?resta0
        case hya0 =>
          intro w hSw
          (try dsimp only at hSw)
          go_simp
          try with_reducible rfl
        try simp only [Act.put, List.setIfInBounds_toArray, List.set_cons_zero, List.set_cons_succ]
        refine wpAnyH_ready (rs := [1]) (by kernel_rfl) (by simp) ?_
        refine AllReadyH.cons (o := { dst := some 16, op := Op.call { callee := Callee.value (Operand.func 101), args := #[Operand.tmp 15], argTypes := #[130] }, type := 4, pos := "l08_grant.go:48", after := #[{ on := 0, ground := Ground.data }], guard := none }) rfl (fun K hK => ?_) AllReadyH.nil
        go_simp
        (go_at_call 101; refine (KE.out _).mono ?_; rintro e w2 ⟨rfl, hb2⟩; have A2 : Below W0.heap.size W0 w2 := (Below.drew (Below.refl _ _)).trans hb2; have x0 : w2.cell? ⟨b, 0, none⟩ = some (.string ke) := ((bcell A2).1 _ _ hbW).trans c0; have x1 : w2.cell? ⟨b, 1, none⟩ = some (.string na) := ((bcell A2).1 _ _ hbW).trans c1; have x2 : w2.cell? ⟨b, 2, none⟩ = some (.int .i64 va) := ((bcell A2).1 _ _ hbW).trans c2)
        try (go_wp2_with fail)
        refine hK.out _ _ ?_ (fun hH1 => ?_)
        · (try dsimp only)
          go_keep
        clear hK K hH0
        try simp only [Act.put, List.setIfInBounds_toArray, List.set_cons_zero, List.set_cons_succ]
        refine wpAnyH_take (i := 2) (oi := { dst := some 17, op := Op.unOp UnOp.not 4 (Operand.tmp 16), type := 4, pos := "l08_grant.go:48", after := #[{ on := 1, ground := Ground.data }], guard := none }) (v := ?va2) rfl (by kernel_rfl) (by kernel_rfl) (by kernel_rfl) (fun _ _ _ h => h) (Or.inl ⟨by rfl, ?hya2⟩) (by assumption) ?resta2
        case hya2 =>
          intro w hSw
          (try dsimp only at hSw)
          go_simp
          try with_reducible rfl
        try simp only [Act.put, List.setIfInBounds_toArray, List.set_cons_zero, List.set_cons_succ]
        refine wpAnyH_take (i := 3) (oi := { dst := some 18, op := Op.move (Operand.tmp 17), type := 4, pos := "l08_grant.go:48", after := #[{ on := 2, ground := Ground.data }, { on := 1, ground := Ground.chain }], guard := none }) (v := ?va3) rfl (by kernel_rfl) (by kernel_rfl) (by kernel_rfl) (fun _ _ _ h => h) (Or.inl ⟨by rfl, ?hya3⟩) (by assumption) ?resta3
        case hya3 =>
          intro w hSw
          (try dsimp only at hSw)
          go_simp
          try with_reducible rfl
        try simp only [Act.put, List.setIfInBounds_toArray, List.set_cons_zero, List.set_cons_succ]
        refine wpAnyH_take (i := 4) (oi := { dst := some 19, op := Op.move (Operand.tmp 3), type := 3, pos := "l08_grant.go:48", after := #[{ on := 3, ground := Ground.guard }], guard := some (3, false) }) (v := undef) rfl (by kernel_rfl) (by kernel_rfl) (by kernel_rfl) (fun _ _ _ h => h) (Or.inr ⟨by rfl, rfl⟩) (by assumption) ?_
        try simp only [Act.put, List.setIfInBounds_toArray, List.set_cons_zero, List.set_cons_succ]
        refine wpAnyH_take (i := 5) (oi := { dst := some 20, op := Op.binOp BinOp.gtr 3 (Operand.tmp 19) (Operand.const (Value.int IntKind.i64 0)) 3, type := 4, pos := "l08_grant.go:48", after := #[{ on := 4, ground := Ground.data }, { on := 3, ground := Ground.guard }], guard := some (3, false) }) (v := undef) rfl (by kernel_rfl) (by kernel_rfl) (by kernel_rfl) (fun _ _ _ h => h) (Or.inr ⟨by rfl, rfl⟩) (by assumption) ?_
        try simp only [Act.put, List.setIfInBounds_toArray, List.set_cons_zero, List.set_cons_succ]
        refine wpAnyH_take (i := 6) (oi := { dst := some 21, op := Op.move (Operand.tmp 20), type := 4, pos := "l08_grant.go:48", after := #[{ on := 5, ground := Ground.data }, { on := 3, ground := Ground.chain }, { on := 3, ground := Ground.guard }], guard := some (3, false) }) (v := undef) rfl (by kernel_rfl) (by kernel_rfl) (by kernel_rfl) (fun _ _ _ h => h) (Or.inr ⟨by rfl, rfl⟩) (by assumption) ?_
        try simp only [Act.put, List.setIfInBounds_toArray, List.set_cons_zero, List.set_cons_succ]
        refine wpAnyH_take (i := 7) (oi := { dst := some 22, op := Op.move (Operand.tmp 0), type := 36, pos := "l08_grant.go:48", after := #[{ on := 6, ground := Ground.guard }], guard := some (6, true) }) (v := undef) rfl (by kernel_rfl) (by kernel_rfl) (by kernel_rfl) (fun _ _ _ h => h) (Or.inr ⟨by rfl, rfl⟩) (by assumption) ?_
        try simp only [Act.put, List.setIfInBounds_toArray, List.set_cons_zero, List.set_cons_succ]
        refine wpAnyH_take (i := 8) (oi := { dst := some 23, op := Op.move (Operand.tmp 3), type := 3, pos := "l08_grant.go:48", after := #[{ on := 6, ground := Ground.guard }], guard := some (6, true) }) (v := undef) rfl (by kernel_rfl) (by kernel_rfl) (by kernel_rfl) (fun _ _ _ h => h) (Or.inr ⟨by rfl, rfl⟩) (by assumption) ?_
        try simp only [Act.put, List.setIfInBounds_toArray, List.set_cons_zero, List.set_cons_succ]
        refine wpAnyH_take (i := 9) (oi := { dst := some 24, op := Op.binOp BinOp.sub 3 (Operand.tmp 23) (Operand.const (Value.int IntKind.i64 1)) 3, type := 3, pos := "l08_grant.go:48", after := #[{ on := 8, ground := Ground.data }, { on := 6, ground := Ground.guard }], guard := some (6, true) }) (v := undef) rfl (by kernel_rfl) (by kernel_rfl) (by kernel_rfl) (fun _ _ _ h => h) (Or.inr ⟨by rfl, rfl⟩) (by assumption) ?_
        try simp only [Act.put, List.setIfInBounds_toArray, List.set_cons_zero, List.set_cons_succ]
        refine wpAnyH_take (i := 10) (oi := { dst := some 25, op := Op.indexAddr 36 (Operand.tmp 22) (Operand.tmp 24), type := 0, pos := "l08_grant.go:48", after := #[{ on := 7, ground := Ground.data }, { on := 9, ground := Ground.data }, { on := 6, ground := Ground.guard }], guard := some (6, true) }) (v := undef) rfl (by kernel_rfl) (by kernel_rfl) (by kernel_rfl) (fun _ _ _ h => h) (Or.inr ⟨by rfl, rfl⟩) (by assumption) ?_
        try simp only [Act.put, List.setIfInBounds_toArray, List.set_cons_zero, List.set_cons_succ]
        refine wpAnyH_take (i := 11) (oi := { dst := some 26, op := Op.load 130 (Operand.tmp 25), type := 130, pos := "l08_grant.go:48", after := #[{ on := 10, ground := Ground.data }, { on := 6, ground := Ground.guard }], guard := some (6, true) }) (v := undef) rfl (by kernel_rfl) (by kernel_rfl) (by kernel_rfl) (fun _ _ _ h => h) (Or.inr ⟨by rfl, rfl⟩) (by assumption) ?_
        try simp only [Act.put, List.setIfInBounds_toArray, List.set_cons_zero, List.set_cons_succ]
        refine wpAnyH_take (i := 12) (oi := { dst := some 27, op := Op.load 130 (Operand.tmp 4), type := 130, pos := "l08_grant.go:48", after := #[{ on := 6, ground := Ground.guard }], guard := some (6, true) }) (v := undef) rfl (by kernel_rfl) (by kernel_rfl) (by kernel_rfl) (fun _ _ _ h => h) (Or.inr ⟨by rfl, rfl⟩) (by assumption) ?_
        try simp only [Act.put, List.setIfInBounds_toArray, List.set_cons_zero, List.set_cons_succ]
        refine wpAnyH_take (i := 13) (oi := { dst := some 28, op := Op.call { callee := Callee.value (Operand.func 102), args := #[Operand.tmp 26, Operand.tmp 27], argTypes := #[130, 130] }, type := 3, pos := "l08_grant.go:48", after := #[{ on := 11, ground := Ground.data }, { on := 12, ground := Ground.data }, { on := 6, ground := Ground.chain }, { on := 6, ground := Ground.guard }], guard := some (6, true) }) (v := undef) rfl (by kernel_rfl) (by kernel_rfl) (by kernel_rfl) (fun _ _ _ h => h) (Or.inr ⟨by rfl, rfl⟩) (by assumption) ?_
        try simp only [Act.put, List.setIfInBounds_toArray, List.set_cons_zero, List.set_cons_succ]
        refine wpAnyH_take (i := 14) (oi := { dst := some 29, op := Op.binOp BinOp.geq 3 (Operand.tmp 28) (Operand.const (Value.int IntKind.i64 0)) 3, type := 4, pos := "l08_grant.go:48", after := #[{ on := 13, ground := Ground.data }, { on := 6, ground := Ground.guard }], guard := some (6, true) }) (v := undef) rfl (by kernel_rfl) (by kernel_rfl) (by kernel_rfl) (fun _ _ _ h => h) (Or.inr ⟨by rfl, rfl⟩) (by assumption) ?_
        try simp only [Act.put, List.setIfInBounds_toArray, List.set_cons_zero, List.set_cons_succ]
        refine wpAnyH_take (i := 15) (oi := { dst := some 30, op := Op.pick (Operand.tmp 21) (Operand.tmp 29) (Operand.const (Value.bool false)), type := 4, pos := "l08_grant.go:48", after := #[{ on := 6, ground := Ground.data }, { on := 14, ground := Ground.data }, { on := 3, ground := Ground.guard }], guard := some (3, false) }) (v := undef) rfl (by kernel_rfl) (by kernel_rfl) (by kernel_rfl) (fun _ _ _ h => h) (Or.inr ⟨by rfl, rfl⟩) (by assumption) ?_
        try simp only [Act.put, List.setIfInBounds_toArray, List.set_cons_zero, List.set_cons_succ]
        refine wpAnyH_take (i := 16) (oi := { dst := some 31, op := Op.pick (Operand.tmp 18) (Operand.const (Value.bool true)) (Operand.tmp 30), type := 4, pos := "l08_grant.go:48", after := #[{ on := 3, ground := Ground.data }, { on := 15, ground := Ground.data }], guard := none }) (v := ?va16) rfl (by kernel_rfl) (by kernel_rfl) (by kernel_rfl) (fun _ _ _ h => h) (Or.inl ⟨by rfl, ?hya16⟩) (by assumption) ?resta16
        case hya16 =>
          intro w hSw
          (try dsimp only at hSw)
          go_simp
          try with_reducible rfl
        try simp only [Act.put, List.setIfInBounds_toArray, List.set_cons_zero, List.set_cons_succ]
        refine wpAnyH_done (by kernel_rfl) ?_ _
        go_wp2
        go_ret
        exact ⟨ret_bool HQ.out.symm, HBW.out.trans (A2.mono HBW.out.size)⟩
      | true =>
      rw [hkb] at KE0
      cases k with
      | zero =>
        have HSt : Hid (∀ j, j < 0 + 1 → okG L j = true) := okG_succ HR.out (okG_first hkb)
        clear HBk HC HR hkb
        have q1 : decide ((0 : Int) < (0 : Int)) = false := rfl
        rw [Nat.zero_mul] at e0
        rw [Nat.zero_mul, Nat.zero_add] at e1 e2
        generalize atG L 0 = y at *
        obtain ⟨ke, na, va⟩ := y
        unfold grV at KE0
        dsimp only at *
        have KE : Hid (∀ W, Calls Tryz.prog 101 #[.agg #[.string ke, .string na, .int .i64 va]] W fun r w' => r = .returned (.bool true) ∧ Below W.heap.size W w') := KE0
        clear KE0
        obtain ⟨W0, hW⟩ : ∃ W0, W0 = wr.alloc (.cells #[.string ke, .string na, .int .i64 va] 130) := ⟨_, rfl⟩
        have hW0 : Hid (W0 = wr.alloc (.cells #[.string ke, .string na, .int .i64 va] 130)) := hW
        have HBW : Hid (Below w.heap.size w W0) := by show Below _ _ _; rw [hW]; exact HB.out.alloc HB.out.size _
        have HBr : Hid (Below wr.heap.size wr W0) := by show Below _ _ _; rw [hW]; exact (Below.refl _ _).alloc (Nat.le_refl _) _
        have c0 : W0.cell? ⟨wr.heap.size, 0, none⟩ = some (.string ke) := by rw [hW]; simp
        have c1 : W0.cell? ⟨wr.heap.size, 1, none⟩ = some (.string na) := by rw [hW]; simp
        have c2 : W0.cell? ⟨wr.heap.size, 2, none⟩ = some (.int .i64 va) := by rw [hW]; simp
        have hbW : wr.heap.size < W0.heap.size := by rw [hW]; simp
        have hgW : g < W0.heap.size := Nat.lt_trans hgr hbW
        clear hW
        go_wp2_with fail
        rw [← hW0.out]
        clear hW0
        generalize hbb : wr.heap.size = b at *
        clear hbb HBr HB e0 e1 e2 
        refine wp_region_held_drew (S := (fun w' => w'.cell? ⟨b, 0, none⟩ = some (.string ke) ∧ w'.cell? ⟨b, 1, none⟩ = some (.string na) ∧ w'.cell? ⟨b, 2, none⟩ = some (.int .i64 va))) (by kernel_rfl) ?_ (fun hH0 => ?_)
        · (try dsimp only)
          go_keep
        refine wpAnyH_take (i := 0) (oi := { dst := some 15, op := Op.load 130 (Operand.tmp 4), type := 130, pos := "l08_grant.go:48", after := #[], guard := none }) (v := ?vb0) rfl (by kernel_rfl) (by kernel_rfl) (by kernel_rfl) (fun _ _ _ h => h) (Or.inl ⟨by rfl, ?hyb0⟩) (by assumption) ?restb0
        case hyb0 =>
          intro w hSw
          (try dsimp only at hSw)
          go_simp
          try with_reducible rfl
        try simp only [Act.put, List.setIfInBounds_toArray, List.set_cons_zero, List.set_cons_succ]
        refine wpAnyH_ready (rs := [1]) (by kernel_rfl) (by simp) ?_
        refine AllReadyH.cons (o := { dst := some 16, op := Op.call { callee := Callee.value (Operand.func 101), args := #[Operand.tmp 15], argTypes := #[130] }, type := 4, pos := "l08_grant.go:48", after := #[{ on := 0, ground := Ground.data }], guard := none }) rfl (fun K hK => ?_) AllReadyH.nil
        go_simp
        (go_at_call 101; refine (KE.out _).mono ?_; rintro e w2 ⟨rfl, hb2⟩; have A2 : Below W0.heap.size W0 w2 := (Below.drew (Below.refl _ _)).trans hb2; have x0 : w2.cell? ⟨b, 0, none⟩ = some (.string ke) := ((bcell A2).1 _ _ hbW).trans c0; have x1 : w2.cell? ⟨b, 1, none⟩ = some (.string na) := ((bcell A2).1 _ _ hbW).trans c1; have x2 : w2.cell? ⟨b, 2, none⟩ = some (.int .i64 va) := ((bcell A2).1 _ _ hbW).trans c2)
        try (go_wp2_with fail)
        refine hK.out _ _ ?_ (fun hH1 => ?_)
        · (try dsimp only)
          go_keep
        clear hK K hH0
        try simp only [Act.put, List.setIfInBounds_toArray, List.set_cons_zero, List.set_cons_succ]
        refine wpAnyH_take (i := 2) (oi := { dst := some 17, op := Op.unOp UnOp.not 4 (Operand.tmp 16), type := 4, pos := "l08_grant.go:48", after := #[{ on := 1, ground := Ground.data }], guard := none }) (v := ?vb2) rfl (by kernel_rfl) (by kernel_rfl) (by kernel_rfl) (fun _ _ _ h => h) (Or.inl ⟨by rfl, ?hyb2⟩) (by assumption) ?restb2
        case hyb2 =>
          intro w hSw
          (try dsimp only at hSw)
          go_simp
          try with_reducible rfl
        try simp only [Act.put, List.setIfInBounds_toArray, List.set_cons_zero, List.set_cons_succ]
        refine wpAnyH_take (i := 3) (oi := { dst := some 18, op := Op.move (Operand.tmp 17), type := 4, pos := "l08_grant.go:48", after := #[{ on := 2, ground := Ground.data }, { on := 1, ground := Ground.chain }], guard := none }) (v := ?vb3) rfl (by kernel_rfl) (by kernel_rfl) (by kernel_rfl) (fun _ _ _ h => h) (Or.inl ⟨by rfl, ?hyb3⟩) (by assumption) ?restb3
        case hyb3 =>
          intro w hSw
          (try dsimp only at hSw)
          go_simp
          try with_reducible rfl
        try simp only [Act.put, List.setIfInBounds_toArray, List.set_cons_zero, List.set_cons_succ]
        refine wpAnyH_take (i := 4) (oi := { dst := some 19, op := Op.move (Operand.tmp 3), type := 3, pos := "l08_grant.go:48", after := #[{ on := 3, ground := Ground.guard }], guard := some (3, false) }) (v := ?vb4) rfl (by kernel_rfl) (by kernel_rfl) (by kernel_rfl) (fun _ _ _ h => h) (Or.inl ⟨by rfl, ?hyb4⟩) (by assumption) ?restb4
        case hyb4 =>
          intro w hSw
          (try dsimp only at hSw)
          go_simp
          try with_reducible rfl
        try simp only [Act.put, List.setIfInBounds_toArray, List.set_cons_zero, List.set_cons_succ]
        refine wpAnyH_take (i := 5) (oi := { dst := some 20, op := Op.binOp BinOp.gtr 3 (Operand.tmp 19) (Operand.const (Value.int IntKind.i64 0)) 3, type := 4, pos := "l08_grant.go:48", after := #[{ on := 4, ground := Ground.data }, { on := 3, ground := Ground.guard }], guard := some (3, false) }) (v := ?vb5) rfl (by kernel_rfl) (by kernel_rfl) (by kernel_rfl) (fun _ _ _ h => h) (Or.inl ⟨by rfl, ?hyb5⟩) (by assumption) ?restb5
        case hyb5 =>
          intro w hSw
          (try dsimp only at hSw)
          go_simp
          try with_reducible rfl
        try simp only [Act.put, List.setIfInBounds_toArray, List.set_cons_zero, List.set_cons_succ]
        refine wpAnyH_take (i := 6) (oi := { dst := some 21, op := Op.move (Operand.tmp 20), type := 4, pos := "l08_grant.go:48", after := #[{ on := 5, ground := Ground.data }, { on := 3, ground := Ground.chain }, { on := 3, ground := Ground.guard }], guard := some (3, false) }) (v := ?vb6) rfl (by kernel_rfl) (by kernel_rfl) (by kernel_rfl) (fun _ _ _ h => h) (Or.inl ⟨by rfl, ?hyb6⟩) (by assumption) ?restb6
        case hyb6 =>
          intro w hSw
          (try dsimp only at hSw)
          go_simp
          try with_reducible rfl
        try simp only [Act.put, List.setIfInBounds_toArray, List.set_cons_zero, List.set_cons_succ]
        refine wpAnyH_take (i := 7) (oi := { dst := some 22, op := Op.move (Operand.tmp 0), type := 36, pos := "l08_grant.go:48", after := #[{ on := 6, ground := Ground.guard }], guard := some (6, true) }) (v := undef) rfl (by kernel_rfl) (by kernel_rfl) (by kernel_rfl) (fun _ _ _ h => h) (Or.inr ⟨by rfl, rfl⟩) (by assumption) ?_
        try simp only [Act.put, List.setIfInBounds_toArray, List.set_cons_zero, List.set_cons_succ]
        refine wpAnyH_take (i := 8) (oi := { dst := some 23, op := Op.move (Operand.tmp 3), type := 3, pos := "l08_grant.go:48", after := #[{ on := 6, ground := Ground.guard }], guard := some (6, true) }) (v := undef) rfl (by kernel_rfl) (by kernel_rfl) (by kernel_rfl) (fun _ _ _ h => h) (Or.inr ⟨by rfl, rfl⟩) (by assumption) ?_
        try simp only [Act.put, List.setIfInBounds_toArray, List.set_cons_zero, List.set_cons_succ]
        refine wpAnyH_take (i := 9) (oi := { dst := some 24, op := Op.binOp BinOp.sub 3 (Operand.tmp 23) (Operand.const (Value.int IntKind.i64 1)) 3, type := 3, pos := "l08_grant.go:48", after := #[{ on := 8, ground := Ground.data }, { on := 6, ground := Ground.guard }], guard := some (6, true) }) (v := undef) rfl (by kernel_rfl) (by kernel_rfl) (by kernel_rfl) (fun _ _ _ h => h) (Or.inr ⟨by rfl, rfl⟩) (by assumption) ?_
        try simp only [Act.put, List.setIfInBounds_toArray, List.set_cons_zero, List.set_cons_succ]
        refine wpAnyH_take (i := 10) (oi := { dst := some 25, op := Op.indexAddr 36 (Operand.tmp 22) (Operand.tmp 24), type := 0, pos := "l08_grant.go:48", after := #[{ on := 7, ground := Ground.data }, { on := 9, ground := Ground.data }, { on := 6, ground := Ground.guard }], guard := some (6, true) }) (v := undef) rfl (by kernel_rfl) (by kernel_rfl) (by kernel_rfl) (fun _ _ _ h => h) (Or.inr ⟨by rfl, rfl⟩) (by assumption) ?_
        try simp only [Act.put, List.setIfInBounds_toArray, List.set_cons_zero, List.set_cons_succ]
        refine wpAnyH_take (i := 11) (oi := { dst := some 26, op := Op.load 130 (Operand.tmp 25), type := 130, pos := "l08_grant.go:48", after := #[{ on := 10, ground := Ground.data }, { on := 6, ground := Ground.guard }], guard := some (6, true) }) (v := undef) rfl (by kernel_rfl) (by kernel_rfl) (by kernel_rfl) (fun _ _ _ h => h) (Or.inr ⟨by rfl, rfl⟩) (by assumption) ?_
        try simp only [Act.put, List.setIfInBounds_toArray, List.set_cons_zero, List.set_cons_succ]
        refine wpAnyH_take (i := 12) (oi := { dst := some 27, op := Op.load 130 (Operand.tmp 4), type := 130, pos := "l08_grant.go:48", after := #[{ on := 6, ground := Ground.guard }], guard := some (6, true) }) (v := undef) rfl (by kernel_rfl) (by kernel_rfl) (by kernel_rfl) (fun _ _ _ h => h) (Or.inr ⟨by rfl, rfl⟩) (by assumption) ?_
        try simp only [Act.put, List.setIfInBounds_toArray, List.set_cons_zero, List.set_cons_succ]
        refine wpAnyH_take (i := 13) (oi := { dst := some 28, op := Op.call { callee := Callee.value (Operand.func 102), args := #[Operand.tmp 26, Operand.tmp 27], argTypes := #[130, 130] }, type := 3, pos := "l08_grant.go:48", after := #[{ on := 11, ground := Ground.data }, { on := 12, ground := Ground.data }, { on := 6, ground := Ground.chain }, { on := 6, ground := Ground.guard }], guard := some (6, true) }) (v := undef) rfl (by kernel_rfl) (by kernel_rfl) (by kernel_rfl) (fun _ _ _ h => h) (Or.inr ⟨by rfl, rfl⟩) (by assumption) ?_
        try simp only [Act.put, List.setIfInBounds_toArray, List.set_cons_zero, List.set_cons_succ]
        refine wpAnyH_take (i := 14) (oi := { dst := some 29, op := Op.binOp BinOp.geq 3 (Operand.tmp 28) (Operand.const (Value.int IntKind.i64 0)) 3, type := 4, pos := "l08_grant.go:48", after := #[{ on := 13, ground := Ground.data }, { on := 6, ground := Ground.guard }], guard := some (6, true) }) (v := undef) rfl (by kernel_rfl) (by kernel_rfl) (by kernel_rfl) (fun _ _ _ h => h) (Or.inr ⟨by rfl, rfl⟩) (by assumption) ?_
        try simp only [Act.put, List.setIfInBounds_toArray, List.set_cons_zero, List.set_cons_succ]
        refine wpAnyH_take (i := 15) (oi := { dst := some 30, op := Op.pick (Operand.tmp 21) (Operand.tmp 29) (Operand.const (Value.bool false)), type := 4, pos := "l08_grant.go:48", after := #[{ on := 6, ground := Ground.data }, { on := 14, ground := Ground.data }, { on := 3, ground := Ground.guard }], guard := some (3, false) }) (v := ?vb15) rfl (by kernel_rfl) (by kernel_rfl) (by kernel_rfl) (fun _ _ _ h => h) (Or.inl ⟨by rfl, ?hyb15⟩) (by assumption) ?restb15
        case hyb15 =>
          intro w hSw
          (try dsimp only at hSw)
          go_simp
          try with_reducible rfl
        try simp only [Act.put, List.setIfInBounds_toArray, List.set_cons_zero, List.set_cons_succ]
        refine wpAnyH_take (i := 16) (oi := { dst := some 31, op := Op.pick (Operand.tmp 18) (Operand.const (Value.bool true)) (Operand.tmp 30), type := 4, pos := "l08_grant.go:48", after := #[{ on := 3, ground := Ground.data }, { on := 15, ground := Ground.data }], guard := none }) (v := ?vb16) rfl (by kernel_rfl) (by kernel_rfl) (by kernel_rfl) (fun _ _ _ h => h) (Or.inl ⟨by rfl, ?hyb16⟩) (by assumption) ?restb16
        case hyb16 =>
          intro w hSw
          (try dsimp only at hSw)
          go_simp
          try with_reducible rfl
        try simp only [Act.put, List.setIfInBounds_toArray, List.set_cons_zero, List.set_cons_succ]
        refine wpAnyH_done (by kernel_rfl) ?_ _
        have BN : Hid (Below w.heap.size w w2) := HBW.out.trans (A2.mono HBW.out.size)
        go_wp2
        go_roundw
        case rel => exact ⟨1, by omega, by go_num, HSt, BN⟩
        case measure => simp [intOf]; omega
      | succ m =>
        have hm : m < L.length := by omega
        have d0' : wr.cell? ⟨g, m * 3, none⟩ = some (.string (atG L m).tp) := HC.out m hm 0 (by omega)
        have d1' : wr.cell? ⟨g, m * 3 + 1, none⟩ = some (.string (atG L m).si) := HC.out m hm 1 (by omega)
        have d2' : wr.cell? ⟨g, m * 3 + 2, none⟩ = some (.int .i64 (atG L m).un) := HC.out m hm 2 (by omega)
        have KO0 : Hid (∀ W, Calls Tryz.prog 102 #[grV (atG L m), grV (atG L (m + 1))] W fun e w' => e = .returned (.int .i64 (ordG (atG L m) (atG L (m + 1)))) ∧ Below W.heap.size W w') := fun W => grantOrder_any _ _ W
        have HRi : Hid (decide (0 ≤ ordG (atG L m) (atG L (m + 1))) = !(grLess (atG L m) (atG L (m + 1)))) := ordG_neg _ _
        have HYs : Hid (grLess (atG L m) (atG L (m + 1)) = true → ∀ j, j < m + 1 + 1 → okG L j = true) := fun h => okG_succ HR.out (okG_next hkb h)
        have HNs : Hid (grLess (atG L m) (atG L (m + 1)) = false → R = false) := fun h => HBk.out (okG_flat h)
        clear HC HBk HR hkb
        have q1 : decide ((0 : Int) < ((m : Int) + 1)) = true := by rw [decide_eq_true_iff]; omega
        have hw1 : IntKind.i64.wrap ((m : Int) + 1 - 1) = m := by rw [IntKind.wrap_i64]; omega
        have hw2 : IntKind.i64.wrap (m : Int) = m := by rw [IntKind.wrap_i64]; omega
        have p0 : (0 : Int) ≤ (m : Int) + 1 := by omega
        have p1 : (m : Int) + 1 < L.length := by omega
        have m0 : (0 : Int) ≤ m := by omega
        have m1 : (m : Int) < L.length := by omega
        generalize ordG (atG L m) (atG L (m + 1)) = O at *
        generalize hls : grLess (atG L m) (atG L (m + 1)) = ls at *
        clear hls
        generalize atG L (m + 1) = y at *
        generalize atG L m = z at *
        obtain ⟨ke, na, va⟩ := y
        obtain ⟨pk, pn, pv⟩ := z
        unfold grV at KE0 KO0
        dsimp only at *
        have KE : Hid (∀ W, Calls Tryz.prog 101 #[.agg #[.string ke, .string na, .int .i64 va]] W fun r w' => r = .returned (.bool true) ∧ Below W.heap.size W w') := KE0
        have KO : Hid (∀ W, Calls Tryz.prog 102 #[.agg #[.string pk, .string pn, .int .i64 pv], .agg #[.string ke, .string na, .int .i64 va]] W fun e w' => e = .returned (.int .i64 O) ∧ Below W.heap.size W w') := KO0
        clear KE0 KO0
        obtain ⟨W0, hW⟩ : ∃ W0, W0 = wr.alloc (.cells #[.string ke, .string na, .int .i64 va] 130) := ⟨_, rfl⟩
        have hW0 : Hid (W0 = wr.alloc (.cells #[.string ke, .string na, .int .i64 va] 130)) := hW
        have HBW : Hid (Below w.heap.size w W0) := by show Below _ _ _; rw [hW]; exact HB.out.alloc HB.out.size _
        have HBr : Hid (Below wr.heap.size wr W0) := by show Below _ _ _; rw [hW]; exact (Below.refl _ _).alloc (Nat.le_refl _) _
        have c0 : W0.cell? ⟨wr.heap.size, 0, none⟩ = some (.string ke) := by rw [hW]; simp
        have c1 : W0.cell? ⟨wr.heap.size, 1, none⟩ = some (.string na) := by rw [hW]; simp
        have c2 : W0.cell? ⟨wr.heap.size, 2, none⟩ = some (.int .i64 va) := by rw [hW]; simp
        have hbW : wr.heap.size < W0.heap.size := by rw [hW]; simp
        have hgW : g < W0.heap.size := Nat.lt_trans hgr hbW
        clear hW
        have d0 : W0.cell? ⟨g, m * 3, none⟩ = some (.string pk) := ((bcell HBr.out).1 _ _ hgr).trans d0'
        have d1 : W0.cell? ⟨g, m * 3 + 1, none⟩ = some (.string pn) := ((bcell HBr.out).1 _ _ hgr).trans d1'
        have d2 : W0.cell? ⟨g, m * 3 + 2, none⟩ = some (.int .i64 pv) := ((bcell HBr.out).1 _ _ hgr).trans d2'
        clear d0' d1' d2'
        cases ls with
        | false =>
          have HQ : Hid (R = false) := HNs.out rfl
          have qO : decide ((0 : Int) ≤ O) = true := HRi.out
          clear HRi HYs HNs
          go_wp2_with fail
          rw [← hW0.out]
          clear hW0
          generalize hbb : wr.heap.size = b at *
          clear hbb HBr HB e0 e1 e2 
          refine wp_region_held_drew (S := (fun w' => w'.cell? ⟨b, 0, none⟩ = some (.string ke) ∧ w'.cell? ⟨b, 1, none⟩ = some (.string na) ∧ w'.cell? ⟨b, 2, none⟩ = some (.int .i64 va) ∧ w'.cell? ⟨g, m * 3, none⟩ = some (.string pk) ∧ w'.cell? ⟨g, m * 3 + 1, none⟩ = some (.string pn) ∧ w'.cell? ⟨g, m * 3 + 2, none⟩ = some (.int .i64 pv))) (by kernel_rfl) ?_ (fun hH0 => ?_)
          · (try dsimp only)
            go_keep
          refine wpAnyH_take (i := 0) (oi := { dst := some 15, op := Op.load 130 (Operand.tmp 4), type := 130, pos := "l08_grant.go:48", after := #[], guard := none }) (v := ?vc0) rfl (by kernel_rfl) (by kernel_rfl) (by kernel_rfl) (fun _ _ _ h => h) (Or.inl ⟨by rfl, ?hyc0⟩) (by assumption) ?restc0
          case hyc0 =>
            intro w hSw
            (try dsimp only at hSw)
            go_simp
            try with_reducible rfl
          try simp only [Act.put, List.setIfInBounds_toArray, List.set_cons_zero, List.set_cons_succ]
          refine wpAnyH_ready (rs := [1]) (by kernel_rfl) (by simp) ?_
          refine AllReadyH.cons (o := { dst := some 16, op := Op.call { callee := Callee.value (Operand.func 101), args := #[Operand.tmp 15], argTypes := #[130] }, type := 4, pos := "l08_grant.go:48", after := #[{ on := 0, ground := Ground.data }], guard := none }) rfl (fun K hK => ?_) AllReadyH.nil
          go_simp
          (go_at_call 101; refine (KE.out _).mono ?_; rintro e w2 ⟨rfl, hb2⟩; have A2 : Below W0.heap.size W0 w2 := (Below.drew (Below.refl _ _)).trans hb2; have x0 : w2.cell? ⟨b, 0, none⟩ = some (.string ke) := ((bcell A2).1 _ _ hbW).trans c0; have x1 : w2.cell? ⟨b, 1, none⟩ = some (.string na) := ((bcell A2).1 _ _ hbW).trans c1; have x2 : w2.cell? ⟨b, 2, none⟩ = some (.int .i64 va) := ((bcell A2).1 _ _ hbW).trans c2; have xp0 : w2.cell? ⟨g, m * 3, none⟩ = some (.string pk) := ((bcell A2).1 _ _ hgW).trans d0; have xp1 : w2.cell? ⟨g, m * 3 + 1, none⟩ = some (.string pn) := ((bcell A2).1 _ _ hgW).trans d1; have xp2 : w2.cell? ⟨g, m * 3 + 2, none⟩ = some (.int .i64 pv) := ((bcell A2).1 _ _ hgW).trans d2)
          try (go_wp2_with fail)
          refine hK.out _ _ ?_ (fun hH1 => ?_)
          · (try dsimp only)
            go_keep
          clear hK K hH0
          try simp only [Act.put, List.setIfInBounds_toArray, List.set_cons_zero, List.set_cons_succ]
          refine wpAnyH_take (i := 2) (oi := { dst := some 17, op := Op.unOp UnOp.not 4 (Operand.tmp 16), type := 4, pos := "l08_grant.go:48", after := #[{ on := 1, ground := Ground.data }], guard := none }) (v := ?vc2) rfl (by kernel_rfl) (by kernel_rfl) (by kernel_rfl) (fun _ _ _ h => h) (Or.inl ⟨by rfl, ?hyc2⟩) (by assumption) ?restc2
          case hyc2 =>
            intro w hSw
            (try dsimp only at hSw)
            go_simp
            try with_reducible rfl
          try simp only [Act.put, List.setIfInBounds_toArray, List.set_cons_zero, List.set_cons_succ]
          refine wpAnyH_take (i := 3) (oi := { dst := some 18, op := Op.move (Operand.tmp 17), type := 4, pos := "l08_grant.go:48", after := #[{ on := 2, ground := Ground.data }, { on := 1, ground := Ground.chain }], guard := none }) (v := ?vc3) rfl (by kernel_rfl) (by kernel_rfl) (by kernel_rfl) (fun _ _ _ h => h) (Or.inl ⟨by rfl, ?hyc3⟩) (by assumption) ?restc3
          case hyc3 =>
            intro w hSw
            (try dsimp only at hSw)
            go_simp
            try with_reducible rfl
          try simp only [Act.put, List.setIfInBounds_toArray, List.set_cons_zero, List.set_cons_succ]
          refine wpAnyH_take (i := 4) (oi := { dst := some 19, op := Op.move (Operand.tmp 3), type := 3, pos := "l08_grant.go:48", after := #[{ on := 3, ground := Ground.guard }], guard := some (3, false) }) (v := ?vc4) rfl (by kernel_rfl) (by kernel_rfl) (by kernel_rfl) (fun _ _ _ h => h) (Or.inl ⟨by rfl, ?hyc4⟩) (by assumption) ?restc4
          case hyc4 =>
            intro w hSw
            (try dsimp only at hSw)
            go_simp
            try with_reducible rfl
          try simp only [Act.put, List.setIfInBounds_toArray, List.set_cons_zero, List.set_cons_succ]
          refine wpAnyH_take (i := 5) (oi := { dst := some 20, op := Op.binOp BinOp.gtr 3 (Operand.tmp 19) (Operand.const (Value.int IntKind.i64 0)) 3, type := 4, pos := "l08_grant.go:48", after := #[{ on := 4, ground := Ground.data }, { on := 3, ground := Ground.guard }], guard := some (3, false) }) (v := ?vc5) rfl (by kernel_rfl) (by kernel_rfl) (by kernel_rfl) (fun _ _ _ h => h) (Or.inl ⟨by rfl, ?hyc5⟩) (by assumption) ?restc5
          case hyc5 =>
            intro w hSw
            (try dsimp only at hSw)
            go_simp
            try with_reducible rfl
          try simp only [Act.put, List.setIfInBounds_toArray, List.set_cons_zero, List.set_cons_succ]
          refine wpAnyH_take (i := 6) (oi := { dst := some 21, op := Op.move (Operand.tmp 20), type := 4, pos := "l08_grant.go:48", after := #[{ on := 5, ground := Ground.data }, { on := 3, ground := Ground.chain }, { on := 3, ground := Ground.guard }], guard := some (3, false) }) (v := ?vc6) rfl (by kernel_rfl) (by kernel_rfl) (by kernel_rfl) (fun _ _ _ h => h) (Or.inl ⟨by rfl, ?hyc6⟩) (by assumption) ?restc6
          case hyc6 =>
            intro w hSw
            (try dsimp only at hSw)
            go_simp
            try with_reducible rfl
          try simp only [Act.put, List.setIfInBounds_toArray, List.set_cons_zero, List.set_cons_succ]
          refine wpAnyH_take (i := 7) (oi := { dst := some 22, op := Op.move (Operand.tmp 0), type := 36, pos := "l08_grant.go:48", after := #[{ on := 6, ground := Ground.guard }], guard := some (6, true) }) (v := ?vc7) rfl (by kernel_rfl) (by kernel_rfl) (by kernel_rfl) (fun _ _ _ h => h) (Or.inl ⟨by rfl, ?hyc7⟩) (by assumption) ?restc7
          case hyc7 =>
            intro w hSw
            (try dsimp only at hSw)
            go_simp
            try with_reducible rfl
          try simp only [Act.put, List.setIfInBounds_toArray, List.set_cons_zero, List.set_cons_succ]
          refine wpAnyH_take (i := 8) (oi := { dst := some 23, op := Op.move (Operand.tmp 3), type := 3, pos := "l08_grant.go:48", after := #[{ on := 6, ground := Ground.guard }], guard := some (6, true) }) (v := ?vc8) rfl (by kernel_rfl) (by kernel_rfl) (by kernel_rfl) (fun _ _ _ h => h) (Or.inl ⟨by rfl, ?hyc8⟩) (by assumption) ?restc8
          case hyc8 =>
            intro w hSw
            (try dsimp only at hSw)
            go_simp
            try with_reducible rfl
          try simp only [Act.put, List.setIfInBounds_toArray, List.set_cons_zero, List.set_cons_succ]
          refine wpAnyH_take (i := 9) (oi := { dst := some 24, op := Op.binOp BinOp.sub 3 (Operand.tmp 23) (Operand.const (Value.int IntKind.i64 1)) 3, type := 3, pos := "l08_grant.go:48", after := #[{ on := 8, ground := Ground.data }, { on := 6, ground := Ground.guard }], guard := some (6, true) }) (v := ?vc9) rfl (by kernel_rfl) (by kernel_rfl) (by kernel_rfl) (fun _ _ _ h => h) (Or.inl ⟨by rfl, ?hyc9⟩) (by assumption) ?restc9
          case hyc9 =>
            intro w hSw
            (try dsimp only at hSw)
            go_simp
            try with_reducible rfl
          try simp only [Act.put, List.setIfInBounds_toArray, List.set_cons_zero, List.set_cons_succ]
          refine wpAnyH_take (i := 10) (oi := { dst := some 25, op := Op.indexAddr 36 (Operand.tmp 22) (Operand.tmp 24), type := 0, pos := "l08_grant.go:48", after := #[{ on := 7, ground := Ground.data }, { on := 9, ground := Ground.data }, { on := 6, ground := Ground.guard }], guard := some (6, true) }) (v := ?vc10) rfl (by kernel_rfl) (by kernel_rfl) (by kernel_rfl) (fun _ _ _ h => h) (Or.inl ⟨by rfl, ?hyc10⟩) (by assumption) ?restc10
          case hyc10 =>
            intro w hSw
            (try dsimp only at hSw)
            go_simp
            try with_reducible rfl
          try simp only [Act.put, List.setIfInBounds_toArray, List.set_cons_zero, List.set_cons_succ]
          refine wpAnyH_take (i := 11) (oi := { dst := some 26, op := Op.load 130 (Operand.tmp 25), type := 130, pos := "l08_grant.go:48", after := #[{ on := 10, ground := Ground.data }, { on := 6, ground := Ground.guard }], guard := some (6, true) }) (v := ?vc11) rfl (by kernel_rfl) (by kernel_rfl) (by kernel_rfl) (fun _ _ _ h => h) (Or.inl ⟨by rfl, ?hyc11⟩) (by assumption) ?restc11
          case hyc11 =>
            intro w hSw
            (try dsimp only at hSw)
            go_simp
            try with_reducible rfl
          try simp only [Act.put, List.setIfInBounds_toArray, List.set_cons_zero, List.set_cons_succ]
          refine wpAnyH_take (i := 12) (oi := { dst := some 27, op := Op.load 130 (Operand.tmp 4), type := 130, pos := "l08_grant.go:48", after := #[{ on := 6, ground := Ground.guard }], guard := some (6, true) }) (v := ?vc12) rfl (by kernel_rfl) (by kernel_rfl) (by kernel_rfl) (fun _ _ _ h => h) (Or.inl ⟨by rfl, ?hyc12⟩) (by assumption) ?restc12
          case hyc12 =>
            intro w hSw
            (try dsimp only at hSw)
            go_simp
            try with_reducible rfl
          try simp only [Act.put, List.setIfInBounds_toArray, List.set_cons_zero, List.set_cons_succ]
          refine wpAnyH_ready (rs := [13]) (by kernel_rfl) (by simp) ?_
          refine AllReadyH.cons (o := { dst := some 28, op := Op.call { callee := Callee.value (Operand.func 102), args := #[Operand.tmp 26, Operand.tmp 27], argTypes := #[130, 130] }, type := 3, pos := "l08_grant.go:48", after := #[{ on := 11, ground := Ground.data }, { on := 12, ground := Ground.data }, { on := 6, ground := Ground.chain }, { on := 6, ground := Ground.guard }], guard := some (6, true) }) rfl (fun K hK => ?_) AllReadyH.nil
          go_simp
          (go_at_call 102; refine (KO.out _).mono ?_; rintro e w3 ⟨rfl, hb3⟩; have A3 : Below W0.heap.size W0 w3 := A2.trans (hb3.mono A2.size); have y0 : w3.cell? ⟨b, 0, none⟩ = some (.string ke) := ((bcell A3).1 _ _ hbW).trans c0; have y1 : w3.cell? ⟨b, 1, none⟩ = some (.string na) := ((bcell A3).1 _ _ hbW).trans c1; have y2 : w3.cell? ⟨b, 2, none⟩ = some (.int .i64 va) := ((bcell A3).1 _ _ hbW).trans c2; have yp0 : w3.cell? ⟨g, m * 3, none⟩ = some (.string pk) := ((bcell A3).1 _ _ hgW).trans d0; have yp1 : w3.cell? ⟨g, m * 3 + 1, none⟩ = some (.string pn) := ((bcell A3).1 _ _ hgW).trans d1; have yp2 : w3.cell? ⟨g, m * 3 + 2, none⟩ = some (.int .i64 pv) := ((bcell A3).1 _ _ hgW).trans d2)
          try (go_wp2_with fail)
          refine hK.out _ _ ?_ (fun hH2 => ?_)
          · (try dsimp only)
            go_keep
          clear hK K hH1
          try simp only [Act.put, List.setIfInBounds_toArray, List.set_cons_zero, List.set_cons_succ]
          refine wpAnyH_take (i := 14) (oi := { dst := some 29, op := Op.binOp BinOp.geq 3 (Operand.tmp 28) (Operand.const (Value.int IntKind.i64 0)) 3, type := 4, pos := "l08_grant.go:48", after := #[{ on := 13, ground := Ground.data }, { on := 6, ground := Ground.guard }], guard := some (6, true) }) (v := ?vc14) rfl (by kernel_rfl) (by kernel_rfl) (by kernel_rfl) (fun _ _ _ h => h) (Or.inl ⟨by rfl, ?hyc14⟩) (by assumption) ?restc14
          case hyc14 =>
            intro w hSw
            (try dsimp only at hSw)
            go_simp
            try with_reducible rfl
          try simp only [Act.put, List.setIfInBounds_toArray, List.set_cons_zero, List.set_cons_succ]
          refine wpAnyH_take (i := 15) (oi := { dst := some 30, op := Op.pick (Operand.tmp 21) (Operand.tmp 29) (Operand.const (Value.bool false)), type := 4, pos := "l08_grant.go:48", after := #[{ on := 6, ground := Ground.data }, { on := 14, ground := Ground.data }, { on := 3, ground := Ground.guard }], guard := some (3, false) }) (v := ?vc15) rfl (by kernel_rfl) (by kernel_rfl) (by kernel_rfl) (fun _ _ _ h => h) (Or.inl ⟨by rfl, ?hyc15⟩) (by assumption) ?restc15
          case hyc15 =>
            intro w hSw
            (try dsimp only at hSw)
            go_simp
            try with_reducible rfl
          try simp only [Act.put, List.setIfInBounds_toArray, List.set_cons_zero, List.set_cons_succ]
          refine wpAnyH_take (i := 16) (oi := { dst := some 31, op := Op.pick (Operand.tmp 18) (Operand.const (Value.bool true)) (Operand.tmp 30), type := 4, pos := "l08_grant.go:48", after := #[{ on := 3, ground := Ground.data }, { on := 15, ground := Ground.data }], guard := none }) (v := ?vc16) rfl (by kernel_rfl) (by kernel_rfl) (by kernel_rfl) (fun _ _ _ h => h) (Or.inl ⟨by rfl, ?hyc16⟩) (by assumption) ?restc16
          case hyc16 =>
            intro w hSw
            (try dsimp only at hSw)
            go_simp
            try with_reducible rfl
          try simp only [Act.put, List.setIfInBounds_toArray, List.set_cons_zero, List.set_cons_succ]
          refine wpAnyH_done (by kernel_rfl) ?_ _
          go_wp2
          go_ret
          exact ⟨ret_bool HQ.out.symm, HBW.out.trans (A3.mono HBW.out.size)⟩
        | true =>
          have qO : decide ((0 : Int) ≤ O) = false := HRi.out
          have HSt := HYs.out rfl
          have HSt2 : Hid (∀ j, j < m + 1 + 1 → okG L j = true) := HSt
          clear HRi HYs HNs HSt
          go_wp2_with fail
          rw [← hW0.out]
          clear hW0
          generalize hbb : wr.heap.size = b at *
          clear hbb HBr HB e0 e1 e2 
          refine wp_region_held_drew (S := (fun w' => w'.cell? ⟨b, 0, none⟩ = some (.string ke) ∧ w'.cell? ⟨b, 1, none⟩ = some (.string na) ∧ w'.cell? ⟨b, 2, none⟩ = some (.int .i64 va) ∧ w'.cell? ⟨g, m * 3, none⟩ = some (.string pk) ∧ w'.cell? ⟨g, m * 3 + 1, none⟩ = some (.string pn) ∧ w'.cell? ⟨g, m * 3 + 2, none⟩ = some (.int .i64 pv))) (by kernel_rfl) ?_ (fun hH0 => ?_)
          · (try dsimp only)
            go_keep
          refine wpAnyH_take (i := 0) (oi := { dst := some 15, op := Op.load 130 (Operand.tmp 4), type := 130, pos := "l08_grant.go:48", after := #[], guard := none }) (v := ?vd0) rfl (by kernel_rfl) (by kernel_rfl) (by kernel_rfl) (fun _ _ _ h => h) (Or.inl ⟨by rfl, ?hyd0⟩) (by assumption) ?restd0
          case hyd0 =>
            intro w hSw
            (try dsimp only at hSw)
            go_simp
            try with_reducible rfl
          try simp only [Act.put, List.setIfInBounds_toArray, List.set_cons_zero, List.set_cons_succ]
          refine wpAnyH_ready (rs := [1]) (by kernel_rfl) (by simp) ?_
          refine AllReadyH.cons (o := { dst := some 16, op := Op.call { callee := Callee.value (Operand.func 101), args := #[Operand.tmp 15], argTypes := #[130] }, type := 4, pos := "l08_grant.go:48", after := #[{ on := 0, ground := Ground.data }], guard := none }) rfl (fun K hK => ?_) AllReadyH.nil
          go_simp
          (go_at_call 101; refine (KE.out _).mono ?_; rintro e w2 ⟨rfl, hb2⟩; have A2 : Below W0.heap.size W0 w2 := (Below.drew (Below.refl _ _)).trans hb2; have x0 : w2.cell? ⟨b, 0, none⟩ = some (.string ke) := ((bcell A2).1 _ _ hbW).trans c0; have x1 : w2.cell? ⟨b, 1, none⟩ = some (.string na) := ((bcell A2).1 _ _ hbW).trans c1; have x2 : w2.cell? ⟨b, 2, none⟩ = some (.int .i64 va) := ((bcell A2).1 _ _ hbW).trans c2; have xp0 : w2.cell? ⟨g, m * 3, none⟩ = some (.string pk) := ((bcell A2).1 _ _ hgW).trans d0; have xp1 : w2.cell? ⟨g, m * 3 + 1, none⟩ = some (.string pn) := ((bcell A2).1 _ _ hgW).trans d1; have xp2 : w2.cell? ⟨g, m * 3 + 2, none⟩ = some (.int .i64 pv) := ((bcell A2).1 _ _ hgW).trans d2)
          try (go_wp2_with fail)
          refine hK.out _ _ ?_ (fun hH1 => ?_)
          · (try dsimp only)
            go_keep
          clear hK K hH0
          try simp only [Act.put, List.setIfInBounds_toArray, List.set_cons_zero, List.set_cons_succ]
          refine wpAnyH_take (i := 2) (oi := { dst := some 17, op := Op.unOp UnOp.not 4 (Operand.tmp 16), type := 4, pos := "l08_grant.go:48", after := #[{ on := 1, ground := Ground.data }], guard := none }) (v := ?vd2) rfl (by kernel_rfl) (by kernel_rfl) (by kernel_rfl) (fun _ _ _ h => h) (Or.inl ⟨by rfl, ?hyd2⟩) (by assumption) ?restd2
          case hyd2 =>
            intro w hSw
            (try dsimp only at hSw)
            go_simp
            try with_reducible rfl
          try simp only [Act.put, List.setIfInBounds_toArray, List.set_cons_zero, List.set_cons_succ]
          refine wpAnyH_take (i := 3) (oi := { dst := some 18, op := Op.move (Operand.tmp 17), type := 4, pos := "l08_grant.go:48", after := #[{ on := 2, ground := Ground.data }, { on := 1, ground := Ground.chain }], guard := none }) (v := ?vd3) rfl (by kernel_rfl) (by kernel_rfl) (by kernel_rfl) (fun _ _ _ h => h) (Or.inl ⟨by rfl, ?hyd3⟩) (by assumption) ?restd3
          case hyd3 =>
            intro w hSw
            (try dsimp only at hSw)
            go_simp
            try with_reducible rfl
          try simp only [Act.put, List.setIfInBounds_toArray, List.set_cons_zero, List.set_cons_succ]
          refine wpAnyH_take (i := 4) (oi := { dst := some 19, op := Op.move (Operand.tmp 3), type := 3, pos := "l08_grant.go:48", after := #[{ on := 3, ground := Ground.guard }], guard := some (3, false) }) (v := ?vd4) rfl (by kernel_rfl) (by kernel_rfl) (by kernel_rfl) (fun _ _ _ h => h) (Or.inl ⟨by rfl, ?hyd4⟩) (by assumption) ?restd4
          case hyd4 =>
            intro w hSw
            (try dsimp only at hSw)
            go_simp
            try with_reducible rfl
          try simp only [Act.put, List.setIfInBounds_toArray, List.set_cons_zero, List.set_cons_succ]
          refine wpAnyH_take (i := 5) (oi := { dst := some 20, op := Op.binOp BinOp.gtr 3 (Operand.tmp 19) (Operand.const (Value.int IntKind.i64 0)) 3, type := 4, pos := "l08_grant.go:48", after := #[{ on := 4, ground := Ground.data }, { on := 3, ground := Ground.guard }], guard := some (3, false) }) (v := ?vd5) rfl (by kernel_rfl) (by kernel_rfl) (by kernel_rfl) (fun _ _ _ h => h) (Or.inl ⟨by rfl, ?hyd5⟩) (by assumption) ?restd5
          case hyd5 =>
            intro w hSw
            (try dsimp only at hSw)
            go_simp
            try with_reducible rfl
          try simp only [Act.put, List.setIfInBounds_toArray, List.set_cons_zero, List.set_cons_succ]
          refine wpAnyH_take (i := 6) (oi := { dst := some 21, op := Op.move (Operand.tmp 20), type := 4, pos := "l08_grant.go:48", after := #[{ on := 5, ground := Ground.data }, { on := 3, ground := Ground.chain }, { on := 3, ground := Ground.guard }], guard := some (3, false) }) (v := ?vd6) rfl (by kernel_rfl) (by kernel_rfl) (by kernel_rfl) (fun _ _ _ h => h) (Or.inl ⟨by rfl, ?hyd6⟩) (by assumption) ?restd6
          case hyd6 =>
            intro w hSw
            (try dsimp only at hSw)
            go_simp
            try with_reducible rfl
          try simp only [Act.put, List.setIfInBounds_toArray, List.set_cons_zero, List.set_cons_succ]
          refine wpAnyH_take (i := 7) (oi := { dst := some 22, op := Op.move (Operand.tmp 0), type := 36, pos := "l08_grant.go:48", after := #[{ on := 6, ground := Ground.guard }], guard := some (6, true) }) (v := ?vd7) rfl (by kernel_rfl) (by kernel_rfl) (by kernel_rfl) (fun _ _ _ h => h) (Or.inl ⟨by rfl, ?hyd7⟩) (by assumption) ?restd7
          case hyd7 =>
            intro w hSw
            (try dsimp only at hSw)
            go_simp
            try with_reducible rfl
          try simp only [Act.put, List.setIfInBounds_toArray, List.set_cons_zero, List.set_cons_succ]
          refine wpAnyH_take (i := 8) (oi := { dst := some 23, op := Op.move (Operand.tmp 3), type := 3, pos := "l08_grant.go:48", after := #[{ on := 6, ground := Ground.guard }], guard := some (6, true) }) (v := ?vd8) rfl (by kernel_rfl) (by kernel_rfl) (by kernel_rfl) (fun _ _ _ h => h) (Or.inl ⟨by rfl, ?hyd8⟩) (by assumption) ?restd8
          case hyd8 =>
            intro w hSw
            (try dsimp only at hSw)
            go_simp
            try with_reducible rfl
          try simp only [Act.put, List.setIfInBounds_toArray, List.set_cons_zero, List.set_cons_succ]
          refine wpAnyH_take (i := 9) (oi := { dst := some 24, op := Op.binOp BinOp.sub 3 (Operand.tmp 23) (Operand.const (Value.int IntKind.i64 1)) 3, type := 3, pos := "l08_grant.go:48", after := #[{ on := 8, ground := Ground.data }, { on := 6, ground := Ground.guard }], guard := some (6, true) }) (v := ?vd9) rfl (by kernel_rfl) (by kernel_rfl) (by kernel_rfl) (fun _ _ _ h => h) (Or.inl ⟨by rfl, ?hyd9⟩) (by assumption) ?restd9
          case hyd9 =>
            intro w hSw
            (try dsimp only at hSw)
            go_simp
            try with_reducible rfl
          try simp only [Act.put, List.setIfInBounds_toArray, List.set_cons_zero, List.set_cons_succ]
          refine wpAnyH_take (i := 10) (oi := { dst := some 25, op := Op.indexAddr 36 (Operand.tmp 22) (Operand.tmp 24), type := 0, pos := "l08_grant.go:48", after := #[{ on := 7, ground := Ground.data }, { on := 9, ground := Ground.data }, { on := 6, ground := Ground.guard }], guard := some (6, true) }) (v := ?vd10) rfl (by kernel_rfl) (by kernel_rfl) (by kernel_rfl) (fun _ _ _ h => h) (Or.inl ⟨by rfl, ?hyd10⟩) (by assumption) ?restd10
          case hyd10 =>
            intro w hSw
            (try dsimp only at hSw)
            go_simp
            try with_reducible rfl
          try simp only [Act.put, List.setIfInBounds_toArray, List.set_cons_zero, List.set_cons_succ]
          refine wpAnyH_take (i := 11) (oi := { dst := some 26, op := Op.load 130 (Operand.tmp 25), type := 130, pos := "l08_grant.go:48", after := #[{ on := 10, ground := Ground.data }, { on := 6, ground := Ground.guard }], guard := some (6, true) }) (v := ?vd11) rfl (by kernel_rfl) (by kernel_rfl) (by kernel_rfl) (fun _ _ _ h => h) (Or.inl ⟨by rfl, ?hyd11⟩) (by assumption) ?restd11
          case hyd11 =>
            intro w hSw
            (try dsimp only at hSw)
            go_simp
            try with_reducible rfl
          try simp only [Act.put, List.setIfInBounds_toArray, List.set_cons_zero, List.set_cons_succ]
          refine wpAnyH_take (i := 12) (oi := { dst := some 27, op := Op.load 130 (Operand.tmp 4), type := 130, pos := "l08_grant.go:48", after := #[{ on := 6, ground := Ground.guard }], guard := some (6, true) }) (v := ?vd12) rfl (by kernel_rfl) (by kernel_rfl) (by kernel_rfl) (fun _ _ _ h => h) (Or.inl ⟨by rfl, ?hyd12⟩) (by assumption) ?restd12
          case hyd12 =>
            intro w hSw
            (try dsimp only at hSw)
            go_simp
            try with_reducible rfl
          try simp only [Act.put, List.setIfInBounds_toArray, List.set_cons_zero, List.set_cons_succ]
          refine wpAnyH_ready (rs := [13]) (by kernel_rfl) (by simp) ?_
          refine AllReadyH.cons (o := { dst := some 28, op := Op.call { callee := Callee.value (Operand.func 102), args := #[Operand.tmp 26, Operand.tmp 27], argTypes := #[130, 130] }, type := 3, pos := "l08_grant.go:48", after := #[{ on := 11, ground := Ground.data }, { on := 12, ground := Ground.data }, { on := 6, ground := Ground.chain }, { on := 6, ground := Ground.guard }], guard := some (6, true) }) rfl (fun K hK => ?_) AllReadyH.nil
          go_simp
          (go_at_call 102; refine (KO.out _).mono ?_; rintro e w3 ⟨rfl, hb3⟩; have A3 : Below W0.heap.size W0 w3 := A2.trans (hb3.mono A2.size); have y0 : w3.cell? ⟨b, 0, none⟩ = some (.string ke) := ((bcell A3).1 _ _ hbW).trans c0; have y1 : w3.cell? ⟨b, 1, none⟩ = some (.string na) := ((bcell A3).1 _ _ hbW).trans c1; have y2 : w3.cell? ⟨b, 2, none⟩ = some (.int .i64 va) := ((bcell A3).1 _ _ hbW).trans c2; have yp0 : w3.cell? ⟨g, m * 3, none⟩ = some (.string pk) := ((bcell A3).1 _ _ hgW).trans d0; have yp1 : w3.cell? ⟨g, m * 3 + 1, none⟩ = some (.string pn) := ((bcell A3).1 _ _ hgW).trans d1; have yp2 : w3.cell? ⟨g, m * 3 + 2, none⟩ = some (.int .i64 pv) := ((bcell A3).1 _ _ hgW).trans d2)
          try (go_wp2_with fail)
          refine hK.out _ _ ?_ (fun hH2 => ?_)
          · (try dsimp only)
            go_keep
          clear hK K hH1
          try simp only [Act.put, List.setIfInBounds_toArray, List.set_cons_zero, List.set_cons_succ]
          refine wpAnyH_take (i := 14) (oi := { dst := some 29, op := Op.binOp BinOp.geq 3 (Operand.tmp 28) (Operand.const (Value.int IntKind.i64 0)) 3, type := 4, pos := "l08_grant.go:48", after := #[{ on := 13, ground := Ground.data }, { on := 6, ground := Ground.guard }], guard := some (6, true) }) (v := ?vd14) rfl (by kernel_rfl) (by kernel_rfl) (by kernel_rfl) (fun _ _ _ h => h) (Or.inl ⟨by rfl, ?hyd14⟩) (by assumption) ?restd14
          case hyd14 =>
            intro w hSw
            (try dsimp only at hSw)
            go_simp
            try with_reducible rfl
          try simp only [Act.put, List.setIfInBounds_toArray, List.set_cons_zero, List.set_cons_succ]
          refine wpAnyH_take (i := 15) (oi := { dst := some 30, op := Op.pick (Operand.tmp 21) (Operand.tmp 29) (Operand.const (Value.bool false)), type := 4, pos := "l08_grant.go:48", after := #[{ on := 6, ground := Ground.data }, { on := 14, ground := Ground.data }, { on := 3, ground := Ground.guard }], guard := some (3, false) }) (v := ?vd15) rfl (by kernel_rfl) (by kernel_rfl) (by kernel_rfl) (fun _ _ _ h => h) (Or.inl ⟨by rfl, ?hyd15⟩) (by assumption) ?restd15
          case hyd15 =>
            intro w hSw
            (try dsimp only at hSw)
            go_simp
            try with_reducible rfl
          try simp only [Act.put, List.setIfInBounds_toArray, List.set_cons_zero, List.set_cons_succ]
          refine wpAnyH_take (i := 16) (oi := { dst := some 31, op := Op.pick (Operand.tmp 18) (Operand.const (Value.bool true)) (Operand.tmp 30), type := 4, pos := "l08_grant.go:48", after := #[{ on := 3, ground := Ground.data }, { on := 15, ground := Ground.data }], guard := none }) (v := ?vd16) rfl (by kernel_rfl) (by kernel_rfl) (by kernel_rfl) (fun _ _ _ h => h) (Or.inl ⟨by rfl, ?hyd16⟩) (by assumption) ?restd16
          case hyd16 =>
            intro w hSw
            (try dsimp only at hSw)
            go_simp
            try with_reducible rfl
          try simp only [Act.put, List.setIfInBounds_toArray, List.set_cons_zero, List.set_cons_succ]
          refine wpAnyH_done (by kernel_rfl) ?_ _
          have BN : Hid (Below w.heap.size w w3) := HBW.out.trans (A3.mono HBW.out.size)
          go_wp2
          go_roundw
          case rel => exact ⟨m + 2, by omega, by go_num, HSt2, BN⟩
          case measure => simp [intOf]; omega
    · obtain rfl : k = L.length := by omega
      have HQ : Hid (R = true) := HAll2.out HR.out
      go_wp2
      go_ret
      exact ⟨ret_bool HQ.out.symm, HB.out⟩
end Go.Proofs.YtaccgciopmclhaaGreatDoor

/- The walk of the program's WorldRight. Written by worldright.py. -/
namespace Go.Proofs.YtaccgciopmclhaaGreatDoor
open Go.RowKit

set_option maxRecDepth 10000 in
set_option maxHeartbeats 8000000 in
theorem worldRight_any (r s f j e' g : Value) (B : Nat) (x : Wd) (w : World) (hG : MaxI w) (hE : ErrsI w) (ha : WdAt w B r s f j e' g x) (hz : szW x) :
    Calls Tryz.prog 9 #[wdV r s f j e' g x.now] w fun e w' => e = .returned (.bool (worldB x)) ∧ Below w.heap.size w w' := by
  obtain ⟨p0, p1, p2, p3, p4, p5, c0, c1, c2, c3, c4, c5, rfl, rfl, rfl, rfl, rfl, rfl⟩ := ha.shape
  have KS : Hid (∀ W, Below w.heap.size w W → Calls Tryz.prog 38 #[.slice p0 x.n c0, .slice p1 x.S.length c1] W fun e w' => e = .returned (.bool (setsB x.n x.f x.S)) ∧ Below W.heap.size W w') := fun W hb => setsRight_any _ _ x.n B B x.f x.S W (hG.on hb) (hE.below hb) (ha.below hb).1 hz.1.1 hz.1.2 (ha.below hb).2.1 hz.2.1.1 hz.2.1.2
  have KF : Hid (∀ W, Below w.heap.size w W → Calls Tryz.prog 39 #[.slice p2 x.F.length c2] W fun e w' => e = .returned (.bool (framesB x.F)) ∧ Below W.heap.size W w') := fun W hb => framesRight_any _ x.F B W (hG.on hb) (ha.below hb).2.2.1 hz.2.2.1.1 (fun i hi => by have := hz.2.2.1.2 i hi; omega)
  have KJ : Hid (∀ W, Below w.heap.size w W → Calls Tryz.prog 40 #[.slice p3 x.J.length c3] W fun e w' => e = .returned (.bool (jarB x.J)) ∧ Below W.heap.size W w') := fun W hb => jarRight_any _ x.J B W (hG.on hb) (ha.below hb).2.2.2.1 hz.2.2.2.1.1 (fun i hi => by have := hz.2.2.2.1.2 i hi; omega)
  have KE : Hid (∀ W, Below w.heap.size w W → Calls Tryz.prog 41 #[.slice p4 x.E.length c4] W fun e w' => e = .returned (.bool (areaB x.E)) ∧ Below W.heap.size W w') := fun W hb => areaRight_any _ x.E B W (ha.below hb).2.2.2.2.1 hz.2.2.2.2.1.1 (fun i hi => by have := hz.2.2.2.2.1.2 i hi; omega)
  have KG : Hid (∀ W, Below w.heap.size w W → Calls Tryz.prog 42 #[.slice p5 x.G.length c5] W fun e w' => e = .returned (.bool (grantsB x.G)) ∧ Below W.heap.size W w') := fun W hb => grantsRight_any _ x.G B W (ha.below hb).2.2.2.2.2 hz.2.2.2.2.2.1
  have KT : Hid (∀ W, Calls Tryz.prog 43 #[.int .i64 x.now] W fun e w' => e = .returned (.bool (tmF x.now)) ∧ w' = W) := fun W => isTime9_any x.now W
  have HQ : Hid (worldB x = (setsB x.n x.f x.S && framesB x.F && jarB x.J && areaB x.E && grantsB x.G && tmF x.now)) := rfl
  obtain ⟨W0, hW⟩ : ∃ W0, W0 = w.alloc (.cells #[.slice p0 x.n c0, .slice p1 x.S.length c1, .slice p2 x.F.length c2, .slice p3 x.J.length c3, .slice p4 x.E.length c4, .slice p5 x.G.length c5, .int .i64 x.now] 38) := ⟨_, rfl⟩
  have hW0 : Hid (W0 = w.alloc (.cells #[.slice p0 x.n c0, .slice p1 x.S.length c1, .slice p2 x.F.length c2, .slice p3 x.J.length c3, .slice p4 x.E.length c4, .slice p5 x.G.length c5, .int .i64 x.now] 38)) := hW
  have X0 : Hid (BoxV W0 w.heap.size [.slice p0 x.n c0, .slice p1 x.S.length c1, .slice p2 x.F.length c2, .slice p3 x.J.length c3, .slice p4 x.E.length c4, .slice p5 x.G.length c5, .int .i64 x.now]) := by show BoxV _ _ _; rw [hW]; exact boxV_new w [.slice p0 x.n c0, .slice p1 x.S.length c1, .slice p2 x.F.length c2, .slice p3 x.J.length c3, .slice p4 x.E.length c4, .slice p5 x.G.length c5, .int .i64 x.now] 38
  have B0 : Hid (Below w.heap.size w W0) := by show Below _ _ _; rw [hW]; exact (Below.refl _ _).alloc (Nat.le_refl _) _
  clear hW ha hz hG hE
  unfold wdV
  generalize setsB x.n x.f x.S = b1 at *
  generalize framesB x.F = b2 at *
  generalize jarB x.J = b3 at *
  generalize areaB x.E = b4 at *
  generalize grantsB x.G = b5 at *
  generalize tmF x.now = b6 at *
  generalize worldB x = R at *
  go_enter Tryz.func9, Tryz.ntmps9
  go_upto_region 1 with fail
  rw [← hW0.out]
  clear hW0
  have x0_0 : W0.cell? ⟨w.heap.size, 0, none⟩ = some (.slice p0 x.n c0) := X0.out.at (i := 0) rfl
  have x0_1 : W0.cell? ⟨w.heap.size, 1, none⟩ = some (.slice p1 x.S.length c1) := X0.out.at (i := 1) rfl
  go_wp2_with fail
  refine (KS.out _ B0.out).mono ?_
  rintro e w1 ⟨rfl, hb1⟩
  have X1 : Hid (BoxV w1 w.heap.size [.slice p0 x.n c0, .slice p1 x.S.length c1, .slice p2 x.F.length c2, .slice p3 x.J.length c3, .slice p4 x.E.length c4, .slice p5 x.G.length c5, .int .i64 x.now]) := X0.out.below hb1
  have B1 : Hid (Below w.heap.size w w1) := B0.out.trans (hb1.mono B0.out.size)
  clear hb1 X0 x0_0 x0_1
  cases b1 with
  | false =>
    go_wp2
    go_ret
    exact ⟨ret_bool (by rw [HQ.out]; simp), B1.out⟩
  | true =>
  have x1_2 : w1.cell? ⟨w.heap.size, 2, none⟩ = some (.slice p2 x.F.length c2) := X1.out.at (i := 2) rfl
  go_wp2_with fail
  refine (KF.out _ B1.out).mono ?_
  rintro e w2 ⟨rfl, hb2⟩
  have X2 : Hid (BoxV w2 w.heap.size [.slice p0 x.n c0, .slice p1 x.S.length c1, .slice p2 x.F.length c2, .slice p3 x.J.length c3, .slice p4 x.E.length c4, .slice p5 x.G.length c5, .int .i64 x.now]) := X1.out.below hb2
  have B2 : Hid (Below w.heap.size w w2) := B1.out.trans (hb2.mono B1.out.size)
  clear hb2 X1 x1_2
  cases b2 with
  | false =>
    go_wp2
    go_ret
    exact ⟨ret_bool (by rw [HQ.out]; simp), B2.out⟩
  | true =>
  have x2_3 : w2.cell? ⟨w.heap.size, 3, none⟩ = some (.slice p3 x.J.length c3) := X2.out.at (i := 3) rfl
  go_wp2_with fail
  refine (KJ.out _ B2.out).mono ?_
  rintro e w3 ⟨rfl, hb3⟩
  have X3 : Hid (BoxV w3 w.heap.size [.slice p0 x.n c0, .slice p1 x.S.length c1, .slice p2 x.F.length c2, .slice p3 x.J.length c3, .slice p4 x.E.length c4, .slice p5 x.G.length c5, .int .i64 x.now]) := X2.out.below hb3
  have B3 : Hid (Below w.heap.size w w3) := B2.out.trans (hb3.mono B2.out.size)
  clear hb3 X2 x2_3
  cases b3 with
  | false =>
    go_wp2
    go_ret
    exact ⟨ret_bool (by rw [HQ.out]; simp), B3.out⟩
  | true =>
  have x3_4 : w3.cell? ⟨w.heap.size, 4, none⟩ = some (.slice p4 x.E.length c4) := X3.out.at (i := 4) rfl
  go_wp2_with fail
  refine (KE.out _ B3.out).mono ?_
  rintro e w4 ⟨rfl, hb4⟩
  have X4 : Hid (BoxV w4 w.heap.size [.slice p0 x.n c0, .slice p1 x.S.length c1, .slice p2 x.F.length c2, .slice p3 x.J.length c3, .slice p4 x.E.length c4, .slice p5 x.G.length c5, .int .i64 x.now]) := X3.out.below hb4
  have B4 : Hid (Below w.heap.size w w4) := B3.out.trans (hb4.mono B3.out.size)
  clear hb4 X3 x3_4
  cases b4 with
  | false =>
    go_wp2
    go_ret
    exact ⟨ret_bool (by rw [HQ.out]; simp), B4.out⟩
  | true =>
  have x4_5 : w4.cell? ⟨w.heap.size, 5, none⟩ = some (.slice p5 x.G.length c5) := X4.out.at (i := 5) rfl
  go_wp2_with fail
  refine (KG.out _ B4.out).mono ?_
  rintro e w5 ⟨rfl, hb5⟩
  have X5 : Hid (BoxV w5 w.heap.size [.slice p0 x.n c0, .slice p1 x.S.length c1, .slice p2 x.F.length c2, .slice p3 x.J.length c3, .slice p4 x.E.length c4, .slice p5 x.G.length c5, .int .i64 x.now]) := X4.out.below hb5
  have B5 : Hid (Below w.heap.size w w5) := B4.out.trans (hb5.mono B4.out.size)
  clear hb5 X4 x4_5
  cases b5 with
  | false =>
    go_wp2
    go_ret
    exact ⟨ret_bool (by rw [HQ.out]; simp), B5.out⟩
  | true =>
  have x5_6 : w5.cell? ⟨w.heap.size, 6, none⟩ = some (.int .i64 x.now) := X5.out.at (i := 6) rfl
  go_wp2_with fail
  refine (KT.out _).mono ?_
  rintro e w6 ⟨rfl, e1⟩
  have e2 := e1.symm
  subst e2
  go_wp2
  go_ret
  exact ⟨ret_bool (by rw [HQ.out]; simp), B5.out⟩
end Go.Proofs.YtaccgciopmclhaaGreatDoor

/- The law FnExactWorldRight, walked. Written by worldright.py. -/
namespace Go.Proofs.YtaccgciopmclhaaGreatDoor
open Go.RowKit
set_option linter.unusedSimpArgs false

set_option maxRecDepth 10000 in
set_option maxHeartbeats 8000000 in
theorem lawWorldRight_any (ra sa fa ja ea ga : Option Addr) (rc sc fc jc ec gc : Nat) (x : Wd) (w : World) (hG : MaxI w) (hE : ErrsI w) (hr : WdRow w ra sa fa ja ea ga x) (hn : WdLen x) :
    Calls Tryz.prog 3 #[.agg #[.slice ra x.n rc, .slice sa x.S.length sc, .slice fa x.F.length fc, .slice ja x.J.length jc, .slice ea x.E.length ec, .slice ga x.G.length gc, .int .i64 x.now]] w fun e w' => e = .returned (.bool true) ∧ Below w.heap.size w w' := by
  have HR : Hid (WdRow w ra sa fa ja ea ga x) := hr
  have HN : Hid (WdLen x) := hn
  have HG : Hid (MaxI w) := hG
  have HE : Hid (ErrsI w) := hE
  clear hr hn hG hE
  obtain ⟨W0, hW⟩ : ∃ W0, W0 = w.alloc (.cells #[.slice ra x.n rc, .slice sa x.S.length sc, .slice fa x.F.length fc, .slice ja x.J.length jc, .slice ea x.E.length ec, .slice ga x.G.length gc, .int .i64 x.now] 29) := ⟨_, rfl⟩
  have hW0 : Hid (W0 = w.alloc (.cells #[.slice ra x.n rc, .slice sa x.S.length sc, .slice fa x.F.length fc, .slice ja x.J.length jc, .slice ea x.E.length ec, .slice ga x.G.length gc, .int .i64 x.now] 29)) := hW
  have X0 : Hid (BoxV W0 w.heap.size [.slice ra x.n rc, .slice sa x.S.length sc, .slice fa x.F.length fc, .slice ja x.J.length jc, .slice ea x.E.length ec, .slice ga x.G.length gc, .int .i64 x.now]) := by show BoxV _ _ _; rw [hW]; exact boxV_new w [.slice ra x.n rc, .slice sa x.S.length sc, .slice fa x.F.length fc, .slice ja x.J.length jc, .slice ea x.E.length ec, .slice ga x.G.length gc, .int .i64 x.now] 29
  have B0 : Hid (Below w.heap.size w W0) := by show Below _ _ _; rw [hW]; exact (Below.refl _ _).alloc (Nat.le_refl _) _
  clear hW
  go_enter Tryz.func3, Tryz.ntmps3
  go_upto_region 1 with fail
  rw [← hW0.out]
  clear hW0
  have x0_0 : W0.cell? ⟨w.heap.size, 0, none⟩ = some (.slice ra x.n rc) := X0.out.at (i := 0) rfl
  have x0_1 : W0.cell? ⟨w.heap.size, 1, none⟩ = some (.slice sa x.S.length sc) := X0.out.at (i := 1) rfl
  have x0_2 : W0.cell? ⟨w.heap.size, 2, none⟩ = some (.slice fa x.F.length fc) := X0.out.at (i := 2) rfl
  have x0_3 : W0.cell? ⟨w.heap.size, 3, none⟩ = some (.slice ja x.J.length jc) := X0.out.at (i := 3) rfl
  have x0_4 : W0.cell? ⟨w.heap.size, 4, none⟩ = some (.slice ea x.E.length ec) := X0.out.at (i := 4) rfl
  have x0_5 : W0.cell? ⟨w.heap.size, 5, none⟩ = some (.slice ga x.G.length gc) := X0.out.at (i := 5) rfl
  have x0_6 : W0.cell? ⟨w.heap.size, 6, none⟩ = some (.int .i64 x.now) := X0.out.at (i := 6) rfl
  go_wp2_with fail
  refine (szWorld_any ra sa fa ja ea ga rc sc fc jc ec gc x 1048576 _ (HR.out.below B0.out) HN.out (by decide) (by decide)).mono ?_
  rintro e w1 ⟨⟨q1, rfl, hq1⟩, hb1⟩
  have X1 : Hid (BoxV w1 w.heap.size [.slice ra x.n rc, .slice sa x.S.length sc, .slice fa x.F.length fc, .slice ja x.J.length jc, .slice ea x.E.length ec, .slice ga x.G.length gc, .int .i64 x.now]) := X0.out.below hb1
  have B1 : Hid (Below w.heap.size w w1) := B0.out.trans (hb1.mono B0.out.size)
  clear hb1 X0 x0_0 x0_1 x0_2 x0_3 x0_4 x0_5 x0_6
  rcases hq1 with hq1 | ⟨p1, p1', hz⟩
  · go_wp2
    go_ret
    exact ⟨rfl, B1.out⟩
  have u1 : decide (q1 < 0) = false := by rw [decide_eq_false_iff_not]; omega
  have HZ : Hid (szW x) := hz
  clear hz p1 p1'
  have x1_0 : w1.cell? ⟨w.heap.size, 0, none⟩ = some (.slice ra x.n rc) := X1.out.at (i := 0) rfl
  have x1_1 : w1.cell? ⟨w.heap.size, 1, none⟩ = some (.slice sa x.S.length sc) := X1.out.at (i := 1) rfl
  have x1_2 : w1.cell? ⟨w.heap.size, 2, none⟩ = some (.slice fa x.F.length fc) := X1.out.at (i := 2) rfl
  have x1_3 : w1.cell? ⟨w.heap.size, 3, none⟩ = some (.slice ja x.J.length jc) := X1.out.at (i := 3) rfl
  have x1_4 : w1.cell? ⟨w.heap.size, 4, none⟩ = some (.slice ea x.E.length ec) := X1.out.at (i := 4) rfl
  have x1_5 : w1.cell? ⟨w.heap.size, 5, none⟩ = some (.slice ga x.G.length gc) := X1.out.at (i := 5) rfl
  have x1_6 : w1.cell? ⟨w.heap.size, 6, none⟩ = some (.int .i64 x.now) := X1.out.at (i := 6) rfl
  go_wp2_with fail
  refine (toWorld_any ra sa fa ja ea ga rc sc fc jc ec gc x _ (HR.out.below B1.out) HZ.out).mono ?_
  rintro e w2 ⟨⟨kr, ks, kf, kj, ke, kg, rfl, dk⟩, hb2⟩
  have X2 : Hid (BoxV w2 w.heap.size [.slice ra x.n rc, .slice sa x.S.length sc, .slice fa x.F.length fc, .slice ja x.J.length jc, .slice ea x.E.length ec, .slice ga x.G.length gc, .int .i64 x.now]) := X1.out.below hb2
  have B2 : Hid (Below w.heap.size w w2) := B1.out.trans (hb2.mono B1.out.size)
  obtain ⟨kp0, kp1, kp2, kp3, kp4, kp5, kc0, kc1, kc2, kc3, kc4, kc5, rfl, rfl, rfl, rfl, rfl, rfl⟩ := dk.shape
  have Dk2 : Hid (∃ B, WdAt w2 B (.slice kp0 x.n kc0) (.slice kp1 x.S.length kc1) (.slice kp2 x.F.length kc2) (.slice kp3 x.J.length kc3) (.slice kp4 x.E.length kc4) (.slice kp5 x.G.length kc5) x) := ⟨_, dk⟩
  unfold wdV
  clear hb2 dk X1 x1_0 x1_1 x1_2 x1_3 x1_4 x1_5 x1_6
  go_wp2_with fail
  obtain ⟨_, dk⟩ := Dk2.out
  refine (specWorldRight_any _ _ _ _ _ _ _ x _ dk HZ.out).mono ?_
  rintro e w3 ⟨rfl, hb3⟩
  have X3 : Hid (BoxV w3 w.heap.size [.slice ra x.n rc, .slice sa x.S.length sc, .slice fa x.F.length fc, .slice ja x.J.length jc, .slice ea x.E.length ec, .slice ga x.G.length gc, .int .i64 x.now]) := X2.out.below hb3
  have B3 : Hid (Below w.heap.size w w3) := B2.out.trans (hb3.mono B2.out.size)
  have Dk3 : Hid (∃ B, WdAt w3 B (.slice kp0 x.n kc0) (.slice kp1 x.S.length kc1) (.slice kp2 x.F.length kc2) (.slice kp3 x.J.length kc3) (.slice kp4 x.E.length kc4) (.slice kp5 x.G.length kc5) x) := by obtain ⟨B, h⟩ := Dk2.out; exact ⟨B, h.below hb3⟩
  clear Dk2
  clear hb3 dk X2
  have x3_0 : w3.cell? ⟨w.heap.size, 0, none⟩ = some (.slice ra x.n rc) := X3.out.at (i := 0) rfl
  have x3_1 : w3.cell? ⟨w.heap.size, 1, none⟩ = some (.slice sa x.S.length sc) := X3.out.at (i := 1) rfl
  have x3_2 : w3.cell? ⟨w.heap.size, 2, none⟩ = some (.slice fa x.F.length fc) := X3.out.at (i := 2) rfl
  have x3_3 : w3.cell? ⟨w.heap.size, 3, none⟩ = some (.slice ja x.J.length jc) := X3.out.at (i := 3) rfl
  have x3_4 : w3.cell? ⟨w.heap.size, 4, none⟩ = some (.slice ea x.E.length ec) := X3.out.at (i := 4) rfl
  have x3_5 : w3.cell? ⟨w.heap.size, 5, none⟩ = some (.slice ga x.G.length gc) := X3.out.at (i := 5) rfl
  have x3_6 : w3.cell? ⟨w.heap.size, 6, none⟩ = some (.int .i64 x.now) := X3.out.at (i := 6) rfl
  go_wp2_with fail
  refine (toWorld_any ra sa fa ja ea ga rc sc fc jc ec gc x _ (HR.out.below B3.out) HZ.out).mono ?_
  rintro e w4 ⟨⟨br, bs, bf, bj, be, bg, rfl, db⟩, hb4⟩
  have X4 : Hid (BoxV w4 w.heap.size [.slice ra x.n rc, .slice sa x.S.length sc, .slice fa x.F.length fc, .slice ja x.J.length jc, .slice ea x.E.length ec, .slice ga x.G.length gc, .int .i64 x.now]) := X3.out.below hb4
  have B4 : Hid (Below w.heap.size w w4) := B3.out.trans (hb4.mono B3.out.size)
  have Dk4 : Hid (∃ B, WdAt w4 B (.slice kp0 x.n kc0) (.slice kp1 x.S.length kc1) (.slice kp2 x.F.length kc2) (.slice kp3 x.J.length kc3) (.slice kp4 x.E.length kc4) (.slice kp5 x.G.length kc5) x) := by obtain ⟨B, h⟩ := Dk3.out; exact ⟨B, h.below hb4⟩
  clear Dk3
  obtain ⟨bp0, bp1, bp2, bp3, bp4, bp5, bc0, bc1, bc2, bc3, bc4, bc5, rfl, rfl, rfl, rfl, rfl, rfl⟩ := db.shape
  have Db4 : Hid (∃ B, WdAt w4 B (.slice bp0 x.n bc0) (.slice bp1 x.S.length bc1) (.slice bp2 x.F.length bc2) (.slice bp3 x.J.length bc3) (.slice bp4 x.E.length bc4) (.slice bp5 x.G.length bc5) x) := ⟨_, db⟩
  unfold wdV
  clear hb4 db X3 x3_0 x3_1 x3_2 x3_3 x3_4 x3_5 x3_6
  obtain ⟨Bb, db⟩ := Db4.out
  obtain ⟨W4, hW4⟩ : ∃ W4, W4 = w4.alloc (.cells #[.slice bp0 x.n bc0, .slice bp1 x.S.length bc1, .slice bp2 x.F.length bc2, .slice bp3 x.J.length bc3, .slice bp4 x.E.length bc4, .slice bp5 x.G.length bc5, .int .i64 x.now] 38) := ⟨_, rfl⟩
  have hW4' : Hid (W4 = w4.alloc (.cells #[.slice bp0 x.n bc0, .slice bp1 x.S.length bc1, .slice bp2 x.F.length bc2, .slice bp3 x.J.length bc3, .slice bp4 x.E.length bc4, .slice bp5 x.G.length bc5, .int .i64 x.now] 38)) := hW4
  have HA : Hid (Below w4.heap.size w4 W4) := by show Below _ _ _; rw [hW4]; exact (Below.refl _ _).alloc (Nat.le_refl _) _
  have Y4 : Hid (BoxV W4 w4.heap.size [.slice bp0 x.n bc0, .slice bp1 x.S.length bc1, .slice bp2 x.F.length bc2, .slice bp3 x.J.length bc3, .slice bp4 x.E.length bc4, .slice bp5 x.G.length bc5, .int .i64 x.now]) := by show BoxV _ _ _; rw [hW4]; exact boxV_new w4 [.slice bp0 x.n bc0, .slice bp1 x.S.length bc1, .slice bp2 x.F.length bc2, .slice bp3 x.J.length bc3, .slice bp4 x.E.length bc4, .slice bp5 x.G.length bc5, .int .i64 x.now] 38
  have z4 : w4.heap.size < W4.heap.size := by rw [hW4]; simp
  clear hW4
  go_upto_region 7 with fail
  rw [← hW4'.out]
  clear hW4'
  have y4_0 : W4.cell? ⟨w4.heap.size, 0, none⟩ = some (.slice bp0 x.n bc0) := Y4.out.at (i := 0) rfl
  have y4_1 : W4.cell? ⟨w4.heap.size, 1, none⟩ = some (.slice bp1 x.S.length bc1) := Y4.out.at (i := 1) rfl
  have y4_2 : W4.cell? ⟨w4.heap.size, 2, none⟩ = some (.slice bp2 x.F.length bc2) := Y4.out.at (i := 2) rfl
  have y4_3 : W4.cell? ⟨w4.heap.size, 3, none⟩ = some (.slice bp3 x.J.length bc3) := Y4.out.at (i := 3) rfl
  have y4_4 : W4.cell? ⟨w4.heap.size, 4, none⟩ = some (.slice bp4 x.E.length bc4) := Y4.out.at (i := 4) rfl
  have y4_5 : W4.cell? ⟨w4.heap.size, 5, none⟩ = some (.slice bp5 x.G.length bc5) := Y4.out.at (i := 5) rfl
  have y4_6 : W4.cell? ⟨w4.heap.size, 6, none⟩ = some (.int .i64 x.now) := Y4.out.at (i := 6) rfl
  go_wp2_with fail
  refine (worldRight_any _ _ _ _ _ _ _ x W4 ((HG.out.on B4.out).on HA.out) ((HE.out.below B4.out).below HA.out) (db.below HA.out) HZ.out).mono ?_
  rintro e w5 ⟨rfl, hb5⟩
  have X5 : Hid (BoxV w5 w.heap.size [.slice ra x.n rc, .slice sa x.S.length sc, .slice fa x.F.length fc, .slice ja x.J.length jc, .slice ea x.E.length ec, .slice ga x.G.length gc, .int .i64 x.now]) := (X4.out.below HA.out).below hb5
  have Y5 : Hid (BoxV w5 w4.heap.size [.slice bp0 x.n bc0, .slice bp1 x.S.length bc1, .slice bp2 x.F.length bc2, .slice bp3 x.J.length bc3, .slice bp4 x.E.length bc4, .slice bp5 x.G.length bc5, .int .i64 x.now]) := Y4.out.below hb5
  have B5 : Hid (Below w.heap.size w w5) := B4.out.trans ((HA.out.trans (hb5.mono HA.out.size)).mono B4.out.size)
  have Db5 : Hid (WdAt w5 Bb (.slice bp0 x.n bc0) (.slice bp1 x.S.length bc1) (.slice bp2 x.F.length bc2) (.slice bp3 x.J.length bc3) (.slice bp4 x.E.length bc4) (.slice bp5 x.G.length bc5) x) := (db.below HA.out).below hb5
  clear hb5 db X4 Y4 Dk4 Db4 HA z4 y4_0 y4_1 y4_2 y4_3 y4_4 y4_5 y4_6
  generalize worldB x = wB at *
  have u2 : (wB != wB) = false := by cases wB <;> rfl
  have u3 : (wB == wB) = true := by cases wB <;> rfl
  go_upto_region 10 with fail
  clear u2 u3
  have xa0 : w5.cell? ⟨w.heap.size, 0, none⟩ = some (.slice ra x.n rc) := X5.out.at (i := 0) rfl
  have xa1 : w5.cell? ⟨w.heap.size, 1, none⟩ = some (.slice sa x.S.length sc) := X5.out.at (i := 1) rfl
  have xa2 : w5.cell? ⟨w.heap.size, 2, none⟩ = some (.slice fa x.F.length fc) := X5.out.at (i := 2) rfl
  have xa3 : w5.cell? ⟨w.heap.size, 3, none⟩ = some (.slice ja x.J.length jc) := X5.out.at (i := 3) rfl
  have xa4 : w5.cell? ⟨w.heap.size, 4, none⟩ = some (.slice ea x.E.length ec) := X5.out.at (i := 4) rfl
  have xa5 : w5.cell? ⟨w.heap.size, 5, none⟩ = some (.slice ga x.G.length gc) := X5.out.at (i := 5) rfl
  have xa6 : w5.cell? ⟨w.heap.size, 6, none⟩ = some (.int .i64 x.now) := X5.out.at (i := 6) rfl
  have ya0 : w5.cell? ⟨w4.heap.size, 0, none⟩ = some (.slice bp0 x.n bc0) := Y5.out.at (i := 0) rfl
  have ya1 : w5.cell? ⟨w4.heap.size, 1, none⟩ = some (.slice bp1 x.S.length bc1) := Y5.out.at (i := 1) rfl
  have ya2 : w5.cell? ⟨w4.heap.size, 2, none⟩ = some (.slice bp2 x.F.length bc2) := Y5.out.at (i := 2) rfl
  have ya3 : w5.cell? ⟨w4.heap.size, 3, none⟩ = some (.slice bp3 x.J.length bc3) := Y5.out.at (i := 3) rfl
  have ya4 : w5.cell? ⟨w4.heap.size, 4, none⟩ = some (.slice bp4 x.E.length bc4) := Y5.out.at (i := 4) rfl
  have ya5 : w5.cell? ⟨w4.heap.size, 5, none⟩ = some (.slice bp5 x.G.length bc5) := Y5.out.at (i := 5) rfl
  have ya6 : w5.cell? ⟨w4.heap.size, 6, none⟩ = some (.int .i64 x.now) := Y5.out.at (i := 6) rfl
  have zx : w.heap.size < w5.heap.size := X5.out.1
  have zy : w4.heap.size < w5.heap.size := Y5.out.1
  generalize hbb : w.heap.size = b at *
  generalize hb4 : w4.heap.size = b4 at *
  clear X5 Y5 hb4
  refine wp_region_held_drew (S := (fun w' => w'.cell? ⟨b, 0, none⟩ = some (.slice ra x.n rc) ∧ w'.cell? ⟨b, 1, none⟩ = some (.slice sa x.S.length sc) ∧ w'.cell? ⟨b, 2, none⟩ = some (.slice fa x.F.length fc) ∧ w'.cell? ⟨b, 3, none⟩ = some (.slice ja x.J.length jc) ∧ w'.cell? ⟨b, 4, none⟩ = some (.slice ea x.E.length ec) ∧ w'.cell? ⟨b, 5, none⟩ = some (.slice ga x.G.length gc) ∧ w'.cell? ⟨b, 6, none⟩ = some (.int .i64 x.now) ∧ w'.cell? ⟨b4, 0, none⟩ = some (.slice bp0 x.n bc0) ∧ w'.cell? ⟨b4, 1, none⟩ = some (.slice bp1 x.S.length bc1) ∧ w'.cell? ⟨b4, 2, none⟩ = some (.slice bp2 x.F.length bc2) ∧ w'.cell? ⟨b4, 3, none⟩ = some (.slice bp3 x.J.length bc3) ∧ w'.cell? ⟨b4, 4, none⟩ = some (.slice bp4 x.E.length bc4) ∧ w'.cell? ⟨b4, 5, none⟩ = some (.slice bp5 x.G.length bc5) ∧ w'.cell? ⟨b4, 6, none⟩ = some (.int .i64 x.now))) (by kernel_rfl) ?_ (fun hH0 => ?_)
  · (try dsimp only)
    go_keep
  refine wpAnyH_take (i := 0) (v := ?va0) rfl (by kernel_rfl) (by kernel_rfl) (by kernel_rfl) (fun _ _ _ h => h) (Or.inl ⟨by rfl, ?hya0⟩) (by assumption) ?resta0
  case hya0 =>
    intro w hSw
    (try dsimp only at hSw)
    go_simp
    try with_reducible rfl
  try simp only [Act.put, List.setIfInBounds_toArray, List.set_cons_zero, List.set_cons_succ]
  refine wpAnyH_take (i := 1) (v := ?va1) rfl (by kernel_rfl) (by kernel_rfl) (by kernel_rfl) (fun _ _ _ h => h) (Or.inl ⟨by rfl, ?hya1⟩) (by assumption) ?resta1
  case hya1 =>
    intro w hSw
    (try dsimp only at hSw)
    go_simp
    try with_reducible rfl
  try simp only [Act.put, List.setIfInBounds_toArray, List.set_cons_zero, List.set_cons_succ]
  refine wpAnyH_ready (rs := [2]) (by kernel_rfl) (by simp) ?_
  refine AllReadyH.cons rfl (fun K hK => ?_) AllReadyH.nil
  go_simp
  (go_at_call 8; refine (toWorld_any ra sa fa ja ea ga rc sc fc jc ec gc x _ (HR.out.below (by rw [hbb]; exact B5.out.trans ((Below.drew (Below.refl _ _)).mono (Nat.le_of_lt zx)))) HZ.out).mono ?_; rintro e w6 ⟨⟨cr, cs, cf, cj, ce, cg, rfl, dc⟩, hb6⟩; have A6 : Below w5.heap.size w5 w6 := (Below.drew (Below.refl _ _)).trans hb6; have pxa0 : w6.cell? ⟨b, 0, none⟩ = some (.slice ra x.n rc) := ((bcell A6).1 _ _ zx).trans xa0; have pxa1 : w6.cell? ⟨b, 1, none⟩ = some (.slice sa x.S.length sc) := ((bcell A6).1 _ _ zx).trans xa1; have pxa2 : w6.cell? ⟨b, 2, none⟩ = some (.slice fa x.F.length fc) := ((bcell A6).1 _ _ zx).trans xa2; have pxa3 : w6.cell? ⟨b, 3, none⟩ = some (.slice ja x.J.length jc) := ((bcell A6).1 _ _ zx).trans xa3; have pxa4 : w6.cell? ⟨b, 4, none⟩ = some (.slice ea x.E.length ec) := ((bcell A6).1 _ _ zx).trans xa4; have pxa5 : w6.cell? ⟨b, 5, none⟩ = some (.slice ga x.G.length gc) := ((bcell A6).1 _ _ zx).trans xa5; have pxa6 : w6.cell? ⟨b, 6, none⟩ = some (.int .i64 x.now) := ((bcell A6).1 _ _ zx).trans xa6; have pya0 : w6.cell? ⟨b4, 0, none⟩ = some (.slice bp0 x.n bc0) := ((bcell A6).1 _ _ zy).trans ya0; have pya1 : w6.cell? ⟨b4, 1, none⟩ = some (.slice bp1 x.S.length bc1) := ((bcell A6).1 _ _ zy).trans ya1; have pya2 : w6.cell? ⟨b4, 2, none⟩ = some (.slice bp2 x.F.length bc2) := ((bcell A6).1 _ _ zy).trans ya2; have pya3 : w6.cell? ⟨b4, 3, none⟩ = some (.slice bp3 x.J.length bc3) := ((bcell A6).1 _ _ zy).trans ya3; have pya4 : w6.cell? ⟨b4, 4, none⟩ = some (.slice bp4 x.E.length bc4) := ((bcell A6).1 _ _ zy).trans ya4; have pya5 : w6.cell? ⟨b4, 5, none⟩ = some (.slice bp5 x.G.length bc5) := ((bcell A6).1 _ _ zy).trans ya5; have pya6 : w6.cell? ⟨b4, 6, none⟩ = some (.int .i64 x.now) := ((bcell A6).1 _ _ zy).trans ya6; obtain ⟨cp0, cp1, cp2, cp3, cp4, cp5, cc0, cc1, cc2, cc3, cc4, cc5, rfl, rfl, rfl, rfl, rfl, rfl⟩ := dc.shape; have Dc : Hid (∃ B, WdAt w6 B (.slice cp0 x.n cc0) (.slice cp1 x.S.length cc1) (.slice cp2 x.F.length cc2) (.slice cp3 x.J.length cc3) (.slice cp4 x.E.length cc4) (.slice cp5 x.G.length cc5) x) := ⟨_, dc⟩; unfold wdV; clear dc hb6)
  try (go_wp2_with fail)
  refine hK.out _ _ ?_ (fun hH1 => ?_)
  · (try dsimp only)
    go_keep
  clear hK K hH0
  try simp only [Act.put, List.setIfInBounds_toArray, List.set_cons_zero, List.set_cons_succ]
  refine wpAnyH_ready (rs := [3]) (by kernel_rfl) (by simp) ?_
  refine AllReadyH.cons rfl (fun K hK => ?_) AllReadyH.nil
  go_simp
  (go_at_call 10; obtain ⟨_, dc⟩ := Dc.out; refine (eqWorld_any _ _ _ _ _ _ _ _ _ _ _ _ _ _ x _ (Db5.out.below A6) dc HZ.out).mono ?_; rintro e w7 ⟨rfl, hb7⟩; have A7 : Below w5.heap.size w5 w7 := A6.trans (hb7.mono A6.size); have qxa0 : w7.cell? ⟨b, 0, none⟩ = some (.slice ra x.n rc) := ((bcell A7).1 _ _ zx).trans xa0; have qxa1 : w7.cell? ⟨b, 1, none⟩ = some (.slice sa x.S.length sc) := ((bcell A7).1 _ _ zx).trans xa1; have qxa2 : w7.cell? ⟨b, 2, none⟩ = some (.slice fa x.F.length fc) := ((bcell A7).1 _ _ zx).trans xa2; have qxa3 : w7.cell? ⟨b, 3, none⟩ = some (.slice ja x.J.length jc) := ((bcell A7).1 _ _ zx).trans xa3; have qxa4 : w7.cell? ⟨b, 4, none⟩ = some (.slice ea x.E.length ec) := ((bcell A7).1 _ _ zx).trans xa4; have qxa5 : w7.cell? ⟨b, 5, none⟩ = some (.slice ga x.G.length gc) := ((bcell A7).1 _ _ zx).trans xa5; have qxa6 : w7.cell? ⟨b, 6, none⟩ = some (.int .i64 x.now) := ((bcell A7).1 _ _ zx).trans xa6; have qya0 : w7.cell? ⟨b4, 0, none⟩ = some (.slice bp0 x.n bc0) := ((bcell A7).1 _ _ zy).trans ya0; have qya1 : w7.cell? ⟨b4, 1, none⟩ = some (.slice bp1 x.S.length bc1) := ((bcell A7).1 _ _ zy).trans ya1; have qya2 : w7.cell? ⟨b4, 2, none⟩ = some (.slice bp2 x.F.length bc2) := ((bcell A7).1 _ _ zy).trans ya2; have qya3 : w7.cell? ⟨b4, 3, none⟩ = some (.slice bp3 x.J.length bc3) := ((bcell A7).1 _ _ zy).trans ya3; have qya4 : w7.cell? ⟨b4, 4, none⟩ = some (.slice bp4 x.E.length bc4) := ((bcell A7).1 _ _ zy).trans ya4; have qya5 : w7.cell? ⟨b4, 5, none⟩ = some (.slice bp5 x.G.length bc5) := ((bcell A7).1 _ _ zy).trans ya5; have qya6 : w7.cell? ⟨b4, 6, none⟩ = some (.int .i64 x.now) := ((bcell A7).1 _ _ zy).trans ya6; clear hb7 dc)
  try (go_wp2_with fail)
  refine hK.out _ _ ?_ (fun hH2 => ?_)
  · (try dsimp only)
    go_keep
  clear hK K hH1
  try simp only [Act.put, List.setIfInBounds_toArray, List.set_cons_zero, List.set_cons_succ]
  refine wpAnyH_take (i := 4) (v := ?va4) rfl (by kernel_rfl) (by kernel_rfl) (by kernel_rfl) (fun _ _ _ h => h) (Or.inl ⟨by rfl, ?hya4⟩) (by assumption) ?resta4
  case hya4 =>
    intro w hSw
    (try dsimp only at hSw)
    go_simp
    try with_reducible rfl
  try simp only [Act.put, List.setIfInBounds_toArray, List.set_cons_zero, List.set_cons_succ]
  refine wpAnyH_done (by kernel_rfl) ?_ _
  all_goals go_wp2
  all_goals go_ret
  all_goals exact ⟨rfl, by rw [hbb]; exact B5.out.trans (A7.mono (Nat.le_of_lt zx))⟩
end Go.Proofs.YtaccgciopmclhaaGreatDoor

/- The lifting of a law's walk to a row that lists package-level variables, the world's shape kept; what the shape and the list give a walk. -/
namespace Go.Proofs.YtaccgciopmclhaaGreatDoor
open Go.RowKit

theorem Ld.own : ownKnob Tryz.prog.godebug = none := by kernel_rfl
theorem Ld.laidOut : laidOutB Tryz.prog = true := by kernel_rfl
set_option maxRecDepth 10000 in
theorem lift_laid {H : Type} {enc : TypeId × Value → H} {os : Os} {f : FuncId} {fn : Func} {s : ChangeSpec} {X : World → Prop} (hX : ∀ (w w' : World), w.heap = w'.heap → X w → X w')
    (started : os.Started) (noInit : Tryz.prog.inits.idxOf? f = none) (hfn : Tryz.prog.funcs[f]? = some fn)
    (start : ∃ (w : World) (tape : Tape) (i : Input), w.os = os ∧ (w.forCall tape i).Shaped Tryz.prog ∧ i.vars = [] ∧ Input.okWide Tryz.prog (w.forCall tape i) .any w.heap.size f i ∧
      ((s.pre enc Tryz.prog fn [] false (w.forCall tape i).memory i.args ∧ X (w.forCall tape i).memory) ∧ sizedMet enc Tryz.prog fn (OpenSpec.ofChange s) false (w.forCall tape i).memory i.args) ∧ Assume.holds {} Tryz.prog (lone (Frame.enter Tryz.prog f i.args .normal) [] (w.forCall tape i)))
    (walk : ∀ (W : World) (base : Nat) (args : Array Value) (ds gs : List (DataW H)) (before : List MemPlace),
      (∀ (j : Nat) t v, fn.params[j]? = some t → args[j]? = some v → Value.okWide Tryz.prog W .any base t v) →
      DataW.Whole enc Tryz.prog fn.params.toList s.vars false W args.toList ds gs before → X W → W.ShapedOpen Tryz.prog →
      Calls Tryz.prog f args W fun e W' => ∃ v, e = .returned v ∧ s.post enc Tryz.prog fn false true false false W args v W') :
    ReturnsInHanded {} Tryz.checked os f .any (fun w args => (s.pre enc Tryz.prog fn [] false w args ∧ X w) ∧ sizedMet enc Tryz.prog fn (OpenSpec.ofChange s) false w args) (s.post enc Tryz.prog fn false true false false) := by
  refine returnsInHanded_of_calls (C := Tryz.checked) Ld.own started noInit start ?_
  intro w tape i _ hsh _ hok hpre _
  obtain ⟨_, _, _, fn2, hfn2, _, _, _, _, hval⟩ := hok
  obtain rfl : fn2 = fn := Option.some.inj (hfn2.symm.trans hfn)
  obtain ⟨⟨⟨ds, gs, before, hw, _⟩, hx⟩, _⟩ := hpre
  have hw2 := DataW.Whole.of_heap (w' := w.forCall tape i) (by rfl) hw
  refine (walk (w.forCall tape i) w.heap.size i.args ds gs before hval hw2 (hX _ _ (by rfl) hx) hsh).mono fun e W' ⟨v, he, hp⟩ => ?_
  subst he
  exact ChangeSpec.post_blind hp
set_option maxRecDepth 10000 in
theorem maxI_of_shape {W : World} (h : W.ShapedOpen Tryz.prog) : MaxI W := Tryz.lays146.s1_3 W h
end Go.Proofs.YtaccgciopmclhaaGreatDoor

/- What a row's list of package-level variables gives a walk: the program's words of kinds, the library's two errors; a listed variable that reads behind the call as before it. -/
namespace Go.Proofs.YtaccgciopmclhaaGreatDoor
open Go.RowKit Go.ChangeShapes

theorem plain_of {l : List (String × DataW Unit)} {W : World} (hh : (l.all fun x => x.2.handleName?.isNone) = true) (h : laidMetH Tryz.prog l W) : laidMet Tryz.prog l W := by
  rw [MakeChecks.laidMetH_plain _ _ _ hh] at h; exact h
/-- a listed variable of an interface type holds a value of some type -/
theorem iface_of_met {P : Program} {W : World} {n nm : String} {d : DataW Unit} {r : List (String × DataW Unit)} {g : Nat} {ti : TypeId} {ms : Array (String × TypeId)} (h : laidMet P ((n, .iface nm d) :: r) W)
    (hg : P.globalNamed n = some g) (ht : (P.globals[g]?).map (·.type) = some ti) (hi : P.underlying ti = some (.interface ms)) : ∃ u v, W.cell? ⟨g, 0, none⟩ = some (.iface u v) := by
  obtain ⟨ps, ⟨g0, t0, cs0, f0, p0, q0, hg0, ht0, hv0, hd0, _, _⟩, _, _⟩ := h
  obtain rfl := Option.some.inj (hg.symm.trans hg0)
  obtain rfl := Option.some.inj (ht.symm.trans ht0)
  obtain ⟨_, u, v, hc, _, _⟩ := iface_of_trod hi hd0
  refine ⟨u, v, ?_⟩
  rw [World.var?_cell hg0 hv0 0, ← Array.getElem?_toList, hc]
  rfl
/-- one listed variable reads on -/
theorem vars_on {H : Type} {enc : TypeId × Value → H} {n : String} {g : Nat} {t : TypeId} {cs : Array Value} {fuel : Nat} {d : DataW H} {p : List MemPlace} {W W' : World}
    (hr : Tryz.prog.readableRec t = true) (hrow : t < Tryz.prog.types.size) (hg : Tryz.prog.globalNamed n = some g) (ht : (Tryz.prog.globals[g]?).map (·.type) = some t) (hv : W.var? Tryz.prog n = some cs) (hlt : g < W.heap.size)
    (hd : DataW.trod enc Tryz.prog W 0 (fun _ => true) true fuel t cs.toList = some (d, p)) (hb : Below W.heap.size W W') :
    DataW.TrodVars enc Tryz.prog W' (fun b => decide (b < W.heap.size)) [n] [d] (MemPlace.row ⟨g, 0, none⟩ cs.size ++ p) := by
  have k : DataW.Trod enc Tryz.prog W 0 (fun _ => true) true t (.agg cs) d p := ⟨fuel, hd⟩
  obtain ⟨f', hd'⟩ := Below.trod Ld.laidOut hr hrow k hb (DataW.trod_lt fuel _ _ _ hd)
  exact trodVars_mk1 hg ht (var?_below hb hg hlt hv) hd'
theorem var_lt {P : Program} {W : World} {n : String} {g : Nat} {cs : Array Value} (hg : P.globalNamed n = some g) (hv : W.var? P n = some cs) : g < W.heap.size := by
  unfold World.var? at hv
  simp only [hg, Option.bind_some] at hv
  by_cases h : g < W.heap.size
  · exact h
  · rw [Array.getElem?_eq_none (by omega)] at hv; simp at hv
end Go.Proofs.YtaccgciopmclhaaGreatDoor

/- What a row's list of the program's five errors gives a walk; listed variables that read behind the call as before it. -/
namespace Go.Proofs.YtaccgciopmclhaaGreatDoor
open Go.RowKit Go.ChangeShapes

theorem varsAll_on {H : Type} {enc : TypeId × Value → H} {W W' : World} (hb : Below W.heap.size W W') : ∀ {ns : List String} {ds : List (DataW H)} {ps : List MemPlace}, (∀ n ∈ ns, ∀ g t, Tryz.prog.globalNamed n = some g → (Tryz.prog.globals[g]?).map (·.type) = some t → Tryz.prog.readableRec t = true ∧ t < Tryz.prog.types.size) →
    DataW.TrodVars enc Tryz.prog W (fun _ => true) ns ds ps → DataW.TrodVars enc Tryz.prog W' (fun b => decide (b < W.heap.size)) ns ds ps
  | [], [], _, _, h => h
  | n :: ns, d :: ds, ps, hr, ⟨g, t, cs, fuel, p, q, h1, h2, h3, h4, hs, e⟩ => by
    obtain ⟨r1, r2⟩ := hr n (List.mem_cons_self ..) g t h1 h2
    have k : DataW.Trod enc Tryz.prog W 0 (fun _ => true) true t (.agg cs) d p := ⟨fuel, h4⟩
    obtain ⟨f', hd'⟩ := Below.trod Ld.laidOut r1 r2 k hb (DataW.trod_lt fuel _ _ _ h4)
    exact ⟨g, t, cs, f', p, q, h1, h2, var?_below hb h1 (var_lt h1 h3) h3, hd', varsAll_on hb (fun n hn => hr n (List.mem_cons_of_mem _ hn)) hs, e⟩
theorem vars5 {H : Type} {enc : TypeId × Value → H} {P : Program} {W : World} {sp : Nat → Bool} {n1 n2 n3 n4 n5 : String} {gs : List (DataW H)} {ps : List MemPlace} (h : DataW.TrodVars enc P W sp [n1, n2, n3, n4, n5] gs ps) : ∃ d1 d2 d3 d4 d5, gs = [d1, d2, d3, d4, d5] := by
  match gs, h with
  | [], h => exact h.elim
  | d1 :: r1, ⟨_, _, _, _, _, _, _, _, _, _, h, _⟩ =>
  match r1, h with
  | [], h => exact h.elim
  | d2 :: r2, ⟨_, _, _, _, _, _, _, _, _, _, h, _⟩ =>
  match r2, h with
  | [], h => exact h.elim
  | d3 :: r3, ⟨_, _, _, _, _, _, _, _, _, _, h, _⟩ =>
  match r3, h with
  | [], h => exact h.elim
  | d4 :: r4, ⟨_, _, _, _, _, _, _, _, _, _, h, _⟩ =>
  match r4, h with
  | [], h => exact h.elim
  | d5 :: r5, ⟨_, _, _, _, _, _, _, _, _, _, h, _⟩ =>
  match r5, h with
  | [], _ => exact ⟨d1, d2, d3, d4, d5, rfl⟩
  | _ :: _, h => exact h.elim
theorem errNames_read : ∀ n ∈ ["loop.example/g00551/impl.errRules", "loop.example/g00551/impl.errOrder", "loop.example/g00551/impl.errMany", "loop.example/g00551/impl.errWrong", "loop.example/g00551/impl.errTaken"], ∀ g t, Tryz.prog.globalNamed n = some g → (Tryz.prog.globals[g]?).map (·.type) = some t → Tryz.prog.readableRec t = true ∧ t < Tryz.prog.types.size := by
  have key : ∀ n g0, Tryz.prog.globalNamed n = some g0 → (Tryz.prog.globals[g0]?).map (·.type) = some 141 → ∀ g t, Tryz.prog.globalNamed n = some g → (Tryz.prog.globals[g]?).map (·.type) = some t → Tryz.prog.readableRec t = true ∧ t < Tryz.prog.types.size := fun n g0 h1 h2 g t h3 h4 => by
    obtain rfl := Option.some.inj (h1.symm.trans h3)
    obtain rfl := Option.some.inj (h2.symm.trans h4)
    exact ⟨by kernel_rfl, of_decide_eq_true (by kernel_rfl)⟩
  intro n hn
  simp only [List.mem_cons, List.not_mem_nil, or_false] at hn
  rcases hn with rfl | rfl | rfl | rfl | rfl
  · exact key _ 0 (by kernel_rfl) (by kernel_rfl)
  · exact key _ 1 (by kernel_rfl) (by kernel_rfl)
  · exact key _ 2 (by kernel_rfl) (by kernel_rfl)
  · exact key _ 3 (by kernel_rfl) (by kernel_rfl)
  · exact key _ 4 (by kernel_rfl) (by kernel_rfl)
end Go.Proofs.YtaccgciopmclhaaGreatDoor
