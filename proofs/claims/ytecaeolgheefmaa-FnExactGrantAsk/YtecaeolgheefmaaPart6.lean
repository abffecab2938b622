/- 4 of this claim's texts, one behind the other. -/
import Derived.Test.YtecaeolgheefmaaPart4
import Derived.Deep.RegionHeld3
import Derived.Lib.SliceRun
import Derived.Laws.IdiomCopy
import Derived.ProofKit
import Derived.Test.YtecaeolgheefmaaPart1
import Derived.Deep.DeepCutAuto
/- The walk of the program's GrantsRight. Written by implgrants.py. -/
namespace Go.Proofs.Ytecaeolgheefmaa
open Go.RowKit

set_option maxRecDepth 10000 in
set_option maxHeartbeats 8000000 in
theorem grantsRight_any (v : Value) (L : List Gr) (B : Nat) (w : World) (hs : SliceG w B v L) (hn : L.length ≤ 1048576) :
    Calls Try.prog 26 #[v] w fun e w' => e = .returned (.bool (grantsB L)) ∧ Below w.heap.size w w' := by
  have HLong : Hid (8 < L.length → grantsB L = false) := grantsB_long
  have HAll : Hid ((∀ i, i < L.length → okG L i = true) → grantsB L = decide (L.length ≤ 8)) := fun h => grantsB_all h
  have HBad : Hid (∀ i, i < L.length → okG L i = false → grantsB L = false) := fun i h hi => grantsB_at i h hi
  obtain ⟨⟨p, cap, rfl, hg⟩, -⟩ := hs
  have HG : Hid (0 < L.length → ∃ g, p = some ⟨g, 0, none⟩ ∧ g < w.heap.size ∧ ∀ j, j < L.length → ∀ o, o < 3 → w.cell? ⟨g, j * 3 + o, none⟩ = some (grC (atG L j) o)) := fun h0 => by
    obtain ⟨g, e, -, hgw, hc⟩ := hg h0
    exact ⟨g, e, hgw, fun j hj o ho => (hc j hj o ho).1⟩
  clear hg
  generalize grantsB L = R at *
  by_cases h16 : 8 < L.length
  · have HQ : Hid (R = false) := HLong.out h16
    have q0 : decide ((8 : Int) < (L.length : Int)) = true := by rw [decide_eq_true_iff]; omega
    go_enter Try.func26, Try.ntmps26
    go_wp2
    go_ret
    exact ⟨ret_bool HQ.out.symm, Below.refl _ _⟩
  have q0 : decide ((8 : Int) < (L.length : Int)) = false := by rw [decide_eq_false_iff_not]; omega
  have HAll2 : Hid ((∀ i, i < L.length → okG L i = true) → R = true) := fun h => by rw [HAll.out h, decide_eq_true (by omega)]
  clear HAll HLong
  go_enter Try.func26, Try.ntmps26
  go_wp2
  go_loopw [10] (fun i wr => ∃ k : Nat, k ≤ L.length ∧ i = .int .i64 k ∧ Hid (∀ j, j < k → okG L j = true) ∧ Hid (Below w.heap.size w wr)) (fun i _ => L.length - (intOf i).toNat)
  case atStart => exact ⟨0, Nat.zero_le _, rfl, fun j hj => absurd hj (by omega), Below.refl _ _⟩
  case round =>
    obtain ⟨k, hk, rfl, HR, HB⟩ := hrel
    by_cases hlt : k < L.length
    · obtain ⟨g, rfl, hgw, hc⟩ := HG.out (by omega)
      have HC : Hid (∀ j, j < L.length → ∀ o, o < 3 → wr.cell? ⟨g, j * 3 + o, none⟩ = some (grC (atG L j) o)) := fun j hj o ho => by rw [(bcell HB.out).1 _ _ hgw]; exact hc j hj o ho
      have hgr : g < wr.heap.size := Nat.lt_of_lt_of_le hgw HB.out.size
      have k0 : (0 : Int) ≤ k := by omega
      have k1 : (k : Int) < L.length := by omega
      have HBk : Hid (okG L k = false → R = false) := HBad.out k hlt
      have e0 : wr.cell? ⟨g, k * 3, none⟩ = some (.string (atG L k).tp) := HC.out k hlt 0 (by omega)
      have e1 : wr.cell? ⟨g, k * 3 + 1, none⟩ = some (.string (atG L k).si) := HC.out k hlt 1 (by omega)
      have e2 : wr.cell? ⟨g, k * 3 + 2, none⟩ = some (.int .i64 (atG L k).un) := HC.out k hlt 2 (by omega)
      have KE0 : Hid (∀ W, Calls Try.prog 67 #[grV (atG L k)] W fun r w' => r = .returned (.bool (grB (atG L k))) ∧ Below W.heap.size W w') := fun W => grantRight_any _ W
      clear hc HG HBad
      cases hkb : grB (atG L k) with
      | false =>
        have HQ : Hid (R = false) := HBk.out (okG_no hkb)
        rw [hkb] at KE0
        clear hkb HBk HC HR
        generalize atG L k = y at *
        obtain ⟨ke, na, va⟩ := y
        unfold grV at KE0
        dsimp only at *
        have KE : Hid (∀ W, Calls Try.prog 67 #[.agg #[.string ke, .string na, .int .i64 va]] W fun r w' => r = .returned (.bool false) ∧ Below W.heap.size W w') := KE0
        clear KE0
        obtain ⟨W0, hW⟩ : ∃ W0, W0 = wr.alloc (.cells #[.string ke, .string na, .int .i64 va] 64) := ⟨_, rfl⟩
        have hW0 : Hid (W0 = wr.alloc (.cells #[.string ke, .string na, .int .i64 va] 64)) := hW
        have HBW : Hid (Below w.heap.size w W0) := by show Below _ _ _; rw [hW]; exact HB.out.alloc HB.out.size _
        have HBr : Hid (Below wr.heap.size wr W0) := by show Below _ _ _; rw [hW]; exact (Below.refl _ _).alloc (Nat.le_refl _) _
        have c0 : W0.cell? ⟨wr.heap.size, 0, none⟩ = some (.string ke) := by rw [hW]; simp
        have c1 : W0.cell? ⟨wr.heap.size, 1, none⟩ = some (.string na) := by rw [hW]; simp
        have c2 : W0.cell? ⟨wr.heap.size, 2, none⟩ = some (.int .i64 va) := by rw [hW]; simp
        have hbW : wr.heap.size < W0.heap.size := by rw [hW]; simp
        have hgW : g < W0.heap.size := Nat.lt_trans hgr hbW
        clear hW
        go_wp2_with fail
        rw [← hW0.out]
        clear hW0
        generalize hbb : wr.heap.size = b at *
        clear hbb HBr HB e0 e1 e2 
        refine wp_region_held_drew (S := (fun w' => w'.cell? ⟨b, 0, none⟩ = some (.string ke) ∧ w'.cell? ⟨b, 1, none⟩ = some (.string na) ∧ w'.cell? ⟨b, 2, none⟩ = some (.int .i64 va))) (by kernel_rfl) ?_ (fun hH0 => ?_)
        · (try dsimp only)
          go_keep
        refine wpAnyH_take (i := 0) (oi := { dst := some 15, op := Op.load 64 (Operand.tmp 4), type := 64, pos := "l08_grant.go:48", after := #[], guard := none }) (v := ?va0) rfl (by kernel_rfl) (by kernel_rfl) (by kernel_rfl) (fun _ _ _ h => h) (Or.inl ⟨by rfl, ?hya0⟩) (by assumption) ?resta0
        case hya0 =>
          intro w hSw
          (try dsimp only at hSw)
          go_simp
          try with_reducible rfl
        try simp only [Act.put, List.setIfInBounds_toArray, List.set_cons_zero, List.set_cons_succ]
        refine wpAnyH_ready (rs := [1]) (by kernel_rfl) (by simp) ?_
        refine AllReadyH.cons (o := { dst := some 16, op := Op.call { callee := Callee.value (Operand.func 67), args := #[Operand.tmp 15], argTypes := #[64] }, type := 4, pos := "l08_grant.go:48", after := #[{ on := 0, ground := Ground.data }], guard := none }) rfl (fun K hK => ?_) AllReadyH.nil
        go_simp
        (go_at_call 67; refine (KE.out _).mono ?_; rintro e w2 ⟨rfl, hb2⟩; have A2 : Below W0.heap.size W0 w2 := (Below.drew (Below.refl _ _)).trans hb2; have x0 : w2.cell? ⟨b, 0, none⟩ = some (.string ke) := ((bcell A2).1 _ _ hbW).trans c0; have x1 : w2.cell? ⟨b, 1, none⟩ = some (.string na) := ((bcell A2).1 _ _ hbW).trans c1; have x2 : w2.cell? ⟨b, 2, none⟩ = some (.int .i64 va) := ((bcell A2).1 _ _ hbW).trans c2)
        try (go_wp2_with fail)
        refine hK.out _ _ ?_ (fun hH1 => ?_)
        · (try dsimp only)
          go_keep
        clear hK K hH0
        try simp only [Act.put, List.setIfInBounds_toArray, List.set_cons_zero, List.set_cons_succ]
        refine wpAnyH_take (i := 2) (oi := { dst := some 17, op := Op.unOp UnOp.not 4 (Operand.tmp 16), type := 4, pos := "l08_grant.go:48", after := #[{ on := 1, ground := Ground.data }], guard := none }) (v := ?va2) rfl (by kernel_rfl) (by kernel_rfl) (by kernel_rfl) (fun _ _ _ h => h) (Or.inl ⟨by rfl, ?hya2⟩) (by assumption) ?resta2
        case hya2 =>
          intro w hSw
          (try dsimp only at hSw)
          go_simp
          try with_reducible rfl
        try simp only [Act.put, List.setIfInBounds_toArray, List.set_cons_zero, List.set_cons_succ]
        refine wpAnyH_take (i := 3) (oi := { dst := some 18, op := Op.move (Operand.tmp 17), type := 4, pos := "l08_grant.go:48", after := #[{ on := 2, ground := Ground.data }, { on := 1, ground := Ground.chain }], guard := none }) (v := ?va3) rfl (by kernel_rfl) (by kernel_rfl) (by kernel_rfl) (fun _ _ _ h => h) (Or.inl ⟨by rfl, ?hya3⟩) (by assumption) ?resta3
        case hya3 =>
          intro w hSw
          (try dsimp only at hSw)
          go_simp
          try with_reducible rfl
        try simp only [Act.put, List.setIfInBounds_toArray, List.set_cons_zero, List.set_cons_succ]
        refine wpAnyH_take (i := 4) (oi := { dst := some 19, op := Op.move (Operand.tmp 3), type := 3, pos := "l08_grant.go:48", after := #[{ on := 3, ground := Ground.guard }], guard := some (3, false) }) (v := undef) rfl (by kernel_rfl) (by kernel_rfl) (by kernel_rfl) (fun _ _ _ h => h) (Or.inr ⟨by rfl, rfl⟩) (by assumption) ?_
        try simp only [Act.put, List.setIfInBounds_toArray, List.set_cons_zero, List.set_cons_succ]
        refine wpAnyH_take (i := 5) (oi := { dst := some 20, op := Op.binOp BinOp.gtr 3 (Operand.tmp 19) (Operand.const (Value.int IntKind.i64 0)) 3, type := 4, pos := "l08_grant.go:48", after := #[{ on := 4, ground := Ground.data }, { on := 3, ground := Ground.guard }], guard := some (3, false) }) (v := undef) rfl (by kernel_rfl) (by kernel_rfl) (by kernel_rfl) (fun _ _ _ h => h) (Or.inr ⟨by rfl, rfl⟩) (by assumption) ?_
        try simp only [Act.put, List.setIfInBounds_toArray, List.set_cons_zero, List.set_cons_succ]
        refine wpAnyH_take (i := 6) (oi := { dst := some 21, op := Op.move (Operand.tmp 20), type := 4, pos := "l08_grant.go:48", after := #[{ on := 5, ground := Ground.data }, { on := 3, ground := Ground.chain }, { on := 3, ground := Ground.guard }], guard := some (3, false) }) (v := undef) rfl (by kernel_rfl) (by kernel_rfl) (by kernel_rfl) (fun _ _ _ h => h) (Or.inr ⟨by rfl, rfl⟩) (by assumption) ?_
        try simp only [Act.put, List.setIfInBounds_toArray, List.set_cons_zero, List.set_cons_succ]
        refine wpAnyH_take (i := 7) (oi := { dst := some 22, op := Op.move (Operand.tmp 0), type := 23, pos := "l08_grant.go:48", after := #[{ on := 6, ground := Ground.guard }], guard := some (6, true) }) (v := undef) rfl (by kernel_rfl) (by kernel_rfl) (by kernel_rfl) (fun _ _ _ h => h) (Or.inr ⟨by rfl, rfl⟩) (by assumption) ?_
        try simp only [Act.put, List.setIfInBounds_toArray, List.set_cons_zero, List.set_cons_succ]
        refine wpAnyH_take (i := 8) (oi := { dst := some 23, op := Op.move (Operand.tmp 3), type := 3, pos := "l08_grant.go:48", after := #[{ on := 6, ground := Ground.guard }], guard := some (6, true) }) (v := undef) rfl (by kernel_rfl) (by kernel_rfl) (by kernel_rfl) (fun _ _ _ h => h) (Or.inr ⟨by rfl, rfl⟩) (by assumption) ?_
        try simp only [Act.put, List.setIfInBounds_toArray, List.set_cons_zero, List.set_cons_succ]
        refine wpAnyH_take (i := 9) (oi := { dst := some 24, op := Op.binOp BinOp.sub 3 (Operand.tmp 23) (Operand.const (Value.int IntKind.i64 1)) 3, type := 3, pos := "l08_grant.go:48", after := #[{ on := 8, ground := Ground.data }, { on := 6, ground := Ground.guard }], guard := some (6, true) }) (v := undef) rfl (by kernel_rfl) (by kernel_rfl) (by kernel_rfl) (fun _ _ _ h => h) (Or.inr ⟨by rfl, rfl⟩) (by assumption) ?_
        try simp only [Act.put, List.setIfInBounds_toArray, List.set_cons_zero, List.set_cons_succ]
        refine wpAnyH_take (i := 10) (oi := { dst := some 25, op := Op.indexAddr 23 (Operand.tmp 22) (Operand.tmp 24), type := 0, pos := "l08_grant.go:48", after := #[{ on := 7, ground := Ground.data }, { on := 9, ground := Ground.data }, { on := 6, ground := Ground.guard }], guard := some (6, true) }) (v := undef) rfl (by kernel_rfl) (by kernel_rfl) (by kernel_rfl) (fun _ _ _ h => h) (Or.inr ⟨by rfl, rfl⟩) (by assumption) ?_
        try simp only [Act.put, List.setIfInBounds_toArray, List.set_cons_zero, List.set_cons_succ]
        refine wpAnyH_take (i := 11) (oi := { dst := some 26, op := Op.load 64 (Operand.tmp 25), type := 64, pos := "l08_grant.go:48", after := #[{ on := 10, ground := Ground.data }, { on := 6, ground := Ground.guard }], guard := some (6, true) }) (v := undef) rfl (by kernel_rfl) (by kernel_rfl) (by kernel_rfl) (fun _ _ _ h => h) (Or.inr ⟨by rfl, rfl⟩) (by assumption) ?_
        try simp only [Act.put, List.setIfInBounds_toArray, List.set_cons_zero, List.set_cons_succ]
        refine wpAnyH_take (i := 12) (oi := { dst := some 27, op := Op.load 64 (Operand.tmp 4), type := 64, pos := "l08_grant.go:48", after := #[{ on := 6, ground := Ground.guard }], guard := some (6, true) }) (v := undef) rfl (by kernel_rfl) (by kernel_rfl) (by kernel_rfl) (fun _ _ _ h => h) (Or.inr ⟨by rfl, rfl⟩) (by assumption) ?_
        try simp only [Act.put, List.setIfInBounds_toArray, List.set_cons_zero, List.set_cons_succ]
        refine wpAnyH_take (i := 13) (oi := { dst := some 28, op := Op.call { callee := Callee.value (Operand.func 48), args := #[Operand.tmp 26, Operand.tmp 27], argTypes := #[64, 64] }, type := 3, pos := "l08_grant.go:48", after := #[{ on := 11, ground := Ground.data }, { on := 12, ground := Ground.data }, { on := 6, ground := Ground.chain }, { on := 6, ground := Ground.guard }], guard := some (6, true) }) (v := undef) rfl (by kernel_rfl) (by kernel_rfl) (by kernel_rfl) (fun _ _ _ h => h) (Or.inr ⟨by rfl, rfl⟩) (by assumption) ?_
        try simp only [Act.put, List.setIfInBounds_toArray, List.set_cons_zero, List.set_cons_succ]
        refine wpAnyH_take (i := 14) (oi := { dst := some 29, op := Op.binOp BinOp.geq 3 (Operand.tmp 28) (Operand.const (Value.int IntKind.i64 0)) 3, type := 4, pos := "l08_grant.go:48", after := #[{ on := 13, ground := Ground.data }, { on := 6, ground := Ground.guard }], guard := some (6, true) }) (v := undef) rfl (by kernel_rfl) (by kernel_rfl) (by kernel_rfl) (fun _ _ _ h => h) (Or.inr ⟨by rfl, rfl⟩) (by assumption) ?_
        try simp only [Act.put, List.setIfInBounds_toArray, List.set_cons_zero, List.set_cons_succ]
        refine wpAnyH_take (i := 15) (oi := { dst := some 30, op := Op.pick (Operand.tmp 21) (Operand.tmp 29) (Operand.const (Value.bool false)), type := 4, pos := "l08_grant.go:48", after := #[{ on := 6, ground := Ground.data }, { on := 14, ground := Ground.data }, { on := 3, ground := Ground.guard }], guard := some (3, false) }) (v := undef) rfl (by kernel_rfl) (by kernel_rfl) (by kernel_rfl) (fun _ _ _ h => h) (Or.inr ⟨by rfl, rfl⟩) (by assumption) ?_
        try simp only [Act.put, List.setIfInBounds_toArray, List.set_cons_zero, List.set_cons_succ]
        refine wpAnyH_take (i := 16) (oi := { dst := some 31, op := Op.pick (Operand.tmp 18) (Operand.const (Value.bool true)) (Operand.tmp 30), type := 4, pos := "l08_grant.go:48", after := #[{ on := 3, ground := Ground.data }, { on := 15, ground := Ground.data }], guard := none }) (v := ?va16) rfl (by kernel_rfl) (by kernel_rfl) (by kernel_rfl) (fun _ _ _ h => h) (Or.inl ⟨by rfl, ?hya16⟩) (by assumption) ?resta16
        case hya16 =>
          intro w hSw
          (try dsimp only at hSw)
          go_simp
          try with_reducible rfl
        try simp only [Act.put, List.setIfInBounds_toArray, List.set_cons_zero, List.set_cons_succ]
        refine wpAnyH_done (by kernel_rfl) ?_ _
        go_wp2
        go_ret
        exact ⟨ret_bool HQ.out.symm, HBW.out.trans (A2.mono HBW.out.size)⟩
      | true =>
      rw [hkb] at KE0
      cases k with
      | zero =>
        have HSt : Hid (∀ j, j < 0 + 1 → okG L j = true) := okG_succ HR.out (okG_first hkb)
        clear HBk HC HR hkb
        have q1 : decide ((0 : Int) < (0 : Int)) = false := rfl
        rw [Nat.zero_mul] at e0
        rw [Nat.zero_mul, Nat.zero_add] at e1 e2
        generalize atG L 0 = y at *
        obtain ⟨ke, na, va⟩ := y
        unfold grV at KE0
        dsimp only at *
        have KE : Hid (∀ W, Calls Try.prog 67 #[.agg #[.string ke, .string na, .int .i64 va]] W fun r w' => r = .returned (.bool true) ∧ Below W.heap.size W w') := KE0
        clear KE0
        obtain ⟨W0, hW⟩ : ∃ W0, W0 = wr.alloc (.cells #[.string ke, .string na, .int .i64 va] 64) := ⟨_, rfl⟩
        have hW0 : Hid (W0 = wr.alloc (.cells #[.string ke, .string na, .int .i64 va] 64)) := hW
        have HBW : Hid (Below w.heap.size w W0) := by show Below _ _ _; rw [hW]; exact HB.out.alloc HB.out.size _
        have HBr : Hid (Below wr.heap.size wr W0) := by show Below _ _ _; rw [hW]; exact (Below.refl _ _).alloc (Nat.le_refl _) _
        have c0 : W0.cell? ⟨wr.heap.size, 0, none⟩ = some (.string ke) := by rw [hW]; simp
        have c1 : W0.cell? ⟨wr.heap.size, 1, none⟩ = some (.string na) := by rw [hW]; simp
        have c2 : W0.cell? ⟨wr.heap.size, 2, none⟩ = some (.int .i64 va) := by rw [hW]; simp
        have hbW : wr.heap.size < W0.heap.size := by rw [hW]; simp
        have hgW : g < W0.heap.size := Nat.lt_trans hgr hbW
        clear hW
        go_wp2_with fail
        rw [← hW0.out]
        clear hW0
        generalize hbb : wr.heap.size = b at *
        clear hbb HBr HB e0 e1 e2 
        refine wp_region_held_drew (S := (fun w' => w'.cell? ⟨b, 0, none⟩ = some (.string ke) ∧ w'.cell? ⟨b, 1, none⟩ = some (.string na) ∧ w'.cell? ⟨b, 2, none⟩ = some (.int .i64 va))) (by kernel_rfl) ?_ (fun hH0 => ?_)
        · (try dsimp only)
          go_keep
        refine wpAnyH_take (i := 0) (oi := { dst := some 15, op := Op.load 64 (Operand.tmp 4), type := 64, pos := "l08_grant.go:48", after := #[], guard := none }) (v := ?vb0) rfl (by kernel_rfl) (by kernel_rfl) (by kernel_rfl) (fun _ _ _ h => h) (Or.inl ⟨by rfl, ?hyb0⟩) (by assumption) ?restb0
        case hyb0 =>
          intro w hSw
          (try dsimp only at hSw)
          go_simp
          try with_reducible rfl
        try simp only [Act.put, List.setIfInBounds_toArray, List.set_cons_zero, List.set_cons_succ]
        refine wpAnyH_ready (rs := [1]) (by kernel_rfl) (by simp) ?_
        refine AllReadyH.cons (o := { dst := some 16, op := Op.call { callee := Callee.value (Operand.func 67), args := #[Operand.tmp 15], argTypes := #[64] }, type := 4, pos := "l08_grant.go:48", after := #[{ on := 0, ground := Ground.data }], guard := none }) rfl (fun K hK => ?_) AllReadyH.nil
        go_simp
        (go_at_call 67; refine (KE.out _).mono ?_; rintro e w2 ⟨rfl, hb2⟩; have A2 : Below W0.heap.size W0 w2 := (Below.drew (Below.refl _ _)).trans hb2; have x0 : w2.cell? ⟨b, 0, none⟩ = some (.string ke) := ((bcell A2).1 _ _ hbW).trans c0; have x1 : w2.cell? ⟨b, 1, none⟩ = some (.string na) := ((bcell A2).1 _ _ hbW).trans c1; have x2 : w2.cell? ⟨b, 2, none⟩ = some (.int .i64 va) := ((bcell A2).1 _ _ hbW).trans c2)
        try (go_wp2_with fail)
        refine hK.out _ _ ?_ (fun hH1 => ?_)
        · (try dsimp only)
          go_keep
        clear hK K hH0
        try simp only [Act.put, List.setIfInBounds_toArray, List.set_cons_zero, List.set_cons_succ]
        refine wpAnyH_take (i := 2) (oi := { dst := some 17, op := Op.unOp UnOp.not 4 (Operand.tmp 16), type := 4, pos := "l08_grant.go:48", after := #[{ on := 1, ground := Ground.data }], guard := none }) (v := ?vb2) rfl (by kernel_rfl) (by kernel_rfl) (by kernel_rfl) (fun _ _ _ h => h) (Or.inl ⟨by rfl, ?hyb2⟩) (by assumption) ?restb2
        case hyb2 =>
          intro w hSw
          (try dsimp only at hSw)
          go_simp
          try with_reducible rfl
        try simp only [Act.put, List.setIfInBounds_toArray, List.set_cons_zero, List.set_cons_succ]
        refine wpAnyH_take (i := 3) (oi := { dst := some 18, op := Op.move (Operand.tmp 17), type := 4, pos := "l08_grant.go:48", after := #[{ on := 2, ground := Ground.data }, { on := 1, ground := Ground.chain }], guard := none }) (v := ?vb3) rfl (by kernel_rfl) (by kernel_rfl) (by kernel_rfl) (fun _ _ _ h => h) (Or.inl ⟨by rfl, ?hyb3⟩) (by assumption) ?restb3
        case hyb3 =>
          intro w hSw
          (try dsimp only at hSw)
          go_simp
          try with_reducible rfl
        try simp only [Act.put, List.setIfInBounds_toArray, List.set_cons_zero, List.set_cons_succ]
        refine wpAnyH_take (i := 4) (oi := { dst := some 19, op := Op.move (Operand.tmp 3), type := 3, pos := "l08_grant.go:48", after := #[{ on := 3, ground := Ground.guard }], guard := some (3, false) }) (v := ?vb4) rfl (by kernel_rfl) (by kernel_rfl) (by kernel_rfl) (fun _ _ _ h => h) (Or.inl ⟨by rfl, ?hyb4⟩) (by assumption) ?restb4
        case hyb4 =>
          intro w hSw
          (try dsimp only at hSw)
          go_simp
          try with_reducible rfl
        try simp only [Act.put, List.setIfInBounds_toArray, List.set_cons_zero, List.set_cons_succ]
        refine wpAnyH_take (i := 5) (oi := { dst := some 20, op := Op.binOp BinOp.gtr 3 (Operand.tmp 19) (Operand.const (Value.int IntKind.i64 0)) 3, type := 4, pos := "l08_grant.go:48", after := #[{ on := 4, ground := Ground.data }, { on := 3, ground := Ground.guard }], guard := some (3, false) }) (v := ?vb5) rfl (by kernel_rfl) (by kernel_rfl) (by kernel_rfl) (fun _ _ _ h => h) (Or.inl ⟨by rfl, ?hyb5⟩) (by assumption) ?restb5
        case hyb5 =>
          intro w hSw
          (try dsimp only at hSw)
          go_simp
          try with_reducible rfl
        try simp only [Act.put, List.setIfInBounds_toArray, List.set_cons_zero, List.set_cons_succ]
        refine wpAnyH_take (i := 6) (oi := { dst := some 21, op := Op.move (Operand.tmp 20), type := 4, pos := "l08_grant.go:48", after := #[{ on := 5, ground := Ground.data }, { on := 3, ground := Ground.chain }, { on := 3, ground := Ground.guard }], guard := some (3, false) }) (v := ?vb6) rfl (by kernel_rfl) (by kernel_rfl) (by kernel_rfl) (fun _ _ _ h => h) (Or.inl ⟨by rfl, ?hyb6⟩) (by assumption) ?restb6
        case hyb6 =>
          intro w hSw
          (try dsimp only at hSw)
          go_simp
          try with_reducible rfl
        try simp only [Act.put, List.setIfInBounds_toArray, List.set_cons_zero, List.set_cons_succ]
        refine wpAnyH_take (i := 7) (oi := { dst := some 22, op := Op.move (Operand.tmp 0), type := 23, pos := "l08_grant.go:48", after := #[{ on := 6, ground := Ground.guard }], guard := some (6, true) }) (v := undef) rfl (by kernel_rfl) (by kernel_rfl) (by kernel_rfl) (fun _ _ _ h => h) (Or.inr ⟨by rfl, rfl⟩) (by assumption) ?_
        try simp only [Act.put, List.setIfInBounds_toArray, List.set_cons_zero, List.set_cons_succ]
        refine wpAnyH_take (i := 8) (oi := { dst := some 23, op := Op.move (Operand.tmp 3), type := 3, pos := "l08_grant.go:48", after := #[{ on := 6, ground := Ground.guard }], guard := some (6, true) }) (v := undef) rfl (by kernel_rfl) (by kernel_rfl) (by kernel_rfl) (fun _ _ _ h => h) (Or.inr ⟨by rfl, rfl⟩) (by assumption) ?_
        try simp only [Act.put, List.setIfInBounds_toArray, List.set_cons_zero, List.set_cons_succ]
        refine wpAnyH_take (i := 9) (oi := { dst := some 24, op := Op.binOp BinOp.sub 3 (Operand.tmp 23) (Operand.const (Value.int IntKind.i64 1)) 3, type := 3, pos := "l08_grant.go:48", after := #[{ on := 8, ground := Ground.data }, { on := 6, ground := Ground.guard }], guard := some (6, true) }) (v := undef) rfl (by kernel_rfl) (by kernel_rfl) (by kernel_rfl) (fun _ _ _ h => h) (Or.inr ⟨by rfl, rfl⟩) (by assumption) ?_
        try simp only [Act.put, List.setIfInBounds_toArray, List.set_cons_zero, List.set_cons_succ]
        refine wpAnyH_take (i := 10) (oi := { dst := some 25, op := Op.indexAddr 23 (Operand.tmp 22) (Operand.tmp 24), type := 0, pos := "l08_grant.go:48", after := #[{ on := 7, ground := Ground.data }, { on := 9, ground := Ground.data }, { on := 6, ground := Ground.guard }], guard := some (6, true) }) (v := undef) rfl (by kernel_rfl) (by kernel_rfl) (by kernel_rfl) (fun _ _ _ h => h) (Or.inr ⟨by rfl, rfl⟩) (by assumption) ?_
        try simp only [Act.put, List.setIfInBounds_toArray, List.set_cons_zero, List.set_cons_succ]
        refine wpAnyH_take (i := 11) (oi := { dst := some 26, op := Op.load 64 (Operand.tmp 25), type := 64, pos := "l08_grant.go:48", after := #[{ on := 10, ground := Ground.data }, { on := 6, ground := Ground.guard }], guard := some (6, true) }) (v := undef) rfl (by kernel_rfl) (by kernel_rfl) (by kernel_rfl) (fun _ _ _ h => h) (Or.inr ⟨by rfl, rfl⟩) (by assumption) ?_
        try simp only [Act.put, List.setIfInBounds_toArray, List.set_cons_zero, List.set_cons_succ]
        refine wpAnyH_take (i := 12) (oi := { dst := some 27, op := Op.load 64 (Operand.tmp 4), type := 64, pos := "l08_grant.go:48", after := #[{ on := 6, ground := Ground.guard }], guard := some (6, true) }) (v := undef) rfl (by kernel_rfl) (by kernel_rfl) (by kernel_rfl) (fun _ _ _ h => h) (Or.inr ⟨by rfl, rfl⟩) (by assumption) ?_
        try simp only [Act.put, List.setIfInBounds_toArray, List.set_cons_zero, List.set_cons_succ]
        refine wpAnyH_take (i := 13) (oi := { dst := some 28, op := Op.call { callee := Callee.value (Operand.func 48), args := #[Operand.tmp 26, Operand.tmp 27], argTypes := #[64, 64] }, type := 3, pos := "l08_grant.go:48", after := #[{ on := 11, ground := Ground.data }, { on := 12, ground := Ground.data }, { on := 6, ground := Ground.chain }, { on := 6, ground := Ground.guard }], guard := some (6, true) }) (v := undef) rfl (by kernel_rfl) (by kernel_rfl) (by kernel_rfl) (fun _ _ _ h => h) (Or.inr ⟨by rfl, rfl⟩) (by assumption) ?_
        try simp only [Act.put, List.setIfInBounds_toArray, List.set_cons_zero, List.set_cons_succ]
        refine wpAnyH_take (i := 14) (oi := { dst := some 29, op := Op.binOp BinOp.geq 3 (Operand.tmp 28) (Operand.const (Value.int IntKind.i64 0)) 3, type := 4, pos := "l08_grant.go:48", after := #[{ on := 13, ground := Ground.data }, { on := 6, ground := Ground.guard }], guard := some (6, true) }) (v := undef) rfl (by kernel_rfl) (by kernel_rfl) (by kernel_rfl) (fun _ _ _ h => h) (Or.inr ⟨by rfl, rfl⟩) (by assumption) ?_
        try simp only [Act.put, List.setIfInBounds_toArray, List.set_cons_zero, List.set_cons_succ]
        refine wpAnyH_take (i := 15) (oi := { dst := some 30, op := Op.pick (Operand.tmp 21) (Operand.tmp 29) (Operand.const (Value.bool false)), type := 4, pos := "l08_grant.go:48", after := #[{ on := 6, ground := Ground.data }, { on := 14, ground := Ground.data }, { on := 3, ground := Ground.guard }], guard := some (3, false) }) (v := ?vb15) rfl (by kernel_rfl) (by kernel_rfl) (by kernel_rfl) (fun _ _ _ h => h) (Or.inl ⟨by rfl, ?hyb15⟩) (by assumption) ?restb15
        case hyb15 =>
          intro w hSw
          (try dsimp only at hSw)
          go_simp
          try with_reducible rfl
        try simp only [Act.put, List.setIfInBounds_toArray, List.set_cons_zero, List.set_cons_succ]
        refine wpAnyH_take (i := 16) (oi := { dst := some 31, op := Op.pick (Operand.tmp 18) (Operand.const (Value.bool true)) (Operand.tmp 30), type := 4, pos := "l08_grant.go:48", after := #[{ on := 3, ground := Ground.data }, { on := 15, ground := Ground.data }], guard := none }) (v := ?vb16) rfl (by kernel_rfl) (by kernel_rfl) (by kernel_rfl) (fun _ _ _ h => h) (Or.inl ⟨by rfl, ?hyb16⟩) (by assumption) ?restb16
        case hyb16 =>
          intro w hSw
          (try dsimp only at hSw)
          go_simp
          try with_reducible rfl
        try simp only [Act.put, List.setIfInBounds_toArray, List.set_cons_zero, List.set_cons_succ]
        refine wpAnyH_done (by kernel_rfl) ?_ _
        have BN : Hid (Below w.heap.size w w2) := HBW.out.trans (A2.mono HBW.out.size)
        go_wp2
        go_roundw
        case rel => exact ⟨1, by omega, by go_num, HSt, BN⟩
        case measure => simp [intOf]; omega
      | succ m =>
        have hm : m < L.length := by omega
        have d0' : wr.cell? ⟨g, m * 3, none⟩ = some (.string (atG L m).tp) := HC.out m hm 0 (by omega)
        have d1' : wr.cell? ⟨g, m * 3 + 1, none⟩ = some (.string (atG L m).si) := HC.out m hm 1 (by omega)
        have d2' : wr.cell? ⟨g, m * 3 + 2, none⟩ = some (.int .i64 (atG L m).un) := HC.out m hm 2 (by omega)
        have KO0 : Hid (∀ W, Calls Try.prog 48 #[grV (atG L m), grV (atG L (m + 1))] W fun e w' => e = .returned (.int .i64 (ordG (atG L m) (atG L (m + 1)))) ∧ Below W.heap.size W w') := fun W => grantOrder_any _ _ W
        have HRi : Hid (decide (0 ≤ ordG (atG L m) (atG L (m + 1))) = !(grLess (atG L m) (atG L (m + 1)))) := ordG_neg _ _
        have HYs : Hid (grLess (atG L m) (atG L (m + 1)) = true → ∀ j, j < m + 1 + 1 → okG L j = true) := fun h => okG_succ HR.out (okG_next hkb h)
        have HNs : Hid (grLess (atG L m) (atG L (m + 1)) = false → R = false) := fun h => HBk.out (okG_flat h)
        clear HC HBk HR hkb
        have q1 : decide ((0 : Int) < ((m : Int) + 1)) = true := by rw [decide_eq_true_iff]; omega
        have hw1 : IntKind.i64.wrap ((m : Int) + 1 - 1) = m := by rw [IntKind.wrap_i64]; omega
        have hw2 : IntKind.i64.wrap (m : Int) = m := by rw [IntKind.wrap_i64]; omega
        have p0 : (0 : Int) ≤ (m : Int) + 1 := by omega
        have p1 : (m : Int) + 1 < L.length := by omega
        have m0 : (0 : Int) ≤ m := by omega
        have m1 : (m : Int) < L.length := by omega
        generalize ordG (atG L m) (atG L (m + 1)) = O at *
        generalize hls : grLess (atG L m) (atG L (m + 1)) = ls at *
        clear hls
        generalize atG L (m + 1) = y at *
        generalize atG L m = z at *
        obtain ⟨ke, na, va⟩ := y
        obtain ⟨pk, pn, pv⟩ := z
        unfold grV at KE0 KO0
        dsimp only at *
        have KE : Hid (∀ W, Calls Try.prog 67 #[.agg #[.string ke, .string na, .int .i64 va]] W fun r w' => r = .returned (.bool true) ∧ Below W.heap.size W w') := KE0
        have KO : Hid (∀ W, Calls Try.prog 48 #[.agg #[.string pk, .string pn, .int .i64 pv], .agg #[.string ke, .string na, .int .i64 va]] W fun e w' => e = .returned (.int .i64 O) ∧ Below W.heap.size W w') := KO0
        clear KE0 KO0
        obtain ⟨W0, hW⟩ : ∃ W0, W0 = wr.alloc (.cells #[.string ke, .string na, .int .i64 va] 64) := ⟨_, rfl⟩
        have hW0 : Hid (W0 = wr.alloc (.cells #[.string ke, .string na, .int .i64 va] 64)) := hW
        have HBW : Hid (Below w.heap.size w W0) := by show Below _ _ _; rw [hW]; exact HB.out.alloc HB.out.size _
        have HBr : Hid (Below wr.heap.size wr W0) := by show Below _ _ _; rw [hW]; exact (Below.refl _ _).alloc (Nat.le_refl _) _
        have c0 : W0.cell? ⟨wr.heap.size, 0, none⟩ = some (.string ke) := by rw [hW]; simp
        have c1 : W0.cell? ⟨wr.heap.size, 1, none⟩ = some (.string na) := by rw [hW]; simp
        have c2 : W0.cell? ⟨wr.heap.size, 2, none⟩ = some (.int .i64 va) := by rw [hW]; simp
        have hbW : wr.heap.size < W0.heap.size := by rw [hW]; simp
        have hgW : g < W0.heap.size := Nat.lt_trans hgr hbW
        clear hW
        have d0 : W0.cell? ⟨g, m * 3, none⟩ = some (.string pk) := ((bcell HBr.out).1 _ _ hgr).trans d0'
        have d1 : W0.cell? ⟨g, m * 3 + 1, none⟩ = some (.string pn) := ((bcell HBr.out).1 _ _ hgr).trans d1'
        have d2 : W0.cell? ⟨g, m * 3 + 2, none⟩ = some (.int .i64 pv) := ((bcell HBr.out).1 _ _ hgr).trans d2'
        clear d0' d1' d2'
        cases ls with
        | false =>
          have HQ : Hid (R = false) := HNs.out rfl
          have qO : decide ((0 : Int) ≤ O) = true := HRi.out
          clear HRi HYs HNs
          go_wp2_with fail
          rw [← hW0.out]
          clear hW0
          generalize hbb : wr.heap.size = b at *
          clear hbb HBr HB e0 e1 e2 
          refine wp_region_held_drew (S := (fun w' => w'.cell? ⟨b, 0, none⟩ = some (.string ke) ∧ w'.cell? ⟨b, 1, none⟩ = some (.string na) ∧ w'.cell? ⟨b, 2, none⟩ = some (.int .i64 va) ∧ w'.cell? ⟨g, m * 3, none⟩ = some (.string pk) ∧ w'.cell? ⟨g, m * 3 + 1, none⟩ = some (.string pn) ∧ w'.cell? ⟨g, m * 3 + 2, none⟩ = some (.int .i64 pv))) (by kernel_rfl) ?_ (fun hH0 => ?_)
          · (try dsimp only)
            go_keep
          refine wpAnyH_take (i := 0) (oi := { dst := some 15, op := Op.load 64 (Operand.tmp 4), type := 64, pos := "l08_grant.go:48", after := #[], guard := none }) (v := ?vc0) rfl (by kernel_rfl) (by kernel_rfl) (by kernel_rfl) (fun _ _ _ h => h) (Or.inl ⟨by rfl, ?hyc0⟩) (by assumption) ?restc0
          case hyc0 =>
            intro w hSw
            (try dsimp only at hSw)
            go_simp
            try with_reducible rfl
          try simp only [Act.put, List.setIfInBounds_toArray, List.set_cons_zero, List.set_cons_succ]
          refine wpAnyH_ready (rs := [1]) (by kernel_rfl) (by simp) ?_
          refine AllReadyH.cons (o := { dst := some 16, op := Op.call { callee := Callee.value (Operand.func 67), args := #[Operand.tmp 15], argTypes := #[64] }, type := 4, pos := "l08_grant.go:48", after := #[{ on := 0, ground := Ground.data }], guard := none }) rfl (fun K hK => ?_) AllReadyH.nil
          go_simp
          (go_at_call 67; refine (KE.out _).mono ?_; rintro e w2 ⟨rfl, hb2⟩; have A2 : Below W0.heap.size W0 w2 := (Below.drew (Below.refl _ _)).trans hb2; have x0 : w2.cell? ⟨b, 0, none⟩ = some (.string ke) := ((bcell A2).1 _ _ hbW).trans c0; have x1 : w2.cell? ⟨b, 1, none⟩ = some (.string na) := ((bcell A2).1 _ _ hbW).trans c1; have x2 : w2.cell? ⟨b, 2, none⟩ = some (.int .i64 va) := ((bcell A2).1 _ _ hbW).trans c2; have xp0 : w2.cell? ⟨g, m * 3, none⟩ = some (.string pk) := ((bcell A2).1 _ _ hgW).trans d0; have xp1 : w2.cell? ⟨g, m * 3 + 1, none⟩ = some (.string pn) := ((bcell A2).1 _ _ hgW).trans d1; have xp2 : w2.cell? ⟨g, m * 3 + 2, none⟩ = some (.int .i64 pv) := ((bcell A2).1 _ _ hgW).trans d2)
          try (go_wp2_with fail)
          refine hK.out _ _ ?_ (fun hH1 => ?_)
          · (try dsimp only)
            go_keep
          clear hK K hH0
          try simp only [Act.put, List.setIfInBounds_toArray, List.set_cons_zero, List.set_cons_succ]
          refine wpAnyH_take (i := 2) (oi := { dst := some 17, op := Op.unOp UnOp.not 4 (Operand.tmp 16), type := 4, pos := "l08_grant.go:48", after := #[{ on := 1, ground := Ground.data }], guard := none }) (v := ?vc2) rfl (by kernel_rfl) (by kernel_rfl) (by kernel_rfl) (fun _ _ _ h => h) (Or.inl ⟨by rfl, ?hyc2⟩) (by assumption) ?restc2
          case hyc2 =>
            intro w hSw
            (try dsimp only at hSw)
            go_simp
            try with_reducible rfl
          try simp only [Act.put, List.setIfInBounds_toArray, List.set_cons_zero, List.set_cons_succ]
          refine wpAnyH_take (i := 3) (oi := { dst := some 18, op := Op.move (Operand.tmp 17), type := 4, pos := "l08_grant.go:48", after := #[{ on := 2, ground := Ground.data }, { on := 1, ground := Ground.chain }], guard := none }) (v := ?vc3) rfl (by kernel_rfl) (by kernel_rfl) (by kernel_rfl) (fun _ _ _ h => h) (Or.inl ⟨by rfl, ?hyc3⟩) (by assumption) ?restc3
          case hyc3 =>
            intro w hSw
            (try dsimp only at hSw)
            go_simp
            try with_reducible rfl
          try simp only [Act.put, List.setIfInBounds_toArray, List.set_cons_zero, List.set_cons_succ]
          refine wpAnyH_take (i := 4) (oi := { dst := some 19, op := Op.move (Operand.tmp 3), type := 3, pos := "l08_grant.go:48", after := #[{ on := 3, ground := Ground.guard }], guard := some (3, false) }) (v := ?vc4) rfl (by kernel_rfl) (by kernel_rfl) (by kernel_rfl) (fun _ _ _ h => h) (Or.inl ⟨by rfl, ?hyc4⟩) (by assumption) ?restc4
          case hyc4 =>
            intro w hSw
            (try dsimp only at hSw)
            go_simp
            try with_reducible rfl
          try simp only [Act.put, List.setIfInBounds_toArray, List.set_cons_zero, List.set_cons_succ]
          refine wpAnyH_take (i := 5) (oi := { dst := some 20, op := Op.binOp BinOp.gtr 3 (Operand.tmp 19) (Operand.const (Value.int IntKind.i64 0)) 3, type := 4, pos := "l08_grant.go:48", after := #[{ on := 4, ground := Ground.data }, { on := 3, ground := Ground.guard }], guard := some (3, false) }) (v := ?vc5) rfl (by kernel_rfl) (by kernel_rfl) (by kernel_rfl) (fun _ _ _ h => h) (Or.inl ⟨by rfl, ?hyc5⟩) (by assumption) ?restc5
          case hyc5 =>
            intro w hSw
            (try dsimp only at hSw)
            go_simp
            try with_reducible rfl
          try simp only [Act.put, List.setIfInBounds_toArray, List.set_cons_zero, List.set_cons_succ]
          refine wpAnyH_take (i := 6) (oi := { dst := some 21, op := Op.move (Operand.tmp 20), type := 4, pos := "l08_grant.go:48", after := #[{ on := 5, ground := Ground.data }, { on := 3, ground := Ground.chain }, { on := 3, ground := Ground.guard }], guard := some (3, false) }) (v := ?vc6) rfl (by kernel_rfl) (by kernel_rfl) (by kernel_rfl) (fun _ _ _ h => h) (Or.inl ⟨by rfl, ?hyc6⟩) (by assumption) ?restc6
          case hyc6 =>
            intro w hSw
            (try dsimp only at hSw)
            go_simp
            try with_reducible rfl
          try simp only [Act.put, List.setIfInBounds_toArray, List.set_cons_zero, List.set_cons_succ]
          refine wpAnyH_take (i := 7) (oi := { dst := some 22, op := Op.move (Operand.tmp 0), type := 23, pos := "l08_grant.go:48", after := #[{ on := 6, ground := Ground.guard }], guard := some (6, true) }) (v := ?vc7) rfl (by kernel_rfl) (by kernel_rfl) (by kernel_rfl) (fun _ _ _ h => h) (Or.inl ⟨by rfl, ?hyc7⟩) (by assumption) ?restc7
          case hyc7 =>
            intro w hSw
            (try dsimp only at hSw)
            go_simp
            try with_reducible rfl
          try simp only [Act.put, List.setIfInBounds_toArray, List.set_cons_zero, List.set_cons_succ]
          refine wpAnyH_take (i := 8) (oi := { dst := some 23, op := Op.move (Operand.tmp 3), type := 3, pos := "l08_grant.go:48", after := #[{ on := 6, ground := Ground.guard }], guard := some (6, true) }) (v := ?vc8) rfl (by kernel_rfl) (by kernel_rfl) (by kernel_rfl) (fun _ _ _ h => h) (Or.inl ⟨by rfl, ?hyc8⟩) (by assumption) ?restc8
          case hyc8 =>
            intro w hSw
            (try dsimp only at hSw)
            go_simp
            try with_reducible rfl
          try simp only [Act.put, List.setIfInBounds_toArray, List.set_cons_zero, List.set_cons_succ]
          refine wpAnyH_take (i := 9) (oi := { dst := some 24, op := Op.binOp BinOp.sub 3 (Operand.tmp 23) (Operand.const (Value.int IntKind.i64 1)) 3, type := 3, pos := "l08_grant.go:48", after := #[{ on := 8, ground := Ground.data }, { on := 6, ground := Ground.guard }], guard := some (6, true) }) (v := ?vc9) rfl (by kernel_rfl) (by kernel_rfl) (by kernel_rfl) (fun _ _ _ h => h) (Or.inl ⟨by rfl, ?hyc9⟩) (by assumption) ?restc9
          case hyc9 =>
            intro w hSw
            (try dsimp only at hSw)
            go_simp
            try with_reducible rfl
          try simp only [Act.put, List.setIfInBounds_toArray, List.set_cons_zero, List.set_cons_succ]
          refine wpAnyH_take (i := 10) (oi := { dst := some 25, op := Op.indexAddr 23 (Operand.tmp 22) (Operand.tmp 24), type := 0, pos := "l08_grant.go:48", after := #[{ on := 7, ground := Ground.data }, { on := 9, ground := Ground.data }, { on := 6, ground := Ground.guard }], guard := some (6, true) }) (v := ?vc10) rfl (by kernel_rfl) (by kernel_rfl) (by kernel_rfl) (fun _ _ _ h => h) (Or.inl ⟨by rfl, ?hyc10⟩) (by assumption) ?restc10
          case hyc10 =>
            intro w hSw
            (try dsimp only at hSw)
            go_simp
            try with_reducible rfl
          try simp only [Act.put, List.setIfInBounds_toArray, List.set_cons_zero, List.set_cons_succ]
          refine wpAnyH_take (i := 11) (oi := { dst := some 26, op := Op.load 64 (Operand.tmp 25), type := 64, pos := "l08_grant.go:48", after := #[{ on := 10, ground := Ground.data }, { on := 6, ground := Ground.guard }], guard := some (6, true) }) (v := ?vc11) rfl (by kernel_rfl) (by kernel_rfl) (by kernel_rfl) (fun _ _ _ h => h) (Or.inl ⟨by rfl, ?hyc11⟩) (by assumption) ?restc11
          case hyc11 =>
            intro w hSw
            (try dsimp only at hSw)
            go_simp
            try with_reducible rfl
          try simp only [Act.put, List.setIfInBounds_toArray, List.set_cons_zero, List.set_cons_succ]
          refine wpAnyH_take (i := 12) (oi := { dst := some 27, op := Op.load 64 (Operand.tmp 4), type := 64, pos := "l08_grant.go:48", after := #[{ on := 6, ground := Ground.guard }], guard := some (6, true) }) (v := ?vc12) rfl (by kernel_rfl) (by kernel_rfl) (by kernel_rfl) (fun _ _ _ h => h) (Or.inl ⟨by rfl, ?hyc12⟩) (by assumption) ?restc12
          case hyc12 =>
            intro w hSw
            (try dsimp only at hSw)
            go_simp
            try with_reducible rfl
          try simp only [Act.put, List.setIfInBounds_toArray, List.set_cons_zero, List.set_cons_succ]
          refine wpAnyH_ready (rs := [13]) (by kernel_rfl) (by simp) ?_
          refine AllReadyH.cons (o := { dst := some 28, op := Op.call { callee := Callee.value (Operand.func 48), args := #[Operand.tmp 26, Operand.tmp 27], argTypes := #[64, 64] }, type := 3, pos := "l08_grant.go:48", after := #[{ on := 11, ground := Ground.data }, { on := 12, ground := Ground.data }, { on := 6, ground := Ground.chain }, { on := 6, ground := Ground.guard }], guard := some (6, true) }) rfl (fun K hK => ?_) AllReadyH.nil
          go_simp
          (go_at_call 48; refine (KO.out _).mono ?_; rintro e w3 ⟨rfl, hb3⟩; have A3 : Below W0.heap.size W0 w3 := A2.trans (hb3.mono A2.size); have y0 : w3.cell? ⟨b, 0, none⟩ = some (.string ke) := ((bcell A3).1 _ _ hbW).trans c0; have y1 : w3.cell? ⟨b, 1, none⟩ = some (.string na) := ((bcell A3).1 _ _ hbW).trans c1; have y2 : w3.cell? ⟨b, 2, none⟩ = some (.int .i64 va) := ((bcell A3).1 _ _ hbW).trans c2; have yp0 : w3.cell? ⟨g, m * 3, none⟩ = some (.string pk) := ((bcell A3).1 _ _ hgW).trans d0; have yp1 : w3.cell? ⟨g, m * 3 + 1, none⟩ = some (.string pn) := ((bcell A3).1 _ _ hgW).trans d1; have yp2 : w3.cell? ⟨g, m * 3 + 2, none⟩ = some (.int .i64 pv) := ((bcell A3).1 _ _ hgW).trans d2)
          try (go_wp2_with fail)
          refine hK.out _ _ ?_ (fun hH2 => ?_)
          · (try dsimp only)
            go_keep
          clear hK K hH1
          try simp only [Act.put, List.setIfInBounds_toArray, List.set_cons_zero, List.set_cons_succ]
          refine wpAnyH_take (i := 14) (oi := { dst := some 29, op := Op.binOp BinOp.geq 3 (Operand.tmp 28) (Operand.const (Value.int IntKind.i64 0)) 3, type := 4, pos := "l08_grant.go:48", after := #[{ on := 13, ground := Ground.data }, { on := 6, ground := Ground.guard }], guard := some (6, true) }) (v := ?vc14) rfl (by kernel_rfl) (by kernel_rfl) (by kernel_rfl) (fun _ _ _ h => h) (Or.inl ⟨by rfl, ?hyc14⟩) (by assumption) ?restc14
          case hyc14 =>
            intro w hSw
            (try dsimp only at hSw)
            go_simp
            try with_reducible rfl
          try simp only [Act.put, List.setIfInBounds_toArray, List.set_cons_zero, List.set_cons_succ]
          refine wpAnyH_take (i := 15) (oi := { dst := some 30, op := Op.pick (Operand.tmp 21) (Operand.tmp 29) (Operand.const (Value.bool false)), type := 4, pos := "l08_grant.go:48", after := #[{ on := 6, ground := Ground.data }, { on := 14, ground := Ground.data }, { on := 3, ground := Ground.guard }], guard := some (3, false) }) (v := ?vc15) rfl (by kernel_rfl) (by kernel_rfl) (by kernel_rfl) (fun _ _ _ h => h) (Or.inl ⟨by rfl, ?hyc15⟩) (by assumption) ?restc15
          case hyc15 =>
            intro w hSw
            (try dsimp only at hSw)
            go_simp
            try with_reducible rfl
          try simp only [Act.put, List.setIfInBounds_toArray, List.set_cons_zero, List.set_cons_succ]
          refine wpAnyH_take (i := 16) (oi := { dst := some 31, op := Op.pick (Operand.tmp 18) (Operand.const (Value.bool true)) (Operand.tmp 30), type := 4, pos := "l08_grant.go:48", after := #[{ on := 3, ground := Ground.data }, { on := 15, ground := Ground.data }], guard := none }) (v := ?vc16) rfl (by kernel_rfl) (by kernel_rfl) (by kernel_rfl) (fun _ _ _ h => h) (Or.inl ⟨by rfl, ?hyc16⟩) (by assumption) ?restc16
          case hyc16 =>
            intro w hSw
            (try dsimp only at hSw)
            go_simp
            try with_reducible rfl
          try simp only [Act.put, List.setIfInBounds_toArray, List.set_cons_zero, List.set_cons_succ]
          refine wpAnyH_done (by kernel_rfl) ?_ _
          go_wp2
          go_ret
          exact ⟨ret_bool HQ.out.symm, HBW.out.trans (A3.mono HBW.out.size)⟩
        | true =>
          have qO : decide ((0 : Int) ≤ O) = false := HRi.out
          have HSt := HYs.out rfl
          have HSt2 : Hid (∀ j, j < m + 1 + 1 → okG L j = true) := HSt
          clear HRi HYs HNs HSt
          go_wp2_with fail
          rw [← hW0.out]
          clear hW0
          generalize hbb : wr.heap.size = b at *
          clear hbb HBr HB e0 e1 e2 
          refine wp_region_held_drew (S := (fun w' => w'.cell? ⟨b, 0, none⟩ = some (.string ke) ∧ w'.cell? ⟨b, 1, none⟩ = some (.string na) ∧ w'.cell? ⟨b, 2, none⟩ = some (.int .i64 va) ∧ w'.cell? ⟨g, m * 3, none⟩ = some (.string pk) ∧ w'.cell? ⟨g, m * 3 + 1, none⟩ = some (.string pn) ∧ w'.cell? ⟨g, m * 3 + 2, none⟩ = some (.int .i64 pv))) (by kernel_rfl) ?_ (fun hH0 => ?_)
          · (try dsimp only)
            go_keep
          refine wpAnyH_take (i := 0) (oi := { dst := some 15, op := Op.load 64 (Operand.tmp 4), type := 64, pos := "l08_grant.go:48", after := #[], guard := none }) (v := ?vd0) rfl (by kernel_rfl) (by kernel_rfl) (by kernel_rfl) (fun _ _ _ h => h) (Or.inl ⟨by rfl, ?hyd0⟩) (by assumption) ?restd0
          case hyd0 =>
            intro w hSw
            (try dsimp only at hSw)
            go_simp
            try with_reducible rfl
          try simp only [Act.put, List.setIfInBounds_toArray, List.set_cons_zero, List.set_cons_succ]
          refine wpAnyH_ready (rs := [1]) (by kernel_rfl) (by simp) ?_
          refine AllReadyH.cons (o := { dst := some 16, op := Op.call { callee := Callee.value (Operand.func 67), args := #[Operand.tmp 15], argTypes := #[64] }, type := 4, pos := "l08_grant.go:48", after := #[{ on := 0, ground := Ground.data }], guard := none }) rfl (fun K hK => ?_) AllReadyH.nil
          go_simp
          (go_at_call 67; refine (KE.out _).mono ?_; rintro e w2 ⟨rfl, hb2⟩; have A2 : Below W0.heap.size W0 w2 := (Below.drew (Below.refl _ _)).trans hb2; have x0 : w2.cell? ⟨b, 0, none⟩ = some (.string ke) := ((bcell A2).1 _ _ hbW).trans c0; have x1 : w2.cell? ⟨b, 1, none⟩ = some (.string na) := ((bcell A2).1 _ _ hbW).trans c1; have x2 : w2.cell? ⟨b, 2, none⟩ = some (.int .i64 va) := ((bcell A2).1 _ _ hbW).trans c2; have xp0 : w2.cell? ⟨g, m * 3, none⟩ = some (.string pk) := ((bcell A2).1 _ _ hgW).trans d0; have xp1 : w2.cell? ⟨g, m * 3 + 1, none⟩ = some (.string pn) := ((bcell A2).1 _ _ hgW).trans d1; have xp2 : w2.cell? ⟨g, m * 3 + 2, none⟩ = some (.int .i64 pv) := ((bcell A2).1 _ _ hgW).trans d2)
          try (go_wp2_with fail)
          refine hK.out _ _ ?_ (fun hH1 => ?_)
          · (try dsimp only)
            go_keep
          clear hK K hH0
          try simp only [Act.put, List.setIfInBounds_toArray, List.set_cons_zero, List.set_cons_succ]
          refine wpAnyH_take (i := 2) (oi := { dst := some 17, op := Op.unOp UnOp.not 4 (Operand.tmp 16), type := 4, pos := "l08_grant.go:48", after := #[{ on := 1, ground := Ground.data }], guard := none }) (v := ?vd2) rfl (by kernel_rfl) (by kernel_rfl) (by kernel_rfl) (fun _ _ _ h => h) (Or.inl ⟨by rfl, ?hyd2⟩) (by assumption) ?restd2
          case hyd2 =>
            intro w hSw
            (try dsimp only at hSw)
            go_simp
            try with_reducible rfl
          try simp only [Act.put, List.setIfInBounds_toArray, List.set_cons_zero, List.set_cons_succ]
          refine wpAnyH_take (i := 3) (oi := { dst := some 18, op := Op.move (Operand.tmp 17), type := 4, pos := "l08_grant.go:48", after := #[{ on := 2, ground := Ground.data }, { on := 1, ground := Ground.chain }], guard := none }) (v := ?vd3) rfl (by kernel_rfl) (by kernel_rfl) (by kernel_rfl) (fun _ _ _ h => h) (Or.inl ⟨by rfl, ?hyd3⟩) (by assumption) ?restd3
          case hyd3 =>
            intro w hSw
            (try dsimp only at hSw)
            go_simp
            try with_reducible rfl
          try simp only [Act.put, List.setIfInBounds_toArray, List.set_cons_zero, List.set_cons_succ]
          refine wpAnyH_take (i := 4) (oi := { dst := some 19, op := Op.move (Operand.tmp 3), type := 3, pos := "l08_grant.go:48", after := #[{ on := 3, ground := Ground.guard }], guard := some (3, false) }) (v := ?vd4) rfl (by kernel_rfl) (by kernel_rfl) (by kernel_rfl) (fun _ _ _ h => h) (Or.inl ⟨by rfl, ?hyd4⟩) (by assumption) ?restd4
          case hyd4 =>
            intro w hSw
            (try dsimp only at hSw)
            go_simp
            try with_reducible rfl
          try simp only [Act.put, List.setIfInBounds_toArray, List.set_cons_zero, List.set_cons_succ]
          refine wpAnyH_take (i := 5) (oi := { dst := some 20, op := Op.binOp BinOp.gtr 3 (Operand.tmp 19) (Operand.const (Value.int IntKind.i64 0)) 3, type := 4, pos := "l08_grant.go:48", after := #[{ on := 4, ground := Ground.data }, { on := 3, ground := Ground.guard }], guard := some (3, false) }) (v := ?vd5) rfl (by kernel_rfl) (by kernel_rfl) (by kernel_rfl) (fun _ _ _ h => h) (Or.inl ⟨by rfl, ?hyd5⟩) (by assumption) ?restd5
          case hyd5 =>
            intro w hSw
            (try dsimp only at hSw)
            go_simp
            try with_reducible rfl
          try simp only [Act.put, List.setIfInBounds_toArray, List.set_cons_zero, List.set_cons_succ]
          refine wpAnyH_take (i := 6) (oi := { dst := some 21, op := Op.move (Operand.tmp 20), type := 4, pos := "l08_grant.go:48", after := #[{ on := 5, ground := Ground.data }, { on := 3, ground := Ground.chain }, { on := 3, ground := Ground.guard }], guard := some (3, false) }) (v := ?vd6) rfl (by kernel_rfl) (by kernel_rfl) (by kernel_rfl) (fun _ _ _ h => h) (Or.inl ⟨by rfl, ?hyd6⟩) (by assumption) ?restd6
          case hyd6 =>
            intro w hSw
            (try dsimp only at hSw)
            go_simp
            try with_reducible rfl
          try simp only [Act.put, List.setIfInBounds_toArray, List.set_cons_zero, List.set_cons_succ]
          refine wpAnyH_take (i := 7) (oi := { dst := some 22, op := Op.move (Operand.tmp 0), type := 23, pos := "l08_grant.go:48", after := #[{ on := 6, ground := Ground.guard }], guard := some (6, true) }) (v := ?vd7) rfl (by kernel_rfl) (by kernel_rfl) (by kernel_rfl) (fun _ _ _ h => h) (Or.inl ⟨by rfl, ?hyd7⟩) (by assumption) ?restd7
          case hyd7 =>
            intro w hSw
            (try dsimp only at hSw)
            go_simp
            try with_reducible rfl
          try simp only [Act.put, List.setIfInBounds_toArray, List.set_cons_zero, List.set_cons_succ]
          refine wpAnyH_take (i := 8) (oi := { dst := some 23, op := Op.move (Operand.tmp 3), type := 3, pos := "l08_grant.go:48", after := #[{ on := 6, ground := Ground.guard }], guard := some (6, true) }) (v := ?vd8) rfl (by kernel_rfl) (by kernel_rfl) (by kernel_rfl) (fun _ _ _ h => h) (Or.inl ⟨by rfl, ?hyd8⟩) (by assumption) ?restd8
          case hyd8 =>
            intro w hSw
            (try dsimp only at hSw)
            go_simp
            try with_reducible rfl
          try simp only [Act.put, List.setIfInBounds_toArray, List.set_cons_zero, List.set_cons_succ]
          refine wpAnyH_take (i := 9) (oi := { dst := some 24, op := Op.binOp BinOp.sub 3 (Operand.tmp 23) (Operand.const (Value.int IntKind.i64 1)) 3, type := 3, pos := "l08_grant.go:48", after := #[{ on := 8, ground := Ground.data }, { on := 6, ground := Ground.guard }], guard := some (6, true) }) (v := ?vd9) rfl (by kernel_rfl) (by kernel_rfl) (by kernel_rfl) (fun _ _ _ h => h) (Or.inl ⟨by rfl, ?hyd9⟩) (by assumption) ?restd9
          case hyd9 =>
            intro w hSw
            (try dsimp only at hSw)
            go_simp
            try with_reducible rfl
          try simp only [Act.put, List.setIfInBounds_toArray, List.set_cons_zero, List.set_cons_succ]
          refine wpAnyH_take (i := 10) (oi := { dst := some 25, op := Op.indexAddr 23 (Operand.tmp 22) (Operand.tmp 24), type := 0, pos := "l08_grant.go:48", after := #[{ on := 7, ground := Ground.data }, { on := 9, ground := Ground.data }, { on := 6, ground := Ground.guard }], guard := some (6, true) }) (v := ?vd10) rfl (by kernel_rfl) (by kernel_rfl) (by kernel_rfl) (fun _ _ _ h => h) (Or.inl ⟨by rfl, ?hyd10⟩) (by assumption) ?restd10
          case hyd10 =>
            intro w hSw
            (try dsimp only at hSw)
            go_simp
            try with_reducible rfl
          try simp only [Act.put, List.setIfInBounds_toArray, List.set_cons_zero, List.set_cons_succ]
          refine wpAnyH_take (i := 11) (oi := { dst := some 26, op := Op.load 64 (Operand.tmp 25), type := 64, pos := "l08_grant.go:48", after := #[{ on := 10, ground := Ground.data }, { on := 6, ground := Ground.guard }], guard := some (6, true) }) (v := ?vd11) rfl (by kernel_rfl) (by kernel_rfl) (by kernel_rfl) (fun _ _ _ h => h) (Or.inl ⟨by rfl, ?hyd11⟩) (by assumption) ?restd11
          case hyd11 =>
            intro w hSw
            (try dsimp only at hSw)
            go_simp
            try with_reducible rfl
          try simp only [Act.put, List.setIfInBounds_toArray, List.set_cons_zero, List.set_cons_succ]
          refine wpAnyH_take (i := 12) (oi := { dst := some 27, op := Op.load 64 (Operand.tmp 4), type := 64, pos := "l08_grant.go:48", after := #[{ on := 6, ground := Ground.guard }], guard := some (6, true) }) (v := ?vd12) rfl (by kernel_rfl) (by kernel_rfl) (by kernel_rfl) (fun _ _ _ h => h) (Or.inl ⟨by rfl, ?hyd12⟩) (by assumption) ?restd12
          case hyd12 =>
            intro w hSw
            (try dsimp only at hSw)
            go_simp
            try with_reducible rfl
          try simp only [Act.put, List.setIfInBounds_toArray, List.set_cons_zero, List.set_cons_succ]
          refine wpAnyH_ready (rs := [13]) (by kernel_rfl) (by simp) ?_
          refine AllReadyH.cons (o := { dst := some 28, op := Op.call { callee := Callee.value (Operand.func 48), args := #[Operand.tmp 26, Operand.tmp 27], argTypes := #[64, 64] }, type := 3, pos := "l08_grant.go:48", after := #[{ on := 11, ground := Ground.data }, { on := 12, ground := Ground.data }, { on := 6, ground := Ground.chain }, { on := 6, ground := Ground.guard }], guard := some (6, true) }) rfl (fun K hK => ?_) AllReadyH.nil
          go_simp
          (go_at_call 48; refine (KO.out _).mono ?_; rintro e w3 ⟨rfl, hb3⟩; have A3 : Below W0.heap.size W0 w3 := A2.trans (hb3.mono A2.size); have y0 : w3.cell? ⟨b, 0, none⟩ = some (.string ke) := ((bcell A3).1 _ _ hbW).trans c0; have y1 : w3.cell? ⟨b, 1, none⟩ = some (.string na) := ((bcell A3).1 _ _ hbW).trans c1; have y2 : w3.cell? ⟨b, 2, none⟩ = some (.int .i64 va) := ((bcell A3).1 _ _ hbW).trans c2; have yp0 : w3.cell? ⟨g, m * 3, none⟩ = some (.string pk) := ((bcell A3).1 _ _ hgW).trans d0; have yp1 : w3.cell? ⟨g, m * 3 + 1, none⟩ = some (.string pn) := ((bcell A3).1 _ _ hgW).trans d1; have yp2 : w3.cell? ⟨g, m * 3 + 2, none⟩ = some (.int .i64 pv) := ((bcell A3).1 _ _ hgW).trans d2)
          try (go_wp2_with fail)
          refine hK.out _ _ ?_ (fun hH2 => ?_)
          · (try dsimp only)
            go_keep
          clear hK K hH1
          try simp only [Act.put, List.setIfInBounds_toArray, List.set_cons_zero, List.set_cons_succ]
          refine wpAnyH_take (i := 14) (oi := { dst := some 29, op := Op.binOp BinOp.geq 3 (Operand.tmp 28) (Operand.const (Value.int IntKind.i64 0)) 3, type := 4, pos := "l08_grant.go:48", after := #[{ on := 13, ground := Ground.data }, { on := 6, ground := Ground.guard }], guard := some (6, true) }) (v := ?vd14) rfl (by kernel_rfl) (by kernel_rfl) (by kernel_rfl) (fun _ _ _ h => h) (Or.inl ⟨by rfl, ?hyd14⟩) (by assumption) ?restd14
          case hyd14 =>
            intro w hSw
            (try dsimp only at hSw)
            go_simp
            try with_reducible rfl
          try simp only [Act.put, List.setIfInBounds_toArray, List.set_cons_zero, List.set_cons_succ]
          refine wpAnyH_take (i := 15) (oi := { dst := some 30, op := Op.pick (Operand.tmp 21) (Operand.tmp 29) (Operand.const (Value.bool false)), type := 4, pos := "l08_grant.go:48", after := #[{ on := 6, ground := Ground.data }, { on := 14, ground := Ground.data }, { on := 3, ground := Ground.guard }], guard := some (3, false) }) (v := ?vd15) rfl (by kernel_rfl) (by kernel_rfl) (by kernel_rfl) (fun _ _ _ h => h) (Or.inl ⟨by rfl, ?hyd15⟩) (by assumption) ?restd15
          case hyd15 =>
            intro w hSw
            (try dsimp only at hSw)
            go_simp
            try with_reducible rfl
          try simp only [Act.put, List.setIfInBounds_toArray, List.set_cons_zero, List.set_cons_succ]
          refine wpAnyH_take (i := 16) (oi := { dst := some 31, op := Op.pick (Operand.tmp 18) (Operand.const (Value.bool true)) (Operand.tmp 30), type := 4, pos := "l08_grant.go:48", after := #[{ on := 3, ground := Ground.data }, { on := 15, ground := Ground.data }], guard := none }) (v := ?vd16) rfl (by kernel_rfl) (by kernel_rfl) (by kernel_rfl) (fun _ _ _ h => h) (Or.inl ⟨by rfl, ?hyd16⟩) (by assumption) ?restd16
          case hyd16 =>
            intro w hSw
            (try dsimp only at hSw)
            go_simp
            try with_reducible rfl
          try simp only [Act.put, List.setIfInBounds_toArray, List.set_cons_zero, List.set_cons_succ]
          refine wpAnyH_done (by kernel_rfl) ?_ _
          have BN : Hid (Below w.heap.size w w3) := HBW.out.trans (A3.mono HBW.out.size)
          go_wp2
          go_roundw
          case rel => exact ⟨m + 2, by omega, by go_num, HSt2, BN⟩
          case measure => simp [intOf]; omega
    · obtain rfl : k = L.length := by omega
      have HQ : Hid (R = true) := HAll2.out HR.out
      go_wp2
      go_ret
      exact ⟨ret_bool HQ.out.symm, HB.out⟩
end Go.Proofs.Ytecaeolgheefmaa

/- The walk of the program's leave.has. Written by implleave2.py. -/
namespace Go.Proofs.Ytecaeolgheefmaa
open Go.RowKit

set_option maxRecDepth 10000 in
set_option maxHeartbeats 4000000 in
theorem hasG_any (tp si : ByteArray) (c : Gr) (w : World) :
    Calls Try.prog 44 #[leaveV tp si, grV c] w fun e w' => e = .returned (.bool (isG tp si c)) ∧ Below w.heap.size w w' := by
  have KP0 : ∀ W, Calls Try.prog 74 #[grV c] W fun e w' => e = .returned (leaveV c.tp c.si) ∧ Below W.heap.size W w' := fun W => leaveOf_any c W
  have HE : Hid (isG tp si c = ((c.tp.toList == tp.toList) && (c.si.toList == si.toList))) := rfl
  generalize isG tp si c = R at *
  obtain ⟨tp2, si2, un⟩ := c
  unfold grV leaveV at *
  dsimp only at *
  have KP : Hid (∀ W, Calls Try.prog 74 #[.agg #[.string tp2, .string si2, .int .i64 un]] W fun e w' => e = .returned (.agg #[.string tp2, .string si2]) ∧ Below W.heap.size W w') := KP0
  clear KP0
  obtain ⟨W0, hW⟩ : ∃ W0, W0 = (w.alloc (.cells #[.string tp, .string si] 60)).alloc (.cells #[.string tp2, .string si2, .int .i64 un] 64) := ⟨_, rfl⟩
  have hW0 : Hid (W0 = (w.alloc (.cells #[.string tp, .string si] 60)).alloc (.cells #[.string tp2, .string si2, .int .i64 un] 64)) := hW
  have HB : Hid (Below w.heap.size w W0) := by show Below _ _ _; rw [hW]; exact ((Below.refl _ _).alloc (Nat.le_refl _) _).alloc (by simp) _
  have z0 : w.heap.size < W0.heap.size := by rw [hW]; simp; omega
  have z1 : w.heap.size + 1 < W0.heap.size := by rw [hW]; simp
  have p0 : W0.cell? ⟨w.heap.size, 0, none⟩ = some (.string tp) := by rw [hW]; simp
  have p1 : W0.cell? ⟨w.heap.size, 1, none⟩ = some (.string si) := by rw [hW]; simp
  have q0 : W0.cell? ⟨w.heap.size + 1, 0, none⟩ = some (.string tp2) := by rw [hW]; exact (World.cell?_alloc_at _ _ _ _ (by simp)).trans rfl
  have q1 : W0.cell? ⟨w.heap.size + 1, 1, none⟩ = some (.string si2) := by rw [hW]; exact (World.cell?_alloc_at _ _ _ _ (by simp)).trans rfl
  have q2 : W0.cell? ⟨w.heap.size + 1, 2, none⟩ = some (.int .i64 un) := by rw [hW]; exact (World.cell?_alloc_at _ _ _ _ (by simp)).trans rfl
  clear hW
  cases h0 : (tp2.toList == tp.toList) with
  | false =>
    have HQ : Hid (R = false) := by show _ = _; rw [HE.out]; simp only [*]; try rfl
    go_enter Try.func44, Try.ntmps44
    go_wp2_with fail
    rw [← hW0.out]
    go_region_held3 (fun w' => w'.cell? ⟨w.heap.size, 0, none⟩ = some (.string tp) ∧ w'.cell? ⟨w.heap.size, 1, none⟩ = some (.string si) ∧ w'.cell? ⟨w.heap.size + 1, 0, none⟩ = some (.string tp2) ∧ w'.cell? ⟨w.heap.size + 1, 1, none⟩ = some (.string si2) ∧ w'.cell? ⟨w.heap.size + 1, 2, none⟩ = some (.int .i64 un)) (go_keep)
      (first | (go_at_call 74; refine (KP.out _).mono ?_; rintro e w2 ⟨rfl, hb2⟩; have A2 : Below W0.heap.size W0 w2 := (Below.drew (Below.refl _ _)).trans hb2; have l0 : w2.cell? ⟨w.heap.size, 0, none⟩ = some (.string tp) := ((bcell A2).1 _ _ z0).trans p0; have l1 : w2.cell? ⟨w.heap.size, 1, none⟩ = some (.string si) := ((bcell A2).1 _ _ z0).trans p1; have l2 : w2.cell? ⟨w.heap.size + 1, 0, none⟩ = some (.string tp2) := ((bcell A2).1 _ _ z1).trans q0; have l3 : w2.cell? ⟨w.heap.size + 1, 1, none⟩ = some (.string si2) := ((bcell A2).1 _ _ z1).trans q1; have l4 : w2.cell? ⟨w.heap.size + 1, 2, none⟩ = some (.int .i64 un) := ((bcell A2).1 _ _ z1).trans q2))
    have B2 : Hid (Below w.heap.size w w2) := HB.out.trans (A2.mono HB.out.size)
    all_goals go_wp2
    all_goals go_ret
    all_goals exact ⟨ret_bool HQ.out.symm, B2.out⟩
  | true =>
    cases h1 : (si2.toList == si.toList) with
    | false =>
      have HQ : Hid (R = false) := by show _ = _; rw [HE.out]; simp only [*]; try rfl
      go_enter Try.func44, Try.ntmps44
      go_wp2_with fail
      rw [← hW0.out]
      go_region_held3 (fun w' => w'.cell? ⟨w.heap.size, 0, none⟩ = some (.string tp) ∧ w'.cell? ⟨w.heap.size, 1, none⟩ = some (.string si) ∧ w'.cell? ⟨w.heap.size + 1, 0, none⟩ = some (.string tp2) ∧ w'.cell? ⟨w.heap.size + 1, 1, none⟩ = some (.string si2) ∧ w'.cell? ⟨w.heap.size + 1, 2, none⟩ = some (.int .i64 un)) (go_keep)
        (first | (go_at_call 74; refine (KP.out _).mono ?_; rintro e w2 ⟨rfl, hb2⟩; have A2 : Below W0.heap.size W0 w2 := (Below.drew (Below.refl _ _)).trans hb2; have l0 : w2.cell? ⟨w.heap.size, 0, none⟩ = some (.string tp) := ((bcell A2).1 _ _ z0).trans p0; have l1 : w2.cell? ⟨w.heap.size, 1, none⟩ = some (.string si) := ((bcell A2).1 _ _ z0).trans p1; have l2 : w2.cell? ⟨w.heap.size + 1, 0, none⟩ = some (.string tp2) := ((bcell A2).1 _ _ z1).trans q0; have l3 : w2.cell? ⟨w.heap.size + 1, 1, none⟩ = some (.string si2) := ((bcell A2).1 _ _ z1).trans q1; have l4 : w2.cell? ⟨w.heap.size + 1, 2, none⟩ = some (.int .i64 un) := ((bcell A2).1 _ _ z1).trans q2))
      have B2 : Hid (Below w.heap.size w w2) := HB.out.trans (A2.mono HB.out.size)
      all_goals go_wp2
      all_goals go_ret
      all_goals exact ⟨ret_bool HQ.out.symm, B2.out⟩
    | true =>
      have HQ : Hid (R = true) := by show _ = _; rw [HE.out]; simp only [*]; try rfl
      go_enter Try.func44, Try.ntmps44
      go_wp2_with fail
      rw [← hW0.out]
      go_region_held3 (fun w' => w'.cell? ⟨w.heap.size, 0, none⟩ = some (.string tp) ∧ w'.cell? ⟨w.heap.size, 1, none⟩ = some (.string si) ∧ w'.cell? ⟨w.heap.size + 1, 0, none⟩ = some (.string tp2) ∧ w'.cell? ⟨w.heap.size + 1, 1, none⟩ = some (.string si2) ∧ w'.cell? ⟨w.heap.size + 1, 2, none⟩ = some (.int .i64 un)) (go_keep)
        (first | (go_at_call 74; refine (KP.out _).mono ?_; rintro e w2 ⟨rfl, hb2⟩; have A2 : Below W0.heap.size W0 w2 := (Below.drew (Below.refl _ _)).trans hb2; have l0 : w2.cell? ⟨w.heap.size, 0, none⟩ = some (.string tp) := ((bcell A2).1 _ _ z0).trans p0; have l1 : w2.cell? ⟨w.heap.size, 1, none⟩ = some (.string si) := ((bcell A2).1 _ _ z0).trans p1; have l2 : w2.cell? ⟨w.heap.size + 1, 0, none⟩ = some (.string tp2) := ((bcell A2).1 _ _ z1).trans q0; have l3 : w2.cell? ⟨w.heap.size + 1, 1, none⟩ = some (.string si2) := ((bcell A2).1 _ _ z1).trans q1; have l4 : w2.cell? ⟨w.heap.size + 1, 2, none⟩ = some (.int .i64 un) := ((bcell A2).1 _ _ z1).trans q2))
      have B2 : Hid (Below w.heap.size w w2) := HB.out.trans (A2.mono HB.out.size)
      all_goals go_wp2
      all_goals go_ret
      all_goals exact ⟨ret_bool HQ.out.symm, B2.out⟩
end Go.Proofs.Ytecaeolgheefmaa

/- 'clear' of a slice whose elements have several cells. -/
namespace Go.Proofs.Ytecaeolgheefmaa
open Go.RowKit

theorem run_clear_cells {P : Program} (w : World) (t e ty : TypeId) (z : Value) (ht : P.underlying t = some (.slice e)) (hv : ∀ w, (zeroValue e).run P w = .ok z w) (b o n c : Nat) (hn : 0 < n) (h1 : ∀ v ∈ (Builtin.zeroCells z.cells n).toList, v.oneCell' = true)
    (hc : ∀ j, j < (Builtin.zeroCells z.cells n).toList.length → (w.cell? ⟨b, o + j, none⟩).isSome = true) (hf : ∀ j, j < (Builtin.zeroCells z.cells n).toList.length → w.frozen? ⟨b, o + j, none⟩ = false) :
    (Builtin.clear_ #[t] ty #[.slice (some ⟨b, o, none⟩) n c]).run P w = .ok (.tuple #[]) (w.setCells b o (Builtin.zeroCells z.cells n).toList) := by
  have hst := run_storeCells_cells (P := P) b o (Builtin.zeroCells z.cells n).toList 0 w (by simpa using hc) (by simpa using hf) h1
  simp only [Nat.add_zero] at hst
  obtain ⟨m, rfl⟩ : ∃ m, n = m + 1 := ⟨n - 1, by omega⟩
  simp [Builtin.clear_, run_underlying ht, hv, hst]
theorem zeroCells_len (z : Array Value) (n : Nat) : (Builtin.zeroCells z n).toList.length = n * z.size := by simp [Builtin.zeroCells]
theorem below_setCellsK {B g : Nat} (hg : B ≤ g) : ∀ (vs : List Value) (o : Nat) (w : World), Below B w (w.setCells g o vs)
  | [], _, _ => Below.refl _ _
  | v :: r, o, w => Below.trans ((Below.refl B w).setCell (p := ⟨g, o, none⟩) hg v) (below_setCellsK hg r (o + 1) _)
end Go.Proofs.Ytecaeolgheefmaa

/- The walks of the library's IndexFunc, ContainsFunc and DeleteFunc at grants, over the program's predicates. Written by delfunc.py. -/
namespace Go.Proofs.Ytecaeolgheefmaa
open Go.RowKit

theorem any_yes {p : Gr → Bool} {L : List Gr} {k : Nat} (hk : k < L.length) (h : p (atG L k) = true) : L.any p = true :=
  List.any_eq_true.2 ⟨atG L k, by rw [atG_get hk]; exact List.getElem_mem hk, h⟩
theorem any_no {p : Gr → Bool} {L : List Gr} (h : ∀ j, j < L.length → p (atG L j) = false) : L.any p = false := by
  refine List.any_eq_false.2 fun x hx => ?_
  obtain ⟨j, hj, rfl⟩ := List.mem_iff_getElem.1 hx
  have := h j hj
  rw [atG_get hj] at this
  rw [this]; decide
theorem keep_same {p : Gr → Bool} {L : List Gr} {k : Nat} (hk : k ≤ L.length) (h : ∀ j, j < k → p (atG L j) = true) : keepG p L k = L.take k := by
  unfold keepG
  rw [List.filter_eq_self]
  intro x hx
  obtain ⟨j, hj, rfl⟩ := List.mem_iff_getElem.1 hx
  have h1 : j < k := by rw [List.length_take] at hj; omega
  have := h j h1
  rw [atG_get (by omega)] at this
  rw [List.getElem_take]; exact this
theorem atG_take {L : List Gr} {k j : Nat} (hk : k ≤ L.length) (hj : j < k) : atG (L.take k) j = atG L j := by
  rw [atG_get (by rw [List.length_take]; omega), atG_get (by omega), List.getElem_take]
theorem atG_snoc {L : List Gr} {x : Gr} {j : Nat} : atG (L ++ [x]) j = if j < L.length then atG L j else if j = L.length then x else grNone := by
  unfold atG
  rw [List.getD_eq_getElem?_getD, List.getD_eq_getElem?_getD]
  by_cases h : j < L.length
  · rw [if_pos h, List.getElem?_append_left h]
  · rw [if_neg h, List.getElem?_append_right (by omega)]
    by_cases e : j = L.length
    · rw [if_pos e, e]; simp
    · rw [if_neg e, List.getElem?_eq_none (by simp; omega)]; rfl
set_option maxRecDepth 10000 in
set_option maxHeartbeats 4000000 in
theorem indexOld_any (now : Int) (q : Option Addr) (cap B : Nat) (L : List Gr) (w : World) (hs : SliceG w B (.slice q L.length cap) L) (hn : L.length ≤ 1048576)
    (KP : ∀ (c : Gr) (W : World), Below w.heap.size w W → Calls Try.prog 45 #[.int .i64 now, grV c] W fun e w' => e = .returned (.bool ((fun g => !(liveG now g)) c)) ∧ Below W.heap.size W w') :
    Calls Try.prog 73 #[.slice q L.length cap, .func (.func 45) #[.int .i64 now] #[]] w fun e w' => ((∃ k, k < L.length ∧ e = .returned (.int .i64 (k : Nat)) ∧ (fun g => !(liveG now g)) (atG L k) = true ∧ ∀ j, j < k → (fun g => !(liveG now g)) (atG L j) = false) ∨ (e = .returned (.int .i64 (-1)) ∧ ∀ j, j < L.length → (fun g => !(liveG now g)) (atG L j) = false)) ∧ Below w.heap.size w w' := by
  obtain ⟨⟨q', cap', e1, hg⟩, -⟩ := hs
  injection e1 with e1 _ e3
  subst e1 e3
  have HG : Hid (0 < L.length → ∃ g, q = some ⟨g, 0, none⟩ ∧ g < w.heap.size ∧ ∀ j, j < L.length → ∀ o, o < 3 → w.cell? ⟨g, j * 3 + o, none⟩ = some (grC (atG L j) o)) := fun h0 => by
    obtain ⟨g, e, -, hgw, hc⟩ := hg h0
    exact ⟨g, e, hgw, fun j hj o ho => (hc j hj o ho).1⟩
  have KH : Hid (∀ (c : Gr) (W : World), Below w.heap.size w W → Calls Try.prog 45 #[.int .i64 now, grV c] W fun e w' => e = .returned (.bool ((fun g => !(liveG now g)) c)) ∧ Below W.heap.size W w') := KP
  clear hg KP
  generalize hpp : (fun g => !(liveG now g)) = pr at *
  clear hpp
  go_enter Try.func73, Try.ntmps73
  go_wp2
  go_loopw [8] (fun i wr => ∃ j : Nat, j ≤ L.length ∧ i = .int .i64 j ∧ Hid (Below w.heap.size w wr) ∧ Hid (∀ i', i' < j → pr (atG L i') = false)) (fun i _ => L.length - (intOf i).toNat)
  case atStart => exact ⟨0, Nat.zero_le _, rfl, Below.refl _ _, fun j hj => absurd hj (by omega)⟩
  case round =>
    obtain ⟨j, hj, rfl, HB, HR⟩ := hrel
    by_cases hlt : j < L.length
    · obtain ⟨g, rfl, hgw, hc⟩ := HG.out (by omega)
      have j0 : (0 : Int) ≤ j := by omega
      have j1 : (j : Int) < L.length := by omega
      have HN1 : Hid (pr (atG L j) = false → ∀ i', i' < j + 1 → pr (atG L i') = false) := fun e i' hi' => by
        by_cases e2 : i' = j
        · subst e2; exact e
        · exact HR.out i' (by omega)
      have HS0 : Hid (∀ W, Below w.heap.size w W → Calls Try.prog 45 #[.int .i64 now, .agg #[.string (atG L j).tp, .string (atG L j).si, .int .i64 (atG L j).un]] W fun e w' => e = .returned (.bool (pr (atG L j))) ∧ Below W.heap.size W w') := fun W h => KH.out (atG L j) W h
      have c0 : wr.cell? ⟨g, j * 3, none⟩ = some (.string (atG L j).tp) := by rw [(bcell HB.out).1 _ _ hgw]; exact hc j hlt 0 (by omega)
      have c1 : wr.cell? ⟨g, j * 3 + 1, none⟩ = some (.string (atG L j).si) := by rw [(bcell HB.out).1 _ _ hgw]; exact hc j hlt 1 (by omega)
      have c2 : wr.cell? ⟨g, j * 3 + 2, none⟩ = some (.int .i64 (atG L j).un) := by rw [(bcell HB.out).1 _ _ hgw]; exact hc j hlt 2 (by omega)
      have HBA : Hid (∀ o, Below w.heap.size w (wr.alloc o)) := fun o => HB.out.alloc HB.out.size _
      clear hc KH
      generalize hsm : pr (atG L j) = sm at *
      have HSM : Hid (pr (atG L j) = sm) := hsm
      clear hsm
      have HKK : Hid (∀ i', i' < j → pr (atG L i') = false) := HR.out
      generalize hyy : atG L j = y at *
      obtain ⟨tp', si', un'⟩ := y
      dsimp only at *
      go_wp2_with fail
      refine (HS0.out _ (by first | exact HB.out | exact HBA.out _)).mono ?_
      rintro e w2 ⟨rfl, hb2⟩
      have B2 : Hid (Below w.heap.size w w2) := by first | exact HB.out.trans (hb2.mono HB.out.size) | exact (HBA.out _).trans (hb2.mono (HBA.out _).size)
      clear hb2
      cases sm with
      | true =>
        go_wp2
        go_ret
        exact ⟨.inl ⟨j, hlt, rfl, by rw [hyy]; exact HSM.out, HKK.out⟩, B2.out⟩
      | false =>
        have HN2 : Hid (∀ i', i' < j + 1 → pr (atG L i') = false) := HN1.out rfl
        go_wp2
        go_roundw
        case rel => exact ⟨j + 1, by omega, by go_num, B2, HN2⟩
        case measure => simp [intOf]; omega
    · go_wp2
      go_ret
      exact ⟨.inr ⟨rfl, fun i hi => HR.out i (by omega)⟩, HB.out⟩
set_option maxRecDepth 10000 in
set_option maxHeartbeats 8000000 in
theorem deleteOld_any (now : Int) (v : Value) (B : Nat) (L : List Gr) (w : World) (hs : SliceG w B v L) (hB : B ≤ w.heap.size) (hn : L.length ≤ 1000)
    (KP : ∀ (c : Gr) (W : World), Below B w W → Calls Try.prog 45 #[.int .i64 now, grV c] W fun e w' => e = .returned (.bool ((fun g => !(liveG now g)) c)) ∧ Below W.heap.size W w') :
    Calls Try.prog 41 #[v, .func (.func 45) #[.int .i64 now] #[]] w fun e w' => ∃ v', e = .returned v' ∧ SliceG w' B v' (L.filter (fun g => !((fun g => !(liveG now g)) g))) ∧ Below B w w' := by
  have HSg : Hid (SliceG w B v L) := hs
  obtain ⟨⟨q, cap, rfl, hg⟩, q2, cap2, e2, hcap, hqn⟩ := hs
  injection e2 with e3 _ e4
  subst e3 e4
  have KI : Hid (Calls Try.prog 73 #[.slice q L.length cap, .func (.func 45) #[.int .i64 now] #[]] w fun e w' => ((∃ k, k < L.length ∧ e = .returned (.int .i64 (k : Nat)) ∧ (fun g => !(liveG now g)) (atG L k) = true ∧ ∀ j, j < k → (fun g => !(liveG now g)) (atG L j) = false) ∨ (e = .returned (.int .i64 (-1)) ∧ ∀ j, j < L.length → (fun g => !(liveG now g)) (atG L j) = false)) ∧ Below w.heap.size w w') := indexOld_any now q cap B L w HSg.out (by omega) (fun c W h => KP c W (h.mono hB))
  have KH : Hid (∀ (c : Gr) (W : World), Below B w W → Calls Try.prog 45 #[.int .i64 now, grV c] W fun e w' => e = .returned (.bool ((fun g => !(liveG now g)) c)) ∧ Below W.heap.size W w') := KP
  have HGr : Hid (0 < L.length → ∃ g, q = some ⟨g, 0, none⟩ ∧ B ≤ g ∧ g < w.heap.size) := fun h0 => by
    obtain ⟨g, e, h1, h2, -⟩ := hg h0
    exact ⟨g, e, h1, h2⟩
  have HAll : Hid ((∀ j, j < L.length → (fun g => !(liveG now g)) (atG L j) = false) → L.filter (fun g => !((fun g => !(liveG now g)) g)) = L) := fun h => by
    refine List.filter_eq_self.2 fun x hx => ?_
    obtain ⟨j, hj, rfl⟩ := List.mem_iff_getElem.1 hx
    have := h j hj
    rw [atG_get hj] at this
    show (!_) = true
    rw [this]; rfl
  have HFil : Hid (keepG (fun g => !((fun g => !(liveG now g)) g)) L L.length = L.filter (fun g => !((fun g => !(liveG now g)) g))) := keepG_all _ L
  have HYs : Hid (∀ k, k < L.length → (fun g => !(liveG now g)) (atG L k) = false → keepG (fun g => !((fun g => !(liveG now g)) g)) L (k + 1) = keepG (fun g => !((fun g => !(liveG now g)) g)) L k ++ [atG L k]) := fun k hk h => keepG_yes hk (by show (!_) = true; rw [h]; rfl)
  have HNs : Hid (∀ k, k < L.length → (fun g => !(liveG now g)) (atG L k) = true → keepG (fun g => !((fun g => !(liveG now g)) g)) L (k + 1) = keepG (fun g => !((fun g => !(liveG now g)) g)) L k) := fun k hk h => keepG_no hk (by show (!_) = false; rw [h]; rfl)
  have HFirst : Hid (∀ k, k < L.length → (fun g => !(liveG now g)) (atG L k) = true → (∀ j, j < k → (fun g => !(liveG now g)) (atG L j) = false) → keepG (fun g => !((fun g => !(liveG now g)) g)) L (k + 1) = L.take k) := fun k hk h h2 => by
    rw [keepG_no hk (by show (!_) = false; rw [h]; rfl)]
    exact keep_same (by omega) (fun j hj => by show (!_) = true; rw [h2 j hj]; rfl)
  clear hg KP
  generalize L.filter (fun g => !((fun g => !(liveG now g)) g)) = Z at *
  generalize hpk : keepG (fun g => !((fun g => !(liveG now g)) g)) = kp at *
  clear hpk
  generalize hpp : (fun g => !(liveG now g)) = pr at *
  clear hpp
  go_enter Try.func41, Try.ntmps41
  go_wp2_with fail
  refine KI.out.mono ?_
  rintro e w1 ⟨⟨k, hk, rfl, hp, hbf⟩ | ⟨rfl, hp⟩, hb1⟩
  · obtain ⟨g, rfl, hBg, hgw⟩ := HGr.out (by omega)
    have hkeep : kp L (k + 1) = L.take k := HFirst.out k hk hp hbf
    have S1 : Hid (SliceR w1 B 3 (.slice (some ⟨g, 0, none⟩) L.length cap) L.length (fun j o => grC (atG L j) o)) := (HSg.out.1).below hb1
    have hgw1 : g < w1.heap.size := Nat.lt_of_lt_of_le hgw hb1.size
    have B1 : Hid (Below B w w1) := hb1.mono hB
    have HSt : Hid (∃ cur : Nat → Gr, SliceR w1 B 3 (.slice (some ⟨g, 0, none⟩) L.length cap) L.length (fun j o => grC (cur j) o) ∧ (∀ t, t < k → cur t = atG (kp L (k + 1)) t) ∧ ∀ t, k + 1 ≤ t → t < L.length → cur t = atG L t) := ⟨atG L, S1.out, fun t ht => by rw [hkeep, atG_take (by omega) ht], fun t _ _ => rfl⟩
    have hkl : (kp L (k + 1)).length = k := by rw [hkeep, List.length_take]; omega
    have qk : ((k : Int) == -1) = false := beq_eq_false_iff_ne.2 (by omega)
    clear hb1 hp hbf KI HSg S1 HFirst HAll HGr hkeep
    go_wp2
    go_loopw [5, 6] (fun i j wr => ∃ ii jj : Nat, i = .int .i64 ii ∧ j = .int .i64 jj ∧ ii < jj ∧ jj ≤ L.length ∧ (kp L jj).length = ii ∧ g < wr.heap.size ∧ Hid (∃ cur : Nat → Gr, SliceR wr B 3 (.slice (some ⟨g, 0, none⟩) L.length cap) L.length (fun j o => grC (cur j) o) ∧ (∀ t, t < ii → cur t = atG (kp L jj) t) ∧ ∀ t, jj ≤ t → t < L.length → cur t = atG L t) ∧ Hid (Below B w wr)) (fun _ j _ => L.length - (intOf j).toNat)
    case atStart => exact ⟨k, k + 1, rfl, by first | rfl | go_num, by omega, by omega, hkl, hgw1, HSt, B1⟩
    case round =>
      obtain ⟨ii, jj, rfl, rfl, hij, hjl, hlen, hgr, HC, HB⟩ := hrel
      clear HSt B1 hkl hgw1 qk
      by_cases hlt : jj < L.length
      · obtain ⟨cur, hcs, hc1, hc2⟩ := HC.out
        have j0 : (0 : Int) ≤ jj := by omega
        have j1 : (jj : Int) < L.length := by omega
        have i0 : (0 : Int) ≤ ii := by omega
        have i1 : (ii : Int) < L.length := by omega
        have hcell : ∀ t, t < L.length → ∀ o, o < 3 → wr.cell? ⟨g, t * 3 + o, none⟩ = some (grC (cur t) o) ∧ wr.frozen? ⟨g, t * 3 + o, none⟩ = false := by
          obtain ⟨p', c', e', hh⟩ := hcs
          injection e' with e1'
          obtain ⟨g', e2', -, -, hc⟩ := hh (by omega)
          rw [e2'] at e1'
          injection e1' with e1'
          injection e1' with e1'
          subst e1'
          exact hc
        have hcj := hc2 jj (Nat.le_refl _) hlt
        have HCell : Hid (∀ t, t < L.length → ∀ o, o < 3 → wr.cell? ⟨g, t * 3 + o, none⟩ = some (grC (cur t) o) ∧ wr.frozen? ⟨g, t * 3 + o, none⟩ = false) := hcell
        have c0 : wr.cell? ⟨g, jj * 3, none⟩ = some (.string (atG L jj).tp) := by rw [← hcj]; exact (hcell jj hlt 0 (by omega)).1
        have c1 : wr.cell? ⟨g, jj * 3 + 1, none⟩ = some (.string (atG L jj).si) := by rw [← hcj]; exact (hcell jj hlt 1 (by omega)).1
        have c2 : wr.cell? ⟨g, jj * 3 + 2, none⟩ = some (.int .i64 (atG L jj).un) := by rw [← hcj]; exact (hcell jj hlt 2 (by omega)).1
        have HS0 : Hid (∀ W, Below B w W → Calls Try.prog 45 #[.int .i64 now, .agg #[.string (atG L jj).tp, .string (atG L jj).si, .int .i64 (atG L jj).un]] W fun e w' => e = .returned (.bool (pr (atG L jj))) ∧ Below W.heap.size W w') := fun W h => KH.out (atG L jj) W h
        have HBA : Hid (∀ o, Below wr.heap.size wr (wr.alloc o)) := fun o => (Below.refl _ _).alloc (Nat.le_refl _) _
        have HBW : Hid (∀ W, Below wr.heap.size wr W → Below B w W) := fun W h => HB.out.trans (h.mono (Nat.le_trans hB HB.out.size))
        have HCS : Hid (SliceR wr B 3 (.slice (some ⟨g, 0, none⟩) L.length cap) L.length (fun j o => grC (cur j) o)) := hcs
        have HC1 : Hid (∀ t, t < ii → cur t = atG (kp L jj) t) := hc1
        have HC2 : Hid (∀ t, jj ≤ t → t < L.length → cur t = atG L t) := hc2
        have HY1 : Hid (pr (atG L jj) = false → kp L (jj + 1) = kp L jj ++ [atG L jj]) := HYs.out jj hlt
        have HN1 : Hid (pr (atG L jj) = true → kp L (jj + 1) = kp L jj) := HNs.out jj hlt
        clear hcell hcs hc1 hc2 hcj HC KH HYs HNs
        generalize hsm : pr (atG L jj) = sm at *
        clear hsm
        generalize hyy : atG L jj = y at *
        obtain ⟨tp', si', un'⟩ := y
        dsimp only at *
        obtain ⟨W0, hW⟩ : ∃ W0, W0 = wr.alloc (.cells #[.string tp', .string si', .int .i64 un'] 64) := ⟨_, rfl⟩
        have hW0 : Hid (W0 = wr.alloc (.cells #[.string tp', .string si', .int .i64 un'] 64)) := hW
        have HBr : Hid (Below wr.heap.size wr W0) := by show Below _ _ _; rw [hW]; exact (Below.refl _ _).alloc (Nat.le_refl _) _
        have n0 : W0.cell? ⟨wr.heap.size, 0, none⟩ = some (.string tp') := by rw [hW]; simp
        have n1 : W0.cell? ⟨wr.heap.size, 1, none⟩ = some (.string si') := by rw [hW]; simp
        have n2 : W0.cell? ⟨wr.heap.size, 2, none⟩ = some (.int .i64 un') := by rw [hW]; simp
        have hbW : wr.heap.size < W0.heap.size := by rw [hW]; simp
        clear hW HBA
        go_upto_region 8 with fail
        rw [← hW0.out]
        clear hW0
        generalize hbb : wr.heap.size = bx at *
        go_wp2_with fail
        refine (HS0.out _ (HBW.out _ HBr.out)).mono ?_
        rintro e w2 ⟨rfl, hb2⟩
        have A2 : Hid (Below bx wr w2) := HBr.out.trans (hb2.mono (Nat.le_of_lt hbW))
        have x0 : w2.cell? ⟨bx, 0, none⟩ = some (.string tp') := ((bcell hb2).1 _ _ hbW).trans n0
        have x1 : w2.cell? ⟨bx, 1, none⟩ = some (.string si') := ((bcell hb2).1 _ _ hbW).trans n1
        have x2 : w2.cell? ⟨bx, 2, none⟩ = some (.int .i64 un') := ((bcell hb2).1 _ _ hbW).trans n2
        have B2 : Hid (Below B w w2) := HBW.out _ A2.out
        have hg2 : g < w2.heap.size := Nat.lt_of_lt_of_le (by rw [hbb]; exact hgr) A2.out.size
        have S2 : Hid (SliceR w2 B 3 (.slice (some ⟨g, 0, none⟩) L.length cap) L.length (fun j o => grC (cur j) o)) := SliceR.below HCS.out (by rw [hbb]; exact A2.out)
        cases sm with
        | true =>
          have hkp := HN1.out rfl
          have HC3 : Hid (∃ cur : Nat → Gr, SliceR w2 B 3 (.slice (some ⟨g, 0, none⟩) L.length cap) L.length (fun j o => grC (cur j) o) ∧ (∀ t, t < ii → cur t = atG (kp L (jj + 1)) t) ∧ ∀ t, jj + 1 ≤ t → t < L.length → cur t = atG L t) := ⟨cur, S2.out, fun t ht => by rw [hkp]; exact HC1.out t ht, fun t h1 h2 => HC2.out t (by omega) h2⟩
          have hlen2 : (kp L (jj + 1)).length = ii := by rw [hkp]; exact hlen
          clear hb2 hkp n0 n1 n2 x0 x1 x2
          go_wp2
          go_roundw
          case rel => exact ⟨ii, jj + 1, rfl, by go_num, by omega, by omega, hlen2, hg2, HC3, B2⟩
          case measure => simp [intOf]; omega
        | false =>
          have hkp := HY1.out rfl
          have hlen2 : (kp L (jj + 1)).length = ii + 1 := by rw [hkp, List.length_append, hlen]; rfl
          obtain ⟨f0, z0⟩ : w2.cell? ⟨g, ii * 3, none⟩ = some (.string (cur ii).tp) ∧ w2.frozen? ⟨g, ii * 3, none⟩ = false := ⟨(A2.out.cell (p := ⟨g, _, none⟩) hgr).trans (HCell.out ii (by omega) 0 (by omega)).1, (A2.out.frozen (p := ⟨g, _, none⟩) hgr).trans (HCell.out ii (by omega) 0 (by omega)).2⟩
          obtain ⟨f1, z1⟩ : w2.cell? ⟨g, ii * 3 + 1, none⟩ = some (.string (cur ii).si) ∧ w2.frozen? ⟨g, ii * 3 + 1, none⟩ = false := ⟨(A2.out.cell (p := ⟨g, _, none⟩) hgr).trans (HCell.out ii (by omega) 1 (by omega)).1, (A2.out.frozen (p := ⟨g, _, none⟩) hgr).trans (HCell.out ii (by omega) 1 (by omega)).2⟩
          obtain ⟨f2, z2⟩ : w2.cell? ⟨g, ii * 3 + 2, none⟩ = some (.int .i64 (cur ii).un) ∧ w2.frozen? ⟨g, ii * 3 + 2, none⟩ = false := ⟨(A2.out.cell (p := ⟨g, _, none⟩) hgr).trans (HCell.out ii (by omega) 2 (by omega)).1, (A2.out.frozen (p := ⟨g, _, none⟩) hgr).trans (HCell.out ii (by omega) 2 (by omega)).2⟩
          have HC3 : Hid (∃ cur : Nat → Gr, SliceR (((w2.setCell ⟨g, ii * 3, none⟩ (.string tp')).setCell ⟨g, ii * 3 + 1, none⟩ (.string si')).setCell ⟨g, ii * 3 + 2, none⟩ (.int .i64 un')) B 3 (.slice (some ⟨g, 0, none⟩) L.length cap) L.length (fun j o => grC (cur j) o) ∧ (∀ t, t < ii + 1 → cur t = atG (kp L (jj + 1)) t) ∧ ∀ t, jj + 1 ≤ t → t < L.length → cur t = atG L t) := by
            refine ⟨fun t => if t = ii then ⟨tp', si', un'⟩ else cur t, SliceR.congr (SliceR.putGr S2.out ii (by omega) ⟨tp', si', un'⟩) (fun j hj o ho => ?_), fun t ht => ?_, fun t h1 h2 => ?_⟩
            · by_cases e : j = ii
              · simp only [if_pos e]
              · simp only [if_neg e]
            · rw [hkp, atG_snoc, hlen]
              by_cases e : t = ii
              · simp only [if_pos e]; rw [if_neg (by omega)]
              · simp only [if_neg e]; rw [if_pos (by omega)]; exact HC1.out t (by omega)
            · simp only [if_neg (show ¬ t = ii by omega)]; exact HC2.out t (by omega) h2
          have B3 : Hid (Below B w (((w2.setCell ⟨g, ii * 3, none⟩ (.string tp')).setCell ⟨g, ii * 3 + 1, none⟩ (.string si')).setCell ⟨g, ii * 3 + 2, none⟩ (.int .i64 un'))) := ((B2.out.setCell hBg _).setCell hBg _).setCell hBg _
          have hg3 : g < (((w2.setCell ⟨g, ii * 3, none⟩ (.string tp')).setCell ⟨g, ii * 3 + 1, none⟩ (.string si')).setCell ⟨g, ii * 3 + 2, none⟩ (.int .i64 un')).heap.size := by simpa using hg2
          generalize (cur ii).tp = o0 at *
          generalize (cur ii).si = o1 at *
          generalize (cur ii).un = o2 at *
          clear hb2 hkp c0 c1 c2 HCell HCS n0 n1 n2
          go_wp2
          go_roundw
          case rel => exact ⟨ii + 1, jj + 1, by go_num, by go_num, by omega, by omega, hlen2, hg3, HC3, B3⟩
          case measure => simp [intOf]; omega
      · obtain rfl : jj = L.length := by omega
        obtain ⟨cur, hcs, hc1, -⟩ := HC.out
        have hcell : ∀ t, t < L.length → ∀ o, o < 3 → wr.cell? ⟨g, t * 3 + o, none⟩ = some (grC (cur t) o) ∧ wr.frozen? ⟨g, t * 3 + o, none⟩ = false := by
          obtain ⟨p', c', e', hh⟩ := hcs
          injection e' with e1'
          obtain ⟨g', e2', -, -, hc⟩ := hh (by omega)
          rw [e2'] at e1'
          injection e1' with e1'
          injection e1' with e1'
          subst e1'
          exact hc
        have hcl : ∀ ty, (Builtin.clear_ #[23] ty #[.slice (some ⟨g, ii * 3, none⟩) (L.length - ii) (cap - ii)]).run Try.prog wr = .ok (.tuple #[]) (wr.setCells g (ii * 3) (Builtin.zeroCells (Value.agg #[.string ⟨#[]⟩, .string ⟨#[]⟩, .int .i64 0]).cells (L.length - ii)).toList) := fun ty => by
          refine run_clear_cells wr _ 64 ty (.agg #[.string ⟨#[]⟩, .string ⟨#[]⟩, .int .i64 0]) Try.underlying23 (fun W => Try.zeroValue64 W) g (ii * 3) _ _ (by omega) ?_ ?_ ?_
          · intro v hv
            simp only [Builtin.zeroCells, Value.cells, Array.toList_map, List.mem_map] at hv
            obtain ⟨i, -, rfl⟩ := hv
            have hm : i % 3 = 0 ∨ i % 3 = 1 ∨ i % 3 = 2 := by omega
            rcases hm with e | e | e <;> simp [e, Value.oneCell']
          · intro j hj
            rw [zeroCells_len] at hj
            simp only [Value.cells] at hj
            have hj2 : j < (L.length - ii) * 3 := hj
            have := (hcell (ii + j / 3) (by omega) (j % 3) (Nat.mod_lt _ (by decide))).1
            rw [show ii * 3 + j = (ii + j / 3) * 3 + j % 3 by omega, this]; rfl
          · intro j hj
            rw [zeroCells_len] at hj
            simp only [Value.cells] at hj
            have hj2 : j < (L.length - ii) * 3 := hj
            have := (hcell (ii + j / 3) (by omega) (j % 3) (Nat.mod_lt _ (by decide))).2
            rw [show ii * 3 + j = (ii + j / 3) * 3 + j % 3 by omega, this]
        generalize (Builtin.zeroCells (Value.agg #[.string ⟨#[]⟩, .string ⟨#[]⟩, .int .i64 0]).cells (L.length - ii)).toList = zs at *
        have SF : Hid (SliceG (wr.setCells g (ii * 3) zs) B (.slice (some ⟨g, 0, none⟩) ii cap) Z) := by
          show SliceG _ _ _ _
          rw [← HFil.out]
          refine ⟨⟨_, _, by rw [hlen], fun _ => ⟨g, rfl, hBg, ?_, fun j hj o ho => ⟨?_, ?_⟩⟩⟩, _, _, by rw [hlen], by rw [hlen]; omega, fun h => by cases h⟩
          · exact Nat.lt_of_lt_of_le hgr (below_setCellsK (Nat.le_refl g) zs (ii * 3) wr).size
          · rw [World.cell?_setCells_out g zs (ii * 3) wr ⟨g, j * 3 + o, none⟩ (fun _ _ => .inl (by show j * 3 + o < ii * 3; rw [hlen] at hj; omega)), (hcell j (by omega) o ho).1, hc1 j (by omega)]
            rfl
          · rw [World.frozen?_setCells]; exact (hcell j (by rw [hlen] at hj; omega) o ho).2
        have BF : Hid (Below B w (wr.setCells g (ii * 3) zs)) := HB.out.trans (below_setCellsK hBg zs (ii * 3) wr)
        have i0 : (0 : Int) ≤ ii := by omega
        have i1 : (ii : Int) ≤ L.length := by omega
        have i2 : (ii : Int) ≤ cap := by omega
        have i3 : ¬ (ii = cap) := by omega
        clear hcell hcs hc1 HC HB
        go_wp2
        go_ret
        exact ⟨_, rfl, SF.out, BF.out⟩
  · have HZ : Hid (Z = L) := HAll.out hp
    have S1 : Hid (SliceG w1 B (.slice q L.length cap) L) := HSg.out.below hb1
    have B1 : Hid (Below B w w1) := hb1.mono hB
    clear hp hb1
    go_wp2
    go_ret
    exact ⟨_, rfl, by rw [HZ.out]; exact S1.out, B1.out⟩
set_option maxRecDepth 10000 in
set_option maxHeartbeats 4000000 in
theorem indexHas_any (tp si : ByteArray) (q : Option Addr) (cap B : Nat) (L : List Gr) (w : World) (hs : SliceG w B (.slice q L.length cap) L) (hn : L.length ≤ 1048576)
    (KP : ∀ (c : Gr) (W : World), Below w.heap.size w W → Calls Try.prog 44 #[leaveV tp si, grV c] W fun e w' => e = .returned (.bool ((isG tp si) c)) ∧ Below W.heap.size W w') :
    Calls Try.prog 73 #[.slice q L.length cap, .func (.func 44) #[leaveV tp si] #[]] w fun e w' => ((∃ k, k < L.length ∧ e = .returned (.int .i64 (k : Nat)) ∧ (isG tp si) (atG L k) = true ∧ ∀ j, j < k → (isG tp si) (atG L j) = false) ∨ (e = .returned (.int .i64 (-1)) ∧ ∀ j, j < L.length → (isG tp si) (atG L j) = false)) ∧ Below w.heap.size w w' := by
  obtain ⟨⟨q', cap', e1, hg⟩, -⟩ := hs
  injection e1 with e1 _ e3
  subst e1 e3
  have HG : Hid (0 < L.length → ∃ g, q = some ⟨g, 0, none⟩ ∧ g < w.heap.size ∧ ∀ j, j < L.length → ∀ o, o < 3 → w.cell? ⟨g, j * 3 + o, none⟩ = some (grC (atG L j) o)) := fun h0 => by
    obtain ⟨g, e, -, hgw, hc⟩ := hg h0
    exact ⟨g, e, hgw, fun j hj o ho => (hc j hj o ho).1⟩
  have KH : Hid (∀ (c : Gr) (W : World), Below w.heap.size w W → Calls Try.prog 44 #[leaveV tp si, grV c] W fun e w' => e = .returned (.bool ((isG tp si) c)) ∧ Below W.heap.size W w') := KP
  clear hg KP
  generalize hpp : (isG tp si) = pr at *
  clear hpp
  go_enter Try.func73, Try.ntmps73
  go_wp2
  go_loopw [8] (fun i wr => ∃ j : Nat, j ≤ L.length ∧ i = .int .i64 j ∧ Hid (Below w.heap.size w wr) ∧ Hid (∀ i', i' < j → pr (atG L i') = false)) (fun i _ => L.length - (intOf i).toNat)
  case atStart => exact ⟨0, Nat.zero_le _, rfl, Below.refl _ _, fun j hj => absurd hj (by omega)⟩
  case round =>
    obtain ⟨j, hj, rfl, HB, HR⟩ := hrel
    by_cases hlt : j < L.length
    · obtain ⟨g, rfl, hgw, hc⟩ := HG.out (by omega)
      have j0 : (0 : Int) ≤ j := by omega
      have j1 : (j : Int) < L.length := by omega
      have HN1 : Hid (pr (atG L j) = false → ∀ i', i' < j + 1 → pr (atG L i') = false) := fun e i' hi' => by
        by_cases e2 : i' = j
        · subst e2; exact e
        · exact HR.out i' (by omega)
      have HS0 : Hid (∀ W, Below w.heap.size w W → Calls Try.prog 44 #[leaveV tp si, .agg #[.string (atG L j).tp, .string (atG L j).si, .int .i64 (atG L j).un]] W fun e w' => e = .returned (.bool (pr (atG L j))) ∧ Below W.heap.size W w') := fun W h => KH.out (atG L j) W h
      have c0 : wr.cell? ⟨g, j * 3, none⟩ = some (.string (atG L j).tp) := by rw [(bcell HB.out).1 _ _ hgw]; exact hc j hlt 0 (by omega)
      have c1 : wr.cell? ⟨g, j * 3 + 1, none⟩ = some (.string (atG L j).si) := by rw [(bcell HB.out).1 _ _ hgw]; exact hc j hlt 1 (by omega)
      have c2 : wr.cell? ⟨g, j * 3 + 2, none⟩ = some (.int .i64 (atG L j).un) := by rw [(bcell HB.out).1 _ _ hgw]; exact hc j hlt 2 (by omega)
      have HBA : Hid (∀ o, Below w.heap.size w (wr.alloc o)) := fun o => HB.out.alloc HB.out.size _
      clear hc KH
      generalize hsm : pr (atG L j) = sm at *
      have HSM : Hid (pr (atG L j) = sm) := hsm
      clear hsm
      have HKK : Hid (∀ i', i' < j → pr (atG L i') = false) := HR.out
      generalize hyy : atG L j = y at *
      obtain ⟨tp', si', un'⟩ := y
      dsimp only at *
      generalize hlv : leaveV tp si = lv at *
      clear hlv
      go_wp2_with fail
      refine (HS0.out _ (by first | exact HB.out | exact HBA.out _)).mono ?_
      rintro e w2 ⟨rfl, hb2⟩
      have B2 : Hid (Below w.heap.size w w2) := by first | exact HB.out.trans (hb2.mono HB.out.size) | exact (HBA.out _).trans (hb2.mono (HBA.out _).size)
      clear hb2
      cases sm with
      | true =>
        go_wp2
        go_ret
        exact ⟨.inl ⟨j, hlt, rfl, by rw [hyy]; exact HSM.out, HKK.out⟩, B2.out⟩
      | false =>
        have HN2 : Hid (∀ i', i' < j + 1 → pr (atG L i') = false) := HN1.out rfl
        go_wp2
        go_roundw
        case rel => exact ⟨j + 1, by omega, by go_num, B2, HN2⟩
        case measure => simp [intOf]; omega
    · go_wp2
      go_ret
      exact ⟨.inr ⟨rfl, fun i hi => HR.out i (by omega)⟩, HB.out⟩
set_option maxRecDepth 10000 in
set_option maxHeartbeats 8000000 in
theorem deleteHas_any (tp si : ByteArray) (v : Value) (B : Nat) (L : List Gr) (w : World) (hs : SliceG w B v L) (hB : B ≤ w.heap.size) (hn : L.length ≤ 1000)
    (KP : ∀ (c : Gr) (W : World), Below B w W → Calls Try.prog 44 #[leaveV tp si, grV c] W fun e w' => e = .returned (.bool ((isG tp si) c)) ∧ Below W.heap.size W w') :
    Calls Try.prog 41 #[v, .func (.func 44) #[leaveV tp si] #[]] w fun e w' => ∃ v', e = .returned v' ∧ SliceG w' B v' (L.filter (fun g => !((isG tp si) g))) ∧ Below B w w' := by
  have HSg : Hid (SliceG w B v L) := hs
  obtain ⟨⟨q, cap, rfl, hg⟩, q2, cap2, e2, hcap, hqn⟩ := hs
  injection e2 with e3 _ e4
  subst e3 e4
  have KI : Hid (Calls Try.prog 73 #[.slice q L.length cap, .func (.func 44) #[leaveV tp si] #[]] w fun e w' => ((∃ k, k < L.length ∧ e = .returned (.int .i64 (k : Nat)) ∧ (isG tp si) (atG L k) = true ∧ ∀ j, j < k → (isG tp si) (atG L j) = false) ∨ (e = .returned (.int .i64 (-1)) ∧ ∀ j, j < L.length → (isG tp si) (atG L j) = false)) ∧ Below w.heap.size w w') := indexHas_any tp si q cap B L w HSg.out (by omega) (fun c W h => KP c W (h.mono hB))
  have KH : Hid (∀ (c : Gr) (W : World), Below B w W → Calls Try.prog 44 #[leaveV tp si, grV c] W fun e w' => e = .returned (.bool ((isG tp si) c)) ∧ Below W.heap.size W w') := KP
  have HGr : Hid (0 < L.length → ∃ g, q = some ⟨g, 0, none⟩ ∧ B ≤ g ∧ g < w.heap.size) := fun h0 => by
    obtain ⟨g, e, h1, h2, -⟩ := hg h0
    exact ⟨g, e, h1, h2⟩
  have HAll : Hid ((∀ j, j < L.length → (isG tp si) (atG L j) = false) → L.filter (fun g => !((isG tp si) g)) = L) := fun h => by
    refine List.filter_eq_self.2 fun x hx => ?_
    obtain ⟨j, hj, rfl⟩ := List.mem_iff_getElem.1 hx
    have := h j hj
    rw [atG_get hj] at this
    show (!_) = true
    rw [this]; rfl
  have HFil : Hid (keepG (fun g => !((isG tp si) g)) L L.length = L.filter (fun g => !((isG tp si) g))) := keepG_all _ L
  have HYs : Hid (∀ k, k < L.length → (isG tp si) (atG L k) = false → keepG (fun g => !((isG tp si) g)) L (k + 1) = keepG (fun g => !((isG tp si) g)) L k ++ [atG L k]) := fun k hk h => keepG_yes hk (by show (!_) = true; rw [h]; rfl)
  have HNs : Hid (∀ k, k < L.length → (isG tp si) (atG L k) = true → keepG (fun g => !((isG tp si) g)) L (k + 1) = keepG (fun g => !((isG tp si) g)) L k) := fun k hk h => keepG_no hk (by show (!_) = false; rw [h]; rfl)
  have HFirst : Hid (∀ k, k < L.length → (isG tp si) (atG L k) = true → (∀ j, j < k → (isG tp si) (atG L j) = false) → keepG (fun g => !((isG tp si) g)) L (k + 1) = L.take k) := fun k hk h h2 => by
    rw [keepG_no hk (by show (!_) = false; rw [h]; rfl)]
    exact keep_same (by omega) (fun j hj => by show (!_) = true; rw [h2 j hj]; rfl)
  clear hg KP
  generalize hlv : leaveV tp si = lv at *
  clear hlv
  generalize L.filter (fun g => !((isG tp si) g)) = Z at *
  generalize hpk : keepG (fun g => !((isG tp si) g)) = kp at *
  clear hpk
  generalize hpp : (isG tp si) = pr at *
  clear hpp
  go_enter Try.func41, Try.ntmps41
  go_wp2_with fail
  refine KI.out.mono ?_
  rintro e w1 ⟨⟨k, hk, rfl, hp, hbf⟩ | ⟨rfl, hp⟩, hb1⟩
  · obtain ⟨g, rfl, hBg, hgw⟩ := HGr.out (by omega)
    have hkeep : kp L (k + 1) = L.take k := HFirst.out k hk hp hbf
    have S1 : Hid (SliceR w1 B 3 (.slice (some ⟨g, 0, none⟩) L.length cap) L.length (fun j o => grC (atG L j) o)) := (HSg.out.1).below hb1
    have hgw1 : g < w1.heap.size := Nat.lt_of_lt_of_le hgw hb1.size
    have B1 : Hid (Below B w w1) := hb1.mono hB
    have HSt : Hid (∃ cur : Nat → Gr, SliceR w1 B 3 (.slice (some ⟨g, 0, none⟩) L.length cap) L.length (fun j o => grC (cur j) o) ∧ (∀ t, t < k → cur t = atG (kp L (k + 1)) t) ∧ ∀ t, k + 1 ≤ t → t < L.length → cur t = atG L t) := ⟨atG L, S1.out, fun t ht => by rw [hkeep, atG_take (by omega) ht], fun t _ _ => rfl⟩
    have hkl : (kp L (k + 1)).length = k := by rw [hkeep, List.length_take]; omega
    have qk : ((k : Int) == -1) = false := beq_eq_false_iff_ne.2 (by omega)
    clear hb1 hp hbf KI HSg S1 HFirst HAll HGr hkeep
    go_wp2
    go_loopw [5, 6] (fun i j wr => ∃ ii jj : Nat, i = .int .i64 ii ∧ j = .int .i64 jj ∧ ii < jj ∧ jj ≤ L.length ∧ (kp L jj).length = ii ∧ g < wr.heap.size ∧ Hid (∃ cur : Nat → Gr, SliceR wr B 3 (.slice (some ⟨g, 0, none⟩) L.length cap) L.length (fun j o => grC (cur j) o) ∧ (∀ t, t < ii → cur t = atG (kp L jj) t) ∧ ∀ t, jj ≤ t → t < L.length → cur t = atG L t) ∧ Hid (Below B w wr)) (fun _ j _ => L.length - (intOf j).toNat)
    case atStart => exact ⟨k, k + 1, rfl, by first | rfl | go_num, by omega, by omega, hkl, hgw1, HSt, B1⟩
    case round =>
      obtain ⟨ii, jj, rfl, rfl, hij, hjl, hlen, hgr, HC, HB⟩ := hrel
      clear HSt B1 hkl hgw1 qk
      by_cases hlt : jj < L.length
      · obtain ⟨cur, hcs, hc1, hc2⟩ := HC.out
        have j0 : (0 : Int) ≤ jj := by omega
        have j1 : (jj : Int) < L.length := by omega
        have i0 : (0 : Int) ≤ ii := by omega
        have i1 : (ii : Int) < L.length := by omega
        have hcell : ∀ t, t < L.length → ∀ o, o < 3 → wr.cell? ⟨g, t * 3 + o, none⟩ = some (grC (cur t) o) ∧ wr.frozen? ⟨g, t * 3 + o, none⟩ = false := by
          obtain ⟨p', c', e', hh⟩ := hcs
          injection e' with e1'
          obtain ⟨g', e2', -, -, hc⟩ := hh (by omega)
          rw [e2'] at e1'
          injection e1' with e1'
          injection e1' with e1'
          subst e1'
          exact hc
        have hcj := hc2 jj (Nat.le_refl _) hlt
        have HCell : Hid (∀ t, t < L.length → ∀ o, o < 3 → wr.cell? ⟨g, t * 3 + o, none⟩ = some (grC (cur t) o) ∧ wr.frozen? ⟨g, t * 3 + o, none⟩ = false) := hcell
        have c0 : wr.cell? ⟨g, jj * 3, none⟩ = some (.string (atG L jj).tp) := by rw [← hcj]; exact (hcell jj hlt 0 (by omega)).1
        have c1 : wr.cell? ⟨g, jj * 3 + 1, none⟩ = some (.string (atG L jj).si) := by rw [← hcj]; exact (hcell jj hlt 1 (by omega)).1
        have c2 : wr.cell? ⟨g, jj * 3 + 2, none⟩ = some (.int .i64 (atG L jj).un) := by rw [← hcj]; exact (hcell jj hlt 2 (by omega)).1
        have HS0 : Hid (∀ W, Below B w W → Calls Try.prog 44 #[lv, .agg #[.string (atG L jj).tp, .string (atG L jj).si, .int .i64 (atG L jj).un]] W fun e w' => e = .returned (.bool (pr (atG L jj))) ∧ Below W.heap.size W w') := fun W h => KH.out (atG L jj) W h
        have HBA : Hid (∀ o, Below wr.heap.size wr (wr.alloc o)) := fun o => (Below.refl _ _).alloc (Nat.le_refl _) _
        have HBW : Hid (∀ W, Below wr.heap.size wr W → Below B w W) := fun W h => HB.out.trans (h.mono (Nat.le_trans hB HB.out.size))
        have HCS : Hid (SliceR wr B 3 (.slice (some ⟨g, 0, none⟩) L.length cap) L.length (fun j o => grC (cur j) o)) := hcs
        have HC1 : Hid (∀ t, t < ii → cur t = atG (kp L jj) t) := hc1
        have HC2 : Hid (∀ t, jj ≤ t → t < L.length → cur t = atG L t) := hc2
        have HY1 : Hid (pr (atG L jj) = false → kp L (jj + 1) = kp L jj ++ [atG L jj]) := HYs.out jj hlt
        have HN1 : Hid (pr (atG L jj) = true → kp L (jj + 1) = kp L jj) := HNs.out jj hlt
        clear hcell hcs hc1 hc2 hcj HC KH HYs HNs
        generalize hsm : pr (atG L jj) = sm at *
        clear hsm
        generalize hyy : atG L jj = y at *
        obtain ⟨tp', si', un'⟩ := y
        dsimp only at *
        obtain ⟨W0, hW⟩ : ∃ W0, W0 = wr.alloc (.cells #[.string tp', .string si', .int .i64 un'] 64) := ⟨_, rfl⟩
        have hW0 : Hid (W0 = wr.alloc (.cells #[.string tp', .string si', .int .i64 un'] 64)) := hW
        have HBr : Hid (Below wr.heap.size wr W0) := by show Below _ _ _; rw [hW]; exact (Below.refl _ _).alloc (Nat.le_refl _) _
        have n0 : W0.cell? ⟨wr.heap.size, 0, none⟩ = some (.string tp') := by rw [hW]; simp
        have n1 : W0.cell? ⟨wr.heap.size, 1, none⟩ = some (.string si') := by rw [hW]; simp
        have n2 : W0.cell? ⟨wr.heap.size, 2, none⟩ = some (.int .i64 un') := by rw [hW]; simp
        have hbW : wr.heap.size < W0.heap.size := by rw [hW]; simp
        clear hW HBA
        go_upto_region 8 with fail
        rw [← hW0.out]
        clear hW0
        generalize hbb : wr.heap.size = bx at *
        go_wp2_with fail
        refine (HS0.out _ (HBW.out _ HBr.out)).mono ?_
        rintro e w2 ⟨rfl, hb2⟩
        have A2 : Hid (Below bx wr w2) := HBr.out.trans (hb2.mono (Nat.le_of_lt hbW))
        have x0 : w2.cell? ⟨bx, 0, none⟩ = some (.string tp') := ((bcell hb2).1 _ _ hbW).trans n0
        have x1 : w2.cell? ⟨bx, 1, none⟩ = some (.string si') := ((bcell hb2).1 _ _ hbW).trans n1
        have x2 : w2.cell? ⟨bx, 2, none⟩ = some (.int .i64 un') := ((bcell hb2).1 _ _ hbW).trans n2
        have B2 : Hid (Below B w w2) := HBW.out _ A2.out
        have hg2 : g < w2.heap.size := Nat.lt_of_lt_of_le (by rw [hbb]; exact hgr) A2.out.size
        have S2 : Hid (SliceR w2 B 3 (.slice (some ⟨g, 0, none⟩) L.length cap) L.length (fun j o => grC (cur j) o)) := SliceR.below HCS.out (by rw [hbb]; exact A2.out)
        cases sm with
        | true =>
          have hkp := HN1.out rfl
          have HC3 : Hid (∃ cur : Nat → Gr, SliceR w2 B 3 (.slice (some ⟨g, 0, none⟩) L.length cap) L.length (fun j o => grC (cur j) o) ∧ (∀ t, t < ii → cur t = atG (kp L (jj + 1)) t) ∧ ∀ t, jj + 1 ≤ t → t < L.length → cur t = atG L t) := ⟨cur, S2.out, fun t ht => by rw [hkp]; exact HC1.out t ht, fun t h1 h2 => HC2.out t (by omega) h2⟩
          have hlen2 : (kp L (jj + 1)).length = ii := by rw [hkp]; exact hlen
          clear hb2 hkp n0 n1 n2 x0 x1 x2
          go_wp2
          go_roundw
          case rel => exact ⟨ii, jj + 1, rfl, by go_num, by omega, by omega, hlen2, hg2, HC3, B2⟩
          case measure => simp [intOf]; omega
        | false =>
          have hkp := HY1.out rfl
          have hlen2 : (kp L (jj + 1)).length = ii + 1 := by rw [hkp, List.length_append, hlen]; rfl
          obtain ⟨f0, z0⟩ : w2.cell? ⟨g, ii * 3, none⟩ = some (.string (cur ii).tp) ∧ w2.frozen? ⟨g, ii * 3, none⟩ = false := ⟨(A2.out.cell (p := ⟨g, _, none⟩) hgr).trans (HCell.out ii (by omega) 0 (by omega)).1, (A2.out.frozen (p := ⟨g, _, none⟩) hgr).trans (HCell.out ii (by omega) 0 (by omega)).2⟩
          obtain ⟨f1, z1⟩ : w2.cell? ⟨g, ii * 3 + 1, none⟩ = some (.string (cur ii).si) ∧ w2.frozen? ⟨g, ii * 3 + 1, none⟩ = false := ⟨(A2.out.cell (p := ⟨g, _, none⟩) hgr).trans (HCell.out ii (by omega) 1 (by omega)).1, (A2.out.frozen (p := ⟨g, _, none⟩) hgr).trans (HCell.out ii (by omega) 1 (by omega)).2⟩
          obtain ⟨f2, z2⟩ : w2.cell? ⟨g, ii * 3 + 2, none⟩ = some (.int .i64 (cur ii).un) ∧ w2.frozen? ⟨g, ii * 3 + 2, none⟩ = false := ⟨(A2.out.cell (p := ⟨g, _, none⟩) hgr).trans (HCell.out ii (by omega) 2 (by omega)).1, (A2.out.frozen (p := ⟨g, _, none⟩) hgr).trans (HCell.out ii (by omega) 2 (by omega)).2⟩
          have HC3 : Hid (∃ cur : Nat → Gr, SliceR (((w2.setCell ⟨g, ii * 3, none⟩ (.string tp')).setCell ⟨g, ii * 3 + 1, none⟩ (.string si')).setCell ⟨g, ii * 3 + 2, none⟩ (.int .i64 un')) B 3 (.slice (some ⟨g, 0, none⟩) L.length cap) L.length (fun j o => grC (cur j) o) ∧ (∀ t, t < ii + 1 → cur t = atG (kp L (jj + 1)) t) ∧ ∀ t, jj + 1 ≤ t → t < L.length → cur t = atG L t) := by
            refine ⟨fun t => if t = ii then ⟨tp', si', un'⟩ else cur t, SliceR.congr (SliceR.putGr S2.out ii (by omega) ⟨tp', si', un'⟩) (fun j hj o ho => ?_), fun t ht => ?_, fun t h1 h2 => ?_⟩
            · by_cases e : j = ii
              · simp only [if_pos e]
              · simp only [if_neg e]
            · rw [hkp, atG_snoc, hlen]
              by_cases e : t = ii
              · simp only [if_pos e]; rw [if_neg (by omega)]
              · simp only [if_neg e]; rw [if_pos (by omega)]; exact HC1.out t (by omega)
            · simp only [if_neg (show ¬ t = ii by omega)]; exact HC2.out t (by omega) h2
          have B3 : Hid (Below B w (((w2.setCell ⟨g, ii * 3, none⟩ (.string tp')).setCell ⟨g, ii * 3 + 1, none⟩ (.string si')).setCell ⟨g, ii * 3 + 2, none⟩ (.int .i64 un'))) := ((B2.out.setCell hBg _).setCell hBg _).setCell hBg _
          have hg3 : g < (((w2.setCell ⟨g, ii * 3, none⟩ (.string tp')).setCell ⟨g, ii * 3 + 1, none⟩ (.string si')).setCell ⟨g, ii * 3 + 2, none⟩ (.int .i64 un')).heap.size := by simpa using hg2
          generalize (cur ii).tp = o0 at *
          generalize (cur ii).si = o1 at *
          generalize (cur ii).un = o2 at *
          clear hb2 hkp c0 c1 c2 HCell HCS n0 n1 n2
          go_wp2
          go_roundw
          case rel => exact ⟨ii + 1, jj + 1, by go_num, by go_num, by omega, by omega, hlen2, hg3, HC3, B3⟩
          case measure => simp [intOf]; omega
      · obtain rfl : jj = L.length := by omega
        obtain ⟨cur, hcs, hc1, -⟩ := HC.out
        have hcell : ∀ t, t < L.length → ∀ o, o < 3 → wr.cell? ⟨g, t * 3 + o, none⟩ = some (grC (cur t) o) ∧ wr.frozen? ⟨g, t * 3 + o, none⟩ = false := by
          obtain ⟨p', c', e', hh⟩ := hcs
          injection e' with e1'
          obtain ⟨g', e2', -, -, hc⟩ := hh (by omega)
          rw [e2'] at e1'
          injection e1' with e1'
          injection e1' with e1'
          subst e1'
          exact hc
        have hcl : ∀ ty, (Builtin.clear_ #[23] ty #[.slice (some ⟨g, ii * 3, none⟩) (L.length - ii) (cap - ii)]).run Try.prog wr = .ok (.tuple #[]) (wr.setCells g (ii * 3) (Builtin.zeroCells (Value.agg #[.string ⟨#[]⟩, .string ⟨#[]⟩, .int .i64 0]).cells (L.length - ii)).toList) := fun ty => by
          refine run_clear_cells wr _ 64 ty (.agg #[.string ⟨#[]⟩, .string ⟨#[]⟩, .int .i64 0]) Try.underlying23 (fun W => Try.zeroValue64 W) g (ii * 3) _ _ (by omega) ?_ ?_ ?_
          · intro v hv
            simp only [Builtin.zeroCells, Value.cells, Array.toList_map, List.mem_map] at hv
            obtain ⟨i, -, rfl⟩ := hv
            have hm : i % 3 = 0 ∨ i % 3 = 1 ∨ i % 3 = 2 := by omega
            rcases hm with e | e | e <;> simp [e, Value.oneCell']
          · intro j hj
            rw [zeroCells_len] at hj
            simp only [Value.cells] at hj
            have hj2 : j < (L.length - ii) * 3 := hj
            have := (hcell (ii + j / 3) (by omega) (j % 3) (Nat.mod_lt _ (by decide))).1
            rw [show ii * 3 + j = (ii + j / 3) * 3 + j % 3 by omega, this]; rfl
          · intro j hj
            rw [zeroCells_len] at hj
            simp only [Value.cells] at hj
            have hj2 : j < (L.length - ii) * 3 := hj
            have := (hcell (ii + j / 3) (by omega) (j % 3) (Nat.mod_lt _ (by decide))).2
            rw [show ii * 3 + j = (ii + j / 3) * 3 + j % 3 by omega, this]
        generalize (Builtin.zeroCells (Value.agg #[.string ⟨#[]⟩, .string ⟨#[]⟩, .int .i64 0]).cells (L.length - ii)).toList = zs at *
        have SF : Hid (SliceG (wr.setCells g (ii * 3) zs) B (.slice (some ⟨g, 0, none⟩) ii cap) Z) := by
          show SliceG _ _ _ _
          rw [← HFil.out]
          refine ⟨⟨_, _, by rw [hlen], fun _ => ⟨g, rfl, hBg, ?_, fun j hj o ho => ⟨?_, ?_⟩⟩⟩, _, _, by rw [hlen], by rw [hlen]; omega, fun h => by cases h⟩
          · exact Nat.lt_of_lt_of_le hgr (below_setCellsK (Nat.le_refl g) zs (ii * 3) wr).size
          · rw [World.cell?_setCells_out g zs (ii * 3) wr ⟨g, j * 3 + o, none⟩ (fun _ _ => .inl (by show j * 3 + o < ii * 3; rw [hlen] at hj; omega)), (hcell j (by omega) o ho).1, hc1 j (by omega)]
            rfl
          · rw [World.frozen?_setCells]; exact (hcell j (by rw [hlen] at hj; omega) o ho).2
        have BF : Hid (Below B w (wr.setCells g (ii * 3) zs)) := HB.out.trans (below_setCellsK hBg zs (ii * 3) wr)
        have i0 : (0 : Int) ≤ ii := by omega
        have i1 : (ii : Int) ≤ L.length := by omega
        have i2 : (ii : Int) ≤ cap := by omega
        have i3 : ¬ (ii = cap) := by omega
        clear hcell hcs hc1 HC HB
        go_wp2
        go_ret
        exact ⟨_, rfl, SF.out, BF.out⟩
  · have HZ : Hid (Z = L) := HAll.out hp
    have S1 : Hid (SliceG w1 B (.slice q L.length cap) L) := HSg.out.below hb1
    have B1 : Hid (Below B w w1) := hb1.mono hB
    clear hp hb1
    go_wp2
    go_ret
    exact ⟨_, rfl, by rw [HZ.out]; exact S1.out, B1.out⟩
set_option maxRecDepth 10000 in
set_option maxHeartbeats 4000000 in
theorem indexPut_any (b1 b2 : Nat) (p : Gr → Bool) (q : Option Addr) (cap B : Nat) (L : List Gr) (w : World) (hs : SliceG w B (.slice q L.length cap) L) (hn : L.length ≤ 1048576)
    (KP : ∀ (c : Gr) (W : World), Below w.heap.size w W → Calls Try.prog 43 #[grV c, .pointer (some ⟨b1, 0, none⟩), .pointer (some ⟨b2, 0, none⟩)] W fun e w' => e = .returned (.bool (p c)) ∧ Below W.heap.size W w') :
    Calls Try.prog 73 #[.slice q L.length cap, .func (.func 43) #[] #[.pointer (some ⟨b1, 0, none⟩), .pointer (some ⟨b2, 0, none⟩)]] w fun e w' => ((∃ k, k < L.length ∧ e = .returned (.int .i64 (k : Nat)) ∧ p (atG L k) = true ∧ ∀ j, j < k → p (atG L j) = false) ∨ (e = .returned (.int .i64 (-1)) ∧ ∀ j, j < L.length → p (atG L j) = false)) ∧ Below w.heap.size w w' := by
  obtain ⟨⟨q', cap', e1, hg⟩, -⟩ := hs
  injection e1 with e1 _ e3
  subst e1 e3
  have HG : Hid (0 < L.length → ∃ g, q = some ⟨g, 0, none⟩ ∧ g < w.heap.size ∧ ∀ j, j < L.length → ∀ o, o < 3 → w.cell? ⟨g, j * 3 + o, none⟩ = some (grC (atG L j) o)) := fun h0 => by
    obtain ⟨g, e, -, hgw, hc⟩ := hg h0
    exact ⟨g, e, hgw, fun j hj o ho => (hc j hj o ho).1⟩
  have KH : Hid (∀ (c : Gr) (W : World), Below w.heap.size w W → Calls Try.prog 43 #[grV c, .pointer (some ⟨b1, 0, none⟩), .pointer (some ⟨b2, 0, none⟩)] W fun e w' => e = .returned (.bool (p c)) ∧ Below W.heap.size W w') := KP
  clear hg KP
  generalize hpp : p = pr at *
  clear hpp
  go_enter Try.func73, Try.ntmps73
  go_wp2
  go_loopw [8] (fun i wr => ∃ j : Nat, j ≤ L.length ∧ i = .int .i64 j ∧ Hid (Below w.heap.size w wr) ∧ Hid (∀ i', i' < j → pr (atG L i') = false)) (fun i _ => L.length - (intOf i).toNat)
  case atStart => exact ⟨0, Nat.zero_le _, rfl, Below.refl _ _, fun j hj => absurd hj (by omega)⟩
  case round =>
    obtain ⟨j, hj, rfl, HB, HR⟩ := hrel
    by_cases hlt : j < L.length
    · obtain ⟨g, rfl, hgw, hc⟩ := HG.out (by omega)
      have j0 : (0 : Int) ≤ j := by omega
      have j1 : (j : Int) < L.length := by omega
      have HN1 : Hid (pr (atG L j) = false → ∀ i', i' < j + 1 → pr (atG L i') = false) := fun e i' hi' => by
        by_cases e2 : i' = j
        · subst e2; exact e
        · exact HR.out i' (by omega)
      have HS0 : Hid (∀ W, Below w.heap.size w W → Calls Try.prog 43 #[.agg #[.string (atG L j).tp, .string (atG L j).si, .int .i64 (atG L j).un], .pointer (some ⟨b1, 0, none⟩), .pointer (some ⟨b2, 0, none⟩)] W fun e w' => e = .returned (.bool (pr (atG L j))) ∧ Below W.heap.size W w') := fun W h => KH.out (atG L j) W h
      have c0 : wr.cell? ⟨g, j * 3, none⟩ = some (.string (atG L j).tp) := by rw [(bcell HB.out).1 _ _ hgw]; exact hc j hlt 0 (by omega)
      have c1 : wr.cell? ⟨g, j * 3 + 1, none⟩ = some (.string (atG L j).si) := by rw [(bcell HB.out).1 _ _ hgw]; exact hc j hlt 1 (by omega)
      have c2 : wr.cell? ⟨g, j * 3 + 2, none⟩ = some (.int .i64 (atG L j).un) := by rw [(bcell HB.out).1 _ _ hgw]; exact hc j hlt 2 (by omega)
      have HBA : Hid (∀ o, Below w.heap.size w (wr.alloc o)) := fun o => HB.out.alloc HB.out.size _
      clear hc KH
      generalize hsm : pr (atG L j) = sm at *
      have HSM : Hid (pr (atG L j) = sm) := hsm
      clear hsm
      have HKK : Hid (∀ i', i' < j → pr (atG L i') = false) := HR.out
      generalize hyy : atG L j = y at *
      obtain ⟨tp', si', un'⟩ := y
      dsimp only at *
      go_wp2_with fail
      refine (HS0.out _ (by first | exact HB.out | exact HBA.out _)).mono ?_
      rintro e w2 ⟨rfl, hb2⟩
      have B2 : Hid (Below w.heap.size w w2) := by first | exact HB.out.trans (hb2.mono HB.out.size) | exact (HBA.out _).trans (hb2.mono (HBA.out _).size)
      clear hb2
      cases sm with
      | true =>
        go_wp2
        go_ret
        exact ⟨.inl ⟨j, hlt, rfl, by rw [hyy]; exact HSM.out, HKK.out⟩, B2.out⟩
      | false =>
        have HN2 : Hid (∀ i', i' < j + 1 → pr (atG L i') = false) := HN1.out rfl
        go_wp2
        go_roundw
        case rel => exact ⟨j + 1, by omega, by go_num, B2, HN2⟩
        case measure => simp [intOf]; omega
    · go_wp2
      go_ret
      exact ⟨.inr ⟨rfl, fun i hi => HR.out i (by omega)⟩, HB.out⟩
set_option maxRecDepth 10000 in
set_option maxHeartbeats 8000000 in
theorem deletePut_any (b1 b2 : Nat) (p : Gr → Bool) (v : Value) (B : Nat) (L : List Gr) (w : World) (hs : SliceG w B v L) (hB : B ≤ w.heap.size) (hn : L.length ≤ 1000)
    (KP : ∀ (c : Gr) (W : World), Below B w W → Calls Try.prog 43 #[grV c, .pointer (some ⟨b1, 0, none⟩), .pointer (some ⟨b2, 0, none⟩)] W fun e w' => e = .returned (.bool (p c)) ∧ Below W.heap.size W w') :
    Calls Try.prog 41 #[v, .func (.func 43) #[] #[.pointer (some ⟨b1, 0, none⟩), .pointer (some ⟨b2, 0, none⟩)]] w fun e w' => ∃ v', e = .returned v' ∧ (SliceG w' B v' (L.filter (fun g => !(p g))) ∧ (PlacedG v → PlacedG v')) ∧ Below B w w' := by
  have HSg : Hid (SliceG w B v L) := hs
  obtain ⟨⟨q, cap, rfl, hg⟩, q2, cap2, e2, hcap, hqn⟩ := hs
  injection e2 with e3 _ e4
  subst e3 e4
  have KI : Hid (Calls Try.prog 73 #[.slice q L.length cap, .func (.func 43) #[] #[.pointer (some ⟨b1, 0, none⟩), .pointer (some ⟨b2, 0, none⟩)]] w fun e w' => ((∃ k, k < L.length ∧ e = .returned (.int .i64 (k : Nat)) ∧ p (atG L k) = true ∧ ∀ j, j < k → p (atG L j) = false) ∨ (e = .returned (.int .i64 (-1)) ∧ ∀ j, j < L.length → p (atG L j) = false)) ∧ Below w.heap.size w w') := indexPut_any b1 b2 p q cap B L w HSg.out (by omega) (fun c W h => KP c W (h.mono hB))
  have KH : Hid (∀ (c : Gr) (W : World), Below B w W → Calls Try.prog 43 #[grV c, .pointer (some ⟨b1, 0, none⟩), .pointer (some ⟨b2, 0, none⟩)] W fun e w' => e = .returned (.bool (p c)) ∧ Below W.heap.size W w') := KP
  have HGr : Hid (0 < L.length → ∃ g, q = some ⟨g, 0, none⟩ ∧ B ≤ g ∧ g < w.heap.size) := fun h0 => by
    obtain ⟨g, e, h1, h2, -⟩ := hg h0
    exact ⟨g, e, h1, h2⟩
  have HAll : Hid ((∀ j, j < L.length → p (atG L j) = false) → L.filter (fun g => !(p g)) = L) := fun h => by
    refine List.filter_eq_self.2 fun x hx => ?_
    obtain ⟨j, hj, rfl⟩ := List.mem_iff_getElem.1 hx
    have := h j hj
    rw [atG_get hj] at this
    show (!_) = true
    rw [this]; rfl
  have HFil : Hid (keepG (fun g => !(p g)) L L.length = L.filter (fun g => !(p g))) := keepG_all _ L
  have HYs : Hid (∀ k, k < L.length → p (atG L k) = false → keepG (fun g => !(p g)) L (k + 1) = keepG (fun g => !(p g)) L k ++ [atG L k]) := fun k hk h => keepG_yes hk (by show (!_) = true; rw [h]; rfl)
  have HNs : Hid (∀ k, k < L.length → p (atG L k) = true → keepG (fun g => !(p g)) L (k + 1) = keepG (fun g => !(p g)) L k) := fun k hk h => keepG_no hk (by show (!_) = false; rw [h]; rfl)
  have HFirst : Hid (∀ k, k < L.length → p (atG L k) = true → (∀ j, j < k → p (atG L j) = false) → keepG (fun g => !(p g)) L (k + 1) = L.take k) := fun k hk h h2 => by
    rw [keepG_no hk (by show (!_) = false; rw [h]; rfl)]
    exact keep_same (by omega) (fun j hj => by show (!_) = true; rw [h2 j hj]; rfl)
  clear hg KP
  generalize L.filter (fun g => !(p g)) = Z at *
  generalize hpk : keepG (fun g => !(p g)) = kp at *
  clear hpk
  generalize hpp : p = pr at *
  clear hpp
  go_enter Try.func41, Try.ntmps41
  go_wp2_with fail
  refine KI.out.mono ?_
  rintro e w1 ⟨⟨k, hk, rfl, hp, hbf⟩ | ⟨rfl, hp⟩, hb1⟩
  · obtain ⟨g, rfl, hBg, hgw⟩ := HGr.out (by omega)
    have hkeep : kp L (k + 1) = L.take k := HFirst.out k hk hp hbf
    have S1 : Hid (SliceR w1 B 3 (.slice (some ⟨g, 0, none⟩) L.length cap) L.length (fun j o => grC (atG L j) o)) := (HSg.out.1).below hb1
    have hgw1 : g < w1.heap.size := Nat.lt_of_lt_of_le hgw hb1.size
    have B1 : Hid (Below B w w1) := hb1.mono hB
    have HSt : Hid (∃ cur : Nat → Gr, SliceR w1 B 3 (.slice (some ⟨g, 0, none⟩) L.length cap) L.length (fun j o => grC (cur j) o) ∧ (∀ t, t < k → cur t = atG (kp L (k + 1)) t) ∧ ∀ t, k + 1 ≤ t → t < L.length → cur t = atG L t) := ⟨atG L, S1.out, fun t ht => by rw [hkeep, atG_take (by omega) ht], fun t _ _ => rfl⟩
    have hkl : (kp L (k + 1)).length = k := by rw [hkeep, List.length_take]; omega
    have qk : ((k : Int) == -1) = false := beq_eq_false_iff_ne.2 (by omega)
    clear hb1 hp hbf KI HSg S1 HFirst HAll HGr hkeep
    go_wp2
    go_loopw [5, 6] (fun i j wr => ∃ ii jj : Nat, i = .int .i64 ii ∧ j = .int .i64 jj ∧ ii < jj ∧ jj ≤ L.length ∧ (kp L jj).length = ii ∧ g < wr.heap.size ∧ Hid (∃ cur : Nat → Gr, SliceR wr B 3 (.slice (some ⟨g, 0, none⟩) L.length cap) L.length (fun j o => grC (cur j) o) ∧ (∀ t, t < ii → cur t = atG (kp L jj) t) ∧ ∀ t, jj ≤ t → t < L.length → cur t = atG L t) ∧ Hid (Below B w wr)) (fun _ j _ => L.length - (intOf j).toNat)
    case atStart => exact ⟨k, k + 1, rfl, by first | rfl | go_num, by omega, by omega, hkl, hgw1, HSt, B1⟩
    case round =>
      obtain ⟨ii, jj, rfl, rfl, hij, hjl, hlen, hgr, HC, HB⟩ := hrel
      clear HSt B1 hkl hgw1 qk
      by_cases hlt : jj < L.length
      · obtain ⟨cur, hcs, hc1, hc2⟩ := HC.out
        have j0 : (0 : Int) ≤ jj := by omega
        have j1 : (jj : Int) < L.length := by omega
        have i0 : (0 : Int) ≤ ii := by omega
        have i1 : (ii : Int) < L.length := by omega
        have hcell : ∀ t, t < L.length → ∀ o, o < 3 → wr.cell? ⟨g, t * 3 + o, none⟩ = some (grC (cur t) o) ∧ wr.frozen? ⟨g, t * 3 + o, none⟩ = false := by
          obtain ⟨p', c', e', hh⟩ := hcs
          injection e' with e1'
          obtain ⟨g', e2', -, -, hc⟩ := hh (by omega)
          rw [e2'] at e1'
          injection e1' with e1'
          injection e1' with e1'
          subst e1'
          exact hc
        have hcj := hc2 jj (Nat.le_refl _) hlt
        have HCell : Hid (∀ t, t < L.length → ∀ o, o < 3 → wr.cell? ⟨g, t * 3 + o, none⟩ = some (grC (cur t) o) ∧ wr.frozen? ⟨g, t * 3 + o, none⟩ = false) := hcell
        have c0 : wr.cell? ⟨g, jj * 3, none⟩ = some (.string (atG L jj).tp) := by rw [← hcj]; exact (hcell jj hlt 0 (by omega)).1
        have c1 : wr.cell? ⟨g, jj * 3 + 1, none⟩ = some (.string (atG L jj).si) := by rw [← hcj]; exact (hcell jj hlt 1 (by omega)).1
        have c2 : wr.cell? ⟨g, jj * 3 + 2, none⟩ = some (.int .i64 (atG L jj).un) := by rw [← hcj]; exact (hcell jj hlt 2 (by omega)).1
        have HS0 : Hid (∀ W, Below B w W → Calls Try.prog 43 #[.agg #[.string (atG L jj).tp, .string (atG L jj).si, .int .i64 (atG L jj).un], .pointer (some ⟨b1, 0, none⟩), .pointer (some ⟨b2, 0, none⟩)] W fun e w' => e = .returned (.bool (pr (atG L jj))) ∧ Below W.heap.size W w') := fun W h => KH.out (atG L jj) W h
        have HBA : Hid (∀ o, Below wr.heap.size wr (wr.alloc o)) := fun o => (Below.refl _ _).alloc (Nat.le_refl _) _
        have HBW : Hid (∀ W, Below wr.heap.size wr W → Below B w W) := fun W h => HB.out.trans (h.mono (Nat.le_trans hB HB.out.size))
        have HCS : Hid (SliceR wr B 3 (.slice (some ⟨g, 0, none⟩) L.length cap) L.length (fun j o => grC (cur j) o)) := hcs
        have HC1 : Hid (∀ t, t < ii → cur t = atG (kp L jj) t) := hc1
        have HC2 : Hid (∀ t, jj ≤ t → t < L.length → cur t = atG L t) := hc2
        have HY1 : Hid (pr (atG L jj) = false → kp L (jj + 1) = kp L jj ++ [atG L jj]) := HYs.out jj hlt
        have HN1 : Hid (pr (atG L jj) = true → kp L (jj + 1) = kp L jj) := HNs.out jj hlt
        clear hcell hcs hc1 hc2 hcj HC KH HYs HNs
        generalize hsm : pr (atG L jj) = sm at *
        clear hsm
        generalize hyy : atG L jj = y at *
        obtain ⟨tp', si', un'⟩ := y
        dsimp only at *
        obtain ⟨W0, hW⟩ : ∃ W0, W0 = wr.alloc (.cells #[.string tp', .string si', .int .i64 un'] 64) := ⟨_, rfl⟩
        have hW0 : Hid (W0 = wr.alloc (.cells #[.string tp', .string si', .int .i64 un'] 64)) := hW
        have HBr : Hid (Below wr.heap.size wr W0) := by show Below _ _ _; rw [hW]; exact (Below.refl _ _).alloc (Nat.le_refl _) _
        have n0 : W0.cell? ⟨wr.heap.size, 0, none⟩ = some (.string tp') := by rw [hW]; simp
        have n1 : W0.cell? ⟨wr.heap.size, 1, none⟩ = some (.string si') := by rw [hW]; simp
        have n2 : W0.cell? ⟨wr.heap.size, 2, none⟩ = some (.int .i64 un') := by rw [hW]; simp
        have hbW : wr.heap.size < W0.heap.size := by rw [hW]; simp
        clear hW HBA
        go_upto_region 8 with fail
        rw [← hW0.out]
        clear hW0
        generalize hbb : wr.heap.size = bx at *
        go_wp2_with fail
        refine (HS0.out _ (HBW.out _ HBr.out)).mono ?_
        rintro e w2 ⟨rfl, hb2⟩
        have A2 : Hid (Below bx wr w2) := HBr.out.trans (hb2.mono (Nat.le_of_lt hbW))
        have x0 : w2.cell? ⟨bx, 0, none⟩ = some (.string tp') := ((bcell hb2).1 _ _ hbW).trans n0
        have x1 : w2.cell? ⟨bx, 1, none⟩ = some (.string si') := ((bcell hb2).1 _ _ hbW).trans n1
        have x2 : w2.cell? ⟨bx, 2, none⟩ = some (.int .i64 un') := ((bcell hb2).1 _ _ hbW).trans n2
        have B2 : Hid (Below B w w2) := HBW.out _ A2.out
        have hg2 : g < w2.heap.size := Nat.lt_of_lt_of_le (by rw [hbb]; exact hgr) A2.out.size
        have S2 : Hid (SliceR w2 B 3 (.slice (some ⟨g, 0, none⟩) L.length cap) L.length (fun j o => grC (cur j) o)) := SliceR.below HCS.out (by rw [hbb]; exact A2.out)
        cases sm with
        | true =>
          have hkp := HN1.out rfl
          have HC3 : Hid (∃ cur : Nat → Gr, SliceR w2 B 3 (.slice (some ⟨g, 0, none⟩) L.length cap) L.length (fun j o => grC (cur j) o) ∧ (∀ t, t < ii → cur t = atG (kp L (jj + 1)) t) ∧ ∀ t, jj + 1 ≤ t → t < L.length → cur t = atG L t) := ⟨cur, S2.out, fun t ht => by rw [hkp]; exact HC1.out t ht, fun t h1 h2 => HC2.out t (by omega) h2⟩
          have hlen2 : (kp L (jj + 1)).length = ii := by rw [hkp]; exact hlen
          clear hb2 hkp n0 n1 n2 x0 x1 x2
          go_wp2
          go_roundw
          case rel => exact ⟨ii, jj + 1, rfl, by go_num, by omega, by omega, hlen2, hg2, HC3, B2⟩
          case measure => simp [intOf]; omega
        | false =>
          have hkp := HY1.out rfl
          have hlen2 : (kp L (jj + 1)).length = ii + 1 := by rw [hkp, List.length_append, hlen]; rfl
          obtain ⟨f0, z0⟩ : w2.cell? ⟨g, ii * 3, none⟩ = some (.string (cur ii).tp) ∧ w2.frozen? ⟨g, ii * 3, none⟩ = false := ⟨(A2.out.cell (p := ⟨g, _, none⟩) hgr).trans (HCell.out ii (by omega) 0 (by omega)).1, (A2.out.frozen (p := ⟨g, _, none⟩) hgr).trans (HCell.out ii (by omega) 0 (by omega)).2⟩
          obtain ⟨f1, z1⟩ : w2.cell? ⟨g, ii * 3 + 1, none⟩ = some (.string (cur ii).si) ∧ w2.frozen? ⟨g, ii * 3 + 1, none⟩ = false := ⟨(A2.out.cell (p := ⟨g, _, none⟩) hgr).trans (HCell.out ii (by omega) 1 (by omega)).1, (A2.out.frozen (p := ⟨g, _, none⟩) hgr).trans (HCell.out ii (by omega) 1 (by omega)).2⟩
          obtain ⟨f2, z2⟩ : w2.cell? ⟨g, ii * 3 + 2, none⟩ = some (.int .i64 (cur ii).un) ∧ w2.frozen? ⟨g, ii * 3 + 2, none⟩ = false := ⟨(A2.out.cell (p := ⟨g, _, none⟩) hgr).trans (HCell.out ii (by omega) 2 (by omega)).1, (A2.out.frozen (p := ⟨g, _, none⟩) hgr).trans (HCell.out ii (by omega) 2 (by omega)).2⟩
          have HC3 : Hid (∃ cur : Nat → Gr, SliceR (((w2.setCell ⟨g, ii * 3, none⟩ (.string tp')).setCell ⟨g, ii * 3 + 1, none⟩ (.string si')).setCell ⟨g, ii * 3 + 2, none⟩ (.int .i64 un')) B 3 (.slice (some ⟨g, 0, none⟩) L.length cap) L.length (fun j o => grC (cur j) o) ∧ (∀ t, t < ii + 1 → cur t = atG (kp L (jj + 1)) t) ∧ ∀ t, jj + 1 ≤ t → t < L.length → cur t = atG L t) := by
            refine ⟨fun t => if t = ii then ⟨tp', si', un'⟩ else cur t, SliceR.congr (SliceR.putGr S2.out ii (by omega) ⟨tp', si', un'⟩) (fun j hj o ho => ?_), fun t ht => ?_, fun t h1 h2 => ?_⟩
            · by_cases e : j = ii
              · simp only [if_pos e]
              · simp only [if_neg e]
            · rw [hkp, atG_snoc, hlen]
              by_cases e : t = ii
              · simp only [if_pos e]; rw [if_neg (by omega)]
              · simp only [if_neg e]; rw [if_pos (by omega)]; exact HC1.out t (by omega)
            · simp only [if_neg (show ¬ t = ii by omega)]; exact HC2.out t (by omega) h2
          have B3 : Hid (Below B w (((w2.setCell ⟨g, ii * 3, none⟩ (.string tp')).setCell ⟨g, ii * 3 + 1, none⟩ (.string si')).setCell ⟨g, ii * 3 + 2, none⟩ (.int .i64 un'))) := ((B2.out.setCell hBg _).setCell hBg _).setCell hBg _
          have hg3 : g < (((w2.setCell ⟨g, ii * 3, none⟩ (.string tp')).setCell ⟨g, ii * 3 + 1, none⟩ (.string si')).setCell ⟨g, ii * 3 + 2, none⟩ (.int .i64 un')).heap.size := by simpa using hg2
          generalize (cur ii).tp = o0 at *
          generalize (cur ii).si = o1 at *
          generalize (cur ii).un = o2 at *
          clear hb2 hkp c0 c1 c2 HCell HCS n0 n1 n2
          go_wp2
          go_roundw
          case rel => exact ⟨ii + 1, jj + 1, by go_num, by go_num, by omega, by omega, hlen2, hg3, HC3, B3⟩
          case measure => simp [intOf]; omega
      · obtain rfl : jj = L.length := by omega
        obtain ⟨cur, hcs, hc1, -⟩ := HC.out
        have hcell : ∀ t, t < L.length → ∀ o, o < 3 → wr.cell? ⟨g, t * 3 + o, none⟩ = some (grC (cur t) o) ∧ wr.frozen? ⟨g, t * 3 + o, none⟩ = false := by
          obtain ⟨p', c', e', hh⟩ := hcs
          injection e' with e1'
          obtain ⟨g', e2', -, -, hc⟩ := hh (by omega)
          rw [e2'] at e1'
          injection e1' with e1'
          injection e1' with e1'
          subst e1'
          exact hc
        have hcl : ∀ ty, (Builtin.clear_ #[23] ty #[.slice (some ⟨g, ii * 3, none⟩) (L.length - ii) (cap - ii)]).run Try.prog wr = .ok (.tuple #[]) (wr.setCells g (ii * 3) (Builtin.zeroCells (Value.agg #[.string ⟨#[]⟩, .string ⟨#[]⟩, .int .i64 0]).cells (L.length - ii)).toList) := fun ty => by
          refine run_clear_cells wr _ 64 ty (.agg #[.string ⟨#[]⟩, .string ⟨#[]⟩, .int .i64 0]) Try.underlying23 (fun W => Try.zeroValue64 W) g (ii * 3) _ _ (by omega) ?_ ?_ ?_
          · intro v hv
            simp only [Builtin.zeroCells, Value.cells, Array.toList_map, List.mem_map] at hv
            obtain ⟨i, -, rfl⟩ := hv
            have hm : i % 3 = 0 ∨ i % 3 = 1 ∨ i % 3 = 2 := by omega
            rcases hm with e | e | e <;> simp [e, Value.oneCell']
          · intro j hj
            rw [zeroCells_len] at hj
            simp only [Value.cells] at hj
            have hj2 : j < (L.length - ii) * 3 := hj
            have := (hcell (ii + j / 3) (by omega) (j % 3) (Nat.mod_lt _ (by decide))).1
            rw [show ii * 3 + j = (ii + j / 3) * 3 + j % 3 by omega, this]; rfl
          · intro j hj
            rw [zeroCells_len] at hj
            simp only [Value.cells] at hj
            have hj2 : j < (L.length - ii) * 3 := hj
            have := (hcell (ii + j / 3) (by omega) (j % 3) (Nat.mod_lt _ (by decide))).2
            rw [show ii * 3 + j = (ii + j / 3) * 3 + j % 3 by omega, this]
        generalize (Builtin.zeroCells (Value.agg #[.string ⟨#[]⟩, .string ⟨#[]⟩, .int .i64 0]).cells (L.length - ii)).toList = zs at *
        have SF : Hid (SliceG (wr.setCells g (ii * 3) zs) B (.slice (some ⟨g, 0, none⟩) ii cap) Z) := by
          show SliceG _ _ _ _
          rw [← HFil.out]
          refine ⟨⟨_, _, by rw [hlen], fun _ => ⟨g, rfl, hBg, ?_, fun j hj o ho => ⟨?_, ?_⟩⟩⟩, _, _, by rw [hlen], by rw [hlen]; omega, fun h => by cases h⟩
          · exact Nat.lt_of_lt_of_le hgr (below_setCellsK (Nat.le_refl g) zs (ii * 3) wr).size
          · rw [World.cell?_setCells_out g zs (ii * 3) wr ⟨g, j * 3 + o, none⟩ (fun _ _ => .inl (by show j * 3 + o < ii * 3; rw [hlen] at hj; omega)), (hcell j (by omega) o ho).1, hc1 j (by omega)]
            rfl
          · rw [World.frozen?_setCells]; exact (hcell j (by rw [hlen] at hj; omega) o ho).2
        have BF : Hid (Below B w (wr.setCells g (ii * 3) zs)) := HB.out.trans (below_setCellsK hBg zs (ii * 3) wr)
        have i0 : (0 : Int) ≤ ii := by omega
        have i1 : (ii : Int) ≤ L.length := by omega
        have i2 : (ii : Int) ≤ cap := by omega
        have i3 : ¬ (ii = cap) := by omega
        clear hcell hcs hc1 HC HB
        go_wp2
        go_ret
        exact ⟨_, rfl, ⟨SF.out, fun _ => .inr ⟨g, ii, cap, rfl, by omega⟩⟩, BF.out⟩
  · have HZ : Hid (Z = L) := HAll.out hp
    have S1 : Hid (SliceG w1 B (.slice q L.length cap) L) := HSg.out.below hb1
    have B1 : Hid (Below B w w1) := hb1.mono hB
    clear hp hb1
    go_wp2
    go_ret
    exact ⟨_, rfl, ⟨by rw [HZ.out]; exact S1.out, fun h => h⟩, B1.out⟩
set_option maxRecDepth 10000 in
set_option maxHeartbeats 4000000 in
theorem indexLive_any (b1 b2 : Nat) (p : Gr → Bool) (q : Option Addr) (cap B : Nat) (L : List Gr) (w : World) (hs : SliceG w B (.slice q L.length cap) L) (hn : L.length ≤ 1048576)
    (KP : ∀ (c : Gr) (W : World), Below w.heap.size w W → Calls Try.prog 87 #[grV c, .pointer (some ⟨b1, 0, none⟩), .pointer (some ⟨b2, 0, none⟩)] W fun e w' => e = .returned (.bool (p c)) ∧ Below W.heap.size W w') :
    Calls Try.prog 73 #[.slice q L.length cap, .func (.func 87) #[] #[.pointer (some ⟨b1, 0, none⟩), .pointer (some ⟨b2, 0, none⟩)]] w fun e w' => ((∃ k, k < L.length ∧ e = .returned (.int .i64 (k : Nat)) ∧ p (atG L k) = true ∧ ∀ j, j < k → p (atG L j) = false) ∨ (e = .returned (.int .i64 (-1)) ∧ ∀ j, j < L.length → p (atG L j) = false)) ∧ Below w.heap.size w w' := by
  obtain ⟨⟨q', cap', e1, hg⟩, -⟩ := hs
  injection e1 with e1 _ e3
  subst e1 e3
  have HG : Hid (0 < L.length → ∃ g, q = some ⟨g, 0, none⟩ ∧ g < w.heap.size ∧ ∀ j, j < L.length → ∀ o, o < 3 → w.cell? ⟨g, j * 3 + o, none⟩ = some (grC (atG L j) o)) := fun h0 => by
    obtain ⟨g, e, -, hgw, hc⟩ := hg h0
    exact ⟨g, e, hgw, fun j hj o ho => (hc j hj o ho).1⟩
  have KH : Hid (∀ (c : Gr) (W : World), Below w.heap.size w W → Calls Try.prog 87 #[grV c, .pointer (some ⟨b1, 0, none⟩), .pointer (some ⟨b2, 0, none⟩)] W fun e w' => e = .returned (.bool (p c)) ∧ Below W.heap.size W w') := KP
  clear hg KP
  generalize hpp : p = pr at *
  clear hpp
  go_enter Try.func73, Try.ntmps73
  go_wp2
  go_loopw [8] (fun i wr => ∃ j : Nat, j ≤ L.length ∧ i = .int .i64 j ∧ Hid (Below w.heap.size w wr) ∧ Hid (∀ i', i' < j → pr (atG L i') = false)) (fun i _ => L.length - (intOf i).toNat)
  case atStart => exact ⟨0, Nat.zero_le _, rfl, Below.refl _ _, fun j hj => absurd hj (by omega)⟩
  case round =>
    obtain ⟨j, hj, rfl, HB, HR⟩ := hrel
    by_cases hlt : j < L.length
    · obtain ⟨g, rfl, hgw, hc⟩ := HG.out (by omega)
      have j0 : (0 : Int) ≤ j := by omega
      have j1 : (j : Int) < L.length := by omega
      have HN1 : Hid (pr (atG L j) = false → ∀ i', i' < j + 1 → pr (atG L i') = false) := fun e i' hi' => by
        by_cases e2 : i' = j
        · subst e2; exact e
        · exact HR.out i' (by omega)
      have HS0 : Hid (∀ W, Below w.heap.size w W → Calls Try.prog 87 #[.agg #[.string (atG L j).tp, .string (atG L j).si, .int .i64 (atG L j).un], .pointer (some ⟨b1, 0, none⟩), .pointer (some ⟨b2, 0, none⟩)] W fun e w' => e = .returned (.bool (pr (atG L j))) ∧ Below W.heap.size W w') := fun W h => KH.out (atG L j) W h
      have c0 : wr.cell? ⟨g, j * 3, none⟩ = some (.string (atG L j).tp) := by rw [(bcell HB.out).1 _ _ hgw]; exact hc j hlt 0 (by omega)
      have c1 : wr.cell? ⟨g, j * 3 + 1, none⟩ = some (.string (atG L j).si) := by rw [(bcell HB.out).1 _ _ hgw]; exact hc j hlt 1 (by omega)
      have c2 : wr.cell? ⟨g, j * 3 + 2, none⟩ = some (.int .i64 (atG L j).un) := by rw [(bcell HB.out).1 _ _ hgw]; exact hc j hlt 2 (by omega)
      have HBA : Hid (∀ o, Below w.heap.size w (wr.alloc o)) := fun o => HB.out.alloc HB.out.size _
      clear hc KH
      generalize hsm : pr (atG L j) = sm at *
      have HSM : Hid (pr (atG L j) = sm) := hsm
      clear hsm
      have HKK : Hid (∀ i', i' < j → pr (atG L i') = false) := HR.out
      generalize hyy : atG L j = y at *
      obtain ⟨tp', si', un'⟩ := y
      dsimp only at *
      go_wp2_with fail
      refine (HS0.out _ (by first | exact HB.out | exact HBA.out _)).mono ?_
      rintro e w2 ⟨rfl, hb2⟩
      have B2 : Hid (Below w.heap.size w w2) := by first | exact HB.out.trans (hb2.mono HB.out.size) | exact (HBA.out _).trans (hb2.mono (HBA.out _).size)
      clear hb2
      cases sm with
      | true =>
        go_wp2
        go_ret
        exact ⟨.inl ⟨j, hlt, rfl, by rw [hyy]; exact HSM.out, HKK.out⟩, B2.out⟩
      | false =>
        have HN2 : Hid (∀ i', i' < j + 1 → pr (atG L i') = false) := HN1.out rfl
        go_wp2
        go_roundw
        case rel => exact ⟨j + 1, by omega, by go_num, B2, HN2⟩
        case measure => simp [intOf]; omega
    · go_wp2
      go_ret
      exact ⟨.inr ⟨rfl, fun i hi => HR.out i (by omega)⟩, HB.out⟩
set_option maxRecDepth 10000 in
set_option maxHeartbeats 4000000 in
theorem containsLive_any (b1 b2 : Nat) (p : Gr → Bool) (q : Option Addr) (cap B : Nat) (L : List Gr) (w : World) (hs : SliceG w B (.slice q L.length cap) L) (hn : L.length ≤ 1048576)
    (KP : ∀ (c : Gr) (W : World), Below w.heap.size w W → Calls Try.prog 87 #[grV c, .pointer (some ⟨b1, 0, none⟩), .pointer (some ⟨b2, 0, none⟩)] W fun e w' => e = .returned (.bool (p c)) ∧ Below W.heap.size W w') :
    Calls Try.prog 86 #[.slice q L.length cap, .func (.func 87) #[] #[.pointer (some ⟨b1, 0, none⟩), .pointer (some ⟨b2, 0, none⟩)]] w fun e w' => e = .returned (.bool (L.any p)) ∧ Below w.heap.size w w' := by
  have KI : Hid (Calls Try.prog 73 #[.slice q L.length cap, .func (.func 87) #[] #[.pointer (some ⟨b1, 0, none⟩), .pointer (some ⟨b2, 0, none⟩)]] w fun e w' => (∃ r : Int, e = .returned (.int .i64 r) ∧ decide (0 ≤ r) = L.any p) ∧ Below w.heap.size w w') := by
    refine (indexLive_any b1 b2 p q cap B L w hs hn KP).mono ?_
    rintro e w' ⟨⟨k, hk, rfl, hp, -⟩ | ⟨rfl, hp⟩, hb⟩
    · exact ⟨⟨_, rfl, by rw [any_yes hk hp, decide_eq_true_iff]; omega⟩, hb⟩
    · exact ⟨⟨_, rfl, by rw [any_no hp]; decide⟩, hb⟩
  generalize L.any p = R at *
  clear hs KP
  generalize L.length = n at *
  go_enter Try.func86, Try.ntmps86
  go_wp2_with fail
  refine KI.out.mono ?_
  rintro e w2 ⟨⟨r, rfl, hr⟩, hb2⟩
  have HQ : Hid (decide (0 ≤ r) = R) := hr
  clear hr
  go_wp2
  go_ret
  exact ⟨ret_bool HQ.out, hb2⟩
end Go.Proofs.Ytecaeolgheefmaa
