/- 13 of this claim's texts, one behind the other. -/
import Derived.Test.YtnpaekjiafaahaaGreatDoorPart5
import Derived.Deep.RegionHeld3
import Derived.Lib.Join
import Derived.Test.YtnpaekjiafaahaaGreatDoorShelf
import Derived.Test.YtnpaekjiafaahaaGreatDoorPart1
import Derived.Shelf.Strings.OnBuilder
import Derived.Test.YtnpaekjiafaahaaGreatDoorPart3
import Derived.Test.YtnpaekjiafaahaaGreatDoorPart2
import Derived.Test.YtnpaekjiafaahaaGreatDoorPart4
/- The walk of the specification's RulesRight. -/
namespace Go.Proofs.YtnpaekjiafaahaaGreatDoor
open Go.RowKit

/-- the rule at a place is right, and greater than the one ahead of it -/
def okR (f : Nat → ByteArray) : Nat → Bool
  | 0 => ruleB (f 0)
  | m + 1 => ruleB (f (m + 1)) && Op.bytesLess (f m).toList (f (m + 1)).toList
def rulesB (n : Nat) (f : Nat → ByteArray) : Bool := decide (∀ i, i < n → okR f i = true) && decide (n ≤ 20)
theorem rulesB_at {n : Nat} {f : Nat → ByteArray} (k : Nat) (h : k < n) (hk : okR f k = false) : rulesB n f = false := by
  unfold rulesB
  rw [decide_eq_false (fun h' => by rw [h' k h] at hk; cases hk)]; rfl
theorem rulesB_all {n : Nat} {f : Nat → ByteArray} (h : ∀ i, i < n → okR f i = true) : rulesB n f = decide (n ≤ 20) := by unfold rulesB; rw [decide_eq_true h]; rfl
theorem okR_succ {f : Nat → ByteArray} {k : Nat} (h : ∀ i, i < k → okR f i = true) (hk : okR f k = true) : ∀ i, i < k + 1 → okR f i = true := by
  intro i hi
  by_cases e : i = k
  · subst e; exact hk
  · exact h i (by omega)
theorem geq_text (t : TypeId) (a b : ByteArray) : binOp .geq t (.string a) (.string b) = pure (.bool (!(Op.bytesLess a.toList b.toList))) := by simp [binOp, Op.stringOp]

set_option maxRecDepth 10000 in
set_option maxHeartbeats 2000000 in
theorem specRules_any (v : Value) (n B : Nat) (f : Nat → ByteArray) (w : World) (hs : SliceS w B v n f) (hn : n ≤ 1048576) (hf : ∀ i, i < n → (f i).size ≤ 1048576) :
    Calls Tryz.prog 61 #[v] w fun e w' => e = .returned (.bool (rulesB n f)) ∧ Below w.heap.size w w' := by
  obtain ⟨p, cap, rfl, hg⟩ := hs
  have HG : Hid (0 < n → ∃ g, p = some ⟨g, 0, none⟩ ∧ B ≤ g ∧ g < w.heap.size ∧ ∀ j, j < n → w.cell? ⟨g, j, none⟩ = some (.string (f j)) ∧ w.frozen? ⟨g, j, none⟩ = false) := hg
  have HF : Hid (∀ i, i < n → (f i).size ≤ 1048576) := hf
  have HA : Hid ((∀ k, k < n → okR f k = false → rulesB n f = false) ∧ ((∀ i, i < n → okR f i = true) → rulesB n f = decide (n ≤ 20))) := ⟨fun k h hk => rulesB_at k h hk, fun h => rulesB_all h⟩
  clear hg hf
  have hge : ∀ (t : TypeId) (a b : ByteArray), binOp .geq t (.string a) (.string b) = pure (.bool (!(Op.bytesLess a.toList b.toList))) := geq_text
  generalize rulesB n f = R at *
  go_enter Tryz.func61, Tryz.ntmps61
  go_wp2
  go_loopw [3] (fun i wr => ∃ k : Nat, k ≤ n ∧ i = .int .i64 k ∧ Hid (Below w.heap.size w wr) ∧ Hid (∀ j, j < k → okR f j = true)) (fun i _ => n - (intOf i).toNat)
  case atStart => exact ⟨0, Nat.zero_le _, rfl, Below.refl _ _, fun j hj => absurd hj (by omega)⟩
  case round =>
    obtain ⟨k, hk, rfl, HB, HR⟩ := hrel
    by_cases hlt : k < n
    · obtain ⟨g, rfl, -, hgw, hc⟩ := HG.out (by omega)
      have hz : g < wr.heap.size := Nat.lt_of_lt_of_le hgw HB.out.size
      have hck : wr.cell? ⟨g, k, none⟩ = some (.string (f k)) := by rw [(bcell HB.out).1 _ _ hgw]; exact (hc k hlt).1
      have KR0 := fun W => specRule_any (f k) W (HF.out k hlt)
      have k0 : (0 : Int) ≤ k := by omega
      have k1 : (k : Int) < n := by omega
      cases hr : ruleB (f k) with
      | false =>
        have HQ : Hid (R = false) := HA.out.1 k hlt (by cases k with | zero => exact hr | succ m => rw [okR, hr]; rfl)
        rw [hr] at KR0
        have KR : Hid (∀ W, Calls Tryz.prog 100 #[.string (f k)] W fun e w' => e = .returned (.bool false) ∧ Below W.heap.size W w') := KR0
        clear KR0 hr hc
        generalize f k = t at *
        go_wp2_with fail
        refine wp_region_held_drew (S := (fun w' => g < w'.heap.size ∧ w'.cell? ⟨g, k, none⟩ = some (.string t))) (by kernel_rfl) ?_ (fun hH0 => ?_)
        · (try dsimp only)
          go_keep
        refine wpAnyH_take (i := 0) (oi := { dst := some 10, op := Op.move (Operand.tmp 0), type := 31, pos := "l03_site.go:17", after := #[], guard := none }) (v := ?va0) rfl (by kernel_rfl) (by kernel_rfl) (by kernel_rfl) (fun _ _ _ h => h) (Or.inl ⟨by rfl, ?hya0⟩) (by assumption) ?resta0
        case hya0 =>
          intro w hSw
          (try dsimp only at hSw)
          go_simp
          try with_reducible rfl
        try simp only [Act.put, List.setIfInBounds_toArray, List.set_cons_zero, List.set_cons_succ]
        refine wpAnyH_take (i := 1) (oi := { dst := some 11, op := Op.move (Operand.tmp 3), type := 3, pos := "l03_site.go:17", after := #[], guard := none }) (v := ?va1) rfl (by kernel_rfl) (by kernel_rfl) (by kernel_rfl) (fun _ _ _ h => h) (Or.inl ⟨by rfl, ?hya1⟩) (by assumption) ?resta1
        case hya1 =>
          intro w hSw
          (try dsimp only at hSw)
          go_simp
          try with_reducible rfl
        try simp only [Act.put, List.setIfInBounds_toArray, List.set_cons_zero, List.set_cons_succ]
        refine wpAnyH_take (i := 2) (oi := { dst := some 12, op := Op.indexAddr 31 (Operand.tmp 10) (Operand.tmp 11), type := 0, pos := "l03_site.go:17", after := #[{ on := 0, ground := Ground.data }, { on := 1, ground := Ground.data }], guard := none }) (v := ?va2) rfl (by kernel_rfl) (by kernel_rfl) (by kernel_rfl) (fun _ _ _ h => h) (Or.inl ⟨by rfl, ?hya2⟩) (by assumption) ?resta2
        case hya2 =>
          intro w hSw
          (try dsimp only at hSw)
          go_simp
          try with_reducible rfl
        try simp only [Act.put, List.setIfInBounds_toArray, List.set_cons_zero, List.set_cons_succ]
        refine wpAnyH_take (i := 3) (oi := { dst := some 13, op := Op.load 9 (Operand.tmp 12), type := 9, pos := "l03_site.go:17", after := #[{ on := 2, ground := Ground.data }], guard := none }) (v := ?va3) rfl (by kernel_rfl) (by kernel_rfl) (by kernel_rfl) (fun _ _ _ h => h) (Or.inl ⟨by rfl, ?hya3⟩) (by assumption) ?resta3
        case hya3 =>
          intro w hSw
          (try dsimp only at hSw)
          go_simp
          try with_reducible rfl
        try simp only [Act.put, List.setIfInBounds_toArray, List.set_cons_zero, List.set_cons_succ]
        refine wpAnyH_ready (rs := [4]) (by kernel_rfl) (by simp) ?_
        refine AllReadyH.cons (o := { dst := some 14, op := Op.call { callee := Callee.value (Operand.func 100), args := #[Operand.tmp 13], argTypes := #[9] }, type := 4, pos := "l03_site.go:17", after := #[{ on := 3, ground := Ground.data }], guard := none }) rfl (fun K hK => ?_) AllReadyH.nil
        go_simp
        (go_at_call 100; refine (KR.out _).mono ?_; rintro e w2 ⟨rfl, hb2⟩; have z2 : g < w2.heap.size := Nat.lt_of_lt_of_le hz hb2.size; have c2 : w2.cell? ⟨g, k, none⟩ = some (.string t) := ((bcell hb2).1 _ _ hz).trans hck)
        try (go_wp2_with fail)
        refine hK.out _ _ ?_ (fun hH1 => ?_)
        · (try dsimp only)
          go_keep
        clear hK K hH0
        try simp only [Act.put, List.setIfInBounds_toArray, List.set_cons_zero, List.set_cons_succ]
        refine wpAnyH_take (i := 5) (oi := { dst := some 15, op := Op.unOp UnOp.not 4 (Operand.tmp 14), type := 4, pos := "l03_site.go:17", after := #[{ on := 4, ground := Ground.data }], guard := none }) (v := ?va5) rfl (by kernel_rfl) (by kernel_rfl) (by kernel_rfl) (fun _ _ _ h => h) (Or.inl ⟨by rfl, ?hya5⟩) (by assumption) ?resta5
        case hya5 =>
          intro w hSw
          (try dsimp only at hSw)
          go_simp
          try with_reducible rfl
        try simp only [Act.put, List.setIfInBounds_toArray, List.set_cons_zero, List.set_cons_succ]
        refine wpAnyH_take (i := 6) (oi := { dst := some 16, op := Op.move (Operand.tmp 15), type := 4, pos := "l03_site.go:17", after := #[{ on := 5, ground := Ground.data }, { on := 4, ground := Ground.chain }], guard := none }) (v := ?va6) rfl (by kernel_rfl) (by kernel_rfl) (by kernel_rfl) (fun _ _ _ h => h) (Or.inl ⟨by rfl, ?hya6⟩) (by assumption) ?resta6
        case hya6 =>
          intro w hSw
          (try dsimp only at hSw)
          go_simp
          try with_reducible rfl
        try simp only [Act.put, List.setIfInBounds_toArray, List.set_cons_zero, List.set_cons_succ]
        refine wpAnyH_take (i := 7) (oi := { dst := some 17, op := Op.move (Operand.tmp 3), type := 3, pos := "l03_site.go:17", after := #[{ on := 6, ground := Ground.guard }], guard := some (6, false) }) (v := undef) rfl (by kernel_rfl) (by kernel_rfl) (by kernel_rfl) (fun _ _ _ h => h) (Or.inr ⟨by rfl, rfl⟩) (by assumption) ?_
        try simp only [Act.put, List.setIfInBounds_toArray, List.set_cons_zero, List.set_cons_succ]
        refine wpAnyH_take (i := 8) (oi := { dst := some 18, op := Op.binOp BinOp.gtr 3 (Operand.tmp 17) (Operand.const (Value.int IntKind.i64 0)) 3, type := 4, pos := "l03_site.go:17", after := #[{ on := 7, ground := Ground.data }, { on := 6, ground := Ground.guard }], guard := some (6, false) }) (v := undef) rfl (by kernel_rfl) (by kernel_rfl) (by kernel_rfl) (fun _ _ _ h => h) (Or.inr ⟨by rfl, rfl⟩) (by assumption) ?_
        try simp only [Act.put, List.setIfInBounds_toArray, List.set_cons_zero, List.set_cons_succ]
        refine wpAnyH_take (i := 9) (oi := { dst := some 19, op := Op.move (Operand.tmp 18), type := 4, pos := "l03_site.go:17", after := #[{ on := 8, ground := Ground.data }, { on := 6, ground := Ground.chain }, { on := 6, ground := Ground.guard }], guard := some (6, false) }) (v := undef) rfl (by kernel_rfl) (by kernel_rfl) (by kernel_rfl) (fun _ _ _ h => h) (Or.inr ⟨by rfl, rfl⟩) (by assumption) ?_
        try simp only [Act.put, List.setIfInBounds_toArray, List.set_cons_zero, List.set_cons_succ]
        refine wpAnyH_take (i := 10) (oi := { dst := some 20, op := Op.move (Operand.tmp 0), type := 31, pos := "l03_site.go:17", after := #[{ on := 9, ground := Ground.guard }], guard := some (9, true) }) (v := undef) rfl (by kernel_rfl) (by kernel_rfl) (by kernel_rfl) (fun _ _ _ h => h) (Or.inr ⟨by rfl, rfl⟩) (by assumption) ?_
        try simp only [Act.put, List.setIfInBounds_toArray, List.set_cons_zero, List.set_cons_succ]
        refine wpAnyH_take (i := 11) (oi := { dst := some 21, op := Op.move (Operand.tmp 3), type := 3, pos := "l03_site.go:17", after := #[{ on := 9, ground := Ground.guard }], guard := some (9, true) }) (v := undef) rfl (by kernel_rfl) (by kernel_rfl) (by kernel_rfl) (fun _ _ _ h => h) (Or.inr ⟨by rfl, rfl⟩) (by assumption) ?_
        try simp only [Act.put, List.setIfInBounds_toArray, List.set_cons_zero, List.set_cons_succ]
        refine wpAnyH_take (i := 12) (oi := { dst := some 22, op := Op.binOp BinOp.sub 3 (Operand.tmp 21) (Operand.const (Value.int IntKind.i64 1)) 3, type := 3, pos := "l03_site.go:17", after := #[{ on := 11, ground := Ground.data }, { on := 9, ground := Ground.guard }], guard := some (9, true) }) (v := undef) rfl (by kernel_rfl) (by kernel_rfl) (by kernel_rfl) (fun _ _ _ h => h) (Or.inr ⟨by rfl, rfl⟩) (by assumption) ?_
        try simp only [Act.put, List.setIfInBounds_toArray, List.set_cons_zero, List.set_cons_succ]
        refine wpAnyH_take (i := 13) (oi := { dst := some 23, op := Op.indexAddr 31 (Operand.tmp 20) (Operand.tmp 22), type := 0, pos := "l03_site.go:17", after := #[{ on := 10, ground := Ground.data }, { on := 12, ground := Ground.data }, { on := 9, ground := Ground.guard }], guard := some (9, true) }) (v := undef) rfl (by kernel_rfl) (by kernel_rfl) (by kernel_rfl) (fun _ _ _ h => h) (Or.inr ⟨by rfl, rfl⟩) (by assumption) ?_
        try simp only [Act.put, List.setIfInBounds_toArray, List.set_cons_zero, List.set_cons_succ]
        refine wpAnyH_take (i := 14) (oi := { dst := some 24, op := Op.load 9 (Operand.tmp 23), type := 9, pos := "l03_site.go:17", after := #[{ on := 13, ground := Ground.data }, { on := 9, ground := Ground.guard }], guard := some (9, true) }) (v := undef) rfl (by kernel_rfl) (by kernel_rfl) (by kernel_rfl) (fun _ _ _ h => h) (Or.inr ⟨by rfl, rfl⟩) (by assumption) ?_
        try simp only [Act.put, List.setIfInBounds_toArray, List.set_cons_zero, List.set_cons_succ]
        refine wpAnyH_take (i := 15) (oi := { dst := some 25, op := Op.move (Operand.tmp 0), type := 31, pos := "l03_site.go:17", after := #[{ on := 9, ground := Ground.guard }], guard := some (9, true) }) (v := undef) rfl (by kernel_rfl) (by kernel_rfl) (by kernel_rfl) (fun _ _ _ h => h) (Or.inr ⟨by rfl, rfl⟩) (by assumption) ?_
        try simp only [Act.put, List.setIfInBounds_toArray, List.set_cons_zero, List.set_cons_succ]
        refine wpAnyH_take (i := 16) (oi := { dst := some 26, op := Op.move (Operand.tmp 3), type := 3, pos := "l03_site.go:17", after := #[{ on := 9, ground := Ground.guard }], guard := some (9, true) }) (v := undef) rfl (by kernel_rfl) (by kernel_rfl) (by kernel_rfl) (fun _ _ _ h => h) (Or.inr ⟨by rfl, rfl⟩) (by assumption) ?_
        try simp only [Act.put, List.setIfInBounds_toArray, List.set_cons_zero, List.set_cons_succ]
        refine wpAnyH_take (i := 17) (oi := { dst := some 27, op := Op.indexAddr 31 (Operand.tmp 25) (Operand.tmp 26), type := 0, pos := "l03_site.go:17", after := #[{ on := 15, ground := Ground.data }, { on := 16, ground := Ground.data }, { on := 9, ground := Ground.guard }], guard := some (9, true) }) (v := undef) rfl (by kernel_rfl) (by kernel_rfl) (by kernel_rfl) (fun _ _ _ h => h) (Or.inr ⟨by rfl, rfl⟩) (by assumption) ?_
        try simp only [Act.put, List.setIfInBounds_toArray, List.set_cons_zero, List.set_cons_succ]
        refine wpAnyH_take (i := 18) (oi := { dst := some 28, op := Op.load 9 (Operand.tmp 27), type := 9, pos := "l03_site.go:17", after := #[{ on := 17, ground := Ground.data }, { on := 9, ground := Ground.guard }], guard := some (9, true) }) (v := undef) rfl (by kernel_rfl) (by kernel_rfl) (by kernel_rfl) (fun _ _ _ h => h) (Or.inr ⟨by rfl, rfl⟩) (by assumption) ?_
        try simp only [Act.put, List.setIfInBounds_toArray, List.set_cons_zero, List.set_cons_succ]
        refine wpAnyH_take (i := 19) (oi := { dst := some 29, op := Op.binOp BinOp.geq 9 (Operand.tmp 24) (Operand.tmp 28) 9, type := 4, pos := "l03_site.go:17", after := #[{ on := 14, ground := Ground.data }, { on := 18, ground := Ground.data }, { on := 9, ground := Ground.guard }], guard := some (9, true) }) (v := undef) rfl (by kernel_rfl) (by kernel_rfl) (by kernel_rfl) (fun _ _ _ h => h) (Or.inr ⟨by rfl, rfl⟩) (by assumption) ?_
        try simp only [Act.put, List.setIfInBounds_toArray, List.set_cons_zero, List.set_cons_succ]
        refine wpAnyH_take (i := 20) (oi := { dst := some 30, op := Op.pick (Operand.tmp 19) (Operand.tmp 29) (Operand.const (Value.bool false)), type := 4, pos := "l03_site.go:17", after := #[{ on := 9, ground := Ground.data }, { on := 19, ground := Ground.data }, { on := 6, ground := Ground.guard }], guard := some (6, false) }) (v := undef) rfl (by kernel_rfl) (by kernel_rfl) (by kernel_rfl) (fun _ _ _ h => h) (Or.inr ⟨by rfl, rfl⟩) (by assumption) ?_
        try simp only [Act.put, List.setIfInBounds_toArray, List.set_cons_zero, List.set_cons_succ]
        refine wpAnyH_take (i := 21) (oi := { dst := some 31, op := Op.pick (Operand.tmp 16) (Operand.const (Value.bool true)) (Operand.tmp 30), type := 4, pos := "l03_site.go:17", after := #[{ on := 6, ground := Ground.data }, { on := 20, ground := Ground.data }], guard := none }) (v := ?va21) rfl (by kernel_rfl) (by kernel_rfl) (by kernel_rfl) (fun _ _ _ h => h) (Or.inl ⟨by rfl, ?hya21⟩) (by assumption) ?resta21
        case hya21 =>
          intro w hSw
          (try dsimp only at hSw)
          go_simp
          try with_reducible rfl
        try simp only [Act.put, List.setIfInBounds_toArray, List.set_cons_zero, List.set_cons_succ]
        refine wpAnyH_done (by kernel_rfl) ?_ _
        go_wp2
        go_ret
        exact ⟨ret_bool HQ.out.symm, (HB.out.trans (Below.drew (Below.refl _ _))).trans (hb2.mono HB.out.size)⟩
      | true =>
        rw [hr] at KR0
        have KR : Hid (∀ W, Calls Tryz.prog 100 #[.string (f k)] W fun e w' => e = .returned (.bool true) ∧ Below W.heap.size W w') := KR0
        clear KR0
        cases k with
        | zero =>
          have HK : Hid (okR f 0 = true) := hr
          clear hr hc
          generalize f 0 = t at *
          have q0 : decide ((0 : Int) < ((0 : Nat) : Int)) = false := by decide
          go_wp2_with fail
          refine wp_region_held_drew (S := (fun w' => g < w'.heap.size ∧ w'.cell? ⟨g, 0, none⟩ = some (.string t))) (by kernel_rfl) ?_ (fun hH0 => ?_)
          · (try dsimp only)
            go_keep
          refine wpAnyH_take (i := 0) (oi := { dst := some 10, op := Op.move (Operand.tmp 0), type := 31, pos := "l03_site.go:17", after := #[], guard := none }) (v := ?vb0) rfl (by kernel_rfl) (by kernel_rfl) (by kernel_rfl) (fun _ _ _ h => h) (Or.inl ⟨by rfl, ?hyb0⟩) (by assumption) ?restb0
          case hyb0 =>
            intro w hSw
            (try dsimp only at hSw)
            go_simp
            try with_reducible rfl
          try simp only [Act.put, List.setIfInBounds_toArray, List.set_cons_zero, List.set_cons_succ]
          refine wpAnyH_take (i := 1) (oi := { dst := some 11, op := Op.move (Operand.tmp 3), type := 3, pos := "l03_site.go:17", after := #[], guard := none }) (v := ?vb1) rfl (by kernel_rfl) (by kernel_rfl) (by kernel_rfl) (fun _ _ _ h => h) (Or.inl ⟨by rfl, ?hyb1⟩) (by assumption) ?restb1
          case hyb1 =>
            intro w hSw
            (try dsimp only at hSw)
            go_simp
            try with_reducible rfl
          try simp only [Act.put, List.setIfInBounds_toArray, List.set_cons_zero, List.set_cons_succ]
          refine wpAnyH_take (i := 2) (oi := { dst := some 12, op := Op.indexAddr 31 (Operand.tmp 10) (Operand.tmp 11), type := 0, pos := "l03_site.go:17", after := #[{ on := 0, ground := Ground.data }, { on := 1, ground := Ground.data }], guard := none }) (v := ?vb2) rfl (by kernel_rfl) (by kernel_rfl) (by kernel_rfl) (fun _ _ _ h => h) (Or.inl ⟨by rfl, ?hyb2⟩) (by assumption) ?restb2
          case hyb2 =>
            intro w hSw
            (try dsimp only at hSw)
            go_simp
            try with_reducible rfl
          try simp only [Act.put, List.setIfInBounds_toArray, List.set_cons_zero, List.set_cons_succ]
          refine wpAnyH_take (i := 3) (oi := { dst := some 13, op := Op.load 9 (Operand.tmp 12), type := 9, pos := "l03_site.go:17", after := #[{ on := 2, ground := Ground.data }], guard := none }) (v := ?vb3) rfl (by kernel_rfl) (by kernel_rfl) (by kernel_rfl) (fun _ _ _ h => h) (Or.inl ⟨by rfl, ?hyb3⟩) (by assumption) ?restb3
          case hyb3 =>
            intro w hSw
            (try dsimp only at hSw)
            go_simp
            try with_reducible rfl
          try simp only [Act.put, List.setIfInBounds_toArray, List.set_cons_zero, List.set_cons_succ]
          refine wpAnyH_ready (rs := [4]) (by kernel_rfl) (by simp) ?_
          refine AllReadyH.cons (o := { dst := some 14, op := Op.call { callee := Callee.value (Operand.func 100), args := #[Operand.tmp 13], argTypes := #[9] }, type := 4, pos := "l03_site.go:17", after := #[{ on := 3, ground := Ground.data }], guard := none }) rfl (fun K hK => ?_) AllReadyH.nil
          go_simp
          (go_at_call 100; refine (KR.out _).mono ?_; rintro e w2 ⟨rfl, hb2⟩; have z2 : g < w2.heap.size := Nat.lt_of_lt_of_le hz hb2.size; have c2 : w2.cell? ⟨g, 0, none⟩ = some (.string t) := ((bcell hb2).1 _ _ hz).trans hck)
          try (go_wp2_with fail)
          refine hK.out _ _ ?_ (fun hH1 => ?_)
          · (try dsimp only)
            go_keep
          clear hK K hH0
          try simp only [Act.put, List.setIfInBounds_toArray, List.set_cons_zero, List.set_cons_succ]
          refine wpAnyH_take (i := 5) (oi := { dst := some 15, op := Op.unOp UnOp.not 4 (Operand.tmp 14), type := 4, pos := "l03_site.go:17", after := #[{ on := 4, ground := Ground.data }], guard := none }) (v := ?vb5) rfl (by kernel_rfl) (by kernel_rfl) (by kernel_rfl) (fun _ _ _ h => h) (Or.inl ⟨by rfl, ?hyb5⟩) (by assumption) ?restb5
          case hyb5 =>
            intro w hSw
            (try dsimp only at hSw)
            go_simp
            try with_reducible rfl
          try simp only [Act.put, List.setIfInBounds_toArray, List.set_cons_zero, List.set_cons_succ]
          refine wpAnyH_take (i := 6) (oi := { dst := some 16, op := Op.move (Operand.tmp 15), type := 4, pos := "l03_site.go:17", after := #[{ on := 5, ground := Ground.data }, { on := 4, ground := Ground.chain }], guard := none }) (v := ?vb6) rfl (by kernel_rfl) (by kernel_rfl) (by kernel_rfl) (fun _ _ _ h => h) (Or.inl ⟨by rfl, ?hyb6⟩) (by assumption) ?restb6
          case hyb6 =>
            intro w hSw
            (try dsimp only at hSw)
            go_simp
            try with_reducible rfl
          try simp only [Act.put, List.setIfInBounds_toArray, List.set_cons_zero, List.set_cons_succ]
          refine wpAnyH_take (i := 7) (oi := { dst := some 17, op := Op.move (Operand.tmp 3), type := 3, pos := "l03_site.go:17", after := #[{ on := 6, ground := Ground.guard }], guard := some (6, false) }) (v := ?vb7) rfl (by kernel_rfl) (by kernel_rfl) (by kernel_rfl) (fun _ _ _ h => h) (Or.inl ⟨by rfl, ?hyb7⟩) (by assumption) ?restb7
          case hyb7 =>
            intro w hSw
            (try dsimp only at hSw)
            go_simp
            try with_reducible rfl
          try simp only [Act.put, List.setIfInBounds_toArray, List.set_cons_zero, List.set_cons_succ]
          refine wpAnyH_take (i := 8) (oi := { dst := some 18, op := Op.binOp BinOp.gtr 3 (Operand.tmp 17) (Operand.const (Value.int IntKind.i64 0)) 3, type := 4, pos := "l03_site.go:17", after := #[{ on := 7, ground := Ground.data }, { on := 6, ground := Ground.guard }], guard := some (6, false) }) (v := ?vb8) rfl (by kernel_rfl) (by kernel_rfl) (by kernel_rfl) (fun _ _ _ h => h) (Or.inl ⟨by rfl, ?hyb8⟩) (by assumption) ?restb8
          case hyb8 =>
            intro w hSw
            (try dsimp only at hSw)
            go_simp
            try with_reducible rfl
          try simp only [Act.put, List.setIfInBounds_toArray, List.set_cons_zero, List.set_cons_succ]
          refine wpAnyH_take (i := 9) (oi := { dst := some 19, op := Op.move (Operand.tmp 18), type := 4, pos := "l03_site.go:17", after := #[{ on := 8, ground := Ground.data }, { on := 6, ground := Ground.chain }, { on := 6, ground := Ground.guard }], guard := some (6, false) }) (v := ?vb9) rfl (by kernel_rfl) (by kernel_rfl) (by kernel_rfl) (fun _ _ _ h => h) (Or.inl ⟨by rfl, ?hyb9⟩) (by assumption) ?restb9
          case hyb9 =>
            intro w hSw
            (try dsimp only at hSw)
            go_simp
            try with_reducible rfl
          try simp only [Act.put, List.setIfInBounds_toArray, List.set_cons_zero, List.set_cons_succ]
          refine wpAnyH_take (i := 10) (oi := { dst := some 20, op := Op.move (Operand.tmp 0), type := 31, pos := "l03_site.go:17", after := #[{ on := 9, ground := Ground.guard }], guard := some (9, true) }) (v := undef) rfl (by kernel_rfl) (by kernel_rfl) (by kernel_rfl) (fun _ _ _ h => h) (Or.inr ⟨by rfl, rfl⟩) (by assumption) ?_
          try simp only [Act.put, List.setIfInBounds_toArray, List.set_cons_zero, List.set_cons_succ]
          refine wpAnyH_take (i := 11) (oi := { dst := some 21, op := Op.move (Operand.tmp 3), type := 3, pos := "l03_site.go:17", after := #[{ on := 9, ground := Ground.guard }], guard := some (9, true) }) (v := undef) rfl (by kernel_rfl) (by kernel_rfl) (by kernel_rfl) (fun _ _ _ h => h) (Or.inr ⟨by rfl, rfl⟩) (by assumption) ?_
          try simp only [Act.put, List.setIfInBounds_toArray, List.set_cons_zero, List.set_cons_succ]
          refine wpAnyH_take (i := 12) (oi := { dst := some 22, op := Op.binOp BinOp.sub 3 (Operand.tmp 21) (Operand.const (Value.int IntKind.i64 1)) 3, type := 3, pos := "l03_site.go:17", after := #[{ on := 11, ground := Ground.data }, { on := 9, ground := Ground.guard }], guard := some (9, true) }) (v := undef) rfl (by kernel_rfl) (by kernel_rfl) (by kernel_rfl) (fun _ _ _ h => h) (Or.inr ⟨by rfl, rfl⟩) (by assumption) ?_
          try simp only [Act.put, List.setIfInBounds_toArray, List.set_cons_zero, List.set_cons_succ]
          refine wpAnyH_take (i := 13) (oi := { dst := some 23, op := Op.indexAddr 31 (Operand.tmp 20) (Operand.tmp 22), type := 0, pos := "l03_site.go:17", after := #[{ on := 10, ground := Ground.data }, { on := 12, ground := Ground.data }, { on := 9, ground := Ground.guard }], guard := some (9, true) }) (v := undef) rfl (by kernel_rfl) (by kernel_rfl) (by kernel_rfl) (fun _ _ _ h => h) (Or.inr ⟨by rfl, rfl⟩) (by assumption) ?_
          try simp only [Act.put, List.setIfInBounds_toArray, List.set_cons_zero, List.set_cons_succ]
          refine wpAnyH_take (i := 14) (oi := { dst := some 24, op := Op.load 9 (Operand.tmp 23), type := 9, pos := "l03_site.go:17", after := #[{ on := 13, ground := Ground.data }, { on := 9, ground := Ground.guard }], guard := some (9, true) }) (v := undef) rfl (by kernel_rfl) (by kernel_rfl) (by kernel_rfl) (fun _ _ _ h => h) (Or.inr ⟨by rfl, rfl⟩) (by assumption) ?_
          try simp only [Act.put, List.setIfInBounds_toArray, List.set_cons_zero, List.set_cons_succ]
          refine wpAnyH_take (i := 15) (oi := { dst := some 25, op := Op.move (Operand.tmp 0), type := 31, pos := "l03_site.go:17", after := #[{ on := 9, ground := Ground.guard }], guard := some (9, true) }) (v := undef) rfl (by kernel_rfl) (by kernel_rfl) (by kernel_rfl) (fun _ _ _ h => h) (Or.inr ⟨by rfl, rfl⟩) (by assumption) ?_
          try simp only [Act.put, List.setIfInBounds_toArray, List.set_cons_zero, List.set_cons_succ]
          refine wpAnyH_take (i := 16) (oi := { dst := some 26, op := Op.move (Operand.tmp 3), type := 3, pos := "l03_site.go:17", after := #[{ on := 9, ground := Ground.guard }], guard := some (9, true) }) (v := undef) rfl (by kernel_rfl) (by kernel_rfl) (by kernel_rfl) (fun _ _ _ h => h) (Or.inr ⟨by rfl, rfl⟩) (by assumption) ?_
          try simp only [Act.put, List.setIfInBounds_toArray, List.set_cons_zero, List.set_cons_succ]
          refine wpAnyH_take (i := 17) (oi := { dst := some 27, op := Op.indexAddr 31 (Operand.tmp 25) (Operand.tmp 26), type := 0, pos := "l03_site.go:17", after := #[{ on := 15, ground := Ground.data }, { on := 16, ground := Ground.data }, { on := 9, ground := Ground.guard }], guard := some (9, true) }) (v := undef) rfl (by kernel_rfl) (by kernel_rfl) (by kernel_rfl) (fun _ _ _ h => h) (Or.inr ⟨by rfl, rfl⟩) (by assumption) ?_
          try simp only [Act.put, List.setIfInBounds_toArray, List.set_cons_zero, List.set_cons_succ]
          refine wpAnyH_take (i := 18) (oi := { dst := some 28, op := Op.load 9 (Operand.tmp 27), type := 9, pos := "l03_site.go:17", after := #[{ on := 17, ground := Ground.data }, { on := 9, ground := Ground.guard }], guard := some (9, true) }) (v := undef) rfl (by kernel_rfl) (by kernel_rfl) (by kernel_rfl) (fun _ _ _ h => h) (Or.inr ⟨by rfl, rfl⟩) (by assumption) ?_
          try simp only [Act.put, List.setIfInBounds_toArray, List.set_cons_zero, List.set_cons_succ]
          refine wpAnyH_take (i := 19) (oi := { dst := some 29, op := Op.binOp BinOp.geq 9 (Operand.tmp 24) (Operand.tmp 28) 9, type := 4, pos := "l03_site.go:17", after := #[{ on := 14, ground := Ground.data }, { on := 18, ground := Ground.data }, { on := 9, ground := Ground.guard }], guard := some (9, true) }) (v := undef) rfl (by kernel_rfl) (by kernel_rfl) (by kernel_rfl) (fun _ _ _ h => h) (Or.inr ⟨by rfl, rfl⟩) (by assumption) ?_
          try simp only [Act.put, List.setIfInBounds_toArray, List.set_cons_zero, List.set_cons_succ]
          refine wpAnyH_take (i := 20) (oi := { dst := some 30, op := Op.pick (Operand.tmp 19) (Operand.tmp 29) (Operand.const (Value.bool false)), type := 4, pos := "l03_site.go:17", after := #[{ on := 9, ground := Ground.data }, { on := 19, ground := Ground.data }, { on := 6, ground := Ground.guard }], guard := some (6, false) }) (v := ?vb20) rfl (by kernel_rfl) (by kernel_rfl) (by kernel_rfl) (fun _ _ _ h => h) (Or.inl ⟨by rfl, ?hyb20⟩) (by assumption) ?restb20
          case hyb20 =>
            intro w hSw
            (try dsimp only at hSw)
            go_simp
            try with_reducible rfl
          try simp only [Act.put, List.setIfInBounds_toArray, List.set_cons_zero, List.set_cons_succ]
          refine wpAnyH_take (i := 21) (oi := { dst := some 31, op := Op.pick (Operand.tmp 16) (Operand.const (Value.bool true)) (Operand.tmp 30), type := 4, pos := "l03_site.go:17", after := #[{ on := 6, ground := Ground.data }, { on := 20, ground := Ground.data }], guard := none }) (v := ?vb21) rfl (by kernel_rfl) (by kernel_rfl) (by kernel_rfl) (fun _ _ _ h => h) (Or.inl ⟨by rfl, ?hyb21⟩) (by assumption) ?restb21
          case hyb21 =>
            intro w hSw
            (try dsimp only at hSw)
            go_simp
            try with_reducible rfl
          try simp only [Act.put, List.setIfInBounds_toArray, List.set_cons_zero, List.set_cons_succ]
          refine wpAnyH_done (by kernel_rfl) ?_ _
          go_wp2
          go_roundw
          case rel => exact ⟨1, by omega, by go_num, (HB.out.trans (Below.drew (Below.refl _ _))).trans (hb2.mono HB.out.size), okR_succ (k := 0) (fun i hi => absurd hi (by omega)) HK.out⟩
          case measure => simp [intOf]; omega
        | succ m =>
          have hcm : wr.cell? ⟨g, m, none⟩ = some (.string (f m)) := by rw [(bcell HB.out).1 _ _ hgw]; exact (hc m (by omega)).1
          have HE : Hid (okR f (m + 1) = Op.bytesLess (f m).toList (f (m + 1)).toList) := by show _ = _; rw [okR, hr]; rfl
          clear hr hc
          have q0 : decide ((0 : Int) < ((m : Int) + 1)) = true := by rw [decide_eq_true_iff]; omega
          have hw1 : IntKind.i64.wrap ((m : Int) + 1 - 1) = m := by
            rw [IntKind.wrap_i64]; omega
          have hw2 : IntKind.i64.wrap (m : Int) = m := by rw [IntKind.wrap_i64]; omega
          have p0 : (0 : Int) ≤ (m : Int) + 1 := by omega
          have p1 : (m : Int) + 1 < n := by omega
          have m0 : (0 : Int) ≤ m := by omega
          have m1 : (m : Int) < n := by omega
          cases hless : Op.bytesLess (f m).toList (f (m + 1)).toList with
          | true =>
            have HK : Hid (okR f (m + 1) = true) := by show _ = _; rw [HE.out, hless]
            clear HE
            generalize f (m + 1) = t at *
            generalize f m = s at *
            go_wp2_with fail
            refine wp_region_held_drew (S := (fun w' => g < w'.heap.size ∧ w'.cell? ⟨g, m + 1, none⟩ = some (.string t) ∧ w'.cell? ⟨g, m, none⟩ = some (.string s))) (by kernel_rfl) ?_ (fun hH0 => ?_)
            · (try dsimp only)
              go_keep
            refine wpAnyH_take (i := 0) (oi := { dst := some 10, op := Op.move (Operand.tmp 0), type := 31, pos := "l03_site.go:17", after := #[], guard := none }) (v := ?vc0) rfl (by kernel_rfl) (by kernel_rfl) (by kernel_rfl) (fun _ _ _ h => h) (Or.inl ⟨by rfl, ?hyc0⟩) (by assumption) ?restc0
            case hyc0 =>
              intro w hSw
              (try dsimp only at hSw)
              go_simp
              try with_reducible rfl
            try simp only [Act.put, List.setIfInBounds_toArray, List.set_cons_zero, List.set_cons_succ]
            refine wpAnyH_take (i := 1) (oi := { dst := some 11, op := Op.move (Operand.tmp 3), type := 3, pos := "l03_site.go:17", after := #[], guard := none }) (v := ?vc1) rfl (by kernel_rfl) (by kernel_rfl) (by kernel_rfl) (fun _ _ _ h => h) (Or.inl ⟨by rfl, ?hyc1⟩) (by assumption) ?restc1
            case hyc1 =>
              intro w hSw
              (try dsimp only at hSw)
              go_simp
              try with_reducible rfl
            try simp only [Act.put, List.setIfInBounds_toArray, List.set_cons_zero, List.set_cons_succ]
            refine wpAnyH_take (i := 2) (oi := { dst := some 12, op := Op.indexAddr 31 (Operand.tmp 10) (Operand.tmp 11), type := 0, pos := "l03_site.go:17", after := #[{ on := 0, ground := Ground.data }, { on := 1, ground := Ground.data }], guard := none }) (v := ?vc2) rfl (by kernel_rfl) (by kernel_rfl) (by kernel_rfl) (fun _ _ _ h => h) (Or.inl ⟨by rfl, ?hyc2⟩) (by assumption) ?restc2
            case hyc2 =>
              intro w hSw
              (try dsimp only at hSw)
              go_simp
              try with_reducible rfl
            try simp only [Act.put, List.setIfInBounds_toArray, List.set_cons_zero, List.set_cons_succ]
            refine wpAnyH_take (i := 3) (oi := { dst := some 13, op := Op.load 9 (Operand.tmp 12), type := 9, pos := "l03_site.go:17", after := #[{ on := 2, ground := Ground.data }], guard := none }) (v := ?vc3) rfl (by kernel_rfl) (by kernel_rfl) (by kernel_rfl) (fun _ _ _ h => h) (Or.inl ⟨by rfl, ?hyc3⟩) (by assumption) ?restc3
            case hyc3 =>
              intro w hSw
              (try dsimp only at hSw)
              go_simp
              try with_reducible rfl
            try simp only [Act.put, List.setIfInBounds_toArray, List.set_cons_zero, List.set_cons_succ]
            refine wpAnyH_ready (rs := [4]) (by kernel_rfl) (by simp) ?_
            refine AllReadyH.cons (o := { dst := some 14, op := Op.call { callee := Callee.value (Operand.func 100), args := #[Operand.tmp 13], argTypes := #[9] }, type := 4, pos := "l03_site.go:17", after := #[{ on := 3, ground := Ground.data }], guard := none }) rfl (fun K hK => ?_) AllReadyH.nil
            go_simp
            (go_at_call 100; refine (KR.out _).mono ?_; rintro e w2 ⟨rfl, hb2⟩; have z2 : g < w2.heap.size := Nat.lt_of_lt_of_le hz hb2.size; have c2 : w2.cell? ⟨g, m + 1, none⟩ = some (.string t) := ((bcell hb2).1 _ _ hz).trans hck; have d2 : w2.cell? ⟨g, m, none⟩ = some (.string s) := ((bcell hb2).1 _ _ hz).trans hcm)
            try (go_wp2_with fail)
            refine hK.out _ _ ?_ (fun hH1 => ?_)
            · (try dsimp only)
              go_keep
            clear hK K hH0
            try simp only [Act.put, List.setIfInBounds_toArray, List.set_cons_zero, List.set_cons_succ]
            refine wpAnyH_take (i := 5) (oi := { dst := some 15, op := Op.unOp UnOp.not 4 (Operand.tmp 14), type := 4, pos := "l03_site.go:17", after := #[{ on := 4, ground := Ground.data }], guard := none }) (v := ?vc5) rfl (by kernel_rfl) (by kernel_rfl) (by kernel_rfl) (fun _ _ _ h => h) (Or.inl ⟨by rfl, ?hyc5⟩) (by assumption) ?restc5
            case hyc5 =>
              intro w hSw
              (try dsimp only at hSw)
              go_simp
              try with_reducible rfl
            try simp only [Act.put, List.setIfInBounds_toArray, List.set_cons_zero, List.set_cons_succ]
            refine wpAnyH_take (i := 6) (oi := { dst := some 16, op := Op.move (Operand.tmp 15), type := 4, pos := "l03_site.go:17", after := #[{ on := 5, ground := Ground.data }, { on := 4, ground := Ground.chain }], guard := none }) (v := ?vc6) rfl (by kernel_rfl) (by kernel_rfl) (by kernel_rfl) (fun _ _ _ h => h) (Or.inl ⟨by rfl, ?hyc6⟩) (by assumption) ?restc6
            case hyc6 =>
              intro w hSw
              (try dsimp only at hSw)
              go_simp
              try with_reducible rfl
            try simp only [Act.put, List.setIfInBounds_toArray, List.set_cons_zero, List.set_cons_succ]
            refine wpAnyH_take (i := 7) (oi := { dst := some 17, op := Op.move (Operand.tmp 3), type := 3, pos := "l03_site.go:17", after := #[{ on := 6, ground := Ground.guard }], guard := some (6, false) }) (v := ?vc7) rfl (by kernel_rfl) (by kernel_rfl) (by kernel_rfl) (fun _ _ _ h => h) (Or.inl ⟨by rfl, ?hyc7⟩) (by assumption) ?restc7
            case hyc7 =>
              intro w hSw
              (try dsimp only at hSw)
              go_simp
              try with_reducible rfl
            try simp only [Act.put, List.setIfInBounds_toArray, List.set_cons_zero, List.set_cons_succ]
            refine wpAnyH_take (i := 8) (oi := { dst := some 18, op := Op.binOp BinOp.gtr 3 (Operand.tmp 17) (Operand.const (Value.int IntKind.i64 0)) 3, type := 4, pos := "l03_site.go:17", after := #[{ on := 7, ground := Ground.data }, { on := 6, ground := Ground.guard }], guard := some (6, false) }) (v := ?vc8) rfl (by kernel_rfl) (by kernel_rfl) (by kernel_rfl) (fun _ _ _ h => h) (Or.inl ⟨by rfl, ?hyc8⟩) (by assumption) ?restc8
            case hyc8 =>
              intro w hSw
              (try dsimp only at hSw)
              go_simp
              try with_reducible rfl
            try simp only [Act.put, List.setIfInBounds_toArray, List.set_cons_zero, List.set_cons_succ]
            refine wpAnyH_take (i := 9) (oi := { dst := some 19, op := Op.move (Operand.tmp 18), type := 4, pos := "l03_site.go:17", after := #[{ on := 8, ground := Ground.data }, { on := 6, ground := Ground.chain }, { on := 6, ground := Ground.guard }], guard := some (6, false) }) (v := ?vc9) rfl (by kernel_rfl) (by kernel_rfl) (by kernel_rfl) (fun _ _ _ h => h) (Or.inl ⟨by rfl, ?hyc9⟩) (by assumption) ?restc9
            case hyc9 =>
              intro w hSw
              (try dsimp only at hSw)
              go_simp
              try with_reducible rfl
            try simp only [Act.put, List.setIfInBounds_toArray, List.set_cons_zero, List.set_cons_succ]
            refine wpAnyH_take (i := 10) (oi := { dst := some 20, op := Op.move (Operand.tmp 0), type := 31, pos := "l03_site.go:17", after := #[{ on := 9, ground := Ground.guard }], guard := some (9, true) }) (v := ?vc10) rfl (by kernel_rfl) (by kernel_rfl) (by kernel_rfl) (fun _ _ _ h => h) (Or.inl ⟨by rfl, ?hyc10⟩) (by assumption) ?restc10
            case hyc10 =>
              intro w hSw
              (try dsimp only at hSw)
              go_simp
              try with_reducible rfl
            try simp only [Act.put, List.setIfInBounds_toArray, List.set_cons_zero, List.set_cons_succ]
            refine wpAnyH_take (i := 11) (oi := { dst := some 21, op := Op.move (Operand.tmp 3), type := 3, pos := "l03_site.go:17", after := #[{ on := 9, ground := Ground.guard }], guard := some (9, true) }) (v := ?vc11) rfl (by kernel_rfl) (by kernel_rfl) (by kernel_rfl) (fun _ _ _ h => h) (Or.inl ⟨by rfl, ?hyc11⟩) (by assumption) ?restc11
            case hyc11 =>
              intro w hSw
              (try dsimp only at hSw)
              go_simp
              try with_reducible rfl
            try simp only [Act.put, List.setIfInBounds_toArray, List.set_cons_zero, List.set_cons_succ]
            refine wpAnyH_take (i := 12) (oi := { dst := some 22, op := Op.binOp BinOp.sub 3 (Operand.tmp 21) (Operand.const (Value.int IntKind.i64 1)) 3, type := 3, pos := "l03_site.go:17", after := #[{ on := 11, ground := Ground.data }, { on := 9, ground := Ground.guard }], guard := some (9, true) }) (v := ?vc12) rfl (by kernel_rfl) (by kernel_rfl) (by kernel_rfl) (fun _ _ _ h => h) (Or.inl ⟨by rfl, ?hyc12⟩) (by assumption) ?restc12
            case hyc12 =>
              intro w hSw
              (try dsimp only at hSw)
              go_simp
              try with_reducible rfl
            try simp only [Act.put, List.setIfInBounds_toArray, List.set_cons_zero, List.set_cons_succ]
            refine wpAnyH_take (i := 13) (oi := { dst := some 23, op := Op.indexAddr 31 (Operand.tmp 20) (Operand.tmp 22), type := 0, pos := "l03_site.go:17", after := #[{ on := 10, ground := Ground.data }, { on := 12, ground := Ground.data }, { on := 9, ground := Ground.guard }], guard := some (9, true) }) (v := ?vc13) rfl (by kernel_rfl) (by kernel_rfl) (by kernel_rfl) (fun _ _ _ h => h) (Or.inl ⟨by rfl, ?hyc13⟩) (by assumption) ?restc13
            case hyc13 =>
              intro w hSw
              (try dsimp only at hSw)
              go_simp
              try with_reducible rfl
            try simp only [Act.put, List.setIfInBounds_toArray, List.set_cons_zero, List.set_cons_succ]
            refine wpAnyH_take (i := 14) (oi := { dst := some 24, op := Op.load 9 (Operand.tmp 23), type := 9, pos := "l03_site.go:17", after := #[{ on := 13, ground := Ground.data }, { on := 9, ground := Ground.guard }], guard := some (9, true) }) (v := ?vc14) rfl (by kernel_rfl) (by kernel_rfl) (by kernel_rfl) (fun _ _ _ h => h) (Or.inl ⟨by rfl, ?hyc14⟩) (by assumption) ?restc14
            case hyc14 =>
              intro w hSw
              (try dsimp only at hSw)
              go_simp
              try with_reducible rfl
            try simp only [Act.put, List.setIfInBounds_toArray, List.set_cons_zero, List.set_cons_succ]
            refine wpAnyH_take (i := 15) (oi := { dst := some 25, op := Op.move (Operand.tmp 0), type := 31, pos := "l03_site.go:17", after := #[{ on := 9, ground := Ground.guard }], guard := some (9, true) }) (v := ?vc15) rfl (by kernel_rfl) (by kernel_rfl) (by kernel_rfl) (fun _ _ _ h => h) (Or.inl ⟨by rfl, ?hyc15⟩) (by assumption) ?restc15
            case hyc15 =>
              intro w hSw
              (try dsimp only at hSw)
              go_simp
              try with_reducible rfl
            try simp only [Act.put, List.setIfInBounds_toArray, List.set_cons_zero, List.set_cons_succ]
            refine wpAnyH_take (i := 16) (oi := { dst := some 26, op := Op.move (Operand.tmp 3), type := 3, pos := "l03_site.go:17", after := #[{ on := 9, ground := Ground.guard }], guard := some (9, true) }) (v := ?vc16) rfl (by kernel_rfl) (by kernel_rfl) (by kernel_rfl) (fun _ _ _ h => h) (Or.inl ⟨by rfl, ?hyc16⟩) (by assumption) ?restc16
            case hyc16 =>
              intro w hSw
              (try dsimp only at hSw)
              go_simp
              try with_reducible rfl
            try simp only [Act.put, List.setIfInBounds_toArray, List.set_cons_zero, List.set_cons_succ]
            refine wpAnyH_take (i := 17) (oi := { dst := some 27, op := Op.indexAddr 31 (Operand.tmp 25) (Operand.tmp 26), type := 0, pos := "l03_site.go:17", after := #[{ on := 15, ground := Ground.data }, { on := 16, ground := Ground.data }, { on := 9, ground := Ground.guard }], guard := some (9, true) }) (v := ?vc17) rfl (by kernel_rfl) (by kernel_rfl) (by kernel_rfl) (fun _ _ _ h => h) (Or.inl ⟨by rfl, ?hyc17⟩) (by assumption) ?restc17
            case hyc17 =>
              intro w hSw
              (try dsimp only at hSw)
              go_simp
              try with_reducible rfl
            try simp only [Act.put, List.setIfInBounds_toArray, List.set_cons_zero, List.set_cons_succ]
            refine wpAnyH_take (i := 18) (oi := { dst := some 28, op := Op.load 9 (Operand.tmp 27), type := 9, pos := "l03_site.go:17", after := #[{ on := 17, ground := Ground.data }, { on := 9, ground := Ground.guard }], guard := some (9, true) }) (v := ?vc18) rfl (by kernel_rfl) (by kernel_rfl) (by kernel_rfl) (fun _ _ _ h => h) (Or.inl ⟨by rfl, ?hyc18⟩) (by assumption) ?restc18
            case hyc18 =>
              intro w hSw
              (try dsimp only at hSw)
              go_simp
              try with_reducible rfl
            try simp only [Act.put, List.setIfInBounds_toArray, List.set_cons_zero, List.set_cons_succ]
            refine wpAnyH_take (i := 19) (oi := { dst := some 29, op := Op.binOp BinOp.geq 9 (Operand.tmp 24) (Operand.tmp 28) 9, type := 4, pos := "l03_site.go:17", after := #[{ on := 14, ground := Ground.data }, { on := 18, ground := Ground.data }, { on := 9, ground := Ground.guard }], guard := some (9, true) }) (v := ?vc19) rfl (by kernel_rfl) (by kernel_rfl) (by kernel_rfl) (fun _ _ _ h => h) (Or.inl ⟨by rfl, ?hyc19⟩) (by assumption) ?restc19
            case hyc19 =>
              intro w hSw
              (try dsimp only at hSw)
              go_simp
              try with_reducible rfl
            try simp only [Act.put, List.setIfInBounds_toArray, List.set_cons_zero, List.set_cons_succ]
            refine wpAnyH_take (i := 20) (oi := { dst := some 30, op := Op.pick (Operand.tmp 19) (Operand.tmp 29) (Operand.const (Value.bool false)), type := 4, pos := "l03_site.go:17", after := #[{ on := 9, ground := Ground.data }, { on := 19, ground := Ground.data }, { on := 6, ground := Ground.guard }], guard := some (6, false) }) (v := ?vc20) rfl (by kernel_rfl) (by kernel_rfl) (by kernel_rfl) (fun _ _ _ h => h) (Or.inl ⟨by rfl, ?hyc20⟩) (by assumption) ?restc20
            case hyc20 =>
              intro w hSw
              (try dsimp only at hSw)
              go_simp
              try with_reducible rfl
            try simp only [Act.put, List.setIfInBounds_toArray, List.set_cons_zero, List.set_cons_succ]
            refine wpAnyH_take (i := 21) (oi := { dst := some 31, op := Op.pick (Operand.tmp 16) (Operand.const (Value.bool true)) (Operand.tmp 30), type := 4, pos := "l03_site.go:17", after := #[{ on := 6, ground := Ground.data }, { on := 20, ground := Ground.data }], guard := none }) (v := ?vc21) rfl (by kernel_rfl) (by kernel_rfl) (by kernel_rfl) (fun _ _ _ h => h) (Or.inl ⟨by rfl, ?hyc21⟩) (by assumption) ?restc21
            case hyc21 =>
              intro w hSw
              (try dsimp only at hSw)
              go_simp
              try with_reducible rfl
            try simp only [Act.put, List.setIfInBounds_toArray, List.set_cons_zero, List.set_cons_succ]
            refine wpAnyH_done (by kernel_rfl) ?_ _
            go_wp2
            go_roundw
            case rel => exact ⟨m + 2, by omega, by go_num, (HB.out.trans (Below.drew (Below.refl _ _))).trans (hb2.mono HB.out.size), okR_succ HR.out HK.out⟩
            case measure => simp [intOf]; omega
          | false =>
            have HQ : Hid (R = false) := HA.out.1 (m + 1) hlt (by rw [HE.out, hless])
            clear HE
            generalize f (m + 1) = t at *
            generalize f m = s at *
            go_wp2_with fail
            refine wp_region_held_drew (S := (fun w' => g < w'.heap.size ∧ w'.cell? ⟨g, m + 1, none⟩ = some (.string t) ∧ w'.cell? ⟨g, m, none⟩ = some (.string s))) (by kernel_rfl) ?_ (fun hH0 => ?_)
            · (try dsimp only)
              go_keep
            refine wpAnyH_take (i := 0) (oi := { dst := some 10, op := Op.move (Operand.tmp 0), type := 31, pos := "l03_site.go:17", after := #[], guard := none }) (v := ?vd0) rfl (by kernel_rfl) (by kernel_rfl) (by kernel_rfl) (fun _ _ _ h => h) (Or.inl ⟨by rfl, ?hyd0⟩) (by assumption) ?restd0
            case hyd0 =>
              intro w hSw
              (try dsimp only at hSw)
              go_simp
              try with_reducible rfl
            try simp only [Act.put, List.setIfInBounds_toArray, List.set_cons_zero, List.set_cons_succ]
            refine wpAnyH_take (i := 1) (oi := { dst := some 11, op := Op.move (Operand.tmp 3), type := 3, pos := "l03_site.go:17", after := #[], guard := none }) (v := ?vd1) rfl (by kernel_rfl) (by kernel_rfl) (by kernel_rfl) (fun _ _ _ h => h) (Or.inl ⟨by rfl, ?hyd1⟩) (by assumption) ?restd1
            case hyd1 =>
              intro w hSw
              (try dsimp only at hSw)
              go_simp
              try with_reducible rfl
            try simp only [Act.put, List.setIfInBounds_toArray, List.set_cons_zero, List.set_cons_succ]
            refine wpAnyH_take (i := 2) (oi := { dst := some 12, op := Op.indexAddr 31 (Operand.tmp 10) (Operand.tmp 11), type := 0, pos := "l03_site.go:17", after := #[{ on := 0, ground := Ground.data }, { on := 1, ground := Ground.data }], guard := none }) (v := ?vd2) rfl (by kernel_rfl) (by kernel_rfl) (by kernel_rfl) (fun _ _ _ h => h) (Or.inl ⟨by rfl, ?hyd2⟩) (by assumption) ?restd2
            case hyd2 =>
              intro w hSw
              (try dsimp only at hSw)
              go_simp
              try with_reducible rfl
            try simp only [Act.put, List.setIfInBounds_toArray, List.set_cons_zero, List.set_cons_succ]
            refine wpAnyH_take (i := 3) (oi := { dst := some 13, op := Op.load 9 (Operand.tmp 12), type := 9, pos := "l03_site.go:17", after := #[{ on := 2, ground := Ground.data }], guard := none }) (v := ?vd3) rfl (by kernel_rfl) (by kernel_rfl) (by kernel_rfl) (fun _ _ _ h => h) (Or.inl ⟨by rfl, ?hyd3⟩) (by assumption) ?restd3
            case hyd3 =>
              intro w hSw
              (try dsimp only at hSw)
              go_simp
              try with_reducible rfl
            try simp only [Act.put, List.setIfInBounds_toArray, List.set_cons_zero, List.set_cons_succ]
            refine wpAnyH_ready (rs := [4]) (by kernel_rfl) (by simp) ?_
            refine AllReadyH.cons (o := { dst := some 14, op := Op.call { callee := Callee.value (Operand.func 100), args := #[Operand.tmp 13], argTypes := #[9] }, type := 4, pos := "l03_site.go:17", after := #[{ on := 3, ground := Ground.data }], guard := none }) rfl (fun K hK => ?_) AllReadyH.nil
            go_simp
            (go_at_call 100; refine (KR.out _).mono ?_; rintro e w2 ⟨rfl, hb2⟩; have z2 : g < w2.heap.size := Nat.lt_of_lt_of_le hz hb2.size; have c2 : w2.cell? ⟨g, m + 1, none⟩ = some (.string t) := ((bcell hb2).1 _ _ hz).trans hck; have d2 : w2.cell? ⟨g, m, none⟩ = some (.string s) := ((bcell hb2).1 _ _ hz).trans hcm)
            try (go_wp2_with fail)
            refine hK.out _ _ ?_ (fun hH1 => ?_)
            · (try dsimp only)
              go_keep
            clear hK K hH0
            try simp only [Act.put, List.setIfInBounds_toArray, List.set_cons_zero, List.set_cons_succ]
            refine wpAnyH_take (i := 5) (oi := { dst := some 15, op := Op.unOp UnOp.not 4 (Operand.tmp 14), type := 4, pos := "l03_site.go:17", after := #[{ on := 4, ground := Ground.data }], guard := none }) (v := ?vd5) rfl (by kernel_rfl) (by kernel_rfl) (by kernel_rfl) (fun _ _ _ h => h) (Or.inl ⟨by rfl, ?hyd5⟩) (by assumption) ?restd5
            case hyd5 =>
              intro w hSw
              (try dsimp only at hSw)
              go_simp
              try with_reducible rfl
            try simp only [Act.put, List.setIfInBounds_toArray, List.set_cons_zero, List.set_cons_succ]
            refine wpAnyH_take (i := 6) (oi := { dst := some 16, op := Op.move (Operand.tmp 15), type := 4, pos := "l03_site.go:17", after := #[{ on := 5, ground := Ground.data }, { on := 4, ground := Ground.chain }], guard := none }) (v := ?vd6) rfl (by kernel_rfl) (by kernel_rfl) (by kernel_rfl) (fun _ _ _ h => h) (Or.inl ⟨by rfl, ?hyd6⟩) (by assumption) ?restd6
            case hyd6 =>
              intro w hSw
              (try dsimp only at hSw)
              go_simp
              try with_reducible rfl
            try simp only [Act.put, List.setIfInBounds_toArray, List.set_cons_zero, List.set_cons_succ]
            refine wpAnyH_take (i := 7) (oi := { dst := some 17, op := Op.move (Operand.tmp 3), type := 3, pos := "l03_site.go:17", after := #[{ on := 6, ground := Ground.guard }], guard := some (6, false) }) (v := ?vd7) rfl (by kernel_rfl) (by kernel_rfl) (by kernel_rfl) (fun _ _ _ h => h) (Or.inl ⟨by rfl, ?hyd7⟩) (by assumption) ?restd7
            case hyd7 =>
              intro w hSw
              (try dsimp only at hSw)
              go_simp
              try with_reducible rfl
            try simp only [Act.put, List.setIfInBounds_toArray, List.set_cons_zero, List.set_cons_succ]
            refine wpAnyH_take (i := 8) (oi := { dst := some 18, op := Op.binOp BinOp.gtr 3 (Operand.tmp 17) (Operand.const (Value.int IntKind.i64 0)) 3, type := 4, pos := "l03_site.go:17", after := #[{ on := 7, ground := Ground.data }, { on := 6, ground := Ground.guard }], guard := some (6, false) }) (v := ?vd8) rfl (by kernel_rfl) (by kernel_rfl) (by kernel_rfl) (fun _ _ _ h => h) (Or.inl ⟨by rfl, ?hyd8⟩) (by assumption) ?restd8
            case hyd8 =>
              intro w hSw
              (try dsimp only at hSw)
              go_simp
              try with_reducible rfl
            try simp only [Act.put, List.setIfInBounds_toArray, List.set_cons_zero, List.set_cons_succ]
            refine wpAnyH_take (i := 9) (oi := { dst := some 19, op := Op.move (Operand.tmp 18), type := 4, pos := "l03_site.go:17", after := #[{ on := 8, ground := Ground.data }, { on := 6, ground := Ground.chain }, { on := 6, ground := Ground.guard }], guard := some (6, false) }) (v := ?vd9) rfl (by kernel_rfl) (by kernel_rfl) (by kernel_rfl) (fun _ _ _ h => h) (Or.inl ⟨by rfl, ?hyd9⟩) (by assumption) ?restd9
            case hyd9 =>
              intro w hSw
              (try dsimp only at hSw)
              go_simp
              try with_reducible rfl
            try simp only [Act.put, List.setIfInBounds_toArray, List.set_cons_zero, List.set_cons_succ]
            refine wpAnyH_take (i := 10) (oi := { dst := some 20, op := Op.move (Operand.tmp 0), type := 31, pos := "l03_site.go:17", after := #[{ on := 9, ground := Ground.guard }], guard := some (9, true) }) (v := ?vd10) rfl (by kernel_rfl) (by kernel_rfl) (by kernel_rfl) (fun _ _ _ h => h) (Or.inl ⟨by rfl, ?hyd10⟩) (by assumption) ?restd10
            case hyd10 =>
              intro w hSw
              (try dsimp only at hSw)
              go_simp
              try with_reducible rfl
            try simp only [Act.put, List.setIfInBounds_toArray, List.set_cons_zero, List.set_cons_succ]
            refine wpAnyH_take (i := 11) (oi := { dst := some 21, op := Op.move (Operand.tmp 3), type := 3, pos := "l03_site.go:17", after := #[{ on := 9, ground := Ground.guard }], guard := some (9, true) }) (v := ?vd11) rfl (by kernel_rfl) (by kernel_rfl) (by kernel_rfl) (fun _ _ _ h => h) (Or.inl ⟨by rfl, ?hyd11⟩) (by assumption) ?restd11
            case hyd11 =>
              intro w hSw
              (try dsimp only at hSw)
              go_simp
              try with_reducible rfl
            try simp only [Act.put, List.setIfInBounds_toArray, List.set_cons_zero, List.set_cons_succ]
            refine wpAnyH_take (i := 12) (oi := { dst := some 22, op := Op.binOp BinOp.sub 3 (Operand.tmp 21) (Operand.const (Value.int IntKind.i64 1)) 3, type := 3, pos := "l03_site.go:17", after := #[{ on := 11, ground := Ground.data }, { on := 9, ground := Ground.guard }], guard := some (9, true) }) (v := ?vd12) rfl (by kernel_rfl) (by kernel_rfl) (by kernel_rfl) (fun _ _ _ h => h) (Or.inl ⟨by rfl, ?hyd12⟩) (by assumption) ?restd12
            case hyd12 =>
              intro w hSw
              (try dsimp only at hSw)
              go_simp
              try with_reducible rfl
            try simp only [Act.put, List.setIfInBounds_toArray, List.set_cons_zero, List.set_cons_succ]
            refine wpAnyH_take (i := 13) (oi := { dst := some 23, op := Op.indexAddr 31 (Operand.tmp 20) (Operand.tmp 22), type := 0, pos := "l03_site.go:17", after := #[{ on := 10, ground := Ground.data }, { on := 12, ground := Ground.data }, { on := 9, ground := Ground.guard }], guard := some (9, true) }) (v := ?vd13) rfl (by kernel_rfl) (by kernel_rfl) (by kernel_rfl) (fun _ _ _ h => h) (Or.inl ⟨by rfl, ?hyd13⟩) (by assumption) ?restd13
            case hyd13 =>
              intro w hSw
              (try dsimp only at hSw)
              go_simp
              try with_reducible rfl
            try simp only [Act.put, List.setIfInBounds_toArray, List.set_cons_zero, List.set_cons_succ]
            refine wpAnyH_take (i := 14) (oi := { dst := some 24, op := Op.load 9 (Operand.tmp 23), type := 9, pos := "l03_site.go:17", after := #[{ on := 13, ground := Ground.data }, { on := 9, ground := Ground.guard }], guard := some (9, true) }) (v := ?vd14) rfl (by kernel_rfl) (by kernel_rfl) (by kernel_rfl) (fun _ _ _ h => h) (Or.inl ⟨by rfl, ?hyd14⟩) (by assumption) ?restd14
            case hyd14 =>
              intro w hSw
              (try dsimp only at hSw)
              go_simp
              try with_reducible rfl
            try simp only [Act.put, List.setIfInBounds_toArray, List.set_cons_zero, List.set_cons_succ]
            refine wpAnyH_take (i := 15) (oi := { dst := some 25, op := Op.move (Operand.tmp 0), type := 31, pos := "l03_site.go:17", after := #[{ on := 9, ground := Ground.guard }], guard := some (9, true) }) (v := ?vd15) rfl (by kernel_rfl) (by kernel_rfl) (by kernel_rfl) (fun _ _ _ h => h) (Or.inl ⟨by rfl, ?hyd15⟩) (by assumption) ?restd15
            case hyd15 =>
              intro w hSw
              (try dsimp only at hSw)
              go_simp
              try with_reducible rfl
            try simp only [Act.put, List.setIfInBounds_toArray, List.set_cons_zero, List.set_cons_succ]
            refine wpAnyH_take (i := 16) (oi := { dst := some 26, op := Op.move (Operand.tmp 3), type := 3, pos := "l03_site.go:17", after := #[{ on := 9, ground := Ground.guard }], guard := some (9, true) }) (v := ?vd16) rfl (by kernel_rfl) (by kernel_rfl) (by kernel_rfl) (fun _ _ _ h => h) (Or.inl ⟨by rfl, ?hyd16⟩) (by assumption) ?restd16
            case hyd16 =>
              intro w hSw
              (try dsimp only at hSw)
              go_simp
              try with_reducible rfl
            try simp only [Act.put, List.setIfInBounds_toArray, List.set_cons_zero, List.set_cons_succ]
            refine wpAnyH_take (i := 17) (oi := { dst := some 27, op := Op.indexAddr 31 (Operand.tmp 25) (Operand.tmp 26), type := 0, pos := "l03_site.go:17", after := #[{ on := 15, ground := Ground.data }, { on := 16, ground := Ground.data }, { on := 9, ground := Ground.guard }], guard := some (9, true) }) (v := ?vd17) rfl (by kernel_rfl) (by kernel_rfl) (by kernel_rfl) (fun _ _ _ h => h) (Or.inl ⟨by rfl, ?hyd17⟩) (by assumption) ?restd17
            case hyd17 =>
              intro w hSw
              (try dsimp only at hSw)
              go_simp
              try with_reducible rfl
            try simp only [Act.put, List.setIfInBounds_toArray, List.set_cons_zero, List.set_cons_succ]
            refine wpAnyH_take (i := 18) (oi := { dst := some 28, op := Op.load 9 (Operand.tmp 27), type := 9, pos := "l03_site.go:17", after := #[{ on := 17, ground := Ground.data }, { on := 9, ground := Ground.guard }], guard := some (9, true) }) (v := ?vd18) rfl (by kernel_rfl) (by kernel_rfl) (by kernel_rfl) (fun _ _ _ h => h) (Or.inl ⟨by rfl, ?hyd18⟩) (by assumption) ?restd18
            case hyd18 =>
              intro w hSw
              (try dsimp only at hSw)
              go_simp
              try with_reducible rfl
            try simp only [Act.put, List.setIfInBounds_toArray, List.set_cons_zero, List.set_cons_succ]
            refine wpAnyH_take (i := 19) (oi := { dst := some 29, op := Op.binOp BinOp.geq 9 (Operand.tmp 24) (Operand.tmp 28) 9, type := 4, pos := "l03_site.go:17", after := #[{ on := 14, ground := Ground.data }, { on := 18, ground := Ground.data }, { on := 9, ground := Ground.guard }], guard := some (9, true) }) (v := ?vd19) rfl (by kernel_rfl) (by kernel_rfl) (by kernel_rfl) (fun _ _ _ h => h) (Or.inl ⟨by rfl, ?hyd19⟩) (by assumption) ?restd19
            case hyd19 =>
              intro w hSw
              (try dsimp only at hSw)
              go_simp
              try with_reducible rfl
            try simp only [Act.put, List.setIfInBounds_toArray, List.set_cons_zero, List.set_cons_succ]
            refine wpAnyH_take (i := 20) (oi := { dst := some 30, op := Op.pick (Operand.tmp 19) (Operand.tmp 29) (Operand.const (Value.bool false)), type := 4, pos := "l03_site.go:17", after := #[{ on := 9, ground := Ground.data }, { on := 19, ground := Ground.data }, { on := 6, ground := Ground.guard }], guard := some (6, false) }) (v := ?vd20) rfl (by kernel_rfl) (by kernel_rfl) (by kernel_rfl) (fun _ _ _ h => h) (Or.inl ⟨by rfl, ?hyd20⟩) (by assumption) ?restd20
            case hyd20 =>
              intro w hSw
              (try dsimp only at hSw)
              go_simp
              try with_reducible rfl
            try simp only [Act.put, List.setIfInBounds_toArray, List.set_cons_zero, List.set_cons_succ]
            refine wpAnyH_take (i := 21) (oi := { dst := some 31, op := Op.pick (Operand.tmp 16) (Operand.const (Value.bool true)) (Operand.tmp 30), type := 4, pos := "l03_site.go:17", after := #[{ on := 6, ground := Ground.data }, { on := 20, ground := Ground.data }], guard := none }) (v := ?vd21) rfl (by kernel_rfl) (by kernel_rfl) (by kernel_rfl) (fun _ _ _ h => h) (Or.inl ⟨by rfl, ?hyd21⟩) (by assumption) ?restd21
            case hyd21 =>
              intro w hSw
              (try dsimp only at hSw)
              go_simp
              try with_reducible rfl
            try simp only [Act.put, List.setIfInBounds_toArray, List.set_cons_zero, List.set_cons_succ]
            refine wpAnyH_done (by kernel_rfl) ?_ _
            go_wp2
            go_ret
            exact ⟨ret_bool HQ.out.symm, (HB.out.trans (Below.drew (Below.refl _ _))).trans (hb2.mono HB.out.size)⟩
    · have HQ : Hid (R = decide (n ≤ 20)) := HA.out.2 (fun i hi => HR.out i (by omega))
      go_wp2
      go_ret
      exact ⟨ret_bool (by rw [HQ.out]; congr 1; exact propext ⟨fun h => by omega, fun h => by omega⟩), HB.out⟩
end Go.Proofs.YtnpaekjiafaahaaGreatDoor

/- The walk of the program's RulesRight. -/
namespace Go.Proofs.YtnpaekjiafaahaaGreatDoor
open Go.RowKit

theorem rulesB_many {n : Nat} {f : Nat → ByteArray} (h : 20 < n) : rulesB n f = false := by unfold rulesB; rw [decide_eq_false (show ¬ n ≤ 20 by omega), Bool.and_false]

set_option maxRecDepth 10000 in
set_option maxHeartbeats 1000000 in
theorem rulesRight_any (v : Value) (n B : Nat) (f : Nat → ByteArray) (w : World) (hG : MaxI w) (hs : SliceS w B v n f) (hn : n ≤ 1048576) (hf : ∀ i, i < n → (f i).size ≤ 1048576) :
    Calls Tryz.prog 52 #[v] w fun e w' => e = .returned (.bool (rulesB n f)) ∧ Below w.heap.size w w' := by
  obtain ⟨p, cap, rfl, hg⟩ := hs
  by_cases h20 : 20 < n
  · have HR : Hid (rulesB n f = false) := rulesB_many h20
    go_enter Tryz.func52, Tryz.ntmps52
    go_wp2
    go_ret
    exact ⟨ret_bool HR.out.symm, Below.refl _ _⟩
  have HG : Hid (0 < n → ∃ g, p = some ⟨g, 0, none⟩ ∧ B ≤ g ∧ g < w.heap.size ∧ ∀ j, j < n → w.cell? ⟨g, j, none⟩ = some (.string (f j)) ∧ w.frozen? ⟨g, j, none⟩ = false) := hg
  have HM : Hid (MaxI w) := hG
  have HF : Hid (∀ i, i < n → (f i).size ≤ 1048576) := hf
  have HA : Hid ((∀ k, k < n → okR f k = false → rulesB n f = false) ∧ ((∀ i, i < n → okR f i = true) → rulesB n f = true)) := ⟨fun k h hk => rulesB_at k h hk, fun h => by rw [rulesB_all h, decide_eq_true_iff]; omega⟩
  clear hg hf hG
  have q20 : decide ((20 : Int) < (n : Int)) = false := by rw [decide_eq_false_iff_not]; omega
  have hge : ∀ (t : TypeId) (a b : ByteArray), binOp .geq t (.string a) (.string b) = pure (.bool (!(Op.bytesLess a.toList b.toList))) := geq_text
  generalize rulesB n f = R at *
  go_enter Tryz.func52, Tryz.ntmps52
  go_wp2
  go_loopw [10] (fun i wr => ∃ k : Nat, k ≤ n ∧ i = .int .i64 k ∧ Hid (Below w.heap.size w wr) ∧ Hid (∀ j, j < k → okR f j = true)) (fun i _ => n - (intOf i).toNat)
  case atStart => exact ⟨0, Nat.zero_le _, rfl, Below.refl _ _, fun j hj => absurd hj (by omega)⟩
  case round =>
    obtain ⟨k, hk, rfl, HB, HR⟩ := hrel
    by_cases hlt : k < n
    · obtain ⟨g, rfl, -, hgw, hc⟩ := HG.out (by omega)
      have hz : g < wr.heap.size := Nat.lt_of_lt_of_le hgw HB.out.size
      have hck : wr.cell? ⟨g, k, none⟩ = some (.string (f k)) := by rw [(bcell HB.out).1 _ _ hgw]; exact (hc k hlt).1
      have KR0 := ruleRight_any (f k) wr (HM.out.on HB.out) (HF.out k hlt)
      have k0 : (0 : Int) ≤ k := by omega
      have k1 : (k : Int) < n := by omega
      cases hr : ruleB (f k) with
      | false =>
        have HQ : Hid (R = false) := HA.out.1 k hlt (by cases k with | zero => exact hr | succ m => rw [okR, hr]; rfl)
        rw [hr] at KR0
        have KR : Hid (Calls Tryz.prog 94 #[.string (f k)] wr fun e w' => e = .returned (.bool false) ∧ Below wr.heap.size wr w') := KR0
        clear KR0 hr hc
        generalize f k = t at *
        go_wp2_with (go_at_call 94; refine KR.out.mono ?_; rintro e w1 ⟨rfl, hb1⟩)
        go_ret
        exact ⟨ret_bool HQ.out.symm, HB.out.trans (hb1.mono HB.out.size)⟩
      | true =>
        rw [hr] at KR0
        have KR : Hid (Calls Tryz.prog 94 #[.string (f k)] wr fun e w' => e = .returned (.bool true) ∧ Below wr.heap.size wr w') := KR0
        clear KR0
        cases k with
        | zero =>
          have HO : Hid (okR f 0 = true) := hr
          clear hr hc
          generalize f 0 = t at *
          go_wp2_with (go_at_call 94; refine KR.out.mono ?_; rintro e w1 ⟨rfl, hb1⟩)
          go_roundw
          case rel => exact ⟨1, by omega, by go_num, HB.out.trans (hb1.mono HB.out.size), okR_succ HR.out HO.out⟩
          case measure => simp [intOf]; omega
        | succ m =>
          have hcm : wr.cell? ⟨g, m, none⟩ = some (.string (f m)) := by rw [(bcell HB.out).1 _ _ hgw]; exact (hc m (by omega)).1
          have HCM : Hid (∀ w1, Below wr.heap.size wr w1 → w1.cell? ⟨g, m, none⟩ = some (.string (f m))) := fun w1 hb1 => by rw [(bcell hb1).1 _ _ hz]; exact hcm
          have hw : ((m + 1 : Nat) : Int) - 1 = (m : Int) := by omega
          cases hl : Op.bytesLess (f m).toList (f (m + 1)).toList with
          | true =>
            have HO : Hid (okR f (m + 1) = true) := by show _ = _; rw [okR, hr, hl]; rfl
            clear hr hc hcm
            generalize f m = t0 at *
            generalize f (m + 1) = t at *
            go_wp2_with (go_at_call 94; refine KR.out.mono ?_; rintro e w1 ⟨rfl, hb1⟩; have hcm1 := HCM.out w1 hb1)
            go_roundw
            case rel => exact ⟨m + 2, by omega, by go_num, HB.out.trans (hb1.mono HB.out.size), okR_succ HR.out HO.out⟩
            case measure => simp [intOf]; omega
          | false =>
            have HQ : Hid (R = false) := HA.out.1 (m + 1) hlt (by rw [okR, hr, hl]; rfl)
            clear hr hc hcm
            generalize f m = t0 at *
            generalize f (m + 1) = t at *
            go_wp2_with (go_at_call 94; refine KR.out.mono ?_; rintro e w1 ⟨rfl, hb1⟩; have hcm1 := HCM.out w1 hb1)
            go_ret
            exact ⟨ret_bool HQ.out.symm, HB.out.trans (hb1.mono HB.out.size)⟩
    · go_wp2
      go_ret
      exact ⟨ret_bool (HA.out.2 (fun i hi => HR.out i (by omega))).symm, HB.out⟩
end Go.Proofs.YtnpaekjiafaahaaGreatDoor

/- What the specification puts together label by label is what the library joins. -/
namespace Go.Proofs.YtnpaekjiafaahaaGreatDoor

theorem join_snoc (y sep : List UInt8) : ∀ xs : List (List UInt8), Lib.join (xs ++ [y]) sep = if xs = [] then y else Lib.join xs sep ++ sep ++ y
  | [] => by simp [Lib.join_one]
  | x :: xs => by
    rw [if_neg (by simp), List.cons_append, Lib.join_cons, Lib.join_cons]
    simp [Lib.joinTail]
/-- n texts from place d on -/
def partL (f : Nat → ByteArray) (d n : Nat) : List ByteArray := (List.range n).map (fun i => f (d + i))
theorem partL_len (f : Nat → ByteArray) (d n : Nat) : (partL f d n).length = n := by simp [partL]
theorem partL_get {f : Nat → ByteArray} {d n j : Nat} {x : ByteArray} (h : (partL f d n)[j]? = some x) : j < n ∧ x = f (d + j) := by
  have hj : j < n := by
    have := (List.getElem?_eq_some_iff.1 h).1
    rwa [partL_len] at this
  refine ⟨hj, ?_⟩
  simp [partL, hj] at h
  exact h.symm
theorem tailN_pos {f : Nat → ByteArray} {d : Nat} : ∀ {j}, (∀ i, i < j + 1 → 0 < (f (d + i)).size) → 0 < (tailN f d (j + 1)).size
  | j, h => by
    have := h j (by omega)
    rw [tailN]
    split
    · rw [ByteArray.size_append]; omega
    · rw [ByteArray.size_append, ByteArray.size_append]; omega
theorem tail_join {f : Nat → ByteArray} {d : Nat} : ∀ j, (∀ i, i < j → 0 < (f (d + i)).size) → (tailN f d j).data.toList = Lib.join ((partL f d j).map (·.data.toList)) [46]
  | 0, _ => by simp [tailN, partL, Lib.join_nil]
  | j + 1, h => by
    have ih := tail_join j (fun i hi => h i (by omega))
    have e : (partL f d (j + 1)).map (·.data.toList) = (partL f d j).map (·.data.toList) ++ [(f (d + j)).data.toList] := by simp [partL, List.range_succ]
    rw [e, join_snoc, ← ih]
    cases j with
    | zero =>
      rw [if_pos (by simp [partL])]
      rw [tailN, if_pos (by simp [tailN, Lib.toList_data])]
      simp [tailN]
    | succ j =>
      have hp := tailN_pos (f := f) (d := d) (j := j) (fun i hi => h i (by omega))
      have hne : (tailN f d (j + 1)).toList.isEmpty = false := by
        rw [Lib.toList_data, List.isEmpty_eq_false_iff]
        intro e0
        rw [Lib.size_eq, e0] at hp
        exact absurd hp (by simp)
      rw [if_neg (by simp [partL, List.range_succ])]
      rw [tailN.eq_def f d (j + 1 + 1)]
      simp only
      rw [if_neg (by rw [hne]; decide)]
      simp
end Go.Proofs.YtnpaekjiafaahaaGreatDoor

/- The walk of the specification's SuffixOf. -/
namespace Go.Proofs.YtnpaekjiafaahaaGreatDoor
open Go.RowKit

theorem hostB_pos {s : ByteArray} (h : hostB s = true) : 0 < s.size ∧ s.size ≤ 100 := by
  refine ⟨?_, ?_⟩
  · by_cases hz : 0 < s.size
    · exact hz
    · exfalso
      have e : splitB s 46 = [s.extract 0 s.size] := by
        unfold splitB
        rw [show s.size = 0 by omega]; rfl
      have hl : labelB (s.extract 0 s.size) = false := labelB_size (.inl (by rw [ByteArray.size_extract]; omega))
      have : hostB s = false := hostB_at 0 (by rw [e]; exact Nat.zero_lt_one) (by simp only [e]; exact hl)
      rw [this] at h; cases h
  · by_cases hz : 100 < s.size
    · rw [hostB_size hz] at h; cases h
    · omega
theorem ruleB_sizes {s : ByteArray} (h : ruleB s = true) : 0 < s.size ∧ s.size ≤ 1000 := by
  unfold ruleB at h
  split at h
  · rw [Bool.and_eq_true] at h
    have := hostB_pos h.1
    rw [ByteArray.size_extract] at this
    omega
  · split at h
    · have := hostB_pos h
      rw [ByteArray.size_extract] at this
      omega
    · have := hostB_pos h
      omega
theorem okR_rule {f : Nat → ByteArray} {i : Nat} (h : okR f i = true) : ruleB (f i) = true := by
  cases i with
  | zero => exact h
  | succ m => rw [okR, Bool.and_eq_true] at h; exact h.1
theorem rulesB_parts {n : Nat} {f : Nat → ByteArray} (h : rulesB n f = true) : n ≤ 20 ∧ ∀ i, i < n → 0 < (f i).size ∧ (f i).size ≤ 1000 := by
  unfold rulesB at h
  rw [Bool.and_eq_true, decide_eq_true_eq, decide_eq_true_eq] at h
  exact ⟨h.2, fun i hi => ruleB_sizes (okR_rule (h.1 i hi))⟩
/-- what SuffixOf tells -/
def sufOf (n : Nat) (f : Nat → ByteArray) (s : ByteArray) : ByteArray × ByteArray := if rulesB n f = true ∧ hostB s = true then (sufS n f s, sufD n f s) else (⟨#[]⟩, ⟨#[]⟩)

end Go.Proofs.YtnpaekjiafaahaaGreatDoor

/- A row of texts that is owned, joined by the library. -/
namespace Go.Proofs.YtnpaekjiafaahaaGreatDoor
open Go.RowKit

theorem builderX : Builder.Extra Tryz.prog Tryz.lays156_ren where
  sizeBuilder := by kernel_rfl
  liesBuilder := by kernel_rfl
  t5 := Tryz.underlying5
  a5 := Tryz.isAgg5
  z5 := Tryz.sizeOf5
  v5 := Tryz.zeroValue5
  infoByte := by kernel_rfl
  cellsByte := by kernel_rfl
  sizeByte := by kernel_rfl
  neB5 := by decide
/-- texts with sep between -/
def joinB (L : List ByteArray) (sep : ByteArray) : ByteArray := ⟨(Lib.join (L.map (·.data.toList)) sep.data.toList).toArray⟩
theorem join_own (L : List ByteArray) (v : Value) (B : Nat) (t : TypeId) (sep : ByteArray) (w : World) (h : w.ownsRow B t 1 v L.length (strCells L)) (hN : L.length ≤ 140737488355328) (hz : (joinB L sep).size ≤ 140737488355328) :
    Calls Tryz.prog 127 #[v, .string sep] w fun e w' => e = .returned (.string (joinB L sep)) ∧ Below w.heap.size w w' := by
  obtain ⟨p, c, rfl, hs⟩ := slice_of_own h
  by_cases h0 : L.length = 0
  · have hL : L = [] := List.length_eq_zero_iff.1 h0
    subst hL
    exact (Any.strings_Join_none Tryz.lays156 builderX p c sep w).mono fun _ _ ⟨h1, h2⟩ => ⟨h1, h2 ▸ Below.refl _ _⟩
  · obtain ⟨g, rfl, -, hg, hc⟩ := hs (by omega)
    have hcap : L.length ≤ c := by
      obtain ⟨_, ⟨e, h0'⟩ | ⟨g', cap, cur, e, _, _, hle, _⟩⟩ := h
      · omega
      · injection e with _ _ e3
        omega
    refine Any.strings_Join Tryz.lays156 builderX g 0 c L sep w (fun j x hj => ?_) hg hN hcap hz
    obtain ⟨hj1, rfl⟩ := List.getElem?_eq_some_iff.1 hj
    have e : atL L j = L[j] := by simp [atL, hj1]
    rw [Nat.zero_add, ← e]
    exact (hc j hj1).1
/-- a row of one text, built -/
theorem own_one (w : World) (t : TypeId) (x : ByteArray) : (w.alloc (.cells #[.string x] t)).ownsRow w.heap.size t 1 (.slice (some ⟨w.heap.size, 0, none⟩) 1 1) [x].length (strCells [x]) :=
  ⟨rfl, .inr ⟨w.heap.size, 1, #[.string x], rfl, Nat.le_refl _, heap_alloc_new w _, Nat.le_refl _, by decide, rfl, rfl⟩⟩
end Go.Proofs.YtnpaekjiafaahaaGreatDoor

/- The walk of the program's SuffixOf. -/
namespace Go.Proofs.YtnpaekjiafaahaaGreatDoor
open Go.RowKit

/-- labels from place d on, joined -/
theorem join_call (g d n c : Nat) (h : Nat → ByteArray) (w : World) (hg : g < w.heap.size) (hc : ∀ j, j < n → w.cell? ⟨g, d + j, none⟩ = some (.string (h (d + j)))) (hn : n ≤ 101) (hcap : n ≤ c) (hs : ∀ j, j < n → 0 < (h (d + j)).size ∧ (h (d + j)).size ≤ 100) :
    Calls Tryz.prog 127 #[.slice (some ⟨g, d, none⟩) n c, .string ⟨#[46]⟩] w fun e w' => e = .returned (.string (tailN h d n)) ∧ Below w.heap.size w w' := by
  have e := tail_join (f := h) (d := d) n (fun i hi => (hs i hi).1)
  have hz := tailN_size (f := h) (d := d) 100 n (fun i hi => (hs i hi).2)
  have k := Any.strings_Join Tryz.lays156 builderX g d c (partL h d n) ⟨#[46]⟩ w (fun j x hj => by obtain ⟨h1, rfl⟩ := partL_get hj; exact hc j h1) hg (by rw [partL_len]; omega) (by rw [partL_len]; exact hcap)
    (by
      have e2 : (⟨#[46]⟩ : ByteArray).data.toList = [46] := rfl
      rw [e2, ← e, ← Lib.size_eq]; omega)
  rw [partL_len] at k
  have e3 : (⟨(Lib.join ((partL h d n).map (·.data.toList)) (⟨#[46]⟩ : ByteArray).data.toList).toArray⟩ : ByteArray) = tailN h d n := by
    apply bytes_ext
    rw [e]
  rw [e3] at k
  exact k
theorem labelB_pos {t : ByteArray} (h : labelB t = true) : 0 < t.size := by
  by_cases hz : 0 < t.size
  · exact hz
  · rw [labelB_size (.inl (by omega))] at h; cases h
theorem host_labels {s : ByteArray} (h : hostB s = true) : 1 ≤ (splitB s 46).length ∧ (splitB s 46).length ≤ 101 ∧ ∀ i, i < (splitB s 46).length → 0 < (atL (splitB s 46) i).size ∧ (atL (splitB s 46) i).size ≤ 100 := by
  obtain ⟨m0, hm0⟩ := splitB_ne s 46
  have hz := hostB_pos h
  have hl := splitB_len s 46
  refine ⟨by omega, by omega, fun i hi => ?_⟩
  have e : atL (splitB s 46) i = (splitB s 46)[i] := by simp [atL, hi]
  rw [e]
  have ha : labelB (splitB s 46)[i] = true := by
    unfold hostB at h
    rw [Bool.and_eq_true, Bool.and_eq_true, List.all_eq_true] at h
    exact h.1.2 _ (List.getElem_mem hi)
  exact ⟨labelB_pos ha, Nat.le_trans (piece_le (List.getElem_mem hi)) hz.2⟩

set_option maxRecDepth 10000 in
set_option maxHeartbeats 4000000 in
theorem suffixOf_any (v : Value) (n B : Nat) (f : Nat → ByteArray) (s : ByteArray) (w : World) (hG : MaxI w) (hs : SliceS w B v n f) (l1 : n ≤ 1048576) (hf : ∀ i, i < n → (f i).size ≤ 1048576) (hz : s.size ≤ 1048576) :
    Calls Tryz.prog 106 #[v, .string s] w fun e w' => e = .returned (sufV (sufOf n f s).1 (sufOf n f s).2) ∧ Below w.heap.size w w' := by
  have HSl : Hid (SliceS w B v n f) := hs
  have HG : Hid (MaxI w) := hG
  have KR : Hid (∀ W, MaxI W → SliceS W B v n f → Calls Tryz.prog 52 #[v] W fun e w' => e = .returned (.bool (rulesB n f)) ∧ Below W.heap.size W w') := fun W a b => rulesRight_any v n B f W a b l1 hf
  have KH : Hid (∀ W, MaxI W → Calls Tryz.prog 116 #[.string s] W fun e w' => e = .returned (.bool (hostB s)) ∧ Below W.heap.size W w') := fun W a => hostRight_any s W a hz
  have HN : Hid (¬ (rulesB n f = true ∧ hostB s = true) → sufOf n f s = (⟨#[]⟩, ⟨#[]⟩)) := fun h => by rw [sufOf, if_neg h]
  have HY : Hid (rulesB n f = true → hostB s = true → sufOf n f s = (sufS n f s, sufD n f s)) := fun a b => by rw [sufOf, if_pos ⟨a, b⟩]
  have HU : Hid (∀ t : TypeId, U2 (w.alloc (.cells #[.string ⟨#[]⟩, .string ⟨#[]⟩] t)) w.heap.size) := fun t => ⟨by simp, by simp, by simp, fun o => by simp⟩
  have B0 : Hid (∀ t : TypeId, Below w.heap.size w (w.alloc (.cells #[.string ⟨#[]⟩, .string ⟨#[]⟩] t))) := fun t => (Below.refl _ _).alloc (Nat.le_refl _) _
  cases hrb : rulesB n f with
  | false =>
    have HZ : Hid (sufOf n f s = (⟨#[]⟩, ⟨#[]⟩)) := HN.out (fun a => by rw [hrb] at a; cases a.1)
    rw [hrb] at KR
    clear hrb hf hs hG HN HY
    generalize sufOf n f s = SO at *
    go_enter Tryz.func106, Tryz.ntmps106
    go_wp2_with fail
    refine (KR.out _ (HG.out.on (B0.out _)) (HSl.out.below (B0.out _))).mono ?_
    rintro e w1 ⟨rfl, hb1⟩
    obtain ⟨hz1, x0, x1, xf⟩ := (HU.out _).below hb1
    have B1' : Hid (Below w.heap.size w w1) := (B0.out _).trans (hb1.mono (by simp))
    clear hb1
    go_wp2
    exact bodyPost_ret (v := sufV ⟨#[]⟩ ⟨#[]⟩) (by simp [sufV, results, Tryz.results106, go_sem, x0, x1]) rfl ⟨by rw [HZ.out], Below.setCell (Below.setCell B1'.out (Nat.le_refl _) _) (Nat.le_refl _) _⟩
  | true =>
    cases hhb : hostB s with
    | false =>
      have HZ : Hid (sufOf n f s = (⟨#[]⟩, ⟨#[]⟩)) := HN.out (fun a => by rw [hhb] at a; cases a.2)
      rw [hrb] at KR
      rw [hhb] at KH
      clear hrb hhb hf hs hG HN HY
      generalize sufOf n f s = SO at *
      go_enter Tryz.func106, Tryz.ntmps106
      go_wp2_with fail
      refine (KR.out _ (HG.out.on (B0.out _)) (HSl.out.below (B0.out _))).mono ?_
      rintro e w1 ⟨rfl, hb1⟩
      have U1 := (HU.out _).below hb1
      have B1' : Hid (Below w.heap.size w w1) := (B0.out _).trans (hb1.mono (by simp))
      clear hb1
      go_wp2_with fail
      refine (KH.out _ (HG.out.on B1'.out)).mono ?_
      rintro e w2 ⟨rfl, hb2⟩
      obtain ⟨hz2, x0, x1, xf⟩ := U1.below hb2
      have B2' : Hid (Below w.heap.size w w2) := B1'.out.trans (hb2.mono B1'.out.size)
      clear hb2 U1
      go_wp2
      exact bodyPost_ret (v := sufV ⟨#[]⟩ ⟨#[]⟩) (by simp [sufV, results, Tryz.results106, go_sem, x0, x1]) rfl ⟨by rw [HZ.out], Below.setCell (Below.setCell B2'.out (Nat.le_refl _) _) (Nat.le_refl _) _⟩
    | true =>
      obtain ⟨hm1, hm2, hpc⟩ := host_labels hhb
      have HP : Hid (∀ i, i < (splitB s 46).length → 0 < (atL (splitB s 46) i).size ∧ (atL (splitB s 46) i).size ≤ 100) := hpc
      have eL : labelsL s = splitB s 46 := by rw [labelsL, if_pos hhb]
      have KL : Hid (∀ W, MaxI W → Calls Tryz.prog 125 #[.string s] W fun e w' => ∃ v, e = .returned v ∧ SliceS w' W.heap.size v (splitB s 46).length (atL (splitB s 46)) ∧ Below W.heap.size W w' ∧ ∃ p c, v = .slice p (splitB s 46).length c ∧ (splitB s 46).length ≤ c) := fun W a => by
        have := labelsOf_cap s W a hz
        rw [eL] at this; exact this
      have KB : Hid (∀ (v2 : Value) (B2 : Nat) (W : World), MaxI W → SliceS W B v n f → SliceS W B2 v2 (splitB s 46).length (atL (splitB s 46)) → Calls Tryz.prog 126 #[v, v2] W fun e w' => e = .returned (.int .i64 (beginN n f (splitB s 46).length (atL (splitB s 46)) : Nat)) ∧ Below W.heap.size W w') :=
        fun v2 B2 W a b c => begin_any v v2 n _ B B2 f _ W a b c l1 (by omega) hm1 hf
      obtain ⟨hbc, hble⟩ := beginN_count n f (atL (splitB s 46)) hm1
      have hcle := countN_le n f (atL (splitB s 46)) hm1
      have EC : countN n f (splitB s 46).length (atL (splitB s 46)) = sufC n f s := rfl
      have ES : Hid (sufS n f s = tailN (atL (splitB s 46)) ((splitB s 46).length - sufC n f s) (sufC n f s)) := rfl
      have ED : Hid (sufD n f s = if sufC n f s < (splitB s 46).length then tailN (atL (splitB s 46)) ((splitB s 46).length - (sufC n f s + 1)) (sufC n f s + 1) else ⟨#[]⟩) := rfl
      have HZ : Hid (sufOf n f s = (sufS n f s, sufD n f s)) := HY.out hrb hhb
      rw [EC] at hbc hcle
      rw [hrb] at KR
      rw [hhb] at KH
      clear hrb hhb hf hs hG HN HY hpc eL EC
      generalize sufOf n f s = SO at *
      generalize sufS n f s = sS at *
      generalize sufD n f s = sD at *
      generalize sufC n f s = c at *
      generalize beginN n f (splitB s 46).length (atL (splitB s 46)) = b at *
      generalize (splitB s 46).length = m at *
      generalize atL (splitB s 46) = h at *
      obtain rfl : c = m - b := by omega
      have ES1 : Hid (sS = tailN h b (m - b)) := by show _ = _; rw [ES.out, show m - (m - b) = b by omega]
      clear hbc hcle ES
      go_enter Tryz.func106, Tryz.ntmps106
      go_wp2_with fail
      refine (KR.out _ (HG.out.on (B0.out _)) (HSl.out.below (B0.out _))).mono ?_
      rintro e w1 ⟨rfl, hb1⟩
      have U1 : Hid (U2 w1 w.heap.size) := (HU.out _).below hb1
      have B1' : Hid (Below w.heap.size w w1) := (B0.out _).trans (hb1.mono (by simp))
      clear hb1
      go_wp2_with fail
      refine (KH.out _ (HG.out.on B1'.out)).mono ?_
      rintro e w2 ⟨rfl, hb2⟩
      have U2' : Hid (U2 w2 w.heap.size) := U1.out.below hb2
      have B2' : Hid (Below w.heap.size w w2) := B1'.out.trans (hb2.mono B1'.out.size)
      clear hb2 U1
      go_wp2_with fail
      refine (KL.out _ (HG.out.on B2'.out)).mono ?_
      rintro e w3 ⟨vL, rfl, hsl, hb3, pL, cL, rfl, hcL⟩
      have U3' : Hid (U2 w3 w.heap.size) := U2'.out.below hb3
      have B3' : Hid (Below w.heap.size w w3) := B2'.out.trans (hb3.mono B2'.out.size)
      have SL : Hid (SliceS w3 w2.heap.size (.slice pL m cL) m h) := hsl
      clear hb3 hsl U2'
      go_wp2_with fail
      refine (KB.out _ _ _ (HG.out.on B3'.out) (HSl.out.below B3'.out) SL.out).mono ?_
      rintro e w4 ⟨rfl, hb4⟩
      have U4' : Hid (U2 w4 w.heap.size) := U3'.out.below hb4
      have B4' : Hid (Below w.heap.size w w4) := B3'.out.trans (hb4.mono B3'.out.size)
      have SL4 := SL.out.below hb4
      clear hb4 U3' SL KL KB KR KH
      obtain ⟨p', c', e', hg'⟩ := SL4
      obtain ⟨g, rfl, hgB, hgw, hgc⟩ := hg' (by omega)
      obtain ⟨rfl, rfl⟩ : pL = some ⟨g, 0, none⟩ ∧ cL = c' := by injection e' with a b c; exact ⟨a, c⟩
      have HC : Hid (∀ j, j < m → w4.cell? ⟨g, j, none⟩ = some (.string (h j)) ∧ w4.frozen? ⟨g, j, none⟩ = false) := hgc
      clear e' hg' hgc hgB
      have KJ : Hid (∀ (d : Nat) (W : World), d ≤ m → Below w4.heap.size w4 W → Calls Tryz.prog 127 #[.slice (some ⟨g, d, none⟩) (m - d) (cL - d), .string ⟨#[46]⟩] W fun e w' => e = .returned (.string (tailN h d (m - d))) ∧ Below W.heap.size W w') :=
        fun d W hd hb => join_call g d (m - d) (cL - d) h W (Nat.lt_of_lt_of_le hgw hb.size) (fun j hj => by rw [(bcell hb).1 _ _ hgw]; exact (HC.out (d + j) (by omega)).1) (by omega) (by omega) (fun j hj => HP.out (d + j) (by omega))
      have KX : Hid (cL = b → Calls Tryz.prog 127 #[.slice (some ⟨g, 0, none⟩) (m - b) 0, .string ⟨#[46]⟩] w4 fun e w' => e = .returned (.string (tailN h b (m - b))) ∧ Below w4.heap.size w4 w') := fun e => by
        rw [show m - b = 0 by omega]
        exact (Any.strings_Join_none Tryz.lays156 builderX _ _ _ w4).mono fun _ _ ⟨h1, h2⟩ => ⟨h1, h2 ▸ Below.refl _ _⟩
      have b0 : (0 : Int) ≤ b := by omega
      have b1 : (b : Int) ≤ (m : Int) := by omega
      have b2 : (m : Int) ≤ (cL : Int) := by omega
      rw [← ES1.out] at KX
      have KJb : Hid (∀ W : World, Below w4.heap.size w4 W → Calls Tryz.prog 127 #[.slice (some ⟨g, b, none⟩) (m - b) (cL - b), .string ⟨#[46]⟩] W fun e w' => e = .returned (.string sS) ∧ Below W.heap.size W w') := fun W a => by
        have := KJ.out b W hble a
        rw [← ES1.out] at this; exact this
      have KD : Hid (0 < b → ∀ W : World, Below w4.heap.size w4 W → Calls Tryz.prog 127 #[.slice (some ⟨g, b - 1, none⟩) (m - (b - 1)) (cL - (b - 1)), .string ⟨#[46]⟩] W fun e w' => e = .returned (.string sD) ∧ Below W.heap.size W w') := fun hb W a => by
        have := KJ.out (b - 1) W (by omega) a
        rw [ED.out, if_pos (by omega), show m - (m - b + 1) = b - 1 by omega, show m - b + 1 = m - (b - 1) by omega]; exact this
      have KE : Hid (b = 0 → sD = ⟨#[]⟩) := fun hb => by rw [ED.out, if_neg (by omega)]
      clear KJ ES1 ED HP HC
      by_cases hb : b = 0
      · subst hb
        have hcb : ¬ cL = 0 := by omega
        have KJ0 : Hid (Calls Tryz.prog 127 #[.slice (some ⟨g, 0, none⟩) m cL, .string ⟨#[46]⟩] w4 fun e w' => e = .returned (.string sS) ∧ Below w4.heap.size w4 w') := KJb.out w4 (Below.refl _ _)
        have HD : Hid (sD = ⟨#[]⟩) := KE.out rfl
        go_wp2_with fail
        refine KJ0.out.mono ?_
        rintro e w5 ⟨rfl, hb5⟩
        obtain ⟨hz5, x0, x1, xf⟩ := U4'.out.below hb5
        have B5' : Hid (Below w.heap.size w w5) := B4'.out.trans (hb5.mono B4'.out.size)
        clear hb5
        go_wp2
        have y0 : (((w5.setCell ⟨w.heap.size, 0, none⟩ (.string sS)).setCell ⟨w.heap.size, 1, none⟩ (.string ⟨#[]⟩)).alloc (.cells #[.string sS, .string ⟨#[]⟩] 125)).cell? ⟨w.heap.size, 0, none⟩ = some (.string sS) := by
          rw [World.cell?_alloc_lt _ _ _ (by simpa [World.setCell] using hz5), World.cell?_setCell_other _ _ _ _ (by simp)]
          exact World.cell?_setCell_same _ _ _ x0
        have y1 : (((w5.setCell ⟨w.heap.size, 0, none⟩ (.string sS)).setCell ⟨w.heap.size, 1, none⟩ (.string ⟨#[]⟩)).alloc (.cells #[.string sS, .string ⟨#[]⟩] 125)).cell? ⟨w.heap.size, 1, none⟩ = some (.string ⟨#[]⟩) := by
          rw [World.cell?_alloc_lt _ _ _ (by simpa [World.setCell] using hz5)]
          exact World.cell?_setCell_same _ _ _ ((World.cell?_setCell_other _ _ _ _ (by simp)).trans x1)
        have yb : Below w.heap.size w (((w5.setCell ⟨w.heap.size, 0, none⟩ (.string sS)).setCell ⟨w.heap.size, 1, none⟩ (.string ⟨#[]⟩)).alloc (.cells #[.string sS, .string ⟨#[]⟩] 125)) := ((B5'.out.setCell (Nat.le_refl _) _).setCell (Nat.le_refl _) _).alloc (by simp [World.setCell]; omega) _
        generalize ((w5.setCell ⟨w.heap.size, 0, none⟩ (.string sS)).setCell ⟨w.heap.size, 1, none⟩ (.string ⟨#[]⟩)).alloc (.cells #[.string sS, .string ⟨#[]⟩] 125) = W at *
        exact bodyPost_ret (v := sufV sS ⟨#[]⟩) (by simp [sufV, results, Tryz.results106, go_sem, y0, y1]) rfl ⟨by rw [HZ.out, HD.out], yb⟩
      obtain ⟨d, rfl⟩ : ∃ d, b = d + 1 := ⟨b - 1, by omega⟩
      have KD2 : Hid (∀ W : World, Below w4.heap.size w4 W → Calls Tryz.prog 127 #[.slice (some ⟨g, d, none⟩) (m - d) (cL - d), .string ⟨#[46]⟩] W fun e w' => e = .returned (.string sD) ∧ Below W.heap.size W w') := KD.out (by omega)
      have q : decide ((0 : Int) < (d : Int) + 1) = true := by rw [decide_eq_true_iff]; omega
      have hcd : ¬ cL = d := by omega
      have hd0 : (0 : Int) ≤ (d : Int) := by omega
      have hd1 : (d : Int) ≤ (m : Int) := by omega
      have KD3 : Hid (cL = d + 1 → ∀ W : World, Below w4.heap.size w4 W → Calls Tryz.prog 127 #[.slice (some ⟨g, d, none⟩) (m - d) 1, .string ⟨#[46]⟩] W fun e w' => e = .returned (.string sD) ∧ Below W.heap.size W w') := fun e W a => by
        have := KD2.out W a
        rw [show cL - d = 1 by omega] at this; exact this
      clear KD KE hb
      by_cases hcb : cL = d + 1
      all_goals
        go_wp2_with fail
        first | refine (KX.out hcb).mono ?_ | refine (KJb.out w4 (Below.refl _ _)).mono ?_
        rintro e w5 ⟨rfl, hb5⟩
        have U5' : Hid (U2 w5 w.heap.size) := U4'.out.below hb5
        have B5' : Hid (Below w.heap.size w w5) := B4'.out.trans (hb5.mono B4'.out.size)
        have B45 : Hid (Below w4.heap.size w4 w5) := hb5
        have HA6 : Hid (Below w5.heap.size w5 (w5.alloc (.cells #[.string sS, .string ⟨#[]⟩] 125))) := (Below.refl _ _).alloc (Nat.le_refl _) _
        clear hb5
        go_wp2_with fail
        first | refine (KD3.out hcb _ (B45.out.trans (HA6.out.mono B45.out.size))).mono ?_ | refine (KD2.out _ (B45.out.trans (HA6.out.mono B45.out.size))).mono ?_
        rintro e w6 ⟨rfl, hb6⟩
        have U6 := (U5'.out.below HA6.out).below hb6
        have z0 : w6.cell? ⟨w5.heap.size, 0, none⟩ = some (.string sS) := by rw [(bcell hb6).1 _ _ (by simp)]; simp
        have z1 : w6.cell? ⟨w5.heap.size, 1, none⟩ = some (.string ⟨#[]⟩) := by rw [(bcell hb6).1 _ _ (by simp)]; simp
        have zf : ∀ o, w6.frozen? ⟨w5.heap.size, o, none⟩ = false := fun o => by rw [(bcell hb6).2 _ _ (by simp)]; simp
        have hz6 : w5.heap.size < w6.heap.size := by have := hb6.size; simp at this; omega
        have hne : ¬ w5.heap.size = w.heap.size := by have := U5'.out.1; omega
        have B6' : Hid (Below w.heap.size w w6) := (B5'.out.trans (HA6.out.mono B5'.out.size)).trans (hb6.mono (by have := B5'.out.size; simp; omega))
        obtain ⟨hzw, x0, x1, xf⟩ := U6
        clear hb6
        go_wp2
        have y0 : (((w6.setCell ⟨w5.heap.size, 1, none⟩ (.string sD)).setCell ⟨w.heap.size, 0, none⟩ (.string sS)).setCell ⟨w.heap.size, 1, none⟩ (.string sD)).cell? ⟨w.heap.size, 0, none⟩ = some (.string sS) := by
          rw [World.cell?_setCell_other _ _ _ _ (by simp)]
          exact World.cell?_setCell_same _ _ _ ((World.cell?_setCell_other _ _ _ _ (by simp)).trans x0)
        have y1 : (((w6.setCell ⟨w5.heap.size, 1, none⟩ (.string sD)).setCell ⟨w.heap.size, 0, none⟩ (.string sS)).setCell ⟨w.heap.size, 1, none⟩ (.string sD)).cell? ⟨w.heap.size, 1, none⟩ = some (.string sD) :=
          World.cell?_setCell_same _ _ _ ((World.cell?_setCell_other _ _ _ _ (by simp)).trans ((World.cell?_setCell_other _ _ _ _ (by simp)).trans x1))
        have yb : Below w.heap.size w (((w6.setCell ⟨w5.heap.size, 1, none⟩ (.string sD)).setCell ⟨w.heap.size, 0, none⟩ (.string sS)).setCell ⟨w.heap.size, 1, none⟩ (.string sD)) := ((B6'.out.setCell (by have := U5'.out.1; simp; omega) _).setCell (Nat.le_refl _) _).setCell (Nat.le_refl _) _
        generalize ((w6.setCell ⟨w5.heap.size, 1, none⟩ (.string sD)).setCell ⟨w.heap.size, 0, none⟩ (.string sS)).setCell ⟨w.heap.size, 1, none⟩ (.string sD) = W at *
        exact bodyPost_ret (v := sufV sS sD) (by simp [sufV, results, Tryz.results106, go_sem, y0, y1]) rfl ⟨by rw [HZ.out], yb⟩
end Go.Proofs.YtnpaekjiafaahaaGreatDoor

/- The walks of the specification's l03Site and SiteOf. -/
namespace Go.Proofs.YtnpaekjiafaahaaGreatDoor
open Go.RowKit

/-- the domain, or the host if there is none -/
def siteD (n : Nat) (f : Nat → ByteArray) (ho : ByteArray) : ByteArray := if (sufD n f ho).toList.isEmpty = true then ho else sufD n f ho
def siteT (n : Nat) (f : Nat → ByteArray) (sc ho : ByteArray) : ByteArray := sc ++ ⟨#[58, 47, 47]⟩ ++ siteD n f ho
/-- what SiteOf tells -/
def siteOf (n : Nat) (f : Nat → ByteArray) (sc ho pa : ByteArray) (po : Int) : ByteArray := if rulesB n f = true ∧ urlB sc ho pa po = true then siteT n f sc ho else ⟨#[]⟩
/-- of one site -/
def sameS (n : Nat) (f : Nat → ByteArray) (sc ho pa : ByteArray) (po : Int) (sc2 ho2 pa2 : ByteArray) (po2 : Int) : Bool :=
  rulesB n f && urlB sc ho pa po && urlB sc2 ho2 pa2 po2 && ((siteT n f sc ho).toList == (siteT n f sc2 ho2).toList)
theorem sufD_size (n : Nat) (f : Nat → ByteArray) {s : ByteArray} (h : s.size ≤ 100) : (sufD n f s).size ≤ 20000 := by
  unfold sufD
  split
  · rename_i hc
    have hl := splitB_len s 46
    have := tailN_size (f := atL (splitB s 46)) (d := (splitB s 46).length - (sufC n f s + 1)) 100 (sufC n f s + 1) (fun i hi => piece_small h _ (by omega))
    have h2 : 101 * (sufC n f s + 1) ≤ 101 * 101 := Nat.mul_le_mul_left _ (by omega)
    omega
  · exact Nat.zero_le _
theorem hostB_url {sc ho pa : ByteArray} {po : Int} (h : urlB sc ho pa po = true) : hostB ho = true := by
  unfold urlB placeB at h
  rw [Bool.and_eq_true, Bool.and_eq_true, Bool.and_eq_true] at h
  exact h.1.1.2

set_option maxRecDepth 100000 in
theorem field_domain (a b : ByteArray) (W : World) : Sem.run Tryz.prog (Instr.field 125 (.agg #[.string a, .string b]) 1) W = .ok (.string b) W := by kernel_rfl
set_option maxRecDepth 10000 in
set_option maxHeartbeats 1000000 in
theorem specSite_any (v : Value) (n B : Nat) (f : Nat → ByteArray) (sc ho pa : ByteArray) (po : Int) (w : World) (hs : SliceS w B v n f) (l1 : n ≤ 1048576) (hf : ∀ i, i < n → 0 < (f i).size ∧ (f i).size ≤ 1000) (h5 : sc.size ≤ 5) (hh : ho.size ≤ 100) :
    Calls Tryz.prog 108 #[v, urlV sc ho pa po] w fun e w' => e = .returned (.string (siteT n f sc ho)) ∧ Below w.heap.size w w' := by
  have B0 : Hid (∀ t : TypeId, Below w.heap.size w (w.alloc (.cells #[.string sc, .string ho, .int .i64 po, .string pa] t))) := fun t => (Below.refl _ _).alloc (Nat.le_refl _) _
  have KO : Hid (∀ t : TypeId, Calls Tryz.prog 130 #[v, .string ho] (w.alloc (.cells #[.string sc, .string ho, .int .i64 po, .string pa] t)) fun e w' => e = .returned (.agg #[.string (sufS n f ho), .string (sufD n f ho)]) ∧ Below (w.alloc (.cells #[.string sc, .string ho, .int .i64 po, .string pa] t)).heap.size (w.alloc (.cells #[.string sc, .string ho, .int .i64 po, .string pa] t)) w') :=
    fun t => specOf_any v n B f ho _ (hs.below (B0.out t)) l1 hf hh
  have hz := sufD_size n f hh
  have ET : Hid (siteT n f sc ho = sc ++ ⟨#[58, 47, 47]⟩ ++ (if (sufD n f ho).toList.isEmpty = true then ho else sufD n f ho)) := rfl
  have h3 : (sc ++ ⟨#[58, 47, 47]⟩ : ByteArray).size ≤ 8 := by
    have e : (⟨#[58, 47, 47]⟩ : ByteArray).size = 3 := rfl
    rw [ByteArray.size_append, e]; omega
  clear hs hf
  generalize siteT n f sc ho = T at *
  generalize sufD n f ho = D at *
  generalize sufS n f ho = S at *
  unfold urlV
  have hfd : ∀ (a b : ByteArray) (W : World), Sem.run Tryz.prog (Instr.field 125 (.agg #[.string a, .string b]) 1) W = .ok (.string b) W := field_domain
  go_enter Tryz.func108, Tryz.ntmps108
  go_wp2_with fail
  refine (KO.out _).mono ?_
  rintro e w1 ⟨rfl, hb1⟩
  have c0 : w1.cell? ⟨w.heap.size, 0, none⟩ = some (.string sc) := by rw [(bcell hb1).1 _ _ (by simp)]; simp
  have c1 : w1.cell? ⟨w.heap.size, 1, none⟩ = some (.string ho) := by rw [(bcell hb1).1 _ _ (by simp)]; simp
  have B1 : Hid (Below w.heap.size w w1) := (B0.out _).trans (hb1.mono (by simp))
  clear hb1
  cases hd : D.toList.isEmpty with
  | true =>
    have HT : Hid (T = sc ++ ⟨#[58, 47, 47]⟩ ++ ho) := by show _ = _; rw [ET.out, if_pos hd]
    go_wp2
    go_ret
    exact ⟨ret_text HT.out.symm, B1.out⟩
  | false =>
    have HT : Hid (T = sc ++ ⟨#[58, 47, 47]⟩ ++ D) := by show _ = _; rw [ET.out, if_neg (by rw [hd]; decide)]
    go_wp2
    go_ret
    exact ⟨ret_text HT.out.symm, B1.out⟩
end Go.Proofs.YtnpaekjiafaahaaGreatDoor

/- The walks of the program's SiteOf and SameSite. -/
namespace Go.Proofs.YtnpaekjiafaahaaGreatDoor
open Go.RowKit

set_option maxRecDepth 10000 in
set_option maxHeartbeats 1000000 in
theorem siteOf_any (v : Value) (n B : Nat) (f : Nat → ByteArray) (sc ho pa : ByteArray) (po : Int) (w : World) (hG : MaxI w) (hs : SliceS w B v n f) (l1 : n ≤ 1048576) (hf : ∀ i, i < n → (f i).size ≤ 1048576) (hh : ho.size ≤ 1048576) :
    Calls Tryz.prog 72 #[v, urlV sc ho pa po] w fun e w' => e = .returned (.string (siteOf n f sc ho pa po)) ∧ Below w.heap.size w w' := by
  have HSl : Hid (SliceS w B v n f) := hs
  have HG : Hid (MaxI w) := hG
  have B0 : Hid (∀ t : TypeId, Below w.heap.size w (w.alloc (.cells #[.string sc, .string ho, .int .i64 po, .string pa] t))) := fun t => (Below.refl _ _).alloc (Nat.le_refl _) _
  have KR : Hid (∀ W, MaxI W → SliceS W B v n f → Calls Tryz.prog 52 #[v] W fun e w' => e = .returned (.bool (rulesB n f)) ∧ Below W.heap.size W w') := fun W a b => rulesRight_any v n B f W a b l1 hf
  have KU : Hid (∀ W, MaxI W → Calls Tryz.prog 44 #[.agg #[.string sc, .string ho, .int .i64 po, .string pa]] W fun e w' => e = .returned (.bool (urlB sc ho pa po)) ∧ Below W.heap.size W w') := fun W a => urlRight_any sc ho pa po W a hh
  have KT : Hid (∀ W, MaxI W → SliceS W B v n f → Calls Tryz.prog 106 #[v, .string ho] W fun e w' => e = .returned (.agg #[.string (sufOf n f ho).1, .string (sufOf n f ho).2]) ∧ Below W.heap.size W w') := fun W a b => suffixOf_any v n B f ho W a b l1 hf hh
  have HN : Hid (¬ (rulesB n f = true ∧ urlB sc ho pa po = true) → siteOf n f sc ho pa po = ⟨#[]⟩) := fun h => by rw [siteOf, if_neg h]
  have HY : Hid (rulesB n f = true → urlB sc ho pa po = true → siteOf n f sc ho pa po = sc ++ ⟨#[58, 47, 47]⟩ ++ (if (sufOf n f ho).2.toList.isEmpty = true then ho else (sufOf n f ho).2) ∧ sc.size ≤ 5 ∧ ho.size ≤ 100 ∧ (sufOf n f ho).2.size ≤ 20000) := fun a b => by
    have hp := urlB_parts b
    have e : sufOf n f ho = (sufS n f ho, sufD n f ho) := by rw [sufOf, if_pos ⟨a, hostB_url b⟩]
    rw [siteOf, if_pos ⟨a, b⟩, e]
    exact ⟨rfl, hp.1, hp.2.1, sufD_size n f hp.2.1⟩
  clear hf hs hG
  unfold urlV
  have hfd : ∀ (a b : ByteArray) (W : World), Sem.run Tryz.prog (Instr.field 125 (.agg #[.string a, .string b]) 1) W = .ok (.string b) W := field_domain
  generalize siteOf n f sc ho pa po = T at *
  generalize (sufOf n f ho).2 = D at *
  generalize (sufOf n f ho).1 = S at *
  generalize rulesB n f = rb at *
  generalize urlB sc ho pa po = ub at *
  cases rb with
  | false =>
    have HZ : Hid (T = ⟨#[]⟩) := HN.out (fun a => by cases a.1)
    go_enter Tryz.func72, Tryz.ntmps72
    go_wp2_with fail
    refine (KR.out _ (HG.out.on (B0.out _)) (HSl.out.below (B0.out _))).mono ?_
    rintro e w1 ⟨rfl, hb1⟩
    have B1 : Hid (Below w.heap.size w w1) := (B0.out _).trans (hb1.mono (by simp))
    clear hb1
    go_wp2
    go_ret
    exact ⟨ret_text HZ.out.symm, B1.out⟩
  | true =>
    have HN2 : Hid (ub = false → T = ⟨#[]⟩) := fun h => HN.out (fun a => by rw [h] at a; cases a.2)
    have HY2 : Hid _ := HY.out rfl
    clear HN HY
    go_enter Tryz.func72, Tryz.ntmps72
    go_wp2_with fail
    refine (KR.out _ (HG.out.on (B0.out _)) (HSl.out.below (B0.out _))).mono ?_
    rintro e w1 ⟨rfl, hb1⟩
    have c0 : w1.cell? ⟨w.heap.size, 0, none⟩ = some (.string sc) := by rw [(bcell hb1).1 _ _ (by simp)]; simp
    have c1 : w1.cell? ⟨w.heap.size, 1, none⟩ = some (.string ho) := by rw [(bcell hb1).1 _ _ (by simp)]; simp
    have c2 : w1.cell? ⟨w.heap.size, 2, none⟩ = some (.int .i64 po) := by rw [(bcell hb1).1 _ _ (by simp)]; simp
    have c3 : w1.cell? ⟨w.heap.size, 3, none⟩ = some (.string pa) := by rw [(bcell hb1).1 _ _ (by simp)]; simp
    have hz1 : w.heap.size < w1.heap.size := by have := hb1.size; simp at this; omega
    have B1 : Hid (Below w.heap.size w w1) := (B0.out _).trans (hb1.mono (by simp))
    clear hb1
    go_wp2_with fail
    refine (KU.out _ (HG.out.on B1.out)).mono ?_
    rintro e w2 ⟨rfl, hb2⟩
    have B2 : Hid (Below w.heap.size w w2) := B1.out.trans (hb2.mono B1.out.size)
    cases ub with
    | false =>
      have HZ : Hid (T = ⟨#[]⟩) := HN2.out rfl
      clear hb2
      go_wp2
      go_ret
      exact ⟨ret_text HZ.out.symm, B2.out⟩
    | true =>
      obtain ⟨hT, h5, h100, hD⟩ := HY2.out rfl
      have ET : Hid (T = sc ++ ⟨#[58, 47, 47]⟩ ++ (if D.toList.isEmpty = true then ho else D)) := hT
      have h3 : (sc ++ ⟨#[58, 47, 47]⟩ : ByteArray).size ≤ 8 := by
        have e : (⟨#[58, 47, 47]⟩ : ByteArray).size = 3 := rfl
        rw [ByteArray.size_append, e]; omega
      have d0 : w2.cell? ⟨w.heap.size, 0, none⟩ = some (.string sc) := by rw [(bcell hb2).1 _ _ hz1]; exact c0
      have d1 : w2.cell? ⟨w.heap.size, 1, none⟩ = some (.string ho) := by rw [(bcell hb2).1 _ _ hz1]; exact c1
      have hz2 : w.heap.size < w2.heap.size := Nat.lt_of_lt_of_le hz1 hb2.size
      clear hb2 c0 c1 c2 c3 HN2 HY2 hT
      go_wp2_with fail
      refine (KT.out _ (HG.out.on B2.out) (HSl.out.below B2.out)).mono ?_
      rintro e w3 ⟨rfl, hb3⟩
      have f0 : w3.cell? ⟨w.heap.size, 0, none⟩ = some (.string sc) := by rw [(bcell hb3).1 _ _ hz2]; exact d0
      have f1 : w3.cell? ⟨w.heap.size, 1, none⟩ = some (.string ho) := by rw [(bcell hb3).1 _ _ hz2]; exact d1
      have B3 : Hid (Below w.heap.size w w3) := B2.out.trans (hb3.mono B2.out.size)
      clear hb3 d0 d1
      cases hd : D.toList.isEmpty with
      | true =>
        have HT : Hid (T = sc ++ ⟨#[58, 47, 47]⟩ ++ ho) := by show _ = _; rw [ET.out, if_pos hd]
        go_wp2
        go_ret
        exact ⟨ret_text HT.out.symm, B3.out⟩
      | false =>
        have HT : Hid (T = sc ++ ⟨#[58, 47, 47]⟩ ++ D) := by show _ = _; rw [ET.out, if_neg (by rw [hd]; decide)]
        go_wp2
        go_ret
        exact ⟨ret_text HT.out.symm, B3.out⟩

theorem siteT_ne (n : Nat) (f : Nat → ByteArray) (sc ho : ByteArray) : (siteT n f sc ho).toList.isEmpty = false := by
  rw [Lib.toList_data, List.isEmpty_eq_false_iff]
  intro e
  have h : (siteT n f sc ho).size = 0 := by rw [Lib.size_eq, e]; rfl
  unfold siteT at h
  have e3 : (⟨#[58, 47, 47]⟩ : ByteArray).size = 3 := rfl
  rw [ByteArray.size_append, ByteArray.size_append, e3] at h
  omega
theorem sameS_site (n : Nat) (f : Nat → ByteArray) (sc ho pa : ByteArray) (po : Int) (sc2 ho2 pa2 : ByteArray) (po2 : Int) :
    sameS n f sc ho pa po sc2 ho2 pa2 po2 = (!(siteOf n f sc ho pa po).toList.isEmpty && ((siteOf n f sc ho pa po).toList == (siteOf n f sc2 ho2 pa2 po2).toList)) := by
  unfold sameS siteOf
  cases rulesB n f <;> cases urlB sc ho pa po <;> cases urlB sc2 ho2 pa2 po2 <;> simp [siteT_ne]

set_option maxRecDepth 10000 in
set_option maxHeartbeats 1000000 in
theorem sameSite_any (v : Value) (n B : Nat) (f : Nat → ByteArray) (sc ho pa : ByteArray) (po : Int) (sc2 ho2 pa2 : ByteArray) (po2 : Int) (w : World) (hG : MaxI w) (hs : SliceS w B v n f) (l1 : n ≤ 1048576) (hf : ∀ i, i < n → (f i).size ≤ 1048576) (hh : ho.size ≤ 1048576) (hh2 : ho2.size ≤ 1048576) :
    Calls Tryz.prog 78 #[v, urlV sc ho pa po, urlV sc2 ho2 pa2 po2] w fun e w' => e = .returned (.bool (sameS n f sc ho pa po sc2 ho2 pa2 po2)) ∧ Below w.heap.size w w' := by
  have HSl : Hid (SliceS w B v n f) := hs
  have HG : Hid (MaxI w) := hG
  have B0 : Hid (∀ t t2 : TypeId, Below w.heap.size w ((w.alloc (.cells #[.string sc, .string ho, .int .i64 po, .string pa] t)).alloc (.cells #[.string sc2, .string ho2, .int .i64 po2, .string pa2] t2))) := fun t t2 => ((Below.refl _ _).alloc (Nat.le_refl _) _).alloc (by simp) _
  have K1 : Hid (∀ W, MaxI W → SliceS W B v n f → Calls Tryz.prog 72 #[v, .agg #[.string sc, .string ho, .int .i64 po, .string pa]] W fun e w' => e = .returned (.string (siteOf n f sc ho pa po)) ∧ Below W.heap.size W w') := fun W a b => siteOf_any v n B f sc ho pa po W a b l1 hf hh
  have K2 : Hid (∀ W, MaxI W → SliceS W B v n f → Calls Tryz.prog 72 #[v, .agg #[.string sc2, .string ho2, .int .i64 po2, .string pa2]] W fun e w' => e = .returned (.string (siteOf n f sc2 ho2 pa2 po2)) ∧ Below W.heap.size W w') := fun W a b => siteOf_any v n B f sc2 ho2 pa2 po2 W a b l1 hf hh2
  have HE : Hid (sameS n f sc ho pa po sc2 ho2 pa2 po2 = (!(siteOf n f sc ho pa po).toList.isEmpty && ((siteOf n f sc ho pa po).toList == (siteOf n f sc2 ho2 pa2 po2).toList))) := sameS_site n f sc ho pa po sc2 ho2 pa2 po2
  clear hf hs hG
  unfold urlV
  generalize sameS n f sc ho pa po sc2 ho2 pa2 po2 = R at *
  generalize siteOf n f sc ho pa po = T at *
  generalize siteOf n f sc2 ho2 pa2 po2 = T2 at *
  go_enter Tryz.func78, Tryz.ntmps78
  go_wp2_with fail
  refine (K1.out _ (HG.out.on (B0.out _ _)) (HSl.out.below (B0.out _ _))).mono ?_
  rintro e w1 ⟨rfl, hb1⟩
  have c0 : w1.cell? ⟨w.heap.size + 1, 0, none⟩ = some (.string sc2) := by rw [(bcell hb1).1 _ _ (by simp)]; simp
  have c1 : w1.cell? ⟨w.heap.size + 1, 1, none⟩ = some (.string ho2) := by rw [(bcell hb1).1 _ _ (by simp)]; simp
  have c2 : w1.cell? ⟨w.heap.size + 1, 2, none⟩ = some (.int .i64 po2) := by rw [(bcell hb1).1 _ _ (by simp)]; simp
  have c3 : w1.cell? ⟨w.heap.size + 1, 3, none⟩ = some (.string pa2) := by rw [(bcell hb1).1 _ _ (by simp)]; simp
  have B1 : Hid (Below w.heap.size w w1) := (B0.out _ _).trans (hb1.mono (by simp; omega))
  clear hb1
  cases hd : T.toList.isEmpty with
  | true =>
    have HR : Hid (R = false) := by show _ = _; rw [HE.out, hd]; rfl
    go_wp2
    go_ret
    exact ⟨ret_bool HR.out.symm, B1.out⟩
  | false =>
    have HR : Hid (R = (T.toList == T2.toList)) := by show _ = _; rw [HE.out, hd]; rfl
    go_wp2_with fail
    refine (K2.out _ (HG.out.on B1.out) (HSl.out.below B1.out)).mono ?_
    rintro e w2 ⟨rfl, hb2⟩
    go_wp2
    go_ret
    exact ⟨ret_bool HR.out.symm, B1.out.trans (hb2.mono B1.out.size)⟩
end Go.Proofs.YtnpaekjiafaahaaGreatDoor

/- Who is a stranger, as a plain function. Written by thirds.py. -/
namespace Go.Proofs.YtnpaekjiafaahaaGreatDoor
open Go.RowKit

/-- is a of another site than x? -/
def strB (n : Nat) (f : Nat → ByteArray) (x a : Fr) : Bool := !((siteT n f a.sc a.ho).toList == (siteT n f x.sc x.ho).toList)
def thirdF (n : Nat) (f : Nat → ByteArray) (L : List Fr) (id : Int) : Bool := (framesB L && rulesB n f && hereF L id) && (wayF L id).any (strB n f (getF L id))
theorem strB_same {n : Nat} {f : Nat → ByteArray} (x : Fr) : strB n f x x = false := by unfold strB; simp
theorem sameS_str {n : Nat} {f : Nat → ByteArray} {a x : Fr} (hr : rulesB n f = true) (ha : uF a = true) (hx : uF x = true) : sameS n f a.sc a.ho a.pt a.po x.sc x.ho x.pt x.po = !(strB n f x a) := by
  unfold sameS strB
  unfold uF at ha hx
  rw [hr, ha, hx]; simp
theorem okF_u {L : List Fr} {k : Nat} (h : okF L k = true) : uF (atF L k) = true := by
  unfold okF frB at h
  simp only [Bool.and_eq_true] at h
  exact h.1.1.1.1.2
/-- on from a frame that is no stranger -/
theorem third_step {n : Nat} {f : Nat → ByteArray} {L : List Fr} {x : Fr} (h : framesB L = true) {k : Nat} (hk : k < L.length) (hs : strB n f x (atF L k) = false) : (wayF L (atF L k).id).any (strB n f x) = (wayF L (atF L k).pa).any (strB n f x) := by
  obtain ⟨h1, h2⟩ := here_at h hk
  rw [wayF_here h h1, h2, List.any_cons, hs, Bool.false_or]
theorem third_yes {n : Nat} {f : Nat → ByteArray} {L : List Fr} {x : Fr} (h : framesB L = true) {k : Nat} (hk : k < L.length) (hs : strB n f x (atF L k) = true) : (wayF L (atF L k).id).any (strB n f x) = true := by
  obtain ⟨h1, h2⟩ := here_at h hk
  rw [wayF_here h h1, h2, List.any_cons, hs, Bool.true_or]
theorem third_top {L : List Fr} {p : Fr → Bool} (h : framesB L = true) : (wayF L 0).any p = false := by
  have h0 : hereF L 0 = false := by
    rw [Bool.eq_false_iff]
    intro h0
    obtain ⟨j, hj, e⟩ := (hereF_iff _ _).1 h0
    have := ((ids_of h) j hj).1
    omega
  rw [wayF_none h0]; rfl
end Go.Proofs.YtnpaekjiafaahaaGreatDoor

/- The walks of the specification's OriginText and OriginSame. -/
namespace Go.Proofs.YtnpaekjiafaahaaGreatDoor
open Go.RowKit

theorem placeB_parts {sc ho : ByteArray} {po : Int} (h : placeB sc ho po = true) : sc.size ≤ 5 ∧ ho.size ≤ 100 ∧ 1 ≤ po ∧ po ≤ 65535 := by
  unfold placeB at h
  simp only [Bool.and_eq_true, decide_eq_true_eq] at h
  obtain ⟨⟨h1, h2⟩, h3, h4⟩ := h
  refine ⟨schemeB_size h1, ?_, h3, h4⟩
  by_cases hz : 100 < ho.size
  · rw [hostB_size hz] at h2; cases h2
  · omega

set_option maxRecDepth 10000 in
set_option maxHeartbeats 400000 in
theorem specL02Origin_any (sc ho : ByteArray) (po no : Int) (w : World) (hr : originB sc ho po no = true) :
    Calls Tryz.prog 107 #[originV sc ho po no] w fun e w' => e = .returned (.string (if no = 0 then placeT sc ho po else ⟨#[110, 117, 108, 108, 35]⟩ ++ decB no)) ∧ Below w.heap.size w w' := by
  unfold originV
  by_cases h0 : no = 0
  · rw [originB, if_pos h0] at hr
    have hp := placeB_parts hr
    have H1 := fun W => specText_any sc ho po W (by omega) (by omega) (by omega) (by omega)
    have q : (no != 0) = false := by rw [bne_eq_false_iff_eq]; exact h0
    rw [if_pos h0]
    clear h0 hr hp
    generalize placeT sc ho po = d at *
    have G1 : Hid (∀ W, Calls Tryz.prog 129 #[.string sc, .string ho, .int .i64 po] W fun e w' => e = .returned (.string d) ∧ Below W.heap.size W w') := H1
    clear H1
    go_enter Tryz.func107, Tryz.ntmps107
    go_wp2_with fail
    refine (G1.out _).mono ?_
    rintro e w1 ⟨rfl, hb⟩
    go_wp2
    go_ret
    exact ⟨rfl, ((Below.refl _ _).alloc (Nat.le_refl _) _).trans (hb.mono (by simp))⟩
  · rw [originB, if_neg h0] at hr
    simp only [Bool.and_eq_true, decide_eq_true_eq] at hr
    have q : (no != 0) = true := by rw [bne_iff_ne]; exact h0
    have hd := decB_size (n := no) (by omega) (by omega)
    have H1 := fun W => specDec_any no W (by omega) (by omega)
    rw [if_neg h0]
    clear h0 hr
    generalize decB no = d at *
    have G1 : Hid (∀ W, Calls Tryz.prog 128 #[.int .i64 no] W fun e w' => e = .returned (.string d) ∧ Below W.heap.size W w') := H1
    clear H1
    go_enter Tryz.func107, Tryz.ntmps107
    go_wp2_with fail
    refine (G1.out _).mono ?_
    rintro e w1 ⟨rfl, hb⟩
    go_wp2
    go_ret
    exact ⟨rfl, ((Below.refl _ _).alloc (Nat.le_refl _) _).trans (hb.mono (by simp))⟩

/-- field by field -/
def sameF (sc ho : ByteArray) (po no : Int) (sc2 ho2 : ByteArray) (po2 no2 : Int) : Bool := (sc.toList == sc2.toList) && (ho.toList == ho2.toList) && (po == po2) && (no == no2)
/-- are two right origins the same? -/
def sameO (sc ho : ByteArray) (po no : Int) (sc2 ho2 : ByteArray) (po2 no2 : Int) : Bool := originB sc ho po no && originB sc2 ho2 po2 no2 && sameF sc ho po no sc2 ho2 po2 no2
end Go.Proofs.YtnpaekjiafaahaaGreatDoor

/- The key of a frame, as a plain function. Written by keys9.py. -/
namespace Go.Proofs.YtnpaekjiafaahaaGreatDoor
open Go.RowKit

def ogT (o : Og) : ByteArray := originT o.sc o.ho o.po o.no
def keyT (n : Nat) (f : Nat → ByteArray) (L : List Fr) (id : Int) : ByteArray := ogT (ogF (getF L id)) ++ ⟨#[94]⟩ ++ siteT n f (topFr L id).sc (topFr L id).ho
def keyF (n : Nat) (f : Nat → ByteArray) (L : List Fr) (id : Int) : ByteArray := if (framesB L && rulesB n f && hereF L id) = true then (if thirdF n f L id = true then keyT n f L id ++ ⟨#[33]⟩ else keyT n f L id) else ⟨#[]⟩
theorem ogF_right {L : List Fr} (h : framesB L = true) {k : Nat} (hk : k < L.length) : originB (ogF (atF L k)).sc (ogF (atF L k)).ho (ogF (atF L k)).po (ogF (atF L k)).no = true := by
  have hu := okF_u ((framesB_parts h).2 k hk)
  have hi := ((ids_of h) k hk).1
  unfold uF at hu
  unfold ogF
  split
  · unfold originB
    rw [if_neg (by show ¬ (atF L k).id = 0; omega)]
    show ((decide (1 ≤ (atF L k).id) && decide ((atF L k).id ≤ 1000000)) && _ && _ && _) = true
    rw [decide_eq_true hi.1, decide_eq_true hi.2]
    dsimp only
    rw [Lib.toList_data]
    rfl
  · unfold ogUrl
    rw [if_pos hu]
    unfold originB
    rw [if_pos rfl]
    unfold urlB at hu
    rw [Bool.and_eq_true] at hu
    exact hu.1
theorem ogF_ho {L : List Fr} (h : framesB L = true) {k : Nat} (hk : k < L.length) : (ogF (atF L k)).ho.size ≤ 1048576 := by
  have hu := okF_u ((framesB_parts h).2 k hk)
  unfold uF at hu
  unfold ogF
  split
  · show (⟨#[]⟩ : ByteArray).size ≤ _; decide
  · unfold ogUrl; rw [if_pos hu]
    have := (urlB_parts hu).2.1
    show (atF L k).ho.size ≤ _; omega
theorem originT_size {sc ho : ByteArray} {po no : Int} (h : originB sc ho po no = true) : (originT sc ho po no).size ≤ 300 := by
  unfold originT
  rw [if_pos h]
  unfold originB at h
  split
  · rename_i h0
    rw [if_pos h0] at h
    obtain ⟨h1, h2, h3, h4⟩ := placeB_parts h
    have := placeT_size h1 h2 h3 h4
    omega
  · rename_i h0
    rw [if_neg h0] at h
    simp only [Bool.and_eq_true, decide_eq_true_eq] at h
    have h1 := decB_size (n := no) (by omega) (by omega)
    rw [ByteArray.size_append]
    have e : (⟨#[110, 117, 108, 108, 35]⟩ : ByteArray).size = 5 := rfl
    omega
theorem siteT_size {n : Nat} {f : Nat → ByteArray} {sc ho : ByteArray} (h1 : sc.size ≤ 5) (h2 : ho.size ≤ 100) : (siteT n f sc ho).size ≤ 30000 := by
  unfold siteT siteD
  have h3 := sufD_size n f h2
  have e : (⟨#[58, 47, 47]⟩ : ByteArray).size = 3 := rfl
  rw [ByteArray.size_append, ByteArray.size_append, e]
  split <;> omega
theorem getLast_mem9 {L : List Fr} {id : Int} (hL : framesB L = true) : ∀ (m : Nat) (i : Int), whF L i < m → hereF L i = true → ∃ k, k < L.length ∧ topFr L i = atF L k
  | 0, i, hm, hh => by
    obtain ⟨k, hk, e, -⟩ := here_wh hh
    omega
  | m + 1, i, hm, hh => by
    obtain ⟨k, hk, e, e1, e2⟩ := here_wh hh
    by_cases hp : (atF L k).pa = 0
    · exact ⟨k, hk, by rw [← e2]; exact topFr_top hL hk hp⟩
    · obtain ⟨j, hj, ej, eij⟩ := parent_here hL hk hp
      have hjl : j < L.length := by omega
      obtain ⟨k2, hk2, e3⟩ := getLast_mem9 (id := id) hL m (atF L j).id (by rw [eij, ej]; omega) (here_at hL hjl).1
      exact ⟨k2, hk2, by rw [← e2, topFr_in hL hk hjl eij]; exact e3⟩
theorem topFr_u {L : List Fr} {id : Int} (hL : framesB L = true) (hh : hereF L id = true) : uF (topFr L id) = true := by
  obtain ⟨k, hk, e⟩ := getLast_mem9 (id := id) hL (L.length + 1) id (by have := wh_len L id; omega) hh
  rw [e]; exact okF_u ((framesB_parts hL).2 k hk)
end Go.Proofs.YtnpaekjiafaahaaGreatDoor

/- The walks of the specification's l09Third and FrameThird. Written by thirds.py. -/
namespace Go.Proofs.YtnpaekjiafaahaaGreatDoor
open Go.RowKit

set_option maxRecDepth 10000 in
set_option maxHeartbeats 8000000 in
theorem specThird9_any (v rv : Value) (L : List Fr) (B Br n : Nat) (f : Nat → ByteArray) (id : Int) (w : World) (hs : SliceF w B v L) (hn : L.length ≤ 1048576) (hr : SliceS w Br rv n f) (l1 : n ≤ 1048576) (hL : framesB L = true) (hR : rulesB n f = true) (hh : hereF L id = true) :
    Calls Tryz.prog 79 #[v, rv, .int .i64 id] w fun e w' => e = .returned (.bool ((wayF L id).any (strB n f (getF L id)))) ∧ Below w.heap.size w w' := by
  have KA : Hid (∀ i W, Below w.heap.size w W → Calls Tryz.prog 63 #[v, .int .i64 i] W fun e w' => e = .returned (.int .i64 (whF L i)) ∧ w' = W) := fun i W hb => specAt_any v L B i W (hs.below hb) hn
  have KS : Hid (∀ k, k < L.length → ∀ W, Below w.heap.size w W → Calls Tryz.prog 108 #[rv, .agg #[.string (atF L k).sc, .string (atF L k).ho, .int .i64 (atF L k).po, .string (atF L k).pt]] W fun e w' => e = .returned (.string (siteT n f (atF L k).sc (atF L k).ho)) ∧ Below W.heap.size W w') := fun k hk W hb => by
    have hu := okF_u ((framesB_parts hL).2 k hk)
    unfold uF at hu
    exact specSite_any rv n Br f _ _ (atF L k).pt (atF L k).po W (hr.below hb) l1 (rulesB_parts hR).2 (urlB_parts hu).1 (urlB_parts hu).2.1
  have HL : Hid (framesB L = true) := hL
  obtain ⟨k0, hk0, ew, eg, ei⟩ := here_wh hh
  have HI : Hid ((wayF L id).any (strB n f (getF L id)) = (wayF L (atF L k0).id).any (strB n f (atF L k0))) := by show _ = _; rw [ei, eg]
  have H0 : Hid ((wayF L (atF L k0).id).any (strB n f (atF L k0)) = (wayF L (atF L k0).pa).any (strB n f (atF L k0))) := third_step hL hk0 (strB_same _)
  obtain ⟨⟨p, cap, rfl, hg⟩, -⟩ := hs
  obtain ⟨g, rfl, -, hgw, hc⟩ := hg (by omega)
  have HC : Hid (∀ W, Below w.heap.size w W → ∀ j, j < L.length → ∀ o, o < 9 → W.cell? ⟨g, j * 9 + o, none⟩ = some (frC (atF L j) o)) := fun W hb j hj o ho => (hb.cell (p := ⟨g, j * 9 + o, none⟩) hgw).trans (hc j hj o ho).1
  clear hg hc hL hgw eg ei hh hr hR
  generalize (wayF L id).any (strB n f (getF L id)) = R at *
  generalize hx : atF L k0 = x at *
  have KS0 := KS.out k0 hk0
  rw [hx] at KS0
  have c1 : ∀ o, o < 9 → w.cell? ⟨g, k0 * 9 + o, none⟩ = some (frC x o) := fun o ho => by rw [← hx]; exact HC.out w (Below.refl _ _) k0 hk0 o ho
  have HXX : Hid (atF L k0 = x) := hx
  clear hx
  obtain ⟨st, hst⟩ : ∃ st, st = siteT n f x.sc x.ho := ⟨_, rfl⟩
  rw [← hst] at KS0
  have HST : Hid (∀ a, strB n f x a = !((siteT n f a.sc a.ho).toList == st.toList)) := fun a => by rw [hst]; rfl
  clear hst
  have d2 : w.cell? ⟨g, k0 * 9 + 2, none⟩ = some (.string x.sc) := c1 2 (by omega)
  have d3 : w.cell? ⟨g, k0 * 9 + 3, none⟩ = some (.string x.ho) := c1 3 (by omega)
  have d4 : w.cell? ⟨g, k0 * 9 + 4, none⟩ = some (.int .i64 x.po) := c1 4 (by omega)
  have d5 : w.cell? ⟨g, k0 * 9 + 5, none⟩ = some (.string x.pt) := c1 5 (by omega)
  have KSx : Hid (∀ W, Below w.heap.size w W → Calls Tryz.prog 108 #[rv, .agg #[.string (x).sc, .string (x).ho, .int .i64 (x).po, .string (x).pt]] W fun e w' => e = .returned (.string st) ∧ Below W.heap.size W w') := KS0
  have k0' : (0 : Int) ≤ k0 := by omega
  have k1' : (k0 : Int) < L.length := by omega
  clear c1 KS0
  go_enter Tryz.func79, Tryz.ntmps79
  go_wp2_with fail
  refine (KA.out id _ (Below.refl _ _)).mono ?_
  rintro e w1 ⟨rfl, e1⟩
  rw [ew]
  subst e1
  go_wp2_with fail
  refine (KSx.out _ (Below.refl _ _)).mono ?_
  rintro e w2 ⟨rfl, hb2⟩
  have B2 : Hid (Below w1.heap.size w1 w2) := hb2
  clear hb2 d2 d3 d4 d5 KSx
  go_wp2
  go_loopw [7] (fun i wr => ∃ k : Nat, k < L.length ∧ i = .int .i64 k ∧ Hid (R = (wayF L (atF L k).pa).any (strB n f x)) ∧ Hid (Below w1.heap.size w1 wr)) (fun i _ => (intOf i).toNat)
  case atStart => exact ⟨k0, hk0, rfl, by show R = _; rw [HI.out, HXX.out]; exact H0.out, B2⟩
  case round =>
    obtain ⟨k, hk, rfl, HR, HB⟩ := hrel
    have c1 : wr.cell? ⟨g, k * 9 + 1, none⟩ = some (.int .i64 (atF L k).pa) := HC.out wr HB.out k hk 1 (by omega)
    have k0' : (0 : Int) ≤ k := by omega
    have k1 : (k : Int) < L.length := by omega
    by_cases hp : (atF L k).pa = 0
    · have hq : ((atF L k).pa != 0) = false := by rw [hp]; rfl
      have HQ : Hid (R = false) := by show _ = _; rw [HR.out, hp, third_top HL.out]
      generalize (atF L k).pa = pa at *
      go_wp2
      go_ret
      exact ⟨ret_bool HQ.out.symm, HB.out⟩
    · have hq : ((atF L k).pa != 0) = true := by rw [bne_iff_ne]; exact hp
      obtain ⟨j, hj, ej, eij⟩ := parent_here HL.out hk hp
      have HRj : Hid (R = (wayF L (atF L j).id).any (strB n f x)) := by show R = _; rw [HR.out, eij]
      have KA2 : Hid (Calls Tryz.prog 63 #[.slice (some ⟨g, 0, none⟩) L.length cap, .int .i64 (atF L k).pa] wr fun e w' => e = .returned (.int .i64 (j : Int)) ∧ w' = wr) := by
        have h := KA.out (atF L k).pa wr HB.out
        rw [ej] at h
        exact h
      have hjl : j < L.length := by omega
      have d2 : wr.cell? ⟨g, j * 9 + 2, none⟩ = some (.string (atF L j).sc) := HC.out wr HB.out j hjl 2 (by omega)
      have d3 : wr.cell? ⟨g, j * 9 + 3, none⟩ = some (.string (atF L j).ho) := HC.out wr HB.out j hjl 3 (by omega)
      have d4 : wr.cell? ⟨g, j * 9 + 4, none⟩ = some (.int .i64 (atF L j).po) := HC.out wr HB.out j hjl 4 (by omega)
      have d5 : wr.cell? ⟨g, j * 9 + 5, none⟩ = some (.string (atF L j).pt) := HC.out wr HB.out j hjl 5 (by omega)
      have KS1 : Hid (Calls Tryz.prog 108 #[rv, .agg #[.string (atF L j).sc, .string (atF L j).ho, .int .i64 (atF L j).po, .string (atF L j).pt]] wr fun e w' => e = .returned (.string (siteT n f (atF L j).sc (atF L j).ho)) ∧ Below wr.heap.size wr w') := KS.out j hjl wr HB.out
      have j0 : (0 : Int) ≤ j := by omega
      have j1 : (j : Int) < L.length := by omega
      have HSJ : Hid (strB n f x (atF L j) = !((siteT n f (atF L j).sc (atF L j).ho).toList == st.toList)) := HST.out _
      have HNo : Hid (strB n f x (atF L j) = false → R = (wayF L (atF L j).pa).any (strB n f x)) := fun h => by rw [HRj.out, third_step HL.out hjl h]
      have HYe : Hid (strB n f x (atF L j) = true → R = true) := fun h => by rw [HRj.out, third_yes HL.out hjl h]
      clear ej eij HR HRj
      generalize (atF L k).pa = pa at *
      generalize siteT n f (atF L j).sc (atF L j).ho = sj at *
      go_wp2_with fail
      refine KA2.out.mono ?_
      rintro e w2 ⟨rfl, e2⟩
      subst e2
      clear c1 KA2
      go_wp2_with fail
      refine KS1.out.mono ?_
      rintro e w3 ⟨rfl, hb3⟩
      have B3 : Hid (Below w1.heap.size w1 w3) := HB.out.trans (hb3.mono HB.out.size)
      clear hb3 d2 d3 d4 d5 KS1
      cases hq2 : (sj.toList == st.toList) with
      | false =>
        have HQ : Hid (R = true) := HYe.out (by rw [HSJ.out, hq2]; rfl)
        have hq3 : (sj.toList != st.toList) = true := by unfold bne; rw [hq2]; rfl
        go_wp2
        go_ret
        exact ⟨ret_bool HQ.out.symm, B3.out⟩
      | true =>
        have HQ : Hid (R = (wayF L (atF L j).pa).any (strB n f x)) := HNo.out (by rw [HSJ.out, hq2]; rfl)
        have hq3 : (sj.toList != st.toList) = false := by unfold bne; rw [hq2]; rfl
        clear HSJ HNo HYe
        go_wp2
        go_roundw
        case rel => exact ⟨j, hjl, rfl, HQ, B3⟩
        case measure => simp [intOf]; omega
set_option maxRecDepth 10000 in
set_option maxHeartbeats 8000000 in
theorem specFrameThird_any (v rv : Value) (L : List Fr) (B Br n : Nat) (f : Nat → ByteArray) (id : Int) (w : World) (hs : SliceF w B v L) (hn : L.length ≤ 1048576) (hr : SliceS w Br rv n f) (l1 : n ≤ 1048576) (hf : ∀ i, i < n → (f i).size ≤ 1048576) :
    Calls Tryz.prog 31 #[v, rv, .int .i64 id] w fun e w' => e = .returned (.bool (thirdF n f L id)) ∧ Below w.heap.size w w' := by
  have KA : Hid (∀ W, Below w.heap.size w W → Calls Tryz.prog 63 #[v, .int .i64 id] W fun e w' => e = .returned (.int .i64 (whF L id)) ∧ w' = W) := fun W hb => specAt_any v L B id W (hs.below hb) hn
  have KF : Hid (∀ W, Below w.heap.size w W → Calls Tryz.prog 17 #[v] W fun e w' => e = .returned (.bool (framesB L)) ∧ Below W.heap.size W w') := fun W hb => specFrames_any v L B W (hs.below hb) hn
  have KR : Hid (∀ W, Below w.heap.size w W → Calls Tryz.prog 61 #[rv] W fun e w' => e = .returned (.bool (rulesB n f)) ∧ Below W.heap.size W w') := fun W hb => specRules_any rv n Br f W (hr.below hb) l1 hf
  have KT0 : framesB L = true → rulesB n f = true → hereF L id = true → ∀ W, Below w.heap.size w W → Calls Tryz.prog 79 #[v, rv, .int .i64 id] W fun e w' => e = .returned (.bool ((wayF L id).any (strB n f (getF L id)))) ∧ Below W.heap.size W w' := fun h1 h2 h3 W hb => specThird9_any v rv L B Br n f id W (hs.below hb) hn (hr.below hb) l1 h1 h2 h3
  have HE : Hid (thirdF n f L id = ((framesB L && rulesB n f && hereF L id) && (wayF L id).any (strB n f (getF L id)))) := rfl
  have HZ : Hid (hereF L id = decide (0 ≤ whF L id)) := rfl
  have H10 : Hid (framesB L = true → L.length ≤ 10) := fun h => (framesB_parts h).1
  have H20 : Hid (rulesB n f = true → n ≤ 20) := fun h => (rulesB_parts h).1
  obtain ⟨p, cap, rfl⟩ : ∃ p cap, v = .slice p L.length cap := by obtain ⟨-, p, c, e, -⟩ := hs; exact ⟨p, c, e⟩
  obtain ⟨pr, capr, rfl⟩ : ∃ p cap, rv = .slice p n cap := by obtain ⟨p, c, e, -⟩ := hr; exact ⟨p, c, e⟩
  clear hs hr hf
  generalize thirdF n f L id = R at *
  generalize (wayF L id).any (strB n f (getF L id)) = an at *
  generalize framesB L = fb at *
  generalize rulesB n f = rb at *
  generalize hereF L id = hf at *
  generalize whF L id = z at *
  by_cases h4 : L.length ≤ 400
  · have q4 : decide ((L.length : Int) ≤ 400) = true := by rw [decide_eq_true_iff]; omega
    by_cases h5 : n ≤ 400
    · have q5 : decide ((n : Int) ≤ 400) = true := by rw [decide_eq_true_iff]; omega
      clear H10 H20
      have KT1 : Hid (fb = true → rb = true → hf = true → ∀ W, Below w.heap.size w W → Calls Tryz.prog 79 #[.slice p L.length cap, .slice pr n capr, .int .i64 id] W fun e w' => e = .returned (.bool an) ∧ Below W.heap.size W w') := KT0
      clear KT0
      go_enter Tryz.func31, Tryz.ntmps31
      go_wp2_with fail
      refine (KF.out _ (Below.refl _ _)).mono ?_
      rintro e w1 ⟨rfl, hb1⟩
      have B1 : Hid (Below w.heap.size w w1) := hb1
      clear hb1 KF
      cases fb with
      | false =>
        have HQ : Hid (R = false) := by show R = _; rw [HE.out]; rfl
        go_wp2
        go_ret
        exact ⟨ret_bool HQ.out.symm, B1.out⟩
      | true =>
      have KT2 : Hid (rb = true → hf = true → ∀ W, Below w.heap.size w W → Calls Tryz.prog 79 #[.slice p L.length cap, .slice pr n capr, .int .i64 id] W fun e w' => e = .returned (.bool an) ∧ Below W.heap.size W w') := KT1.out rfl
      clear KT1
      go_wp2_with fail
      refine (KR.out _ B1.out).mono ?_
      rintro e w2 ⟨rfl, hb2⟩
      have B2 : Hid (Below w.heap.size w w2) := B1.out.trans (hb2.mono B1.out.size)
      clear hb2 KR
      cases rb with
      | false =>
        have HQ : Hid (R = false) := by show R = _; rw [HE.out]; rfl
        go_wp2
        go_ret
        exact ⟨ret_bool HQ.out.symm, B2.out⟩
      | true =>
      have KT3 : Hid (hf = true → ∀ W, Below w.heap.size w W → Calls Tryz.prog 79 #[.slice p L.length cap, .slice pr n capr, .int .i64 id] W fun e w' => e = .returned (.bool an) ∧ Below W.heap.size W w') := KT2.out rfl
      clear KT2
      go_wp2_with fail
      refine (KA.out _ B2.out).mono ?_
      rintro e w3 ⟨rfl, e3⟩
      subst e3
      clear KA
      cases hf with
      | false =>
        have q0 : decide (0 ≤ z) = false := HZ.out.symm
        have HQ : Hid (R = false) := by show R = _; rw [HE.out]; rfl
        go_wp2
        go_ret
        exact ⟨ret_bool HQ.out.symm, B2.out⟩
      | true =>
        have q0 : decide (0 ≤ z) = true := HZ.out.symm
        have HQ : Hid (R = an) := by show R = _; rw [HE.out]; rfl
        have KT : Hid (∀ W, Below w.heap.size w W → Calls Tryz.prog 79 #[.slice p L.length cap, .slice pr n capr, .int .i64 id] W fun e w' => e = .returned (.bool an) ∧ Below W.heap.size W w') := KT3.out rfl
        clear KT3
        go_wp2_with fail
        refine (KT.out _ B2.out).mono ?_
        rintro e w4 ⟨rfl, hb4⟩
        have B4 : Hid (Below w.heap.size w w4) := B2.out.trans (hb4.mono B2.out.size)
        clear hb4
        go_wp2
        go_ret
        exact ⟨ret_bool HQ.out.symm, B4.out⟩
    · have q5 : decide ((n : Int) ≤ 400) = false := by rw [decide_eq_false_iff_not]; omega
      have HQ : Hid (R = false) := by
        show R = _
        rw [HE.out]
        cases rb with
        | false => simp
        | true => exact absurd (H20.out rfl) (by omega)
      go_enter Tryz.func31, Tryz.ntmps31
      go_wp2
      go_ret
      exact ⟨ret_bool HQ.out.symm, Below.refl _ _⟩
  · have q4 : decide ((L.length : Int) ≤ 400) = false := by rw [decide_eq_false_iff_not]; omega
    have HQ : Hid (R = false) := by
      show R = _
      rw [HE.out]
      cases fb with
      | false => simp
      | true => exact absurd (H10.out rfl) (by omega)
    go_enter Tryz.func31, Tryz.ntmps31
    go_wp2
    go_ret
    exact ⟨ret_bool HQ.out.symm, Below.refl _ _⟩
end Go.Proofs.YtnpaekjiafaahaaGreatDoor

/- The walks of the specification's l09Origin and FrameOrigin. Written by specorg9.py. -/
namespace Go.Proofs.YtnpaekjiafaahaaGreatDoor
open Go.RowKit

set_option maxRecDepth 10000 in
set_option maxHeartbeats 4000000 in
theorem specOrg9_any (y : Fr) (w : World) :
    Calls Tryz.prog 75 #[frV y] w fun e w' => e = .returned (ogV (ogF y)) ∧ Below w.heap.size w w' := by
  have KO0 : ∀ W, Calls Tryz.prog 20 #[.agg #[.string y.sc, .string y.ho, .int .i64 y.po, .string y.pt]] W fun e w' => e = .returned (ogV (ogUrl y.sc y.ho y.pt y.po)) ∧ Below W.heap.size W w' := fun W => by
    have := specOriginOf_any y.sc y.ho y.pt y.po W
    rw [ogUrl_V] at this
    exact this
  have HO1 : Hid (y.sb = true → ogF y = ⟨⟨#[]⟩, ⟨#[]⟩, 0, y.id⟩) := fun h => by unfold ogF; rw [if_pos h]
  have HO2 : Hid (y.sb = false → ogF y = ogUrl y.sc y.ho y.pt y.po) := fun h => by unfold ogF; rw [if_neg (by rw [h]; decide)]
  generalize ogF y = q at *
  generalize hou : ogUrl y.sc y.ho y.pt y.po = ou at *
  clear hou
  obtain ⟨yid, ypa, ysc, yho, ypo, ypt, ysb, yfl, ytc⟩ := y
  obtain ⟨o1, o2, o3, o4⟩ := ou
  unfold frV ogV at *
  dsimp only at *
  have KO : Hid (∀ W, Calls Tryz.prog 20 #[.agg #[.string ysc, .string yho, .int .i64 ypo, .string ypt]] W fun e w' => e = .returned (.agg #[.string o1, .string o2, .int .i64 o3, .int .i64 o4]) ∧ Below W.heap.size W w') := KO0
  clear KO0
  cases ysb with
  | true =>
    have HR : Hid (q = ⟨⟨#[]⟩, ⟨#[]⟩, 0, yid⟩) := HO1.out rfl
    clear HO1 HO2 KO
    go_enter Tryz.func75, Tryz.ntmps75
    go_wp2
    exact bodyPost_ret (v := .agg #[.string ⟨#[]⟩, .string ⟨#[]⟩, .int .i64 0, .int .i64 yid]) (by simp [results, Tryz.results75, go_sem]) rfl ⟨by rw [HR.out], ((Below.refl _ _).alloc (Nat.le_refl _) _).alloc (by simp) _⟩
  | false =>
    have HR : Hid (q = ⟨o1, o2, o3, o4⟩) := HO2.out rfl
    clear HO1 HO2
    have HX0 : Hid (BoxV ((w.alloc (.cells #[.int .i64 yid, .int .i64 ypa, .string ysc, .string yho, .int .i64 ypo, .string ypt, .bool false, .bool yfl, .int .i64 ytc] 45)).alloc (.cells #[.string ⟨#[]⟩, .string ⟨#[]⟩, .int .i64 0, .int .i64 0] 41)) (w.heap.size + 1) [.string ⟨#[]⟩, .string ⟨#[]⟩, .int .i64 0, .int .i64 0]) := by
      have h := boxV_new (w.alloc (.cells #[.int .i64 yid, .int .i64 ypa, .string ysc, .string yho, .int .i64 ypo, .string ypt, .bool false, .bool yfl, .int .i64 ytc] 45)) [.string ⟨#[]⟩, .string ⟨#[]⟩, .int .i64 0, .int .i64 0] 41
      rw [World.size_alloc] at h
      exact h
    go_enter Tryz.func75, Tryz.ntmps75
    go_wp2_with fail
    refine (KO.out _).mono ?_
    rintro e w1 ⟨rfl, hb1⟩
    have HX1 : Hid (BoxV w1 (w.heap.size + 1) [.string ⟨#[]⟩, .string ⟨#[]⟩, .int .i64 0, .int .i64 0]) := HX0.out.below hb1
    have B1 : Hid (Below w.heap.size w w1) := (((Below.refl _ _).alloc (Nat.le_refl _) _).alloc (by simp) _).trans (hb1.mono (by simp; omega))
    clear hb1 HX0 KO
    have x0 : w1.cell? ⟨w.heap.size + 1, 0, none⟩ = some (.string ⟨#[]⟩) := HX1.out.at (i := 0) rfl
    have xf0 : w1.frozen? ⟨w.heap.size + 1, 0, none⟩ = false := HX1.out.free (i := 0) rfl
    have x1 : w1.cell? ⟨w.heap.size + 1, 1, none⟩ = some (.string ⟨#[]⟩) := HX1.out.at (i := 1) rfl
    have xf1 : w1.frozen? ⟨w.heap.size + 1, 1, none⟩ = false := HX1.out.free (i := 1) rfl
    have x2 : w1.cell? ⟨w.heap.size + 1, 2, none⟩ = some (.int .i64 0) := HX1.out.at (i := 2) rfl
    have xf2 : w1.frozen? ⟨w.heap.size + 1, 2, none⟩ = false := HX1.out.free (i := 2) rfl
    have x3 : w1.cell? ⟨w.heap.size + 1, 3, none⟩ = some (.int .i64 0) := HX1.out.at (i := 3) rfl
    have xf3 : w1.frozen? ⟨w.heap.size + 1, 3, none⟩ = false := HX1.out.free (i := 3) rfl
    clear HX1
    go_wp2
    exact bodyPost_ret (v := .agg #[.string o1, .string o2, .int .i64 o3, .int .i64 o4]) (by simp [results, Tryz.results75, go_sem, x0, x1, x2, x3]) rfl ⟨by rw [HR.out], (Below.setCell (Below.setCell (Below.setCell (Below.setCell B1.out (Nat.le_succ _) _) (Nat.le_succ _) _) (Nat.le_succ _) _) (Nat.le_succ _) _)⟩
set_option maxRecDepth 10000 in
set_option maxHeartbeats 4000000 in
theorem specFrameOrigin_any (v : Value) (L : List Fr) (B : Nat) (id : Int) (w : World) (hs : SliceF w B v L) (hn : L.length ≤ 1048576) :
    Calls Tryz.prog 29 #[v, .int .i64 id] w fun e w' => e = .returned (ogV (orgF L id)) ∧ Below w.heap.size w w' := by
  have KA : Hid (∀ W, Below w.heap.size w W → Calls Tryz.prog 63 #[v, .int .i64 id] W fun e w' => e = .returned (.int .i64 (whF L id)) ∧ w' = W) := fun W hb => specAt_any v L B id W (hs.below hb) hn
  have KR : Hid (∀ W, Below w.heap.size w W → Calls Tryz.prog 17 #[v] W fun e w' => e = .returned (.bool (framesB L)) ∧ Below W.heap.size W w') := fun W hb => specFrames_any v L B W (hs.below hb) hn
  have KO0 : ∀ W, Calls Tryz.prog 75 #[frV (getF L id)] W fun e w' => e = .returned (ogV (ogF (getF L id))) ∧ Below W.heap.size W w' := fun W => specOrg9_any _ W
  have HE : Hid (orgF L id = if (hereF L id && framesB L) = true then ogF (getF L id) else ogNone) := rfl
  have HH : Hid (hereF L id = true → (whF L id).toNat < L.length ∧ (whF L id) = ((whF L id).toNat : Int)) := fun h => hereF_at h
  have HZ : Hid (hereF L id = decide (0 ≤ whF L id)) := rfl
  have HGe : Hid (getF L id = atF L (whF L id).toNat) := rfl
  have HLong : Hid (10 < L.length → framesB L = false) := framesB_long
  have HS : Hid (SliceF w B v L) := hs
  have HX0 : Hid (BoxV (w.alloc (.cells #[.string ⟨#[]⟩, .string ⟨#[]⟩, .int .i64 0, .int .i64 0] 41)) w.heap.size [.string ⟨#[]⟩, .string ⟨#[]⟩, .int .i64 0, .int .i64 0]) := boxV_new w [.string ⟨#[]⟩, .string ⟨#[]⟩, .int .i64 0, .int .i64 0] 41
  have HB0 : Hid (Below w.heap.size w (w.alloc (.cells #[.string ⟨#[]⟩, .string ⟨#[]⟩, .int .i64 0, .int .i64 0] 41))) := (Below.refl _ _).alloc (Nat.le_refl _) _
  have HV : Hid (∃ p cap, v = .slice p L.length cap) := by obtain ⟨-, p, c, e, -⟩ := hs; exact ⟨p, c, e⟩
  clear hs
  obtain ⟨p, cap, rfl⟩ := HV.out
  clear HV
  generalize orgF L id = R at *
  generalize framesB L = fb at *
  generalize getF L id = y at *
  generalize hereF L id = hf at *
  generalize whF L id = z at *
  by_cases h400 : 400 < L.length
  · have HQ : Hid (R = ogNone) := by show R = _; rw [HE.out, HLong.out (by omega), Bool.and_false, if_neg (by decide)]
    have q4 : decide ((400 : Int) < (L.length : Int)) = true := by rw [decide_eq_true_iff]; omega
    go_enter Tryz.func29, Tryz.ntmps29
    go_wp2_with fail
    refine (KA.out _ HB0.out).mono ?_
    rintro e w1 ⟨rfl, e1⟩
    subst e1
    go_wp2
    exact bodyPost_ret (v := .agg #[.string ⟨#[]⟩, .string ⟨#[]⟩, .int .i64 0, .int .i64 0]) (by simp [results, Tryz.results29, go_sem]) rfl ⟨by rw [HQ.out]; rfl, HB0.out⟩
  have q4 : decide ((400 : Int) < (L.length : Int)) = false := by rw [decide_eq_false_iff_not]; omega
  cases hf with
  | false =>
    have HQ : Hid (R = ogNone) := by show R = _; rw [HE.out, Bool.false_and, if_neg (by decide)]
    have q0 : decide (z < 0) = true := by
      have h : false = decide (0 ≤ z) := HZ.out
      have := of_decide_eq_false h.symm
      exact decide_eq_true (by omega)
    go_enter Tryz.func29, Tryz.ntmps29
    go_wp2_with fail
    refine (KA.out _ HB0.out).mono ?_
    rintro e w1 ⟨rfl, e1⟩
    subst e1
    go_wp2
    exact bodyPost_ret (v := .agg #[.string ⟨#[]⟩, .string ⟨#[]⟩, .int .i64 0, .int .i64 0]) (by simp [results, Tryz.results29, go_sem]) rfl ⟨by rw [HQ.out]; rfl, HB0.out⟩
  | true =>
  have q0 : decide (z < 0) = false := by
    have h : true = decide (0 ≤ z) := HZ.out
    have := of_decide_eq_true h.symm
    exact decide_eq_false (by omega)
  obtain ⟨k, hk, hz2⟩ : ∃ k : Nat, k = z.toNat ∧ z = (k : Int) := ⟨z.toNat, rfl, (HH.out rfl).2⟩
  have k1 : k < L.length := by rw [hk]; exact (HH.out rfl).1
  have HGk : Hid (y = atF L k) := by show y = _; rw [hk]; exact HGe.out
  clear HZ HH HGe hk HLong
  subst hz2
  go_enter Tryz.func29, Tryz.ntmps29
  go_wp2_with fail
  refine (KA.out _ HB0.out).mono ?_
  rintro e w1 ⟨rfl, e1⟩
  subst e1
  go_wp2_with fail
  refine (KR.out _ HB0.out).mono ?_
  rintro e w2 ⟨rfl, hb2⟩
  have HX2 : Hid (BoxV w2 w.heap.size [.string ⟨#[]⟩, .string ⟨#[]⟩, .int .i64 0, .int .i64 0]) := HX0.out.below hb2
  have B2 : Hid (Below w.heap.size w w2) := HB0.out.trans (hb2.mono HB0.out.size)
  clear hb2 HX0 HB0 KA KR
  generalize hbb : w.heap.size = b at *
  cases fb with
  | false =>
    have HQ : Hid (R = ogNone) := by show R = _; rw [HE.out, Bool.and_false, if_neg (by decide)]
    have x0 : w2.cell? ⟨b, 0, none⟩ = some (.string ⟨#[]⟩) := HX2.out.at (i := 0) rfl
    have xf0 : w2.frozen? ⟨b, 0, none⟩ = false := HX2.out.free (i := 0) rfl
    have x1 : w2.cell? ⟨b, 1, none⟩ = some (.string ⟨#[]⟩) := HX2.out.at (i := 1) rfl
    have xf1 : w2.frozen? ⟨b, 1, none⟩ = false := HX2.out.free (i := 1) rfl
    have x2 : w2.cell? ⟨b, 2, none⟩ = some (.int .i64 0) := HX2.out.at (i := 2) rfl
    have xf2 : w2.frozen? ⟨b, 2, none⟩ = false := HX2.out.free (i := 2) rfl
    have x3 : w2.cell? ⟨b, 3, none⟩ = some (.int .i64 0) := HX2.out.at (i := 3) rfl
    have xf3 : w2.frozen? ⟨b, 3, none⟩ = false := HX2.out.free (i := 3) rfl
    clear HX2
    go_wp2
    exact bodyPost_ret (v := .agg #[.string ⟨#[]⟩, .string ⟨#[]⟩, .int .i64 0, .int .i64 0]) (by simp [results, Tryz.results29, go_sem, x0, x1, x2, x3]) rfl ⟨by rw [HQ.out]; rfl, by first | exact (Below.setCell (Below.setCell (Below.setCell (Below.setCell B2.out (Nat.le_refl _) _) (Nat.le_refl _) _) (Nat.le_refl _) _) (Nat.le_refl _) _) | (rw [hbb]; exact (Below.setCell (Below.setCell (Below.setCell (Below.setCell B2.out (Nat.le_refl _) _) (Nat.le_refl _) _) (Nat.le_refl _) _) (Nat.le_refl _) _))⟩
  | true =>
    have HQ : Hid (R = ogF y) := by show R = _; rw [HE.out]; rfl
    clear HE
    obtain ⟨⟨p, cap, e3, hg⟩, -⟩ := HS.out
    injection e3 with e3 _ e4
    subst e3 e4
    obtain ⟨g, rfl, -, hgw, hc⟩ := hg (by omega)
    clear hg HS
    have e1 : y = atF L k := HGk.out
    clear HGk
    have k0 : (0 : Int) ≤ k := by omega
    have k2 : (k : Int) < L.length := by omega
    have hbw : ∀ o, w2.cell? ⟨g, o, none⟩ = w.cell? ⟨g, o, none⟩ := fun o => B2.out.cell (p := ⟨g, o, none⟩) (by rw [← hbb]; exact hgw)
    have c0 : w2.cell? ⟨g, k * 9, none⟩ = some (.int .i64 (y).id) := by rw [hbw, e1]; exact (hc k k1 0 (by omega)).1
    have c1 : w2.cell? ⟨g, k * 9 + 1, none⟩ = some (.int .i64 (y).pa) := by rw [hbw, e1]; exact (hc k k1 1 (by omega)).1
    have c2 : w2.cell? ⟨g, k * 9 + 2, none⟩ = some (.string (y).sc) := by rw [hbw, e1]; exact (hc k k1 2 (by omega)).1
    have c3 : w2.cell? ⟨g, k * 9 + 3, none⟩ = some (.string (y).ho) := by rw [hbw, e1]; exact (hc k k1 3 (by omega)).1
    have c4 : w2.cell? ⟨g, k * 9 + 4, none⟩ = some (.int .i64 (y).po) := by rw [hbw, e1]; exact (hc k k1 4 (by omega)).1
    have c5 : w2.cell? ⟨g, k * 9 + 5, none⟩ = some (.string (y).pt) := by rw [hbw, e1]; exact (hc k k1 5 (by omega)).1
    have c6 : w2.cell? ⟨g, k * 9 + 6, none⟩ = some (.bool (y).sb) := by rw [hbw, e1]; exact (hc k k1 6 (by omega)).1
    have c7 : w2.cell? ⟨g, k * 9 + 7, none⟩ = some (.bool (y).fl) := by rw [hbw, e1]; exact (hc k k1 7 (by omega)).1
    have c8 : w2.cell? ⟨g, k * 9 + 8, none⟩ = some (.int .i64 (y).tc) := by rw [hbw, e1]; exact (hc k k1 8 (by omega)).1
    clear hc hbw e1 hgw
    generalize ogF y = q at *
    obtain ⟨yid, ypa, ysc, yho, ypo, ypt, ysb, yfl, ytc⟩ := y
    obtain ⟨o1, o2, o3, o4⟩ := q
    unfold frV ogV at KO0
    dsimp only at *
    have KO : Hid (∀ W, Calls Tryz.prog 75 #[.agg #[.int .i64 yid, .int .i64 ypa, .string ysc, .string yho, .int .i64 ypo, .string ypt, .bool ysb, .bool yfl, .int .i64 ytc]] W fun e w' => e = .returned (.agg #[.string o1, .string o2, .int .i64 o3, .int .i64 o4]) ∧ Below W.heap.size W w') := KO0
    clear KO0
    go_wp2_with fail
    refine (KO.out _).mono ?_
    rintro e w3 ⟨rfl, hb3⟩
    have HX3 : Hid (BoxV w3 b [.string ⟨#[]⟩, .string ⟨#[]⟩, .int .i64 0, .int .i64 0]) := HX2.out.below hb3
    have B3 : Hid (Below b w w3) := B2.out.trans (hb3.mono (Nat.le_of_lt HX2.out.1))
    clear hb3 HX2 B2 c0 c1 c2 c3 c4 c5 c6 c7 c8 KO
    have x0 : w3.cell? ⟨b, 0, none⟩ = some (.string ⟨#[]⟩) := HX3.out.at (i := 0) rfl
    have xf0 : w3.frozen? ⟨b, 0, none⟩ = false := HX3.out.free (i := 0) rfl
    have x1 : w3.cell? ⟨b, 1, none⟩ = some (.string ⟨#[]⟩) := HX3.out.at (i := 1) rfl
    have xf1 : w3.frozen? ⟨b, 1, none⟩ = false := HX3.out.free (i := 1) rfl
    have x2 : w3.cell? ⟨b, 2, none⟩ = some (.int .i64 0) := HX3.out.at (i := 2) rfl
    have xf2 : w3.frozen? ⟨b, 2, none⟩ = false := HX3.out.free (i := 2) rfl
    have x3 : w3.cell? ⟨b, 3, none⟩ = some (.int .i64 0) := HX3.out.at (i := 3) rfl
    have xf3 : w3.frozen? ⟨b, 3, none⟩ = false := HX3.out.free (i := 3) rfl
    clear HX3
    go_wp2
    exact bodyPost_ret (v := .agg #[.string o1, .string o2, .int .i64 o3, .int .i64 o4]) (by simp [results, Tryz.results29, go_sem, x0, x1, x2, x3]) rfl ⟨by rw [HQ.out]; rfl, by first | exact (Below.setCell (Below.setCell (Below.setCell (Below.setCell B3.out (Nat.le_refl _) _) (Nat.le_refl _) _) (Nat.le_refl _) _) (Nat.le_refl _) _) | (rw [hbb]; exact (Below.setCell (Below.setCell (Below.setCell (Below.setCell B3.out (Nat.le_refl _) _) (Nat.le_refl _) _) (Nat.le_refl _) _) (Nat.le_refl _) _))⟩
end Go.Proofs.YtnpaekjiafaahaaGreatDoor
