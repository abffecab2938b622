/- 15 of this claim's texts, one behind the other. -/
import Derived.Test.YtaccgciopmclhaaGreatDoorPart1
import Derived.Deep.RegionHeld3
import Derived.Laws.AppendOwnNone
import Derived.Laws.ResultCell
import Derived.WalkKit
import Derived.WalkSpells
import Derived.WalkLawsBesides
import Derived.ProofKit
import Derived.OpenShut
import Derived.Deep.Strs
import Derived.Deep.SlicePairs
import Derived.Deep.QuietTactic
import Derived.BigQuiet
import Derived.Deep.RegionWith
/- The walk of the specification's RulesRight. -/
namespace Go.Proofs.YtaccgciopmclhaaGreatDoor
open Go.RowKit

/-- the rule at a place is right, and greater than the one ahead of it -/
def okR (f : Nat → ByteArray) : Nat → Bool
  | 0 => ruleB (f 0)
  | m + 1 => ruleB (f (m + 1)) && Op.bytesLess (f m).toList (f (m + 1)).toList
def rulesB (n : Nat) (f : Nat → ByteArray) : Bool := decide (∀ i, i < n → okR f i = true) && decide (n ≤ 20)
theorem rulesB_at {n : Nat} {f : Nat → ByteArray} (k : Nat) (h : k < n) (hk : okR f k = false) : rulesB n f = false := by
  unfold rulesB
  rw [decide_eq_false (fun h' => by rw [h' k h] at hk; cases hk)]; rfl
theorem rulesB_all {n : Nat} {f : Nat → ByteArray} (h : ∀ i, i < n → okR f i = true) : rulesB n f = decide (n ≤ 20) := by unfold rulesB; rw [decide_eq_true h]; rfl
theorem okR_succ {f : Nat → ByteArray} {k : Nat} (h : ∀ i, i < k → okR f i = true) (hk : okR f k = true) : ∀ i, i < k + 1 → okR f i = true := by
  intro i hi
  by_cases e : i = k
  · subst e; exact hk
  · exact h i (by omega)
theorem geq_text (t : TypeId) (a b : ByteArray) : binOp .geq t (.string a) (.string b) = pure (.bool (!(Op.bytesLess a.toList b.toList))) := by simp [binOp, Op.stringOp]

set_option maxRecDepth 10000 in
set_option maxHeartbeats 2000000 in
theorem specRules_any (v : Value) (n B : Nat) (f : Nat → ByteArray) (w : World) (hs : SliceS w B v n f) (hn : n ≤ 1048576) (hf : ∀ i, i < n → (f i).size ≤ 1048576) :
    Calls Tryz.prog 25 #[v] w fun e w' => e = .returned (.bool (rulesB n f)) ∧ Below w.heap.size w w' := by
  obtain ⟨p, cap, rfl, hg⟩ := hs
  have HG : Hid (0 < n → ∃ g, p = some ⟨g, 0, none⟩ ∧ B ≤ g ∧ g < w.heap.size ∧ ∀ j, j < n → w.cell? ⟨g, j, none⟩ = some (.string (f j)) ∧ w.frozen? ⟨g, j, none⟩ = false) := hg
  have HF : Hid (∀ i, i < n → (f i).size ≤ 1048576) := hf
  have HA : Hid ((∀ k, k < n → okR f k = false → rulesB n f = false) ∧ ((∀ i, i < n → okR f i = true) → rulesB n f = decide (n ≤ 20))) := ⟨fun k h hk => rulesB_at k h hk, fun h => rulesB_all h⟩
  clear hg hf
  have hge : ∀ (t : TypeId) (a b : ByteArray), binOp .geq t (.string a) (.string b) = pure (.bool (!(Op.bytesLess a.toList b.toList))) := geq_text
  generalize rulesB n f = R at *
  go_enter Tryz.func25, Tryz.ntmps25
  go_wp2
  go_loopw [3] (fun i wr => ∃ k : Nat, k ≤ n ∧ i = .int .i64 k ∧ Hid (Below w.heap.size w wr) ∧ Hid (∀ j, j < k → okR f j = true)) (fun i _ => n - (intOf i).toNat)
  case atStart => exact ⟨0, Nat.zero_le _, rfl, Below.refl _ _, fun j hj => absurd hj (by omega)⟩
  case round =>
    obtain ⟨k, hk, rfl, HB, HR⟩ := hrel
    by_cases hlt : k < n
    · obtain ⟨g, rfl, -, hgw, hc⟩ := HG.out (by omega)
      have hz : g < wr.heap.size := Nat.lt_of_lt_of_le hgw HB.out.size
      have hck : wr.cell? ⟨g, k, none⟩ = some (.string (f k)) := by rw [(bcell HB.out).1 _ _ hgw]; exact (hc k hlt).1
      have KR0 := fun W => specRule_any (f k) W (HF.out k hlt)
      have k0 : (0 : Int) ≤ k := by omega
      have k1 : (k : Int) < n := by omega
      cases hr : ruleB (f k) with
      | false =>
        have HQ : Hid (R = false) := HA.out.1 k hlt (by cases k with | zero => exact hr | succ m => rw [okR, hr]; rfl)
        rw [hr] at KR0
        have KR : Hid (∀ W, Calls Tryz.prog 73 #[.string (f k)] W fun e w' => e = .returned (.bool false) ∧ Below W.heap.size W w') := KR0
        clear KR0 hr hc
        generalize f k = t at *
        go_wp2_with fail
        refine wp_region_held_drew (S := (fun w' => g < w'.heap.size ∧ w'.cell? ⟨g, k, none⟩ = some (.string t))) (by kernel_rfl) ?_ (fun hH0 => ?_)
        · (try dsimp only)
          go_keep
        refine wpAnyH_take (i := 0) (oi := { dst := some 10, op := Op.move (Operand.tmp 0), type := 22, pos := "l03_site.go:17", after := #[], guard := none }) (v := ?va0) rfl (by kernel_rfl) (by kernel_rfl) (by kernel_rfl) (fun _ _ _ h => h) (Or.inl ⟨by rfl, ?hya0⟩) (by assumption) ?resta0
        case hya0 =>
          intro w hSw
          (try dsimp only at hSw)
          go_simp
          try with_reducible rfl
        try simp only [Act.put, List.setIfInBounds_toArray, List.set_cons_zero, List.set_cons_succ]
        refine wpAnyH_take (i := 1) (oi := { dst := some 11, op := Op.move (Operand.tmp 3), type := 3, pos := "l03_site.go:17", after := #[], guard := none }) (v := ?va1) rfl (by kernel_rfl) (by kernel_rfl) (by kernel_rfl) (fun _ _ _ h => h) (Or.inl ⟨by rfl, ?hya1⟩) (by assumption) ?resta1
        case hya1 =>
          intro w hSw
          (try dsimp only at hSw)
          go_simp
          try with_reducible rfl
        try simp only [Act.put, List.setIfInBounds_toArray, List.set_cons_zero, List.set_cons_succ]
        refine wpAnyH_take (i := 2) (oi := { dst := some 12, op := Op.indexAddr 22 (Operand.tmp 10) (Operand.tmp 11), type := 0, pos := "l03_site.go:17", after := #[{ on := 0, ground := Ground.data }, { on := 1, ground := Ground.data }], guard := none }) (v := ?va2) rfl (by kernel_rfl) (by kernel_rfl) (by kernel_rfl) (fun _ _ _ h => h) (Or.inl ⟨by rfl, ?hya2⟩) (by assumption) ?resta2
        case hya2 =>
          intro w hSw
          (try dsimp only at hSw)
          go_simp
          try with_reducible rfl
        try simp only [Act.put, List.setIfInBounds_toArray, List.set_cons_zero, List.set_cons_succ]
        refine wpAnyH_take (i := 3) (oi := { dst := some 13, op := Op.load 9 (Operand.tmp 12), type := 9, pos := "l03_site.go:17", after := #[{ on := 2, ground := Ground.data }], guard := none }) (v := ?va3) rfl (by kernel_rfl) (by kernel_rfl) (by kernel_rfl) (fun _ _ _ h => h) (Or.inl ⟨by rfl, ?hya3⟩) (by assumption) ?resta3
        case hya3 =>
          intro w hSw
          (try dsimp only at hSw)
          go_simp
          try with_reducible rfl
        try simp only [Act.put, List.setIfInBounds_toArray, List.set_cons_zero, List.set_cons_succ]
        refine wpAnyH_ready (rs := [4]) (by kernel_rfl) (by simp) ?_
        refine AllReadyH.cons (o := { dst := some 14, op := Op.call { callee := Callee.value (Operand.func 73), args := #[Operand.tmp 13], argTypes := #[9] }, type := 4, pos := "l03_site.go:17", after := #[{ on := 3, ground := Ground.data }], guard := none }) rfl (fun K hK => ?_) AllReadyH.nil
        go_simp
        (go_at_call 73; refine (KR.out _).mono ?_; rintro e w2 ⟨rfl, hb2⟩; have z2 : g < w2.heap.size := Nat.lt_of_lt_of_le hz hb2.size; have c2 : w2.cell? ⟨g, k, none⟩ = some (.string t) := ((bcell hb2).1 _ _ hz).trans hck)
        try (go_wp2_with fail)
        refine hK.out _ _ ?_ (fun hH1 => ?_)
        · (try dsimp only)
          go_keep
        clear hK K hH0
        try simp only [Act.put, List.setIfInBounds_toArray, List.set_cons_zero, List.set_cons_succ]
        refine wpAnyH_take (i := 5) (oi := { dst := some 15, op := Op.unOp UnOp.not 4 (Operand.tmp 14), type := 4, pos := "l03_site.go:17", after := #[{ on := 4, ground := Ground.data }], guard := none }) (v := ?va5) rfl (by kernel_rfl) (by kernel_rfl) (by kernel_rfl) (fun _ _ _ h => h) (Or.inl ⟨by rfl, ?hya5⟩) (by assumption) ?resta5
        case hya5 =>
          intro w hSw
          (try dsimp only at hSw)
          go_simp
          try with_reducible rfl
        try simp only [Act.put, List.setIfInBounds_toArray, List.set_cons_zero, List.set_cons_succ]
        refine wpAnyH_take (i := 6) (oi := { dst := some 16, op := Op.move (Operand.tmp 15), type := 4, pos := "l03_site.go:17", after := #[{ on := 5, ground := Ground.data }, { on := 4, ground := Ground.chain }], guard := none }) (v := ?va6) rfl (by kernel_rfl) (by kernel_rfl) (by kernel_rfl) (fun _ _ _ h => h) (Or.inl ⟨by rfl, ?hya6⟩) (by assumption) ?resta6
        case hya6 =>
          intro w hSw
          (try dsimp only at hSw)
          go_simp
          try with_reducible rfl
        try simp only [Act.put, List.setIfInBounds_toArray, List.set_cons_zero, List.set_cons_succ]
        refine wpAnyH_take (i := 7) (oi := { dst := some 17, op := Op.move (Operand.tmp 3), type := 3, pos := "l03_site.go:17", after := #[{ on := 6, ground := Ground.guard }], guard := some (6, false) }) (v := undef) rfl (by kernel_rfl) (by kernel_rfl) (by kernel_rfl) (fun _ _ _ h => h) (Or.inr ⟨by rfl, rfl⟩) (by assumption) ?_
        try simp only [Act.put, List.setIfInBounds_toArray, List.set_cons_zero, List.set_cons_succ]
        refine wpAnyH_take (i := 8) (oi := { dst := some 18, op := Op.binOp BinOp.gtr 3 (Operand.tmp 17) (Operand.const (Value.int IntKind.i64 0)) 3, type := 4, pos := "l03_site.go:17", after := #[{ on := 7, ground := Ground.data }, { on := 6, ground := Ground.guard }], guard := some (6, false) }) (v := undef) rfl (by kernel_rfl) (by kernel_rfl) (by kernel_rfl) (fun _ _ _ h => h) (Or.inr ⟨by rfl, rfl⟩) (by assumption) ?_
        try simp only [Act.put, List.setIfInBounds_toArray, List.set_cons_zero, List.set_cons_succ]
        refine wpAnyH_take (i := 9) (oi := { dst := some 19, op := Op.move (Operand.tmp 18), type := 4, pos := "l03_site.go:17", after := #[{ on := 8, ground := Ground.data }, { on := 6, ground := Ground.chain }, { on := 6, ground := Ground.guard }], guard := some (6, false) }) (v := undef) rfl (by kernel_rfl) (by kernel_rfl) (by kernel_rfl) (fun _ _ _ h => h) (Or.inr ⟨by rfl, rfl⟩) (by assumption) ?_
        try simp only [Act.put, List.setIfInBounds_toArray, List.set_cons_zero, List.set_cons_succ]
        refine wpAnyH_take (i := 10) (oi := { dst := some 20, op := Op.move (Operand.tmp 0), type := 22, pos := "l03_site.go:17", after := #[{ on := 9, ground := Ground.guard }], guard := some (9, true) }) (v := undef) rfl (by kernel_rfl) (by kernel_rfl) (by kernel_rfl) (fun _ _ _ h => h) (Or.inr ⟨by rfl, rfl⟩) (by assumption) ?_
        try simp only [Act.put, List.setIfInBounds_toArray, List.set_cons_zero, List.set_cons_succ]
        refine wpAnyH_take (i := 11) (oi := { dst := some 21, op := Op.move (Operand.tmp 3), type := 3, pos := "l03_site.go:17", after := #[{ on := 9, ground := Ground.guard }], guard := some (9, true) }) (v := undef) rfl (by kernel_rfl) (by kernel_rfl) (by kernel_rfl) (fun _ _ _ h => h) (Or.inr ⟨by rfl, rfl⟩) (by assumption) ?_
        try simp only [Act.put, List.setIfInBounds_toArray, List.set_cons_zero, List.set_cons_succ]
        refine wpAnyH_take (i := 12) (oi := { dst := some 22, op := Op.binOp BinOp.sub 3 (Operand.tmp 21) (Operand.const (Value.int IntKind.i64 1)) 3, type := 3, pos := "l03_site.go:17", after := #[{ on := 11, ground := Ground.data }, { on := 9, ground := Ground.guard }], guard := some (9, true) }) (v := undef) rfl (by kernel_rfl) (by kernel_rfl) (by kernel_rfl) (fun _ _ _ h => h) (Or.inr ⟨by rfl, rfl⟩) (by assumption) ?_
        try simp only [Act.put, List.setIfInBounds_toArray, List.set_cons_zero, List.set_cons_succ]
        refine wpAnyH_take (i := 13) (oi := { dst := some 23, op := Op.indexAddr 22 (Operand.tmp 20) (Operand.tmp 22), type := 0, pos := "l03_site.go:17", after := #[{ on := 10, ground := Ground.data }, { on := 12, ground := Ground.data }, { on := 9, ground := Ground.guard }], guard := some (9, true) }) (v := undef) rfl (by kernel_rfl) (by kernel_rfl) (by kernel_rfl) (fun _ _ _ h => h) (Or.inr ⟨by rfl, rfl⟩) (by assumption) ?_
        try simp only [Act.put, List.setIfInBounds_toArray, List.set_cons_zero, List.set_cons_succ]
        refine wpAnyH_take (i := 14) (oi := { dst := some 24, op := Op.load 9 (Operand.tmp 23), type := 9, pos := "l03_site.go:17", after := #[{ on := 13, ground := Ground.data }, { on := 9, ground := Ground.guard }], guard := some (9, true) }) (v := undef) rfl (by kernel_rfl) (by kernel_rfl) (by kernel_rfl) (fun _ _ _ h => h) (Or.inr ⟨by rfl, rfl⟩) (by assumption) ?_
        try simp only [Act.put, List.setIfInBounds_toArray, List.set_cons_zero, List.set_cons_succ]
        refine wpAnyH_take (i := 15) (oi := { dst := some 25, op := Op.move (Operand.tmp 0), type := 22, pos := "l03_site.go:17", after := #[{ on := 9, ground := Ground.guard }], guard := some (9, true) }) (v := undef) rfl (by kernel_rfl) (by kernel_rfl) (by kernel_rfl) (fun _ _ _ h => h) (Or.inr ⟨by rfl, rfl⟩) (by assumption) ?_
        try simp only [Act.put, List.setIfInBounds_toArray, List.set_cons_zero, List.set_cons_succ]
        refine wpAnyH_take (i := 16) (oi := { dst := some 26, op := Op.move (Operand.tmp 3), type := 3, pos := "l03_site.go:17", after := #[{ on := 9, ground := Ground.guard }], guard := some (9, true) }) (v := undef) rfl (by kernel_rfl) (by kernel_rfl) (by kernel_rfl) (fun _ _ _ h => h) (Or.inr ⟨by rfl, rfl⟩) (by assumption) ?_
        try simp only [Act.put, List.setIfInBounds_toArray, List.set_cons_zero, List.set_cons_succ]
        refine wpAnyH_take (i := 17) (oi := { dst := some 27, op := Op.indexAddr 22 (Operand.tmp 25) (Operand.tmp 26), type := 0, pos := "l03_site.go:17", after := #[{ on := 15, ground := Ground.data }, { on := 16, ground := Ground.data }, { on := 9, ground := Ground.guard }], guard := some (9, true) }) (v := undef) rfl (by kernel_rfl) (by kernel_rfl) (by kernel_rfl) (fun _ _ _ h => h) (Or.inr ⟨by rfl, rfl⟩) (by assumption) ?_
        try simp only [Act.put, List.setIfInBounds_toArray, List.set_cons_zero, List.set_cons_succ]
        refine wpAnyH_take (i := 18) (oi := { dst := some 28, op := Op.load 9 (Operand.tmp 27), type := 9, pos := "l03_site.go:17", after := #[{ on := 17, ground := Ground.data }, { on := 9, ground := Ground.guard }], guard := some (9, true) }) (v := undef) rfl (by kernel_rfl) (by kernel_rfl) (by kernel_rfl) (fun _ _ _ h => h) (Or.inr ⟨by rfl, rfl⟩) (by assumption) ?_
        try simp only [Act.put, List.setIfInBounds_toArray, List.set_cons_zero, List.set_cons_succ]
        refine wpAnyH_take (i := 19) (oi := { dst := some 29, op := Op.binOp BinOp.geq 9 (Operand.tmp 24) (Operand.tmp 28) 9, type := 4, pos := "l03_site.go:17", after := #[{ on := 14, ground := Ground.data }, { on := 18, ground := Ground.data }, { on := 9, ground := Ground.guard }], guard := some (9, true) }) (v := undef) rfl (by kernel_rfl) (by kernel_rfl) (by kernel_rfl) (fun _ _ _ h => h) (Or.inr ⟨by rfl, rfl⟩) (by assumption) ?_
        try simp only [Act.put, List.setIfInBounds_toArray, List.set_cons_zero, List.set_cons_succ]
        refine wpAnyH_take (i := 20) (oi := { dst := some 30, op := Op.pick (Operand.tmp 19) (Operand.tmp 29) (Operand.const (Value.bool false)), type := 4, pos := "l03_site.go:17", after := #[{ on := 9, ground := Ground.data }, { on := 19, ground := Ground.data }, { on := 6, ground := Ground.guard }], guard := some (6, false) }) (v := undef) rfl (by kernel_rfl) (by kernel_rfl) (by kernel_rfl) (fun _ _ _ h => h) (Or.inr ⟨by rfl, rfl⟩) (by assumption) ?_
        try simp only [Act.put, List.setIfInBounds_toArray, List.set_cons_zero, List.set_cons_succ]
        refine wpAnyH_take (i := 21) (oi := { dst := some 31, op := Op.pick (Operand.tmp 16) (Operand.const (Value.bool true)) (Operand.tmp 30), type := 4, pos := "l03_site.go:17", after := #[{ on := 6, ground := Ground.data }, { on := 20, ground := Ground.data }], guard := none }) (v := ?va21) rfl (by kernel_rfl) (by kernel_rfl) (by kernel_rfl) (fun _ _ _ h => h) (Or.inl ⟨by rfl, ?hya21⟩) (by assumption) ?resta21
        case hya21 =>
          intro w hSw
          (try dsimp only at hSw)
          go_simp
          try with_reducible rfl
        try simp only [Act.put, List.setIfInBounds_toArray, List.set_cons_zero, List.set_cons_succ]
        refine wpAnyH_done (by kernel_rfl) ?_ _
        go_wp2
        go_ret
        exact ⟨ret_bool HQ.out.symm, (HB.out.trans (Below.drew (Below.refl _ _))).trans (hb2.mono HB.out.size)⟩
      | true =>
        rw [hr] at KR0
        have KR : Hid (∀ W, Calls Tryz.prog 73 #[.string (f k)] W fun e w' => e = .returned (.bool true) ∧ Below W.heap.size W w') := KR0
        clear KR0
        cases k with
        | zero =>
          have HK : Hid (okR f 0 = true) := hr
          clear hr hc
          generalize f 0 = t at *
          have q0 : decide ((0 : Int) < ((0 : Nat) : Int)) = false := by decide
          go_wp2_with fail
          refine wp_region_held_drew (S := (fun w' => g < w'.heap.size ∧ w'.cell? ⟨g, 0, none⟩ = some (.string t))) (by kernel_rfl) ?_ (fun hH0 => ?_)
          · (try dsimp only)
            go_keep
          refine wpAnyH_take (i := 0) (oi := { dst := some 10, op := Op.move (Operand.tmp 0), type := 22, pos := "l03_site.go:17", after := #[], guard := none }) (v := ?vb0) rfl (by kernel_rfl) (by kernel_rfl) (by kernel_rfl) (fun _ _ _ h => h) (Or.inl ⟨by rfl, ?hyb0⟩) (by assumption) ?restb0
          case hyb0 =>
            intro w hSw
            (try dsimp only at hSw)
            go_simp
            try with_reducible rfl
          try simp only [Act.put, List.setIfInBounds_toArray, List.set_cons_zero, List.set_cons_succ]
          refine wpAnyH_take (i := 1) (oi := { dst := some 11, op := Op.move (Operand.tmp 3), type := 3, pos := "l03_site.go:17", after := #[], guard := none }) (v := ?vb1) rfl (by kernel_rfl) (by kernel_rfl) (by kernel_rfl) (fun _ _ _ h => h) (Or.inl ⟨by rfl, ?hyb1⟩) (by assumption) ?restb1
          case hyb1 =>
            intro w hSw
            (try dsimp only at hSw)
            go_simp
            try with_reducible rfl
          try simp only [Act.put, List.setIfInBounds_toArray, List.set_cons_zero, List.set_cons_succ]
          refine wpAnyH_take (i := 2) (oi := { dst := some 12, op := Op.indexAddr 22 (Operand.tmp 10) (Operand.tmp 11), type := 0, pos := "l03_site.go:17", after := #[{ on := 0, ground := Ground.data }, { on := 1, ground := Ground.data }], guard := none }) (v := ?vb2) rfl (by kernel_rfl) (by kernel_rfl) (by kernel_rfl) (fun _ _ _ h => h) (Or.inl ⟨by rfl, ?hyb2⟩) (by assumption) ?restb2
          case hyb2 =>
            intro w hSw
            (try dsimp only at hSw)
            go_simp
            try with_reducible rfl
          try simp only [Act.put, List.setIfInBounds_toArray, List.set_cons_zero, List.set_cons_succ]
          refine wpAnyH_take (i := 3) (oi := { dst := some 13, op := Op.load 9 (Operand.tmp 12), type := 9, pos := "l03_site.go:17", after := #[{ on := 2, ground := Ground.data }], guard := none }) (v := ?vb3) rfl (by kernel_rfl) (by kernel_rfl) (by kernel_rfl) (fun _ _ _ h => h) (Or.inl ⟨by rfl, ?hyb3⟩) (by assumption) ?restb3
          case hyb3 =>
            intro w hSw
            (try dsimp only at hSw)
            go_simp
            try with_reducible rfl
          try simp only [Act.put, List.setIfInBounds_toArray, List.set_cons_zero, List.set_cons_succ]
          refine wpAnyH_ready (rs := [4]) (by kernel_rfl) (by simp) ?_
          refine AllReadyH.cons (o := { dst := some 14, op := Op.call { callee := Callee.value (Operand.func 73), args := #[Operand.tmp 13], argTypes := #[9] }, type := 4, pos := "l03_site.go:17", after := #[{ on := 3, ground := Ground.data }], guard := none }) rfl (fun K hK => ?_) AllReadyH.nil
          go_simp
          (go_at_call 73; refine (KR.out _).mono ?_; rintro e w2 ⟨rfl, hb2⟩; have z2 : g < w2.heap.size := Nat.lt_of_lt_of_le hz hb2.size; have c2 : w2.cell? ⟨g, 0, none⟩ = some (.string t) := ((bcell hb2).1 _ _ hz).trans hck)
          try (go_wp2_with fail)
          refine hK.out _ _ ?_ (fun hH1 => ?_)
          · (try dsimp only)
            go_keep
          clear hK K hH0
          try simp only [Act.put, List.setIfInBounds_toArray, List.set_cons_zero, List.set_cons_succ]
          refine wpAnyH_take (i := 5) (oi := { dst := some 15, op := Op.unOp UnOp.not 4 (Operand.tmp 14), type := 4, pos := "l03_site.go:17", after := #[{ on := 4, ground := Ground.data }], guard := none }) (v := ?vb5) rfl (by kernel_rfl) (by kernel_rfl) (by kernel_rfl) (fun _ _ _ h => h) (Or.inl ⟨by rfl, ?hyb5⟩) (by assumption) ?restb5
          case hyb5 =>
            intro w hSw
            (try dsimp only at hSw)
            go_simp
            try with_reducible rfl
          try simp only [Act.put, List.setIfInBounds_toArray, List.set_cons_zero, List.set_cons_succ]
          refine wpAnyH_take (i := 6) (oi := { dst := some 16, op := Op.move (Operand.tmp 15), type := 4, pos := "l03_site.go:17", after := #[{ on := 5, ground := Ground.data }, { on := 4, ground := Ground.chain }], guard := none }) (v := ?vb6) rfl (by kernel_rfl) (by kernel_rfl) (by kernel_rfl) (fun _ _ _ h => h) (Or.inl ⟨by rfl, ?hyb6⟩) (by assumption) ?restb6
          case hyb6 =>
            intro w hSw
            (try dsimp only at hSw)
            go_simp
            try with_reducible rfl
          try simp only [Act.put, List.setIfInBounds_toArray, List.set_cons_zero, List.set_cons_succ]
          refine wpAnyH_take (i := 7) (oi := { dst := some 17, op := Op.move (Operand.tmp 3), type := 3, pos := "l03_site.go:17", after := #[{ on := 6, ground := Ground.guard }], guard := some (6, false) }) (v := ?vb7) rfl (by kernel_rfl) (by kernel_rfl) (by kernel_rfl) (fun _ _ _ h => h) (Or.inl ⟨by rfl, ?hyb7⟩) (by assumption) ?restb7
          case hyb7 =>
            intro w hSw
            (try dsimp only at hSw)
            go_simp
            try with_reducible rfl
          try simp only [Act.put, List.setIfInBounds_toArray, List.set_cons_zero, List.set_cons_succ]
          refine wpAnyH_take (i := 8) (oi := { dst := some 18, op := Op.binOp BinOp.gtr 3 (Operand.tmp 17) (Operand.const (Value.int IntKind.i64 0)) 3, type := 4, pos := "l03_site.go:17", after := #[{ on := 7, ground := Ground.data }, { on := 6, ground := Ground.guard }], guard := some (6, false) }) (v := ?vb8) rfl (by kernel_rfl) (by kernel_rfl) (by kernel_rfl) (fun _ _ _ h => h) (Or.inl ⟨by rfl, ?hyb8⟩) (by assumption) ?restb8
          case hyb8 =>
            intro w hSw
            (try dsimp only at hSw)
            go_simp
            try with_reducible rfl
          try simp only [Act.put, List.setIfInBounds_toArray, List.set_cons_zero, List.set_cons_succ]
          refine wpAnyH_take (i := 9) (oi := { dst := some 19, op := Op.move (Operand.tmp 18), type := 4, pos := "l03_site.go:17", after := #[{ on := 8, ground := Ground.data }, { on := 6, ground := Ground.chain }, { on := 6, ground := Ground.guard }], guard := some (6, false) }) (v := ?vb9) rfl (by kernel_rfl) (by kernel_rfl) (by kernel_rfl) (fun _ _ _ h => h) (Or.inl ⟨by rfl, ?hyb9⟩) (by assumption) ?restb9
          case hyb9 =>
            intro w hSw
            (try dsimp only at hSw)
            go_simp
            try with_reducible rfl
          try simp only [Act.put, List.setIfInBounds_toArray, List.set_cons_zero, List.set_cons_succ]
          refine wpAnyH_take (i := 10) (oi := { dst := some 20, op := Op.move (Operand.tmp 0), type := 22, pos := "l03_site.go:17", after := #[{ on := 9, ground := Ground.guard }], guard := some (9, true) }) (v := undef) rfl (by kernel_rfl) (by kernel_rfl) (by kernel_rfl) (fun _ _ _ h => h) (Or.inr ⟨by rfl, rfl⟩) (by assumption) ?_
          try simp only [Act.put, List.setIfInBounds_toArray, List.set_cons_zero, List.set_cons_succ]
          refine wpAnyH_take (i := 11) (oi := { dst := some 21, op := Op.move (Operand.tmp 3), type := 3, pos := "l03_site.go:17", after := #[{ on := 9, ground := Ground.guard }], guard := some (9, true) }) (v := undef) rfl (by kernel_rfl) (by kernel_rfl) (by kernel_rfl) (fun _ _ _ h => h) (Or.inr ⟨by rfl, rfl⟩) (by assumption) ?_
          try simp only [Act.put, List.setIfInBounds_toArray, List.set_cons_zero, List.set_cons_succ]
          refine wpAnyH_take (i := 12) (oi := { dst := some 22, op := Op.binOp BinOp.sub 3 (Operand.tmp 21) (Operand.const (Value.int IntKind.i64 1)) 3, type := 3, pos := "l03_site.go:17", after := #[{ on := 11, ground := Ground.data }, { on := 9, ground := Ground.guard }], guard := some (9, true) }) (v := undef) rfl (by kernel_rfl) (by kernel_rfl) (by kernel_rfl) (fun _ _ _ h => h) (Or.inr ⟨by rfl, rfl⟩) (by assumption) ?_
          try simp only [Act.put, List.setIfInBounds_toArray, List.set_cons_zero, List.set_cons_succ]
          refine wpAnyH_take (i := 13) (oi := { dst := some 23, op := Op.indexAddr 22 (Operand.tmp 20) (Operand.tmp 22), type := 0, pos := "l03_site.go:17", after := #[{ on := 10, ground := Ground.data }, { on := 12, ground := Ground.data }, { on := 9, ground := Ground.guard }], guard := some (9, true) }) (v := undef) rfl (by kernel_rfl) (by kernel_rfl) (by kernel_rfl) (fun _ _ _ h => h) (Or.inr ⟨by rfl, rfl⟩) (by assumption) ?_
          try simp only [Act.put, List.setIfInBounds_toArray, List.set_cons_zero, List.set_cons_succ]
          refine wpAnyH_take (i := 14) (oi := { dst := some 24, op := Op.load 9 (Operand.tmp 23), type := 9, pos := "l03_site.go:17", after := #[{ on := 13, ground := Ground.data }, { on := 9, ground := Ground.guard }], guard := some (9, true) }) (v := undef) rfl (by kernel_rfl) (by kernel_rfl) (by kernel_rfl) (fun _ _ _ h => h) (Or.inr ⟨by rfl, rfl⟩) (by assumption) ?_
          try simp only [Act.put, List.setIfInBounds_toArray, List.set_cons_zero, List.set_cons_succ]
          refine wpAnyH_take (i := 15) (oi := { dst := some 25, op := Op.move (Operand.tmp 0), type := 22, pos := "l03_site.go:17", after := #[{ on := 9, ground := Ground.guard }], guard := some (9, true) }) (v := undef) rfl (by kernel_rfl) (by kernel_rfl) (by kernel_rfl) (fun _ _ _ h => h) (Or.inr ⟨by rfl, rfl⟩) (by assumption) ?_
          try simp only [Act.put, List.setIfInBounds_toArray, List.set_cons_zero, List.set_cons_succ]
          refine wpAnyH_take (i := 16) (oi := { dst := some 26, op := Op.move (Operand.tmp 3), type := 3, pos := "l03_site.go:17", after := #[{ on := 9, ground := Ground.guard }], guard := some (9, true) }) (v := undef) rfl (by kernel_rfl) (by kernel_rfl) (by kernel_rfl) (fun _ _ _ h => h) (Or.inr ⟨by rfl, rfl⟩) (by assumption) ?_
          try simp only [Act.put, List.setIfInBounds_toArray, List.set_cons_zero, List.set_cons_succ]
          refine wpAnyH_take (i := 17) (oi := { dst := some 27, op := Op.indexAddr 22 (Operand.tmp 25) (Operand.tmp 26), type := 0, pos := "l03_site.go:17", after := #[{ on := 15, ground := Ground.data }, { on := 16, ground := Ground.data }, { on := 9, ground := Ground.guard }], guard := some (9, true) }) (v := undef) rfl (by kernel_rfl) (by kernel_rfl) (by kernel_rfl) (fun _ _ _ h => h) (Or.inr ⟨by rfl, rfl⟩) (by assumption) ?_
          try simp only [Act.put, List.setIfInBounds_toArray, List.set_cons_zero, List.set_cons_succ]
          refine wpAnyH_take (i := 18) (oi := { dst := some 28, op := Op.load 9 (Operand.tmp 27), type := 9, pos := "l03_site.go:17", after := #[{ on := 17, ground := Ground.data }, { on := 9, ground := Ground.guard }], guard := some (9, true) }) (v := undef) rfl (by kernel_rfl) (by kernel_rfl) (by kernel_rfl) (fun _ _ _ h => h) (Or.inr ⟨by rfl, rfl⟩) (by assumption) ?_
          try simp only [Act.put, List.setIfInBounds_toArray, List.set_cons_zero, List.set_cons_succ]
          refine wpAnyH_take (i := 19) (oi := { dst := some 29, op := Op.binOp BinOp.geq 9 (Operand.tmp 24) (Operand.tmp 28) 9, type := 4, pos := "l03_site.go:17", after := #[{ on := 14, ground := Ground.data }, { on := 18, ground := Ground.data }, { on := 9, ground := Ground.guard }], guard := some (9, true) }) (v := undef) rfl (by kernel_rfl) (by kernel_rfl) (by kernel_rfl) (fun _ _ _ h => h) (Or.inr ⟨by rfl, rfl⟩) (by assumption) ?_
          try simp only [Act.put, List.setIfInBounds_toArray, List.set_cons_zero, List.set_cons_succ]
          refine wpAnyH_take (i := 20) (oi := { dst := some 30, op := Op.pick (Operand.tmp 19) (Operand.tmp 29) (Operand.const (Value.bool false)), type := 4, pos := "l03_site.go:17", after := #[{ on := 9, ground := Ground.data }, { on := 19, ground := Ground.data }, { on := 6, ground := Ground.guard }], guard := some (6, false) }) (v := ?vb20) rfl (by kernel_rfl) (by kernel_rfl) (by kernel_rfl) (fun _ _ _ h => h) (Or.inl ⟨by rfl, ?hyb20⟩) (by assumption) ?restb20
          case hyb20 =>
            intro w hSw
            (try dsimp only at hSw)
            go_simp
            try with_reducible rfl
          try simp only [Act.put, List.setIfInBounds_toArray, List.set_cons_zero, List.set_cons_succ]
          refine wpAnyH_take (i := 21) (oi := { dst := some 31, op := Op.pick (Operand.tmp 16) (Operand.const (Value.bool true)) (Operand.tmp 30), type := 4, pos := "l03_site.go:17", after := #[{ on := 6, ground := Ground.data }, { on := 20, ground := Ground.data }], guard := none }) (v := ?vb21) rfl (by kernel_rfl) (by kernel_rfl) (by kernel_rfl) (fun _ _ _ h => h) (Or.inl ⟨by rfl, ?hyb21⟩) (by assumption) ?restb21
          case hyb21 =>
            intro w hSw
            (try dsimp only at hSw)
            go_simp
            try with_reducible rfl
          try simp only [Act.put, List.setIfInBounds_toArray, List.set_cons_zero, List.set_cons_succ]
          refine wpAnyH_done (by kernel_rfl) ?_ _
          go_wp2
          go_roundw
          case rel => exact ⟨1, by omega, by go_num, (HB.out.trans (Below.drew (Below.refl _ _))).trans (hb2.mono HB.out.size), okR_succ (k := 0) (fun i hi => absurd hi (by omega)) HK.out⟩
          case measure => simp [intOf]; omega
        | succ m =>
          have hcm : wr.cell? ⟨g, m, none⟩ = some (.string (f m)) := by rw [(bcell HB.out).1 _ _ hgw]; exact (hc m (by omega)).1
          have HE : Hid (okR f (m + 1) = Op.bytesLess (f m).toList (f (m + 1)).toList) := by show _ = _; rw [okR, hr]; rfl
          clear hr hc
          have q0 : decide ((0 : Int) < ((m : Int) + 1)) = true := by rw [decide_eq_true_iff]; omega
          have hw1 : IntKind.i64.wrap ((m : Int) + 1 - 1) = m := by
            rw [IntKind.wrap_i64]; omega
          have hw2 : IntKind.i64.wrap (m : Int) = m := by rw [IntKind.wrap_i64]; omega
          have p0 : (0 : Int) ≤ (m : Int) + 1 := by omega
          have p1 : (m : Int) + 1 < n := by omega
          have m0 : (0 : Int) ≤ m := by omega
          have m1 : (m : Int) < n := by omega
          cases hless : Op.bytesLess (f m).toList (f (m + 1)).toList with
          | true =>
            have HK : Hid (okR f (m + 1) = true) := by show _ = _; rw [HE.out, hless]
            clear HE
            generalize f (m + 1) = t at *
            generalize f m = s at *
            go_wp2_with fail
            refine wp_region_held_drew (S := (fun w' => g < w'.heap.size ∧ w'.cell? ⟨g, m + 1, none⟩ = some (.string t) ∧ w'.cell? ⟨g, m, none⟩ = some (.string s))) (by kernel_rfl) ?_ (fun hH0 => ?_)
            · (try dsimp only)
              go_keep
            refine wpAnyH_take (i := 0) (oi := { dst := some 10, op := Op.move (Operand.tmp 0), type := 22, pos := "l03_site.go:17", after := #[], guard := none }) (v := ?vc0) rfl (by kernel_rfl) (by kernel_rfl) (by kernel_rfl) (fun _ _ _ h => h) (Or.inl ⟨by rfl, ?hyc0⟩) (by assumption) ?restc0
            case hyc0 =>
              intro w hSw
              (try dsimp only at hSw)
              go_simp
              try with_reducible rfl
            try simp only [Act.put, List.setIfInBounds_toArray, List.set_cons_zero, List.set_cons_succ]
            refine wpAnyH_take (i := 1) (oi := { dst := some 11, op := Op.move (Operand.tmp 3), type := 3, pos := "l03_site.go:17", after := #[], guard := none }) (v := ?vc1) rfl (by kernel_rfl) (by kernel_rfl) (by kernel_rfl) (fun _ _ _ h => h) (Or.inl ⟨by rfl, ?hyc1⟩) (by assumption) ?restc1
            case hyc1 =>
              intro w hSw
              (try dsimp only at hSw)
              go_simp
              try with_reducible rfl
            try simp only [Act.put, List.setIfInBounds_toArray, List.set_cons_zero, List.set_cons_succ]
            refine wpAnyH_take (i := 2) (oi := { dst := some 12, op := Op.indexAddr 22 (Operand.tmp 10) (Operand.tmp 11), type := 0, pos := "l03_site.go:17", after := #[{ on := 0, ground := Ground.data }, { on := 1, ground := Ground.data }], guard := none }) (v := ?vc2) rfl (by kernel_rfl) (by kernel_rfl) (by kernel_rfl) (fun _ _ _ h => h) (Or.inl ⟨by rfl, ?hyc2⟩) (by assumption) ?restc2
            case hyc2 =>
              intro w hSw
              (try dsimp only at hSw)
              go_simp
              try with_reducible rfl
            try simp only [Act.put, List.setIfInBounds_toArray, List.set_cons_zero, List.set_cons_succ]
            refine wpAnyH_take (i := 3) (oi := { dst := some 13, op := Op.load 9 (Operand.tmp 12), type := 9, pos := "l03_site.go:17", after := #[{ on := 2, ground := Ground.data }], guard := none }) (v := ?vc3) rfl (by kernel_rfl) (by kernel_rfl) (by kernel_rfl) (fun _ _ _ h => h) (Or.inl ⟨by rfl, ?hyc3⟩) (by assumption) ?restc3
            case hyc3 =>
              intro w hSw
              (try dsimp only at hSw)
              go_simp
              try with_reducible rfl
            try simp only [Act.put, List.setIfInBounds_toArray, List.set_cons_zero, List.set_cons_succ]
            refine wpAnyH_ready (rs := [4]) (by kernel_rfl) (by simp) ?_
            refine AllReadyH.cons (o := { dst := some 14, op := Op.call { callee := Callee.value (Operand.func 73), args := #[Operand.tmp 13], argTypes := #[9] }, type := 4, pos := "l03_site.go:17", after := #[{ on := 3, ground := Ground.data }], guard := none }) rfl (fun K hK => ?_) AllReadyH.nil
            go_simp
            (go_at_call 73; refine (KR.out _).mono ?_; rintro e w2 ⟨rfl, hb2⟩; have z2 : g < w2.heap.size := Nat.lt_of_lt_of_le hz hb2.size; have c2 : w2.cell? ⟨g, m + 1, none⟩ = some (.string t) := ((bcell hb2).1 _ _ hz).trans hck; have d2 : w2.cell? ⟨g, m, none⟩ = some (.string s) := ((bcell hb2).1 _ _ hz).trans hcm)
            try (go_wp2_with fail)
            refine hK.out _ _ ?_ (fun hH1 => ?_)
            · (try dsimp only)
              go_keep
            clear hK K hH0
            try simp only [Act.put, List.setIfInBounds_toArray, List.set_cons_zero, List.set_cons_succ]
            refine wpAnyH_take (i := 5) (oi := { dst := some 15, op := Op.unOp UnOp.not 4 (Operand.tmp 14), type := 4, pos := "l03_site.go:17", after := #[{ on := 4, ground := Ground.data }], guard := none }) (v := ?vc5) rfl (by kernel_rfl) (by kernel_rfl) (by kernel_rfl) (fun _ _ _ h => h) (Or.inl ⟨by rfl, ?hyc5⟩) (by assumption) ?restc5
            case hyc5 =>
              intro w hSw
              (try dsimp only at hSw)
              go_simp
              try with_reducible rfl
            try simp only [Act.put, List.setIfInBounds_toArray, List.set_cons_zero, List.set_cons_succ]
            refine wpAnyH_take (i := 6) (oi := { dst := some 16, op := Op.move (Operand.tmp 15), type := 4, pos := "l03_site.go:17", after := #[{ on := 5, ground := Ground.data }, { on := 4, ground := Ground.chain }], guard := none }) (v := ?vc6) rfl (by kernel_rfl) (by kernel_rfl) (by kernel_rfl) (fun _ _ _ h => h) (Or.inl ⟨by rfl, ?hyc6⟩) (by assumption) ?restc6
            case hyc6 =>
              intro w hSw
              (try dsimp only at hSw)
              go_simp
              try with_reducible rfl
            try simp only [Act.put, List.setIfInBounds_toArray, List.set_cons_zero, List.set_cons_succ]
            refine wpAnyH_take (i := 7) (oi := { dst := some 17, op := Op.move (Operand.tmp 3), type := 3, pos := "l03_site.go:17", after := #[{ on := 6, ground := Ground.guard }], guard := some (6, false) }) (v := ?vc7) rfl (by kernel_rfl) (by kernel_rfl) (by kernel_rfl) (fun _ _ _ h => h) (Or.inl ⟨by rfl, ?hyc7⟩) (by assumption) ?restc7
            case hyc7 =>
              intro w hSw
              (try dsimp only at hSw)
              go_simp
              try with_reducible rfl
            try simp only [Act.put, List.setIfInBounds_toArray, List.set_cons_zero, List.set_cons_succ]
            refine wpAnyH_take (i := 8) (oi := { dst := some 18, op := Op.binOp BinOp.gtr 3 (Operand.tmp 17) (Operand.const (Value.int IntKind.i64 0)) 3, type := 4, pos := "l03_site.go:17", after := #[{ on := 7, ground := Ground.data }, { on := 6, ground := Ground.guard }], guard := some (6, false) }) (v := ?vc8) rfl (by kernel_rfl) (by kernel_rfl) (by kernel_rfl) (fun _ _ _ h => h) (Or.inl ⟨by rfl, ?hyc8⟩) (by assumption) ?restc8
            case hyc8 =>
              intro w hSw
              (try dsimp only at hSw)
              go_simp
              try with_reducible rfl
            try simp only [Act.put, List.setIfInBounds_toArray, List.set_cons_zero, List.set_cons_succ]
            refine wpAnyH_take (i := 9) (oi := { dst := some 19, op := Op.move (Operand.tmp 18), type := 4, pos := "l03_site.go:17", after := #[{ on := 8, ground := Ground.data }, { on := 6, ground := Ground.chain }, { on := 6, ground := Ground.guard }], guard := some (6, false) }) (v := ?vc9) rfl (by kernel_rfl) (by kernel_rfl) (by kernel_rfl) (fun _ _ _ h => h) (Or.inl ⟨by rfl, ?hyc9⟩) (by assumption) ?restc9
            case hyc9 =>
              intro w hSw
              (try dsimp only at hSw)
              go_simp
              try with_reducible rfl
            try simp only [Act.put, List.setIfInBounds_toArray, List.set_cons_zero, List.set_cons_succ]
            refine wpAnyH_take (i := 10) (oi := { dst := some 20, op := Op.move (Operand.tmp 0), type := 22, pos := "l03_site.go:17", after := #[{ on := 9, ground := Ground.guard }], guard := some (9, true) }) (v := ?vc10) rfl (by kernel_rfl) (by kernel_rfl) (by kernel_rfl) (fun _ _ _ h => h) (Or.inl ⟨by rfl, ?hyc10⟩) (by assumption) ?restc10
            case hyc10 =>
              intro w hSw
              (try dsimp only at hSw)
              go_simp
              try with_reducible rfl
            try simp only [Act.put, List.setIfInBounds_toArray, List.set_cons_zero, List.set_cons_succ]
            refine wpAnyH_take (i := 11) (oi := { dst := some 21, op := Op.move (Operand.tmp 3), type := 3, pos := "l03_site.go:17", after := #[{ on := 9, ground := Ground.guard }], guard := some (9, true) }) (v := ?vc11) rfl (by kernel_rfl) (by kernel_rfl) (by kernel_rfl) (fun _ _ _ h => h) (Or.inl ⟨by rfl, ?hyc11⟩) (by assumption) ?restc11
            case hyc11 =>
              intro w hSw
              (try dsimp only at hSw)
              go_simp
              try with_reducible rfl
            try simp only [Act.put, List.setIfInBounds_toArray, List.set_cons_zero, List.set_cons_succ]
            refine wpAnyH_take (i := 12) (oi := { dst := some 22, op := Op.binOp BinOp.sub 3 (Operand.tmp 21) (Operand.const (Value.int IntKind.i64 1)) 3, type := 3, pos := "l03_site.go:17", after := #[{ on := 11, ground := Ground.data }, { on := 9, ground := Ground.guard }], guard := some (9, true) }) (v := ?vc12) rfl (by kernel_rfl) (by kernel_rfl) (by kernel_rfl) (fun _ _ _ h => h) (Or.inl ⟨by rfl, ?hyc12⟩) (by assumption) ?restc12
            case hyc12 =>
              intro w hSw
              (try dsimp only at hSw)
              go_simp
              try with_reducible rfl
            try simp only [Act.put, List.setIfInBounds_toArray, List.set_cons_zero, List.set_cons_succ]
            refine wpAnyH_take (i := 13) (oi := { dst := some 23, op := Op.indexAddr 22 (Operand.tmp 20) (Operand.tmp 22), type := 0, pos := "l03_site.go:17", after := #[{ on := 10, ground := Ground.data }, { on := 12, ground := Ground.data }, { on := 9, ground := Ground.guard }], guard := some (9, true) }) (v := ?vc13) rfl (by kernel_rfl) (by kernel_rfl) (by kernel_rfl) (fun _ _ _ h => h) (Or.inl ⟨by rfl, ?hyc13⟩) (by assumption) ?restc13
            case hyc13 =>
              intro w hSw
              (try dsimp only at hSw)
              go_simp
              try with_reducible rfl
            try simp only [Act.put, List.setIfInBounds_toArray, List.set_cons_zero, List.set_cons_succ]
            refine wpAnyH_take (i := 14) (oi := { dst := some 24, op := Op.load 9 (Operand.tmp 23), type := 9, pos := "l03_site.go:17", after := #[{ on := 13, ground := Ground.data }, { on := 9, ground := Ground.guard }], guard := some (9, true) }) (v := ?vc14) rfl (by kernel_rfl) (by kernel_rfl) (by kernel_rfl) (fun _ _ _ h => h) (Or.inl ⟨by rfl, ?hyc14⟩) (by assumption) ?restc14
            case hyc14 =>
              intro w hSw
              (try dsimp only at hSw)
              go_simp
              try with_reducible rfl
            try simp only [Act.put, List.setIfInBounds_toArray, List.set_cons_zero, List.set_cons_succ]
            refine wpAnyH_take (i := 15) (oi := { dst := some 25, op := Op.move (Operand.tmp 0), type := 22, pos := "l03_site.go:17", after := #[{ on := 9, ground := Ground.guard }], guard := some (9, true) }) (v := ?vc15) rfl (by kernel_rfl) (by kernel_rfl) (by kernel_rfl) (fun _ _ _ h => h) (Or.inl ⟨by rfl, ?hyc15⟩) (by assumption) ?restc15
            case hyc15 =>
              intro w hSw
              (try dsimp only at hSw)
              go_simp
              try with_reducible rfl
            try simp only [Act.put, List.setIfInBounds_toArray, List.set_cons_zero, List.set_cons_succ]
            refine wpAnyH_take (i := 16) (oi := { dst := some 26, op := Op.move (Operand.tmp 3), type := 3, pos := "l03_site.go:17", after := #[{ on := 9, ground := Ground.guard }], guard := some (9, true) }) (v := ?vc16) rfl (by kernel_rfl) (by kernel_rfl) (by kernel_rfl) (fun _ _ _ h => h) (Or.inl ⟨by rfl, ?hyc16⟩) (by assumption) ?restc16
            case hyc16 =>
              intro w hSw
              (try dsimp only at hSw)
              go_simp
              try with_reducible rfl
            try simp only [Act.put, List.setIfInBounds_toArray, List.set_cons_zero, List.set_cons_succ]
            refine wpAnyH_take (i := 17) (oi := { dst := some 27, op := Op.indexAddr 22 (Operand.tmp 25) (Operand.tmp 26), type := 0, pos := "l03_site.go:17", after := #[{ on := 15, ground := Ground.data }, { on := 16, ground := Ground.data }, { on := 9, ground := Ground.guard }], guard := some (9, true) }) (v := ?vc17) rfl (by kernel_rfl) (by kernel_rfl) (by kernel_rfl) (fun _ _ _ h => h) (Or.inl ⟨by rfl, ?hyc17⟩) (by assumption) ?restc17
            case hyc17 =>
              intro w hSw
              (try dsimp only at hSw)
              go_simp
              try with_reducible rfl
            try simp only [Act.put, List.setIfInBounds_toArray, List.set_cons_zero, List.set_cons_succ]
            refine wpAnyH_take (i := 18) (oi := { dst := some 28, op := Op.load 9 (Operand.tmp 27), type := 9, pos := "l03_site.go:17", after := #[{ on := 17, ground := Ground.data }, { on := 9, ground := Ground.guard }], guard := some (9, true) }) (v := ?vc18) rfl (by kernel_rfl) (by kernel_rfl) (by kernel_rfl) (fun _ _ _ h => h) (Or.inl ⟨by rfl, ?hyc18⟩) (by assumption) ?restc18
            case hyc18 =>
              intro w hSw
              (try dsimp only at hSw)
              go_simp
              try with_reducible rfl
            try simp only [Act.put, List.setIfInBounds_toArray, List.set_cons_zero, List.set_cons_succ]
            refine wpAnyH_take (i := 19) (oi := { dst := some 29, op := Op.binOp BinOp.geq 9 (Operand.tmp 24) (Operand.tmp 28) 9, type := 4, pos := "l03_site.go:17", after := #[{ on := 14, ground := Ground.data }, { on := 18, ground := Ground.data }, { on := 9, ground := Ground.guard }], guard := some (9, true) }) (v := ?vc19) rfl (by kernel_rfl) (by kernel_rfl) (by kernel_rfl) (fun _ _ _ h => h) (Or.inl ⟨by rfl, ?hyc19⟩) (by assumption) ?restc19
            case hyc19 =>
              intro w hSw
              (try dsimp only at hSw)
              go_simp
              try with_reducible rfl
            try simp only [Act.put, List.setIfInBounds_toArray, List.set_cons_zero, List.set_cons_succ]
            refine wpAnyH_take (i := 20) (oi := { dst := some 30, op := Op.pick (Operand.tmp 19) (Operand.tmp 29) (Operand.const (Value.bool false)), type := 4, pos := "l03_site.go:17", after := #[{ on := 9, ground := Ground.data }, { on := 19, ground := Ground.data }, { on := 6, ground := Ground.guard }], guard := some (6, false) }) (v := ?vc20) rfl (by kernel_rfl) (by kernel_rfl) (by kernel_rfl) (fun _ _ _ h => h) (Or.inl ⟨by rfl, ?hyc20⟩) (by assumption) ?restc20
            case hyc20 =>
              intro w hSw
              (try dsimp only at hSw)
              go_simp
              try with_reducible rfl
            try simp only [Act.put, List.setIfInBounds_toArray, List.set_cons_zero, List.set_cons_succ]
            refine wpAnyH_take (i := 21) (oi := { dst := some 31, op := Op.pick (Operand.tmp 16) (Operand.const (Value.bool true)) (Operand.tmp 30), type := 4, pos := "l03_site.go:17", after := #[{ on := 6, ground := Ground.data }, { on := 20, ground := Ground.data }], guard := none }) (v := ?vc21) rfl (by kernel_rfl) (by kernel_rfl) (by kernel_rfl) (fun _ _ _ h => h) (Or.inl ⟨by rfl, ?hyc21⟩) (by assumption) ?restc21
            case hyc21 =>
              intro w hSw
              (try dsimp only at hSw)
              go_simp
              try with_reducible rfl
            try simp only [Act.put, List.setIfInBounds_toArray, List.set_cons_zero, List.set_cons_succ]
            refine wpAnyH_done (by kernel_rfl) ?_ _
            go_wp2
            go_roundw
            case rel => exact ⟨m + 2, by omega, by go_num, (HB.out.trans (Below.drew (Below.refl _ _))).trans (hb2.mono HB.out.size), okR_succ HR.out HK.out⟩
            case measure => simp [intOf]; omega
          | false =>
            have HQ : Hid (R = false) := HA.out.1 (m + 1) hlt (by rw [HE.out, hless])
            clear HE
            generalize f (m + 1) = t at *
            generalize f m = s at *
            go_wp2_with fail
            refine wp_region_held_drew (S := (fun w' => g < w'.heap.size ∧ w'.cell? ⟨g, m + 1, none⟩ = some (.string t) ∧ w'.cell? ⟨g, m, none⟩ = some (.string s))) (by kernel_rfl) ?_ (fun hH0 => ?_)
            · (try dsimp only)
              go_keep
            refine wpAnyH_take (i := 0) (oi := { dst := some 10, op := Op.move (Operand.tmp 0), type := 22, pos := "l03_site.go:17", after := #[], guard := none }) (v := ?vd0) rfl (by kernel_rfl) (by kernel_rfl) (by kernel_rfl) (fun _ _ _ h => h) (Or.inl ⟨by rfl, ?hyd0⟩) (by assumption) ?restd0
            case hyd0 =>
              intro w hSw
              (try dsimp only at hSw)
              go_simp
              try with_reducible rfl
            try simp only [Act.put, List.setIfInBounds_toArray, List.set_cons_zero, List.set_cons_succ]
            refine wpAnyH_take (i := 1) (oi := { dst := some 11, op := Op.move (Operand.tmp 3), type := 3, pos := "l03_site.go:17", after := #[], guard := none }) (v := ?vd1) rfl (by kernel_rfl) (by kernel_rfl) (by kernel_rfl) (fun _ _ _ h => h) (Or.inl ⟨by rfl, ?hyd1⟩) (by assumption) ?restd1
            case hyd1 =>
              intro w hSw
              (try dsimp only at hSw)
              go_simp
              try with_reducible rfl
            try simp only [Act.put, List.setIfInBounds_toArray, List.set_cons_zero, List.set_cons_succ]
            refine wpAnyH_take (i := 2) (oi := { dst := some 12, op := Op.indexAddr 22 (Operand.tmp 10) (Operand.tmp 11), type := 0, pos := "l03_site.go:17", after := #[{ on := 0, ground := Ground.data }, { on := 1, ground := Ground.data }], guard := none }) (v := ?vd2) rfl (by kernel_rfl) (by kernel_rfl) (by kernel_rfl) (fun _ _ _ h => h) (Or.inl ⟨by rfl, ?hyd2⟩) (by assumption) ?restd2
            case hyd2 =>
              intro w hSw
              (try dsimp only at hSw)
              go_simp
              try with_reducible rfl
            try simp only [Act.put, List.setIfInBounds_toArray, List.set_cons_zero, List.set_cons_succ]
            refine wpAnyH_take (i := 3) (oi := { dst := some 13, op := Op.load 9 (Operand.tmp 12), type := 9, pos := "l03_site.go:17", after := #[{ on := 2, ground := Ground.data }], guard := none }) (v := ?vd3) rfl (by kernel_rfl) (by kernel_rfl) (by kernel_rfl) (fun _ _ _ h => h) (Or.inl ⟨by rfl, ?hyd3⟩) (by assumption) ?restd3
            case hyd3 =>
              intro w hSw
              (try dsimp only at hSw)
              go_simp
              try with_reducible rfl
            try simp only [Act.put, List.setIfInBounds_toArray, List.set_cons_zero, List.set_cons_succ]
            refine wpAnyH_ready (rs := [4]) (by kernel_rfl) (by simp) ?_
            refine AllReadyH.cons (o := { dst := some 14, op := Op.call { callee := Callee.value (Operand.func 73), args := #[Operand.tmp 13], argTypes := #[9] }, type := 4, pos := "l03_site.go:17", after := #[{ on := 3, ground := Ground.data }], guard := none }) rfl (fun K hK => ?_) AllReadyH.nil
            go_simp
            (go_at_call 73; refine (KR.out _).mono ?_; rintro e w2 ⟨rfl, hb2⟩; have z2 : g < w2.heap.size := Nat.lt_of_lt_of_le hz hb2.size; have c2 : w2.cell? ⟨g, m + 1, none⟩ = some (.string t) := ((bcell hb2).1 _ _ hz).trans hck; have d2 : w2.cell? ⟨g, m, none⟩ = some (.string s) := ((bcell hb2).1 _ _ hz).trans hcm)
            try (go_wp2_with fail)
            refine hK.out _ _ ?_ (fun hH1 => ?_)
            · (try dsimp only)
              go_keep
            clear hK K hH0
            try simp only [Act.put, List.setIfInBounds_toArray, List.set_cons_zero, List.set_cons_succ]
            refine wpAnyH_take (i := 5) (oi := { dst := some 15, op := Op.unOp UnOp.not 4 (Operand.tmp 14), type := 4, pos := "l03_site.go:17", after := #[{ on := 4, ground := Ground.data }], guard := none }) (v := ?vd5) rfl (by kernel_rfl) (by kernel_rfl) (by kernel_rfl) (fun _ _ _ h => h) (Or.inl ⟨by rfl, ?hyd5⟩) (by assumption) ?restd5
            case hyd5 =>
              intro w hSw
              (try dsimp only at hSw)
              go_simp
              try with_reducible rfl
            try simp only [Act.put, List.setIfInBounds_toArray, List.set_cons_zero, List.set_cons_succ]
            refine wpAnyH_take (i := 6) (oi := { dst := some 16, op := Op.move (Operand.tmp 15), type := 4, pos := "l03_site.go:17", after := #[{ on := 5, ground := Ground.data }, { on := 4, ground := Ground.chain }], guard := none }) (v := ?vd6) rfl (by kernel_rfl) (by kernel_rfl) (by kernel_rfl) (fun _ _ _ h => h) (Or.inl ⟨by rfl, ?hyd6⟩) (by assumption) ?restd6
            case hyd6 =>
              intro w hSw
              (try dsimp only at hSw)
              go_simp
              try with_reducible rfl
            try simp only [Act.put, List.setIfInBounds_toArray, List.set_cons_zero, List.set_cons_succ]
            refine wpAnyH_take (i := 7) (oi := { dst := some 17, op := Op.move (Operand.tmp 3), type := 3, pos := "l03_site.go:17", after := #[{ on := 6, ground := Ground.guard }], guard := some (6, false) }) (v := ?vd7) rfl (by kernel_rfl) (by kernel_rfl) (by kernel_rfl) (fun _ _ _ h => h) (Or.inl ⟨by rfl, ?hyd7⟩) (by assumption) ?restd7
            case hyd7 =>
              intro w hSw
              (try dsimp only at hSw)
              go_simp
              try with_reducible rfl
            try simp only [Act.put, List.setIfInBounds_toArray, List.set_cons_zero, List.set_cons_succ]
            refine wpAnyH_take (i := 8) (oi := { dst := some 18, op := Op.binOp BinOp.gtr 3 (Operand.tmp 17) (Operand.const (Value.int IntKind.i64 0)) 3, type := 4, pos := "l03_site.go:17", after := #[{ on := 7, ground := Ground.data }, { on := 6, ground := Ground.guard }], guard := some (6, false) }) (v := ?vd8) rfl (by kernel_rfl) (by kernel_rfl) (by kernel_rfl) (fun _ _ _ h => h) (Or.inl ⟨by rfl, ?hyd8⟩) (by assumption) ?restd8
            case hyd8 =>
              intro w hSw
              (try dsimp only at hSw)
              go_simp
              try with_reducible rfl
            try simp only [Act.put, List.setIfInBounds_toArray, List.set_cons_zero, List.set_cons_succ]
            refine wpAnyH_take (i := 9) (oi := { dst := some 19, op := Op.move (Operand.tmp 18), type := 4, pos := "l03_site.go:17", after := #[{ on := 8, ground := Ground.data }, { on := 6, ground := Ground.chain }, { on := 6, ground := Ground.guard }], guard := some (6, false) }) (v := ?vd9) rfl (by kernel_rfl) (by kernel_rfl) (by kernel_rfl) (fun _ _ _ h => h) (Or.inl ⟨by rfl, ?hyd9⟩) (by assumption) ?restd9
            case hyd9 =>
              intro w hSw
              (try dsimp only at hSw)
              go_simp
              try with_reducible rfl
            try simp only [Act.put, List.setIfInBounds_toArray, List.set_cons_zero, List.set_cons_succ]
            refine wpAnyH_take (i := 10) (oi := { dst := some 20, op := Op.move (Operand.tmp 0), type := 22, pos := "l03_site.go:17", after := #[{ on := 9, ground := Ground.guard }], guard := some (9, true) }) (v := ?vd10) rfl (by kernel_rfl) (by kernel_rfl) (by kernel_rfl) (fun _ _ _ h => h) (Or.inl ⟨by rfl, ?hyd10⟩) (by assumption) ?restd10
            case hyd10 =>
              intro w hSw
              (try dsimp only at hSw)
              go_simp
              try with_reducible rfl
            try simp only [Act.put, List.setIfInBounds_toArray, List.set_cons_zero, List.set_cons_succ]
            refine wpAnyH_take (i := 11) (oi := { dst := some 21, op := Op.move (Operand.tmp 3), type := 3, pos := "l03_site.go:17", after := #[{ on := 9, ground := Ground.guard }], guard := some (9, true) }) (v := ?vd11) rfl (by kernel_rfl) (by kernel_rfl) (by kernel_rfl) (fun _ _ _ h => h) (Or.inl ⟨by rfl, ?hyd11⟩) (by assumption) ?restd11
            case hyd11 =>
              intro w hSw
              (try dsimp only at hSw)
              go_simp
              try with_reducible rfl
            try simp only [Act.put, List.setIfInBounds_toArray, List.set_cons_zero, List.set_cons_succ]
            refine wpAnyH_take (i := 12) (oi := { dst := some 22, op := Op.binOp BinOp.sub 3 (Operand.tmp 21) (Operand.const (Value.int IntKind.i64 1)) 3, type := 3, pos := "l03_site.go:17", after := #[{ on := 11, ground := Ground.data }, { on := 9, ground := Ground.guard }], guard := some (9, true) }) (v := ?vd12) rfl (by kernel_rfl) (by kernel_rfl) (by kernel_rfl) (fun _ _ _ h => h) (Or.inl ⟨by rfl, ?hyd12⟩) (by assumption) ?restd12
            case hyd12 =>
              intro w hSw
              (try dsimp only at hSw)
              go_simp
              try with_reducible rfl
            try simp only [Act.put, List.setIfInBounds_toArray, List.set_cons_zero, List.set_cons_succ]
            refine wpAnyH_take (i := 13) (oi := { dst := some 23, op := Op.indexAddr 22 (Operand.tmp 20) (Operand.tmp 22), type := 0, pos := "l03_site.go:17", after := #[{ on := 10, ground := Ground.data }, { on := 12, ground := Ground.data }, { on := 9, ground := Ground.guard }], guard := some (9, true) }) (v := ?vd13) rfl (by kernel_rfl) (by kernel_rfl) (by kernel_rfl) (fun _ _ _ h => h) (Or.inl ⟨by rfl, ?hyd13⟩) (by assumption) ?restd13
            case hyd13 =>
              intro w hSw
              (try dsimp only at hSw)
              go_simp
              try with_reducible rfl
            try simp only [Act.put, List.setIfInBounds_toArray, List.set_cons_zero, List.set_cons_succ]
            refine wpAnyH_take (i := 14) (oi := { dst := some 24, op := Op.load 9 (Operand.tmp 23), type := 9, pos := "l03_site.go:17", after := #[{ on := 13, ground := Ground.data }, { on := 9, ground := Ground.guard }], guard := some (9, true) }) (v := ?vd14) rfl (by kernel_rfl) (by kernel_rfl) (by kernel_rfl) (fun _ _ _ h => h) (Or.inl ⟨by rfl, ?hyd14⟩) (by assumption) ?restd14
            case hyd14 =>
              intro w hSw
              (try dsimp only at hSw)
              go_simp
              try with_reducible rfl
            try simp only [Act.put, List.setIfInBounds_toArray, List.set_cons_zero, List.set_cons_succ]
            refine wpAnyH_take (i := 15) (oi := { dst := some 25, op := Op.move (Operand.tmp 0), type := 22, pos := "l03_site.go:17", after := #[{ on := 9, ground := Ground.guard }], guard := some (9, true) }) (v := ?vd15) rfl (by kernel_rfl) (by kernel_rfl) (by kernel_rfl) (fun _ _ _ h => h) (Or.inl ⟨by rfl, ?hyd15⟩) (by assumption) ?restd15
            case hyd15 =>
              intro w hSw
              (try dsimp only at hSw)
              go_simp
              try with_reducible rfl
            try simp only [Act.put, List.setIfInBounds_toArray, List.set_cons_zero, List.set_cons_succ]
            refine wpAnyH_take (i := 16) (oi := { dst := some 26, op := Op.move (Operand.tmp 3), type := 3, pos := "l03_site.go:17", after := #[{ on := 9, ground := Ground.guard }], guard := some (9, true) }) (v := ?vd16) rfl (by kernel_rfl) (by kernel_rfl) (by kernel_rfl) (fun _ _ _ h => h) (Or.inl ⟨by rfl, ?hyd16⟩) (by assumption) ?restd16
            case hyd16 =>
              intro w hSw
              (try dsimp only at hSw)
              go_simp
              try with_reducible rfl
            try simp only [Act.put, List.setIfInBounds_toArray, List.set_cons_zero, List.set_cons_succ]
            refine wpAnyH_take (i := 17) (oi := { dst := some 27, op := Op.indexAddr 22 (Operand.tmp 25) (Operand.tmp 26), type := 0, pos := "l03_site.go:17", after := #[{ on := 15, ground := Ground.data }, { on := 16, ground := Ground.data }, { on := 9, ground := Ground.guard }], guard := some (9, true) }) (v := ?vd17) rfl (by kernel_rfl) (by kernel_rfl) (by kernel_rfl) (fun _ _ _ h => h) (Or.inl ⟨by rfl, ?hyd17⟩) (by assumption) ?restd17
            case hyd17 =>
              intro w hSw
              (try dsimp only at hSw)
              go_simp
              try with_reducible rfl
            try simp only [Act.put, List.setIfInBounds_toArray, List.set_cons_zero, List.set_cons_succ]
            refine wpAnyH_take (i := 18) (oi := { dst := some 28, op := Op.load 9 (Operand.tmp 27), type := 9, pos := "l03_site.go:17", after := #[{ on := 17, ground := Ground.data }, { on := 9, ground := Ground.guard }], guard := some (9, true) }) (v := ?vd18) rfl (by kernel_rfl) (by kernel_rfl) (by kernel_rfl) (fun _ _ _ h => h) (Or.inl ⟨by rfl, ?hyd18⟩) (by assumption) ?restd18
            case hyd18 =>
              intro w hSw
              (try dsimp only at hSw)
              go_simp
              try with_reducible rfl
            try simp only [Act.put, List.setIfInBounds_toArray, List.set_cons_zero, List.set_cons_succ]
            refine wpAnyH_take (i := 19) (oi := { dst := some 29, op := Op.binOp BinOp.geq 9 (Operand.tmp 24) (Operand.tmp 28) 9, type := 4, pos := "l03_site.go:17", after := #[{ on := 14, ground := Ground.data }, { on := 18, ground := Ground.data }, { on := 9, ground := Ground.guard }], guard := some (9, true) }) (v := ?vd19) rfl (by kernel_rfl) (by kernel_rfl) (by kernel_rfl) (fun _ _ _ h => h) (Or.inl ⟨by rfl, ?hyd19⟩) (by assumption) ?restd19
            case hyd19 =>
              intro w hSw
              (try dsimp only at hSw)
              go_simp
              try with_reducible rfl
            try simp only [Act.put, List.setIfInBounds_toArray, List.set_cons_zero, List.set_cons_succ]
            refine wpAnyH_take (i := 20) (oi := { dst := some 30, op := Op.pick (Operand.tmp 19) (Operand.tmp 29) (Operand.const (Value.bool false)), type := 4, pos := "l03_site.go:17", after := #[{ on := 9, ground := Ground.data }, { on := 19, ground := Ground.data }, { on := 6, ground := Ground.guard }], guard := some (6, false) }) (v := ?vd20) rfl (by kernel_rfl) (by kernel_rfl) (by kernel_rfl) (fun _ _ _ h => h) (Or.inl ⟨by rfl, ?hyd20⟩) (by assumption) ?restd20
            case hyd20 =>
              intro w hSw
              (try dsimp only at hSw)
              go_simp
              try with_reducible rfl
            try simp only [Act.put, List.setIfInBounds_toArray, List.set_cons_zero, List.set_cons_succ]
            refine wpAnyH_take (i := 21) (oi := { dst := some 31, op := Op.pick (Operand.tmp 16) (Operand.const (Value.bool true)) (Operand.tmp 30), type := 4, pos := "l03_site.go:17", after := #[{ on := 6, ground := Ground.data }, { on := 20, ground := Ground.data }], guard := none }) (v := ?vd21) rfl (by kernel_rfl) (by kernel_rfl) (by kernel_rfl) (fun _ _ _ h => h) (Or.inl ⟨by rfl, ?hyd21⟩) (by assumption) ?restd21
            case hyd21 =>
              intro w hSw
              (try dsimp only at hSw)
              go_simp
              try with_reducible rfl
            try simp only [Act.put, List.setIfInBounds_toArray, List.set_cons_zero, List.set_cons_succ]
            refine wpAnyH_done (by kernel_rfl) ?_ _
            go_wp2
            go_ret
            exact ⟨ret_bool HQ.out.symm, (HB.out.trans (Below.drew (Below.refl _ _))).trans (hb2.mono HB.out.size)⟩
    · have HQ : Hid (R = decide (n ≤ 20)) := HA.out.2 (fun i hi => HR.out i (by omega))
      go_wp2
      go_ret
      exact ⟨ret_bool (by rw [HQ.out]; congr 1; exact propext ⟨fun h => by omega, fun h => by omega⟩), HB.out⟩
end Go.Proofs.YtaccgciopmclhaaGreatDoor

/- The walk of the specification's SuffixOf. -/
namespace Go.Proofs.YtaccgciopmclhaaGreatDoor
open Go.RowKit

theorem hostB_pos {s : ByteArray} (h : hostB s = true) : 0 < s.size ∧ s.size ≤ 100 := by
  refine ⟨?_, ?_⟩
  · by_cases hz : 0 < s.size
    · exact hz
    · exfalso
      have e : splitB s 46 = [s.extract 0 s.size] := by
        unfold splitB
        rw [show s.size = 0 by omega]; rfl
      have hl : labelB (s.extract 0 s.size) = false := labelB_size (.inl (by rw [ByteArray.size_extract]; omega))
      have : hostB s = false := hostB_at 0 (by rw [e]; exact Nat.zero_lt_one) (by simp only [e]; exact hl)
      rw [this] at h; cases h
  · by_cases hz : 100 < s.size
    · rw [hostB_size hz] at h; cases h
    · omega
theorem ruleB_sizes {s : ByteArray} (h : ruleB s = true) : 0 < s.size ∧ s.size ≤ 1000 := by
  unfold ruleB at h
  split at h
  · rw [Bool.and_eq_true] at h
    have := hostB_pos h.1
    rw [ByteArray.size_extract] at this
    omega
  · split at h
    · have := hostB_pos h
      rw [ByteArray.size_extract] at this
      omega
    · have := hostB_pos h
      omega
theorem okR_rule {f : Nat → ByteArray} {i : Nat} (h : okR f i = true) : ruleB (f i) = true := by
  cases i with
  | zero => exact h
  | succ m => rw [okR, Bool.and_eq_true] at h; exact h.1
theorem rulesB_parts {n : Nat} {f : Nat → ByteArray} (h : rulesB n f = true) : n ≤ 20 ∧ ∀ i, i < n → 0 < (f i).size ∧ (f i).size ≤ 1000 := by
  unfold rulesB at h
  rw [Bool.and_eq_true, decide_eq_true_eq, decide_eq_true_eq] at h
  exact ⟨h.2, fun i hi => ruleB_sizes (okR_rule (h.1 i hi))⟩
/-- what SuffixOf tells -/
def sufOf (n : Nat) (f : Nat → ByteArray) (s : ByteArray) : ByteArray × ByteArray := if rulesB n f = true ∧ hostB s = true then (sufS n f s, sufD n f s) else (⟨#[]⟩, ⟨#[]⟩)

end Go.Proofs.YtaccgciopmclhaaGreatDoor

/- The walks of the specification's l05Domain and DomainRight. -/
namespace Go.Proofs.YtaccgciopmclhaaGreatDoor
open Go.RowKit

theorem ret_b {a b : Bool} (h : a = b) : Ending.returned (Value.bool a) = Ending.returned (Value.bool b) := by rw [h]
/-- a domain, by right rules -/
def domB (n : Nat) (f : Nat → ByteArray) (s : ByteArray) : Bool := hostB s && ((sufD n f s).toList == s.toList)
/-- a right domain -/
def domR (n : Nat) (f : Nat → ByteArray) (s : ByteArray) : Bool := rulesB n f && domB n f s
theorem domB_host {n : Nat} {f : Nat → ByteArray} {s : ByteArray} (h : domB n f s = true) : hostB s = true := by
  unfold domB at h; rw [Bool.and_eq_true] at h; exact h.1
theorem domB_size {n : Nat} {f : Nat → ByteArray} {s : ByteArray} (h : domB n f s = true) : 0 < s.size ∧ s.size ≤ 100 := hostB_pos (domB_host h)
set_option maxRecDepth 100000 in
theorem field_dom (a b : ByteArray) (W : World) : Sem.run Tryz.prog (Instr.field 203 (.agg #[.string a, .string b]) 1) W = .ok (.string b) W := by kernel_rfl

set_option maxRecDepth 10000 in
set_option maxHeartbeats 1000000 in
theorem specDomain_any (v : Value) (n B : Nat) (f : Nat → ByteArray) (s : ByteArray) (w : World) (hs : SliceS w B v n f) (l1 : n ≤ 1048576) (hf : ∀ i, i < n → 0 < (f i).size ∧ (f i).size ≤ 1000) :
    Calls Tryz.prog 125 #[v, .string s] w fun e w' => e = .returned (.bool (domB n f s)) ∧ Below w.heap.size w w' := by
  have HSl : Hid (SliceS w B v n f) := hs
  have KH : Hid (Calls Tryz.prog 123 #[.string s] w fun e w' => e = .returned (.bool (hostB s)) ∧ Below w.heap.size w w') := specHost_any s w
  have KO : Hid (hostB s = true → ∀ W, SliceS W B v n f → Calls Tryz.prog 169 #[v, .string s] W fun e w' => e = .returned (.agg #[.string (sufS n f s), .string (sufD n f s)]) ∧ Below W.heap.size W w') := fun b W c => specOf_any v n B f s W c l1 hf (hostB_pos b).2
  have HD : Hid (domB n f s = (hostB s && ((sufD n f s).toList == s.toList))) := rfl
  have hfd : ∀ (a b : ByteArray) (W : World), Sem.run Tryz.prog (Instr.field 203 (.agg #[.string a, .string b]) 1) W = .ok (.string b) W := field_dom
  clear hf hs
  generalize domB n f s = d at *
  generalize sufS n f s = sS at *
  generalize sufD n f s = sD at *
  generalize hostB s = hb at *
  cases hb with
  | false =>
    go_enter Tryz.func125, Tryz.ntmps125
    go_wp2_with fail
    refine KH.out.mono ?_
    rintro e w1 ⟨rfl, hb1⟩
    go_wp2
    go_ret
    exact ⟨ret_b (by rw [HD.out]; rfl), hb1⟩
  | true =>
    have KO2 := KO.out rfl
    have HD2 : Hid (d = (sD.toList == s.toList)) := by show _ = _; rw [HD.out]; rfl
    clear KO HD
    have KO3 : Hid (∀ W, SliceS W B v n f → Calls Tryz.prog 169 #[v, .string s] W fun e w' => e = .returned (.agg #[.string sS, .string sD]) ∧ Below W.heap.size W w') := KO2
    clear KO2
    go_enter Tryz.func125, Tryz.ntmps125
    go_wp2_with fail
    refine KH.out.mono ?_
    rintro e w1 ⟨rfl, hb1⟩
    have B1 : Hid (Below w.heap.size w w1) := hb1
    clear hb1
    go_wp2_with fail
    refine (KO3.out _ (HSl.out.below B1.out)).mono ?_
    rintro e w2 ⟨rfl, hb2⟩
    have B2 : Hid (Below w.heap.size w w2) := B1.out.trans (hb2.mono B1.out.size)
    clear hb2
    go_wp2
    go_ret
    exact ⟨ret_b (by rw [HD2.out]), B2.out⟩

theorem specDomain_rules {n : Nat} {f : Nat → ByteArray} (h : rulesB n f = true) : ∀ i, i < n → 0 < (f i).size ∧ (f i).size ≤ 1000 := (rulesB_parts h).2

end Go.Proofs.YtaccgciopmclhaaGreatDoor

/- A slice of elements of several cells each. -/
namespace Go.Proofs.YtaccgciopmclhaaGreatDoor
open Go.RowKit

/-- a slice of n elements of sz cells each, f of each place and cell, that lies from block B on -/
def SliceR (w : World) (B sz : Nat) (v : Value) (n : Nat) (f : Nat → Nat → Value) : Prop :=
  ∃ p cap, v = .slice p n cap ∧ (0 < n → ∃ g, p = some ⟨g, 0, none⟩ ∧ B ≤ g ∧ g < w.heap.size ∧ ∀ j, j < n → ∀ o, o < sz → w.cell? ⟨g, j * sz + o, none⟩ = some (f j o) ∧ w.frozen? ⟨g, j * sz + o, none⟩ = false)
theorem SliceR.below {w w' : World} {B sz n : Nat} {v : Value} {f : Nat → Nat → Value} (h : SliceR w B sz v n f) (hb : Below w.heap.size w w') : SliceR w' B sz v n f := by
  obtain ⟨p, cap, rfl, h⟩ := h
  refine ⟨p, cap, rfl, fun hn => ?_⟩
  obtain ⟨g, rfl, hB, hg, hc⟩ := h hn
  have hs := hb.size
  refine ⟨g, rfl, hB, by omega, fun j hj o ho => ⟨?_, ?_⟩⟩
  · rw [(bcell hb).1 _ _ hg]; exact (hc j hj o ho).1
  · rw [(bcell hb).2 _ _ hg]; exact (hc j hj o ho).2
/-- a row below B' stays while rows from B' on are written -/
theorem SliceR.kept {w w' : World} {B B' sz n : Nat} {v : Value} {f : Nat → Nat → Value} (h : SliceR w B sz v n f) (hb : Below B' w w') (hlt : 0 < n → ∀ g cap m, v = .slice (some ⟨g, 0, none⟩) m cap → g < B') : SliceR w' B sz v n f := by
  obtain ⟨p, cap, rfl, h⟩ := h
  refine ⟨p, cap, rfl, fun hn => ?_⟩
  obtain ⟨g, rfl, hB, hg, hc⟩ := h hn
  have hs := hb.size
  have hl := hlt hn g cap n rfl
  refine ⟨g, rfl, hB, by omega, fun j hj o ho => ⟨?_, ?_⟩⟩
  · rw [hb.cell (p := ⟨g, j * sz + o, none⟩) hl]; exact (hc j hj o ho).1
  · rw [hb.frozen (p := ⟨g, j * sz + o, none⟩) hl]; exact (hc j hj o ho).2
theorem SliceR.lt {w : World} {B sz n : Nat} {v : Value} {f : Nat → Nat → Value} (h : SliceR w B sz v n f) : 0 < n → ∀ g cap m, v = .slice (some ⟨g, 0, none⟩) m cap → g < w.heap.size := by
  obtain ⟨p, cap, rfl, h⟩ := h
  intro hn
  obtain ⟨g, rfl, hB, hg, hc⟩ := h hn
  intro g' cap' m e
  injection e with e1
  injection e1 with e1
  injection e1 with e1
  omega
theorem SliceR.mono {w : World} {B B' sz n : Nat} {v : Value} {f : Nat → Nat → Value} (h : SliceR w B sz v n f) (hB : B' ≤ B) : SliceR w B' sz v n f := by
  obtain ⟨p, cap, rfl, h⟩ := h
  refine ⟨p, cap, rfl, fun hn => ?_⟩
  obtain ⟨g, rfl, h1, h2⟩ := h hn
  exact ⟨g, rfl, by omega, h2⟩
theorem sliceR_none (w : World) (B sz : Nat) (p : Option Addr) (cap : Nat) (f : Nat → Nat → Value) : SliceR w B sz (.slice p 0 cap) 0 f := ⟨p, cap, rfl, fun h => absurd h (by omega)⟩
/-- a row that is owned, as a slice -/
theorem sliceR_of_own {w : World} {B sz n : Nat} {t : TypeId} {v : Value} {xs : List Value} {f : Nat → Nat → Value} (h : w.ownsRow B t sz v n xs) (hf : ∀ j, j < n → ∀ o, o < sz → xs[j * sz + o]? = some (f j o)) : SliceR w B sz v n f := by
  obtain ⟨h1, ⟨rfl, h0⟩ | ⟨g, cap, cur, rfl, hg, h3, h4, h5, h6, h7⟩⟩ := h
  · exact ⟨.none, 0, by rw [h0], fun h => absurd h (by omega)⟩
  · refine ⟨_, cap, rfl, fun hn => ⟨g, rfl, hg, (Array.getElem?_eq_some_iff.mp h3).1, fun j hj o ho => ?_⟩⟩
    have hlt : j * sz + o < n * sz := by
      have : (j + 1) * sz ≤ n * sz := Nat.mul_le_mul_right sz hj
      rw [Nat.add_mul, Nat.one_mul] at this; omega
    have e : cur[j * sz + o]? = some (f j o) := by
      have e1 : (cur.toList.take (n * sz))[j * sz + o]? = xs[j * sz + o]? := by rw [h7]
      rw [List.getElem?_take_of_lt hlt] at e1
      rw [← Array.getElem?_toList, e1]
      exact hf j hj o ho
    exact ⟨by simp [World.cell?, h3, e], by simp [World.frozen?, h3]⟩
theorem ownR_below {w w' : World} {B n sz : Nat} {e : TypeId} {v : Value} {xs : List Value} (h : w.ownsRow B e sz v n xs) (hb : Below w.heap.size w w') : w'.ownsRow B e sz v n xs := by
  obtain ⟨hl, h0 | ⟨g, cap, cur, rfl, hbg, hh, r⟩⟩ := h
  · exact ⟨hl, .inl h0⟩
  · have hg : g < w.heap.size := (Array.getElem?_eq_some_iff.mp hh).1
    exact ⟨hl, .inr ⟨g, cap, cur, rfl, hbg, by rw [hb.block g hg]; exact hh, r⟩⟩
theorem addr_blk (x : Addr) (k : Nat) : (x.add k).block = x.block := by unfold Addr.add; split <;> rfl
end Go.Proofs.YtaccgciopmclhaaGreatDoor

/- Sets: what they are; a slice of them; the walks of the specification's l05All and l05Has. -/
namespace Go.Proofs.YtaccgciopmclhaaGreatDoor
open Go.RowKit

/-- a set: its primary, its members -/
abbrev SetL := ByteArray × List ByteArray
def atS (L : List SetL) (j : Nat) : SetL := L.getD j (⟨#[]⟩, [])
/-- all domains of a set -/
def allD (x : SetL) : List ByteArray := x.1 :: x.2
/-- a set has a domain -/
def hasB (x : SetL) (d : ByteArray) : Bool := (allD x).any (fun y => y.toList == d.toList)
/-- a set has no domain of others -/
def apartB (L : List SetL) (x : SetL) : Bool := L.all (fun y => (allD x).all (fun d => !hasB y d))
/-- the member at a place is right, is not the primary, and greater than the one ahead of it -/
def okM (n : Nat) (f : Nat → ByteArray) (x : SetL) (i : Nat) : Bool :=
  domB n f (atL x.2 i) && !((atL x.2 i).toList == x.1.toList) && (i == 0 || Op.bytesLess (atL x.2 (i - 1)).toList (atL x.2 i).toList)
/-- right by itself -/
def setRB (n : Nat) (f : Nat → ByteArray) (x : SetL) : Bool :=
  domB n f x.1 && decide (1 ≤ x.2.length) && decide (x.2.length ≤ 4) && decide (∀ i, i < x.2.length → okM n f x i = true)
/-- the set at a place: right, rising, apart from those ahead -/
def okS (n : Nat) (f : Nat → ByteArray) (L : List SetL) (i : Nat) : Bool :=
  setRB n f (atS L i) && (i == 0 || Op.bytesLess (atS L (i - 1)).1.toList (atS L i).1.toList) && apartB (L.take i) (atS L i)
def setsB (n : Nat) (f : Nat → ByteArray) (L : List SetL) : Bool :=
  rulesB n f && decide (L.length ≤ 6) && decide (∀ i, i < L.length → okS n f L i = true)

/-- a slice of sets -/
def SliceT (w : World) (B : Nat) (v : Value) (L : List SetL) : Prop :=
  ∃ u : Nat → Value, SliceR w B 2 v L.length (fun j o => if o = 0 then .string (atS L j).1 else u j) ∧ (∀ j, j < L.length → SliceS w B (u j) (atS L j).2.length (atL (atS L j).2)) ∧ ∃ p c, v = .slice p L.length c ∧ L.length ≤ c
theorem SliceT.below {w w' : World} {B : Nat} {v : Value} {L : List SetL} (h : SliceT w B v L) (hb : Below w.heap.size w w') : SliceT w' B v L := by
  obtain ⟨u, h1, h2, h3⟩ := h
  exact ⟨u, h1.below hb, fun j hj => (h2 j hj).below hb, h3⟩
theorem own_one5 (w : World) (base : Nat) (e : TypeId) (x : Value) (hb : base ≤ w.heap.size) : (w.alloc (.cells #[x] e)).ownsRow base e 1 (.slice (some ⟨w.heap.size, 0, none⟩) 1 1) 1 [x] :=
  ⟨by simp, .inr ⟨w.heap.size, 1, #[x], rfl, hb, heap_alloc_new w _, Nat.le_refl _, by decide, rfl, by simp⟩⟩

set_option maxRecDepth 10000 in
set_option maxHeartbeats 1000000 in
theorem specAll_any (x : SetL) (u : Value) (B : Nat) (w : World) (hs : SliceS w B u x.2.length (atL x.2)) (hu : 0 < x.2.length ∨ u = .slice none 0 0) (hn : x.2.length ≤ 1048576) :
    Calls Tryz.prog 126 #[.agg #[.string x.1, u]] w fun e w' => ∃ v, e = .returned v ∧ SliceS w' w.heap.size v (allD x).length (atL (allD x)) ∧ Below w.heap.size w w' := by
  obtain ⟨p, M⟩ := x
  dsimp only at hs hu hn ⊢
  obtain ⟨i0, hi, hz0, hz1, hz2⟩ := info_parts infoStr2
  have HB : Hid (Below w.heap.size w ((w.alloc (.cells #[.string p, u] 121)).alloc (.cells #[.string p] 9))) := ((Below.refl _ _).alloc (Nat.le_refl _) _).alloc (by simp) _
  have HO : Hid (((w.alloc (.cells #[.string p, u] 121)).alloc (.cells #[.string p] 9)).ownsRow w.heap.size 9 1 (.slice (some ⟨w.heap.size + 1, 0, none⟩) 1 1) 1 [.string p]) := by
    have := own_one5 (w.alloc (.cells #[.string p, u] 121)) w.heap.size 9 (.string p) (by simp)
    show World.ownsRow _ _ _ _ _ _ _
    simpa using this
  have HS : Hid (SliceS w B u M.length (atL M)) := hs
  have HE : Hid (∀ v w', w'.ownsRow w.heap.size 9 1 v (1 + M.length) ([.string p] ++ strCells M) → SliceS w' w.heap.size v (allD (p, M)).length (atL (allD (p, M)))) := fun v w' h => slice_of_own (L := p :: M) (by rw [List.length_cons, Nat.add_comm]; exact h)
  clear hs
  rcases hu with hu | rfl
  · obtain ⟨q, cap, rfl, hg⟩ := HS.out
    obtain ⟨g, rfl, -, hgw, hc⟩ := hg hu
    have HN : Hid (∀ j v, (strCells M)[j]? = some v → ((w.alloc (.cells #[.string p, .slice (some ⟨g, 0, none⟩) M.length cap] 121)).alloc (.cells #[.string p] 9)).cell? ((⟨g, 0, none⟩ : Addr).add j) = some v) := by
      intro j v hv
      have hj : j < M.length := by
        have := (List.getElem?_eq_some_iff.1 hv).1
        simpa [strCells] using this
      have e : v = .string (atL M j) := by
        simp [strCells, hj] at hv
        rw [← hv]; simp [atL, hj]
      rw [Addr.add_lit, Nat.zero_add, (bcell HB.out).1 _ _ hgw, (hc j hj).1, e]
    have HC : Hid (∀ v ∈ strCells M, v.oneCell' = true) := by
      intro v hv
      unfold strCells at hv
      rw [List.mem_map] at hv
      obtain ⟨x, _, rfl⟩ := hv
      rfl
    clear hg hc
    go_enter Tryz.func126, Tryz.ntmps126
    go_wp2_with (at_builtin; go_must (refine wpList_append_own _ rfl _ _ 22 rfl w.heap.size 9 i0 (.string ⟨#[]⟩) 1 16 Tryz.underlying22 hi hz0 hz1 hz2 rfl (by decide) _ _ _ rfl HO.out ⟨g, 0, none⟩ M.length cap (strCells M) rfl (by simp [strCells]) HN.out HC.out (by unfold maxLen; omega) (by omega) HB.out.size ?_))
    intro v1 w1 ho1 hg1 hn1
    have hb1 : Below w.heap.size w w1 := HB.out.grown hg1 (by simp; omega) (fun j hj => by simp [Value.ownBlock] at hj; omega)
    have O1 : Hid (SliceS w1 w.heap.size v1 (allD (p, M)).length (atL (allD (p, M)))) := HE.out v1 w1 ho1
    clear ho1 hg1 hn1
    go_wp2
    go_ret
    exact ⟨_, rfl, O1.out, hb1⟩
  · have hm : M = [] := by
      obtain ⟨q, cap, e, -⟩ := HS.out
      injection e with _ e
      exact List.length_eq_zero_iff.1 e.symm
    subst hm
    have O1 : Hid (SliceS ((w.alloc (.cells #[.string p, .slice none 0 0] 121)).alloc (.cells #[.string p] 9)) w.heap.size (.slice (some ⟨w.heap.size + 1, 0, none⟩) 1 1) (allD (p, [])).length (atL (allD (p, [])))) := HE.out _ _ HO.out
    go_enter Tryz.func126, Tryz.ntmps126
    go_wp2_with (at_builtin; go_must (refine wpList_append_own_none rfl _ _ 22 rfl w.heap.size 9 i0 1 Tryz.underlying22 hi _ _ _ rfl HO.out rfl ?_))
    go_wp2
    go_ret
    exact ⟨_, rfl, O1.out, HB.out⟩

theorem hasB_at {x : SetL} {d : ByteArray} (k : Nat) (hk : k < (allD x).length) (h : ((atL (allD x) k).toList == d.toList) = true) : hasB x d = true := by
  unfold hasB
  rw [List.any_eq_true]
  refine ⟨(allD x)[k], List.getElem_mem hk, ?_⟩
  have e : atL (allD x) k = (allD x)[k] := by simp [atL, hk]
  rw [← e]; exact h
theorem hasB_none {x : SetL} {d : ByteArray} (h : ∀ k, k < (allD x).length → ((atL (allD x) k).toList == d.toList) = false) : hasB x d = false := by
  unfold hasB
  rw [List.any_eq_false]
  intro y hy
  obtain ⟨k, hk, rfl⟩ := List.mem_iff_getElem.1 hy
  have e : atL (allD x) k = (allD x)[k] := by simp [atL, hk]
  rw [← e, h k hk]; decide

set_option maxRecDepth 10000 in
set_option maxHeartbeats 1000000 in
theorem specHas_any (x : SetL) (u : Value) (B : Nat) (d : ByteArray) (w : World) (hs : SliceS w B u x.2.length (atL x.2)) (hu : 0 < x.2.length ∨ u = .slice none 0 0) (hn : x.2.length ≤ 1048576) :
    Calls Tryz.prog 127 #[.agg #[.string x.1, u], .string d] w fun e w' => e = .returned (.bool (hasB x d)) ∧ Below w.heap.size w w' := by
  have B0 : Hid (Below w.heap.size w (w.alloc (.cells #[.string x.1, u] 121))) := (Below.refl _ _).alloc (Nat.le_refl _) _
  have KA : Hid (Calls Tryz.prog 126 #[.agg #[.string x.1, u]] (w.alloc (.cells #[.string x.1, u] 121)) fun e w' => ∃ v, e = .returned v ∧ SliceS w' (w.alloc (.cells #[.string x.1, u] 121)).heap.size v (allD x).length (atL (allD x)) ∧ Below (w.alloc (.cells #[.string x.1, u] 121)).heap.size (w.alloc (.cells #[.string x.1, u] 121)) w') :=
    specAll_any x u B _ (hs.below B0.out) hu hn
  have hl : (allD x).length ≤ 1048577 := by unfold allD; rw [List.length_cons]; omega
  have HY : Hid (∀ k, k < (allD x).length → ((atL (allD x) k).toList == d.toList) = true → hasB x d = true) := fun k a b => hasB_at k a b
  have HN : Hid ((∀ k, k < (allD x).length → ((atL (allD x) k).toList == d.toList) = false) → hasB x d = false) := hasB_none
  clear hs hu hn
  generalize hasB x d = R at *
  generalize allD x = L at *
  go_enter Tryz.func127, Tryz.ntmps127
  go_wp2_with fail
  refine KA.out.mono ?_
  rintro e w1 ⟨v, rfl, hs1, hb1⟩
  have B1 : Hid (Below w.heap.size w w1) := B0.out.trans (hb1.mono B0.out.size)
  obtain ⟨p, cap, rfl, hg⟩ := hs1
  have HG : Hid (0 < L.length → ∃ g, p = some ⟨g, 0, none⟩ ∧ ∀ j, j < L.length → w1.cell? ⟨g, j, none⟩ = some (.string (atL L j))) := fun h0 => by
    obtain ⟨g, e, -, -, hc⟩ := hg h0
    exact ⟨g, e, fun j hj => (hc j hj).1⟩
  clear hb1 hg
  go_wp2
  go_loopw [6] (fun i wr => ∃ k : Nat, k ≤ L.length ∧ i = .int .i64 k ∧ wr = w1 ∧ Hid (∀ j, j < k → ((atL L j).toList == d.toList) = false)) (fun i _ => L.length - (intOf i).toNat)
  case atStart => exact ⟨0, Nat.zero_le _, rfl, rfl, fun j hj => absurd hj (by omega)⟩
  case round =>
    obtain ⟨k, hk, rfl, rfl, HR⟩ := hrel
    have k0 : (0 : Int) ≤ k := by omega
    by_cases hlt : k < L.length
    · obtain ⟨g, rfl, hc⟩ := HG.out (by omega)
      have hck := hc k hlt
      have k1 : (k : Int) < L.length := by omega
      clear hc
      cases he : ((atL L k).toList == d.toList) with
      | true =>
        have HQ : Hid (R = true) := HY.out k hlt he
        generalize atL L k = y at *
        go_wp2
        go_ret
        exact ⟨ret_b HQ.out.symm, B1.out⟩
      | false =>
        have HN1 : Hid (∀ j, j < k + 1 → ((atL L j).toList == d.toList) = false) := fun j hj => by
          by_cases e : j = k
          · subst e; exact he
          · exact HR.out j (by omega)
        generalize atL L k = y at *
        go_wp2
        go_roundw
        case rel => exact ⟨k + 1, by omega, by go_num, trivial, HN1⟩
        case measure => simp [intOf]; omega
    · have hkk : k = L.length := by omega
      have HQ : Hid (R = false) := HN.out (fun j hj => HR.out j (by omega))
      subst hkk
      go_wp2
      go_ret
      exact ⟨ret_b HQ.out.symm, B1.out⟩
end Go.Proofs.YtaccgciopmclhaaGreatDoor

/- What the laws do with a Pair besides their calls: its size is looked at, it is handed on field by field, two are held against each other. -/
namespace Go.Proofs.YtaccgciopmclhaaGreatDoor
open Go.RowKit

end Go.Proofs.YtaccgciopmclhaaGreatDoor

/- What the laws do with a slice of Pairs besides their calls. Written by slices.py. -/
namespace Go.Proofs.YtaccgciopmclhaaGreatDoor
open Go.RowKit

/-- the mark of each cell -/
def markPairC (q j o : Nat) : Value := .string (markT (q + j * 2 + o))
/-- one cell turned -/
def updR (f : Nat → Nat → Value) (k o : Nat) (u : Value) (j p : Nat) : Value := if j = k ∧ p = o then u else f j p
theorem SliceR.congr {w : World} {B sz n : Nat} {v : Value} {f h : Nat → Nat → Value} (hs : SliceR w B sz v n f) (he : ∀ j, j < n → ∀ o, o < sz → f j o = h j o) : SliceR w B sz v n h := by
  obtain ⟨p, cap, rfl, hg⟩ := hs
  refine ⟨p, cap, rfl, fun hn => ?_⟩
  obtain ⟨g, rfl, hB, hlt, hc⟩ := hg hn
  exact ⟨g, rfl, hB, hlt, fun j hj o ho => by rw [← he j hj o ho]; exact hc j hj o ho⟩
theorem SliceR.set {w : World} {B sz n m g cap : Nat} {f : Nat → Nat → Value} (hs : SliceR w B sz (.slice (some ⟨g, 0, none⟩) m cap) n f) (k o : Nat) (hk : k < n) (ho : o < sz) (u : Value) : SliceR (w.setCell ⟨g, k * sz + o, none⟩ u) B sz (.slice (some ⟨g, 0, none⟩) m cap) n (updR f k o u) := by
  obtain ⟨p, cap', e, hg⟩ := hs
  injection e with e1 e2 e3
  subst e1 e2 e3
  refine ⟨_, _, rfl, fun hn => ?_⟩
  obtain ⟨g', e, hB, hlt, hc⟩ := hg hn
  injection e with e
  injection e with e
  subst e
  refine ⟨g, rfl, hB, by simpa [World.setCell] using hlt, fun j hj p hp => ⟨?_, ?_⟩⟩
  · unfold updR
    by_cases hjp : j = k ∧ p = o
    · rw [if_pos hjp, hjp.1, hjp.2]; exact World.cell?_setCell_same _ _ _ (hc k hk o ho).1
    · rw [if_neg hjp, World.cell?_setCell_other _ _ _ _ (by
        intro h
        injection h with _ h
        apply hjp
        by_cases hjk : j = k
        · subst hjk; exact ⟨rfl, by omega⟩
        · exfalso
          rcases Nat.lt_or_gt_of_ne hjk with hl | hl
          · have : (j + 1) * sz ≤ k * sz := Nat.mul_le_mul_right sz hl
            rw [Nat.add_mul, Nat.one_mul] at this; omega
          · have : (k + 1) * sz ≤ j * sz := Nat.mul_le_mul_right sz hl
            rw [Nat.add_mul, Nat.one_mul] at this; omega)]
      exact (hc j hj p hp).1
  · rw [World.frozen?_setCell]; exact (hc j hj p hp).2
theorem grownG_below {a w w' : World} {G : Nat} (h : a.grownBy w (some G)) (hb : Below w.heap.size w w') : a.grownBy w' (some G) :=
  ⟨hb.os.trans h.os, hb.tape.trans h.tape, hb.output.trans h.output, Nat.le_trans h.size hb.size, fun k hk hne => (hb.block k (Nat.lt_of_lt_of_le hk h.size)).trans (h.block k hk hne)⟩
theorem grownG_set {a w : World} {G : Nat} (h : a.grownBy w (some G)) (o : Nat) (v : Value) : a.grownBy (w.setCell ⟨G, o, none⟩ v) (some G) :=
  ⟨h.os, h.tape, h.output, by simpa [World.setCell] using h.size, fun k hk hne => (Below.heap_setCell _ _ _ _ (fun e => hne (congrArg some e))).trans (h.block k hk hne)⟩
end Go.Proofs.YtaccgciopmclhaaGreatDoor

/- A slice of texts that came in, as a law's frame opens it. -/
namespace Go.Proofs.YtaccgciopmclhaaGreatDoor
open Go.ChangeShapes Go.WideShapes Go.ChangeAt Go.RowKit

theorem strRow_of {H : Type} {enc : TypeId × Value → H} {W : World} {a : Option Addr} {len cap : Nat} {d : DataW H} {p : List MemPlace}
    (h : ∃ fuel, DataW.trod enc Tryz.prog W 0 (fun _ => true) true fuel 22 (Value.slice a len cap).cells.toList = some (d, p)) : (∃ f, StrRow W a len f) ∧ len ≤ maxLen := by
  obtain ⟨fuel, hf⟩ := h
  rcases Go.Deep.open_strs Tryz.underlying22 Tryz.underlying9 (by kernel_rfl) hf with ⟨hcs, _⟩ | ⟨x, l, c, m, f, hcs, _, hl, hm, hmm, _, hcell⟩
  · simp [Value.cells] at hcs
    obtain ⟨rfl, rfl, rfl⟩ := hcs
    exact ⟨⟨fun _ => ⟨#[]⟩, fun i hi => absurd hi (by omega)⟩, Nat.zero_le _⟩
  · simp [Value.cells] at hcs
    obtain ⟨rfl, rfl, rfl⟩ := hcs
    refine ⟨⟨f, fun i hi => ?_⟩, by omega⟩
    have hmc : m = cap := by simpa using hmm
    obtain ⟨hc, hs⟩ := hcell i (by omega)
    refine ⟨x, rfl, ?_, hc, hs⟩
    have hb : (x.add i).block < W.heap.size := by
      by_cases h : (x.add i).block < W.heap.size
      · exact h
      · exfalso
        simp [World.cell?, Array.getElem?_eq_none (show W.heap.size ≤ (x.add i).block by omega)] at hc
    have e : (x.add i).block = x.block := by unfold Addr.add; split <;> rfl
    rw [e] at hb; exact hb
end Go.Proofs.YtaccgciopmclhaaGreatDoor

/- A slice of sets that came in; the laws' szSiteSetS, toSiteSetS and eqSiteSetS over it. -/
namespace Go.Proofs.YtaccgciopmclhaaGreatDoor
open Go.ChangeShapes Go.WideShapes Go.ChangeAt Go.RowKit

theorem SliceS.setOther {w : World} {B n b o : Nat} {v x : Value} {f : Nat → ByteArray} (h : SliceS w B v n f) (hb : b < B) : SliceS (w.setCell ⟨b, o, none⟩ x) B v n f := by
  obtain ⟨p, cap, rfl, h⟩ := h
  refine ⟨p, cap, rfl, fun hn => ?_⟩
  obtain ⟨g, rfl, h1, h2, hc⟩ := h hn
  refine ⟨g, rfl, h1, by simpa [World.setCell] using h2, fun j hj => ⟨?_, ?_⟩⟩
  · rw [World.cell?_setCell_other _ _ _ _ (by intro h; injection h with h; omega)]; exact (hc j hj).1
  · rw [World.frozen?_setCell]; exact (hc j hj).2
theorem SliceS.ext {w : World} {B n : Nat} {v : Value} {f h : Nat → ByteArray} (hs : SliceS w B v n f) (he : ∀ j, j < n → f j = h j) : SliceS w B v n h := by
  obtain ⟨p, cap, rfl, hh⟩ := hs
  refine ⟨p, cap, rfl, fun hn => ?_⟩
  obtain ⟨g, rfl, h1, h2, hc⟩ := hh hn
  exact ⟨g, rfl, h1, h2, fun j hj => by rw [← he j hj]; exact hc j hj⟩
/-- sets that a slice leads to -/
def SetRow (w : World) (a : Option Addr) (L : List SetL) : Prop := ∀ i, i < L.length → ∃ x, a = some x ∧ x.block < w.heap.size ∧ w.cell? (x.add (i * 2)) = some (.string (atS L i).1) ∧ ∃ a' c', w.cell? (x.add (i * 2 + 1)) = some (.slice a' (atS L i).2.length c') ∧ StrRow w a' (atS L i).2.length (atL (atS L i).2) ∧ (atS L i).1.size ≤ maxLen ∧ (atS L i).2.length ≤ maxLen
theorem SetRow.below {w w' : World} {a : Option Addr} {L : List SetL} (h : SetRow w a L) (hb : Below w.heap.size w w') : SetRow w' a L := by
  intro i hi
  obtain ⟨x, e, hx, h0, a', c', h1, hr, hs⟩ := h i hi
  exact ⟨x, e, Nat.lt_of_lt_of_le hx hb.size, by rw [hb.cell (p := x.add (i * 2)) (by rw [addr_blk]; exact hx)]; exact h0, a', c', by rw [hb.cell (p := x.add (i * 2 + 1)) (by rw [addr_blk]; exact hx)]; exact h1, hr.below hb, hs⟩
theorem setRow_of {H : Type} {enc : TypeId × Value → H} {W : World} {a : Option Addr} {len cap : Nat} {d : DataW H} {p : List MemPlace}
    (h : ∃ fuel, DataW.trod enc Tryz.prog W 0 (fun _ => true) true fuel 23 (Value.slice a len cap).cells.toList = some (d, p)) : (∃ L, L.length = len ∧ SetRow W a L) ∧ len ≤ maxLen := by
  obtain ⟨fuel, hf⟩ := h
  rcases Go.Deep.open_slice_pairs Tryz.underlying23 Tryz.underlying105 (by kernel_rfl) (by kernel_rfl) (by kernel_rfl) (by kernel_rfl) (by kernel_rfl) hf with ⟨hcs, _⟩ | ⟨x, l, c, m, n, V0, V1, D0, D1, P0, P1, hcs, _, hl, hm, hmm, _, hcell⟩
  · simp [Value.cells] at hcs
    obtain ⟨rfl, rfl, rfl⟩ := hcs
    exact ⟨⟨[], rfl, fun i hi => absurd hi (by simp)⟩, Nat.zero_le _⟩
  · simp [Value.cells] at hcs
    obtain ⟨rfl, rfl, rfl⟩ := hcs
    have hmc : m = cap := by simpa using hmm
    have each : ∀ i, i < len → ∃ q : SetL, W.cell? (x.add (i * 2)) = some (.string q.1) ∧ ∃ a' c', W.cell? (x.add (i * 2 + 1)) = some (.slice a' q.2.length c') ∧ StrRow W a' q.2.length (atL q.2) ∧ q.1.size ≤ maxLen ∧ q.2.length ≤ maxLen := fun i hi => by
      obtain ⟨h0, h1, g0, g1⟩ := hcell i (by omega)
      obtain ⟨s0, e0, -, z0⟩ := DataW.trod_string Tryz.underlying9 g0
      simp only [List.cons.injEq, and_true] at e0
      have g1' : DataW.trod enc Tryz.prog W 0 (fun _ => true) true n 22 [V1 i] = some (D1 i, P1 i) := g1
      have hv : ∃ a' l' c', V1 i = .slice a' l' c' := by
        rcases Go.Deep.open_strs Tryz.underlying22 Tryz.underlying9 (by kernel_rfl) g1' with ⟨hcs, _⟩ | ⟨x', l', c', m', f', hcs, _⟩
        · simp only [List.cons.injEq, and_true] at hcs; exact ⟨_, _, _, hcs⟩
        · simp only [List.cons.injEq, and_true] at hcs; exact ⟨_, _, _, hcs⟩
      obtain ⟨a', l', c', hv⟩ := hv
      rw [hv] at g1' h1
      obtain ⟨⟨f', hr⟩, hn⟩ := strRow_of (a := a') (len := l') (cap := c') ⟨n, g1'⟩
      refine ⟨(s0, (List.range l').map f'), by rw [h0, e0], a', c', ?_, ?_, z0, by simpa using hn⟩
      · rw [h1]; simp
      · intro j hj
        have hj' : j < l' := by simpa using hj
        obtain ⟨y, h1, h2, h3, h4⟩ := hr j hj'
        have e : atL ((List.range l').map f') j = f' j := by simp [atL, hj']
        exact ⟨y, h1, h2, by rw [h3, e], by rw [e]; exact h4⟩
    obtain ⟨q, hq⟩ := @Go.Deep.choose_lt SetL ⟨(⟨#[]⟩, [])⟩ len _ each
    refine ⟨⟨(List.range len).map q, by simp, fun i hi => ?_⟩, by omega⟩
    have hi' : i < len := by simpa using hi
    have e : atS ((List.range len).map q) i = q i := by simp [atS, hi']
    obtain ⟨h0, h1⟩ := hq i hi'
    rw [e]
    refine ⟨x, rfl, ?_, h0, h1⟩
    have := World.block_lt_of_cell? W _ h0
    rw [addr_blk] at this; exact this

/-- a set's texts are no longer than what is asked -/
def szS (x : SetL) : Prop := x.1.size ≤ 1048576 ∧ x.2.length ≤ 1048576 ∧ ∀ i, i < x.2.length → (atL x.2 i).size ≤ 1048576
set_option maxRecDepth 10000 in
set_option maxHeartbeats 1000000 in
theorem szSiteSet_at (x : SetL) (a' : Option Addr) (c' : Nat) (l : Int) (w : World) (hr : StrRow w a' x.2.length (atL x.2)) (h1 : x.1.size ≤ maxLen) (h2 : x.2.length ≤ maxLen) (l0 : 0 ≤ l) (l1 : l ≤ 1048576) :
    Calls Tryz.prog 68 #[.agg #[.string x.1, .slice a' x.2.length c'], .int .i64 l] w fun e w' => (∃ r : Int, e = .returned (.int .i64 r) ∧ (r < 0 ∨ (0 ≤ r ∧ r ≤ 1048576 ∧ szS x))) ∧ Below w.heap.size w w' := by
  obtain ⟨p, M⟩ := x
  dsimp only at hr h1 h2 ⊢
  have HL : Hid (p.size ≤ maxLen) := h1
  unfold maxLen at h1
  have B0 : Hid (Below w.heap.size w (w.alloc (.cells #[.string p, .slice a' M.length c'] 105))) := (Below.refl _ _).alloc (Nat.le_refl _) _
  by_cases c1 : l < p.size
  · have q0 : l - (p.size : Int) < 0 := by omega
    go_enter Tryz.func68, Tryz.ntmps68
    go_wp2
    go_ret
    exact ⟨⟨-1, rfl, .inl (by omega)⟩, B0.out⟩
  have q0 : decide (l - (p.size : Int) < 0) = false := by rw [decide_eq_false_iff_not]; omega
  have KZ : Hid (Calls Tryz.prog 19 #[.slice a' M.length c', .int .i64 (l - (p.size : Int))] (w.alloc (.cells #[.string p, .slice a' M.length c'] 105)) fun e w' => (∃ r : Int, e = .returned (.int .i64 r) ∧ (r < 0 ∨ (0 ≤ r ∧ r ≤ l - (p.size : Int) ∧ (M.length : Int) ≤ l - (p.size : Int) ∧ ∀ i, i < M.length → (((atL M) i).size : Int) ≤ l - (p.size : Int)))) ∧ w' = w.alloc (.cells #[.string p, .slice a' M.length c'] 105)) := szStringS_any a' M.length c' (atL M) (l - (p.size : Int)) _ (hr.below B0.out) h2 (by omega) (by omega)
  clear hr
  go_enter Tryz.func68, Tryz.ntmps68
  go_wp2_with fail
  refine KZ.out.mono ?_
  rintro e w1 ⟨⟨r, rfl, hr⟩, rfl⟩
  rcases hr with hr | ⟨r0, r1, hl, hf⟩
  · have q2 : decide (r < 0) = true := by rw [decide_eq_true_iff]; exact hr
    go_wp2
    go_ret
    exact ⟨⟨_, rfl, .inl (by decide)⟩, B0.out⟩
  · have q2 : decide (r < 0) = false := by rw [decide_eq_false_iff_not]; omega
    have HZ : Hid (szS (p, M)) := ⟨by show p.size ≤ _; omega, by show M.length ≤ _; omega, fun i hi => by have := hf i hi; show (atL M i).size ≤ _; omega⟩
    have r1' : r ≤ 1048576 := by omega
    clear hf hl r1
    go_wp2
    go_ret
    exact ⟨⟨r, rfl, .inr ⟨r0, r1', HZ.out⟩⟩, B0.out⟩
set_option maxRecDepth 10000 in
set_option maxHeartbeats 1000000 in
theorem szSiteSetS_any (a : Option Addr) (cap : Nat) (L : List SetL) (l : Int) (w : World) (hr : SetRow w a L) (hn : L.length ≤ maxLen) (h0 : 0 ≤ l) (h1 : l ≤ 1048576) :
    Calls Tryz.prog 20 #[.slice a L.length cap, .int .i64 l] w fun e w' => (∃ r : Int, e = .returned (.int .i64 r) ∧ (r < 0 ∨ (0 ≤ r ∧ r ≤ 1048576 ∧ L.length ≤ 1048576 ∧ ∀ i, i < L.length → szS (atS L i)))) ∧ Below w.heap.size w w' := by
  unfold maxLen at hn
  by_cases hl : l < L.length
  · have q : decide (l - (L.length : Int) < 0) = true := by rw [decide_eq_true_iff]; omega
    go_enter Tryz.func20, Tryz.ntmps20
    go_wp2
    go_ret
    exact ⟨⟨_, rfl, .inl (by decide)⟩, Below.refl _ _⟩
  have q : decide (l - (L.length : Int) < 0) = false := by rw [decide_eq_false_iff_not]; omega
  have HR : Hid (SetRow w a L) := hr
  clear hr
  go_enter Tryz.func20, Tryz.ntmps20
  go_wp2
  go_loopw [1, 5] (fun v i wr => ∃ (k : Nat) (z : Int), k ≤ L.length ∧ v = .int .i64 z ∧ i = .int .i64 k ∧ 0 ≤ z ∧ z ≤ 1048576 ∧ Hid (∀ i, i < k → szS (atS L i)) ∧ Hid (Below w.heap.size w wr)) (fun _ i _ => L.length - (intOf i).toNat)
  case atStart => exact ⟨0, _, Nat.zero_le _, rfl, rfl, by omega, by omega, fun i hi => absurd hi (by omega), Below.refl _ _⟩
  case round =>
    obtain ⟨k, z, hk, rfl, rfl, z0, zl, HS, HB⟩ := hrel
    by_cases hlt : k < L.length
    · obtain ⟨x, rfl, hx, hc0, a', c', hc1, hrow, hs0, hs1⟩ := HR.out.below HB.out k hlt
      have hc2 : wr.cell? ⟨(x.add (k * 2)).block, (x.add (k * 2)).off + 1, none⟩ = some (.slice a' (atS L k).2.length c') := by rw [← hc1, ← Go.Deep.add_add]; rfl
      have KZ : Hid (Calls Tryz.prog 68 #[.agg #[.string (atS L k).1, .slice a' (atS L k).2.length c'], .int .i64 z] wr fun e w' => (∃ r : Int, e = .returned (.int .i64 r) ∧ (r < 0 ∨ (0 ≤ r ∧ r ≤ 1048576 ∧ szS (atS L k)))) ∧ Below wr.heap.size wr w') := szSiteSet_at _ a' c' z wr hrow hs0 hs1 z0 zl
      have k0 : (0 : Int) ≤ k := by omega
      have k1 : (k : Int) < L.length := by omega
      clear hs0 hs1 hrow
      go_wp2_with fail
      refine KZ.out.mono ?_
      rintro e w1 ⟨⟨r, rfl, hr⟩, hb1⟩
      have B1 : Hid (Below w.heap.size w w1) := HB.out.trans (hb1.mono HB.out.size)
      clear hb1 hc0 hc1 hc2 KZ
      rcases hr with hr | ⟨r0, r1, hsum⟩
      · have q2 : decide (r < 0) = true := by rw [decide_eq_true_iff]; exact hr
        go_wp2
        go_ret
        exact ⟨⟨_, rfl, .inl (by decide)⟩, B1.out⟩
      · have q2 : decide (r < 0) = false := by rw [decide_eq_false_iff_not]; omega
        have HN : Hid (∀ i, i < k + 1 → szS (atS L i)) := fun i hi => by
          by_cases e : i = k
          · subst e; exact hsum
          · exact HS.out i (by omega)
        clear hsum
        go_wp2
        go_roundw
        case rel => exact ⟨k + 1, r, by omega, rfl, by go_num, r0, r1, HN, B1⟩
        case measure => simp [intOf]; omega
    · go_wp2
      go_ret
      exact ⟨⟨_, rfl, .inr ⟨z0, zl, by omega, fun i hi => HS.out i (by omega)⟩⟩, HB.out⟩
set_option maxRecDepth 10000 in
set_option maxHeartbeats 1000000 in
theorem toSiteSet_any (x : SetL) (a' : Option Addr) (c' : Nat) (w : World) (hr : StrRow w a' x.2.length (atL x.2)) (h2 : x.2.length ≤ 1048576) :
    Calls Tryz.prog 85 #[.agg #[.string x.1, .slice a' x.2.length c']] w fun e w' => ∃ u, e = .returned (.agg #[.string x.1, u]) ∧ SliceS w' w.heap.size u x.2.length (atL x.2) ∧ Below w.heap.size w w' := by
  obtain ⟨p, M⟩ := x
  dsimp only at hr h2 ⊢
  have HR : Hid (StrRow w a' M.length (atL M)) := hr
  have KT : Hid (∀ W, Below w.heap.size w W → Calls Tryz.prog 32 #[.slice a' M.length c'] W fun e w' => ∃ v, e = .returned v ∧ SliceS w' W.heap.size v M.length (atL M) ∧ Below W.heap.size W w') := fun W hb => toStringS_any a' M.length c' (atL M) W (HR.out.below hb) h2
  clear hr
  have HB0 : Hid (∀ x0 x1 x2 : Obj, Below w.heap.size w (((w.alloc x0).alloc x1).alloc x2)) := fun x0 x1 x2 => (((Below.refl _ _).alloc (Nat.le_refl _) _).alloc (by simp) _).alloc (by simp; omega) _
  go_enter Tryz.func85, Tryz.ntmps85
  go_wp2_with fail
  refine (KT.out _ (HB0.out _ _ _)).mono ?_
  rintro e w1 ⟨u, rfl, hs1, hb1⟩
  have hz1 : w.heap.size + 3 ≤ w1.heap.size := by have := hb1.size; simp at this; omega
  have S1 : Hid (SliceS w1 (w.heap.size + 3) u M.length (atL M)) := by
    have e : (((w.alloc (.cells #[.string p, .slice a' M.length c'] 105)).alloc (.cells #[.string ⟨#[]⟩, .slice none 0 0] 121)).alloc (.cells #[.string p, .slice none 0 0] 121)).heap.size = w.heap.size + 3 := by simp
    rw [e] at hs1; exact hs1
  have B1 : Hid (Below w.heap.size w w1) := (HB0.out _ _ _).trans (hb1.mono (by simp; omega))
  have c0 : w1.cell? ⟨w.heap.size + 1 + 1, 0, none⟩ = some (.string p) := by rw [(bcell hb1).1 _ _ (by simp <;> omega)]; exact (World.cell?_alloc_at _ _ _ _ (by simp)).trans rfl
  have c1 : w1.cell? ⟨w.heap.size + 1 + 1, 1, none⟩ = some (.slice none 0 0) := by rw [(bcell hb1).1 _ _ (by simp <;> omega)]; exact (World.cell?_alloc_at _ _ _ _ (by simp)).trans rfl
  have f1 : w1.frozen? ⟨w.heap.size + 1 + 1, 1, none⟩ = false := by rw [(bcell hb1).2 _ _ (by simp <;> omega)]; exact World.frozen?_alloc_at _ _ _ _ (by simp)
  have d0 : w1.cell? ⟨w.heap.size + 1, 0, none⟩ = some (.string ⟨#[]⟩) := by rw [(bcell hb1).1 _ _ (by simp <;> omega)]; exact (World.cell?_alloc_lt _ _ ⟨w.heap.size + 1, 0, none⟩ (by simp)).trans ((World.cell?_alloc_at _ _ _ _ (by simp)).trans rfl)
  have d1 : w1.cell? ⟨w.heap.size + 1, 1, none⟩ = some (.slice none 0 0) := by rw [(bcell hb1).1 _ _ (by simp <;> omega)]; exact (World.cell?_alloc_lt _ _ ⟨w.heap.size + 1, 1, none⟩ (by simp)).trans ((World.cell?_alloc_at _ _ _ _ (by simp)).trans rfl)
  have g0 : w1.frozen? ⟨w.heap.size + 1, 0, none⟩ = false := by rw [(bcell hb1).2 _ _ (by simp <;> omega)]; exact (World.frozen?_alloc_past _ _ _ (by simp)).trans (World.frozen?_alloc_at _ _ _ _ (by simp))
  have g1 : w1.frozen? ⟨w.heap.size + 1, 1, none⟩ = false := by rw [(bcell hb1).2 _ _ (by simp <;> omega)]; exact (World.frozen?_alloc_past _ _ _ (by simp)).trans (World.frozen?_alloc_at _ _ _ _ (by simp))
  obtain ⟨up, uc, rfl, -⟩ := id hs1
  clear hb1 hs1 KT HR
  go_wp2
  exact bodyPost_ret (v := .agg #[.string p, .slice up M.length uc]) (by simp [results, Tryz.results85, go_sem, d0, d1]) rfl ⟨_, rfl, SliceS.mono (((S1.out.setOther (by omega)).setOther (by omega)).setOther (by omega)) (by omega), ((B1.out.setCell (Nat.le_trans (Nat.le_add_right _ 1) (Nat.le_add_right _ 1)) _).setCell (Nat.le_add_right _ 1) _).setCell (Nat.le_add_right _ 1) _⟩
theorem infoSet5 : (Tryz.prog.info? 121).map (fun i => (i.zero, i.size, i.bytes)) = some (some (.agg #[.string ⟨#[]⟩, .slice none 0 0]), 2, 40) := by kernel_rfl
/-- the first k as they are, the others empty -/
def uptoS (L : List SetL) (u : Nat → Value) (k j o : Nat) : Value := if j < k then (if o = 0 then .string (atS L j).1 else u j) else (if o = 0 then .string ⟨#[]⟩ else .slice none 0 0)
theorem make_sets (w : World) (n : Nat) (hn : n ≤ 1048576) :
    ∃ w', Sem.run Tryz.prog (Instr.makeSlice 32 (.int .i64 (n : Int)) (.int .i64 (n : Int))) w = .ok (.slice (some ⟨w.heap.size, 0, none⟩) n n) w' ∧ SliceR w' w.heap.size 2 (.slice (some ⟨w.heap.size, 0, none⟩) n n) n (fun _ o => if o = 0 then .string ⟨#[]⟩ else .slice none 0 0) ∧ w.heap.size < w'.heap.size ∧ Below w.heap.size w w' := by
  obtain ⟨i, h2, h3, h4, h5⟩ := info_parts infoSet5
  have hrun := run_make (P := Tryz.prog) w 32 121 i (.agg #[.string ⟨#[]⟩, .slice none 0 0]) Tryz.underlying32 h2 h3 .i64 .i64 n n (by omega) (Int.le_refl _) (by rw [h5]; omega) (by omega)
  simp only [Int.toNat_natCast, h4] at hrun
  refine ⟨_, hrun, ?_, by simp, (Below.refl _ _).alloc (Nat.le_refl _) _⟩
  refine ⟨_, _, rfl, fun _ => ⟨w.heap.size, rfl, Nat.le_refl _, by simp, fun j hj o ho => ⟨?_, by simp⟩⟩⟩
  rw [World.cell?_alloc_new]
  have hz : j * 2 + o < n * 2 := by omega
  have hm : (j * 2 + o) % 2 = o := by omega
  have e : (madeCells (Value.agg #[.string ⟨#[]⟩, .slice none 0 0]).cells (n * 2))[j * 2 + o]? = some (if o = 0 then .string ⟨#[]⟩ else .slice none 0 0) := by
    rw [Array.getElem?_eq_some_iff]
    refine ⟨by rw [size_madeCells]; exact hz, ?_⟩
    unfold madeCells
    rw [Array.getElem_map, Array.getElem_range]
    show (#[.string ⟨#[]⟩, .slice none 0 0] : Array Value)[(j * 2 + o) % 2]! = _
    rw [hm]
    rcases (show o = 0 ∨ o = 1 by omega) with rfl | rfl <;> rfl
  exact e
set_option maxRecDepth 10000 in
set_option maxHeartbeats 4000000 in
theorem toSiteSetS_any (a : Option Addr) (cap : Nat) (L : List SetL) (w : World) (hr : SetRow w a L) (hn : L.length ≤ 1048576) (hz : ∀ i, i < L.length → (atS L i).2.length ≤ 1048576) :
    Calls Tryz.prog 33 #[.slice a L.length cap] w fun e w' => ∃ v, e = .returned v ∧ SliceT w' w.heap.size v L ∧ Below w.heap.size w w' := by
  have HR : Hid (SetRow w a L) := hr
  have HZ : Hid (∀ i, i < L.length → (atS L i).2.length ≤ 1048576) := hz
  clear hr hz
  obtain ⟨w1, hmk, hs1, hz1, hb1⟩ := make_sets w L.length hn
  have HS1 : Hid (SliceR w1 w.heap.size 2 (.slice (some ⟨w.heap.size, 0, none⟩) L.length L.length) L.length (uptoS L (fun _ => .slice none 0 0) 0)) := SliceR.congr hs1 (fun j _ o _ => by unfold uptoS; rw [if_neg (show ¬ j < 0 by omega)])
  have HB1 : Hid (Below w.heap.size w w1) := hb1
  clear hs1 hb1
  go_enter Tryz.func33, Tryz.ntmps33
  go_wp2
  clear hmk
  go_loopw [4] (fun i wr => ∃ (k : Nat) (u : Nat → Value), k ≤ L.length ∧ i = .int .i64 k ∧ w.heap.size < wr.heap.size ∧ Hid (SliceR wr w.heap.size 2 (.slice (some ⟨w.heap.size, 0, none⟩) L.length L.length) L.length (uptoS L u k)) ∧ Hid (∀ j, j < k → SliceS wr (w.heap.size + 1) (u j) (atS L j).2.length (atL (atS L j).2)) ∧ Hid (Below w.heap.size w wr)) (fun i _ => L.length - (intOf i).toNat)
  case atStart => exact ⟨0, _, Nat.zero_le _, rfl, hz1, HS1, fun j hj => absurd hj (by omega), HB1⟩
  case round =>
    obtain ⟨k, u, hk, rfl, hzr, HS, HU, HB⟩ := hrel
    by_cases hlt : k < L.length
    · obtain ⟨x, rfl, hx, hc0, a', c', hc1, hrow, -, -⟩ := HR.out.below HB.out k hlt
      have hc2 : wr.cell? ⟨(x.add (k * 2)).block, (x.add (k * 2)).off + 1, none⟩ = some (.slice a' (atS L k).2.length c') := by rw [← hc1, ← Go.Deep.add_add]; rfl
      have KT : Hid (Calls Tryz.prog 85 #[.agg #[.string (atS L k).1, .slice a' (atS L k).2.length c']] wr fun e w' => ∃ u, e = .returned (.agg #[.string (atS L k).1, u]) ∧ SliceS w' wr.heap.size u (atS L k).2.length (atL (atS L k).2) ∧ Below wr.heap.size wr w') := toSiteSet_any _ a' c' wr hrow (HZ.out k hlt)
      have k0 : (0 : Int) ≤ k := by omega
      have k1 : (k : Int) < L.length := by omega
      clear hrow
      go_wp2_with fail
      refine KT.out.mono ?_
      rintro e w2 ⟨uk, rfl, huk, hb2⟩
      have S2 : Hid (SliceR w2 w.heap.size 2 (.slice (some ⟨w.heap.size, 0, none⟩) L.length L.length) L.length (uptoS L u k)) := SliceR.below HS.out hb2
      have B2 : Hid (Below w.heap.size w w2) := HB.out.trans (hb2.mono HB.out.size)
      have hz2 : w.heap.size < w2.heap.size := Nat.lt_of_lt_of_le hzr hb2.size
      have U2 : Hid (∀ j, j < k + 1 → SliceS w2 (w.heap.size + 1) (if j = k then uk else u j) (atS L j).2.length (atL (atS L j).2)) := fun j hj => by
        by_cases e : j = k
        · subst e; rw [if_pos rfl]; exact huk.mono hzr
        · rw [if_neg e]; exact (HU.out j (by omega)).below hb2
      obtain ⟨up, uc, rfl, -⟩ := id huk
      clear hb2 hc0 hc1 hc2 hx huk KT
      obtain ⟨d0, f0, d1, f1⟩ : w2.cell? ⟨w.heap.size, k * 2, none⟩ = some (uptoS L u k k 0) ∧ w2.frozen? ⟨w.heap.size, k * 2, none⟩ = false ∧ w2.cell? ⟨w.heap.size, k * 2 + 1, none⟩ = some (uptoS L u k k 1) ∧ w2.frozen? ⟨w.heap.size, k * 2 + 1, none⟩ = false := by
        obtain ⟨p, c, e, hh⟩ := S2.out
        injection e with e1
        obtain ⟨g, e2, -, -, hc⟩ := hh (by omega)
        rw [e2] at e1
        injection e1 with e1
        injection e1 with e1
        subst e1
        exact ⟨(hc k hlt 0 (by omega)).1, (hc k hlt 0 (by omega)).2, (hc k hlt 1 (by omega)).1, (hc k hlt 1 (by omega)).2⟩
      generalize uptoS L u k k 0 = z0 at *
      generalize uptoS L u k k 1 = z1 at *
      have HN : Hid (SliceR ((w2.setCell ⟨w.heap.size, k * 2 + 0, none⟩ (.string (atS L k).1)).setCell ⟨w.heap.size, k * 2 + 1, none⟩ (.slice up (atS L k).2.length uc)) w.heap.size 2 (.slice (some ⟨w.heap.size, 0, none⟩) L.length L.length) L.length (uptoS L (fun j => if j = k then .slice up (atS L k).2.length uc else u j) (k + 1))) := by
        refine SliceR.congr (SliceR.set (SliceR.set S2.out k 0 hlt (by omega) _) k 1 hlt (by omega) _) (fun j hj o ho => ?_)
        unfold uptoS
        by_cases e : j = k
        · subst e
          rw [if_pos (Nat.lt_succ_self _)]
          rcases (show o = 0 ∨ o = 1 by omega) with rfl | rfl <;> simp [updR]
        · by_cases h : j < k
          · rw [if_pos (by omega)]; simp [updR, e, h]
          · rw [if_neg (by omega)]; simp [updR, e, h]
      have HU3 : Hid (∀ x y, ∀ j, j < k + 1 → SliceS ((w2.setCell ⟨w.heap.size, k * 2 + 0, none⟩ x).setCell ⟨w.heap.size, k * 2 + 1, none⟩ y) (w.heap.size + 1) (if j = k then .slice up (atS L k).2.length uc else u j) (atS L j).2.length (atL (atS L j).2)) := fun x y j hj => ((U2.out j hj).setOther (by omega)).setOther (by omega)
      go_wp2
      go_roundw
      case rel => exact ⟨k + 1, _, by omega, by go_num, by simpa [World.setCell] using hz2, HN, HU3.out _ _, (B2.out.setCell (Nat.le_refl _) _).setCell (Nat.le_refl _) _⟩
      case measure => simp [intOf]; omega
    · obtain rfl : k = L.length := by omega
      go_wp2
      go_ret
      refine ⟨_, rfl, ⟨u, ?_, fun j hj => (HU.out j hj).mono (by omega), _, _, rfl, Nat.le_refl _⟩, HB.out⟩
      exact SliceR.congr HS.out (fun j hj o ho => by unfold uptoS; rw [if_pos hj])
set_option maxRecDepth 10000 in
set_option maxHeartbeats 1000000 in
theorem eqSiteSet_any (x : SetL) (u u' : Value) (B B' : Nat) (w : World) (h : SliceS w B u x.2.length (atL x.2)) (h' : SliceS w B' u' x.2.length (atL x.2)) (hn : x.2.length ≤ 1048576) :
    Calls Tryz.prog 103 #[.agg #[.string x.1, u], .agg #[.string x.1, u']] w fun e w' => e = .returned (.bool true) ∧ Below w.heap.size w w' := by
  obtain ⟨p, M⟩ := x
  dsimp only at h h' hn ⊢
  have HB0 : Hid (∀ x y : Obj, Below w.heap.size w ((w.alloc x).alloc y)) := fun x y => ((Below.refl _ _).alloc (Nat.le_refl _) _).alloc (by simp) _
  have KE : Hid (∀ W, Below w.heap.size w W → Calls Tryz.prog 44 #[u, u'] W fun e w' => e = .returned (.bool true) ∧ Below W.heap.size W w') := fun W hb => eqStringS_any u u' M.length B B' (atL M) W (h.below hb) (h'.below hb) hn
  obtain ⟨q, c, rfl, -⟩ := h
  obtain ⟨q', c', rfl, -⟩ := h'
  go_enter Tryz.func103, Tryz.ntmps103
  go_wp2_with fail
  refine (KE.out _ (HB0.out _ _)).mono ?_
  rintro e w1 ⟨rfl, hb1⟩
  have B1 : Hid (Below w.heap.size w w1) := (HB0.out _ _).trans (hb1.mono (by simp; omega))
  clear hb1
  go_wp2
  go_ret
  exact ⟨rfl, B1.out⟩
set_option maxRecDepth 10000 in
set_option maxHeartbeats 4000000 in
theorem eqSiteSetS_any (a b : Value) (L : List SetL) (B B' : Nat) (w : World) (ha : SliceT w B a L) (hb : SliceT w B' b L) (hn : L.length ≤ 1048576) (hz : ∀ i, i < L.length → (atS L i).2.length ≤ 1048576) :
    Calls Tryz.prog 45 #[a, b] w fun e w' => e = .returned (.bool true) ∧ Below w.heap.size w w' := by
  obtain ⟨u, ⟨p, cap, rfl, h1⟩, hu, -⟩ := ha
  obtain ⟨u', ⟨p', cap', rfl, h2⟩, hu', -⟩ := hb
  have H1 : Hid (0 < L.length → ∃ g, p = some ⟨g, 0, none⟩ ∧ g < w.heap.size ∧ ∀ j, j < L.length → w.cell? ⟨g, j * 2, none⟩ = some (.string (atS L j).1) ∧ w.cell? ⟨g, j * 2 + 1, none⟩ = some (u j)) := fun h0 => by
    obtain ⟨g, e, -, hgw, hc⟩ := h1 h0
    exact ⟨g, e, hgw, fun j hj => ⟨(hc j hj 0 (by omega)).1, (hc j hj 1 (by omega)).1⟩⟩
  have H2 : Hid (0 < L.length → ∃ g, p' = some ⟨g, 0, none⟩ ∧ g < w.heap.size ∧ ∀ j, j < L.length → w.cell? ⟨g, j * 2, none⟩ = some (.string (atS L j).1) ∧ w.cell? ⟨g, j * 2 + 1, none⟩ = some (u' j)) := fun h0 => by
    obtain ⟨g, e, -, hgw, hc⟩ := h2 h0
    exact ⟨g, e, hgw, fun j hj => ⟨(hc j hj 0 (by omega)).1, (hc j hj 1 (by omega)).1⟩⟩
  have KX : Hid (∀ j, j < L.length → ∀ W, Below w.heap.size w W → Calls Tryz.prog 103 #[.agg #[.string (atS L j).1, u j], .agg #[.string (atS L j).1, u' j]] W fun e w' => e = .returned (.bool true) ∧ Below W.heap.size W w') := fun j hj W hb => eqSiteSet_any (atS L j) (u j) (u' j) B B' W ((hu j hj).below hb) ((hu' j hj).below hb) (hz j hj)
  have HO : Hid (∀ j, j < L.length → (∃ q n c, u j = .slice q n c) ∧ ∃ q n c, u' j = .slice q n c) := fun j hj => by
    obtain ⟨q, c, e, -⟩ := hu j hj
    obtain ⟨q', c', e', -⟩ := hu' j hj
    exact ⟨⟨q, _, c, e⟩, q', _, c', e'⟩
  clear h1 h2 hu hu' hz
  go_enter Tryz.func45, Tryz.ntmps45
  go_wp2
  go_loopw [5] (fun i wr => ∃ k : Nat, k ≤ L.length ∧ i = .int .i64 k ∧ Hid (Below w.heap.size w wr)) (fun i _ => L.length - (intOf i).toNat)
  case atStart => exact ⟨0, by omega, rfl, Below.refl _ _⟩
  case round =>
    obtain ⟨k, hk, rfl, HB⟩ := hrel
    by_cases hlt : k < L.length
    · obtain ⟨g, rfl, hg, hc⟩ := H1.out (by omega)
      obtain ⟨g', rfl, hg', hc'⟩ := H2.out (by omega)
      have hgr : g < wr.heap.size := Nat.lt_of_lt_of_le hg HB.out.size
      have hgr' : g' < wr.heap.size := Nat.lt_of_lt_of_le hg' HB.out.size
      have c0 : wr.cell? ⟨g, k * 2, none⟩ = some (.string (atS L k).1) := by rw [(bcell HB.out).1 _ _ hg]; exact (hc k hlt).1
      have c1 : wr.cell? ⟨g, k * 2 + 1, none⟩ = some (u k) := by rw [(bcell HB.out).1 _ _ hg]; exact (hc k hlt).2
      have d0 : wr.cell? ⟨g', k * 2, none⟩ = some (.string (atS L k).1) := by rw [(bcell HB.out).1 _ _ hg']; exact (hc' k hlt).1
      have d1 : wr.cell? ⟨g', k * 2 + 1, none⟩ = some (u' k) := by rw [(bcell HB.out).1 _ _ hg']; exact (hc' k hlt).2
      have KE : Hid (∀ W, Below wr.heap.size wr W → Calls Tryz.prog 103 #[.agg #[.string (atS L k).1, u k], .agg #[.string (atS L k).1, u' k]] W fun e w' => e = .returned (.bool true) ∧ Below W.heap.size W w') := fun W hb => KX.out k hlt W (HB.out.trans (hb.mono HB.out.size))
      obtain ⟨⟨q1, n1, e1, hq1⟩, q2, n2, e2, hq2⟩ := HO.out k hlt
      have k0 : (0 : Int) ≤ k := by omega
      have k1 : (k : Int) < L.length := by omega
      clear hc hc'
      generalize (atS L k).1 = y0 at *
      generalize u k = y1 at *
      generalize u' k = y2 at *
      subst hq1 hq2
      go_wp2_with fail
      go_region_held3 (fun w' => w'.cell? ⟨g, k * 2, none⟩ = some (.string y0) ∧ w'.cell? ⟨g, k * 2 + 1, none⟩ = some (.slice q1 n1 e1) ∧ w'.cell? ⟨g', k * 2, none⟩ = some (.string y0) ∧ w'.cell? ⟨g', k * 2 + 1, none⟩ = some (.slice q2 n2 e2)) (go_keep)
        (first | (go_at_call 103; refine (KE.out _ (Below.drew (Below.refl _ _))).mono ?_; rintro e w2 ⟨rfl, hb2⟩; have A2 : Below wr.heap.size wr w2 := (Below.drew (Below.refl _ _)).trans hb2; have l0 : w2.cell? ⟨g, k * 2, none⟩ = some (.string y0) := ((bcell A2).1 _ _ hgr).trans c0; have l1 : w2.cell? ⟨g, k * 2 + 1, none⟩ = some (.slice q1 n1 e1) := ((bcell A2).1 _ _ hgr).trans c1; have m0 : w2.cell? ⟨g', k * 2, none⟩ = some (.string y0) := ((bcell A2).1 _ _ hgr').trans d0; have m1 : w2.cell? ⟨g', k * 2 + 1, none⟩ = some (.slice q2 n2 e2) := ((bcell A2).1 _ _ hgr').trans d1))
      all_goals go_wp2
      all_goals go_roundw
      case rel => exact ⟨k + 1, by omega, by go_num, HB.out.trans (A2.mono HB.out.size)⟩
      case measure => simp [intOf]; omega
    · go_wp2
      go_ret
      exact ⟨rfl, HB.out⟩
end Go.Proofs.YtaccgciopmclhaaGreatDoor

/- Frame: the structure. Written by rowsin.py. -/
namespace Go.Proofs.YtaccgciopmclhaaGreatDoor
open Go.RowKit

structure Fr where
  id : Int
  pa : Int
  sc : ByteArray
  ho : ByteArray
  po : Int
  pt : ByteArray
  sb : Bool
  fl : Bool
  tc : Int
/-- the value of a field, by its place -/
def frC (c : Fr) (o : Nat) : Value := if o = 0 then .int .i64 c.id else if o = 1 then .int .i64 c.pa else if o = 2 then .string c.sc else if o = 3 then .string c.ho else if o = 4 then .int .i64 c.po else if o = 5 then .string c.pt else if o = 6 then .bool c.sb else if o = 7 then .bool c.fl else .int .i64 c.tc
/-- as a value -/
def frV (c : Fr) : Value := .agg #[.int .i64 c.id, .int .i64 c.pa, .string c.sc, .string c.ho, .int .i64 c.po, .string c.pt, .bool c.sb, .bool c.fl, .int .i64 c.tc]
def frNone : Fr := ⟨0, 0, ⟨#[]⟩, ⟨#[]⟩, 0, ⟨#[]⟩, false, false, 0⟩
end Go.Proofs.YtaccgciopmclhaaGreatDoor

/- What a word is; the walk of the specification's WordRight. -/
namespace Go.Proofs.YtaccgciopmclhaaGreatDoor
open Go.RowKit

/-- may the byte stand in a word? -/
def wordC (c : Nat) : Bool := decide ((97 ≤ c ∧ c ≤ 122) ∨ (65 ≤ c ∧ c ≤ 90) ∨ (48 ≤ c ∧ c ≤ 57) ∨ c = 95 ∨ c = 45 ∨ c = 46)
def wordB (t : ByteArray) : Bool := decide (∀ i (h : i < t.size), wordC t[i].toNat = true) && decide (t.size ≤ 20)
theorem wordC_yes {c : Nat} (h : (97 ≤ c ∧ c ≤ 122) ∨ (65 ≤ c ∧ c ≤ 90) ∨ (48 ≤ c ∧ c ≤ 57) ∨ c = 95 ∨ c = 45 ∨ c = 46) : wordC c = true := by unfold wordC; rw [decide_eq_true_iff]; exact h
theorem wordC_no {c : Nat} (h : ¬ ((97 ≤ c ∧ c ≤ 122) ∨ (65 ≤ c ∧ c ≤ 90) ∨ (48 ≤ c ∧ c ≤ 57) ∨ c = 95 ∨ c = 45 ∨ c = 46)) : wordC c = false := by unfold wordC; rw [decide_eq_false_iff_not]; exact h
theorem wordB_at {t : ByteArray} (k : Nat) (h : k < t.size) (hk : wordC t[k].toNat = false) : wordB t = false := by
  unfold wordB; rw [decide_eq_false (fun h' => by rw [h' k h] at hk; cases hk)]; rfl
theorem wordB_all {t : ByteArray} (h : ∀ i (h : i < t.size), wordC t[i].toNat = true) : wordB t = decide (t.size ≤ 20) := by
  unfold wordB; rw [decide_eq_true h]; rfl
theorem wordB_size {t : ByteArray} (h : wordB t = true) : t.size ≤ 20 := by
  unfold wordB at h
  rw [Bool.and_eq_true, decide_eq_true_eq, decide_eq_true_eq] at h
  exact h.2

set_option maxRecDepth 10000 in
set_option maxHeartbeats 2000000 in
theorem specWord_any (t : ByteArray) (w : World) (ht : t.size ≤ 1048576) :
    Calls Tryz.prog 130 #[.string t] w fun e w' => e = .returned (.bool (wordB t)) ∧ w' = w := by
  have HA : Hid ((∀ k (h : k < t.size), wordC t[k].toNat = false → wordB t = false) ∧ ((∀ i (h : i < t.size), wordC t[i].toNat = true) → wordB t = decide (t.size ≤ 20))) := ⟨fun k h hk => wordB_at k h hk, fun h => wordB_all h⟩
  generalize wordB t = R at *
  go_enter Tryz.func130, Tryz.ntmps130
  go_wp2
  go_loop [3, 4] (fun i _ => ∃ k : Nat, k ≤ t.size ∧ i = .int .i64 k ∧ Hid (∀ i (h : i < t.size), i < k → wordC t[i].toNat = true)) (fun i _ => t.size - (intOf i).toNat)
  case atStart => exact ⟨0, Nat.zero_le _, rfl, fun i _ hi => absurd hi (by omega)⟩
  case round =>
    obtain ⟨k, hk, rfl, HR⟩ := hrel
    by_cases hlt : k < t.size
    · rcases (show (t[k].toNat ≤ 44) ∨ (45 ≤ t[k].toNat ∧ t[k].toNat ≤ 45) ∨ (46 ≤ t[k].toNat ∧ t[k].toNat ≤ 46) ∨ (47 ≤ t[k].toNat ∧ t[k].toNat ≤ 47) ∨ (48 ≤ t[k].toNat ∧ t[k].toNat ≤ 57) ∨ (58 ≤ t[k].toNat ∧ t[k].toNat ≤ 64) ∨ (65 ≤ t[k].toNat ∧ t[k].toNat ≤ 90) ∨ (91 ≤ t[k].toNat ∧ t[k].toNat ≤ 94) ∨ (95 ≤ t[k].toNat ∧ t[k].toNat ≤ 95) ∨ (96 ≤ t[k].toNat ∧ t[k].toNat ≤ 96) ∨ (97 ≤ t[k].toNat ∧ t[k].toNat ≤ 122) ∨ (123 ≤ t[k].toNat) by omega)
        with c1 | ⟨c1, c2⟩ | ⟨c1, c2⟩ | ⟨c1, c2⟩ | ⟨c1, c2⟩ | ⟨c1, c2⟩ | ⟨c1, c2⟩ | ⟨c1, c2⟩ | ⟨c1, c2⟩ | ⟨c1, c2⟩ | ⟨c1, c2⟩ | c1
      · have b0 : decide ((97 : Int) ≤ (t[k].toNat : Int)) = false := by rw [decide_eq_false_iff_not]; omega
        have b1 : decide ((t[k].toNat : Int) ≤ 122) = true := by rw [decide_eq_true_iff]; omega
        have b2 : decide ((65 : Int) ≤ (t[k].toNat : Int)) = false := by rw [decide_eq_false_iff_not]; omega
        have b3 : decide ((t[k].toNat : Int) ≤ 90) = true := by rw [decide_eq_true_iff]; omega
        have b4 : decide ((48 : Int) ≤ (t[k].toNat : Int)) = false := by rw [decide_eq_false_iff_not]; omega
        have b5 : decide ((t[k].toNat : Int) ≤ 57) = true := by rw [decide_eq_true_iff]; omega
        have b6 : ((t[k].toNat : Int) == 95) = false := by rw [beq_eq_false_iff_ne]; omega
        have b7 : ((t[k].toNat : Int) == 45) = false := by rw [beq_eq_false_iff_ne]; omega
        have b8 : ((t[k].toNat : Int) == 46) = false := by rw [beq_eq_false_iff_ne]; omega
        have HK : Hid (R = false) := HA.out.1 k hlt (wordC_no (by omega))
        go_wp2
        go_ret
        exact ⟨ret_bool HK.out.symm, rfl⟩
      · have b0 : decide ((97 : Int) ≤ (t[k].toNat : Int)) = false := by rw [decide_eq_false_iff_not]; omega
        have b1 : decide ((t[k].toNat : Int) ≤ 122) = true := by rw [decide_eq_true_iff]; omega
        have b2 : decide ((65 : Int) ≤ (t[k].toNat : Int)) = false := by rw [decide_eq_false_iff_not]; omega
        have b3 : decide ((t[k].toNat : Int) ≤ 90) = true := by rw [decide_eq_true_iff]; omega
        have b4 : decide ((48 : Int) ≤ (t[k].toNat : Int)) = false := by rw [decide_eq_false_iff_not]; omega
        have b5 : decide ((t[k].toNat : Int) ≤ 57) = true := by rw [decide_eq_true_iff]; omega
        have b6 : ((t[k].toNat : Int) == 95) = false := by rw [beq_eq_false_iff_ne]; omega
        have b7 : ((t[k].toNat : Int) == 45) = true := by rw [beq_iff_eq]; omega
        have b8 : ((t[k].toNat : Int) == 46) = false := by rw [beq_eq_false_iff_ne]; omega
        have HK : Hid (wordC t[k].toNat = true) := wordC_yes (by omega)
        go_wp2
        go_round
        case rel => exact ⟨k + 1, by omega, by go_num, all_succ HR.out hlt HK.out⟩
        case measure => simp [intOf]; omega
      · have b0 : decide ((97 : Int) ≤ (t[k].toNat : Int)) = false := by rw [decide_eq_false_iff_not]; omega
        have b1 : decide ((t[k].toNat : Int) ≤ 122) = true := by rw [decide_eq_true_iff]; omega
        have b2 : decide ((65 : Int) ≤ (t[k].toNat : Int)) = false := by rw [decide_eq_false_iff_not]; omega
        have b3 : decide ((t[k].toNat : Int) ≤ 90) = true := by rw [decide_eq_true_iff]; omega
        have b4 : decide ((48 : Int) ≤ (t[k].toNat : Int)) = false := by rw [decide_eq_false_iff_not]; omega
        have b5 : decide ((t[k].toNat : Int) ≤ 57) = true := by rw [decide_eq_true_iff]; omega
        have b6 : ((t[k].toNat : Int) == 95) = false := by rw [beq_eq_false_iff_ne]; omega
        have b7 : ((t[k].toNat : Int) == 45) = false := by rw [beq_eq_false_iff_ne]; omega
        have b8 : ((t[k].toNat : Int) == 46) = true := by rw [beq_iff_eq]; omega
        have HK : Hid (wordC t[k].toNat = true) := wordC_yes (by omega)
        go_wp2
        go_round
        case rel => exact ⟨k + 1, by omega, by go_num, all_succ HR.out hlt HK.out⟩
        case measure => simp [intOf]; omega
      · have b0 : decide ((97 : Int) ≤ (t[k].toNat : Int)) = false := by rw [decide_eq_false_iff_not]; omega
        have b1 : decide ((t[k].toNat : Int) ≤ 122) = true := by rw [decide_eq_true_iff]; omega
        have b2 : decide ((65 : Int) ≤ (t[k].toNat : Int)) = false := by rw [decide_eq_false_iff_not]; omega
        have b3 : decide ((t[k].toNat : Int) ≤ 90) = true := by rw [decide_eq_true_iff]; omega
        have b4 : decide ((48 : Int) ≤ (t[k].toNat : Int)) = false := by rw [decide_eq_false_iff_not]; omega
        have b5 : decide ((t[k].toNat : Int) ≤ 57) = true := by rw [decide_eq_true_iff]; omega
        have b6 : ((t[k].toNat : Int) == 95) = false := by rw [beq_eq_false_iff_ne]; omega
        have b7 : ((t[k].toNat : Int) == 45) = false := by rw [beq_eq_false_iff_ne]; omega
        have b8 : ((t[k].toNat : Int) == 46) = false := by rw [beq_eq_false_iff_ne]; omega
        have HK : Hid (R = false) := HA.out.1 k hlt (wordC_no (by omega))
        go_wp2
        go_ret
        exact ⟨ret_bool HK.out.symm, rfl⟩
      · have b0 : decide ((97 : Int) ≤ (t[k].toNat : Int)) = false := by rw [decide_eq_false_iff_not]; omega
        have b1 : decide ((t[k].toNat : Int) ≤ 122) = true := by rw [decide_eq_true_iff]; omega
        have b2 : decide ((65 : Int) ≤ (t[k].toNat : Int)) = false := by rw [decide_eq_false_iff_not]; omega
        have b3 : decide ((t[k].toNat : Int) ≤ 90) = true := by rw [decide_eq_true_iff]; omega
        have b4 : decide ((48 : Int) ≤ (t[k].toNat : Int)) = true := by rw [decide_eq_true_iff]; omega
        have b5 : decide ((t[k].toNat : Int) ≤ 57) = true := by rw [decide_eq_true_iff]; omega
        have b6 : ((t[k].toNat : Int) == 95) = false := by rw [beq_eq_false_iff_ne]; omega
        have b7 : ((t[k].toNat : Int) == 45) = false := by rw [beq_eq_false_iff_ne]; omega
        have b8 : ((t[k].toNat : Int) == 46) = false := by rw [beq_eq_false_iff_ne]; omega
        have HK : Hid (wordC t[k].toNat = true) := wordC_yes (by omega)
        go_wp2
        go_round
        case rel => exact ⟨k + 1, by omega, by go_num, all_succ HR.out hlt HK.out⟩
        case measure => simp [intOf]; omega
      · have b0 : decide ((97 : Int) ≤ (t[k].toNat : Int)) = false := by rw [decide_eq_false_iff_not]; omega
        have b1 : decide ((t[k].toNat : Int) ≤ 122) = true := by rw [decide_eq_true_iff]; omega
        have b2 : decide ((65 : Int) ≤ (t[k].toNat : Int)) = false := by rw [decide_eq_false_iff_not]; omega
        have b3 : decide ((t[k].toNat : Int) ≤ 90) = true := by rw [decide_eq_true_iff]; omega
        have b4 : decide ((48 : Int) ≤ (t[k].toNat : Int)) = true := by rw [decide_eq_true_iff]; omega
        have b5 : decide ((t[k].toNat : Int) ≤ 57) = false := by rw [decide_eq_false_iff_not]; omega
        have b6 : ((t[k].toNat : Int) == 95) = false := by rw [beq_eq_false_iff_ne]; omega
        have b7 : ((t[k].toNat : Int) == 45) = false := by rw [beq_eq_false_iff_ne]; omega
        have b8 : ((t[k].toNat : Int) == 46) = false := by rw [beq_eq_false_iff_ne]; omega
        have HK : Hid (R = false) := HA.out.1 k hlt (wordC_no (by omega))
        go_wp2
        go_ret
        exact ⟨ret_bool HK.out.symm, rfl⟩
      · have b0 : decide ((97 : Int) ≤ (t[k].toNat : Int)) = false := by rw [decide_eq_false_iff_not]; omega
        have b1 : decide ((t[k].toNat : Int) ≤ 122) = true := by rw [decide_eq_true_iff]; omega
        have b2 : decide ((65 : Int) ≤ (t[k].toNat : Int)) = true := by rw [decide_eq_true_iff]; omega
        have b3 : decide ((t[k].toNat : Int) ≤ 90) = true := by rw [decide_eq_true_iff]; omega
        have b4 : decide ((48 : Int) ≤ (t[k].toNat : Int)) = true := by rw [decide_eq_true_iff]; omega
        have b5 : decide ((t[k].toNat : Int) ≤ 57) = false := by rw [decide_eq_false_iff_not]; omega
        have b6 : ((t[k].toNat : Int) == 95) = false := by rw [beq_eq_false_iff_ne]; omega
        have b7 : ((t[k].toNat : Int) == 45) = false := by rw [beq_eq_false_iff_ne]; omega
        have b8 : ((t[k].toNat : Int) == 46) = false := by rw [beq_eq_false_iff_ne]; omega
        have HK : Hid (wordC t[k].toNat = true) := wordC_yes (by omega)
        go_wp2
        go_round
        case rel => exact ⟨k + 1, by omega, by go_num, all_succ HR.out hlt HK.out⟩
        case measure => simp [intOf]; omega
      · have b0 : decide ((97 : Int) ≤ (t[k].toNat : Int)) = false := by rw [decide_eq_false_iff_not]; omega
        have b1 : decide ((t[k].toNat : Int) ≤ 122) = true := by rw [decide_eq_true_iff]; omega
        have b2 : decide ((65 : Int) ≤ (t[k].toNat : Int)) = true := by rw [decide_eq_true_iff]; omega
        have b3 : decide ((t[k].toNat : Int) ≤ 90) = false := by rw [decide_eq_false_iff_not]; omega
        have b4 : decide ((48 : Int) ≤ (t[k].toNat : Int)) = true := by rw [decide_eq_true_iff]; omega
        have b5 : decide ((t[k].toNat : Int) ≤ 57) = false := by rw [decide_eq_false_iff_not]; omega
        have b6 : ((t[k].toNat : Int) == 95) = false := by rw [beq_eq_false_iff_ne]; omega
        have b7 : ((t[k].toNat : Int) == 45) = false := by rw [beq_eq_false_iff_ne]; omega
        have b8 : ((t[k].toNat : Int) == 46) = false := by rw [beq_eq_false_iff_ne]; omega
        have HK : Hid (R = false) := HA.out.1 k hlt (wordC_no (by omega))
        go_wp2
        go_ret
        exact ⟨ret_bool HK.out.symm, rfl⟩
      · have b0 : decide ((97 : Int) ≤ (t[k].toNat : Int)) = false := by rw [decide_eq_false_iff_not]; omega
        have b1 : decide ((t[k].toNat : Int) ≤ 122) = true := by rw [decide_eq_true_iff]; omega
        have b2 : decide ((65 : Int) ≤ (t[k].toNat : Int)) = true := by rw [decide_eq_true_iff]; omega
        have b3 : decide ((t[k].toNat : Int) ≤ 90) = false := by rw [decide_eq_false_iff_not]; omega
        have b4 : decide ((48 : Int) ≤ (t[k].toNat : Int)) = true := by rw [decide_eq_true_iff]; omega
        have b5 : decide ((t[k].toNat : Int) ≤ 57) = false := by rw [decide_eq_false_iff_not]; omega
        have b6 : ((t[k].toNat : Int) == 95) = true := by rw [beq_iff_eq]; omega
        have b7 : ((t[k].toNat : Int) == 45) = false := by rw [beq_eq_false_iff_ne]; omega
        have b8 : ((t[k].toNat : Int) == 46) = false := by rw [beq_eq_false_iff_ne]; omega
        have HK : Hid (wordC t[k].toNat = true) := wordC_yes (by omega)
        go_wp2
        go_round
        case rel => exact ⟨k + 1, by omega, by go_num, all_succ HR.out hlt HK.out⟩
        case measure => simp [intOf]; omega
      · have b0 : decide ((97 : Int) ≤ (t[k].toNat : Int)) = false := by rw [decide_eq_false_iff_not]; omega
        have b1 : decide ((t[k].toNat : Int) ≤ 122) = true := by rw [decide_eq_true_iff]; omega
        have b2 : decide ((65 : Int) ≤ (t[k].toNat : Int)) = true := by rw [decide_eq_true_iff]; omega
        have b3 : decide ((t[k].toNat : Int) ≤ 90) = false := by rw [decide_eq_false_iff_not]; omega
        have b4 : decide ((48 : Int) ≤ (t[k].toNat : Int)) = true := by rw [decide_eq_true_iff]; omega
        have b5 : decide ((t[k].toNat : Int) ≤ 57) = false := by rw [decide_eq_false_iff_not]; omega
        have b6 : ((t[k].toNat : Int) == 95) = false := by rw [beq_eq_false_iff_ne]; omega
        have b7 : ((t[k].toNat : Int) == 45) = false := by rw [beq_eq_false_iff_ne]; omega
        have b8 : ((t[k].toNat : Int) == 46) = false := by rw [beq_eq_false_iff_ne]; omega
        have HK : Hid (R = false) := HA.out.1 k hlt (wordC_no (by omega))
        go_wp2
        go_ret
        exact ⟨ret_bool HK.out.symm, rfl⟩
      · have b0 : decide ((97 : Int) ≤ (t[k].toNat : Int)) = true := by rw [decide_eq_true_iff]; omega
        have b1 : decide ((t[k].toNat : Int) ≤ 122) = true := by rw [decide_eq_true_iff]; omega
        have b2 : decide ((65 : Int) ≤ (t[k].toNat : Int)) = true := by rw [decide_eq_true_iff]; omega
        have b3 : decide ((t[k].toNat : Int) ≤ 90) = false := by rw [decide_eq_false_iff_not]; omega
        have b4 : decide ((48 : Int) ≤ (t[k].toNat : Int)) = true := by rw [decide_eq_true_iff]; omega
        have b5 : decide ((t[k].toNat : Int) ≤ 57) = false := by rw [decide_eq_false_iff_not]; omega
        have b6 : ((t[k].toNat : Int) == 95) = false := by rw [beq_eq_false_iff_ne]; omega
        have b7 : ((t[k].toNat : Int) == 45) = false := by rw [beq_eq_false_iff_ne]; omega
        have b8 : ((t[k].toNat : Int) == 46) = false := by rw [beq_eq_false_iff_ne]; omega
        have HK : Hid (wordC t[k].toNat = true) := wordC_yes (by omega)
        go_wp2
        go_round
        case rel => exact ⟨k + 1, by omega, by go_num, all_succ HR.out hlt HK.out⟩
        case measure => simp [intOf]; omega
      · have b0 : decide ((97 : Int) ≤ (t[k].toNat : Int)) = true := by rw [decide_eq_true_iff]; omega
        have b1 : decide ((t[k].toNat : Int) ≤ 122) = false := by rw [decide_eq_false_iff_not]; omega
        have b2 : decide ((65 : Int) ≤ (t[k].toNat : Int)) = true := by rw [decide_eq_true_iff]; omega
        have b3 : decide ((t[k].toNat : Int) ≤ 90) = false := by rw [decide_eq_false_iff_not]; omega
        have b4 : decide ((48 : Int) ≤ (t[k].toNat : Int)) = true := by rw [decide_eq_true_iff]; omega
        have b5 : decide ((t[k].toNat : Int) ≤ 57) = false := by rw [decide_eq_false_iff_not]; omega
        have b6 : ((t[k].toNat : Int) == 95) = false := by rw [beq_eq_false_iff_ne]; omega
        have b7 : ((t[k].toNat : Int) == 45) = false := by rw [beq_eq_false_iff_ne]; omega
        have b8 : ((t[k].toNat : Int) == 46) = false := by rw [beq_eq_false_iff_ne]; omega
        have HK : Hid (R = false) := HA.out.1 k hlt (wordC_no (by omega))
        go_wp2
        go_ret
        exact ⟨ret_bool HK.out.symm, rfl⟩
    · have HQ : Hid (R = decide (t.size ≤ 20)) := HA.out.2 (fun i h => HR.out i h (by omega))
      go_wp2
      go_ret
      exact ⟨ret_bool (by rw [HQ.out]; congr 1; exact propext ⟨fun h => by omega, fun h => by omega⟩), rfl⟩
end Go.Proofs.YtaccgciopmclhaaGreatDoor

/- The walks of the specification's l02Place, UrlRight, l02Text and UrlText. -/
namespace Go.Proofs.YtaccgciopmclhaaGreatDoor
open Go.RowKit

def schemeB (t : ByteArray) : Bool := (t.toList == [104, 116, 116, 112]) || (t.toList == [104, 116, 116, 112, 115])
def placeB (sc ho : ByteArray) (po : Int) : Bool := schemeB sc && hostB ho && (decide (1 ≤ po) && decide (po ≤ 65535))
def urlB (sc ho pa : ByteArray) (po : Int) : Bool := placeB sc ho po && pathB pa

set_option maxRecDepth 10000 in
set_option maxHeartbeats 400000 in
theorem specScheme_any (t : ByteArray) (w : World) :
    Calls Tryz.prog 170 #[.string t] w fun e w' => e = .returned (.bool (schemeB t)) ∧ w' = w := by
  unfold schemeB
  cases h : (t.toList == [104, 116, 116, 112]) <;>
  · go_enter Tryz.func170, Tryz.ntmps170
    go_wp2
    go_ret
    exact ⟨rfl, rfl⟩

set_option maxRecDepth 10000 in
set_option maxHeartbeats 400000 in
theorem specIs_any (n lo hi : Int) (w : World) :
    Calls Tryz.prog 51 #[.int .i64 n, .int .i64 lo, .int .i64 hi] w fun e w' => e = .returned (.bool (decide (lo ≤ n) && decide (n ≤ hi))) ∧ w' = w := by
  by_cases h : lo ≤ n
  · go_enter Tryz.func51, Tryz.ntmps51
    go_wp2
    go_ret
    exact ⟨ret_bool (by simp [h]), rfl⟩
  · have q : decide (lo ≤ n) = false := by rw [decide_eq_false_iff_not]; exact h
    go_enter Tryz.func51, Tryz.ntmps51
    go_wp2
    go_ret
    exact ⟨ret_bool (by simp), rfl⟩

set_option maxRecDepth 10000 in
set_option maxHeartbeats 400000 in
theorem specPlace_any (sc ho : ByteArray) (po : Int) (w : World) :
    Calls Tryz.prog 128 #[.string sc, .string ho, .int .i64 po] w fun e w' => e = .returned (.bool (placeB sc ho po)) ∧ Below w.heap.size w w' := by
  have H1 := fun W => specScheme_any sc W
  have H2 := fun W => specHost_any ho W
  have H3 := fun W => specIs_any po 1 65535 W
  have HP : Hid (placeB sc ho po = (schemeB sc && hostB ho && (decide (1 ≤ po) && decide (po ≤ 65535)))) := rfl
  generalize schemeB sc = b1 at *
  generalize hostB ho = b2 at *
  generalize (decide (1 ≤ po) && decide (po ≤ 65535)) = b3 at *
  have G1 : Hid (∀ W, Calls Tryz.prog 170 #[.string sc] W fun e w' => e = .returned (.bool b1) ∧ w' = W) := H1
  have G2 : Hid (∀ W, Calls Tryz.prog 123 #[.string ho] W fun e w' => e = .returned (.bool b2) ∧ Below W.heap.size W w') := H2
  have G3 : Hid (∀ W, Calls Tryz.prog 51 #[.int .i64 po, .int .i64 1, .int .i64 65535] W fun e w' => e = .returned (.bool b3) ∧ w' = W) := H3
  clear H1 H2 H3
  cases b1 with
  | false =>
    go_enter Tryz.func128, Tryz.ntmps128
    go_wp2_with (go_at_call 170; refine (G1.out _).mono ?_; rintro e w1 ⟨rfl, rfl⟩)
    go_ret
    exact ⟨ret_bool (by rw [HP.out]; rfl), Below.refl _ _⟩
  | true =>
    cases b2 with
    | false =>
      go_enter Tryz.func128, Tryz.ntmps128
      go_wp2_with (first | (go_at_call 170; refine (G1.out _).mono ?_; rintro e w1 ⟨rfl, rfl⟩) | (go_at_call 123; refine (G2.out _).mono ?_; rintro e w2 ⟨rfl, hb⟩))
      go_ret
      exact ⟨ret_bool (by rw [HP.out]; rfl), hb⟩
    | true =>
      go_enter Tryz.func128, Tryz.ntmps128
      go_wp2_with (first | (go_at_call 170; refine (G1.out _).mono ?_; rintro e w1 ⟨rfl, rfl⟩) | (go_at_call 123; refine (G2.out _).mono ?_; rintro e w2 ⟨rfl, hb⟩) | (go_at_call 51; refine (G3.out _).mono ?_; rintro e w3 ⟨rfl, rfl⟩))
      go_ret
      exact ⟨ret_bool (by rw [HP.out]; rfl), hb⟩

/-- a Url, as a value -/
def urlV (sc ho pa : ByteArray) (po : Int) : Value := .agg #[.string sc, .string ho, .int .i64 po, .string pa]

set_option maxRecDepth 10000 in
set_option maxHeartbeats 400000 in
theorem specUrlRight_any (sc ho pa : ByteArray) (po : Int) (w : World) :
    Calls Tryz.prog 76 #[urlV sc ho pa po] w fun e w' => e = .returned (.bool (urlB sc ho pa po)) ∧ Below w.heap.size w w' := by
  have H1 := fun W => specPlace_any sc ho po W
  have H2 := fun W => specPath_any pa W
  have HP : Hid (urlB sc ho pa po = (placeB sc ho po && pathB pa)) := rfl
  generalize placeB sc ho po = b1 at *
  generalize pathB pa = b2 at *
  have G1 : Hid (∀ W, Calls Tryz.prog 128 #[.string sc, .string ho, .int .i64 po] W fun e w' => e = .returned (.bool b1) ∧ Below W.heap.size W w') := H1
  have G2 : Hid (∀ W, Calls Tryz.prog 129 #[.string pa] W fun e w' => e = .returned (.bool b2) ∧ w' = W) := H2
  clear H1 H2
  unfold urlV
  cases b1 with
  | false =>
    go_enter Tryz.func76, Tryz.ntmps76
    go_wp2_with fail
    refine (G1.out _).mono ?_
    rintro e w1 ⟨rfl, hb⟩
    go_wp2
    go_ret
    exact ⟨ret_bool (by rw [HP.out]; rfl), ((Below.refl _ _).alloc (Nat.le_refl _) _).trans (hb.mono (by simp))⟩
  | true =>
    go_enter Tryz.func76, Tryz.ntmps76
    go_wp2_with fail
    refine (G1.out _).mono ?_
    rintro e w1 ⟨rfl, hb⟩
    have hc3 : w1.cell? ⟨w.heap.size, 3, none⟩ = some (.string pa) := by rw [(bcell hb).1 _ _ (by simp)]; simp
    go_wp2_with (go_at_call 129; refine (G2.out _).mono ?_; rintro e w2 ⟨rfl, rfl⟩)
    go_ret
    exact ⟨ret_bool (by rw [HP.out]; rfl), ((Below.refl _ _).alloc (Nat.le_refl _) _).trans (hb.mono (by simp))⟩

def usualP (sc : ByteArray) : Int := if (sc.toList == [104, 116, 116, 112, 115]) = true then 443 else 80
/-- the text of a place -/
def placeT (sc ho : ByteArray) (po : Int) : ByteArray := if po = usualP sc then sc ++ ⟨#[58, 47, 47]⟩ ++ ho else sc ++ ⟨#[58, 47, 47]⟩ ++ ho ++ ⟨#[58]⟩ ++ decB po


theorem decB_size {n : Int} (h1 : -9223372036854775808 ≤ n) (h2 : n ≤ 9223372036854775807) : (decB n).size ≤ 21 := by
  unfold decB
  split
  · exact (by decide : 1 ≤ 21)
  · split
    · have := decA_twenty (m := n.natAbs) (by omega)
      rw [ByteArray.size_append]
      show 1 + (decA n.natAbs).length ≤ 21
      omega
    · have := decA_twenty (m := n.natAbs) (by omega)
      show (decA n.natAbs).length ≤ 21
      omega

end Go.Proofs.YtaccgciopmclhaaGreatDoor

/- What a right SetCookie is; the walks of the specification's l04Mode and SetRight. -/
namespace Go.Proofs.YtaccgciopmclhaaGreatDoor
open Go.RowKit

/-- a SetCookie, as a value -/
def setV (na va dm pa : ByteArray) (ag : Int) (se : Bool) (mo : Int) (pt : Bool) : Value := .agg #[.string na, .string va, .string dm, .string pa, .int .i64 ag, .bool se, .int .i64 mo, .bool pt]
def ageB (ag : Int) : Bool := decide (-1 ≤ ag) && decide (ag ≤ 1000000)
def modeB (mo : Int) : Bool := decide (0 ≤ mo) && decide (mo ≤ 2)
/-- empty, or as it is to be -/
def orB (t : ByteArray) (b : Bool) : Bool := t.toList.isEmpty || b
def setB (na va dm pa : ByteArray) (ag mo : Int) : Bool := !na.toList.isEmpty && wordB na && wordB va && orB dm (hostB dm) && orB pa (pathB pa) && ageB ag && modeB mo

set_option maxRecDepth 10000 in
theorem specMode_any (mo : Int) (w : World) :
    Calls Tryz.prog 131 #[.int .i64 mo] w fun e w' => e = .returned (.bool (modeB mo)) ∧ w' = w := by
  have H : Hid (∀ W, Calls Tryz.prog 51 #[.int .i64 mo, .int .i64 0, .int .i64 2] W fun e w' => e = .returned (.bool (modeB mo)) ∧ w' = W) := fun W => specIs_any mo 0 2 W
  generalize modeB mo = b at *
  go_enter Tryz.func131, Tryz.ntmps131
  go_wp2_with (go_at_call 51; refine (H.out _).mono ?_; rintro e w1 ⟨rfl, rfl⟩)
  go_ret
  exact ⟨rfl, rfl⟩
end Go.Proofs.YtaccgciopmclhaaGreatDoor

/- What a cookie is, and when it is right. Written by cookie6.py. -/
namespace Go.Proofs.YtaccgciopmclhaaGreatDoor
open Go.RowKit

/-- a cookie -/
structure Ck where
  na : ByteArray
  va : ByteArray
  ho : ByteArray
  al : Bool
  pa : ByteArray
  se : Bool
  mo : Int
  pt : ByteArray
  un : Int
  ma : Int
/-- the value of a field, by its place -/
def ckC (c : Ck) (o : Nat) : Value := if o = 0 then .string c.na else if o = 1 then .string c.va else if o = 2 then .string c.ho else if o = 3 then .bool c.al else if o = 4 then .string c.pa else if o = 5 then .bool c.se else if o = 6 then .int .i64 c.mo else if o = 7 then .string c.pt else if o = 8 then .int .i64 c.un else .int .i64 c.ma
/-- a cookie, as a value -/
def ckV (c : Ck) : Value := .agg #[.string c.na, .string c.va, .string c.ho, .bool c.al, .string c.pa, .bool c.se, .int .i64 c.mo, .string c.pt, .int .i64 c.un, .int .i64 c.ma]
def ckNone : Ck := ⟨⟨#[]⟩, ⟨#[]⟩, ⟨#[]⟩, false, ⟨#[]⟩, false, 0, ⟨#[]⟩, 0, 0⟩
def timeB (n : Int) : Bool := decide (0 ≤ n) && decide (n ≤ 1000000)
def partB (t : ByteArray) : Bool := decide (t.size ≤ 120)
/-- of no mode for strangers and of no part, or secure -/
def safeB (se : Bool) (mo : Int) (pt : ByteArray) : Bool := se || ((mo != 2) && pt.toList.isEmpty)
/-- a right cookie -/
def ckB (c : Ck) : Bool := !c.na.toList.isEmpty && wordB c.na && wordB c.va && hostB c.ho && pathB c.pa && modeB c.mo && partB c.pt && timeB c.un && timeB c.ma && safeB c.se c.mo c.pt
theorem ckB_parts {c : Ck} (h : ckB c = true) : wordB c.na = true ∧ wordB c.va = true ∧ hostB c.ho = true ∧ pathB c.pa = true ∧ modeB c.mo = true ∧ partB c.pt = true ∧ timeB c.un = true ∧ timeB c.ma = true ∧ safeB c.se c.mo c.pt = true := by
  unfold ckB at h
  simp only [Bool.and_eq_true] at h
  obtain ⟨⟨⟨⟨⟨⟨⟨⟨⟨_, h1⟩, h2⟩, h3⟩, h4⟩, h5⟩, h6⟩, h7⟩, h8⟩, h9⟩ := h
  exact ⟨h1, h2, h3, h4, h5, h6, h7, h8, h9⟩
end Go.Proofs.YtaccgciopmclhaaGreatDoor

/- What the laws do with a Cookie besides their calls: its size is looked at, it is handed on field by field, two are held against each other. -/
namespace Go.Proofs.YtaccgciopmclhaaGreatDoor
open Go.RowKit

set_option maxRecDepth 10000 in
set_option maxHeartbeats 1000000 in
theorem szCookie_at (x0 : ByteArray) (x1 : ByteArray) (x2 : ByteArray) (x3 : Bool) (x4 : ByteArray) (x5 : Bool) (x6 : Int) (x7 : ByteArray) (x8 : Int) (x9 : Int) (l : Int) (w : World) (h0 : x0.size ≤ maxLen) (h1 : x1.size ≤ maxLen) (h2 : x2.size ≤ maxLen) (h4 : x4.size ≤ maxLen) (h7 : x7.size ≤ maxLen) (l0 : 0 ≤ l) (l1 : l ≤ 1048576) :
    Calls Tryz.prog 70 #[.agg #[.string x0, .string x1, .string x2, .bool x3, .string x4, .bool x5, .int .i64 x6, .string x7, .int .i64 x8, .int .i64 x9], .int .i64 l] w fun e w' => (∃ r : Int, e = .returned (.int .i64 r) ∧ (r < 0 ∨ (0 ≤ r ∧ r ≤ 1048576 ∧ x0.size + x1.size + x2.size + x4.size + x7.size ≤ 1048576))) ∧ Below w.heap.size w w' := by
  unfold maxLen at h0 h1 h2 h4 h7
  by_cases c0 : l < x0.size
  · have q0 : l - (x0.size : Int) < 0 := by omega
    go_enter Tryz.func70, Tryz.ntmps70
    go_wp2
    go_ret
    exact ⟨⟨-1, rfl, .inl (by omega)⟩, (Below.refl _ _).alloc (Nat.le_refl _) _⟩
  have q0 : decide (l - (x0.size : Int) < 0) = false := by rw [decide_eq_false_iff_not]; omega
  by_cases c1 : l < x0.size + x1.size
  · have q1 : l - (x0.size : Int) - (x1.size : Int) < 0 := by omega
    go_enter Tryz.func70, Tryz.ntmps70
    go_wp2
    go_ret
    exact ⟨⟨-1, rfl, .inl (by omega)⟩, (Below.refl _ _).alloc (Nat.le_refl _) _⟩
  have q1 : decide (l - (x0.size : Int) - (x1.size : Int) < 0) = false := by rw [decide_eq_false_iff_not]; omega
  by_cases c2 : l < x0.size + x1.size + x2.size
  · have q2 : l - (x0.size : Int) - (x1.size : Int) - (x2.size : Int) < 0 := by omega
    go_enter Tryz.func70, Tryz.ntmps70
    go_wp2
    go_ret
    exact ⟨⟨-1, rfl, .inl (by omega)⟩, (Below.refl _ _).alloc (Nat.le_refl _) _⟩
  have q2 : decide (l - (x0.size : Int) - (x1.size : Int) - (x2.size : Int) < 0) = false := by rw [decide_eq_false_iff_not]; omega
  by_cases c4 : l < x0.size + x1.size + x2.size + x4.size
  · have q4 : l - (x0.size : Int) - (x1.size : Int) - (x2.size : Int) - (x4.size : Int) < 0 := by omega
    go_enter Tryz.func70, Tryz.ntmps70
    go_wp2
    go_ret
    exact ⟨⟨-1, rfl, .inl (by omega)⟩, (Below.refl _ _).alloc (Nat.le_refl _) _⟩
  have q4 : decide (l - (x0.size : Int) - (x1.size : Int) - (x2.size : Int) - (x4.size : Int) < 0) = false := by rw [decide_eq_false_iff_not]; omega
  by_cases c7 : l < x0.size + x1.size + x2.size + x4.size + x7.size
  · have q7 : l - (x0.size : Int) - (x1.size : Int) - (x2.size : Int) - (x4.size : Int) - (x7.size : Int) < 0 := by omega
    go_enter Tryz.func70, Tryz.ntmps70
    go_wp2
    go_ret
    exact ⟨⟨-1, rfl, .inl (by omega)⟩, (Below.refl _ _).alloc (Nat.le_refl _) _⟩
  have q7 : decide (l - (x0.size : Int) - (x1.size : Int) - (x2.size : Int) - (x4.size : Int) - (x7.size : Int) < 0) = false := by rw [decide_eq_false_iff_not]; omega
  go_enter Tryz.func70, Tryz.ntmps70
  go_wp2
  go_ret
  exact ⟨⟨l - (x0.size : Int) - (x1.size : Int) - (x2.size : Int) - (x4.size : Int) - (x7.size : Int), rfl, .inr ⟨by omega, by omega, by omega⟩⟩, (Below.refl _ _).alloc (Nat.le_refl _) _⟩
set_option maxRecDepth 10000 in
set_option maxHeartbeats 1000000 in
theorem toCookie_any (x0 : ByteArray) (x1 : ByteArray) (x2 : ByteArray) (x3 : Bool) (x4 : ByteArray) (x5 : Bool) (x6 : Int) (x7 : ByteArray) (x8 : Int) (x9 : Int) (w : World) :
    Calls Tryz.prog 87 #[.agg #[.string x0, .string x1, .string x2, .bool x3, .string x4, .bool x5, .int .i64 x6, .string x7, .int .i64 x8, .int .i64 x9]] w fun e w' => e = .returned (.agg #[.string x0, .string x1, .string x2, .bool x3, .string x4, .bool x5, .int .i64 x6, .string x7, .int .i64 x8, .int .i64 x9]) ∧ Below w.heap.size w w' := by
  go_enter Tryz.func87, Tryz.ntmps87
  go_wp2
  exact bodyPost_ret (v := .agg #[.string x0, .string x1, .string x2, .bool x3, .string x4, .bool x5, .int .i64 x6, .string x7, .int .i64 x8, .int .i64 x9]) (by simp [results, Tryz.results87, go_sem]) rfl ⟨rfl, (((Below.refl _ _).alloc (Nat.le_refl _) _).alloc (by simp) _).alloc (by simp; omega) _⟩
set_option maxRecDepth 10000 in
set_option maxHeartbeats 1000000 in
theorem eqCookie_any (x0 : ByteArray) (x1 : ByteArray) (x2 : ByteArray) (x3 : Bool) (x4 : ByteArray) (x5 : Bool) (x6 : Int) (x7 : ByteArray) (x8 : Int) (x9 : Int) (w : World) :
    Calls Tryz.prog 105 #[.agg #[.string x0, .string x1, .string x2, .bool x3, .string x4, .bool x5, .int .i64 x6, .string x7, .int .i64 x8, .int .i64 x9], .agg #[.string x0, .string x1, .string x2, .bool x3, .string x4, .bool x5, .int .i64 x6, .string x7, .int .i64 x8, .int .i64 x9]] w fun e w' => e = .returned (.bool true) ∧ Below w.heap.size w w' := by
  go_enter Tryz.func105, Tryz.ntmps105
  go_wp2
  go_ret
  exact ⟨rfl, ((Below.refl _ _).alloc (Nat.le_refl _) _).alloc (by simp) _⟩
end Go.Proofs.YtaccgciopmclhaaGreatDoor
