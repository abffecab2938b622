/- The walks of the program's verdicts: code at each of the three, and toldOf. Written by impltold.py. -/
import Derived.Test.YtehnklgpdjfcgaaBoxG
import Derived.WalkKit
import Derived.WalkSpells
import Derived.WalkLawsBesides
import Derived.Deep.RegionHeld3
import Derived.Deep.DeepCutAuto
import Derived.Laws.ResultCell
namespace Go.Proofs.Ytehnklgpdjfcgaa
open Go.RowKit

/-- what is told of an asking -/
inductive Verd where
  | no (c : Int)
  | same (p : Option Addr) (n c : Nat)
  | done (p : Option Addr) (n c : Nat) (us : Bool) (co : Int)
def verdV : Verd → Value
  | .no c => .iface 101 (.agg #[.int .i64 c])
  | .same p n c => .iface 97 (.agg #[.slice p n c])
  | .done p n c us co => .iface 99 (.agg #[.slice p n c, .bool us, .int .i64 co])
def toldV : Verd → Value
  | .no c => .agg #[.slice none 0 0, .bool false, .int .i64 c]
  | .same p n c => .agg #[.slice p n c, .bool false, .int .i64 0]
  | .done p n c _ co => .agg #[.slice p n c, .bool true, .int .i64 co]
set_option maxRecDepth 10000 in
set_option maxHeartbeats 1000000 in
theorem code_refused (c : Int) (w : World) : Calls Try.prog 107 #[.agg #[.int .i64 c]] w fun e w' => e = .returned (.int .i64 c) ∧ Below w.heap.size w w' := by
  go_enter Try.func107, Try.ntmps107
  go_wp2
  go_ret
  exact ⟨rfl, (Below.refl _ _).alloc (Nat.le_refl _) _⟩
set_option maxRecDepth 10000 in
set_option maxHeartbeats 1000000 in
theorem code_unchanged (p : Option Addr) (n c : Nat) (w : World) : Calls Try.prog 105 #[.agg #[.slice p n c]] w fun e w' => e = .returned (.int .i64 0) ∧ Below w.heap.size w w' := by
  go_enter Try.func105, Try.ntmps105
  go_wp2
  go_ret
  exact ⟨rfl, (Below.refl _ _).alloc (Nat.le_refl _) _⟩
set_option maxRecDepth 10000 in
set_option maxHeartbeats 1000000 in
theorem code_decided (p : Option Addr) (n c : Nat) (us : Bool) (co : Int) (w : World) : Calls Try.prog 106 #[.agg #[.slice p n c, .bool us, .int .i64 co]] w fun e w' => e = .returned (.int .i64 co) ∧ Below w.heap.size w w' := by
  go_enter Try.func106, Try.ntmps106
  go_wp2
  go_ret
  exact ⟨rfl, (Below.refl _ _).alloc (Nat.le_refl _) _⟩
set_option maxRecDepth 10000 in
set_option maxHeartbeats 4000000 in
theorem told_refused (c : Int) (w : World) : Calls Try.prog 59 #[verdV (.no c)] w fun e w' => e = .returned (toldV (.no c)) ∧ Below w.heap.size w w' := by
  show Calls _ _ #[.iface 101 (.agg #[.int .i64 c])] _ (fun e w' => e = .returned (.agg #[.slice none 0 0, .bool false, .int .i64 c]) ∧ _)
  have hm : ∀ w, (method 233 101 (.agg #[.int .i64 c]) "loop.example/g00551/impl.code").run Try.prog w = .ok (107, .agg #[.int .i64 c]) w := fun _ => by kernel_rfl
  have ha0 : ∀ W, (Instr.typeAssert (.iface 101 (.agg #[.int .i64 c])) 81 97 true).run Try.prog W = .ok (.tuple #[.agg #[.slice none 0 0], .bool false]) W := fun _ => by kernel_rfl
  have ha1 : ∀ W, (Instr.typeAssert (.iface 101 (.agg #[.int .i64 c])) 81 99 true).run Try.prog W = .ok (.tuple #[.agg #[.slice none 0 0, .bool false, .int .i64 0], .bool false]) W := fun _ => by kernel_rfl
  have KC : Hid (∀ W, Calls Try.prog 107 #[.agg #[.int .i64 c]] W fun e w' => e = .returned (.int .i64 c) ∧ Below W.heap.size W w') := fun W => code_refused c W
  obtain ⟨W0, hW⟩ : ∃ W0, W0 = w.alloc (.cells #[.slice none 0 0, .bool false, .int .i64 0] 33) := ⟨_, rfl⟩
  have hW0 : Hid (W0 = w.alloc (.cells #[.slice none 0 0, .bool false, .int .i64 0] 33)) := hW
  have B0 : Hid (Below w.heap.size w W0) := by show Below _ _ _; rw [hW]; exact (Below.refl _ _).alloc (Nat.le_refl _) _
  have X0 : Hid (BoxG W0 w.heap.size) := by show BoxG _ _; rw [hW]; exact boxG_made w _
  have z0 : w.heap.size < W0.heap.size := by rw [hW]; simp
  clear hW
  go_enter Try.func59, Try.ntmps59
  go_upto_region 1 with fail
  rw [← hW0.out]
  clear hW0
  generalize hbb : w.heap.size = b at *
  go_wp2_with fail
  refine (KC.out _).mono ?_
  rintro e w1 ⟨rfl, hb1⟩
  obtain ⟨W2, hV⟩ : ∃ W2, W2 = w1.alloc (.cells #[.slice none 0 0, .bool false, .int .i64 c] 33) := ⟨_, rfl⟩
  have hW2 : Hid (W2 = w1.alloc (.cells #[.slice none 0 0, .bool false, .int .i64 c] 33)) := hV
  have A2 : Below w1.heap.size w1 W2 := by rw [hV]; exact (Below.refl _ _).alloc (Nat.le_refl _) _
  have B2 : Hid (Below b w W2) := (B0.out.trans (hb1.mono (Nat.le_of_lt z0))).trans (A2.mono (Nat.le_of_lt (Nat.lt_of_lt_of_le z0 hb1.size)))
  have X2 : Hid (BoxG W2 b) := (X0.out.below hb1).below A2
  have t0 : W2.cell? ⟨w1.heap.size, 0, none⟩ = some (.slice none 0 0) := by rw [hV]; simp
  have t1 : W2.cell? ⟨w1.heap.size, 1, none⟩ = some (.bool false) := by rw [hV]; simp
  have t2 : W2.cell? ⟨w1.heap.size, 2, none⟩ = some (.int .i64 c) := by rw [hV]; simp
  have g0 : W2.frozen? ⟨w1.heap.size, 0, none⟩ = false := by rw [hV]; simp
  have g1 : W2.frozen? ⟨w1.heap.size, 1, none⟩ = false := by rw [hV]; simp
  have hbt : b < w1.heap.size := Nat.lt_of_lt_of_le z0 hb1.size
  have zt : w1.heap.size < W2.heap.size := by rw [hV]; simp
  clear hV A2 hb1 B0 X0 z0 KC
  go_upto_region 2 with fail
  rw [← hW2.out]
  clear hW2
  generalize w1.heap.size = bt at *
  have hne : ¬ b = bt := by omega
  have hne2 : ¬ bt = b := by omega
  obtain ⟨x0, x1, x2, f0, f1, f2, hlt⟩ := X2.out
  go_wp2
  refine bodyPost_ret (v := .agg #[.slice none 0 0, .bool false, .int .i64 c]) (by simp [results, Try.results59, go_sem, x0, x1, x2]) rfl ⟨rfl, by rw [hbb]; exact store3G_below B2.out⟩
set_option maxRecDepth 10000 in
set_option maxHeartbeats 4000000 in
theorem told_unchanged (p : Option Addr) (n c : Nat) (w : World) : Calls Try.prog 59 #[verdV (.same p n c)] w fun e w' => e = .returned (toldV (.same p n c)) ∧ Below w.heap.size w w' := by
  show Calls _ _ #[.iface 97 (.agg #[.slice p n c])] _ (fun e w' => e = .returned (.agg #[.slice p n c, .bool false, .int .i64 0]) ∧ _)
  have hm : ∀ w, (method 233 97 (.agg #[.slice p n c]) "loop.example/g00551/impl.code").run Try.prog w = .ok (105, .agg #[.slice p n c]) w := fun _ => by kernel_rfl
  have ha0 : ∀ W, (Instr.typeAssert (.iface 97 (.agg #[.slice p n c])) 81 97 true).run Try.prog W = .ok (.tuple #[.agg #[.slice p n c], .bool true]) W := fun _ => by kernel_rfl
  have KC : Hid (∀ W, Calls Try.prog 105 #[.agg #[.slice p n c]] W fun e w' => e = .returned (.int .i64 0) ∧ Below W.heap.size W w') := fun W => code_unchanged p n c W
  obtain ⟨W0, hW⟩ : ∃ W0, W0 = w.alloc (.cells #[.slice none 0 0, .bool false, .int .i64 0] 33) := ⟨_, rfl⟩
  have hW0 : Hid (W0 = w.alloc (.cells #[.slice none 0 0, .bool false, .int .i64 0] 33)) := hW
  have B0 : Hid (Below w.heap.size w W0) := by show Below _ _ _; rw [hW]; exact (Below.refl _ _).alloc (Nat.le_refl _) _
  have X0 : Hid (BoxG W0 w.heap.size) := by show BoxG _ _; rw [hW]; exact boxG_made w _
  have z0 : w.heap.size < W0.heap.size := by rw [hW]; simp
  clear hW
  go_enter Try.func59, Try.ntmps59
  go_upto_region 1 with fail
  rw [← hW0.out]
  clear hW0
  generalize hbb : w.heap.size = b at *
  go_wp2_with fail
  refine (KC.out _).mono ?_
  rintro e w1 ⟨rfl, hb1⟩
  obtain ⟨W2, hV⟩ : ∃ W2, W2 = w1.alloc (.cells #[.slice none 0 0, .bool false, .int .i64 0] 33) := ⟨_, rfl⟩
  have hW2 : Hid (W2 = w1.alloc (.cells #[.slice none 0 0, .bool false, .int .i64 0] 33)) := hV
  have A2 : Below w1.heap.size w1 W2 := by rw [hV]; exact (Below.refl _ _).alloc (Nat.le_refl _) _
  have B2 : Hid (Below b w W2) := (B0.out.trans (hb1.mono (Nat.le_of_lt z0))).trans (A2.mono (Nat.le_of_lt (Nat.lt_of_lt_of_le z0 hb1.size)))
  have X2 : Hid (BoxG W2 b) := (X0.out.below hb1).below A2
  have t0 : W2.cell? ⟨w1.heap.size, 0, none⟩ = some (.slice none 0 0) := by rw [hV]; simp
  have t1 : W2.cell? ⟨w1.heap.size, 1, none⟩ = some (.bool false) := by rw [hV]; simp
  have t2 : W2.cell? ⟨w1.heap.size, 2, none⟩ = some (.int .i64 0) := by rw [hV]; simp
  have g0 : W2.frozen? ⟨w1.heap.size, 0, none⟩ = false := by rw [hV]; simp
  have g1 : W2.frozen? ⟨w1.heap.size, 1, none⟩ = false := by rw [hV]; simp
  have hbt : b < w1.heap.size := Nat.lt_of_lt_of_le z0 hb1.size
  have zt : w1.heap.size < W2.heap.size := by rw [hV]; simp
  clear hV A2 hb1 B0 X0 z0 KC
  go_upto_region 2 with fail
  rw [← hW2.out]
  clear hW2
  generalize w1.heap.size = bt at *
  have hne : ¬ b = bt := by omega
  have hne2 : ¬ bt = b := by omega
  obtain ⟨W3, hU⟩ : ∃ W3, W3 = W2.alloc (.cells #[.slice p n c] 97) := ⟨_, rfl⟩
  have hW3 : Hid (W3 = W2.alloc (.cells #[.slice p n c] 97)) := hU
  have A3 : Below W2.heap.size W2 W3 := by rw [hU]; exact (Below.refl _ _).alloc (Nat.le_refl _) _
  have B3 : Hid (Below b w W3) := B2.out.trans (A3.mono (by omega))
  have X3 : Hid (BoxG W3 b) := X2.out.below A3
  have u0 : W3.cell? ⟨bt, 0, none⟩ = some (.slice none 0 0) := ((bcell A3).1 _ _ zt).trans t0
  have u1 : W3.cell? ⟨bt, 1, none⟩ = some (.bool false) := ((bcell A3).1 _ _ zt).trans t1
  have u2 : W3.cell? ⟨bt, 2, none⟩ = some (.int .i64 0) := ((bcell A3).1 _ _ zt).trans t2
  have v0 : W3.frozen? ⟨bt, 0, none⟩ = false := ((bcell A3).2 _ _ zt).trans g0
  have v1 : W3.frozen? ⟨bt, 1, none⟩ = false := ((bcell A3).2 _ _ zt).trans g1
  have s0 : W3.cell? ⟨W2.heap.size, 0, none⟩ = some (.slice p n c) := by rw [hU]; simp
  clear hU A3 B2 X2 t0 t1 t2 g0 g1
  go_upto_region 5 with fail
  rw [← hW3.out]
  clear hW3
  obtain ⟨x0, x1, x2, f0, f1, f2, hlt⟩ := X3.out
  generalize W2.heap.size = bs at *
  have HBF : Hid (Below b w (W3.setCell ⟨bt, 0, none⟩ (.slice p n c))) := B3.out.setCell (Nat.le_of_lt hbt) _
  go_wp2
  refine bodyPost_ret (v := .agg #[.slice p n c, .bool false, .int .i64 0]) (by simp [results, Try.results59, go_sem, x0, x1, x2]) rfl ⟨rfl, by rw [hbb]; exact store3G_below HBF.out⟩
set_option maxRecDepth 10000 in
set_option maxHeartbeats 4000000 in
theorem told_decided (p : Option Addr) (n c : Nat) (us : Bool) (co : Int) (w : World) : Calls Try.prog 59 #[verdV (.done p n c us co)] w fun e w' => e = .returned (toldV (.done p n c us co)) ∧ Below w.heap.size w w' := by
  show Calls _ _ #[.iface 99 (.agg #[.slice p n c, .bool us, .int .i64 co])] _ (fun e w' => e = .returned (.agg #[.slice p n c, .bool true, .int .i64 co]) ∧ _)
  have hm : ∀ w, (method 233 99 (.agg #[.slice p n c, .bool us, .int .i64 co]) "loop.example/g00551/impl.code").run Try.prog w = .ok (106, .agg #[.slice p n c, .bool us, .int .i64 co]) w := fun _ => by kernel_rfl
  have ha0 : ∀ W, (Instr.typeAssert (.iface 99 (.agg #[.slice p n c, .bool us, .int .i64 co])) 81 97 true).run Try.prog W = .ok (.tuple #[.agg #[.slice none 0 0], .bool false]) W := fun _ => by kernel_rfl
  have ha1 : ∀ W, (Instr.typeAssert (.iface 99 (.agg #[.slice p n c, .bool us, .int .i64 co])) 81 99 true).run Try.prog W = .ok (.tuple #[.agg #[.slice p n c, .bool us, .int .i64 co], .bool true]) W := fun _ => by kernel_rfl
  have KC : Hid (∀ W, Calls Try.prog 106 #[.agg #[.slice p n c, .bool us, .int .i64 co]] W fun e w' => e = .returned (.int .i64 co) ∧ Below W.heap.size W w') := fun W => code_decided p n c us co W
  obtain ⟨W0, hW⟩ : ∃ W0, W0 = w.alloc (.cells #[.slice none 0 0, .bool false, .int .i64 0] 33) := ⟨_, rfl⟩
  have hW0 : Hid (W0 = w.alloc (.cells #[.slice none 0 0, .bool false, .int .i64 0] 33)) := hW
  have B0 : Hid (Below w.heap.size w W0) := by show Below _ _ _; rw [hW]; exact (Below.refl _ _).alloc (Nat.le_refl _) _
  have X0 : Hid (BoxG W0 w.heap.size) := by show BoxG _ _; rw [hW]; exact boxG_made w _
  have z0 : w.heap.size < W0.heap.size := by rw [hW]; simp
  clear hW
  go_enter Try.func59, Try.ntmps59
  go_upto_region 1 with fail
  rw [← hW0.out]
  clear hW0
  generalize hbb : w.heap.size = b at *
  go_wp2_with fail
  refine (KC.out _).mono ?_
  rintro e w1 ⟨rfl, hb1⟩
  obtain ⟨W2, hV⟩ : ∃ W2, W2 = w1.alloc (.cells #[.slice none 0 0, .bool false, .int .i64 co] 33) := ⟨_, rfl⟩
  have hW2 : Hid (W2 = w1.alloc (.cells #[.slice none 0 0, .bool false, .int .i64 co] 33)) := hV
  have A2 : Below w1.heap.size w1 W2 := by rw [hV]; exact (Below.refl _ _).alloc (Nat.le_refl _) _
  have B2 : Hid (Below b w W2) := (B0.out.trans (hb1.mono (Nat.le_of_lt z0))).trans (A2.mono (Nat.le_of_lt (Nat.lt_of_lt_of_le z0 hb1.size)))
  have X2 : Hid (BoxG W2 b) := (X0.out.below hb1).below A2
  have t0 : W2.cell? ⟨w1.heap.size, 0, none⟩ = some (.slice none 0 0) := by rw [hV]; simp
  have t1 : W2.cell? ⟨w1.heap.size, 1, none⟩ = some (.bool false) := by rw [hV]; simp
  have t2 : W2.cell? ⟨w1.heap.size, 2, none⟩ = some (.int .i64 co) := by rw [hV]; simp
  have g0 : W2.frozen? ⟨w1.heap.size, 0, none⟩ = false := by rw [hV]; simp
  have g1 : W2.frozen? ⟨w1.heap.size, 1, none⟩ = false := by rw [hV]; simp
  have hbt : b < w1.heap.size := Nat.lt_of_lt_of_le z0 hb1.size
  have zt : w1.heap.size < W2.heap.size := by rw [hV]; simp
  clear hV A2 hb1 B0 X0 z0 KC
  go_upto_region 2 with fail
  rw [← hW2.out]
  clear hW2
  generalize w1.heap.size = bt at *
  have hne : ¬ b = bt := by omega
  have hne2 : ¬ bt = b := by omega
  obtain ⟨W3, hU⟩ : ∃ W3, W3 = W2.alloc (.cells #[.slice p n c, .bool us, .int .i64 co] 99) := ⟨_, rfl⟩
  have hW3 : Hid (W3 = W2.alloc (.cells #[.slice p n c, .bool us, .int .i64 co] 99)) := hU
  have A3 : Below W2.heap.size W2 W3 := by rw [hU]; exact (Below.refl _ _).alloc (Nat.le_refl _) _
  have B3 : Hid (Below b w W3) := B2.out.trans (A3.mono (by omega))
  have X3 : Hid (BoxG W3 b) := X2.out.below A3
  have u0 : W3.cell? ⟨bt, 0, none⟩ = some (.slice none 0 0) := ((bcell A3).1 _ _ zt).trans t0
  have u1 : W3.cell? ⟨bt, 1, none⟩ = some (.bool false) := ((bcell A3).1 _ _ zt).trans t1
  have u2 : W3.cell? ⟨bt, 2, none⟩ = some (.int .i64 co) := ((bcell A3).1 _ _ zt).trans t2
  have v0 : W3.frozen? ⟨bt, 0, none⟩ = false := ((bcell A3).2 _ _ zt).trans g0
  have v1 : W3.frozen? ⟨bt, 1, none⟩ = false := ((bcell A3).2 _ _ zt).trans g1
  have s0 : W3.cell? ⟨W2.heap.size, 0, none⟩ = some (.slice p n c) := by rw [hU]; simp
  have s1 : W3.cell? ⟨W2.heap.size, 1, none⟩ = some (.bool us) := by rw [hU]; simp
  have s2 : W3.cell? ⟨W2.heap.size, 2, none⟩ = some (.int .i64 co) := by rw [hU]; simp
  clear hU A3 B2 X2 t0 t1 t2 g0 g1
  go_upto_region 8 with fail
  rw [← hW3.out]
  clear hW3
  obtain ⟨x0, x1, x2, f0, f1, f2, hlt⟩ := X3.out
  generalize W2.heap.size = bs at *
  have HBF : Hid (Below b w ((W3.setCell ⟨bt, 0, none⟩ (.slice p n c)).setCell ⟨bt, 1, none⟩ (.bool true))) := (B3.out.setCell (Nat.le_of_lt hbt) _).setCell (Nat.le_of_lt hbt) _
  go_wp2
  refine bodyPost_ret (v := .agg #[.slice p n c, .bool true, .int .i64 co]) (by simp [results, Try.results59, go_sem, x0, x1, x2]) rfl ⟨rfl, by rw [hbb]; exact store3G_below HBF.out⟩
theorem told_any (v : Verd) (w : World) : Calls Try.prog 59 #[verdV v] w fun e w' => e = .returned (toldV v) ∧ Below w.heap.size w w' := by
  cases v with
  | no c => exact told_refused c w
  | same p n c => exact told_unchanged p n c w
  | done p n c us co => exact told_decided p n c us co w
end Go.Proofs.Ytehnklgpdjfcgaa
