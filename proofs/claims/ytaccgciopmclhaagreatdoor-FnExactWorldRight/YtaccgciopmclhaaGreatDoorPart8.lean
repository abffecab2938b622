/- 1 of this claim's texts, one behind the other. -/
import Derived.Test.YtaccgciopmclhaaGreatDoorPart7
/- The walks of the specification's l02Time, l09At and FramesRight. Written by specframes.py. -/
namespace Go.Proofs.YtaccgciopmclhaaGreatDoor
open Go.RowKit

def isB9 (n : Int) : Bool := decide (1 ≤ n) && decide (n ≤ 1000000)
def okB9 (yid la ypa wh : Int) (bu bt sb : Bool) : Bool := (tmF yid && bu && bt && boxF ypa sb) && decide (la < yid) && ((ypa == 0) || decide (0 ≤ wh))
theorem okF_b (L : List Fr) (k : Nat) : okF L k = okB9 (atF L k).id (lastF (L.take k)) (atF L k).pa (whF (L.take k) (atF L k).pa) (uF (atF L k)) (tmF (atF L k).tc) (atF L k).sb := rfl
theorem okB9_is {yid la ypa wh : Int} {bu bt sb : Bool} (h : 0 ≤ la) (h1 : isB9 yid = false) : okB9 yid la ypa wh bu bt sb = false := by
  unfold okB9 tmF
  unfold isB9 at h1
  by_cases h2 : la < yid
  · rw [decide_eq_true (show 1 ≤ yid by omega), Bool.true_and] at h1
    rw [h1]; simp
  · rw [decide_eq_false h2]; simp
theorem okB9_flat {yid la ypa wh : Int} {bu bt sb : Bool} (h : yid ≤ la) : okB9 yid la ypa wh bu bt sb = false := by
  unfold okB9; rw [decide_eq_false (show ¬ la < yid by omega)]; simp
theorem okB9_hold {yid la ypa wh : Int} {bu bt sb : Bool} (h : (ypa == 0) = false) (h2 : wh < 0) : okB9 yid la ypa wh bu bt sb = false := by
  unfold okB9; rw [h, decide_eq_false (show ¬ 0 ≤ wh by omega)]; simp
theorem okB9_u {yid la ypa wh : Int} {bt sb : Bool} : okB9 yid la ypa wh false bt sb = false := by unfold okB9; simp
theorem okB9_t {yid la ypa wh : Int} {bu sb : Bool} : okB9 yid la ypa wh bu false sb = false := by unfold okB9; simp
theorem okB9_box {yid la ypa wh : Int} {bu bt : Bool} (h : (ypa == 0) = true) : okB9 yid la ypa wh bu bt true = false := by
  unfold okB9 boxF; rw [h]; simp
theorem okB9_yes {yid la ypa wh : Int} {sb : Bool} (h0 : isB9 yid = true) (h1 : la < yid) (h2 : (ypa == 0) = true ∨ 0 ≤ wh) (h3 : (ypa == 0) = false ∨ sb = false) : okB9 yid la ypa wh true true sb = true := by
  unfold okB9 boxF tmF
  unfold isB9 at h0
  rw [Bool.and_eq_true, decide_eq_true_eq, decide_eq_true_eq] at h0
  rw [decide_eq_true (show 0 ≤ yid by omega), decide_eq_true h0.2, decide_eq_true h1]
  rcases h2 with h2 | h2 <;> rcases h3 with h3 | h3 <;> simp_all
set_option maxRecDepth 10000 in
theorem specTime9_any (n : Int) (w : World) :
    Calls Tryz.prog 31 #[.int .i64 n] w fun e w' => e = .returned (.bool (tmF n)) ∧ w' = w := by
  have H : Hid (∀ W, Calls Tryz.prog 51 #[.int .i64 n, .int .i64 0, .int .i64 1000000] W fun e w' => e = .returned (.bool (tmF n)) ∧ w' = W) := fun W => specIs_any n 0 1000000 W
  generalize tmF n = b at *
  go_enter Tryz.func31, Tryz.ntmps31
  go_wp2_with (go_at_call 51; refine (H.out _).mono ?_; rintro e w1 ⟨rfl, rfl⟩)
  go_ret
  exact ⟨rfl, rfl⟩
set_option maxRecDepth 10000 in
set_option maxHeartbeats 2000000 in
theorem specAt_any (v : Value) (L : List Fr) (B : Nat) (id : Int) (w : World) (hs : SliceF w B v L) (hn : L.length ≤ 1048576) :
    Calls Tryz.prog 65 #[v, .int .i64 id] w fun e w' => e = .returned (.int .i64 (whF L id)) ∧ w' = w := by
  obtain ⟨⟨p, cap, rfl, hg⟩, -⟩ := hs
  have HG : Hid (0 < L.length → ∃ g, p = some ⟨g, 0, none⟩ ∧ ∀ j, j < L.length → w.cell? ⟨g, j * 9, none⟩ = some (.int .i64 (atF L j).id)) := fun h0 => by
    obtain ⟨g, e, -, hgw, hc⟩ := hg h0
    exact ⟨g, e, fun j hj => (hc j hj 0 (by omega)).1⟩
  have HY : Hid (∀ k, k < L.length → (atF L k).id = id → (∀ j, j < k → (atF L j).id ≠ id) → whF L id = (k : Int)) := fun k hk h hn => whF_is hk h hn
  have HNo : Hid ((∀ j, j < L.length → (atF L j).id ≠ id) → whF L id = -1) := fun h => whF_no h
  clear hg
  generalize whF L id = R at *
  go_enter Tryz.func65, Tryz.ntmps65
  go_wp2
  go_loopw [5] (fun i wr => ∃ k : Nat, k ≤ L.length ∧ i = .int .i64 k ∧ Hid (∀ j, j < k → (atF L j).id ≠ id) ∧ Hid (wr = w)) (fun i _ => L.length - (intOf i).toNat)
  case atStart => exact ⟨0, Nat.zero_le _, rfl, fun j hj => absurd hj (by omega), rfl⟩
  case round =>
    obtain ⟨k, hk, rfl, HR, HW⟩ := hrel
    by_cases hlt : k < L.length
    · obtain ⟨g, rfl, hc⟩ := HG.out (by omega)
      have c0 : wr.cell? ⟨g, k * 9, none⟩ = some (.int .i64 (atF L k).id) := by rw [HW.out]; exact hc k hlt
      have k0 : (0 : Int) ≤ k := by omega
      have k1 : (k : Int) < L.length := by omega
      have HYk : Hid ((atF L k).id = id → R = (k : Int)) := fun h => HY.out k hlt h HR.out
      have HNx : Hid ((atF L k).id ≠ id → ∀ j, j < k + 1 → (atF L j).id ≠ id) := fun h j hj => by
        by_cases e : j = k
        · subst e; exact h
        · exact HR.out j (by omega)
      clear hc HG HY HNo
      generalize (atF L k).id = x at *
      by_cases hx : x = id
      · have q : (x == id) = true := by rw [hx]; exact beq_self_eq_true _
        have HQ : Hid (R = (k : Int)) := HYk.out hx
        go_wp2
        go_ret
        exact ⟨ret_int HQ.out.symm, HW.out⟩
      · have q : (x == id) = false := by rw [beq_eq_false_iff_ne]; exact hx
        have HN := HNx.out hx
        have HN2 : Hid (∀ j, j < k + 1 → (atF L j).id ≠ id) := HN
        clear HN HNx HYk
        go_wp2
        go_roundw
        case rel => exact ⟨k + 1, by omega, by go_num, HN2, HW⟩
        case measure => simp [intOf]; omega
    · have HQ : Hid (R = -1) := HNo.out (fun j hj => HR.out j (by omega))
      go_wp2
      go_ret
      exact ⟨ret_int HQ.out.symm, HW.out⟩
def q90 : Oper := { dst := some 15, op := Op.fieldAddr 99 (Operand.tmp 4) 0, type := 0, pos := "l09_frame.go:18", after := #[], guard := none }
def q91 : Oper := { dst := some 16, op := Op.load 2 (Operand.tmp 15), type := 2, pos := "l09_frame.go:18", after := #[{ on := 0, ground := Ground.data }], guard := none }
def q92 : Oper := { dst := some 17, op := Op.call { callee := Callee.value (Operand.func 51), args := #[Operand.tmp 16, Operand.const (Value.int IntKind.i64 1), Operand.const (Value.int IntKind.i64 1000000)], argTypes := #[2, 2, 2] }, type := 4, pos := "l09_frame.go:18", after := #[{ on := 1, ground := Ground.data }], guard := none }
def q93 : Oper := { dst := some 18, op := Op.unOp UnOp.not 4 (Operand.tmp 17), type := 4, pos := "l09_frame.go:18", after := #[{ on := 2, ground := Ground.data }], guard := none }
def q94 : Oper := { dst := some 19, op := Op.move (Operand.tmp 18), type := 4, pos := "l09_frame.go:18", after := #[{ on := 3, ground := Ground.data }, { on := 2, ground := Ground.chain }], guard := none }
def q95 : Oper := { dst := some 20, op := Op.move (Operand.tmp 3), type := 3, pos := "l09_frame.go:18", after := #[{ on := 4, ground := Ground.guard }], guard := some (4, false) }
def q96 : Oper := { dst := some 21, op := Op.binOp BinOp.gtr 3 (Operand.tmp 20) (Operand.const (Value.int IntKind.i64 0)) 3, type := 4, pos := "l09_frame.go:18", after := #[{ on := 5, ground := Ground.data }, { on := 4, ground := Ground.guard }], guard := some (4, false) }
def q97 : Oper := { dst := some 22, op := Op.move (Operand.tmp 21), type := 4, pos := "l09_frame.go:18", after := #[{ on := 6, ground := Ground.data }, { on := 4, ground := Ground.chain }, { on := 4, ground := Ground.guard }], guard := some (4, false) }
def q98 : Oper := { dst := some 23, op := Op.move (Operand.tmp 0), type := 33, pos := "l09_frame.go:18", after := #[{ on := 7, ground := Ground.guard }], guard := some (7, true) }
def q99 : Oper := { dst := some 24, op := Op.move (Operand.tmp 3), type := 3, pos := "l09_frame.go:18", after := #[{ on := 7, ground := Ground.guard }], guard := some (7, true) }
def q910 : Oper := { dst := some 25, op := Op.binOp BinOp.sub 3 (Operand.tmp 24) (Operand.const (Value.int IntKind.i64 1)) 3, type := 3, pos := "l09_frame.go:18", after := #[{ on := 9, ground := Ground.data }, { on := 7, ground := Ground.guard }], guard := some (7, true) }
def q911 : Oper := { dst := some 26, op := Op.indexAddr 33 (Operand.tmp 23) (Operand.tmp 25), type := 0, pos := "l09_frame.go:18", after := #[{ on := 8, ground := Ground.data }, { on := 10, ground := Ground.data }, { on := 7, ground := Ground.guard }], guard := some (7, true) }
def q912 : Oper := { dst := some 27, op := Op.fieldAddr 99 (Operand.tmp 26) 0, type := 0, pos := "l09_frame.go:18", after := #[{ on := 11, ground := Ground.data }, { on := 7, ground := Ground.guard }], guard := some (7, true) }
def q913 : Oper := { dst := some 28, op := Op.load 2 (Operand.tmp 27), type := 2, pos := "l09_frame.go:18", after := #[{ on := 12, ground := Ground.data }, { on := 7, ground := Ground.guard }], guard := some (7, true) }
def q914 : Oper := { dst := some 29, op := Op.fieldAddr 99 (Operand.tmp 4) 0, type := 0, pos := "l09_frame.go:18", after := #[{ on := 7, ground := Ground.guard }], guard := some (7, true) }
def q915 : Oper := { dst := some 30, op := Op.load 2 (Operand.tmp 29), type := 2, pos := "l09_frame.go:18", after := #[{ on := 14, ground := Ground.data }, { on := 7, ground := Ground.guard }], guard := some (7, true) }
def q916 : Oper := { dst := some 31, op := Op.binOp BinOp.geq 2 (Operand.tmp 28) (Operand.tmp 30) 2, type := 4, pos := "l09_frame.go:18", after := #[{ on := 13, ground := Ground.data }, { on := 15, ground := Ground.data }, { on := 7, ground := Ground.guard }], guard := some (7, true) }
def q917 : Oper := { dst := some 32, op := Op.pick (Operand.tmp 22) (Operand.tmp 31) (Operand.const (Value.bool false)), type := 4, pos := "l09_frame.go:18", after := #[{ on := 7, ground := Ground.data }, { on := 16, ground := Ground.data }, { on := 4, ground := Ground.guard }], guard := some (4, false) }
def q918 : Oper := { dst := some 33, op := Op.pick (Operand.tmp 19) (Operand.const (Value.bool true)) (Operand.tmp 32), type := 4, pos := "l09_frame.go:18", after := #[{ on := 4, ground := Ground.data }, { on := 17, ground := Ground.data }], guard := none }
def q919 : Oper := { dst := some 34, op := Op.move (Operand.tmp 33), type := 4, pos := "l09_frame.go:18", after := #[{ on := 18, ground := Ground.data }, { on := 7, ground := Ground.chain }], guard := none }
def q920 : Oper := { dst := some 35, op := Op.fieldAddr 99 (Operand.tmp 4) 1, type := 0, pos := "l09_frame.go:18", after := #[{ on := 19, ground := Ground.guard }], guard := some (19, false) }
def q921 : Oper := { dst := some 36, op := Op.load 2 (Operand.tmp 35), type := 2, pos := "l09_frame.go:18", after := #[{ on := 20, ground := Ground.data }, { on := 19, ground := Ground.guard }], guard := some (19, false) }
def q922 : Oper := { dst := some 37, op := Op.binOp BinOp.neq 2 (Operand.tmp 36) (Operand.const (Value.int IntKind.i64 0)) 2, type := 4, pos := "l09_frame.go:18", after := #[{ on := 21, ground := Ground.data }, { on := 19, ground := Ground.guard }], guard := some (19, false) }
def q923 : Oper := { dst := some 38, op := Op.move (Operand.tmp 37), type := 4, pos := "l09_frame.go:18", after := #[{ on := 22, ground := Ground.data }, { on := 19, ground := Ground.chain }, { on := 19, ground := Ground.guard }], guard := some (19, false) }
def q924 : Oper := { dst := some 39, op := Op.move (Operand.tmp 0), type := 33, pos := "l09_frame.go:18", after := #[{ on := 23, ground := Ground.guard }], guard := some (23, true) }
def q925 : Oper := { dst := some 40, op := Op.move (Operand.tmp 3), type := 3, pos := "l09_frame.go:18", after := #[{ on := 23, ground := Ground.guard }], guard := some (23, true) }
def q926 : Oper := { dst := some 41, op := Op.slice 33 (Operand.tmp 39) none (some (Operand.tmp 40)) none, type := 33, pos := "l09_frame.go:18", after := #[{ on := 24, ground := Ground.data }, { on := 25, ground := Ground.data }, { on := 23, ground := Ground.guard }], guard := some (23, true) }
def q927 : Oper := { dst := some 42, op := Op.fieldAddr 99 (Operand.tmp 4) 1, type := 0, pos := "l09_frame.go:18", after := #[{ on := 23, ground := Ground.guard }], guard := some (23, true) }
def q928 : Oper := { dst := some 43, op := Op.load 2 (Operand.tmp 42), type := 2, pos := "l09_frame.go:18", after := #[{ on := 27, ground := Ground.data }, { on := 23, ground := Ground.guard }], guard := some (23, true) }
def q929 : Oper := { dst := some 44, op := Op.call { callee := Callee.value (Operand.func 65), args := #[Operand.tmp 41, Operand.tmp 43], argTypes := #[33, 2] }, type := 3, pos := "l09_frame.go:18", after := #[{ on := 26, ground := Ground.data }, { on := 28, ground := Ground.data }, { on := 23, ground := Ground.chain }, { on := 23, ground := Ground.guard }], guard := some (23, true) }
def q930 : Oper := { dst := some 45, op := Op.binOp BinOp.lss 3 (Operand.tmp 44) (Operand.const (Value.int IntKind.i64 0)) 3, type := 4, pos := "l09_frame.go:18", after := #[{ on := 29, ground := Ground.data }, { on := 23, ground := Ground.guard }], guard := some (23, true) }
def q931 : Oper := { dst := some 46, op := Op.pick (Operand.tmp 38) (Operand.tmp 45) (Operand.const (Value.bool false)), type := 4, pos := "l09_frame.go:18", after := #[{ on := 23, ground := Ground.data }, { on := 30, ground := Ground.data }, { on := 19, ground := Ground.guard }], guard := some (19, false) }
def q932 : Oper := { dst := some 47, op := Op.pick (Operand.tmp 34) (Operand.const (Value.bool true)) (Operand.tmp 46), type := 4, pos := "l09_frame.go:18", after := #[{ on := 19, ground := Ground.data }, { on := 31, ground := Ground.data }], guard := none }
def q933 : Oper := { dst := some 48, op := Op.move (Operand.tmp 47), type := 4, pos := "l09_frame.go:18", after := #[{ on := 32, ground := Ground.data }, { on := 29, ground := Ground.chain }], guard := none }
def q934 : Oper := { dst := some 49, op := Op.fieldAddr 99 (Operand.tmp 4) 2, type := 0, pos := "l09_frame.go:18", after := #[{ on := 33, ground := Ground.guard }], guard := some (33, false) }
def q935 : Oper := { dst := some 50, op := Op.load 97 (Operand.tmp 49), type := 97, pos := "l09_frame.go:18", after := #[{ on := 34, ground := Ground.data }, { on := 33, ground := Ground.guard }], guard := some (33, false) }
def q936 : Oper := { dst := some 51, op := Op.call { callee := Callee.value (Operand.func 76), args := #[Operand.tmp 50], argTypes := #[97] }, type := 4, pos := "l09_frame.go:18", after := #[{ on := 35, ground := Ground.data }, { on := 33, ground := Ground.chain }, { on := 33, ground := Ground.guard }], guard := some (33, false) }
def q937 : Oper := { dst := some 52, op := Op.unOp UnOp.not 4 (Operand.tmp 51), type := 4, pos := "l09_frame.go:18", after := #[{ on := 36, ground := Ground.data }, { on := 33, ground := Ground.guard }], guard := some (33, false) }
def q938 : Oper := { dst := some 53, op := Op.pick (Operand.tmp 48) (Operand.const (Value.bool true)) (Operand.tmp 52), type := 4, pos := "l09_frame.go:18", after := #[{ on := 33, ground := Ground.data }, { on := 37, ground := Ground.data }], guard := none }
def q939 : Oper := { dst := some 54, op := Op.move (Operand.tmp 53), type := 4, pos := "l09_frame.go:18", after := #[{ on := 38, ground := Ground.data }, { on := 36, ground := Ground.chain }], guard := none }
def q940 : Oper := { dst := some 55, op := Op.fieldAddr 99 (Operand.tmp 4) 5, type := 0, pos := "l09_frame.go:18", after := #[{ on := 39, ground := Ground.guard }], guard := some (39, false) }
def q941 : Oper := { dst := some 56, op := Op.load 2 (Operand.tmp 55), type := 2, pos := "l09_frame.go:18", after := #[{ on := 40, ground := Ground.data }, { on := 39, ground := Ground.guard }], guard := some (39, false) }
def q942 : Oper := { dst := some 57, op := Op.call { callee := Callee.value (Operand.func 31), args := #[Operand.tmp 56], argTypes := #[2] }, type := 4, pos := "l09_frame.go:18", after := #[{ on := 41, ground := Ground.data }, { on := 39, ground := Ground.chain }, { on := 39, ground := Ground.guard }], guard := some (39, false) }
def q943 : Oper := { dst := some 58, op := Op.unOp UnOp.not 4 (Operand.tmp 57), type := 4, pos := "l09_frame.go:18", after := #[{ on := 42, ground := Ground.data }, { on := 39, ground := Ground.guard }], guard := some (39, false) }
def q944 : Oper := { dst := some 59, op := Op.pick (Operand.tmp 54) (Operand.const (Value.bool true)) (Operand.tmp 58), type := 4, pos := "l09_frame.go:18", after := #[{ on := 39, ground := Ground.data }, { on := 43, ground := Ground.data }], guard := none }
def q945 : Oper := { dst := some 60, op := Op.move (Operand.tmp 59), type := 4, pos := "l09_frame.go:18", after := #[{ on := 44, ground := Ground.data }, { on := 42, ground := Ground.chain }], guard := none }
def q946 : Oper := { dst := some 61, op := Op.fieldAddr 99 (Operand.tmp 4) 1, type := 0, pos := "l09_frame.go:18", after := #[{ on := 45, ground := Ground.guard }], guard := some (45, false) }
def q947 : Oper := { dst := some 62, op := Op.load 2 (Operand.tmp 61), type := 2, pos := "l09_frame.go:18", after := #[{ on := 46, ground := Ground.data }, { on := 45, ground := Ground.guard }], guard := some (45, false) }
def q948 : Oper := { dst := some 63, op := Op.binOp BinOp.eql 2 (Operand.tmp 62) (Operand.const (Value.int IntKind.i64 0)) 2, type := 4, pos := "l09_frame.go:18", after := #[{ on := 47, ground := Ground.data }, { on := 45, ground := Ground.guard }], guard := some (45, false) }
def q949 : Oper := { dst := some 64, op := Op.move (Operand.tmp 63), type := 4, pos := "l09_frame.go:18", after := #[{ on := 48, ground := Ground.data }, { on := 45, ground := Ground.chain }, { on := 45, ground := Ground.guard }], guard := some (45, false) }
def q950 : Oper := { dst := some 65, op := Op.fieldAddr 99 (Operand.tmp 4) 3, type := 0, pos := "l09_frame.go:18", after := #[{ on := 49, ground := Ground.guard }], guard := some (49, true) }
def q951 : Oper := { dst := some 66, op := Op.load 4 (Operand.tmp 65), type := 4, pos := "l09_frame.go:18", after := #[{ on := 50, ground := Ground.data }, { on := 49, ground := Ground.guard }], guard := some (49, true) }
def q952 : Oper := { dst := some 67, op := Op.pick (Operand.tmp 64) (Operand.tmp 66) (Operand.const (Value.bool false)), type := 4, pos := "l09_frame.go:18", after := #[{ on := 49, ground := Ground.data }, { on := 51, ground := Ground.data }, { on := 45, ground := Ground.guard }], guard := some (45, false) }
def q953 : Oper := { dst := some 68, op := Op.pick (Operand.tmp 60) (Operand.const (Value.bool true)) (Operand.tmp 67), type := 4, pos := "l09_frame.go:18", after := #[{ on := 45, ground := Ground.data }, { on := 52, ground := Ground.data }], guard := none }
open List (setIfInBounds_toArray set_cons_zero set_cons_succ)
set_option maxRecDepth 10000 in
set_option maxHeartbeats 16000000 in
theorem specFrames_any (v : Value) (L : List Fr) (B : Nat) (w : World) (hs : SliceF w B v L) (hn : L.length ≤ 1048576) :
    Calls Tryz.prog 27 #[v] w fun e w' => e = .returned (.bool (framesB L)) ∧ Below w.heap.size w w' := by
  have HNo : Hid (∀ i, i < L.length → okF L i = false → framesB L = false) := fun i h hi => framesB_at i h hi
  have HAll : Hid ((∀ i, i < L.length → okF L i = true) → framesB L = decide ((L.length : Int) ≤ 10)) := fun h => by
    rw [framesB_all h, decide_eq_decide]; omega
  have HGe : Hid (∀ k, k ≤ L.length → (∀ i, i < k → okF L i = true) → 0 ≤ lastF (L.take k)) := fun k hk h => lastF_ge hk h
  have hs0 := hs
  obtain ⟨⟨p, cap, rfl, hg⟩, -⟩ := hs
  have HG : Hid (0 < L.length → ∃ g, p = some ⟨g, 0, none⟩ ∧ g < w.heap.size ∧ ∀ j, j < L.length → ∀ o, o < 9 → w.cell? ⟨g, j * 9 + o, none⟩ = some (frC (atF L j) o)) := fun h0 => by
    obtain ⟨g, e, -, hgw, hc⟩ := hg h0
    exact ⟨g, e, hgw, fun j hj o ho => (hc j hj o ho).1⟩
  have hcap : L.length ≤ cap := by
    obtain ⟨-, q, c, e, h1, -⟩ := hs0
    injection e with _ _ e; subst e; exact h1
  have HKA : Hid (∀ k, k < L.length → p ≠ none → ∀ pa, ∀ W, Below w.heap.size w W → Calls Tryz.prog 65 #[.slice p k cap, .int .i64 pa] W fun r w' => r = .returned (.int .i64 (whF (L.take k) pa)) ∧ w' = W) := fun k hk hp pa W hb => specAt_any _ (L.take k) B pa W ((hs0.cut (Nat.le_of_lt hk) (by omega) (fun h => absurd h hp)).below hb) (by rw [List.length_take]; omega)
  clear hg hs0
  generalize framesB L = R at *
  go_enter Tryz.func27, Tryz.ntmps27
  go_wp2
  go_loopw [3] (fun i wr => ∃ k : Nat, k ≤ L.length ∧ i = .int .i64 k ∧ Hid (Below w.heap.size w wr) ∧ Hid (∀ j, j < k → okF L j = true)) (fun i _ => L.length - (intOf i).toNat)
  case atStart => exact ⟨0, Nat.zero_le _, rfl, Below.refl _ _, fun j hj => absurd hj (by omega)⟩
  case round =>
    obtain ⟨k, hk, rfl, HB, HR⟩ := hrel
    by_cases hlt : k < L.length
    · obtain ⟨g, rfl, hgw, hc⟩ := HG.out (by omega)
      have HC : Hid (∀ j, j < L.length → ∀ o, o < 9 → wr.cell? ⟨g, j * 9 + o, none⟩ = some (frC (atF L j) o)) := fun j hj o ho => by rw [(bcell HB.out).1 _ _ hgw]; exact hc j hj o ho
      have hgr : g < wr.heap.size := Nat.lt_of_lt_of_le hgw HB.out.size
      have k0 : (0 : Int) ≤ k := by omega
      have k1 : (k : Int) < L.length := by omega
      have kc : (k : Int) ≤ cap := by omega
      have HBk : Hid (okF L k = false → R = false) := HNo.out k hlt
      have HSt : Hid (okF L k = true → ∀ j, j < k + 1 → okF L j = true) := fun h => okF_succ HR.out h
      have h0la : 0 ≤ lastF (L.take k) := HGe.out k hk HR.out
      have e0 : wr.cell? ⟨g, k * 9, none⟩ = some (.int .i64 (atF L k).id) := HC.out k hlt 0 (by omega)
      have e1 : wr.cell? ⟨g, k * 9 + 1, none⟩ = some (.int .i64 (atF L k).pa) := HC.out k hlt 1 (by omega)
      have e2 : wr.cell? ⟨g, k * 9 + 2, none⟩ = some (.string (atF L k).sc) := HC.out k hlt 2 (by omega)
      have e3 : wr.cell? ⟨g, k * 9 + 3, none⟩ = some (.string (atF L k).ho) := HC.out k hlt 3 (by omega)
      have e4 : wr.cell? ⟨g, k * 9 + 4, none⟩ = some (.int .i64 (atF L k).po) := HC.out k hlt 4 (by omega)
      have e5 : wr.cell? ⟨g, k * 9 + 5, none⟩ = some (.string (atF L k).pt) := HC.out k hlt 5 (by omega)
      have e6 : wr.cell? ⟨g, k * 9 + 6, none⟩ = some (.bool (atF L k).sb) := HC.out k hlt 6 (by omega)
      have e7 : wr.cell? ⟨g, k * 9 + 7, none⟩ = some (.bool (atF L k).fl) := HC.out k hlt 7 (by omega)
      have e8 : wr.cell? ⟨g, k * 9 + 8, none⟩ = some (.int .i64 (atF L k).tc) := HC.out k hlt 8 (by omega)
      have HO : Hid (okF L k = okB9 (atF L k).id (lastF (L.take k)) (atF L k).pa (whF (L.take k) (atF L k).pa) (uF (atF L k)) (tmF (atF L k).tc) (atF L k).sb) := okF_b L k
      have KI : Hid (∀ W, Calls Tryz.prog 51 #[.int .i64 (atF L k).id, .int .i64 1, .int .i64 1000000] W fun e w' => e = .returned (.bool (isB9 (atF L k).id)) ∧ w' = W) := fun W => specIs_any _ 1 1000000 W
      have KU : Hid (∀ W, Calls Tryz.prog 76 #[.agg #[.string (atF L k).sc, .string (atF L k).ho, .int .i64 (atF L k).po, .string (atF L k).pt]] W fun e w' => e = .returned (.bool (uF (atF L k))) ∧ Below W.heap.size W w') := fun W => specUrlRight_any _ _ _ _ W
      have KT : Hid (∀ W, Calls Tryz.prog 31 #[.int .i64 (atF L k).tc] W fun e w' => e = .returned (.bool (tmF (atF L k).tc)) ∧ w' = W) := fun W => specTime9_any _ W
      have KA0 : Hid (∀ W, Below w.heap.size w W → Calls Tryz.prog 65 #[.slice (some ⟨g, 0, none⟩) k cap, .int .i64 (atF L k).pa] W fun r w' => r = .returned (.int .i64 (whF (L.take k) (atF L k).pa)) ∧ w' = W) := HKA.out k hlt (by simp) _
      clear hc HG HNo HKA HR HGe
      cases k with
      | zero =>
        clear HC
        have hw0 : whF (L.take 0) (atF L 0).pa < 0 := by simp [whF, fstF]
        rw [Nat.zero_mul] at e0
        rw [Nat.zero_mul, Nat.zero_add] at e1 e2 e3 e4 e5 e6 e7 e8
        have q1 : decide ((0 : Int) < (0 : Int)) = false := rfl
        generalize uF (atF L 0) = bu at *
        generalize tmF (atF L 0).tc = bt at *
        generalize whF (L.take 0) (atF L 0).pa = wh at *
        generalize hbi : isB9 (atF L 0).id = bi at *
        rw [lastF_zero] at HO h0la
        generalize okF L 0 = ok at *
        generalize atF L 0 = y at *
        obtain ⟨yid, ypa, ysc, yho, ypo, ypt, ysb, yfl, ytc⟩ := y
        dsimp only at *
        obtain ⟨W0, hW⟩ : ∃ W0, W0 = wr.alloc (.cells #[.int .i64 yid, .int .i64 ypa, .string ysc, .string yho, .int .i64 ypo, .string ypt, .bool ysb, .bool yfl, .int .i64 ytc] 99) := ⟨_, rfl⟩
        have hW0 : Hid (W0 = wr.alloc (.cells #[.int .i64 yid, .int .i64 ypa, .string ysc, .string yho, .int .i64 ypo, .string ypt, .bool ysb, .bool yfl, .int .i64 ytc] 99)) := hW
        have HBW : Hid (Below w.heap.size w W0) := by show Below _ _ _; rw [hW]; exact HB.out.alloc HB.out.size _
        have HBr : Below wr.heap.size wr W0 := by rw [hW]; exact (Below.refl _ _).alloc (Nat.le_refl _) _
        have c0 : W0.cell? ⟨wr.heap.size, 0, none⟩ = some (.int .i64 yid) := by rw [hW]; simp
        have c1 : W0.cell? ⟨wr.heap.size, 1, none⟩ = some (.int .i64 ypa) := by rw [hW]; simp
        have c2 : W0.cell? ⟨wr.heap.size, 2, none⟩ = some (.string ysc) := by rw [hW]; simp
        have c3 : W0.cell? ⟨wr.heap.size, 3, none⟩ = some (.string yho) := by rw [hW]; simp
        have c4 : W0.cell? ⟨wr.heap.size, 4, none⟩ = some (.int .i64 ypo) := by rw [hW]; simp
        have c5 : W0.cell? ⟨wr.heap.size, 5, none⟩ = some (.string ypt) := by rw [hW]; simp
        have c6 : W0.cell? ⟨wr.heap.size, 6, none⟩ = some (.bool ysb) := by rw [hW]; simp
        have c7 : W0.cell? ⟨wr.heap.size, 7, none⟩ = some (.bool yfl) := by rw [hW]; simp
        have c8 : W0.cell? ⟨wr.heap.size, 8, none⟩ = some (.int .i64 ytc) := by rw [hW]; simp
        have hbW : wr.heap.size < W0.heap.size := by rw [hW]; simp
        have hgW : g < W0.heap.size := Nat.lt_trans hgr hbW
        have KA : Hid (∀ W, Below W0.heap.size W0 W → Calls Tryz.prog 65 #[.slice (some ⟨g, 0, none⟩) 0 cap, .int .i64 ypa] W fun r w' => r = .returned (.int .i64 wh) ∧ w' = W) := fun W hb => KA0.out W (HBW.out.trans (hb.mono HBW.out.size))
        clear hW KA0 HBr
        cases bi with
        | false =>
          have HQ : Hid (R = false) := HBk.out (by rw [HO.out]; exact okB9_is (by omega) hbi)
          go_upto_region 5 with fail
          rw [← hW0.out]
          clear hW0
          generalize hbb : wr.heap.size = b at *
          clear hbb HB e0 e1 e2 e3 e4 e5 e6 e7 e8
          go_wp2_with fail
          refine wp_region_held_drew (S := (fun w' => w'.cell? ⟨b, 0, none⟩ = some (.int .i64 yid) ∧ w'.cell? ⟨b, 1, none⟩ = some (.int .i64 ypa) ∧ w'.cell? ⟨b, 2, none⟩ = some (.string ysc) ∧ w'.cell? ⟨b, 3, none⟩ = some (.string yho) ∧ w'.cell? ⟨b, 4, none⟩ = some (.int .i64 ypo) ∧ w'.cell? ⟨b, 5, none⟩ = some (.string ypt) ∧ w'.cell? ⟨b, 6, none⟩ = some (.bool ysb) ∧ w'.cell? ⟨b, 7, none⟩ = some (.bool yfl) ∧ w'.cell? ⟨b, 8, none⟩ = some (.int .i64 ytc))) (by kernel_rfl) ?_ (fun hH0 => ?_)
          · (try dsimp only)
            go_keep
          refine takeY (i := 0) (oi := q90) (v := ?va00) rfl ?ha00 ?ra00
          case ha00 => (intro w hSw; (try dsimp only [q90] at hSw ⊢); go_simp; try with_reducible rfl)
          try simp only [q90, Act.put, setIfInBounds_toArray, set_cons_zero, set_cons_succ]
          refine takeY (i := 1) (oi := q91) (v := ?va01) rfl ?ha01 ?ra01
          case ha01 => (intro w hSw; (try dsimp only [q91] at hSw ⊢); go_simp; try with_reducible rfl)
          try simp only [q91, Act.put, setIfInBounds_toArray, set_cons_zero, set_cons_succ]
          refine wpAnyH_ready (rs := [2]) (by kernel_rfl) (by simp) ?_
          refine AllReadyH.cons (o := q92) rfl (fun K hK => ?_) AllReadyH.nil
          dsimp only [q92] at hK ⊢
          go_simp
          (go_at_call 51; refine (KI.out _).mono ?_; rintro e w2 ⟨rfl, rfl⟩)
          try (go_wp2_with fail)
          refine hK.out _ _ ?_ (fun hH1 => ?_)
          · (try dsimp only)
            go_keep
          clear hK K hH0
          try simp only [q92, Act.put, setIfInBounds_toArray, set_cons_zero, set_cons_succ]
          refine takeY (i := 3) (oi := q93) (v := ?va03) rfl ?ha03 ?ra03
          case ha03 => (intro w hSw; (try dsimp only [q93] at hSw ⊢); go_simp; try with_reducible rfl)
          try simp only [q93, Act.put, setIfInBounds_toArray, set_cons_zero, set_cons_succ]
          refine takeY (i := 4) (oi := q94) (v := ?va04) rfl ?ha04 ?ra04
          case ha04 => (intro w hSw; (try dsimp only [q94] at hSw ⊢); go_simp; try with_reducible rfl)
          try simp only [q94, Act.put, setIfInBounds_toArray, set_cons_zero, set_cons_succ]
          refine takeN (i := 5) (oi := q95) rfl ?_
          try simp only [q95, Act.put, setIfInBounds_toArray, set_cons_zero, set_cons_succ]
          refine takeN (i := 6) (oi := q96) rfl ?_
          try simp only [q96, Act.put, setIfInBounds_toArray, set_cons_zero, set_cons_succ]
          refine takeN (i := 7) (oi := q97) rfl ?_
          try simp only [q97, Act.put, setIfInBounds_toArray, set_cons_zero, set_cons_succ]
          refine takeN (i := 8) (oi := q98) rfl ?_
          try simp only [q98, Act.put, setIfInBounds_toArray, set_cons_zero, set_cons_succ]
          refine takeN (i := 9) (oi := q99) rfl ?_
          try simp only [q99, Act.put, setIfInBounds_toArray, set_cons_zero, set_cons_succ]
          refine takeN (i := 10) (oi := q910) rfl ?_
          try simp only [q910, Act.put, setIfInBounds_toArray, set_cons_zero, set_cons_succ]
          refine takeN (i := 11) (oi := q911) rfl ?_
          try simp only [q911, Act.put, setIfInBounds_toArray, set_cons_zero, set_cons_succ]
          refine takeN (i := 12) (oi := q912) rfl ?_
          try simp only [q912, Act.put, setIfInBounds_toArray, set_cons_zero, set_cons_succ]
          refine takeN (i := 13) (oi := q913) rfl ?_
          try simp only [q913, Act.put, setIfInBounds_toArray, set_cons_zero, set_cons_succ]
          refine takeN (i := 14) (oi := q914) rfl ?_
          try simp only [q914, Act.put, setIfInBounds_toArray, set_cons_zero, set_cons_succ]
          refine takeN (i := 15) (oi := q915) rfl ?_
          try simp only [q915, Act.put, setIfInBounds_toArray, set_cons_zero, set_cons_succ]
          refine takeN (i := 16) (oi := q916) rfl ?_
          try simp only [q916, Act.put, setIfInBounds_toArray, set_cons_zero, set_cons_succ]
          refine takeN (i := 17) (oi := q917) rfl ?_
          try simp only [q917, Act.put, setIfInBounds_toArray, set_cons_zero, set_cons_succ]
          refine takeY (i := 18) (oi := q918) (v := ?va018) rfl ?ha018 ?ra018
          case ha018 => (intro w hSw; (try dsimp only [q918] at hSw ⊢); go_simp; try with_reducible rfl)
          try simp only [q918, Act.put, setIfInBounds_toArray, set_cons_zero, set_cons_succ]
          refine takeY (i := 19) (oi := q919) (v := ?va019) rfl ?ha019 ?ra019
          case ha019 => (intro w hSw; (try dsimp only [q919] at hSw ⊢); go_simp; try with_reducible rfl)
          try simp only [q919, Act.put, setIfInBounds_toArray, set_cons_zero, set_cons_succ]
          refine takeN (i := 20) (oi := q920) rfl ?_
          try simp only [q920, Act.put, setIfInBounds_toArray, set_cons_zero, set_cons_succ]
          refine takeN (i := 21) (oi := q921) rfl ?_
          try simp only [q921, Act.put, setIfInBounds_toArray, set_cons_zero, set_cons_succ]
          refine takeN (i := 22) (oi := q922) rfl ?_
          try simp only [q922, Act.put, setIfInBounds_toArray, set_cons_zero, set_cons_succ]
          refine takeN (i := 23) (oi := q923) rfl ?_
          try simp only [q923, Act.put, setIfInBounds_toArray, set_cons_zero, set_cons_succ]
          refine takeN (i := 24) (oi := q924) rfl ?_
          try simp only [q924, Act.put, setIfInBounds_toArray, set_cons_zero, set_cons_succ]
          refine takeN (i := 25) (oi := q925) rfl ?_
          try simp only [q925, Act.put, setIfInBounds_toArray, set_cons_zero, set_cons_succ]
          refine takeN (i := 26) (oi := q926) rfl ?_
          try simp only [q926, Act.put, setIfInBounds_toArray, set_cons_zero, set_cons_succ]
          refine takeN (i := 27) (oi := q927) rfl ?_
          try simp only [q927, Act.put, setIfInBounds_toArray, set_cons_zero, set_cons_succ]
          refine takeN (i := 28) (oi := q928) rfl ?_
          try simp only [q928, Act.put, setIfInBounds_toArray, set_cons_zero, set_cons_succ]
          refine takeN (i := 29) (oi := q929) rfl ?_
          try simp only [q929, Act.put, setIfInBounds_toArray, set_cons_zero, set_cons_succ]
          refine takeN (i := 30) (oi := q930) rfl ?_
          try simp only [q930, Act.put, setIfInBounds_toArray, set_cons_zero, set_cons_succ]
          refine takeN (i := 31) (oi := q931) rfl ?_
          try simp only [q931, Act.put, setIfInBounds_toArray, set_cons_zero, set_cons_succ]
          refine takeY (i := 32) (oi := q932) (v := ?va032) rfl ?ha032 ?ra032
          case ha032 => (intro w hSw; (try dsimp only [q932] at hSw ⊢); go_simp; try with_reducible rfl)
          try simp only [q932, Act.put, setIfInBounds_toArray, set_cons_zero, set_cons_succ]
          refine takeY (i := 33) (oi := q933) (v := ?va033) rfl ?ha033 ?ra033
          case ha033 => (intro w hSw; (try dsimp only [q933] at hSw ⊢); go_simp; try with_reducible rfl)
          try simp only [q933, Act.put, setIfInBounds_toArray, set_cons_zero, set_cons_succ]
          refine takeN (i := 34) (oi := q934) rfl ?_
          try simp only [q934, Act.put, setIfInBounds_toArray, set_cons_zero, set_cons_succ]
          refine takeN (i := 35) (oi := q935) rfl ?_
          try simp only [q935, Act.put, setIfInBounds_toArray, set_cons_zero, set_cons_succ]
          refine takeN (i := 36) (oi := q936) rfl ?_
          try simp only [q936, Act.put, setIfInBounds_toArray, set_cons_zero, set_cons_succ]
          refine takeN (i := 37) (oi := q937) rfl ?_
          try simp only [q937, Act.put, setIfInBounds_toArray, set_cons_zero, set_cons_succ]
          refine takeY (i := 38) (oi := q938) (v := ?va038) rfl ?ha038 ?ra038
          case ha038 => (intro w hSw; (try dsimp only [q938] at hSw ⊢); go_simp; try with_reducible rfl)
          try simp only [q938, Act.put, setIfInBounds_toArray, set_cons_zero, set_cons_succ]
          refine takeY (i := 39) (oi := q939) (v := ?va039) rfl ?ha039 ?ra039
          case ha039 => (intro w hSw; (try dsimp only [q939] at hSw ⊢); go_simp; try with_reducible rfl)
          try simp only [q939, Act.put, setIfInBounds_toArray, set_cons_zero, set_cons_succ]
          refine takeN (i := 40) (oi := q940) rfl ?_
          try simp only [q940, Act.put, setIfInBounds_toArray, set_cons_zero, set_cons_succ]
          refine takeN (i := 41) (oi := q941) rfl ?_
          try simp only [q941, Act.put, setIfInBounds_toArray, set_cons_zero, set_cons_succ]
          refine takeN (i := 42) (oi := q942) rfl ?_
          try simp only [q942, Act.put, setIfInBounds_toArray, set_cons_zero, set_cons_succ]
          refine takeN (i := 43) (oi := q943) rfl ?_
          try simp only [q943, Act.put, setIfInBounds_toArray, set_cons_zero, set_cons_succ]
          refine takeY (i := 44) (oi := q944) (v := ?va044) rfl ?ha044 ?ra044
          case ha044 => (intro w hSw; (try dsimp only [q944] at hSw ⊢); go_simp; try with_reducible rfl)
          try simp only [q944, Act.put, setIfInBounds_toArray, set_cons_zero, set_cons_succ]
          refine takeY (i := 45) (oi := q945) (v := ?va045) rfl ?ha045 ?ra045
          case ha045 => (intro w hSw; (try dsimp only [q945] at hSw ⊢); go_simp; try with_reducible rfl)
          try simp only [q945, Act.put, setIfInBounds_toArray, set_cons_zero, set_cons_succ]
          refine takeN (i := 46) (oi := q946) rfl ?_
          try simp only [q946, Act.put, setIfInBounds_toArray, set_cons_zero, set_cons_succ]
          refine takeN (i := 47) (oi := q947) rfl ?_
          try simp only [q947, Act.put, setIfInBounds_toArray, set_cons_zero, set_cons_succ]
          refine takeN (i := 48) (oi := q948) rfl ?_
          try simp only [q948, Act.put, setIfInBounds_toArray, set_cons_zero, set_cons_succ]
          refine takeN (i := 49) (oi := q949) rfl ?_
          try simp only [q949, Act.put, setIfInBounds_toArray, set_cons_zero, set_cons_succ]
          refine takeN (i := 50) (oi := q950) rfl ?_
          try simp only [q950, Act.put, setIfInBounds_toArray, set_cons_zero, set_cons_succ]
          refine takeN (i := 51) (oi := q951) rfl ?_
          try simp only [q951, Act.put, setIfInBounds_toArray, set_cons_zero, set_cons_succ]
          refine takeN (i := 52) (oi := q952) rfl ?_
          try simp only [q952, Act.put, setIfInBounds_toArray, set_cons_zero, set_cons_succ]
          refine takeY (i := 53) (oi := q953) (v := ?va053) rfl ?ha053 ?ra053
          case ha053 => (intro w hSw; (try dsimp only [q953] at hSw ⊢); go_simp; try with_reducible rfl)
          try simp only [q953, Act.put, setIfInBounds_toArray, set_cons_zero, set_cons_succ]
          refine wpAnyH_done (by kernel_rfl) ?_ _
          go_wp2
          go_ret
          exact ⟨ret_bool HQ.out.symm, HBW.out.trans (Below.drew (Below.refl _ _))⟩
        | true =>
        by_cases hla : 0 < yid
        · skip
          cases hp : (ypa == 0) with
          | false =>
            have qn : (ypa != 0) = true := by unfold bne; rw [hp]; rfl
            have qw : decide (wh < 0) = true := decide_eq_true hw0
            have HQ : Hid (R = false) := HBk.out (by rw [HO.out]; exact okB9_hold hp hw0)
            go_upto_region 5 with fail
            rw [← hW0.out]
            clear hW0
            generalize hbb : wr.heap.size = b at *
            clear hbb HB e0 e1 e2 e3 e4 e5 e6 e7 e8
            go_wp2_with fail
            refine wp_region_held_drew (S := (fun w' => w'.cell? ⟨b, 0, none⟩ = some (.int .i64 yid) ∧ w'.cell? ⟨b, 1, none⟩ = some (.int .i64 ypa) ∧ w'.cell? ⟨b, 2, none⟩ = some (.string ysc) ∧ w'.cell? ⟨b, 3, none⟩ = some (.string yho) ∧ w'.cell? ⟨b, 4, none⟩ = some (.int .i64 ypo) ∧ w'.cell? ⟨b, 5, none⟩ = some (.string ypt) ∧ w'.cell? ⟨b, 6, none⟩ = some (.bool ysb) ∧ w'.cell? ⟨b, 7, none⟩ = some (.bool yfl) ∧ w'.cell? ⟨b, 8, none⟩ = some (.int .i64 ytc))) (by kernel_rfl) ?_ (fun hH0 => ?_)
            · (try dsimp only)
              go_keep
            refine takeY (i := 0) (oi := q90) (v := ?vb00) rfl ?hb00 ?rb00
            case hb00 => (intro w hSw; (try dsimp only [q90] at hSw ⊢); go_simp; try with_reducible rfl)
            try simp only [q90, Act.put, setIfInBounds_toArray, set_cons_zero, set_cons_succ]
            refine takeY (i := 1) (oi := q91) (v := ?vb01) rfl ?hb01 ?rb01
            case hb01 => (intro w hSw; (try dsimp only [q91] at hSw ⊢); go_simp; try with_reducible rfl)
            try simp only [q91, Act.put, setIfInBounds_toArray, set_cons_zero, set_cons_succ]
            refine wpAnyH_ready (rs := [2]) (by kernel_rfl) (by simp) ?_
            refine AllReadyH.cons (o := q92) rfl (fun K hK => ?_) AllReadyH.nil
            dsimp only [q92] at hK ⊢
            go_simp
            (go_at_call 51; refine (KI.out _).mono ?_; rintro e w2 ⟨rfl, rfl⟩)
            try (go_wp2_with fail)
            refine hK.out _ _ ?_ (fun hH1 => ?_)
            · (try dsimp only)
              go_keep
            clear hK K hH0
            try simp only [q92, Act.put, setIfInBounds_toArray, set_cons_zero, set_cons_succ]
            refine takeY (i := 3) (oi := q93) (v := ?vb03) rfl ?hb03 ?rb03
            case hb03 => (intro w hSw; (try dsimp only [q93] at hSw ⊢); go_simp; try with_reducible rfl)
            try simp only [q93, Act.put, setIfInBounds_toArray, set_cons_zero, set_cons_succ]
            refine takeY (i := 4) (oi := q94) (v := ?vb04) rfl ?hb04 ?rb04
            case hb04 => (intro w hSw; (try dsimp only [q94] at hSw ⊢); go_simp; try with_reducible rfl)
            try simp only [q94, Act.put, setIfInBounds_toArray, set_cons_zero, set_cons_succ]
            refine takeY (i := 5) (oi := q95) (v := ?vb05) rfl ?hb05 ?rb05
            case hb05 => (intro w hSw; (try dsimp only [q95] at hSw ⊢); go_simp; try with_reducible rfl)
            try simp only [q95, Act.put, setIfInBounds_toArray, set_cons_zero, set_cons_succ]
            refine takeY (i := 6) (oi := q96) (v := ?vb06) rfl ?hb06 ?rb06
            case hb06 => (intro w hSw; (try dsimp only [q96] at hSw ⊢); go_simp; try with_reducible rfl)
            try simp only [q96, Act.put, setIfInBounds_toArray, set_cons_zero, set_cons_succ]
            refine takeY (i := 7) (oi := q97) (v := ?vb07) rfl ?hb07 ?rb07
            case hb07 => (intro w hSw; (try dsimp only [q97] at hSw ⊢); go_simp; try with_reducible rfl)
            try simp only [q97, Act.put, setIfInBounds_toArray, set_cons_zero, set_cons_succ]
            refine takeN (i := 8) (oi := q98) rfl ?_
            try simp only [q98, Act.put, setIfInBounds_toArray, set_cons_zero, set_cons_succ]
            refine takeN (i := 9) (oi := q99) rfl ?_
            try simp only [q99, Act.put, setIfInBounds_toArray, set_cons_zero, set_cons_succ]
            refine takeN (i := 10) (oi := q910) rfl ?_
            try simp only [q910, Act.put, setIfInBounds_toArray, set_cons_zero, set_cons_succ]
            refine takeN (i := 11) (oi := q911) rfl ?_
            try simp only [q911, Act.put, setIfInBounds_toArray, set_cons_zero, set_cons_succ]
            refine takeN (i := 12) (oi := q912) rfl ?_
            try simp only [q912, Act.put, setIfInBounds_toArray, set_cons_zero, set_cons_succ]
            refine takeN (i := 13) (oi := q913) rfl ?_
            try simp only [q913, Act.put, setIfInBounds_toArray, set_cons_zero, set_cons_succ]
            refine takeN (i := 14) (oi := q914) rfl ?_
            try simp only [q914, Act.put, setIfInBounds_toArray, set_cons_zero, set_cons_succ]
            refine takeN (i := 15) (oi := q915) rfl ?_
            try simp only [q915, Act.put, setIfInBounds_toArray, set_cons_zero, set_cons_succ]
            refine takeN (i := 16) (oi := q916) rfl ?_
            try simp only [q916, Act.put, setIfInBounds_toArray, set_cons_zero, set_cons_succ]
            refine takeY (i := 17) (oi := q917) (v := ?vb017) rfl ?hb017 ?rb017
            case hb017 => (intro w hSw; (try dsimp only [q917] at hSw ⊢); go_simp; try with_reducible rfl)
            try simp only [q917, Act.put, setIfInBounds_toArray, set_cons_zero, set_cons_succ]
            refine takeY (i := 18) (oi := q918) (v := ?vb018) rfl ?hb018 ?rb018
            case hb018 => (intro w hSw; (try dsimp only [q918] at hSw ⊢); go_simp; try with_reducible rfl)
            try simp only [q918, Act.put, setIfInBounds_toArray, set_cons_zero, set_cons_succ]
            refine takeY (i := 19) (oi := q919) (v := ?vb019) rfl ?hb019 ?rb019
            case hb019 => (intro w hSw; (try dsimp only [q919] at hSw ⊢); go_simp; try with_reducible rfl)
            try simp only [q919, Act.put, setIfInBounds_toArray, set_cons_zero, set_cons_succ]
            refine takeY (i := 20) (oi := q920) (v := ?vb020) rfl ?hb020 ?rb020
            case hb020 => (intro w hSw; (try dsimp only [q920] at hSw ⊢); go_simp; try with_reducible rfl)
            try simp only [q920, Act.put, setIfInBounds_toArray, set_cons_zero, set_cons_succ]
            refine takeY (i := 21) (oi := q921) (v := ?vb021) rfl ?hb021 ?rb021
            case hb021 => (intro w hSw; (try dsimp only [q921] at hSw ⊢); go_simp; try with_reducible rfl)
            try simp only [q921, Act.put, setIfInBounds_toArray, set_cons_zero, set_cons_succ]
            refine takeY (i := 22) (oi := q922) (v := ?vb022) rfl ?hb022 ?rb022
            case hb022 => (intro w hSw; (try dsimp only [q922] at hSw ⊢); go_simp; try with_reducible rfl)
            try simp only [q922, Act.put, setIfInBounds_toArray, set_cons_zero, set_cons_succ]
            refine takeY (i := 23) (oi := q923) (v := ?vb023) rfl ?hb023 ?rb023
            case hb023 => (intro w hSw; (try dsimp only [q923] at hSw ⊢); go_simp; try with_reducible rfl)
            try simp only [q923, Act.put, setIfInBounds_toArray, set_cons_zero, set_cons_succ]
            refine takeY (i := 24) (oi := q924) (v := ?vb024) rfl ?hb024 ?rb024
            case hb024 => (intro w hSw; (try dsimp only [q924] at hSw ⊢); go_simp; try with_reducible rfl)
            try simp only [q924, Act.put, setIfInBounds_toArray, set_cons_zero, set_cons_succ]
            refine takeY (i := 25) (oi := q925) (v := ?vb025) rfl ?hb025 ?rb025
            case hb025 => (intro w hSw; (try dsimp only [q925] at hSw ⊢); go_simp; try with_reducible rfl)
            try simp only [q925, Act.put, setIfInBounds_toArray, set_cons_zero, set_cons_succ]
            refine takeY (i := 26) (oi := q926) (v := ?vb026) rfl ?hb026 ?rb026
            case hb026 => (intro w hSw; (try dsimp only [q926] at hSw ⊢); go_simp; try with_reducible rfl)
            try simp only [q926, Act.put, setIfInBounds_toArray, set_cons_zero, set_cons_succ]
            refine takeY (i := 27) (oi := q927) (v := ?vb027) rfl ?hb027 ?rb027
            case hb027 => (intro w hSw; (try dsimp only [q927] at hSw ⊢); go_simp; try with_reducible rfl)
            try simp only [q927, Act.put, setIfInBounds_toArray, set_cons_zero, set_cons_succ]
            refine takeY (i := 28) (oi := q928) (v := ?vb028) rfl ?hb028 ?rb028
            case hb028 => (intro w hSw; (try dsimp only [q928] at hSw ⊢); go_simp; try with_reducible rfl)
            try simp only [q928, Act.put, setIfInBounds_toArray, set_cons_zero, set_cons_succ]
            refine wpAnyH_ready (rs := [29]) (by kernel_rfl) (by simp) ?_
            refine AllReadyH.cons (o := q929) rfl (fun K hK => ?_) AllReadyH.nil
            dsimp only [q929] at hK ⊢
            go_simp
            (go_at_call 65; refine (KA.out _ (Below.drew (Below.refl _ _))).mono ?_; rintro e w3 ⟨rfl, rfl⟩)
            try (go_wp2_with fail)
            refine hK.out _ _ ?_ (fun hH2 => ?_)
            · (try dsimp only)
              go_keep
            clear hK K hH1
            try simp only [q929, Act.put, setIfInBounds_toArray, set_cons_zero, set_cons_succ]
            refine takeY (i := 30) (oi := q930) (v := ?vb030) rfl ?hb030 ?rb030
            case hb030 => (intro w hSw; (try dsimp only [q930] at hSw ⊢); go_simp; try with_reducible rfl)
            try simp only [q930, Act.put, setIfInBounds_toArray, set_cons_zero, set_cons_succ]
            refine takeY (i := 31) (oi := q931) (v := ?vb031) rfl ?hb031 ?rb031
            case hb031 => (intro w hSw; (try dsimp only [q931] at hSw ⊢); go_simp; try with_reducible rfl)
            try simp only [q931, Act.put, setIfInBounds_toArray, set_cons_zero, set_cons_succ]
            refine takeY (i := 32) (oi := q932) (v := ?vb032) rfl ?hb032 ?rb032
            case hb032 => (intro w hSw; (try dsimp only [q932] at hSw ⊢); go_simp; try with_reducible rfl)
            try simp only [q932, Act.put, setIfInBounds_toArray, set_cons_zero, set_cons_succ]
            refine takeY (i := 33) (oi := q933) (v := ?vb033) rfl ?hb033 ?rb033
            case hb033 => (intro w hSw; (try dsimp only [q933] at hSw ⊢); go_simp; try with_reducible rfl)
            try simp only [q933, Act.put, setIfInBounds_toArray, set_cons_zero, set_cons_succ]
            refine takeN (i := 34) (oi := q934) rfl ?_
            try simp only [q934, Act.put, setIfInBounds_toArray, set_cons_zero, set_cons_succ]
            refine takeN (i := 35) (oi := q935) rfl ?_
            try simp only [q935, Act.put, setIfInBounds_toArray, set_cons_zero, set_cons_succ]
            refine takeN (i := 36) (oi := q936) rfl ?_
            try simp only [q936, Act.put, setIfInBounds_toArray, set_cons_zero, set_cons_succ]
            refine takeN (i := 37) (oi := q937) rfl ?_
            try simp only [q937, Act.put, setIfInBounds_toArray, set_cons_zero, set_cons_succ]
            refine takeY (i := 38) (oi := q938) (v := ?vb038) rfl ?hb038 ?rb038
            case hb038 => (intro w hSw; (try dsimp only [q938] at hSw ⊢); go_simp; try with_reducible rfl)
            try simp only [q938, Act.put, setIfInBounds_toArray, set_cons_zero, set_cons_succ]
            refine takeY (i := 39) (oi := q939) (v := ?vb039) rfl ?hb039 ?rb039
            case hb039 => (intro w hSw; (try dsimp only [q939] at hSw ⊢); go_simp; try with_reducible rfl)
            try simp only [q939, Act.put, setIfInBounds_toArray, set_cons_zero, set_cons_succ]
            refine takeN (i := 40) (oi := q940) rfl ?_
            try simp only [q940, Act.put, setIfInBounds_toArray, set_cons_zero, set_cons_succ]
            refine takeN (i := 41) (oi := q941) rfl ?_
            try simp only [q941, Act.put, setIfInBounds_toArray, set_cons_zero, set_cons_succ]
            refine takeN (i := 42) (oi := q942) rfl ?_
            try simp only [q942, Act.put, setIfInBounds_toArray, set_cons_zero, set_cons_succ]
            refine takeN (i := 43) (oi := q943) rfl ?_
            try simp only [q943, Act.put, setIfInBounds_toArray, set_cons_zero, set_cons_succ]
            refine takeY (i := 44) (oi := q944) (v := ?vb044) rfl ?hb044 ?rb044
            case hb044 => (intro w hSw; (try dsimp only [q944] at hSw ⊢); go_simp; try with_reducible rfl)
            try simp only [q944, Act.put, setIfInBounds_toArray, set_cons_zero, set_cons_succ]
            refine takeY (i := 45) (oi := q945) (v := ?vb045) rfl ?hb045 ?rb045
            case hb045 => (intro w hSw; (try dsimp only [q945] at hSw ⊢); go_simp; try with_reducible rfl)
            try simp only [q945, Act.put, setIfInBounds_toArray, set_cons_zero, set_cons_succ]
            refine takeN (i := 46) (oi := q946) rfl ?_
            try simp only [q946, Act.put, setIfInBounds_toArray, set_cons_zero, set_cons_succ]
            refine takeN (i := 47) (oi := q947) rfl ?_
            try simp only [q947, Act.put, setIfInBounds_toArray, set_cons_zero, set_cons_succ]
            refine takeN (i := 48) (oi := q948) rfl ?_
            try simp only [q948, Act.put, setIfInBounds_toArray, set_cons_zero, set_cons_succ]
            refine takeN (i := 49) (oi := q949) rfl ?_
            try simp only [q949, Act.put, setIfInBounds_toArray, set_cons_zero, set_cons_succ]
            refine takeN (i := 50) (oi := q950) rfl ?_
            try simp only [q950, Act.put, setIfInBounds_toArray, set_cons_zero, set_cons_succ]
            refine takeN (i := 51) (oi := q951) rfl ?_
            try simp only [q951, Act.put, setIfInBounds_toArray, set_cons_zero, set_cons_succ]
            refine takeN (i := 52) (oi := q952) rfl ?_
            try simp only [q952, Act.put, setIfInBounds_toArray, set_cons_zero, set_cons_succ]
            refine takeY (i := 53) (oi := q953) (v := ?vb053) rfl ?hb053 ?rb053
            case hb053 => (intro w hSw; (try dsimp only [q953] at hSw ⊢); go_simp; try with_reducible rfl)
            try simp only [q953, Act.put, setIfInBounds_toArray, set_cons_zero, set_cons_succ]
            refine wpAnyH_done (by kernel_rfl) ?_ _
            go_wp2
            go_ret
            exact ⟨ret_bool HQ.out.symm, HBW.out.trans (Below.drew (Below.refl _ _))⟩
          | true =>
            have qn : (ypa != 0) = false := by unfold bne; rw [hp]; rfl
            cases bu with
            | false =>
              have HQ : Hid (R = false) := HBk.out (by rw [HO.out]; exact okB9_u)
              go_upto_region 5 with fail
              rw [← hW0.out]
              clear hW0
              generalize hbb : wr.heap.size = b at *
              clear hbb HB e0 e1 e2 e3 e4 e5 e6 e7 e8
              go_wp2_with fail
              refine wp_region_held_drew (S := (fun w' => w'.cell? ⟨b, 0, none⟩ = some (.int .i64 yid) ∧ w'.cell? ⟨b, 1, none⟩ = some (.int .i64 ypa) ∧ w'.cell? ⟨b, 2, none⟩ = some (.string ysc) ∧ w'.cell? ⟨b, 3, none⟩ = some (.string yho) ∧ w'.cell? ⟨b, 4, none⟩ = some (.int .i64 ypo) ∧ w'.cell? ⟨b, 5, none⟩ = some (.string ypt) ∧ w'.cell? ⟨b, 6, none⟩ = some (.bool ysb) ∧ w'.cell? ⟨b, 7, none⟩ = some (.bool yfl) ∧ w'.cell? ⟨b, 8, none⟩ = some (.int .i64 ytc))) (by kernel_rfl) ?_ (fun hH0 => ?_)
              · (try dsimp only)
                go_keep
              refine takeY (i := 0) (oi := q90) (v := ?vc00) rfl ?hc00 ?rc00
              case hc00 => (intro w hSw; (try dsimp only [q90] at hSw ⊢); go_simp; try with_reducible rfl)
              try simp only [q90, Act.put, setIfInBounds_toArray, set_cons_zero, set_cons_succ]
              refine takeY (i := 1) (oi := q91) (v := ?vc01) rfl ?hc01 ?rc01
              case hc01 => (intro w hSw; (try dsimp only [q91] at hSw ⊢); go_simp; try with_reducible rfl)
              try simp only [q91, Act.put, setIfInBounds_toArray, set_cons_zero, set_cons_succ]
              refine wpAnyH_ready (rs := [2]) (by kernel_rfl) (by simp) ?_
              refine AllReadyH.cons (o := q92) rfl (fun K hK => ?_) AllReadyH.nil
              dsimp only [q92] at hK ⊢
              go_simp
              (go_at_call 51; refine (KI.out _).mono ?_; rintro e w2 ⟨rfl, rfl⟩)
              try (go_wp2_with fail)
              refine hK.out _ _ ?_ (fun hH1 => ?_)
              · (try dsimp only)
                go_keep
              clear hK K hH0
              try simp only [q92, Act.put, setIfInBounds_toArray, set_cons_zero, set_cons_succ]
              refine takeY (i := 3) (oi := q93) (v := ?vc03) rfl ?hc03 ?rc03
              case hc03 => (intro w hSw; (try dsimp only [q93] at hSw ⊢); go_simp; try with_reducible rfl)
              try simp only [q93, Act.put, setIfInBounds_toArray, set_cons_zero, set_cons_succ]
              refine takeY (i := 4) (oi := q94) (v := ?vc04) rfl ?hc04 ?rc04
              case hc04 => (intro w hSw; (try dsimp only [q94] at hSw ⊢); go_simp; try with_reducible rfl)
              try simp only [q94, Act.put, setIfInBounds_toArray, set_cons_zero, set_cons_succ]
              refine takeY (i := 5) (oi := q95) (v := ?vc05) rfl ?hc05 ?rc05
              case hc05 => (intro w hSw; (try dsimp only [q95] at hSw ⊢); go_simp; try with_reducible rfl)
              try simp only [q95, Act.put, setIfInBounds_toArray, set_cons_zero, set_cons_succ]
              refine takeY (i := 6) (oi := q96) (v := ?vc06) rfl ?hc06 ?rc06
              case hc06 => (intro w hSw; (try dsimp only [q96] at hSw ⊢); go_simp; try with_reducible rfl)
              try simp only [q96, Act.put, setIfInBounds_toArray, set_cons_zero, set_cons_succ]
              refine takeY (i := 7) (oi := q97) (v := ?vc07) rfl ?hc07 ?rc07
              case hc07 => (intro w hSw; (try dsimp only [q97] at hSw ⊢); go_simp; try with_reducible rfl)
              try simp only [q97, Act.put, setIfInBounds_toArray, set_cons_zero, set_cons_succ]
              refine takeN (i := 8) (oi := q98) rfl ?_
              try simp only [q98, Act.put, setIfInBounds_toArray, set_cons_zero, set_cons_succ]
              refine takeN (i := 9) (oi := q99) rfl ?_
              try simp only [q99, Act.put, setIfInBounds_toArray, set_cons_zero, set_cons_succ]
              refine takeN (i := 10) (oi := q910) rfl ?_
              try simp only [q910, Act.put, setIfInBounds_toArray, set_cons_zero, set_cons_succ]
              refine takeN (i := 11) (oi := q911) rfl ?_
              try simp only [q911, Act.put, setIfInBounds_toArray, set_cons_zero, set_cons_succ]
              refine takeN (i := 12) (oi := q912) rfl ?_
              try simp only [q912, Act.put, setIfInBounds_toArray, set_cons_zero, set_cons_succ]
              refine takeN (i := 13) (oi := q913) rfl ?_
              try simp only [q913, Act.put, setIfInBounds_toArray, set_cons_zero, set_cons_succ]
              refine takeN (i := 14) (oi := q914) rfl ?_
              try simp only [q914, Act.put, setIfInBounds_toArray, set_cons_zero, set_cons_succ]
              refine takeN (i := 15) (oi := q915) rfl ?_
              try simp only [q915, Act.put, setIfInBounds_toArray, set_cons_zero, set_cons_succ]
              refine takeN (i := 16) (oi := q916) rfl ?_
              try simp only [q916, Act.put, setIfInBounds_toArray, set_cons_zero, set_cons_succ]
              refine takeY (i := 17) (oi := q917) (v := ?vc017) rfl ?hc017 ?rc017
              case hc017 => (intro w hSw; (try dsimp only [q917] at hSw ⊢); go_simp; try with_reducible rfl)
              try simp only [q917, Act.put, setIfInBounds_toArray, set_cons_zero, set_cons_succ]
              refine takeY (i := 18) (oi := q918) (v := ?vc018) rfl ?hc018 ?rc018
              case hc018 => (intro w hSw; (try dsimp only [q918] at hSw ⊢); go_simp; try with_reducible rfl)
              try simp only [q918, Act.put, setIfInBounds_toArray, set_cons_zero, set_cons_succ]
              refine takeY (i := 19) (oi := q919) (v := ?vc019) rfl ?hc019 ?rc019
              case hc019 => (intro w hSw; (try dsimp only [q919] at hSw ⊢); go_simp; try with_reducible rfl)
              try simp only [q919, Act.put, setIfInBounds_toArray, set_cons_zero, set_cons_succ]
              refine takeY (i := 20) (oi := q920) (v := ?vc020) rfl ?hc020 ?rc020
              case hc020 => (intro w hSw; (try dsimp only [q920] at hSw ⊢); go_simp; try with_reducible rfl)
              try simp only [q920, Act.put, setIfInBounds_toArray, set_cons_zero, set_cons_succ]
              refine takeY (i := 21) (oi := q921) (v := ?vc021) rfl ?hc021 ?rc021
              case hc021 => (intro w hSw; (try dsimp only [q921] at hSw ⊢); go_simp; try with_reducible rfl)
              try simp only [q921, Act.put, setIfInBounds_toArray, set_cons_zero, set_cons_succ]
              refine takeY (i := 22) (oi := q922) (v := ?vc022) rfl ?hc022 ?rc022
              case hc022 => (intro w hSw; (try dsimp only [q922] at hSw ⊢); go_simp; try with_reducible rfl)
              try simp only [q922, Act.put, setIfInBounds_toArray, set_cons_zero, set_cons_succ]
              refine takeY (i := 23) (oi := q923) (v := ?vc023) rfl ?hc023 ?rc023
              case hc023 => (intro w hSw; (try dsimp only [q923] at hSw ⊢); go_simp; try with_reducible rfl)
              try simp only [q923, Act.put, setIfInBounds_toArray, set_cons_zero, set_cons_succ]
              refine takeN (i := 24) (oi := q924) rfl ?_
              try simp only [q924, Act.put, setIfInBounds_toArray, set_cons_zero, set_cons_succ]
              refine takeN (i := 25) (oi := q925) rfl ?_
              try simp only [q925, Act.put, setIfInBounds_toArray, set_cons_zero, set_cons_succ]
              refine takeN (i := 26) (oi := q926) rfl ?_
              try simp only [q926, Act.put, setIfInBounds_toArray, set_cons_zero, set_cons_succ]
              refine takeN (i := 27) (oi := q927) rfl ?_
              try simp only [q927, Act.put, setIfInBounds_toArray, set_cons_zero, set_cons_succ]
              refine takeN (i := 28) (oi := q928) rfl ?_
              try simp only [q928, Act.put, setIfInBounds_toArray, set_cons_zero, set_cons_succ]
              refine takeN (i := 29) (oi := q929) rfl ?_
              try simp only [q929, Act.put, setIfInBounds_toArray, set_cons_zero, set_cons_succ]
              refine takeN (i := 30) (oi := q930) rfl ?_
              try simp only [q930, Act.put, setIfInBounds_toArray, set_cons_zero, set_cons_succ]
              refine takeY (i := 31) (oi := q931) (v := ?vc031) rfl ?hc031 ?rc031
              case hc031 => (intro w hSw; (try dsimp only [q931] at hSw ⊢); go_simp; try with_reducible rfl)
              try simp only [q931, Act.put, setIfInBounds_toArray, set_cons_zero, set_cons_succ]
              refine takeY (i := 32) (oi := q932) (v := ?vc032) rfl ?hc032 ?rc032
              case hc032 => (intro w hSw; (try dsimp only [q932] at hSw ⊢); go_simp; try with_reducible rfl)
              try simp only [q932, Act.put, setIfInBounds_toArray, set_cons_zero, set_cons_succ]
              refine takeY (i := 33) (oi := q933) (v := ?vc033) rfl ?hc033 ?rc033
              case hc033 => (intro w hSw; (try dsimp only [q933] at hSw ⊢); go_simp; try with_reducible rfl)
              try simp only [q933, Act.put, setIfInBounds_toArray, set_cons_zero, set_cons_succ]
              refine takeY (i := 34) (oi := q934) (v := ?vc034) rfl ?hc034 ?rc034
              case hc034 => (intro w hSw; (try dsimp only [q934] at hSw ⊢); go_simp; try with_reducible rfl)
              try simp only [q934, Act.put, setIfInBounds_toArray, set_cons_zero, set_cons_succ]
              refine takeY (i := 35) (oi := q935) (v := ?vc035) rfl ?hc035 ?rc035
              case hc035 => (intro w hSw; (try dsimp only [q935] at hSw ⊢); go_simp; try with_reducible rfl)
              try simp only [q935, Act.put, setIfInBounds_toArray, set_cons_zero, set_cons_succ]
              refine wpAnyH_ready (rs := [36]) (by kernel_rfl) (by simp) ?_
              refine AllReadyH.cons (o := q936) rfl (fun K hK => ?_) AllReadyH.nil
              dsimp only [q936] at hK ⊢
              go_simp
              (go_at_call 76; refine (KU.out _).mono ?_; rintro e w4 ⟨rfl, hb4⟩; have A4 : Below W0.heap.size W0 w4 := (Below.drew (Below.refl _ _)).trans hb4; have u0 : w4.cell? ⟨b, 0, none⟩ = some (.int .i64 yid) := ((bcell A4).1 _ _ hbW).trans c0; have u1 : w4.cell? ⟨b, 1, none⟩ = some (.int .i64 ypa) := ((bcell A4).1 _ _ hbW).trans c1; have u2 : w4.cell? ⟨b, 2, none⟩ = some (.string ysc) := ((bcell A4).1 _ _ hbW).trans c2; have u3 : w4.cell? ⟨b, 3, none⟩ = some (.string yho) := ((bcell A4).1 _ _ hbW).trans c3; have u4 : w4.cell? ⟨b, 4, none⟩ = some (.int .i64 ypo) := ((bcell A4).1 _ _ hbW).trans c4; have u5 : w4.cell? ⟨b, 5, none⟩ = some (.string ypt) := ((bcell A4).1 _ _ hbW).trans c5; have u6 : w4.cell? ⟨b, 6, none⟩ = some (.bool ysb) := ((bcell A4).1 _ _ hbW).trans c6; have u7 : w4.cell? ⟨b, 7, none⟩ = some (.bool yfl) := ((bcell A4).1 _ _ hbW).trans c7; have u8 : w4.cell? ⟨b, 8, none⟩ = some (.int .i64 ytc) := ((bcell A4).1 _ _ hbW).trans c8)
              try (go_wp2_with fail)
              refine hK.out _ _ ?_ (fun hH2 => ?_)
              · (try dsimp only)
                go_keep
              clear hK K hH1
              try simp only [q936, Act.put, setIfInBounds_toArray, set_cons_zero, set_cons_succ]
              refine takeY (i := 37) (oi := q937) (v := ?vc037) rfl ?hc037 ?rc037
              case hc037 => (intro w hSw; (try dsimp only [q937] at hSw ⊢); go_simp; try with_reducible rfl)
              try simp only [q937, Act.put, setIfInBounds_toArray, set_cons_zero, set_cons_succ]
              refine takeY (i := 38) (oi := q938) (v := ?vc038) rfl ?hc038 ?rc038
              case hc038 => (intro w hSw; (try dsimp only [q938] at hSw ⊢); go_simp; try with_reducible rfl)
              try simp only [q938, Act.put, setIfInBounds_toArray, set_cons_zero, set_cons_succ]
              refine takeY (i := 39) (oi := q939) (v := ?vc039) rfl ?hc039 ?rc039
              case hc039 => (intro w hSw; (try dsimp only [q939] at hSw ⊢); go_simp; try with_reducible rfl)
              try simp only [q939, Act.put, setIfInBounds_toArray, set_cons_zero, set_cons_succ]
              refine takeN (i := 40) (oi := q940) rfl ?_
              try simp only [q940, Act.put, setIfInBounds_toArray, set_cons_zero, set_cons_succ]
              refine takeN (i := 41) (oi := q941) rfl ?_
              try simp only [q941, Act.put, setIfInBounds_toArray, set_cons_zero, set_cons_succ]
              refine takeN (i := 42) (oi := q942) rfl ?_
              try simp only [q942, Act.put, setIfInBounds_toArray, set_cons_zero, set_cons_succ]
              refine takeN (i := 43) (oi := q943) rfl ?_
              try simp only [q943, Act.put, setIfInBounds_toArray, set_cons_zero, set_cons_succ]
              refine takeY (i := 44) (oi := q944) (v := ?vc044) rfl ?hc044 ?rc044
              case hc044 => (intro w hSw; (try dsimp only [q944] at hSw ⊢); go_simp; try with_reducible rfl)
              try simp only [q944, Act.put, setIfInBounds_toArray, set_cons_zero, set_cons_succ]
              refine takeY (i := 45) (oi := q945) (v := ?vc045) rfl ?hc045 ?rc045
              case hc045 => (intro w hSw; (try dsimp only [q945] at hSw ⊢); go_simp; try with_reducible rfl)
              try simp only [q945, Act.put, setIfInBounds_toArray, set_cons_zero, set_cons_succ]
              refine takeN (i := 46) (oi := q946) rfl ?_
              try simp only [q946, Act.put, setIfInBounds_toArray, set_cons_zero, set_cons_succ]
              refine takeN (i := 47) (oi := q947) rfl ?_
              try simp only [q947, Act.put, setIfInBounds_toArray, set_cons_zero, set_cons_succ]
              refine takeN (i := 48) (oi := q948) rfl ?_
              try simp only [q948, Act.put, setIfInBounds_toArray, set_cons_zero, set_cons_succ]
              refine takeN (i := 49) (oi := q949) rfl ?_
              try simp only [q949, Act.put, setIfInBounds_toArray, set_cons_zero, set_cons_succ]
              refine takeN (i := 50) (oi := q950) rfl ?_
              try simp only [q950, Act.put, setIfInBounds_toArray, set_cons_zero, set_cons_succ]
              refine takeN (i := 51) (oi := q951) rfl ?_
              try simp only [q951, Act.put, setIfInBounds_toArray, set_cons_zero, set_cons_succ]
              refine takeN (i := 52) (oi := q952) rfl ?_
              try simp only [q952, Act.put, setIfInBounds_toArray, set_cons_zero, set_cons_succ]
              refine takeY (i := 53) (oi := q953) (v := ?vc053) rfl ?hc053 ?rc053
              case hc053 => (intro w hSw; (try dsimp only [q953] at hSw ⊢); go_simp; try with_reducible rfl)
              try simp only [q953, Act.put, setIfInBounds_toArray, set_cons_zero, set_cons_succ]
              refine wpAnyH_done (by kernel_rfl) ?_ _
              go_wp2
              go_ret
              exact ⟨ret_bool HQ.out.symm, HBW.out.trans (A4.mono HBW.out.size)⟩
            | true =>
            cases bt with
            | false =>
              have HQ : Hid (R = false) := HBk.out (by rw [HO.out]; exact okB9_t)
              go_upto_region 5 with fail
              rw [← hW0.out]
              clear hW0
              generalize hbb : wr.heap.size = b at *
              clear hbb HB e0 e1 e2 e3 e4 e5 e6 e7 e8
              go_wp2_with fail
              refine wp_region_held_drew (S := (fun w' => w'.cell? ⟨b, 0, none⟩ = some (.int .i64 yid) ∧ w'.cell? ⟨b, 1, none⟩ = some (.int .i64 ypa) ∧ w'.cell? ⟨b, 2, none⟩ = some (.string ysc) ∧ w'.cell? ⟨b, 3, none⟩ = some (.string yho) ∧ w'.cell? ⟨b, 4, none⟩ = some (.int .i64 ypo) ∧ w'.cell? ⟨b, 5, none⟩ = some (.string ypt) ∧ w'.cell? ⟨b, 6, none⟩ = some (.bool ysb) ∧ w'.cell? ⟨b, 7, none⟩ = some (.bool yfl) ∧ w'.cell? ⟨b, 8, none⟩ = some (.int .i64 ytc))) (by kernel_rfl) ?_ (fun hH0 => ?_)
              · (try dsimp only)
                go_keep
              refine takeY (i := 0) (oi := q90) (v := ?vd00) rfl ?hd00 ?rd00
              case hd00 => (intro w hSw; (try dsimp only [q90] at hSw ⊢); go_simp; try with_reducible rfl)
              try simp only [q90, Act.put, setIfInBounds_toArray, set_cons_zero, set_cons_succ]
              refine takeY (i := 1) (oi := q91) (v := ?vd01) rfl ?hd01 ?rd01
              case hd01 => (intro w hSw; (try dsimp only [q91] at hSw ⊢); go_simp; try with_reducible rfl)
              try simp only [q91, Act.put, setIfInBounds_toArray, set_cons_zero, set_cons_succ]
              refine wpAnyH_ready (rs := [2]) (by kernel_rfl) (by simp) ?_
              refine AllReadyH.cons (o := q92) rfl (fun K hK => ?_) AllReadyH.nil
              dsimp only [q92] at hK ⊢
              go_simp
              (go_at_call 51; refine (KI.out _).mono ?_; rintro e w2 ⟨rfl, rfl⟩)
              try (go_wp2_with fail)
              refine hK.out _ _ ?_ (fun hH1 => ?_)
              · (try dsimp only)
                go_keep
              clear hK K hH0
              try simp only [q92, Act.put, setIfInBounds_toArray, set_cons_zero, set_cons_succ]
              refine takeY (i := 3) (oi := q93) (v := ?vd03) rfl ?hd03 ?rd03
              case hd03 => (intro w hSw; (try dsimp only [q93] at hSw ⊢); go_simp; try with_reducible rfl)
              try simp only [q93, Act.put, setIfInBounds_toArray, set_cons_zero, set_cons_succ]
              refine takeY (i := 4) (oi := q94) (v := ?vd04) rfl ?hd04 ?rd04
              case hd04 => (intro w hSw; (try dsimp only [q94] at hSw ⊢); go_simp; try with_reducible rfl)
              try simp only [q94, Act.put, setIfInBounds_toArray, set_cons_zero, set_cons_succ]
              refine takeY (i := 5) (oi := q95) (v := ?vd05) rfl ?hd05 ?rd05
              case hd05 => (intro w hSw; (try dsimp only [q95] at hSw ⊢); go_simp; try with_reducible rfl)
              try simp only [q95, Act.put, setIfInBounds_toArray, set_cons_zero, set_cons_succ]
              refine takeY (i := 6) (oi := q96) (v := ?vd06) rfl ?hd06 ?rd06
              case hd06 => (intro w hSw; (try dsimp only [q96] at hSw ⊢); go_simp; try with_reducible rfl)
              try simp only [q96, Act.put, setIfInBounds_toArray, set_cons_zero, set_cons_succ]
              refine takeY (i := 7) (oi := q97) (v := ?vd07) rfl ?hd07 ?rd07
              case hd07 => (intro w hSw; (try dsimp only [q97] at hSw ⊢); go_simp; try with_reducible rfl)
              try simp only [q97, Act.put, setIfInBounds_toArray, set_cons_zero, set_cons_succ]
              refine takeN (i := 8) (oi := q98) rfl ?_
              try simp only [q98, Act.put, setIfInBounds_toArray, set_cons_zero, set_cons_succ]
              refine takeN (i := 9) (oi := q99) rfl ?_
              try simp only [q99, Act.put, setIfInBounds_toArray, set_cons_zero, set_cons_succ]
              refine takeN (i := 10) (oi := q910) rfl ?_
              try simp only [q910, Act.put, setIfInBounds_toArray, set_cons_zero, set_cons_succ]
              refine takeN (i := 11) (oi := q911) rfl ?_
              try simp only [q911, Act.put, setIfInBounds_toArray, set_cons_zero, set_cons_succ]
              refine takeN (i := 12) (oi := q912) rfl ?_
              try simp only [q912, Act.put, setIfInBounds_toArray, set_cons_zero, set_cons_succ]
              refine takeN (i := 13) (oi := q913) rfl ?_
              try simp only [q913, Act.put, setIfInBounds_toArray, set_cons_zero, set_cons_succ]
              refine takeN (i := 14) (oi := q914) rfl ?_
              try simp only [q914, Act.put, setIfInBounds_toArray, set_cons_zero, set_cons_succ]
              refine takeN (i := 15) (oi := q915) rfl ?_
              try simp only [q915, Act.put, setIfInBounds_toArray, set_cons_zero, set_cons_succ]
              refine takeN (i := 16) (oi := q916) rfl ?_
              try simp only [q916, Act.put, setIfInBounds_toArray, set_cons_zero, set_cons_succ]
              refine takeY (i := 17) (oi := q917) (v := ?vd017) rfl ?hd017 ?rd017
              case hd017 => (intro w hSw; (try dsimp only [q917] at hSw ⊢); go_simp; try with_reducible rfl)
              try simp only [q917, Act.put, setIfInBounds_toArray, set_cons_zero, set_cons_succ]
              refine takeY (i := 18) (oi := q918) (v := ?vd018) rfl ?hd018 ?rd018
              case hd018 => (intro w hSw; (try dsimp only [q918] at hSw ⊢); go_simp; try with_reducible rfl)
              try simp only [q918, Act.put, setIfInBounds_toArray, set_cons_zero, set_cons_succ]
              refine takeY (i := 19) (oi := q919) (v := ?vd019) rfl ?hd019 ?rd019
              case hd019 => (intro w hSw; (try dsimp only [q919] at hSw ⊢); go_simp; try with_reducible rfl)
              try simp only [q919, Act.put, setIfInBounds_toArray, set_cons_zero, set_cons_succ]
              refine takeY (i := 20) (oi := q920) (v := ?vd020) rfl ?hd020 ?rd020
              case hd020 => (intro w hSw; (try dsimp only [q920] at hSw ⊢); go_simp; try with_reducible rfl)
              try simp only [q920, Act.put, setIfInBounds_toArray, set_cons_zero, set_cons_succ]
              refine takeY (i := 21) (oi := q921) (v := ?vd021) rfl ?hd021 ?rd021
              case hd021 => (intro w hSw; (try dsimp only [q921] at hSw ⊢); go_simp; try with_reducible rfl)
              try simp only [q921, Act.put, setIfInBounds_toArray, set_cons_zero, set_cons_succ]
              refine takeY (i := 22) (oi := q922) (v := ?vd022) rfl ?hd022 ?rd022
              case hd022 => (intro w hSw; (try dsimp only [q922] at hSw ⊢); go_simp; try with_reducible rfl)
              try simp only [q922, Act.put, setIfInBounds_toArray, set_cons_zero, set_cons_succ]
              refine takeY (i := 23) (oi := q923) (v := ?vd023) rfl ?hd023 ?rd023
              case hd023 => (intro w hSw; (try dsimp only [q923] at hSw ⊢); go_simp; try with_reducible rfl)
              try simp only [q923, Act.put, setIfInBounds_toArray, set_cons_zero, set_cons_succ]
              refine takeN (i := 24) (oi := q924) rfl ?_
              try simp only [q924, Act.put, setIfInBounds_toArray, set_cons_zero, set_cons_succ]
              refine takeN (i := 25) (oi := q925) rfl ?_
              try simp only [q925, Act.put, setIfInBounds_toArray, set_cons_zero, set_cons_succ]
              refine takeN (i := 26) (oi := q926) rfl ?_
              try simp only [q926, Act.put, setIfInBounds_toArray, set_cons_zero, set_cons_succ]
              refine takeN (i := 27) (oi := q927) rfl ?_
              try simp only [q927, Act.put, setIfInBounds_toArray, set_cons_zero, set_cons_succ]
              refine takeN (i := 28) (oi := q928) rfl ?_
              try simp only [q928, Act.put, setIfInBounds_toArray, set_cons_zero, set_cons_succ]
              refine takeN (i := 29) (oi := q929) rfl ?_
              try simp only [q929, Act.put, setIfInBounds_toArray, set_cons_zero, set_cons_succ]
              refine takeN (i := 30) (oi := q930) rfl ?_
              try simp only [q930, Act.put, setIfInBounds_toArray, set_cons_zero, set_cons_succ]
              refine takeY (i := 31) (oi := q931) (v := ?vd031) rfl ?hd031 ?rd031
              case hd031 => (intro w hSw; (try dsimp only [q931] at hSw ⊢); go_simp; try with_reducible rfl)
              try simp only [q931, Act.put, setIfInBounds_toArray, set_cons_zero, set_cons_succ]
              refine takeY (i := 32) (oi := q932) (v := ?vd032) rfl ?hd032 ?rd032
              case hd032 => (intro w hSw; (try dsimp only [q932] at hSw ⊢); go_simp; try with_reducible rfl)
              try simp only [q932, Act.put, setIfInBounds_toArray, set_cons_zero, set_cons_succ]
              refine takeY (i := 33) (oi := q933) (v := ?vd033) rfl ?hd033 ?rd033
              case hd033 => (intro w hSw; (try dsimp only [q933] at hSw ⊢); go_simp; try with_reducible rfl)
              try simp only [q933, Act.put, setIfInBounds_toArray, set_cons_zero, set_cons_succ]
              refine takeY (i := 34) (oi := q934) (v := ?vd034) rfl ?hd034 ?rd034
              case hd034 => (intro w hSw; (try dsimp only [q934] at hSw ⊢); go_simp; try with_reducible rfl)
              try simp only [q934, Act.put, setIfInBounds_toArray, set_cons_zero, set_cons_succ]
              refine takeY (i := 35) (oi := q935) (v := ?vd035) rfl ?hd035 ?rd035
              case hd035 => (intro w hSw; (try dsimp only [q935] at hSw ⊢); go_simp; try with_reducible rfl)
              try simp only [q935, Act.put, setIfInBounds_toArray, set_cons_zero, set_cons_succ]
              refine wpAnyH_ready (rs := [36]) (by kernel_rfl) (by simp) ?_
              refine AllReadyH.cons (o := q936) rfl (fun K hK => ?_) AllReadyH.nil
              dsimp only [q936] at hK ⊢
              go_simp
              (go_at_call 76; refine (KU.out _).mono ?_; rintro e w4 ⟨rfl, hb4⟩; have A4 : Below W0.heap.size W0 w4 := (Below.drew (Below.refl _ _)).trans hb4; have u0 : w4.cell? ⟨b, 0, none⟩ = some (.int .i64 yid) := ((bcell A4).1 _ _ hbW).trans c0; have u1 : w4.cell? ⟨b, 1, none⟩ = some (.int .i64 ypa) := ((bcell A4).1 _ _ hbW).trans c1; have u2 : w4.cell? ⟨b, 2, none⟩ = some (.string ysc) := ((bcell A4).1 _ _ hbW).trans c2; have u3 : w4.cell? ⟨b, 3, none⟩ = some (.string yho) := ((bcell A4).1 _ _ hbW).trans c3; have u4 : w4.cell? ⟨b, 4, none⟩ = some (.int .i64 ypo) := ((bcell A4).1 _ _ hbW).trans c4; have u5 : w4.cell? ⟨b, 5, none⟩ = some (.string ypt) := ((bcell A4).1 _ _ hbW).trans c5; have u6 : w4.cell? ⟨b, 6, none⟩ = some (.bool ysb) := ((bcell A4).1 _ _ hbW).trans c6; have u7 : w4.cell? ⟨b, 7, none⟩ = some (.bool yfl) := ((bcell A4).1 _ _ hbW).trans c7; have u8 : w4.cell? ⟨b, 8, none⟩ = some (.int .i64 ytc) := ((bcell A4).1 _ _ hbW).trans c8)
              try (go_wp2_with fail)
              refine hK.out _ _ ?_ (fun hH2 => ?_)
              · (try dsimp only)
                go_keep
              clear hK K hH1
              try simp only [q936, Act.put, setIfInBounds_toArray, set_cons_zero, set_cons_succ]
              refine takeY (i := 37) (oi := q937) (v := ?vd037) rfl ?hd037 ?rd037
              case hd037 => (intro w hSw; (try dsimp only [q937] at hSw ⊢); go_simp; try with_reducible rfl)
              try simp only [q937, Act.put, setIfInBounds_toArray, set_cons_zero, set_cons_succ]
              refine takeY (i := 38) (oi := q938) (v := ?vd038) rfl ?hd038 ?rd038
              case hd038 => (intro w hSw; (try dsimp only [q938] at hSw ⊢); go_simp; try with_reducible rfl)
              try simp only [q938, Act.put, setIfInBounds_toArray, set_cons_zero, set_cons_succ]
              refine takeY (i := 39) (oi := q939) (v := ?vd039) rfl ?hd039 ?rd039
              case hd039 => (intro w hSw; (try dsimp only [q939] at hSw ⊢); go_simp; try with_reducible rfl)
              try simp only [q939, Act.put, setIfInBounds_toArray, set_cons_zero, set_cons_succ]
              refine takeY (i := 40) (oi := q940) (v := ?vd040) rfl ?hd040 ?rd040
              case hd040 => (intro w hSw; (try dsimp only [q940] at hSw ⊢); go_simp; try with_reducible rfl)
              try simp only [q940, Act.put, setIfInBounds_toArray, set_cons_zero, set_cons_succ]
              refine takeY (i := 41) (oi := q941) (v := ?vd041) rfl ?hd041 ?rd041
              case hd041 => (intro w hSw; (try dsimp only [q941] at hSw ⊢); go_simp; try with_reducible rfl)
              try simp only [q941, Act.put, setIfInBounds_toArray, set_cons_zero, set_cons_succ]
              refine wpAnyH_ready (rs := [42]) (by kernel_rfl) (by simp) ?_
              refine AllReadyH.cons (o := q942) rfl (fun K hK => ?_) AllReadyH.nil
              dsimp only [q942] at hK ⊢
              go_simp
              (go_at_call 31; refine (KT.out _).mono ?_; rintro e w5 ⟨rfl, e5⟩; obtain rfl := e5.symm)
              try (go_wp2_with fail)
              refine hK.out _ _ ?_ (fun hH3 => ?_)
              · (try dsimp only)
                go_keep
              clear hK K hH2
              try simp only [q942, Act.put, setIfInBounds_toArray, set_cons_zero, set_cons_succ]
              refine takeY (i := 43) (oi := q943) (v := ?vd043) rfl ?hd043 ?rd043
              case hd043 => (intro w hSw; (try dsimp only [q943] at hSw ⊢); go_simp; try with_reducible rfl)
              try simp only [q943, Act.put, setIfInBounds_toArray, set_cons_zero, set_cons_succ]
              refine takeY (i := 44) (oi := q944) (v := ?vd044) rfl ?hd044 ?rd044
              case hd044 => (intro w hSw; (try dsimp only [q944] at hSw ⊢); go_simp; try with_reducible rfl)
              try simp only [q944, Act.put, setIfInBounds_toArray, set_cons_zero, set_cons_succ]
              refine takeY (i := 45) (oi := q945) (v := ?vd045) rfl ?hd045 ?rd045
              case hd045 => (intro w hSw; (try dsimp only [q945] at hSw ⊢); go_simp; try with_reducible rfl)
              try simp only [q945, Act.put, setIfInBounds_toArray, set_cons_zero, set_cons_succ]
              refine takeN (i := 46) (oi := q946) rfl ?_
              try simp only [q946, Act.put, setIfInBounds_toArray, set_cons_zero, set_cons_succ]
              refine takeN (i := 47) (oi := q947) rfl ?_
              try simp only [q947, Act.put, setIfInBounds_toArray, set_cons_zero, set_cons_succ]
              refine takeN (i := 48) (oi := q948) rfl ?_
              try simp only [q948, Act.put, setIfInBounds_toArray, set_cons_zero, set_cons_succ]
              refine takeN (i := 49) (oi := q949) rfl ?_
              try simp only [q949, Act.put, setIfInBounds_toArray, set_cons_zero, set_cons_succ]
              refine takeN (i := 50) (oi := q950) rfl ?_
              try simp only [q950, Act.put, setIfInBounds_toArray, set_cons_zero, set_cons_succ]
              refine takeN (i := 51) (oi := q951) rfl ?_
              try simp only [q951, Act.put, setIfInBounds_toArray, set_cons_zero, set_cons_succ]
              refine takeN (i := 52) (oi := q952) rfl ?_
              try simp only [q952, Act.put, setIfInBounds_toArray, set_cons_zero, set_cons_succ]
              refine takeY (i := 53) (oi := q953) (v := ?vd053) rfl ?hd053 ?rd053
              case hd053 => (intro w hSw; (try dsimp only [q953] at hSw ⊢); go_simp; try with_reducible rfl)
              try simp only [q953, Act.put, setIfInBounds_toArray, set_cons_zero, set_cons_succ]
              refine wpAnyH_done (by kernel_rfl) ?_ _
              go_wp2
              go_ret
              exact ⟨ret_bool HQ.out.symm, HBW.out.trans (A4.mono HBW.out.size)⟩
            | true =>
            cases ysb with
            | true =>
              have HQ : Hid (R = false) := HBk.out (by rw [HO.out]; exact okB9_box hp)
              go_upto_region 5 with fail
              rw [← hW0.out]
              clear hW0
              generalize hbb : wr.heap.size = b at *
              clear hbb HB e0 e1 e2 e3 e4 e5 e6 e7 e8
              go_wp2_with fail
              refine wp_region_held_drew (S := (fun w' => w'.cell? ⟨b, 0, none⟩ = some (.int .i64 yid) ∧ w'.cell? ⟨b, 1, none⟩ = some (.int .i64 ypa) ∧ w'.cell? ⟨b, 2, none⟩ = some (.string ysc) ∧ w'.cell? ⟨b, 3, none⟩ = some (.string yho) ∧ w'.cell? ⟨b, 4, none⟩ = some (.int .i64 ypo) ∧ w'.cell? ⟨b, 5, none⟩ = some (.string ypt) ∧ w'.cell? ⟨b, 6, none⟩ = some (.bool true) ∧ w'.cell? ⟨b, 7, none⟩ = some (.bool yfl) ∧ w'.cell? ⟨b, 8, none⟩ = some (.int .i64 ytc))) (by kernel_rfl) ?_ (fun hH0 => ?_)
              · (try dsimp only)
                go_keep
              refine takeY (i := 0) (oi := q90) (v := ?ve00) rfl ?he00 ?re00
              case he00 => (intro w hSw; (try dsimp only [q90] at hSw ⊢); go_simp; try with_reducible rfl)
              try simp only [q90, Act.put, setIfInBounds_toArray, set_cons_zero, set_cons_succ]
              refine takeY (i := 1) (oi := q91) (v := ?ve01) rfl ?he01 ?re01
              case he01 => (intro w hSw; (try dsimp only [q91] at hSw ⊢); go_simp; try with_reducible rfl)
              try simp only [q91, Act.put, setIfInBounds_toArray, set_cons_zero, set_cons_succ]
              refine wpAnyH_ready (rs := [2]) (by kernel_rfl) (by simp) ?_
              refine AllReadyH.cons (o := q92) rfl (fun K hK => ?_) AllReadyH.nil
              dsimp only [q92] at hK ⊢
              go_simp
              (go_at_call 51; refine (KI.out _).mono ?_; rintro e w2 ⟨rfl, rfl⟩)
              try (go_wp2_with fail)
              refine hK.out _ _ ?_ (fun hH1 => ?_)
              · (try dsimp only)
                go_keep
              clear hK K hH0
              try simp only [q92, Act.put, setIfInBounds_toArray, set_cons_zero, set_cons_succ]
              refine takeY (i := 3) (oi := q93) (v := ?ve03) rfl ?he03 ?re03
              case he03 => (intro w hSw; (try dsimp only [q93] at hSw ⊢); go_simp; try with_reducible rfl)
              try simp only [q93, Act.put, setIfInBounds_toArray, set_cons_zero, set_cons_succ]
              refine takeY (i := 4) (oi := q94) (v := ?ve04) rfl ?he04 ?re04
              case he04 => (intro w hSw; (try dsimp only [q94] at hSw ⊢); go_simp; try with_reducible rfl)
              try simp only [q94, Act.put, setIfInBounds_toArray, set_cons_zero, set_cons_succ]
              refine takeY (i := 5) (oi := q95) (v := ?ve05) rfl ?he05 ?re05
              case he05 => (intro w hSw; (try dsimp only [q95] at hSw ⊢); go_simp; try with_reducible rfl)
              try simp only [q95, Act.put, setIfInBounds_toArray, set_cons_zero, set_cons_succ]
              refine takeY (i := 6) (oi := q96) (v := ?ve06) rfl ?he06 ?re06
              case he06 => (intro w hSw; (try dsimp only [q96] at hSw ⊢); go_simp; try with_reducible rfl)
              try simp only [q96, Act.put, setIfInBounds_toArray, set_cons_zero, set_cons_succ]
              refine takeY (i := 7) (oi := q97) (v := ?ve07) rfl ?he07 ?re07
              case he07 => (intro w hSw; (try dsimp only [q97] at hSw ⊢); go_simp; try with_reducible rfl)
              try simp only [q97, Act.put, setIfInBounds_toArray, set_cons_zero, set_cons_succ]
              refine takeN (i := 8) (oi := q98) rfl ?_
              try simp only [q98, Act.put, setIfInBounds_toArray, set_cons_zero, set_cons_succ]
              refine takeN (i := 9) (oi := q99) rfl ?_
              try simp only [q99, Act.put, setIfInBounds_toArray, set_cons_zero, set_cons_succ]
              refine takeN (i := 10) (oi := q910) rfl ?_
              try simp only [q910, Act.put, setIfInBounds_toArray, set_cons_zero, set_cons_succ]
              refine takeN (i := 11) (oi := q911) rfl ?_
              try simp only [q911, Act.put, setIfInBounds_toArray, set_cons_zero, set_cons_succ]
              refine takeN (i := 12) (oi := q912) rfl ?_
              try simp only [q912, Act.put, setIfInBounds_toArray, set_cons_zero, set_cons_succ]
              refine takeN (i := 13) (oi := q913) rfl ?_
              try simp only [q913, Act.put, setIfInBounds_toArray, set_cons_zero, set_cons_succ]
              refine takeN (i := 14) (oi := q914) rfl ?_
              try simp only [q914, Act.put, setIfInBounds_toArray, set_cons_zero, set_cons_succ]
              refine takeN (i := 15) (oi := q915) rfl ?_
              try simp only [q915, Act.put, setIfInBounds_toArray, set_cons_zero, set_cons_succ]
              refine takeN (i := 16) (oi := q916) rfl ?_
              try simp only [q916, Act.put, setIfInBounds_toArray, set_cons_zero, set_cons_succ]
              refine takeY (i := 17) (oi := q917) (v := ?ve017) rfl ?he017 ?re017
              case he017 => (intro w hSw; (try dsimp only [q917] at hSw ⊢); go_simp; try with_reducible rfl)
              try simp only [q917, Act.put, setIfInBounds_toArray, set_cons_zero, set_cons_succ]
              refine takeY (i := 18) (oi := q918) (v := ?ve018) rfl ?he018 ?re018
              case he018 => (intro w hSw; (try dsimp only [q918] at hSw ⊢); go_simp; try with_reducible rfl)
              try simp only [q918, Act.put, setIfInBounds_toArray, set_cons_zero, set_cons_succ]
              refine takeY (i := 19) (oi := q919) (v := ?ve019) rfl ?he019 ?re019
              case he019 => (intro w hSw; (try dsimp only [q919] at hSw ⊢); go_simp; try with_reducible rfl)
              try simp only [q919, Act.put, setIfInBounds_toArray, set_cons_zero, set_cons_succ]
              refine takeY (i := 20) (oi := q920) (v := ?ve020) rfl ?he020 ?re020
              case he020 => (intro w hSw; (try dsimp only [q920] at hSw ⊢); go_simp; try with_reducible rfl)
              try simp only [q920, Act.put, setIfInBounds_toArray, set_cons_zero, set_cons_succ]
              refine takeY (i := 21) (oi := q921) (v := ?ve021) rfl ?he021 ?re021
              case he021 => (intro w hSw; (try dsimp only [q921] at hSw ⊢); go_simp; try with_reducible rfl)
              try simp only [q921, Act.put, setIfInBounds_toArray, set_cons_zero, set_cons_succ]
              refine takeY (i := 22) (oi := q922) (v := ?ve022) rfl ?he022 ?re022
              case he022 => (intro w hSw; (try dsimp only [q922] at hSw ⊢); go_simp; try with_reducible rfl)
              try simp only [q922, Act.put, setIfInBounds_toArray, set_cons_zero, set_cons_succ]
              refine takeY (i := 23) (oi := q923) (v := ?ve023) rfl ?he023 ?re023
              case he023 => (intro w hSw; (try dsimp only [q923] at hSw ⊢); go_simp; try with_reducible rfl)
              try simp only [q923, Act.put, setIfInBounds_toArray, set_cons_zero, set_cons_succ]
              refine takeN (i := 24) (oi := q924) rfl ?_
              try simp only [q924, Act.put, setIfInBounds_toArray, set_cons_zero, set_cons_succ]
              refine takeN (i := 25) (oi := q925) rfl ?_
              try simp only [q925, Act.put, setIfInBounds_toArray, set_cons_zero, set_cons_succ]
              refine takeN (i := 26) (oi := q926) rfl ?_
              try simp only [q926, Act.put, setIfInBounds_toArray, set_cons_zero, set_cons_succ]
              refine takeN (i := 27) (oi := q927) rfl ?_
              try simp only [q927, Act.put, setIfInBounds_toArray, set_cons_zero, set_cons_succ]
              refine takeN (i := 28) (oi := q928) rfl ?_
              try simp only [q928, Act.put, setIfInBounds_toArray, set_cons_zero, set_cons_succ]
              refine takeN (i := 29) (oi := q929) rfl ?_
              try simp only [q929, Act.put, setIfInBounds_toArray, set_cons_zero, set_cons_succ]
              refine takeN (i := 30) (oi := q930) rfl ?_
              try simp only [q930, Act.put, setIfInBounds_toArray, set_cons_zero, set_cons_succ]
              refine takeY (i := 31) (oi := q931) (v := ?ve031) rfl ?he031 ?re031
              case he031 => (intro w hSw; (try dsimp only [q931] at hSw ⊢); go_simp; try with_reducible rfl)
              try simp only [q931, Act.put, setIfInBounds_toArray, set_cons_zero, set_cons_succ]
              refine takeY (i := 32) (oi := q932) (v := ?ve032) rfl ?he032 ?re032
              case he032 => (intro w hSw; (try dsimp only [q932] at hSw ⊢); go_simp; try with_reducible rfl)
              try simp only [q932, Act.put, setIfInBounds_toArray, set_cons_zero, set_cons_succ]
              refine takeY (i := 33) (oi := q933) (v := ?ve033) rfl ?he033 ?re033
              case he033 => (intro w hSw; (try dsimp only [q933] at hSw ⊢); go_simp; try with_reducible rfl)
              try simp only [q933, Act.put, setIfInBounds_toArray, set_cons_zero, set_cons_succ]
              refine takeY (i := 34) (oi := q934) (v := ?ve034) rfl ?he034 ?re034
              case he034 => (intro w hSw; (try dsimp only [q934] at hSw ⊢); go_simp; try with_reducible rfl)
              try simp only [q934, Act.put, setIfInBounds_toArray, set_cons_zero, set_cons_succ]
              refine takeY (i := 35) (oi := q935) (v := ?ve035) rfl ?he035 ?re035
              case he035 => (intro w hSw; (try dsimp only [q935] at hSw ⊢); go_simp; try with_reducible rfl)
              try simp only [q935, Act.put, setIfInBounds_toArray, set_cons_zero, set_cons_succ]
              refine wpAnyH_ready (rs := [36]) (by kernel_rfl) (by simp) ?_
              refine AllReadyH.cons (o := q936) rfl (fun K hK => ?_) AllReadyH.nil
              dsimp only [q936] at hK ⊢
              go_simp
              (go_at_call 76; refine (KU.out _).mono ?_; rintro e w4 ⟨rfl, hb4⟩; have A4 : Below W0.heap.size W0 w4 := (Below.drew (Below.refl _ _)).trans hb4; have u0 : w4.cell? ⟨b, 0, none⟩ = some (.int .i64 yid) := ((bcell A4).1 _ _ hbW).trans c0; have u1 : w4.cell? ⟨b, 1, none⟩ = some (.int .i64 ypa) := ((bcell A4).1 _ _ hbW).trans c1; have u2 : w4.cell? ⟨b, 2, none⟩ = some (.string ysc) := ((bcell A4).1 _ _ hbW).trans c2; have u3 : w4.cell? ⟨b, 3, none⟩ = some (.string yho) := ((bcell A4).1 _ _ hbW).trans c3; have u4 : w4.cell? ⟨b, 4, none⟩ = some (.int .i64 ypo) := ((bcell A4).1 _ _ hbW).trans c4; have u5 : w4.cell? ⟨b, 5, none⟩ = some (.string ypt) := ((bcell A4).1 _ _ hbW).trans c5; have u6 : w4.cell? ⟨b, 6, none⟩ = some (.bool true) := ((bcell A4).1 _ _ hbW).trans c6; have u7 : w4.cell? ⟨b, 7, none⟩ = some (.bool yfl) := ((bcell A4).1 _ _ hbW).trans c7; have u8 : w4.cell? ⟨b, 8, none⟩ = some (.int .i64 ytc) := ((bcell A4).1 _ _ hbW).trans c8)
              try (go_wp2_with fail)
              refine hK.out _ _ ?_ (fun hH2 => ?_)
              · (try dsimp only)
                go_keep
              clear hK K hH1
              try simp only [q936, Act.put, setIfInBounds_toArray, set_cons_zero, set_cons_succ]
              refine takeY (i := 37) (oi := q937) (v := ?ve037) rfl ?he037 ?re037
              case he037 => (intro w hSw; (try dsimp only [q937] at hSw ⊢); go_simp; try with_reducible rfl)
              try simp only [q937, Act.put, setIfInBounds_toArray, set_cons_zero, set_cons_succ]
              refine takeY (i := 38) (oi := q938) (v := ?ve038) rfl ?he038 ?re038
              case he038 => (intro w hSw; (try dsimp only [q938] at hSw ⊢); go_simp; try with_reducible rfl)
              try simp only [q938, Act.put, setIfInBounds_toArray, set_cons_zero, set_cons_succ]
              refine takeY (i := 39) (oi := q939) (v := ?ve039) rfl ?he039 ?re039
              case he039 => (intro w hSw; (try dsimp only [q939] at hSw ⊢); go_simp; try with_reducible rfl)
              try simp only [q939, Act.put, setIfInBounds_toArray, set_cons_zero, set_cons_succ]
              refine takeY (i := 40) (oi := q940) (v := ?ve040) rfl ?he040 ?re040
              case he040 => (intro w hSw; (try dsimp only [q940] at hSw ⊢); go_simp; try with_reducible rfl)
              try simp only [q940, Act.put, setIfInBounds_toArray, set_cons_zero, set_cons_succ]
              refine takeY (i := 41) (oi := q941) (v := ?ve041) rfl ?he041 ?re041
              case he041 => (intro w hSw; (try dsimp only [q941] at hSw ⊢); go_simp; try with_reducible rfl)
              try simp only [q941, Act.put, setIfInBounds_toArray, set_cons_zero, set_cons_succ]
              refine wpAnyH_ready (rs := [42]) (by kernel_rfl) (by simp) ?_
              refine AllReadyH.cons (o := q942) rfl (fun K hK => ?_) AllReadyH.nil
              dsimp only [q942] at hK ⊢
              go_simp
              (go_at_call 31; refine (KT.out _).mono ?_; rintro e w5 ⟨rfl, e5⟩; obtain rfl := e5.symm)
              try (go_wp2_with fail)
              refine hK.out _ _ ?_ (fun hH3 => ?_)
              · (try dsimp only)
                go_keep
              clear hK K hH2
              try simp only [q942, Act.put, setIfInBounds_toArray, set_cons_zero, set_cons_succ]
              refine takeY (i := 43) (oi := q943) (v := ?ve043) rfl ?he043 ?re043
              case he043 => (intro w hSw; (try dsimp only [q943] at hSw ⊢); go_simp; try with_reducible rfl)
              try simp only [q943, Act.put, setIfInBounds_toArray, set_cons_zero, set_cons_succ]
              refine takeY (i := 44) (oi := q944) (v := ?ve044) rfl ?he044 ?re044
              case he044 => (intro w hSw; (try dsimp only [q944] at hSw ⊢); go_simp; try with_reducible rfl)
              try simp only [q944, Act.put, setIfInBounds_toArray, set_cons_zero, set_cons_succ]
              refine takeY (i := 45) (oi := q945) (v := ?ve045) rfl ?he045 ?re045
              case he045 => (intro w hSw; (try dsimp only [q945] at hSw ⊢); go_simp; try with_reducible rfl)
              try simp only [q945, Act.put, setIfInBounds_toArray, set_cons_zero, set_cons_succ]
              refine takeY (i := 46) (oi := q946) (v := ?ve046) rfl ?he046 ?re046
              case he046 => (intro w hSw; (try dsimp only [q946] at hSw ⊢); go_simp; try with_reducible rfl)
              try simp only [q946, Act.put, setIfInBounds_toArray, set_cons_zero, set_cons_succ]
              refine takeY (i := 47) (oi := q947) (v := ?ve047) rfl ?he047 ?re047
              case he047 => (intro w hSw; (try dsimp only [q947] at hSw ⊢); go_simp; try with_reducible rfl)
              try simp only [q947, Act.put, setIfInBounds_toArray, set_cons_zero, set_cons_succ]
              refine takeY (i := 48) (oi := q948) (v := ?ve048) rfl ?he048 ?re048
              case he048 => (intro w hSw; (try dsimp only [q948] at hSw ⊢); go_simp; try with_reducible rfl)
              try simp only [q948, Act.put, setIfInBounds_toArray, set_cons_zero, set_cons_succ]
              refine takeY (i := 49) (oi := q949) (v := ?ve049) rfl ?he049 ?re049
              case he049 => (intro w hSw; (try dsimp only [q949] at hSw ⊢); go_simp; try with_reducible rfl)
              try simp only [q949, Act.put, setIfInBounds_toArray, set_cons_zero, set_cons_succ]
              refine takeY (i := 50) (oi := q950) (v := ?ve050) rfl ?he050 ?re050
              case he050 => (intro w hSw; (try dsimp only [q950] at hSw ⊢); go_simp; try with_reducible rfl)
              try simp only [q950, Act.put, setIfInBounds_toArray, set_cons_zero, set_cons_succ]
              refine takeY (i := 51) (oi := q951) (v := ?ve051) rfl ?he051 ?re051
              case he051 => (intro w hSw; (try dsimp only [q951] at hSw ⊢); go_simp; try with_reducible rfl)
              try simp only [q951, Act.put, setIfInBounds_toArray, set_cons_zero, set_cons_succ]
              refine takeY (i := 52) (oi := q952) (v := ?ve052) rfl ?he052 ?re052
              case he052 => (intro w hSw; (try dsimp only [q952] at hSw ⊢); go_simp; try with_reducible rfl)
              try simp only [q952, Act.put, setIfInBounds_toArray, set_cons_zero, set_cons_succ]
              refine takeY (i := 53) (oi := q953) (v := ?ve053) rfl ?he053 ?re053
              case he053 => (intro w hSw; (try dsimp only [q953] at hSw ⊢); go_simp; try with_reducible rfl)
              try simp only [q953, Act.put, setIfInBounds_toArray, set_cons_zero, set_cons_succ]
              refine wpAnyH_done (by kernel_rfl) ?_ _
              go_wp2
              go_ret
              exact ⟨ret_bool HQ.out.symm, HBW.out.trans (A4.mono HBW.out.size)⟩
            | false =>
              have HN : Hid (∀ j, j < 0 + 1 → okF L j = true) := HSt.out (by rw [HO.out]; exact okB9_yes hbi hla (.inl hp) (.inr rfl))
              go_upto_region 5 with fail
              rw [← hW0.out]
              clear hW0
              generalize hbb : wr.heap.size = b at *
              clear hbb HB e0 e1 e2 e3 e4 e5 e6 e7 e8
              go_wp2_with fail
              refine wp_region_held_drew (S := (fun w' => w'.cell? ⟨b, 0, none⟩ = some (.int .i64 yid) ∧ w'.cell? ⟨b, 1, none⟩ = some (.int .i64 ypa) ∧ w'.cell? ⟨b, 2, none⟩ = some (.string ysc) ∧ w'.cell? ⟨b, 3, none⟩ = some (.string yho) ∧ w'.cell? ⟨b, 4, none⟩ = some (.int .i64 ypo) ∧ w'.cell? ⟨b, 5, none⟩ = some (.string ypt) ∧ w'.cell? ⟨b, 6, none⟩ = some (.bool false) ∧ w'.cell? ⟨b, 7, none⟩ = some (.bool yfl) ∧ w'.cell? ⟨b, 8, none⟩ = some (.int .i64 ytc))) (by kernel_rfl) ?_ (fun hH0 => ?_)
              · (try dsimp only)
                go_keep
              refine takeY (i := 0) (oi := q90) (v := ?vf00) rfl ?hf00 ?rf00
              case hf00 => (intro w hSw; (try dsimp only [q90] at hSw ⊢); go_simp; try with_reducible rfl)
              try simp only [q90, Act.put, setIfInBounds_toArray, set_cons_zero, set_cons_succ]
              refine takeY (i := 1) (oi := q91) (v := ?vf01) rfl ?hf01 ?rf01
              case hf01 => (intro w hSw; (try dsimp only [q91] at hSw ⊢); go_simp; try with_reducible rfl)
              try simp only [q91, Act.put, setIfInBounds_toArray, set_cons_zero, set_cons_succ]
              refine wpAnyH_ready (rs := [2]) (by kernel_rfl) (by simp) ?_
              refine AllReadyH.cons (o := q92) rfl (fun K hK => ?_) AllReadyH.nil
              dsimp only [q92] at hK ⊢
              go_simp
              (go_at_call 51; refine (KI.out _).mono ?_; rintro e w2 ⟨rfl, rfl⟩)
              try (go_wp2_with fail)
              refine hK.out _ _ ?_ (fun hH1 => ?_)
              · (try dsimp only)
                go_keep
              clear hK K hH0
              try simp only [q92, Act.put, setIfInBounds_toArray, set_cons_zero, set_cons_succ]
              refine takeY (i := 3) (oi := q93) (v := ?vf03) rfl ?hf03 ?rf03
              case hf03 => (intro w hSw; (try dsimp only [q93] at hSw ⊢); go_simp; try with_reducible rfl)
              try simp only [q93, Act.put, setIfInBounds_toArray, set_cons_zero, set_cons_succ]
              refine takeY (i := 4) (oi := q94) (v := ?vf04) rfl ?hf04 ?rf04
              case hf04 => (intro w hSw; (try dsimp only [q94] at hSw ⊢); go_simp; try with_reducible rfl)
              try simp only [q94, Act.put, setIfInBounds_toArray, set_cons_zero, set_cons_succ]
              refine takeY (i := 5) (oi := q95) (v := ?vf05) rfl ?hf05 ?rf05
              case hf05 => (intro w hSw; (try dsimp only [q95] at hSw ⊢); go_simp; try with_reducible rfl)
              try simp only [q95, Act.put, setIfInBounds_toArray, set_cons_zero, set_cons_succ]
              refine takeY (i := 6) (oi := q96) (v := ?vf06) rfl ?hf06 ?rf06
              case hf06 => (intro w hSw; (try dsimp only [q96] at hSw ⊢); go_simp; try with_reducible rfl)
              try simp only [q96, Act.put, setIfInBounds_toArray, set_cons_zero, set_cons_succ]
              refine takeY (i := 7) (oi := q97) (v := ?vf07) rfl ?hf07 ?rf07
              case hf07 => (intro w hSw; (try dsimp only [q97] at hSw ⊢); go_simp; try with_reducible rfl)
              try simp only [q97, Act.put, setIfInBounds_toArray, set_cons_zero, set_cons_succ]
              refine takeN (i := 8) (oi := q98) rfl ?_
              try simp only [q98, Act.put, setIfInBounds_toArray, set_cons_zero, set_cons_succ]
              refine takeN (i := 9) (oi := q99) rfl ?_
              try simp only [q99, Act.put, setIfInBounds_toArray, set_cons_zero, set_cons_succ]
              refine takeN (i := 10) (oi := q910) rfl ?_
              try simp only [q910, Act.put, setIfInBounds_toArray, set_cons_zero, set_cons_succ]
              refine takeN (i := 11) (oi := q911) rfl ?_
              try simp only [q911, Act.put, setIfInBounds_toArray, set_cons_zero, set_cons_succ]
              refine takeN (i := 12) (oi := q912) rfl ?_
              try simp only [q912, Act.put, setIfInBounds_toArray, set_cons_zero, set_cons_succ]
              refine takeN (i := 13) (oi := q913) rfl ?_
              try simp only [q913, Act.put, setIfInBounds_toArray, set_cons_zero, set_cons_succ]
              refine takeN (i := 14) (oi := q914) rfl ?_
              try simp only [q914, Act.put, setIfInBounds_toArray, set_cons_zero, set_cons_succ]
              refine takeN (i := 15) (oi := q915) rfl ?_
              try simp only [q915, Act.put, setIfInBounds_toArray, set_cons_zero, set_cons_succ]
              refine takeN (i := 16) (oi := q916) rfl ?_
              try simp only [q916, Act.put, setIfInBounds_toArray, set_cons_zero, set_cons_succ]
              refine takeY (i := 17) (oi := q917) (v := ?vf017) rfl ?hf017 ?rf017
              case hf017 => (intro w hSw; (try dsimp only [q917] at hSw ⊢); go_simp; try with_reducible rfl)
              try simp only [q917, Act.put, setIfInBounds_toArray, set_cons_zero, set_cons_succ]
              refine takeY (i := 18) (oi := q918) (v := ?vf018) rfl ?hf018 ?rf018
              case hf018 => (intro w hSw; (try dsimp only [q918] at hSw ⊢); go_simp; try with_reducible rfl)
              try simp only [q918, Act.put, setIfInBounds_toArray, set_cons_zero, set_cons_succ]
              refine takeY (i := 19) (oi := q919) (v := ?vf019) rfl ?hf019 ?rf019
              case hf019 => (intro w hSw; (try dsimp only [q919] at hSw ⊢); go_simp; try with_reducible rfl)
              try simp only [q919, Act.put, setIfInBounds_toArray, set_cons_zero, set_cons_succ]
              refine takeY (i := 20) (oi := q920) (v := ?vf020) rfl ?hf020 ?rf020
              case hf020 => (intro w hSw; (try dsimp only [q920] at hSw ⊢); go_simp; try with_reducible rfl)
              try simp only [q920, Act.put, setIfInBounds_toArray, set_cons_zero, set_cons_succ]
              refine takeY (i := 21) (oi := q921) (v := ?vf021) rfl ?hf021 ?rf021
              case hf021 => (intro w hSw; (try dsimp only [q921] at hSw ⊢); go_simp; try with_reducible rfl)
              try simp only [q921, Act.put, setIfInBounds_toArray, set_cons_zero, set_cons_succ]
              refine takeY (i := 22) (oi := q922) (v := ?vf022) rfl ?hf022 ?rf022
              case hf022 => (intro w hSw; (try dsimp only [q922] at hSw ⊢); go_simp; try with_reducible rfl)
              try simp only [q922, Act.put, setIfInBounds_toArray, set_cons_zero, set_cons_succ]
              refine takeY (i := 23) (oi := q923) (v := ?vf023) rfl ?hf023 ?rf023
              case hf023 => (intro w hSw; (try dsimp only [q923] at hSw ⊢); go_simp; try with_reducible rfl)
              try simp only [q923, Act.put, setIfInBounds_toArray, set_cons_zero, set_cons_succ]
              refine takeN (i := 24) (oi := q924) rfl ?_
              try simp only [q924, Act.put, setIfInBounds_toArray, set_cons_zero, set_cons_succ]
              refine takeN (i := 25) (oi := q925) rfl ?_
              try simp only [q925, Act.put, setIfInBounds_toArray, set_cons_zero, set_cons_succ]
              refine takeN (i := 26) (oi := q926) rfl ?_
              try simp only [q926, Act.put, setIfInBounds_toArray, set_cons_zero, set_cons_succ]
              refine takeN (i := 27) (oi := q927) rfl ?_
              try simp only [q927, Act.put, setIfInBounds_toArray, set_cons_zero, set_cons_succ]
              refine takeN (i := 28) (oi := q928) rfl ?_
              try simp only [q928, Act.put, setIfInBounds_toArray, set_cons_zero, set_cons_succ]
              refine takeN (i := 29) (oi := q929) rfl ?_
              try simp only [q929, Act.put, setIfInBounds_toArray, set_cons_zero, set_cons_succ]
              refine takeN (i := 30) (oi := q930) rfl ?_
              try simp only [q930, Act.put, setIfInBounds_toArray, set_cons_zero, set_cons_succ]
              refine takeY (i := 31) (oi := q931) (v := ?vf031) rfl ?hf031 ?rf031
              case hf031 => (intro w hSw; (try dsimp only [q931] at hSw ⊢); go_simp; try with_reducible rfl)
              try simp only [q931, Act.put, setIfInBounds_toArray, set_cons_zero, set_cons_succ]
              refine takeY (i := 32) (oi := q932) (v := ?vf032) rfl ?hf032 ?rf032
              case hf032 => (intro w hSw; (try dsimp only [q932] at hSw ⊢); go_simp; try with_reducible rfl)
              try simp only [q932, Act.put, setIfInBounds_toArray, set_cons_zero, set_cons_succ]
              refine takeY (i := 33) (oi := q933) (v := ?vf033) rfl ?hf033 ?rf033
              case hf033 => (intro w hSw; (try dsimp only [q933] at hSw ⊢); go_simp; try with_reducible rfl)
              try simp only [q933, Act.put, setIfInBounds_toArray, set_cons_zero, set_cons_succ]
              refine takeY (i := 34) (oi := q934) (v := ?vf034) rfl ?hf034 ?rf034
              case hf034 => (intro w hSw; (try dsimp only [q934] at hSw ⊢); go_simp; try with_reducible rfl)
              try simp only [q934, Act.put, setIfInBounds_toArray, set_cons_zero, set_cons_succ]
              refine takeY (i := 35) (oi := q935) (v := ?vf035) rfl ?hf035 ?rf035
              case hf035 => (intro w hSw; (try dsimp only [q935] at hSw ⊢); go_simp; try with_reducible rfl)
              try simp only [q935, Act.put, setIfInBounds_toArray, set_cons_zero, set_cons_succ]
              refine wpAnyH_ready (rs := [36]) (by kernel_rfl) (by simp) ?_
              refine AllReadyH.cons (o := q936) rfl (fun K hK => ?_) AllReadyH.nil
              dsimp only [q936] at hK ⊢
              go_simp
              (go_at_call 76; refine (KU.out _).mono ?_; rintro e w4 ⟨rfl, hb4⟩; have A4 : Below W0.heap.size W0 w4 := (Below.drew (Below.refl _ _)).trans hb4; have u0 : w4.cell? ⟨b, 0, none⟩ = some (.int .i64 yid) := ((bcell A4).1 _ _ hbW).trans c0; have u1 : w4.cell? ⟨b, 1, none⟩ = some (.int .i64 ypa) := ((bcell A4).1 _ _ hbW).trans c1; have u2 : w4.cell? ⟨b, 2, none⟩ = some (.string ysc) := ((bcell A4).1 _ _ hbW).trans c2; have u3 : w4.cell? ⟨b, 3, none⟩ = some (.string yho) := ((bcell A4).1 _ _ hbW).trans c3; have u4 : w4.cell? ⟨b, 4, none⟩ = some (.int .i64 ypo) := ((bcell A4).1 _ _ hbW).trans c4; have u5 : w4.cell? ⟨b, 5, none⟩ = some (.string ypt) := ((bcell A4).1 _ _ hbW).trans c5; have u6 : w4.cell? ⟨b, 6, none⟩ = some (.bool false) := ((bcell A4).1 _ _ hbW).trans c6; have u7 : w4.cell? ⟨b, 7, none⟩ = some (.bool yfl) := ((bcell A4).1 _ _ hbW).trans c7; have u8 : w4.cell? ⟨b, 8, none⟩ = some (.int .i64 ytc) := ((bcell A4).1 _ _ hbW).trans c8)
              try (go_wp2_with fail)
              refine hK.out _ _ ?_ (fun hH2 => ?_)
              · (try dsimp only)
                go_keep
              clear hK K hH1
              try simp only [q936, Act.put, setIfInBounds_toArray, set_cons_zero, set_cons_succ]
              refine takeY (i := 37) (oi := q937) (v := ?vf037) rfl ?hf037 ?rf037
              case hf037 => (intro w hSw; (try dsimp only [q937] at hSw ⊢); go_simp; try with_reducible rfl)
              try simp only [q937, Act.put, setIfInBounds_toArray, set_cons_zero, set_cons_succ]
              refine takeY (i := 38) (oi := q938) (v := ?vf038) rfl ?hf038 ?rf038
              case hf038 => (intro w hSw; (try dsimp only [q938] at hSw ⊢); go_simp; try with_reducible rfl)
              try simp only [q938, Act.put, setIfInBounds_toArray, set_cons_zero, set_cons_succ]
              refine takeY (i := 39) (oi := q939) (v := ?vf039) rfl ?hf039 ?rf039
              case hf039 => (intro w hSw; (try dsimp only [q939] at hSw ⊢); go_simp; try with_reducible rfl)
              try simp only [q939, Act.put, setIfInBounds_toArray, set_cons_zero, set_cons_succ]
              refine takeY (i := 40) (oi := q940) (v := ?vf040) rfl ?hf040 ?rf040
              case hf040 => (intro w hSw; (try dsimp only [q940] at hSw ⊢); go_simp; try with_reducible rfl)
              try simp only [q940, Act.put, setIfInBounds_toArray, set_cons_zero, set_cons_succ]
              refine takeY (i := 41) (oi := q941) (v := ?vf041) rfl ?hf041 ?rf041
              case hf041 => (intro w hSw; (try dsimp only [q941] at hSw ⊢); go_simp; try with_reducible rfl)
              try simp only [q941, Act.put, setIfInBounds_toArray, set_cons_zero, set_cons_succ]
              refine wpAnyH_ready (rs := [42]) (by kernel_rfl) (by simp) ?_
              refine AllReadyH.cons (o := q942) rfl (fun K hK => ?_) AllReadyH.nil
              dsimp only [q942] at hK ⊢
              go_simp
              (go_at_call 31; refine (KT.out _).mono ?_; rintro e w5 ⟨rfl, e5⟩; obtain rfl := e5.symm)
              try (go_wp2_with fail)
              refine hK.out _ _ ?_ (fun hH3 => ?_)
              · (try dsimp only)
                go_keep
              clear hK K hH2
              try simp only [q942, Act.put, setIfInBounds_toArray, set_cons_zero, set_cons_succ]
              refine takeY (i := 43) (oi := q943) (v := ?vf043) rfl ?hf043 ?rf043
              case hf043 => (intro w hSw; (try dsimp only [q943] at hSw ⊢); go_simp; try with_reducible rfl)
              try simp only [q943, Act.put, setIfInBounds_toArray, set_cons_zero, set_cons_succ]
              refine takeY (i := 44) (oi := q944) (v := ?vf044) rfl ?hf044 ?rf044
              case hf044 => (intro w hSw; (try dsimp only [q944] at hSw ⊢); go_simp; try with_reducible rfl)
              try simp only [q944, Act.put, setIfInBounds_toArray, set_cons_zero, set_cons_succ]
              refine takeY (i := 45) (oi := q945) (v := ?vf045) rfl ?hf045 ?rf045
              case hf045 => (intro w hSw; (try dsimp only [q945] at hSw ⊢); go_simp; try with_reducible rfl)
              try simp only [q945, Act.put, setIfInBounds_toArray, set_cons_zero, set_cons_succ]
              refine takeY (i := 46) (oi := q946) (v := ?vf046) rfl ?hf046 ?rf046
              case hf046 => (intro w hSw; (try dsimp only [q946] at hSw ⊢); go_simp; try with_reducible rfl)
              try simp only [q946, Act.put, setIfInBounds_toArray, set_cons_zero, set_cons_succ]
              refine takeY (i := 47) (oi := q947) (v := ?vf047) rfl ?hf047 ?rf047
              case hf047 => (intro w hSw; (try dsimp only [q947] at hSw ⊢); go_simp; try with_reducible rfl)
              try simp only [q947, Act.put, setIfInBounds_toArray, set_cons_zero, set_cons_succ]
              refine takeY (i := 48) (oi := q948) (v := ?vf048) rfl ?hf048 ?rf048
              case hf048 => (intro w hSw; (try dsimp only [q948] at hSw ⊢); go_simp; try with_reducible rfl)
              try simp only [q948, Act.put, setIfInBounds_toArray, set_cons_zero, set_cons_succ]
              refine takeY (i := 49) (oi := q949) (v := ?vf049) rfl ?hf049 ?rf049
              case hf049 => (intro w hSw; (try dsimp only [q949] at hSw ⊢); go_simp; try with_reducible rfl)
              try simp only [q949, Act.put, setIfInBounds_toArray, set_cons_zero, set_cons_succ]
              refine takeY (i := 50) (oi := q950) (v := ?vf050) rfl ?hf050 ?rf050
              case hf050 => (intro w hSw; (try dsimp only [q950] at hSw ⊢); go_simp; try with_reducible rfl)
              try simp only [q950, Act.put, setIfInBounds_toArray, set_cons_zero, set_cons_succ]
              refine takeY (i := 51) (oi := q951) (v := ?vf051) rfl ?hf051 ?rf051
              case hf051 => (intro w hSw; (try dsimp only [q951] at hSw ⊢); go_simp; try with_reducible rfl)
              try simp only [q951, Act.put, setIfInBounds_toArray, set_cons_zero, set_cons_succ]
              refine takeY (i := 52) (oi := q952) (v := ?vf052) rfl ?hf052 ?rf052
              case hf052 => (intro w hSw; (try dsimp only [q952] at hSw ⊢); go_simp; try with_reducible rfl)
              try simp only [q952, Act.put, setIfInBounds_toArray, set_cons_zero, set_cons_succ]
              refine takeY (i := 53) (oi := q953) (v := ?vf053) rfl ?hf053 ?rf053
              case hf053 => (intro w hSw; (try dsimp only [q953] at hSw ⊢); go_simp; try with_reducible rfl)
              try simp only [q953, Act.put, setIfInBounds_toArray, set_cons_zero, set_cons_succ]
              refine wpAnyH_done (by kernel_rfl) ?_ _
              have BN : Hid (Below w.heap.size w w4) := HBW.out.trans (A4.mono HBW.out.size)
              go_wp2
              go_roundw
              case rel => exact ⟨1, by omega, by go_num, BN, HN⟩
              case measure => simp [intOf]; omega
        · exfalso
          unfold isB9 at hbi
          rw [Bool.and_eq_true, decide_eq_true_eq] at hbi
          omega
      | succ m =>
        have dm : wr.cell? ⟨g, m * 9, none⟩ = some (.int .i64 (atF L m).id) := HC.out m (by omega) 0 (by omega)
        clear HC
        have q1 : decide ((0 : Int) < ((m : Int) + 1)) = true := by rw [decide_eq_true_iff]; omega
        have hw1 : IntKind.i64.wrap ((m : Int) + 1 - 1) = m := by rw [IntKind.wrap_i64]; omega
        have hw2 : IntKind.i64.wrap (m : Int) = m := by rw [IntKind.wrap_i64]; omega
        have p0 : (0 : Int) ≤ (m : Int) + 1 := by omega
        have p1 : (m : Int) + 1 < L.length := by omega
        have p2 : (m : Int) + 1 ≤ cap := by omega
        have m0 : (0 : Int) ≤ m := by omega
        have m1 : (m : Int) < L.length := by omega
        generalize uF (atF L (m + 1)) = bu at *
        generalize tmF (atF L (m + 1)).tc = bt at *
        generalize whF (L.take (m + 1)) (atF L (m + 1)).pa = wh at *
        generalize hbi : isB9 (atF L (m + 1)).id = bi at *
        rw [lastF_succ (show m < L.length by omega)] at HO h0la
        generalize hzz : atF L m = z at *
        generalize z.id = zid at *
        generalize okF L (m + 1) = ok at *
        generalize atF L (m + 1) = y at *
        obtain ⟨yid, ypa, ysc, yho, ypo, ypt, ysb, yfl, ytc⟩ := y
        dsimp only at *
        obtain ⟨W0, hW⟩ : ∃ W0, W0 = wr.alloc (.cells #[.int .i64 yid, .int .i64 ypa, .string ysc, .string yho, .int .i64 ypo, .string ypt, .bool ysb, .bool yfl, .int .i64 ytc] 99) := ⟨_, rfl⟩
        have hW0 : Hid (W0 = wr.alloc (.cells #[.int .i64 yid, .int .i64 ypa, .string ysc, .string yho, .int .i64 ypo, .string ypt, .bool ysb, .bool yfl, .int .i64 ytc] 99)) := hW
        have HBW : Hid (Below w.heap.size w W0) := by show Below _ _ _; rw [hW]; exact HB.out.alloc HB.out.size _
        have HBr : Below wr.heap.size wr W0 := by rw [hW]; exact (Below.refl _ _).alloc (Nat.le_refl _) _
        have c0 : W0.cell? ⟨wr.heap.size, 0, none⟩ = some (.int .i64 yid) := by rw [hW]; simp
        have c1 : W0.cell? ⟨wr.heap.size, 1, none⟩ = some (.int .i64 ypa) := by rw [hW]; simp
        have c2 : W0.cell? ⟨wr.heap.size, 2, none⟩ = some (.string ysc) := by rw [hW]; simp
        have c3 : W0.cell? ⟨wr.heap.size, 3, none⟩ = some (.string yho) := by rw [hW]; simp
        have c4 : W0.cell? ⟨wr.heap.size, 4, none⟩ = some (.int .i64 ypo) := by rw [hW]; simp
        have c5 : W0.cell? ⟨wr.heap.size, 5, none⟩ = some (.string ypt) := by rw [hW]; simp
        have c6 : W0.cell? ⟨wr.heap.size, 6, none⟩ = some (.bool ysb) := by rw [hW]; simp
        have c7 : W0.cell? ⟨wr.heap.size, 7, none⟩ = some (.bool yfl) := by rw [hW]; simp
        have c8 : W0.cell? ⟨wr.heap.size, 8, none⟩ = some (.int .i64 ytc) := by rw [hW]; simp
        have hbW : wr.heap.size < W0.heap.size := by rw [hW]; simp
        have hgW : g < W0.heap.size := Nat.lt_trans hgr hbW
        have cm : W0.cell? ⟨g, m * 9, none⟩ = some (.int .i64 zid) := ((bcell HBr).1 _ _ hgr).trans dm
        clear dm
        have KA : Hid (∀ W, Below W0.heap.size W0 W → Calls Tryz.prog 65 #[.slice (some ⟨g, 0, none⟩) (m + 1) cap, .int .i64 ypa] W fun r w' => r = .returned (.int .i64 wh) ∧ w' = W) := fun W hb => KA0.out W (HBW.out.trans (hb.mono HBW.out.size))
        clear hW KA0 HBr
        cases bi with
        | false =>
          have HQ : Hid (R = false) := HBk.out (by rw [HO.out]; exact okB9_is (by omega) hbi)
          go_upto_region 5 with fail
          rw [← hW0.out]
          clear hW0
          generalize hbb : wr.heap.size = b at *
          clear hbb HB e0 e1 e2 e3 e4 e5 e6 e7 e8
          go_wp2_with fail
          refine wp_region_held_drew (S := (fun w' => w'.cell? ⟨b, 0, none⟩ = some (.int .i64 yid) ∧ w'.cell? ⟨b, 1, none⟩ = some (.int .i64 ypa) ∧ w'.cell? ⟨b, 2, none⟩ = some (.string ysc) ∧ w'.cell? ⟨b, 3, none⟩ = some (.string yho) ∧ w'.cell? ⟨b, 4, none⟩ = some (.int .i64 ypo) ∧ w'.cell? ⟨b, 5, none⟩ = some (.string ypt) ∧ w'.cell? ⟨b, 6, none⟩ = some (.bool ysb) ∧ w'.cell? ⟨b, 7, none⟩ = some (.bool yfl) ∧ w'.cell? ⟨b, 8, none⟩ = some (.int .i64 ytc) ∧ w'.cell? ⟨g, m * 9, none⟩ = some (.int .i64 zid))) (by kernel_rfl) ?_ (fun hH0 => ?_)
          · (try dsimp only)
            go_keep
          refine takeY (i := 0) (oi := q90) (v := ?vg00) rfl ?hg00 ?rg00
          case hg00 => (intro w hSw; (try dsimp only [q90] at hSw ⊢); go_simp; try with_reducible rfl)
          try simp only [q90, Act.put, setIfInBounds_toArray, set_cons_zero, set_cons_succ]
          refine takeY (i := 1) (oi := q91) (v := ?vg01) rfl ?hg01 ?rg01
          case hg01 => (intro w hSw; (try dsimp only [q91] at hSw ⊢); go_simp; try with_reducible rfl)
          try simp only [q91, Act.put, setIfInBounds_toArray, set_cons_zero, set_cons_succ]
          refine wpAnyH_ready (rs := [2]) (by kernel_rfl) (by simp) ?_
          refine AllReadyH.cons (o := q92) rfl (fun K hK => ?_) AllReadyH.nil
          dsimp only [q92] at hK ⊢
          go_simp
          (go_at_call 51; refine (KI.out _).mono ?_; rintro e w2 ⟨rfl, rfl⟩)
          try (go_wp2_with fail)
          refine hK.out _ _ ?_ (fun hH1 => ?_)
          · (try dsimp only)
            go_keep
          clear hK K hH0
          try simp only [q92, Act.put, setIfInBounds_toArray, set_cons_zero, set_cons_succ]
          refine takeY (i := 3) (oi := q93) (v := ?vg03) rfl ?hg03 ?rg03
          case hg03 => (intro w hSw; (try dsimp only [q93] at hSw ⊢); go_simp; try with_reducible rfl)
          try simp only [q93, Act.put, setIfInBounds_toArray, set_cons_zero, set_cons_succ]
          refine takeY (i := 4) (oi := q94) (v := ?vg04) rfl ?hg04 ?rg04
          case hg04 => (intro w hSw; (try dsimp only [q94] at hSw ⊢); go_simp; try with_reducible rfl)
          try simp only [q94, Act.put, setIfInBounds_toArray, set_cons_zero, set_cons_succ]
          refine takeN (i := 5) (oi := q95) rfl ?_
          try simp only [q95, Act.put, setIfInBounds_toArray, set_cons_zero, set_cons_succ]
          refine takeN (i := 6) (oi := q96) rfl ?_
          try simp only [q96, Act.put, setIfInBounds_toArray, set_cons_zero, set_cons_succ]
          refine takeN (i := 7) (oi := q97) rfl ?_
          try simp only [q97, Act.put, setIfInBounds_toArray, set_cons_zero, set_cons_succ]
          refine takeN (i := 8) (oi := q98) rfl ?_
          try simp only [q98, Act.put, setIfInBounds_toArray, set_cons_zero, set_cons_succ]
          refine takeN (i := 9) (oi := q99) rfl ?_
          try simp only [q99, Act.put, setIfInBounds_toArray, set_cons_zero, set_cons_succ]
          refine takeN (i := 10) (oi := q910) rfl ?_
          try simp only [q910, Act.put, setIfInBounds_toArray, set_cons_zero, set_cons_succ]
          refine takeN (i := 11) (oi := q911) rfl ?_
          try simp only [q911, Act.put, setIfInBounds_toArray, set_cons_zero, set_cons_succ]
          refine takeN (i := 12) (oi := q912) rfl ?_
          try simp only [q912, Act.put, setIfInBounds_toArray, set_cons_zero, set_cons_succ]
          refine takeN (i := 13) (oi := q913) rfl ?_
          try simp only [q913, Act.put, setIfInBounds_toArray, set_cons_zero, set_cons_succ]
          refine takeN (i := 14) (oi := q914) rfl ?_
          try simp only [q914, Act.put, setIfInBounds_toArray, set_cons_zero, set_cons_succ]
          refine takeN (i := 15) (oi := q915) rfl ?_
          try simp only [q915, Act.put, setIfInBounds_toArray, set_cons_zero, set_cons_succ]
          refine takeN (i := 16) (oi := q916) rfl ?_
          try simp only [q916, Act.put, setIfInBounds_toArray, set_cons_zero, set_cons_succ]
          refine takeN (i := 17) (oi := q917) rfl ?_
          try simp only [q917, Act.put, setIfInBounds_toArray, set_cons_zero, set_cons_succ]
          refine takeY (i := 18) (oi := q918) (v := ?vg018) rfl ?hg018 ?rg018
          case hg018 => (intro w hSw; (try dsimp only [q918] at hSw ⊢); go_simp; try with_reducible rfl)
          try simp only [q918, Act.put, setIfInBounds_toArray, set_cons_zero, set_cons_succ]
          refine takeY (i := 19) (oi := q919) (v := ?vg019) rfl ?hg019 ?rg019
          case hg019 => (intro w hSw; (try dsimp only [q919] at hSw ⊢); go_simp; try with_reducible rfl)
          try simp only [q919, Act.put, setIfInBounds_toArray, set_cons_zero, set_cons_succ]
          refine takeN (i := 20) (oi := q920) rfl ?_
          try simp only [q920, Act.put, setIfInBounds_toArray, set_cons_zero, set_cons_succ]
          refine takeN (i := 21) (oi := q921) rfl ?_
          try simp only [q921, Act.put, setIfInBounds_toArray, set_cons_zero, set_cons_succ]
          refine takeN (i := 22) (oi := q922) rfl ?_
          try simp only [q922, Act.put, setIfInBounds_toArray, set_cons_zero, set_cons_succ]
          refine takeN (i := 23) (oi := q923) rfl ?_
          try simp only [q923, Act.put, setIfInBounds_toArray, set_cons_zero, set_cons_succ]
          refine takeN (i := 24) (oi := q924) rfl ?_
          try simp only [q924, Act.put, setIfInBounds_toArray, set_cons_zero, set_cons_succ]
          refine takeN (i := 25) (oi := q925) rfl ?_
          try simp only [q925, Act.put, setIfInBounds_toArray, set_cons_zero, set_cons_succ]
          refine takeN (i := 26) (oi := q926) rfl ?_
          try simp only [q926, Act.put, setIfInBounds_toArray, set_cons_zero, set_cons_succ]
          refine takeN (i := 27) (oi := q927) rfl ?_
          try simp only [q927, Act.put, setIfInBounds_toArray, set_cons_zero, set_cons_succ]
          refine takeN (i := 28) (oi := q928) rfl ?_
          try simp only [q928, Act.put, setIfInBounds_toArray, set_cons_zero, set_cons_succ]
          refine takeN (i := 29) (oi := q929) rfl ?_
          try simp only [q929, Act.put, setIfInBounds_toArray, set_cons_zero, set_cons_succ]
          refine takeN (i := 30) (oi := q930) rfl ?_
          try simp only [q930, Act.put, setIfInBounds_toArray, set_cons_zero, set_cons_succ]
          refine takeN (i := 31) (oi := q931) rfl ?_
          try simp only [q931, Act.put, setIfInBounds_toArray, set_cons_zero, set_cons_succ]
          refine takeY (i := 32) (oi := q932) (v := ?vg032) rfl ?hg032 ?rg032
          case hg032 => (intro w hSw; (try dsimp only [q932] at hSw ⊢); go_simp; try with_reducible rfl)
          try simp only [q932, Act.put, setIfInBounds_toArray, set_cons_zero, set_cons_succ]
          refine takeY (i := 33) (oi := q933) (v := ?vg033) rfl ?hg033 ?rg033
          case hg033 => (intro w hSw; (try dsimp only [q933] at hSw ⊢); go_simp; try with_reducible rfl)
          try simp only [q933, Act.put, setIfInBounds_toArray, set_cons_zero, set_cons_succ]
          refine takeN (i := 34) (oi := q934) rfl ?_
          try simp only [q934, Act.put, setIfInBounds_toArray, set_cons_zero, set_cons_succ]
          refine takeN (i := 35) (oi := q935) rfl ?_
          try simp only [q935, Act.put, setIfInBounds_toArray, set_cons_zero, set_cons_succ]
          refine takeN (i := 36) (oi := q936) rfl ?_
          try simp only [q936, Act.put, setIfInBounds_toArray, set_cons_zero, set_cons_succ]
          refine takeN (i := 37) (oi := q937) rfl ?_
          try simp only [q937, Act.put, setIfInBounds_toArray, set_cons_zero, set_cons_succ]
          refine takeY (i := 38) (oi := q938) (v := ?vg038) rfl ?hg038 ?rg038
          case hg038 => (intro w hSw; (try dsimp only [q938] at hSw ⊢); go_simp; try with_reducible rfl)
          try simp only [q938, Act.put, setIfInBounds_toArray, set_cons_zero, set_cons_succ]
          refine takeY (i := 39) (oi := q939) (v := ?vg039) rfl ?hg039 ?rg039
          case hg039 => (intro w hSw; (try dsimp only [q939] at hSw ⊢); go_simp; try with_reducible rfl)
          try simp only [q939, Act.put, setIfInBounds_toArray, set_cons_zero, set_cons_succ]
          refine takeN (i := 40) (oi := q940) rfl ?_
          try simp only [q940, Act.put, setIfInBounds_toArray, set_cons_zero, set_cons_succ]
          refine takeN (i := 41) (oi := q941) rfl ?_
          try simp only [q941, Act.put, setIfInBounds_toArray, set_cons_zero, set_cons_succ]
          refine takeN (i := 42) (oi := q942) rfl ?_
          try simp only [q942, Act.put, setIfInBounds_toArray, set_cons_zero, set_cons_succ]
          refine takeN (i := 43) (oi := q943) rfl ?_
          try simp only [q943, Act.put, setIfInBounds_toArray, set_cons_zero, set_cons_succ]
          refine takeY (i := 44) (oi := q944) (v := ?vg044) rfl ?hg044 ?rg044
          case hg044 => (intro w hSw; (try dsimp only [q944] at hSw ⊢); go_simp; try with_reducible rfl)
          try simp only [q944, Act.put, setIfInBounds_toArray, set_cons_zero, set_cons_succ]
          refine takeY (i := 45) (oi := q945) (v := ?vg045) rfl ?hg045 ?rg045
          case hg045 => (intro w hSw; (try dsimp only [q945] at hSw ⊢); go_simp; try with_reducible rfl)
          try simp only [q945, Act.put, setIfInBounds_toArray, set_cons_zero, set_cons_succ]
          refine takeN (i := 46) (oi := q946) rfl ?_
          try simp only [q946, Act.put, setIfInBounds_toArray, set_cons_zero, set_cons_succ]
          refine takeN (i := 47) (oi := q947) rfl ?_
          try simp only [q947, Act.put, setIfInBounds_toArray, set_cons_zero, set_cons_succ]
          refine takeN (i := 48) (oi := q948) rfl ?_
          try simp only [q948, Act.put, setIfInBounds_toArray, set_cons_zero, set_cons_succ]
          refine takeN (i := 49) (oi := q949) rfl ?_
          try simp only [q949, Act.put, setIfInBounds_toArray, set_cons_zero, set_cons_succ]
          refine takeN (i := 50) (oi := q950) rfl ?_
          try simp only [q950, Act.put, setIfInBounds_toArray, set_cons_zero, set_cons_succ]
          refine takeN (i := 51) (oi := q951) rfl ?_
          try simp only [q951, Act.put, setIfInBounds_toArray, set_cons_zero, set_cons_succ]
          refine takeN (i := 52) (oi := q952) rfl ?_
          try simp only [q952, Act.put, setIfInBounds_toArray, set_cons_zero, set_cons_succ]
          refine takeY (i := 53) (oi := q953) (v := ?vg053) rfl ?hg053 ?rg053
          case hg053 => (intro w hSw; (try dsimp only [q953] at hSw ⊢); go_simp; try with_reducible rfl)
          try simp only [q953, Act.put, setIfInBounds_toArray, set_cons_zero, set_cons_succ]
          refine wpAnyH_done (by kernel_rfl) ?_ _
          go_wp2
          go_ret
          exact ⟨ret_bool HQ.out.symm, HBW.out.trans (Below.drew (Below.refl _ _))⟩
        | true =>
        by_cases hle : yid ≤ zid
        · have qg : decide (yid ≤ zid) = true := decide_eq_true hle
          have HQ : Hid (R = false) := HBk.out (by rw [HO.out]; exact okB9_flat hle)
          go_upto_region 5 with fail
          rw [← hW0.out]
          clear hW0
          generalize hbb : wr.heap.size = b at *
          clear hbb HB e0 e1 e2 e3 e4 e5 e6 e7 e8
          go_wp2_with fail
          refine wp_region_held_drew (S := (fun w' => w'.cell? ⟨b, 0, none⟩ = some (.int .i64 yid) ∧ w'.cell? ⟨b, 1, none⟩ = some (.int .i64 ypa) ∧ w'.cell? ⟨b, 2, none⟩ = some (.string ysc) ∧ w'.cell? ⟨b, 3, none⟩ = some (.string yho) ∧ w'.cell? ⟨b, 4, none⟩ = some (.int .i64 ypo) ∧ w'.cell? ⟨b, 5, none⟩ = some (.string ypt) ∧ w'.cell? ⟨b, 6, none⟩ = some (.bool ysb) ∧ w'.cell? ⟨b, 7, none⟩ = some (.bool yfl) ∧ w'.cell? ⟨b, 8, none⟩ = some (.int .i64 ytc) ∧ w'.cell? ⟨g, m * 9, none⟩ = some (.int .i64 zid))) (by kernel_rfl) ?_ (fun hH0 => ?_)
          · (try dsimp only)
            go_keep
          refine takeY (i := 0) (oi := q90) (v := ?vh00) rfl ?hh00 ?rh00
          case hh00 => (intro w hSw; (try dsimp only [q90] at hSw ⊢); go_simp; try with_reducible rfl)
          try simp only [q90, Act.put, setIfInBounds_toArray, set_cons_zero, set_cons_succ]
          refine takeY (i := 1) (oi := q91) (v := ?vh01) rfl ?hh01 ?rh01
          case hh01 => (intro w hSw; (try dsimp only [q91] at hSw ⊢); go_simp; try with_reducible rfl)
          try simp only [q91, Act.put, setIfInBounds_toArray, set_cons_zero, set_cons_succ]
          refine wpAnyH_ready (rs := [2]) (by kernel_rfl) (by simp) ?_
          refine AllReadyH.cons (o := q92) rfl (fun K hK => ?_) AllReadyH.nil
          dsimp only [q92] at hK ⊢
          go_simp
          (go_at_call 51; refine (KI.out _).mono ?_; rintro e w2 ⟨rfl, rfl⟩)
          try (go_wp2_with fail)
          refine hK.out _ _ ?_ (fun hH1 => ?_)
          · (try dsimp only)
            go_keep
          clear hK K hH0
          try simp only [q92, Act.put, setIfInBounds_toArray, set_cons_zero, set_cons_succ]
          refine takeY (i := 3) (oi := q93) (v := ?vh03) rfl ?hh03 ?rh03
          case hh03 => (intro w hSw; (try dsimp only [q93] at hSw ⊢); go_simp; try with_reducible rfl)
          try simp only [q93, Act.put, setIfInBounds_toArray, set_cons_zero, set_cons_succ]
          refine takeY (i := 4) (oi := q94) (v := ?vh04) rfl ?hh04 ?rh04
          case hh04 => (intro w hSw; (try dsimp only [q94] at hSw ⊢); go_simp; try with_reducible rfl)
          try simp only [q94, Act.put, setIfInBounds_toArray, set_cons_zero, set_cons_succ]
          refine takeY (i := 5) (oi := q95) (v := ?vh05) rfl ?hh05 ?rh05
          case hh05 => (intro w hSw; (try dsimp only [q95] at hSw ⊢); go_simp; try with_reducible rfl)
          try simp only [q95, Act.put, setIfInBounds_toArray, set_cons_zero, set_cons_succ]
          refine takeY (i := 6) (oi := q96) (v := ?vh06) rfl ?hh06 ?rh06
          case hh06 => (intro w hSw; (try dsimp only [q96] at hSw ⊢); go_simp; try with_reducible rfl)
          try simp only [q96, Act.put, setIfInBounds_toArray, set_cons_zero, set_cons_succ]
          refine takeY (i := 7) (oi := q97) (v := ?vh07) rfl ?hh07 ?rh07
          case hh07 => (intro w hSw; (try dsimp only [q97] at hSw ⊢); go_simp; try with_reducible rfl)
          try simp only [q97, Act.put, setIfInBounds_toArray, set_cons_zero, set_cons_succ]
          refine takeY (i := 8) (oi := q98) (v := ?vh08) rfl ?hh08 ?rh08
          case hh08 => (intro w hSw; (try dsimp only [q98] at hSw ⊢); go_simp; try with_reducible rfl)
          try simp only [q98, Act.put, setIfInBounds_toArray, set_cons_zero, set_cons_succ]
          refine takeY (i := 9) (oi := q99) (v := ?vh09) rfl ?hh09 ?rh09
          case hh09 => (intro w hSw; (try dsimp only [q99] at hSw ⊢); go_simp; try with_reducible rfl)
          try simp only [q99, Act.put, setIfInBounds_toArray, set_cons_zero, set_cons_succ]
          refine takeY (i := 10) (oi := q910) (v := ?vh010) rfl ?hh010 ?rh010
          case hh010 => (intro w hSw; (try dsimp only [q910] at hSw ⊢); go_simp; try with_reducible rfl)
          try simp only [q910, Act.put, setIfInBounds_toArray, set_cons_zero, set_cons_succ]
          refine takeY (i := 11) (oi := q911) (v := ?vh011) rfl ?hh011 ?rh011
          case hh011 => (intro w hSw; (try dsimp only [q911] at hSw ⊢); go_simp; try with_reducible rfl)
          try simp only [q911, Act.put, setIfInBounds_toArray, set_cons_zero, set_cons_succ]
          refine takeY (i := 12) (oi := q912) (v := ?vh012) rfl ?hh012 ?rh012
          case hh012 => (intro w hSw; (try dsimp only [q912] at hSw ⊢); go_simp; try with_reducible rfl)
          try simp only [q912, Act.put, setIfInBounds_toArray, set_cons_zero, set_cons_succ]
          refine takeY (i := 13) (oi := q913) (v := ?vh013) rfl ?hh013 ?rh013
          case hh013 => (intro w hSw; (try dsimp only [q913] at hSw ⊢); go_simp; try with_reducible rfl)
          try simp only [q913, Act.put, setIfInBounds_toArray, set_cons_zero, set_cons_succ]
          refine takeY (i := 14) (oi := q914) (v := ?vh014) rfl ?hh014 ?rh014
          case hh014 => (intro w hSw; (try dsimp only [q914] at hSw ⊢); go_simp; try with_reducible rfl)
          try simp only [q914, Act.put, setIfInBounds_toArray, set_cons_zero, set_cons_succ]
          refine takeY (i := 15) (oi := q915) (v := ?vh015) rfl ?hh015 ?rh015
          case hh015 => (intro w hSw; (try dsimp only [q915] at hSw ⊢); go_simp; try with_reducible rfl)
          try simp only [q915, Act.put, setIfInBounds_toArray, set_cons_zero, set_cons_succ]
          refine takeY (i := 16) (oi := q916) (v := ?vh016) rfl ?hh016 ?rh016
          case hh016 => (intro w hSw; (try dsimp only [q916] at hSw ⊢); go_simp; try with_reducible rfl)
          try simp only [q916, Act.put, setIfInBounds_toArray, set_cons_zero, set_cons_succ]
          refine takeY (i := 17) (oi := q917) (v := ?vh017) rfl ?hh017 ?rh017
          case hh017 => (intro w hSw; (try dsimp only [q917] at hSw ⊢); go_simp; try with_reducible rfl)
          try simp only [q917, Act.put, setIfInBounds_toArray, set_cons_zero, set_cons_succ]
          refine takeY (i := 18) (oi := q918) (v := ?vh018) rfl ?hh018 ?rh018
          case hh018 => (intro w hSw; (try dsimp only [q918] at hSw ⊢); go_simp; try with_reducible rfl)
          try simp only [q918, Act.put, setIfInBounds_toArray, set_cons_zero, set_cons_succ]
          refine takeY (i := 19) (oi := q919) (v := ?vh019) rfl ?hh019 ?rh019
          case hh019 => (intro w hSw; (try dsimp only [q919] at hSw ⊢); go_simp; try with_reducible rfl)
          try simp only [q919, Act.put, setIfInBounds_toArray, set_cons_zero, set_cons_succ]
          refine takeN (i := 20) (oi := q920) rfl ?_
          try simp only [q920, Act.put, setIfInBounds_toArray, set_cons_zero, set_cons_succ]
          refine takeN (i := 21) (oi := q921) rfl ?_
          try simp only [q921, Act.put, setIfInBounds_toArray, set_cons_zero, set_cons_succ]
          refine takeN (i := 22) (oi := q922) rfl ?_
          try simp only [q922, Act.put, setIfInBounds_toArray, set_cons_zero, set_cons_succ]
          refine takeN (i := 23) (oi := q923) rfl ?_
          try simp only [q923, Act.put, setIfInBounds_toArray, set_cons_zero, set_cons_succ]
          refine takeN (i := 24) (oi := q924) rfl ?_
          try simp only [q924, Act.put, setIfInBounds_toArray, set_cons_zero, set_cons_succ]
          refine takeN (i := 25) (oi := q925) rfl ?_
          try simp only [q925, Act.put, setIfInBounds_toArray, set_cons_zero, set_cons_succ]
          refine takeN (i := 26) (oi := q926) rfl ?_
          try simp only [q926, Act.put, setIfInBounds_toArray, set_cons_zero, set_cons_succ]
          refine takeN (i := 27) (oi := q927) rfl ?_
          try simp only [q927, Act.put, setIfInBounds_toArray, set_cons_zero, set_cons_succ]
          refine takeN (i := 28) (oi := q928) rfl ?_
          try simp only [q928, Act.put, setIfInBounds_toArray, set_cons_zero, set_cons_succ]
          refine takeN (i := 29) (oi := q929) rfl ?_
          try simp only [q929, Act.put, setIfInBounds_toArray, set_cons_zero, set_cons_succ]
          refine takeN (i := 30) (oi := q930) rfl ?_
          try simp only [q930, Act.put, setIfInBounds_toArray, set_cons_zero, set_cons_succ]
          refine takeN (i := 31) (oi := q931) rfl ?_
          try simp only [q931, Act.put, setIfInBounds_toArray, set_cons_zero, set_cons_succ]
          refine takeY (i := 32) (oi := q932) (v := ?vh032) rfl ?hh032 ?rh032
          case hh032 => (intro w hSw; (try dsimp only [q932] at hSw ⊢); go_simp; try with_reducible rfl)
          try simp only [q932, Act.put, setIfInBounds_toArray, set_cons_zero, set_cons_succ]
          refine takeY (i := 33) (oi := q933) (v := ?vh033) rfl ?hh033 ?rh033
          case hh033 => (intro w hSw; (try dsimp only [q933] at hSw ⊢); go_simp; try with_reducible rfl)
          try simp only [q933, Act.put, setIfInBounds_toArray, set_cons_zero, set_cons_succ]
          refine takeN (i := 34) (oi := q934) rfl ?_
          try simp only [q934, Act.put, setIfInBounds_toArray, set_cons_zero, set_cons_succ]
          refine takeN (i := 35) (oi := q935) rfl ?_
          try simp only [q935, Act.put, setIfInBounds_toArray, set_cons_zero, set_cons_succ]
          refine takeN (i := 36) (oi := q936) rfl ?_
          try simp only [q936, Act.put, setIfInBounds_toArray, set_cons_zero, set_cons_succ]
          refine takeN (i := 37) (oi := q937) rfl ?_
          try simp only [q937, Act.put, setIfInBounds_toArray, set_cons_zero, set_cons_succ]
          refine takeY (i := 38) (oi := q938) (v := ?vh038) rfl ?hh038 ?rh038
          case hh038 => (intro w hSw; (try dsimp only [q938] at hSw ⊢); go_simp; try with_reducible rfl)
          try simp only [q938, Act.put, setIfInBounds_toArray, set_cons_zero, set_cons_succ]
          refine takeY (i := 39) (oi := q939) (v := ?vh039) rfl ?hh039 ?rh039
          case hh039 => (intro w hSw; (try dsimp only [q939] at hSw ⊢); go_simp; try with_reducible rfl)
          try simp only [q939, Act.put, setIfInBounds_toArray, set_cons_zero, set_cons_succ]
          refine takeN (i := 40) (oi := q940) rfl ?_
          try simp only [q940, Act.put, setIfInBounds_toArray, set_cons_zero, set_cons_succ]
          refine takeN (i := 41) (oi := q941) rfl ?_
          try simp only [q941, Act.put, setIfInBounds_toArray, set_cons_zero, set_cons_succ]
          refine takeN (i := 42) (oi := q942) rfl ?_
          try simp only [q942, Act.put, setIfInBounds_toArray, set_cons_zero, set_cons_succ]
          refine takeN (i := 43) (oi := q943) rfl ?_
          try simp only [q943, Act.put, setIfInBounds_toArray, set_cons_zero, set_cons_succ]
          refine takeY (i := 44) (oi := q944) (v := ?vh044) rfl ?hh044 ?rh044
          case hh044 => (intro w hSw; (try dsimp only [q944] at hSw ⊢); go_simp; try with_reducible rfl)
          try simp only [q944, Act.put, setIfInBounds_toArray, set_cons_zero, set_cons_succ]
          refine takeY (i := 45) (oi := q945) (v := ?vh045) rfl ?hh045 ?rh045
          case hh045 => (intro w hSw; (try dsimp only [q945] at hSw ⊢); go_simp; try with_reducible rfl)
          try simp only [q945, Act.put, setIfInBounds_toArray, set_cons_zero, set_cons_succ]
          refine takeN (i := 46) (oi := q946) rfl ?_
          try simp only [q946, Act.put, setIfInBounds_toArray, set_cons_zero, set_cons_succ]
          refine takeN (i := 47) (oi := q947) rfl ?_
          try simp only [q947, Act.put, setIfInBounds_toArray, set_cons_zero, set_cons_succ]
          refine takeN (i := 48) (oi := q948) rfl ?_
          try simp only [q948, Act.put, setIfInBounds_toArray, set_cons_zero, set_cons_succ]
          refine takeN (i := 49) (oi := q949) rfl ?_
          try simp only [q949, Act.put, setIfInBounds_toArray, set_cons_zero, set_cons_succ]
          refine takeN (i := 50) (oi := q950) rfl ?_
          try simp only [q950, Act.put, setIfInBounds_toArray, set_cons_zero, set_cons_succ]
          refine takeN (i := 51) (oi := q951) rfl ?_
          try simp only [q951, Act.put, setIfInBounds_toArray, set_cons_zero, set_cons_succ]
          refine takeN (i := 52) (oi := q952) rfl ?_
          try simp only [q952, Act.put, setIfInBounds_toArray, set_cons_zero, set_cons_succ]
          refine takeY (i := 53) (oi := q953) (v := ?vh053) rfl ?hh053 ?rh053
          case hh053 => (intro w hSw; (try dsimp only [q953] at hSw ⊢); go_simp; try with_reducible rfl)
          try simp only [q953, Act.put, setIfInBounds_toArray, set_cons_zero, set_cons_succ]
          refine wpAnyH_done (by kernel_rfl) ?_ _
          go_wp2
          go_ret
          exact ⟨ret_bool HQ.out.symm, HBW.out.trans (Below.drew (Below.refl _ _))⟩
        have qg : decide (yid ≤ zid) = false := decide_eq_false hle
        have hla : zid < yid := by omega
        cases hp : (ypa == 0) with
        | false =>
          have qn : (ypa != 0) = true := by unfold bne; rw [hp]; rfl
          by_cases hw : wh < 0
          · have qw : decide (wh < 0) = true := decide_eq_true hw
            have HQ : Hid (R = false) := HBk.out (by rw [HO.out]; exact okB9_hold hp hw)
            go_upto_region 5 with fail
            rw [← hW0.out]
            clear hW0
            generalize hbb : wr.heap.size = b at *
            clear hbb HB e0 e1 e2 e3 e4 e5 e6 e7 e8
            go_wp2_with fail
            refine wp_region_held_drew (S := (fun w' => w'.cell? ⟨b, 0, none⟩ = some (.int .i64 yid) ∧ w'.cell? ⟨b, 1, none⟩ = some (.int .i64 ypa) ∧ w'.cell? ⟨b, 2, none⟩ = some (.string ysc) ∧ w'.cell? ⟨b, 3, none⟩ = some (.string yho) ∧ w'.cell? ⟨b, 4, none⟩ = some (.int .i64 ypo) ∧ w'.cell? ⟨b, 5, none⟩ = some (.string ypt) ∧ w'.cell? ⟨b, 6, none⟩ = some (.bool ysb) ∧ w'.cell? ⟨b, 7, none⟩ = some (.bool yfl) ∧ w'.cell? ⟨b, 8, none⟩ = some (.int .i64 ytc) ∧ w'.cell? ⟨g, m * 9, none⟩ = some (.int .i64 zid))) (by kernel_rfl) ?_ (fun hH0 => ?_)
            · (try dsimp only)
              go_keep
            refine takeY (i := 0) (oi := q90) (v := ?vi00) rfl ?hi00 ?ri00
            case hi00 => (intro w hSw; (try dsimp only [q90] at hSw ⊢); go_simp; try with_reducible rfl)
            try simp only [q90, Act.put, setIfInBounds_toArray, set_cons_zero, set_cons_succ]
            refine takeY (i := 1) (oi := q91) (v := ?vi01) rfl ?hi01 ?ri01
            case hi01 => (intro w hSw; (try dsimp only [q91] at hSw ⊢); go_simp; try with_reducible rfl)
            try simp only [q91, Act.put, setIfInBounds_toArray, set_cons_zero, set_cons_succ]
            refine wpAnyH_ready (rs := [2]) (by kernel_rfl) (by simp) ?_
            refine AllReadyH.cons (o := q92) rfl (fun K hK => ?_) AllReadyH.nil
            dsimp only [q92] at hK ⊢
            go_simp
            (go_at_call 51; refine (KI.out _).mono ?_; rintro e w2 ⟨rfl, rfl⟩)
            try (go_wp2_with fail)
            refine hK.out _ _ ?_ (fun hH1 => ?_)
            · (try dsimp only)
              go_keep
            clear hK K hH0
            try simp only [q92, Act.put, setIfInBounds_toArray, set_cons_zero, set_cons_succ]
            refine takeY (i := 3) (oi := q93) (v := ?vi03) rfl ?hi03 ?ri03
            case hi03 => (intro w hSw; (try dsimp only [q93] at hSw ⊢); go_simp; try with_reducible rfl)
            try simp only [q93, Act.put, setIfInBounds_toArray, set_cons_zero, set_cons_succ]
            refine takeY (i := 4) (oi := q94) (v := ?vi04) rfl ?hi04 ?ri04
            case hi04 => (intro w hSw; (try dsimp only [q94] at hSw ⊢); go_simp; try with_reducible rfl)
            try simp only [q94, Act.put, setIfInBounds_toArray, set_cons_zero, set_cons_succ]
            refine takeY (i := 5) (oi := q95) (v := ?vi05) rfl ?hi05 ?ri05
            case hi05 => (intro w hSw; (try dsimp only [q95] at hSw ⊢); go_simp; try with_reducible rfl)
            try simp only [q95, Act.put, setIfInBounds_toArray, set_cons_zero, set_cons_succ]
            refine takeY (i := 6) (oi := q96) (v := ?vi06) rfl ?hi06 ?ri06
            case hi06 => (intro w hSw; (try dsimp only [q96] at hSw ⊢); go_simp; try with_reducible rfl)
            try simp only [q96, Act.put, setIfInBounds_toArray, set_cons_zero, set_cons_succ]
            refine takeY (i := 7) (oi := q97) (v := ?vi07) rfl ?hi07 ?ri07
            case hi07 => (intro w hSw; (try dsimp only [q97] at hSw ⊢); go_simp; try with_reducible rfl)
            try simp only [q97, Act.put, setIfInBounds_toArray, set_cons_zero, set_cons_succ]
            refine takeY (i := 8) (oi := q98) (v := ?vi08) rfl ?hi08 ?ri08
            case hi08 => (intro w hSw; (try dsimp only [q98] at hSw ⊢); go_simp; try with_reducible rfl)
            try simp only [q98, Act.put, setIfInBounds_toArray, set_cons_zero, set_cons_succ]
            refine takeY (i := 9) (oi := q99) (v := ?vi09) rfl ?hi09 ?ri09
            case hi09 => (intro w hSw; (try dsimp only [q99] at hSw ⊢); go_simp; try with_reducible rfl)
            try simp only [q99, Act.put, setIfInBounds_toArray, set_cons_zero, set_cons_succ]
            refine takeY (i := 10) (oi := q910) (v := ?vi010) rfl ?hi010 ?ri010
            case hi010 => (intro w hSw; (try dsimp only [q910] at hSw ⊢); go_simp; try with_reducible rfl)
            try simp only [q910, Act.put, setIfInBounds_toArray, set_cons_zero, set_cons_succ]
            refine takeY (i := 11) (oi := q911) (v := ?vi011) rfl ?hi011 ?ri011
            case hi011 => (intro w hSw; (try dsimp only [q911] at hSw ⊢); go_simp; try with_reducible rfl)
            try simp only [q911, Act.put, setIfInBounds_toArray, set_cons_zero, set_cons_succ]
            refine takeY (i := 12) (oi := q912) (v := ?vi012) rfl ?hi012 ?ri012
            case hi012 => (intro w hSw; (try dsimp only [q912] at hSw ⊢); go_simp; try with_reducible rfl)
            try simp only [q912, Act.put, setIfInBounds_toArray, set_cons_zero, set_cons_succ]
            refine takeY (i := 13) (oi := q913) (v := ?vi013) rfl ?hi013 ?ri013
            case hi013 => (intro w hSw; (try dsimp only [q913] at hSw ⊢); go_simp; try with_reducible rfl)
            try simp only [q913, Act.put, setIfInBounds_toArray, set_cons_zero, set_cons_succ]
            refine takeY (i := 14) (oi := q914) (v := ?vi014) rfl ?hi014 ?ri014
            case hi014 => (intro w hSw; (try dsimp only [q914] at hSw ⊢); go_simp; try with_reducible rfl)
            try simp only [q914, Act.put, setIfInBounds_toArray, set_cons_zero, set_cons_succ]
            refine takeY (i := 15) (oi := q915) (v := ?vi015) rfl ?hi015 ?ri015
            case hi015 => (intro w hSw; (try dsimp only [q915] at hSw ⊢); go_simp; try with_reducible rfl)
            try simp only [q915, Act.put, setIfInBounds_toArray, set_cons_zero, set_cons_succ]
            refine takeY (i := 16) (oi := q916) (v := ?vi016) rfl ?hi016 ?ri016
            case hi016 => (intro w hSw; (try dsimp only [q916] at hSw ⊢); go_simp; try with_reducible rfl)
            try simp only [q916, Act.put, setIfInBounds_toArray, set_cons_zero, set_cons_succ]
            refine takeY (i := 17) (oi := q917) (v := ?vi017) rfl ?hi017 ?ri017
            case hi017 => (intro w hSw; (try dsimp only [q917] at hSw ⊢); go_simp; try with_reducible rfl)
            try simp only [q917, Act.put, setIfInBounds_toArray, set_cons_zero, set_cons_succ]
            refine takeY (i := 18) (oi := q918) (v := ?vi018) rfl ?hi018 ?ri018
            case hi018 => (intro w hSw; (try dsimp only [q918] at hSw ⊢); go_simp; try with_reducible rfl)
            try simp only [q918, Act.put, setIfInBounds_toArray, set_cons_zero, set_cons_succ]
            refine takeY (i := 19) (oi := q919) (v := ?vi019) rfl ?hi019 ?ri019
            case hi019 => (intro w hSw; (try dsimp only [q919] at hSw ⊢); go_simp; try with_reducible rfl)
            try simp only [q919, Act.put, setIfInBounds_toArray, set_cons_zero, set_cons_succ]
            refine takeY (i := 20) (oi := q920) (v := ?vi020) rfl ?hi020 ?ri020
            case hi020 => (intro w hSw; (try dsimp only [q920] at hSw ⊢); go_simp; try with_reducible rfl)
            try simp only [q920, Act.put, setIfInBounds_toArray, set_cons_zero, set_cons_succ]
            refine takeY (i := 21) (oi := q921) (v := ?vi021) rfl ?hi021 ?ri021
            case hi021 => (intro w hSw; (try dsimp only [q921] at hSw ⊢); go_simp; try with_reducible rfl)
            try simp only [q921, Act.put, setIfInBounds_toArray, set_cons_zero, set_cons_succ]
            refine takeY (i := 22) (oi := q922) (v := ?vi022) rfl ?hi022 ?ri022
            case hi022 => (intro w hSw; (try dsimp only [q922] at hSw ⊢); go_simp; try with_reducible rfl)
            try simp only [q922, Act.put, setIfInBounds_toArray, set_cons_zero, set_cons_succ]
            refine takeY (i := 23) (oi := q923) (v := ?vi023) rfl ?hi023 ?ri023
            case hi023 => (intro w hSw; (try dsimp only [q923] at hSw ⊢); go_simp; try with_reducible rfl)
            try simp only [q923, Act.put, setIfInBounds_toArray, set_cons_zero, set_cons_succ]
            refine takeY (i := 24) (oi := q924) (v := ?vi024) rfl ?hi024 ?ri024
            case hi024 => (intro w hSw; (try dsimp only [q924] at hSw ⊢); go_simp; try with_reducible rfl)
            try simp only [q924, Act.put, setIfInBounds_toArray, set_cons_zero, set_cons_succ]
            refine takeY (i := 25) (oi := q925) (v := ?vi025) rfl ?hi025 ?ri025
            case hi025 => (intro w hSw; (try dsimp only [q925] at hSw ⊢); go_simp; try with_reducible rfl)
            try simp only [q925, Act.put, setIfInBounds_toArray, set_cons_zero, set_cons_succ]
            refine takeY (i := 26) (oi := q926) (v := ?vi026) rfl ?hi026 ?ri026
            case hi026 => (intro w hSw; (try dsimp only [q926] at hSw ⊢); go_simp; try with_reducible rfl)
            try simp only [q926, Act.put, setIfInBounds_toArray, set_cons_zero, set_cons_succ]
            refine takeY (i := 27) (oi := q927) (v := ?vi027) rfl ?hi027 ?ri027
            case hi027 => (intro w hSw; (try dsimp only [q927] at hSw ⊢); go_simp; try with_reducible rfl)
            try simp only [q927, Act.put, setIfInBounds_toArray, set_cons_zero, set_cons_succ]
            refine takeY (i := 28) (oi := q928) (v := ?vi028) rfl ?hi028 ?ri028
            case hi028 => (intro w hSw; (try dsimp only [q928] at hSw ⊢); go_simp; try with_reducible rfl)
            try simp only [q928, Act.put, setIfInBounds_toArray, set_cons_zero, set_cons_succ]
            refine wpAnyH_ready (rs := [29]) (by kernel_rfl) (by simp) ?_
            refine AllReadyH.cons (o := q929) rfl (fun K hK => ?_) AllReadyH.nil
            dsimp only [q929] at hK ⊢
            go_simp
            (go_at_call 65; refine (KA.out _ (Below.drew (Below.refl _ _))).mono ?_; rintro e w3 ⟨rfl, rfl⟩)
            try (go_wp2_with fail)
            refine hK.out _ _ ?_ (fun hH2 => ?_)
            · (try dsimp only)
              go_keep
            clear hK K hH1
            try simp only [q929, Act.put, setIfInBounds_toArray, set_cons_zero, set_cons_succ]
            refine takeY (i := 30) (oi := q930) (v := ?vi030) rfl ?hi030 ?ri030
            case hi030 => (intro w hSw; (try dsimp only [q930] at hSw ⊢); go_simp; try with_reducible rfl)
            try simp only [q930, Act.put, setIfInBounds_toArray, set_cons_zero, set_cons_succ]
            refine takeY (i := 31) (oi := q931) (v := ?vi031) rfl ?hi031 ?ri031
            case hi031 => (intro w hSw; (try dsimp only [q931] at hSw ⊢); go_simp; try with_reducible rfl)
            try simp only [q931, Act.put, setIfInBounds_toArray, set_cons_zero, set_cons_succ]
            refine takeY (i := 32) (oi := q932) (v := ?vi032) rfl ?hi032 ?ri032
            case hi032 => (intro w hSw; (try dsimp only [q932] at hSw ⊢); go_simp; try with_reducible rfl)
            try simp only [q932, Act.put, setIfInBounds_toArray, set_cons_zero, set_cons_succ]
            refine takeY (i := 33) (oi := q933) (v := ?vi033) rfl ?hi033 ?ri033
            case hi033 => (intro w hSw; (try dsimp only [q933] at hSw ⊢); go_simp; try with_reducible rfl)
            try simp only [q933, Act.put, setIfInBounds_toArray, set_cons_zero, set_cons_succ]
            refine takeN (i := 34) (oi := q934) rfl ?_
            try simp only [q934, Act.put, setIfInBounds_toArray, set_cons_zero, set_cons_succ]
            refine takeN (i := 35) (oi := q935) rfl ?_
            try simp only [q935, Act.put, setIfInBounds_toArray, set_cons_zero, set_cons_succ]
            refine takeN (i := 36) (oi := q936) rfl ?_
            try simp only [q936, Act.put, setIfInBounds_toArray, set_cons_zero, set_cons_succ]
            refine takeN (i := 37) (oi := q937) rfl ?_
            try simp only [q937, Act.put, setIfInBounds_toArray, set_cons_zero, set_cons_succ]
            refine takeY (i := 38) (oi := q938) (v := ?vi038) rfl ?hi038 ?ri038
            case hi038 => (intro w hSw; (try dsimp only [q938] at hSw ⊢); go_simp; try with_reducible rfl)
            try simp only [q938, Act.put, setIfInBounds_toArray, set_cons_zero, set_cons_succ]
            refine takeY (i := 39) (oi := q939) (v := ?vi039) rfl ?hi039 ?ri039
            case hi039 => (intro w hSw; (try dsimp only [q939] at hSw ⊢); go_simp; try with_reducible rfl)
            try simp only [q939, Act.put, setIfInBounds_toArray, set_cons_zero, set_cons_succ]
            refine takeN (i := 40) (oi := q940) rfl ?_
            try simp only [q940, Act.put, setIfInBounds_toArray, set_cons_zero, set_cons_succ]
            refine takeN (i := 41) (oi := q941) rfl ?_
            try simp only [q941, Act.put, setIfInBounds_toArray, set_cons_zero, set_cons_succ]
            refine takeN (i := 42) (oi := q942) rfl ?_
            try simp only [q942, Act.put, setIfInBounds_toArray, set_cons_zero, set_cons_succ]
            refine takeN (i := 43) (oi := q943) rfl ?_
            try simp only [q943, Act.put, setIfInBounds_toArray, set_cons_zero, set_cons_succ]
            refine takeY (i := 44) (oi := q944) (v := ?vi044) rfl ?hi044 ?ri044
            case hi044 => (intro w hSw; (try dsimp only [q944] at hSw ⊢); go_simp; try with_reducible rfl)
            try simp only [q944, Act.put, setIfInBounds_toArray, set_cons_zero, set_cons_succ]
            refine takeY (i := 45) (oi := q945) (v := ?vi045) rfl ?hi045 ?ri045
            case hi045 => (intro w hSw; (try dsimp only [q945] at hSw ⊢); go_simp; try with_reducible rfl)
            try simp only [q945, Act.put, setIfInBounds_toArray, set_cons_zero, set_cons_succ]
            refine takeN (i := 46) (oi := q946) rfl ?_
            try simp only [q946, Act.put, setIfInBounds_toArray, set_cons_zero, set_cons_succ]
            refine takeN (i := 47) (oi := q947) rfl ?_
            try simp only [q947, Act.put, setIfInBounds_toArray, set_cons_zero, set_cons_succ]
            refine takeN (i := 48) (oi := q948) rfl ?_
            try simp only [q948, Act.put, setIfInBounds_toArray, set_cons_zero, set_cons_succ]
            refine takeN (i := 49) (oi := q949) rfl ?_
            try simp only [q949, Act.put, setIfInBounds_toArray, set_cons_zero, set_cons_succ]
            refine takeN (i := 50) (oi := q950) rfl ?_
            try simp only [q950, Act.put, setIfInBounds_toArray, set_cons_zero, set_cons_succ]
            refine takeN (i := 51) (oi := q951) rfl ?_
            try simp only [q951, Act.put, setIfInBounds_toArray, set_cons_zero, set_cons_succ]
            refine takeN (i := 52) (oi := q952) rfl ?_
            try simp only [q952, Act.put, setIfInBounds_toArray, set_cons_zero, set_cons_succ]
            refine takeY (i := 53) (oi := q953) (v := ?vi053) rfl ?hi053 ?ri053
            case hi053 => (intro w hSw; (try dsimp only [q953] at hSw ⊢); go_simp; try with_reducible rfl)
            try simp only [q953, Act.put, setIfInBounds_toArray, set_cons_zero, set_cons_succ]
            refine wpAnyH_done (by kernel_rfl) ?_ _
            go_wp2
            go_ret
            exact ⟨ret_bool HQ.out.symm, HBW.out.trans (Below.drew (Below.refl _ _))⟩
          have qw : decide (wh < 0) = false := decide_eq_false hw
          cases bu with
          | false =>
            have HQ : Hid (R = false) := HBk.out (by rw [HO.out]; exact okB9_u)
            go_upto_region 5 with fail
            rw [← hW0.out]
            clear hW0
            generalize hbb : wr.heap.size = b at *
            clear hbb HB e0 e1 e2 e3 e4 e5 e6 e7 e8
            go_wp2_with fail
            refine wp_region_held_drew (S := (fun w' => w'.cell? ⟨b, 0, none⟩ = some (.int .i64 yid) ∧ w'.cell? ⟨b, 1, none⟩ = some (.int .i64 ypa) ∧ w'.cell? ⟨b, 2, none⟩ = some (.string ysc) ∧ w'.cell? ⟨b, 3, none⟩ = some (.string yho) ∧ w'.cell? ⟨b, 4, none⟩ = some (.int .i64 ypo) ∧ w'.cell? ⟨b, 5, none⟩ = some (.string ypt) ∧ w'.cell? ⟨b, 6, none⟩ = some (.bool ysb) ∧ w'.cell? ⟨b, 7, none⟩ = some (.bool yfl) ∧ w'.cell? ⟨b, 8, none⟩ = some (.int .i64 ytc) ∧ w'.cell? ⟨g, m * 9, none⟩ = some (.int .i64 zid))) (by kernel_rfl) ?_ (fun hH0 => ?_)
            · (try dsimp only)
              go_keep
            refine takeY (i := 0) (oi := q90) (v := ?vj00) rfl ?hj00 ?rj00
            case hj00 => (intro w hSw; (try dsimp only [q90] at hSw ⊢); go_simp; try with_reducible rfl)
            try simp only [q90, Act.put, setIfInBounds_toArray, set_cons_zero, set_cons_succ]
            refine takeY (i := 1) (oi := q91) (v := ?vj01) rfl ?hj01 ?rj01
            case hj01 => (intro w hSw; (try dsimp only [q91] at hSw ⊢); go_simp; try with_reducible rfl)
            try simp only [q91, Act.put, setIfInBounds_toArray, set_cons_zero, set_cons_succ]
            refine wpAnyH_ready (rs := [2]) (by kernel_rfl) (by simp) ?_
            refine AllReadyH.cons (o := q92) rfl (fun K hK => ?_) AllReadyH.nil
            dsimp only [q92] at hK ⊢
            go_simp
            (go_at_call 51; refine (KI.out _).mono ?_; rintro e w2 ⟨rfl, rfl⟩)
            try (go_wp2_with fail)
            refine hK.out _ _ ?_ (fun hH1 => ?_)
            · (try dsimp only)
              go_keep
            clear hK K hH0
            try simp only [q92, Act.put, setIfInBounds_toArray, set_cons_zero, set_cons_succ]
            refine takeY (i := 3) (oi := q93) (v := ?vj03) rfl ?hj03 ?rj03
            case hj03 => (intro w hSw; (try dsimp only [q93] at hSw ⊢); go_simp; try with_reducible rfl)
            try simp only [q93, Act.put, setIfInBounds_toArray, set_cons_zero, set_cons_succ]
            refine takeY (i := 4) (oi := q94) (v := ?vj04) rfl ?hj04 ?rj04
            case hj04 => (intro w hSw; (try dsimp only [q94] at hSw ⊢); go_simp; try with_reducible rfl)
            try simp only [q94, Act.put, setIfInBounds_toArray, set_cons_zero, set_cons_succ]
            refine takeY (i := 5) (oi := q95) (v := ?vj05) rfl ?hj05 ?rj05
            case hj05 => (intro w hSw; (try dsimp only [q95] at hSw ⊢); go_simp; try with_reducible rfl)
            try simp only [q95, Act.put, setIfInBounds_toArray, set_cons_zero, set_cons_succ]
            refine takeY (i := 6) (oi := q96) (v := ?vj06) rfl ?hj06 ?rj06
            case hj06 => (intro w hSw; (try dsimp only [q96] at hSw ⊢); go_simp; try with_reducible rfl)
            try simp only [q96, Act.put, setIfInBounds_toArray, set_cons_zero, set_cons_succ]
            refine takeY (i := 7) (oi := q97) (v := ?vj07) rfl ?hj07 ?rj07
            case hj07 => (intro w hSw; (try dsimp only [q97] at hSw ⊢); go_simp; try with_reducible rfl)
            try simp only [q97, Act.put, setIfInBounds_toArray, set_cons_zero, set_cons_succ]
            refine takeY (i := 8) (oi := q98) (v := ?vj08) rfl ?hj08 ?rj08
            case hj08 => (intro w hSw; (try dsimp only [q98] at hSw ⊢); go_simp; try with_reducible rfl)
            try simp only [q98, Act.put, setIfInBounds_toArray, set_cons_zero, set_cons_succ]
            refine takeY (i := 9) (oi := q99) (v := ?vj09) rfl ?hj09 ?rj09
            case hj09 => (intro w hSw; (try dsimp only [q99] at hSw ⊢); go_simp; try with_reducible rfl)
            try simp only [q99, Act.put, setIfInBounds_toArray, set_cons_zero, set_cons_succ]
            refine takeY (i := 10) (oi := q910) (v := ?vj010) rfl ?hj010 ?rj010
            case hj010 => (intro w hSw; (try dsimp only [q910] at hSw ⊢); go_simp; try with_reducible rfl)
            try simp only [q910, Act.put, setIfInBounds_toArray, set_cons_zero, set_cons_succ]
            refine takeY (i := 11) (oi := q911) (v := ?vj011) rfl ?hj011 ?rj011
            case hj011 => (intro w hSw; (try dsimp only [q911] at hSw ⊢); go_simp; try with_reducible rfl)
            try simp only [q911, Act.put, setIfInBounds_toArray, set_cons_zero, set_cons_succ]
            refine takeY (i := 12) (oi := q912) (v := ?vj012) rfl ?hj012 ?rj012
            case hj012 => (intro w hSw; (try dsimp only [q912] at hSw ⊢); go_simp; try with_reducible rfl)
            try simp only [q912, Act.put, setIfInBounds_toArray, set_cons_zero, set_cons_succ]
            refine takeY (i := 13) (oi := q913) (v := ?vj013) rfl ?hj013 ?rj013
            case hj013 => (intro w hSw; (try dsimp only [q913] at hSw ⊢); go_simp; try with_reducible rfl)
            try simp only [q913, Act.put, setIfInBounds_toArray, set_cons_zero, set_cons_succ]
            refine takeY (i := 14) (oi := q914) (v := ?vj014) rfl ?hj014 ?rj014
            case hj014 => (intro w hSw; (try dsimp only [q914] at hSw ⊢); go_simp; try with_reducible rfl)
            try simp only [q914, Act.put, setIfInBounds_toArray, set_cons_zero, set_cons_succ]
            refine takeY (i := 15) (oi := q915) (v := ?vj015) rfl ?hj015 ?rj015
            case hj015 => (intro w hSw; (try dsimp only [q915] at hSw ⊢); go_simp; try with_reducible rfl)
            try simp only [q915, Act.put, setIfInBounds_toArray, set_cons_zero, set_cons_succ]
            refine takeY (i := 16) (oi := q916) (v := ?vj016) rfl ?hj016 ?rj016
            case hj016 => (intro w hSw; (try dsimp only [q916] at hSw ⊢); go_simp; try with_reducible rfl)
            try simp only [q916, Act.put, setIfInBounds_toArray, set_cons_zero, set_cons_succ]
            refine takeY (i := 17) (oi := q917) (v := ?vj017) rfl ?hj017 ?rj017
            case hj017 => (intro w hSw; (try dsimp only [q917] at hSw ⊢); go_simp; try with_reducible rfl)
            try simp only [q917, Act.put, setIfInBounds_toArray, set_cons_zero, set_cons_succ]
            refine takeY (i := 18) (oi := q918) (v := ?vj018) rfl ?hj018 ?rj018
            case hj018 => (intro w hSw; (try dsimp only [q918] at hSw ⊢); go_simp; try with_reducible rfl)
            try simp only [q918, Act.put, setIfInBounds_toArray, set_cons_zero, set_cons_succ]
            refine takeY (i := 19) (oi := q919) (v := ?vj019) rfl ?hj019 ?rj019
            case hj019 => (intro w hSw; (try dsimp only [q919] at hSw ⊢); go_simp; try with_reducible rfl)
            try simp only [q919, Act.put, setIfInBounds_toArray, set_cons_zero, set_cons_succ]
            refine takeY (i := 20) (oi := q920) (v := ?vj020) rfl ?hj020 ?rj020
            case hj020 => (intro w hSw; (try dsimp only [q920] at hSw ⊢); go_simp; try with_reducible rfl)
            try simp only [q920, Act.put, setIfInBounds_toArray, set_cons_zero, set_cons_succ]
            refine takeY (i := 21) (oi := q921) (v := ?vj021) rfl ?hj021 ?rj021
            case hj021 => (intro w hSw; (try dsimp only [q921] at hSw ⊢); go_simp; try with_reducible rfl)
            try simp only [q921, Act.put, setIfInBounds_toArray, set_cons_zero, set_cons_succ]
            refine takeY (i := 22) (oi := q922) (v := ?vj022) rfl ?hj022 ?rj022
            case hj022 => (intro w hSw; (try dsimp only [q922] at hSw ⊢); go_simp; try with_reducible rfl)
            try simp only [q922, Act.put, setIfInBounds_toArray, set_cons_zero, set_cons_succ]
            refine takeY (i := 23) (oi := q923) (v := ?vj023) rfl ?hj023 ?rj023
            case hj023 => (intro w hSw; (try dsimp only [q923] at hSw ⊢); go_simp; try with_reducible rfl)
            try simp only [q923, Act.put, setIfInBounds_toArray, set_cons_zero, set_cons_succ]
            refine takeY (i := 24) (oi := q924) (v := ?vj024) rfl ?hj024 ?rj024
            case hj024 => (intro w hSw; (try dsimp only [q924] at hSw ⊢); go_simp; try with_reducible rfl)
            try simp only [q924, Act.put, setIfInBounds_toArray, set_cons_zero, set_cons_succ]
            refine takeY (i := 25) (oi := q925) (v := ?vj025) rfl ?hj025 ?rj025
            case hj025 => (intro w hSw; (try dsimp only [q925] at hSw ⊢); go_simp; try with_reducible rfl)
            try simp only [q925, Act.put, setIfInBounds_toArray, set_cons_zero, set_cons_succ]
            refine takeY (i := 26) (oi := q926) (v := ?vj026) rfl ?hj026 ?rj026
            case hj026 => (intro w hSw; (try dsimp only [q926] at hSw ⊢); go_simp; try with_reducible rfl)
            try simp only [q926, Act.put, setIfInBounds_toArray, set_cons_zero, set_cons_succ]
            refine takeY (i := 27) (oi := q927) (v := ?vj027) rfl ?hj027 ?rj027
            case hj027 => (intro w hSw; (try dsimp only [q927] at hSw ⊢); go_simp; try with_reducible rfl)
            try simp only [q927, Act.put, setIfInBounds_toArray, set_cons_zero, set_cons_succ]
            refine takeY (i := 28) (oi := q928) (v := ?vj028) rfl ?hj028 ?rj028
            case hj028 => (intro w hSw; (try dsimp only [q928] at hSw ⊢); go_simp; try with_reducible rfl)
            try simp only [q928, Act.put, setIfInBounds_toArray, set_cons_zero, set_cons_succ]
            refine wpAnyH_ready (rs := [29]) (by kernel_rfl) (by simp) ?_
            refine AllReadyH.cons (o := q929) rfl (fun K hK => ?_) AllReadyH.nil
            dsimp only [q929] at hK ⊢
            go_simp
            (go_at_call 65; refine (KA.out _ (Below.drew (Below.refl _ _))).mono ?_; rintro e w3 ⟨rfl, rfl⟩)
            try (go_wp2_with fail)
            refine hK.out _ _ ?_ (fun hH2 => ?_)
            · (try dsimp only)
              go_keep
            clear hK K hH1
            try simp only [q929, Act.put, setIfInBounds_toArray, set_cons_zero, set_cons_succ]
            refine takeY (i := 30) (oi := q930) (v := ?vj030) rfl ?hj030 ?rj030
            case hj030 => (intro w hSw; (try dsimp only [q930] at hSw ⊢); go_simp; try with_reducible rfl)
            try simp only [q930, Act.put, setIfInBounds_toArray, set_cons_zero, set_cons_succ]
            refine takeY (i := 31) (oi := q931) (v := ?vj031) rfl ?hj031 ?rj031
            case hj031 => (intro w hSw; (try dsimp only [q931] at hSw ⊢); go_simp; try with_reducible rfl)
            try simp only [q931, Act.put, setIfInBounds_toArray, set_cons_zero, set_cons_succ]
            refine takeY (i := 32) (oi := q932) (v := ?vj032) rfl ?hj032 ?rj032
            case hj032 => (intro w hSw; (try dsimp only [q932] at hSw ⊢); go_simp; try with_reducible rfl)
            try simp only [q932, Act.put, setIfInBounds_toArray, set_cons_zero, set_cons_succ]
            refine takeY (i := 33) (oi := q933) (v := ?vj033) rfl ?hj033 ?rj033
            case hj033 => (intro w hSw; (try dsimp only [q933] at hSw ⊢); go_simp; try with_reducible rfl)
            try simp only [q933, Act.put, setIfInBounds_toArray, set_cons_zero, set_cons_succ]
            refine takeY (i := 34) (oi := q934) (v := ?vj034) rfl ?hj034 ?rj034
            case hj034 => (intro w hSw; (try dsimp only [q934] at hSw ⊢); go_simp; try with_reducible rfl)
            try simp only [q934, Act.put, setIfInBounds_toArray, set_cons_zero, set_cons_succ]
            refine takeY (i := 35) (oi := q935) (v := ?vj035) rfl ?hj035 ?rj035
            case hj035 => (intro w hSw; (try dsimp only [q935] at hSw ⊢); go_simp; try with_reducible rfl)
            try simp only [q935, Act.put, setIfInBounds_toArray, set_cons_zero, set_cons_succ]
            refine wpAnyH_ready (rs := [36]) (by kernel_rfl) (by simp) ?_
            refine AllReadyH.cons (o := q936) rfl (fun K hK => ?_) AllReadyH.nil
            dsimp only [q936] at hK ⊢
            go_simp
            (go_at_call 76; refine (KU.out _).mono ?_; rintro e w4 ⟨rfl, hb4⟩; have A4 : Below W0.heap.size W0 w4 := (Below.drew (Below.refl _ _)).trans hb4; have u0 : w4.cell? ⟨b, 0, none⟩ = some (.int .i64 yid) := ((bcell A4).1 _ _ hbW).trans c0; have u1 : w4.cell? ⟨b, 1, none⟩ = some (.int .i64 ypa) := ((bcell A4).1 _ _ hbW).trans c1; have u2 : w4.cell? ⟨b, 2, none⟩ = some (.string ysc) := ((bcell A4).1 _ _ hbW).trans c2; have u3 : w4.cell? ⟨b, 3, none⟩ = some (.string yho) := ((bcell A4).1 _ _ hbW).trans c3; have u4 : w4.cell? ⟨b, 4, none⟩ = some (.int .i64 ypo) := ((bcell A4).1 _ _ hbW).trans c4; have u5 : w4.cell? ⟨b, 5, none⟩ = some (.string ypt) := ((bcell A4).1 _ _ hbW).trans c5; have u6 : w4.cell? ⟨b, 6, none⟩ = some (.bool ysb) := ((bcell A4).1 _ _ hbW).trans c6; have u7 : w4.cell? ⟨b, 7, none⟩ = some (.bool yfl) := ((bcell A4).1 _ _ hbW).trans c7; have u8 : w4.cell? ⟨b, 8, none⟩ = some (.int .i64 ytc) := ((bcell A4).1 _ _ hbW).trans c8; have um : w4.cell? ⟨g, m * 9, none⟩ = some (.int .i64 zid) := ((bcell A4).1 _ _ hgW).trans cm)
            try (go_wp2_with fail)
            refine hK.out _ _ ?_ (fun hH3 => ?_)
            · (try dsimp only)
              go_keep
            clear hK K hH2
            try simp only [q936, Act.put, setIfInBounds_toArray, set_cons_zero, set_cons_succ]
            refine takeY (i := 37) (oi := q937) (v := ?vj037) rfl ?hj037 ?rj037
            case hj037 => (intro w hSw; (try dsimp only [q937] at hSw ⊢); go_simp; try with_reducible rfl)
            try simp only [q937, Act.put, setIfInBounds_toArray, set_cons_zero, set_cons_succ]
            refine takeY (i := 38) (oi := q938) (v := ?vj038) rfl ?hj038 ?rj038
            case hj038 => (intro w hSw; (try dsimp only [q938] at hSw ⊢); go_simp; try with_reducible rfl)
            try simp only [q938, Act.put, setIfInBounds_toArray, set_cons_zero, set_cons_succ]
            refine takeY (i := 39) (oi := q939) (v := ?vj039) rfl ?hj039 ?rj039
            case hj039 => (intro w hSw; (try dsimp only [q939] at hSw ⊢); go_simp; try with_reducible rfl)
            try simp only [q939, Act.put, setIfInBounds_toArray, set_cons_zero, set_cons_succ]
            refine takeN (i := 40) (oi := q940) rfl ?_
            try simp only [q940, Act.put, setIfInBounds_toArray, set_cons_zero, set_cons_succ]
            refine takeN (i := 41) (oi := q941) rfl ?_
            try simp only [q941, Act.put, setIfInBounds_toArray, set_cons_zero, set_cons_succ]
            refine takeN (i := 42) (oi := q942) rfl ?_
            try simp only [q942, Act.put, setIfInBounds_toArray, set_cons_zero, set_cons_succ]
            refine takeN (i := 43) (oi := q943) rfl ?_
            try simp only [q943, Act.put, setIfInBounds_toArray, set_cons_zero, set_cons_succ]
            refine takeY (i := 44) (oi := q944) (v := ?vj044) rfl ?hj044 ?rj044
            case hj044 => (intro w hSw; (try dsimp only [q944] at hSw ⊢); go_simp; try with_reducible rfl)
            try simp only [q944, Act.put, setIfInBounds_toArray, set_cons_zero, set_cons_succ]
            refine takeY (i := 45) (oi := q945) (v := ?vj045) rfl ?hj045 ?rj045
            case hj045 => (intro w hSw; (try dsimp only [q945] at hSw ⊢); go_simp; try with_reducible rfl)
            try simp only [q945, Act.put, setIfInBounds_toArray, set_cons_zero, set_cons_succ]
            refine takeN (i := 46) (oi := q946) rfl ?_
            try simp only [q946, Act.put, setIfInBounds_toArray, set_cons_zero, set_cons_succ]
            refine takeN (i := 47) (oi := q947) rfl ?_
            try simp only [q947, Act.put, setIfInBounds_toArray, set_cons_zero, set_cons_succ]
            refine takeN (i := 48) (oi := q948) rfl ?_
            try simp only [q948, Act.put, setIfInBounds_toArray, set_cons_zero, set_cons_succ]
            refine takeN (i := 49) (oi := q949) rfl ?_
            try simp only [q949, Act.put, setIfInBounds_toArray, set_cons_zero, set_cons_succ]
            refine takeN (i := 50) (oi := q950) rfl ?_
            try simp only [q950, Act.put, setIfInBounds_toArray, set_cons_zero, set_cons_succ]
            refine takeN (i := 51) (oi := q951) rfl ?_
            try simp only [q951, Act.put, setIfInBounds_toArray, set_cons_zero, set_cons_succ]
            refine takeN (i := 52) (oi := q952) rfl ?_
            try simp only [q952, Act.put, setIfInBounds_toArray, set_cons_zero, set_cons_succ]
            refine takeY (i := 53) (oi := q953) (v := ?vj053) rfl ?hj053 ?rj053
            case hj053 => (intro w hSw; (try dsimp only [q953] at hSw ⊢); go_simp; try with_reducible rfl)
            try simp only [q953, Act.put, setIfInBounds_toArray, set_cons_zero, set_cons_succ]
            refine wpAnyH_done (by kernel_rfl) ?_ _
            go_wp2
            go_ret
            exact ⟨ret_bool HQ.out.symm, HBW.out.trans (A4.mono HBW.out.size)⟩
          | true =>
          cases bt with
          | false =>
            have HQ : Hid (R = false) := HBk.out (by rw [HO.out]; exact okB9_t)
            go_upto_region 5 with fail
            rw [← hW0.out]
            clear hW0
            generalize hbb : wr.heap.size = b at *
            clear hbb HB e0 e1 e2 e3 e4 e5 e6 e7 e8
            go_wp2_with fail
            refine wp_region_held_drew (S := (fun w' => w'.cell? ⟨b, 0, none⟩ = some (.int .i64 yid) ∧ w'.cell? ⟨b, 1, none⟩ = some (.int .i64 ypa) ∧ w'.cell? ⟨b, 2, none⟩ = some (.string ysc) ∧ w'.cell? ⟨b, 3, none⟩ = some (.string yho) ∧ w'.cell? ⟨b, 4, none⟩ = some (.int .i64 ypo) ∧ w'.cell? ⟨b, 5, none⟩ = some (.string ypt) ∧ w'.cell? ⟨b, 6, none⟩ = some (.bool ysb) ∧ w'.cell? ⟨b, 7, none⟩ = some (.bool yfl) ∧ w'.cell? ⟨b, 8, none⟩ = some (.int .i64 ytc) ∧ w'.cell? ⟨g, m * 9, none⟩ = some (.int .i64 zid))) (by kernel_rfl) ?_ (fun hH0 => ?_)
            · (try dsimp only)
              go_keep
            refine takeY (i := 0) (oi := q90) (v := ?vk00) rfl ?hk00 ?rk00
            case hk00 => (intro w hSw; (try dsimp only [q90] at hSw ⊢); go_simp; try with_reducible rfl)
            try simp only [q90, Act.put, setIfInBounds_toArray, set_cons_zero, set_cons_succ]
            refine takeY (i := 1) (oi := q91) (v := ?vk01) rfl ?hk01 ?rk01
            case hk01 => (intro w hSw; (try dsimp only [q91] at hSw ⊢); go_simp; try with_reducible rfl)
            try simp only [q91, Act.put, setIfInBounds_toArray, set_cons_zero, set_cons_succ]
            refine wpAnyH_ready (rs := [2]) (by kernel_rfl) (by simp) ?_
            refine AllReadyH.cons (o := q92) rfl (fun K hK => ?_) AllReadyH.nil
            dsimp only [q92] at hK ⊢
            go_simp
            (go_at_call 51; refine (KI.out _).mono ?_; rintro e w2 ⟨rfl, rfl⟩)
            try (go_wp2_with fail)
            refine hK.out _ _ ?_ (fun hH1 => ?_)
            · (try dsimp only)
              go_keep
            clear hK K hH0
            try simp only [q92, Act.put, setIfInBounds_toArray, set_cons_zero, set_cons_succ]
            refine takeY (i := 3) (oi := q93) (v := ?vk03) rfl ?hk03 ?rk03
            case hk03 => (intro w hSw; (try dsimp only [q93] at hSw ⊢); go_simp; try with_reducible rfl)
            try simp only [q93, Act.put, setIfInBounds_toArray, set_cons_zero, set_cons_succ]
            refine takeY (i := 4) (oi := q94) (v := ?vk04) rfl ?hk04 ?rk04
            case hk04 => (intro w hSw; (try dsimp only [q94] at hSw ⊢); go_simp; try with_reducible rfl)
            try simp only [q94, Act.put, setIfInBounds_toArray, set_cons_zero, set_cons_succ]
            refine takeY (i := 5) (oi := q95) (v := ?vk05) rfl ?hk05 ?rk05
            case hk05 => (intro w hSw; (try dsimp only [q95] at hSw ⊢); go_simp; try with_reducible rfl)
            try simp only [q95, Act.put, setIfInBounds_toArray, set_cons_zero, set_cons_succ]
            refine takeY (i := 6) (oi := q96) (v := ?vk06) rfl ?hk06 ?rk06
            case hk06 => (intro w hSw; (try dsimp only [q96] at hSw ⊢); go_simp; try with_reducible rfl)
            try simp only [q96, Act.put, setIfInBounds_toArray, set_cons_zero, set_cons_succ]
            refine takeY (i := 7) (oi := q97) (v := ?vk07) rfl ?hk07 ?rk07
            case hk07 => (intro w hSw; (try dsimp only [q97] at hSw ⊢); go_simp; try with_reducible rfl)
            try simp only [q97, Act.put, setIfInBounds_toArray, set_cons_zero, set_cons_succ]
            refine takeY (i := 8) (oi := q98) (v := ?vk08) rfl ?hk08 ?rk08
            case hk08 => (intro w hSw; (try dsimp only [q98] at hSw ⊢); go_simp; try with_reducible rfl)
            try simp only [q98, Act.put, setIfInBounds_toArray, set_cons_zero, set_cons_succ]
            refine takeY (i := 9) (oi := q99) (v := ?vk09) rfl ?hk09 ?rk09
            case hk09 => (intro w hSw; (try dsimp only [q99] at hSw ⊢); go_simp; try with_reducible rfl)
            try simp only [q99, Act.put, setIfInBounds_toArray, set_cons_zero, set_cons_succ]
            refine takeY (i := 10) (oi := q910) (v := ?vk010) rfl ?hk010 ?rk010
            case hk010 => (intro w hSw; (try dsimp only [q910] at hSw ⊢); go_simp; try with_reducible rfl)
            try simp only [q910, Act.put, setIfInBounds_toArray, set_cons_zero, set_cons_succ]
            refine takeY (i := 11) (oi := q911) (v := ?vk011) rfl ?hk011 ?rk011
            case hk011 => (intro w hSw; (try dsimp only [q911] at hSw ⊢); go_simp; try with_reducible rfl)
            try simp only [q911, Act.put, setIfInBounds_toArray, set_cons_zero, set_cons_succ]
            refine takeY (i := 12) (oi := q912) (v := ?vk012) rfl ?hk012 ?rk012
            case hk012 => (intro w hSw; (try dsimp only [q912] at hSw ⊢); go_simp; try with_reducible rfl)
            try simp only [q912, Act.put, setIfInBounds_toArray, set_cons_zero, set_cons_succ]
            refine takeY (i := 13) (oi := q913) (v := ?vk013) rfl ?hk013 ?rk013
            case hk013 => (intro w hSw; (try dsimp only [q913] at hSw ⊢); go_simp; try with_reducible rfl)
            try simp only [q913, Act.put, setIfInBounds_toArray, set_cons_zero, set_cons_succ]
            refine takeY (i := 14) (oi := q914) (v := ?vk014) rfl ?hk014 ?rk014
            case hk014 => (intro w hSw; (try dsimp only [q914] at hSw ⊢); go_simp; try with_reducible rfl)
            try simp only [q914, Act.put, setIfInBounds_toArray, set_cons_zero, set_cons_succ]
            refine takeY (i := 15) (oi := q915) (v := ?vk015) rfl ?hk015 ?rk015
            case hk015 => (intro w hSw; (try dsimp only [q915] at hSw ⊢); go_simp; try with_reducible rfl)
            try simp only [q915, Act.put, setIfInBounds_toArray, set_cons_zero, set_cons_succ]
            refine takeY (i := 16) (oi := q916) (v := ?vk016) rfl ?hk016 ?rk016
            case hk016 => (intro w hSw; (try dsimp only [q916] at hSw ⊢); go_simp; try with_reducible rfl)
            try simp only [q916, Act.put, setIfInBounds_toArray, set_cons_zero, set_cons_succ]
            refine takeY (i := 17) (oi := q917) (v := ?vk017) rfl ?hk017 ?rk017
            case hk017 => (intro w hSw; (try dsimp only [q917] at hSw ⊢); go_simp; try with_reducible rfl)
            try simp only [q917, Act.put, setIfInBounds_toArray, set_cons_zero, set_cons_succ]
            refine takeY (i := 18) (oi := q918) (v := ?vk018) rfl ?hk018 ?rk018
            case hk018 => (intro w hSw; (try dsimp only [q918] at hSw ⊢); go_simp; try with_reducible rfl)
            try simp only [q918, Act.put, setIfInBounds_toArray, set_cons_zero, set_cons_succ]
            refine takeY (i := 19) (oi := q919) (v := ?vk019) rfl ?hk019 ?rk019
            case hk019 => (intro w hSw; (try dsimp only [q919] at hSw ⊢); go_simp; try with_reducible rfl)
            try simp only [q919, Act.put, setIfInBounds_toArray, set_cons_zero, set_cons_succ]
            refine takeY (i := 20) (oi := q920) (v := ?vk020) rfl ?hk020 ?rk020
            case hk020 => (intro w hSw; (try dsimp only [q920] at hSw ⊢); go_simp; try with_reducible rfl)
            try simp only [q920, Act.put, setIfInBounds_toArray, set_cons_zero, set_cons_succ]
            refine takeY (i := 21) (oi := q921) (v := ?vk021) rfl ?hk021 ?rk021
            case hk021 => (intro w hSw; (try dsimp only [q921] at hSw ⊢); go_simp; try with_reducible rfl)
            try simp only [q921, Act.put, setIfInBounds_toArray, set_cons_zero, set_cons_succ]
            refine takeY (i := 22) (oi := q922) (v := ?vk022) rfl ?hk022 ?rk022
            case hk022 => (intro w hSw; (try dsimp only [q922] at hSw ⊢); go_simp; try with_reducible rfl)
            try simp only [q922, Act.put, setIfInBounds_toArray, set_cons_zero, set_cons_succ]
            refine takeY (i := 23) (oi := q923) (v := ?vk023) rfl ?hk023 ?rk023
            case hk023 => (intro w hSw; (try dsimp only [q923] at hSw ⊢); go_simp; try with_reducible rfl)
            try simp only [q923, Act.put, setIfInBounds_toArray, set_cons_zero, set_cons_succ]
            refine takeY (i := 24) (oi := q924) (v := ?vk024) rfl ?hk024 ?rk024
            case hk024 => (intro w hSw; (try dsimp only [q924] at hSw ⊢); go_simp; try with_reducible rfl)
            try simp only [q924, Act.put, setIfInBounds_toArray, set_cons_zero, set_cons_succ]
            refine takeY (i := 25) (oi := q925) (v := ?vk025) rfl ?hk025 ?rk025
            case hk025 => (intro w hSw; (try dsimp only [q925] at hSw ⊢); go_simp; try with_reducible rfl)
            try simp only [q925, Act.put, setIfInBounds_toArray, set_cons_zero, set_cons_succ]
            refine takeY (i := 26) (oi := q926) (v := ?vk026) rfl ?hk026 ?rk026
            case hk026 => (intro w hSw; (try dsimp only [q926] at hSw ⊢); go_simp; try with_reducible rfl)
            try simp only [q926, Act.put, setIfInBounds_toArray, set_cons_zero, set_cons_succ]
            refine takeY (i := 27) (oi := q927) (v := ?vk027) rfl ?hk027 ?rk027
            case hk027 => (intro w hSw; (try dsimp only [q927] at hSw ⊢); go_simp; try with_reducible rfl)
            try simp only [q927, Act.put, setIfInBounds_toArray, set_cons_zero, set_cons_succ]
            refine takeY (i := 28) (oi := q928) (v := ?vk028) rfl ?hk028 ?rk028
            case hk028 => (intro w hSw; (try dsimp only [q928] at hSw ⊢); go_simp; try with_reducible rfl)
            try simp only [q928, Act.put, setIfInBounds_toArray, set_cons_zero, set_cons_succ]
            refine wpAnyH_ready (rs := [29]) (by kernel_rfl) (by simp) ?_
            refine AllReadyH.cons (o := q929) rfl (fun K hK => ?_) AllReadyH.nil
            dsimp only [q929] at hK ⊢
            go_simp
            (go_at_call 65; refine (KA.out _ (Below.drew (Below.refl _ _))).mono ?_; rintro e w3 ⟨rfl, rfl⟩)
            try (go_wp2_with fail)
            refine hK.out _ _ ?_ (fun hH2 => ?_)
            · (try dsimp only)
              go_keep
            clear hK K hH1
            try simp only [q929, Act.put, setIfInBounds_toArray, set_cons_zero, set_cons_succ]
            refine takeY (i := 30) (oi := q930) (v := ?vk030) rfl ?hk030 ?rk030
            case hk030 => (intro w hSw; (try dsimp only [q930] at hSw ⊢); go_simp; try with_reducible rfl)
            try simp only [q930, Act.put, setIfInBounds_toArray, set_cons_zero, set_cons_succ]
            refine takeY (i := 31) (oi := q931) (v := ?vk031) rfl ?hk031 ?rk031
            case hk031 => (intro w hSw; (try dsimp only [q931] at hSw ⊢); go_simp; try with_reducible rfl)
            try simp only [q931, Act.put, setIfInBounds_toArray, set_cons_zero, set_cons_succ]
            refine takeY (i := 32) (oi := q932) (v := ?vk032) rfl ?hk032 ?rk032
            case hk032 => (intro w hSw; (try dsimp only [q932] at hSw ⊢); go_simp; try with_reducible rfl)
            try simp only [q932, Act.put, setIfInBounds_toArray, set_cons_zero, set_cons_succ]
            refine takeY (i := 33) (oi := q933) (v := ?vk033) rfl ?hk033 ?rk033
            case hk033 => (intro w hSw; (try dsimp only [q933] at hSw ⊢); go_simp; try with_reducible rfl)
            try simp only [q933, Act.put, setIfInBounds_toArray, set_cons_zero, set_cons_succ]
            refine takeY (i := 34) (oi := q934) (v := ?vk034) rfl ?hk034 ?rk034
            case hk034 => (intro w hSw; (try dsimp only [q934] at hSw ⊢); go_simp; try with_reducible rfl)
            try simp only [q934, Act.put, setIfInBounds_toArray, set_cons_zero, set_cons_succ]
            refine takeY (i := 35) (oi := q935) (v := ?vk035) rfl ?hk035 ?rk035
            case hk035 => (intro w hSw; (try dsimp only [q935] at hSw ⊢); go_simp; try with_reducible rfl)
            try simp only [q935, Act.put, setIfInBounds_toArray, set_cons_zero, set_cons_succ]
            refine wpAnyH_ready (rs := [36]) (by kernel_rfl) (by simp) ?_
            refine AllReadyH.cons (o := q936) rfl (fun K hK => ?_) AllReadyH.nil
            dsimp only [q936] at hK ⊢
            go_simp
            (go_at_call 76; refine (KU.out _).mono ?_; rintro e w4 ⟨rfl, hb4⟩; have A4 : Below W0.heap.size W0 w4 := (Below.drew (Below.refl _ _)).trans hb4; have u0 : w4.cell? ⟨b, 0, none⟩ = some (.int .i64 yid) := ((bcell A4).1 _ _ hbW).trans c0; have u1 : w4.cell? ⟨b, 1, none⟩ = some (.int .i64 ypa) := ((bcell A4).1 _ _ hbW).trans c1; have u2 : w4.cell? ⟨b, 2, none⟩ = some (.string ysc) := ((bcell A4).1 _ _ hbW).trans c2; have u3 : w4.cell? ⟨b, 3, none⟩ = some (.string yho) := ((bcell A4).1 _ _ hbW).trans c3; have u4 : w4.cell? ⟨b, 4, none⟩ = some (.int .i64 ypo) := ((bcell A4).1 _ _ hbW).trans c4; have u5 : w4.cell? ⟨b, 5, none⟩ = some (.string ypt) := ((bcell A4).1 _ _ hbW).trans c5; have u6 : w4.cell? ⟨b, 6, none⟩ = some (.bool ysb) := ((bcell A4).1 _ _ hbW).trans c6; have u7 : w4.cell? ⟨b, 7, none⟩ = some (.bool yfl) := ((bcell A4).1 _ _ hbW).trans c7; have u8 : w4.cell? ⟨b, 8, none⟩ = some (.int .i64 ytc) := ((bcell A4).1 _ _ hbW).trans c8; have um : w4.cell? ⟨g, m * 9, none⟩ = some (.int .i64 zid) := ((bcell A4).1 _ _ hgW).trans cm)
            try (go_wp2_with fail)
            refine hK.out _ _ ?_ (fun hH3 => ?_)
            · (try dsimp only)
              go_keep
            clear hK K hH2
            try simp only [q936, Act.put, setIfInBounds_toArray, set_cons_zero, set_cons_succ]
            refine takeY (i := 37) (oi := q937) (v := ?vk037) rfl ?hk037 ?rk037
            case hk037 => (intro w hSw; (try dsimp only [q937] at hSw ⊢); go_simp; try with_reducible rfl)
            try simp only [q937, Act.put, setIfInBounds_toArray, set_cons_zero, set_cons_succ]
            refine takeY (i := 38) (oi := q938) (v := ?vk038) rfl ?hk038 ?rk038
            case hk038 => (intro w hSw; (try dsimp only [q938] at hSw ⊢); go_simp; try with_reducible rfl)
            try simp only [q938, Act.put, setIfInBounds_toArray, set_cons_zero, set_cons_succ]
            refine takeY (i := 39) (oi := q939) (v := ?vk039) rfl ?hk039 ?rk039
            case hk039 => (intro w hSw; (try dsimp only [q939] at hSw ⊢); go_simp; try with_reducible rfl)
            try simp only [q939, Act.put, setIfInBounds_toArray, set_cons_zero, set_cons_succ]
            refine takeY (i := 40) (oi := q940) (v := ?vk040) rfl ?hk040 ?rk040
            case hk040 => (intro w hSw; (try dsimp only [q940] at hSw ⊢); go_simp; try with_reducible rfl)
            try simp only [q940, Act.put, setIfInBounds_toArray, set_cons_zero, set_cons_succ]
            refine takeY (i := 41) (oi := q941) (v := ?vk041) rfl ?hk041 ?rk041
            case hk041 => (intro w hSw; (try dsimp only [q941] at hSw ⊢); go_simp; try with_reducible rfl)
            try simp only [q941, Act.put, setIfInBounds_toArray, set_cons_zero, set_cons_succ]
            refine wpAnyH_ready (rs := [42]) (by kernel_rfl) (by simp) ?_
            refine AllReadyH.cons (o := q942) rfl (fun K hK => ?_) AllReadyH.nil
            dsimp only [q942] at hK ⊢
            go_simp
            (go_at_call 31; refine (KT.out _).mono ?_; rintro e w5 ⟨rfl, e5⟩; obtain rfl := e5.symm)
            try (go_wp2_with fail)
            refine hK.out _ _ ?_ (fun hH4 => ?_)
            · (try dsimp only)
              go_keep
            clear hK K hH3
            try simp only [q942, Act.put, setIfInBounds_toArray, set_cons_zero, set_cons_succ]
            refine takeY (i := 43) (oi := q943) (v := ?vk043) rfl ?hk043 ?rk043
            case hk043 => (intro w hSw; (try dsimp only [q943] at hSw ⊢); go_simp; try with_reducible rfl)
            try simp only [q943, Act.put, setIfInBounds_toArray, set_cons_zero, set_cons_succ]
            refine takeY (i := 44) (oi := q944) (v := ?vk044) rfl ?hk044 ?rk044
            case hk044 => (intro w hSw; (try dsimp only [q944] at hSw ⊢); go_simp; try with_reducible rfl)
            try simp only [q944, Act.put, setIfInBounds_toArray, set_cons_zero, set_cons_succ]
            refine takeY (i := 45) (oi := q945) (v := ?vk045) rfl ?hk045 ?rk045
            case hk045 => (intro w hSw; (try dsimp only [q945] at hSw ⊢); go_simp; try with_reducible rfl)
            try simp only [q945, Act.put, setIfInBounds_toArray, set_cons_zero, set_cons_succ]
            refine takeN (i := 46) (oi := q946) rfl ?_
            try simp only [q946, Act.put, setIfInBounds_toArray, set_cons_zero, set_cons_succ]
            refine takeN (i := 47) (oi := q947) rfl ?_
            try simp only [q947, Act.put, setIfInBounds_toArray, set_cons_zero, set_cons_succ]
            refine takeN (i := 48) (oi := q948) rfl ?_
            try simp only [q948, Act.put, setIfInBounds_toArray, set_cons_zero, set_cons_succ]
            refine takeN (i := 49) (oi := q949) rfl ?_
            try simp only [q949, Act.put, setIfInBounds_toArray, set_cons_zero, set_cons_succ]
            refine takeN (i := 50) (oi := q950) rfl ?_
            try simp only [q950, Act.put, setIfInBounds_toArray, set_cons_zero, set_cons_succ]
            refine takeN (i := 51) (oi := q951) rfl ?_
            try simp only [q951, Act.put, setIfInBounds_toArray, set_cons_zero, set_cons_succ]
            refine takeN (i := 52) (oi := q952) rfl ?_
            try simp only [q952, Act.put, setIfInBounds_toArray, set_cons_zero, set_cons_succ]
            refine takeY (i := 53) (oi := q953) (v := ?vk053) rfl ?hk053 ?rk053
            case hk053 => (intro w hSw; (try dsimp only [q953] at hSw ⊢); go_simp; try with_reducible rfl)
            try simp only [q953, Act.put, setIfInBounds_toArray, set_cons_zero, set_cons_succ]
            refine wpAnyH_done (by kernel_rfl) ?_ _
            go_wp2
            go_ret
            exact ⟨ret_bool HQ.out.symm, HBW.out.trans (A4.mono HBW.out.size)⟩
          | true =>
            have HN : Hid (∀ j, j < m + 1 + 1 → okF L j = true) := HSt.out (by rw [HO.out]; exact okB9_yes hbi hla (.inr (by omega)) (.inl hp))
            go_upto_region 5 with fail
            rw [← hW0.out]
            clear hW0
            generalize hbb : wr.heap.size = b at *
            clear hbb HB e0 e1 e2 e3 e4 e5 e6 e7 e8
            go_wp2_with fail
            refine wp_region_held_drew (S := (fun w' => w'.cell? ⟨b, 0, none⟩ = some (.int .i64 yid) ∧ w'.cell? ⟨b, 1, none⟩ = some (.int .i64 ypa) ∧ w'.cell? ⟨b, 2, none⟩ = some (.string ysc) ∧ w'.cell? ⟨b, 3, none⟩ = some (.string yho) ∧ w'.cell? ⟨b, 4, none⟩ = some (.int .i64 ypo) ∧ w'.cell? ⟨b, 5, none⟩ = some (.string ypt) ∧ w'.cell? ⟨b, 6, none⟩ = some (.bool ysb) ∧ w'.cell? ⟨b, 7, none⟩ = some (.bool yfl) ∧ w'.cell? ⟨b, 8, none⟩ = some (.int .i64 ytc) ∧ w'.cell? ⟨g, m * 9, none⟩ = some (.int .i64 zid))) (by kernel_rfl) ?_ (fun hH0 => ?_)
            · (try dsimp only)
              go_keep
            refine takeY (i := 0) (oi := q90) (v := ?vl00) rfl ?hl00 ?rl00
            case hl00 => (intro w hSw; (try dsimp only [q90] at hSw ⊢); go_simp; try with_reducible rfl)
            try simp only [q90, Act.put, setIfInBounds_toArray, set_cons_zero, set_cons_succ]
            refine takeY (i := 1) (oi := q91) (v := ?vl01) rfl ?hl01 ?rl01
            case hl01 => (intro w hSw; (try dsimp only [q91] at hSw ⊢); go_simp; try with_reducible rfl)
            try simp only [q91, Act.put, setIfInBounds_toArray, set_cons_zero, set_cons_succ]
            refine wpAnyH_ready (rs := [2]) (by kernel_rfl) (by simp) ?_
            refine AllReadyH.cons (o := q92) rfl (fun K hK => ?_) AllReadyH.nil
            dsimp only [q92] at hK ⊢
            go_simp
            (go_at_call 51; refine (KI.out _).mono ?_; rintro e w2 ⟨rfl, rfl⟩)
            try (go_wp2_with fail)
            refine hK.out _ _ ?_ (fun hH1 => ?_)
            · (try dsimp only)
              go_keep
            clear hK K hH0
            try simp only [q92, Act.put, setIfInBounds_toArray, set_cons_zero, set_cons_succ]
            refine takeY (i := 3) (oi := q93) (v := ?vl03) rfl ?hl03 ?rl03
            case hl03 => (intro w hSw; (try dsimp only [q93] at hSw ⊢); go_simp; try with_reducible rfl)
            try simp only [q93, Act.put, setIfInBounds_toArray, set_cons_zero, set_cons_succ]
            refine takeY (i := 4) (oi := q94) (v := ?vl04) rfl ?hl04 ?rl04
            case hl04 => (intro w hSw; (try dsimp only [q94] at hSw ⊢); go_simp; try with_reducible rfl)
            try simp only [q94, Act.put, setIfInBounds_toArray, set_cons_zero, set_cons_succ]
            refine takeY (i := 5) (oi := q95) (v := ?vl05) rfl ?hl05 ?rl05
            case hl05 => (intro w hSw; (try dsimp only [q95] at hSw ⊢); go_simp; try with_reducible rfl)
            try simp only [q95, Act.put, setIfInBounds_toArray, set_cons_zero, set_cons_succ]
            refine takeY (i := 6) (oi := q96) (v := ?vl06) rfl ?hl06 ?rl06
            case hl06 => (intro w hSw; (try dsimp only [q96] at hSw ⊢); go_simp; try with_reducible rfl)
            try simp only [q96, Act.put, setIfInBounds_toArray, set_cons_zero, set_cons_succ]
            refine takeY (i := 7) (oi := q97) (v := ?vl07) rfl ?hl07 ?rl07
            case hl07 => (intro w hSw; (try dsimp only [q97] at hSw ⊢); go_simp; try with_reducible rfl)
            try simp only [q97, Act.put, setIfInBounds_toArray, set_cons_zero, set_cons_succ]
            refine takeY (i := 8) (oi := q98) (v := ?vl08) rfl ?hl08 ?rl08
            case hl08 => (intro w hSw; (try dsimp only [q98] at hSw ⊢); go_simp; try with_reducible rfl)
            try simp only [q98, Act.put, setIfInBounds_toArray, set_cons_zero, set_cons_succ]
            refine takeY (i := 9) (oi := q99) (v := ?vl09) rfl ?hl09 ?rl09
            case hl09 => (intro w hSw; (try dsimp only [q99] at hSw ⊢); go_simp; try with_reducible rfl)
            try simp only [q99, Act.put, setIfInBounds_toArray, set_cons_zero, set_cons_succ]
            refine takeY (i := 10) (oi := q910) (v := ?vl010) rfl ?hl010 ?rl010
            case hl010 => (intro w hSw; (try dsimp only [q910] at hSw ⊢); go_simp; try with_reducible rfl)
            try simp only [q910, Act.put, setIfInBounds_toArray, set_cons_zero, set_cons_succ]
            refine takeY (i := 11) (oi := q911) (v := ?vl011) rfl ?hl011 ?rl011
            case hl011 => (intro w hSw; (try dsimp only [q911] at hSw ⊢); go_simp; try with_reducible rfl)
            try simp only [q911, Act.put, setIfInBounds_toArray, set_cons_zero, set_cons_succ]
            refine takeY (i := 12) (oi := q912) (v := ?vl012) rfl ?hl012 ?rl012
            case hl012 => (intro w hSw; (try dsimp only [q912] at hSw ⊢); go_simp; try with_reducible rfl)
            try simp only [q912, Act.put, setIfInBounds_toArray, set_cons_zero, set_cons_succ]
            refine takeY (i := 13) (oi := q913) (v := ?vl013) rfl ?hl013 ?rl013
            case hl013 => (intro w hSw; (try dsimp only [q913] at hSw ⊢); go_simp; try with_reducible rfl)
            try simp only [q913, Act.put, setIfInBounds_toArray, set_cons_zero, set_cons_succ]
            refine takeY (i := 14) (oi := q914) (v := ?vl014) rfl ?hl014 ?rl014
            case hl014 => (intro w hSw; (try dsimp only [q914] at hSw ⊢); go_simp; try with_reducible rfl)
            try simp only [q914, Act.put, setIfInBounds_toArray, set_cons_zero, set_cons_succ]
            refine takeY (i := 15) (oi := q915) (v := ?vl015) rfl ?hl015 ?rl015
            case hl015 => (intro w hSw; (try dsimp only [q915] at hSw ⊢); go_simp; try with_reducible rfl)
            try simp only [q915, Act.put, setIfInBounds_toArray, set_cons_zero, set_cons_succ]
            refine takeY (i := 16) (oi := q916) (v := ?vl016) rfl ?hl016 ?rl016
            case hl016 => (intro w hSw; (try dsimp only [q916] at hSw ⊢); go_simp; try with_reducible rfl)
            try simp only [q916, Act.put, setIfInBounds_toArray, set_cons_zero, set_cons_succ]
            refine takeY (i := 17) (oi := q917) (v := ?vl017) rfl ?hl017 ?rl017
            case hl017 => (intro w hSw; (try dsimp only [q917] at hSw ⊢); go_simp; try with_reducible rfl)
            try simp only [q917, Act.put, setIfInBounds_toArray, set_cons_zero, set_cons_succ]
            refine takeY (i := 18) (oi := q918) (v := ?vl018) rfl ?hl018 ?rl018
            case hl018 => (intro w hSw; (try dsimp only [q918] at hSw ⊢); go_simp; try with_reducible rfl)
            try simp only [q918, Act.put, setIfInBounds_toArray, set_cons_zero, set_cons_succ]
            refine takeY (i := 19) (oi := q919) (v := ?vl019) rfl ?hl019 ?rl019
            case hl019 => (intro w hSw; (try dsimp only [q919] at hSw ⊢); go_simp; try with_reducible rfl)
            try simp only [q919, Act.put, setIfInBounds_toArray, set_cons_zero, set_cons_succ]
            refine takeY (i := 20) (oi := q920) (v := ?vl020) rfl ?hl020 ?rl020
            case hl020 => (intro w hSw; (try dsimp only [q920] at hSw ⊢); go_simp; try with_reducible rfl)
            try simp only [q920, Act.put, setIfInBounds_toArray, set_cons_zero, set_cons_succ]
            refine takeY (i := 21) (oi := q921) (v := ?vl021) rfl ?hl021 ?rl021
            case hl021 => (intro w hSw; (try dsimp only [q921] at hSw ⊢); go_simp; try with_reducible rfl)
            try simp only [q921, Act.put, setIfInBounds_toArray, set_cons_zero, set_cons_succ]
            refine takeY (i := 22) (oi := q922) (v := ?vl022) rfl ?hl022 ?rl022
            case hl022 => (intro w hSw; (try dsimp only [q922] at hSw ⊢); go_simp; try with_reducible rfl)
            try simp only [q922, Act.put, setIfInBounds_toArray, set_cons_zero, set_cons_succ]
            refine takeY (i := 23) (oi := q923) (v := ?vl023) rfl ?hl023 ?rl023
            case hl023 => (intro w hSw; (try dsimp only [q923] at hSw ⊢); go_simp; try with_reducible rfl)
            try simp only [q923, Act.put, setIfInBounds_toArray, set_cons_zero, set_cons_succ]
            refine takeY (i := 24) (oi := q924) (v := ?vl024) rfl ?hl024 ?rl024
            case hl024 => (intro w hSw; (try dsimp only [q924] at hSw ⊢); go_simp; try with_reducible rfl)
            try simp only [q924, Act.put, setIfInBounds_toArray, set_cons_zero, set_cons_succ]
            refine takeY (i := 25) (oi := q925) (v := ?vl025) rfl ?hl025 ?rl025
            case hl025 => (intro w hSw; (try dsimp only [q925] at hSw ⊢); go_simp; try with_reducible rfl)
            try simp only [q925, Act.put, setIfInBounds_toArray, set_cons_zero, set_cons_succ]
            refine takeY (i := 26) (oi := q926) (v := ?vl026) rfl ?hl026 ?rl026
            case hl026 => (intro w hSw; (try dsimp only [q926] at hSw ⊢); go_simp; try with_reducible rfl)
            try simp only [q926, Act.put, setIfInBounds_toArray, set_cons_zero, set_cons_succ]
            refine takeY (i := 27) (oi := q927) (v := ?vl027) rfl ?hl027 ?rl027
            case hl027 => (intro w hSw; (try dsimp only [q927] at hSw ⊢); go_simp; try with_reducible rfl)
            try simp only [q927, Act.put, setIfInBounds_toArray, set_cons_zero, set_cons_succ]
            refine takeY (i := 28) (oi := q928) (v := ?vl028) rfl ?hl028 ?rl028
            case hl028 => (intro w hSw; (try dsimp only [q928] at hSw ⊢); go_simp; try with_reducible rfl)
            try simp only [q928, Act.put, setIfInBounds_toArray, set_cons_zero, set_cons_succ]
            refine wpAnyH_ready (rs := [29]) (by kernel_rfl) (by simp) ?_
            refine AllReadyH.cons (o := q929) rfl (fun K hK => ?_) AllReadyH.nil
            dsimp only [q929] at hK ⊢
            go_simp
            (go_at_call 65; refine (KA.out _ (Below.drew (Below.refl _ _))).mono ?_; rintro e w3 ⟨rfl, rfl⟩)
            try (go_wp2_with fail)
            refine hK.out _ _ ?_ (fun hH2 => ?_)
            · (try dsimp only)
              go_keep
            clear hK K hH1
            try simp only [q929, Act.put, setIfInBounds_toArray, set_cons_zero, set_cons_succ]
            refine takeY (i := 30) (oi := q930) (v := ?vl030) rfl ?hl030 ?rl030
            case hl030 => (intro w hSw; (try dsimp only [q930] at hSw ⊢); go_simp; try with_reducible rfl)
            try simp only [q930, Act.put, setIfInBounds_toArray, set_cons_zero, set_cons_succ]
            refine takeY (i := 31) (oi := q931) (v := ?vl031) rfl ?hl031 ?rl031
            case hl031 => (intro w hSw; (try dsimp only [q931] at hSw ⊢); go_simp; try with_reducible rfl)
            try simp only [q931, Act.put, setIfInBounds_toArray, set_cons_zero, set_cons_succ]
            refine takeY (i := 32) (oi := q932) (v := ?vl032) rfl ?hl032 ?rl032
            case hl032 => (intro w hSw; (try dsimp only [q932] at hSw ⊢); go_simp; try with_reducible rfl)
            try simp only [q932, Act.put, setIfInBounds_toArray, set_cons_zero, set_cons_succ]
            refine takeY (i := 33) (oi := q933) (v := ?vl033) rfl ?hl033 ?rl033
            case hl033 => (intro w hSw; (try dsimp only [q933] at hSw ⊢); go_simp; try with_reducible rfl)
            try simp only [q933, Act.put, setIfInBounds_toArray, set_cons_zero, set_cons_succ]
            refine takeY (i := 34) (oi := q934) (v := ?vl034) rfl ?hl034 ?rl034
            case hl034 => (intro w hSw; (try dsimp only [q934] at hSw ⊢); go_simp; try with_reducible rfl)
            try simp only [q934, Act.put, setIfInBounds_toArray, set_cons_zero, set_cons_succ]
            refine takeY (i := 35) (oi := q935) (v := ?vl035) rfl ?hl035 ?rl035
            case hl035 => (intro w hSw; (try dsimp only [q935] at hSw ⊢); go_simp; try with_reducible rfl)
            try simp only [q935, Act.put, setIfInBounds_toArray, set_cons_zero, set_cons_succ]
            refine wpAnyH_ready (rs := [36]) (by kernel_rfl) (by simp) ?_
            refine AllReadyH.cons (o := q936) rfl (fun K hK => ?_) AllReadyH.nil
            dsimp only [q936] at hK ⊢
            go_simp
            (go_at_call 76; refine (KU.out _).mono ?_; rintro e w4 ⟨rfl, hb4⟩; have A4 : Below W0.heap.size W0 w4 := (Below.drew (Below.refl _ _)).trans hb4; have u0 : w4.cell? ⟨b, 0, none⟩ = some (.int .i64 yid) := ((bcell A4).1 _ _ hbW).trans c0; have u1 : w4.cell? ⟨b, 1, none⟩ = some (.int .i64 ypa) := ((bcell A4).1 _ _ hbW).trans c1; have u2 : w4.cell? ⟨b, 2, none⟩ = some (.string ysc) := ((bcell A4).1 _ _ hbW).trans c2; have u3 : w4.cell? ⟨b, 3, none⟩ = some (.string yho) := ((bcell A4).1 _ _ hbW).trans c3; have u4 : w4.cell? ⟨b, 4, none⟩ = some (.int .i64 ypo) := ((bcell A4).1 _ _ hbW).trans c4; have u5 : w4.cell? ⟨b, 5, none⟩ = some (.string ypt) := ((bcell A4).1 _ _ hbW).trans c5; have u6 : w4.cell? ⟨b, 6, none⟩ = some (.bool ysb) := ((bcell A4).1 _ _ hbW).trans c6; have u7 : w4.cell? ⟨b, 7, none⟩ = some (.bool yfl) := ((bcell A4).1 _ _ hbW).trans c7; have u8 : w4.cell? ⟨b, 8, none⟩ = some (.int .i64 ytc) := ((bcell A4).1 _ _ hbW).trans c8; have um : w4.cell? ⟨g, m * 9, none⟩ = some (.int .i64 zid) := ((bcell A4).1 _ _ hgW).trans cm)
            try (go_wp2_with fail)
            refine hK.out _ _ ?_ (fun hH3 => ?_)
            · (try dsimp only)
              go_keep
            clear hK K hH2
            try simp only [q936, Act.put, setIfInBounds_toArray, set_cons_zero, set_cons_succ]
            refine takeY (i := 37) (oi := q937) (v := ?vl037) rfl ?hl037 ?rl037
            case hl037 => (intro w hSw; (try dsimp only [q937] at hSw ⊢); go_simp; try with_reducible rfl)
            try simp only [q937, Act.put, setIfInBounds_toArray, set_cons_zero, set_cons_succ]
            refine takeY (i := 38) (oi := q938) (v := ?vl038) rfl ?hl038 ?rl038
            case hl038 => (intro w hSw; (try dsimp only [q938] at hSw ⊢); go_simp; try with_reducible rfl)
            try simp only [q938, Act.put, setIfInBounds_toArray, set_cons_zero, set_cons_succ]
            refine takeY (i := 39) (oi := q939) (v := ?vl039) rfl ?hl039 ?rl039
            case hl039 => (intro w hSw; (try dsimp only [q939] at hSw ⊢); go_simp; try with_reducible rfl)
            try simp only [q939, Act.put, setIfInBounds_toArray, set_cons_zero, set_cons_succ]
            refine takeY (i := 40) (oi := q940) (v := ?vl040) rfl ?hl040 ?rl040
            case hl040 => (intro w hSw; (try dsimp only [q940] at hSw ⊢); go_simp; try with_reducible rfl)
            try simp only [q940, Act.put, setIfInBounds_toArray, set_cons_zero, set_cons_succ]
            refine takeY (i := 41) (oi := q941) (v := ?vl041) rfl ?hl041 ?rl041
            case hl041 => (intro w hSw; (try dsimp only [q941] at hSw ⊢); go_simp; try with_reducible rfl)
            try simp only [q941, Act.put, setIfInBounds_toArray, set_cons_zero, set_cons_succ]
            refine wpAnyH_ready (rs := [42]) (by kernel_rfl) (by simp) ?_
            refine AllReadyH.cons (o := q942) rfl (fun K hK => ?_) AllReadyH.nil
            dsimp only [q942] at hK ⊢
            go_simp
            (go_at_call 31; refine (KT.out _).mono ?_; rintro e w5 ⟨rfl, e5⟩; obtain rfl := e5.symm)
            try (go_wp2_with fail)
            refine hK.out _ _ ?_ (fun hH4 => ?_)
            · (try dsimp only)
              go_keep
            clear hK K hH3
            try simp only [q942, Act.put, setIfInBounds_toArray, set_cons_zero, set_cons_succ]
            refine takeY (i := 43) (oi := q943) (v := ?vl043) rfl ?hl043 ?rl043
            case hl043 => (intro w hSw; (try dsimp only [q943] at hSw ⊢); go_simp; try with_reducible rfl)
            try simp only [q943, Act.put, setIfInBounds_toArray, set_cons_zero, set_cons_succ]
            refine takeY (i := 44) (oi := q944) (v := ?vl044) rfl ?hl044 ?rl044
            case hl044 => (intro w hSw; (try dsimp only [q944] at hSw ⊢); go_simp; try with_reducible rfl)
            try simp only [q944, Act.put, setIfInBounds_toArray, set_cons_zero, set_cons_succ]
            refine takeY (i := 45) (oi := q945) (v := ?vl045) rfl ?hl045 ?rl045
            case hl045 => (intro w hSw; (try dsimp only [q945] at hSw ⊢); go_simp; try with_reducible rfl)
            try simp only [q945, Act.put, setIfInBounds_toArray, set_cons_zero, set_cons_succ]
            refine takeY (i := 46) (oi := q946) (v := ?vl046) rfl ?hl046 ?rl046
            case hl046 => (intro w hSw; (try dsimp only [q946] at hSw ⊢); go_simp; try with_reducible rfl)
            try simp only [q946, Act.put, setIfInBounds_toArray, set_cons_zero, set_cons_succ]
            refine takeY (i := 47) (oi := q947) (v := ?vl047) rfl ?hl047 ?rl047
            case hl047 => (intro w hSw; (try dsimp only [q947] at hSw ⊢); go_simp; try with_reducible rfl)
            try simp only [q947, Act.put, setIfInBounds_toArray, set_cons_zero, set_cons_succ]
            refine takeY (i := 48) (oi := q948) (v := ?vl048) rfl ?hl048 ?rl048
            case hl048 => (intro w hSw; (try dsimp only [q948] at hSw ⊢); go_simp; try with_reducible rfl)
            try simp only [q948, Act.put, setIfInBounds_toArray, set_cons_zero, set_cons_succ]
            refine takeY (i := 49) (oi := q949) (v := ?vl049) rfl ?hl049 ?rl049
            case hl049 => (intro w hSw; (try dsimp only [q949] at hSw ⊢); go_simp; try with_reducible rfl)
            try simp only [q949, Act.put, setIfInBounds_toArray, set_cons_zero, set_cons_succ]
            refine takeN (i := 50) (oi := q950) rfl ?_
            try simp only [q950, Act.put, setIfInBounds_toArray, set_cons_zero, set_cons_succ]
            refine takeN (i := 51) (oi := q951) rfl ?_
            try simp only [q951, Act.put, setIfInBounds_toArray, set_cons_zero, set_cons_succ]
            refine takeY (i := 52) (oi := q952) (v := ?vl052) rfl ?hl052 ?rl052
            case hl052 => (intro w hSw; (try dsimp only [q952] at hSw ⊢); go_simp; try with_reducible rfl)
            try simp only [q952, Act.put, setIfInBounds_toArray, set_cons_zero, set_cons_succ]
            refine takeY (i := 53) (oi := q953) (v := ?vl053) rfl ?hl053 ?rl053
            case hl053 => (intro w hSw; (try dsimp only [q953] at hSw ⊢); go_simp; try with_reducible rfl)
            try simp only [q953, Act.put, setIfInBounds_toArray, set_cons_zero, set_cons_succ]
            refine wpAnyH_done (by kernel_rfl) ?_ _
            have BN : Hid (Below w.heap.size w w4) := HBW.out.trans (A4.mono HBW.out.size)
            go_wp2
            go_roundw
            case rel => exact ⟨m + 2, by omega, by go_num, BN, HN⟩
            case measure => simp [intOf]; omega
        | true =>
          have qn : (ypa != 0) = false := by unfold bne; rw [hp]; rfl
          cases bu with
          | false =>
            have HQ : Hid (R = false) := HBk.out (by rw [HO.out]; exact okB9_u)
            go_upto_region 5 with fail
            rw [← hW0.out]
            clear hW0
            generalize hbb : wr.heap.size = b at *
            clear hbb HB e0 e1 e2 e3 e4 e5 e6 e7 e8
            go_wp2_with fail
            refine wp_region_held_drew (S := (fun w' => w'.cell? ⟨b, 0, none⟩ = some (.int .i64 yid) ∧ w'.cell? ⟨b, 1, none⟩ = some (.int .i64 ypa) ∧ w'.cell? ⟨b, 2, none⟩ = some (.string ysc) ∧ w'.cell? ⟨b, 3, none⟩ = some (.string yho) ∧ w'.cell? ⟨b, 4, none⟩ = some (.int .i64 ypo) ∧ w'.cell? ⟨b, 5, none⟩ = some (.string ypt) ∧ w'.cell? ⟨b, 6, none⟩ = some (.bool ysb) ∧ w'.cell? ⟨b, 7, none⟩ = some (.bool yfl) ∧ w'.cell? ⟨b, 8, none⟩ = some (.int .i64 ytc) ∧ w'.cell? ⟨g, m * 9, none⟩ = some (.int .i64 zid))) (by kernel_rfl) ?_ (fun hH0 => ?_)
            · (try dsimp only)
              go_keep
            refine takeY (i := 0) (oi := q90) (v := ?vm00) rfl ?hm00 ?rm00
            case hm00 => (intro w hSw; (try dsimp only [q90] at hSw ⊢); go_simp; try with_reducible rfl)
            try simp only [q90, Act.put, setIfInBounds_toArray, set_cons_zero, set_cons_succ]
            refine takeY (i := 1) (oi := q91) (v := ?vm01) rfl ?hm01 ?rm01
            case hm01 => (intro w hSw; (try dsimp only [q91] at hSw ⊢); go_simp; try with_reducible rfl)
            try simp only [q91, Act.put, setIfInBounds_toArray, set_cons_zero, set_cons_succ]
            refine wpAnyH_ready (rs := [2]) (by kernel_rfl) (by simp) ?_
            refine AllReadyH.cons (o := q92) rfl (fun K hK => ?_) AllReadyH.nil
            dsimp only [q92] at hK ⊢
            go_simp
            (go_at_call 51; refine (KI.out _).mono ?_; rintro e w2 ⟨rfl, rfl⟩)
            try (go_wp2_with fail)
            refine hK.out _ _ ?_ (fun hH1 => ?_)
            · (try dsimp only)
              go_keep
            clear hK K hH0
            try simp only [q92, Act.put, setIfInBounds_toArray, set_cons_zero, set_cons_succ]
            refine takeY (i := 3) (oi := q93) (v := ?vm03) rfl ?hm03 ?rm03
            case hm03 => (intro w hSw; (try dsimp only [q93] at hSw ⊢); go_simp; try with_reducible rfl)
            try simp only [q93, Act.put, setIfInBounds_toArray, set_cons_zero, set_cons_succ]
            refine takeY (i := 4) (oi := q94) (v := ?vm04) rfl ?hm04 ?rm04
            case hm04 => (intro w hSw; (try dsimp only [q94] at hSw ⊢); go_simp; try with_reducible rfl)
            try simp only [q94, Act.put, setIfInBounds_toArray, set_cons_zero, set_cons_succ]
            refine takeY (i := 5) (oi := q95) (v := ?vm05) rfl ?hm05 ?rm05
            case hm05 => (intro w hSw; (try dsimp only [q95] at hSw ⊢); go_simp; try with_reducible rfl)
            try simp only [q95, Act.put, setIfInBounds_toArray, set_cons_zero, set_cons_succ]
            refine takeY (i := 6) (oi := q96) (v := ?vm06) rfl ?hm06 ?rm06
            case hm06 => (intro w hSw; (try dsimp only [q96] at hSw ⊢); go_simp; try with_reducible rfl)
            try simp only [q96, Act.put, setIfInBounds_toArray, set_cons_zero, set_cons_succ]
            refine takeY (i := 7) (oi := q97) (v := ?vm07) rfl ?hm07 ?rm07
            case hm07 => (intro w hSw; (try dsimp only [q97] at hSw ⊢); go_simp; try with_reducible rfl)
            try simp only [q97, Act.put, setIfInBounds_toArray, set_cons_zero, set_cons_succ]
            refine takeY (i := 8) (oi := q98) (v := ?vm08) rfl ?hm08 ?rm08
            case hm08 => (intro w hSw; (try dsimp only [q98] at hSw ⊢); go_simp; try with_reducible rfl)
            try simp only [q98, Act.put, setIfInBounds_toArray, set_cons_zero, set_cons_succ]
            refine takeY (i := 9) (oi := q99) (v := ?vm09) rfl ?hm09 ?rm09
            case hm09 => (intro w hSw; (try dsimp only [q99] at hSw ⊢); go_simp; try with_reducible rfl)
            try simp only [q99, Act.put, setIfInBounds_toArray, set_cons_zero, set_cons_succ]
            refine takeY (i := 10) (oi := q910) (v := ?vm010) rfl ?hm010 ?rm010
            case hm010 => (intro w hSw; (try dsimp only [q910] at hSw ⊢); go_simp; try with_reducible rfl)
            try simp only [q910, Act.put, setIfInBounds_toArray, set_cons_zero, set_cons_succ]
            refine takeY (i := 11) (oi := q911) (v := ?vm011) rfl ?hm011 ?rm011
            case hm011 => (intro w hSw; (try dsimp only [q911] at hSw ⊢); go_simp; try with_reducible rfl)
            try simp only [q911, Act.put, setIfInBounds_toArray, set_cons_zero, set_cons_succ]
            refine takeY (i := 12) (oi := q912) (v := ?vm012) rfl ?hm012 ?rm012
            case hm012 => (intro w hSw; (try dsimp only [q912] at hSw ⊢); go_simp; try with_reducible rfl)
            try simp only [q912, Act.put, setIfInBounds_toArray, set_cons_zero, set_cons_succ]
            refine takeY (i := 13) (oi := q913) (v := ?vm013) rfl ?hm013 ?rm013
            case hm013 => (intro w hSw; (try dsimp only [q913] at hSw ⊢); go_simp; try with_reducible rfl)
            try simp only [q913, Act.put, setIfInBounds_toArray, set_cons_zero, set_cons_succ]
            refine takeY (i := 14) (oi := q914) (v := ?vm014) rfl ?hm014 ?rm014
            case hm014 => (intro w hSw; (try dsimp only [q914] at hSw ⊢); go_simp; try with_reducible rfl)
            try simp only [q914, Act.put, setIfInBounds_toArray, set_cons_zero, set_cons_succ]
            refine takeY (i := 15) (oi := q915) (v := ?vm015) rfl ?hm015 ?rm015
            case hm015 => (intro w hSw; (try dsimp only [q915] at hSw ⊢); go_simp; try with_reducible rfl)
            try simp only [q915, Act.put, setIfInBounds_toArray, set_cons_zero, set_cons_succ]
            refine takeY (i := 16) (oi := q916) (v := ?vm016) rfl ?hm016 ?rm016
            case hm016 => (intro w hSw; (try dsimp only [q916] at hSw ⊢); go_simp; try with_reducible rfl)
            try simp only [q916, Act.put, setIfInBounds_toArray, set_cons_zero, set_cons_succ]
            refine takeY (i := 17) (oi := q917) (v := ?vm017) rfl ?hm017 ?rm017
            case hm017 => (intro w hSw; (try dsimp only [q917] at hSw ⊢); go_simp; try with_reducible rfl)
            try simp only [q917, Act.put, setIfInBounds_toArray, set_cons_zero, set_cons_succ]
            refine takeY (i := 18) (oi := q918) (v := ?vm018) rfl ?hm018 ?rm018
            case hm018 => (intro w hSw; (try dsimp only [q918] at hSw ⊢); go_simp; try with_reducible rfl)
            try simp only [q918, Act.put, setIfInBounds_toArray, set_cons_zero, set_cons_succ]
            refine takeY (i := 19) (oi := q919) (v := ?vm019) rfl ?hm019 ?rm019
            case hm019 => (intro w hSw; (try dsimp only [q919] at hSw ⊢); go_simp; try with_reducible rfl)
            try simp only [q919, Act.put, setIfInBounds_toArray, set_cons_zero, set_cons_succ]
            refine takeY (i := 20) (oi := q920) (v := ?vm020) rfl ?hm020 ?rm020
            case hm020 => (intro w hSw; (try dsimp only [q920] at hSw ⊢); go_simp; try with_reducible rfl)
            try simp only [q920, Act.put, setIfInBounds_toArray, set_cons_zero, set_cons_succ]
            refine takeY (i := 21) (oi := q921) (v := ?vm021) rfl ?hm021 ?rm021
            case hm021 => (intro w hSw; (try dsimp only [q921] at hSw ⊢); go_simp; try with_reducible rfl)
            try simp only [q921, Act.put, setIfInBounds_toArray, set_cons_zero, set_cons_succ]
            refine takeY (i := 22) (oi := q922) (v := ?vm022) rfl ?hm022 ?rm022
            case hm022 => (intro w hSw; (try dsimp only [q922] at hSw ⊢); go_simp; try with_reducible rfl)
            try simp only [q922, Act.put, setIfInBounds_toArray, set_cons_zero, set_cons_succ]
            refine takeY (i := 23) (oi := q923) (v := ?vm023) rfl ?hm023 ?rm023
            case hm023 => (intro w hSw; (try dsimp only [q923] at hSw ⊢); go_simp; try with_reducible rfl)
            try simp only [q923, Act.put, setIfInBounds_toArray, set_cons_zero, set_cons_succ]
            refine takeN (i := 24) (oi := q924) rfl ?_
            try simp only [q924, Act.put, setIfInBounds_toArray, set_cons_zero, set_cons_succ]
            refine takeN (i := 25) (oi := q925) rfl ?_
            try simp only [q925, Act.put, setIfInBounds_toArray, set_cons_zero, set_cons_succ]
            refine takeN (i := 26) (oi := q926) rfl ?_
            try simp only [q926, Act.put, setIfInBounds_toArray, set_cons_zero, set_cons_succ]
            refine takeN (i := 27) (oi := q927) rfl ?_
            try simp only [q927, Act.put, setIfInBounds_toArray, set_cons_zero, set_cons_succ]
            refine takeN (i := 28) (oi := q928) rfl ?_
            try simp only [q928, Act.put, setIfInBounds_toArray, set_cons_zero, set_cons_succ]
            refine takeN (i := 29) (oi := q929) rfl ?_
            try simp only [q929, Act.put, setIfInBounds_toArray, set_cons_zero, set_cons_succ]
            refine takeN (i := 30) (oi := q930) rfl ?_
            try simp only [q930, Act.put, setIfInBounds_toArray, set_cons_zero, set_cons_succ]
            refine takeY (i := 31) (oi := q931) (v := ?vm031) rfl ?hm031 ?rm031
            case hm031 => (intro w hSw; (try dsimp only [q931] at hSw ⊢); go_simp; try with_reducible rfl)
            try simp only [q931, Act.put, setIfInBounds_toArray, set_cons_zero, set_cons_succ]
            refine takeY (i := 32) (oi := q932) (v := ?vm032) rfl ?hm032 ?rm032
            case hm032 => (intro w hSw; (try dsimp only [q932] at hSw ⊢); go_simp; try with_reducible rfl)
            try simp only [q932, Act.put, setIfInBounds_toArray, set_cons_zero, set_cons_succ]
            refine takeY (i := 33) (oi := q933) (v := ?vm033) rfl ?hm033 ?rm033
            case hm033 => (intro w hSw; (try dsimp only [q933] at hSw ⊢); go_simp; try with_reducible rfl)
            try simp only [q933, Act.put, setIfInBounds_toArray, set_cons_zero, set_cons_succ]
            refine takeY (i := 34) (oi := q934) (v := ?vm034) rfl ?hm034 ?rm034
            case hm034 => (intro w hSw; (try dsimp only [q934] at hSw ⊢); go_simp; try with_reducible rfl)
            try simp only [q934, Act.put, setIfInBounds_toArray, set_cons_zero, set_cons_succ]
            refine takeY (i := 35) (oi := q935) (v := ?vm035) rfl ?hm035 ?rm035
            case hm035 => (intro w hSw; (try dsimp only [q935] at hSw ⊢); go_simp; try with_reducible rfl)
            try simp only [q935, Act.put, setIfInBounds_toArray, set_cons_zero, set_cons_succ]
            refine wpAnyH_ready (rs := [36]) (by kernel_rfl) (by simp) ?_
            refine AllReadyH.cons (o := q936) rfl (fun K hK => ?_) AllReadyH.nil
            dsimp only [q936] at hK ⊢
            go_simp
            (go_at_call 76; refine (KU.out _).mono ?_; rintro e w4 ⟨rfl, hb4⟩; have A4 : Below W0.heap.size W0 w4 := (Below.drew (Below.refl _ _)).trans hb4; have u0 : w4.cell? ⟨b, 0, none⟩ = some (.int .i64 yid) := ((bcell A4).1 _ _ hbW).trans c0; have u1 : w4.cell? ⟨b, 1, none⟩ = some (.int .i64 ypa) := ((bcell A4).1 _ _ hbW).trans c1; have u2 : w4.cell? ⟨b, 2, none⟩ = some (.string ysc) := ((bcell A4).1 _ _ hbW).trans c2; have u3 : w4.cell? ⟨b, 3, none⟩ = some (.string yho) := ((bcell A4).1 _ _ hbW).trans c3; have u4 : w4.cell? ⟨b, 4, none⟩ = some (.int .i64 ypo) := ((bcell A4).1 _ _ hbW).trans c4; have u5 : w4.cell? ⟨b, 5, none⟩ = some (.string ypt) := ((bcell A4).1 _ _ hbW).trans c5; have u6 : w4.cell? ⟨b, 6, none⟩ = some (.bool ysb) := ((bcell A4).1 _ _ hbW).trans c6; have u7 : w4.cell? ⟨b, 7, none⟩ = some (.bool yfl) := ((bcell A4).1 _ _ hbW).trans c7; have u8 : w4.cell? ⟨b, 8, none⟩ = some (.int .i64 ytc) := ((bcell A4).1 _ _ hbW).trans c8; have um : w4.cell? ⟨g, m * 9, none⟩ = some (.int .i64 zid) := ((bcell A4).1 _ _ hgW).trans cm)
            try (go_wp2_with fail)
            refine hK.out _ _ ?_ (fun hH2 => ?_)
            · (try dsimp only)
              go_keep
            clear hK K hH1
            try simp only [q936, Act.put, setIfInBounds_toArray, set_cons_zero, set_cons_succ]
            refine takeY (i := 37) (oi := q937) (v := ?vm037) rfl ?hm037 ?rm037
            case hm037 => (intro w hSw; (try dsimp only [q937] at hSw ⊢); go_simp; try with_reducible rfl)
            try simp only [q937, Act.put, setIfInBounds_toArray, set_cons_zero, set_cons_succ]
            refine takeY (i := 38) (oi := q938) (v := ?vm038) rfl ?hm038 ?rm038
            case hm038 => (intro w hSw; (try dsimp only [q938] at hSw ⊢); go_simp; try with_reducible rfl)
            try simp only [q938, Act.put, setIfInBounds_toArray, set_cons_zero, set_cons_succ]
            refine takeY (i := 39) (oi := q939) (v := ?vm039) rfl ?hm039 ?rm039
            case hm039 => (intro w hSw; (try dsimp only [q939] at hSw ⊢); go_simp; try with_reducible rfl)
            try simp only [q939, Act.put, setIfInBounds_toArray, set_cons_zero, set_cons_succ]
            refine takeN (i := 40) (oi := q940) rfl ?_
            try simp only [q940, Act.put, setIfInBounds_toArray, set_cons_zero, set_cons_succ]
            refine takeN (i := 41) (oi := q941) rfl ?_
            try simp only [q941, Act.put, setIfInBounds_toArray, set_cons_zero, set_cons_succ]
            refine takeN (i := 42) (oi := q942) rfl ?_
            try simp only [q942, Act.put, setIfInBounds_toArray, set_cons_zero, set_cons_succ]
            refine takeN (i := 43) (oi := q943) rfl ?_
            try simp only [q943, Act.put, setIfInBounds_toArray, set_cons_zero, set_cons_succ]
            refine takeY (i := 44) (oi := q944) (v := ?vm044) rfl ?hm044 ?rm044
            case hm044 => (intro w hSw; (try dsimp only [q944] at hSw ⊢); go_simp; try with_reducible rfl)
            try simp only [q944, Act.put, setIfInBounds_toArray, set_cons_zero, set_cons_succ]
            refine takeY (i := 45) (oi := q945) (v := ?vm045) rfl ?hm045 ?rm045
            case hm045 => (intro w hSw; (try dsimp only [q945] at hSw ⊢); go_simp; try with_reducible rfl)
            try simp only [q945, Act.put, setIfInBounds_toArray, set_cons_zero, set_cons_succ]
            refine takeN (i := 46) (oi := q946) rfl ?_
            try simp only [q946, Act.put, setIfInBounds_toArray, set_cons_zero, set_cons_succ]
            refine takeN (i := 47) (oi := q947) rfl ?_
            try simp only [q947, Act.put, setIfInBounds_toArray, set_cons_zero, set_cons_succ]
            refine takeN (i := 48) (oi := q948) rfl ?_
            try simp only [q948, Act.put, setIfInBounds_toArray, set_cons_zero, set_cons_succ]
            refine takeN (i := 49) (oi := q949) rfl ?_
            try simp only [q949, Act.put, setIfInBounds_toArray, set_cons_zero, set_cons_succ]
            refine takeN (i := 50) (oi := q950) rfl ?_
            try simp only [q950, Act.put, setIfInBounds_toArray, set_cons_zero, set_cons_succ]
            refine takeN (i := 51) (oi := q951) rfl ?_
            try simp only [q951, Act.put, setIfInBounds_toArray, set_cons_zero, set_cons_succ]
            refine takeN (i := 52) (oi := q952) rfl ?_
            try simp only [q952, Act.put, setIfInBounds_toArray, set_cons_zero, set_cons_succ]
            refine takeY (i := 53) (oi := q953) (v := ?vm053) rfl ?hm053 ?rm053
            case hm053 => (intro w hSw; (try dsimp only [q953] at hSw ⊢); go_simp; try with_reducible rfl)
            try simp only [q953, Act.put, setIfInBounds_toArray, set_cons_zero, set_cons_succ]
            refine wpAnyH_done (by kernel_rfl) ?_ _
            go_wp2
            go_ret
            exact ⟨ret_bool HQ.out.symm, HBW.out.trans (A4.mono HBW.out.size)⟩
          | true =>
          cases bt with
          | false =>
            have HQ : Hid (R = false) := HBk.out (by rw [HO.out]; exact okB9_t)
            go_upto_region 5 with fail
            rw [← hW0.out]
            clear hW0
            generalize hbb : wr.heap.size = b at *
            clear hbb HB e0 e1 e2 e3 e4 e5 e6 e7 e8
            go_wp2_with fail
            refine wp_region_held_drew (S := (fun w' => w'.cell? ⟨b, 0, none⟩ = some (.int .i64 yid) ∧ w'.cell? ⟨b, 1, none⟩ = some (.int .i64 ypa) ∧ w'.cell? ⟨b, 2, none⟩ = some (.string ysc) ∧ w'.cell? ⟨b, 3, none⟩ = some (.string yho) ∧ w'.cell? ⟨b, 4, none⟩ = some (.int .i64 ypo) ∧ w'.cell? ⟨b, 5, none⟩ = some (.string ypt) ∧ w'.cell? ⟨b, 6, none⟩ = some (.bool ysb) ∧ w'.cell? ⟨b, 7, none⟩ = some (.bool yfl) ∧ w'.cell? ⟨b, 8, none⟩ = some (.int .i64 ytc) ∧ w'.cell? ⟨g, m * 9, none⟩ = some (.int .i64 zid))) (by kernel_rfl) ?_ (fun hH0 => ?_)
            · (try dsimp only)
              go_keep
            refine takeY (i := 0) (oi := q90) (v := ?vn00) rfl ?hn00 ?rn00
            case hn00 => (intro w hSw; (try dsimp only [q90] at hSw ⊢); go_simp; try with_reducible rfl)
            try simp only [q90, Act.put, setIfInBounds_toArray, set_cons_zero, set_cons_succ]
            refine takeY (i := 1) (oi := q91) (v := ?vn01) rfl ?hn01 ?rn01
            case hn01 => (intro w hSw; (try dsimp only [q91] at hSw ⊢); go_simp; try with_reducible rfl)
            try simp only [q91, Act.put, setIfInBounds_toArray, set_cons_zero, set_cons_succ]
            refine wpAnyH_ready (rs := [2]) (by kernel_rfl) (by simp) ?_
            refine AllReadyH.cons (o := q92) rfl (fun K hK => ?_) AllReadyH.nil
            dsimp only [q92] at hK ⊢
            go_simp
            (go_at_call 51; refine (KI.out _).mono ?_; rintro e w2 ⟨rfl, rfl⟩)
            try (go_wp2_with fail)
            refine hK.out _ _ ?_ (fun hH1 => ?_)
            · (try dsimp only)
              go_keep
            clear hK K hH0
            try simp only [q92, Act.put, setIfInBounds_toArray, set_cons_zero, set_cons_succ]
            refine takeY (i := 3) (oi := q93) (v := ?vn03) rfl ?hn03 ?rn03
            case hn03 => (intro w hSw; (try dsimp only [q93] at hSw ⊢); go_simp; try with_reducible rfl)
            try simp only [q93, Act.put, setIfInBounds_toArray, set_cons_zero, set_cons_succ]
            refine takeY (i := 4) (oi := q94) (v := ?vn04) rfl ?hn04 ?rn04
            case hn04 => (intro w hSw; (try dsimp only [q94] at hSw ⊢); go_simp; try with_reducible rfl)
            try simp only [q94, Act.put, setIfInBounds_toArray, set_cons_zero, set_cons_succ]
            refine takeY (i := 5) (oi := q95) (v := ?vn05) rfl ?hn05 ?rn05
            case hn05 => (intro w hSw; (try dsimp only [q95] at hSw ⊢); go_simp; try with_reducible rfl)
            try simp only [q95, Act.put, setIfInBounds_toArray, set_cons_zero, set_cons_succ]
            refine takeY (i := 6) (oi := q96) (v := ?vn06) rfl ?hn06 ?rn06
            case hn06 => (intro w hSw; (try dsimp only [q96] at hSw ⊢); go_simp; try with_reducible rfl)
            try simp only [q96, Act.put, setIfInBounds_toArray, set_cons_zero, set_cons_succ]
            refine takeY (i := 7) (oi := q97) (v := ?vn07) rfl ?hn07 ?rn07
            case hn07 => (intro w hSw; (try dsimp only [q97] at hSw ⊢); go_simp; try with_reducible rfl)
            try simp only [q97, Act.put, setIfInBounds_toArray, set_cons_zero, set_cons_succ]
            refine takeY (i := 8) (oi := q98) (v := ?vn08) rfl ?hn08 ?rn08
            case hn08 => (intro w hSw; (try dsimp only [q98] at hSw ⊢); go_simp; try with_reducible rfl)
            try simp only [q98, Act.put, setIfInBounds_toArray, set_cons_zero, set_cons_succ]
            refine takeY (i := 9) (oi := q99) (v := ?vn09) rfl ?hn09 ?rn09
            case hn09 => (intro w hSw; (try dsimp only [q99] at hSw ⊢); go_simp; try with_reducible rfl)
            try simp only [q99, Act.put, setIfInBounds_toArray, set_cons_zero, set_cons_succ]
            refine takeY (i := 10) (oi := q910) (v := ?vn010) rfl ?hn010 ?rn010
            case hn010 => (intro w hSw; (try dsimp only [q910] at hSw ⊢); go_simp; try with_reducible rfl)
            try simp only [q910, Act.put, setIfInBounds_toArray, set_cons_zero, set_cons_succ]
            refine takeY (i := 11) (oi := q911) (v := ?vn011) rfl ?hn011 ?rn011
            case hn011 => (intro w hSw; (try dsimp only [q911] at hSw ⊢); go_simp; try with_reducible rfl)
            try simp only [q911, Act.put, setIfInBounds_toArray, set_cons_zero, set_cons_succ]
            refine takeY (i := 12) (oi := q912) (v := ?vn012) rfl ?hn012 ?rn012
            case hn012 => (intro w hSw; (try dsimp only [q912] at hSw ⊢); go_simp; try with_reducible rfl)
            try simp only [q912, Act.put, setIfInBounds_toArray, set_cons_zero, set_cons_succ]
            refine takeY (i := 13) (oi := q913) (v := ?vn013) rfl ?hn013 ?rn013
            case hn013 => (intro w hSw; (try dsimp only [q913] at hSw ⊢); go_simp; try with_reducible rfl)
            try simp only [q913, Act.put, setIfInBounds_toArray, set_cons_zero, set_cons_succ]
            refine takeY (i := 14) (oi := q914) (v := ?vn014) rfl ?hn014 ?rn014
            case hn014 => (intro w hSw; (try dsimp only [q914] at hSw ⊢); go_simp; try with_reducible rfl)
            try simp only [q914, Act.put, setIfInBounds_toArray, set_cons_zero, set_cons_succ]
            refine takeY (i := 15) (oi := q915) (v := ?vn015) rfl ?hn015 ?rn015
            case hn015 => (intro w hSw; (try dsimp only [q915] at hSw ⊢); go_simp; try with_reducible rfl)
            try simp only [q915, Act.put, setIfInBounds_toArray, set_cons_zero, set_cons_succ]
            refine takeY (i := 16) (oi := q916) (v := ?vn016) rfl ?hn016 ?rn016
            case hn016 => (intro w hSw; (try dsimp only [q916] at hSw ⊢); go_simp; try with_reducible rfl)
            try simp only [q916, Act.put, setIfInBounds_toArray, set_cons_zero, set_cons_succ]
            refine takeY (i := 17) (oi := q917) (v := ?vn017) rfl ?hn017 ?rn017
            case hn017 => (intro w hSw; (try dsimp only [q917] at hSw ⊢); go_simp; try with_reducible rfl)
            try simp only [q917, Act.put, setIfInBounds_toArray, set_cons_zero, set_cons_succ]
            refine takeY (i := 18) (oi := q918) (v := ?vn018) rfl ?hn018 ?rn018
            case hn018 => (intro w hSw; (try dsimp only [q918] at hSw ⊢); go_simp; try with_reducible rfl)
            try simp only [q918, Act.put, setIfInBounds_toArray, set_cons_zero, set_cons_succ]
            refine takeY (i := 19) (oi := q919) (v := ?vn019) rfl ?hn019 ?rn019
            case hn019 => (intro w hSw; (try dsimp only [q919] at hSw ⊢); go_simp; try with_reducible rfl)
            try simp only [q919, Act.put, setIfInBounds_toArray, set_cons_zero, set_cons_succ]
            refine takeY (i := 20) (oi := q920) (v := ?vn020) rfl ?hn020 ?rn020
            case hn020 => (intro w hSw; (try dsimp only [q920] at hSw ⊢); go_simp; try with_reducible rfl)
            try simp only [q920, Act.put, setIfInBounds_toArray, set_cons_zero, set_cons_succ]
            refine takeY (i := 21) (oi := q921) (v := ?vn021) rfl ?hn021 ?rn021
            case hn021 => (intro w hSw; (try dsimp only [q921] at hSw ⊢); go_simp; try with_reducible rfl)
            try simp only [q921, Act.put, setIfInBounds_toArray, set_cons_zero, set_cons_succ]
            refine takeY (i := 22) (oi := q922) (v := ?vn022) rfl ?hn022 ?rn022
            case hn022 => (intro w hSw; (try dsimp only [q922] at hSw ⊢); go_simp; try with_reducible rfl)
            try simp only [q922, Act.put, setIfInBounds_toArray, set_cons_zero, set_cons_succ]
            refine takeY (i := 23) (oi := q923) (v := ?vn023) rfl ?hn023 ?rn023
            case hn023 => (intro w hSw; (try dsimp only [q923] at hSw ⊢); go_simp; try with_reducible rfl)
            try simp only [q923, Act.put, setIfInBounds_toArray, set_cons_zero, set_cons_succ]
            refine takeN (i := 24) (oi := q924) rfl ?_
            try simp only [q924, Act.put, setIfInBounds_toArray, set_cons_zero, set_cons_succ]
            refine takeN (i := 25) (oi := q925) rfl ?_
            try simp only [q925, Act.put, setIfInBounds_toArray, set_cons_zero, set_cons_succ]
            refine takeN (i := 26) (oi := q926) rfl ?_
            try simp only [q926, Act.put, setIfInBounds_toArray, set_cons_zero, set_cons_succ]
            refine takeN (i := 27) (oi := q927) rfl ?_
            try simp only [q927, Act.put, setIfInBounds_toArray, set_cons_zero, set_cons_succ]
            refine takeN (i := 28) (oi := q928) rfl ?_
            try simp only [q928, Act.put, setIfInBounds_toArray, set_cons_zero, set_cons_succ]
            refine takeN (i := 29) (oi := q929) rfl ?_
            try simp only [q929, Act.put, setIfInBounds_toArray, set_cons_zero, set_cons_succ]
            refine takeN (i := 30) (oi := q930) rfl ?_
            try simp only [q930, Act.put, setIfInBounds_toArray, set_cons_zero, set_cons_succ]
            refine takeY (i := 31) (oi := q931) (v := ?vn031) rfl ?hn031 ?rn031
            case hn031 => (intro w hSw; (try dsimp only [q931] at hSw ⊢); go_simp; try with_reducible rfl)
            try simp only [q931, Act.put, setIfInBounds_toArray, set_cons_zero, set_cons_succ]
            refine takeY (i := 32) (oi := q932) (v := ?vn032) rfl ?hn032 ?rn032
            case hn032 => (intro w hSw; (try dsimp only [q932] at hSw ⊢); go_simp; try with_reducible rfl)
            try simp only [q932, Act.put, setIfInBounds_toArray, set_cons_zero, set_cons_succ]
            refine takeY (i := 33) (oi := q933) (v := ?vn033) rfl ?hn033 ?rn033
            case hn033 => (intro w hSw; (try dsimp only [q933] at hSw ⊢); go_simp; try with_reducible rfl)
            try simp only [q933, Act.put, setIfInBounds_toArray, set_cons_zero, set_cons_succ]
            refine takeY (i := 34) (oi := q934) (v := ?vn034) rfl ?hn034 ?rn034
            case hn034 => (intro w hSw; (try dsimp only [q934] at hSw ⊢); go_simp; try with_reducible rfl)
            try simp only [q934, Act.put, setIfInBounds_toArray, set_cons_zero, set_cons_succ]
            refine takeY (i := 35) (oi := q935) (v := ?vn035) rfl ?hn035 ?rn035
            case hn035 => (intro w hSw; (try dsimp only [q935] at hSw ⊢); go_simp; try with_reducible rfl)
            try simp only [q935, Act.put, setIfInBounds_toArray, set_cons_zero, set_cons_succ]
            refine wpAnyH_ready (rs := [36]) (by kernel_rfl) (by simp) ?_
            refine AllReadyH.cons (o := q936) rfl (fun K hK => ?_) AllReadyH.nil
            dsimp only [q936] at hK ⊢
            go_simp
            (go_at_call 76; refine (KU.out _).mono ?_; rintro e w4 ⟨rfl, hb4⟩; have A4 : Below W0.heap.size W0 w4 := (Below.drew (Below.refl _ _)).trans hb4; have u0 : w4.cell? ⟨b, 0, none⟩ = some (.int .i64 yid) := ((bcell A4).1 _ _ hbW).trans c0; have u1 : w4.cell? ⟨b, 1, none⟩ = some (.int .i64 ypa) := ((bcell A4).1 _ _ hbW).trans c1; have u2 : w4.cell? ⟨b, 2, none⟩ = some (.string ysc) := ((bcell A4).1 _ _ hbW).trans c2; have u3 : w4.cell? ⟨b, 3, none⟩ = some (.string yho) := ((bcell A4).1 _ _ hbW).trans c3; have u4 : w4.cell? ⟨b, 4, none⟩ = some (.int .i64 ypo) := ((bcell A4).1 _ _ hbW).trans c4; have u5 : w4.cell? ⟨b, 5, none⟩ = some (.string ypt) := ((bcell A4).1 _ _ hbW).trans c5; have u6 : w4.cell? ⟨b, 6, none⟩ = some (.bool ysb) := ((bcell A4).1 _ _ hbW).trans c6; have u7 : w4.cell? ⟨b, 7, none⟩ = some (.bool yfl) := ((bcell A4).1 _ _ hbW).trans c7; have u8 : w4.cell? ⟨b, 8, none⟩ = some (.int .i64 ytc) := ((bcell A4).1 _ _ hbW).trans c8; have um : w4.cell? ⟨g, m * 9, none⟩ = some (.int .i64 zid) := ((bcell A4).1 _ _ hgW).trans cm)
            try (go_wp2_with fail)
            refine hK.out _ _ ?_ (fun hH2 => ?_)
            · (try dsimp only)
              go_keep
            clear hK K hH1
            try simp only [q936, Act.put, setIfInBounds_toArray, set_cons_zero, set_cons_succ]
            refine takeY (i := 37) (oi := q937) (v := ?vn037) rfl ?hn037 ?rn037
            case hn037 => (intro w hSw; (try dsimp only [q937] at hSw ⊢); go_simp; try with_reducible rfl)
            try simp only [q937, Act.put, setIfInBounds_toArray, set_cons_zero, set_cons_succ]
            refine takeY (i := 38) (oi := q938) (v := ?vn038) rfl ?hn038 ?rn038
            case hn038 => (intro w hSw; (try dsimp only [q938] at hSw ⊢); go_simp; try with_reducible rfl)
            try simp only [q938, Act.put, setIfInBounds_toArray, set_cons_zero, set_cons_succ]
            refine takeY (i := 39) (oi := q939) (v := ?vn039) rfl ?hn039 ?rn039
            case hn039 => (intro w hSw; (try dsimp only [q939] at hSw ⊢); go_simp; try with_reducible rfl)
            try simp only [q939, Act.put, setIfInBounds_toArray, set_cons_zero, set_cons_succ]
            refine takeY (i := 40) (oi := q940) (v := ?vn040) rfl ?hn040 ?rn040
            case hn040 => (intro w hSw; (try dsimp only [q940] at hSw ⊢); go_simp; try with_reducible rfl)
            try simp only [q940, Act.put, setIfInBounds_toArray, set_cons_zero, set_cons_succ]
            refine takeY (i := 41) (oi := q941) (v := ?vn041) rfl ?hn041 ?rn041
            case hn041 => (intro w hSw; (try dsimp only [q941] at hSw ⊢); go_simp; try with_reducible rfl)
            try simp only [q941, Act.put, setIfInBounds_toArray, set_cons_zero, set_cons_succ]
            refine wpAnyH_ready (rs := [42]) (by kernel_rfl) (by simp) ?_
            refine AllReadyH.cons (o := q942) rfl (fun K hK => ?_) AllReadyH.nil
            dsimp only [q942] at hK ⊢
            go_simp
            (go_at_call 31; refine (KT.out _).mono ?_; rintro e w5 ⟨rfl, e5⟩; obtain rfl := e5.symm)
            try (go_wp2_with fail)
            refine hK.out _ _ ?_ (fun hH3 => ?_)
            · (try dsimp only)
              go_keep
            clear hK K hH2
            try simp only [q942, Act.put, setIfInBounds_toArray, set_cons_zero, set_cons_succ]
            refine takeY (i := 43) (oi := q943) (v := ?vn043) rfl ?hn043 ?rn043
            case hn043 => (intro w hSw; (try dsimp only [q943] at hSw ⊢); go_simp; try with_reducible rfl)
            try simp only [q943, Act.put, setIfInBounds_toArray, set_cons_zero, set_cons_succ]
            refine takeY (i := 44) (oi := q944) (v := ?vn044) rfl ?hn044 ?rn044
            case hn044 => (intro w hSw; (try dsimp only [q944] at hSw ⊢); go_simp; try with_reducible rfl)
            try simp only [q944, Act.put, setIfInBounds_toArray, set_cons_zero, set_cons_succ]
            refine takeY (i := 45) (oi := q945) (v := ?vn045) rfl ?hn045 ?rn045
            case hn045 => (intro w hSw; (try dsimp only [q945] at hSw ⊢); go_simp; try with_reducible rfl)
            try simp only [q945, Act.put, setIfInBounds_toArray, set_cons_zero, set_cons_succ]
            refine takeN (i := 46) (oi := q946) rfl ?_
            try simp only [q946, Act.put, setIfInBounds_toArray, set_cons_zero, set_cons_succ]
            refine takeN (i := 47) (oi := q947) rfl ?_
            try simp only [q947, Act.put, setIfInBounds_toArray, set_cons_zero, set_cons_succ]
            refine takeN (i := 48) (oi := q948) rfl ?_
            try simp only [q948, Act.put, setIfInBounds_toArray, set_cons_zero, set_cons_succ]
            refine takeN (i := 49) (oi := q949) rfl ?_
            try simp only [q949, Act.put, setIfInBounds_toArray, set_cons_zero, set_cons_succ]
            refine takeN (i := 50) (oi := q950) rfl ?_
            try simp only [q950, Act.put, setIfInBounds_toArray, set_cons_zero, set_cons_succ]
            refine takeN (i := 51) (oi := q951) rfl ?_
            try simp only [q951, Act.put, setIfInBounds_toArray, set_cons_zero, set_cons_succ]
            refine takeN (i := 52) (oi := q952) rfl ?_
            try simp only [q952, Act.put, setIfInBounds_toArray, set_cons_zero, set_cons_succ]
            refine takeY (i := 53) (oi := q953) (v := ?vn053) rfl ?hn053 ?rn053
            case hn053 => (intro w hSw; (try dsimp only [q953] at hSw ⊢); go_simp; try with_reducible rfl)
            try simp only [q953, Act.put, setIfInBounds_toArray, set_cons_zero, set_cons_succ]
            refine wpAnyH_done (by kernel_rfl) ?_ _
            go_wp2
            go_ret
            exact ⟨ret_bool HQ.out.symm, HBW.out.trans (A4.mono HBW.out.size)⟩
          | true =>
          cases ysb with
          | true =>
            have HQ : Hid (R = false) := HBk.out (by rw [HO.out]; exact okB9_box hp)
            go_upto_region 5 with fail
            rw [← hW0.out]
            clear hW0
            generalize hbb : wr.heap.size = b at *
            clear hbb HB e0 e1 e2 e3 e4 e5 e6 e7 e8
            go_wp2_with fail
            refine wp_region_held_drew (S := (fun w' => w'.cell? ⟨b, 0, none⟩ = some (.int .i64 yid) ∧ w'.cell? ⟨b, 1, none⟩ = some (.int .i64 ypa) ∧ w'.cell? ⟨b, 2, none⟩ = some (.string ysc) ∧ w'.cell? ⟨b, 3, none⟩ = some (.string yho) ∧ w'.cell? ⟨b, 4, none⟩ = some (.int .i64 ypo) ∧ w'.cell? ⟨b, 5, none⟩ = some (.string ypt) ∧ w'.cell? ⟨b, 6, none⟩ = some (.bool true) ∧ w'.cell? ⟨b, 7, none⟩ = some (.bool yfl) ∧ w'.cell? ⟨b, 8, none⟩ = some (.int .i64 ytc) ∧ w'.cell? ⟨g, m * 9, none⟩ = some (.int .i64 zid))) (by kernel_rfl) ?_ (fun hH0 => ?_)
            · (try dsimp only)
              go_keep
            refine takeY (i := 0) (oi := q90) (v := ?vo00) rfl ?ho00 ?ro00
            case ho00 => (intro w hSw; (try dsimp only [q90] at hSw ⊢); go_simp; try with_reducible rfl)
            try simp only [q90, Act.put, setIfInBounds_toArray, set_cons_zero, set_cons_succ]
            refine takeY (i := 1) (oi := q91) (v := ?vo01) rfl ?ho01 ?ro01
            case ho01 => (intro w hSw; (try dsimp only [q91] at hSw ⊢); go_simp; try with_reducible rfl)
            try simp only [q91, Act.put, setIfInBounds_toArray, set_cons_zero, set_cons_succ]
            refine wpAnyH_ready (rs := [2]) (by kernel_rfl) (by simp) ?_
            refine AllReadyH.cons (o := q92) rfl (fun K hK => ?_) AllReadyH.nil
            dsimp only [q92] at hK ⊢
            go_simp
            (go_at_call 51; refine (KI.out _).mono ?_; rintro e w2 ⟨rfl, rfl⟩)
            try (go_wp2_with fail)
            refine hK.out _ _ ?_ (fun hH1 => ?_)
            · (try dsimp only)
              go_keep
            clear hK K hH0
            try simp only [q92, Act.put, setIfInBounds_toArray, set_cons_zero, set_cons_succ]
            refine takeY (i := 3) (oi := q93) (v := ?vo03) rfl ?ho03 ?ro03
            case ho03 => (intro w hSw; (try dsimp only [q93] at hSw ⊢); go_simp; try with_reducible rfl)
            try simp only [q93, Act.put, setIfInBounds_toArray, set_cons_zero, set_cons_succ]
            refine takeY (i := 4) (oi := q94) (v := ?vo04) rfl ?ho04 ?ro04
            case ho04 => (intro w hSw; (try dsimp only [q94] at hSw ⊢); go_simp; try with_reducible rfl)
            try simp only [q94, Act.put, setIfInBounds_toArray, set_cons_zero, set_cons_succ]
            refine takeY (i := 5) (oi := q95) (v := ?vo05) rfl ?ho05 ?ro05
            case ho05 => (intro w hSw; (try dsimp only [q95] at hSw ⊢); go_simp; try with_reducible rfl)
            try simp only [q95, Act.put, setIfInBounds_toArray, set_cons_zero, set_cons_succ]
            refine takeY (i := 6) (oi := q96) (v := ?vo06) rfl ?ho06 ?ro06
            case ho06 => (intro w hSw; (try dsimp only [q96] at hSw ⊢); go_simp; try with_reducible rfl)
            try simp only [q96, Act.put, setIfInBounds_toArray, set_cons_zero, set_cons_succ]
            refine takeY (i := 7) (oi := q97) (v := ?vo07) rfl ?ho07 ?ro07
            case ho07 => (intro w hSw; (try dsimp only [q97] at hSw ⊢); go_simp; try with_reducible rfl)
            try simp only [q97, Act.put, setIfInBounds_toArray, set_cons_zero, set_cons_succ]
            refine takeY (i := 8) (oi := q98) (v := ?vo08) rfl ?ho08 ?ro08
            case ho08 => (intro w hSw; (try dsimp only [q98] at hSw ⊢); go_simp; try with_reducible rfl)
            try simp only [q98, Act.put, setIfInBounds_toArray, set_cons_zero, set_cons_succ]
            refine takeY (i := 9) (oi := q99) (v := ?vo09) rfl ?ho09 ?ro09
            case ho09 => (intro w hSw; (try dsimp only [q99] at hSw ⊢); go_simp; try with_reducible rfl)
            try simp only [q99, Act.put, setIfInBounds_toArray, set_cons_zero, set_cons_succ]
            refine takeY (i := 10) (oi := q910) (v := ?vo010) rfl ?ho010 ?ro010
            case ho010 => (intro w hSw; (try dsimp only [q910] at hSw ⊢); go_simp; try with_reducible rfl)
            try simp only [q910, Act.put, setIfInBounds_toArray, set_cons_zero, set_cons_succ]
            refine takeY (i := 11) (oi := q911) (v := ?vo011) rfl ?ho011 ?ro011
            case ho011 => (intro w hSw; (try dsimp only [q911] at hSw ⊢); go_simp; try with_reducible rfl)
            try simp only [q911, Act.put, setIfInBounds_toArray, set_cons_zero, set_cons_succ]
            refine takeY (i := 12) (oi := q912) (v := ?vo012) rfl ?ho012 ?ro012
            case ho012 => (intro w hSw; (try dsimp only [q912] at hSw ⊢); go_simp; try with_reducible rfl)
            try simp only [q912, Act.put, setIfInBounds_toArray, set_cons_zero, set_cons_succ]
            refine takeY (i := 13) (oi := q913) (v := ?vo013) rfl ?ho013 ?ro013
            case ho013 => (intro w hSw; (try dsimp only [q913] at hSw ⊢); go_simp; try with_reducible rfl)
            try simp only [q913, Act.put, setIfInBounds_toArray, set_cons_zero, set_cons_succ]
            refine takeY (i := 14) (oi := q914) (v := ?vo014) rfl ?ho014 ?ro014
            case ho014 => (intro w hSw; (try dsimp only [q914] at hSw ⊢); go_simp; try with_reducible rfl)
            try simp only [q914, Act.put, setIfInBounds_toArray, set_cons_zero, set_cons_succ]
            refine takeY (i := 15) (oi := q915) (v := ?vo015) rfl ?ho015 ?ro015
            case ho015 => (intro w hSw; (try dsimp only [q915] at hSw ⊢); go_simp; try with_reducible rfl)
            try simp only [q915, Act.put, setIfInBounds_toArray, set_cons_zero, set_cons_succ]
            refine takeY (i := 16) (oi := q916) (v := ?vo016) rfl ?ho016 ?ro016
            case ho016 => (intro w hSw; (try dsimp only [q916] at hSw ⊢); go_simp; try with_reducible rfl)
            try simp only [q916, Act.put, setIfInBounds_toArray, set_cons_zero, set_cons_succ]
            refine takeY (i := 17) (oi := q917) (v := ?vo017) rfl ?ho017 ?ro017
            case ho017 => (intro w hSw; (try dsimp only [q917] at hSw ⊢); go_simp; try with_reducible rfl)
            try simp only [q917, Act.put, setIfInBounds_toArray, set_cons_zero, set_cons_succ]
            refine takeY (i := 18) (oi := q918) (v := ?vo018) rfl ?ho018 ?ro018
            case ho018 => (intro w hSw; (try dsimp only [q918] at hSw ⊢); go_simp; try with_reducible rfl)
            try simp only [q918, Act.put, setIfInBounds_toArray, set_cons_zero, set_cons_succ]
            refine takeY (i := 19) (oi := q919) (v := ?vo019) rfl ?ho019 ?ro019
            case ho019 => (intro w hSw; (try dsimp only [q919] at hSw ⊢); go_simp; try with_reducible rfl)
            try simp only [q919, Act.put, setIfInBounds_toArray, set_cons_zero, set_cons_succ]
            refine takeY (i := 20) (oi := q920) (v := ?vo020) rfl ?ho020 ?ro020
            case ho020 => (intro w hSw; (try dsimp only [q920] at hSw ⊢); go_simp; try with_reducible rfl)
            try simp only [q920, Act.put, setIfInBounds_toArray, set_cons_zero, set_cons_succ]
            refine takeY (i := 21) (oi := q921) (v := ?vo021) rfl ?ho021 ?ro021
            case ho021 => (intro w hSw; (try dsimp only [q921] at hSw ⊢); go_simp; try with_reducible rfl)
            try simp only [q921, Act.put, setIfInBounds_toArray, set_cons_zero, set_cons_succ]
            refine takeY (i := 22) (oi := q922) (v := ?vo022) rfl ?ho022 ?ro022
            case ho022 => (intro w hSw; (try dsimp only [q922] at hSw ⊢); go_simp; try with_reducible rfl)
            try simp only [q922, Act.put, setIfInBounds_toArray, set_cons_zero, set_cons_succ]
            refine takeY (i := 23) (oi := q923) (v := ?vo023) rfl ?ho023 ?ro023
            case ho023 => (intro w hSw; (try dsimp only [q923] at hSw ⊢); go_simp; try with_reducible rfl)
            try simp only [q923, Act.put, setIfInBounds_toArray, set_cons_zero, set_cons_succ]
            refine takeN (i := 24) (oi := q924) rfl ?_
            try simp only [q924, Act.put, setIfInBounds_toArray, set_cons_zero, set_cons_succ]
            refine takeN (i := 25) (oi := q925) rfl ?_
            try simp only [q925, Act.put, setIfInBounds_toArray, set_cons_zero, set_cons_succ]
            refine takeN (i := 26) (oi := q926) rfl ?_
            try simp only [q926, Act.put, setIfInBounds_toArray, set_cons_zero, set_cons_succ]
            refine takeN (i := 27) (oi := q927) rfl ?_
            try simp only [q927, Act.put, setIfInBounds_toArray, set_cons_zero, set_cons_succ]
            refine takeN (i := 28) (oi := q928) rfl ?_
            try simp only [q928, Act.put, setIfInBounds_toArray, set_cons_zero, set_cons_succ]
            refine takeN (i := 29) (oi := q929) rfl ?_
            try simp only [q929, Act.put, setIfInBounds_toArray, set_cons_zero, set_cons_succ]
            refine takeN (i := 30) (oi := q930) rfl ?_
            try simp only [q930, Act.put, setIfInBounds_toArray, set_cons_zero, set_cons_succ]
            refine takeY (i := 31) (oi := q931) (v := ?vo031) rfl ?ho031 ?ro031
            case ho031 => (intro w hSw; (try dsimp only [q931] at hSw ⊢); go_simp; try with_reducible rfl)
            try simp only [q931, Act.put, setIfInBounds_toArray, set_cons_zero, set_cons_succ]
            refine takeY (i := 32) (oi := q932) (v := ?vo032) rfl ?ho032 ?ro032
            case ho032 => (intro w hSw; (try dsimp only [q932] at hSw ⊢); go_simp; try with_reducible rfl)
            try simp only [q932, Act.put, setIfInBounds_toArray, set_cons_zero, set_cons_succ]
            refine takeY (i := 33) (oi := q933) (v := ?vo033) rfl ?ho033 ?ro033
            case ho033 => (intro w hSw; (try dsimp only [q933] at hSw ⊢); go_simp; try with_reducible rfl)
            try simp only [q933, Act.put, setIfInBounds_toArray, set_cons_zero, set_cons_succ]
            refine takeY (i := 34) (oi := q934) (v := ?vo034) rfl ?ho034 ?ro034
            case ho034 => (intro w hSw; (try dsimp only [q934] at hSw ⊢); go_simp; try with_reducible rfl)
            try simp only [q934, Act.put, setIfInBounds_toArray, set_cons_zero, set_cons_succ]
            refine takeY (i := 35) (oi := q935) (v := ?vo035) rfl ?ho035 ?ro035
            case ho035 => (intro w hSw; (try dsimp only [q935] at hSw ⊢); go_simp; try with_reducible rfl)
            try simp only [q935, Act.put, setIfInBounds_toArray, set_cons_zero, set_cons_succ]
            refine wpAnyH_ready (rs := [36]) (by kernel_rfl) (by simp) ?_
            refine AllReadyH.cons (o := q936) rfl (fun K hK => ?_) AllReadyH.nil
            dsimp only [q936] at hK ⊢
            go_simp
            (go_at_call 76; refine (KU.out _).mono ?_; rintro e w4 ⟨rfl, hb4⟩; have A4 : Below W0.heap.size W0 w4 := (Below.drew (Below.refl _ _)).trans hb4; have u0 : w4.cell? ⟨b, 0, none⟩ = some (.int .i64 yid) := ((bcell A4).1 _ _ hbW).trans c0; have u1 : w4.cell? ⟨b, 1, none⟩ = some (.int .i64 ypa) := ((bcell A4).1 _ _ hbW).trans c1; have u2 : w4.cell? ⟨b, 2, none⟩ = some (.string ysc) := ((bcell A4).1 _ _ hbW).trans c2; have u3 : w4.cell? ⟨b, 3, none⟩ = some (.string yho) := ((bcell A4).1 _ _ hbW).trans c3; have u4 : w4.cell? ⟨b, 4, none⟩ = some (.int .i64 ypo) := ((bcell A4).1 _ _ hbW).trans c4; have u5 : w4.cell? ⟨b, 5, none⟩ = some (.string ypt) := ((bcell A4).1 _ _ hbW).trans c5; have u6 : w4.cell? ⟨b, 6, none⟩ = some (.bool true) := ((bcell A4).1 _ _ hbW).trans c6; have u7 : w4.cell? ⟨b, 7, none⟩ = some (.bool yfl) := ((bcell A4).1 _ _ hbW).trans c7; have u8 : w4.cell? ⟨b, 8, none⟩ = some (.int .i64 ytc) := ((bcell A4).1 _ _ hbW).trans c8; have um : w4.cell? ⟨g, m * 9, none⟩ = some (.int .i64 zid) := ((bcell A4).1 _ _ hgW).trans cm)
            try (go_wp2_with fail)
            refine hK.out _ _ ?_ (fun hH2 => ?_)
            · (try dsimp only)
              go_keep
            clear hK K hH1
            try simp only [q936, Act.put, setIfInBounds_toArray, set_cons_zero, set_cons_succ]
            refine takeY (i := 37) (oi := q937) (v := ?vo037) rfl ?ho037 ?ro037
            case ho037 => (intro w hSw; (try dsimp only [q937] at hSw ⊢); go_simp; try with_reducible rfl)
            try simp only [q937, Act.put, setIfInBounds_toArray, set_cons_zero, set_cons_succ]
            refine takeY (i := 38) (oi := q938) (v := ?vo038) rfl ?ho038 ?ro038
            case ho038 => (intro w hSw; (try dsimp only [q938] at hSw ⊢); go_simp; try with_reducible rfl)
            try simp only [q938, Act.put, setIfInBounds_toArray, set_cons_zero, set_cons_succ]
            refine takeY (i := 39) (oi := q939) (v := ?vo039) rfl ?ho039 ?ro039
            case ho039 => (intro w hSw; (try dsimp only [q939] at hSw ⊢); go_simp; try with_reducible rfl)
            try simp only [q939, Act.put, setIfInBounds_toArray, set_cons_zero, set_cons_succ]
            refine takeY (i := 40) (oi := q940) (v := ?vo040) rfl ?ho040 ?ro040
            case ho040 => (intro w hSw; (try dsimp only [q940] at hSw ⊢); go_simp; try with_reducible rfl)
            try simp only [q940, Act.put, setIfInBounds_toArray, set_cons_zero, set_cons_succ]
            refine takeY (i := 41) (oi := q941) (v := ?vo041) rfl ?ho041 ?ro041
            case ho041 => (intro w hSw; (try dsimp only [q941] at hSw ⊢); go_simp; try with_reducible rfl)
            try simp only [q941, Act.put, setIfInBounds_toArray, set_cons_zero, set_cons_succ]
            refine wpAnyH_ready (rs := [42]) (by kernel_rfl) (by simp) ?_
            refine AllReadyH.cons (o := q942) rfl (fun K hK => ?_) AllReadyH.nil
            dsimp only [q942] at hK ⊢
            go_simp
            (go_at_call 31; refine (KT.out _).mono ?_; rintro e w5 ⟨rfl, e5⟩; obtain rfl := e5.symm)
            try (go_wp2_with fail)
            refine hK.out _ _ ?_ (fun hH3 => ?_)
            · (try dsimp only)
              go_keep
            clear hK K hH2
            try simp only [q942, Act.put, setIfInBounds_toArray, set_cons_zero, set_cons_succ]
            refine takeY (i := 43) (oi := q943) (v := ?vo043) rfl ?ho043 ?ro043
            case ho043 => (intro w hSw; (try dsimp only [q943] at hSw ⊢); go_simp; try with_reducible rfl)
            try simp only [q943, Act.put, setIfInBounds_toArray, set_cons_zero, set_cons_succ]
            refine takeY (i := 44) (oi := q944) (v := ?vo044) rfl ?ho044 ?ro044
            case ho044 => (intro w hSw; (try dsimp only [q944] at hSw ⊢); go_simp; try with_reducible rfl)
            try simp only [q944, Act.put, setIfInBounds_toArray, set_cons_zero, set_cons_succ]
            refine takeY (i := 45) (oi := q945) (v := ?vo045) rfl ?ho045 ?ro045
            case ho045 => (intro w hSw; (try dsimp only [q945] at hSw ⊢); go_simp; try with_reducible rfl)
            try simp only [q945, Act.put, setIfInBounds_toArray, set_cons_zero, set_cons_succ]
            refine takeY (i := 46) (oi := q946) (v := ?vo046) rfl ?ho046 ?ro046
            case ho046 => (intro w hSw; (try dsimp only [q946] at hSw ⊢); go_simp; try with_reducible rfl)
            try simp only [q946, Act.put, setIfInBounds_toArray, set_cons_zero, set_cons_succ]
            refine takeY (i := 47) (oi := q947) (v := ?vo047) rfl ?ho047 ?ro047
            case ho047 => (intro w hSw; (try dsimp only [q947] at hSw ⊢); go_simp; try with_reducible rfl)
            try simp only [q947, Act.put, setIfInBounds_toArray, set_cons_zero, set_cons_succ]
            refine takeY (i := 48) (oi := q948) (v := ?vo048) rfl ?ho048 ?ro048
            case ho048 => (intro w hSw; (try dsimp only [q948] at hSw ⊢); go_simp; try with_reducible rfl)
            try simp only [q948, Act.put, setIfInBounds_toArray, set_cons_zero, set_cons_succ]
            refine takeY (i := 49) (oi := q949) (v := ?vo049) rfl ?ho049 ?ro049
            case ho049 => (intro w hSw; (try dsimp only [q949] at hSw ⊢); go_simp; try with_reducible rfl)
            try simp only [q949, Act.put, setIfInBounds_toArray, set_cons_zero, set_cons_succ]
            refine takeY (i := 50) (oi := q950) (v := ?vo050) rfl ?ho050 ?ro050
            case ho050 => (intro w hSw; (try dsimp only [q950] at hSw ⊢); go_simp; try with_reducible rfl)
            try simp only [q950, Act.put, setIfInBounds_toArray, set_cons_zero, set_cons_succ]
            refine takeY (i := 51) (oi := q951) (v := ?vo051) rfl ?ho051 ?ro051
            case ho051 => (intro w hSw; (try dsimp only [q951] at hSw ⊢); go_simp; try with_reducible rfl)
            try simp only [q951, Act.put, setIfInBounds_toArray, set_cons_zero, set_cons_succ]
            refine takeY (i := 52) (oi := q952) (v := ?vo052) rfl ?ho052 ?ro052
            case ho052 => (intro w hSw; (try dsimp only [q952] at hSw ⊢); go_simp; try with_reducible rfl)
            try simp only [q952, Act.put, setIfInBounds_toArray, set_cons_zero, set_cons_succ]
            refine takeY (i := 53) (oi := q953) (v := ?vo053) rfl ?ho053 ?ro053
            case ho053 => (intro w hSw; (try dsimp only [q953] at hSw ⊢); go_simp; try with_reducible rfl)
            try simp only [q953, Act.put, setIfInBounds_toArray, set_cons_zero, set_cons_succ]
            refine wpAnyH_done (by kernel_rfl) ?_ _
            go_wp2
            go_ret
            exact ⟨ret_bool HQ.out.symm, HBW.out.trans (A4.mono HBW.out.size)⟩
          | false =>
            have HN : Hid (∀ j, j < m + 1 + 1 → okF L j = true) := HSt.out (by rw [HO.out]; exact okB9_yes hbi hla (.inl hp) (.inr rfl))
            go_upto_region 5 with fail
            rw [← hW0.out]
            clear hW0
            generalize hbb : wr.heap.size = b at *
            clear hbb HB e0 e1 e2 e3 e4 e5 e6 e7 e8
            go_wp2_with fail
            refine wp_region_held_drew (S := (fun w' => w'.cell? ⟨b, 0, none⟩ = some (.int .i64 yid) ∧ w'.cell? ⟨b, 1, none⟩ = some (.int .i64 ypa) ∧ w'.cell? ⟨b, 2, none⟩ = some (.string ysc) ∧ w'.cell? ⟨b, 3, none⟩ = some (.string yho) ∧ w'.cell? ⟨b, 4, none⟩ = some (.int .i64 ypo) ∧ w'.cell? ⟨b, 5, none⟩ = some (.string ypt) ∧ w'.cell? ⟨b, 6, none⟩ = some (.bool false) ∧ w'.cell? ⟨b, 7, none⟩ = some (.bool yfl) ∧ w'.cell? ⟨b, 8, none⟩ = some (.int .i64 ytc) ∧ w'.cell? ⟨g, m * 9, none⟩ = some (.int .i64 zid))) (by kernel_rfl) ?_ (fun hH0 => ?_)
            · (try dsimp only)
              go_keep
            refine takeY (i := 0) (oi := q90) (v := ?vp00) rfl ?hp00 ?rp00
            case hp00 => (intro w hSw; (try dsimp only [q90] at hSw ⊢); go_simp; try with_reducible rfl)
            try simp only [q90, Act.put, setIfInBounds_toArray, set_cons_zero, set_cons_succ]
            refine takeY (i := 1) (oi := q91) (v := ?vp01) rfl ?hp01 ?rp01
            case hp01 => (intro w hSw; (try dsimp only [q91] at hSw ⊢); go_simp; try with_reducible rfl)
            try simp only [q91, Act.put, setIfInBounds_toArray, set_cons_zero, set_cons_succ]
            refine wpAnyH_ready (rs := [2]) (by kernel_rfl) (by simp) ?_
            refine AllReadyH.cons (o := q92) rfl (fun K hK => ?_) AllReadyH.nil
            dsimp only [q92] at hK ⊢
            go_simp
            (go_at_call 51; refine (KI.out _).mono ?_; rintro e w2 ⟨rfl, rfl⟩)
            try (go_wp2_with fail)
            refine hK.out _ _ ?_ (fun hH1 => ?_)
            · (try dsimp only)
              go_keep
            clear hK K hH0
            try simp only [q92, Act.put, setIfInBounds_toArray, set_cons_zero, set_cons_succ]
            refine takeY (i := 3) (oi := q93) (v := ?vp03) rfl ?hp03 ?rp03
            case hp03 => (intro w hSw; (try dsimp only [q93] at hSw ⊢); go_simp; try with_reducible rfl)
            try simp only [q93, Act.put, setIfInBounds_toArray, set_cons_zero, set_cons_succ]
            refine takeY (i := 4) (oi := q94) (v := ?vp04) rfl ?hp04 ?rp04
            case hp04 => (intro w hSw; (try dsimp only [q94] at hSw ⊢); go_simp; try with_reducible rfl)
            try simp only [q94, Act.put, setIfInBounds_toArray, set_cons_zero, set_cons_succ]
            refine takeY (i := 5) (oi := q95) (v := ?vp05) rfl ?hp05 ?rp05
            case hp05 => (intro w hSw; (try dsimp only [q95] at hSw ⊢); go_simp; try with_reducible rfl)
            try simp only [q95, Act.put, setIfInBounds_toArray, set_cons_zero, set_cons_succ]
            refine takeY (i := 6) (oi := q96) (v := ?vp06) rfl ?hp06 ?rp06
            case hp06 => (intro w hSw; (try dsimp only [q96] at hSw ⊢); go_simp; try with_reducible rfl)
            try simp only [q96, Act.put, setIfInBounds_toArray, set_cons_zero, set_cons_succ]
            refine takeY (i := 7) (oi := q97) (v := ?vp07) rfl ?hp07 ?rp07
            case hp07 => (intro w hSw; (try dsimp only [q97] at hSw ⊢); go_simp; try with_reducible rfl)
            try simp only [q97, Act.put, setIfInBounds_toArray, set_cons_zero, set_cons_succ]
            refine takeY (i := 8) (oi := q98) (v := ?vp08) rfl ?hp08 ?rp08
            case hp08 => (intro w hSw; (try dsimp only [q98] at hSw ⊢); go_simp; try with_reducible rfl)
            try simp only [q98, Act.put, setIfInBounds_toArray, set_cons_zero, set_cons_succ]
            refine takeY (i := 9) (oi := q99) (v := ?vp09) rfl ?hp09 ?rp09
            case hp09 => (intro w hSw; (try dsimp only [q99] at hSw ⊢); go_simp; try with_reducible rfl)
            try simp only [q99, Act.put, setIfInBounds_toArray, set_cons_zero, set_cons_succ]
            refine takeY (i := 10) (oi := q910) (v := ?vp010) rfl ?hp010 ?rp010
            case hp010 => (intro w hSw; (try dsimp only [q910] at hSw ⊢); go_simp; try with_reducible rfl)
            try simp only [q910, Act.put, setIfInBounds_toArray, set_cons_zero, set_cons_succ]
            refine takeY (i := 11) (oi := q911) (v := ?vp011) rfl ?hp011 ?rp011
            case hp011 => (intro w hSw; (try dsimp only [q911] at hSw ⊢); go_simp; try with_reducible rfl)
            try simp only [q911, Act.put, setIfInBounds_toArray, set_cons_zero, set_cons_succ]
            refine takeY (i := 12) (oi := q912) (v := ?vp012) rfl ?hp012 ?rp012
            case hp012 => (intro w hSw; (try dsimp only [q912] at hSw ⊢); go_simp; try with_reducible rfl)
            try simp only [q912, Act.put, setIfInBounds_toArray, set_cons_zero, set_cons_succ]
            refine takeY (i := 13) (oi := q913) (v := ?vp013) rfl ?hp013 ?rp013
            case hp013 => (intro w hSw; (try dsimp only [q913] at hSw ⊢); go_simp; try with_reducible rfl)
            try simp only [q913, Act.put, setIfInBounds_toArray, set_cons_zero, set_cons_succ]
            refine takeY (i := 14) (oi := q914) (v := ?vp014) rfl ?hp014 ?rp014
            case hp014 => (intro w hSw; (try dsimp only [q914] at hSw ⊢); go_simp; try with_reducible rfl)
            try simp only [q914, Act.put, setIfInBounds_toArray, set_cons_zero, set_cons_succ]
            refine takeY (i := 15) (oi := q915) (v := ?vp015) rfl ?hp015 ?rp015
            case hp015 => (intro w hSw; (try dsimp only [q915] at hSw ⊢); go_simp; try with_reducible rfl)
            try simp only [q915, Act.put, setIfInBounds_toArray, set_cons_zero, set_cons_succ]
            refine takeY (i := 16) (oi := q916) (v := ?vp016) rfl ?hp016 ?rp016
            case hp016 => (intro w hSw; (try dsimp only [q916] at hSw ⊢); go_simp; try with_reducible rfl)
            try simp only [q916, Act.put, setIfInBounds_toArray, set_cons_zero, set_cons_succ]
            refine takeY (i := 17) (oi := q917) (v := ?vp017) rfl ?hp017 ?rp017
            case hp017 => (intro w hSw; (try dsimp only [q917] at hSw ⊢); go_simp; try with_reducible rfl)
            try simp only [q917, Act.put, setIfInBounds_toArray, set_cons_zero, set_cons_succ]
            refine takeY (i := 18) (oi := q918) (v := ?vp018) rfl ?hp018 ?rp018
            case hp018 => (intro w hSw; (try dsimp only [q918] at hSw ⊢); go_simp; try with_reducible rfl)
            try simp only [q918, Act.put, setIfInBounds_toArray, set_cons_zero, set_cons_succ]
            refine takeY (i := 19) (oi := q919) (v := ?vp019) rfl ?hp019 ?rp019
            case hp019 => (intro w hSw; (try dsimp only [q919] at hSw ⊢); go_simp; try with_reducible rfl)
            try simp only [q919, Act.put, setIfInBounds_toArray, set_cons_zero, set_cons_succ]
            refine takeY (i := 20) (oi := q920) (v := ?vp020) rfl ?hp020 ?rp020
            case hp020 => (intro w hSw; (try dsimp only [q920] at hSw ⊢); go_simp; try with_reducible rfl)
            try simp only [q920, Act.put, setIfInBounds_toArray, set_cons_zero, set_cons_succ]
            refine takeY (i := 21) (oi := q921) (v := ?vp021) rfl ?hp021 ?rp021
            case hp021 => (intro w hSw; (try dsimp only [q921] at hSw ⊢); go_simp; try with_reducible rfl)
            try simp only [q921, Act.put, setIfInBounds_toArray, set_cons_zero, set_cons_succ]
            refine takeY (i := 22) (oi := q922) (v := ?vp022) rfl ?hp022 ?rp022
            case hp022 => (intro w hSw; (try dsimp only [q922] at hSw ⊢); go_simp; try with_reducible rfl)
            try simp only [q922, Act.put, setIfInBounds_toArray, set_cons_zero, set_cons_succ]
            refine takeY (i := 23) (oi := q923) (v := ?vp023) rfl ?hp023 ?rp023
            case hp023 => (intro w hSw; (try dsimp only [q923] at hSw ⊢); go_simp; try with_reducible rfl)
            try simp only [q923, Act.put, setIfInBounds_toArray, set_cons_zero, set_cons_succ]
            refine takeN (i := 24) (oi := q924) rfl ?_
            try simp only [q924, Act.put, setIfInBounds_toArray, set_cons_zero, set_cons_succ]
            refine takeN (i := 25) (oi := q925) rfl ?_
            try simp only [q925, Act.put, setIfInBounds_toArray, set_cons_zero, set_cons_succ]
            refine takeN (i := 26) (oi := q926) rfl ?_
            try simp only [q926, Act.put, setIfInBounds_toArray, set_cons_zero, set_cons_succ]
            refine takeN (i := 27) (oi := q927) rfl ?_
            try simp only [q927, Act.put, setIfInBounds_toArray, set_cons_zero, set_cons_succ]
            refine takeN (i := 28) (oi := q928) rfl ?_
            try simp only [q928, Act.put, setIfInBounds_toArray, set_cons_zero, set_cons_succ]
            refine takeN (i := 29) (oi := q929) rfl ?_
            try simp only [q929, Act.put, setIfInBounds_toArray, set_cons_zero, set_cons_succ]
            refine takeN (i := 30) (oi := q930) rfl ?_
            try simp only [q930, Act.put, setIfInBounds_toArray, set_cons_zero, set_cons_succ]
            refine takeY (i := 31) (oi := q931) (v := ?vp031) rfl ?hp031 ?rp031
            case hp031 => (intro w hSw; (try dsimp only [q931] at hSw ⊢); go_simp; try with_reducible rfl)
            try simp only [q931, Act.put, setIfInBounds_toArray, set_cons_zero, set_cons_succ]
            refine takeY (i := 32) (oi := q932) (v := ?vp032) rfl ?hp032 ?rp032
            case hp032 => (intro w hSw; (try dsimp only [q932] at hSw ⊢); go_simp; try with_reducible rfl)
            try simp only [q932, Act.put, setIfInBounds_toArray, set_cons_zero, set_cons_succ]
            refine takeY (i := 33) (oi := q933) (v := ?vp033) rfl ?hp033 ?rp033
            case hp033 => (intro w hSw; (try dsimp only [q933] at hSw ⊢); go_simp; try with_reducible rfl)
            try simp only [q933, Act.put, setIfInBounds_toArray, set_cons_zero, set_cons_succ]
            refine takeY (i := 34) (oi := q934) (v := ?vp034) rfl ?hp034 ?rp034
            case hp034 => (intro w hSw; (try dsimp only [q934] at hSw ⊢); go_simp; try with_reducible rfl)
            try simp only [q934, Act.put, setIfInBounds_toArray, set_cons_zero, set_cons_succ]
            refine takeY (i := 35) (oi := q935) (v := ?vp035) rfl ?hp035 ?rp035
            case hp035 => (intro w hSw; (try dsimp only [q935] at hSw ⊢); go_simp; try with_reducible rfl)
            try simp only [q935, Act.put, setIfInBounds_toArray, set_cons_zero, set_cons_succ]
            refine wpAnyH_ready (rs := [36]) (by kernel_rfl) (by simp) ?_
            refine AllReadyH.cons (o := q936) rfl (fun K hK => ?_) AllReadyH.nil
            dsimp only [q936] at hK ⊢
            go_simp
            (go_at_call 76; refine (KU.out _).mono ?_; rintro e w4 ⟨rfl, hb4⟩; have A4 : Below W0.heap.size W0 w4 := (Below.drew (Below.refl _ _)).trans hb4; have u0 : w4.cell? ⟨b, 0, none⟩ = some (.int .i64 yid) := ((bcell A4).1 _ _ hbW).trans c0; have u1 : w4.cell? ⟨b, 1, none⟩ = some (.int .i64 ypa) := ((bcell A4).1 _ _ hbW).trans c1; have u2 : w4.cell? ⟨b, 2, none⟩ = some (.string ysc) := ((bcell A4).1 _ _ hbW).trans c2; have u3 : w4.cell? ⟨b, 3, none⟩ = some (.string yho) := ((bcell A4).1 _ _ hbW).trans c3; have u4 : w4.cell? ⟨b, 4, none⟩ = some (.int .i64 ypo) := ((bcell A4).1 _ _ hbW).trans c4; have u5 : w4.cell? ⟨b, 5, none⟩ = some (.string ypt) := ((bcell A4).1 _ _ hbW).trans c5; have u6 : w4.cell? ⟨b, 6, none⟩ = some (.bool false) := ((bcell A4).1 _ _ hbW).trans c6; have u7 : w4.cell? ⟨b, 7, none⟩ = some (.bool yfl) := ((bcell A4).1 _ _ hbW).trans c7; have u8 : w4.cell? ⟨b, 8, none⟩ = some (.int .i64 ytc) := ((bcell A4).1 _ _ hbW).trans c8; have um : w4.cell? ⟨g, m * 9, none⟩ = some (.int .i64 zid) := ((bcell A4).1 _ _ hgW).trans cm)
            try (go_wp2_with fail)
            refine hK.out _ _ ?_ (fun hH2 => ?_)
            · (try dsimp only)
              go_keep
            clear hK K hH1
            try simp only [q936, Act.put, setIfInBounds_toArray, set_cons_zero, set_cons_succ]
            refine takeY (i := 37) (oi := q937) (v := ?vp037) rfl ?hp037 ?rp037
            case hp037 => (intro w hSw; (try dsimp only [q937] at hSw ⊢); go_simp; try with_reducible rfl)
            try simp only [q937, Act.put, setIfInBounds_toArray, set_cons_zero, set_cons_succ]
            refine takeY (i := 38) (oi := q938) (v := ?vp038) rfl ?hp038 ?rp038
            case hp038 => (intro w hSw; (try dsimp only [q938] at hSw ⊢); go_simp; try with_reducible rfl)
            try simp only [q938, Act.put, setIfInBounds_toArray, set_cons_zero, set_cons_succ]
            refine takeY (i := 39) (oi := q939) (v := ?vp039) rfl ?hp039 ?rp039
            case hp039 => (intro w hSw; (try dsimp only [q939] at hSw ⊢); go_simp; try with_reducible rfl)
            try simp only [q939, Act.put, setIfInBounds_toArray, set_cons_zero, set_cons_succ]
            refine takeY (i := 40) (oi := q940) (v := ?vp040) rfl ?hp040 ?rp040
            case hp040 => (intro w hSw; (try dsimp only [q940] at hSw ⊢); go_simp; try with_reducible rfl)
            try simp only [q940, Act.put, setIfInBounds_toArray, set_cons_zero, set_cons_succ]
            refine takeY (i := 41) (oi := q941) (v := ?vp041) rfl ?hp041 ?rp041
            case hp041 => (intro w hSw; (try dsimp only [q941] at hSw ⊢); go_simp; try with_reducible rfl)
            try simp only [q941, Act.put, setIfInBounds_toArray, set_cons_zero, set_cons_succ]
            refine wpAnyH_ready (rs := [42]) (by kernel_rfl) (by simp) ?_
            refine AllReadyH.cons (o := q942) rfl (fun K hK => ?_) AllReadyH.nil
            dsimp only [q942] at hK ⊢
            go_simp
            (go_at_call 31; refine (KT.out _).mono ?_; rintro e w5 ⟨rfl, e5⟩; obtain rfl := e5.symm)
            try (go_wp2_with fail)
            refine hK.out _ _ ?_ (fun hH3 => ?_)
            · (try dsimp only)
              go_keep
            clear hK K hH2
            try simp only [q942, Act.put, setIfInBounds_toArray, set_cons_zero, set_cons_succ]
            refine takeY (i := 43) (oi := q943) (v := ?vp043) rfl ?hp043 ?rp043
            case hp043 => (intro w hSw; (try dsimp only [q943] at hSw ⊢); go_simp; try with_reducible rfl)
            try simp only [q943, Act.put, setIfInBounds_toArray, set_cons_zero, set_cons_succ]
            refine takeY (i := 44) (oi := q944) (v := ?vp044) rfl ?hp044 ?rp044
            case hp044 => (intro w hSw; (try dsimp only [q944] at hSw ⊢); go_simp; try with_reducible rfl)
            try simp only [q944, Act.put, setIfInBounds_toArray, set_cons_zero, set_cons_succ]
            refine takeY (i := 45) (oi := q945) (v := ?vp045) rfl ?hp045 ?rp045
            case hp045 => (intro w hSw; (try dsimp only [q945] at hSw ⊢); go_simp; try with_reducible rfl)
            try simp only [q945, Act.put, setIfInBounds_toArray, set_cons_zero, set_cons_succ]
            refine takeY (i := 46) (oi := q946) (v := ?vp046) rfl ?hp046 ?rp046
            case hp046 => (intro w hSw; (try dsimp only [q946] at hSw ⊢); go_simp; try with_reducible rfl)
            try simp only [q946, Act.put, setIfInBounds_toArray, set_cons_zero, set_cons_succ]
            refine takeY (i := 47) (oi := q947) (v := ?vp047) rfl ?hp047 ?rp047
            case hp047 => (intro w hSw; (try dsimp only [q947] at hSw ⊢); go_simp; try with_reducible rfl)
            try simp only [q947, Act.put, setIfInBounds_toArray, set_cons_zero, set_cons_succ]
            refine takeY (i := 48) (oi := q948) (v := ?vp048) rfl ?hp048 ?rp048
            case hp048 => (intro w hSw; (try dsimp only [q948] at hSw ⊢); go_simp; try with_reducible rfl)
            try simp only [q948, Act.put, setIfInBounds_toArray, set_cons_zero, set_cons_succ]
            refine takeY (i := 49) (oi := q949) (v := ?vp049) rfl ?hp049 ?rp049
            case hp049 => (intro w hSw; (try dsimp only [q949] at hSw ⊢); go_simp; try with_reducible rfl)
            try simp only [q949, Act.put, setIfInBounds_toArray, set_cons_zero, set_cons_succ]
            refine takeY (i := 50) (oi := q950) (v := ?vp050) rfl ?hp050 ?rp050
            case hp050 => (intro w hSw; (try dsimp only [q950] at hSw ⊢); go_simp; try with_reducible rfl)
            try simp only [q950, Act.put, setIfInBounds_toArray, set_cons_zero, set_cons_succ]
            refine takeY (i := 51) (oi := q951) (v := ?vp051) rfl ?hp051 ?rp051
            case hp051 => (intro w hSw; (try dsimp only [q951] at hSw ⊢); go_simp; try with_reducible rfl)
            try simp only [q951, Act.put, setIfInBounds_toArray, set_cons_zero, set_cons_succ]
            refine takeY (i := 52) (oi := q952) (v := ?vp052) rfl ?hp052 ?rp052
            case hp052 => (intro w hSw; (try dsimp only [q952] at hSw ⊢); go_simp; try with_reducible rfl)
            try simp only [q952, Act.put, setIfInBounds_toArray, set_cons_zero, set_cons_succ]
            refine takeY (i := 53) (oi := q953) (v := ?vp053) rfl ?hp053 ?rp053
            case hp053 => (intro w hSw; (try dsimp only [q953] at hSw ⊢); go_simp; try with_reducible rfl)
            try simp only [q953, Act.put, setIfInBounds_toArray, set_cons_zero, set_cons_succ]
            refine wpAnyH_done (by kernel_rfl) ?_ _
            have BN : Hid (Below w.heap.size w w4) := HBW.out.trans (A4.mono HBW.out.size)
            go_wp2
            go_roundw
            case rel => exact ⟨m + 2, by omega, by go_num, BN, HN⟩
            case measure => simp [intOf]; omega
    · obtain rfl : k = L.length := by omega
      have HQ : Hid (R = decide ((L.length : Int) ≤ 10)) := HAll.out HR.out
      go_wp2
      go_ret
      exact ⟨ret_bool HQ.out.symm, HB.out⟩
end Go.Proofs.YtaccgciopmclhaaGreatDoor
