/- 10 of this claim's texts, one behind the other. -/
import Derived.Test.YtclpamjgglfljaaDoorPart6
import Derived.Test.YtclpamjgglfljaaDoorPart2
import Derived.Test.YtclpamjgglfljaaDoorPart3
import Derived.Test.YtclpamjgglfljaaDoorPart4
import Derived.Test.YtclpamjgglfljaaDoorPart1
import Derived.Deep.RegionHeld3
import Derived.Test.YtclpamjgglfljaaDoorPart5
import Derived.Deep.DeepCutAuto
import Derived.ProofKit
import Derived.OpenShut
import Derived.Deep.Strs
/- The walk of the program's FrameGo. Written by implgo2.py. -/
namespace Go.Proofs.YtclpamjgglfljaaDoor
open Go.RowKit

def q9f0 : Oper := { dst := some 49, op := Op.move (Operand.tmp 9), type := 29, pos := "l09_frame.go:181", after := #[], guard := none }
def q9f1 : Oper := { dst := some 50, op := Op.move (Operand.tmp 10), type := 3, pos := "l09_frame.go:181", after := #[], guard := none }
def q9f2 : Oper := { dst := some 51, op := Op.move (Operand.tmp 9), type := 29, pos := "l09_frame.go:181", after := #[], guard := none }
def q9f3 : Oper := { dst := some 52, op := Op.move (Operand.tmp 10), type := 3, pos := "l09_frame.go:181", after := #[], guard := none }
def q9f4 : Oper := { dst := some 53, op := Op.indexAddr 29 (Operand.tmp 51) (Operand.tmp 52), type := 0, pos := "l09_frame.go:181", after := #[{ on := 2, ground := Ground.data }, { on := 3, ground := Ground.data }], guard := none }
def q9f5 : Oper := { dst := some 54, op := Op.load 54 (Operand.tmp 53), type := 54, pos := "l09_frame.go:181", after := #[{ on := 4, ground := Ground.data }], guard := none }
def q9f6 : Oper := { dst := some 55, op := Op.load 35 (Operand.tmp 7), type := 35, pos := "l09_frame.go:181", after := #[], guard := none }
def q9f7 : Oper := { dst := some 56, op := Op.call { callee := Callee.value (Operand.func 36), args := #[Operand.tmp 54, Operand.tmp 55], argTypes := #[54, 35] }, type := 54, pos := "l09_frame.go:181", after := #[{ on := 5, ground := Ground.data }, { on := 6, ground := Ground.data }], guard := none }
def q9f8 : Oper := { dst := some 57, op := Op.indexAddr 29 (Operand.tmp 49) (Operand.tmp 50), type := 0, pos := "l09_frame.go:181", after := #[{ on := 0, ground := Ground.data }, { on := 1, ground := Ground.data }, { on := 0, ground := Ground.phase }, { on := 1, ground := Ground.phase }, { on := 2, ground := Ground.phase }, { on := 3, ground := Ground.phase }, { on := 4, ground := Ground.phase }, { on := 5, ground := Ground.phase }, { on := 6, ground := Ground.phase }, { on := 7, ground := Ground.phase }], guard := none }
def q9f9 : Oper := { dst := none, op := Op.store 54 (Operand.tmp 57) (Operand.tmp 56), type := 0, pos := "l09_frame.go:181", after := #[{ on := 8, ground := Ground.data }, { on := 7, ground := Ground.data }, { on := 7, ground := Ground.chain }, { on := 0, ground := Ground.phase }, { on := 1, ground := Ground.phase }, { on := 2, ground := Ground.phase }, { on := 3, ground := Ground.phase }, { on := 4, ground := Ground.phase }, { on := 5, ground := Ground.phase }, { on := 6, ground := Ground.phase }, { on := 7, ground := Ground.phase }], guard := none }
open List (setIfInBounds_toArray set_cons_zero set_cons_succ)
set_option maxRecDepth 10000 in
set_option maxHeartbeats 16000000 in
theorem frameGo_any (v rv : Value) (L : List Fr) (B Br n : Nat) (f : Nat → ByteArray) (id : Int) (sc ho pt : ByteArray) (po : Int) (w : World) (hG : MaxI w) (hs : SliceF w B v L) (hn : L.length ≤ 1048576) (hr : SliceS w Br rv n f) (l1 : n ≤ 1048576) (hf : ∀ i, i < n → (f i).size ≤ 1048576) (hh : ∀ i, i < L.length → (atF L i).ho.size ≤ 1048576) (hu : ho.size ≤ 1048576) :
    Calls Tryd.prog 12 #[v, rv, .int .i64 id, .agg #[.string sc, .string ho, .int .i64 po, .string pt]] w fun e w' => ∃ v', e = .returned v' ∧ AnsF w' w.heap.size v' (goF L n f id sc ho pt po) ∧ Below w.heap.size w w' := by
  have KF : Hid (∀ W, Below w.heap.size w W → Calls Tryd.prog 29 #[v] W fun e w' => e = .returned (.bool (framesB L)) ∧ Below W.heap.size W w') := fun W hb => framesRight_any v L B W (hG.on hb) (hs.below hb) hn hh
  have KR : Hid (∀ W, Below w.heap.size w W → Calls Tryd.prog 30 #[rv] W fun e w' => e = .returned (.bool (rulesB n f)) ∧ Below W.heap.size W w') := fun W hb => rulesRight_any rv n Br f W (hG.on hb) (hr.below hb) l1 hf
  have KU : Hid (∀ W, Below w.heap.size w W → Calls Tryd.prog 31 #[.agg #[.string sc, .string ho, .int .i64 po, .string pt]] W fun e w' => e = .returned (.bool (urlB sc ho pt po)) ∧ Below W.heap.size W w') := fun W hb => urlRight_any sc ho pt po W (hG.on hb) hu
  have KA : Hid (∀ W, Below w.heap.size w W → Calls Tryd.prog 32 #[v, .int .i64 id] W fun e w' => e = .returned (.int .i64 (whF L id)) ∧ Below W.heap.size W w') := fun W hb => placeOf9_any v L B id W (hs.below hb) hn
  have KH : Hid (framesB L = true → ∀ W, Below w.heap.size w W → Calls Tryd.prog 35 #[v, .int .i64 id] W fun e w' => ∃ v', e = .returned v' ∧ w'.ownsRow W.heap.size 2 1 v' (heldF L id).length (intsV (heldF L id)) ∧ Below W.heap.size W w') := fun hL W hb => heldBy_any v L B id W (hs.below hb) (by have := (framesB_parts hL).1; omega)
  have KS : Hid (framesB L = true → ∀ sv Bs W, Below w.heap.size w W → SliceN W Bs sv (heldF L id) → Calls Tryd.prog 34 #[v, sv] W fun e w' => ∃ v', e = .returned v' ∧ w'.ownsRow W.heap.size 2 1 v' (shutI L (heldF L id) L.length).length (intsV (shutI L (heldF L id) L.length)) ∧ Below W.heap.size W w') := fun hL sv Bs W hb h => shutWith_any v sv L (heldF L id) B Bs W (hs.below hb) hL h (Nat.le_trans (heldF_len L id) hn)
  have KW : Hid (framesB L = true → ∀ sv Bs W, Below w.heap.size w W → SliceN W Bs sv (shutI L (heldF L id) L.length) → Calls Tryd.prog 33 #[v, sv] W fun e w' => ∃ v', e = .returned v' ∧ w'.ownsRow W.heap.size 54 9 v' (innerF L id).length (frCells (innerF L id)) ∧ Below W.heap.size W w') := fun hL sv Bs W hb h => by
    have h10 := (framesB_parts hL).1
    have k := framesWithout_any v sv L (shutI L (heldF L id) L.length) B Bs W (hs.below hb) (by omega) h (Nat.le_trans (shutI_len _ _ _) (by omega)) (fun i hi => uF_sizes (okF_u9 ((framesB_parts hL).2 i hi)))
    rw [withF_inner hL] at k
    exact k
  have KP : Hid (framesB L = true → ∀ mv Bm W, SliceF W Bm mv (innerF L id) → Calls Tryd.prog 32 #[mv, .int .i64 id] W fun e w' => e = .returned (.int .i64 (whF (innerF L id) id)) ∧ Below W.heap.size W w') := fun hL mv Bm W h => placeOf9_any mv (innerF L id) Bm id W h (by have h4 : (innerF L id).length ≤ L.length := List.length_filter_le _ _; omega)
  have KT : Hid (framesB L = true → hereF L id = true → urlB sc ho pt po = true → ∀ W, Below w.heap.size w W → Calls Tryd.prog 36 #[frV (getF L id), .agg #[.string sc, .string ho, .int .i64 po, .string pt]] W fun e w' => e = .returned (frV (wentF (getF L id) sc ho pt po)) ∧ Below W.heap.size W w') := fun hL hh2 hu2 W hb => by
    obtain ⟨k, hk, -, eg, -⟩ := here_wh hh2
    exact wentTo_any (getF L id) sc ho pt po W (hG.on hb) (by rw [eg]; exact okF_u9 ((framesB_parts hL).2 k hk)) hu2
  have HIH : Hid (framesB L = true → hereF L id = true → ∃ k, k < (innerF L id).length ∧ whF (innerF L id) id = (k : Int) ∧ atF (innerF L id) k = getF L id) := fun hL hh2 => inner_here hL hh2
  obtain ⟨W0, hW⟩ : ∃ W0, W0 = ((w.alloc (.cells #[.string sc, .string ho, .int .i64 po, .string pt] 35)).alloc (.cells #[.slice none 0 0, .int .i64 0, .int .i64 0] 31)) := ⟨_, rfl⟩
  have hW0 : Hid (W0 = ((w.alloc (.cells #[.string sc, .string ho, .int .i64 po, .string pt] 35)).alloc (.cells #[.slice none 0 0, .int .i64 0, .int .i64 0] 31))) := hW
  have U0 : Hid (BoxV W0 w.heap.size [.string sc, .string ho, .int .i64 po, .string pt]) := by show BoxV _ _ _; rw [hW]; exact (boxV_new w [.string sc, .string ho, .int .i64 po, .string pt] 35).alloc _
  have X0 : Hid (BoxV W0 (w.heap.size + 1) [.slice none 0 0, .int .i64 0, .int .i64 0]) := by
    show BoxV _ _ _
    rw [hW]
    have h := boxV_new (w.alloc (.cells #[.string sc, .string ho, .int .i64 po, .string pt] 35)) [.slice none 0 0, .int .i64 0, .int .i64 0] 31
    rw [World.size_alloc] at h
    exact h
  have B0 : Hid (Below w.heap.size w W0) := by show Below _ _ _; rw [hW]; exact ((Below.refl _ _).alloc (Nat.le_refl _) _).alloc (by simp) _
  obtain ⟨p, cap, rfl⟩ : ∃ p cap, v = .slice p L.length cap := by obtain ⟨-, p, c, e, -⟩ := hs; exact ⟨p, c, e⟩
  obtain ⟨pr, capr, rfl⟩ : ∃ p cap, rv = .slice p n cap := by obtain ⟨p, c, e, -⟩ := hr; exact ⟨p, c, e⟩
  clear hW hs hr hf hG hh hu
  by_cases h4 : 400 < L.length
  · have q4 : decide ((400 : Int) < (L.length : Int)) = true := by rw [decide_eq_true_iff]; omega
    go_enter Tryd.func12, Tryd.ntmps12
    go_upto_region 1 with fail
    rw [← hW0.out]
    clear hW0
    have HQ : Hid (goF L n f id sc ho pt po = ⟨[], 0, 2⟩) := by show _ = _; exact goF_size (.inl h4)
    have x0 : W0.cell? ⟨w.heap.size + 1, 0, none⟩ = some (.slice none 0 0) := X0.out.at (i := 0) rfl
    have x1 : W0.cell? ⟨w.heap.size + 1, 1, none⟩ = some (.int .i64 0) := X0.out.at (i := 1) rfl
    have x2 : W0.cell? ⟨w.heap.size + 1, 2, none⟩ = some (.int .i64 0) := X0.out.at (i := 2) rfl
    have xz0 : W0.frozen? ⟨w.heap.size + 1, 0, none⟩ = false := X0.out.free (i := 0) rfl
    have xz1 : W0.frozen? ⟨w.heap.size + 1, 1, none⟩ = false := X0.out.free (i := 1) rfl
    have xz2 : W0.frozen? ⟨w.heap.size + 1, 2, none⟩ = false := X0.out.free (i := 2) rfl
    go_wp2
    exact bodyPost_ret (v := .agg #[.slice none 0 0, .int .i64 0, .int .i64 2]) (by simp [results, Tryd.results12, go_sem, x0, x1, x2]) rfl ⟨_, rfl, ⟨.slice none 0 0, by rw [HQ.out], by rw [HQ.out]; exact sliceF_none _ _⟩, (Below.setCell (Below.setCell (Below.setCell B0.out (Nat.le_succ _) _) (Nat.le_succ _) _) (Nat.le_succ _) _)⟩
  have q4 : decide ((400 : Int) < (L.length : Int)) = false := by rw [decide_eq_false_iff_not]; omega
  by_cases h5 : 400 < n
  · have q5 : decide ((400 : Int) < (n : Int)) = true := by rw [decide_eq_true_iff]; omega
    go_enter Tryd.func12, Tryd.ntmps12
    go_upto_region 1 with fail
    rw [← hW0.out]
    clear hW0
    have HQ : Hid (goF L n f id sc ho pt po = ⟨[], 0, 2⟩) := by show _ = _; exact goF_size (.inr h5)
    have x0 : W0.cell? ⟨w.heap.size + 1, 0, none⟩ = some (.slice none 0 0) := X0.out.at (i := 0) rfl
    have x1 : W0.cell? ⟨w.heap.size + 1, 1, none⟩ = some (.int .i64 0) := X0.out.at (i := 1) rfl
    have x2 : W0.cell? ⟨w.heap.size + 1, 2, none⟩ = some (.int .i64 0) := X0.out.at (i := 2) rfl
    have xz0 : W0.frozen? ⟨w.heap.size + 1, 0, none⟩ = false := X0.out.free (i := 0) rfl
    have xz1 : W0.frozen? ⟨w.heap.size + 1, 1, none⟩ = false := X0.out.free (i := 1) rfl
    have xz2 : W0.frozen? ⟨w.heap.size + 1, 2, none⟩ = false := X0.out.free (i := 2) rfl
    go_wp2
    exact bodyPost_ret (v := .agg #[.slice none 0 0, .int .i64 0, .int .i64 2]) (by simp [results, Tryd.results12, go_sem, x0, x1, x2]) rfl ⟨_, rfl, ⟨.slice none 0 0, by rw [HQ.out], by rw [HQ.out]; exact sliceF_none _ _⟩, (Below.setCell (Below.setCell (Below.setCell B0.out (Nat.le_succ _) _) (Nat.le_succ _) _) (Nat.le_succ _) _)⟩
  have q5 : decide ((400 : Int) < (n : Int)) = false := by rw [decide_eq_false_iff_not]; omega
  have h45 : ¬ (400 < L.length ∨ 400 < n) := by omega
  go_enter Tryd.func12, Tryd.ntmps12
  go_upto_region 1 with fail
  rw [← hW0.out]
  clear hW0
  go_wp2_with fail
  refine (KF.out _ B0.out).mono ?_
  rintro e w1 ⟨rfl, hb1⟩
  have X1 : Hid (BoxV w1 (w.heap.size + 1) [.slice none 0 0, .int .i64 0, .int .i64 0]) := X0.out.below hb1
  have U1 : Hid (BoxV w1 w.heap.size [.string sc, .string ho, .int .i64 po, .string pt]) := U0.out.below hb1
  have B1 : Hid (Below w.heap.size w w1) := B0.out.trans (hb1.mono B0.out.size)
  clear hb1 X0 U0 B0
  cases hfb : framesB L with
  | false =>
    have HQ : Hid (goF L n f id sc ho pt po = ⟨[], 0, 1⟩) := by show _ = _; exact goF_form h45 (by rw [hfb]; rfl)
    have x0 : w1.cell? ⟨w.heap.size + 1, 0, none⟩ = some (.slice none 0 0) := X1.out.at (i := 0) rfl
    have x1 : w1.cell? ⟨w.heap.size + 1, 1, none⟩ = some (.int .i64 0) := X1.out.at (i := 1) rfl
    have x2 : w1.cell? ⟨w.heap.size + 1, 2, none⟩ = some (.int .i64 0) := X1.out.at (i := 2) rfl
    have xz0 : w1.frozen? ⟨w.heap.size + 1, 0, none⟩ = false := X1.out.free (i := 0) rfl
    have xz1 : w1.frozen? ⟨w.heap.size + 1, 1, none⟩ = false := X1.out.free (i := 1) rfl
    have xz2 : w1.frozen? ⟨w.heap.size + 1, 2, none⟩ = false := X1.out.free (i := 2) rfl
    go_wp2
    exact bodyPost_ret (v := .agg #[.slice none 0 0, .int .i64 0, .int .i64 1]) (by simp [results, Tryd.results12, go_sem, x0, x1, x2]) rfl ⟨_, rfl, ⟨.slice none 0 0, by rw [HQ.out], by rw [HQ.out]; exact sliceF_none _ _⟩, (Below.setCell (Below.setCell (Below.setCell B1.out (Nat.le_succ _) _) (Nat.le_succ _) _) (Nat.le_succ _) _)⟩
  | true =>
  go_wp2_with fail
  refine (KR.out _ B1.out).mono ?_
  rintro e w2 ⟨rfl, hb2⟩
  have X2 : Hid (BoxV w2 (w.heap.size + 1) [.slice none 0 0, .int .i64 0, .int .i64 0]) := X1.out.below hb2
  have U2 : Hid (BoxV w2 w.heap.size [.string sc, .string ho, .int .i64 po, .string pt]) := U1.out.below hb2
  have B2 : Hid (Below w.heap.size w w2) := B1.out.trans (hb2.mono B1.out.size)
  clear hb2 X1 U1 B1
  cases hrb : rulesB n f with
  | false =>
    have HQ : Hid (goF L n f id sc ho pt po = ⟨[], 0, 1⟩) := by show _ = _; exact goF_form h45 (by rw [hfb, hrb]; rfl)
    have x0 : w2.cell? ⟨w.heap.size + 1, 0, none⟩ = some (.slice none 0 0) := X2.out.at (i := 0) rfl
    have x1 : w2.cell? ⟨w.heap.size + 1, 1, none⟩ = some (.int .i64 0) := X2.out.at (i := 1) rfl
    have x2 : w2.cell? ⟨w.heap.size + 1, 2, none⟩ = some (.int .i64 0) := X2.out.at (i := 2) rfl
    have xz0 : w2.frozen? ⟨w.heap.size + 1, 0, none⟩ = false := X2.out.free (i := 0) rfl
    have xz1 : w2.frozen? ⟨w.heap.size + 1, 1, none⟩ = false := X2.out.free (i := 1) rfl
    have xz2 : w2.frozen? ⟨w.heap.size + 1, 2, none⟩ = false := X2.out.free (i := 2) rfl
    go_wp2
    exact bodyPost_ret (v := .agg #[.slice none 0 0, .int .i64 0, .int .i64 1]) (by simp [results, Tryd.results12, go_sem, x0, x1, x2]) rfl ⟨_, rfl, ⟨.slice none 0 0, by rw [HQ.out], by rw [HQ.out]; exact sliceF_none _ _⟩, (Below.setCell (Below.setCell (Below.setCell B2.out (Nat.le_succ _) _) (Nat.le_succ _) _) (Nat.le_succ _) _)⟩
  | true =>
  have u0 : w2.cell? ⟨w.heap.size, 0, none⟩ = some (.string sc) := U2.out.at (i := 0) rfl
  have u1 : w2.cell? ⟨w.heap.size, 1, none⟩ = some (.string ho) := U2.out.at (i := 1) rfl
  have u2 : w2.cell? ⟨w.heap.size, 2, none⟩ = some (.int .i64 po) := U2.out.at (i := 2) rfl
  have u3 : w2.cell? ⟨w.heap.size, 3, none⟩ = some (.string pt) := U2.out.at (i := 3) rfl
  go_wp2_with fail
  refine (KU.out _ B2.out).mono ?_
  rintro e w3 ⟨rfl, hb3⟩
  have X3 : Hid (BoxV w3 (w.heap.size + 1) [.slice none 0 0, .int .i64 0, .int .i64 0]) := X2.out.below hb3
  have U3 : Hid (BoxV w3 w.heap.size [.string sc, .string ho, .int .i64 po, .string pt]) := U2.out.below hb3
  have B3 : Hid (Below w.heap.size w w3) := B2.out.trans (hb3.mono B2.out.size)
  clear hb3 X2 U2 B2
  clear u0 u1 u2 u3
  cases hub : urlB sc ho pt po with
  | false =>
    have HQ : Hid (goF L n f id sc ho pt po = ⟨[], 0, 1⟩) := by show _ = _; exact goF_form h45 (by rw [hfb, hrb, hub]; rfl)
    have x0 : w3.cell? ⟨w.heap.size + 1, 0, none⟩ = some (.slice none 0 0) := X3.out.at (i := 0) rfl
    have x1 : w3.cell? ⟨w.heap.size + 1, 1, none⟩ = some (.int .i64 0) := X3.out.at (i := 1) rfl
    have x2 : w3.cell? ⟨w.heap.size + 1, 2, none⟩ = some (.int .i64 0) := X3.out.at (i := 2) rfl
    have xz0 : w3.frozen? ⟨w.heap.size + 1, 0, none⟩ = false := X3.out.free (i := 0) rfl
    have xz1 : w3.frozen? ⟨w.heap.size + 1, 1, none⟩ = false := X3.out.free (i := 1) rfl
    have xz2 : w3.frozen? ⟨w.heap.size + 1, 2, none⟩ = false := X3.out.free (i := 2) rfl
    go_wp2
    exact bodyPost_ret (v := .agg #[.slice none 0 0, .int .i64 0, .int .i64 1]) (by simp [results, Tryd.results12, go_sem, x0, x1, x2]) rfl ⟨_, rfl, ⟨.slice none 0 0, by rw [HQ.out], by rw [HQ.out]; exact sliceF_none _ _⟩, (Below.setCell (Below.setCell (Below.setCell B3.out (Nat.le_succ _) _) (Nat.le_succ _) _) (Nat.le_succ _) _)⟩
  | true =>
  go_wp2_with fail
  refine (KA.out _ B3.out).mono ?_
  rintro e w4 ⟨rfl, hb4⟩
  have X4 : Hid (BoxV w4 (w.heap.size + 1) [.slice none 0 0, .int .i64 0, .int .i64 0]) := X3.out.below hb4
  have U4 : Hid (BoxV w4 w.heap.size [.string sc, .string ho, .int .i64 po, .string pt]) := U3.out.below hb4
  have B4 : Hid (Below w.heap.size w w4) := B3.out.trans (hb4.mono B3.out.size)
  clear hb4 X3 U3 B3
  have hwd : hereF L id = decide (0 ≤ whF L id) := rfl
  have h1 : (framesB L && rulesB n f && urlB sc ho pt po) = true := by rw [hfb, hrb, hub]; rfl
  cases hh : hereF L id with
  | false =>
    have hw : whF L id < 0 := by rw [hwd, decide_eq_false_iff_not] at hh; omega
    have HN : goF L n f id sc ho pt po = ⟨[], 0, 6⟩ := goF_none h45 h1 hh
    clear hh hwd h1
    generalize whF L id = k at *
    have HQ : Hid (goF L n f id sc ho pt po = ⟨[], 0, 6⟩) := by show _ = _; exact HN
    have x0 : w4.cell? ⟨w.heap.size + 1, 0, none⟩ = some (.slice none 0 0) := X4.out.at (i := 0) rfl
    have x1 : w4.cell? ⟨w.heap.size + 1, 1, none⟩ = some (.int .i64 0) := X4.out.at (i := 1) rfl
    have x2 : w4.cell? ⟨w.heap.size + 1, 2, none⟩ = some (.int .i64 0) := X4.out.at (i := 2) rfl
    have xz0 : w4.frozen? ⟨w.heap.size + 1, 0, none⟩ = false := X4.out.free (i := 0) rfl
    have xz1 : w4.frozen? ⟨w.heap.size + 1, 1, none⟩ = false := X4.out.free (i := 1) rfl
    have xz2 : w4.frozen? ⟨w.heap.size + 1, 2, none⟩ = false := X4.out.free (i := 2) rfl
    go_wp2
    exact bodyPost_ret (v := .agg #[.slice none 0 0, .int .i64 0, .int .i64 6]) (by simp [results, Tryd.results12, go_sem, x0, x1, x2]) rfl ⟨_, rfl, ⟨.slice none 0 0, by rw [HQ.out], by rw [HQ.out]; exact sliceF_none _ _⟩, (Below.setCell (Below.setCell (Below.setCell B4.out (Nat.le_succ _) _) (Nat.le_succ _) _) (Nat.le_succ _) _)⟩
  | true =>
  have hw : ¬ (whF L id < 0) := by rw [hwd, decide_eq_true_iff] at hh; omega
  have qw : decide (whF L id < 0) = false := by rw [decide_eq_false_iff_not]; exact hw
  have HQ : Hid (goF L n f id sc ho pt po = ⟨goL L id sc ho pt po, id, 0⟩) := goF_ok h45 h1 hh
  obtain ⟨k, hk, ekw, ek⟩ := HIH.out hfb hh
  have KT1 := KT.out hfb hh hub
  have KP1 := KP.out hfb
  have HGL : Hid (goL L id sc ho pt po = (innerF L id).set k (wentF (getF L id) sc ho pt po)) := by show _ = _; unfold goL; rw [ekw]; rfl
  rw [ekw] at KP1
  rw [← ek] at KT1 HGL
  have KH1 : Hid (∀ W, Below w.heap.size w W → Calls Tryd.prog 35 #[.slice p L.length cap, .int .i64 id] W fun e w' => ∃ v', e = .returned v' ∧ w'.ownsRow W.heap.size 2 1 v' (heldF L id).length (intsV (heldF L id)) ∧ Below W.heap.size W w') := KH.out hfb
  have KS1 : Hid (∀ sv Bs W, Below w.heap.size w W → SliceN W Bs sv (heldF L id) → Calls Tryd.prog 34 #[.slice p L.length cap, sv] W fun e w' => ∃ v', e = .returned v' ∧ w'.ownsRow W.heap.size 2 1 v' (shutI L (heldF L id) L.length).length (intsV (shutI L (heldF L id) L.length)) ∧ Below W.heap.size W w') := KS.out hfb
  have KW1 : Hid (∀ sv Bs W, Below w.heap.size w W → SliceN W Bs sv (shutI L (heldF L id) L.length) → Calls Tryd.prog 33 #[.slice p L.length cap, sv] W fun e w' => ∃ v', e = .returned v' ∧ w'.ownsRow W.heap.size 54 9 v' (innerF L id).length (frCells (innerF L id)) ∧ Below W.heap.size W w') := KW.out hfb
  have KP2 : Hid (∀ mv Bm W, SliceF W Bm mv (innerF L id) → Calls Tryd.prog 32 #[mv, .int .i64 id] W fun e w' => e = .returned (.int .i64 (k : Int)) ∧ Below W.heap.size W w') := KP1
  clear hh hwd hw HIH KT KP KP1 ekw ek h1 hfb hrb hub KH KS KW KF KR KU KA
  generalize whF L id = wh at *
  generalize goL L id sc ho pt po = GL at *
  generalize shutI L (heldF L id) L.length = J at *
  generalize heldF L id = I at *
  generalize innerF L id = M at *
  have KT2 : Hid (∀ W, Below w.heap.size w W → Calls Tryd.prog 36 #[frV (atF M k), .agg #[.string sc, .string ho, .int .i64 po, .string pt]] W fun e w' => e = .returned (frV (wentF (atF M k) sc ho pt po)) ∧ Below W.heap.size W w') := KT1
  clear KT1
  go_wp2_with fail
  refine (KH1.out _ B4.out).mono ?_
  rintro e w5 ⟨iv, rfl, oi, hb5⟩
  have OI : Hid (SliceN w5 w4.heap.size iv I) := sliceN_of_own oi
  clear oi
  have X5 : Hid (BoxV w5 (w.heap.size + 1) [.slice none 0 0, .int .i64 0, .int .i64 0]) := X4.out.below hb5
  have U5 : Hid (BoxV w5 w.heap.size [.string sc, .string ho, .int .i64 po, .string pt]) := U4.out.below hb5
  have B5 : Hid (Below w.heap.size w w5) := B4.out.trans (hb5.mono B4.out.size)
  clear hb5 X4 U4 B4
  go_wp2_with fail
  refine (KS1.out _ _ _ B5.out OI.out).mono ?_
  rintro e w6 ⟨jv, rfl, oj, hb6⟩
  have OJ : Hid (SliceN w6 w5.heap.size jv J) := sliceN_of_own oj
  clear oj
  have X6 : Hid (BoxV w6 (w.heap.size + 1) [.slice none 0 0, .int .i64 0, .int .i64 0]) := X5.out.below hb6
  have U6 : Hid (BoxV w6 w.heap.size [.string sc, .string ho, .int .i64 po, .string pt]) := U5.out.below hb6
  have B6 : Hid (Below w.heap.size w w6) := B5.out.trans (hb6.mono B5.out.size)
  clear hb6 X5 U5 B5
  go_wp2_with fail
  refine (KW1.out _ _ _ B6.out OJ.out).mono ?_
  rintro e w7 ⟨mv, rfl, om, hb7⟩
  obtain ⟨g, mc, rfl⟩ := Joins.ownsRow_form om (by omega)
  have hg7 : w6.heap.size ≤ g ∧ g < w7.heap.size := om.lt g rfl
  have SM7 : Hid (SliceF w7 w6.heap.size (.slice (some ⟨g, 0, none⟩) M.length mc) M) := sliceF_of_own om
  have z6 : w.heap.size + 1 < w6.heap.size := X6.out.1
  clear om
  have X7 : Hid (BoxV w7 (w.heap.size + 1) [.slice none 0 0, .int .i64 0, .int .i64 0]) := X6.out.below hb7
  have U7 : Hid (BoxV w7 w.heap.size [.string sc, .string ho, .int .i64 po, .string pt]) := U6.out.below hb7
  have B7 : Hid (Below w.heap.size w w7) := B6.out.trans (hb7.mono B6.out.size)
  clear hb7 X6 U6 B6
  go_wp2_with fail
  refine (KP2.out _ _ _ SM7.out).mono ?_
  rintro e w8 ⟨rfl, hb8⟩
  have SM8 : Hid (SliceF w8 w6.heap.size (.slice (some ⟨g, 0, none⟩) M.length mc) M) := SM7.out.below hb8
  have hg8 : g < w8.heap.size := Nat.lt_of_lt_of_le hg7.2 hb8.size
  have hgo : w.heap.size + 1 < g := by omega
  have X8 : Hid (BoxV w8 (w.heap.size + 1) [.slice none 0 0, .int .i64 0, .int .i64 0]) := X7.out.below hb8
  have U8 : Hid (BoxV w8 w.heap.size [.string sc, .string ho, .int .i64 po, .string pt]) := U7.out.below hb8
  have B8 : Hid (Below w.heap.size w w8) := B7.out.trans (hb8.mono B7.out.size)
  clear hb8 X7 U7 B7
  have k0 : (0 : Int) ≤ k := by omega
  have k1 : (k : Int) < M.length := by omega
  have HGK : ∀ (W : World), SliceF W w6.heap.size (.slice (some ⟨g, 0, none⟩) M.length mc) M → ∀ o, o < 9 → W.cell? ⟨g, k * 9 + o, none⟩ = some (frC (atF M k) o) ∧ W.frozen? ⟨g, k * 9 + o, none⟩ = false := fun W h o ho => by
    obtain ⟨⟨p', c', e', hc⟩, -⟩ := h
    obtain ⟨g', e2, -, -, hc⟩ := hc (by omega)
    have e3 : g = g' := by injection e' with e'; rw [e2] at e'; injection e' with e'; injection e'
    subst e3
    exact hc k hk o ho
  have c0 : w8.cell? ⟨g, k * 9, none⟩ = some (.int .i64 (atF M k).id) := (HGK w8 SM8.out 0 (by omega)).1
  have c1 : w8.cell? ⟨g, k * 9 + 1, none⟩ = some (.int .i64 (atF M k).pa) := (HGK w8 SM8.out 1 (by omega)).1
  have c2 : w8.cell? ⟨g, k * 9 + 2, none⟩ = some (.string (atF M k).sc) := (HGK w8 SM8.out 2 (by omega)).1
  have c3 : w8.cell? ⟨g, k * 9 + 3, none⟩ = some (.string (atF M k).ho) := (HGK w8 SM8.out 3 (by omega)).1
  have c4 : w8.cell? ⟨g, k * 9 + 4, none⟩ = some (.int .i64 (atF M k).po) := (HGK w8 SM8.out 4 (by omega)).1
  have c5 : w8.cell? ⟨g, k * 9 + 5, none⟩ = some (.string (atF M k).pt) := (HGK w8 SM8.out 5 (by omega)).1
  have c6 : w8.cell? ⟨g, k * 9 + 6, none⟩ = some (.bool (atF M k).sb) := (HGK w8 SM8.out 6 (by omega)).1
  have c7 : w8.cell? ⟨g, k * 9 + 7, none⟩ = some (.bool (atF M k).fl) := (HGK w8 SM8.out 7 (by omega)).1
  have c8 : w8.cell? ⟨g, k * 9 + 8, none⟩ = some (.int .i64 (atF M k).tc) := (HGK w8 SM8.out 8 (by omega)).1
  have HGC9 : ∀ W, Below w8.heap.size w8 W → ∀ o, o < 9 → ∃ v, W.cell? ⟨g, k * 9 + o, none⟩ = some v ∧ W.frozen? ⟨g, k * 9 + o, none⟩ = false := fun W hb o ho => ⟨_, HGK W (SM8.out.below hb) o ho⟩
  obtain ⟨zz, hzz⟩ : ∃ zz, zz = wentF (atF M k) sc ho pt po := ⟨_, rfl⟩
  rw [← hzz] at HGL KT2
  clear hzz HGK SM7 KH1 KS1 KW1 KP2 OI OJ
  generalize atF M k = y at *
  obtain ⟨yid, ypa, ysc, yho, ypo, ypt, ysb, yfl, ytc⟩ := y
  obtain ⟨zid, zpa, zsc, zho, zpo, zpt, zsb, zfl, ztc⟩ := zz
  unfold frV at KT2
  dsimp only at *
  have KWT : Hid (∀ W, Below w.heap.size w W → Calls Tryd.prog 36 #[.agg #[.int .i64 yid, .int .i64 ypa, .string ysc, .string yho, .int .i64 ypo, .string ypt, .bool ysb, .bool yfl, .int .i64 ytc], .agg #[.string sc, .string ho, .int .i64 po, .string pt]] W fun e w' => e = .returned (.agg #[.int .i64 zid, .int .i64 zpa, .string zsc, .string zho, .int .i64 zpo, .string zpt, .bool zsb, .bool zfl, .int .i64 ztc]) ∧ Below W.heap.size W w') := KT2
  clear KT2
  generalize hubb : w.heap.size = ub at *
  have huW : ub < w8.heap.size := U8.out.1
  have u0 : w8.cell? ⟨ub, 0, none⟩ = some (.string sc) := U8.out.at (i := 0) rfl
  have u1 : w8.cell? ⟨ub, 1, none⟩ = some (.string ho) := U8.out.at (i := 1) rfl
  have u2 : w8.cell? ⟨ub, 2, none⟩ = some (.int .i64 po) := U8.out.at (i := 2) rfl
  have u3 : w8.cell? ⟨ub, 3, none⟩ = some (.string pt) := U8.out.at (i := 3) rfl
  go_upto_region 9 with fail
  have hn1 : g ≠ ub := by omega
  have hn2 : ub ≠ g := by omega
  refine wp_region_held_drew (S := (fun w' => w'.cell? ⟨ub, 0, none⟩ = some (.string sc) ∧ w'.cell? ⟨ub, 1, none⟩ = some (.string ho) ∧ w'.cell? ⟨ub, 2, none⟩ = some (.int .i64 po) ∧ w'.cell? ⟨ub, 3, none⟩ = some (.string pt))) (by kernel_rfl) ?_ (fun hH0 => ?_)
  · (try dsimp only)
    go_keep
  refine takeY (i := 0) (oi := q9f0) (v := ?va00) rfl ?ha00 ?ra00
  case ha00 => (intro w hSw; (try dsimp only [q9f0] at hSw ⊢); go_simp; try with_reducible rfl)
  try simp only [q9f0, Act.put, setIfInBounds_toArray, set_cons_zero, set_cons_succ]
  refine takeY (i := 1) (oi := q9f1) (v := ?va01) rfl ?ha01 ?ra01
  case ha01 => (intro w hSw; (try dsimp only [q9f1] at hSw ⊢); go_simp; try with_reducible rfl)
  try simp only [q9f1, Act.put, setIfInBounds_toArray, set_cons_zero, set_cons_succ]
  refine takeY (i := 2) (oi := q9f2) (v := ?va02) rfl ?ha02 ?ra02
  case ha02 => (intro w hSw; (try dsimp only [q9f2] at hSw ⊢); go_simp; try with_reducible rfl)
  try simp only [q9f2, Act.put, setIfInBounds_toArray, set_cons_zero, set_cons_succ]
  refine takeY (i := 3) (oi := q9f3) (v := ?va03) rfl ?ha03 ?ra03
  case ha03 => (intro w hSw; (try dsimp only [q9f3] at hSw ⊢); go_simp; try with_reducible rfl)
  try simp only [q9f3, Act.put, setIfInBounds_toArray, set_cons_zero, set_cons_succ]
  refine takeY (i := 4) (oi := q9f4) (v := ?va04) rfl ?ha04 ?ra04
  case ha04 => (intro w hSw; (try dsimp only [q9f4] at hSw ⊢); go_simp; try with_reducible rfl)
  try simp only [q9f4, Act.put, setIfInBounds_toArray, set_cons_zero, set_cons_succ]
  refine takeY (i := 6) (oi := q9f6) (v := ?va06) rfl ?ha06 ?ra06
  case ha06 => (intro w hSw; (try dsimp only [q9f6] at hSw ⊢); go_simp; try with_reducible rfl)
  try simp only [q9f6, Act.put, setIfInBounds_toArray, set_cons_zero, set_cons_succ]
  refine wpAnyH_ready (rs := [5]) (by kernel_rfl) (by simp) ?_
  refine AllReadyH.cons (o := q9f5) rfl (fun K hK => ?_) AllReadyH.nil
  dsimp only [q9f5] at hK ⊢
  go_simp
  (skip)
  try (go_wp2_with fail)
  refine hK.out _ _ ?_ (fun hH1 => ?_)
  · (try dsimp only)
    go_keep
  clear hK K hH0
  try simp only [q9f5, Act.put, setIfInBounds_toArray, set_cons_zero, set_cons_succ]
  refine wpAnyH_ready (rs := [7]) (by kernel_rfl) (by simp) ?_
  refine AllReadyH.cons (o := q9f7) rfl (fun K hK => ?_) AllReadyH.nil
  dsimp only [q9f7] at hK ⊢
  go_simp
  (go_at_call 36; refine (KWT.out _ (B8.out.drew)).mono ?_; rintro e w9 ⟨rfl, hb9⟩; have A9 : Below w8.heap.size w8 w9 := (Below.drew (Below.refl _ _)).trans hb9; have pu0 : w9.cell? ⟨ub, 0, none⟩ = some (.string sc) := ((bcell A9).1 _ _ huW).trans u0; have pu1 : w9.cell? ⟨ub, 1, none⟩ = some (.string ho) := ((bcell A9).1 _ _ huW).trans u1; have pu2 : w9.cell? ⟨ub, 2, none⟩ = some (.int .i64 po) := ((bcell A9).1 _ _ huW).trans u2; have pu3 : w9.cell? ⟨ub, 3, none⟩ = some (.string pt) := ((bcell A9).1 _ _ huW).trans u3; obtain ⟨gv0, gc0, gf0⟩ := HGC9 w9 A9 0 (by omega); obtain ⟨gv1, gc1, gf1⟩ := HGC9 w9 A9 1 (by omega); obtain ⟨gv2, gc2, gf2⟩ := HGC9 w9 A9 2 (by omega); obtain ⟨gv3, gc3, gf3⟩ := HGC9 w9 A9 3 (by omega); obtain ⟨gv4, gc4, gf4⟩ := HGC9 w9 A9 4 (by omega); obtain ⟨gv5, gc5, gf5⟩ := HGC9 w9 A9 5 (by omega); obtain ⟨gv6, gc6, gf6⟩ := HGC9 w9 A9 6 (by omega); obtain ⟨gv7, gc7, gf7⟩ := HGC9 w9 A9 7 (by omega); obtain ⟨gv8, gc8, gf8⟩ := HGC9 w9 A9 8 (by omega); rw [Nat.add_zero] at gc0 gf0)
  try (go_wp2_with fail)
  refine hK.out _ _ ?_ (fun hH2 => ?_)
  · (try dsimp only)
    go_keep
  clear hK K hH1
  try simp only [q9f7, Act.put, setIfInBounds_toArray, set_cons_zero, set_cons_succ]
  refine takeY (i := 8) (oi := q9f8) (v := ?va08) rfl ?ha08 ?ra08
  case ha08 => (intro w hSw; (try dsimp only [q9f8] at hSw ⊢); go_simp; try with_reducible rfl)
  try simp only [q9f8, Act.put, setIfInBounds_toArray, set_cons_zero, set_cons_succ]
  refine wpAnyH_ready (rs := [9]) (by kernel_rfl) (by simp) ?_
  refine AllReadyH.cons (o := q9f9) rfl (fun K hK => ?_) AllReadyH.nil
  dsimp only [q9f9] at hK ⊢
  go_simp
  (skip)
  try (go_wp2_with fail)
  refine hK.out _ _ ?_ (fun hH3 => ?_)
  · (try dsimp only)
    go_keep
  clear hK K hH2
  try simp only [q9f9, Act.put, setIfInBounds_toArray, set_cons_zero, set_cons_succ]
  refine wpAnyH_done (by kernel_rfl) ?_ _
  obtain ⟨W10, hW10⟩ : ∃ W10, W10 = put9 w9 g (k * 9) ⟨zid, zpa, zsc, zho, zpo, zpt, zsb, zfl, ztc⟩ := ⟨_, rfl⟩
  have HW10 : Hid (W10 = (((((((((w9.setCell ⟨g, k * 9, none⟩ (.int .i64 zid)).setCell ⟨g, k * 9 + 1, none⟩ (.int .i64 zpa)).setCell ⟨g, k * 9 + 2, none⟩ (.string zsc)).setCell ⟨g, k * 9 + 3, none⟩ (.string zho)).setCell ⟨g, k * 9 + 4, none⟩ (.int .i64 zpo)).setCell ⟨g, k * 9 + 5, none⟩ (.string zpt)).setCell ⟨g, k * 9 + 6, none⟩ (.bool zsb)).setCell ⟨g, k * 9 + 7, none⟩ (.bool zfl)).setCell ⟨g, k * 9 + 8, none⟩ (.int .i64 ztc))) := by show W10 = _; rw [hW10]; rfl
  have X10 : Hid (BoxV W10 (ub + 1) [.slice none 0 0, .int .i64 0, .int .i64 0]) := by show BoxV _ _ _; rw [hW10]; exact (X8.out.below A9).of_block (put9_other _ _ _ _ _ (by omega)) (by rw [put9_size]; exact Nat.le_refl _)
  have B10 : Hid (Below ub w W10) := by show Below _ _ _; rw [hW10]; exact put9_below (B8.out.trans (A9.mono (by omega))) (by omega)
  have SM10 : Hid (SliceF W10 w6.heap.size (.slice (some ⟨g, 0, none⟩) M.length mc) (M.set k ⟨zid, zpa, zsc, zho, zpo, zpt, zsb, zfl, ztc⟩)) := by show SliceF _ _ _ _; rw [hW10]; exact (SM8.out.below A9).put9 hk _
  rw [← HW10.out]
  clear hW10 HW10 U8 X8 B8 SM8 hb9 c0 gc0 gf0 c1 gc1 gf1 c2 gc2 gf2 c3 gc3 gf3 c4 gc4 gf4 c5 gc5 gf5 c6 gc6 gf6 c7 gc7 gf7 c8 gc8 gf8 u0 u1 u2 u3 pu0 pu1 pu2 pu3
  have x0 : W10.cell? ⟨ub + 1, 0, none⟩ = some (.slice none 0 0) := X10.out.at (i := 0) rfl
  have x1 : W10.cell? ⟨ub + 1, 1, none⟩ = some (.int .i64 0) := X10.out.at (i := 1) rfl
  have x2 : W10.cell? ⟨ub + 1, 2, none⟩ = some (.int .i64 0) := X10.out.at (i := 2) rfl
  have xz0 : W10.frozen? ⟨ub + 1, 0, none⟩ = false := X10.out.free (i := 0) rfl
  have xz1 : W10.frozen? ⟨ub + 1, 1, none⟩ = false := X10.out.free (i := 1) rfl
  have xz2 : W10.frozen? ⟨ub + 1, 2, none⟩ = false := X10.out.free (i := 2) rfl
  go_wp2
  refine bodyPost_ret (v := .agg #[.slice (some ⟨g, 0, none⟩) M.length mc, .int .i64 id, .int .i64 0]) (by simp [results, Tryd.results12, go_sem, x0, x1, x2]) rfl ⟨_, rfl, ⟨.slice (some ⟨g, 0, none⟩) M.length mc, by rw [HQ.out], ?_⟩, by rw [hubb]; exact (Below.setCell (Below.setCell (Below.setCell B10.out (Nat.le_succ _) _) (Nat.le_succ _) _) (Nat.le_succ _) _)⟩
  rw [HQ.out, hubb]
  show SliceF _ ub _ GL
  rw [HGL.out]
  exact (SM10.out.store3 (show ub + 1 < w6.heap.size from by omega)).mono (by omega)
end Go.Proofs.YtclpamjgglfljaaDoor

/- What lies in blocks from B on as it lay when it was made; what a mark leaves as it was. -/
namespace Go.Proofs.YtclpamjgglfljaaDoor
open Go.RowKit

/-- the blocks from B on that were there in w lie in w' as they lay -/
def Same (B : Nat) (w w' : World) : Prop := w.heap.size ≤ w'.heap.size ∧ ∀ k, B ≤ k → k < w.heap.size → w'.heap[k]? = w.heap[k]?
theorem Same.refl (B : Nat) (w : World) : Same B w w := ⟨Nat.le_refl _, fun _ _ _ => rfl⟩
theorem Same.below {B : Nat} {w w1 w2 : World} (h : Same B w w1) (hb : Below w1.heap.size w1 w2) : Same B w w2 :=
  ⟨Nat.le_trans h.1 hb.size, fun k h1 h2 => (hb.block k (Nat.lt_of_lt_of_le h2 h.1)).trans (h.2 k h1 h2)⟩
/-- only blocks from B to E, and new ones, may have turned -/
structure Off (B E : Nat) (w w' : World) : Prop where
  os : w'.os = w.os
  tape : w'.tape = w.tape
  output : w'.output = w.output
  size : w.heap.size ≤ w'.heap.size
  block : ∀ k, k < w.heap.size → (k < B ∨ E ≤ k) → w'.heap[k]? = w.heap[k]?
theorem Off.refl (B E : Nat) (w : World) : Off B E w w := ⟨rfl, rfl, rfl, Nat.le_refl _, fun _ _ _ => rfl⟩
theorem Off.on {B E : Nat} {w w1 w2 : World} (h : Off B E w w1) (hb : Below w1.heap.size w1 w2) : Off B E w w2 :=
  ⟨hb.os.trans h.os, hb.tape.trans h.tape, hb.output.trans h.output, Nat.le_trans h.size hb.size, fun k h1 h2 => (hb.block k (Nat.lt_of_lt_of_le h1 h.size)).trans (h.block k h1 h2)⟩
theorem Off.put {B E : Nat} {w w1 : World} (h : Off B E w w1) {b : Nat} (o : Nat) (u : Value) (h1 : B ≤ b) (h2 : b < E) : Off B E w (w1.setCell ⟨b, o, none⟩ u) :=
  ⟨h.os, h.tape, h.output, by simpa [World.setCell] using h.size, fun k hk hor => (Below.heap_setCell _ _ _ _ (by show k ≠ b; omega)).trans (h.block k hk hor)⟩
theorem Off.of_below {B E : Nat} {w w' : World} (hb : Below w.heap.size w w') : Off B E w w' := (Off.refl B E w).on hb
theorem Off.trans {B E : Nat} {w w1 w2 : World} (h : Off B E w w1) (h2 : Off B E w1 w2) : Off B E w w2 :=
  ⟨h2.os.trans h.os, h2.tape.trans h.tape, h2.output.trans h.output, Nat.le_trans h.size h2.size, fun k a b => (h2.block k (Nat.lt_of_lt_of_le a h.size) b).trans (h.block k a b)⟩
theorem Off.mono {B E B' E' : Nat} {w w' : World} (h : Off B E w w') (h1 : B' ≤ B) (h2 : E ≤ E') : Off B' E' w w' :=
  ⟨h.os, h.tape, h.output, h.size, fun k a b => h.block k a (by omega)⟩
theorem Off.of_grown {B E G : Nat} {w w' : World} (hg : w.grownBy w' (some G)) (h1 : B ≤ G) (h2 : G < E ∨ w.heap.size ≤ G) : Off B E w w' :=
  ⟨hg.os, hg.tape, hg.output, hg.size, fun k hk hor => hg.block k hk (fun e => by have := Option.some.inj e; omega)⟩
theorem Off.low {B E n : Nat} {w w' : World} (h : Off B E w w') (h1 : n ≤ B) (h2 : n ≤ w.heap.size) : Below n w w' :=
  ⟨h.os, h.tape, h.output, h.size, fun k hk => h.block k (by omega) (by omega)⟩
theorem Same.off {B B' E' : Nat} {w w1 w2 : World} (h : Same B w w1) (ho : Off B' E' w1 w2) (hd : w.heap.size ≤ B' ∨ E' ≤ B) : Same B w w2 :=
  ⟨Nat.le_trans h.1 ho.size, fun k h1 h2 => (ho.block k (Nat.lt_of_lt_of_le h2 h.1) (by omega)).trans (h.2 k h1 h2)⟩
theorem Same.cell {B : Nat} {w w' : World} (h : Same B w w') {b o : Nat} (h1 : B ≤ b) (h2 : b < w.heap.size) : w'.cell? ⟨b, o, none⟩ = w.cell? ⟨b, o, none⟩ := World.cell?_of_block (a := ⟨b, o, none⟩) (h.2 b h1 h2)
theorem Same.free {B : Nat} {w w' : World} (h : Same B w w') {b o : Nat} (h1 : B ≤ b) (h2 : b < w.heap.size) : w'.frozen? ⟨b, o, none⟩ = w.frozen? ⟨b, o, none⟩ := World.frozen?_of_block (a := ⟨b, o, none⟩) (h.2 b h1 h2)
theorem SliceR.same {w w' : World} {B sz n : Nat} {v : Value} {f : Nat → Nat → Value} (h : SliceR w B sz v n f) (hs : Same B w w') : SliceR w' B sz v n f := by
  obtain ⟨p, cap, rfl, h⟩ := h
  refine ⟨p, cap, rfl, fun hn => ?_⟩
  obtain ⟨g, rfl, hB, hg, hc⟩ := h hn
  exact ⟨g, rfl, hB, Nat.lt_of_lt_of_le hg hs.1, fun j hj o ho => ⟨(hs.cell hB hg).trans (hc j hj o ho).1, (hs.free hB hg).trans (hc j hj o ho).2⟩⟩
theorem SliceS.same {w w' : World} {B n : Nat} {v : Value} {f : Nat → ByteArray} (h : SliceS w B v n f) (hs : Same B w w') : SliceS w' B v n f := by
  obtain ⟨p, cap, rfl, h⟩ := h
  refine ⟨p, cap, rfl, fun hn => ?_⟩
  obtain ⟨g, rfl, hB, hg, hc⟩ := h hn
  exact ⟨g, rfl, hB, Nat.lt_of_lt_of_le hg hs.1, fun j hj => ⟨(hs.cell hB hg).trans (hc j hj).1, (hs.free hB hg).trans (hc j hj).2⟩⟩
theorem BoxV.same {w w' : World} {B b : Nat} {vs : List Value} (h : BoxV w b vs) (hs : Same B w w') (hB : B ≤ b) : BoxV w' b vs :=
  h.of_block (hs.2 b hB h.1) hs.1
/-- the block of a slice lies below the heap's end -/
theorem SliceR.below_end {w : World} {B sz n : Nat} {v : Value} {f : Nat → Nat → Value} (h : SliceR w B sz v n f) : 0 < n → ∀ g, v.ownBlock = some g → B ≤ g ∧ g < w.heap.size := by
  obtain ⟨p, cap, rfl, h⟩ := h
  intro hn g e
  obtain ⟨g', rfl, hB, hg, -⟩ := h hn
  have : g' = g := Option.some.inj e
  omega
theorem SliceS.below_end {w : World} {B n : Nat} {v : Value} {f : Nat → ByteArray} (h : SliceS w B v n f) : 0 < n → ∀ g, v.ownBlock = some g → B ≤ g ∧ g < w.heap.size := by
  obtain ⟨p, cap, rfl, h⟩ := h
  intro hn g e
  obtain ⟨g', rfl, hB, hg, -⟩ := h hn
  have : g' = g := Option.some.inj e
  omega
theorem SliceS.ext1 {w : World} {B n : Nat} {v : Value} {f h : Nat → ByteArray} (hs : SliceS w B v n f) (he : ∀ j, j < n → f j = h j) : SliceS w B v n h := by
  obtain ⟨p, cap, rfl, hh⟩ := hs
  refine ⟨p, cap, rfl, fun hn => ?_⟩
  obtain ⟨g, rfl, h1, h2, hc⟩ := hh hn
  exact ⟨g, rfl, h1, h2, fun j hj => by rw [← he j hj]; exact hc j hj⟩
end Go.Proofs.YtclpamjgglfljaaDoor

/- The laws' markFrameS and heldFrameS over slices of frames. Written by rowsmark.py. -/
namespace Go.Proofs.YtclpamjgglfljaaDoor
open Go.RowKit

/-- the mark of a cell, of one whose first number is z -/
def markFrZ (z o : Nat) : Value := if o = 0 then .int .i64 ((z : Int)) else if o = 1 then .int .i64 ((z : Int) + 1) else if o = 2 then .string (markT (z + 2)) else if o = 3 then .string (markT (z + 3)) else if o = 4 then .int .i64 ((z : Int) + 1 + 1 + 1 + 1) else if o = 5 then .string (markT (z + 5)) else if o = 6 then .bool (((z : Int) + 1 + 1 + 1 + 1 + 1 + 1) % 3 == 0) else if o = 7 then .bool (((z : Int) + 1 + 1 + 1 + 1 + 1 + 1 + 1) % 3 == 0) else .int .i64 ((z : Int) + 1 + 1 + 1 + 1 + 1 + 1 + 1 + 1)
def markFrC (q j o : Nat) : Value := markFrZ (q + j * 9) o
def markedF (f : Nat → Nat → Value) (q k j o : Nat) : Value := if j < k then markFrC q j o else f j o
theorem SliceR.atFr {w : World} {B n m g cap : Nat} {f : Nat → Nat → Value} (hs : SliceR w B 9 (.slice (some ⟨g, 0, none⟩) m cap) n f) (k : Nat) (hk : k < n) : ∀ o, o < 9 → w.cell? ⟨g, k * 9 + o, none⟩ = some (f k o) ∧ w.frozen? ⟨g, k * 9 + o, none⟩ = false := by
  obtain ⟨p', cap', e, hh⟩ := hs
  injection e with e1
  obtain ⟨g', e2, -, -, hc⟩ := hh (by omega)
  rw [e2] at e1
  injection e1 with e1
  injection e1 with e1
  subst e1
  exact hc k hk
set_option maxRecDepth 10000 in
set_option maxHeartbeats 8000000 in
theorem markFrameS_any (a : Value) (n B q : Nat) (f : Nat → Nat → Value) (w : World) (ha : SliceR w B 9 a n f) (hn : n ≤ 1048576) (hq : 0 < q) (hq2 : q ≤ 20971520) :
    Calls Tryd.prog 16 #[a, .int .i64 (q : Int)] w fun e w' => e = .returned (.int .i64 ((q + n * 9 : Nat) : Int)) ∧ SliceR w' B 9 a n (markFrC q) ∧ (∀ G, (0 < n → a.ownBlock = some G) → w.grownBy w' (some G)) := by
  have HA : Hid (SliceR w B 9 a n f) := ha
  obtain ⟨p, cap, rfl, h1⟩ := ha
  have HG : Hid (0 < n → ∃ g, p = some ⟨g, 0, none⟩ ∧ B ≤ g ∧ g < w.heap.size) := fun h => by
    obtain ⟨g, e, h2, h3, -⟩ := h1 h
    exact ⟨g, e, h2, h3⟩
  clear h1
  have HM : Hid (∀ (m : Nat) (W : World), 0 < m → m ≤ 9223372036854775807 → Calls Tryd.prog 38 #[.int .i64 (m : Int)] W fun e w' => e = .returned (.string (markT m)) ∧ Below W.heap.size W w') := fun m W h1 h2 => markText_any m W h1 h2
  go_enter Tryd.func16, Tryd.ntmps16
  go_wp2
  go_loopw [1, 5] (fun kk i wr => ∃ k : Nat, k ≤ n ∧ i = .int .i64 k ∧ kk = .int .i64 ((q + k * 9 : Nat) : Int) ∧ Hid (SliceR wr B 9 (.slice p n cap) n (markedF f q k)) ∧ Hid (∀ G, (0 < n → (Value.slice p n cap).ownBlock = some G) → w.grownBy wr (some G))) (fun _ i _ => n - (intOf i).toNat)
  case atStart => exact ⟨0, by omega, rfl, by go_num, HA, fun _ _ => ⟨rfl, rfl, rfl, Nat.le_refl _, fun _ _ _ => rfl⟩⟩
  case round =>
    obtain ⟨k, hk, rfl, rfl, HR, HB⟩ := hrel
    by_cases hlt : k < n
    · obtain ⟨g, rfl, hBg, hgw⟩ := HG.out (by omega)
      have k0 : (0 : Int) ≤ k := by omega
      have k1 : (k : Int) < n := by omega
      have B0 : Hid (w.grownBy wr (some g)) := HB.out g (fun _ => rfl)
      have hzb : q + k * 9 ≤ 50000000 := by omega
      have hz0 : 0 < q + k * 9 := by omega
      have HEnd : Hid (∀ w', SliceR w' B 9 (.slice (some ⟨g, 0, none⟩) n cap) n (fun j o => if j = k then markFrZ (q + k * 9) o else markedF f q k j o) → SliceR w' B 9 (.slice (some ⟨g, 0, none⟩) n cap) n (markedF f q (k + 1))) := fun w' h => SliceR.congr h (fun j hj o ho => by
        unfold markedF markFrC
        by_cases e : j = k
        · subst e; rw [if_pos rfl, if_pos (by omega)]
        · rw [if_neg e]
          by_cases h : j < k
          · rw [if_pos h, if_pos (by omega)]
          · rw [if_neg h, if_neg (by omega)])
      have hnx : ((q + k * 9 : Nat) : Int) + 9 = ((q + (k + 1) * 9 : Nat) : Int) := by omega
      have HNX : Hid (((q + k * 9 : Nat) : Int) + 9 = ((q + (k + 1) * 9 : Nat) : Int)) := hnx
      clear hnx
      generalize markedF f q k = fm at *
      generalize q + k * 9 = zn at *
      have HN2 : Hid (∀ W, Calls Tryd.prog 38 #[.int .i64 ((zn : Int) + 1 + 1)] W fun e w' => e = .returned (.string (markT (zn + 2))) ∧ Below W.heap.size W w') := fun W => by
        have h := HM.out (zn + 2) W (by omega) (by omega)
        have e : ((zn + 2 : Nat) : Int) = (zn : Int) + 1 + 1 := by omega
        rw [e] at h; exact h
      have HN3 : Hid (∀ W, Calls Tryd.prog 38 #[.int .i64 ((zn : Int) + 1 + 1 + 1)] W fun e w' => e = .returned (.string (markT (zn + 3))) ∧ Below W.heap.size W w') := fun W => by
        have h := HM.out (zn + 3) W (by omega) (by omega)
        have e : ((zn + 3 : Nat) : Int) = (zn : Int) + 1 + 1 + 1 := by omega
        rw [e] at h; exact h
      have HN5 : Hid (∀ W, Calls Tryd.prog 38 #[.int .i64 ((zn : Int) + 1 + 1 + 1 + 1 + 1)] W fun e w' => e = .returned (.string (markT (zn + 5))) ∧ Below W.heap.size W w') := fun W => by
        have h := HM.out (zn + 5) W (by omega) (by omega)
        have e : ((zn + 5 : Nat) : Int) = (zn : Int) + 1 + 1 + 1 + 1 + 1 := by omega
        rw [e] at h; exact h
      have X0 : Hid (SliceR wr B 9 (.slice (some ⟨g, 0, none⟩) n cap) n fm) := HR
      clear HM HR HB
      have hx0 := (SliceR.atFr X0.out k hlt 0 (by omega)).1
      have hf0 := (SliceR.atFr X0.out k hlt 0 (by omega)).2
      rw [Nat.add_zero] at hx0 hf0
      generalize fm k 0 = y0 at hx0
      have hx1 := (SliceR.atFr X0.out k hlt 1 (by omega)).1
      have hf1 := (SliceR.atFr X0.out k hlt 1 (by omega)).2
      generalize fm k 1 = y1 at hx1
      go_wp2_with fail
      refine (HN2.out _).mono ?_
      rintro e u1 ⟨rfl, hb1⟩
      have S1 : Hid (SliceR u1 B 9 (.slice (some ⟨g, 0, none⟩) n cap) n (updR (updR fm k 0 (.int .i64 ((zn : Int)))) k 1 (.int .i64 ((zn : Int) + 1)))) := SliceR.below (SliceR.set (SliceR.set (X0.out) k 0 hlt (by omega) (.int .i64 ((zn : Int)))) k 1 hlt (by omega) (.int .i64 ((zn : Int) + 1))) hb1
      have G1 : Hid (w.grownBy u1 (some g)) := grownG_below (grownG_set (grownG_set (B0.out) (k * 9 + 0) (.int .i64 ((zn : Int)))) (k * 9 + 1) (.int .i64 ((zn : Int) + 1))) hb1
      clear hb1 hx0 hf0 hx1 hf1
      have hx2 := (SliceR.atFr S1.out k hlt 2 (by omega)).1
      have hf2 := (SliceR.atFr S1.out k hlt 2 (by omega)).2
      generalize (updR (updR fm k 0 (.int .i64 ((zn : Int)))) k 1 (.int .i64 ((zn : Int) + 1))) k 2 = y2 at hx2
      go_wp2_with fail
      refine (HN3.out _).mono ?_
      rintro e u2 ⟨rfl, hb2⟩
      have S2 : Hid (SliceR u2 B 9 (.slice (some ⟨g, 0, none⟩) n cap) n (updR (updR (updR fm k 0 (.int .i64 ((zn : Int)))) k 1 (.int .i64 ((zn : Int) + 1))) k 2 (.string (markT (zn + 2))))) := SliceR.below (SliceR.set (S1.out) k 2 hlt (by omega) (.string (markT (zn + 2)))) hb2
      have G2 : Hid (w.grownBy u2 (some g)) := grownG_below (grownG_set (G1.out) (k * 9 + 2) (.string (markT (zn + 2)))) hb2
      clear hb2 hx2 hf2
      have hx3 := (SliceR.atFr S2.out k hlt 3 (by omega)).1
      have hf3 := (SliceR.atFr S2.out k hlt 3 (by omega)).2
      generalize (updR (updR (updR fm k 0 (.int .i64 ((zn : Int)))) k 1 (.int .i64 ((zn : Int) + 1))) k 2 (.string (markT (zn + 2)))) k 3 = y3 at hx3
      have hx4 := (SliceR.atFr S2.out k hlt 4 (by omega)).1
      have hf4 := (SliceR.atFr S2.out k hlt 4 (by omega)).2
      generalize (updR (updR (updR fm k 0 (.int .i64 ((zn : Int)))) k 1 (.int .i64 ((zn : Int) + 1))) k 2 (.string (markT (zn + 2)))) k 4 = y4 at hx4
      go_wp2_with fail
      refine (HN5.out _).mono ?_
      rintro e u3 ⟨rfl, hb3⟩
      have S3 : Hid (SliceR u3 B 9 (.slice (some ⟨g, 0, none⟩) n cap) n (updR (updR (updR (updR (updR fm k 0 (.int .i64 ((zn : Int)))) k 1 (.int .i64 ((zn : Int) + 1))) k 2 (.string (markT (zn + 2)))) k 3 (.string (markT (zn + 3)))) k 4 (.int .i64 ((zn : Int) + 1 + 1 + 1 + 1)))) := SliceR.below (SliceR.set (SliceR.set (S2.out) k 3 hlt (by omega) (.string (markT (zn + 3)))) k 4 hlt (by omega) (.int .i64 ((zn : Int) + 1 + 1 + 1 + 1))) hb3
      have G3 : Hid (w.grownBy u3 (some g)) := grownG_below (grownG_set (grownG_set (G2.out) (k * 9 + 3) (.string (markT (zn + 3)))) (k * 9 + 4) (.int .i64 ((zn : Int) + 1 + 1 + 1 + 1))) hb3
      clear hb3 hx3 hf3 hx4 hf4
      have hx5 := (SliceR.atFr S3.out k hlt 5 (by omega)).1
      have hf5 := (SliceR.atFr S3.out k hlt 5 (by omega)).2
      generalize (updR (updR (updR (updR (updR fm k 0 (.int .i64 ((zn : Int)))) k 1 (.int .i64 ((zn : Int) + 1))) k 2 (.string (markT (zn + 2)))) k 3 (.string (markT (zn + 3)))) k 4 (.int .i64 ((zn : Int) + 1 + 1 + 1 + 1))) k 5 = y5 at hx5
      have hx6 := (SliceR.atFr S3.out k hlt 6 (by omega)).1
      have hf6 := (SliceR.atFr S3.out k hlt 6 (by omega)).2
      generalize (updR (updR (updR (updR (updR fm k 0 (.int .i64 ((zn : Int)))) k 1 (.int .i64 ((zn : Int) + 1))) k 2 (.string (markT (zn + 2)))) k 3 (.string (markT (zn + 3)))) k 4 (.int .i64 ((zn : Int) + 1 + 1 + 1 + 1))) k 6 = y6 at hx6
      have hx7 := (SliceR.atFr S3.out k hlt 7 (by omega)).1
      have hf7 := (SliceR.atFr S3.out k hlt 7 (by omega)).2
      generalize (updR (updR (updR (updR (updR fm k 0 (.int .i64 ((zn : Int)))) k 1 (.int .i64 ((zn : Int) + 1))) k 2 (.string (markT (zn + 2)))) k 3 (.string (markT (zn + 3)))) k 4 (.int .i64 ((zn : Int) + 1 + 1 + 1 + 1))) k 7 = y7 at hx7
      have hx8 := (SliceR.atFr S3.out k hlt 8 (by omega)).1
      have hf8 := (SliceR.atFr S3.out k hlt 8 (by omega)).2
      generalize (updR (updR (updR (updR (updR fm k 0 (.int .i64 ((zn : Int)))) k 1 (.int .i64 ((zn : Int) + 1))) k 2 (.string (markT (zn + 2)))) k 3 (.string (markT (zn + 3)))) k 4 (.int .i64 ((zn : Int) + 1 + 1 + 1 + 1))) k 8 = y8 at hx8
      go_wp2
      go_roundw
      case rel =>
        refine ⟨k + 1, by omega, by go_num, val_int (by have := HNX.out; omega), ?_, ?_⟩
        · refine HEnd.out _ (SliceR.congr (SliceR.set (SliceR.set (SliceR.set (SliceR.set (S3.out) k 5 hlt (by omega) (.string (markT (zn + 5)))) k 6 hlt (by omega) (.bool (((zn : Int) + 1 + 1 + 1 + 1 + 1 + 1) % 3 == 0))) k 7 hlt (by omega) (.bool (((zn : Int) + 1 + 1 + 1 + 1 + 1 + 1 + 1) % 3 == 0))) k 8 hlt (by omega) (.int .i64 ((zn : Int) + 1 + 1 + 1 + 1 + 1 + 1 + 1 + 1))) (fun j hj o ho => ?_))
          by_cases e : j = k
          · subst e
            rw [if_pos rfl]
            match o, ho with
            | 0, _ => simp [updR, markFrZ]
            | 1, _ => simp [updR, markFrZ]
            | 2, _ => simp [updR, markFrZ]
            | 3, _ => simp [updR, markFrZ]
            | 4, _ => simp [updR, markFrZ]
            | 5, _ => simp [updR, markFrZ]
            | 6, _ => simp [updR, markFrZ]
            | 7, _ => simp [updR, markFrZ]
            | 8, _ => simp [updR, markFrZ]
          · simp [updR, e]
        · intro G hG
          obtain rfl : g = G := Option.some.inj (hG (by omega))
          exact grownG_set (grownG_set (grownG_set (grownG_set (G3.out) (k * 9 + 5) (.string (markT (zn + 5)))) (k * 9 + 6) (.bool (((zn : Int) + 1 + 1 + 1 + 1 + 1 + 1) % 3 == 0))) (k * 9 + 7) (.bool (((zn : Int) + 1 + 1 + 1 + 1 + 1 + 1 + 1) % 3 == 0))) (k * 9 + 8) (.int .i64 ((zn : Int) + 1 + 1 + 1 + 1 + 1 + 1 + 1 + 1))
      case measure => simp [intOf]; omega
    · obtain rfl : k = n := by omega
      have HS : Hid (SliceR wr B 9 (.slice p k cap) k (markFrC q)) := SliceR.congr HR.out (fun j hj o ho => by unfold markedF; rw [if_pos hj])
      go_wp2
      go_ret
      exact ⟨rfl, HS.out, HB.out⟩
set_option maxRecDepth 10000 in
set_option maxHeartbeats 8000000 in
theorem heldFrameS_any (a : Value) (n B q : Nat) (w : World) (ha : SliceR w B 9 a n (markFrC q)) (hn : n ≤ 1048576) (hq : 0 < q) (hq2 : q ≤ 20971520) :
    Calls Tryd.prog 39 #[a, .int .i64 (q : Int)] w fun e w' => e = .returned (.int .i64 ((q + n * 9 : Nat) : Int)) ∧ Below w.heap.size w w' := by
  obtain ⟨p, cap, rfl, h1⟩ := ha
  have HG : Hid (0 < n → ∃ g, p = some ⟨g, 0, none⟩ ∧ B ≤ g ∧ g < w.heap.size ∧ ∀ j, j < n → ∀ o, o < 9 → w.cell? ⟨g, j * 9 + o, none⟩ = some (markFrC q j o) ∧ w.frozen? ⟨g, j * 9 + o, none⟩ = false) := h1
  clear h1
  have HM : Hid (∀ (m : Nat) (W : World), 0 < m → m ≤ 9223372036854775807 → Calls Tryd.prog 38 #[.int .i64 (m : Int)] W fun e w' => e = .returned (.string (markT m)) ∧ Below W.heap.size W w') := fun m W h1 h2 => markText_any m W h1 h2
  go_enter Tryd.func39, Tryd.ntmps39
  go_wp2
  go_loopw [1, 4, 5] (fun kk r i wr => ∃ k : Nat, k ≤ n ∧ i = .int .i64 k ∧ kk = .int .i64 ((q + k * 9 : Nat) : Int) ∧ Hid (Below w.heap.size w wr)) (fun _ _ i _ => n - (intOf i).toNat)
  case atStart => exact ⟨0, by omega, rfl, by go_num, Below.refl _ _⟩
  case round =>
    obtain ⟨k, hk, rfl, rfl, HB⟩ := hrel
    by_cases hlt : k < n
    · obtain ⟨g, rfl, -, hg, hc⟩ := HG.out (by omega)
      have k0 : (0 : Int) ≤ k := by omega
      have k1 : (k : Int) < n := by omega
      have hgr : g < wr.heap.size := Nat.lt_of_lt_of_le hg HB.out.size
      have hzb : q + k * 9 ≤ 50000000 := by omega
      have hz0 : 0 < q + k * 9 := by omega
      have hx : ∀ o, o < 9 → wr.cell? ⟨g, k * 9 + o, none⟩ = some (markFrZ (q + k * 9) o) := fun o ho => by rw [(bcell HB.out).1 _ _ hg]; exact (hc k hlt o ho).1
      have HNX : Hid (((q + k * 9 : Nat) : Int) + 9 = ((q + (k + 1) * 9 : Nat) : Int)) := by show _ = _; omega
      clear hc
      generalize q + k * 9 = zn at *
      have c0 : wr.cell? ⟨g, k * 9, none⟩ = some (.int .i64 ((zn : Int))) := hx 0 (by omega)
      have c1 : wr.cell? ⟨g, k * 9 + 1, none⟩ = some (.int .i64 ((zn : Int) + 1)) := hx 1 (by omega)
      have c2 : wr.cell? ⟨g, k * 9 + 2, none⟩ = some (.string (markT (zn + 2))) := hx 2 (by omega)
      have c3 : wr.cell? ⟨g, k * 9 + 3, none⟩ = some (.string (markT (zn + 3))) := hx 3 (by omega)
      have c4 : wr.cell? ⟨g, k * 9 + 4, none⟩ = some (.int .i64 ((zn : Int) + 1 + 1 + 1 + 1)) := hx 4 (by omega)
      have c5 : wr.cell? ⟨g, k * 9 + 5, none⟩ = some (.string (markT (zn + 5))) := hx 5 (by omega)
      have c6 : wr.cell? ⟨g, k * 9 + 6, none⟩ = some (.bool (((zn : Int) + 1 + 1 + 1 + 1 + 1 + 1) % 3 == 0)) := hx 6 (by omega)
      have c7 : wr.cell? ⟨g, k * 9 + 7, none⟩ = some (.bool (((zn : Int) + 1 + 1 + 1 + 1 + 1 + 1 + 1) % 3 == 0)) := hx 7 (by omega)
      have c8 : wr.cell? ⟨g, k * 9 + 8, none⟩ = some (.int .i64 ((zn : Int) + 1 + 1 + 1 + 1 + 1 + 1 + 1 + 1)) := hx 8 (by omega)
      have HN2 : Hid (∀ W, Calls Tryd.prog 38 #[.int .i64 ((zn : Int) + 1 + 1)] W fun e w' => e = .returned (.string (markT (zn + 2))) ∧ Below W.heap.size W w') := fun W => by
        have h := HM.out (zn + 2) W (by omega) (by omega)
        have e : ((zn + 2 : Nat) : Int) = (zn : Int) + 1 + 1 := by omega
        rw [e] at h; exact h
      have HN3 : Hid (∀ W, Calls Tryd.prog 38 #[.int .i64 ((zn : Int) + 1 + 1 + 1)] W fun e w' => e = .returned (.string (markT (zn + 3))) ∧ Below W.heap.size W w') := fun W => by
        have h := HM.out (zn + 3) W (by omega) (by omega)
        have e : ((zn + 3 : Nat) : Int) = (zn : Int) + 1 + 1 + 1 := by omega
        rw [e] at h; exact h
      have HN5 : Hid (∀ W, Calls Tryd.prog 38 #[.int .i64 ((zn : Int) + 1 + 1 + 1 + 1 + 1)] W fun e w' => e = .returned (.string (markT (zn + 5))) ∧ Below W.heap.size W w') := fun W => by
        have h := HM.out (zn + 5) W (by omega) (by omega)
        have e : ((zn + 5 : Nat) : Int) = (zn : Int) + 1 + 1 + 1 + 1 + 1 := by omega
        rw [e] at h; exact h
      generalize markT (zn + 2) = t2 at *
      generalize markT (zn + 3) = t3 at *
      generalize markT (zn + 5) = t5 at *
      clear hx HM
      go_wp2_with fail
      go_region_held3 (fun w' => w'.cell? ⟨g, k * 9 + 2, none⟩ = some (.string t2) ∧ w'.cell? ⟨g, k * 9 + 3, none⟩ = some (.string t3) ∧ w'.cell? ⟨g, k * 9 + 4, none⟩ = some (.int .i64 ((zn : Int) + 1 + 1 + 1 + 1)) ∧ w'.cell? ⟨g, k * 9 + 5, none⟩ = some (.string t5) ∧ w'.cell? ⟨g, k * 9 + 6, none⟩ = some (.bool (((zn : Int) + 1 + 1 + 1 + 1 + 1 + 1) % 3 == 0)) ∧ w'.cell? ⟨g, k * 9 + 7, none⟩ = some (.bool (((zn : Int) + 1 + 1 + 1 + 1 + 1 + 1 + 1) % 3 == 0)) ∧ w'.cell? ⟨g, k * 9 + 8, none⟩ = some (.int .i64 ((zn : Int) + 1 + 1 + 1 + 1 + 1 + 1 + 1 + 1))) (go_keep)
        (first | (go_at_call 38; refine (HN2.out _).mono ?_; rintro e u1 ⟨rfl, hb1⟩; have A1 : Below wr.heap.size wr u1 := (Below.drew (Below.refl _ _)).trans hb1; have g1 : g < u1.heap.size := Nat.lt_of_lt_of_le hgr A1.size; have E1 : Hid (Below w.heap.size w u1) := HB.out.trans (A1.mono HB.out.size); have d1_2 : u1.cell? ⟨g, k * 9 + 2, none⟩ = some (.string t2) := ((bcell A1).1 _ _ hgr).trans c2; have d1_3 : u1.cell? ⟨g, k * 9 + 3, none⟩ = some (.string t3) := ((bcell A1).1 _ _ hgr).trans c3; have d1_4 : u1.cell? ⟨g, k * 9 + 4, none⟩ = some (.int .i64 ((zn : Int) + 1 + 1 + 1 + 1)) := ((bcell A1).1 _ _ hgr).trans c4; have d1_5 : u1.cell? ⟨g, k * 9 + 5, none⟩ = some (.string t5) := ((bcell A1).1 _ _ hgr).trans c5; have d1_6 : u1.cell? ⟨g, k * 9 + 6, none⟩ = some (.bool (((zn : Int) + 1 + 1 + 1 + 1 + 1 + 1) % 3 == 0)) := ((bcell A1).1 _ _ hgr).trans c6; have d1_7 : u1.cell? ⟨g, k * 9 + 7, none⟩ = some (.bool (((zn : Int) + 1 + 1 + 1 + 1 + 1 + 1 + 1) % 3 == 0)) := ((bcell A1).1 _ _ hgr).trans c7; have d1_8 : u1.cell? ⟨g, k * 9 + 8, none⟩ = some (.int .i64 ((zn : Int) + 1 + 1 + 1 + 1 + 1 + 1 + 1 + 1)) := ((bcell A1).1 _ _ hgr).trans c8))
      clear hb1 A1 c0 c1 c2 c3 c4 c5 c6 c7 c8
      go_wp2_with fail
      go_region_held3 (fun w' => w'.cell? ⟨g, k * 9 + 3, none⟩ = some (.string t3) ∧ w'.cell? ⟨g, k * 9 + 4, none⟩ = some (.int .i64 ((zn : Int) + 1 + 1 + 1 + 1)) ∧ w'.cell? ⟨g, k * 9 + 5, none⟩ = some (.string t5) ∧ w'.cell? ⟨g, k * 9 + 6, none⟩ = some (.bool (((zn : Int) + 1 + 1 + 1 + 1 + 1 + 1) % 3 == 0)) ∧ w'.cell? ⟨g, k * 9 + 7, none⟩ = some (.bool (((zn : Int) + 1 + 1 + 1 + 1 + 1 + 1 + 1) % 3 == 0)) ∧ w'.cell? ⟨g, k * 9 + 8, none⟩ = some (.int .i64 ((zn : Int) + 1 + 1 + 1 + 1 + 1 + 1 + 1 + 1))) (go_keep)
        (first | (go_at_call 38; refine (HN3.out _).mono ?_; rintro e u2 ⟨rfl, hb2⟩; have A2 : Below u1.heap.size u1 u2 := (Below.drew (Below.refl _ _)).trans hb2; have g2 : g < u2.heap.size := Nat.lt_of_lt_of_le g1 A2.size; have E2 : Hid (Below w.heap.size w u2) := E1.out.trans (A2.mono E1.out.size); have d2_3 : u2.cell? ⟨g, k * 9 + 3, none⟩ = some (.string t3) := ((bcell A2).1 _ _ g1).trans d1_3; have d2_4 : u2.cell? ⟨g, k * 9 + 4, none⟩ = some (.int .i64 ((zn : Int) + 1 + 1 + 1 + 1)) := ((bcell A2).1 _ _ g1).trans d1_4; have d2_5 : u2.cell? ⟨g, k * 9 + 5, none⟩ = some (.string t5) := ((bcell A2).1 _ _ g1).trans d1_5; have d2_6 : u2.cell? ⟨g, k * 9 + 6, none⟩ = some (.bool (((zn : Int) + 1 + 1 + 1 + 1 + 1 + 1) % 3 == 0)) := ((bcell A2).1 _ _ g1).trans d1_6; have d2_7 : u2.cell? ⟨g, k * 9 + 7, none⟩ = some (.bool (((zn : Int) + 1 + 1 + 1 + 1 + 1 + 1 + 1) % 3 == 0)) := ((bcell A2).1 _ _ g1).trans d1_7; have d2_8 : u2.cell? ⟨g, k * 9 + 8, none⟩ = some (.int .i64 ((zn : Int) + 1 + 1 + 1 + 1 + 1 + 1 + 1 + 1)) := ((bcell A2).1 _ _ g1).trans d1_8))
      clear hb2 A2 d1_2 d1_3 d1_4 d1_5 d1_6 d1_7 d1_8
      go_wp2_with fail
      go_region_held3 (fun w' => w'.cell? ⟨g, k * 9 + 5, none⟩ = some (.string t5) ∧ w'.cell? ⟨g, k * 9 + 6, none⟩ = some (.bool (((zn : Int) + 1 + 1 + 1 + 1 + 1 + 1) % 3 == 0)) ∧ w'.cell? ⟨g, k * 9 + 7, none⟩ = some (.bool (((zn : Int) + 1 + 1 + 1 + 1 + 1 + 1 + 1) % 3 == 0)) ∧ w'.cell? ⟨g, k * 9 + 8, none⟩ = some (.int .i64 ((zn : Int) + 1 + 1 + 1 + 1 + 1 + 1 + 1 + 1))) (go_keep)
        (first | (go_at_call 38; refine (HN5.out _).mono ?_; rintro e u3 ⟨rfl, hb3⟩; have A3 : Below u2.heap.size u2 u3 := (Below.drew (Below.refl _ _)).trans hb3; have g3 : g < u3.heap.size := Nat.lt_of_lt_of_le g2 A3.size; have E3 : Hid (Below w.heap.size w u3) := E2.out.trans (A3.mono E2.out.size); have d3_5 : u3.cell? ⟨g, k * 9 + 5, none⟩ = some (.string t5) := ((bcell A3).1 _ _ g2).trans d2_5; have d3_6 : u3.cell? ⟨g, k * 9 + 6, none⟩ = some (.bool (((zn : Int) + 1 + 1 + 1 + 1 + 1 + 1) % 3 == 0)) := ((bcell A3).1 _ _ g2).trans d2_6; have d3_7 : u3.cell? ⟨g, k * 9 + 7, none⟩ = some (.bool (((zn : Int) + 1 + 1 + 1 + 1 + 1 + 1 + 1) % 3 == 0)) := ((bcell A3).1 _ _ g2).trans d2_7; have d3_8 : u3.cell? ⟨g, k * 9 + 8, none⟩ = some (.int .i64 ((zn : Int) + 1 + 1 + 1 + 1 + 1 + 1 + 1 + 1)) := ((bcell A3).1 _ _ g2).trans d2_8))
      clear hb3 A3 d2_3 d2_4 d2_5 d2_6 d2_7 d2_8
      go_wp2
      go_roundw
      case rel => exact ⟨k + 1, by omega, by go_num, val_int (by have := HNX.out; omega), E3⟩
      case measure => simp [intOf]; omega
    · obtain rfl : k = n := by omega
      go_wp2
      go_ret
      exact ⟨rfl, HB.out⟩
end Go.Proofs.YtclpamjgglfljaaDoor

/- Slices of structs while others are marked. -/
namespace Go.Proofs.YtclpamjgglfljaaDoor
open Go.RowKit

theorem SliceR.place {w : World} {B sz n : Nat} {v : Value} {f : Nat → Nat → Value} (h : SliceR w B sz v n f) : 0 < n → ∃ g, v.ownBlock = some g ∧ B ≤ g ∧ g < w.heap.size := by
  obtain ⟨p, cap, rfl, h⟩ := h
  intro hn
  obtain ⟨g, rfl, hB, hg, -⟩ := h hn
  exact ⟨g, rfl, hB, hg⟩
theorem SliceR.keepG {w w' : World} {B sz n G : Nat} {v : Value} {f : Nat → Nat → Value} (h : SliceR w B sz v n f) (hg : w.grownBy w' (some G)) (hne : 0 < n → ∃ g, v.ownBlock = some g ∧ g ≠ G) : SliceR w' B sz v n f := by
  obtain ⟨p, cap, rfl, h⟩ := h
  refine ⟨p, cap, rfl, fun hn => ?_⟩
  obtain ⟨g, rfl, hB, hgw, hc⟩ := h hn
  obtain ⟨g', e, hn'⟩ := hne hn
  obtain rfl : g = g' := Option.some.inj e
  have hb : w'.heap[g]? = w.heap[g]? := hg.block g hgw (fun e => hn' (Option.some.inj e))
  refine ⟨g, rfl, hB, Nat.lt_of_lt_of_le hgw hg.size, fun j hj o ho => ⟨?_, ?_⟩⟩
  · rw [World.cell?_of_block (a := ⟨g, j * sz + o, none⟩) hb]; exact (hc j hj o ho).1
  · rw [World.frozen?_of_block (a := ⟨g, j * sz + o, none⟩) hb]; exact (hc j hj o ho).2
end Go.Proofs.YtclpamjgglfljaaDoor

/- Slices of frames while others are marked. -/
namespace Go.Proofs.YtclpamjgglfljaaDoor
open Go.RowKit

theorem SliceF.keepG {w w' : World} {B G : Nat} {v : Value} {L : List Fr} (h : SliceF w B v L) (hg : w.grownBy w' (some G)) (hne : 0 < L.length → ∃ g, v.ownBlock = some g ∧ g ≠ G) : SliceF w' B v L := ⟨h.1.keepG hg hne, h.2⟩
theorem markF_call (a : Value) (L : List Fr) (B : Nat) (w : World) (ha : SliceF w B a L) (hB : B ≤ w.heap.size) (hn : L.length ≤ 1048576) :
    Calls Tryd.prog 16 #[a, .int .i64 1] w fun e w' => e = .returned (.int .i64 ((1 + L.length * 9 : Nat) : Int)) ∧ SliceR w' B 9 a L.length (markFrC 1) ∧ ∃ G, B ≤ G ∧ (0 < L.length → a.ownBlock = some G) ∧ (¬ 0 < L.length → w.heap.size ≤ G) ∧ w.grownBy w' (some G) := by
  refine (markFrameS_any a L.length B 1 _ w ha.1 hn (by decide) (by decide)).mono ?_
  rintro e w' ⟨rfl, h2, h3⟩
  refine ⟨rfl, h2, ?_⟩
  by_cases h0 : 0 < L.length
  · obtain ⟨g, e, hBg, -⟩ := ha.1.place h0
    exact ⟨g, hBg, fun _ => e, fun h => absurd h0 h, h3 g (fun _ => e)⟩
  · exact ⟨w.heap.size, hB, fun h => absurd h h0, fun _ => Nat.le_refl _, h3 _ (fun h => absurd h h0)⟩
end Go.Proofs.YtclpamjgglfljaaDoor

/- The laws' eqFramesOut, markFramesOut, heldFramesOut; an answer in its box. -/
namespace Go.Proofs.YtclpamjgglfljaaDoor
open Go.RowKit

set_option maxRecDepth 10000 in
set_option maxHeartbeats 4000000 in
theorem eqFO_any (a b : Value) (Z : FO) (B B' : Nat) (w : World) (ha : SliceF w B a Z.ar) (hb : SliceF w B' b Z.ar) (hn : Z.ar.length ≤ 1048576) :
    Calls Tryd.prog 13 #[.agg #[a, .int .i64 Z.id, .int .i64 Z.co], .agg #[b, .int .i64 Z.id, .int .i64 Z.co]] w fun e w' => e = .returned (.bool true) ∧ Below w.heap.size w w' := by
  have KE : Hid (∀ W, Below w.heap.size w W → Calls Tryd.prog 14 #[a, b] W fun e w' => e = .returned (.bool true) ∧ Below W.heap.size W w') := fun W h => eqFrameS_any a b Z.ar B B' W (ha.below h) (hb.below h) hn
  obtain ⟨p, ca, hva⟩ : ∃ p ca, a = .slice p Z.ar.length ca := by obtain ⟨⟨p, cap, e, -⟩, -⟩ := ha; exact ⟨p, cap, e⟩
  obtain ⟨q, cb, hvb⟩ : ∃ q cb, b = .slice q Z.ar.length cb := by obtain ⟨⟨p, cap, e, -⟩, -⟩ := hb; exact ⟨p, cap, e⟩
  clear ha hb
  generalize Z.ar.length = m at *
  obtain ⟨za, zv, zc⟩ := Z
  dsimp only at *
  subst hva hvb
  obtain ⟨W0, hW⟩ : ∃ W0, W0 = (w.alloc (.cells #[.slice p m ca, .int .i64 zv, .int .i64 zc] 31)).alloc (.cells #[.slice q m cb, .int .i64 zv, .int .i64 zc] 31) := ⟨_, rfl⟩
  have hW0 : Hid (W0 = (w.alloc (.cells #[.slice p m ca, .int .i64 zv, .int .i64 zc] 31)).alloc (.cells #[.slice q m cb, .int .i64 zv, .int .i64 zc] 31)) := hW
  have B0 : Hid (Below w.heap.size w W0) := by
    show Below _ _ _
    rw [hW]; exact ((Below.refl _ _).alloc (Nat.le_refl _) _).alloc (by simp) _
  have c0 : W0.cell? ⟨w.heap.size, 0, none⟩ = some (.slice p m ca) := by rw [hW]; simp
  have c1 : W0.cell? ⟨w.heap.size, 1, none⟩ = some (.int .i64 zv) := by rw [hW]; simp
  have c2 : W0.cell? ⟨w.heap.size, 2, none⟩ = some (.int .i64 zc) := by rw [hW]; simp
  have d0 : W0.cell? ⟨w.heap.size + 1, 0, none⟩ = some (.slice q m cb) := by rw [hW]; exact (World.cell?_alloc_at _ _ _ _ (by simp)).trans rfl
  have d1 : W0.cell? ⟨w.heap.size + 1, 1, none⟩ = some (.int .i64 zv) := by rw [hW]; exact (World.cell?_alloc_at _ _ _ _ (by simp)).trans rfl
  have d2 : W0.cell? ⟨w.heap.size + 1, 2, none⟩ = some (.int .i64 zc) := by rw [hW]; exact (World.cell?_alloc_at _ _ _ _ (by simp)).trans rfl
  have z1 : w.heap.size + 1 < W0.heap.size := by rw [hW]; simp
  clear hW
  go_enter Tryd.func13, Tryd.ntmps13
  go_upto_region 1 with fail
  rw [← hW0.out]
  clear hW0
  generalize hbb : w.heap.size = b at *
  have z0 : b < W0.heap.size := by omega
  go_wp2_with fail
  refine (KE.out _ B0.out).mono ?_
  rintro e w1 ⟨rfl, hb1⟩
  have e1 : w1.cell? ⟨b, 1, none⟩ = some (.int .i64 zv) := ((bcell hb1).1 _ _ z0).trans c1
  have e2 : w1.cell? ⟨b, 2, none⟩ = some (.int .i64 zc) := ((bcell hb1).1 _ _ z0).trans c2
  have f1 : w1.cell? ⟨b + 1, 1, none⟩ = some (.int .i64 zv) := ((bcell hb1).1 _ _ z1).trans d1
  have f2 : w1.cell? ⟨b + 1, 2, none⟩ = some (.int .i64 zc) := ((bcell hb1).1 _ _ z1).trans d2
  have B1 : Hid (Below b w w1) := B0.out.trans (hb1.mono (by omega))
  clear hb1
  go_wp2
  go_ret
  exact ⟨rfl, by rw [hbb]; exact B1.out⟩
set_option maxRecDepth 10000 in
set_option maxHeartbeats 4000000 in
theorem markFO_call (a : Value) (zv : Int) (zc : Int) (L : List Fr) (B : Nat) (w : World) (ha : SliceF w B a L) (hB : B ≤ w.heap.size) (hn : L.length ≤ 1048576) :
    Calls Tryd.prog 18 #[.agg #[a, .int .i64 zv, .int .i64 zc], .int .i64 1] w fun e w' => e = .returned (.int .i64 ((1 + L.length * 9 : Nat) : Int)) ∧ SliceR w' B 9 a L.length (markFrC 1) ∧ ∃ G, B ≤ G ∧ (0 < L.length → a.ownBlock = some G) ∧ (¬ 0 < L.length → w.heap.size ≤ G) ∧ w.grownBy w' (some G) := by
  obtain ⟨p, ca, hva⟩ : ∃ p ca, a = .slice p L.length ca := by obtain ⟨⟨p, cap, e, -⟩, -⟩ := ha; exact ⟨p, cap, e⟩
  have KM : Hid (∀ W, Below w.heap.size w W → Calls Tryd.prog 16 #[a, .int .i64 1] W fun e w' => e = .returned (.int .i64 ((1 + L.length * 9 : Nat) : Int)) ∧ SliceR w' B 9 a L.length (markFrC 1) ∧ ∃ G, B ≤ G ∧ (0 < L.length → a.ownBlock = some G) ∧ (¬ 0 < L.length → W.heap.size ≤ G) ∧ W.grownBy w' (some G)) := fun W hb => markF_call a L B W (ha.below hb) (Nat.le_trans hB hb.size) hn
  clear ha
  have hq : Hid (((1 + L.length * 9 : Nat) : Int) = ((1 + L.length * 9 : Nat) : Int)) := rfl
  generalize hm : ((1 + L.length * 9 : Nat) : Int) = mq at *
  subst hva
  go_enter Tryd.func18, Tryd.ntmps18
  go_wp2_with fail
  refine (KM.out _ ((Below.refl _ _).alloc (Nat.le_refl _) _)).mono ?_
  rintro e w1 ⟨rfl, hr, G, h1, h2, h3, hg⟩
  have HF : Hid (SliceR w1 B 9 (.slice p L.length ca) L.length (markFrC 1) ∧ ∃ G, B ≤ G ∧ (0 < L.length → (Value.slice p L.length ca).ownBlock = some G) ∧ (¬ 0 < L.length → w.heap.size ≤ G) ∧ w.grownBy w1 (some G)) := ⟨hr, G, h1, h2, fun h => Nat.le_trans (by simp) (h3 h), (World.grownBy_alloc w _ (some G)).andThen hg (fun j hj => .inr hj)⟩
  clear hr h1 h2 h3 hg
  go_wp2
  go_ret
  exact ⟨rfl, HF.out⟩
set_option maxRecDepth 10000 in
set_option maxHeartbeats 4000000 in
theorem heldFO_any (a : Value) (zv : Int) (zc : Int) (n B : Nat) (w : World) (ha : SliceR w B 9 a n (markFrC 1)) (hn : n ≤ 1048576) :
    Calls Tryd.prog 19 #[.agg #[a, .int .i64 zv, .int .i64 zc], .int .i64 1] w fun e w' => e = .returned (.int .i64 ((1 + n * 9 : Nat) : Int)) ∧ Below w.heap.size w w' := by
  obtain ⟨p, ca, hva⟩ : ∃ p ca, a = .slice p n ca := by obtain ⟨p, cap, e, -⟩ := ha; exact ⟨p, cap, e⟩
  have KM : Hid (∀ W, Below w.heap.size w W → Calls Tryd.prog 39 #[a, .int .i64 1] W fun e w' => e = .returned (.int .i64 ((1 + n * 9 : Nat) : Int)) ∧ Below W.heap.size W w') := fun W hb => heldFrameS_any a n B 1 W (SliceR.below ha hb) hn (by decide) (by decide)
  clear ha
  have hm1 : decide ((((1 + n * 9 : Nat) : Int)) < 0) = false := by rw [decide_eq_false_iff_not]; omega
  generalize hm : ((1 + n * 9 : Nat) : Int) = mq at *
  subst hva
  go_enter Tryd.func19, Tryd.ntmps19
  go_wp2_with fail
  refine (KM.out _ ((Below.refl _ _).alloc (Nat.le_refl _) _)).mono ?_
  rintro e w1 ⟨rfl, hb⟩
  have HF : Hid (Below w.heap.size w w1) := ((Below.refl _ _).alloc (Nat.le_refl _) _).trans (hb.mono (by simp))
  clear hb
  go_wp2
  go_ret
  exact ⟨rfl, HF.out⟩
/-- an answer lies in its box -/
def InBoxF (W : World) (b : Nat) (s : Value) (Z : FO) : Prop := W.cell? ⟨b, 0, none⟩ = some s ∧ W.cell? ⟨b, 1, none⟩ = some (.int .i64 Z.id) ∧ W.cell? ⟨b, 2, none⟩ = some (.int .i64 Z.co) ∧ b < W.heap.size
theorem InBoxF.below {W W' : World} {b : Nat} {s : Value} {Z : FO} (h : InBoxF W b s Z) (hb : Below W.heap.size W W') : InBoxF W' b s Z :=
  ⟨((bcell hb).1 _ _ h.2.2.2).trans h.1, ((bcell hb).1 _ _ h.2.2.2).trans h.2.1, ((bcell hb).1 _ _ h.2.2.2).trans h.2.2.1, Nat.lt_of_lt_of_le h.2.2.2 hb.size⟩
theorem InBoxF.grown {W W' : World} {b G : Nat} {s : Value} {Z : FO} (h : InBoxF W b s Z) (hg : W.grownBy W' (some G)) (hne : b ≠ G) : InBoxF W' b s Z := by
  have hb : W'.heap[b]? = W.heap[b]? := hg.block b h.2.2.2 (fun e => hne (Option.some.inj e))
  exact ⟨(World.cell?_of_block (a := ⟨b, 0, none⟩) hb).trans h.1, (World.cell?_of_block (a := ⟨b, 1, none⟩) hb).trans h.2.1, (World.cell?_of_block (a := ⟨b, 2, none⟩) hb).trans h.2.2.1, Nat.lt_of_lt_of_le h.2.2.2 hg.size⟩
theorem inBoxF_made (W : World) (s : Value) (Z : FO) (t : TypeId) : InBoxF (W.alloc (.cells #[s, .int .i64 Z.id, .int .i64 Z.co] t)) W.heap.size s Z := ⟨by simp, by simp, by simp, by simp⟩
end Go.Proofs.YtclpamjgglfljaaDoor

/- Slices of frames, and an answer of frames in its box, that lie as they lay; their marks. -/
namespace Go.Proofs.YtclpamjgglfljaaDoor
open Go.RowKit

theorem SliceF.same {w w' : World} {B : Nat} {v : Value} {L : List Fr} (h : SliceF w B v L) (hs : Same B w w') : SliceF w' B v L := ⟨h.1.same hs, h.2⟩
theorem markF_off (a : Value) (L : List Fr) (B E : Nat) (w : World) (ha : SliceF w B a L) (hB : B ≤ w.heap.size) (hE : 0 < L.length → ∀ g, a.ownBlock = some g → g < E) (hn : L.length ≤ 1048576) :
    Calls Tryd.prog 16 #[a, .int .i64 1] w fun e w' => e = .returned (.int .i64 ((1 + L.length * 9 : Nat) : Int)) ∧ SliceR w' B 9 a L.length (markFrC 1) ∧ Off B E w w' := by
  refine (markF_call a L B w ha hB hn).mono ?_
  rintro e w' ⟨rfl, h1, G, h2, h3, h4, h5⟩
  refine ⟨rfl, h1, Off.of_grown h5 h2 ?_⟩
  by_cases h0 : 0 < L.length
  · exact .inl (hE h0 G (h3 h0))
  · exact .inr (h4 h0)
theorem markFO_off (a : Value) (zv : Int) (zc : Int) (L : List Fr) (B E : Nat) (w : World) (ha : SliceF w B a L) (hB : B ≤ w.heap.size) (hE : 0 < L.length → ∀ g, a.ownBlock = some g → g < E) (hn : L.length ≤ 1048576) :
    Calls Tryd.prog 18 #[.agg #[a, .int .i64 zv, .int .i64 zc], .int .i64 1] w fun e w' => e = .returned (.int .i64 ((1 + L.length * 9 : Nat) : Int)) ∧ SliceR w' B 9 a L.length (markFrC 1) ∧ Off B E w w' := by
  refine (markFO_call a zv zc L B w ha hB hn).mono ?_
  rintro e w' ⟨rfl, h1, G, h2, h3, h4, h5⟩
  refine ⟨rfl, h1, Off.of_grown h5 h2 ?_⟩
  by_cases h0 : 0 < L.length
  · exact .inl (hE h0 G (h3 h0))
  · exact .inr (h4 h0)
theorem InBoxF.same {w w' : World} {B b : Nat} {s : Value} {Z : FO} (h : InBoxF w b s Z) (hs : Same B w w') (hB : B ≤ b) : InBoxF w' b s Z := by
  obtain ⟨c0, c1, c2, hl⟩ := h
  exact ⟨(hs.cell hB hl).trans c0, (hs.cell hB hl).trans c1, (hs.cell hB hl).trans c2, Nat.lt_of_lt_of_le hl hs.1⟩
end Go.Proofs.YtclpamjgglfljaaDoor

/- The laws' markStringS, and the marks of frames: what they leave as it was. -/
namespace Go.Proofs.YtclpamjgglfljaaDoor
open Go.RowKit

set_option maxRecDepth 10000 in
set_option maxHeartbeats 1000000 in
theorem markStr_off (a : Value) (n B E q : Nat) (f : Nat → ByteArray) (w : World) (ha : SliceS w B a n f) (hE : 0 < n → ∀ g, a.ownBlock = some g → g < E) (hn : n ≤ 1048576) (hq : 0 < q) (hq2 : q ≤ 4611686018427387904) :
    Calls Tryd.prog 17 #[a, .int .i64 (q : Int)] w fun e w' => e = .returned (.int .i64 ((q + n : Nat) : Int)) ∧ SliceS w' B a n (fun j => markT (q + j)) ∧ Off B E w w' := by
  obtain ⟨p, cap, rfl, h1⟩ := ha
  have HG : Hid (0 < n → ∃ G, p = some ⟨G, 0, none⟩ ∧ B ≤ G ∧ G < E) := fun h => by
    obtain ⟨g, e, h2, -⟩ := h1 h
    exact ⟨g, e, h2, hE h g (by rw [e]; rfl)⟩
  clear hE
  have HS0 : Hid (SliceS w B (.slice p n cap) n (marked f q 0)) := by
    refine SliceS.ext1 ⟨p, cap, rfl, h1⟩ (fun j hj => ?_)
    unfold marked; rw [if_neg (by omega)]
  clear h1
  have HM : Hid (∀ (m : Nat) (W : World), 0 < m → m ≤ 9223372036854775807 → Calls Tryd.prog 38 #[.int .i64 (m : Int)] W fun e w' => e = .returned (.string (markT m)) ∧ Below W.heap.size W w') := fun m W h1 h2 => markText_any m W h1 h2
  go_enter Tryd.func17, Tryd.ntmps17
  go_wp2
  go_loopw [1, 5] (fun kk i wr => ∃ k : Nat, k ≤ n ∧ i = .int .i64 k ∧ kk = .int .i64 ((q + k : Nat) : Int) ∧ Hid (Off B E w wr) ∧ Hid (SliceS wr B (.slice p n cap) n (marked f q k))) (fun _ i _ => n - (intOf i).toNat)
  case atStart => exact ⟨0, by omega, rfl, rfl, Off.refl _ _ _, HS0⟩
  case round =>
    obtain ⟨k, hk, rfl, rfl, HB, HR⟩ := hrel
    by_cases hlt : k < n
    · obtain ⟨G, rfl, hGB, hGE⟩ := HG.out (by omega)
      have k0 : (0 : Int) ≤ k := by omega
      have k1 : (k : Int) < (n : Int) := by omega
      have HN : Hid (∀ W, Calls Tryd.prog 38 #[.int .i64 ((q : Int) + (k : Int))] W fun e w' => e = .returned (.string (markT (q + k))) ∧ Below W.heap.size W w') := fun W => HM.out (q + k) W (by omega) (by omega)
      clear HM
      go_wp2_with fail
      refine (HN.out _).mono ?_
      rintro e w1 ⟨rfl, hb⟩
      have hf1 := HR.out.below hb
      obtain ⟨p', c', e', h4⟩ := id hf1
      injection e' with e1 e2 e3
      obtain ⟨g', e5, hBg, hgw, h6⟩ := h4 (by omega)
      rw [← e1] at e5
      injection e5 with e5
      injection e5 with e5
      subst e5
      have c1 := (h6 k hlt).1
      have c2 := (h6 k hlt).2
      have HB1 : Hid (Off B E w (w1.setCell ⟨G, k, none⟩ (.string (markT (q + k))))) := (HB.out.on hb).put k _ hGB hGE
      have HR1 : Hid (SliceS (w1.setCell ⟨G, k, none⟩ (.string (markT (q + k)))) B (.slice (some ⟨G, 0, none⟩) n cap) n (marked f q (k + 1))) := by
        refine ⟨_, _, rfl, fun _ => ⟨G, rfl, hBg, by simpa [World.setCell] using hgw, fun j hj => ?_⟩⟩
        by_cases e : j = k
        · subst e
          rw [marked_at]
          exact ⟨World.cell?_setCell_same _ _ _ c1, by rw [World.frozen?_setCell]; exact c2⟩
        · rw [marked_step f q k j e, World.cell?_setCell_other _ _ _ _ (by intro h; injection h with _ h; exact e h.symm), World.frozen?_setCell]
          exact h6 j hj
      clear hb hf1 h4 h6 e1 e2 e3 HR HB HS0 hBg hgw
      generalize markT (q + k) = t at *
      generalize marked f q k k = x at *
      go_wp2
      go_roundw
      case rel => exact ⟨k + 1, by omega, by go_num, by go_num, HB1, HR1⟩
      case measure => simp [intOf]; omega
    · obtain rfl : k = n := by omega
      have HS : Hid (SliceS wr B (.slice p k cap) k (fun j => markT (q + j))) := HR.out.ext1 (fun j hj => marked_all f q k j hj)
      go_wp2
      go_ret
      exact ⟨rfl, HS.out, HB.out⟩
end Go.Proofs.YtclpamjgglfljaaDoor

/- The law FnExactFramesRight, walked. -/
namespace Go.Proofs.YtclpamjgglfljaaDoor
open Go.RowKit

/-- the texts of frames are no longer than what is asked -/
def szF9 (L : List Fr) : Prop := ∀ i, i < L.length → (atF L i).sc.size + (atF L i).ho.size + (atF L i).pt.size ≤ 1048576
end Go.Proofs.YtclpamjgglfljaaDoor

/- A slice of texts that came in, as a law's frame opens it. -/
namespace Go.Proofs.YtclpamjgglfljaaDoor
open Go.ChangeShapes Go.WideShapes Go.ChangeAt Go.RowKit

theorem strRow_of {H : Type} {enc : TypeId × Value → H} {W : World} {a : Option Addr} {len cap : Nat} {d : DataW H} {p : List MemPlace}
    (h : ∃ fuel, DataW.trod enc Tryd.prog W 0 (fun _ => true) true fuel 23 (Value.slice a len cap).cells.toList = some (d, p)) : (∃ f, StrRow W a len f) ∧ len ≤ maxLen := by
  obtain ⟨fuel, hf⟩ := h
  rcases Go.Deep.open_strs Tryd.underlying23 Tryd.underlying9 (by kernel_rfl) hf with ⟨hcs, _⟩ | ⟨x, l, c, m, f, hcs, _, hl, hm, hmm, _, hcell⟩
  · simp [Value.cells] at hcs
    obtain ⟨rfl, rfl, rfl⟩ := hcs
    exact ⟨⟨fun _ => ⟨#[]⟩, fun i hi => absurd hi (by omega)⟩, Nat.zero_le _⟩
  · simp [Value.cells] at hcs
    obtain ⟨rfl, rfl, rfl⟩ := hcs
    refine ⟨⟨f, fun i hi => ?_⟩, by omega⟩
    have hmc : m = cap := by simpa using hmm
    obtain ⟨hc, hs⟩ := hcell i (by omega)
    refine ⟨x, rfl, ?_, hc, hs⟩
    have hb : (x.add i).block < W.heap.size := by
      by_cases h : (x.add i).block < W.heap.size
      · exact h
      · exfalso
        simp [World.cell?, Array.getElem?_eq_none (show W.heap.size ≤ (x.add i).block by omega)] at hc
    have e : (x.add i).block = x.block := by unfold Addr.add; split <;> rfl
    rw [e] at hb; exact hb
end Go.Proofs.YtclpamjgglfljaaDoor
