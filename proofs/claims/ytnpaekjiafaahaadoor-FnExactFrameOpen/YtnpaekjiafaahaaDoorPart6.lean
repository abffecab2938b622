/- 6 of this claim's texts, one behind the other. -/
import Derived.Test.YtnpaekjiafaahaaDoorPart2
import Derived.Test.YtnpaekjiafaahaaDoorPart3
import Derived.Test.YtnpaekjiafaahaaDoorPart5
import Derived.Test.YtnpaekjiafaahaaDoorPart4
import Derived.Test.YtnpaekjiafaahaaDoorPart1
import Derived.Deep.RegionHeld3
import Derived.Deep.DeepCutAuto
/- The walk of the program's FrameOpen. Written by implopen.py. -/
namespace Go.Proofs.YtnpaekjiafaahaaDoor
open Go.RowKit

theorem withF_none (L : List Fr) : withF [] L = L := by
  unfold withF
  rw [List.filter_eq_self]
  intro x _; rfl
theorem uF_sizes {f : Fr} (h : uF f = true) : f.sc.size ≤ 1000000 ∧ f.ho.size ≤ 1000000 ∧ f.pt.size ≤ 1000000 := by
  obtain ⟨h1, h2, -, -, h3⟩ := urlB_parts h
  omega
theorem below_cell9 {A w : World} {g : Nat} (h : Below A.heap.size A w) (j : Nat) (hg : g < A.heap.size) : w.cell? ((⟨g, 0, none⟩ : Addr).add j) = A.cell? ((⟨g, 0, none⟩ : Addr).add j) := by
  have e : (⟨g, 0, none⟩ : Addr).add j = ⟨g, j, none⟩ := by unfold Addr.add; split <;> simp_all
  rw [e]
  exact World.cell?_of_block (a := ⟨g, j, none⟩) (h.block g hg)
theorem okF_u9 {L : List Fr} {k : Nat} (h : okF L k = true) : uF (atF L k) = true := by
  unfold okF frB at h
  simp only [Bool.and_eq_true] at h
  exact h.1.1.1.1.2
def q70 : Oper := { dst := some 53, op := Op.move (Operand.tmp 0), type := 25, pos := "l09_frame.go:138", after := #[], guard := none }
def q71 : Oper := { dst := some 54, op := Op.call { callee := Callee.value (Operand.func 53), args := #[Operand.tmp 53, Operand.const (Value.slice none 0 0)], argTypes := #[25, 77] }, type := 25, pos := "l09_frame.go:138", after := #[{ on := 0, ground := Ground.data }], guard := none }
def q72 : Oper := { dst := some 55, op := Op.load 60 (Operand.tmp 10), type := 60, pos := "l09_frame.go:138", after := #[], guard := none }
def q73 : Oper := { dst := some 56, op := Op.buildSlice 25 1 #[(0, Operand.tmp 55)], type := 25, pos := "l09_frame.go:138", after := #[{ on := 2, ground := Ground.data }], guard := none }
def q74 : Oper := { dst := some 57, op := Op.call { callee := Callee.builtin Builtin.append, args := #[Operand.tmp 54, Operand.tmp 56], argTypes := #[25, 25] }, type := 25, pos := "l09_frame.go:138", after := #[{ on := 1, ground := Ground.data }, { on := 3, ground := Ground.data }, { on := 1, ground := Ground.chain }], guard := none }
def q75 : Oper := { dst := some 58, op := Op.move (Operand.tmp 9), type := 2, pos := "l09_frame.go:138", after := #[], guard := none }
def q76 : Oper := { dst := some 59, op := Op.build 33 #[(0, Operand.tmp 57), (1, Operand.tmp 58)], type := 33, pos := "l09_frame.go:138", after := #[{ on := 4, ground := Ground.data }, { on := 5, ground := Ground.data }], guard := none }
def q77 : Oper := { dst := none, op := Op.store 33 (Operand.tmp 8) (Operand.tmp 59), type := 0, pos := "l09_frame.go:138", after := #[{ on := 6, ground := Ground.data }, { on := 4, ground := Ground.chain }, { on := 0, ground := Ground.phase }, { on := 1, ground := Ground.phase }, { on := 2, ground := Ground.phase }, { on := 3, ground := Ground.phase }, { on := 4, ground := Ground.phase }, { on := 5, ground := Ground.phase }, { on := 6, ground := Ground.phase }], guard := none }
open List (setIfInBounds_toArray set_cons_zero set_cons_succ)
set_option maxRecDepth 10000 in
set_option maxHeartbeats 16000000 in
theorem frameOpen_any (v : Value) (L : List Fr) (B : Nat) (pa : Int) (sc ho pt : ByteArray) (po : Int) (sb : Bool) (w : World) (hG : MaxI w) (hs : SliceF w B v L) (hn : L.length ≤ 1048576) (hh : ∀ i, i < L.length → (atF L i).ho.size ≤ 1048576) (hu : ho.size ≤ 1048576) :
    Calls Tryd.prog 18 #[v, .int .i64 pa, .agg #[.string sc, .string ho, .int .i64 po, .string pt], .bool sb] w fun e w' => ∃ v', e = .returned v' ∧ AnsF w' w.heap.size v' (openF L pa sc ho pt po sb) ∧ Below w.heap.size w w' := by
  have KF : Hid (∀ W, Below w.heap.size w W → Calls Tryd.prog 13 #[v] W fun e w' => e = .returned (.bool (framesB L)) ∧ Below W.heap.size W w') := fun W hb => framesRight_any v L B W (hG.on hb) (hs.below hb) hn hh
  have KU : Hid (∀ W, Below w.heap.size w W → Calls Tryd.prog 50 #[.agg #[.string sc, .string ho, .int .i64 po, .string pt]] W fun e w' => e = .returned (.bool (urlB sc ho pt po)) ∧ Below W.heap.size W w') := fun W hb => urlRight_any sc ho pt po W (hG.on hb) hu
  have KB : Hid (∀ W, Calls Tryd.prog 51 #[.int .i64 pa, .bool sb] W fun e w' => e = .returned (.bool (boxF pa sb)) ∧ w' = W) := fun W => mayBox_any pa sb W
  have KH : Hid (∀ W, Below w.heap.size w W → Calls Tryd.prog 46 #[v, .int .i64 pa] W fun e w' => e = .returned (.bool (holdF L pa)) ∧ Below W.heap.size W w') := fun W hb => mayHold_any v L B pa W (hs.below hb) hn
  have KL : Hid (∀ W, Below w.heap.size w W → Calls Tryd.prog 45 #[v] W fun e w' => e = .returned (.int .i64 (lastF L)) ∧ w' = W) := fun W hb => lastId_any v L B W (hs.below hb) hn
  have KW0 : framesB L = true → ∀ W, Below w.heap.size w W → Calls Tryd.prog 53 #[v, .slice none 0 0] W fun e w' => ∃ v', e = .returned v' ∧ w'.ownsRow W.heap.size 60 9 v' L.length (frCells L) ∧ Below W.heap.size W w' := fun hL W hb => by
    have h := framesWithout_any v (.slice none 0 0) L [] B 0 W (hs.below hb) (by have := (framesB_parts hL).1; omega) (sliceN_none _ _) (by simp) (fun i hi => uF_sizes (okF_u9 ((framesB_parts hL).2 i hi)))
    rw [withF_none] at h
    exact h
  have KC0 : urlB sc ho pt po = true → ∀ W, Calls Tryd.prog 52 #[.agg #[.string sc, .string ho, .int .i64 po, .string pt]] W fun e w' => e = .returned (.agg #[.string sc, .string ho, .int .i64 po, .string pt]) ∧ Below W.heap.size W w' := fun h W => by
    obtain ⟨h1, h2, -, -, h3⟩ := urlB_parts h
    exact urlCopy_any sc ho pt po W (by omega) (by omega) (by omega)
  have HL10 : Hid (framesB L = true → L.length ≤ 10) := fun h => (framesB_parts h).1
  have HLa : Hid (framesB L = true → 0 ≤ lastF L ∧ lastF L ≤ 1000000) := fun h => by
    have hok := (framesB_parts h).2
    unfold lastF
    split
    · omega
    · exact okF_time (hok _ (by omega))
  have U0 : Hid (BoxV ((w.alloc (.cells #[.string sc, .string ho, .int .i64 po, .string pt] 35)).alloc (.cells #[.slice none 0 0, .int .i64 0, .int .i64 0] 33)) w.heap.size [.string sc, .string ho, .int .i64 po, .string pt]) := (boxV_new w [.string sc, .string ho, .int .i64 po, .string pt] 35).alloc _
  have X0 : Hid (BoxV ((w.alloc (.cells #[.string sc, .string ho, .int .i64 po, .string pt] 35)).alloc (.cells #[.slice none 0 0, .int .i64 0, .int .i64 0] 33)) (w.heap.size + 1) [.slice none 0 0, .int .i64 0, .int .i64 0]) := by
    have h := boxV_new (w.alloc (.cells #[.string sc, .string ho, .int .i64 po, .string pt] 35)) [.slice none 0 0, .int .i64 0, .int .i64 0] 33
    rw [World.size_alloc] at h
    exact h
  have B0 : Hid (Below w.heap.size w ((w.alloc (.cells #[.string sc, .string ho, .int .i64 po, .string pt] 35)).alloc (.cells #[.slice none 0 0, .int .i64 0, .int .i64 0] 33))) := ((Below.refl _ _).alloc (Nat.le_refl _) _).alloc (by simp) _
  obtain ⟨p, cap, rfl⟩ : ∃ p cap, v = .slice p L.length cap := by obtain ⟨-, p, c, e, -⟩ := hs; exact ⟨p, c, e⟩
  obtain ⟨i0, hi, hy0, hy1, hy2⟩ := info_parts infoFrame
  have hbb : w.heap.size = w.heap.size := rfl
  clear hs hG hh hu
  by_cases h4 : 400 < L.length
  · have q4 : decide ((400 : Int) < (L.length : Int)) = true := by rw [decide_eq_true_iff]; omega
    have x0 : ((w.alloc (.cells #[.string sc, .string ho, .int .i64 po, .string pt] 35)).alloc (.cells #[.slice none 0 0, .int .i64 0, .int .i64 0] 33)).cell? ⟨w.heap.size + 1, 0, none⟩ = some (.slice none 0 0) := X0.out.at (i := 0) rfl
    have xf0 : ((w.alloc (.cells #[.string sc, .string ho, .int .i64 po, .string pt] 35)).alloc (.cells #[.slice none 0 0, .int .i64 0, .int .i64 0] 33)).frozen? ⟨w.heap.size + 1, 0, none⟩ = false := X0.out.free (i := 0) rfl
    have x1 : ((w.alloc (.cells #[.string sc, .string ho, .int .i64 po, .string pt] 35)).alloc (.cells #[.slice none 0 0, .int .i64 0, .int .i64 0] 33)).cell? ⟨w.heap.size + 1, 1, none⟩ = some (.int .i64 0) := X0.out.at (i := 1) rfl
    have xf1 : ((w.alloc (.cells #[.string sc, .string ho, .int .i64 po, .string pt] 35)).alloc (.cells #[.slice none 0 0, .int .i64 0, .int .i64 0] 33)).frozen? ⟨w.heap.size + 1, 1, none⟩ = false := X0.out.free (i := 1) rfl
    have x2 : ((w.alloc (.cells #[.string sc, .string ho, .int .i64 po, .string pt] 35)).alloc (.cells #[.slice none 0 0, .int .i64 0, .int .i64 0] 33)).cell? ⟨w.heap.size + 1, 2, none⟩ = some (.int .i64 0) := X0.out.at (i := 2) rfl
    have xf2 : ((w.alloc (.cells #[.string sc, .string ho, .int .i64 po, .string pt] 35)).alloc (.cells #[.slice none 0 0, .int .i64 0, .int .i64 0] 33)).frozen? ⟨w.heap.size + 1, 2, none⟩ = false := X0.out.free (i := 2) rfl
    go_enter Tryd.func18, Tryd.ntmps18
    have HQ : Hid (openF L pa sc ho pt po sb = ⟨[], 0, 2⟩) := by show _ = _; exact openF_size h4
    go_wp2
    exact bodyPost_ret (v := .agg #[.slice none 0 0, .int .i64 0, .int .i64 2]) (by simp [results, Tryd.results18, go_sem]) rfl ⟨_, rfl, ⟨.slice none 0 0, by rw [HQ.out], by rw [HQ.out]; exact sliceF_none _ _⟩, ((Below.refl _ _).alloc (Nat.le_refl _) _).alloc (by simp) _⟩
  have q4 : decide ((400 : Int) < (L.length : Int)) = false := by rw [decide_eq_false_iff_not]; omega
  go_enter Tryd.func18, Tryd.ntmps18
  go_wp2_with fail
  refine (KF.out _ B0.out).mono ?_
  rintro e w1 ⟨rfl, hb1⟩
  have X1 : Hid (BoxV w1 (w.heap.size + 1) [.slice none 0 0, .int .i64 0, .int .i64 0]) := X0.out.below hb1
  have U1 : Hid (BoxV w1 w.heap.size [.string sc, .string ho, .int .i64 po, .string pt]) := U0.out.below hb1
  have B1 : Hid (Below w.heap.size w w1) := B0.out.trans (hb1.mono B0.out.size)
  clear hb1 X0 U0 B0
  clear KF
  cases hfb : framesB L with
  | false =>
    have x0 : w1.cell? ⟨w.heap.size + 1, 0, none⟩ = some (.slice none 0 0) := X1.out.at (i := 0) rfl
    have xf0 : w1.frozen? ⟨w.heap.size + 1, 0, none⟩ = false := X1.out.free (i := 0) rfl
    have x1 : w1.cell? ⟨w.heap.size + 1, 1, none⟩ = some (.int .i64 0) := X1.out.at (i := 1) rfl
    have xf1 : w1.frozen? ⟨w.heap.size + 1, 1, none⟩ = false := X1.out.free (i := 1) rfl
    have x2 : w1.cell? ⟨w.heap.size + 1, 2, none⟩ = some (.int .i64 0) := X1.out.at (i := 2) rfl
    have xf2 : w1.frozen? ⟨w.heap.size + 1, 2, none⟩ = false := X1.out.free (i := 2) rfl
    have HQ : Hid (openF L pa sc ho pt po sb = ⟨[], 0, 1⟩) := by show _ = _; exact openF_form h4 (by rw [hfb]; rfl)
    go_wp2
    exact bodyPost_ret (v := .agg #[.slice none 0 0, .int .i64 0, .int .i64 1]) (by simp [results, Tryd.results18, go_sem, x0, x1, x2]) rfl ⟨_, rfl, ⟨.slice none 0 0, by rw [HQ.out], by rw [HQ.out]; exact sliceF_none _ _⟩, by first | (rw [hbb]; exact (Below.setCell (Below.setCell (Below.setCell B1.out (Nat.le_succ _) _) (Nat.le_succ _) _) (Nat.le_succ _) _)) | exact (Below.setCell (Below.setCell (Below.setCell B1.out (Nat.le_succ _) _) (Nat.le_succ _) _) (Nat.le_succ _) _)⟩
  | true =>
  have u0 : w1.cell? ⟨w.heap.size, 0, none⟩ = some (.string sc) := U1.out.at (i := 0) rfl
  have u1 : w1.cell? ⟨w.heap.size, 1, none⟩ = some (.string ho) := U1.out.at (i := 1) rfl
  have u2 : w1.cell? ⟨w.heap.size, 2, none⟩ = some (.int .i64 po) := U1.out.at (i := 2) rfl
  have u3 : w1.cell? ⟨w.heap.size, 3, none⟩ = some (.string pt) := U1.out.at (i := 3) rfl
  go_wp2_with fail
  refine (KU.out _ B1.out).mono ?_
  rintro e w2 ⟨rfl, hb2⟩
  have X2 : Hid (BoxV w2 (w.heap.size + 1) [.slice none 0 0, .int .i64 0, .int .i64 0]) := X1.out.below hb2
  have U2 : Hid (BoxV w2 w.heap.size [.string sc, .string ho, .int .i64 po, .string pt]) := U1.out.below hb2
  have B2 : Hid (Below w.heap.size w w2) := B1.out.trans (hb2.mono B1.out.size)
  clear hb2 X1 U1 B1
  clear KU u0 u1 u2 u3
  cases hub : urlB sc ho pt po with
  | false =>
    have x0 : w2.cell? ⟨w.heap.size + 1, 0, none⟩ = some (.slice none 0 0) := X2.out.at (i := 0) rfl
    have xf0 : w2.frozen? ⟨w.heap.size + 1, 0, none⟩ = false := X2.out.free (i := 0) rfl
    have x1 : w2.cell? ⟨w.heap.size + 1, 1, none⟩ = some (.int .i64 0) := X2.out.at (i := 1) rfl
    have xf1 : w2.frozen? ⟨w.heap.size + 1, 1, none⟩ = false := X2.out.free (i := 1) rfl
    have x2 : w2.cell? ⟨w.heap.size + 1, 2, none⟩ = some (.int .i64 0) := X2.out.at (i := 2) rfl
    have xf2 : w2.frozen? ⟨w.heap.size + 1, 2, none⟩ = false := X2.out.free (i := 2) rfl
    have HQ : Hid (openF L pa sc ho pt po sb = ⟨[], 0, 1⟩) := by show _ = _; exact openF_form h4 (by rw [hfb, hub]; rfl)
    go_wp2
    exact bodyPost_ret (v := .agg #[.slice none 0 0, .int .i64 0, .int .i64 1]) (by simp [results, Tryd.results18, go_sem, x0, x1, x2]) rfl ⟨_, rfl, ⟨.slice none 0 0, by rw [HQ.out], by rw [HQ.out]; exact sliceF_none _ _⟩, by first | (rw [hbb]; exact (Below.setCell (Below.setCell (Below.setCell B2.out (Nat.le_succ _) _) (Nat.le_succ _) _) (Nat.le_succ _) _)) | exact (Below.setCell (Below.setCell (Below.setCell B2.out (Nat.le_succ _) _) (Nat.le_succ _) _) (Nat.le_succ _) _)⟩
  | true =>
  go_wp2_with fail
  refine (KB.out _).mono ?_
  rintro e w2' ⟨rfl, e2⟩
  subst e2
  clear KB
  cases hbx : boxF pa sb with
  | false =>
    have x0 : w2'.cell? ⟨w.heap.size + 1, 0, none⟩ = some (.slice none 0 0) := X2.out.at (i := 0) rfl
    have xf0 : w2'.frozen? ⟨w.heap.size + 1, 0, none⟩ = false := X2.out.free (i := 0) rfl
    have x1 : w2'.cell? ⟨w.heap.size + 1, 1, none⟩ = some (.int .i64 0) := X2.out.at (i := 1) rfl
    have xf1 : w2'.frozen? ⟨w.heap.size + 1, 1, none⟩ = false := X2.out.free (i := 1) rfl
    have x2 : w2'.cell? ⟨w.heap.size + 1, 2, none⟩ = some (.int .i64 0) := X2.out.at (i := 2) rfl
    have xf2 : w2'.frozen? ⟨w.heap.size + 1, 2, none⟩ = false := X2.out.free (i := 2) rfl
    have HQ : Hid (openF L pa sc ho pt po sb = ⟨[], 0, 1⟩) := by show _ = _; exact openF_form h4 (by rw [hfb, hub, hbx]; rfl)
    go_wp2
    exact bodyPost_ret (v := .agg #[.slice none 0 0, .int .i64 0, .int .i64 1]) (by simp [results, Tryd.results18, go_sem, x0, x1, x2]) rfl ⟨_, rfl, ⟨.slice none 0 0, by rw [HQ.out], by rw [HQ.out]; exact sliceF_none _ _⟩, by first | (rw [hbb]; exact (Below.setCell (Below.setCell (Below.setCell B2.out (Nat.le_succ _) _) (Nat.le_succ _) _) (Nat.le_succ _) _)) | exact (Below.setCell (Below.setCell (Below.setCell B2.out (Nat.le_succ _) _) (Nat.le_succ _) _) (Nat.le_succ _) _)⟩
  | true =>
  have hform : (framesB L && urlB sc ho pt po && boxF pa sb) = true := by rw [hfb, hub, hbx]; rfl
  go_wp2_with fail
  refine (KH.out _ B2.out).mono ?_
  rintro e w3 ⟨rfl, hb3⟩
  have X3 : Hid (BoxV w3 (w.heap.size + 1) [.slice none 0 0, .int .i64 0, .int .i64 0]) := X2.out.below hb3
  have U3 : Hid (BoxV w3 w.heap.size [.string sc, .string ho, .int .i64 po, .string pt]) := U2.out.below hb3
  have B3 : Hid (Below w.heap.size w w3) := B2.out.trans (hb3.mono B2.out.size)
  clear hb3 X2 U2 B2
  clear KH
  cases hhd : holdF L pa with
  | false =>
    have x0 : w3.cell? ⟨w.heap.size + 1, 0, none⟩ = some (.slice none 0 0) := X3.out.at (i := 0) rfl
    have xf0 : w3.frozen? ⟨w.heap.size + 1, 0, none⟩ = false := X3.out.free (i := 0) rfl
    have x1 : w3.cell? ⟨w.heap.size + 1, 1, none⟩ = some (.int .i64 0) := X3.out.at (i := 1) rfl
    have xf1 : w3.frozen? ⟨w.heap.size + 1, 1, none⟩ = false := X3.out.free (i := 1) rfl
    have x2 : w3.cell? ⟨w.heap.size + 1, 2, none⟩ = some (.int .i64 0) := X3.out.at (i := 2) rfl
    have xf2 : w3.frozen? ⟨w.heap.size + 1, 2, none⟩ = false := X3.out.free (i := 2) rfl
    have HQ : Hid (openF L pa sc ho pt po sb = ⟨[], 0, 6⟩) := by show _ = _; exact openF_none h4 hform hhd
    go_wp2
    exact bodyPost_ret (v := .agg #[.slice none 0 0, .int .i64 0, .int .i64 6]) (by simp [results, Tryd.results18, go_sem, x0, x1, x2]) rfl ⟨_, rfl, ⟨.slice none 0 0, by rw [HQ.out], by rw [HQ.out]; exact sliceF_none _ _⟩, by first | (rw [hbb]; exact (Below.setCell (Below.setCell (Below.setCell B3.out (Nat.le_succ _) _) (Nat.le_succ _) _) (Nat.le_succ _) _)) | exact (Below.setCell (Below.setCell (Below.setCell B3.out (Nat.le_succ _) _) (Nat.le_succ _) _) (Nat.le_succ _) _)⟩
  | true =>
  by_cases h10 : L.length = 10
  · have q10 : ((L.length : Int) == 10) = true := by rw [beq_iff_eq]; omega
    have x0 : w3.cell? ⟨w.heap.size + 1, 0, none⟩ = some (.slice none 0 0) := X3.out.at (i := 0) rfl
    have xf0 : w3.frozen? ⟨w.heap.size + 1, 0, none⟩ = false := X3.out.free (i := 0) rfl
    have x1 : w3.cell? ⟨w.heap.size + 1, 1, none⟩ = some (.int .i64 0) := X3.out.at (i := 1) rfl
    have xf1 : w3.frozen? ⟨w.heap.size + 1, 1, none⟩ = false := X3.out.free (i := 1) rfl
    have x2 : w3.cell? ⟨w.heap.size + 1, 2, none⟩ = some (.int .i64 0) := X3.out.at (i := 2) rfl
    have xf2 : w3.frozen? ⟨w.heap.size + 1, 2, none⟩ = false := X3.out.free (i := 2) rfl
    have HQ : Hid (openF L pa sc ho pt po sb = ⟨[], 0, 9⟩) := by show _ = _; exact openF_full h4 hform hhd (.inl h10)
    go_wp2
    exact bodyPost_ret (v := .agg #[.slice none 0 0, .int .i64 0, .int .i64 9]) (by simp [results, Tryd.results18, go_sem, x0, x1, x2]) rfl ⟨_, rfl, ⟨.slice none 0 0, by rw [HQ.out], by rw [HQ.out]; exact sliceF_none _ _⟩, by first | (rw [hbb]; exact (Below.setCell (Below.setCell (Below.setCell B3.out (Nat.le_succ _) _) (Nat.le_succ _) _) (Nat.le_succ _) _)) | exact (Below.setCell (Below.setCell (Below.setCell B3.out (Nat.le_succ _) _) (Nat.le_succ _) _) (Nat.le_succ _) _)⟩
  have q10 : ((L.length : Int) == 10) = false := by rw [beq_eq_false_iff_ne]; omega
  go_wp2_with fail
  refine (KL.out _ B3.out).mono ?_
  rintro e w3' ⟨rfl, e3⟩
  have HW3 : Hid (w3' = w3) := e3
  subst e3
  by_cases hla : lastF L = 1000000
  · have ql : (lastF L == 1000000) = true := by rw [beq_iff_eq]; exact hla
    have x0 : w3'.cell? ⟨w.heap.size + 1, 0, none⟩ = some (.slice none 0 0) := X3.out.at (i := 0) rfl
    have xf0 : w3'.frozen? ⟨w.heap.size + 1, 0, none⟩ = false := X3.out.free (i := 0) rfl
    have x1 : w3'.cell? ⟨w.heap.size + 1, 1, none⟩ = some (.int .i64 0) := X3.out.at (i := 1) rfl
    have xf1 : w3'.frozen? ⟨w.heap.size + 1, 1, none⟩ = false := X3.out.free (i := 1) rfl
    have x2 : w3'.cell? ⟨w.heap.size + 1, 2, none⟩ = some (.int .i64 0) := X3.out.at (i := 2) rfl
    have xf2 : w3'.frozen? ⟨w.heap.size + 1, 2, none⟩ = false := X3.out.free (i := 2) rfl
    have HQ : Hid (openF L pa sc ho pt po sb = ⟨[], 0, 9⟩) := by show _ = _; exact openF_full h4 hform hhd (.inr hla)
    go_wp2
    exact bodyPost_ret (v := .agg #[.slice none 0 0, .int .i64 0, .int .i64 9]) (by simp [results, Tryd.results18, go_sem, x0, x1, x2]) rfl ⟨_, rfl, ⟨.slice none 0 0, by rw [HQ.out], by rw [HQ.out]; exact sliceF_none _ _⟩, by first | (rw [hbb]; exact (Below.setCell (Below.setCell (Below.setCell B3.out (Nat.le_succ _) _) (Nat.le_succ _) _) (Nat.le_succ _) _)) | exact (Below.setCell (Below.setCell (Below.setCell B3.out (Nat.le_succ _) _) (Nat.le_succ _) _) (Nat.le_succ _) _)⟩
  have ql : (lastF L == 1000000) = false := by rw [beq_eq_false_iff_ne]; exact hla
  have HQ : Hid (openF L pa sc ho pt po sb = ⟨L ++ [⟨lastF L + 1, pa, sc, ho, po, pt, sb, false, 0⟩], lastF L + 1, 0⟩) := openF_ok h4 hform hhd h10 hla
  have hl10 := HL10.out hfb
  have hla2 := HLa.out hfb
  have KW : Hid (∀ W, Below w.heap.size w W → Calls Tryd.prog 53 #[.slice p L.length cap, .slice none 0 0] W fun e w' => ∃ v', e = .returned v' ∧ w'.ownsRow W.heap.size 60 9 v' L.length (frCells L) ∧ Below W.heap.size W w') := KW0 hfb
  have KC : Hid (∀ W, Calls Tryd.prog 52 #[.agg #[.string sc, .string ho, .int .i64 po, .string pt]] W fun e w' => e = .returned (.agg #[.string sc, .string ho, .int .i64 po, .string pt]) ∧ Below W.heap.size W w') := KC0 hub
  clear KW0 KC0 HL10 HLa hform hfb hub hbx hhd hla HW3
  generalize hnid : lastF L + 1 = nid at *
  have hw64 : IntKind.i64.wrap (lastF L + 1) = nid := by rw [IntKind.wrap_i64]; omega
  go_wp2_with fail
  refine (KL.out _ B3.out).mono ?_
  rintro e w3'' ⟨rfl, e3⟩
  subst e3
  clear KL
  have u0 : w3''.cell? ⟨w.heap.size, 0, none⟩ = some (.string sc) := U3.out.at (i := 0) rfl
  have u1 : w3''.cell? ⟨w.heap.size, 1, none⟩ = some (.string ho) := U3.out.at (i := 1) rfl
  have u2 : w3''.cell? ⟨w.heap.size, 2, none⟩ = some (.int .i64 po) := U3.out.at (i := 2) rfl
  have u3 : w3''.cell? ⟨w.heap.size, 3, none⟩ = some (.string pt) := U3.out.at (i := 3) rfl
  go_wp2_with fail
  refine (KC.out _).mono ?_
  rintro e w4 ⟨rfl, hb4⟩
  have X4 : Hid (BoxV w4 (w.heap.size + 1) [.slice none 0 0, .int .i64 0, .int .i64 0]) := X3.out.below hb4
  have B4 : Hid (Below w.heap.size w w4) := B3.out.trans (hb4.mono B3.out.size)
  clear hb4 X3 B3
  clear KC u0 u1 u2 u3
  obtain ⟨W5, hW⟩ : ∃ W5, W5 = w4.alloc (.cells #[.int .i64 nid, .int .i64 pa, .string sc, .string ho, .int .i64 po, .string pt, .bool sb, .bool false, .int .i64 0] 60) := ⟨_, rfl⟩
  have hW5 : Hid (W5 = w4.alloc (.cells #[.int .i64 nid, .int .i64 pa, .string sc, .string ho, .int .i64 po, .string pt, .bool sb, .bool false, .int .i64 0] 60)) := hW
  have HB5 : Hid (Below w4.heap.size w4 W5) := by show Below _ _ _; rw [hW]; exact (Below.refl _ _).alloc (Nat.le_refl _) _
  have n0 : W5.cell? ⟨w4.heap.size, 0, none⟩ = some (.int .i64 nid) := by rw [hW]; simp
  have n1 : W5.cell? ⟨w4.heap.size, 1, none⟩ = some (.int .i64 pa) := by rw [hW]; simp
  have n2 : W5.cell? ⟨w4.heap.size, 2, none⟩ = some (.string sc) := by rw [hW]; simp
  have n3 : W5.cell? ⟨w4.heap.size, 3, none⟩ = some (.string ho) := by rw [hW]; simp
  have n4 : W5.cell? ⟨w4.heap.size, 4, none⟩ = some (.int .i64 po) := by rw [hW]; simp
  have n5 : W5.cell? ⟨w4.heap.size, 5, none⟩ = some (.string pt) := by rw [hW]; simp
  have n6 : W5.cell? ⟨w4.heap.size, 6, none⟩ = some (.bool sb) := by rw [hW]; simp
  have n7 : W5.cell? ⟨w4.heap.size, 7, none⟩ = some (.bool false) := by rw [hW]; simp
  have n8 : W5.cell? ⟨w4.heap.size, 8, none⟩ = some (.int .i64 0) := by rw [hW]; simp
  have hob : w4.heap.size < W5.heap.size := by rw [hW]; simp
  have XW : Hid (BoxV W5 (w.heap.size + 1) [.slice none 0 0, .int .i64 0, .int .i64 0]) := X4.out.below HB5.out
  have BW : Hid (Below w.heap.size w W5) := B4.out.trans (HB5.out.mono B4.out.size)
  have hlt5 : w.heap.size + 1 < W5.heap.size := XW.out.1
  have hlt4 : w.heap.size + 1 < w4.heap.size := X4.out.1
  have hne9 : w4.heap.size ≠ w.heap.size + 1 := by omega
  have hne8 : w.heap.size + 1 ≠ w4.heap.size := by omega
  clear hW
  go_wp2_with fail
  rw [← hW5.out]
  clear hW5 X4 B4 HB5
  generalize hob0 : w4.heap.size = ob at *
  refine wp_region_held_drew (S := (fun w' => w'.cell? ⟨ob, 0, none⟩ = some (.int .i64 nid) ∧ w'.cell? ⟨ob, 1, none⟩ = some (.int .i64 pa) ∧ w'.cell? ⟨ob, 2, none⟩ = some (.string sc) ∧ w'.cell? ⟨ob, 3, none⟩ = some (.string ho) ∧ w'.cell? ⟨ob, 4, none⟩ = some (.int .i64 po) ∧ w'.cell? ⟨ob, 5, none⟩ = some (.string pt) ∧ w'.cell? ⟨ob, 6, none⟩ = some (.bool sb) ∧ w'.cell? ⟨ob, 7, none⟩ = some (.bool false) ∧ w'.cell? ⟨ob, 8, none⟩ = some (.int .i64 0))) (by kernel_rfl) ?_ (fun hH0 => ?_)
  · (try dsimp only)
    go_keep
  refine takeY (i := 0) (oi := q70) (v := ?vat1) rfl ?hat1 ?rat1
  case hat1 => (intro w hSw; (try dsimp only [q70] at hSw ⊢); go_simp; try with_reducible rfl)
  try simp only [q70, Act.put, setIfInBounds_toArray, set_cons_zero, set_cons_succ]
  refine takeY (i := 2) (oi := q72) (v := ?vat2) rfl ?hat2 ?rat2
  case hat2 => (intro w hSw; (try dsimp only [q72] at hSw ⊢); go_simp; try with_reducible rfl)
  try simp only [q72, Act.put, setIfInBounds_toArray, set_cons_zero, set_cons_succ]
  refine takeY (i := 5) (oi := q75) (v := ?vat3) rfl ?hat3 ?rat3
  case hat3 => (intro w hSw; (try dsimp only [q75] at hSw ⊢); go_simp; try with_reducible rfl)
  try simp only [q75, Act.put, setIfInBounds_toArray, set_cons_zero, set_cons_succ]
  refine wpAnyH_ready (rs := [1, 3]) (by kernel_rfl) (by simp) ?_
  refine AllReadyH.cons (o := q71) rfl (fun K hK => ?_) (AllReadyH.cons (o := q73) rfl (fun K hK => ?_) AllReadyH.nil)
  · skip
    dsimp only [q71] at hK ⊢
    go_simp
    (go_at_call 53; refine (KW.out _ (BW.out.drew)).mono ?_; rintro e w6 ⟨v6, rfl, ho6, hb6⟩; have A6 : Below W5.heap.size W5 w6 := (Below.drew (Below.refl _ _)).trans (hb6.mono (by simp)); have O6 : Hid (w6.ownsRow W5.heap.size 60 9 v6 L.length (frCells L)) := (by show World.ownsRow _ _ _ _ _ _ _; simpa using ho6); have hz6 : W5.heap.size ≤ w6.heap.size := (by simpa using hb6.size); clear hb6 ho6; have p0 : w6.cell? ⟨ob, 0, none⟩ = some (.int .i64 nid) := ((bcell A6).1 _ _ hob).trans n0; have p1 : w6.cell? ⟨ob, 1, none⟩ = some (.int .i64 pa) := ((bcell A6).1 _ _ hob).trans n1; have p2 : w6.cell? ⟨ob, 2, none⟩ = some (.string sc) := ((bcell A6).1 _ _ hob).trans n2; have p3 : w6.cell? ⟨ob, 3, none⟩ = some (.string ho) := ((bcell A6).1 _ _ hob).trans n3; have p4 : w6.cell? ⟨ob, 4, none⟩ = some (.int .i64 po) := ((bcell A6).1 _ _ hob).trans n4; have p5 : w6.cell? ⟨ob, 5, none⟩ = some (.string pt) := ((bcell A6).1 _ _ hob).trans n5; have p6 : w6.cell? ⟨ob, 6, none⟩ = some (.bool sb) := ((bcell A6).1 _ _ hob).trans n6; have p7 : w6.cell? ⟨ob, 7, none⟩ = some (.bool false) := ((bcell A6).1 _ _ hob).trans n7; have p8 : w6.cell? ⟨ob, 8, none⟩ = some (.int .i64 0) := ((bcell A6).1 _ _ hob).trans n8)
    try (go_wp2_with fail)
    refine hK.out _ _ ?_ (fun hH1 => ?_)
    · (try dsimp only)
      go_keep
    clear hK K hH0
    try simp only [q71, Act.put, setIfInBounds_toArray, set_cons_zero, set_cons_succ]
    refine wpAnyH_ready (rs := [3]) (by kernel_rfl) (by simp) ?_
    refine AllReadyH.cons (o := q73) rfl (fun K hK => ?_) AllReadyH.nil
    · skip
      dsimp only [q73] at hK ⊢
      go_simp
      (skip)
      try (go_wp2_with fail)
      refine hK.out _ _ ?_ (fun hH2 => ?_)
      · (try dsimp only)
        go_keep
      clear hK K hH1
      try simp only [q73, Act.put, setIfInBounds_toArray, set_cons_zero, set_cons_succ]
      refine wpAnyH_ready (rs := [4]) (by kernel_rfl) (by simp) ?_
      refine AllReadyH.cons (o := q74) rfl (fun K hK => ?_) AllReadyH.nil
      · skip
        (rw [if_pos (by rfl)]; dsimp only [q74] at hK ⊢; refine wp_append_own _ _ _ 25 rfl W5.heap.size 60 i0 (.agg #[.int .i64 0, .int .i64 0, .string ⟨#[]⟩, .string ⟨#[]⟩, .int .i64 0, .string ⟨#[]⟩, .bool false, .bool false, .int .i64 0]) 9 88 Tryd.underlying25 hi hy0 hy1 hy2 rfl (by decide) _ _ _ (by rfl) (O6.out.alloc _) ⟨w6.heap.size, 0, none⟩ 1 1 (frVals ⟨nid, pa, sc, ho, po, pt, sb, false, 0⟩) (by rfl) rfl (cell_Fr _ ⟨nid, pa, sc, ho, po, pt, sb, false, 0⟩ _) (one_Fr ⟨nid, pa, sc, ho, po, pt, sb, false, 0⟩) (by unfold maxLen; omega) (by omega) (by simp; omega) ?_; intro v7 w7 ho7 hg7 hn7; have A7 : Below W5.heap.size W5 w7 := (A6.alloc A6.size _).grown hg7 (by first | exact A6.size | (simp; omega)) (fun j hj => (by have := own_base O6.out j hj; omega)); have O7 : Hid (w7.ownsRow W5.heap.size 60 9 v7 (L.length + 1) (frCells L ++ frVals ⟨nid, pa, sc, ho, po, pt, sb, false, 0⟩)) := ho7; have hlt7 : w.heap.size + 1 < W5.heap.size := (by omega); clear ho7 hg7 hn7; have s0 : w7.cell? ⟨ob, 0, none⟩ = some (.int .i64 nid) := ((bcell A7).1 _ _ hob).trans n0; have s1 : w7.cell? ⟨ob, 1, none⟩ = some (.int .i64 pa) := ((bcell A7).1 _ _ hob).trans n1; have s2 : w7.cell? ⟨ob, 2, none⟩ = some (.string sc) := ((bcell A7).1 _ _ hob).trans n2; have s3 : w7.cell? ⟨ob, 3, none⟩ = some (.string ho) := ((bcell A7).1 _ _ hob).trans n3; have s4 : w7.cell? ⟨ob, 4, none⟩ = some (.int .i64 po) := ((bcell A7).1 _ _ hob).trans n4; have s5 : w7.cell? ⟨ob, 5, none⟩ = some (.string pt) := ((bcell A7).1 _ _ hob).trans n5; have s6 : w7.cell? ⟨ob, 6, none⟩ = some (.bool sb) := ((bcell A7).1 _ _ hob).trans n6; have s7 : w7.cell? ⟨ob, 7, none⟩ = some (.bool false) := ((bcell A7).1 _ _ hob).trans n7; have s8 : w7.cell? ⟨ob, 8, none⟩ = some (.int .i64 0) := ((bcell A7).1 _ _ hob).trans n8; have x0 := (XW.out.below A7).at (i := 0) rfl; have xf0 := (XW.out.below A7).free (i := 0) rfl; have x1 := (XW.out.below A7).at (i := 1) rfl; have xf1 := (XW.out.below A7).free (i := 1) rfl; have x2 := (XW.out.below A7).at (i := 2) rfl; have xf2 := (XW.out.below A7).free (i := 2) rfl; obtain ⟨pq7, c7, e7⟩ : ∃ p c, v7 = .slice p (L.length + 1) c := (by obtain ⟨-, p, c, e, -⟩ := sliceF_of_own (L := L ++ [⟨nid, pa, sc, ho, po, pt, sb, false, 0⟩]) (by rw [List.length_append, ← frCells_snoc]; exact O7.out); exact ⟨p, c, by rw [e, List.length_append]; rfl⟩); subst e7)
        refine hK.out _ _ ?_ (fun hH3 => ?_)
        · (try dsimp only)
          go_keep
        clear hK K hH2
        try simp only [Act.put, setIfInBounds_toArray, set_cons_zero, set_cons_succ]
        refine takeY (i := 6) (oi := q76) (v := ?vat4) rfl ?hat4 ?rat4
        case hat4 => (intro w hSw; (try dsimp only [q76] at hSw ⊢); go_simp; try with_reducible rfl)
        try simp only [q76, Act.put, setIfInBounds_toArray, set_cons_zero, set_cons_succ]
        refine wpAnyH_ready (rs := [7]) (by kernel_rfl) (by simp) ?_
        refine AllReadyH.cons (o := q77) rfl (fun K hK => ?_) AllReadyH.nil
        · skip
          dsimp only [q77] at hK ⊢
          go_simp
          (skip)
          try (go_wp2_with fail)
          refine hK.out _ _ ?_ (fun hH4 => ?_)
          · (try dsimp only)
            go_keep
          clear hK K hH3
          try simp only [q77, Act.put, setIfInBounds_toArray, set_cons_zero, set_cons_succ]
          refine wpAnyH_done (by kernel_rfl) ?_ _
          go_wp2
          refine bodyPost_ret (v := .agg #[.slice pq7 (L.length + 1) c7, .int .i64 nid, .int .i64 0]) (by simp [results, Tryd.results18, go_sem, x0, x1, x2]) rfl ⟨_, rfl, ⟨.slice pq7 (L.length + 1) c7, by rw [HQ.out], ?_⟩, ?_⟩
          · rw [HQ.out]
            exact (SliceF.store3 (sliceF_of_own (by rw [List.length_append, ← frCells_snoc]; exact O7.out)) hlt7).mono (by omega)
          · exact (Below.setCell (Below.setCell (Below.setCell (BW.out.trans (A7.mono (by omega))) (Nat.le_succ _) _) (Nat.le_succ _) _) (Nat.le_succ _) _)
  · skip
    dsimp only [q73] at hK ⊢
    go_simp
    (skip)
    try (go_wp2_with fail)
    refine hK.out _ _ ?_ (fun hH1 => ?_)
    · (try dsimp only)
      go_keep
    clear hK K hH0
    try simp only [q73, Act.put, setIfInBounds_toArray, set_cons_zero, set_cons_succ]
    refine wpAnyH_ready (rs := [1]) (by kernel_rfl) (by simp) ?_
    refine AllReadyH.cons (o := q71) rfl (fun K hK => ?_) AllReadyH.nil
    · skip
      dsimp only [q71] at hK ⊢
      go_simp
      (go_at_call 53; refine (KW.out _ ((BW.out.alloc (by omega) _).drew)).mono ?_; rintro e w6 ⟨v6, rfl, ho6, hb6⟩; have C6 : Hid (∀ j u, (frVals ⟨nid, pa, sc, ho, po, pt, sb, false, 0⟩)[j]? = some u → w6.cell? ((⟨W5.heap.size, 0, none⟩ : Addr).add j) = some u) := (fun j u hj => (below_cell9 hb6 j (by simp)).trans (cell_Fr W5 ⟨nid, pa, sc, ho, po, pt, sb, false, 0⟩ 60 j u hj)); have A6 : Below W5.heap.size W5 w6 := (((Below.refl _ _).alloc (Nat.le_refl _) _).drew).trans (hb6.mono (by simp)); have O6 : Hid (w6.ownsRow (W5.heap.size + 1) 60 9 v6 L.length (frCells L)) := (by show World.ownsRow _ _ _ _ _ _ _; simpa using ho6); have hz6 : (W5.heap.size + 1) ≤ w6.heap.size := (by simpa using hb6.size); clear hb6 ho6; have p0 : w6.cell? ⟨ob, 0, none⟩ = some (.int .i64 nid) := ((bcell A6).1 _ _ hob).trans n0; have p1 : w6.cell? ⟨ob, 1, none⟩ = some (.int .i64 pa) := ((bcell A6).1 _ _ hob).trans n1; have p2 : w6.cell? ⟨ob, 2, none⟩ = some (.string sc) := ((bcell A6).1 _ _ hob).trans n2; have p3 : w6.cell? ⟨ob, 3, none⟩ = some (.string ho) := ((bcell A6).1 _ _ hob).trans n3; have p4 : w6.cell? ⟨ob, 4, none⟩ = some (.int .i64 po) := ((bcell A6).1 _ _ hob).trans n4; have p5 : w6.cell? ⟨ob, 5, none⟩ = some (.string pt) := ((bcell A6).1 _ _ hob).trans n5; have p6 : w6.cell? ⟨ob, 6, none⟩ = some (.bool sb) := ((bcell A6).1 _ _ hob).trans n6; have p7 : w6.cell? ⟨ob, 7, none⟩ = some (.bool false) := ((bcell A6).1 _ _ hob).trans n7; have p8 : w6.cell? ⟨ob, 8, none⟩ = some (.int .i64 0) := ((bcell A6).1 _ _ hob).trans n8)
      try (go_wp2_with fail)
      refine hK.out _ _ ?_ (fun hH2 => ?_)
      · (try dsimp only)
        go_keep
      clear hK K hH1
      try simp only [q71, Act.put, setIfInBounds_toArray, set_cons_zero, set_cons_succ]
      refine wpAnyH_ready (rs := [4]) (by kernel_rfl) (by simp) ?_
      refine AllReadyH.cons (o := q74) rfl (fun K hK => ?_) AllReadyH.nil
      · skip
        (rw [if_pos (by rfl)]; dsimp only [q74] at hK ⊢; refine wp_append_own _ _ _ 25 rfl (W5.heap.size + 1) 60 i0 (.agg #[.int .i64 0, .int .i64 0, .string ⟨#[]⟩, .string ⟨#[]⟩, .int .i64 0, .string ⟨#[]⟩, .bool false, .bool false, .int .i64 0]) 9 88 Tryd.underlying25 hi hy0 hy1 hy2 rfl (by decide) _ _ _ (by rfl) O6.out ⟨W5.heap.size, 0, none⟩ 1 1 (frVals ⟨nid, pa, sc, ho, po, pt, sb, false, 0⟩) (by rfl) rfl C6.out (one_Fr ⟨nid, pa, sc, ho, po, pt, sb, false, 0⟩) (by unfold maxLen; omega) (by omega) hz6 ?_; intro v7 w7 ho7 hg7 hn7; have A7 : Below W5.heap.size W5 w7 := A6.grown hg7 (by first | exact A6.size | (simp; omega)) (fun j hj => (by have := own_base O6.out j hj; omega)); have O7 : Hid (w7.ownsRow (W5.heap.size + 1) 60 9 v7 (L.length + 1) (frCells L ++ frVals ⟨nid, pa, sc, ho, po, pt, sb, false, 0⟩)) := ho7; have hlt7 : w.heap.size + 1 < (W5.heap.size + 1) := (by omega); clear ho7 hg7 hn7; have s0 : w7.cell? ⟨ob, 0, none⟩ = some (.int .i64 nid) := ((bcell A7).1 _ _ hob).trans n0; have s1 : w7.cell? ⟨ob, 1, none⟩ = some (.int .i64 pa) := ((bcell A7).1 _ _ hob).trans n1; have s2 : w7.cell? ⟨ob, 2, none⟩ = some (.string sc) := ((bcell A7).1 _ _ hob).trans n2; have s3 : w7.cell? ⟨ob, 3, none⟩ = some (.string ho) := ((bcell A7).1 _ _ hob).trans n3; have s4 : w7.cell? ⟨ob, 4, none⟩ = some (.int .i64 po) := ((bcell A7).1 _ _ hob).trans n4; have s5 : w7.cell? ⟨ob, 5, none⟩ = some (.string pt) := ((bcell A7).1 _ _ hob).trans n5; have s6 : w7.cell? ⟨ob, 6, none⟩ = some (.bool sb) := ((bcell A7).1 _ _ hob).trans n6; have s7 : w7.cell? ⟨ob, 7, none⟩ = some (.bool false) := ((bcell A7).1 _ _ hob).trans n7; have s8 : w7.cell? ⟨ob, 8, none⟩ = some (.int .i64 0) := ((bcell A7).1 _ _ hob).trans n8; have x0 := (XW.out.below A7).at (i := 0) rfl; have xf0 := (XW.out.below A7).free (i := 0) rfl; have x1 := (XW.out.below A7).at (i := 1) rfl; have xf1 := (XW.out.below A7).free (i := 1) rfl; have x2 := (XW.out.below A7).at (i := 2) rfl; have xf2 := (XW.out.below A7).free (i := 2) rfl; obtain ⟨pq7, c7, e7⟩ : ∃ p c, v7 = .slice p (L.length + 1) c := (by obtain ⟨-, p, c, e, -⟩ := sliceF_of_own (L := L ++ [⟨nid, pa, sc, ho, po, pt, sb, false, 0⟩]) (by rw [List.length_append, ← frCells_snoc]; exact O7.out); exact ⟨p, c, by rw [e, List.length_append]; rfl⟩); subst e7)
        refine hK.out _ _ ?_ (fun hH3 => ?_)
        · (try dsimp only)
          go_keep
        clear hK K hH2
        try simp only [Act.put, setIfInBounds_toArray, set_cons_zero, set_cons_succ]
        refine takeY (i := 6) (oi := q76) (v := ?vat5) rfl ?hat5 ?rat5
        case hat5 => (intro w hSw; (try dsimp only [q76] at hSw ⊢); go_simp; try with_reducible rfl)
        try simp only [q76, Act.put, setIfInBounds_toArray, set_cons_zero, set_cons_succ]
        refine wpAnyH_ready (rs := [7]) (by kernel_rfl) (by simp) ?_
        refine AllReadyH.cons (o := q77) rfl (fun K hK => ?_) AllReadyH.nil
        · skip
          dsimp only [q77] at hK ⊢
          go_simp
          (skip)
          try (go_wp2_with fail)
          refine hK.out _ _ ?_ (fun hH4 => ?_)
          · (try dsimp only)
            go_keep
          clear hK K hH3
          try simp only [q77, Act.put, setIfInBounds_toArray, set_cons_zero, set_cons_succ]
          refine wpAnyH_done (by kernel_rfl) ?_ _
          go_wp2
          refine bodyPost_ret (v := .agg #[.slice pq7 (L.length + 1) c7, .int .i64 nid, .int .i64 0]) (by simp [results, Tryd.results18, go_sem, x0, x1, x2]) rfl ⟨_, rfl, ⟨.slice pq7 (L.length + 1) c7, by rw [HQ.out], ?_⟩, ?_⟩
          · rw [HQ.out]
            exact (SliceF.store3 (sliceF_of_own (by rw [List.length_append, ← frCells_snoc]; exact O7.out)) hlt7).mono (by omega)
          · exact (Below.setCell (Below.setCell (Below.setCell (BW.out.trans (A7.mono (by omega))) (Nat.le_succ _) _) (Nat.le_succ _) _) (Nat.le_succ _) _)
end Go.Proofs.YtnpaekjiafaahaaDoor

/- The law FnExactFramesRight, walked. -/
namespace Go.Proofs.YtnpaekjiafaahaaDoor
open Go.RowKit

/-- the texts of frames are no longer than what is asked -/
def szF9 (L : List Fr) : Prop := ∀ i, i < L.length → (atF L i).sc.size + (atF L i).ho.size + (atF L i).pt.size ≤ 1048576
set_option maxRecDepth 10000 in
set_option maxHeartbeats 4000000 in
theorem lawFramesRight_any (a : Option Addr) (cap : Nat) (L : List Fr) (w : World) (hG : MaxI w) (hr : FrRow w a L) (hn : L.length ≤ maxLen) :
    Calls Tryd.prog 3 #[.slice a L.length cap] w fun e w' => e = .returned (.bool true) ∧ Below w.heap.size w w' := by
  have HR : Hid (FrRow w a L) := hr
  have HG : Hid (MaxI w) := hG
  clear hr hG
  go_enter Tryd.func3, Tryd.ntmps3
  go_wp2_with fail
  refine (szFrameS_any a cap L 1048576 _ HR.out hn (by decide) (by decide)).mono ?_
  rintro e w0 ⟨⟨r, rfl, hr⟩, hb0⟩
  have B0 : Hid (Below w.heap.size w w0) := hb0
  clear hb0
  rcases hr with hr | ⟨r0, r1, hl, hf⟩
  · go_wp2
    go_ret
    exact ⟨rfl, B0.out⟩
  have q : decide (r < 0) = false := by rw [decide_eq_false_iff_not]; omega
  have HF : Hid (szF9 L) := hf
  clear hf r0 r1
  go_wp2_with fail
  refine (toFrameS_any a cap L _ (HR.out.below B0.out) hl).mono ?_
  rintro e w1 ⟨v1, rfl, s1, hb1⟩
  have B1 : Hid (Below w.heap.size w w1) := B0.out.trans (hb1.mono B0.out.size)
  have KS : Hid (Calls Tryd.prog 11 #[v1] w1 fun e w' => e = .returned (.bool (framesB L)) ∧ Below w1.heap.size w1 w') := specFrames_any v1 L _ w1 s1 hl
  have KI : Hid (∀ (v : Value) (B : Nat) (W : World), Below w.heap.size w W → SliceF W B v L → Calls Tryd.prog 13 #[v] W fun e w' => e = .returned (.bool (framesB L)) ∧ Below W.heap.size W w') := fun v B W a b => framesRight_any v L B W (HG.out.on a) b hl (fun i hi => by have := HF.out i hi; omega)
  clear s1 hb1 HG HF
  generalize framesB L = d at *
  go_wp2_with fail
  refine KS.out.mono ?_
  rintro e w2 ⟨rfl, hb2⟩
  have B2 : Hid (Below w.heap.size w w2) := B1.out.trans (hb2.mono B1.out.size)
  clear hb2 KS
  go_wp2_with fail
  refine (toFrameS_any a cap L _ (HR.out.below B2.out) hl).mono ?_
  rintro e w4 ⟨v4, rfl, s4, hb4⟩
  have B4 : Hid (Below w.heap.size w w4) := B2.out.trans (hb4.mono B2.out.size)
  have S4 : Hid (SliceF w4 w2.heap.size v4 L) := s4
  clear hb4 s4
  go_wp2_with fail
  refine (KI.out v4 _ w4 B4.out S4.out).mono ?_
  rintro e w5 ⟨rfl, hb5⟩
  have B5 : Hid (Below w.heap.size w w5) := B4.out.trans (hb5.mono B4.out.size)
  have S5 : Hid (SliceF w5 w2.heap.size v4 L) := S4.out.below hb5
  clear hb5
  cases d
  all_goals
    go_wp2_with fail
    refine (toFrameS_any a cap L _ (HR.out.below B5.out) hl).mono ?_
    rintro e w7 ⟨v7, rfl, s7, hb7⟩
    have S7 := S5.out.below hb7
    have B7 : Hid (Below w.heap.size w w7) := B5.out.trans (hb7.mono B5.out.size)
    clear hb7
    go_wp2_with fail
    refine (eqFrameS_any v4 v7 L _ _ _ S7 s7 hl).mono ?_
    rintro e w8 ⟨rfl, hb8⟩
    go_wp2
    go_ret
    exact ⟨rfl, B7.out.trans (hb8.mono B7.out.size)⟩
end Go.Proofs.YtnpaekjiafaahaaDoor

/- The laws' markFrameS and heldFrameS over slices of frames. Written by rowsmark.py. -/
namespace Go.Proofs.YtnpaekjiafaahaaDoor
open Go.RowKit

/-- the mark of a cell, of one whose first number is z -/
def markFrZ (z o : Nat) : Value := if o = 0 then .int .i64 ((z : Int)) else if o = 1 then .int .i64 ((z : Int) + 1) else if o = 2 then .string (markT (z + 2)) else if o = 3 then .string (markT (z + 3)) else if o = 4 then .int .i64 ((z : Int) + 1 + 1 + 1 + 1) else if o = 5 then .string (markT (z + 5)) else if o = 6 then .bool (((z : Int) + 1 + 1 + 1 + 1 + 1 + 1) % 3 == 0) else if o = 7 then .bool (((z : Int) + 1 + 1 + 1 + 1 + 1 + 1 + 1) % 3 == 0) else .int .i64 ((z : Int) + 1 + 1 + 1 + 1 + 1 + 1 + 1 + 1)
def markFrC (q j o : Nat) : Value := markFrZ (q + j * 9) o
def markedF (f : Nat → Nat → Value) (q k j o : Nat) : Value := if j < k then markFrC q j o else f j o
theorem SliceR.atFr {w : World} {B n m g cap : Nat} {f : Nat → Nat → Value} (hs : SliceR w B 9 (.slice (some ⟨g, 0, none⟩) m cap) n f) (k : Nat) (hk : k < n) : ∀ o, o < 9 → w.cell? ⟨g, k * 9 + o, none⟩ = some (f k o) ∧ w.frozen? ⟨g, k * 9 + o, none⟩ = false := by
  obtain ⟨p', cap', e, hh⟩ := hs
  injection e with e1
  obtain ⟨g', e2, -, -, hc⟩ := hh (by omega)
  rw [e2] at e1
  injection e1 with e1
  injection e1 with e1
  subst e1
  exact hc k hk
set_option maxRecDepth 10000 in
set_option maxHeartbeats 8000000 in
theorem markFrameS_any (a : Value) (n B q : Nat) (f : Nat → Nat → Value) (w : World) (ha : SliceR w B 9 a n f) (hn : n ≤ 1048576) (hq : 0 < q) (hq2 : q ≤ 20971520) :
    Calls Tryd.prog 20 #[a, .int .i64 (q : Int)] w fun e w' => e = .returned (.int .i64 ((q + n * 9 : Nat) : Int)) ∧ SliceR w' B 9 a n (markFrC q) ∧ (∀ G, (0 < n → a.ownBlock = some G) → w.grownBy w' (some G)) := by
  have HA : Hid (SliceR w B 9 a n f) := ha
  obtain ⟨p, cap, rfl, h1⟩ := ha
  have HG : Hid (0 < n → ∃ g, p = some ⟨g, 0, none⟩ ∧ B ≤ g ∧ g < w.heap.size) := fun h => by
    obtain ⟨g, e, h2, h3, -⟩ := h1 h
    exact ⟨g, e, h2, h3⟩
  clear h1
  have HM : Hid (∀ (m : Nat) (W : World), 0 < m → m ≤ 9223372036854775807 → Calls Tryd.prog 54 #[.int .i64 (m : Int)] W fun e w' => e = .returned (.string (markT m)) ∧ Below W.heap.size W w') := fun m W h1 h2 => markText_any m W h1 h2
  go_enter Tryd.func20, Tryd.ntmps20
  go_wp2
  go_loopw [1, 5] (fun kk i wr => ∃ k : Nat, k ≤ n ∧ i = .int .i64 k ∧ kk = .int .i64 ((q + k * 9 : Nat) : Int) ∧ Hid (SliceR wr B 9 (.slice p n cap) n (markedF f q k)) ∧ Hid (∀ G, (0 < n → (Value.slice p n cap).ownBlock = some G) → w.grownBy wr (some G))) (fun _ i _ => n - (intOf i).toNat)
  case atStart => exact ⟨0, by omega, rfl, by go_num, HA, fun _ _ => ⟨rfl, rfl, rfl, Nat.le_refl _, fun _ _ _ => rfl⟩⟩
  case round =>
    obtain ⟨k, hk, rfl, rfl, HR, HB⟩ := hrel
    by_cases hlt : k < n
    · obtain ⟨g, rfl, hBg, hgw⟩ := HG.out (by omega)
      have k0 : (0 : Int) ≤ k := by omega
      have k1 : (k : Int) < n := by omega
      have B0 : Hid (w.grownBy wr (some g)) := HB.out g (fun _ => rfl)
      have hzb : q + k * 9 ≤ 50000000 := by omega
      have hz0 : 0 < q + k * 9 := by omega
      have HEnd : Hid (∀ w', SliceR w' B 9 (.slice (some ⟨g, 0, none⟩) n cap) n (fun j o => if j = k then markFrZ (q + k * 9) o else markedF f q k j o) → SliceR w' B 9 (.slice (some ⟨g, 0, none⟩) n cap) n (markedF f q (k + 1))) := fun w' h => SliceR.congr h (fun j hj o ho => by
        unfold markedF markFrC
        by_cases e : j = k
        · subst e; rw [if_pos rfl, if_pos (by omega)]
        · rw [if_neg e]
          by_cases h : j < k
          · rw [if_pos h, if_pos (by omega)]
          · rw [if_neg h, if_neg (by omega)])
      have hnx : ((q + k * 9 : Nat) : Int) + 9 = ((q + (k + 1) * 9 : Nat) : Int) := by omega
      have HNX : Hid (((q + k * 9 : Nat) : Int) + 9 = ((q + (k + 1) * 9 : Nat) : Int)) := hnx
      clear hnx
      generalize markedF f q k = fm at *
      generalize q + k * 9 = zn at *
      have HN2 : Hid (∀ W, Calls Tryd.prog 54 #[.int .i64 ((zn : Int) + 1 + 1)] W fun e w' => e = .returned (.string (markT (zn + 2))) ∧ Below W.heap.size W w') := fun W => by
        have h := HM.out (zn + 2) W (by omega) (by omega)
        have e : ((zn + 2 : Nat) : Int) = (zn : Int) + 1 + 1 := by omega
        rw [e] at h; exact h
      have HN3 : Hid (∀ W, Calls Tryd.prog 54 #[.int .i64 ((zn : Int) + 1 + 1 + 1)] W fun e w' => e = .returned (.string (markT (zn + 3))) ∧ Below W.heap.size W w') := fun W => by
        have h := HM.out (zn + 3) W (by omega) (by omega)
        have e : ((zn + 3 : Nat) : Int) = (zn : Int) + 1 + 1 + 1 := by omega
        rw [e] at h; exact h
      have HN5 : Hid (∀ W, Calls Tryd.prog 54 #[.int .i64 ((zn : Int) + 1 + 1 + 1 + 1 + 1)] W fun e w' => e = .returned (.string (markT (zn + 5))) ∧ Below W.heap.size W w') := fun W => by
        have h := HM.out (zn + 5) W (by omega) (by omega)
        have e : ((zn + 5 : Nat) : Int) = (zn : Int) + 1 + 1 + 1 + 1 + 1 := by omega
        rw [e] at h; exact h
      have X0 : Hid (SliceR wr B 9 (.slice (some ⟨g, 0, none⟩) n cap) n fm) := HR
      clear HM HR HB
      have hx0 := (SliceR.atFr X0.out k hlt 0 (by omega)).1
      have hf0 := (SliceR.atFr X0.out k hlt 0 (by omega)).2
      rw [Nat.add_zero] at hx0 hf0
      generalize fm k 0 = y0 at hx0
      have hx1 := (SliceR.atFr X0.out k hlt 1 (by omega)).1
      have hf1 := (SliceR.atFr X0.out k hlt 1 (by omega)).2
      generalize fm k 1 = y1 at hx1
      go_wp2_with fail
      refine (HN2.out _).mono ?_
      rintro e u1 ⟨rfl, hb1⟩
      have S1 : Hid (SliceR u1 B 9 (.slice (some ⟨g, 0, none⟩) n cap) n (updR (updR fm k 0 (.int .i64 ((zn : Int)))) k 1 (.int .i64 ((zn : Int) + 1)))) := SliceR.below (SliceR.set (SliceR.set (X0.out) k 0 hlt (by omega) (.int .i64 ((zn : Int)))) k 1 hlt (by omega) (.int .i64 ((zn : Int) + 1))) hb1
      have G1 : Hid (w.grownBy u1 (some g)) := grownG_below (grownG_set (grownG_set (B0.out) (k * 9 + 0) (.int .i64 ((zn : Int)))) (k * 9 + 1) (.int .i64 ((zn : Int) + 1))) hb1
      clear hb1 hx0 hf0 hx1 hf1
      have hx2 := (SliceR.atFr S1.out k hlt 2 (by omega)).1
      have hf2 := (SliceR.atFr S1.out k hlt 2 (by omega)).2
      generalize (updR (updR fm k 0 (.int .i64 ((zn : Int)))) k 1 (.int .i64 ((zn : Int) + 1))) k 2 = y2 at hx2
      go_wp2_with fail
      refine (HN3.out _).mono ?_
      rintro e u2 ⟨rfl, hb2⟩
      have S2 : Hid (SliceR u2 B 9 (.slice (some ⟨g, 0, none⟩) n cap) n (updR (updR (updR fm k 0 (.int .i64 ((zn : Int)))) k 1 (.int .i64 ((zn : Int) + 1))) k 2 (.string (markT (zn + 2))))) := SliceR.below (SliceR.set (S1.out) k 2 hlt (by omega) (.string (markT (zn + 2)))) hb2
      have G2 : Hid (w.grownBy u2 (some g)) := grownG_below (grownG_set (G1.out) (k * 9 + 2) (.string (markT (zn + 2)))) hb2
      clear hb2 hx2 hf2
      have hx3 := (SliceR.atFr S2.out k hlt 3 (by omega)).1
      have hf3 := (SliceR.atFr S2.out k hlt 3 (by omega)).2
      generalize (updR (updR (updR fm k 0 (.int .i64 ((zn : Int)))) k 1 (.int .i64 ((zn : Int) + 1))) k 2 (.string (markT (zn + 2)))) k 3 = y3 at hx3
      have hx4 := (SliceR.atFr S2.out k hlt 4 (by omega)).1
      have hf4 := (SliceR.atFr S2.out k hlt 4 (by omega)).2
      generalize (updR (updR (updR fm k 0 (.int .i64 ((zn : Int)))) k 1 (.int .i64 ((zn : Int) + 1))) k 2 (.string (markT (zn + 2)))) k 4 = y4 at hx4
      go_wp2_with fail
      refine (HN5.out _).mono ?_
      rintro e u3 ⟨rfl, hb3⟩
      have S3 : Hid (SliceR u3 B 9 (.slice (some ⟨g, 0, none⟩) n cap) n (updR (updR (updR (updR (updR fm k 0 (.int .i64 ((zn : Int)))) k 1 (.int .i64 ((zn : Int) + 1))) k 2 (.string (markT (zn + 2)))) k 3 (.string (markT (zn + 3)))) k 4 (.int .i64 ((zn : Int) + 1 + 1 + 1 + 1)))) := SliceR.below (SliceR.set (SliceR.set (S2.out) k 3 hlt (by omega) (.string (markT (zn + 3)))) k 4 hlt (by omega) (.int .i64 ((zn : Int) + 1 + 1 + 1 + 1))) hb3
      have G3 : Hid (w.grownBy u3 (some g)) := grownG_below (grownG_set (grownG_set (G2.out) (k * 9 + 3) (.string (markT (zn + 3)))) (k * 9 + 4) (.int .i64 ((zn : Int) + 1 + 1 + 1 + 1))) hb3
      clear hb3 hx3 hf3 hx4 hf4
      have hx5 := (SliceR.atFr S3.out k hlt 5 (by omega)).1
      have hf5 := (SliceR.atFr S3.out k hlt 5 (by omega)).2
      generalize (updR (updR (updR (updR (updR fm k 0 (.int .i64 ((zn : Int)))) k 1 (.int .i64 ((zn : Int) + 1))) k 2 (.string (markT (zn + 2)))) k 3 (.string (markT (zn + 3)))) k 4 (.int .i64 ((zn : Int) + 1 + 1 + 1 + 1))) k 5 = y5 at hx5
      have hx6 := (SliceR.atFr S3.out k hlt 6 (by omega)).1
      have hf6 := (SliceR.atFr S3.out k hlt 6 (by omega)).2
      generalize (updR (updR (updR (updR (updR fm k 0 (.int .i64 ((zn : Int)))) k 1 (.int .i64 ((zn : Int) + 1))) k 2 (.string (markT (zn + 2)))) k 3 (.string (markT (zn + 3)))) k 4 (.int .i64 ((zn : Int) + 1 + 1 + 1 + 1))) k 6 = y6 at hx6
      have hx7 := (SliceR.atFr S3.out k hlt 7 (by omega)).1
      have hf7 := (SliceR.atFr S3.out k hlt 7 (by omega)).2
      generalize (updR (updR (updR (updR (updR fm k 0 (.int .i64 ((zn : Int)))) k 1 (.int .i64 ((zn : Int) + 1))) k 2 (.string (markT (zn + 2)))) k 3 (.string (markT (zn + 3)))) k 4 (.int .i64 ((zn : Int) + 1 + 1 + 1 + 1))) k 7 = y7 at hx7
      have hx8 := (SliceR.atFr S3.out k hlt 8 (by omega)).1
      have hf8 := (SliceR.atFr S3.out k hlt 8 (by omega)).2
      generalize (updR (updR (updR (updR (updR fm k 0 (.int .i64 ((zn : Int)))) k 1 (.int .i64 ((zn : Int) + 1))) k 2 (.string (markT (zn + 2)))) k 3 (.string (markT (zn + 3)))) k 4 (.int .i64 ((zn : Int) + 1 + 1 + 1 + 1))) k 8 = y8 at hx8
      go_wp2
      go_roundw
      case rel =>
        refine ⟨k + 1, by omega, by go_num, val_int (by have := HNX.out; omega), ?_, ?_⟩
        · refine HEnd.out _ (SliceR.congr (SliceR.set (SliceR.set (SliceR.set (SliceR.set (S3.out) k 5 hlt (by omega) (.string (markT (zn + 5)))) k 6 hlt (by omega) (.bool (((zn : Int) + 1 + 1 + 1 + 1 + 1 + 1) % 3 == 0))) k 7 hlt (by omega) (.bool (((zn : Int) + 1 + 1 + 1 + 1 + 1 + 1 + 1) % 3 == 0))) k 8 hlt (by omega) (.int .i64 ((zn : Int) + 1 + 1 + 1 + 1 + 1 + 1 + 1 + 1))) (fun j hj o ho => ?_))
          by_cases e : j = k
          · subst e
            rw [if_pos rfl]
            match o, ho with
            | 0, _ => simp [updR, markFrZ]
            | 1, _ => simp [updR, markFrZ]
            | 2, _ => simp [updR, markFrZ]
            | 3, _ => simp [updR, markFrZ]
            | 4, _ => simp [updR, markFrZ]
            | 5, _ => simp [updR, markFrZ]
            | 6, _ => simp [updR, markFrZ]
            | 7, _ => simp [updR, markFrZ]
            | 8, _ => simp [updR, markFrZ]
          · simp [updR, e]
        · intro G hG
          obtain rfl : g = G := Option.some.inj (hG (by omega))
          exact grownG_set (grownG_set (grownG_set (grownG_set (G3.out) (k * 9 + 5) (.string (markT (zn + 5)))) (k * 9 + 6) (.bool (((zn : Int) + 1 + 1 + 1 + 1 + 1 + 1) % 3 == 0))) (k * 9 + 7) (.bool (((zn : Int) + 1 + 1 + 1 + 1 + 1 + 1 + 1) % 3 == 0))) (k * 9 + 8) (.int .i64 ((zn : Int) + 1 + 1 + 1 + 1 + 1 + 1 + 1 + 1))
      case measure => simp [intOf]; omega
    · obtain rfl : k = n := by omega
      have HS : Hid (SliceR wr B 9 (.slice p k cap) k (markFrC q)) := SliceR.congr HR.out (fun j hj o ho => by unfold markedF; rw [if_pos hj])
      go_wp2
      go_ret
      exact ⟨rfl, HS.out, HB.out⟩
set_option maxRecDepth 10000 in
set_option maxHeartbeats 8000000 in
theorem heldFrameS_any (a : Value) (n B q : Nat) (w : World) (ha : SliceR w B 9 a n (markFrC q)) (hn : n ≤ 1048576) (hq : 0 < q) (hq2 : q ≤ 20971520) :
    Calls Tryd.prog 55 #[a, .int .i64 (q : Int)] w fun e w' => e = .returned (.int .i64 ((q + n * 9 : Nat) : Int)) ∧ Below w.heap.size w w' := by
  obtain ⟨p, cap, rfl, h1⟩ := ha
  have HG : Hid (0 < n → ∃ g, p = some ⟨g, 0, none⟩ ∧ B ≤ g ∧ g < w.heap.size ∧ ∀ j, j < n → ∀ o, o < 9 → w.cell? ⟨g, j * 9 + o, none⟩ = some (markFrC q j o) ∧ w.frozen? ⟨g, j * 9 + o, none⟩ = false) := h1
  clear h1
  have HM : Hid (∀ (m : Nat) (W : World), 0 < m → m ≤ 9223372036854775807 → Calls Tryd.prog 54 #[.int .i64 (m : Int)] W fun e w' => e = .returned (.string (markT m)) ∧ Below W.heap.size W w') := fun m W h1 h2 => markText_any m W h1 h2
  go_enter Tryd.func55, Tryd.ntmps55
  go_wp2
  go_loopw [1, 4, 5] (fun kk r i wr => ∃ k : Nat, k ≤ n ∧ i = .int .i64 k ∧ kk = .int .i64 ((q + k * 9 : Nat) : Int) ∧ Hid (Below w.heap.size w wr)) (fun _ _ i _ => n - (intOf i).toNat)
  case atStart => exact ⟨0, by omega, rfl, by go_num, Below.refl _ _⟩
  case round =>
    obtain ⟨k, hk, rfl, rfl, HB⟩ := hrel
    by_cases hlt : k < n
    · obtain ⟨g, rfl, -, hg, hc⟩ := HG.out (by omega)
      have k0 : (0 : Int) ≤ k := by omega
      have k1 : (k : Int) < n := by omega
      have hgr : g < wr.heap.size := Nat.lt_of_lt_of_le hg HB.out.size
      have hzb : q + k * 9 ≤ 50000000 := by omega
      have hz0 : 0 < q + k * 9 := by omega
      have hx : ∀ o, o < 9 → wr.cell? ⟨g, k * 9 + o, none⟩ = some (markFrZ (q + k * 9) o) := fun o ho => by rw [(bcell HB.out).1 _ _ hg]; exact (hc k hlt o ho).1
      have HNX : Hid (((q + k * 9 : Nat) : Int) + 9 = ((q + (k + 1) * 9 : Nat) : Int)) := by show _ = _; omega
      clear hc
      generalize q + k * 9 = zn at *
      have c0 : wr.cell? ⟨g, k * 9, none⟩ = some (.int .i64 ((zn : Int))) := hx 0 (by omega)
      have c1 : wr.cell? ⟨g, k * 9 + 1, none⟩ = some (.int .i64 ((zn : Int) + 1)) := hx 1 (by omega)
      have c2 : wr.cell? ⟨g, k * 9 + 2, none⟩ = some (.string (markT (zn + 2))) := hx 2 (by omega)
      have c3 : wr.cell? ⟨g, k * 9 + 3, none⟩ = some (.string (markT (zn + 3))) := hx 3 (by omega)
      have c4 : wr.cell? ⟨g, k * 9 + 4, none⟩ = some (.int .i64 ((zn : Int) + 1 + 1 + 1 + 1)) := hx 4 (by omega)
      have c5 : wr.cell? ⟨g, k * 9 + 5, none⟩ = some (.string (markT (zn + 5))) := hx 5 (by omega)
      have c6 : wr.cell? ⟨g, k * 9 + 6, none⟩ = some (.bool (((zn : Int) + 1 + 1 + 1 + 1 + 1 + 1) % 3 == 0)) := hx 6 (by omega)
      have c7 : wr.cell? ⟨g, k * 9 + 7, none⟩ = some (.bool (((zn : Int) + 1 + 1 + 1 + 1 + 1 + 1 + 1) % 3 == 0)) := hx 7 (by omega)
      have c8 : wr.cell? ⟨g, k * 9 + 8, none⟩ = some (.int .i64 ((zn : Int) + 1 + 1 + 1 + 1 + 1 + 1 + 1 + 1)) := hx 8 (by omega)
      have HN2 : Hid (∀ W, Calls Tryd.prog 54 #[.int .i64 ((zn : Int) + 1 + 1)] W fun e w' => e = .returned (.string (markT (zn + 2))) ∧ Below W.heap.size W w') := fun W => by
        have h := HM.out (zn + 2) W (by omega) (by omega)
        have e : ((zn + 2 : Nat) : Int) = (zn : Int) + 1 + 1 := by omega
        rw [e] at h; exact h
      have HN3 : Hid (∀ W, Calls Tryd.prog 54 #[.int .i64 ((zn : Int) + 1 + 1 + 1)] W fun e w' => e = .returned (.string (markT (zn + 3))) ∧ Below W.heap.size W w') := fun W => by
        have h := HM.out (zn + 3) W (by omega) (by omega)
        have e : ((zn + 3 : Nat) : Int) = (zn : Int) + 1 + 1 + 1 := by omega
        rw [e] at h; exact h
      have HN5 : Hid (∀ W, Calls Tryd.prog 54 #[.int .i64 ((zn : Int) + 1 + 1 + 1 + 1 + 1)] W fun e w' => e = .returned (.string (markT (zn + 5))) ∧ Below W.heap.size W w') := fun W => by
        have h := HM.out (zn + 5) W (by omega) (by omega)
        have e : ((zn + 5 : Nat) : Int) = (zn : Int) + 1 + 1 + 1 + 1 + 1 := by omega
        rw [e] at h; exact h
      generalize markT (zn + 2) = t2 at *
      generalize markT (zn + 3) = t3 at *
      generalize markT (zn + 5) = t5 at *
      clear hx HM
      go_wp2_with fail
      go_region_held3 (fun w' => w'.cell? ⟨g, k * 9 + 2, none⟩ = some (.string t2) ∧ w'.cell? ⟨g, k * 9 + 3, none⟩ = some (.string t3) ∧ w'.cell? ⟨g, k * 9 + 4, none⟩ = some (.int .i64 ((zn : Int) + 1 + 1 + 1 + 1)) ∧ w'.cell? ⟨g, k * 9 + 5, none⟩ = some (.string t5) ∧ w'.cell? ⟨g, k * 9 + 6, none⟩ = some (.bool (((zn : Int) + 1 + 1 + 1 + 1 + 1 + 1) % 3 == 0)) ∧ w'.cell? ⟨g, k * 9 + 7, none⟩ = some (.bool (((zn : Int) + 1 + 1 + 1 + 1 + 1 + 1 + 1) % 3 == 0)) ∧ w'.cell? ⟨g, k * 9 + 8, none⟩ = some (.int .i64 ((zn : Int) + 1 + 1 + 1 + 1 + 1 + 1 + 1 + 1))) (go_keep)
        (first | (go_at_call 54; refine (HN2.out _).mono ?_; rintro e u1 ⟨rfl, hb1⟩; have A1 : Below wr.heap.size wr u1 := (Below.drew (Below.refl _ _)).trans hb1; have g1 : g < u1.heap.size := Nat.lt_of_lt_of_le hgr A1.size; have E1 : Hid (Below w.heap.size w u1) := HB.out.trans (A1.mono HB.out.size); have d1_2 : u1.cell? ⟨g, k * 9 + 2, none⟩ = some (.string t2) := ((bcell A1).1 _ _ hgr).trans c2; have d1_3 : u1.cell? ⟨g, k * 9 + 3, none⟩ = some (.string t3) := ((bcell A1).1 _ _ hgr).trans c3; have d1_4 : u1.cell? ⟨g, k * 9 + 4, none⟩ = some (.int .i64 ((zn : Int) + 1 + 1 + 1 + 1)) := ((bcell A1).1 _ _ hgr).trans c4; have d1_5 : u1.cell? ⟨g, k * 9 + 5, none⟩ = some (.string t5) := ((bcell A1).1 _ _ hgr).trans c5; have d1_6 : u1.cell? ⟨g, k * 9 + 6, none⟩ = some (.bool (((zn : Int) + 1 + 1 + 1 + 1 + 1 + 1) % 3 == 0)) := ((bcell A1).1 _ _ hgr).trans c6; have d1_7 : u1.cell? ⟨g, k * 9 + 7, none⟩ = some (.bool (((zn : Int) + 1 + 1 + 1 + 1 + 1 + 1 + 1) % 3 == 0)) := ((bcell A1).1 _ _ hgr).trans c7; have d1_8 : u1.cell? ⟨g, k * 9 + 8, none⟩ = some (.int .i64 ((zn : Int) + 1 + 1 + 1 + 1 + 1 + 1 + 1 + 1)) := ((bcell A1).1 _ _ hgr).trans c8))
      clear hb1 A1 c0 c1 c2 c3 c4 c5 c6 c7 c8
      go_wp2_with fail
      go_region_held3 (fun w' => w'.cell? ⟨g, k * 9 + 3, none⟩ = some (.string t3) ∧ w'.cell? ⟨g, k * 9 + 4, none⟩ = some (.int .i64 ((zn : Int) + 1 + 1 + 1 + 1)) ∧ w'.cell? ⟨g, k * 9 + 5, none⟩ = some (.string t5) ∧ w'.cell? ⟨g, k * 9 + 6, none⟩ = some (.bool (((zn : Int) + 1 + 1 + 1 + 1 + 1 + 1) % 3 == 0)) ∧ w'.cell? ⟨g, k * 9 + 7, none⟩ = some (.bool (((zn : Int) + 1 + 1 + 1 + 1 + 1 + 1 + 1) % 3 == 0)) ∧ w'.cell? ⟨g, k * 9 + 8, none⟩ = some (.int .i64 ((zn : Int) + 1 + 1 + 1 + 1 + 1 + 1 + 1 + 1))) (go_keep)
        (first | (go_at_call 54; refine (HN3.out _).mono ?_; rintro e u2 ⟨rfl, hb2⟩; have A2 : Below u1.heap.size u1 u2 := (Below.drew (Below.refl _ _)).trans hb2; have g2 : g < u2.heap.size := Nat.lt_of_lt_of_le g1 A2.size; have E2 : Hid (Below w.heap.size w u2) := E1.out.trans (A2.mono E1.out.size); have d2_3 : u2.cell? ⟨g, k * 9 + 3, none⟩ = some (.string t3) := ((bcell A2).1 _ _ g1).trans d1_3; have d2_4 : u2.cell? ⟨g, k * 9 + 4, none⟩ = some (.int .i64 ((zn : Int) + 1 + 1 + 1 + 1)) := ((bcell A2).1 _ _ g1).trans d1_4; have d2_5 : u2.cell? ⟨g, k * 9 + 5, none⟩ = some (.string t5) := ((bcell A2).1 _ _ g1).trans d1_5; have d2_6 : u2.cell? ⟨g, k * 9 + 6, none⟩ = some (.bool (((zn : Int) + 1 + 1 + 1 + 1 + 1 + 1) % 3 == 0)) := ((bcell A2).1 _ _ g1).trans d1_6; have d2_7 : u2.cell? ⟨g, k * 9 + 7, none⟩ = some (.bool (((zn : Int) + 1 + 1 + 1 + 1 + 1 + 1 + 1) % 3 == 0)) := ((bcell A2).1 _ _ g1).trans d1_7; have d2_8 : u2.cell? ⟨g, k * 9 + 8, none⟩ = some (.int .i64 ((zn : Int) + 1 + 1 + 1 + 1 + 1 + 1 + 1 + 1)) := ((bcell A2).1 _ _ g1).trans d1_8))
      clear hb2 A2 d1_2 d1_3 d1_4 d1_5 d1_6 d1_7 d1_8
      go_wp2_with fail
      go_region_held3 (fun w' => w'.cell? ⟨g, k * 9 + 5, none⟩ = some (.string t5) ∧ w'.cell? ⟨g, k * 9 + 6, none⟩ = some (.bool (((zn : Int) + 1 + 1 + 1 + 1 + 1 + 1) % 3 == 0)) ∧ w'.cell? ⟨g, k * 9 + 7, none⟩ = some (.bool (((zn : Int) + 1 + 1 + 1 + 1 + 1 + 1 + 1) % 3 == 0)) ∧ w'.cell? ⟨g, k * 9 + 8, none⟩ = some (.int .i64 ((zn : Int) + 1 + 1 + 1 + 1 + 1 + 1 + 1 + 1))) (go_keep)
        (first | (go_at_call 54; refine (HN5.out _).mono ?_; rintro e u3 ⟨rfl, hb3⟩; have A3 : Below u2.heap.size u2 u3 := (Below.drew (Below.refl _ _)).trans hb3; have g3 : g < u3.heap.size := Nat.lt_of_lt_of_le g2 A3.size; have E3 : Hid (Below w.heap.size w u3) := E2.out.trans (A3.mono E2.out.size); have d3_5 : u3.cell? ⟨g, k * 9 + 5, none⟩ = some (.string t5) := ((bcell A3).1 _ _ g2).trans d2_5; have d3_6 : u3.cell? ⟨g, k * 9 + 6, none⟩ = some (.bool (((zn : Int) + 1 + 1 + 1 + 1 + 1 + 1) % 3 == 0)) := ((bcell A3).1 _ _ g2).trans d2_6; have d3_7 : u3.cell? ⟨g, k * 9 + 7, none⟩ = some (.bool (((zn : Int) + 1 + 1 + 1 + 1 + 1 + 1 + 1) % 3 == 0)) := ((bcell A3).1 _ _ g2).trans d2_7; have d3_8 : u3.cell? ⟨g, k * 9 + 8, none⟩ = some (.int .i64 ((zn : Int) + 1 + 1 + 1 + 1 + 1 + 1 + 1 + 1)) := ((bcell A3).1 _ _ g2).trans d2_8))
      clear hb3 A3 d2_3 d2_4 d2_5 d2_6 d2_7 d2_8
      go_wp2
      go_roundw
      case rel => exact ⟨k + 1, by omega, by go_num, val_int (by have := HNX.out; omega), E3⟩
      case measure => simp [intOf]; omega
    · obtain rfl : k = n := by omega
      go_wp2
      go_ret
      exact ⟨rfl, HB.out⟩
end Go.Proofs.YtnpaekjiafaahaaDoor

/- Slices of structs while others are marked. -/
namespace Go.Proofs.YtnpaekjiafaahaaDoor
open Go.RowKit

theorem SliceR.place {w : World} {B sz n : Nat} {v : Value} {f : Nat → Nat → Value} (h : SliceR w B sz v n f) : 0 < n → ∃ g, v.ownBlock = some g ∧ B ≤ g ∧ g < w.heap.size := by
  obtain ⟨p, cap, rfl, h⟩ := h
  intro hn
  obtain ⟨g, rfl, hB, hg, -⟩ := h hn
  exact ⟨g, rfl, hB, hg⟩
theorem SliceR.keepG {w w' : World} {B sz n G : Nat} {v : Value} {f : Nat → Nat → Value} (h : SliceR w B sz v n f) (hg : w.grownBy w' (some G)) (hne : 0 < n → ∃ g, v.ownBlock = some g ∧ g ≠ G) : SliceR w' B sz v n f := by
  obtain ⟨p, cap, rfl, h⟩ := h
  refine ⟨p, cap, rfl, fun hn => ?_⟩
  obtain ⟨g, rfl, hB, hgw, hc⟩ := h hn
  obtain ⟨g', e, hn'⟩ := hne hn
  obtain rfl : g = g' := Option.some.inj e
  have hb : w'.heap[g]? = w.heap[g]? := hg.block g hgw (fun e => hn' (Option.some.inj e))
  refine ⟨g, rfl, hB, Nat.lt_of_lt_of_le hgw hg.size, fun j hj o ho => ⟨?_, ?_⟩⟩
  · rw [World.cell?_of_block (a := ⟨g, j * sz + o, none⟩) hb]; exact (hc j hj o ho).1
  · rw [World.frozen?_of_block (a := ⟨g, j * sz + o, none⟩) hb]; exact (hc j hj o ho).2
end Go.Proofs.YtnpaekjiafaahaaDoor

/- Slices of frames while others are marked. -/
namespace Go.Proofs.YtnpaekjiafaahaaDoor
open Go.RowKit

theorem SliceF.keepG {w w' : World} {B G : Nat} {v : Value} {L : List Fr} (h : SliceF w B v L) (hg : w.grownBy w' (some G)) (hne : 0 < L.length → ∃ g, v.ownBlock = some g ∧ g ≠ G) : SliceF w' B v L := ⟨h.1.keepG hg hne, h.2⟩
theorem markF_call (a : Value) (L : List Fr) (B : Nat) (w : World) (ha : SliceF w B a L) (hB : B ≤ w.heap.size) (hn : L.length ≤ 1048576) :
    Calls Tryd.prog 20 #[a, .int .i64 1] w fun e w' => e = .returned (.int .i64 ((1 + L.length * 9 : Nat) : Int)) ∧ SliceR w' B 9 a L.length (markFrC 1) ∧ ∃ G, B ≤ G ∧ (0 < L.length → a.ownBlock = some G) ∧ (¬ 0 < L.length → w.heap.size ≤ G) ∧ w.grownBy w' (some G) := by
  refine (markFrameS_any a L.length B 1 _ w ha.1 hn (by decide) (by decide)).mono ?_
  rintro e w' ⟨rfl, h2, h3⟩
  refine ⟨rfl, h2, ?_⟩
  by_cases h0 : 0 < L.length
  · obtain ⟨g, e, hBg, -⟩ := ha.1.place h0
    exact ⟨g, hBg, fun _ => e, fun h => absurd h0 h, h3 g (fun _ => e)⟩
  · exact ⟨w.heap.size, hB, fun h => absurd h h0, fun _ => Nat.le_refl _, h3 _ (fun h => absurd h h0)⟩
end Go.Proofs.YtnpaekjiafaahaaDoor

/- The laws' eqFramesOut, markFramesOut, heldFramesOut; an answer in its box. -/
namespace Go.Proofs.YtnpaekjiafaahaaDoor
open Go.RowKit

set_option maxRecDepth 10000 in
set_option maxHeartbeats 4000000 in
theorem eqFO_any (a b : Value) (Z : FO) (B B' : Nat) (w : World) (ha : SliceF w B a Z.ar) (hb : SliceF w B' b Z.ar) (hn : Z.ar.length ≤ 1048576) :
    Calls Tryd.prog 19 #[.agg #[a, .int .i64 Z.id, .int .i64 Z.co], .agg #[b, .int .i64 Z.id, .int .i64 Z.co]] w fun e w' => e = .returned (.bool true) ∧ Below w.heap.size w w' := by
  have KE : Hid (∀ W, Below w.heap.size w W → Calls Tryd.prog 14 #[a, b] W fun e w' => e = .returned (.bool true) ∧ Below W.heap.size W w') := fun W h => eqFrameS_any a b Z.ar B B' W (ha.below h) (hb.below h) hn
  obtain ⟨p, ca, hva⟩ : ∃ p ca, a = .slice p Z.ar.length ca := by obtain ⟨⟨p, cap, e, -⟩, -⟩ := ha; exact ⟨p, cap, e⟩
  obtain ⟨q, cb, hvb⟩ : ∃ q cb, b = .slice q Z.ar.length cb := by obtain ⟨⟨p, cap, e, -⟩, -⟩ := hb; exact ⟨p, cap, e⟩
  clear ha hb
  generalize Z.ar.length = m at *
  obtain ⟨za, zv, zc⟩ := Z
  dsimp only at *
  subst hva hvb
  obtain ⟨W0, hW⟩ : ∃ W0, W0 = (w.alloc (.cells #[.slice p m ca, .int .i64 zv, .int .i64 zc] 33)).alloc (.cells #[.slice q m cb, .int .i64 zv, .int .i64 zc] 33) := ⟨_, rfl⟩
  have hW0 : Hid (W0 = (w.alloc (.cells #[.slice p m ca, .int .i64 zv, .int .i64 zc] 33)).alloc (.cells #[.slice q m cb, .int .i64 zv, .int .i64 zc] 33)) := hW
  have B0 : Hid (Below w.heap.size w W0) := by
    show Below _ _ _
    rw [hW]; exact ((Below.refl _ _).alloc (Nat.le_refl _) _).alloc (by simp) _
  have c0 : W0.cell? ⟨w.heap.size, 0, none⟩ = some (.slice p m ca) := by rw [hW]; simp
  have c1 : W0.cell? ⟨w.heap.size, 1, none⟩ = some (.int .i64 zv) := by rw [hW]; simp
  have c2 : W0.cell? ⟨w.heap.size, 2, none⟩ = some (.int .i64 zc) := by rw [hW]; simp
  have d0 : W0.cell? ⟨w.heap.size + 1, 0, none⟩ = some (.slice q m cb) := by rw [hW]; exact (World.cell?_alloc_at _ _ _ _ (by simp)).trans rfl
  have d1 : W0.cell? ⟨w.heap.size + 1, 1, none⟩ = some (.int .i64 zv) := by rw [hW]; exact (World.cell?_alloc_at _ _ _ _ (by simp)).trans rfl
  have d2 : W0.cell? ⟨w.heap.size + 1, 2, none⟩ = some (.int .i64 zc) := by rw [hW]; exact (World.cell?_alloc_at _ _ _ _ (by simp)).trans rfl
  have z1 : w.heap.size + 1 < W0.heap.size := by rw [hW]; simp
  clear hW
  go_enter Tryd.func19, Tryd.ntmps19
  go_upto_region 1 with fail
  rw [← hW0.out]
  clear hW0
  generalize hbb : w.heap.size = b at *
  have z0 : b < W0.heap.size := by omega
  go_wp2_with fail
  refine (KE.out _ B0.out).mono ?_
  rintro e w1 ⟨rfl, hb1⟩
  have e1 : w1.cell? ⟨b, 1, none⟩ = some (.int .i64 zv) := ((bcell hb1).1 _ _ z0).trans c1
  have e2 : w1.cell? ⟨b, 2, none⟩ = some (.int .i64 zc) := ((bcell hb1).1 _ _ z0).trans c2
  have f1 : w1.cell? ⟨b + 1, 1, none⟩ = some (.int .i64 zv) := ((bcell hb1).1 _ _ z1).trans d1
  have f2 : w1.cell? ⟨b + 1, 2, none⟩ = some (.int .i64 zc) := ((bcell hb1).1 _ _ z1).trans d2
  have B1 : Hid (Below b w w1) := B0.out.trans (hb1.mono (by omega))
  clear hb1
  go_wp2
  go_ret
  exact ⟨rfl, by rw [hbb]; exact B1.out⟩
set_option maxRecDepth 10000 in
set_option maxHeartbeats 4000000 in
theorem markFO_call (a : Value) (zv : Int) (zc : Int) (L : List Fr) (B : Nat) (w : World) (ha : SliceF w B a L) (hB : B ≤ w.heap.size) (hn : L.length ≤ 1048576) :
    Calls Tryd.prog 21 #[.agg #[a, .int .i64 zv, .int .i64 zc], .int .i64 1] w fun e w' => e = .returned (.int .i64 ((1 + L.length * 9 : Nat) : Int)) ∧ SliceR w' B 9 a L.length (markFrC 1) ∧ ∃ G, B ≤ G ∧ (0 < L.length → a.ownBlock = some G) ∧ (¬ 0 < L.length → w.heap.size ≤ G) ∧ w.grownBy w' (some G) := by
  obtain ⟨p, ca, hva⟩ : ∃ p ca, a = .slice p L.length ca := by obtain ⟨⟨p, cap, e, -⟩, -⟩ := ha; exact ⟨p, cap, e⟩
  have KM : Hid (∀ W, Below w.heap.size w W → Calls Tryd.prog 20 #[a, .int .i64 1] W fun e w' => e = .returned (.int .i64 ((1 + L.length * 9 : Nat) : Int)) ∧ SliceR w' B 9 a L.length (markFrC 1) ∧ ∃ G, B ≤ G ∧ (0 < L.length → a.ownBlock = some G) ∧ (¬ 0 < L.length → W.heap.size ≤ G) ∧ W.grownBy w' (some G)) := fun W hb => markF_call a L B W (ha.below hb) (Nat.le_trans hB hb.size) hn
  clear ha
  have hq : Hid (((1 + L.length * 9 : Nat) : Int) = ((1 + L.length * 9 : Nat) : Int)) := rfl
  generalize hm : ((1 + L.length * 9 : Nat) : Int) = mq at *
  subst hva
  go_enter Tryd.func21, Tryd.ntmps21
  go_wp2_with fail
  refine (KM.out _ ((Below.refl _ _).alloc (Nat.le_refl _) _)).mono ?_
  rintro e w1 ⟨rfl, hr, G, h1, h2, h3, hg⟩
  have HF : Hid (SliceR w1 B 9 (.slice p L.length ca) L.length (markFrC 1) ∧ ∃ G, B ≤ G ∧ (0 < L.length → (Value.slice p L.length ca).ownBlock = some G) ∧ (¬ 0 < L.length → w.heap.size ≤ G) ∧ w.grownBy w1 (some G)) := ⟨hr, G, h1, h2, fun h => Nat.le_trans (by simp) (h3 h), (World.grownBy_alloc w _ (some G)).andThen hg (fun j hj => .inr hj)⟩
  clear hr h1 h2 h3 hg
  go_wp2
  go_ret
  exact ⟨rfl, HF.out⟩
set_option maxRecDepth 10000 in
set_option maxHeartbeats 4000000 in
theorem heldFO_any (a : Value) (zv : Int) (zc : Int) (n B : Nat) (w : World) (ha : SliceR w B 9 a n (markFrC 1)) (hn : n ≤ 1048576) :
    Calls Tryd.prog 22 #[.agg #[a, .int .i64 zv, .int .i64 zc], .int .i64 1] w fun e w' => e = .returned (.int .i64 ((1 + n * 9 : Nat) : Int)) ∧ Below w.heap.size w w' := by
  obtain ⟨p, ca, hva⟩ : ∃ p ca, a = .slice p n ca := by obtain ⟨p, cap, e, -⟩ := ha; exact ⟨p, cap, e⟩
  have KM : Hid (∀ W, Below w.heap.size w W → Calls Tryd.prog 55 #[a, .int .i64 1] W fun e w' => e = .returned (.int .i64 ((1 + n * 9 : Nat) : Int)) ∧ Below W.heap.size W w') := fun W hb => heldFrameS_any a n B 1 W (SliceR.below ha hb) hn (by decide) (by decide)
  clear ha
  have hm1 : decide ((((1 + n * 9 : Nat) : Int)) < 0) = false := by rw [decide_eq_false_iff_not]; omega
  generalize hm : ((1 + n * 9 : Nat) : Int) = mq at *
  subst hva
  go_enter Tryd.func22, Tryd.ntmps22
  go_wp2_with fail
  refine (KM.out _ ((Below.refl _ _).alloc (Nat.le_refl _) _)).mono ?_
  rintro e w1 ⟨rfl, hb⟩
  have HF : Hid (Below w.heap.size w w1) := ((Below.refl _ _).alloc (Nat.le_refl _) _).trans (hb.mono (by simp))
  clear hb
  go_wp2
  go_ret
  exact ⟨rfl, HF.out⟩
/-- an answer lies in its box -/
def InBoxF (W : World) (b : Nat) (s : Value) (Z : FO) : Prop := W.cell? ⟨b, 0, none⟩ = some s ∧ W.cell? ⟨b, 1, none⟩ = some (.int .i64 Z.id) ∧ W.cell? ⟨b, 2, none⟩ = some (.int .i64 Z.co) ∧ b < W.heap.size
theorem InBoxF.below {W W' : World} {b : Nat} {s : Value} {Z : FO} (h : InBoxF W b s Z) (hb : Below W.heap.size W W') : InBoxF W' b s Z :=
  ⟨((bcell hb).1 _ _ h.2.2.2).trans h.1, ((bcell hb).1 _ _ h.2.2.2).trans h.2.1, ((bcell hb).1 _ _ h.2.2.2).trans h.2.2.1, Nat.lt_of_lt_of_le h.2.2.2 hb.size⟩
theorem InBoxF.grown {W W' : World} {b G : Nat} {s : Value} {Z : FO} (h : InBoxF W b s Z) (hg : W.grownBy W' (some G)) (hne : b ≠ G) : InBoxF W' b s Z := by
  have hb : W'.heap[b]? = W.heap[b]? := hg.block b h.2.2.2 (fun e => hne (Option.some.inj e))
  exact ⟨(World.cell?_of_block (a := ⟨b, 0, none⟩) hb).trans h.1, (World.cell?_of_block (a := ⟨b, 1, none⟩) hb).trans h.2.1, (World.cell?_of_block (a := ⟨b, 2, none⟩) hb).trans h.2.2.1, Nat.lt_of_lt_of_le h.2.2.2 hg.size⟩
theorem inBoxF_made (W : World) (s : Value) (Z : FO) (t : TypeId) : InBoxF (W.alloc (.cells #[s, .int .i64 Z.id, .int .i64 Z.co] t)) W.heap.size s Z := ⟨by simp, by simp, by simp, by simp⟩
end Go.Proofs.YtnpaekjiafaahaaDoor
