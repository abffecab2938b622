/- The walk of the program's inOrder, at grants. Written by implgorder.py. -/
import Derived.Test.YtehnklgpdjfcgaaImplLeave
import Derived.Test.YtehnklgpdjfcgaaGrantOwn
import Derived.Test.YtehnklgpdjfcgaaOwnBase
import Derived.Test.YtehnklgpdjfcgaaPlacedG
import Derived.Test.YtehnklgpdjfcgaaAppendCut
import Derived.Deep.RegionHeld3
import Derived.Deep.DeepCutAuto
namespace Go.Proofs.Ytehnklgpdjfcgaa
open Go.RowKit

theorem grCells_app (A B : List Gr) : grCells (A ++ B) = grCells A ++ grCells B := by
  induction A with
  | nil => rfl
  | cons a A ih => simp only [List.cons_append, grCells, ih, List.append_assoc]
theorem one_grCells : ∀ M : List Gr, ∀ v ∈ grCells M, v.oneCell' = true
  | [], v, h => by cases h
  | c :: M, v, h => by
    rw [grCells, List.mem_append] at h
    rcases h with h | h
    · exact one_Gr c v h
    · exact one_grCells M v h
theorem grCells_part {w : World} {g : Nat} {L : List Gr} (hc : ∀ j, j < L.length → ∀ o, o < 3 → w.cell? ⟨g, j * 3 + o, none⟩ = some (grC (atG L j) o)) (a : Nat) (M : List Gr) (hM : ∀ j, j < M.length → atG M j = atG L (a + j) ∧ a + j < L.length) :
    ∀ j u, (grCells M)[j]? = some u → w.cell? ((⟨g, a * 3, none⟩ : Addr).add j) = some u := by
  intro j u h
  have hlt : j < M.length * 3 := by
    have := (List.getElem?_eq_some_iff.1 h).1
    rw [grCells_len] at this; exact this
  have e1 : (⟨g, a * 3, none⟩ : Addr).add j = ⟨g, a * 3 + j, none⟩ := by unfold Addr.add; split <;> simp_all
  obtain ⟨h1, h2⟩ := hM (j / 3) (by omega)
  have h3 := grCells_at M (j / 3) (by omega) (j % 3) (Nat.mod_lt _ (by decide))
  rw [show j / 3 * 3 + j % 3 = j by omega, h] at h3
  rw [e1, show a * 3 + j = (a + j / 3) * 3 + j % 3 by omega, hc _ h2 _ (Nat.mod_lt _ (by decide)), ← h1]
  exact h3.symm
theorem atG_left {H T : List Gr} {j : Nat} (h : j < H.length) : atG (H ++ T) j = atG H j := by simp [atG, List.getD_eq_getElem?_getD, List.getElem?_append_left h]
theorem atG_right (H T : List Gr) (j : Nat) : atG (H ++ T) (H.length + j) = atG T j := by simp [atG, List.getD_eq_getElem?_getD, List.getElem?_append_right]
theorem atG_in {L : List Gr} {j : Nat} (h : j < L.length) : atG L j ∈ L := by simp [atG, h]
set_option maxRecDepth 10000 in
set_option maxHeartbeats 16000000 in
theorem orderG_any (H T : List Gr) (x : Gr) (v : Value) (B : Nat) (w : World) (hv : PlacedG v) (hs : SliceG w B v (H ++ T)) (hn : (H ++ T).length ≤ 100) (hH : ∀ d, d ∈ H → ordG d x ≤ 0) (hT : ∀ d, d ∈ T → 0 < ordG d x) :
    Calls Try.prog 55 #[v, grV x, .func (.func 56) #[] #[]] w fun e w' => ∃ v', e = .returned v' ∧ SliceG w' w.heap.size v' (H ++ x :: T) ∧ Below w.heap.size w w' := by
  have KN : Hid (∀ j W, Calls Try.prog 56 #[grV (atG (H ++ T) j), grV x] W fun e w' => e = .returned (.int .i64 (ordG (atG (H ++ T) j) x)) ∧ Below W.heap.size W w') := fun j W => grantOrder_any (atG (H ++ T) j) x W
  obtain ⟨i0, hi, hy0, hy1, hy2⟩ := info_parts infoGrant
  have HLo : Hid (∀ j, j < H.length → ordG (atG (H ++ T) j) x ≤ 0) := fun j hj => by rw [atG_left hj]; exact hH _ (atG_in hj)
  have HHi : Hid (∀ j, H.length ≤ j → j < (H ++ T).length → 0 < ordG (atG (H ++ T) j) x) := fun j h1 h2 => by
    obtain ⟨i, rfl⟩ : ∃ i, j = H.length + i := ⟨j - H.length, by omega⟩
    rw [atG_right]
    exact hT _ (atG_in (by rw [List.length_append] at h2; omega))
  have HOP : Hid (∀ (W : World) (B : Nat) (v : Value), w.heap.size ≤ B → W.ownsRow B 62 3 v (H.length + 1 + ((H ++ T).length - H.length)) (grCells H ++ (grVals x ++ grCells T)) → SliceG W w.heap.size v (H ++ x :: T)) := fun W B v hb h => by
    have e : grCells (H ++ x :: T) = grCells H ++ (grVals x ++ grCells T) := by rw [grCells_app]; rfl
    refine SliceG.mono (sliceG_of_own (t := 62) ?_) hb
    rw [e, List.length_append, List.length_cons, show H.length + (T.length + 1) = H.length + 1 + ((H ++ T).length - H.length) by rw [List.length_append]; omega]
    exact h
  have HB0 : Hid (∀ o, Below w.heap.size w (w.alloc o)) := fun o => (Below.refl _ _).alloc (Nat.le_refl _) _
  obtain ⟨W0, hW⟩ : ∃ W0, W0 = w.alloc (.cells #[.string x.tp, .string x.si, .int .i64 x.un] 62) := ⟨_, rfl⟩
  have hW0 : Hid (W0 = w.alloc (.cells #[.string x.tp, .string x.si, .int .i64 x.un] 62)) := hW
  have B0 : Hid (Below w.heap.size w W0) := by show Below _ _ _; rw [hW]; exact (Below.refl _ _).alloc (Nat.le_refl _) _
  have s0 : W0.cell? ⟨w.heap.size, 0, none⟩ = some (.string x.tp) := by rw [hW]; simp
  have s1 : W0.cell? ⟨w.heap.size, 1, none⟩ = some (.string x.si) := by rw [hW]; simp
  have s2 : W0.cell? ⟨w.heap.size, 2, none⟩ = some (.int .i64 x.un) := by rw [hW]; simp
  have z0 : w.heap.size < W0.heap.size := by rw [hW]; simp
  clear hW HB0
  have hM0 : v = .slice none 0 0 → (H ++ T).length = 0 := fun e => by
    obtain ⟨⟨p, cap, e2, -⟩, -⟩ := hs
    rw [e] at e2
    injection e2 with _ e3
    omega
  rcases hv with rfl | hv
  · have hM := hM0 rfl
    obtain ⟨rfl, rfl⟩ : H = [] ∧ T = [] := by
      rw [List.length_append] at hM
      exact ⟨List.length_eq_zero_iff.1 (by omega), List.length_eq_zero_iff.1 (by omega)⟩
    have HOP2 : Hid (∀ (W : World) (B : Nat) (v : Value), w.heap.size ≤ B → W.ownsRow B 62 3 v 1 (grVals x) → SliceG W w.heap.size v ([] ++ x :: [])) := fun W B v hb h => HOP.out W B v hb (by
      have e : grCells [] = [] := rfl
      simpa [e] using h)
    clear hs hH hT HOP HLo HHi KN hM hM0
    obtain ⟨tp, si, un⟩ := x
    unfold grV at *
    dsimp only at *
    go_enter Try.func55, Try.ntmps55
    go_upto_region 1 with fail
    rw [← hW0.out]
    clear hW0
    go_wp2
    go_loopw [7] (fun i wr => i = .int .i64 0 ∧ Hid (Below W0.heap.size W0 wr)) (fun _ _ => 0)
    case atStart => exact ⟨rfl, Below.refl _ _⟩
    case round =>
      obtain ⟨rfl, HB⟩ := hrel
      have BR : Hid (Below w.heap.size w wr) := B0.out.trans (HB.out.mono B0.out.size)
      have BC : Hid (Below w.heap.size w wr.drew) := BR.out.drew
      have hxc : w.heap.size < wr.drew.heap.size := Nat.lt_of_lt_of_le z0 HB.out.size
      have xc0 : wr.drew.cell? ⟨w.heap.size, 0, none⟩ = some (.string tp) := ((bcell HB.out).1 _ _ z0).trans s0
      have xc1 : wr.drew.cell? ⟨w.heap.size, 1, none⟩ = some (.string si) := ((bcell HB.out).1 _ _ z0).trans s1
      have xc2 : wr.drew.cell? ⟨w.heap.size, 2, none⟩ = some (.int .i64 un) := ((bcell HB.out).1 _ _ z0).trans s2
      go_upto_region 2 with fail
      refine wp_region_held_drew (S := (fun w' => w'.cell? ⟨w.heap.size, 0, none⟩ = some (.string tp) ∧ w'.cell? ⟨w.heap.size, 1, none⟩ = some (.string si) ∧ w'.cell? ⟨w.heap.size, 2, none⟩ = some (.int .i64 un))) (by kernel_rfl) ?_ (fun hH0 => ?_)
      · (try dsimp only)
        go_keep
      refine wpAnyH_take (i := 0) (oi := { dst := some 10, op := Op.move (Operand.tmp 7), type := 3, pos := "l06_jar.go:259", after := #[], guard := none }) (v := ?va0) rfl (by kernel_rfl) (by kernel_rfl) (by kernel_rfl) (fun _ _ _ h => h) (Or.inl ⟨by rfl, ?hya0⟩) (by assumption) ?resta0
      case hya0 =>
        intro w hSw
        (try dsimp only at hSw)
        go_simp
        try with_reducible rfl
      try simp only [Act.put, List.setIfInBounds_toArray, List.set_cons_zero, List.set_cons_succ]
      refine wpAnyH_take (i := 1) (oi := { dst := some 11, op := Op.binOp BinOp.gtr 3 (Operand.tmp 10) (Operand.const (Value.int IntKind.i64 0)) 3, type := 4, pos := "l06_jar.go:259", after := #[{ on := 0, ground := Ground.data }], guard := none }) (v := ?va1) rfl (by kernel_rfl) (by kernel_rfl) (by kernel_rfl) (fun _ _ _ h => h) (Or.inl ⟨by rfl, ?hya1⟩) (by assumption) ?resta1
      case hya1 =>
        intro w hSw
        (try dsimp only at hSw)
        go_simp
        try with_reducible rfl
      try simp only [Act.put, List.setIfInBounds_toArray, List.set_cons_zero, List.set_cons_succ]
      refine wpAnyH_take (i := 2) (oi := { dst := some 12, op := Op.move (Operand.tmp 11), type := 4, pos := "l06_jar.go:259", after := #[{ on := 1, ground := Ground.data }], guard := none }) (v := ?va2) rfl (by kernel_rfl) (by kernel_rfl) (by kernel_rfl) (fun _ _ _ h => h) (Or.inl ⟨by rfl, ?hya2⟩) (by assumption) ?resta2
      case hya2 =>
        intro w hSw
        (try dsimp only at hSw)
        go_simp
        try with_reducible rfl
      try simp only [Act.put, List.setIfInBounds_toArray, List.set_cons_zero, List.set_cons_succ]
      refine wpAnyH_take (i := 3) (oi := { dst := some 13, op := Op.move (Operand.tmp 2), type := 77, pos := "l06_jar.go:259", after := #[{ on := 2, ground := Ground.guard }], guard := some (2, true) }) (v := undef) rfl (by kernel_rfl) (by kernel_rfl) (by kernel_rfl) (fun _ _ _ h => h) (Or.inr ⟨by rfl, rfl⟩) (by assumption) ?_
      try simp only [Act.put, List.setIfInBounds_toArray, List.set_cons_zero, List.set_cons_succ]
      refine wpAnyH_take (i := 4) (oi := { dst := some 14, op := Op.move (Operand.tmp 0), type := 24, pos := "l06_jar.go:259", after := #[{ on := 2, ground := Ground.guard }], guard := some (2, true) }) (v := undef) rfl (by kernel_rfl) (by kernel_rfl) (by kernel_rfl) (fun _ _ _ h => h) (Or.inr ⟨by rfl, rfl⟩) (by assumption) ?_
      try simp only [Act.put, List.setIfInBounds_toArray, List.set_cons_zero, List.set_cons_succ]
      refine wpAnyH_take (i := 5) (oi := { dst := some 15, op := Op.move (Operand.tmp 7), type := 3, pos := "l06_jar.go:259", after := #[{ on := 2, ground := Ground.guard }], guard := some (2, true) }) (v := undef) rfl (by kernel_rfl) (by kernel_rfl) (by kernel_rfl) (fun _ _ _ h => h) (Or.inr ⟨by rfl, rfl⟩) (by assumption) ?_
      try simp only [Act.put, List.setIfInBounds_toArray, List.set_cons_zero, List.set_cons_succ]
      refine wpAnyH_take (i := 6) (oi := { dst := some 16, op := Op.binOp BinOp.sub 3 (Operand.tmp 15) (Operand.const (Value.int IntKind.i64 1)) 3, type := 3, pos := "l06_jar.go:259", after := #[{ on := 5, ground := Ground.data }, { on := 2, ground := Ground.guard }], guard := some (2, true) }) (v := undef) rfl (by kernel_rfl) (by kernel_rfl) (by kernel_rfl) (fun _ _ _ h => h) (Or.inr ⟨by rfl, rfl⟩) (by assumption) ?_
      try simp only [Act.put, List.setIfInBounds_toArray, List.set_cons_zero, List.set_cons_succ]
      refine wpAnyH_take (i := 7) (oi := { dst := some 17, op := Op.indexAddr 24 (Operand.tmp 14) (Operand.tmp 16), type := 0, pos := "l06_jar.go:259", after := #[{ on := 4, ground := Ground.data }, { on := 6, ground := Ground.data }, { on := 2, ground := Ground.guard }], guard := some (2, true) }) (v := undef) rfl (by kernel_rfl) (by kernel_rfl) (by kernel_rfl) (fun _ _ _ h => h) (Or.inr ⟨by rfl, rfl⟩) (by assumption) ?_
      try simp only [Act.put, List.setIfInBounds_toArray, List.set_cons_zero, List.set_cons_succ]
      refine wpAnyH_take (i := 8) (oi := { dst := some 18, op := Op.load 62 (Operand.tmp 17), type := 62, pos := "l06_jar.go:259", after := #[{ on := 7, ground := Ground.data }, { on := 2, ground := Ground.guard }], guard := some (2, true) }) (v := undef) rfl (by kernel_rfl) (by kernel_rfl) (by kernel_rfl) (fun _ _ _ h => h) (Or.inr ⟨by rfl, rfl⟩) (by assumption) ?_
      try simp only [Act.put, List.setIfInBounds_toArray, List.set_cons_zero, List.set_cons_succ]
      refine wpAnyH_take (i := 9) (oi := { dst := some 19, op := Op.load 62 (Operand.tmp 4), type := 62, pos := "l06_jar.go:259", after := #[{ on := 2, ground := Ground.guard }], guard := some (2, true) }) (v := undef) rfl (by kernel_rfl) (by kernel_rfl) (by kernel_rfl) (fun _ _ _ h => h) (Or.inr ⟨by rfl, rfl⟩) (by assumption) ?_
      try simp only [Act.put, List.setIfInBounds_toArray, List.set_cons_zero, List.set_cons_succ]
      refine wpAnyH_take (i := 10) (oi := { dst := some 20, op := Op.call { callee := Callee.value (Operand.tmp 13), args := #[Operand.tmp 18, Operand.tmp 19], argTypes := #[62, 62] }, type := 3, pos := "l06_jar.go:259", after := #[{ on := 3, ground := Ground.data }, { on := 8, ground := Ground.data }, { on := 9, ground := Ground.data }, { on := 2, ground := Ground.chain }, { on := 2, ground := Ground.guard }], guard := some (2, true) }) (v := undef) rfl (by kernel_rfl) (by kernel_rfl) (by kernel_rfl) (fun _ _ _ h => h) (Or.inr ⟨by rfl, rfl⟩) (by assumption) ?_
      try simp only [Act.put, List.setIfInBounds_toArray, List.set_cons_zero, List.set_cons_succ]
      refine wpAnyH_take (i := 11) (oi := { dst := some 21, op := Op.binOp BinOp.gtr 3 (Operand.tmp 20) (Operand.const (Value.int IntKind.i64 0)) 3, type := 4, pos := "l06_jar.go:259", after := #[{ on := 10, ground := Ground.data }, { on := 2, ground := Ground.guard }], guard := some (2, true) }) (v := undef) rfl (by kernel_rfl) (by kernel_rfl) (by kernel_rfl) (fun _ _ _ h => h) (Or.inr ⟨by rfl, rfl⟩) (by assumption) ?_
      try simp only [Act.put, List.setIfInBounds_toArray, List.set_cons_zero, List.set_cons_succ]
      refine wpAnyH_take (i := 12) (oi := { dst := some 22, op := Op.pick (Operand.tmp 12) (Operand.tmp 21) (Operand.const (Value.bool false)), type := 4, pos := "l06_jar.go:259", after := #[{ on := 2, ground := Ground.data }, { on := 11, ground := Ground.data }], guard := none }) (v := ?va12) rfl (by kernel_rfl) (by kernel_rfl) (by kernel_rfl) (fun _ _ _ h => h) (Or.inl ⟨by rfl, ?hya12⟩) (by assumption) ?resta12
      case hya12 =>
        intro w hSw
        (try dsimp only at hSw)
        go_simp
        try with_reducible rfl
      try simp only [Act.put, List.setIfInBounds_toArray, List.set_cons_zero, List.set_cons_succ]
      refine wpAnyH_done (by kernel_rfl) ?_ _
      generalize hwc : wr.drew = Wc at *
      clear hwc
      go_upto_region 4 with fail
      refine wp_region_held_drew (S := (fun w' => w'.cell? ⟨w.heap.size, 0, none⟩ = some (.string tp) ∧ w'.cell? ⟨w.heap.size, 1, none⟩ = some (.string si) ∧ w'.cell? ⟨w.heap.size, 2, none⟩ = some (.int .i64 un))) (by kernel_rfl) ?_ (fun hH0 => ?_)
      · (try dsimp only)
        go_keep
      refine wpAnyH_take (i := 0) (oi := { dst := some 25, op := Op.move (Operand.tmp 0), type := 24, pos := "l06_jar.go:264", after := #[], guard := none }) (v := ?vb0) rfl (by kernel_rfl) (by kernel_rfl) (by kernel_rfl) (fun _ _ _ h => h) (Or.inl ⟨by rfl, ?hyb0⟩) (by assumption) ?restb0
      case hyb0 =>
        intro w hSw
        (try dsimp only at hSw)
        go_simp
        try with_reducible rfl
      try simp only [Act.put, List.setIfInBounds_toArray, List.set_cons_zero, List.set_cons_succ]
      refine wpAnyH_take (i := 1) (oi := { dst := some 26, op := Op.move (Operand.tmp 7), type := 3, pos := "l06_jar.go:264", after := #[], guard := none }) (v := ?vb1) rfl (by kernel_rfl) (by kernel_rfl) (by kernel_rfl) (fun _ _ _ h => h) (Or.inl ⟨by rfl, ?hyb1⟩) (by assumption) ?restb1
      case hyb1 =>
        intro w hSw
        (try dsimp only at hSw)
        go_simp
        try with_reducible rfl
      try simp only [Act.put, List.setIfInBounds_toArray, List.set_cons_zero, List.set_cons_succ]
      refine wpAnyH_take (i := 2) (oi := { dst := some 27, op := Op.move (Operand.tmp 7), type := 3, pos := "l06_jar.go:264", after := #[], guard := none }) (v := ?vb2) rfl (by kernel_rfl) (by kernel_rfl) (by kernel_rfl) (fun _ _ _ h => h) (Or.inl ⟨by rfl, ?hyb2⟩) (by assumption) ?restb2
      case hyb2 =>
        intro w hSw
        (try dsimp only at hSw)
        go_simp
        try with_reducible rfl
      try simp only [Act.put, List.setIfInBounds_toArray, List.set_cons_zero, List.set_cons_succ]
      refine wpAnyH_take (i := 3) (oi := { dst := some 28, op := Op.slice 24 (Operand.tmp 25) none (some (Operand.tmp 26)) (some (Operand.tmp 27)), type := 24, pos := "l06_jar.go:264", after := #[{ on := 0, ground := Ground.data }, { on := 1, ground := Ground.data }, { on := 2, ground := Ground.data }], guard := none }) (v := ?vb3) rfl (by kernel_rfl) (by kernel_rfl) (by kernel_rfl) (fun _ _ _ h => h) (Or.inl ⟨by rfl, ?hyb3⟩) (by assumption) ?restb3
      case hyb3 =>
        intro w hSw
        (try dsimp only at hSw)
        go_simp
        try with_reducible rfl
      try simp only [Act.put, List.setIfInBounds_toArray, List.set_cons_zero, List.set_cons_succ]
      refine wpAnyH_take (i := 4) (oi := { dst := some 29, op := Op.load 62 (Operand.tmp 4), type := 62, pos := "l06_jar.go:264", after := #[], guard := none }) (v := ?vb4) rfl (by kernel_rfl) (by kernel_rfl) (by kernel_rfl) (fun _ _ _ h => h) (Or.inl ⟨by rfl, ?hyb4⟩) (by assumption) ?restb4
      case hyb4 =>
        intro w hSw
        (try dsimp only at hSw)
        go_simp
        try with_reducible rfl
      try simp only [Act.put, List.setIfInBounds_toArray, List.set_cons_zero, List.set_cons_succ]
      refine wpAnyH_take (i := 7) (oi := { dst := some 32, op := Op.move (Operand.tmp 0), type := 24, pos := "l06_jar.go:264", after := #[], guard := none }) (v := ?vb7) rfl (by kernel_rfl) (by kernel_rfl) (by kernel_rfl) (fun _ _ _ h => h) (Or.inl ⟨by rfl, ?hyb7⟩) (by assumption) ?restb7
      case hyb7 =>
        intro w hSw
        (try dsimp only at hSw)
        go_simp
        try with_reducible rfl
      try simp only [Act.put, List.setIfInBounds_toArray, List.set_cons_zero, List.set_cons_succ]
      refine wpAnyH_take (i := 8) (oi := { dst := some 33, op := Op.move (Operand.tmp 7), type := 3, pos := "l06_jar.go:264", after := #[], guard := none }) (v := ?vb8) rfl (by kernel_rfl) (by kernel_rfl) (by kernel_rfl) (fun _ _ _ h => h) (Or.inl ⟨by rfl, ?hyb8⟩) (by assumption) ?restb8
      case hyb8 =>
        intro w hSw
        (try dsimp only at hSw)
        go_simp
        try with_reducible rfl
      try simp only [Act.put, List.setIfInBounds_toArray, List.set_cons_zero, List.set_cons_succ]
      refine wpAnyH_take (i := 9) (oi := { dst := some 34, op := Op.slice 24 (Operand.tmp 32) (some (Operand.tmp 33)) none none, type := 24, pos := "l06_jar.go:264", after := #[{ on := 7, ground := Ground.data }, { on := 8, ground := Ground.data }], guard := none }) (v := ?vb9) rfl (by kernel_rfl) (by kernel_rfl) (by kernel_rfl) (fun _ _ _ h => h) (Or.inl ⟨by rfl, ?hyb9⟩) (by assumption) ?restb9
      case hyb9 =>
        intro w hSw
        (try dsimp only at hSw)
        go_simp
        try with_reducible rfl
      try simp only [Act.put, List.setIfInBounds_toArray, List.set_cons_zero, List.set_cons_succ]
      refine wpAnyH_ready (rs := [5]) (by kernel_rfl) (by simp) ?_
      refine AllReadyH.cons (o := { dst := some 30, op := Op.buildSlice 24 1 #[(0, Operand.tmp 29)], type := 24, pos := "l06_jar.go:264", after := #[{ on := 4, ground := Ground.data }], guard := none }) rfl (fun K hK => ?_) AllReadyH.nil
      go_simp
      (skip)
      try (go_wp2_with fail)
      refine hK.out _ _ ?_ (fun hH1 => ?_)
      · (try dsimp only)
        first | go_keep | (refine ⟨?_, ?_, ?_⟩ <;> assumption)
      clear hK K hH0
      try simp only [Act.put, List.setIfInBounds_toArray, List.set_cons_zero, List.set_cons_succ]
      refine wpAnyH_ready (rs := [6]) (by kernel_rfl) (by simp) ?_
      refine AllReadyH.cons (o := { dst := some 31, op := Op.call { callee := Callee.builtin Builtin.append, args := #[Operand.tmp 28, Operand.tmp 30], argTypes := #[24, 24] }, type := 24, pos := "l06_jar.go:264", after := #[{ on := 3, ground := Ground.data }, { on := 5, ground := Ground.data }], guard := none }) rfl (fun K hK => ?_) AllReadyH.nil
      (rw [if_pos (by rfl)]; refine wp_append_own _ _ _ 24 rfl Wc.heap.size 62 i0 (.agg #[.string ⟨#[]⟩, .string ⟨#[]⟩, .int .i64 0]) 3 40 Try.underlying24 hi hy0 hy1 hy2 rfl (by decide) _ _ _ (by rfl) (World.ownsRow_nil _ _ _ _) ⟨Wc.heap.size, 0, none⟩ 1 1 (grVals ⟨tp, si, un⟩) (by rfl) rfl (World.news_of_block (cs := #[.string tp, .string si, .int .i64 un]) (t := 62) (fr := (0, 0)) (heap_alloc_new Wc.drew _)) (one_Gr ⟨tp, si, un⟩) (by unfold maxLen; omega) (by omega) (by simp) ?_; intro v6 w6 ho6 hg6 hn6; have A6 : Below Wc.heap.size Wc w6 := ((Below.refl _ _).drew.alloc (by simp) _).grown hg6 (by simp) (fun j hj => by cases hj); have O6 : Hid (World.ownsRow w6 Wc.heap.size 62 3 v6 _ _) := ho6; have p0 : w6.cell? ⟨w.heap.size, 0, none⟩ = some (.string tp) := ((bcell A6).1 _ _ hxc).trans xc0; have p1 : w6.cell? ⟨w.heap.size, 1, none⟩ = some (.string si) := ((bcell A6).1 _ _ hxc).trans xc1; have p2 : w6.cell? ⟨w.heap.size, 2, none⟩ = some (.int .i64 un) := ((bcell A6).1 _ _ hxc).trans xc2; clear ho6 hg6 hn6)
      refine hK.out _ _ ?_ (fun hH2 => ?_)
      · (try dsimp only)
        first | go_keep | (refine ⟨?_, ?_, ?_⟩ <;> assumption)
      clear hK K hH1
      try simp only [Act.put, List.setIfInBounds_toArray, List.set_cons_zero, List.set_cons_succ]
      refine wpAnyH_ready (rs := [10]) (by kernel_rfl) (by simp) ?_
      refine AllReadyH.cons (o := { dst := some 35, op := Op.call { callee := Callee.builtin Builtin.append, args := #[Operand.tmp 31, Operand.tmp 34], argTypes := #[24, 24] }, type := 24, pos := "l06_jar.go:264", after := #[{ on := 6, ground := Ground.data }, { on := 9, ground := Ground.data }, { on := 6, ground := Ground.chain }], guard := none }) rfl (fun K hK => ?_) AllReadyH.nil
      (rw [if_pos (by rfl)]; refine wp_append_nil _ _ 24 rfl Wc.heap.size 62 i0 3 Try.underlying24 hi _ _ _ (by rfl) O6.out (by rfl) ?_)
      refine hK.out _ _ ?_ (fun hH3 => ?_)
      · (try dsimp only)
        first | go_keep | (refine ⟨?_, ?_, ?_⟩ <;> assumption)
      clear hK K hH2
      try simp only [Act.put, List.setIfInBounds_toArray, List.set_cons_zero, List.set_cons_succ]
      refine wpAnyH_take (i := 11) (oi := { dst := some 6, op := Op.assign (Operand.tmp 35), type := 24, pos := "l06_jar.go:264", after := #[{ on := 10, ground := Ground.data }, { on := 10, ground := Ground.chain }, { on := 0, ground := Ground.phase }, { on := 1, ground := Ground.phase }, { on := 2, ground := Ground.phase }, { on := 3, ground := Ground.phase }, { on := 4, ground := Ground.phase }, { on := 5, ground := Ground.phase }, { on := 6, ground := Ground.phase }, { on := 7, ground := Ground.phase }, { on := 8, ground := Ground.phase }, { on := 9, ground := Ground.phase }, { on := 10, ground := Ground.phase }], guard := none }) (v := ?vb11) rfl (by kernel_rfl) (by kernel_rfl) (by kernel_rfl) (fun _ _ _ h => h) (Or.inl ⟨by rfl, ?hyb11⟩) (by assumption) ?restb11
      case hyb11 =>
        intro w hSw
        (try dsimp only at hSw)
        go_simp
        try with_reducible rfl
      try simp only [Act.put, List.setIfInBounds_toArray, List.set_cons_zero, List.set_cons_succ]
      refine wpAnyH_done (by kernel_rfl) ?_ _
      all_goals go_wp2
      have SF : Hid (SliceG w6 w.heap.size v6 ([] ++ (⟨tp, si, un⟩ : Gr) :: [])) := HOP2.out _ _ _ BC.out.size (by have h := O6.out; simpa using h)
      have BF : Hid (Below w.heap.size w w6) := BC.out.trans (A6.mono BC.out.size)
      go_ret
      exact ⟨_, rfl, SF.out, BF.out⟩
  · obtain ⟨g, mm, cap, rfl, hcap0⟩ := hv
    obtain ⟨⟨q, cap', e1, hg⟩, q2, c2, e2, hcap, -⟩ := hs
    injection e1 with e1 e1m e1c
    injection e2 with e2a _ e2c
    subst e1 e1m e1c e2a e2c
    have hgc : 0 < (H ++ T).length → g < w.heap.size ∧ ∀ j, j < (H ++ T).length → ∀ o, o < 3 → w.cell? ⟨g, j * 3 + o, none⟩ = some (grC (atG (H ++ T) j) o) := fun h0 => by
      obtain ⟨g', e, -, h1, h2⟩ := hg h0
      injection e with e
      injection e with e
      subst e
      exact ⟨h1, fun j hj o ho => (h2 j hj o ho).1⟩
    clear hg hH hT hM0
    have hHl : H.length ≤ (H ++ T).length := by rw [List.length_append]; omega
    have hcU : ∀ W, Below w.heap.size w W → ∀ j, j < (H ++ T).length → ∀ o, o < 3 → W.cell? ⟨g, j * 3 + o, none⟩ = some (grC (atG (H ++ T) j) o) := fun W hb j hj o ho => ((bcell hb).1 _ _ (hgc (by omega)).1).trans ((hgc (by omega)).2 j hj o ho)
    have HcU : Hid (∀ W, Below w.heap.size w W → ∀ j, j < (H ++ T).length → ∀ o, o < 3 → W.cell? ⟨g, j * 3 + o, none⟩ = some (grC (atG (H ++ T) j) o)) := hcU
    have HC1 : Hid (∀ W, Below w.heap.size w W → ∀ j u, (grCells H)[j]? = some u → W.cell? ((⟨g, 0, none⟩ : Addr).add j) = some u) := fun W hb => by
      have := grCells_part (hcU W hb) 0 H (fun j hj => ⟨by rw [Nat.zero_add, atG_left hj], by omega⟩)
      simpa using this
    have HC2 : Hid (∀ W, Below w.heap.size w W → ∀ j u, (grCells T)[j]? = some u → W.cell? ((⟨g, H.length * 3, none⟩ : Addr).add j) = some u) := fun W hb => grCells_part (hcU W hb) H.length T (fun j hj => ⟨(atG_right H T j).symm, by rw [List.length_append]; omega⟩)
    have hl1 : (grCells H).length = H.length * 3 := grCells_len H
    have hl2 : (grCells T).length = ((H ++ T).length - H.length) * 3 := by rw [grCells_len, List.length_append]; congr 1; omega
    have o1 : ∀ v ∈ grCells H, v.oneCell' = true := one_grCells _
    have o2 : ∀ v ∈ grCells T, v.oneCell' = true := one_grCells _
    have hgw : 0 < (H ++ T).length → g < w.heap.size := fun h => (hgc h).1
    clear hcU hgc
    generalize grCells H = C1 at *
    generalize grCells T = C2 at *
    generalize hMg : H ++ T = M at *
    generalize hhl : H.length = h at *
    clear hMg hhl
    obtain ⟨tp, si, un⟩ := x
    unfold grV at *
    dsimp only at *
    go_enter Try.func55, Try.ntmps55
    go_upto_region 1 with fail
    rw [← hW0.out]
    clear hW0
    go_wp2
    go_loopw [7] (fun i wr => ∃ k : Nat, h ≤ k ∧ k ≤ M.length ∧ i = .int .i64 k ∧ Hid (Below W0.heap.size W0 wr)) (fun i _ => (intOf i).toNat)
    case atStart => exact ⟨M.length, hHl, Nat.le_refl _, rfl, Below.refl _ _⟩
    case round =>
      obtain ⟨k, hhk, hk, rfl, HB⟩ := hrel
      have hxr : w.heap.size < wr.heap.size := Nat.lt_of_lt_of_le z0 HB.out.size
      have x0 := ((bcell HB.out).1 _ _ z0).trans s0
      have x1 := ((bcell HB.out).1 _ _ z0).trans s1
      have x2 := ((bcell HB.out).1 _ _ z0).trans s2
      have BR : Hid (Below w.heap.size w wr) := B0.out.trans (HB.out.mono B0.out.size)
      by_cases hk0 : 0 < k
      · obtain ⟨j, rfl⟩ : ∃ j, k = j + 1 := ⟨k - 1, by omega⟩
        have hgr : g < wr.heap.size := by have := hgw (by omega); omega
        have c0 : wr.cell? ⟨g, j * 3, none⟩ = some (.string (atG M j).tp) := HcU.out _ BR.out j (by omega) 0 (by omega)
        have c1 : wr.cell? ⟨g, j * 3 + 1, none⟩ = some (.string (atG M j).si) := HcU.out _ BR.out j (by omega) 1 (by omega)
        have c2 : wr.cell? ⟨g, j * 3 + 2, none⟩ = some (.int .i64 (atG M j).un) := HcU.out _ BR.out j (by omega) 2 (by omega)
        have KN1 := KN.out j
        have hj0 : (0 : Int) ≤ j := by omega
        have hj1 : (j : Int) < M.length := by omega
        have hjp : decide ((0 : Int) < ((j + 1 : Nat) : Int)) = true := by rw [decide_eq_true_iff]; omega
        have hsub : IntKind.i64.wrap (((j + 1 : Nat) : Int) - 1) = (j : Int) := by rw [IntKind.wrap_i64]; omega
        have hsub3 : IntKind.i64.wrap (j : Int) = (j : Int) := by rw [IntKind.wrap_i64]; omega
        have hsub2 : IntKind.i64.wrap (((j : Int) + 1) - 1) = (j : Int) := by rw [IntKind.wrap_i64]; omega
        have hLo := HLo.out j
        have hHi := HHi.out j
        generalize ordG (atG M j) ⟨tp, si, un⟩ = near at *
        generalize atG M j = y at *
        obtain ⟨tp', si', un'⟩ := y
        dsimp only at *
        have KN1 : Hid (∀ W, Calls Try.prog 56 #[.agg #[.string tp', .string si', .int .i64 un'], .agg #[.string tp, .string si, .int .i64 un]] W fun e w' => e = .returned (.int .i64 near) ∧ Below W.heap.size W w') := KN1
        by_cases hjh : h ≤ j
        · have hp : 0 < near := hHi hjh (by omega)
          have qn : decide ((0 : Int) < near) = true := by rw [decide_eq_true_iff]; exact hp
          clear hLo hHi
          go_upto_region 2 with fail
          refine wp_region_held_drew (S := (fun w' => w'.cell? ⟨g, j * 3, none⟩ = some (.string tp') ∧ w'.cell? ⟨g, j * 3 + 1, none⟩ = some (.string si') ∧ w'.cell? ⟨g, j * 3 + 2, none⟩ = some (.int .i64 un') ∧ w'.cell? ⟨w.heap.size, 0, none⟩ = some (.string tp) ∧ w'.cell? ⟨w.heap.size, 1, none⟩ = some (.string si) ∧ w'.cell? ⟨w.heap.size, 2, none⟩ = some (.int .i64 un))) (by kernel_rfl) ?_ (fun hH0 => ?_)
          · (try dsimp only)
            go_keep
          refine wpAnyH_take (i := 0) (oi := { dst := some 10, op := Op.move (Operand.tmp 7), type := 3, pos := "l06_jar.go:259", after := #[], guard := none }) (v := ?vg0) rfl (by kernel_rfl) (by kernel_rfl) (by kernel_rfl) (fun _ _ _ h => h) (Or.inl ⟨by rfl, ?hyg0⟩) (by assumption) ?restg0
          case hyg0 =>
            intro w hSw
            (try dsimp only at hSw)
            go_simp
            try with_reducible rfl
          try simp only [Act.put, List.setIfInBounds_toArray, List.set_cons_zero, List.set_cons_succ]
          refine wpAnyH_take (i := 1) (oi := { dst := some 11, op := Op.binOp BinOp.gtr 3 (Operand.tmp 10) (Operand.const (Value.int IntKind.i64 0)) 3, type := 4, pos := "l06_jar.go:259", after := #[{ on := 0, ground := Ground.data }], guard := none }) (v := ?vg1) rfl (by kernel_rfl) (by kernel_rfl) (by kernel_rfl) (fun _ _ _ h => h) (Or.inl ⟨by rfl, ?hyg1⟩) (by assumption) ?restg1
          case hyg1 =>
            intro w hSw
            (try dsimp only at hSw)
            go_simp
            try with_reducible rfl
          try simp only [Act.put, List.setIfInBounds_toArray, List.set_cons_zero, List.set_cons_succ]
          refine wpAnyH_take (i := 2) (oi := { dst := some 12, op := Op.move (Operand.tmp 11), type := 4, pos := "l06_jar.go:259", after := #[{ on := 1, ground := Ground.data }], guard := none }) (v := ?vg2) rfl (by kernel_rfl) (by kernel_rfl) (by kernel_rfl) (fun _ _ _ h => h) (Or.inl ⟨by rfl, ?hyg2⟩) (by assumption) ?restg2
          case hyg2 =>
            intro w hSw
            (try dsimp only at hSw)
            go_simp
            try with_reducible rfl
          try simp only [Act.put, List.setIfInBounds_toArray, List.set_cons_zero, List.set_cons_succ]
          refine wpAnyH_take (i := 3) (oi := { dst := some 13, op := Op.move (Operand.tmp 2), type := 77, pos := "l06_jar.go:259", after := #[{ on := 2, ground := Ground.guard }], guard := some (2, true) }) (v := ?vg3) rfl (by kernel_rfl) (by kernel_rfl) (by kernel_rfl) (fun _ _ _ h => h) (Or.inl ⟨by rfl, ?hyg3⟩) (by assumption) ?restg3
          case hyg3 =>
            intro w hSw
            (try dsimp only at hSw)
            go_simp
            try with_reducible rfl
          try simp only [Act.put, List.setIfInBounds_toArray, List.set_cons_zero, List.set_cons_succ]
          refine wpAnyH_take (i := 4) (oi := { dst := some 14, op := Op.move (Operand.tmp 0), type := 24, pos := "l06_jar.go:259", after := #[{ on := 2, ground := Ground.guard }], guard := some (2, true) }) (v := ?vg4) rfl (by kernel_rfl) (by kernel_rfl) (by kernel_rfl) (fun _ _ _ h => h) (Or.inl ⟨by rfl, ?hyg4⟩) (by assumption) ?restg4
          case hyg4 =>
            intro w hSw
            (try dsimp only at hSw)
            go_simp
            try with_reducible rfl
          try simp only [Act.put, List.setIfInBounds_toArray, List.set_cons_zero, List.set_cons_succ]
          refine wpAnyH_take (i := 5) (oi := { dst := some 15, op := Op.move (Operand.tmp 7), type := 3, pos := "l06_jar.go:259", after := #[{ on := 2, ground := Ground.guard }], guard := some (2, true) }) (v := ?vg5) rfl (by kernel_rfl) (by kernel_rfl) (by kernel_rfl) (fun _ _ _ h => h) (Or.inl ⟨by rfl, ?hyg5⟩) (by assumption) ?restg5
          case hyg5 =>
            intro w hSw
            (try dsimp only at hSw)
            go_simp
            try with_reducible rfl
          try simp only [Act.put, List.setIfInBounds_toArray, List.set_cons_zero, List.set_cons_succ]
          refine wpAnyH_take (i := 6) (oi := { dst := some 16, op := Op.binOp BinOp.sub 3 (Operand.tmp 15) (Operand.const (Value.int IntKind.i64 1)) 3, type := 3, pos := "l06_jar.go:259", after := #[{ on := 5, ground := Ground.data }, { on := 2, ground := Ground.guard }], guard := some (2, true) }) (v := ?vg6) rfl (by kernel_rfl) (by kernel_rfl) (by kernel_rfl) (fun _ _ _ h => h) (Or.inl ⟨by rfl, ?hyg6⟩) (by assumption) ?restg6
          case hyg6 =>
            intro w hSw
            (try dsimp only at hSw)
            go_simp
            try with_reducible rfl
          try simp only [Act.put, List.setIfInBounds_toArray, List.set_cons_zero, List.set_cons_succ]
          refine wpAnyH_take (i := 7) (oi := { dst := some 17, op := Op.indexAddr 24 (Operand.tmp 14) (Operand.tmp 16), type := 0, pos := "l06_jar.go:259", after := #[{ on := 4, ground := Ground.data }, { on := 6, ground := Ground.data }, { on := 2, ground := Ground.guard }], guard := some (2, true) }) (v := ?vg7) rfl (by kernel_rfl) (by kernel_rfl) (by kernel_rfl) (fun _ _ _ h => h) (Or.inl ⟨by rfl, ?hyg7⟩) (by assumption) ?restg7
          case hyg7 =>
            intro w hSw
            (try dsimp only at hSw)
            go_simp
            try with_reducible rfl
          try simp only [Act.put, List.setIfInBounds_toArray, List.set_cons_zero, List.set_cons_succ]
          refine wpAnyH_take (i := 8) (oi := { dst := some 18, op := Op.load 62 (Operand.tmp 17), type := 62, pos := "l06_jar.go:259", after := #[{ on := 7, ground := Ground.data }, { on := 2, ground := Ground.guard }], guard := some (2, true) }) (v := ?vg8) rfl (by kernel_rfl) (by kernel_rfl) (by kernel_rfl) (fun _ _ _ h => h) (Or.inl ⟨by rfl, ?hyg8⟩) (by assumption) ?restg8
          case hyg8 =>
            intro w hSw
            (try dsimp only at hSw)
            go_simp
            try with_reducible rfl
          try simp only [Act.put, List.setIfInBounds_toArray, List.set_cons_zero, List.set_cons_succ]
          refine wpAnyH_take (i := 9) (oi := { dst := some 19, op := Op.load 62 (Operand.tmp 4), type := 62, pos := "l06_jar.go:259", after := #[{ on := 2, ground := Ground.guard }], guard := some (2, true) }) (v := ?vg9) rfl (by kernel_rfl) (by kernel_rfl) (by kernel_rfl) (fun _ _ _ h => h) (Or.inl ⟨by rfl, ?hyg9⟩) (by assumption) ?restg9
          case hyg9 =>
            intro w hSw
            (try dsimp only at hSw)
            go_simp
            try with_reducible rfl
          try simp only [Act.put, List.setIfInBounds_toArray, List.set_cons_zero, List.set_cons_succ]
          refine wpAnyH_ready (rs := [10]) (by kernel_rfl) (by simp) ?_
          refine AllReadyH.cons (o := { dst := some 20, op := Op.call { callee := Callee.value (Operand.tmp 13), args := #[Operand.tmp 18, Operand.tmp 19], argTypes := #[62, 62] }, type := 3, pos := "l06_jar.go:259", after := #[{ on := 3, ground := Ground.data }, { on := 8, ground := Ground.data }, { on := 9, ground := Ground.data }, { on := 2, ground := Ground.chain }, { on := 2, ground := Ground.guard }], guard := some (2, true) }) rfl (fun K hK => ?_) AllReadyH.nil
          go_simp
          ((try go_at_call 56); refine (KN1.out _).mono ?_; rintro e w5 ⟨rfl, hb5⟩; have A5 : Below wr.heap.size wr w5 := (Below.drew (Below.refl _ _)).trans hb5; have d0 := ((bcell A5).1 _ _ hgr).trans c0; have d1 := ((bcell A5).1 _ _ hgr).trans c1; have d2 := ((bcell A5).1 _ _ hgr).trans c2; have y0 := ((bcell A5).1 _ _ hxr).trans x0; have y1 := ((bcell A5).1 _ _ hxr).trans x1; have y2 := ((bcell A5).1 _ _ hxr).trans x2)
          try (go_wp2_with fail)
          refine hK.out _ _ ?_ (fun hH1 => ?_)
          · (try dsimp only)
            first | go_keep | (refine ⟨?_, ?_, ?_, ?_, ?_, ?_⟩ <;> assumption)
          clear hK K hH0
          try simp only [Act.put, List.setIfInBounds_toArray, List.set_cons_zero, List.set_cons_succ]
          refine wpAnyH_take (i := 11) (oi := { dst := some 21, op := Op.binOp BinOp.gtr 3 (Operand.tmp 20) (Operand.const (Value.int IntKind.i64 0)) 3, type := 4, pos := "l06_jar.go:259", after := #[{ on := 10, ground := Ground.data }, { on := 2, ground := Ground.guard }], guard := some (2, true) }) (v := ?vg11) rfl (by kernel_rfl) (by kernel_rfl) (by kernel_rfl) (fun _ _ _ h => h) (Or.inl ⟨by rfl, ?hyg11⟩) (by assumption) ?restg11
          case hyg11 =>
            intro w hSw
            (try dsimp only at hSw)
            go_simp
            try with_reducible rfl
          try simp only [Act.put, List.setIfInBounds_toArray, List.set_cons_zero, List.set_cons_succ]
          refine wpAnyH_take (i := 12) (oi := { dst := some 22, op := Op.pick (Operand.tmp 12) (Operand.tmp 21) (Operand.const (Value.bool false)), type := 4, pos := "l06_jar.go:259", after := #[{ on := 2, ground := Ground.data }, { on := 11, ground := Ground.data }], guard := none }) (v := ?vg12) rfl (by kernel_rfl) (by kernel_rfl) (by kernel_rfl) (fun _ _ _ h => h) (Or.inl ⟨by rfl, ?hyg12⟩) (by assumption) ?restg12
          case hyg12 =>
            intro w hSw
            (try dsimp only at hSw)
            go_simp
            try with_reducible rfl
          try simp only [Act.put, List.setIfInBounds_toArray, List.set_cons_zero, List.set_cons_succ]
          refine wpAnyH_done (by kernel_rfl) ?_ _
          all_goals go_wp2
          have BN : Hid (Below W0.heap.size W0 w5) := HB.out.trans (A5.mono HB.out.size)
          go_roundw
          case rel => exact ⟨j, hjh, by omega, by first | rfl | (go_num; omega) | exact val_int (by omega), BN⟩
          case measure => simp [intOf]
        · have hp : near ≤ 0 := hLo (by omega)
          have qn : decide ((0 : Int) < near) = false := by rw [decide_eq_false_iff_not]; omega
          clear hLo hHi
          go_upto_region 2 with fail
          refine wp_region_held_drew (S := (fun w' => w'.cell? ⟨g, j * 3, none⟩ = some (.string tp') ∧ w'.cell? ⟨g, j * 3 + 1, none⟩ = some (.string si') ∧ w'.cell? ⟨g, j * 3 + 2, none⟩ = some (.int .i64 un') ∧ w'.cell? ⟨w.heap.size, 0, none⟩ = some (.string tp) ∧ w'.cell? ⟨w.heap.size, 1, none⟩ = some (.string si) ∧ w'.cell? ⟨w.heap.size, 2, none⟩ = some (.int .i64 un))) (by kernel_rfl) ?_ (fun hH0 => ?_)
          · (try dsimp only)
            go_keep
          refine wpAnyH_take (i := 0) (oi := { dst := some 10, op := Op.move (Operand.tmp 7), type := 3, pos := "l06_jar.go:259", after := #[], guard := none }) (v := ?vh0) rfl (by kernel_rfl) (by kernel_rfl) (by kernel_rfl) (fun _ _ _ h => h) (Or.inl ⟨by rfl, ?hyh0⟩) (by assumption) ?resth0
          case hyh0 =>
            intro w hSw
            (try dsimp only at hSw)
            go_simp
            try with_reducible rfl
          try simp only [Act.put, List.setIfInBounds_toArray, List.set_cons_zero, List.set_cons_succ]
          refine wpAnyH_take (i := 1) (oi := { dst := some 11, op := Op.binOp BinOp.gtr 3 (Operand.tmp 10) (Operand.const (Value.int IntKind.i64 0)) 3, type := 4, pos := "l06_jar.go:259", after := #[{ on := 0, ground := Ground.data }], guard := none }) (v := ?vh1) rfl (by kernel_rfl) (by kernel_rfl) (by kernel_rfl) (fun _ _ _ h => h) (Or.inl ⟨by rfl, ?hyh1⟩) (by assumption) ?resth1
          case hyh1 =>
            intro w hSw
            (try dsimp only at hSw)
            go_simp
            try with_reducible rfl
          try simp only [Act.put, List.setIfInBounds_toArray, List.set_cons_zero, List.set_cons_succ]
          refine wpAnyH_take (i := 2) (oi := { dst := some 12, op := Op.move (Operand.tmp 11), type := 4, pos := "l06_jar.go:259", after := #[{ on := 1, ground := Ground.data }], guard := none }) (v := ?vh2) rfl (by kernel_rfl) (by kernel_rfl) (by kernel_rfl) (fun _ _ _ h => h) (Or.inl ⟨by rfl, ?hyh2⟩) (by assumption) ?resth2
          case hyh2 =>
            intro w hSw
            (try dsimp only at hSw)
            go_simp
            try with_reducible rfl
          try simp only [Act.put, List.setIfInBounds_toArray, List.set_cons_zero, List.set_cons_succ]
          refine wpAnyH_take (i := 3) (oi := { dst := some 13, op := Op.move (Operand.tmp 2), type := 77, pos := "l06_jar.go:259", after := #[{ on := 2, ground := Ground.guard }], guard := some (2, true) }) (v := ?vh3) rfl (by kernel_rfl) (by kernel_rfl) (by kernel_rfl) (fun _ _ _ h => h) (Or.inl ⟨by rfl, ?hyh3⟩) (by assumption) ?resth3
          case hyh3 =>
            intro w hSw
            (try dsimp only at hSw)
            go_simp
            try with_reducible rfl
          try simp only [Act.put, List.setIfInBounds_toArray, List.set_cons_zero, List.set_cons_succ]
          refine wpAnyH_take (i := 4) (oi := { dst := some 14, op := Op.move (Operand.tmp 0), type := 24, pos := "l06_jar.go:259", after := #[{ on := 2, ground := Ground.guard }], guard := some (2, true) }) (v := ?vh4) rfl (by kernel_rfl) (by kernel_rfl) (by kernel_rfl) (fun _ _ _ h => h) (Or.inl ⟨by rfl, ?hyh4⟩) (by assumption) ?resth4
          case hyh4 =>
            intro w hSw
            (try dsimp only at hSw)
            go_simp
            try with_reducible rfl
          try simp only [Act.put, List.setIfInBounds_toArray, List.set_cons_zero, List.set_cons_succ]
          refine wpAnyH_take (i := 5) (oi := { dst := some 15, op := Op.move (Operand.tmp 7), type := 3, pos := "l06_jar.go:259", after := #[{ on := 2, ground := Ground.guard }], guard := some (2, true) }) (v := ?vh5) rfl (by kernel_rfl) (by kernel_rfl) (by kernel_rfl) (fun _ _ _ h => h) (Or.inl ⟨by rfl, ?hyh5⟩) (by assumption) ?resth5
          case hyh5 =>
            intro w hSw
            (try dsimp only at hSw)
            go_simp
            try with_reducible rfl
          try simp only [Act.put, List.setIfInBounds_toArray, List.set_cons_zero, List.set_cons_succ]
          refine wpAnyH_take (i := 6) (oi := { dst := some 16, op := Op.binOp BinOp.sub 3 (Operand.tmp 15) (Operand.const (Value.int IntKind.i64 1)) 3, type := 3, pos := "l06_jar.go:259", after := #[{ on := 5, ground := Ground.data }, { on := 2, ground := Ground.guard }], guard := some (2, true) }) (v := ?vh6) rfl (by kernel_rfl) (by kernel_rfl) (by kernel_rfl) (fun _ _ _ h => h) (Or.inl ⟨by rfl, ?hyh6⟩) (by assumption) ?resth6
          case hyh6 =>
            intro w hSw
            (try dsimp only at hSw)
            go_simp
            try with_reducible rfl
          try simp only [Act.put, List.setIfInBounds_toArray, List.set_cons_zero, List.set_cons_succ]
          refine wpAnyH_take (i := 7) (oi := { dst := some 17, op := Op.indexAddr 24 (Operand.tmp 14) (Operand.tmp 16), type := 0, pos := "l06_jar.go:259", after := #[{ on := 4, ground := Ground.data }, { on := 6, ground := Ground.data }, { on := 2, ground := Ground.guard }], guard := some (2, true) }) (v := ?vh7) rfl (by kernel_rfl) (by kernel_rfl) (by kernel_rfl) (fun _ _ _ h => h) (Or.inl ⟨by rfl, ?hyh7⟩) (by assumption) ?resth7
          case hyh7 =>
            intro w hSw
            (try dsimp only at hSw)
            go_simp
            try with_reducible rfl
          try simp only [Act.put, List.setIfInBounds_toArray, List.set_cons_zero, List.set_cons_succ]
          refine wpAnyH_take (i := 8) (oi := { dst := some 18, op := Op.load 62 (Operand.tmp 17), type := 62, pos := "l06_jar.go:259", after := #[{ on := 7, ground := Ground.data }, { on := 2, ground := Ground.guard }], guard := some (2, true) }) (v := ?vh8) rfl (by kernel_rfl) (by kernel_rfl) (by kernel_rfl) (fun _ _ _ h => h) (Or.inl ⟨by rfl, ?hyh8⟩) (by assumption) ?resth8
          case hyh8 =>
            intro w hSw
            (try dsimp only at hSw)
            go_simp
            try with_reducible rfl
          try simp only [Act.put, List.setIfInBounds_toArray, List.set_cons_zero, List.set_cons_succ]
          refine wpAnyH_take (i := 9) (oi := { dst := some 19, op := Op.load 62 (Operand.tmp 4), type := 62, pos := "l06_jar.go:259", after := #[{ on := 2, ground := Ground.guard }], guard := some (2, true) }) (v := ?vh9) rfl (by kernel_rfl) (by kernel_rfl) (by kernel_rfl) (fun _ _ _ h => h) (Or.inl ⟨by rfl, ?hyh9⟩) (by assumption) ?resth9
          case hyh9 =>
            intro w hSw
            (try dsimp only at hSw)
            go_simp
            try with_reducible rfl
          try simp only [Act.put, List.setIfInBounds_toArray, List.set_cons_zero, List.set_cons_succ]
          refine wpAnyH_ready (rs := [10]) (by kernel_rfl) (by simp) ?_
          refine AllReadyH.cons (o := { dst := some 20, op := Op.call { callee := Callee.value (Operand.tmp 13), args := #[Operand.tmp 18, Operand.tmp 19], argTypes := #[62, 62] }, type := 3, pos := "l06_jar.go:259", after := #[{ on := 3, ground := Ground.data }, { on := 8, ground := Ground.data }, { on := 9, ground := Ground.data }, { on := 2, ground := Ground.chain }, { on := 2, ground := Ground.guard }], guard := some (2, true) }) rfl (fun K hK => ?_) AllReadyH.nil
          go_simp
          ((try go_at_call 56); refine (KN1.out _).mono ?_; rintro e w5 ⟨rfl, hb5⟩; have A5 : Below wr.heap.size wr w5 := (Below.drew (Below.refl _ _)).trans hb5; have d0 := ((bcell A5).1 _ _ hgr).trans c0; have d1 := ((bcell A5).1 _ _ hgr).trans c1; have d2 := ((bcell A5).1 _ _ hgr).trans c2; have y0 := ((bcell A5).1 _ _ hxr).trans x0; have y1 := ((bcell A5).1 _ _ hxr).trans x1; have y2 := ((bcell A5).1 _ _ hxr).trans x2)
          try (go_wp2_with fail)
          refine hK.out _ _ ?_ (fun hH1 => ?_)
          · (try dsimp only)
            first | go_keep | (refine ⟨?_, ?_, ?_, ?_, ?_, ?_⟩ <;> assumption)
          clear hK K hH0
          try simp only [Act.put, List.setIfInBounds_toArray, List.set_cons_zero, List.set_cons_succ]
          refine wpAnyH_take (i := 11) (oi := { dst := some 21, op := Op.binOp BinOp.gtr 3 (Operand.tmp 20) (Operand.const (Value.int IntKind.i64 0)) 3, type := 4, pos := "l06_jar.go:259", after := #[{ on := 10, ground := Ground.data }, { on := 2, ground := Ground.guard }], guard := some (2, true) }) (v := ?vh11) rfl (by kernel_rfl) (by kernel_rfl) (by kernel_rfl) (fun _ _ _ h => h) (Or.inl ⟨by rfl, ?hyh11⟩) (by assumption) ?resth11
          case hyh11 =>
            intro w hSw
            (try dsimp only at hSw)
            go_simp
            try with_reducible rfl
          try simp only [Act.put, List.setIfInBounds_toArray, List.set_cons_zero, List.set_cons_succ]
          refine wpAnyH_take (i := 12) (oi := { dst := some 22, op := Op.pick (Operand.tmp 12) (Operand.tmp 21) (Operand.const (Value.bool false)), type := 4, pos := "l06_jar.go:259", after := #[{ on := 2, ground := Ground.data }, { on := 11, ground := Ground.data }], guard := none }) (v := ?vh12) rfl (by kernel_rfl) (by kernel_rfl) (by kernel_rfl) (fun _ _ _ h => h) (Or.inl ⟨by rfl, ?hyh12⟩) (by assumption) ?resth12
          case hyh12 =>
            intro w hSw
            (try dsimp only at hSw)
            go_simp
            try with_reducible rfl
          try simp only [Act.put, List.setIfInBounds_toArray, List.set_cons_zero, List.set_cons_succ]
          refine wpAnyH_done (by kernel_rfl) ?_ _
          obtain rfl : h = j + 1 := by omega
          have BC : Hid (Below w.heap.size w w5) := BR.out.trans (A5.mono BR.out.size)
          have hxc : w.heap.size < w5.heap.size := Nat.lt_of_lt_of_le hxr A5.size
          have xc0 : w5.cell? ⟨w.heap.size, 0, none⟩ = some (.string tp) := y0
          have xc1 : w5.cell? ⟨w.heap.size, 1, none⟩ = some (.string si) := y1
          have xc2 : w5.cell? ⟨w.heap.size, 2, none⟩ = some (.int .i64 un) := y2
          clear y0 x0 y1 x1 y2 x2
          clear BR B0 HB z0 KN HLo HHi KN1 hb5
          generalize hwc : w5 = Wc at *
          clear hwc
          have HD1 : Hid (∀ W, Below Wc.heap.size Wc W → ∀ j u, C1[j]? = some u → W.cell? ((⟨g, 0, none⟩ : Addr).add j) = some u) := fun W hb => HC1.out W (BC.out.trans (hb.mono BC.out.size))
          have HD2 : Hid (∀ W, Below Wc.heap.size Wc W → ∀ i u, C2[i]? = some u → W.cell? ((⟨g, (j + 1) * 3, none⟩ : Addr).add i) = some u) := fun W hb => HC2.out W (BC.out.trans (hb.mono BC.out.size))
          clear HC1 HC2
          have kc : ((j + 1 : Nat) : Int) ≤ cap := by omega
          have kc2 : (j : Int) + 1 ≤ cap := by omega
          have kz : (0 : Int) ≤ (j : Int) + 1 := by omega
          have kl2 : (j : Int) + 1 ≤ (M.length : Int) := by omega
          by_cases hcl : j + 1 = cap
          · have hz0 : M.length - (j + 1) = 0 := by omega
            have hC2 : C2 = [] := List.length_eq_zero_iff.1 (by omega)
            have hl1 : C1.length = cap * 3 := by rw [← hcl]; exact hl1
            go_upto_region 4 with fail
            refine wp_region_held_drew (S := (fun w' => w'.cell? ⟨w.heap.size, 0, none⟩ = some (.string tp) ∧ w'.cell? ⟨w.heap.size, 1, none⟩ = some (.string si) ∧ w'.cell? ⟨w.heap.size, 2, none⟩ = some (.int .i64 un))) (by kernel_rfl) ?_ (fun hH0 => ?_)
            · (try dsimp only)
              go_keep
            refine wpAnyH_take (i := 0) (oi := { dst := some 25, op := Op.move (Operand.tmp 0), type := 24, pos := "l06_jar.go:264", after := #[], guard := none }) (v := ?vd0) rfl (by kernel_rfl) (by kernel_rfl) (by kernel_rfl) (fun _ _ _ h => h) (Or.inl ⟨by rfl, ?hyd0⟩) (by assumption) ?restd0
            case hyd0 =>
              intro w hSw
              (try dsimp only at hSw)
              go_simp
              try with_reducible rfl
            try simp only [Act.put, List.setIfInBounds_toArray, List.set_cons_zero, List.set_cons_succ]
            refine wpAnyH_take (i := 1) (oi := { dst := some 26, op := Op.move (Operand.tmp 7), type := 3, pos := "l06_jar.go:264", after := #[], guard := none }) (v := ?vd1) rfl (by kernel_rfl) (by kernel_rfl) (by kernel_rfl) (fun _ _ _ h => h) (Or.inl ⟨by rfl, ?hyd1⟩) (by assumption) ?restd1
            case hyd1 =>
              intro w hSw
              (try dsimp only at hSw)
              go_simp
              try with_reducible rfl
            try simp only [Act.put, List.setIfInBounds_toArray, List.set_cons_zero, List.set_cons_succ]
            refine wpAnyH_take (i := 2) (oi := { dst := some 27, op := Op.move (Operand.tmp 7), type := 3, pos := "l06_jar.go:264", after := #[], guard := none }) (v := ?vd2) rfl (by kernel_rfl) (by kernel_rfl) (by kernel_rfl) (fun _ _ _ h => h) (Or.inl ⟨by rfl, ?hyd2⟩) (by assumption) ?restd2
            case hyd2 =>
              intro w hSw
              (try dsimp only at hSw)
              go_simp
              try with_reducible rfl
            try simp only [Act.put, List.setIfInBounds_toArray, List.set_cons_zero, List.set_cons_succ]
            refine wpAnyH_take (i := 3) (oi := { dst := some 28, op := Op.slice 24 (Operand.tmp 25) none (some (Operand.tmp 26)) (some (Operand.tmp 27)), type := 24, pos := "l06_jar.go:264", after := #[{ on := 0, ground := Ground.data }, { on := 1, ground := Ground.data }, { on := 2, ground := Ground.data }], guard := none }) (v := ?vd3) rfl (by kernel_rfl) (by kernel_rfl) (by kernel_rfl) (fun _ _ _ h => h) (Or.inl ⟨by rfl, ?hyd3⟩) (by assumption) ?restd3
            case hyd3 =>
              intro w hSw
              (try dsimp only at hSw)
              go_simp
              try with_reducible rfl
            try simp only [Act.put, List.setIfInBounds_toArray, List.set_cons_zero, List.set_cons_succ]
            refine wpAnyH_take (i := 4) (oi := { dst := some 29, op := Op.load 62 (Operand.tmp 4), type := 62, pos := "l06_jar.go:264", after := #[], guard := none }) (v := ?vd4) rfl (by kernel_rfl) (by kernel_rfl) (by kernel_rfl) (fun _ _ _ h => h) (Or.inl ⟨by rfl, ?hyd4⟩) (by assumption) ?restd4
            case hyd4 =>
              intro w hSw
              (try dsimp only at hSw)
              go_simp
              try with_reducible rfl
            try simp only [Act.put, List.setIfInBounds_toArray, List.set_cons_zero, List.set_cons_succ]
            refine wpAnyH_take (i := 7) (oi := { dst := some 32, op := Op.move (Operand.tmp 0), type := 24, pos := "l06_jar.go:264", after := #[], guard := none }) (v := ?vd7) rfl (by kernel_rfl) (by kernel_rfl) (by kernel_rfl) (fun _ _ _ h => h) (Or.inl ⟨by rfl, ?hyd7⟩) (by assumption) ?restd7
            case hyd7 =>
              intro w hSw
              (try dsimp only at hSw)
              go_simp
              try with_reducible rfl
            try simp only [Act.put, List.setIfInBounds_toArray, List.set_cons_zero, List.set_cons_succ]
            refine wpAnyH_take (i := 8) (oi := { dst := some 33, op := Op.move (Operand.tmp 7), type := 3, pos := "l06_jar.go:264", after := #[], guard := none }) (v := ?vd8) rfl (by kernel_rfl) (by kernel_rfl) (by kernel_rfl) (fun _ _ _ h => h) (Or.inl ⟨by rfl, ?hyd8⟩) (by assumption) ?restd8
            case hyd8 =>
              intro w hSw
              (try dsimp only at hSw)
              go_simp
              try with_reducible rfl
            try simp only [Act.put, List.setIfInBounds_toArray, List.set_cons_zero, List.set_cons_succ]
            refine wpAnyH_take (i := 9) (oi := { dst := some 34, op := Op.slice 24 (Operand.tmp 32) (some (Operand.tmp 33)) none none, type := 24, pos := "l06_jar.go:264", after := #[{ on := 7, ground := Ground.data }, { on := 8, ground := Ground.data }], guard := none }) (v := ?vd9) rfl (by kernel_rfl) (by kernel_rfl) (by kernel_rfl) (fun _ _ _ h => h) (Or.inl ⟨by rfl, ?hyd9⟩) (by assumption) ?restd9
            case hyd9 =>
              intro w hSw
              (try dsimp only at hSw)
              go_simp
              try with_reducible rfl
            try simp only [Act.put, List.setIfInBounds_toArray, List.set_cons_zero, List.set_cons_succ]
            refine wpAnyH_ready (rs := [5]) (by kernel_rfl) (by simp) ?_
            refine AllReadyH.cons (o := { dst := some 30, op := Op.buildSlice 24 1 #[(0, Operand.tmp 29)], type := 24, pos := "l06_jar.go:264", after := #[{ on := 4, ground := Ground.data }], guard := none }) rfl (fun K hK => ?_) AllReadyH.nil
            go_simp
            (skip)
            try (go_wp2_with fail)
            refine hK.out _ _ ?_ (fun hH1 => ?_)
            · (try dsimp only)
              first | go_keep | (refine ⟨?_, ?_, ?_⟩ <;> assumption)
            clear hK K hH0
            try simp only [Act.put, List.setIfInBounds_toArray, List.set_cons_zero, List.set_cons_succ]
            refine wpAnyH_ready (rs := [6]) (by kernel_rfl) (by simp) ?_
            refine AllReadyH.cons (o := { dst := some 31, op := Op.call { callee := Callee.builtin Builtin.append, args := #[Operand.tmp 28, Operand.tmp 30], argTypes := #[24, 24] }, type := 24, pos := "l06_jar.go:264", after := #[{ on := 3, ground := Ground.data }, { on := 5, ground := Ground.data }], guard := none }) rfl (fun K hK => ?_) AllReadyH.nil
            (rw [if_pos (by rfl)]; refine wp_append_cut _ _ 24 rfl Wc.heap.size 62 i0 (.agg #[.string ⟨#[]⟩, .string ⟨#[]⟩, .int .i64 0]) 3 40 Try.underlying24 hi hy0 hy1 hy2 rfl ⟨g, 0, none⟩ cap (by rfl) C1 hl1 (HD1.out _ ((Below.refl _ _).drew.alloc (by simp) _)) ⟨Wc.heap.size, 0, none⟩ 1 1 (grVals ⟨tp, si, un⟩) (by rfl) rfl (World.news_of_block (cs := #[.string tp, .string si, .int .i64 un]) (t := 62) (fr := (0, 0)) (heap_alloc_new Wc.drew _)) (by decide) (by unfold maxLen; omega) (by omega) (by simp) ?_; intro cp6 w6 ho6 hg6; have A6 : Below Wc.heap.size Wc w6 := ((Below.refl _ _).drew.alloc (by simp) _).grown hg6 (by simp) (fun j hj => by cases hj); have O6 : Hid (World.ownsRow w6 Wc.heap.size 62 3 _ _ _) := ho6; have p0 : w6.cell? ⟨w.heap.size, 0, none⟩ = some (.string tp) := ((bcell A6).1 _ _ hxc).trans xc0; have p1 : w6.cell? ⟨w.heap.size, 1, none⟩ = some (.string si) := ((bcell A6).1 _ _ hxc).trans xc1; have p2 : w6.cell? ⟨w.heap.size, 2, none⟩ = some (.int .i64 un) := ((bcell A6).1 _ _ hxc).trans xc2; clear ho6 hg6)
            refine hK.out _ _ ?_ (fun hH2 => ?_)
            · (try dsimp only)
              first | go_keep | (refine ⟨?_, ?_, ?_⟩ <;> assumption)
            clear hK K hH1
            try simp only [Act.put, List.setIfInBounds_toArray, List.set_cons_zero, List.set_cons_succ]
            refine wpAnyH_ready (rs := [10]) (by kernel_rfl) (by simp) ?_
            refine AllReadyH.cons (o := { dst := some 35, op := Op.call { callee := Callee.builtin Builtin.append, args := #[Operand.tmp 31, Operand.tmp 34], argTypes := #[24, 24] }, type := 24, pos := "l06_jar.go:264", after := #[{ on := 6, ground := Ground.data }, { on := 9, ground := Ground.data }, { on := 6, ground := Ground.chain }], guard := none }) rfl (fun K hK => ?_) AllReadyH.nil
            (rw [if_pos (by rfl)]; refine wp_append_own _ _ _ 24 rfl Wc.heap.size 62 i0 (.agg #[.string ⟨#[]⟩, .string ⟨#[]⟩, .int .i64 0]) 3 40 Try.underlying24 hi hy0 hy1 hy2 rfl (by decide) _ _ _ (by rfl) O6.out ⟨g, 0, none⟩ 0 0 [] (by rfl) rfl (by intro j u h; cases h) (by intro v h; cases h) (by unfold maxLen; omega) (by omega) A6.size ?_; intro v7 w7 ho7 hg7 hn7; have A7 : Below Wc.heap.size Wc w7 := A6.grown hg7 A6.size (fun j hj => own_base O6.out j hj); have O7 := ho7; have q0 : w7.cell? ⟨w.heap.size, 0, none⟩ = some (.string tp) := ((bcell A7).1 _ _ hxc).trans xc0; have q1 : w7.cell? ⟨w.heap.size, 1, none⟩ = some (.string si) := ((bcell A7).1 _ _ hxc).trans xc1; have q2 : w7.cell? ⟨w.heap.size, 2, none⟩ = some (.int .i64 un) := ((bcell A7).1 _ _ hxc).trans xc2; clear ho7 hg7 hn7)
            refine hK.out _ _ ?_ (fun hH3 => ?_)
            · (try dsimp only)
              first | go_keep | (refine ⟨?_, ?_, ?_⟩ <;> assumption)
            clear hK K hH2
            try simp only [Act.put, List.setIfInBounds_toArray, List.set_cons_zero, List.set_cons_succ]
            refine wpAnyH_take (i := 11) (oi := { dst := some 6, op := Op.assign (Operand.tmp 35), type := 24, pos := "l06_jar.go:264", after := #[{ on := 10, ground := Ground.data }, { on := 10, ground := Ground.chain }, { on := 0, ground := Ground.phase }, { on := 1, ground := Ground.phase }, { on := 2, ground := Ground.phase }, { on := 3, ground := Ground.phase }, { on := 4, ground := Ground.phase }, { on := 5, ground := Ground.phase }, { on := 6, ground := Ground.phase }, { on := 7, ground := Ground.phase }, { on := 8, ground := Ground.phase }, { on := 9, ground := Ground.phase }, { on := 10, ground := Ground.phase }], guard := none }) (v := ?vd11) rfl (by kernel_rfl) (by kernel_rfl) (by kernel_rfl) (fun _ _ _ h => h) (Or.inl ⟨by rfl, ?hyd11⟩) (by assumption) ?restd11
            case hyd11 =>
              intro w hSw
              (try dsimp only at hSw)
              go_simp
              try with_reducible rfl
            try simp only [Act.put, List.setIfInBounds_toArray, List.set_cons_zero, List.set_cons_succ]
            refine wpAnyH_done (by kernel_rfl) ?_ _
            all_goals go_wp2
            have SF : Hid (SliceG w7 w.heap.size v7 (H ++ (⟨tp, si, un⟩ : Gr) :: T)) := HOP.out _ _ _ BC.out.size (by have h := O7; rw [hz0, hC2]; simpa [List.append_assoc, hcl] using h)
            have BF : Hid (Below w.heap.size w w7) := BC.out.trans (A7.mono BC.out.size)
            go_ret
            exact ⟨_, rfl, SF.out, BF.out⟩
          · have k4 : ¬ (j + 1 = cap) := hcl
            go_upto_region 4 with fail
            refine wp_region_held_drew (S := (fun w' => w'.cell? ⟨w.heap.size, 0, none⟩ = some (.string tp) ∧ w'.cell? ⟨w.heap.size, 1, none⟩ = some (.string si) ∧ w'.cell? ⟨w.heap.size, 2, none⟩ = some (.int .i64 un))) (by kernel_rfl) ?_ (fun hH0 => ?_)
            · (try dsimp only)
              go_keep
            refine wpAnyH_take (i := 0) (oi := { dst := some 25, op := Op.move (Operand.tmp 0), type := 24, pos := "l06_jar.go:264", after := #[], guard := none }) (v := ?ve0) rfl (by kernel_rfl) (by kernel_rfl) (by kernel_rfl) (fun _ _ _ h => h) (Or.inl ⟨by rfl, ?hye0⟩) (by assumption) ?reste0
            case hye0 =>
              intro w hSw
              (try dsimp only at hSw)
              go_simp
              try with_reducible rfl
            try simp only [Act.put, List.setIfInBounds_toArray, List.set_cons_zero, List.set_cons_succ]
            refine wpAnyH_take (i := 1) (oi := { dst := some 26, op := Op.move (Operand.tmp 7), type := 3, pos := "l06_jar.go:264", after := #[], guard := none }) (v := ?ve1) rfl (by kernel_rfl) (by kernel_rfl) (by kernel_rfl) (fun _ _ _ h => h) (Or.inl ⟨by rfl, ?hye1⟩) (by assumption) ?reste1
            case hye1 =>
              intro w hSw
              (try dsimp only at hSw)
              go_simp
              try with_reducible rfl
            try simp only [Act.put, List.setIfInBounds_toArray, List.set_cons_zero, List.set_cons_succ]
            refine wpAnyH_take (i := 2) (oi := { dst := some 27, op := Op.move (Operand.tmp 7), type := 3, pos := "l06_jar.go:264", after := #[], guard := none }) (v := ?ve2) rfl (by kernel_rfl) (by kernel_rfl) (by kernel_rfl) (fun _ _ _ h => h) (Or.inl ⟨by rfl, ?hye2⟩) (by assumption) ?reste2
            case hye2 =>
              intro w hSw
              (try dsimp only at hSw)
              go_simp
              try with_reducible rfl
            try simp only [Act.put, List.setIfInBounds_toArray, List.set_cons_zero, List.set_cons_succ]
            refine wpAnyH_take (i := 3) (oi := { dst := some 28, op := Op.slice 24 (Operand.tmp 25) none (some (Operand.tmp 26)) (some (Operand.tmp 27)), type := 24, pos := "l06_jar.go:264", after := #[{ on := 0, ground := Ground.data }, { on := 1, ground := Ground.data }, { on := 2, ground := Ground.data }], guard := none }) (v := ?ve3) rfl (by kernel_rfl) (by kernel_rfl) (by kernel_rfl) (fun _ _ _ h => h) (Or.inl ⟨by rfl, ?hye3⟩) (by assumption) ?reste3
            case hye3 =>
              intro w hSw
              (try dsimp only at hSw)
              go_simp
              try with_reducible rfl
            try simp only [Act.put, List.setIfInBounds_toArray, List.set_cons_zero, List.set_cons_succ]
            refine wpAnyH_take (i := 4) (oi := { dst := some 29, op := Op.load 62 (Operand.tmp 4), type := 62, pos := "l06_jar.go:264", after := #[], guard := none }) (v := ?ve4) rfl (by kernel_rfl) (by kernel_rfl) (by kernel_rfl) (fun _ _ _ h => h) (Or.inl ⟨by rfl, ?hye4⟩) (by assumption) ?reste4
            case hye4 =>
              intro w hSw
              (try dsimp only at hSw)
              go_simp
              try with_reducible rfl
            try simp only [Act.put, List.setIfInBounds_toArray, List.set_cons_zero, List.set_cons_succ]
            refine wpAnyH_take (i := 7) (oi := { dst := some 32, op := Op.move (Operand.tmp 0), type := 24, pos := "l06_jar.go:264", after := #[], guard := none }) (v := ?ve7) rfl (by kernel_rfl) (by kernel_rfl) (by kernel_rfl) (fun _ _ _ h => h) (Or.inl ⟨by rfl, ?hye7⟩) (by assumption) ?reste7
            case hye7 =>
              intro w hSw
              (try dsimp only at hSw)
              go_simp
              try with_reducible rfl
            try simp only [Act.put, List.setIfInBounds_toArray, List.set_cons_zero, List.set_cons_succ]
            refine wpAnyH_take (i := 8) (oi := { dst := some 33, op := Op.move (Operand.tmp 7), type := 3, pos := "l06_jar.go:264", after := #[], guard := none }) (v := ?ve8) rfl (by kernel_rfl) (by kernel_rfl) (by kernel_rfl) (fun _ _ _ h => h) (Or.inl ⟨by rfl, ?hye8⟩) (by assumption) ?reste8
            case hye8 =>
              intro w hSw
              (try dsimp only at hSw)
              go_simp
              try with_reducible rfl
            try simp only [Act.put, List.setIfInBounds_toArray, List.set_cons_zero, List.set_cons_succ]
            refine wpAnyH_take (i := 9) (oi := { dst := some 34, op := Op.slice 24 (Operand.tmp 32) (some (Operand.tmp 33)) none none, type := 24, pos := "l06_jar.go:264", after := #[{ on := 7, ground := Ground.data }, { on := 8, ground := Ground.data }], guard := none }) (v := ?ve9) rfl (by kernel_rfl) (by kernel_rfl) (by kernel_rfl) (fun _ _ _ h => h) (Or.inl ⟨by rfl, ?hye9⟩) (by assumption) ?reste9
            case hye9 =>
              intro w hSw
              (try dsimp only at hSw)
              go_simp
              try with_reducible rfl
            try simp only [Act.put, List.setIfInBounds_toArray, List.set_cons_zero, List.set_cons_succ]
            refine wpAnyH_ready (rs := [5]) (by kernel_rfl) (by simp) ?_
            refine AllReadyH.cons (o := { dst := some 30, op := Op.buildSlice 24 1 #[(0, Operand.tmp 29)], type := 24, pos := "l06_jar.go:264", after := #[{ on := 4, ground := Ground.data }], guard := none }) rfl (fun K hK => ?_) AllReadyH.nil
            go_simp
            (skip)
            try (go_wp2_with fail)
            refine hK.out _ _ ?_ (fun hH1 => ?_)
            · (try dsimp only)
              first | go_keep | (refine ⟨?_, ?_, ?_⟩ <;> assumption)
            clear hK K hH0
            try simp only [Act.put, List.setIfInBounds_toArray, List.set_cons_zero, List.set_cons_succ]
            refine wpAnyH_ready (rs := [6]) (by kernel_rfl) (by simp) ?_
            refine AllReadyH.cons (o := { dst := some 31, op := Op.call { callee := Callee.builtin Builtin.append, args := #[Operand.tmp 28, Operand.tmp 30], argTypes := #[24, 24] }, type := 24, pos := "l06_jar.go:264", after := #[{ on := 3, ground := Ground.data }, { on := 5, ground := Ground.data }], guard := none }) rfl (fun K hK => ?_) AllReadyH.nil
            (rw [if_pos (by rfl)]; refine wp_append_cut _ _ 24 rfl Wc.heap.size 62 i0 (.agg #[.string ⟨#[]⟩, .string ⟨#[]⟩, .int .i64 0]) 3 40 Try.underlying24 hi hy0 hy1 hy2 rfl ⟨g, 0, none⟩ (j + 1) (by rfl) C1 hl1 (HD1.out _ ((Below.refl _ _).drew.alloc (by simp) _)) ⟨Wc.heap.size, 0, none⟩ 1 1 (grVals ⟨tp, si, un⟩) (by rfl) rfl (World.news_of_block (cs := #[.string tp, .string si, .int .i64 un]) (t := 62) (fr := (0, 0)) (heap_alloc_new Wc.drew _)) (by decide) (by unfold maxLen; omega) (by omega) (by simp) ?_; intro cp6 w6 ho6 hg6; have A6 : Below Wc.heap.size Wc w6 := ((Below.refl _ _).drew.alloc (by simp) _).grown hg6 (by simp) (fun j hj => by cases hj); have O6 : Hid (World.ownsRow w6 Wc.heap.size 62 3 _ _ _) := ho6; have p0 : w6.cell? ⟨w.heap.size, 0, none⟩ = some (.string tp) := ((bcell A6).1 _ _ hxc).trans xc0; have p1 : w6.cell? ⟨w.heap.size, 1, none⟩ = some (.string si) := ((bcell A6).1 _ _ hxc).trans xc1; have p2 : w6.cell? ⟨w.heap.size, 2, none⟩ = some (.int .i64 un) := ((bcell A6).1 _ _ hxc).trans xc2; clear ho6 hg6)
            refine hK.out _ _ ?_ (fun hH2 => ?_)
            · (try dsimp only)
              first | go_keep | (refine ⟨?_, ?_, ?_⟩ <;> assumption)
            clear hK K hH1
            try simp only [Act.put, List.setIfInBounds_toArray, List.set_cons_zero, List.set_cons_succ]
            refine wpAnyH_ready (rs := [10]) (by kernel_rfl) (by simp) ?_
            refine AllReadyH.cons (o := { dst := some 35, op := Op.call { callee := Callee.builtin Builtin.append, args := #[Operand.tmp 31, Operand.tmp 34], argTypes := #[24, 24] }, type := 24, pos := "l06_jar.go:264", after := #[{ on := 6, ground := Ground.data }, { on := 9, ground := Ground.data }, { on := 6, ground := Ground.chain }], guard := none }) rfl (fun K hK => ?_) AllReadyH.nil
            (rw [if_pos (by rfl)]; refine wp_append_own _ _ _ 24 rfl Wc.heap.size 62 i0 (.agg #[.string ⟨#[]⟩, .string ⟨#[]⟩, .int .i64 0]) 3 40 Try.underlying24 hi hy0 hy1 hy2 rfl (by decide) _ _ _ (by rfl) O6.out ⟨g, (j + 1) * 3, none⟩ (M.length - (j + 1)) (cap - (j + 1)) C2 (by rfl) hl2 (HD2.out _ A6) o2 (by unfold maxLen; omega) (by omega) A6.size ?_; intro v7 w7 ho7 hg7 hn7; have A7 : Below Wc.heap.size Wc w7 := A6.grown hg7 A6.size (fun j hj => own_base O6.out j hj); have O7 := ho7; have q0 : w7.cell? ⟨w.heap.size, 0, none⟩ = some (.string tp) := ((bcell A7).1 _ _ hxc).trans xc0; have q1 : w7.cell? ⟨w.heap.size, 1, none⟩ = some (.string si) := ((bcell A7).1 _ _ hxc).trans xc1; have q2 : w7.cell? ⟨w.heap.size, 2, none⟩ = some (.int .i64 un) := ((bcell A7).1 _ _ hxc).trans xc2; clear ho7 hg7 hn7)
            refine hK.out _ _ ?_ (fun hH3 => ?_)
            · (try dsimp only)
              first | go_keep | (refine ⟨?_, ?_, ?_⟩ <;> assumption)
            clear hK K hH2
            try simp only [Act.put, List.setIfInBounds_toArray, List.set_cons_zero, List.set_cons_succ]
            refine wpAnyH_take (i := 11) (oi := { dst := some 6, op := Op.assign (Operand.tmp 35), type := 24, pos := "l06_jar.go:264", after := #[{ on := 10, ground := Ground.data }, { on := 10, ground := Ground.chain }, { on := 0, ground := Ground.phase }, { on := 1, ground := Ground.phase }, { on := 2, ground := Ground.phase }, { on := 3, ground := Ground.phase }, { on := 4, ground := Ground.phase }, { on := 5, ground := Ground.phase }, { on := 6, ground := Ground.phase }, { on := 7, ground := Ground.phase }, { on := 8, ground := Ground.phase }, { on := 9, ground := Ground.phase }, { on := 10, ground := Ground.phase }], guard := none }) (v := ?ve11) rfl (by kernel_rfl) (by kernel_rfl) (by kernel_rfl) (fun _ _ _ h => h) (Or.inl ⟨by rfl, ?hye11⟩) (by assumption) ?reste11
            case hye11 =>
              intro w hSw
              (try dsimp only at hSw)
              go_simp
              try with_reducible rfl
            try simp only [Act.put, List.setIfInBounds_toArray, List.set_cons_zero, List.set_cons_succ]
            refine wpAnyH_done (by kernel_rfl) ?_ _
            all_goals go_wp2
            have SF : Hid (SliceG w7 w.heap.size v7 (H ++ (⟨tp, si, un⟩ : Gr) :: T)) := HOP.out _ _ _ BC.out.size (by have h := O7; simpa [List.append_assoc] using h)
            have BF : Hid (Below w.heap.size w w7) := BC.out.trans (A7.mono BC.out.size)
            go_ret
            exact ⟨_, rfl, SF.out, BF.out⟩
      · obtain rfl : k = 0 := by omega
        obtain rfl : h = 0 := by omega
        have BC : Hid (Below w.heap.size w wr.drew) := BR.out.drew
        have hxc : w.heap.size < wr.drew.heap.size := hxr
        have xc0 : wr.drew.cell? ⟨w.heap.size, 0, none⟩ = some (.string tp) := x0
        have xc1 : wr.drew.cell? ⟨w.heap.size, 1, none⟩ = some (.string si) := x1
        have xc2 : wr.drew.cell? ⟨w.heap.size, 2, none⟩ = some (.int .i64 un) := x2
        clear KN HLo HHi
        go_upto_region 2 with fail
        refine wp_region_held_drew (S := (fun w' => w'.cell? ⟨w.heap.size, 0, none⟩ = some (.string tp) ∧ w'.cell? ⟨w.heap.size, 1, none⟩ = some (.string si) ∧ w'.cell? ⟨w.heap.size, 2, none⟩ = some (.int .i64 un))) (by kernel_rfl) ?_ (fun hH0 => ?_)
        · (try dsimp only)
          go_keep
        refine wpAnyH_take (i := 0) (oi := { dst := some 10, op := Op.move (Operand.tmp 7), type := 3, pos := "l06_jar.go:259", after := #[], guard := none }) (v := ?vc0) rfl (by kernel_rfl) (by kernel_rfl) (by kernel_rfl) (fun _ _ _ h => h) (Or.inl ⟨by rfl, ?hyc0⟩) (by assumption) ?restc0
        case hyc0 =>
          intro w hSw
          (try dsimp only at hSw)
          go_simp
          try with_reducible rfl
        try simp only [Act.put, List.setIfInBounds_toArray, List.set_cons_zero, List.set_cons_succ]
        refine wpAnyH_take (i := 1) (oi := { dst := some 11, op := Op.binOp BinOp.gtr 3 (Operand.tmp 10) (Operand.const (Value.int IntKind.i64 0)) 3, type := 4, pos := "l06_jar.go:259", after := #[{ on := 0, ground := Ground.data }], guard := none }) (v := ?vc1) rfl (by kernel_rfl) (by kernel_rfl) (by kernel_rfl) (fun _ _ _ h => h) (Or.inl ⟨by rfl, ?hyc1⟩) (by assumption) ?restc1
        case hyc1 =>
          intro w hSw
          (try dsimp only at hSw)
          go_simp
          try with_reducible rfl
        try simp only [Act.put, List.setIfInBounds_toArray, List.set_cons_zero, List.set_cons_succ]
        refine wpAnyH_take (i := 2) (oi := { dst := some 12, op := Op.move (Operand.tmp 11), type := 4, pos := "l06_jar.go:259", after := #[{ on := 1, ground := Ground.data }], guard := none }) (v := ?vc2) rfl (by kernel_rfl) (by kernel_rfl) (by kernel_rfl) (fun _ _ _ h => h) (Or.inl ⟨by rfl, ?hyc2⟩) (by assumption) ?restc2
        case hyc2 =>
          intro w hSw
          (try dsimp only at hSw)
          go_simp
          try with_reducible rfl
        try simp only [Act.put, List.setIfInBounds_toArray, List.set_cons_zero, List.set_cons_succ]
        refine wpAnyH_take (i := 3) (oi := { dst := some 13, op := Op.move (Operand.tmp 2), type := 77, pos := "l06_jar.go:259", after := #[{ on := 2, ground := Ground.guard }], guard := some (2, true) }) (v := undef) rfl (by kernel_rfl) (by kernel_rfl) (by kernel_rfl) (fun _ _ _ h => h) (Or.inr ⟨by rfl, rfl⟩) (by assumption) ?_
        try simp only [Act.put, List.setIfInBounds_toArray, List.set_cons_zero, List.set_cons_succ]
        refine wpAnyH_take (i := 4) (oi := { dst := some 14, op := Op.move (Operand.tmp 0), type := 24, pos := "l06_jar.go:259", after := #[{ on := 2, ground := Ground.guard }], guard := some (2, true) }) (v := undef) rfl (by kernel_rfl) (by kernel_rfl) (by kernel_rfl) (fun _ _ _ h => h) (Or.inr ⟨by rfl, rfl⟩) (by assumption) ?_
        try simp only [Act.put, List.setIfInBounds_toArray, List.set_cons_zero, List.set_cons_succ]
        refine wpAnyH_take (i := 5) (oi := { dst := some 15, op := Op.move (Operand.tmp 7), type := 3, pos := "l06_jar.go:259", after := #[{ on := 2, ground := Ground.guard }], guard := some (2, true) }) (v := undef) rfl (by kernel_rfl) (by kernel_rfl) (by kernel_rfl) (fun _ _ _ h => h) (Or.inr ⟨by rfl, rfl⟩) (by assumption) ?_
        try simp only [Act.put, List.setIfInBounds_toArray, List.set_cons_zero, List.set_cons_succ]
        refine wpAnyH_take (i := 6) (oi := { dst := some 16, op := Op.binOp BinOp.sub 3 (Operand.tmp 15) (Operand.const (Value.int IntKind.i64 1)) 3, type := 3, pos := "l06_jar.go:259", after := #[{ on := 5, ground := Ground.data }, { on := 2, ground := Ground.guard }], guard := some (2, true) }) (v := undef) rfl (by kernel_rfl) (by kernel_rfl) (by kernel_rfl) (fun _ _ _ h => h) (Or.inr ⟨by rfl, rfl⟩) (by assumption) ?_
        try simp only [Act.put, List.setIfInBounds_toArray, List.set_cons_zero, List.set_cons_succ]
        refine wpAnyH_take (i := 7) (oi := { dst := some 17, op := Op.indexAddr 24 (Operand.tmp 14) (Operand.tmp 16), type := 0, pos := "l06_jar.go:259", after := #[{ on := 4, ground := Ground.data }, { on := 6, ground := Ground.data }, { on := 2, ground := Ground.guard }], guard := some (2, true) }) (v := undef) rfl (by kernel_rfl) (by kernel_rfl) (by kernel_rfl) (fun _ _ _ h => h) (Or.inr ⟨by rfl, rfl⟩) (by assumption) ?_
        try simp only [Act.put, List.setIfInBounds_toArray, List.set_cons_zero, List.set_cons_succ]
        refine wpAnyH_take (i := 8) (oi := { dst := some 18, op := Op.load 62 (Operand.tmp 17), type := 62, pos := "l06_jar.go:259", after := #[{ on := 7, ground := Ground.data }, { on := 2, ground := Ground.guard }], guard := some (2, true) }) (v := undef) rfl (by kernel_rfl) (by kernel_rfl) (by kernel_rfl) (fun _ _ _ h => h) (Or.inr ⟨by rfl, rfl⟩) (by assumption) ?_
        try simp only [Act.put, List.setIfInBounds_toArray, List.set_cons_zero, List.set_cons_succ]
        refine wpAnyH_take (i := 9) (oi := { dst := some 19, op := Op.load 62 (Operand.tmp 4), type := 62, pos := "l06_jar.go:259", after := #[{ on := 2, ground := Ground.guard }], guard := some (2, true) }) (v := undef) rfl (by kernel_rfl) (by kernel_rfl) (by kernel_rfl) (fun _ _ _ h => h) (Or.inr ⟨by rfl, rfl⟩) (by assumption) ?_
        try simp only [Act.put, List.setIfInBounds_toArray, List.set_cons_zero, List.set_cons_succ]
        refine wpAnyH_take (i := 10) (oi := { dst := some 20, op := Op.call { callee := Callee.value (Operand.tmp 13), args := #[Operand.tmp 18, Operand.tmp 19], argTypes := #[62, 62] }, type := 3, pos := "l06_jar.go:259", after := #[{ on := 3, ground := Ground.data }, { on := 8, ground := Ground.data }, { on := 9, ground := Ground.data }, { on := 2, ground := Ground.chain }, { on := 2, ground := Ground.guard }], guard := some (2, true) }) (v := undef) rfl (by kernel_rfl) (by kernel_rfl) (by kernel_rfl) (fun _ _ _ h => h) (Or.inr ⟨by rfl, rfl⟩) (by assumption) ?_
        try simp only [Act.put, List.setIfInBounds_toArray, List.set_cons_zero, List.set_cons_succ]
        refine wpAnyH_take (i := 11) (oi := { dst := some 21, op := Op.binOp BinOp.gtr 3 (Operand.tmp 20) (Operand.const (Value.int IntKind.i64 0)) 3, type := 4, pos := "l06_jar.go:259", after := #[{ on := 10, ground := Ground.data }, { on := 2, ground := Ground.guard }], guard := some (2, true) }) (v := undef) rfl (by kernel_rfl) (by kernel_rfl) (by kernel_rfl) (fun _ _ _ h => h) (Or.inr ⟨by rfl, rfl⟩) (by assumption) ?_
        try simp only [Act.put, List.setIfInBounds_toArray, List.set_cons_zero, List.set_cons_succ]
        refine wpAnyH_take (i := 12) (oi := { dst := some 22, op := Op.pick (Operand.tmp 12) (Operand.tmp 21) (Operand.const (Value.bool false)), type := 4, pos := "l06_jar.go:259", after := #[{ on := 2, ground := Ground.data }, { on := 11, ground := Ground.data }], guard := none }) (v := ?vc12) rfl (by kernel_rfl) (by kernel_rfl) (by kernel_rfl) (fun _ _ _ h => h) (Or.inl ⟨by rfl, ?hyc12⟩) (by assumption) ?restc12
        case hyc12 =>
          intro w hSw
          (try dsimp only at hSw)
          go_simp
          try with_reducible rfl
        try simp only [Act.put, List.setIfInBounds_toArray, List.set_cons_zero, List.set_cons_succ]
        refine wpAnyH_done (by kernel_rfl) ?_ _
        generalize hwc : wr.drew = Wc at *
        clear hwc
        have HD1 : Hid (∀ W, Below Wc.heap.size Wc W → ∀ j u, C1[j]? = some u → W.cell? ((⟨g, 0, none⟩ : Addr).add j) = some u) := fun W hb => HC1.out W (BC.out.trans (hb.mono BC.out.size))
        have HD2 : Hid (∀ W, Below Wc.heap.size Wc W → ∀ i u, C2[i]? = some u → W.cell? ((⟨g, 0, none⟩ : Addr).add i) = some u) := fun W hb => by simpa using HC2.out W (BC.out.trans (hb.mono BC.out.size))
        clear HC1 HC2
        have kc : (0 : Int) ≤ cap := by omega
        have k4 : ¬ (0 = cap) := by omega
        go_upto_region 4 with fail
        refine wp_region_held_drew (S := (fun w' => w'.cell? ⟨w.heap.size, 0, none⟩ = some (.string tp) ∧ w'.cell? ⟨w.heap.size, 1, none⟩ = some (.string si) ∧ w'.cell? ⟨w.heap.size, 2, none⟩ = some (.int .i64 un))) (by kernel_rfl) ?_ (fun hH0 => ?_)
        · (try dsimp only)
          go_keep
        refine wpAnyH_take (i := 0) (oi := { dst := some 25, op := Op.move (Operand.tmp 0), type := 24, pos := "l06_jar.go:264", after := #[], guard := none }) (v := ?vf0) rfl (by kernel_rfl) (by kernel_rfl) (by kernel_rfl) (fun _ _ _ h => h) (Or.inl ⟨by rfl, ?hyf0⟩) (by assumption) ?restf0
        case hyf0 =>
          intro w hSw
          (try dsimp only at hSw)
          go_simp
          try with_reducible rfl
        try simp only [Act.put, List.setIfInBounds_toArray, List.set_cons_zero, List.set_cons_succ]
        refine wpAnyH_take (i := 1) (oi := { dst := some 26, op := Op.move (Operand.tmp 7), type := 3, pos := "l06_jar.go:264", after := #[], guard := none }) (v := ?vf1) rfl (by kernel_rfl) (by kernel_rfl) (by kernel_rfl) (fun _ _ _ h => h) (Or.inl ⟨by rfl, ?hyf1⟩) (by assumption) ?restf1
        case hyf1 =>
          intro w hSw
          (try dsimp only at hSw)
          go_simp
          try with_reducible rfl
        try simp only [Act.put, List.setIfInBounds_toArray, List.set_cons_zero, List.set_cons_succ]
        refine wpAnyH_take (i := 2) (oi := { dst := some 27, op := Op.move (Operand.tmp 7), type := 3, pos := "l06_jar.go:264", after := #[], guard := none }) (v := ?vf2) rfl (by kernel_rfl) (by kernel_rfl) (by kernel_rfl) (fun _ _ _ h => h) (Or.inl ⟨by rfl, ?hyf2⟩) (by assumption) ?restf2
        case hyf2 =>
          intro w hSw
          (try dsimp only at hSw)
          go_simp
          try with_reducible rfl
        try simp only [Act.put, List.setIfInBounds_toArray, List.set_cons_zero, List.set_cons_succ]
        refine wpAnyH_take (i := 3) (oi := { dst := some 28, op := Op.slice 24 (Operand.tmp 25) none (some (Operand.tmp 26)) (some (Operand.tmp 27)), type := 24, pos := "l06_jar.go:264", after := #[{ on := 0, ground := Ground.data }, { on := 1, ground := Ground.data }, { on := 2, ground := Ground.data }], guard := none }) (v := ?vf3) rfl (by kernel_rfl) (by kernel_rfl) (by kernel_rfl) (fun _ _ _ h => h) (Or.inl ⟨by rfl, ?hyf3⟩) (by assumption) ?restf3
        case hyf3 =>
          intro w hSw
          (try dsimp only at hSw)
          go_simp
          try with_reducible rfl
        try simp only [Act.put, List.setIfInBounds_toArray, List.set_cons_zero, List.set_cons_succ]
        refine wpAnyH_take (i := 4) (oi := { dst := some 29, op := Op.load 62 (Operand.tmp 4), type := 62, pos := "l06_jar.go:264", after := #[], guard := none }) (v := ?vf4) rfl (by kernel_rfl) (by kernel_rfl) (by kernel_rfl) (fun _ _ _ h => h) (Or.inl ⟨by rfl, ?hyf4⟩) (by assumption) ?restf4
        case hyf4 =>
          intro w hSw
          (try dsimp only at hSw)
          go_simp
          try with_reducible rfl
        try simp only [Act.put, List.setIfInBounds_toArray, List.set_cons_zero, List.set_cons_succ]
        refine wpAnyH_take (i := 7) (oi := { dst := some 32, op := Op.move (Operand.tmp 0), type := 24, pos := "l06_jar.go:264", after := #[], guard := none }) (v := ?vf7) rfl (by kernel_rfl) (by kernel_rfl) (by kernel_rfl) (fun _ _ _ h => h) (Or.inl ⟨by rfl, ?hyf7⟩) (by assumption) ?restf7
        case hyf7 =>
          intro w hSw
          (try dsimp only at hSw)
          go_simp
          try with_reducible rfl
        try simp only [Act.put, List.setIfInBounds_toArray, List.set_cons_zero, List.set_cons_succ]
        refine wpAnyH_take (i := 8) (oi := { dst := some 33, op := Op.move (Operand.tmp 7), type := 3, pos := "l06_jar.go:264", after := #[], guard := none }) (v := ?vf8) rfl (by kernel_rfl) (by kernel_rfl) (by kernel_rfl) (fun _ _ _ h => h) (Or.inl ⟨by rfl, ?hyf8⟩) (by assumption) ?restf8
        case hyf8 =>
          intro w hSw
          (try dsimp only at hSw)
          go_simp
          try with_reducible rfl
        try simp only [Act.put, List.setIfInBounds_toArray, List.set_cons_zero, List.set_cons_succ]
        refine wpAnyH_take (i := 9) (oi := { dst := some 34, op := Op.slice 24 (Operand.tmp 32) (some (Operand.tmp 33)) none none, type := 24, pos := "l06_jar.go:264", after := #[{ on := 7, ground := Ground.data }, { on := 8, ground := Ground.data }], guard := none }) (v := ?vf9) rfl (by kernel_rfl) (by kernel_rfl) (by kernel_rfl) (fun _ _ _ h => h) (Or.inl ⟨by rfl, ?hyf9⟩) (by assumption) ?restf9
        case hyf9 =>
          intro w hSw
          (try dsimp only at hSw)
          go_simp
          try with_reducible rfl
        try simp only [Act.put, List.setIfInBounds_toArray, List.set_cons_zero, List.set_cons_succ]
        refine wpAnyH_ready (rs := [5]) (by kernel_rfl) (by simp) ?_
        refine AllReadyH.cons (o := { dst := some 30, op := Op.buildSlice 24 1 #[(0, Operand.tmp 29)], type := 24, pos := "l06_jar.go:264", after := #[{ on := 4, ground := Ground.data }], guard := none }) rfl (fun K hK => ?_) AllReadyH.nil
        go_simp
        (skip)
        try (go_wp2_with fail)
        refine hK.out _ _ ?_ (fun hH1 => ?_)
        · (try dsimp only)
          first | go_keep | (refine ⟨?_, ?_, ?_⟩ <;> assumption)
        clear hK K hH0
        try simp only [Act.put, List.setIfInBounds_toArray, List.set_cons_zero, List.set_cons_succ]
        refine wpAnyH_ready (rs := [6]) (by kernel_rfl) (by simp) ?_
        refine AllReadyH.cons (o := { dst := some 31, op := Op.call { callee := Callee.builtin Builtin.append, args := #[Operand.tmp 28, Operand.tmp 30], argTypes := #[24, 24] }, type := 24, pos := "l06_jar.go:264", after := #[{ on := 3, ground := Ground.data }, { on := 5, ground := Ground.data }], guard := none }) rfl (fun K hK => ?_) AllReadyH.nil
        (rw [if_pos (by rfl)]; refine wp_append_cut _ _ 24 rfl Wc.heap.size 62 i0 (.agg #[.string ⟨#[]⟩, .string ⟨#[]⟩, .int .i64 0]) 3 40 Try.underlying24 hi hy0 hy1 hy2 rfl ⟨g, 0, none⟩ 0 (by rfl) C1 hl1 (HD1.out _ ((Below.refl _ _).drew.alloc (by simp) _)) ⟨Wc.heap.size, 0, none⟩ 1 1 (grVals ⟨tp, si, un⟩) (by rfl) rfl (World.news_of_block (cs := #[.string tp, .string si, .int .i64 un]) (t := 62) (fr := (0, 0)) (heap_alloc_new Wc.drew _)) (by decide) (by unfold maxLen; omega) (by omega) (by simp) ?_; intro cp6 w6 ho6 hg6; have A6 : Below Wc.heap.size Wc w6 := ((Below.refl _ _).drew.alloc (by simp) _).grown hg6 (by simp) (fun j hj => by cases hj); have O6 : Hid (World.ownsRow w6 Wc.heap.size 62 3 _ _ _) := ho6; have p0 : w6.cell? ⟨w.heap.size, 0, none⟩ = some (.string tp) := ((bcell A6).1 _ _ hxc).trans xc0; have p1 : w6.cell? ⟨w.heap.size, 1, none⟩ = some (.string si) := ((bcell A6).1 _ _ hxc).trans xc1; have p2 : w6.cell? ⟨w.heap.size, 2, none⟩ = some (.int .i64 un) := ((bcell A6).1 _ _ hxc).trans xc2; clear ho6 hg6)
        refine hK.out _ _ ?_ (fun hH2 => ?_)
        · (try dsimp only)
          first | go_keep | (refine ⟨?_, ?_, ?_⟩ <;> assumption)
        clear hK K hH1
        try simp only [Act.put, List.setIfInBounds_toArray, List.set_cons_zero, List.set_cons_succ]
        refine wpAnyH_ready (rs := [10]) (by kernel_rfl) (by simp) ?_
        refine AllReadyH.cons (o := { dst := some 35, op := Op.call { callee := Callee.builtin Builtin.append, args := #[Operand.tmp 31, Operand.tmp 34], argTypes := #[24, 24] }, type := 24, pos := "l06_jar.go:264", after := #[{ on := 6, ground := Ground.data }, { on := 9, ground := Ground.data }, { on := 6, ground := Ground.chain }], guard := none }) rfl (fun K hK => ?_) AllReadyH.nil
        (rw [if_pos (by rfl)]; refine wp_append_own _ _ _ 24 rfl Wc.heap.size 62 i0 (.agg #[.string ⟨#[]⟩, .string ⟨#[]⟩, .int .i64 0]) 3 40 Try.underlying24 hi hy0 hy1 hy2 rfl (by decide) _ _ _ (by rfl) O6.out ⟨g, 0, none⟩ M.length cap C2 (by rfl) hl2 (HD2.out _ A6) o2 (by unfold maxLen; omega) (by omega) A6.size ?_; intro v7 w7 ho7 hg7 hn7; have A7 : Below Wc.heap.size Wc w7 := A6.grown hg7 A6.size (fun j hj => own_base O6.out j hj); have O7 := ho7; have q0 : w7.cell? ⟨w.heap.size, 0, none⟩ = some (.string tp) := ((bcell A7).1 _ _ hxc).trans xc0; have q1 : w7.cell? ⟨w.heap.size, 1, none⟩ = some (.string si) := ((bcell A7).1 _ _ hxc).trans xc1; have q2 : w7.cell? ⟨w.heap.size, 2, none⟩ = some (.int .i64 un) := ((bcell A7).1 _ _ hxc).trans xc2; clear ho7 hg7 hn7)
        refine hK.out _ _ ?_ (fun hH3 => ?_)
        · (try dsimp only)
          first | go_keep | (refine ⟨?_, ?_, ?_⟩ <;> assumption)
        clear hK K hH2
        try simp only [Act.put, List.setIfInBounds_toArray, List.set_cons_zero, List.set_cons_succ]
        refine wpAnyH_take (i := 11) (oi := { dst := some 6, op := Op.assign (Operand.tmp 35), type := 24, pos := "l06_jar.go:264", after := #[{ on := 10, ground := Ground.data }, { on := 10, ground := Ground.chain }, { on := 0, ground := Ground.phase }, { on := 1, ground := Ground.phase }, { on := 2, ground := Ground.phase }, { on := 3, ground := Ground.phase }, { on := 4, ground := Ground.phase }, { on := 5, ground := Ground.phase }, { on := 6, ground := Ground.phase }, { on := 7, ground := Ground.phase }, { on := 8, ground := Ground.phase }, { on := 9, ground := Ground.phase }, { on := 10, ground := Ground.phase }], guard := none }) (v := ?vf11) rfl (by kernel_rfl) (by kernel_rfl) (by kernel_rfl) (fun _ _ _ h => h) (Or.inl ⟨by rfl, ?hyf11⟩) (by assumption) ?restf11
        case hyf11 =>
          intro w hSw
          (try dsimp only at hSw)
          go_simp
          try with_reducible rfl
        try simp only [Act.put, List.setIfInBounds_toArray, List.set_cons_zero, List.set_cons_succ]
        refine wpAnyH_done (by kernel_rfl) ?_ _
        all_goals go_wp2
        have SF : Hid (SliceG w7 w.heap.size v7 (H ++ (⟨tp, si, un⟩ : Gr) :: T)) := HOP.out _ _ _ BC.out.size (by have h := O7; simpa [List.append_assoc] using h)
        have BF : Hid (Below w.heap.size w w7) := BC.out.trans (A7.mono BC.out.size)
        go_ret
        exact ⟨_, rfl, SF.out, BF.out⟩
end Go.Proofs.Ytehnklgpdjfcgaa
