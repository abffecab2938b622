/- The walks of the specification's l08Put and GrantPut. Written by spec8put.py. -/
import Derived.Test.YtehnklgpdjfcgaaSpecAsk8
import Derived.Test.YtehnklgpdjfcgaaImplGOrder
import Derived.Test.YtehnklgpdjfcgaaBoxG
import Derived.Deep.RegionHeld3
import Derived.Deep.DeepCutAuto
import Derived.Laws.ResultCell
namespace Go.Proofs.Ytehnklgpdjfcgaa
open Go.RowKit

theorem take_atG {L : List Gr} {k : Nat} (hk : k ≤ L.length) : ∀ j, j < (L.take k).length → atG (L.take k) j = atG L (0 + j) ∧ 0 + j < L.length := by
  intro j hj
  have hj2 : j < k := by rw [List.length_take] at hj; omega
  refine ⟨?_, by omega⟩
  rw [atG_get hj, Nat.zero_add, atG_get (by omega), List.getElem_take]
theorem drop_atG (L : List Gr) (k : Nat) : ∀ j, j < (L.drop k).length → atG (L.drop k) j = atG L (k + j) ∧ k + j < L.length := by
  intro j hj
  have hj2 : k + j < L.length := by rw [List.length_drop] at hj; omega
  refine ⟨?_, hj2⟩
  rw [atG_get hj, atG_get hj2, List.getElem_drop]
theorem own_putG {W : World} {B k : Nat} {v : Value} {L : List Gr} {x : Gr} (hk : k ≤ L.length) (h : W.ownsRow B 62 3 v (k + 1 + (L.length - k)) (grCells (L.take k) ++ (grVals x ++ grCells (L.drop k)))) : SliceG W B v (L.take k ++ x :: L.drop k) := by
  refine sliceG_of_own (t := 62) ?_
  rw [grCells_app, List.length_append, List.length_take, List.length_cons, List.length_drop, show min k L.length = k by omega, show k + (L.length - k + 1) = k + 1 + (L.length - k) by omega]
  exact h
set_option maxRecDepth 10000 in
theorem specMin8_any (a b : Int) (w : World) : Calls Try.prog 76 #[.int .i64 a, .int .i64 b] w fun e w' => e = .returned (.int .i64 (if a < b then a else b)) ∧ w' = w := by
  by_cases h : a < b
  · have q : decide (a < b) = true := by rw [decide_eq_true_iff]; exact h
    rw [if_pos h]
    go_enter Try.func76, Try.ntmps76
    go_wp2
    go_ret
    exact ⟨rfl, rfl⟩
  · have q : decide (a < b) = false := by rw [decide_eq_false_iff_not]; exact h
    rw [if_neg h]
    go_enter Try.func76, Try.ntmps76
    go_wp2
    go_ret
    exact ⟨rfl, rfl⟩
set_option maxRecDepth 10000 in
set_option maxHeartbeats 16000000 in
theorem specPutR_any (v : Value) (L : List Gr) (tp si : ByteArray) (now : Int) (B : Nat) (w : World) (hs : SliceG w B v L) (hg8 : grantsB L = true) (hnow : 0 ≤ now ∧ now ≤ 1000000) :
    Calls Try.prog 52 #[v, .string tp, .string si, .int .i64 now] w fun e w' => ∃ v', e = .returned v' ∧ AnsG w' w.heap.size v' (putR L tp si now) ∧ Below w.heap.size w w' := by
  have hL8 := (grantsB_parts hg8).1
  have hrl := restG_len L tp si now
  have KO : Hid (∀ W, Below w.heap.size w W → Calls Try.prog 39 #[v, .int .i64 now] W fun e w' => ∃ v', e = .returned v' ∧ SliceG w' W.heap.size v' (L.filter (liveG now)) ∧ Below W.heap.size W w') := fun W hb => specOld8_any v L now B W (hs.below hb) (by omega)
  have KD : Hid (∀ (u : Value) (B : Nat) (W : World), SliceG W B u (L.filter (liveG now)) → Calls Try.prog 49 #[u, .string tp, .string si] W fun e w' => ∃ v', e = .returned v' ∧ (SliceG w' W.heap.size v' (restG L tp si now) ∧ ∃ g m c, v' = .slice (some ⟨g, 0, none⟩) m c) ∧ Below W.heap.size W w') := fun u B W s => specDrop8_anyS u _ tp si B W s (by have := filter_len8 (liveG now) hg8; omega)
  have KMn : Hid (∀ W, Calls Try.prog 76 #[.int .i64 1000000, .int .i64 (now + 30)] W fun e w' => e = .returned (.int .i64 (untilG now)) ∧ w' = W) := fun W => by
    have e : untilG now = if 1000000 < now + 30 then 1000000 else now + 30 := by
      unfold untilG
      by_cases hc : now + 30 ≤ 1000000
      · rw [if_pos hc, if_neg (by omega)]
      · rw [if_neg hc, if_pos (by omega)]
    rw [e]
    exact specMin8_any 1000000 (now + 30) W
  have HRr : RiseG (restG L tp si now) := rise_filterG (rise_filterG (grants_rise hg8) _) _
  have HAp := rest_apart (L := L) (tp := tp) (si := si) (now := now) (un := untilG now)
  have HN9 : Hid (¬ (restG L tp si now).length < 8 → putR L tp si now = noG 9) := fun h => by unfold putR; rw [if_neg h]
  have HY : Hid ((restG L tp si now).length < 8 → putR L tp si now = ⟨insG (restG L tp si now) ⟨tp, si, untilG now⟩, false, 0⟩) := fun h => by unfold putR; rw [if_pos h]; rfl
  clear hs hg8
  generalize putR L tp si now = Z at *
  generalize L.filter (liveG now) = Y0 at *
  generalize restG L tp si now = Y at *
  generalize untilG now = un at *
  have HCut : Hid (∀ k, k ≤ Y.length → (∀ j, j < k → grLess (atG Y j) ⟨tp, si, un⟩ = true) → (k < Y.length → grLess (atG Y k) ⟨tp, si, un⟩ = false) → insG Y ⟨tp, si, un⟩ = Y.take k ++ ⟨tp, si, un⟩ :: Y.drop k) := fun k hk hb he => by
    refine ins_cut hk hb (fun j hj hjl => ?_)
    have hk2 : grLess ⟨tp, si, un⟩ (atG Y k) = true := by
      have hkl : k < Y.length := by omega
      rcases HAp (atG Y k) (by rw [atG_get hkl]; exact List.getElem_mem hkl) with h | h
      · rw [he hkl] at h; cases h
      · exact h
    by_cases e : j = k
    · subst e; exact hk2
    · exact grLess_trans hk2 (riseG_at HRr (by omega) hjl)
  clear HAp
  obtain ⟨i0, hi, hy0, hy1, hy2⟩ := info_parts infoGrant
  obtain ⟨W0, hW⟩ : ∃ W0, W0 = w.alloc (.cells #[.slice none 0 0, .bool false, .int .i64 0] 33) := ⟨_, rfl⟩
  have hW0 : Hid (W0 = w.alloc (.cells #[.slice none 0 0, .bool false, .int .i64 0] 33)) := hW
  have B0 : Hid (Below w.heap.size w W0) := by show Below _ _ _; rw [hW]; exact (Below.refl _ _).alloc (Nat.le_refl _) _
  have X0 : Hid (BoxG W0 w.heap.size) := by show BoxG _ _; rw [hW]; exact boxG_made w _
  have z0 : w.heap.size < W0.heap.size := by rw [hW]; simp
  clear hW
  go_enter Try.func52, Try.ntmps52
  go_upto_region 1 with fail
  rw [← hW0.out]
  clear hW0
  generalize hbb : w.heap.size = b at *
  go_wp2_with fail
  refine (KO.out _ B0.out).mono ?_
  rintro e w1 ⟨u1, rfl, hs1, hb1⟩
  have S1 : Hid (SliceG w1 W0.heap.size u1 Y0) := hs1
  have X1 : Hid (BoxG w1 b) := X0.out.below hb1
  have B1 : Hid (Below b w w1) := B0.out.trans (hb1.mono (by omega))
  have z1 : b < w1.heap.size := Nat.lt_of_lt_of_le z0 hb1.size
  clear hs1 hb1 X0 B0 KO
  go_wp2_with fail
  refine (KD.out _ _ _ S1.out).mono ?_
  rintro e w2 ⟨u2, rfl, ⟨hs2, g, mm, cap, rfl⟩, hb2⟩
  obtain ⟨⟨q, cap', e1, hg⟩, q2, cap2, e2, hcap, -⟩ := hs2
  injection e1 with e1a e1b e1c
  injection e2 with e2a _ e2c
  subst e1a e1b e1c e2a e2c
  have X2 : Hid (BoxG w2 b) := X1.out.below hb2
  have B2 : Hid (Below b w w2) := B1.out.trans (hb2.mono (by omega))
  have z2 : b < w2.heap.size := Nat.lt_of_lt_of_le z1 hb2.size
  have HG : Hid (0 < Y.length → g < w2.heap.size ∧ ∀ j, j < Y.length → ∀ o, o < 3 → w2.cell? ⟨g, j * 3 + o, none⟩ = some (grC (atG Y j) o)) := fun h0 => by
    obtain ⟨g', e, -, h1, h2⟩ := hg h0
    injection e with e
    injection e with e
    subst e
    exact ⟨h1, fun j hj o ho => (h2 j hj o ho).1⟩
  clear hg hb2 S1 X1 B1 KD HRr
  by_cases h8 : Y.length < 8
  case neg =>
    have HR : Hid (Z = noG 9) := HN9.out h8
    have q8 : decide ((8 : Int) ≤ (Y.length : Int)) = true := by rw [decide_eq_true_iff]; omega
    obtain ⟨x0, x1, x2, f0, f1, f2, hlt⟩ := X2.out
    go_wp2
    refine bodyPost_ret (v := .agg #[.slice none 0 0, .bool false, .int .i64 9]) (by simp [results, Try.results52, go_sem, x0, x1, x2]) rfl ⟨_, rfl, ⟨_, by rw [HR.out]; rfl, by rw [HR.out]; exact sliceG_none _ _⟩, by rw [hbb]; exact store3G_below B2.out⟩
  have HR : Hid (Z = ⟨insG Y ⟨tp, si, un⟩, false, 0⟩) := HY.out h8
  have q8 : decide ((8 : Int) ≤ (Y.length : Int)) = false := by rw [decide_eq_false_iff_not]; omega
  have hwr : IntKind.i64.wrap (now + 30) = now + 30 := by rw [IntKind.wrap_i64]; omega
  clear HN9 HY
  go_wp2_with fail
  refine (KMn.out _).mono ?_
  rintro e w3 ⟨rfl, rfl⟩
  obtain ⟨W4, hV⟩ : ∃ W4, W4 = w3.alloc (.cells #[.string tp, .string si, .int .i64 un] 62) := ⟨_, rfl⟩
  have hW4 : Hid (W4 = w3.alloc (.cells #[.string tp, .string si, .int .i64 un] 62)) := hV
  have A4 : Below w3.heap.size w3 W4 := by rw [hV]; exact (Below.refl _ _).alloc (Nat.le_refl _) _
  have X4 : Hid (BoxG W4 b) := X2.out.below A4
  have B4 : Hid (Below b w W4) := B2.out.trans (A4.mono (by omega))
  have u0 : W4.cell? ⟨w3.heap.size, 0, none⟩ = some (.string tp) := by rw [hV]; simp
  have u1 : W4.cell? ⟨w3.heap.size, 1, none⟩ = some (.string si) := by rw [hV]; simp
  have u2 : W4.cell? ⟨w3.heap.size, 2, none⟩ = some (.int .i64 un) := by rw [hV]; simp
  have U0 : Hid (W4.cell? ⟨w3.heap.size, 0, none⟩ = some (.string tp) ∧ W4.cell? ⟨w3.heap.size, 1, none⟩ = some (.string si) ∧ W4.cell? ⟨w3.heap.size, 2, none⟩ = some (.int .i64 un)) := ⟨u0, u1, u2⟩
  have hx0 : w3.heap.size < W4.heap.size := by rw [hV]; simp
  have HG4 : Hid (0 < Y.length → g < W4.heap.size ∧ ∀ j, j < Y.length → ∀ o, o < 3 → W4.cell? ⟨g, j * 3 + o, none⟩ = some (grC (atG Y j) o)) := fun h0 => by
    obtain ⟨h1, h2⟩ := HG.out h0
    exact ⟨Nat.lt_trans h1 hx0, fun j hj o ho => ((bcell A4).1 _ _ h1).trans (h2 j hj o ho)⟩
  have hbx : b < w3.heap.size := z2
  clear hV A4 X2 B2 u0 u1 u2 HG KMn
  go_upto_region 5 with fail
  rw [← hW4.out]
  clear hW4
  generalize hbxx : w3.heap.size = bx at *
  clear hbxx
  have HOP : Hid (∀ k (W : World) (B : Nat) (v : Value), k ≤ Y.length → W.ownsRow B 62 3 v (k + 1 + (Y.length - k)) (grCells (Y.take k) ++ (grVals ⟨tp, si, un⟩ ++ grCells (Y.drop k))) → insG Y ⟨tp, si, un⟩ = Y.take k ++ ⟨tp, si, un⟩ :: Y.drop k → SliceG W B v (insG Y ⟨tp, si, un⟩)) := fun k W B v hk h e => by rw [e]; exact own_putG hk h
  have KL : Hid (∀ j W, Calls Try.prog 70 #[.agg #[.string (atG Y j).tp, .string (atG Y j).si, .int .i64 (atG Y j).un], .agg #[.string tp, .string si, .int .i64 un]] W fun e w' => e = .returned (.bool (grLess (atG Y j) ⟨tp, si, un⟩)) ∧ Below W.heap.size W w') := fun j W => specLess8_any (atG Y j) ⟨tp, si, un⟩ W
  go_wp2
  go_loopw [11] (fun i wr => ∃ k : Nat, k ≤ Y.length ∧ i = .int .i64 k ∧ Hid (∀ j, j < k → grLess (atG Y j) ⟨tp, si, un⟩ = true) ∧ Hid (Below W4.heap.size W4 wr)) (fun i _ => Y.length - (intOf i).toNat)
  case atStart => exact ⟨0, Nat.zero_le _, rfl, fun j hj => absurd hj (by omega), Below.refl _ _⟩
  case round =>
    obtain ⟨k, hk, rfl, HM, HB⟩ := hrel
    have hxr : bx < wr.heap.size := Nat.lt_of_lt_of_le hx0 HB.out.size
    have xr0 : wr.cell? ⟨bx, 0, none⟩ = some (.string tp) := ((bcell HB.out).1 _ _ hx0).trans U0.out.1
    have xr1 : wr.cell? ⟨bx, 1, none⟩ = some (.string si) := ((bcell HB.out).1 _ _ hx0).trans U0.out.2.1
    have xr2 : wr.cell? ⟨bx, 2, none⟩ = some (.int .i64 un) := ((bcell HB.out).1 _ _ hx0).trans U0.out.2.2
    have BR : Hid (Below b w wr) := B4.out.trans (HB.out.mono (by omega))
    have hcW : ∀ W, Below W4.heap.size W4 W → ∀ j, j < Y.length → ∀ o, o < 3 → W.cell? ⟨g, j * 3 + o, none⟩ = some (grC (atG Y j) o) := fun W hb j hj o ho => by
      obtain ⟨h1, h2⟩ := HG4.out (by omega)
      exact ((bcell hb).1 _ _ h1).trans (h2 j hj o ho)
    have HC1a : Hid (∀ W, Below W4.heap.size W4 W → ∀ j u, (grCells (Y.take k))[j]? = some u → W.cell? ((⟨g, 0, none⟩ : Addr).add j) = some u) := fun W hb => by
      have := grCells_part (hcW W hb) 0 (Y.take k) (take_atG (by omega))
      simpa using this
    have HC2a : Hid (∀ W, Below W4.heap.size W4 W → ∀ j u, (grCells (Y.drop k))[j]? = some u → W.cell? ((⟨g, k * 3, none⟩ : Addr).add j) = some u) := fun W hb => grCells_part (hcW W hb) k (Y.drop k) (drop_atG Y k)
    have hl1 : (grCells (Y.take k)).length = k * 3 := by rw [grCells_len, List.length_take]; omega
    have hl2 : (grCells (Y.drop k)).length = (Y.length - k) * 3 := by rw [grCells_len, List.length_drop]
    have o1 : ∀ v ∈ grCells (Y.take k), v.oneCell' = true := one_grCells _
    have o2 : ∀ v ∈ grCells (Y.drop k), v.oneCell' = true := one_grCells _
    have HOPk := HOP.out k
    have HCk := HCut.out k hk HM.out
    by_cases hlt : k < Y.length
    · have hgr : g < wr.heap.size := Nat.lt_of_lt_of_le (HG4.out (by omega)).1 HB.out.size
      have c0 : wr.cell? ⟨g, k * 3, none⟩ = some (.string (atG Y k).tp) := hcW _ HB.out k hlt 0 (by omega)
      have c1 : wr.cell? ⟨g, k * 3 + 1, none⟩ = some (.string (atG Y k).si) := hcW _ HB.out k hlt 1 (by omega)
      have c2 : wr.cell? ⟨g, k * 3 + 2, none⟩ = some (.int .i64 (atG Y k).un) := hcW _ HB.out k hlt 2 (by omega)
      have KL1 := KL.out k
      have k0 : (0 : Int) ≤ k := by omega
      have k1 : (k : Int) < Y.length := by omega
      have q1 : decide ((k : Int) < (Y.length : Int)) = true := by rw [decide_eq_true_iff]; omega
      have HM1 : Hid (grLess (atG Y k) ⟨tp, si, un⟩ = true → ∀ j, j < k + 1 → grLess (atG Y j) ⟨tp, si, un⟩ = true) := fun h j hj => by
        by_cases e : j = k
        · subst e; exact h
        · exact HM.out j (by omega)
      have HCk1 : Hid (grLess (atG Y k) ⟨tp, si, un⟩ = false → insG Y ⟨tp, si, un⟩ = Y.take k ++ ⟨tp, si, un⟩ :: Y.drop k) := fun h => HCk (fun _ => h)
      clear hcW KL HCk HCut HOP
      generalize hls : grLess (atG Y k) ⟨tp, si, un⟩ = ls at *
      clear hls
      generalize atG Y k = y at *
      obtain ⟨ke, na, va⟩ := y
      dsimp only at *
      cases ls with
      | true =>
        have HM2 : Hid (∀ j, j < k + 1 → grLess (atG Y j) ⟨tp, si, un⟩ = true) := HM1.out rfl
        have KL1 : Hid (∀ W, Calls Try.prog 70 #[.agg #[.string ke, .string na, .int .i64 va], .agg #[.string tp, .string si, .int .i64 un]] W fun e w' => e = .returned (.bool true) ∧ Below W.heap.size W w') := KL1
        clear HM1 HM HC1a HC2a hl1 hl2 o1 o2 HOPk HCk1
        go_upto_region 6 with fail
        refine wp_region_held_drew (S := (fun w' => w'.cell? ⟨g, k * 3, none⟩ = some (.string ke) ∧ w'.cell? ⟨g, k * 3 + 1, none⟩ = some (.string na) ∧ w'.cell? ⟨g, k * 3 + 2, none⟩ = some (.int .i64 va) ∧ w'.cell? ⟨bx, 0, none⟩ = some (.string tp) ∧ w'.cell? ⟨bx, 1, none⟩ = some (.string si) ∧ w'.cell? ⟨bx, 2, none⟩ = some (.int .i64 un))) (by kernel_rfl) ?_ (fun hH0 => ?_)
        · (try dsimp only)
          go_keep
        refine wpAnyH_take (i := 0) (oi := { dst := some 29, op := Op.move (Operand.tmp 11), type := 3, pos := "l08_grant.go:76", after := #[], guard := none }) (v := ?va0) rfl (by kernel_rfl) (by kernel_rfl) (by kernel_rfl) (fun _ _ _ h => h) (Or.inl ⟨by rfl, ?hya0⟩) (by assumption) ?resta0
        case hya0 =>
          intro w hSw
          (try dsimp only at hSw)
          go_simp
          try with_reducible rfl
        try simp only [Act.put, List.setIfInBounds_toArray, List.set_cons_zero, List.set_cons_succ]
        refine wpAnyH_take (i := 1) (oi := { dst := some 30, op := Op.move (Operand.tmp 9), type := 24, pos := "l08_grant.go:76", after := #[], guard := none }) (v := ?va1) rfl (by kernel_rfl) (by kernel_rfl) (by kernel_rfl) (fun _ _ _ h => h) (Or.inl ⟨by rfl, ?hya1⟩) (by assumption) ?resta1
        case hya1 =>
          intro w hSw
          (try dsimp only at hSw)
          go_simp
          try with_reducible rfl
        try simp only [Act.put, List.setIfInBounds_toArray, List.set_cons_zero, List.set_cons_succ]
        refine wpAnyH_take (i := 2) (oi := { dst := some 31, op := Op.call { callee := Callee.builtin Builtin.len, args := #[Operand.tmp 30], argTypes := #[24] }, type := 3, pos := "l08_grant.go:76", after := #[{ on := 1, ground := Ground.data }], guard := none }) (v := ?va2) rfl (by kernel_rfl) (by kernel_rfl) (by kernel_rfl) (fun _ _ _ h => h) (Or.inl ⟨by rfl, ?hya2⟩) (by assumption) ?resta2
        case hya2 =>
          intro w hSw
          (try dsimp only at hSw)
          go_simp
          try with_reducible rfl
        try simp only [Act.put, List.setIfInBounds_toArray, List.set_cons_zero, List.set_cons_succ]
        refine wpAnyH_take (i := 3) (oi := { dst := some 32, op := Op.binOp BinOp.lss 3 (Operand.tmp 29) (Operand.tmp 31) 3, type := 4, pos := "l08_grant.go:76", after := #[{ on := 0, ground := Ground.data }, { on := 2, ground := Ground.data }], guard := none }) (v := ?va3) rfl (by kernel_rfl) (by kernel_rfl) (by kernel_rfl) (fun _ _ _ h => h) (Or.inl ⟨by rfl, ?hya3⟩) (by assumption) ?resta3
        case hya3 =>
          intro w hSw
          (try dsimp only at hSw)
          go_simp
          try with_reducible rfl
        try simp only [Act.put, List.setIfInBounds_toArray, List.set_cons_zero, List.set_cons_succ]
        refine wpAnyH_take (i := 4) (oi := { dst := some 33, op := Op.move (Operand.tmp 32), type := 4, pos := "l08_grant.go:76", after := #[{ on := 3, ground := Ground.data }], guard := none }) (v := ?va4) rfl (by kernel_rfl) (by kernel_rfl) (by kernel_rfl) (fun _ _ _ h => h) (Or.inl ⟨by rfl, ?hya4⟩) (by assumption) ?resta4
        case hya4 =>
          intro w hSw
          (try dsimp only at hSw)
          go_simp
          try with_reducible rfl
        try simp only [Act.put, List.setIfInBounds_toArray, List.set_cons_zero, List.set_cons_succ]
        refine wpAnyH_take (i := 5) (oi := { dst := some 34, op := Op.move (Operand.tmp 9), type := 24, pos := "l08_grant.go:76", after := #[{ on := 4, ground := Ground.guard }], guard := some (4, true) }) (v := ?va5) rfl (by kernel_rfl) (by kernel_rfl) (by kernel_rfl) (fun _ _ _ h => h) (Or.inl ⟨by rfl, ?hya5⟩) (by assumption) ?resta5
        case hya5 =>
          intro w hSw
          (try dsimp only at hSw)
          go_simp
          try with_reducible rfl
        try simp only [Act.put, List.setIfInBounds_toArray, List.set_cons_zero, List.set_cons_succ]
        refine wpAnyH_take (i := 6) (oi := { dst := some 35, op := Op.move (Operand.tmp 11), type := 3, pos := "l08_grant.go:76", after := #[{ on := 4, ground := Ground.guard }], guard := some (4, true) }) (v := ?va6) rfl (by kernel_rfl) (by kernel_rfl) (by kernel_rfl) (fun _ _ _ h => h) (Or.inl ⟨by rfl, ?hya6⟩) (by assumption) ?resta6
        case hya6 =>
          intro w hSw
          (try dsimp only at hSw)
          go_simp
          try with_reducible rfl
        try simp only [Act.put, List.setIfInBounds_toArray, List.set_cons_zero, List.set_cons_succ]
        refine wpAnyH_take (i := 7) (oi := { dst := some 36, op := Op.indexAddr 24 (Operand.tmp 34) (Operand.tmp 35), type := 0, pos := "l08_grant.go:76", after := #[{ on := 5, ground := Ground.data }, { on := 6, ground := Ground.data }, { on := 4, ground := Ground.guard }], guard := some (4, true) }) (v := ?va7) rfl (by kernel_rfl) (by kernel_rfl) (by kernel_rfl) (fun _ _ _ h => h) (Or.inl ⟨by rfl, ?hya7⟩) (by assumption) ?resta7
        case hya7 =>
          intro w hSw
          (try dsimp only at hSw)
          go_simp
          try with_reducible rfl
        try simp only [Act.put, List.setIfInBounds_toArray, List.set_cons_zero, List.set_cons_succ]
        refine wpAnyH_take (i := 8) (oi := { dst := some 37, op := Op.load 62 (Operand.tmp 36), type := 62, pos := "l08_grant.go:76", after := #[{ on := 7, ground := Ground.data }, { on := 4, ground := Ground.guard }], guard := some (4, true) }) (v := ?va8) rfl (by kernel_rfl) (by kernel_rfl) (by kernel_rfl) (fun _ _ _ h => h) (Or.inl ⟨by rfl, ?hya8⟩) (by assumption) ?resta8
        case hya8 =>
          intro w hSw
          (try dsimp only at hSw)
          go_simp
          try with_reducible rfl
        try simp only [Act.put, List.setIfInBounds_toArray, List.set_cons_zero, List.set_cons_succ]
        refine wpAnyH_take (i := 9) (oi := { dst := some 38, op := Op.load 62 (Operand.tmp 10), type := 62, pos := "l08_grant.go:76", after := #[{ on := 4, ground := Ground.guard }], guard := some (4, true) }) (v := ?va9) rfl (by kernel_rfl) (by kernel_rfl) (by kernel_rfl) (fun _ _ _ h => h) (Or.inl ⟨by rfl, ?hya9⟩) (by assumption) ?resta9
        case hya9 =>
          intro w hSw
          (try dsimp only at hSw)
          go_simp
          try with_reducible rfl
        try simp only [Act.put, List.setIfInBounds_toArray, List.set_cons_zero, List.set_cons_succ]
        refine wpAnyH_ready (rs := [10]) (by kernel_rfl) (by simp) ?_
        refine AllReadyH.cons (o := { dst := some 39, op := Op.call { callee := Callee.value (Operand.func 70), args := #[Operand.tmp 37, Operand.tmp 38], argTypes := #[62, 62] }, type := 4, pos := "l08_grant.go:76", after := #[{ on := 8, ground := Ground.data }, { on := 9, ground := Ground.data }, { on := 4, ground := Ground.chain }, { on := 4, ground := Ground.guard }], guard := some (4, true) }) rfl (fun K hK => ?_) AllReadyH.nil
        go_simp
        (go_at_call 70; refine (KL1.out _).mono ?_; rintro e w5 ⟨rfl, hb5⟩; have A5 : Below wr.heap.size wr w5 := (Below.drew (Below.refl _ _)).trans hb5; have d0 : w5.cell? ⟨g, k * 3, none⟩ = some (.string ke) := ((bcell A5).1 _ _ hgr).trans c0; have d1 : w5.cell? ⟨g, k * 3 + 1, none⟩ = some (.string na) := ((bcell A5).1 _ _ hgr).trans c1; have d2 : w5.cell? ⟨g, k * 3 + 2, none⟩ = some (.int .i64 va) := ((bcell A5).1 _ _ hgr).trans c2; have xc0 : w5.cell? ⟨bx, 0, none⟩ = some (.string tp) := ((bcell A5).1 _ _ hxr).trans xr0; have xc1 : w5.cell? ⟨bx, 1, none⟩ = some (.string si) := ((bcell A5).1 _ _ hxr).trans xr1; have xc2 : w5.cell? ⟨bx, 2, none⟩ = some (.int .i64 un) := ((bcell A5).1 _ _ hxr).trans xr2)
        try (go_wp2_with fail)
        refine hK.out _ _ ?_ (fun hH1 => ?_)
        · (try dsimp only)
          first | go_keep | (refine ⟨?_, ?_, ?_, ?_, ?_, ?_⟩ <;> assumption)
        clear hK K hH0
        try simp only [Act.put, List.setIfInBounds_toArray, List.set_cons_zero, List.set_cons_succ]
        refine wpAnyH_take (i := 11) (oi := { dst := some 40, op := Op.pick (Operand.tmp 33) (Operand.tmp 39) (Operand.const (Value.bool false)), type := 4, pos := "l08_grant.go:76", after := #[{ on := 4, ground := Ground.data }, { on := 10, ground := Ground.data }], guard := none }) (v := ?va11) rfl (by kernel_rfl) (by kernel_rfl) (by kernel_rfl) (fun _ _ _ h => h) (Or.inl ⟨by rfl, ?hya11⟩) (by assumption) ?resta11
        case hya11 =>
          intro w hSw
          (try dsimp only at hSw)
          go_simp
          try with_reducible rfl
        try simp only [Act.put, List.setIfInBounds_toArray, List.set_cons_zero, List.set_cons_succ]
        refine wpAnyH_done (by kernel_rfl) ?_ _
        all_goals go_wp2
        have BN : Hid (Below W4.heap.size W4 w5) := HB.out.trans (A5.mono HB.out.size)
        go_roundw
        case rel => exact ⟨k + 1, by omega, by go_num, HM2, BN⟩
        case measure => simp [intOf]; omega
      | false =>
        have KL1 : Hid (∀ W, Calls Try.prog 70 #[.agg #[.string ke, .string na, .int .i64 va], .agg #[.string tp, .string si, .int .i64 un]] W fun e w' => e = .returned (.bool false) ∧ Below W.heap.size W w') := KL1
        have hE := HCk1.out rfl
        have HOP : Hid (∀ (W : World) (B : Nat) (v : Value), W.ownsRow B 62 3 v (k + 1 + (Y.length - k)) (grCells (Y.take k) ++ (grVals ⟨tp, si, un⟩ ++ grCells (Y.drop k))) → SliceG W B v (insG Y ⟨tp, si, un⟩)) := fun W B v h => HOPk W B v hk h hE
        clear HM1 HM HOPk HCk1 hE
        go_upto_region 6 with fail
        refine wp_region_held_drew (S := (fun w' => w'.cell? ⟨g, k * 3, none⟩ = some (.string ke) ∧ w'.cell? ⟨g, k * 3 + 1, none⟩ = some (.string na) ∧ w'.cell? ⟨g, k * 3 + 2, none⟩ = some (.int .i64 va) ∧ w'.cell? ⟨bx, 0, none⟩ = some (.string tp) ∧ w'.cell? ⟨bx, 1, none⟩ = some (.string si) ∧ w'.cell? ⟨bx, 2, none⟩ = some (.int .i64 un))) (by kernel_rfl) ?_ (fun hH0 => ?_)
        · (try dsimp only)
          go_keep
        refine wpAnyH_take (i := 0) (oi := { dst := some 29, op := Op.move (Operand.tmp 11), type := 3, pos := "l08_grant.go:76", after := #[], guard := none }) (v := ?vb0) rfl (by kernel_rfl) (by kernel_rfl) (by kernel_rfl) (fun _ _ _ h => h) (Or.inl ⟨by rfl, ?hyb0⟩) (by assumption) ?restb0
        case hyb0 =>
          intro w hSw
          (try dsimp only at hSw)
          go_simp
          try with_reducible rfl
        try simp only [Act.put, List.setIfInBounds_toArray, List.set_cons_zero, List.set_cons_succ]
        refine wpAnyH_take (i := 1) (oi := { dst := some 30, op := Op.move (Operand.tmp 9), type := 24, pos := "l08_grant.go:76", after := #[], guard := none }) (v := ?vb1) rfl (by kernel_rfl) (by kernel_rfl) (by kernel_rfl) (fun _ _ _ h => h) (Or.inl ⟨by rfl, ?hyb1⟩) (by assumption) ?restb1
        case hyb1 =>
          intro w hSw
          (try dsimp only at hSw)
          go_simp
          try with_reducible rfl
        try simp only [Act.put, List.setIfInBounds_toArray, List.set_cons_zero, List.set_cons_succ]
        refine wpAnyH_take (i := 2) (oi := { dst := some 31, op := Op.call { callee := Callee.builtin Builtin.len, args := #[Operand.tmp 30], argTypes := #[24] }, type := 3, pos := "l08_grant.go:76", after := #[{ on := 1, ground := Ground.data }], guard := none }) (v := ?vb2) rfl (by kernel_rfl) (by kernel_rfl) (by kernel_rfl) (fun _ _ _ h => h) (Or.inl ⟨by rfl, ?hyb2⟩) (by assumption) ?restb2
        case hyb2 =>
          intro w hSw
          (try dsimp only at hSw)
          go_simp
          try with_reducible rfl
        try simp only [Act.put, List.setIfInBounds_toArray, List.set_cons_zero, List.set_cons_succ]
        refine wpAnyH_take (i := 3) (oi := { dst := some 32, op := Op.binOp BinOp.lss 3 (Operand.tmp 29) (Operand.tmp 31) 3, type := 4, pos := "l08_grant.go:76", after := #[{ on := 0, ground := Ground.data }, { on := 2, ground := Ground.data }], guard := none }) (v := ?vb3) rfl (by kernel_rfl) (by kernel_rfl) (by kernel_rfl) (fun _ _ _ h => h) (Or.inl ⟨by rfl, ?hyb3⟩) (by assumption) ?restb3
        case hyb3 =>
          intro w hSw
          (try dsimp only at hSw)
          go_simp
          try with_reducible rfl
        try simp only [Act.put, List.setIfInBounds_toArray, List.set_cons_zero, List.set_cons_succ]
        refine wpAnyH_take (i := 4) (oi := { dst := some 33, op := Op.move (Operand.tmp 32), type := 4, pos := "l08_grant.go:76", after := #[{ on := 3, ground := Ground.data }], guard := none }) (v := ?vb4) rfl (by kernel_rfl) (by kernel_rfl) (by kernel_rfl) (fun _ _ _ h => h) (Or.inl ⟨by rfl, ?hyb4⟩) (by assumption) ?restb4
        case hyb4 =>
          intro w hSw
          (try dsimp only at hSw)
          go_simp
          try with_reducible rfl
        try simp only [Act.put, List.setIfInBounds_toArray, List.set_cons_zero, List.set_cons_succ]
        refine wpAnyH_take (i := 5) (oi := { dst := some 34, op := Op.move (Operand.tmp 9), type := 24, pos := "l08_grant.go:76", after := #[{ on := 4, ground := Ground.guard }], guard := some (4, true) }) (v := ?vb5) rfl (by kernel_rfl) (by kernel_rfl) (by kernel_rfl) (fun _ _ _ h => h) (Or.inl ⟨by rfl, ?hyb5⟩) (by assumption) ?restb5
        case hyb5 =>
          intro w hSw
          (try dsimp only at hSw)
          go_simp
          try with_reducible rfl
        try simp only [Act.put, List.setIfInBounds_toArray, List.set_cons_zero, List.set_cons_succ]
        refine wpAnyH_take (i := 6) (oi := { dst := some 35, op := Op.move (Operand.tmp 11), type := 3, pos := "l08_grant.go:76", after := #[{ on := 4, ground := Ground.guard }], guard := some (4, true) }) (v := ?vb6) rfl (by kernel_rfl) (by kernel_rfl) (by kernel_rfl) (fun _ _ _ h => h) (Or.inl ⟨by rfl, ?hyb6⟩) (by assumption) ?restb6
        case hyb6 =>
          intro w hSw
          (try dsimp only at hSw)
          go_simp
          try with_reducible rfl
        try simp only [Act.put, List.setIfInBounds_toArray, List.set_cons_zero, List.set_cons_succ]
        refine wpAnyH_take (i := 7) (oi := { dst := some 36, op := Op.indexAddr 24 (Operand.tmp 34) (Operand.tmp 35), type := 0, pos := "l08_grant.go:76", after := #[{ on := 5, ground := Ground.data }, { on := 6, ground := Ground.data }, { on := 4, ground := Ground.guard }], guard := some (4, true) }) (v := ?vb7) rfl (by kernel_rfl) (by kernel_rfl) (by kernel_rfl) (fun _ _ _ h => h) (Or.inl ⟨by rfl, ?hyb7⟩) (by assumption) ?restb7
        case hyb7 =>
          intro w hSw
          (try dsimp only at hSw)
          go_simp
          try with_reducible rfl
        try simp only [Act.put, List.setIfInBounds_toArray, List.set_cons_zero, List.set_cons_succ]
        refine wpAnyH_take (i := 8) (oi := { dst := some 37, op := Op.load 62 (Operand.tmp 36), type := 62, pos := "l08_grant.go:76", after := #[{ on := 7, ground := Ground.data }, { on := 4, ground := Ground.guard }], guard := some (4, true) }) (v := ?vb8) rfl (by kernel_rfl) (by kernel_rfl) (by kernel_rfl) (fun _ _ _ h => h) (Or.inl ⟨by rfl, ?hyb8⟩) (by assumption) ?restb8
        case hyb8 =>
          intro w hSw
          (try dsimp only at hSw)
          go_simp
          try with_reducible rfl
        try simp only [Act.put, List.setIfInBounds_toArray, List.set_cons_zero, List.set_cons_succ]
        refine wpAnyH_take (i := 9) (oi := { dst := some 38, op := Op.load 62 (Operand.tmp 10), type := 62, pos := "l08_grant.go:76", after := #[{ on := 4, ground := Ground.guard }], guard := some (4, true) }) (v := ?vb9) rfl (by kernel_rfl) (by kernel_rfl) (by kernel_rfl) (fun _ _ _ h => h) (Or.inl ⟨by rfl, ?hyb9⟩) (by assumption) ?restb9
        case hyb9 =>
          intro w hSw
          (try dsimp only at hSw)
          go_simp
          try with_reducible rfl
        try simp only [Act.put, List.setIfInBounds_toArray, List.set_cons_zero, List.set_cons_succ]
        refine wpAnyH_ready (rs := [10]) (by kernel_rfl) (by simp) ?_
        refine AllReadyH.cons (o := { dst := some 39, op := Op.call { callee := Callee.value (Operand.func 70), args := #[Operand.tmp 37, Operand.tmp 38], argTypes := #[62, 62] }, type := 4, pos := "l08_grant.go:76", after := #[{ on := 8, ground := Ground.data }, { on := 9, ground := Ground.data }, { on := 4, ground := Ground.chain }, { on := 4, ground := Ground.guard }], guard := some (4, true) }) rfl (fun K hK => ?_) AllReadyH.nil
        go_simp
        (go_at_call 70; refine (KL1.out _).mono ?_; rintro e w5 ⟨rfl, hb5⟩; have A5 : Below wr.heap.size wr w5 := (Below.drew (Below.refl _ _)).trans hb5; have d0 : w5.cell? ⟨g, k * 3, none⟩ = some (.string ke) := ((bcell A5).1 _ _ hgr).trans c0; have d1 : w5.cell? ⟨g, k * 3 + 1, none⟩ = some (.string na) := ((bcell A5).1 _ _ hgr).trans c1; have d2 : w5.cell? ⟨g, k * 3 + 2, none⟩ = some (.int .i64 va) := ((bcell A5).1 _ _ hgr).trans c2; have xc0 : w5.cell? ⟨bx, 0, none⟩ = some (.string tp) := ((bcell A5).1 _ _ hxr).trans xr0; have xc1 : w5.cell? ⟨bx, 1, none⟩ = some (.string si) := ((bcell A5).1 _ _ hxr).trans xr1; have xc2 : w5.cell? ⟨bx, 2, none⟩ = some (.int .i64 un) := ((bcell A5).1 _ _ hxr).trans xr2)
        try (go_wp2_with fail)
        refine hK.out _ _ ?_ (fun hH1 => ?_)
        · (try dsimp only)
          first | go_keep | (refine ⟨?_, ?_, ?_, ?_, ?_, ?_⟩ <;> assumption)
        clear hK K hH0
        try simp only [Act.put, List.setIfInBounds_toArray, List.set_cons_zero, List.set_cons_succ]
        refine wpAnyH_take (i := 11) (oi := { dst := some 40, op := Op.pick (Operand.tmp 33) (Operand.tmp 39) (Operand.const (Value.bool false)), type := 4, pos := "l08_grant.go:76", after := #[{ on := 4, ground := Ground.data }, { on := 10, ground := Ground.data }], guard := none }) (v := ?vb11) rfl (by kernel_rfl) (by kernel_rfl) (by kernel_rfl) (fun _ _ _ h => h) (Or.inl ⟨by rfl, ?hyb11⟩) (by assumption) ?restb11
        case hyb11 =>
          intro w hSw
          (try dsimp only at hSw)
          go_simp
          try with_reducible rfl
        try simp only [Act.put, List.setIfInBounds_toArray, List.set_cons_zero, List.set_cons_succ]
        refine wpAnyH_done (by kernel_rfl) ?_ _
        have BC : Hid (Below b w w5) := BR.out.trans (A5.mono (by have := BR.out.size; omega))
        have XC : Hid (BoxG w5 b) := X4.out.below (HB.out.trans (A5.mono HB.out.size))
        have hxc : bx < w5.heap.size := Nat.lt_of_lt_of_le hxr A5.size
        have BW4 : Below W4.heap.size W4 w5 := HB.out.trans (A5.mono HB.out.size)
        have HC1 : Hid (∀ W, Below w5.heap.size w5 W → ∀ j u, (grCells (Y.take k))[j]? = some u → W.cell? ((⟨g, 0, none⟩ : Addr).add j) = some u) := fun W hb => HC1a.out W (BW4.trans (hb.mono BW4.size))
        have HC2 : Hid (∀ W, Below w5.heap.size w5 W → ∀ j u, (grCells (Y.drop k))[j]? = some u → W.cell? ((⟨g, k * 3, none⟩ : Addr).add j) = some u) := fun W hb => HC2a.out W (BW4.trans (hb.mono BW4.size))
        have hbc : b < w5.heap.size := by omega
        clear HC1a HC2a BW4
        clear hb5 BR X4 B4 HB hx0 U0 xr0 xr1 xr2 hxr c0 c1 c2 A5 d0 d1 d2 hgr KL1
        generalize hwc5 : w5 = Wc at *
        clear hwc5
        generalize insG Y ⟨tp, si, un⟩ = M at *
        generalize grCells (Y.take k) = C1 at *
        generalize grCells (Y.drop k) = C2 at *
        generalize hnn : Y.length = n at *
        have O0 : Hid ((Wc.alloc (.cells #[] 62)).ownsRow Wc.heap.size 62 3 (.slice (some ⟨Wc.heap.size, 0, none⟩) 0 0) 0 (grCells [])) := World.ownsRow_made Wc #[] 0 (Nat.le_refl _) (Nat.zero_le _) rfl
        have AA : Hid (Below Wc.heap.size Wc (Wc.alloc (.cells #[] 62))) := (Below.refl _ _).alloc (Nat.le_refl _) _
        have BA : Hid (Below b w (Wc.alloc (.cells #[] 62))) := BC.out.trans (AA.out.mono (by omega))
        have qk0 : (0 : Int) ≤ (k : Nat) := by omega
        have qk1 : ((k : Nat) : Int) ≤ cap := by omega
        have qk2 : ((k : Nat) : Int) ≤ n := by omega
        go_wp2_with (at_builtin; go_must (refine wpList_append_own _ rfl _ _ 24 rfl Wc.heap.size 62 i0 (.agg #[.string ⟨#[]⟩, .string ⟨#[]⟩, .int .i64 0]) 3 40 Try.underlying24 hi hy0 hy1 hy2 rfl (by decide) _ _ _ rfl O0.out ⟨g, 0, none⟩ k _ C1 rfl hl1 (HC1.out _ AA.out) o1 (by unfold maxLen; omega) (by omega) (by simp) ?_))
        intro v1 w6 ho1 hg1 hn1
        have A6 : Hid (Below Wc.heap.size Wc w6) := AA.out.grown hg1 (by simp) (fun j hj => own_base O0.out j hj)
        have O1 : Hid (World.ownsRow w6 Wc.heap.size 62 3 v1 (0 + k) (grCells [] ++ C1)) := by show World.ownsRow _ _ _ _ _ _ _; first | exact ho1 | (rw [Nat.zero_add]; exact ho1)
        have y0 : w6.cell? ⟨bx, 0, none⟩ = some (.string tp) := ((bcell A6.out).1 _ _ hxc).trans xc0
        have y1 : w6.cell? ⟨bx, 1, none⟩ = some (.string si) := ((bcell A6.out).1 _ _ hxc).trans xc1
        have y2 : w6.cell? ⟨bx, 2, none⟩ = some (.int .i64 un) := ((bcell A6.out).1 _ _ hxc).trans xc2
        have z6 : Wc.heap.size ≤ w6.heap.size := A6.out.size
        clear ho1 hg1 hn1 O0 AA BA xc0 xc1 xc2
        go_wp2_with (at_builtin; go_must (refine wpList_append_own _ rfl _ _ 24 rfl Wc.heap.size 62 i0 (.agg #[.string ⟨#[]⟩, .string ⟨#[]⟩, .int .i64 0]) 3 40 Try.underlying24 hi hy0 hy1 hy2 rfl (by decide) _ _ _ rfl (O1.out.alloc _) ⟨w6.heap.size, 0, none⟩ 1 1 (grVals ⟨tp, si, un⟩) rfl rfl (cell_Gr _ ⟨tp, si, un⟩ _) (one_Gr ⟨tp, si, un⟩) (by unfold maxLen; omega) (by omega) (by simp; omega) ?_))
        intro v2 w7 ho2 hg2 hn2
        have A7 : Hid (Below Wc.heap.size Wc w7) := (A6.out.alloc z6 _).grown hg2 (by simp; omega) (fun j hj => own_base O1.out j hj)
        have O2 : Hid (World.ownsRow w7 Wc.heap.size 62 3 v2 _ _) := ho2
        have z7 : Wc.heap.size ≤ w7.heap.size := A7.out.size
        have B7 : Hid (Below b w w7) := BC.out.trans (A7.out.mono (by omega))
        clear ho2 hg2 hn2 O1 A6 y0 y1 y2
        by_cases hcl : k = cap
        · have hz0 : n - k = 0 := by omega
          have hC2 : C2 = [] := List.length_eq_zero_iff.1 (by omega)
          go_wp2_with (at_builtin; go_must (refine wpList_append_own _ rfl _ _ 24 rfl Wc.heap.size 62 i0 (.agg #[.string ⟨#[]⟩, .string ⟨#[]⟩, .int .i64 0]) 3 40 Try.underlying24 hi hy0 hy1 hy2 rfl (by decide) _ _ _ rfl O2.out ⟨g, 0, none⟩ 0 0 [] rfl rfl (by intro j u h; cases h) (by intro v h; cases h) (by unfold maxLen; omega) (by omega) z7 ?_))
          intro v3 w8 ho3 hg3 hn3
          have S8 : Hid (SliceG w8 Wc.heap.size v3 M) := HOP.out _ _ _ (by have h := ho3; rw [hz0, hC2]; simpa [grCells, List.append_assoc, hcl] using h)
          have A8 : Hid (Below Wc.heap.size Wc w8) := A7.out.grown hg3 z7 (fun j hj => own_base O2.out j hj)
          have X8 : Hid (BoxG w8 b) := XC.out.below A8.out
          have B8 : Hid (Below b w w8) := BC.out.trans (A8.out.mono (by omega))
          obtain ⟨pq, cq, hv3⟩ : ∃ pq cq, v3 = .slice pq M.length cq := by obtain ⟨⟨p, c, e, -⟩, -⟩ := S8.out; exact ⟨p, c, e⟩
          clear ho3 hg3 hn3 O2 A7 A8 HOP hl1 hl2 hz0 hcl
          generalize hm : M.length = m at *
          subst hv3
          obtain ⟨x0, x1, x2, f0, f1, f2, hltx⟩ := X8.out
          go_wp2
          refine bodyPost_ret (v := .agg #[.slice pq m cq, .bool false, .int .i64 0]) (by simp [results, Try.results52, go_sem, x0, x1, x2]) rfl ⟨_, rfl, ⟨_, by rw [HR.out], by rw [HR.out, hbb]; exact (S8.out.store3 hbc).mono (by omega)⟩, by rw [hbb]; exact store3G_below B8.out⟩
        · have k4 : ¬ (k = cap) := hcl
          go_wp2_with (at_builtin; go_must (refine wpList_append_own _ rfl _ _ 24 rfl Wc.heap.size 62 i0 (.agg #[.string ⟨#[]⟩, .string ⟨#[]⟩, .int .i64 0]) 3 40 Try.underlying24 hi hy0 hy1 hy2 rfl (by decide) _ _ _ rfl O2.out ⟨g, k * 3, none⟩ (n - k) (cap - k) C2 rfl hl2 (HC2.out _ A7.out) o2 (by unfold maxLen; omega) (by omega) z7 ?_))
          intro v3 w8 ho3 hg3 hn3
          have S8 : Hid (SliceG w8 Wc.heap.size v3 M) := HOP.out _ _ _ (by have h := ho3; simpa [grCells, List.append_assoc] using h)
          have A8 : Hid (Below Wc.heap.size Wc w8) := A7.out.grown hg3 z7 (fun j hj => own_base O2.out j hj)
          have X8 : Hid (BoxG w8 b) := XC.out.below A8.out
          have B8 : Hid (Below b w w8) := BC.out.trans (A8.out.mono (by omega))
          obtain ⟨pq, cq, hv3⟩ : ∃ pq cq, v3 = .slice pq M.length cq := by obtain ⟨⟨p, c, e, -⟩, -⟩ := S8.out; exact ⟨p, c, e⟩
          clear ho3 hg3 hn3 O2 A7 A8 HOP hl1 hl2 k4 hcl
          generalize hm : M.length = m at *
          subst hv3
          obtain ⟨x0, x1, x2, f0, f1, f2, hltx⟩ := X8.out
          go_wp2
          refine bodyPost_ret (v := .agg #[.slice pq m cq, .bool false, .int .i64 0]) (by simp [results, Try.results52, go_sem, x0, x1, x2]) rfl ⟨_, rfl, ⟨_, by rw [HR.out], by rw [HR.out, hbb]; exact (S8.out.store3 hbc).mono (by omega)⟩, by rw [hbb]; exact store3G_below B8.out⟩
    · obtain rfl : k = Y.length := by omega
      have q1 : decide ((Y.length : Int) < (Y.length : Int)) = false := by rw [decide_eq_false_iff_not]; omega
      have hE := HCk (fun h => absurd h hlt)
      have HOP : Hid (∀ (W : World) (B : Nat) (v : Value), W.ownsRow B 62 3 v (Y.length + 1 + (Y.length - Y.length)) (grCells (Y.take Y.length) ++ (grVals ⟨tp, si, un⟩ ++ grCells (Y.drop Y.length))) → SliceG W B v (insG Y ⟨tp, si, un⟩)) := fun W B v h => HOPk W B v hk h hE
      clear HOPk HCk hE HCut KL hcW HM hlt
      have BC : Hid (Below b w wr.drew) := BR.out.drew
      have XC : Hid (BoxG wr.drew b) := X4.out.below HB.out.drew
      have xc0 : wr.drew.cell? ⟨bx, 0, none⟩ = some (.string tp) := xr0
      have xc1 : wr.drew.cell? ⟨bx, 1, none⟩ = some (.string si) := xr1
      have xc2 : wr.drew.cell? ⟨bx, 2, none⟩ = some (.int .i64 un) := xr2
      have hxc : bx < wr.drew.heap.size := hxr
      have BW4 : Below W4.heap.size W4 wr.drew := HB.out.drew
      have HC1 : Hid (∀ W, Below wr.drew.heap.size wr.drew W → ∀ j u, (grCells (Y.take Y.length))[j]? = some u → W.cell? ((⟨g, 0, none⟩ : Addr).add j) = some u) := fun W hb => HC1a.out W (BW4.trans (hb.mono BW4.size))
      have HC2 : Hid (∀ W, Below wr.drew.heap.size wr.drew W → ∀ j u, (grCells (Y.drop Y.length))[j]? = some u → W.cell? ((⟨g, Y.length * 3, none⟩ : Addr).add j) = some u) := fun W hb => HC2a.out W (BW4.trans (hb.mono BW4.size))
      have hbc : b < wr.drew.heap.size := by omega
      clear HC1a HC2a BW4
      go_upto_region 6 with fail
      refine wp_region_held_drew (S := (fun w' => w'.cell? ⟨bx, 0, none⟩ = some (.string tp))) (by kernel_rfl) ?_ (fun hH0 => ?_)
      · (try dsimp only)
        go_keep
      refine wpAnyH_take (i := 0) (oi := { dst := some 29, op := Op.move (Operand.tmp 11), type := 3, pos := "l08_grant.go:76", after := #[], guard := none }) (v := ?vc0) rfl (by kernel_rfl) (by kernel_rfl) (by kernel_rfl) (fun _ _ _ h => h) (Or.inl ⟨by rfl, ?hyc0⟩) (by assumption) ?restc0
      case hyc0 =>
        intro w hSw
        (try dsimp only at hSw)
        go_simp
        try with_reducible rfl
      try simp only [Act.put, List.setIfInBounds_toArray, List.set_cons_zero, List.set_cons_succ]
      refine wpAnyH_take (i := 1) (oi := { dst := some 30, op := Op.move (Operand.tmp 9), type := 24, pos := "l08_grant.go:76", after := #[], guard := none }) (v := ?vc1) rfl (by kernel_rfl) (by kernel_rfl) (by kernel_rfl) (fun _ _ _ h => h) (Or.inl ⟨by rfl, ?hyc1⟩) (by assumption) ?restc1
      case hyc1 =>
        intro w hSw
        (try dsimp only at hSw)
        go_simp
        try with_reducible rfl
      try simp only [Act.put, List.setIfInBounds_toArray, List.set_cons_zero, List.set_cons_succ]
      refine wpAnyH_take (i := 2) (oi := { dst := some 31, op := Op.call { callee := Callee.builtin Builtin.len, args := #[Operand.tmp 30], argTypes := #[24] }, type := 3, pos := "l08_grant.go:76", after := #[{ on := 1, ground := Ground.data }], guard := none }) (v := ?vc2) rfl (by kernel_rfl) (by kernel_rfl) (by kernel_rfl) (fun _ _ _ h => h) (Or.inl ⟨by rfl, ?hyc2⟩) (by assumption) ?restc2
      case hyc2 =>
        intro w hSw
        (try dsimp only at hSw)
        go_simp
        try with_reducible rfl
      try simp only [Act.put, List.setIfInBounds_toArray, List.set_cons_zero, List.set_cons_succ]
      refine wpAnyH_take (i := 3) (oi := { dst := some 32, op := Op.binOp BinOp.lss 3 (Operand.tmp 29) (Operand.tmp 31) 3, type := 4, pos := "l08_grant.go:76", after := #[{ on := 0, ground := Ground.data }, { on := 2, ground := Ground.data }], guard := none }) (v := ?vc3) rfl (by kernel_rfl) (by kernel_rfl) (by kernel_rfl) (fun _ _ _ h => h) (Or.inl ⟨by rfl, ?hyc3⟩) (by assumption) ?restc3
      case hyc3 =>
        intro w hSw
        (try dsimp only at hSw)
        go_simp
        try with_reducible rfl
      try simp only [Act.put, List.setIfInBounds_toArray, List.set_cons_zero, List.set_cons_succ]
      refine wpAnyH_take (i := 4) (oi := { dst := some 33, op := Op.move (Operand.tmp 32), type := 4, pos := "l08_grant.go:76", after := #[{ on := 3, ground := Ground.data }], guard := none }) (v := ?vc4) rfl (by kernel_rfl) (by kernel_rfl) (by kernel_rfl) (fun _ _ _ h => h) (Or.inl ⟨by rfl, ?hyc4⟩) (by assumption) ?restc4
      case hyc4 =>
        intro w hSw
        (try dsimp only at hSw)
        go_simp
        try with_reducible rfl
      try simp only [Act.put, List.setIfInBounds_toArray, List.set_cons_zero, List.set_cons_succ]
      refine wpAnyH_take (i := 5) (oi := { dst := some 34, op := Op.move (Operand.tmp 9), type := 24, pos := "l08_grant.go:76", after := #[{ on := 4, ground := Ground.guard }], guard := some (4, true) }) (v := undef) rfl (by kernel_rfl) (by kernel_rfl) (by kernel_rfl) (fun _ _ _ h => h) (Or.inr ⟨by rfl, rfl⟩) (by assumption) ?_
      try simp only [Act.put, List.setIfInBounds_toArray, List.set_cons_zero, List.set_cons_succ]
      refine wpAnyH_take (i := 6) (oi := { dst := some 35, op := Op.move (Operand.tmp 11), type := 3, pos := "l08_grant.go:76", after := #[{ on := 4, ground := Ground.guard }], guard := some (4, true) }) (v := undef) rfl (by kernel_rfl) (by kernel_rfl) (by kernel_rfl) (fun _ _ _ h => h) (Or.inr ⟨by rfl, rfl⟩) (by assumption) ?_
      try simp only [Act.put, List.setIfInBounds_toArray, List.set_cons_zero, List.set_cons_succ]
      refine wpAnyH_take (i := 7) (oi := { dst := some 36, op := Op.indexAddr 24 (Operand.tmp 34) (Operand.tmp 35), type := 0, pos := "l08_grant.go:76", after := #[{ on := 5, ground := Ground.data }, { on := 6, ground := Ground.data }, { on := 4, ground := Ground.guard }], guard := some (4, true) }) (v := undef) rfl (by kernel_rfl) (by kernel_rfl) (by kernel_rfl) (fun _ _ _ h => h) (Or.inr ⟨by rfl, rfl⟩) (by assumption) ?_
      try simp only [Act.put, List.setIfInBounds_toArray, List.set_cons_zero, List.set_cons_succ]
      refine wpAnyH_take (i := 8) (oi := { dst := some 37, op := Op.load 62 (Operand.tmp 36), type := 62, pos := "l08_grant.go:76", after := #[{ on := 7, ground := Ground.data }, { on := 4, ground := Ground.guard }], guard := some (4, true) }) (v := undef) rfl (by kernel_rfl) (by kernel_rfl) (by kernel_rfl) (fun _ _ _ h => h) (Or.inr ⟨by rfl, rfl⟩) (by assumption) ?_
      try simp only [Act.put, List.setIfInBounds_toArray, List.set_cons_zero, List.set_cons_succ]
      refine wpAnyH_take (i := 9) (oi := { dst := some 38, op := Op.load 62 (Operand.tmp 10), type := 62, pos := "l08_grant.go:76", after := #[{ on := 4, ground := Ground.guard }], guard := some (4, true) }) (v := undef) rfl (by kernel_rfl) (by kernel_rfl) (by kernel_rfl) (fun _ _ _ h => h) (Or.inr ⟨by rfl, rfl⟩) (by assumption) ?_
      try simp only [Act.put, List.setIfInBounds_toArray, List.set_cons_zero, List.set_cons_succ]
      refine wpAnyH_take (i := 10) (oi := { dst := some 39, op := Op.call { callee := Callee.value (Operand.func 70), args := #[Operand.tmp 37, Operand.tmp 38], argTypes := #[62, 62] }, type := 4, pos := "l08_grant.go:76", after := #[{ on := 8, ground := Ground.data }, { on := 9, ground := Ground.data }, { on := 4, ground := Ground.chain }, { on := 4, ground := Ground.guard }], guard := some (4, true) }) (v := undef) rfl (by kernel_rfl) (by kernel_rfl) (by kernel_rfl) (fun _ _ _ h => h) (Or.inr ⟨by rfl, rfl⟩) (by assumption) ?_
      try simp only [Act.put, List.setIfInBounds_toArray, List.set_cons_zero, List.set_cons_succ]
      refine wpAnyH_take (i := 11) (oi := { dst := some 40, op := Op.pick (Operand.tmp 33) (Operand.tmp 39) (Operand.const (Value.bool false)), type := 4, pos := "l08_grant.go:76", after := #[{ on := 4, ground := Ground.data }, { on := 10, ground := Ground.data }], guard := none }) (v := ?vc11) rfl (by kernel_rfl) (by kernel_rfl) (by kernel_rfl) (fun _ _ _ h => h) (Or.inl ⟨by rfl, ?hyc11⟩) (by assumption) ?restc11
      case hyc11 =>
        intro w hSw
        (try dsimp only at hSw)
        go_simp
        try with_reducible rfl
      try simp only [Act.put, List.setIfInBounds_toArray, List.set_cons_zero, List.set_cons_succ]
      refine wpAnyH_done (by kernel_rfl) ?_ _
      clear BR X4 B4 HB hx0 U0 xr0 xr1 xr2 hxr
      generalize hwc5 : wr.drew = Wc at *
      clear hwc5
      generalize insG Y ⟨tp, si, un⟩ = M at *
      generalize grCells (Y.take Y.length) = C1 at *
      generalize grCells (Y.drop Y.length) = C2 at *
      generalize hnn : Y.length = n at *
      have O0 : Hid ((Wc.alloc (.cells #[] 62)).ownsRow Wc.heap.size 62 3 (.slice (some ⟨Wc.heap.size, 0, none⟩) 0 0) 0 (grCells [])) := World.ownsRow_made Wc #[] 0 (Nat.le_refl _) (Nat.zero_le _) rfl
      have AA : Hid (Below Wc.heap.size Wc (Wc.alloc (.cells #[] 62))) := (Below.refl _ _).alloc (Nat.le_refl _) _
      have BA : Hid (Below b w (Wc.alloc (.cells #[] 62))) := BC.out.trans (AA.out.mono (by omega))
      have qk0 : (0 : Int) ≤ (n : Nat) := by omega
      have qk1 : ((n : Nat) : Int) ≤ cap := by omega
      have qk2 : ((n : Nat) : Int) ≤ n := by omega
      go_wp2_with (at_builtin; go_must (refine wpList_append_own _ rfl _ _ 24 rfl Wc.heap.size 62 i0 (.agg #[.string ⟨#[]⟩, .string ⟨#[]⟩, .int .i64 0]) 3 40 Try.underlying24 hi hy0 hy1 hy2 rfl (by decide) _ _ _ rfl O0.out ⟨g, 0, none⟩ n _ C1 rfl hl1 (HC1.out _ AA.out) o1 (by unfold maxLen; omega) (by omega) (by simp) ?_))
      intro v1 w6 ho1 hg1 hn1
      have A6 : Hid (Below Wc.heap.size Wc w6) := AA.out.grown hg1 (by simp) (fun j hj => own_base O0.out j hj)
      have O1 : Hid (World.ownsRow w6 Wc.heap.size 62 3 v1 (0 + n) (grCells [] ++ C1)) := by show World.ownsRow _ _ _ _ _ _ _; first | exact ho1 | (rw [Nat.zero_add]; exact ho1)
      have y0 : w6.cell? ⟨bx, 0, none⟩ = some (.string tp) := ((bcell A6.out).1 _ _ hxc).trans xc0
      have y1 : w6.cell? ⟨bx, 1, none⟩ = some (.string si) := ((bcell A6.out).1 _ _ hxc).trans xc1
      have y2 : w6.cell? ⟨bx, 2, none⟩ = some (.int .i64 un) := ((bcell A6.out).1 _ _ hxc).trans xc2
      have z6 : Wc.heap.size ≤ w6.heap.size := A6.out.size
      clear ho1 hg1 hn1 O0 AA BA xc0 xc1 xc2
      go_wp2_with (at_builtin; go_must (refine wpList_append_own _ rfl _ _ 24 rfl Wc.heap.size 62 i0 (.agg #[.string ⟨#[]⟩, .string ⟨#[]⟩, .int .i64 0]) 3 40 Try.underlying24 hi hy0 hy1 hy2 rfl (by decide) _ _ _ rfl (O1.out.alloc _) ⟨w6.heap.size, 0, none⟩ 1 1 (grVals ⟨tp, si, un⟩) rfl rfl (cell_Gr _ ⟨tp, si, un⟩ _) (one_Gr ⟨tp, si, un⟩) (by unfold maxLen; omega) (by omega) (by simp; omega) ?_))
      intro v2 w7 ho2 hg2 hn2
      have A7 : Hid (Below Wc.heap.size Wc w7) := (A6.out.alloc z6 _).grown hg2 (by simp; omega) (fun j hj => own_base O1.out j hj)
      have O2 : Hid (World.ownsRow w7 Wc.heap.size 62 3 v2 _ _) := ho2
      have z7 : Wc.heap.size ≤ w7.heap.size := A7.out.size
      have B7 : Hid (Below b w w7) := BC.out.trans (A7.out.mono (by omega))
      clear ho2 hg2 hn2 O1 A6 y0 y1 y2
      by_cases hcl : n = cap
      · have hz0 : n - n = 0 := by omega
        have hC2 : C2 = [] := List.length_eq_zero_iff.1 (by omega)
        go_wp2_with (at_builtin; go_must (refine wpList_append_own _ rfl _ _ 24 rfl Wc.heap.size 62 i0 (.agg #[.string ⟨#[]⟩, .string ⟨#[]⟩, .int .i64 0]) 3 40 Try.underlying24 hi hy0 hy1 hy2 rfl (by decide) _ _ _ rfl O2.out ⟨g, 0, none⟩ 0 0 [] rfl rfl (by intro j u h; cases h) (by intro v h; cases h) (by unfold maxLen; omega) (by omega) z7 ?_))
        intro v3 w8 ho3 hg3 hn3
        have S8 : Hid (SliceG w8 Wc.heap.size v3 M) := HOP.out _ _ _ (by have h := ho3; rw [hz0, hC2]; simpa [grCells, List.append_assoc, hcl] using h)
        have A8 : Hid (Below Wc.heap.size Wc w8) := A7.out.grown hg3 z7 (fun j hj => own_base O2.out j hj)
        have X8 : Hid (BoxG w8 b) := XC.out.below A8.out
        have B8 : Hid (Below b w w8) := BC.out.trans (A8.out.mono (by omega))
        obtain ⟨pq, cq, hv3⟩ : ∃ pq cq, v3 = .slice pq M.length cq := by obtain ⟨⟨p, c, e, -⟩, -⟩ := S8.out; exact ⟨p, c, e⟩
        clear ho3 hg3 hn3 O2 A7 A8 HOP hl1 hl2 hz0 hcl
        generalize hm : M.length = m at *
        subst hv3
        obtain ⟨x0, x1, x2, f0, f1, f2, hltx⟩ := X8.out
        go_wp2
        refine bodyPost_ret (v := .agg #[.slice pq m cq, .bool false, .int .i64 0]) (by simp [results, Try.results52, go_sem, x0, x1, x2]) rfl ⟨_, rfl, ⟨_, by rw [HR.out], by rw [HR.out, hbb]; exact (S8.out.store3 hbc).mono (by omega)⟩, by rw [hbb]; exact store3G_below B8.out⟩
      · have k4 : ¬ (n = cap) := hcl
        go_wp2_with (at_builtin; go_must (refine wpList_append_own _ rfl _ _ 24 rfl Wc.heap.size 62 i0 (.agg #[.string ⟨#[]⟩, .string ⟨#[]⟩, .int .i64 0]) 3 40 Try.underlying24 hi hy0 hy1 hy2 rfl (by decide) _ _ _ rfl O2.out ⟨g, n * 3, none⟩ 0 (cap - n) C2 rfl (by rw [hl2, Nat.sub_self]) (HC2.out _ A7.out) o2 (by unfold maxLen; omega) (by omega) z7 ?_))
        intro v3 w8 ho3 hg3 hn3
        have S8 : Hid (SliceG w8 Wc.heap.size v3 M) := HOP.out _ _ _ (by have h := ho3; simpa [grCells, List.append_assoc] using h)
        have A8 : Hid (Below Wc.heap.size Wc w8) := A7.out.grown hg3 z7 (fun j hj => own_base O2.out j hj)
        have X8 : Hid (BoxG w8 b) := XC.out.below A8.out
        have B8 : Hid (Below b w w8) := BC.out.trans (A8.out.mono (by omega))
        obtain ⟨pq, cq, hv3⟩ : ∃ pq cq, v3 = .slice pq M.length cq := by obtain ⟨⟨p, c, e, -⟩, -⟩ := S8.out; exact ⟨p, c, e⟩
        clear ho3 hg3 hn3 O2 A7 A8 HOP hl1 hl2 k4 hcl
        generalize hm : M.length = m at *
        subst hv3
        obtain ⟨x0, x1, x2, f0, f1, f2, hltx⟩ := X8.out
        go_wp2
        refine bodyPost_ret (v := .agg #[.slice pq m cq, .bool false, .int .i64 0]) (by simp [results, Try.results52, go_sem, x0, x1, x2]) rfl ⟨_, rfl, ⟨_, by rw [HR.out], by rw [HR.out, hbb]; exact (S8.out.store3 hbc).mono (by omega)⟩, by rw [hbb]; exact store3G_below B8.out⟩
set_option maxRecDepth 10000 in
set_option maxHeartbeats 4000000 in
theorem specGrantPut_any (v : Value) (L : List Gr) (tp si : ByteArray) (now : Int) (B : Nat) (w : World) (hs : SliceG w B v L) (hn : L.length ≤ 1048576) (h1 : tp.size ≤ 1048576) (h2 : si.size ≤ 1048576) :
    Calls Try.prog 17 #[v, .string tp, .string si, .int .i64 now] w fun e w' => ∃ v', e = .returned v' ∧ AnsG w' w.heap.size v' (putG L tp si now) ∧ Below w.heap.size w w' := by
  have KB : Hid (∀ W, Below w.heap.size w W → Calls Try.prog 48 #[v, .string tp, .string si, .int .i64 now] W fun e w' => e = .returned (.int .i64 (beginG L tp si now)) ∧ Below W.heap.size W w') := fun W hb => specBegin8_any v L tp si now B W (hs.below hb) hn h1 h2
  have KP : Hid (beginG L tp si now = 0 → ∀ W, Below w.heap.size w W → Calls Try.prog 52 #[v, .string tp, .string si, .int .i64 now] W fun e w' => ∃ v', e = .returned v' ∧ AnsG w' W.heap.size v' (putR L tp si now) ∧ Below W.heap.size W w') := fun h W hb => by
    have hm := mayG_parts (beginG_ok h)
    have t := hm.2.2.2
    unfold timeG at t
    simp only [Bool.and_eq_true, decide_eq_true_eq] at t
    exact specPutR_any v L tp si now B W (hs.below hb) hm.1 t
  have HNo : Hid (¬ beginG L tp si now = 0 → putG L tp si now = noG (beginG L tp si now)) := fun h => by unfold putG; rw [if_neg h]
  have HY : Hid (beginG L tp si now = 0 → putG L tp si now = putR L tp si now) := fun h => by unfold putG; rw [if_pos h]
  clear hs
  generalize putG L tp si now = Z at *
  generalize putR L tp si now = Y at *
  generalize beginG L tp si now = c at *
  obtain ⟨W0, hW⟩ : ∃ W0, W0 = w.alloc (.cells #[.slice none 0 0, .bool false, .int .i64 0] 33) := ⟨_, rfl⟩
  have hW0 : Hid (W0 = w.alloc (.cells #[.slice none 0 0, .bool false, .int .i64 0] 33)) := hW
  have B0 : Hid (Below w.heap.size w W0) := by show Below _ _ _; rw [hW]; exact (Below.refl _ _).alloc (Nat.le_refl _) _
  have X0 : Hid (BoxG W0 w.heap.size) := by show BoxG _ _; rw [hW]; exact boxG_made w _
  have z0 : w.heap.size < W0.heap.size := by rw [hW]; simp
  clear hW
  go_enter Try.func17, Try.ntmps17
  go_upto_region 1 with fail
  rw [← hW0.out]
  clear hW0
  generalize hbb : w.heap.size = b at *
  go_wp2_with fail
  refine (KB.out _ B0.out).mono ?_
  rintro e w1 ⟨rfl, hb1⟩
  have X1 : Hid (BoxG w1 b) := X0.out.below hb1
  have B1 : Hid (Below b w w1) := B0.out.trans (hb1.mono (by omega))
  have z1 : b < w1.heap.size := Nat.lt_of_lt_of_le z0 hb1.size
  clear hb1 X0 B0
  by_cases hc : c = 0
  case neg =>
    have HR : Hid (Z = noG c) := HNo.out hc
    have q : (c != 0) = true := by rw [bne_iff_ne]; exact hc
    obtain ⟨x0, x1, x2, f0, f1, f2, hlt⟩ := X1.out
    clear hc KP HY HNo
    go_wp2
    refine bodyPost_ret (v := .agg #[.slice none 0 0, .bool false, .int .i64 c]) (by simp [results, Try.results17, go_sem, x0, x1, x2]) rfl ⟨_, rfl, ⟨_, by rw [HR.out]; rfl, by rw [HR.out]; exact sliceG_none _ _⟩, by rw [hbb]; exact store3G_below B1.out⟩
  subst hc
  have HR : Hid (Z = Y) := HY.out rfl
  have KP2 := KP.out rfl
  have KP3 : Hid (∀ W, Below b w W → Calls Try.prog 52 #[v, .string tp, .string si, .int .i64 now] W fun e w' => ∃ v', e = .returned v' ∧ AnsG w' W.heap.size v' Y ∧ Below W.heap.size W w') := KP2
  clear KP KP2 HNo HY
  go_wp2_with fail
  refine (KP3.out _ B1.out).mono ?_
  rintro e w2 ⟨v2, rfl, ⟨s2, rfl, hs2⟩, hb2⟩
  have S2 : Hid (SliceG w2 w1.heap.size s2 Y.ar) := hs2
  have B2 : Hid (Below b w w2) := B1.out.trans (hb2.mono (by omega))
  obtain ⟨x0, x1, x2, f0, f1, f2, hlt⟩ := X1.out.below hb2
  obtain ⟨pq, cq, hv2⟩ : ∃ pq cq, s2 = .slice pq Y.ar.length cq := by obtain ⟨⟨p, c, e, -⟩, -⟩ := hs2; exact ⟨p, c, e⟩
  clear hs2 hb2 X1 B1
  obtain ⟨ya, yu, yc⟩ := Y
  dsimp only at *
  generalize hm : ya.length = m at *
  subst hv2
  go_wp2
  refine bodyPost_ret (v := .agg #[.slice pq m cq, .bool yu, .int .i64 yc]) (by simp [results, Try.results17, go_sem, x0, x1, x2]) rfl ⟨_, rfl, ⟨_, by rw [HR.out], by rw [HR.out, hbb]; exact (S2.out.store3 z1).mono (by omega)⟩, by rw [hbb]; exact store3G_below B2.out⟩
end Go.Proofs.Ytehnklgpdjfcgaa
